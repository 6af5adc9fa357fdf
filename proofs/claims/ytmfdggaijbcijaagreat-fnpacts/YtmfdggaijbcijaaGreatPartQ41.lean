/- Texts of mine put together (a claim holds at most 60 files): VsPlain, PfSpec. -/
import Derived.Test.YtmfdggaijbcijaaGreatPartQ34
import Derived.Test.YtmfdggaijbcijaaGreatPartQ40
import Derived.Test.YtmfdggaijbcijaaGreatPartQ28
import Derived.Test.YtmfdggaijbcijaaGreatPartQ24
import Derived.Test.YtmfdggaijbcijaaGreatPartQ25

/- VsPlain -/
/- The model's copied world in memory: what stores into it leave. No condition. -/
section
namespace Go.Proofs.YtmfdggaijbcijaaGreat
open Go.ChangeShapes Go.WideShapes Go.ChangeAt Go.RowKit
open Bd
set_option linter.unusedVariables false

/- a copied world in memory -/
structure VS (w : World) (base g : Nat) (p : WP) (x : KW) : Prop where
  b : Blk w g (p.v x) 32
  o : OwW w base p x
  bg : base ≤ g
theorem VS.later {w w' : World} {base g : Nat} {p : WP} {x : KW} (h : VS w base g p x) (hb : Below w.heap.size w w') : VS w' base g p x := ⟨h.b.below hb, h.o.later hb, h.bg⟩
theorem VS.drew {w : World} {base g : Nat} {p : WP} {x : KW} (h : VS w base g p x) : VS w.drew base g p x := h.later (Below.refl _ _).drew
theorem VS.setA {w : World} {base g ga : Nat} {p : WP} {x : KW} (h : VS w base g p x) (hp : p.a = some ⟨ga, 0, none⟩) (i : Nat) (v : Value) (fa' : List KA) (hi : i < x.fa.length * 3) (hc : (flatA x.fa).set i v = flatA fa') : VS (w.setCell ⟨ga, i, none⟩ v) base g p ⟨x.t, x.s, x.us, x.fs, fa', x.se, x.oo⟩ := by
  have hl : fa'.length = x.fa.length := by
    have h1 := congrArg List.length hc
    rw [List.length_set, flatA_len, flatA_len] at h1
    omega
  have hA := h.o.a
  rw [hp] at hA
  obtain ⟨csA, hbA⟩ := hA.blk (q := ga) rfl
  have hne : g ≠ ga := bk_ne h.b hbA (by decide)
  refine ⟨?_, ⟨h.o.u.setB hbA (by decide) v, h.o.f.setB hbA (by decide) v, ?_, h.o.s.setB hbA (by decide) v, h.o.o.setB hbA (by decide) v⟩, h.bg⟩
  · have := h.b.setOther (a := ⟨ga, i, none⟩) hne v
    show Blk _ g #[.int .i64 x.t, .int .i64 x.s, .slice p.u x.us.length p.uc, .slice p.f x.fs.length p.fc, .slice p.a fa'.length p.ac, .slice p.s x.se.length p.sc, .slice p.o x.oo.length p.oc] _
    rw [hl]
    exact this
  · show SlA _ _ (.slice p.a fa'.length p.ac) fa'
    rw [hl, hp]
    exact hA.setCell i v hi hc
theorem VS.setO {w : World} {base g : Nat} {p : WP} {x : KW} (h : VS w base g p x) {q : Option Addr} {c : Nat} {l' : List K2} (hs : SlO w base (.slice q l'.length c) l') :
    VS (w.setCell ⟨g, 6, none⟩ (.slice q l'.length c)) base g ⟨p.u, p.uc, p.f, p.fc, p.a, p.ac, p.s, p.sc, q, c⟩ ⟨x.t, x.s, x.us, x.fs, x.fa, x.se, l'⟩ :=
  ⟨h.b.set 6 (.slice q l'.length c), ⟨h.o.u.setB h.b (by decide) _, h.o.f.setB h.b (by decide) _, h.o.a.setB h.b (by decide) _, h.o.s.setB h.b (by decide) _, hs.setB h.b (by decide) _⟩, h.bg⟩
end Go.Proofs.YtmfdggaijbcijaaGreat
end

/- PfSpec -/
/- The contracts of the model's faults of two sides. Condition: the world lies in memory, its lists as they were laid there. -/
section
namespace Go.Proofs.YtmfdggaijbcijaaGreat
open Go.ChangeShapes Go.WideShapes Go.ChangeAt Go.RowKit
open Bd
set_option linter.unusedVariables false

theorem l7Bad_c (c : Int) (w : World) : Calls Tryz.prog 47 #[.int .i64 c] w fun e w' => e = .returned (.agg (r8 c wpz kz)) ∧ Below w.heap.size w w' := by
  have R := Blk.new w z8 36
  obtain ⟨W, HW⟩ : ∃ W, Hid (W = w.alloc (.cells z8 36)) := ⟨_, rfl⟩
  have B1 : Below w.heap.size w W := by rw [HW.out]; exact (Below.refl _ _).alloc (Nat.le_refl _) _
  rw [← HW.out] at R
  obtain ⟨r0, r1, r2, r3, r4, r5, r6, r7, y0, y1, y2, y3, y4, y5, y6, y7, rl⟩ := R.z8
  have F : Blk _ w.heap.size (r8 c wpz kz) 36 := set8_blk R (.int .i64 c) (.int .i64 0) (.int .i64 0) (.slice none 0 0) (.slice none 0 0) (.slice none 0 0) (.slice none 0 0) (.slice none 0 0)
  have B2 := set8_below B1 (Nat.le_refl _) (.int .i64 c) (.int .i64 0) (.int .i64 0) (.slice none 0 0) (.slice none 0 0) (.slice none 0 0) (.slice none 0 0) (.slice none 0 0)
  go_enter Tryz.func47, Tryz.ntmps47
  go_upto_region 1 with fail
  rw [← HW.out]
  go_wp2_with fail
  exact bodyPost_ret (v := .agg (r8 c wpz kz)) (result8 Tryz.results47 F _ rfl) rfl ⟨rfl, B2⟩
set_option maxRecDepth 20000 in
set_option maxHeartbeats 8000000 in
theorem l7Sides_c (g : Nat) (t s : Int) (u : Option Addr) (mu uc : Nat) (f : Option Addr) (mf fc : Nat) (a : Option Addr) (ma ac : Nat) (q : Option Addr) (ms qc : Nat) (r : Option Addr) (mo rc : Nat) (fa : List KA) (h4 : fa.length = ma) (hm : ma = 4) (w : World) (hP : At7 w g t s (.slice u mu uc) (.slice f mf fc) (.slice a ma ac) (.slice q ms qc) (.slice r mo rc)) (hA : ArgA w a fa) (i j : Int) :
    Calls Tryz.prog 83 #[.pointer (some ⟨g, 0, none⟩), .int .i64 i, .int .i64 j] w fun e w' => e = .returned (.int .i64 (sdF fa i j)) ∧ w' = w := by
  subst hm
  have q0 := fun w => l6Side_s i w
  have q1 := fun w => l6Side_s j w
  obtain ⟨p0, p1, p2, p3, p4, p5, p6, pl⟩ := hP
  have H4 : Hid (fa.length = 4) := h4
  have HE : Hid (sdF fa i j = sdF fa i j) := rfl
  obtain ⟨R, HR0⟩ : ∃ R, Hid (R = sdF fa i j) := ⟨_, rfl⟩
  rw [← HR0.out]
  clear HE h4
  cases e0 : inb i 0 3
  · rw [e0] at q0
    have HR : Hid (R = 3) := by show _ = _; rw [HR0.out]; unfold sdF; rw [e0]; rfl
    go_enter Tryz.func83, Tryz.ntmps83
    go_wp2_with (first | (go_at_call 43; with_reducible refine (q0 _).mono ?_; rintro e w1 ⟨rfl, hw1⟩; obtain rfl := hw1.symm) | (go_at_call 43; with_reducible refine (q1 _).mono ?_; rintro e w1 ⟨rfl, hw1⟩; obtain rfl := hw1.symm))
    go_ret
    exact ⟨by rw [HR.out] <;> rfl, rfl⟩
  cases e1 : inb j 0 3
  · rw [e0] at q0
    rw [e1] at q1
    have HR : Hid (R = 3) := by show _ = _; rw [HR0.out]; unfold sdF; rw [e0, e1]; rfl
    go_enter Tryz.func83, Tryz.ntmps83
    go_wp2_with (first | (go_at_call 43; with_reducible refine (q0 _).mono ?_; rintro e w1 ⟨rfl, hw1⟩; obtain rfl := hw1.symm) | (go_at_call 43; with_reducible refine (q1 _).mono ?_; rintro e w1 ⟨rfl, hw1⟩; obtain rfl := hw1.symm))
    go_ret
    exact ⟨by rw [HR.out] <;> rfl, rfl⟩
  rw [e0] at q0
  rw [e1] at q1
  cases e3 : i == j
  case true =>
    have HR : Hid (R = 1) := by show _ = _; rw [HR0.out]; unfold sdF; rw [e0, e1, e3]; rfl
    go_enter Tryz.func83, Tryz.ntmps83
    go_wp2_with (first | (go_at_call 43; with_reducible refine (q0 _).mono ?_; rintro e w1 ⟨rfl, hw1⟩; obtain rfl := hw1.symm) | (go_at_call 43; with_reducible refine (q1 _).mono ?_; rintro e w1 ⟨rfl, hw1⟩; obtain rfl := hw1.symm))
    go_ret
    exact ⟨by rw [HR.out] <;> rfl, rfl⟩
  case false =>
    obtain ⟨i0, i1⟩ := inb_i e0
    obtain ⟨j0, j1⟩ := inb_i e1
    obtain ⟨y, hy, hyg, hya⟩ := side_at H4.out i0 i1
    obtain ⟨k, hk, hkg, hka⟩ := side_at H4.out j0 j1
    obtain ⟨ba, oa, rfl, hba, hat⟩ := hA.four H4.out
    have HR' : Hid (R = if (y.c1 || k.c1) = true then 8 else 0) := by show _ = _; rw [HR0.out]; unfold sdF; rw [e0, e1, e3, hyg, hkg]; rfl
    obtain ⟨y0, y1, y2, yl⟩ := hat.one hba hy
    obtain ⟨z0, z1, z2, zl⟩ := hat.one hba hk
    have i4 : i < 4 := by omega
    have j4 : j < 4 := by omega
    clear e0 e1 hy hyg hya hk hkg hka hat HR0
    cases eg : y.c1
    · rw [eg] at HR' y1
      cases ek : k.c1
      · rw [ek] at HR' z1
        have HR : Hid (R = 0) := HR'
        go_enter Tryz.func83, Tryz.ntmps83
        go_wp2_with (first | (go_at_call 43; with_reducible refine (q0 _).mono ?_; rintro e w1 ⟨rfl, hw1⟩; obtain rfl := hw1.symm) | (go_at_call 43; with_reducible refine (q1 _).mono ?_; rintro e w1 ⟨rfl, hw1⟩; obtain rfl := hw1.symm))
        go_ret
        exact ⟨by rw [HR.out] <;> rfl, rfl⟩
      · rw [ek] at HR' z1
        have HR : Hid (R = 8) := HR'
        go_enter Tryz.func83, Tryz.ntmps83
        go_wp2_with (first | (go_at_call 43; with_reducible refine (q0 _).mono ?_; rintro e w1 ⟨rfl, hw1⟩; obtain rfl := hw1.symm) | (go_at_call 43; with_reducible refine (q1 _).mono ?_; rintro e w1 ⟨rfl, hw1⟩; obtain rfl := hw1.symm))
        go_ret
        exact ⟨by rw [HR.out] <;> rfl, rfl⟩
    · rw [eg] at HR' y1
      have HR : Hid (R = 8) := HR'
      go_enter Tryz.func83, Tryz.ntmps83
      go_wp2_with (first | (go_at_call 43; with_reducible refine (q0 _).mono ?_; rintro e w1 ⟨rfl, hw1⟩; obtain rfl := hw1.symm) | (go_at_call 43; with_reducible refine (q1 _).mono ?_; rintro e w1 ⟨rfl, hw1⟩; obtain rfl := hw1.symm))
      go_ret
      exact ⟨by rw [HR.out] <;> rfl, rfl⟩
set_option maxRecDepth 20000 in
set_option maxHeartbeats 8000000 in
theorem l7Two_c (g : Nat) (t s : Int) (u : Option Addr) (mu uc : Nat) (f : Option Addr) (mf fc : Nat) (a : Option Addr) (ma ac : Nat) (q : Option Addr) (ms qc : Nat) (r : Option Addr) (mo rc : Nat) (us : List K10) (fs : List K3) (fa : List KA) (se : List K4) (oo : List K2) (lu : us.length = mu) (lf : fs.length = mf) (la : fa.length = ma) (ls : se.length = ms) (lo : oo.length = mo) (hc : mo ≤ rc) (hrc : rc ≤ maxLen) (w : World)
    (hP : At7 w g t s (.slice u mu uc) (.slice f mf fc) (.slice a ma ac) (.slice q ms qc) (.slice r mo rc)) (hU : ArgU w u us) (hF : ArgF w f fs) (hA : ArgA w a fa) (hS : ArgS w q se) (hO : ArgO w r oo) (i j : Int) :
    Calls Tryz.prog 46 #[.pointer (some ⟨g, 0, none⟩), .int .i64 i, .int .i64 j] w fun e w' => e = .returned (.int .i64 (prF hasS ⟨t, s, us, fs, fa, se, oo⟩ i j)) ∧ Below w.heap.size w w' := by
  have cF := l6Fault_c g t s u mu uc f mf fc a ma ac q ms qc r mo rc us fs fa se oo lu lf la ls lo hc hrc w hP hU hF hA hS hO
  have cS := fun (hm : ma = 4) W' (h : Below w.heap.size w W') => l7Sides_c g t s u mu uc f mf fc a ma ac q ms qc r mo rc fa la hm W' (hP.later h) (hA.later h) i j
  have Hlen : Hid (wf hasS ⟨t, s, us, fs, fa, se, oo⟩ = 0 → fa.length = 4) := fun e => wf_len e
  have HE : Hid (prF hasS ⟨t, s, us, fs, fa, se, oo⟩ i j = if (wf hasS ⟨t, s, us, fs, fa, se, oo⟩ == 0) = false then wf hasS ⟨t, s, us, fs, fa, se, oo⟩ else sdF fa i j) := rfl
  generalize prF hasS ⟨t, s, us, fs, fa, se, oo⟩ i j = R at HE ⊢
  generalize wf hasS ⟨t, s, us, fs, fa, se, oo⟩ = F at cF HE Hlen
  have Hl : Hid (fa.length = ma) := la
  clear hU hF hA hS hO hP lu lf la ls lo
  cases e2 : F == 0
  · have n7 : (F != 0) = true := by simp only [bne, e2]; rfl
    have HR : Hid (R = F) := by show _ = _; rw [HE.out, e2]; rfl
    go_enter Tryz.func46, Tryz.ntmps46
    go_wp2_with fail
    refine cF.mono ?_
    rintro e w1 ⟨rfl, k1⟩
    go_wp2_with fail
    go_ret
    exact ⟨by rw [HR.out] <;> rfl, k1⟩
  · obtain rfl : F = 0 := by simpa using e2
    have HR : Hid (R = sdF fa i j) := HE
    have c4 := cS (by rw [← Hl.out]; exact Hlen.out rfl)
    generalize sdF fa i j = S at HR c4
    clear HE cS e2
    go_enter Tryz.func46, Tryz.ntmps46
    go_wp2_with fail
    refine cF.mono ?_
    rintro e w1 ⟨rfl, k1⟩
    go_wp2_with fail
    refine (c4 _ k1).mono ?_
    rintro e w2 ⟨rfl, hw2⟩
    obtain rfl := hw2.symm
    go_wp2_with fail
    go_ret
    exact ⟨by rw [HR.out] <;> rfl, k1⟩
end Go.Proofs.YtmfdggaijbcijaaGreat
end
