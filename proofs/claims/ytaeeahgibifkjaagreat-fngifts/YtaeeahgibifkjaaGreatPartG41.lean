/- Texts of mine put together (a claim holds at most 60 files): PfSpec, GiveSpec. -/
import Derived.Test.YtaeeahgibifkjaaGreatPartG11
import Derived.Test.YtaeeahgibifkjaaGreatPartG21
import Derived.Test.YtaeeahgibifkjaaGreatPartG32
import Derived.Test.YtaeeahgibifkjaaGreatPartG25
import Derived.Test.YtaeeahgibifkjaaGreatPartG29
import Derived.Test.YtaeeahgibifkjaaGreatPartG36

/- PfSpec -/
/- The contracts of the model's faults of two sides. Condition: the world lies in memory, its lists as they were laid there. -/
section
namespace Go.Proofs.YtaeeahgibifkjaaGreat
open Go.ChangeShapes Go.WideShapes Go.ChangeAt Go.RowKit
open Bd
set_option linter.unusedVariables false

theorem l7Bad_c (c : Int) (w : World) : Calls Tryz.prog 65 #[.int .i64 c] w fun e w' => e = .returned (.agg (r8 c wpz kz)) ∧ Below w.heap.size w w' := by
  have R := Blk.new w z8 36
  obtain ⟨W, HW⟩ : ∃ W, Hid (W = w.alloc (.cells z8 36)) := ⟨_, rfl⟩
  have B1 : Below w.heap.size w W := by rw [HW.out]; exact (Below.refl _ _).alloc (Nat.le_refl _) _
  rw [← HW.out] at R
  obtain ⟨r0, r1, r2, r3, r4, r5, r6, r7, y0, y1, y2, y3, y4, y5, y6, y7, rl⟩ := R.z8
  have F : Blk _ w.heap.size (r8 c wpz kz) 36 := set8_blk R (.int .i64 c) (.int .i64 0) (.int .i64 0) (.slice none 0 0) (.slice none 0 0) (.slice none 0 0) (.slice none 0 0) (.slice none 0 0)
  have B2 := set8_below B1 (Nat.le_refl _) (.int .i64 c) (.int .i64 0) (.int .i64 0) (.slice none 0 0) (.slice none 0 0) (.slice none 0 0) (.slice none 0 0) (.slice none 0 0)
  go_enter Tryz.func65, Tryz.ntmps65
  go_upto_region 1 with fail
  rw [← HW.out]
  go_wp2_with fail
  exact bodyPost_ret (v := .agg (r8 c wpz kz)) (result8 Tryz.results65 F _ rfl) rfl ⟨rfl, B2⟩
set_option maxRecDepth 20000 in
set_option maxHeartbeats 8000000 in
theorem l7Sides_c (g : Nat) (t s : Int) (u : Option Addr) (mu uc : Nat) (f : Option Addr) (mf fc : Nat) (a : Option Addr) (ma ac : Nat) (q : Option Addr) (ms qc : Nat) (r : Option Addr) (mo rc : Nat) (fa : List KA) (h4 : fa.length = ma) (hm : ma = 4) (w : World) (hP : At7 w g t s (.slice u mu uc) (.slice f mf fc) (.slice a ma ac) (.slice q ms qc) (.slice r mo rc)) (hA : ArgA w a fa) (i j : Int) :
    Calls Tryz.prog 116 #[.pointer (some ⟨g, 0, none⟩), .int .i64 i, .int .i64 j] w fun e w' => e = .returned (.int .i64 (sdF fa i j)) ∧ w' = w := by
  subst hm
  have q0 := fun w => l6Side_s i w
  have q1 := fun w => l6Side_s j w
  obtain ⟨p0, p1, p2, p3, p4, p5, p6, pl⟩ := hP
  have H4 : Hid (fa.length = 4) := h4
  have HE : Hid (sdF fa i j = sdF fa i j) := rfl
  obtain ⟨R, HR0⟩ : ∃ R, Hid (R = sdF fa i j) := ⟨_, rfl⟩
  rw [← HR0.out]
  clear HE h4
  cases e0 : inb i 0 3
  · rw [e0] at q0
    have HR : Hid (R = 3) := by show _ = _; rw [HR0.out]; unfold sdF; rw [e0]; rfl
    go_enter Tryz.func116, Tryz.ntmps116
    go_wp2_with (first | (go_at_call 61; with_reducible refine (q0 _).mono ?_; rintro e w1 ⟨rfl, hw1⟩; obtain rfl := hw1.symm) | (go_at_call 61; with_reducible refine (q1 _).mono ?_; rintro e w1 ⟨rfl, hw1⟩; obtain rfl := hw1.symm))
    go_ret
    exact ⟨by rw [HR.out] <;> rfl, rfl⟩
  cases e1 : inb j 0 3
  · rw [e0] at q0
    rw [e1] at q1
    have HR : Hid (R = 3) := by show _ = _; rw [HR0.out]; unfold sdF; rw [e0, e1]; rfl
    go_enter Tryz.func116, Tryz.ntmps116
    go_wp2_with (first | (go_at_call 61; with_reducible refine (q0 _).mono ?_; rintro e w1 ⟨rfl, hw1⟩; obtain rfl := hw1.symm) | (go_at_call 61; with_reducible refine (q1 _).mono ?_; rintro e w1 ⟨rfl, hw1⟩; obtain rfl := hw1.symm))
    go_ret
    exact ⟨by rw [HR.out] <;> rfl, rfl⟩
  rw [e0] at q0
  rw [e1] at q1
  cases e3 : i == j
  case true =>
    have HR : Hid (R = 1) := by show _ = _; rw [HR0.out]; unfold sdF; rw [e0, e1, e3]; rfl
    go_enter Tryz.func116, Tryz.ntmps116
    go_wp2_with (first | (go_at_call 61; with_reducible refine (q0 _).mono ?_; rintro e w1 ⟨rfl, hw1⟩; obtain rfl := hw1.symm) | (go_at_call 61; with_reducible refine (q1 _).mono ?_; rintro e w1 ⟨rfl, hw1⟩; obtain rfl := hw1.symm))
    go_ret
    exact ⟨by rw [HR.out] <;> rfl, rfl⟩
  case false =>
    obtain ⟨i0, i1⟩ := inb_i e0
    obtain ⟨j0, j1⟩ := inb_i e1
    obtain ⟨y, hy, hyg, hya⟩ := side_at H4.out i0 i1
    obtain ⟨k, hk, hkg, hka⟩ := side_at H4.out j0 j1
    obtain ⟨ba, oa, rfl, hba, hat⟩ := hA.four H4.out
    have HR' : Hid (R = if (y.c1 || k.c1) = true then 8 else 0) := by show _ = _; rw [HR0.out]; unfold sdF; rw [e0, e1, e3, hyg, hkg]; rfl
    obtain ⟨y0, y1, y2, yl⟩ := hat.one hba hy
    obtain ⟨z0, z1, z2, zl⟩ := hat.one hba hk
    have i4 : i < 4 := by omega
    have j4 : j < 4 := by omega
    clear e0 e1 hy hyg hya hk hkg hka hat HR0
    cases eg : y.c1
    · rw [eg] at HR' y1
      cases ek : k.c1
      · rw [ek] at HR' z1
        have HR : Hid (R = 0) := HR'
        go_enter Tryz.func116, Tryz.ntmps116
        go_wp2_with (first | (go_at_call 61; with_reducible refine (q0 _).mono ?_; rintro e w1 ⟨rfl, hw1⟩; obtain rfl := hw1.symm) | (go_at_call 61; with_reducible refine (q1 _).mono ?_; rintro e w1 ⟨rfl, hw1⟩; obtain rfl := hw1.symm))
        go_ret
        exact ⟨by rw [HR.out] <;> rfl, rfl⟩
      · rw [ek] at HR' z1
        have HR : Hid (R = 8) := HR'
        go_enter Tryz.func116, Tryz.ntmps116
        go_wp2_with (first | (go_at_call 61; with_reducible refine (q0 _).mono ?_; rintro e w1 ⟨rfl, hw1⟩; obtain rfl := hw1.symm) | (go_at_call 61; with_reducible refine (q1 _).mono ?_; rintro e w1 ⟨rfl, hw1⟩; obtain rfl := hw1.symm))
        go_ret
        exact ⟨by rw [HR.out] <;> rfl, rfl⟩
    · rw [eg] at HR' y1
      have HR : Hid (R = 8) := HR'
      go_enter Tryz.func116, Tryz.ntmps116
      go_wp2_with (first | (go_at_call 61; with_reducible refine (q0 _).mono ?_; rintro e w1 ⟨rfl, hw1⟩; obtain rfl := hw1.symm) | (go_at_call 61; with_reducible refine (q1 _).mono ?_; rintro e w1 ⟨rfl, hw1⟩; obtain rfl := hw1.symm))
      go_ret
      exact ⟨by rw [HR.out] <;> rfl, rfl⟩
set_option maxRecDepth 20000 in
set_option maxHeartbeats 8000000 in
theorem l7Two_c (g : Nat) (t s : Int) (u : Option Addr) (mu uc : Nat) (f : Option Addr) (mf fc : Nat) (a : Option Addr) (ma ac : Nat) (q : Option Addr) (ms qc : Nat) (r : Option Addr) (mo rc : Nat) (us : List K10) (fs : List K3) (fa : List KA) (se : List K4) (oo : List K2) (lu : us.length = mu) (lf : fs.length = mf) (la : fa.length = ma) (ls : se.length = ms) (lo : oo.length = mo) (hc : mo ≤ rc) (hrc : rc ≤ maxLen) (w : World)
    (hP : At7 w g t s (.slice u mu uc) (.slice f mf fc) (.slice a ma ac) (.slice q ms qc) (.slice r mo rc)) (hU : ArgU w u us) (hF : ArgF w f fs) (hA : ArgA w a fa) (hS : ArgS w q se) (hO : ArgO w r oo) (i j : Int) :
    Calls Tryz.prog 64 #[.pointer (some ⟨g, 0, none⟩), .int .i64 i, .int .i64 j] w fun e w' => e = .returned (.int .i64 (prF hasS ⟨t, s, us, fs, fa, se, oo⟩ i j)) ∧ Below w.heap.size w w' := by
  have cF := l6Fault_c g t s u mu uc f mf fc a ma ac q ms qc r mo rc us fs fa se oo lu lf la ls lo hc hrc w hP hU hF hA hS hO
  have cS := fun (hm : ma = 4) W' (h : Below w.heap.size w W') => l7Sides_c g t s u mu uc f mf fc a ma ac q ms qc r mo rc fa la hm W' (hP.later h) (hA.later h) i j
  have Hlen : Hid (wf hasS ⟨t, s, us, fs, fa, se, oo⟩ = 0 → fa.length = 4) := fun e => wf_len e
  have HE : Hid (prF hasS ⟨t, s, us, fs, fa, se, oo⟩ i j = if (wf hasS ⟨t, s, us, fs, fa, se, oo⟩ == 0) = false then wf hasS ⟨t, s, us, fs, fa, se, oo⟩ else sdF fa i j) := rfl
  generalize prF hasS ⟨t, s, us, fs, fa, se, oo⟩ i j = R at HE ⊢
  generalize wf hasS ⟨t, s, us, fs, fa, se, oo⟩ = F at cF HE Hlen
  have Hl : Hid (fa.length = ma) := la
  clear hU hF hA hS hO hP lu lf la ls lo
  cases e2 : F == 0
  · have n7 : (F != 0) = true := by simp only [bne, e2]; rfl
    have HR : Hid (R = F) := by show _ = _; rw [HE.out, e2]; rfl
    go_enter Tryz.func64, Tryz.ntmps64
    go_wp2_with fail
    refine cF.mono ?_
    rintro e w1 ⟨rfl, k1⟩
    go_wp2_with fail
    go_ret
    exact ⟨by rw [HR.out] <;> rfl, k1⟩
  · obtain rfl : F = 0 := by simpa using e2
    have HR : Hid (R = sdF fa i j) := HE
    have c4 := cS (by rw [← Hl.out]; exact Hlen.out rfl)
    generalize sdF fa i j = S at HR c4
    clear HE cS e2
    go_enter Tryz.func64, Tryz.ntmps64
    go_wp2_with fail
    refine cF.mono ?_
    rintro e w1 ⟨rfl, k1⟩
    go_wp2_with fail
    refine (c4 _ k1).mono ?_
    rintro e w2 ⟨rfl, hw2⟩
    obtain rfl := hw2.symm
    go_wp2_with fail
    go_ret
    exact ⟨by rw [HR.out] <;> rfl, k1⟩
end Go.Proofs.YtaeeahgibifkjaaGreat
end

/- GiveSpec -/
/- The contract of the model of GiveUnit, where it tells a fault. Condition: the world's lists lie in memory as they were laid there. -/
section
namespace Go.Proofs.YtaeeahgibifkjaaGreat
open Go.ChangeShapes Go.WideShapes Go.ChangeAt Go.RowKit
open Bd
set_option linter.unusedVariables false

/- what a gift tells of a right world -/
def gvC (x : KW) (i id j : Int) : Int := if (sdF x.fa i j == 0) = false then sdF x.fa i j else match findU x.us id with | none => 4 | some u => if (u.c1 == i) = true then 0 else 9
theorem givC_gv (h : Int → Int → Bool) (x : KW) (i id j : Int) : givC h x i id j = if (wf h x == 0) = false then wf h x else gvC x i id j := by
  unfold givC prF gvC
  by_cases e : wf h x = 0
  · simp [e]
    first | done | rfl
  · have : (wf h x == 0) = false := by simpa using e
    rw [this]; simp [e]
set_option maxRecDepth 20000 in
set_option maxHeartbeats 16000000 in
theorem l8Give_c (h : Int → Int → Bool) (gW : Nat) (p : WP) (x : KW) (G : GdW h x) (w : World) (hW : Blk w gW (p.v x) 32) (hI : InW w p x) (i id j : Int) (hne : gvC x i id j ≠ 0) :
    Calls Tryz.prog 88 #[.pointer (some ⟨gW, 0, none⟩), .int .i64 i, .int .i64 id, .int .i64 j] w fun e w' => e = .returned (.agg (r8 (gvC x i id j) wpz kz)) ∧ Below w.heap.size w w' := by
  obtain ⟨t, s, us, fs, fa, se, oo⟩ := x
  obtain ⟨u, uc, f, fc, a, ac, q, qc, r, rc⟩ := p
  obtain ⟨W, HW⟩ : ∃ W, Hid (W = w.alloc (.cells z8 36)) := ⟨_, rfl⟩
  have B1 : Below w.heap.size w W := by rw [HW.out]; exact (Below.refl _ _).alloc (Nat.le_refl _) _
  have R : Blk W w.heap.size z8 36 := by rw [HW.out]; exact Blk.new w z8 36
  have HR : Hid (Blk W w.heap.size z8 36) := R
  have HN : Hid (InW W ⟨u, uc, f, fc, a, ac, q, qc, r, rc⟩ ⟨t, s, us, fs, fa, se, oo⟩) := hI.later B1
  have P : Blk W gW (wv t s u us.length uc f fs.length fc a fa.length ac q se.length qc r oo.length rc) 32 := hW.below B1
  have hB := B1.size
  have h4 := G.a4
  dsimp only at h4
  have c7 := fun W' (h : Below W.heap.size W W') => (P.below h).c7
  rw [h4] at c7
  have cS := fun W' (h : Below W.heap.size W W') => l7Sides_c gW t s u us.length uc f fs.length fc a 4 ac q se.length qc r oo.length rc fa h4 rfl W' ⟨(c7 W' h).c0, (c7 W' h).c1, (c7 W' h).c2, (c7 W' h).c3, (c7 W' h).c4, (c7 W' h).c5, (c7 W' h).c6, (c7 W' h).lt⟩ (HN.out.later h).arg.a i j
  have cA := fun W' (h : Below W.heap.size W W') => l4At_c u us.length uc us id rfl (Gd8 G.b).1 W' (HN.out.later h).u.arg
  have HC : Hid (gvC ⟨t, s, us, fs, fa, se, oo⟩ i id j = if (sdF fa i j == 0) = false then sdF fa i j else match findU us id with | none => 4 | some u => if (u.c1 == i) = true then 0 else 9) := rfl
  have uo := uo_cases us fs id
  have bz : bf us fs = 0 := G.b
  generalize gvC ⟨t, s, us, fs, fa, se, oo⟩ i id j = C at HC hne ⊢
  generalize sdF fa i j = F at cS HC
  obtain ⟨mu, Hmu⟩ : ∃ m, Hid (us.length = m) := ⟨_, rfl⟩
  obtain ⟨mf, Hmf⟩ : ∃ m, Hid (fs.length = m) := ⟨_, rfl⟩
  obtain ⟨ms, Hms⟩ : ∃ m, Hid (se.length = m) := ⟨_, rfl⟩
  obtain ⟨mo, Hmo⟩ : ∃ m, Hid (oo.length = m) := ⟨_, rfl⟩
  rw [Hmu.out, Hmf.out, Hms.out, Hmo.out] at c7
  rw [Hmu.out] at cA
  have Bc : Below W.heap.size W W := Below.refl _ _
  clear R P hW hI G h4
  obtain ⟨p0, p1, p2, p3, p4, p5, p6, pl⟩ := c7 _ Bc
  cases e2 : F == 0
  · have n7 : (F != 0) = true := by simp only [bne, e2]; rfl
    have HR1 : Hid (C = F) := by show _ = _; rw [HC.out, e2]; rfl
    clear HC e2 hne uo cA
    go_enter Tryz.func88, Tryz.ntmps88
    go_upto_region 1 with fail
    rw [← HW.out]
    go_wp2_with fail
    refine (cS _ Bc).mono ?_
    rintro e wn ⟨rfl, hwn⟩
    obtain rfl := hwn.symm
    go_wp2_with fail
    refine (l7Bad_c F _).mono ?_
    rintro e wz ⟨rfl, kz'⟩
    have Bc := Bc.trans (kz'.mono Bc.size)
    have R1 := HR.out.below Bc
    obtain ⟨r0, r1, r2, r3, r4, r5, r6, r7, y0, y1, y2, y3, y4, y5, y6, y7, rl⟩ := R1.z8
    have Fz : Blk _ (w.heap.size) (r8 F wpz kz) 36 := set8_blk R1 (.int .i64 F) (.int .i64 0) (.int .i64 0) (.slice none 0 0) (.slice none 0 0) (.slice none 0 0) (.slice none 0 0) (.slice none 0 0)
    have BE := set8_below (B1.trans (Bc.mono hB)) (show w.heap.size ≤ w.heap.size by omega) (.int .i64 F) (.int .i64 0) (.int .i64 0) (.slice none 0 0) (.slice none 0 0) (.slice none 0 0) (.slice none 0 0) (.slice none 0 0)
    clear R1
    go_wp2_with fail
    rw [HR1.out]
    exact bodyPost_ret (v := .agg (r8 F wpz kz)) (result8 Tryz.results88 Fz _ rfl) rfl ⟨rfl, BE⟩
  obtain rfl : F = 0 := by simpa using e2
  replace HC : Hid (C = match findU us id with | none => 4 | some u => if (u.c1 == i) = true then 0 else 9) := HC
  rcases uo with ⟨h1, _, _⟩ | ⟨_, e4, ef, _, _⟩ | ⟨k, u0, _, e4, hk, ef, _, _⟩
  · rw [bz] at h1; cases h1
  · rw [e4] at cA
    have HR1 : Hid (C = 4) := by show _ = _; rw [HC.out, ef]
    clear HC e2 hne ef e4 bz
    go_enter Tryz.func88, Tryz.ntmps88
    go_upto_region 1 with fail
    rw [← HW.out]
    go_wp2_with fail
    refine (cS _ Bc).mono ?_
    rintro e wn ⟨rfl, hwn⟩
    obtain rfl := hwn.symm
    go_wp2_with fail
    refine (cA _ Bc).mono ?_
    rintro e wn ⟨rfl, hwn⟩
    obtain rfl := hwn.symm
    go_wp2_with fail
    refine (l7Bad_c 4 _).mono ?_
    rintro e wz ⟨rfl, kz'⟩
    have Bc := Bc.trans (kz'.mono Bc.size)
    have R1 := HR.out.below Bc
    obtain ⟨r0, r1, r2, r3, r4, r5, r6, r7, y0, y1, y2, y3, y4, y5, y6, y7, rl⟩ := R1.z8
    have Fz : Blk _ (w.heap.size) (r8 4 wpz kz) 36 := set8_blk R1 (.int .i64 4) (.int .i64 0) (.int .i64 0) (.slice none 0 0) (.slice none 0 0) (.slice none 0 0) (.slice none 0 0) (.slice none 0 0)
    have BE := set8_below (B1.trans (Bc.mono hB)) (show w.heap.size ≤ w.heap.size by omega) (.int .i64 4) (.int .i64 0) (.int .i64 0) (.slice none 0 0) (.slice none 0 0) (.slice none 0 0) (.slice none 0 0) (.slice none 0 0)
    clear R1
    go_wp2_with fail
    rw [HR1.out]
    exact bodyPost_ret (v := .agg (r8 4 wpz kz)) (result8 Tryz.results88 Fz _ rfl) rfl ⟨rfl, BE⟩
  · rw [e4] at cA
    have hu : u0.c1 ≠ i := fun e => hne (by rw [HC.out, ef]; simp [e])
    have hu' : (u0.c1 != i) = true := by simpa using hu
    have HR1 : Hid (C = 9) := by show _ = _; rw [HC.out, ef]; simp [hu]
    have hkm : k < mu := by have := (List.getElem?_eq_some_iff.1 hk).1; have := Hmu.out; omega
    have hki : (k : Int) < (mu : Int) := by omega
    obtain ⟨b, off, rfl, hbl, hat⟩ := (HN.out.later Bc).u.arg.at hk
    obtain ⟨x0, x1, x2, x3, x4, x5, x6, x7, x8, x9, xl⟩ := hat.one hbl hk
    clear HC e2 hne ef e4 bz hk hat hu
    go_enter Tryz.func88, Tryz.ntmps88
    go_upto_region 1 with fail
    rw [← HW.out]
    go_wp2_with fail
    refine (cS _ Bc).mono ?_
    rintro e wn ⟨rfl, hwn⟩
    obtain rfl := hwn.symm
    go_wp2_with fail
    refine (cA _ Bc).mono ?_
    rintro e wn ⟨rfl, hwn⟩
    obtain rfl := hwn.symm
    go_wp2_with fail
    refine (l7Bad_c 9 _).mono ?_
    rintro e wz ⟨rfl, kz'⟩
    have Bc := Bc.trans (kz'.mono Bc.size)
    have R1 := HR.out.below Bc
    obtain ⟨r0, r1, r2, r3, r4, r5, r6, r7, y0, y1, y2, y3, y4, y5, y6, y7, rl⟩ := R1.z8
    have Fz : Blk _ (w.heap.size) (r8 9 wpz kz) 36 := set8_blk R1 (.int .i64 9) (.int .i64 0) (.int .i64 0) (.slice none 0 0) (.slice none 0 0) (.slice none 0 0) (.slice none 0 0) (.slice none 0 0)
    have BE := set8_below (B1.trans (Bc.mono hB)) (show w.heap.size ≤ w.heap.size by omega) (.int .i64 9) (.int .i64 0) (.int .i64 0) (.slice none 0 0) (.slice none 0 0) (.slice none 0 0) (.slice none 0 0) (.slice none 0 0)
    clear R1
    go_wp2_with fail
    rw [HR1.out]
    exact bodyPost_ret (v := .agg (r8 9 wpz kz)) (result8 Tryz.results88 Fz _ rfl) rfl ⟨rfl, BE⟩
set_option maxRecDepth 20000 in
set_option maxHeartbeats 8000000 in
theorem specGiveC (p : WP) (x : KW) (w : World) (h : InW w p x) (i id j : Int) (hne : givC hasS x i id j ≠ 0) :
    Calls Tryz.prog 31 #[.agg (p.v x), .int .i64 i, .int .i64 id, .int .i64 j] w fun e w' => e = .returned (.agg (r8 (givC hasS x i id j) wpz kz)) ∧ Below w.heap.size w w' := by
  have eC := givC_gv hasS x i id j
  obtain ⟨t, s, us, fs, fa, se, oo⟩ := x
  obtain ⟨u, uc, f, fc, a, ac, q, qc, r, rc⟩ := p
  obtain ⟨W, HW⟩ : ∃ W, Hid (W = (w.alloc (.cells (wv t s u us.length uc f fs.length fc a fa.length ac q se.length qc r oo.length rc) 32)).alloc (.cells z8 36)) := ⟨_, rfl⟩
  have B1 : Below w.heap.size w W := by rw [HW.out]; exact ((Below.refl _ _).alloc (Nat.le_refl _) _).alloc (by rw [size_new]; omega) _
  have P : Bk W w.heap.size (wv t s u us.length uc f fs.length fc a fa.length ac q se.length qc r oo.length rc) 32 := by rw [HW.out]; exact (Bk.new w (wv t s u us.length uc f fs.length fc a fa.length ac q se.length qc r oo.length rc) 32).alloc _
  have R : Blk W (w.heap.size + 1) z8 36 := by rw [HW.out]; have h := Blk.new (w.alloc (.cells (wv t s u us.length uc f fs.length fc a fa.length ac q se.length qc r oo.length rc) 32)) z8 36; rw [size_new] at h; exact h
  have HN : Hid (InW W ⟨u, uc, f, fc, a, ac, q, qc, r, rc⟩ ⟨t, s, us, fs, fa, se, oo⟩) := h.later B1
  have HR : Hid (Blk W (w.heap.size + 1) z8 36) := R
  have hB := B1.size
  have cF := fun W' (h : Below W.heap.size W W') => l6Fault_c w.heap.size t s u us.length uc f fs.length fc a fa.length ac q se.length qc r oo.length rc us fs fa se oo rfl rfl rfl rfl rfl HN.out.o1 HN.out.o2 W' ⟨(P.below h).cell rfl, (P.below h).cell rfl, (P.below h).cell rfl, (P.below h).cell rfl, (P.below h).cell rfl, (P.below h).cell rfl, (P.below h).cell rfl, (P.below h).lt⟩ (HN.out.later h).arg.u (HN.out.later h).arg.f (HN.out.later h).arg.a (HN.out.later h).arg.s (HN.out.later h).arg.o
  have cP := fun (e : wf hasS ⟨t, s, us, fs, fa, se, oo⟩ = 0) (e2 : gvC ⟨t, s, us, fs, fa, se, oo⟩ i id j ≠ 0) W' (h : Below W.heap.size W W') => l8Give_c hasS w.heap.size ⟨u, uc, f, fc, a, ac, q, qc, r, rc⟩ ⟨t, s, us, fs, fa, se, oo⟩ ((gdW_iff hasS _).1 e) W' (show Blk W' w.heap.size _ _ from Blk.below (show Blk W w.heap.size (wv t s u us.length uc f fs.length fc a fa.length ac q se.length qc r oo.length rc) 32 from P) h) (HN.out.later h) i id j e2
  have HC : Hid (givC hasS ⟨t, s, us, fs, fa, se, oo⟩ i id j = _) := eC
  show Calls Tryz.prog 31 #[.agg (wv t s u us.length uc f fs.length fc a fa.length ac q se.length qc r oo.length rc), .int .i64 i, .int .i64 id, .int .i64 j] w _
  try dsimp only at HC cP
  generalize givC hasS ⟨t, s, us, fs, fa, se, oo⟩ i id j = C at HC hne ⊢
  generalize gvC ⟨t, s, us, fs, fa, se, oo⟩ i id j = C2 at cP HC
  generalize wf hasS ⟨t, s, us, fs, fa, se, oo⟩ = F at cF cP HC
  obtain ⟨mu, Hmu⟩ : ∃ m, Hid (us.length = m) := ⟨_, rfl⟩
  obtain ⟨mf, Hmf⟩ : ∃ m, Hid (fs.length = m) := ⟨_, rfl⟩
  obtain ⟨ma, Hma⟩ : ∃ m, Hid (fa.length = m) := ⟨_, rfl⟩
  obtain ⟨ms, Hms⟩ : ∃ m, Hid (se.length = m) := ⟨_, rfl⟩
  obtain ⟨mo, Hmo⟩ : ∃ m, Hid (oo.length = m) := ⟨_, rfl⟩
  rw [Hmu.out, Hmf.out, Hma.out, Hms.out, Hmo.out] at HW ⊢
  have Bc : Below W.heap.size W W := Below.refl _ _
  clear h R P eC
  cases e2 : F == 0
  · have n7 : (F != 0) = true := by simp only [bne, e2]; rfl
    have HR1 : Hid (C = F) := by show _ = _; rw [HC.out, e2]; rfl
    clear HC cP e2 hne
    go_enter Tryz.func31, Tryz.ntmps31
    go_upto_region 1 with fail
    rw [← HW.out]
    go_wp2_with fail
    refine (cF _ Bc).mono ?_
    rintro e wn ⟨rfl, kn⟩
    have Bc := Bc.trans (kn.mono Bc.size)
    go_wp2_with fail
    refine (l7Bad_c F _).mono ?_
    rintro e wz ⟨rfl, kz'⟩
    have Bc := Bc.trans (kz'.mono Bc.size)
    have R1 := HR.out.below Bc
    obtain ⟨r0, r1, r2, r3, r4, r5, r6, r7, y0, y1, y2, y3, y4, y5, y6, y7, rl⟩ := R1.z8
    have Fz : Blk _ (w.heap.size + 1) (r8 F wpz kz) 36 := set8_blk R1 (.int .i64 F) (.int .i64 0) (.int .i64 0) (.slice none 0 0) (.slice none 0 0) (.slice none 0 0) (.slice none 0 0) (.slice none 0 0)
    have BE := set8_below (B1.trans (Bc.mono hB)) (show w.heap.size ≤ w.heap.size + 1 by omega) (.int .i64 F) (.int .i64 0) (.int .i64 0) (.slice none 0 0) (.slice none 0 0) (.slice none 0 0) (.slice none 0 0) (.slice none 0 0)
    clear R1
    go_wp2_with fail
    rw [HR1.out]
    exact bodyPost_ret (v := .agg (r8 F wpz kz)) (result8 Tryz.results31 Fz _ rfl) rfl ⟨rfl, BE⟩
  · obtain rfl : F = 0 := by simpa using e2
    have HR1 : Hid (C = C2) := HC.out
    have cQ := fun W' h => cP rfl (by rw [← HR1.out]; exact hne) W' h
    clear HC cP e2 hne
    go_enter Tryz.func31, Tryz.ntmps31
    go_upto_region 1 with fail
    rw [← HW.out]
    go_wp2_with fail
    refine (cF _ Bc).mono ?_
    rintro e wn ⟨rfl, kn⟩
    have Bc := Bc.trans (kn.mono Bc.size)
    go_wp2_with fail
    refine (cQ _ Bc).mono ?_
    rintro e w8 ⟨rfl, k8⟩
    have Bc := Bc.trans (k8.mono Bc.size)
    have R1 := HR.out.below Bc
    obtain ⟨r0, r1, r2, r3, r4, r5, r6, r7, y0, y1, y2, y3, y4, y5, y6, y7, rl⟩ := R1.z8
    have Fz : Blk _ (w.heap.size + 1) (r8 C2 wpz kz) 36 := set8_blk R1 (.int .i64 C2) (.int .i64 0) (.int .i64 0) (.slice none 0 0) (.slice none 0 0) (.slice none 0 0) (.slice none 0 0) (.slice none 0 0)
    have BE := set8_below (B1.trans (Bc.mono hB)) (show w.heap.size ≤ w.heap.size + 1 by omega) (.int .i64 C2) (.int .i64 0) (.int .i64 0) (.slice none 0 0) (.slice none 0 0) (.slice none 0 0) (.slice none 0 0) (.slice none 0 0)
    clear R1
    go_wp2_with fail
    rw [HR1.out]
    exact bodyPost_ret (v := .agg (r8 C2 wpz kz)) (result8 Tryz.results31 Fz _ rfl) rfl ⟨rfl, BE⟩
end Go.Proofs.YtaeeahgibifkjaaGreat
end
