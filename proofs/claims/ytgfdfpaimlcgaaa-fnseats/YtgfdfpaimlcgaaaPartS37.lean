/- Texts of mine put together (a claim holds at most 60 files): TakeS. -/
import Derived.Test.YtgfdfpaimlcgaaaPartS12
import Derived.Test.YtgfdfpaimlcgaaaPartS30
import Derived.Test.YtgfdfpaimlcgaaaPartS21
import Derived.Test.YtgfdfpaimlcgaaaPartS23
import Derived.Test.YtgfdfpaimlcgaaaPartS25
import Derived.Test.YtgfdfpaimlcgaaaPartS36
import Derived.Test.YtgfdfpaimlcgaaaPartS29
import Derived.Test.YtgfdfpaimlcgaaaPartS13
import Derived.Deep.RegionHeld3

/- TakeS -/
/- The contract of TakeSeat, the program's. Condition: the world's lists lie in memory as they were laid there. -/
section
namespace Go.Proofs.Ytgfdfpaimlcgaaa
open Go.ChangeShapes Go.WideShapes Go.ChangeAt Go.RowKit
open Bd
set_option linter.unusedVariables false

theorem isClientS_c (v : Int) (w : World) :
    Calls Try.prog 24 #[.int .i64 v] w fun e w' => e = .returned (.bool (inb v 0 5)) ∧ w' = w := by
  by_cases h1 : 0 ≤ v
  · by_cases h2 : v ≤ 5
    · rw [inb_t h1 h2]
      go_enter Try.func24, Try.ntmps24
      go_wp2
      go_ret
      exact ⟨rfl, rfl⟩
    · rw [inb_f (by omega)]
      have d2 : decide (v ≤ 5) = false := decide_eq_false h2
      go_enter Try.func24, Try.ntmps24
      go_wp2
      go_ret
      exact ⟨rfl, rfl⟩
  · rw [inb_f (by omega)]
    have d2 : decide (0 ≤ v) = false := decide_eq_false h1
    go_enter Try.func24, Try.ntmps24
    go_wp2
    go_ret
    exact ⟨rfl, rfl⟩
theorem flatS_set2 : ∀ (l : List K4) (k : Nat) (y : K4), l[k]? = some y → ∀ a b : Int, ((flatS l).set (k * 4 + 1) (.int .i64 a)).set (k * 4 + 2) (.int .i64 b) = flatS (l.set k ⟨y.c0, a, b, y.c3⟩)
  | [], k, y, h, a, b => by simp at h
  | x :: l, 0, y, h, a, b => by
    have e : x = y := by simpa using h
    subst e
    rfl
  | x :: l, k + 1, y, h, a, b => by
    have ih := flatS_set2 l k y (by simpa using h) a b
    rw [show (k + 1) * 4 + 1 = (k * 4 + 1) + 1 + 1 + 1 + 1 by omega, show (k + 1) * 4 + 2 = (k * 4 + 2) + 1 + 1 + 1 + 1 by omega]
    show _ = x.v.toList ++ flatS (l.set k ⟨y.c0, a, b, y.c3⟩)
    rw [← ih]
    rfl
theorem SlS.setC {w : World} {base g n c : Nat} {l : List K4} {F' : List Value} (h : w.ownsRow base 47 4 (.slice (some ⟨g, 0, none⟩) n c) n F') (i : Nat) (v : Value) (hi : i < n * 4) : (w.setCell ⟨g, i, none⟩ v).ownsRow base 47 4 (.slice (some ⟨g, 0, none⟩) n c) n (F'.set i v) := by
  obtain ⟨h1, h2 | ⟨g', cap, cur, hv, hb, hg, h4, h5, h6, h7⟩⟩ := h
  · cases h2.1
  · injection hv with e1 e2 e3
    have eg : g = g' := by have := Option.some.inj e1; injection this
    subst eg e3
    refine ⟨by rw [List.length_set]; exact h1, .inr ⟨g, c, cur.setIfInBounds i v, rfl, hb, ?_, h4, h5, by simpa using h6, ?_⟩⟩
    · simp [World.setCell, Array.getElem?_modify, hg]
    · rw [← h7, show (cur.setIfInBounds i v).toList = cur.toList.set i v from by simp]
      exact take_set hi
theorem SlS.set2 {w : World} {base g c k : Nat} {l : List K4} {y : K4} (h : SlS w base (.slice (some ⟨g, 0, none⟩) l.length c) l) (hk : l[k]? = some y) (a b : Int) : SlS ((w.setCell ⟨g, k * 4 + 1, none⟩ (.int .i64 a)).setCell ⟨g, k * 4 + 2, none⟩ (.int .i64 b)) base (.slice (some ⟨g, 0, none⟩) (l.set k ⟨y.c0, a, b, y.c3⟩).length c) (l.set k ⟨y.c0, a, b, y.c3⟩) := by
  have hkl : k < l.length := (List.getElem?_eq_some_iff.1 hk).1
  have h1 := SlS.setC (l := l) h (k * 4 + 1) (.int .i64 a) (by omega)
  have h2 := SlS.setC (l := l) h1 (k * 4 + 2) (.int .i64 b) (by omega)
  rw [flatS_set2 l k y hk a b] at h2
  unfold SlS
  rw [List.length_set]
  exact h2
theorem SlS.rowT {w : World} {base : Nat} {v : Value} {l : List K4} (h : SlS w base v l) : RowT w v.ownBlock 47 := by
  rcases h.2 with ⟨hv, _⟩ | ⟨g, cap, cur, hv, _, hg, _⟩
  · rw [hv]; exact .inl rfl
  · rw [hv]; exact .inr ⟨g, cur, rfl, hg⟩
theorem SlS.row0 {w : World} {base : Nat} {p : Option Addr} {n c : Nat} {l : List K4} (h : SlS w base (.slice p n c) l) (hl : 0 < l.length) : ∃ g, p = some ⟨g, 0, none⟩ ∧ base ≤ g ∧ g < w.heap.size ∧ SAt w g 0 l ∧ n = l.length ∧ ∀ i, w.frozen? ⟨g, i, none⟩ = false := by
  obtain ⟨h1, h2 | ⟨g, cap, cur, hv, hb, hg, h4, h5, h6, h7⟩⟩ := h
  · omega
  · injection hv with e1 e2 e3
    refine ⟨g, e1, hb, (Array.getElem?_eq_some_iff.1 hg).1, fun i x hi f hf => ?_, e2, fun i => by simp [World.frozen?, hg]⟩
    have e := flatS_get l i x f hi hf
    have hil : i < l.length := (List.getElem?_eq_some_iff.1 hi).1
    rw [← h7, List.getElem?_take, if_pos (by omega)] at e
    rw [Nat.zero_add]
    exact (show Blk w g cur 47 from hg).cell (by simpa using e)
/- the seats of a state: two stores into one of them -/
theorem WS.set2 {w : World} {base g gs k : Nat} {p : WP} {x : KW} {y : K4} (h : WS w base g p x) (hp : p.s = some ⟨gs, 0, none⟩) (hk : x.se[k]? = some y) (a b : Int) : WS ((w.setCell ⟨gs, k * 4 + 1, none⟩ (.int .i64 a)).setCell ⟨gs, k * 4 + 2, none⟩ (.int .i64 b)) base g p ⟨x.t, x.s, x.us, x.fs, x.fa, x.se.set k ⟨y.c0, a, b, y.c3⟩, x.oo⟩ := by
  have hS := h.o.s
  rw [hp] at hS
  obtain ⟨cs, hb⟩ := hS.blk (q := gs) rfl
  have hne : g ≠ gs := bk_ne h.b hb (by decide)
  have hb1 := hb.set (k * 4 + 1) (.int .i64 a)
  refine ⟨?_, ⟨(h.o.u.setB hb (by decide) _).setB hb1 (by decide) _, (h.o.f.setB hb (by decide) _).setB hb1 (by decide) _, (h.o.a.setB hb (by decide) _).setB hb1 (by decide) _, ?_, (h.o.o.setB hb (by decide) _).setB hb1 (by decide) _⟩, h.bg⟩
  · show Blk _ g #[.slice p.u x.us.length p.uc, .slice p.f x.fs.length p.fc, .int .i64 x.t, .int .i64 x.s, .slice p.a x.fa.length p.ac, .slice p.s (x.se.set k ⟨y.c0, a, b, y.c3⟩).length p.sc, .slice p.o x.oo.length p.oc] _
    rw [List.length_set]
    exact (h.b.setOther (a := ⟨gs, k * 4 + 1, none⟩) hne _).setOther (a := ⟨gs, k * 4 + 2, none⟩) hne _
  · show SlS _ _ (.slice p.s (x.se.set k ⟨y.c0, a, b, y.c3⟩).length p.sc) _
    rw [hp]
    exact hS.set2 hk a b
/- other seats in a state, behind a call that may have turned the seats' own row -/
theorem WS.putQ {w w' : World} {base g : Nat} {p : WP} {x : KW} (h : WS w base g p x) (k : w.grownBy w' (Value.slice p.s x.se.length p.sc).ownBlock) {q : Option Addr} {c : Nat} {l : List K4} (hs : SlS w' base (.slice q l.length c) l) :
    WS (w'.setCell ⟨g, 5, none⟩ (.slice q l.length c)) base g ⟨p.u, p.uc, p.f, p.fc, p.a, p.ac, q, c, p.o, p.oc⟩ ⟨x.t, x.s, x.us, x.fs, x.fa, l, x.oo⟩ := by
  have r := h.o.s.rowT
  have b' := h.b.grw k r (by decide)
  exact ⟨b'.set 5 (.slice q l.length c), ⟨(h.o.u.grw k r (by decide)).setB b' (by decide) _, (h.o.f.grw k r (by decide)).setB b' (by decide) _, (h.o.a.grw k r (by decide)).setB b' (by decide) _, hs.setB b' (by decide) _, (h.o.o.grw k r (by decide)).setB b' (by decide) _⟩, h.bg⟩
set_option maxRecDepth 20000 in
set_option maxHeartbeats 32000000 in
theorem implTakeSeat (p : WP) (x : KW) (w : World) (h : InW w p x) (ci fj mk : Int) :
    Calls Try.prog 6 #[.agg (p.v x), .int .i64 ci, .int .i64 fj, .int .i64 mk] w fun e w' => ∃ q, e = .returned (.agg (r8 (tsC hasI x ci fj mk) q (tsX hasI x ci fj mk))) ∧ OwW w' w.heap.size q (tsX hasI x ci fj mk) ∧ Below w.heap.size w w' := by
  obtain ⟨t, s, us, fs, fa, se, oo⟩ := x
  obtain ⟨u, uc, f, fc, a, ac, q, qc, r, rc⟩ := p
  obtain ⟨W, HW⟩ : ∃ W, Hid (W = (w.alloc (.cells (wv t s u us.length uc f fs.length fc a fa.length ac q se.length qc r oo.length rc) 32)).alloc (.cells z8 36)) := ⟨_, rfl⟩
  have B1 : Below w.heap.size w W := by rw [HW.out]; exact ((Below.refl _ _).alloc (Nat.le_refl _) _).alloc (by rw [size_new]; omega) _
  have P : Bk W w.heap.size (wv t s u us.length uc f fs.length fc a fa.length ac q se.length qc r oo.length rc) 32 := by rw [HW.out]; exact (Bk.new w (wv t s u us.length uc f fs.length fc a fa.length ac q se.length qc r oo.length rc) 32).alloc _
  have R : Blk W (w.heap.size + 1) z8 36 := by rw [HW.out]; have h := Blk.new (w.alloc (.cells (wv t s u us.length uc f fs.length fc a fa.length ac q se.length qc r oo.length rc) 32)) z8 36; rw [size_new] at h; exact h
  have HN : Hid (InW W ⟨u, uc, f, fc, a, ac, q, qc, r, rc⟩ ⟨t, s, us, fs, fa, se, oo⟩) := h.later B1
  have HR : Hid (Blk W (w.heap.size + 1) z8 36) := R
  have hB := B1.size
  show Calls Try.prog 6 #[.agg (wv t s u us.length uc f fs.length fc a fa.length ac q se.length qc r oo.length rc), .int .i64 ci, .int .i64 fj, .int .i64 mk] w _
  have cF := fun W' (h : Below W.heap.size W W') => implWorldFault ⟨u, uc, f, fc, a, ac, q, qc, r, rc⟩ ⟨t, s, us, fs, fa, se, oo⟩ HN.out.o1 HN.out.o2 W' (HN.out.later h).arg
  replace cF : ∀ W', Below W.heap.size W W' → Calls Try.prog 18 #[.agg (wv t s u us.length uc f fs.length fc a fa.length ac q se.length qc r oo.length rc)] W' fun e w' => e = .returned (.int .i64 (wf hasI ⟨t, s, us, fs, fa, se, oo⟩)) ∧ Below W'.heap.size W' w' := cF
  have cN := fun (e : GdW hasI ⟨t, s, us, fs, fa, se, oo⟩) W' (h : Below W.heap.size W W') => newWorldState_c ⟨u, uc, f, fc, a, ac, q, qc, r, rc⟩ ⟨t, s, us, fs, fa, se, oo⟩ (Gd8 e.b).1 (Gd8 e.b).2 (Nat.le_of_eq e.a4) e.s6 e.o6 W' (HN.out.later h)
  replace cN : GdW hasI ⟨t, s, us, fs, fa, se, oo⟩ → ∀ W', Below W.heap.size W W' → Calls Try.prog 28 #[.agg (wv t s u us.length uc f fs.length fc a fa.length ac q se.length qc r oo.length rc)] W' fun e w' => ∃ g p', e = .returned (.pointer (some ⟨g, 0, none⟩)) ∧ WS w' W'.heap.size g p' ⟨t, s, us, fs, fa, se, oo⟩ ∧ Below W'.heap.size W' w' := cN
  have HC : Hid (tsC hasI ⟨t, s, us, fs, fa, se, oo⟩ ci fj mk = if (wf hasI ⟨t, s, us, fs, fa, se, oo⟩ == 0) = false then wf hasI ⟨t, s, us, fs, fa, se, oo⟩ else if (inb ci 0 5 && (inb fj 0 3 && inb mk 0 2047)) = false then 3 else if goneA fa fj = true then 8 else if sTh se ci = false ∧ 6 ≤ se.length then 7 else 0) := rfl
  have HX : Hid (tsX hasI ⟨t, s, us, fs, fa, se, oo⟩ ci fj mk = if (tsC hasI ⟨t, s, us, fs, fa, se, oo⟩ ci fj mk == 0) = true then ⟨t, s, us, fs, fa, tsL se ci fj mk, oo⟩ else kz) := rfl
  have HG : Hid (wf hasI ⟨t, s, us, fs, fa, se, oo⟩ = 0 → GdW hasI ⟨t, s, us, fs, fa, se, oo⟩) := (gdW_iff hasI _).1
  generalize tsC hasI ⟨t, s, us, fs, fa, se, oo⟩ ci fj mk = C at HC HX ⊢
  generalize tsX hasI ⟨t, s, us, fs, fa, se, oo⟩ ci fj mk = X at HX ⊢
  generalize wf hasI ⟨t, s, us, fs, fa, se, oo⟩ = F at cF HC HG
  obtain ⟨mu, Hmu⟩ : ∃ m, Hid (us.length = m) := ⟨_, rfl⟩
  obtain ⟨mf, Hmf⟩ : ∃ m, Hid (fs.length = m) := ⟨_, rfl⟩
  obtain ⟨ma, Hma⟩ : ∃ m, Hid (fa.length = m) := ⟨_, rfl⟩
  obtain ⟨ms, Hms⟩ : ∃ m, Hid (se.length = m) := ⟨_, rfl⟩
  obtain ⟨mo, Hmo⟩ : ∃ m, Hid (oo.length = m) := ⟨_, rfl⟩
  rw [Hmu.out, Hmf.out, Hma.out, Hms.out, Hmo.out] at P HW cF cN ⊢
  rw [Hms.out] at HC
  clear h R
  have keep : ∀ w', Below W.heap.size W w' → w'.cell? ⟨w.heap.size, 0, none⟩ = some (.int .i64 t) ∧ w'.cell? ⟨w.heap.size, 1, none⟩ = some (.int .i64 s) ∧ w'.cell? ⟨w.heap.size, 2, none⟩ = some (.slice u mu uc) ∧ w'.cell? ⟨w.heap.size, 3, none⟩ = some (.slice f mf fc) ∧ w'.cell? ⟨w.heap.size, 4, none⟩ = some (.slice a ma ac) ∧ w'.cell? ⟨w.heap.size, 5, none⟩ = some (.slice q ms qc) ∧ w'.cell? ⟨w.heap.size, 6, none⟩ = some (.slice r mo rc) ∧ w.heap.size < w'.heap.size := fun w' hb => by
    have q := P.below hb
    exact ⟨q.cell rfl, q.cell rfl, q.cell rfl, q.cell rfl, q.cell rfl, q.cell rfl, q.cell rfl, q.lt⟩
  have Bc : Below W.heap.size W W := Below.refl _ _
  have HCC : Hid (C ≠ 0 → X = kz) := fun e => by rw [HX.out, if_neg (by simpa using e)]
  have q1 := fun w => isClientS_c ci w
  have q2 := fun w => isSide_c fj w
  have q3 := fun w => isMask_c mk w
  obtain ⟨p0, p1, p2, p3, p4, p5, p6, pl⟩ := keep _ Bc
  cases e2 : F == 0
  · have n7 : (F != 0) = true := by simp only [bne, e2]; rfl
    have HR1 : Hid (C = F ∧ X = kz) := by
      have e : C = F := by rw [HC.out, if_pos e2]
      exact ⟨e, HCC.out (by rw [e]; simpa using e2)⟩
    clear HC HX HG cN e2 HCC q1 q2 q3
    go_enter Try.func6, Try.ntmps6
    go_upto_region 1 with fail
    rw [← HW.out]
    go_wp2_with fail
    refine (cF _ Bc).mono ?_
    rintro e wn ⟨rfl, kn⟩
    have Bc := Bc.trans (kn.mono Bc.size)
    clear p0 p1 p2 p3 p4 p5 p6 pl
    have R1 := HR.out.below Bc
    obtain ⟨r0, r1, r2, r3, r4, r5, r6, r7, y0, y1, y2, y3, y4, y5, y6, y7, rl⟩ := R1.z8
    have Fz : Blk _ (w.heap.size + 1) (r8 F wpz kz) 36 := set8_blk R1 (.int .i64 F) (.int .i64 0) (.int .i64 0) (.slice none 0 0) (.slice none 0 0) (.slice none 0 0) (.slice none 0 0) (.slice none 0 0)
    have BE := set8_below (B1.trans (Bc.mono hB)) (show w.heap.size ≤ w.heap.size + 1 by omega) (.int .i64 F) (.int .i64 0) (.int .i64 0) (.slice none 0 0) (.slice none 0 0) (.slice none 0 0) (.slice none 0 0) (.slice none 0 0)
    clear R1
    go_wp2_with fail
    rw [HR1.out.1, HR1.out.2]
    exact bodyPost_ret (v := .agg (r8 F wpz kz)) (result8 Try.results6 Fz _ rfl) rfl ⟨wpz, rfl, OwW.z _ _, BE⟩
  · obtain rfl : F = 0 := by simpa using e2
    have G := HG.out rfl
    have cN := cN G
    replace HC : Hid (C = if (inb ci 0 5 && (inb fj 0 3 && inb mk 0 2047)) = false then 3 else if goneA fa fj = true then 8 else if sTh se ci = false ∧ 6 ≤ ms then 7 else 0) := by show _ = _; rw [HC.out, if_neg (by simp)]
    have h4 : ma = 4 := by rw [← Hma.out]; exact G.a4
    subst h4
    have hm6 : ms ≤ 6 := by rw [← Hms.out]; exact G.s6
    have HS : Hid (ArgS W q se) := HN.out.arg.s
    have cP := fun W' (h : Below W.heap.size W W') => seatPlace_c q ms qc se ci Hms.out hm6 (gd_rs G) W' (HS.out.later h)
    have HRs : Hid (RsP se) := gd_rs G
    clear HG e2 G
    go_enter Try.func6, Try.ntmps6
    go_upto_region 1 with fail
    rw [← HW.out]
    go_wp2_with fail
    refine (cF _ Bc).mono ?_
    rintro e wn ⟨rfl, kn⟩
    have Bc := Bc.trans (kn.mono Bc.size)
    clear p0 p1 p2 p3 p4 p5 p6 pl
    obtain ⟨p0, p1, p2, p3, p4, p5, p6, pl⟩ := keep _ Bc
    cases i1 : inb ci 0 5
    · rw [i1] at q1
      have HR1 : Hid (C = 3 ∧ X = kz) := by
        have e : C = 3 := by rw [HC.out, i1]; rfl
        exact ⟨e, HCC.out (by rw [e]; decide)⟩
      clear cN cP
      have R1 := HR.out.below Bc
      obtain ⟨r0, r1, r2, r3, r4, r5, r6, r7, y0, y1, y2, y3, y4, y5, y6, y7, rl⟩ := R1.z8
      have Fz : Blk _ (w.heap.size + 1) (r8 3 wpz kz) 36 := set8_blk R1 (.int .i64 3) (.int .i64 0) (.int .i64 0) (.slice none 0 0) (.slice none 0 0) (.slice none 0 0) (.slice none 0 0) (.slice none 0 0)
      have BE := set8_below (B1.trans (Bc.mono hB)) (show w.heap.size ≤ w.heap.size + 1 by omega) (.int .i64 3) (.int .i64 0) (.int .i64 0) (.slice none 0 0) (.slice none 0 0) (.slice none 0 0) (.slice none 0 0) (.slice none 0 0)
      clear R1
      go_wp2_with (first | (go_at_call 24; refine (q1 _).mono ?_; rintro e w7 ⟨rfl, hw7⟩; obtain rfl := hw7.symm) | (go_at_call 25; refine (q2 _).mono ?_; rintro e w7 ⟨rfl, hw7⟩; obtain rfl := hw7.symm) | (go_at_call 26; refine (q3 _).mono ?_; rintro e w7 ⟨rfl, hw7⟩; obtain rfl := hw7.symm))
      rw [HR1.out.1, HR1.out.2]
      exact bodyPost_ret (v := .agg (r8 3 wpz kz)) (result8 Try.results6 Fz _ rfl) rfl ⟨wpz, rfl, OwW.z _ _, BE⟩
    rw [i1] at q1
    cases i2 : inb fj 0 3
    · rw [i2] at q2
      have HR1 : Hid (C = 3 ∧ X = kz) := by
        have e : C = 3 := by rw [HC.out, i1, i2]; rfl
        exact ⟨e, HCC.out (by rw [e]; decide)⟩
      clear cN cP
      have R1 := HR.out.below Bc
      obtain ⟨r0, r1, r2, r3, r4, r5, r6, r7, y0, y1, y2, y3, y4, y5, y6, y7, rl⟩ := R1.z8
      have Fz : Blk _ (w.heap.size + 1) (r8 3 wpz kz) 36 := set8_blk R1 (.int .i64 3) (.int .i64 0) (.int .i64 0) (.slice none 0 0) (.slice none 0 0) (.slice none 0 0) (.slice none 0 0) (.slice none 0 0)
      have BE := set8_below (B1.trans (Bc.mono hB)) (show w.heap.size ≤ w.heap.size + 1 by omega) (.int .i64 3) (.int .i64 0) (.int .i64 0) (.slice none 0 0) (.slice none 0 0) (.slice none 0 0) (.slice none 0 0) (.slice none 0 0)
      clear R1
      go_wp2_with (first | (go_at_call 24; refine (q1 _).mono ?_; rintro e w7 ⟨rfl, hw7⟩; obtain rfl := hw7.symm) | (go_at_call 25; refine (q2 _).mono ?_; rintro e w7 ⟨rfl, hw7⟩; obtain rfl := hw7.symm) | (go_at_call 26; refine (q3 _).mono ?_; rintro e w7 ⟨rfl, hw7⟩; obtain rfl := hw7.symm))
      rw [HR1.out.1, HR1.out.2]
      exact bodyPost_ret (v := .agg (r8 3 wpz kz)) (result8 Try.results6 Fz _ rfl) rfl ⟨wpz, rfl, OwW.z _ _, BE⟩
    rw [i2] at q2
    cases i3 : inb mk 0 2047
    · rw [i3] at q3
      have HR1 : Hid (C = 3 ∧ X = kz) := by
        have e : C = 3 := by rw [HC.out, i1, i2, i3]; rfl
        exact ⟨e, HCC.out (by rw [e]; decide)⟩
      clear cN cP
      have R1 := HR.out.below Bc
      obtain ⟨r0, r1, r2, r3, r4, r5, r6, r7, y0, y1, y2, y3, y4, y5, y6, y7, rl⟩ := R1.z8
      have Fz : Blk _ (w.heap.size + 1) (r8 3 wpz kz) 36 := set8_blk R1 (.int .i64 3) (.int .i64 0) (.int .i64 0) (.slice none 0 0) (.slice none 0 0) (.slice none 0 0) (.slice none 0 0) (.slice none 0 0)
      have BE := set8_below (B1.trans (Bc.mono hB)) (show w.heap.size ≤ w.heap.size + 1 by omega) (.int .i64 3) (.int .i64 0) (.int .i64 0) (.slice none 0 0) (.slice none 0 0) (.slice none 0 0) (.slice none 0 0) (.slice none 0 0)
      clear R1
      go_wp2_with (first | (go_at_call 24; refine (q1 _).mono ?_; rintro e w7 ⟨rfl, hw7⟩; obtain rfl := hw7.symm) | (go_at_call 25; refine (q2 _).mono ?_; rintro e w7 ⟨rfl, hw7⟩; obtain rfl := hw7.symm) | (go_at_call 26; refine (q3 _).mono ?_; rintro e w7 ⟨rfl, hw7⟩; obtain rfl := hw7.symm))
      rw [HR1.out.1, HR1.out.2]
      exact bodyPost_ret (v := .agg (r8 3 wpz kz)) (result8 Try.results6 Fz _ rfl) rfl ⟨wpz, rfl, OwW.z _ _, BE⟩
    rw [i3] at q3
    replace HC : Hid (C = if goneA fa fj = true then 8 else if sTh se ci = false ∧ 6 ≤ ms then 7 else 0) := by show _ = _; rw [HC.out, i1, i2, i3]; rfl
    obtain ⟨j0, j3⟩ := inb_i i2
    obtain ⟨y, hy, hyg, _⟩ := side_at Hma.out j0 j3
    have j4 : fj < 4 := by omega
    have Hy : Hid (fa[fj.toNat]? = some y) := hy
    have keepY : ∀ w', Below W.heap.size W w' → ∃ b o, a = some ⟨b, o, none⟩ ∧ A1 w' b (o + fj.toNat * 3) y := fun w' hb => by
      obtain ⟨b, o, hpa, hbl, hat⟩ := (HN.out.later hb).arg.a.atP Hy.out
      exact ⟨b, o, hpa, hat.one hbl Hy.out⟩
    rw [hyg] at HC
    clear i1 i2 i3 hy hyg
    obtain ⟨b, o, rfl, x0, x1, x2, xl⟩ := keepY _ Bc
    cases eg : y.c1
    case true =>
      rw [eg] at HC x1
      have HR1 : Hid (C = 8 ∧ X = kz) := by
        have e : C = 8 := by rw [HC.out]; rfl
        exact ⟨e, HCC.out (by rw [e]; decide)⟩
      clear cN cP keepY
      have R1 := HR.out.below Bc
      obtain ⟨r0, r1, r2, r3, r4, r5, r6, r7, y0, y1, y2, y3, y4, y5, y6, y7, rl⟩ := R1.z8
      have Fz : Blk _ (w.heap.size + 1) (r8 8 wpz kz) 36 := set8_blk R1 (.int .i64 8) (.int .i64 0) (.int .i64 0) (.slice none 0 0) (.slice none 0 0) (.slice none 0 0) (.slice none 0 0) (.slice none 0 0)
      have BE := set8_below (B1.trans (Bc.mono hB)) (show w.heap.size ≤ w.heap.size + 1 by omega) (.int .i64 8) (.int .i64 0) (.int .i64 0) (.slice none 0 0) (.slice none 0 0) (.slice none 0 0) (.slice none 0 0) (.slice none 0 0)
      clear R1
      go_wp2_with (first | (go_at_call 24; refine (q1 _).mono ?_; rintro e w7 ⟨rfl, hw7⟩; obtain rfl := hw7.symm) | (go_at_call 25; refine (q2 _).mono ?_; rintro e w7 ⟨rfl, hw7⟩; obtain rfl := hw7.symm) | (go_at_call 26; refine (q3 _).mono ?_; rintro e w7 ⟨rfl, hw7⟩; obtain rfl := hw7.symm))
      rw [HR1.out.1, HR1.out.2]
      exact bodyPost_ret (v := .agg (r8 8 wpz kz)) (result8 Try.results6 Fz _ rfl) rfl ⟨wpz, rfl, OwW.z _ _, BE⟩
    case false =>
      rw [eg] at HC x1
      replace HC : Hid (C = if sTh se ci = false ∧ 6 ≤ ms then 7 else 0) := by show _ = _; rw [HC.out]; rfl
      go_wp2_with (first | (go_at_call 24; refine (q1 _).mono ?_; rintro e w7 ⟨rfl, hw7⟩; obtain rfl := hw7.symm) | (go_at_call 25; refine (q2 _).mono ?_; rintro e w7 ⟨rfl, hw7⟩; obtain rfl := hw7.symm) | (go_at_call 26; refine (q3 _).mono ?_; rintro e w7 ⟨rfl, hw7⟩; obtain rfl := hw7.symm))
      refine (cP _ Bc).mono ?_
      rintro e w4 ⟨rfl, k4⟩
      have Bc := Bc.trans (k4.mono Bc.size)
      clear x0 x1 x2 xl keepY k4 cP q1 q2 q3
      clear p0 p1 p2 p3 p4 p5 p6 pl
      obtain ⟨p0, p1, p2, p3, p4, p5, p6, pl⟩ := keep _ Bc
      have hple : sPl se ci ≤ ms := by rw [← Hms.out]; exact sPl_le ci se
      cases th : sTh se ci
      · rw [th] at HC
        by_cases h6 : 6 ≤ ms
        · have h66 : ms = 6 := by omega
          subst h66
          have HR1 : Hid (C = 7 ∧ X = kz) := by
            have e : C = 7 := by rw [HC.out, if_pos ⟨rfl, Nat.le_refl _⟩]
            exact ⟨e, HCC.out (by rw [e]; decide)⟩
          clear cN
          have R1 := HR.out.below Bc
          obtain ⟨r0, r1, r2, r3, r4, r5, r6, r7, y0, y1, y2, y3, y4, y5, y6, y7, rl⟩ := R1.z8
          have Fz : Blk _ (w.heap.size + 1) (r8 7 wpz kz) 36 := set8_blk R1 (.int .i64 7) (.int .i64 0) (.int .i64 0) (.slice none 0 0) (.slice none 0 0) (.slice none 0 0) (.slice none 0 0) (.slice none 0 0)
          have BE := set8_below (B1.trans (Bc.mono hB)) (show w.heap.size ≤ w.heap.size + 1 by omega) (.int .i64 7) (.int .i64 0) (.int .i64 0) (.slice none 0 0) (.slice none 0 0) (.slice none 0 0) (.slice none 0 0) (.slice none 0 0)
          clear R1
          go_wp2_with fail
          rw [HR1.out.1, HR1.out.2]
          exact bodyPost_ret (v := .agg (r8 7 wpz kz)) (result8 Try.results6 Fz _ rfl) rfl ⟨wpz, rfl, OwW.z _ _, BE⟩
        · have h6' : ¬ ((ms : Int) = 6) := by omega
          have h6b : ((ms : Int) == 6) = false := by simpa using h6'
          have HR2 : Hid (C = 0 ∧ X = ⟨t, s, us, fs, fa, tsL se ci fj mk, oo⟩) := by
            have e : C = 0 := by rw [HC.out, if_neg (by omega)]
            exact ⟨e, by rw [HX.out, e]; rfl⟩
          go_wp2_with fail
          refine (cN _ Bc).mono ?_
          rintro e w8 ⟨g, p', rfl, Ws, k8⟩
          obtain ⟨pu9, uc9, pf9, fc9, pa9, ac9, ps0, sc0, po9, oc9⟩ := p'
          obtain ⟨base, Hbase⟩ : ∃ base, Hid (base = w4.heap.size) := ⟨_, rfl⟩
          have hbase : W.heap.size ≤ base := by rw [Hbase.out]; exact Bc.size
          have hb8 : base ≤ w8.heap.size := by rw [Hbase.out]; exact k8.size
          have B8 := Bc.trans (k8.mono Bc.size)
          have Ww0 : WS w8 base g ⟨pu9, uc9, pf9, fc9, pa9, ac9, ps0, sc0, po9, oc9⟩ ⟨t, s, us, fs, fa, se, oo⟩ := by rw [Hbase.out]; exact Ws
          have cI := insertS_c (.slice ps0 se.length sc0) se (sPl se ci) ⟨ci, 0, 0, 0⟩ base w8 Ww0.o.s (by rw [Hms.out]; exact hm6) (sPl_le ci se) hb8
          obtain ⟨LL, HLe⟩ : ∃ LL, Hid (LL = se.take (sPl se ci) ++ (⟨ci, 0, 0, 0⟩ : K4) :: se.drop (sPl se ci)) := ⟨_, rfl⟩
          rw [← HLe.out] at cI
          have hple2 : sPl se ci ≤ se.length := sPl_le ci se
          have htl : (se.take (sPl se ci)).length = sPl se ci := by rw [List.length_take]; omega
          obtain ⟨k, Hk⟩ : ∃ k, Hid (k = sPl se ci) := ⟨_, rfl⟩
          obtain ⟨z, Hz⟩ : ∃ z : K4, Hid (z = ⟨ci, 0, 0, 0⟩) := ⟨_, rfl⟩
          have hk : LL[k]? = some z := by rw [HLe.out, Hk.out, Hz.out, List.getElem?_append_right (by omega), htl]; simp
          have HLL : Hid (LL.set k ⟨z.c0, fj, mk, z.c3⟩ = tsL se ci fj mk) := by
            show _ = _
            unfold tsL
            rw [if_neg (by rw [th]; simp), HLe.out, Hk.out, Hz.out, List.set_append_right _ _ (by omega), htl]
            simp
          have e50 : w8.cell? ⟨g, 5, none⟩ = some (.slice ps0 ms sc0) := by have := Ww0.b.cell (i := 5) rfl; dsimp only at this; rw [Hms.out] at this; exact this
          have gl := Ww0.b.lt
          rw [Hms.out] at cI
          clear Ws k8 cN htl hple2
          go_wp2_with fail
          refine cI.mono ?_
          rintro e w9 ⟨v', rfl, S9, G9⟩
          obtain ⟨psx, scx, rfl⟩ := S9.fm
          have G9' : w8.grownBy w9 (Value.slice ps0 se.length sc0).ownBlock := by rw [Hms.out]; exact G9
          have Wb9 := Ww0.b.grw G9' Ww0.o.s.rowT (by decide)
          have g5 := Wb9.cell (i := 5) rfl
          have g5f := Wb9.frozen 5
          have g5l := Wb9.lt
          have Ww1 := Ww0.putQ G9' S9
          have B9 : Below W.heap.size W w9 := B8.grown G9' (Nat.le_trans hbase hb8) (fun q9 hq9 => Nat.le_trans hbase (Ww0.o.s.lt q9 hq9).1)
          have Bq1 := bel_set B9 g 5 (Nat.le_trans hbase Ww0.bg) (.slice psx LL.length scx)
          obtain ⟨wq, Hwq⟩ : ∃ wq, Hid (wq = w9.setCell ⟨g, 5, none⟩ (.slice psx LL.length scx)) := ⟨_, rfl⟩
          have Ww : WS wq base g ⟨pu9, uc9, pf9, fc9, pa9, ac9, psx, scx, po9, oc9⟩ ⟨t, s, us, fs, fa, LL, oo⟩ := by rw [Hwq.out]; exact Ww1
          have Bq : Below W.heap.size W wq := by rw [Hwq.out]; exact Bq1
          clear cI S9 G9 G9' Wb9 Ww1 B9 Bq1 B8 Ww0 e50 gl Bc
          go_upto_region 14 with fail
          rw [← Hwq.out, ← Hk.out]
          clear g5 g5f g5l
          obtain ⟨nn, Hnn⟩ : ∃ nn, Hid (LL.length = nn) := ⟨_, rfl⟩
          obtain ⟨gs, hps, hgb, hgsl, hat, _, hfz⟩ := (show SlS wq base (.slice psx LL.length scx) LL from Ww.o.s).row0 (by have := (List.getElem?_eq_some_iff.1 hk).1; omega)
          subst hps
          have hkn : k < nn := by rw [← Hnn.out]; exact (List.getElem?_eq_some_iff.1 hk).1
          have hkI : (k : Int) < (nn : Int) := by omega
          obtain ⟨y0, y1, y2, y3, yl⟩ := hat.one hgsl hk
          rw [Nat.zero_add] at y0 y1 y2 y3
          have e5 : wq.cell? ⟨g, 5, none⟩ = some (.slice (some ⟨gs, 0, none⟩) nn scx) := by have := Ww.b.cell (i := 5) rfl; dsimp only at this; rw [Hnn.out] at this; exact this
          have gl := Ww.b.lt
          have f1 := hfz (k * 4 + 1)
          have f2 := hfz (k * 4 + 2)
          have HW2 : Hid _ := (Ww.set2 rfl hk fj mk).drew
          have HB2 : Hid (Below W.heap.size W ((wq.setCell ⟨gs, k * 4 + 1, none⟩ (.int .i64 fj)).setCell ⟨gs, k * 4 + 2, none⟩ (.int .i64 mk)).drew) := (bel_set (bel_set Bq gs (k * 4 + 1) (Nat.le_trans hbase hgb) _) gs (k * 4 + 2) (Nat.le_trans hbase hgb) _).drew
          clear hat hfz hk
          go_upto_region 14 with fail
          go_region
          all_goals
            have W2 := HW2.out
            have B2 := HB2.out
            clear y0 y1 y2 y3 e5 f1 f2 HW2 HB2 gl
            rw [HLL.out] at W2
            obtain ⟨Wx, HWx⟩ : ∃ Wx, Hid (Wx = ((wq.setCell ⟨gs, k * 4 + 1, none⟩ (.int .i64 fj)).setCell ⟨gs, k * 4 + 2, none⟩ (.int .i64 mk)).drew) := ⟨_, rfl⟩
            rw [← HWx.out] at W2 B2 ⊢
            have cE := result_c g base _ _ _ W2
            go_wp2_with fail
            refine cE.mono ?_
            rintro e w8 ⟨rfl, O8, k8⟩
            have Bc := B2.trans (k8.mono B2.size)
            clear cE W2 B2
            have R1 := HR.out.below Bc
            obtain ⟨r0, r1, r2, r3, r4, r5, r6, r7, y0, y1, y2, y3, y4, y5, y6, y7, rl⟩ := R1.z8
            have Fz := set8_blk R1 (.int .i64 0) (.int .i64 t) (.int .i64 s) (.slice pu9 us.length uc9) (.slice pf9 fs.length fc9) (.slice pa9 fa.length ac9) (.slice (some ⟨gs, 0, none⟩) (tsL se ci fj mk).length scx) (.slice po9 oo.length oc9)
            have Fo := (O8.of_block R1 (by decide) (by decide) (by decide) (by decide) (by decide) (set8_other (W := w8) (g := w.heap.size + 1) (.int .i64 0) (.int .i64 t) (.int .i64 s) (.slice pu9 us.length uc9) (.slice pf9 fs.length fc9) (.slice pa9 fa.length ac9) (.slice (some ⟨gs, 0, none⟩) (tsL se ci fj mk).length scx) (.slice po9 oo.length oc9))).mono (show w.heap.size ≤ base by omega)
            have BE := set8_below (B1.trans (Bc.mono hB)) (show w.heap.size ≤ w.heap.size + 1 by omega) (.int .i64 0) (.int .i64 t) (.int .i64 s) (.slice pu9 us.length uc9) (.slice pf9 fs.length fc9) (.slice pa9 fa.length ac9) (.slice (some ⟨gs, 0, none⟩) (tsL se ci fj mk).length scx) (.slice po9 oo.length oc9)
            clear R1 O8
            go_wp2_with fail
            rw [HR2.out.1, HR2.out.2]
            exact bodyPost_ret (v := .agg (r8 0 ⟨pu9, uc9, pf9, fc9, pa9, ac9, (some ⟨gs, 0, none⟩), scx, po9, oc9⟩ ⟨t, s, us, fs, fa, (tsL se ci fj mk), oo⟩)) (result8 Try.results6 Fz _ rfl) rfl ⟨_, rfl, Fo, BE⟩
      · rw [th] at HC
        have HR2 : Hid (C = 0 ∧ X = ⟨t, s, us, fs, fa, tsL se ci fj mk, oo⟩) := by
          have e : C = 0 := by rw [HC.out, if_neg (by simp)]
          exact ⟨e, by rw [HX.out, e]; rfl⟩
        go_wp2_with fail
        refine (cN _ Bc).mono ?_
        rintro e wq ⟨g, p', rfl, Ws, k8⟩
        obtain ⟨pu9, uc9, pf9, fc9, pa9, ac9, psx, scx, po9, oc9⟩ := p'
        obtain ⟨base, Hbase⟩ : ∃ base, Hid (base = w4.heap.size) := ⟨_, rfl⟩
        have hbase : W.heap.size ≤ base := by rw [Hbase.out]; exact Bc.size
        have Bq := Bc.trans (k8.mono Bc.size)
        have Ww : WS wq base g ⟨pu9, uc9, pf9, fc9, pa9, ac9, psx, scx, po9, oc9⟩ ⟨t, s, us, fs, fa, se, oo⟩ := by rw [Hbase.out]; exact Ws
        obtain ⟨hk, hzc⟩ := sPl_found HRs.out th
        obtain ⟨k, Hk⟩ : ∃ k, Hid (k = sPl se ci) := ⟨_, rfl⟩
        obtain ⟨z, Hz⟩ : ∃ z, Hid (z = sGet se ci) := ⟨_, rfl⟩
        have HLL : Hid (se.set k ⟨z.c0, fj, mk, z.c3⟩ = tsL se ci fj mk) := by
          show _ = _
          unfold tsL
          rw [if_pos th, Hk.out, Hz.out, hzc]
        rw [← Hk.out, ← Hz.out] at hk
        rw [← Hk.out]
        obtain ⟨LL, HLe⟩ : ∃ LL, LL = se := ⟨_, rfl⟩
        rw [← HLe] at Ww hk
        replace HLL : Hid (LL.set k ⟨z.c0, fj, mk, z.c3⟩ = tsL se ci fj mk) := by rw [HLe]; exact HLL
        clear Ws k8 cN hzc HLe Bc
        obtain ⟨nn, Hnn⟩ : ∃ nn, Hid (LL.length = nn) := ⟨_, rfl⟩
        obtain ⟨gs, hps, hgb, hgsl, hat, _, hfz⟩ := (show SlS wq base (.slice psx LL.length scx) LL from Ww.o.s).row0 (by have := (List.getElem?_eq_some_iff.1 hk).1; omega)
        subst hps
        have hkn : k < nn := by rw [← Hnn.out]; exact (List.getElem?_eq_some_iff.1 hk).1
        have hkI : (k : Int) < (nn : Int) := by omega
        obtain ⟨y0, y1, y2, y3, yl⟩ := hat.one hgsl hk
        rw [Nat.zero_add] at y0 y1 y2 y3
        have e5 : wq.cell? ⟨g, 5, none⟩ = some (.slice (some ⟨gs, 0, none⟩) nn scx) := by have := Ww.b.cell (i := 5) rfl; dsimp only at this; rw [Hnn.out] at this; exact this
        have gl := Ww.b.lt
        have f1 := hfz (k * 4 + 1)
        have f2 := hfz (k * 4 + 2)
        have HW2 : Hid _ := (Ww.set2 rfl hk fj mk).drew
        have HB2 : Hid (Below W.heap.size W ((wq.setCell ⟨gs, k * 4 + 1, none⟩ (.int .i64 fj)).setCell ⟨gs, k * 4 + 2, none⟩ (.int .i64 mk)).drew) := (bel_set (bel_set Bq gs (k * 4 + 1) (Nat.le_trans hbase hgb) _) gs (k * 4 + 2) (Nat.le_trans hbase hgb) _).drew
        clear hat hfz hk
        go_upto_region 14 with fail
        go_region
        all_goals
          have W2 := HW2.out
          have B2 := HB2.out
          clear y0 y1 y2 y3 e5 f1 f2 HW2 HB2 gl
          rw [HLL.out] at W2
          obtain ⟨Wx, HWx⟩ : ∃ Wx, Hid (Wx = ((wq.setCell ⟨gs, k * 4 + 1, none⟩ (.int .i64 fj)).setCell ⟨gs, k * 4 + 2, none⟩ (.int .i64 mk)).drew) := ⟨_, rfl⟩
          rw [← HWx.out] at W2 B2 ⊢
          have cE := result_c g base _ _ _ W2
          go_wp2_with fail
          refine cE.mono ?_
          rintro e w8 ⟨rfl, O8, k8⟩
          have Bc := B2.trans (k8.mono B2.size)
          clear cE W2 B2
          have R1 := HR.out.below Bc
          obtain ⟨r0, r1, r2, r3, r4, r5, r6, r7, y0, y1, y2, y3, y4, y5, y6, y7, rl⟩ := R1.z8
          have Fz := set8_blk R1 (.int .i64 0) (.int .i64 t) (.int .i64 s) (.slice pu9 us.length uc9) (.slice pf9 fs.length fc9) (.slice pa9 fa.length ac9) (.slice (some ⟨gs, 0, none⟩) (tsL se ci fj mk).length scx) (.slice po9 oo.length oc9)
          have Fo := (O8.of_block R1 (by decide) (by decide) (by decide) (by decide) (by decide) (set8_other (W := w8) (g := w.heap.size + 1) (.int .i64 0) (.int .i64 t) (.int .i64 s) (.slice pu9 us.length uc9) (.slice pf9 fs.length fc9) (.slice pa9 fa.length ac9) (.slice (some ⟨gs, 0, none⟩) (tsL se ci fj mk).length scx) (.slice po9 oo.length oc9))).mono (show w.heap.size ≤ base by omega)
          have BE := set8_below (B1.trans (Bc.mono hB)) (show w.heap.size ≤ w.heap.size + 1 by omega) (.int .i64 0) (.int .i64 t) (.int .i64 s) (.slice pu9 us.length uc9) (.slice pf9 fs.length fc9) (.slice pa9 fa.length ac9) (.slice (some ⟨gs, 0, none⟩) (tsL se ci fj mk).length scx) (.slice po9 oo.length oc9)
          clear R1 O8
          go_wp2_with fail
          rw [HR2.out.1, HR2.out.2]
          exact bodyPost_ret (v := .agg (r8 0 ⟨pu9, uc9, pf9, fc9, pa9, ac9, (some ⟨gs, 0, none⟩), scx, po9, oc9⟩ ⟨t, s, us, fs, fa, (tsL se ci fj mk), oo⟩)) (result8 Try.results6 Fz _ rfl) rfl ⟨_, rfl, Fo, BE⟩
end Go.Proofs.Ytgfdfpaimlcgaaa
end
