/- Texts of mine put together (a claim holds at most 60 files): GfLeaves, LeaveSpec, LeaveSpec2. -/
import Derived.Test.YthopodopedbooaaGreatPartL37
import Derived.Test.YthopodopedbooaaGreatPartL33
import Derived.Test.YthopodopedbooaaGreatPartL42
import Derived.Test.YthopodopedbooaaGreatPartL38
import Derived.Test.YthopodopedbooaaGreatPartL47
import Derived.Deep.RegionHeld3

/- GfLeaves -/
/- Plain facts of LeaveSeat: a seat that goes, and the last one of a side. No condition. -/
section
namespace Go.Proofs.YthopodopedbooaaGreat
open Bd
set_option linter.unusedVariables false

theorem lastS_iff {l : List K4} {y : K4} : lastS l y = true ↔ ∀ s ∈ l, s.c1 = y.c1 → s = y := by
  unfold lastS
  rw [Bool.not_eq_true', List.any_eq_false]
  constructor
  · intro h s hs e
    have h2 := h s hs
    cases hb : s.b y
    · rw [hb] at h2; simp [e] at h2
    · exact K4.b_eq hb
  · intro h s hs
    by_cases e : s.c1 = y.c1
    · rw [h s hs e, K4.b_self]; simp
    · simp [e]
/- how many others there are of a side -/
def othS (f c : Int) : List K4 → Int
  | [] => 0
  | s :: l => (if (s.c1 == f && s.c0 != c) = true then 1 else 0) + othS f c l
theorem othS_cons (f c : Int) (s : K4) (l : List K4) : othS f c (s :: l) = (if (s.c1 == f && s.c0 != c) = true then 1 else 0) + othS f c l := rfl
theorem othS_bd {f c : Int} : ∀ l : List K4, 0 ≤ othS f c l ∧ othS f c l ≤ l.length
  | [] => ⟨Int.le_refl _, Int.le_refl _⟩
  | s :: l => by
    have := othS_bd (f := f) (c := c) l
    unfold othS
    rw [List.length_cons]
    split <;> omega
theorem othS_zero {f c : Int} : ∀ {l : List K4}, othS f c l = 0 ↔ ∀ s ∈ l, s.c1 = f → s.c0 = c
  | [] => by simp [othS]
  | s :: l => by
    have hb := othS_bd (f := f) (c := c) l
    unfold othS
    have ih := othS_zero (f := f) (c := c) (l := l)
    by_cases e1 : s.c1 = f
    · by_cases e2 : s.c0 = c
      · rw [if_neg (by simp [e2]), Int.zero_add, ih]
        simp [e1, e2]
      · rw [if_pos (by simp [e1, e2])]
        constructor
        · intro h; omega
        · intro h; exact absurd (h s (by simp) e1) e2
    · rw [if_neg (by simp [e1]), Int.zero_add, ih]
      simp [e1]
theorem othS_take {f c : Int} {l : List K4} {k : Nat} {s : K4} (h : l[k]? = some s) : othS f c (l.take (k + 1)) = othS f c (l.take k) + (if (s.c1 == f && s.c0 != c) = true then 1 else 0) := by
  have happ : ∀ a b : List K4, othS f c (a ++ b) = othS f c a + othS f c b := fun a b => by
    induction a with
    | nil => simp [othS]
    | cons x a ih => rw [List.cons_append, othS_cons, othS_cons, ih]; omega
  rw [List.take_add_one, h, happ]
  show _ + ((if _ then 1 else 0) + othS f c []) = _
  show _ + (_ + 0) = _
  omega
/- nobody else of that side, told in two ways -/
theorem oth_last {h : Int → Int → Bool} {x : KW} {c : Int} (e : soC h x c = 0) : lastS x.se (soS h x c) = true ↔ othS (soS h x c).c1 c x.se = 0 := by
  obtain ⟨w0, ht⟩ := soC_zero.1 e
  have hp := gd_rs ((gdW_iff h x).1 w0)
  obtain ⟨hg, hc⟩ := sPl_found hp ht
  have hy : soS h x c = sGet x.se c := by unfold soS; rw [e]; rfl
  rw [hy, lastS_iff, othS_zero]
  have hm : sGet x.se c ∈ x.se := List.mem_of_getElem? hg
  constructor
  · intro H s hs e1
    rw [H s hs e1]; exact hc
  · intro H s hs e1
    have h2 := H s hs e1
    have h3 := (sGet_mem hp hs).2
    rw [h2] at h3
    exact h3.symm
theorem eq_of_c0 {l : List K4} (hp : RsP l) {a b : K4} (ha : a ∈ l) (hb : b ∈ l) (e : a.c0 = b.c0) : a = b := by
  rw [← (sGet_mem hp ha).2, ← (sGet_mem hp hb).2, e]
/- what is so of who leaves -/
structure LsG (h : Int → Int → Bool) (x : KW) (c : Int) : Prop where
  so0 : soC h x c = 0
  wfx : wf h x = 0
  wf0 : wf h (lsX h x c) = 0
  none' : soC h (lsX h x c) c = 4
  f4 : (lsX h x c).fa.length = 4
  gone : goneA (lsX h x c).fa (soS h x c).c1 = lastS x.se (soS h x c)
  tot : totF (lsX h x c) = totF x
  f0 : 0 ≤ (soS h x c).c1
  f3 : (soS h x c).c1 ≤ 3
theorem lsC_zero {h : Int → Int → Bool} {x : KW} {c : Int} : lsC h x c = 0 ↔ soC h x c = 0 ∧ (lastS x.se (soS h x c) = true → leaC h x (soS h x c).c1 = 0) := by
  unfold lsC
  by_cases e : soC h x c = 0
  · cases e2 : lastS x.se (soS h x c) <;> simp [e]
  · simp [e]
theorem ls_good {h : Int → Int → Bool} (hh : ∀ m b, inb m 0 15 = true → h m b = hasS m b) {x : KW} {c : Int} (e : lsC h x c = 0) : LsG h x c := by
  obtain ⟨e1, e2⟩ := lsC_zero.1 e
  obtain ⟨w0, ht⟩ := soC_zero.1 e1
  have g := (gdW_iff h x).1 w0
  have hp := gd_rs g
  obtain ⟨hg, hc⟩ := sPl_found hp ht
  have hy : soS h x c = sGet x.se c := by unfold soS; rw [e1]; rfl
  have hm : soS h x c ∈ x.se := by rw [hy]; exact List.mem_of_getElem? hg
  have hc' : (soS h x c).c0 = c := by rw [hy]; exact hc
  obtain ⟨hr, hgn⟩ := (seF_iff.1 g.se).2 _ hm
  obtain ⟨f0, f3⟩ := seR_side hr
  have e1' : (soC h x c == 0) = true := by rw [e1]; rfl
  cases el : lastS x.se (soS h x c)
  · have hx : lsX h x c = ⟨x.t, x.s, x.us, x.fs, x.fa, x.se.filter (fun s => !(s.b (soS h x c))), x.oo⟩ := by
      unfold lsX; rw [e1', if_neg (by simp), el, if_neg (by simp)]
    have w2 : wf h (lsX h x c) = 0 := by
      rw [hx]
      refine (gdW_iff h _).2 ⟨g.t, g.s, g.b, g.a4, Nat.le_trans (List.length_filter_le _ _) g.s6, g.o6, g.a, ?_, g.oo, g.ow⟩
      obtain ⟨h1, h2⟩ := seF_iff.1 g.se
      exact seF_iff.2 ⟨rsF_filter _ h1, fun s hs => h2 s (List.mem_filter.1 hs).1⟩
    refine ⟨e1, w0, w2, ?_, by rw [hx]; exact g.a4, by rw [hx, el]; exact hgn, by rw [hx]; rfl, f0, f3⟩
    unfold soC
    rw [w2, if_neg (by simp), hx]
    have : sTh (x.se.filter (fun s => !(s.b (soS h x c)))) c = false := by
      rw [Bool.eq_false_iff]
      intro ht2
      obtain ⟨s, hs, hsc⟩ := sTh_iff.1 ht2
      obtain ⟨hs1, hs2⟩ := List.mem_filter.1 hs
      have := eq_of_c0 hp hs1 hm (by rw [hsc, hc'])
      rw [this, K4.b_self] at hs2
      simp at hs2
    rw [if_pos this]
  · have hl := e2 el
    have hx : lsX h x c = leaX h x (soS h x c).c1 := by unfold lsX; rw [e1', if_neg (by simp), el, if_pos rfl]
    have L := lea_good hh hl
    refine ⟨e1, w0, by rw [hx]; exact L.wf0, ?_, by rw [hx]; exact L.f4, ?_, by rw [hx]; exact L.tot, f0, f3⟩
    · unfold soC
      rw [hx, L.wf0, if_neg (by simp)]
      have hse : (leaX h x (soS h x c).c1).se = seF' (soS h x c).c1 x.se := by unfold leaX; rw [hl]; rfl
      have : sTh (leaX h x (soS h x c).c1).se c = false := by
        rw [hse, Bool.eq_false_iff]
        intro ht2
        obtain ⟨s, hs, hsc⟩ := sTh_iff.1 ht2
        obtain ⟨hs1, hs2⟩ := List.mem_filter.1 hs
        have := eq_of_c0 hp hs1 hm (by rw [hsc, hc'])
        rw [this] at hs2
        simp at hs2
      rw [if_pos this]
    · rw [hx, (L.get _ f0 f3).1, if_pos rfl, el]
end Go.Proofs.YthopodopedbooaaGreat
end

/- LeaveSpec -/
/- The contracts of the models of LeaveSeat and LeaveSide, where they tell a fault. Condition: the world's lists lie in memory as they were laid there. -/
section
namespace Go.Proofs.YthopodopedbooaaGreat
open Go.ChangeShapes Go.WideShapes Go.ChangeAt Go.RowKit
open Bd
set_option linter.unusedVariables false

/- what a side that goes is told in a right world -/
def l8C (x : KW) (i : Int) : Int := if goneA x.fa i = true then 8 else if 100000000 < x.s + purA x.fa i then 7 else 0
theorem leaC_l8 (h : Int → Int → Bool) (x : KW) (i : Int) (w0 : wf h x = 0) (ia : inb i 0 3 = true) : leaC h x i = l8C x i := by
  unfold leaC l8C
  rw [w0, if_neg (by simp), if_neg (by rw [ia]; simp)]
set_option maxRecDepth 20000 in
set_option maxHeartbeats 16000000 in
theorem l8Side_no (h : Int → Int → Bool) (gW : Nat) (p : WP) (x : KW) (G : GdW h x) (w : World) (hW : Blk w gW (p.v x) 32) (hI : InW w p x) (i : Int) (i0 : 0 ≤ i) (i3 : i ≤ 3) (hne : l8C x i ≠ 0) :
    Calls Tryz.prog 80 #[.pointer (some ⟨gW, 0, none⟩), .int .i64 i] w fun e w' => e = .returned (.agg (r8 (l8C x i) wpz kz)) ∧ Below w.heap.size w w' := by
  obtain ⟨t, s, us, fs, fa, se, oo⟩ := x
  obtain ⟨u, uc, f, fc, a, ac, q, qc, r, rc⟩ := p
  obtain ⟨W, HW⟩ : ∃ W, Hid (W = w.alloc (.cells z8 36)) := ⟨_, rfl⟩
  have B1 : Below w.heap.size w W := by rw [HW.out]; exact (Below.refl _ _).alloc (Nat.le_refl _) _
  have R : Blk W w.heap.size z8 36 := by rw [HW.out]; exact Blk.new w z8 36
  have HR : Hid (Blk W w.heap.size z8 36) := R
  have HN : Hid (InW W ⟨u, uc, f, fc, a, ac, q, qc, r, rc⟩ ⟨t, s, us, fs, fa, se, oo⟩) := hI.later B1
  have P : Blk W gW (wv t s u us.length uc f fs.length fc a fa.length ac q se.length qc r oo.length rc) 32 := hW.below B1
  have hB := B1.size
  have h4 : fa.length = 4 := G.a4
  have c7 := fun W' (h : Below W.heap.size W W') => (P.below h).c7
  rw [h4] at c7
  obtain ⟨y, hy, hyg, _⟩ := side_at h4 i0 i3
  have hyp : purA fa i = y.c0 := pur_get hy
  obtain ⟨yb0, yb1⟩ := inb_i (purse_in G y (List.mem_of_getElem? hy))
  obtain ⟨sb0, sb1⟩ := inb_i G.s
  dsimp only at sb0 sb1
  obtain ⟨ba, oa, rfl, hba, hat⟩ := HN.out.arg.a.four h4
  obtain ⟨y0, y1, y2, yl⟩ := hat.one hba hy
  have HC : Hid (l8C ⟨t, s, us, fs, fa, se, oo⟩ i = if y.c1 = true then 8 else if 100000000 < s + y.c0 then 7 else 0) := by show _ = _; unfold l8C; rw [hyg, hyp]
  generalize l8C ⟨t, s, us, fs, fa, se, oo⟩ i = C at HC hne ⊢
  obtain ⟨mu, Hmu⟩ : ∃ m, Hid (us.length = m) := ⟨_, rfl⟩
  obtain ⟨mf, Hmf⟩ : ∃ m, Hid (fs.length = m) := ⟨_, rfl⟩
  obtain ⟨ms, Hms⟩ : ∃ m, Hid (se.length = m) := ⟨_, rfl⟩
  obtain ⟨mo, Hmo⟩ : ∃ m, Hid (oo.length = m) := ⟨_, rfl⟩
  rw [Hmu.out, Hmf.out, Hms.out, Hmo.out] at c7
  have Bc : Below W.heap.size W W := Below.refl _ _
  obtain ⟨p0, p1, p2, p3, p4, p5, p6, pl⟩ := c7 _ Bc
  have i4 : i < 4 := by omega
  have hwr : IntKind.i64.wrap (s + y.c0) = s + y.c0 := by rw [IntKind.wrap_i64]; omega
  clear R P hW hI G h4 hy hyg hyp hat
  cases eg : y.c1
  case true =>
    rw [eg] at HC y1
    have HR1 : Hid (C = 8) := HC
    go_enter Tryz.func80, Tryz.ntmps80
    go_upto_region 1 with fail
    rw [← HW.out]
    go_wp2_with fail
    refine (l7Bad_c 8 _).mono ?_
    rintro e wz ⟨rfl, kz'⟩
    have Bc := Bc.trans (kz'.mono Bc.size)
    have R1 := HR.out.below Bc
    obtain ⟨r0, r1, r2, r3, r4, r5, r6, r7, y0, y1, y2, y3, y4, y5, y6, y7, rl⟩ := R1.z8
    have Fz : Blk _ w.heap.size (r8 8 wpz kz) 36 := set8_blk R1 (.int .i64 8) (.int .i64 0) (.int .i64 0) (.slice none 0 0) (.slice none 0 0) (.slice none 0 0) (.slice none 0 0) (.slice none 0 0)
    have BE := set8_below (B1.trans (Bc.mono hB)) (Nat.le_refl w.heap.size) (.int .i64 8) (.int .i64 0) (.int .i64 0) (.slice none 0 0) (.slice none 0 0) (.slice none 0 0) (.slice none 0 0) (.slice none 0 0)
    clear R1
    go_wp2_with fail
    rw [HR1.out]
    exact bodyPost_ret (v := .agg (r8 8 wpz kz)) (result8 Tryz.results80 Fz _ rfl) rfl ⟨rfl, BE⟩
  case false =>
    rw [eg] at HC y1
    have h7 : 100000000 < s + y.c0 := by
      rw [HC.out] at hne
      by_cases hh : 100000000 < s + y.c0
      · exact hh
      · simp [hh] at hne
    have HR1 : Hid (C = 7) := by show _ = _; rw [HC.out]; simp [h7]
    clear HC hne
    go_enter Tryz.func80, Tryz.ntmps80
    go_upto_region 1 with fail
    rw [← HW.out]
    go_upto_region 3 with fail
    go_quiet (fail)
    have Bc := Bc.trans ((below_drewN _ nq).mono Bc.size)
    go_wp2_with fail
    refine (l7Bad_c 7 _).mono ?_
    rintro e wz ⟨rfl, kz'⟩
    have Bc := Bc.trans (kz'.mono Bc.size)
    have R1 := HR.out.below Bc
    obtain ⟨r0, r1, r2, r3, r4, r5, r6, r7, y0, y1, y2, y3, y4, y5, y6, y7, rl⟩ := R1.z8
    have Fz : Blk _ w.heap.size (r8 7 wpz kz) 36 := set8_blk R1 (.int .i64 7) (.int .i64 0) (.int .i64 0) (.slice none 0 0) (.slice none 0 0) (.slice none 0 0) (.slice none 0 0) (.slice none 0 0)
    have BE := set8_below (B1.trans (Bc.mono hB)) (Nat.le_refl w.heap.size) (.int .i64 7) (.int .i64 0) (.int .i64 0) (.slice none 0 0) (.slice none 0 0) (.slice none 0 0) (.slice none 0 0) (.slice none 0 0)
    clear R1
    go_wp2_with fail
    rw [HR1.out]
    exact bodyPost_ret (v := .agg (r8 7 wpz kz)) (result8 Tryz.results80 Fz _ rfl) rfl ⟨rfl, BE⟩
theorem at_once {l : List K4} {c r : Int} (h : atS l c r) (hp : RsP l) : (sTh l c = false ∧ r = -1) ∨ (sTh l c = true ∧ 0 ≤ r ∧ l[r.toNat]? = some (sGet l c)) := by
  rcases h with h | h
  · exact .inr h
  · exact .inl h
/- none but the one at place r is of side f among the first k -/
def noneK (l : List K4) (r : Nat) (f : Int) (k : Nat) : Prop := ∀ (j : Nat) (s : K4), j < k → j ≠ r → l[j]? = some s → s.c1 ≠ f
theorem noneK_step {l : List K4} {r : Nat} {f : Int} {k : Nat} {s : K4} (h : l[k]? = some s) : noneK l r f (k + 1) ↔ noneK l r f k ∧ (k ≠ r → s.c1 ≠ f) := by
  constructor
  · intro H
    exact ⟨fun j z hj hr hz => H j z (by omega) hr hz, fun hr => H k s (by omega) hr h⟩
  · rintro ⟨H, H2⟩ j z hj hr hz
    by_cases e : j = k
    · subst e
      rw [h] at hz; cases hz
      exact H2 hr
    · exact H j z (by omega) hr hz
theorem noneK_last {l : List K4} (hp : RsP l) {r : Nat} {y : K4} (h : l[r]? = some y) : noneK l r y.c1 l.length ↔ lastS l y = true := by
  rw [lastS_iff]
  constructor
  · intro H s hs e
    obtain ⟨j, hj, hjs⟩ := List.getElem_of_mem hs
    have hj2 : l[j]? = some s := by rw [List.getElem?_eq_getElem hj, hjs]
    by_cases hr : j = r
    · subst hr; rw [hj2] at h; cases h; rfl
    · exact absurd e (H j s hj hr hj2)
  · intro H j s hj hr hs e
    have h2 := H s (List.mem_of_getElem? hs) e
    subst h2
    have hrl := (List.getElem?_eq_some_iff.1 h).1
    rcases Nat.lt_or_gt_of_ne hr with h3 | h3
    · have := List.pairwise_iff_getElem.1 hp j r hj hrl h3
      rw [(List.getElem?_eq_some_iff.1 h).2, (List.getElem?_eq_some_iff.1 hs).2] at this
      omega
    · have := List.pairwise_iff_getElem.1 hp r j hrl hj h3
      rw [(List.getElem?_eq_some_iff.1 h).2, (List.getElem?_eq_some_iff.1 hs).2] at this
      omega
/- what one who goes is told in a right world -/
def l8D (x : KW) (c : Int) : Int := if sTh x.se c = false then 4 else if lastS x.se (sGet x.se c) = true then l8C x (sGet x.se c).c1 else 0
set_option maxRecDepth 20000 in
set_option maxHeartbeats 16000000 in
theorem l8Seat_no (h : Int → Int → Bool) (gW : Nat) (p : WP) (x : KW) (G : GdW h x) (w : World) (hW : Blk w gW (p.v x) 32) (hI : InW w p x) (i : Int) (hne : l8D x i ≠ 0) :
    Calls Tryz.prog 86 #[.pointer (some ⟨gW, 0, none⟩), .int .i64 i] w fun e w' => e = .returned (.agg (r8 (l8D x i) wpz kz)) ∧ Below w.heap.size w w' := by
  obtain ⟨t, s, us, fs, fa, se, oo⟩ := x
  obtain ⟨u, uc, f, fc, a, ac, q, qc, r, rc⟩ := p
  obtain ⟨W, HW⟩ : ∃ W, Hid (W = w.alloc (.cells z8 36)) := ⟨_, rfl⟩
  have B1 : Below w.heap.size w W := by rw [HW.out]; exact (Below.refl _ _).alloc (Nat.le_refl _) _
  have R : Blk W w.heap.size z8 36 := by rw [HW.out]; exact Blk.new w z8 36
  have HR : Hid (Blk W w.heap.size z8 36) := R
  have HN : Hid (InW W ⟨u, uc, f, fc, a, ac, q, qc, r, rc⟩ ⟨t, s, us, fs, fa, se, oo⟩) := hI.later B1
  have P : Blk W gW (wv t s u us.length uc f fs.length fc a fa.length ac q se.length qc r oo.length rc) 32 := hW.below B1
  have hB := B1.size
  have h4 : fa.length = 4 := G.a4
  have c7 := fun W' (h : Below W.heap.size W W') => (P.below h).c7
  rw [h4] at c7
  have cS := fun W' (h : Below W.heap.size W W') => l6Seat_c gW q se.length qc se i rfl (by have := G.s6; dsimp only at this; omega) W' (by have := (c7 W' h).c5; exact this) (c7 W' h).lt (HN.out.later h).arg.s
  have cL := fun (v : Int) (f0 : 0 ≤ v) (f3 : v ≤ 3) (hn : l8C ⟨t, s, us, fs, fa, se, oo⟩ v ≠ 0) W' (hh : Below W.heap.size W W') => l8Side_no h gW ⟨u, uc, f, fc, a, ac, q, qc, r, rc⟩ ⟨t, s, us, fs, fa, se, oo⟩ G W' (show Blk W' gW (wv t s u us.length uc f fs.length fc a fa.length ac q se.length qc r oo.length rc) _ from P.below hh) (HN.out.later hh) v f0 f3 hn
  have HC : Hid (l8D ⟨t, s, us, fs, fa, se, oo⟩ i = if sTh se i = false then 4 else if lastS se (sGet se i) = true then l8C ⟨t, s, us, fs, fa, se, oo⟩ (sGet se i).c1 else 0) := rfl
  have Hp : Hid (RsP se) := gd_rs G
  have HSe : Hid (∀ s ∈ se, 0 ≤ s.c1 ∧ s.c1 ≤ 3) := fun s hs => seR_side ((seF_iff.1 G.se).2 s hs).1
  have HAS : Hid (∀ W', Below W.heap.size W W' → ArgS W' q se) := fun W' h => (HN.out.later h).arg.s
  have h6 := G.s6
  dsimp only at h6
  generalize l8D ⟨t, s, us, fs, fa, se, oo⟩ i = C at HC hne ⊢
  obtain ⟨Y, HY⟩ : ∃ Y, Hid (Y = sGet se i) := ⟨_, rfl⟩
  rw [← HY.out] at HC
  obtain ⟨CL, HCL⟩ : ∃ CL : Int → Int, Hid (CL = fun v => l8C ⟨t, s, us, fs, fa, se, oo⟩ v) := ⟨_, rfl⟩
  have cL' : ∀ (v : Int), 0 ≤ v → v ≤ 3 → CL v ≠ 0 → ∀ W', Below W.heap.size W W' → Calls Tryz.prog 80 #[.pointer (some ⟨gW, 0, none⟩), .int .i64 v] W' fun e w' => e = .returned (.agg (r8 (CL v) wpz kz)) ∧ Below W'.heap.size W' w' := by rw [HCL.out]; exact cL
  have HC2 : Hid (C = if sTh se i = false then 4 else if lastS se Y = true then CL Y.c1 else 0) := by show _ = _; rw [HCL.out]; exact HC
  clear cL HC HCL
  obtain ⟨mu, Hmu⟩ : ∃ m, Hid (us.length = m) := ⟨_, rfl⟩
  obtain ⟨mf, Hmf⟩ : ∃ m, Hid (fs.length = m) := ⟨_, rfl⟩
  obtain ⟨ms, Hms⟩ : ∃ m, Hid (se.length = m) := ⟨_, rfl⟩
  obtain ⟨mo, Hmo⟩ : ∃ m, Hid (oo.length = m) := ⟨_, rfl⟩
  rw [Hmu.out, Hmf.out, Hms.out, Hmo.out] at c7
  have hs6 : ms ≤ 6 := by rw [← Hms.out]; exact h6
  have Bc : Below W.heap.size W W := Below.refl _ _
  clear R P hW hI G h4 h6
  go_enter Tryz.func86, Tryz.ntmps86
  go_upto_region 1 with fail
  rw [← HW.out]
  go_wp2_with fail
  refine (cS _ Bc).mono ?_
  rintro e w2 ⟨r0, rfl, hA, k2⟩
  have Bc := Bc.trans (k2.mono Bc.size)
  rcases at_once hA Hp.out with ⟨hT, rfl⟩ | ⟨hT, r00, hY⟩
  · have HR1 : Hid (C = 4) := by show _ = _; rw [HC2.out, if_pos hT]
    clear HC2 hA hne cS
    go_wp2_with fail
    refine (l7Bad_c 4 _).mono ?_
    rintro e wz ⟨rfl, kz'⟩
    have Bc := Bc.trans (kz'.mono Bc.size)
    have R1 := HR.out.below Bc
    obtain ⟨r0, r1, r2, r3, r4, r5, r6, r7, y0, y1, y2, y3, y4, y5, y6, y7, rl⟩ := R1.z8
    have Fz : Blk _ w.heap.size (r8 4 wpz kz) 36 := set8_blk R1 (.int .i64 4) (.int .i64 0) (.int .i64 0) (.slice none 0 0) (.slice none 0 0) (.slice none 0 0) (.slice none 0 0) (.slice none 0 0)
    have BE := set8_below (B1.trans (Bc.mono hB)) (Nat.le_refl w.heap.size) (.int .i64 4) (.int .i64 0) (.int .i64 0) (.slice none 0 0) (.slice none 0 0) (.slice none 0 0) (.slice none 0 0) (.slice none 0 0)
    clear R1
    go_wp2_with fail
    rw [HR1.out]
    exact bodyPost_ret (v := .agg (r8 4 wpz kz)) (result8 Tryz.results86 Fz _ rfl) rfl ⟨rfl, BE⟩
  · have HC3 : Hid (C = if lastS se Y = true then CL Y.c1 else 0) := by show _ = _; rw [HC2.out, if_neg (by rw [hT]; simp)]
    have hlast : lastS se Y = true := by
      cases e : lastS se Y
      · rw [HC3.out, e] at hne; simp at hne
      · rfl
    have HR1 : Hid (C = CL Y.c1) := by show _ = _; rw [HC3.out, if_pos hlast]
    rw [HR1.out] at hne
    obtain ⟨r, rfl⟩ : ∃ r : Nat, r0 = r := ⟨r0.toNat, by omega⟩
    rw [Int.toNat_natCast, ← HY.out] at hY
    have hrm : (r : Int) < (ms : Int) := by have := (List.getElem?_eq_some_iff.1 hY).1; have := Hms.out; omega
    obtain ⟨f0, f3⟩ := HSe.out Y (List.mem_of_getElem? hY)
    have cL := fun W' (hh : Below W.heap.size W W') => cL' Y.c1 f0 f3 hne W' hh
    have Hnone : Hid (noneK se r Y.c1 se.length) := (noneK_last Hp.out hY).2 hlast
    rw [Hms.out] at Hnone
    obtain ⟨b, off, rfl, hb, hat⟩ := (HAS.out _ Bc).at hY
    obtain ⟨x0, x1, x2, x3, xl⟩ := hat.one hb hY
    have Hat : Hid (∀ W', Below w2.heap.size w2 W' → SAt W' b off se ∧ b < W'.heap.size) := fun W' h => ⟨hat.later hb h, Nat.lt_of_lt_of_le hb h.size⟩
    have hn1 : decide ((r : Int) < 0) = false := decide_eq_false (by omega)
    obtain ⟨p0, p1, p2, p3, p4, p5, p6, pl⟩ := c7 _ Bc
    generalize CL Y.c1 = C9 at cL HR1 hne
    clear HC2 HC3 hA cS cL' hY hat hT HY hlast
    go_wp2_with fail
    have HK5 : Hid (∀ W', Below w2.heap.size w2 W' → W'.cell? ⟨gW, 5, none⟩ = some (.slice (some ⟨b, off, none⟩) ms qc) ∧ gW < W'.heap.size) := fun W' h => ⟨(c7 W' (Bc.trans (h.mono Bc.size))).c5, (c7 W' (Bc.trans (h.mono Bc.size))).lt⟩
    go_loopw [7, 8] (fun nn jj wr => ∃ k : Nat, jj = .int .i64 k ∧ k ≤ ms ∧ nn = .int .i64 0 ∧ Below w2.heap.size w2 wr) (fun _ jj _ => ms - (intOf jj).toNat)
    case atStart => exact ⟨0, rfl, Nat.zero_le _, rfl, Below.refl _ _⟩
    case round =>
      clear p0 p1 p2 p3 p4 p5 p6 pl x0 x1 x2 x3 xl
      obtain ⟨k, rfl, hk, rfl, kb⟩ := hrel
      obtain ⟨e5, el⟩ := HK5.out _ kb
      by_cases hlt : k < ms
      · have hlt' : (k : Int) < (ms : Int) := by omega
        obtain ⟨z, hz⟩ : ∃ z, se[k]? = some z := ⟨_, List.getElem?_eq_getElem (by have := Hms.out; omega)⟩
        obtain ⟨hat, hbl⟩ := Hat.out _ kb
        obtain ⟨z0, z1, z2, z3, zl⟩ := hat.one hbl hz
        by_cases hkr : k = r
        · subst hkr
          have hq : ((k : Int) != (k : Int)) = false := by simp
          clear hz hat
          go_wp2_with fail
          go_roundw
          case rel => exact ⟨k + 1, by go_num, by omega, rfl, kb⟩
          case measure => simp [intOf]; omega
        · have hq : ((k : Int) != (r : Int)) = true := by simp; omega
          have hf : (z.c1 == Y.c1) = false := by simpa using Hnone.out k z hlt hkr hz
          clear hz hat
          go_wp2_with fail
          go_roundw
          case rel => exact ⟨k + 1, by go_num, by omega, rfl, kb⟩
          case measure => simp [intOf]; omega
      · obtain rfl : k = ms := by omega
        have hlt' : ¬ (k : Int) < (k : Int) := by omega
        have Bc := Bc.trans (kb.mono Bc.size)
        go_wp2_with fail
        refine (cL _ Bc).mono ?_
        rintro e wz ⟨rfl, kz'⟩
        have Bc := Bc.trans (kz'.mono Bc.size)
        have R1 := HR.out.below Bc
        obtain ⟨r0, r1, r2, r3, r4, r5, r6, r7, y0, y1, y2, y3, y4, y5, y6, y7, rl⟩ := R1.z8
        have Fz : Blk _ w.heap.size (r8 C9 wpz kz) 36 := set8_blk R1 (.int .i64 C9) (.int .i64 0) (.int .i64 0) (.slice none 0 0) (.slice none 0 0) (.slice none 0 0) (.slice none 0 0) (.slice none 0 0)
        have BE := set8_below (B1.trans (Bc.mono hB)) (Nat.le_refl w.heap.size) (.int .i64 C9) (.int .i64 0) (.int .i64 0) (.slice none 0 0) (.slice none 0 0) (.slice none 0 0) (.slice none 0 0) (.slice none 0 0)
        clear R1
        go_wp2_with fail
        rw [HR1.out]
        exact bodyPost_ret (v := .agg (r8 C9 wpz kz)) (result8 Tryz.results86 Fz _ rfl) rfl ⟨rfl, BE⟩
end Go.Proofs.YthopodopedbooaaGreat
end

/- LeaveSpec2 -/
/- The contract of the model of LeaveSeat, where it tells a fault. Condition: the world's lists lie in memory as they were laid there. -/
section
namespace Go.Proofs.YthopodopedbooaaGreat
open Go.ChangeShapes Go.WideShapes Go.ChangeAt Go.RowKit
open Bd
set_option linter.unusedVariables false

theorem lsC_l8 (h : Int → Int → Bool) (x : KW) (i : Int) : lsC h x i = if (wf h x == 0) = false then wf h x else l8D x i := by
  by_cases e : wf h x = 0
  · have g := (gdW_iff h x).1 e
    have e0 : (wf h x == 0) = true := by rw [e]; rfl
    rw [e0, if_neg (by simp)]
    unfold lsC l8D
    cases ht : sTh x.se i
    · have hs : soC h x i = 4 := by unfold soC; rw [e0, if_neg (by simp), if_pos ht]
      rw [hs, if_pos (by rfl), if_pos rfl]
    · have hs : soC h x i = 0 := soC_zero.2 ⟨e, ht⟩
      have hy : soS h x i = sGet x.se i := by unfold soS; rw [hs]; rfl
      rw [hs, if_neg (show ¬ (((0 : Int) == 0) = false) by simp), if_neg (show ¬ (true = false) by simp), hy]
      cases el : lastS x.se (sGet x.se i)
      · rfl
      · rw [if_pos rfl, if_pos rfl]
        obtain ⟨hr, _⟩ := (seF_iff.1 g.se).2 _ (List.mem_of_getElem? (sPl_found (gd_rs g) ht).1)
        obtain ⟨f0, f3⟩ := seR_side hr
        exact leaC_l8 h x _ e (inb_t f0 f3)
  · have e' : (wf h x == 0) = false := by simpa using e
    have hs : soC h x i = wf h x := by unfold soC; rw [if_pos e']
    unfold lsC
    rw [hs, if_pos e', if_pos e']
set_option maxRecDepth 20000 in
set_option maxHeartbeats 16000000 in
theorem specLeaveSeat_no (p : WP) (x : KW) (w : World) (h : InW w p x) (i : Int) (hne : lsC hasS x i ≠ 0) :
    Calls Tryz.prog 37 #[.agg (p.v x), .int .i64 i] w fun e w' => e = .returned (.agg (r8 (lsC hasS x i) wpz kz)) ∧ Below w.heap.size w w' := by
  have eC := lsC_l8 hasS x i
  obtain ⟨t, s, us, fs, fa, se, oo⟩ := x
  obtain ⟨u, uc, f, fc, a, ac, q, qc, r, rc⟩ := p
  obtain ⟨W, HW⟩ : ∃ W, Hid (W = (w.alloc (.cells (wv t s u us.length uc f fs.length fc a fa.length ac q se.length qc r oo.length rc) 32)).alloc (.cells z8 36)) := ⟨_, rfl⟩
  have B1 : Below w.heap.size w W := by rw [HW.out]; exact ((Below.refl _ _).alloc (Nat.le_refl _) _).alloc (by rw [size_new]; omega) _
  have P : Bk W w.heap.size (wv t s u us.length uc f fs.length fc a fa.length ac q se.length qc r oo.length rc) 32 := by rw [HW.out]; exact (Bk.new w (wv t s u us.length uc f fs.length fc a fa.length ac q se.length qc r oo.length rc) 32).alloc _
  have R : Blk W (w.heap.size + 1) z8 36 := by rw [HW.out]; have h := Blk.new (w.alloc (.cells (wv t s u us.length uc f fs.length fc a fa.length ac q se.length qc r oo.length rc) 32)) z8 36; rw [size_new] at h; exact h
  have HN : Hid (InW W ⟨u, uc, f, fc, a, ac, q, qc, r, rc⟩ ⟨t, s, us, fs, fa, se, oo⟩) := h.later B1
  have HR : Hid (Blk W (w.heap.size + 1) z8 36) := R
  have hB := B1.size
  have cF := fun W' (h : Below W.heap.size W W') => l6Fault_c w.heap.size t s u us.length uc f fs.length fc a fa.length ac q se.length qc r oo.length rc us fs fa se oo rfl rfl rfl rfl rfl HN.out.o1 HN.out.o2 W' ⟨(P.below h).cell rfl, (P.below h).cell rfl, (P.below h).cell rfl, (P.below h).cell rfl, (P.below h).cell rfl, (P.below h).cell rfl, (P.below h).cell rfl, (P.below h).lt⟩ (HN.out.later h).arg.u (HN.out.later h).arg.f (HN.out.later h).arg.a (HN.out.later h).arg.s (HN.out.later h).arg.o
  have cL := fun (e : wf hasS ⟨t, s, us, fs, fa, se, oo⟩ = 0) (hn : l8D ⟨t, s, us, fs, fa, se, oo⟩ i ≠ 0) W' (h : Below W.heap.size W W') => l8Seat_no hasS w.heap.size ⟨u, uc, f, fc, a, ac, q, qc, r, rc⟩ ⟨t, s, us, fs, fa, se, oo⟩ ((gdW_iff hasS _).1 e) W' (show Blk W' w.heap.size _ _ from Blk.below (show Blk W w.heap.size (wv t s u us.length uc f fs.length fc a fa.length ac q se.length qc r oo.length rc) 32 from P) h) (HN.out.later h) i hn
  have HC : Hid (lsC hasS ⟨t, s, us, fs, fa, se, oo⟩ i = _) := eC
  show Calls Tryz.prog 37 #[.agg (wv t s u us.length uc f fs.length fc a fa.length ac q se.length qc r oo.length rc), .int .i64 i] w _
  generalize lsC hasS ⟨t, s, us, fs, fa, se, oo⟩ i = C at HC hne ⊢
  generalize l8D ⟨t, s, us, fs, fa, se, oo⟩ i = C2 at cL HC
  generalize wf hasS ⟨t, s, us, fs, fa, se, oo⟩ = F at cF cL HC
  obtain ⟨mu, Hmu⟩ : ∃ m, Hid (us.length = m) := ⟨_, rfl⟩
  obtain ⟨mf, Hmf⟩ : ∃ m, Hid (fs.length = m) := ⟨_, rfl⟩
  obtain ⟨ma, Hma⟩ : ∃ m, Hid (fa.length = m) := ⟨_, rfl⟩
  obtain ⟨ms, Hms⟩ : ∃ m, Hid (se.length = m) := ⟨_, rfl⟩
  obtain ⟨mo, Hmo⟩ : ∃ m, Hid (oo.length = m) := ⟨_, rfl⟩
  rw [Hmu.out, Hmf.out, Hma.out, Hms.out, Hmo.out] at HW ⊢
  have Bc : Below W.heap.size W W := Below.refl _ _
  clear h R P eC
  have fin : ∀ (wc : World) (v : Int), Below W.heap.size W wc → True := fun _ _ _ => trivial
  cases e2 : F == 0
  · have n7 : (F != 0) = true := by simp only [bne, e2]; rfl
    have HR1 : Hid (C = F ∧ kz = kz) := ⟨by rw [HC.out, e2]; rfl, rfl⟩
    clear HC cL e2 fin
    go_enter Tryz.func37, Tryz.ntmps37
    go_upto_region 1 with fail
    rw [← HW.out]
    go_wp2_with fail
    refine (cF _ Bc).mono ?_
    rintro e wn ⟨rfl, kn⟩
    have Bc := Bc.trans (kn.mono Bc.size)
    go_wp2_with fail
    refine (l7Bad_c F _).mono ?_
    rintro e wz ⟨rfl, kz'⟩
    have Bc := Bc.trans (kz'.mono Bc.size)
    have R1 := HR.out.below Bc
    obtain ⟨r0, r1, r2, r3, r4, r5, r6, r7, y0, y1, y2, y3, y4, y5, y6, y7, rl⟩ := R1.z8
    have Fz : Blk _ (w.heap.size + 1) (r8 F wpz kz) 36 := set8_blk R1 (.int .i64 F) (.int .i64 0) (.int .i64 0) (.slice none 0 0) (.slice none 0 0) (.slice none 0 0) (.slice none 0 0) (.slice none 0 0)
    have BE := set8_below (B1.trans (Bc.mono hB)) (show w.heap.size ≤ w.heap.size + 1 by omega) (.int .i64 F) (.int .i64 0) (.int .i64 0) (.slice none 0 0) (.slice none 0 0) (.slice none 0 0) (.slice none 0 0) (.slice none 0 0)
    clear R1
    go_wp2_with fail
    rw [HR1.out.1]
    exact bodyPost_ret (v := .agg (r8 F wpz kz)) (result8 Tryz.results37 Fz _ rfl) rfl ⟨rfl, BE⟩
  · obtain rfl : F = 0 := by simpa using e2
    have HR1 : Hid (C = C2) := by show _ = _; rw [HC.out, if_neg (by simp)]
    rw [HR1.out] at hne
    have cL2 := cL rfl hne
    clear HC e2 fin cL
    go_enter Tryz.func37, Tryz.ntmps37
    go_upto_region 1 with fail
    rw [← HW.out]
    go_wp2_with fail
    refine (cF _ Bc).mono ?_
    rintro e wn ⟨rfl, kn⟩
    have Bc := Bc.trans (kn.mono Bc.size)
    go_wp2_with fail
    refine (cL2 _ Bc).mono ?_
    rintro e wz ⟨rfl, kz'⟩
    have Bc := Bc.trans (kz'.mono Bc.size)
    have R1 := HR.out.below Bc
    obtain ⟨r0, r1, r2, r3, r4, r5, r6, r7, y0, y1, y2, y3, y4, y5, y6, y7, rl⟩ := R1.z8
    have Fz : Blk _ (w.heap.size + 1) (r8 C2 wpz kz) 36 := set8_blk R1 (.int .i64 C2) (.int .i64 0) (.int .i64 0) (.slice none 0 0) (.slice none 0 0) (.slice none 0 0) (.slice none 0 0) (.slice none 0 0)
    have BE := set8_below (B1.trans (Bc.mono hB)) (show w.heap.size ≤ w.heap.size + 1 by omega) (.int .i64 C2) (.int .i64 0) (.int .i64 0) (.slice none 0 0) (.slice none 0 0) (.slice none 0 0) (.slice none 0 0) (.slice none 0 0)
    clear R1
    go_wp2_with fail
    rw [HR1.out]
    exact bodyPost_ret (v := .agg (r8 C2 wpz kz)) (result8 Tryz.results37 Fz _ rfl) rfl ⟨rfl, BE⟩
end Go.Proofs.YthopodopedbooaaGreat
end
