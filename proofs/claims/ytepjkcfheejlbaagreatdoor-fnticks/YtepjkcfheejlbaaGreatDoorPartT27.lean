/- Texts of mine put together (a claim holds at most 60 files): TickOneS, TickAllS0. -/
import Derived.Test.YtepjkcfheejlbaaGreatDoorPartT26

/- TickOneS -/
/- The contract of the model's TickUnit. Condition: the lists lie in memory as they were laid there. -/
section
namespace Go.Proofs.YtepjkcfheejlbaaGreatDoor
open Go.ChangeShapes Go.WideShapes Go.ChangeAt Go.RowKit
open Bd
set_option linter.unusedVariables false

theorem SlU.addr {w : World} {base : Nat} {v : Value} {l : List K10} (h : SlU w base v l) (hn : v ≠ .slice none 0 0) : ∃ g cap, v = .slice (some ⟨g, 0, none⟩) l.length cap ∧ base ≤ g ∧ g < w.heap.size ∧ UAt w g 0 l := by
  rcases h.2 with ⟨h1, _⟩ | ⟨g, cap, cur, hv, hb, hg, hc, hm, hs, ht⟩
  · exact absurd h1 hn
  · refine ⟨g, cap, hv, hb, (Array.getElem?_eq_some_iff.1 hg).1, fun i x hi f hf => ?_⟩
    have e := flatU_get l i x f hi hf
    have hil : i < l.length := (List.getElem?_eq_some_iff.1 hi).1
    rw [← ht, List.getElem?_take, if_pos (by omega)] at e
    simp [World.cell?, hg]
    simpa using e
theorem SlF.addr {w : World} {base : Nat} {v : Value} {l : List K3} (h : SlF w base v l) (hn : v ≠ .slice none 0 0) : ∃ g cap, v = .slice (some ⟨g, 0, none⟩) l.length cap ∧ base ≤ g ∧ g < w.heap.size ∧ FAt w g 0 l := by
  rcases h.2 with ⟨h1, _⟩ | ⟨g, cap, cur, hv, hb, hg, hc, hm, hs, ht⟩
  · exact absurd h1 hn
  · refine ⟨g, cap, hv, hb, (Array.getElem?_eq_some_iff.1 hg).1, fun i x hi f hf => ?_⟩
    have e := flatF_get l i x f hi hf
    have hil : i < l.length := (List.getElem?_eq_some_iff.1 hi).1
    rw [← ht, List.getElem?_take, if_pos (by omega)] at e
    simp [World.cell?, hg]
    simpa using e
theorem TIn.asked {w : World} {pu : Option Addr} {m c : Nat} {pf : Option Addr} {m' c' gr og mr cr : Nat} {us : List K10} {fs : List K3} {rm : List Int} (h : TIn w pu m c pf m' c' gr og mr cr us fs rm) {p : Nat} (hB : BrdAt w p (.slice pu m c) (.slice pf m' c')) :
    Calls Tryz.prog 45 #[.pointer (some ⟨p, 0, none⟩), .slice (some ⟨gr, og, none⟩) mr cr] w fun e w' => e = .returned (.int .i64 (tkF us fs rm)) ∧ Below w.heap.size w w' :=
  l5Asked_c p _ m c _ m' c' _ mr cr us fs rm h.hl h.hl' h.hr h.mx w hB h.au h.af h.ar
theorem TIn.copy {w : World} {pu : Option Addr} {m c : Nat} {pf : Option Addr} {m' c' gr og mr cr : Nat} {us : List K10} {fs : List K3} {rm : List Int} (h : TIn w pu m c pf m' c' gr og mr cr us fs rm) (gd : Gd us fs) :
    Calls Tryz.prog 47 #[.agg (brdV pu m c pf m' c')] w fun e w' => ∃ g1 c1 g2 c2, e = .returned (.agg (brdV (some ⟨g1, 0, none⟩) m c1 (some ⟨g2, 0, none⟩) m' c2)) ∧ SlU w' w.heap.size (.slice (some ⟨g1, 0, none⟩) m c1) us ∧ SlF w' w.heap.size (.slice (some ⟨g2, 0, none⟩) m' c2) fs ∧ Below w.heap.size w w' := by
  refine (l4Copy2_i pu c m pf c' m' us fs h.hl (by have := gd.n8; have := h.hl; omega) h.hl' (by have := gd.n4; have := h.hl'; omega) w h.u h.f).mono ?_
  rintro e w' ⟨v, f, rfl, hU, hF, n1, n2, hb⟩
  obtain ⟨g1, c1, rfl, _, _, _⟩ := hU.addr n1
  obtain ⟨g2, c2, rfl, _, _, _⟩ := hF.addr n2
  rw [h.hl] at hU ⊢
  rw [h.hl'] at hF ⊢
  exact ⟨g1, c1, g2, c2, rfl, hU, hF, hb⟩
theorem tkS_gn {us : List K10} {fs : List K3} {rm : List Int} {i : Int} {u : K10} (h : findU us i = some u) : tkS (ts0 us fs rm) i = ⟨(tk1 us fs u (rm.getD u.c1.toNat 0)).us, (tk1 us fs u (rm.getD u.c1.toNat 0)).fs, addAt rm u.c1.toNat (-(tk1 us fs u (rm.getD u.c1.toNat 0)).give), addAt z4 u.c1.toNat (tk1 us fs u (rm.getD u.c1.toNat 0)).give, 0 + (tk1 us fs u (rm.getD u.c1.toNat 0)).lost⟩ := by
  rw [tkS_some (s := ts0 us fs rm) h]; rfl
set_option maxRecDepth 20000 in
set_option maxHeartbeats 16000000 in
theorem specTickUnit (pu : Option Addr) (m c : Nat) (pf : Option Addr) (m' c' gr og mr cr : Nat) (us : List K10) (fs : List K3) (i : Int) (rm : List Int) (w : World) (h : TIn w pu m c pf m' c' gr og mr cr us fs rm) :
    Calls Tryz.prog 14 #[.agg (brdV pu m c pf m' c'), .int .i64 i, .slice (some ⟨gr, og, none⟩) mr cr] w fun e w' => ∃ q v f, e = .returned (.agg (resV (tuR us fs i rm).c q (tuR us fs i rm).l v f)) ∧ RIs w' w.heap.size (tuR us fs i rm) q v f ∧ Below w.heap.size w w' := by
  obtain ⟨W1, HW1, rb, rr, B1⟩ := two_res w (.slice pu m c) (.slice pf m' c')
  have cF := (h.later B1).asked (row_brd rb)
  rcases tu_cases us fs i rm with ⟨h1, e⟩ | ⟨h1, hf, e⟩ | ⟨u, h1, hf, e⟩
  · rw [e]
    have h1' := bne_of h1
    generalize tkF us fs rm = R at h1 h1' cF ⊢
    clear h e
    go_enter Tryz.func14, Tryz.ntmps14
    go_upto_region 1 with fail
    rw [← HW1.out]
    go_wp2_with fail
    refine cF.mono ?_
    rintro e w2 ⟨rfl, k2⟩
    have B2 := B1.trans (k2.mono B1.size)
    have rr2 := row_later rr k2
    obtain ⟨e0, e1, e2, e3, e4, z0, z1, z2, z3, z4, el⟩ := res_cells rr2
    obtain ⟨x0, x1, x2, x3, x4⟩ := setRes_cells (setRes_row rr2 R (.slice none 0 0) 0 (.slice none 0 0) (.slice none 0 0))
    have BZ := setRes_bel B2 (w.heap.size + 1) (by omega) R (.slice none 0 0) 0 (.slice none 0 0) (.slice none 0 0)
    have RZ := RIs.nil (stRes w2 (w.heap.size + 1) R (.slice none 0 0) 0 (.slice none 0 0) (.slice none 0 0)) w.heap.size R
    go_wp2_with fail
    refine bodyPost_ret (v := .agg (resV R (.slice none 0 0) 0 (.slice none 0 0) (.slice none 0 0))) ?_ rfl ⟨_, _, _, rfl, RZ, BZ⟩
    simp [results, Tryz.results14, go_sem, x0, x1, x2, x3, x4]
    done
  · rw [e]
    obtain ⟨hb0, hr4, hrp⟩ := tkF_ok h1
    have gd := Gd.of hb0
    have hm8 : m ≤ 8 := by have := gd.n8; have := h.hl; omega
    have cA := fun W (hB : Below w.heap.size w W) => l4At_c pu m c us i h.hl hm8 W (h.later hB).au
    have hat : atI us i = -1 := by
      rcases atU_find us i with ⟨a1, _⟩ | ⟨k, x, _, _, a3⟩
      · unfold atI; rw [a1]
      · rw [hf] at a3; cases a3
    rw [hat] at cA
    rw [h1] at cF
    clear h e h1 hf hat gd hb0 hrp
    go_enter Tryz.func14, Tryz.ntmps14
    go_upto_region 1 with fail
    rw [← HW1.out]
    go_wp2_with fail
    refine cF.mono ?_
    rintro e w2 ⟨rfl, k2⟩
    have B2 := B1.trans (k2.mono B1.size)
    have rr2 := row_later rr k2
    obtain ⟨p0, p1, pl⟩ := row_brd (row_later rb k2)
    go_wp2_with fail
    refine (cA _ B2).mono ?_
    rintro e w3 ⟨rfl, rfl⟩
    clear p0 p1 pl
    obtain ⟨e0, e1, e2, e3, e4, z0, z1, z2, z3, z4, el⟩ := res_cells rr2
    obtain ⟨x0, x1, x2, x3, x4⟩ := setRes_cells (setRes_row rr2 4 (.slice none 0 0) 0 (.slice none 0 0) (.slice none 0 0))
    have BZ := setRes_bel B2 (w.heap.size + 1) (by omega) 4 (.slice none 0 0) 0 (.slice none 0 0) (.slice none 0 0)
    have RZ := RIs.nil (stRes w3 (w.heap.size + 1) 4 (.slice none 0 0) 0 (.slice none 0 0) (.slice none 0 0)) w.heap.size 4
    go_wp2_with fail
    refine bodyPost_ret (v := .agg (resV 4 (.slice none 0 0) 0 (.slice none 0 0) (.slice none 0 0))) ?_ rfl ⟨_, _, _, rfl, RZ, BZ⟩
    simp [results, Tryz.results14, go_sem, x0, x1, x2, x3, x4]
    done
  · rw [e]
    obtain ⟨hb0, hr4, hrp⟩ := tkF_ok h1
    have gd := Gd.of hb0
    have hm : mr = 4 := by have := h.hr; omega
    subst hm
    have hm8 : m ≤ 8 := by have := gd.n8; have := h.hl; omega
    obtain ⟨k, hat, hk⟩ : ∃ k : Nat, atI us i = (k : Int) ∧ us[k]? = some u := by
      rcases atU_find us i with ⟨_, a2⟩ | ⟨k, x, a1, a2, a3⟩
      · rw [hf] at a2; cases a2
      · rw [hf] at a3; cases a3
        exact ⟨k, by unfold atI; rw [a1], a2⟩
    have cA := fun W (hB : Below w.heap.size w W) => l4At_c pu m c us i h.hl hm8 W (h.later hB).au
    rw [hat] at cA
    have hkd : decide ((k : Int) < 0) = false := decide_eq_false (by omega)
    have cC := fun W (hB : Below w.heap.size w W) => (h.later hB).copy gd
    rw [h1] at cF
    obtain ⟨t, Ht⟩ : ∃ t, Hid (tk1 us fs u (rm.getD u.c1.toNat 0) = t) := ⟨_, rfl⟩
    have eS := tkS_gn (fs := fs) (rm := rm) hf
    rw [Ht.out] at eS
    rw [eS]
    have H : Hid (TIn w pu m c pf m' c' gr og 4 cr us fs rm) := h
    have Hgd : Hid (Gd us fs) := gd
    have Hk : Hid (us[k]? = some u) := hk
    have Hrp : Hid (∀ x ∈ rm, 0 ≤ x ∧ x ≤ 1000000) := hrp
    clear h e h1 hf hat gd hb0 hrp eS hk
    go_enter Tryz.func14, Tryz.ntmps14
    go_upto_region 1 with fail
    rw [← HW1.out]
    go_wp2_with fail
    refine cF.mono ?_
    rintro e w2 ⟨rfl, k2⟩
    have B2 := B1.trans (k2.mono B1.size)
    have rr2 := row_later rr k2
    obtain ⟨p0, p1, pl⟩ := row_brd (row_later rb k2)
    go_wp2_with fail
    refine (cA _ B2).mono ?_
    rintro e w3 ⟨rfl, rfl⟩
    go_wp2_with fail
    refine (cC _ B2).mono ?_
    rintro e w4 ⟨g1, c1, g2, c2, rfl, SU, SF, k4⟩
    have B4 := B2.trans (k4.mono B2.size)
    have rr4 := row_later rr2 k4
    obtain ⟨W5, HW5⟩ : ∃ W5, Hid (W5 = w4.alloc (.cells (brdV (some ⟨g1, 0, none⟩) m c1 (some ⟨g2, 0, none⟩) m' c2) 27)) := ⟨_, rfl⟩
    obtain ⟨X, HX⟩ : ∃ X, Hid (X = w4.heap.size) := ⟨_, rfl⟩
    have k5 : Below w4.heap.size w4 W5 := by rw [HW5.out]; exact (Below.refl _ _).alloc (Nat.le_refl _) _
    have B5 := B4.trans (k5.mono B4.size)
    have rx : W5.rowIs X 27 2 (fun i => if i = 0 then .slice (some ⟨g1, 0, none⟩) m c1 else .slice (some ⟨g2, 0, none⟩) m' c2) := by rw [HW5.out, HX.out]; exact rowTwo w4 _ _ _
    have rr5 := row_later rr4 k5
    have g1l : g1 < w4.heap.size := (SU.lt g1 rfl).2
    have g2l : g2 < w4.heap.size := (SF.lt g2 rfl).2
    have sb : SB W5 w3.heap.size X 0 (.slice (some ⟨g1, 0, none⟩) m c1) (.slice (some ⟨g2, 0, none⟩) m' c2) us fs :=
      ⟨rx.cell (i := 0) (by omega), rx.cell (i := 1) (by omega), rx.frozen 0, rx.lt, SU.below k5, SF.below k5, (by intro e; have : g1 = X := Option.some.inj e; have := HX.out; omega), (by intro e; have : g2 = X := Option.some.inj e; have := HX.out; omega)⟩
    have h5 := H.out.later B5
    have cU := l5Unit_c w3.heap.size X 0 g1 c1 k m (.slice (some ⟨g2, 0, none⟩) m' c2) us fs u gr og cr rm W5 ⟨sb, Hgd.out, Hk.out, H.out.hl, hr4, Hrp.out, h5.r, h5.lr⟩
    rw [Ht.out] at cU
    have hS2 : w.heap.size + 1 < w3.heap.size := rr2.lt
    have hX3 : w3.heap.size ≤ X := by rw [HX.out]; exact k4.size
    clear p0 p1 pl
    go_upto_region 8 with fail
    rw [← HW5.out, ← HX.out]
    go_wp2_with fail
    refine cU.mono ?_
    rintro e w6 ⟨gv, rfl, vu', sb6, SI6, K6, nn6, hv6⟩
    have B6 : Below w.heap.size w w6 := K6.below B5 B5.size (fun q hq e => by
      rcases e with e | e | e
      · omega
      · have := (SU.lt g1 rfl).1; have := B2.size; omega
      · have : g2 = q := Option.some.inj e; have := (SF.lt g2 rfl).1; have := B2.size; omega)
    have rr6 := rr5.of_block (K6.block (w.heap.size + 1) rr5.lt (by
      rintro (e | e | e)
      · omega
      · have := (SU.lt g1 rfl).1; omega
      · have : g2 = w.heap.size + 1 := Option.some.inj e; have := (SF.lt g2 rfl).1; omega))
    obtain ⟨aq, cq, hq⟩ := SI6.form
    obtain ⟨av, cv, hv, _⟩ := sb6.u.form
    obtain ⟨lq, Hlq⟩ : ∃ n, Hid ((addAt z4 u.c1.toNat t.give).length = n) := ⟨_, rfl⟩
    obtain ⟨lv, Hlv⟩ : ∃ n, Hid (t.us.length = n) := ⟨_, rfl⟩
    rw [Hlq.out] at hq
    rw [Hlv.out] at hv
    subst hq hv
    have hs5 : w3.heap.size ≤ W5.heap.size := Nat.le_trans k4.size k5.size
    have R6 : RIs w6 w3.heap.size ⟨0, addAt z4 u.c1.toNat t.give, 0 + t.lost, t.us, t.fs⟩ (.slice aq lq cq) (.slice av lv cv) (.slice (some ⟨g2, 0, none⟩) m' c2) := ⟨SI6.mono hs5, sb6.u, sb6.f⟩
    obtain ⟨L, HLo⟩ : ∃ L, Hid (t.lost = L) := ⟨_, rfl⟩
    have q0 := sb6.c0
    have q1 := sb6.c1
    have ql := sb6.lt
    obtain ⟨e0, e1, e2, e3, e4, z0, z1, z2, z3, z4, el⟩ := res_cells rr6
    obtain ⟨x0, x1, x2, x3, x4⟩ := setRes_cells (setRes_row rr6 0 (.slice aq lq cq) t.lost (.slice av lv cv) (.slice (some ⟨g2, 0, none⟩) m' c2))
    have BZ := setRes_bel B6 (w.heap.size + 1) (by omega) 0 (.slice aq lq cq) t.lost (.slice av lv cv) (.slice (some ⟨g2, 0, none⟩) m' c2)
    have RZ := (R6.setRes hS2 0 (.slice aq lq cq) t.lost (.slice av lv cv) (.slice (some ⟨g2, 0, none⟩) m' c2)).mono (base' := w.heap.size) (by omega)
    have eZ : Hid ((0 : Int) + t.lost = t.lost) := Int.zero_add _
    go_wp2_with fail
    refine bodyPost_ret (v := .agg (resV 0 (.slice aq lq cq) t.lost (.slice av lv cv) (.slice (some ⟨g2, 0, none⟩) m' c2))) ?_ rfl ⟨_, _, _, by show _ = Ending.returned (.agg (resV 0 _ (0 + t.lost) _ _)); rw [eZ.out], RZ, BZ⟩
    simp [results, Tryz.results14, go_sem, x0, x1, x2, x3, x4]
    done
end Go.Proofs.YtepjkcfheejlbaaGreatDoor
end

/- TickAllS0 -/
/- What the model's turn of a whole board has in memory: the result's block, its lists, what is left of rooms. Plain facts of four sums. No condition. -/
section
namespace Go.Proofs.YtepjkcfheejlbaaGreatDoor
open Go.ChangeShapes Go.WideShapes Go.ChangeAt Go.RowKit
open Bd
set_option linter.unusedVariables false

/- the first j of four are summed -/
def mixF (f : Int → Int → Int) (a b : List Int) (j : Nat) : List Int := (List.zipWith f a b).take j ++ a.drop j
theorem mix_start (f : Int → Int → Int) (a b : List Int) : mixF f a b 0 = a := by simp [mixF]
theorem mix_end {f : Int → Int → Int} {a b : List Int} (ha : a.length = 4) (hb : b.length = 4) : mixF f a b 4 = List.zipWith f a b := by
  obtain ⟨a0, a1, a2, a3, rfl⟩ := four ha
  obtain ⟨b0, b1, b2, b3, rfl⟩ := four hb
  rfl
theorem mix_step (f : Int → Int → Int) {a b : List Int} (ha : a.length = 4) (hb : b.length = 4) {j : Nat} (hj : j < 4) :
    (mixF f a b j)[j]? = some (a.getD j 0) ∧ b[j]? = some (b.getD j 0) ∧ (mixF f a b j).set j (f (a.getD j 0) (b.getD j 0)) = mixF f a b (j + 1) := by
  obtain ⟨a0, a1, a2, a3, rfl⟩ := four ha
  obtain ⟨b0, b1, b2, b3, rfl⟩ := four hb
  have : j = 0 ∨ j = 1 ∨ j = 2 ∨ j = 3 := by omega
  rcases this with rfl | rfl | rfl | rfl <;> exact ⟨rfl, rfl, rfl⟩
structure TB (w : World) (base S qg cg ql cl : Nat) (vu vf : Value) (us : List K10) (fs : List K3) (gn rm : List Int) (lost : Int) : Prop where
  row : w.rowIs S 32 5 (fun i => (resV 0 (.slice (some ⟨qg, 0, none⟩) 4 cg) lost vu vf)[i]!)
  u : SlU w base vu us
  f : SlF w base vf fs
  g : Lst w qg cg gn
  l : Lst w ql cl rm
  ne : qg ≠ ql
  nn : vu ≠ .slice none 0 0
  bS : base ≤ S
  bg : base ≤ qg
  bl : base ≤ ql
theorem SlU.blk {w : World} {base : Nat} {v : Value} {l : List K10} (h : SlU w base v l) {q : Nat} (hq : v.ownBlock = some q) : ∃ c, w.heap[q]? = some (.cells c 87 (0, 0)) := by
  rcases h.2 with ⟨rfl, _⟩ | ⟨g, cap, cur, rfl, _, hg, _⟩
  · cases hq
  · cases hq; exact ⟨cur, hg⟩
structure TBs (S qg ql : Nat) (vu vf : Value) : Prop where
  sg : S ≠ qg
  sl : S ≠ ql
  gl : qg ≠ ql
  u : ∀ q, vu.ownBlock = some q → q ≠ S ∧ q ≠ qg ∧ q ≠ ql
  f : ∀ q, vf.ownBlock = some q → q ≠ S ∧ q ≠ qg ∧ q ≠ ql
theorem TB.sep {w : World} {base S qg cg ql cl : Nat} {vu vf : Value} {us : List K10} {fs : List K3} {gn rm : List Int} {lost : Int} (h : TB w base S qg cg ql cl vu vf us fs gn rm lost) : TBs S qg ql vu vf := by
  obtain ⟨ct, ht, _⟩ := h.row
  obtain ⟨c1, h1, _⟩ := h.g
  obtain ⟨c2, h2, _⟩ := h.l
  refine ⟨blk_ne ht h1 (by decide), blk_ne ht h2 (by decide), h.ne, fun q hq => ?_, fun q hq => ?_⟩
  · obtain ⟨c, hc⟩ := h.u.blk hq
    exact ⟨blk_ne hc ht (by decide), blk_ne hc h1 (by decide), blk_ne hc h2 (by decide)⟩
  · obtain ⟨c, hc⟩ := h.f.blk hq
    exact ⟨blk_ne hc ht (by decide), blk_ne hc h1 (by decide), blk_ne hc h2 (by decide)⟩
theorem TB.later {w w' : World} {base S qg cg ql cl : Nat} {vu vf : Value} {us : List K10} {fs : List K3} {gn rm : List Int} {lost : Int} (h : TB w base S qg cg ql cl vu vf us fs gn rm lost) (hb : Below w.heap.size w w') : TB w' base S qg cg ql cl vu vf us fs gn rm lost :=
  ⟨row_later h.row hb, h.u.below hb, h.f.below hb, h.g.below hb, h.l.below hb, h.ne, h.nn, h.bS, h.bg, h.bl⟩
theorem TB.sb {w : World} {base S qg cg ql cl : Nat} {vu vf : Value} {us : List K10} {fs : List K3} {gn rm : List Int} {lost : Int} (h : TB w base S qg cg ql cl vu vf us fs gn rm lost) : SB w base S 3 vu vf us fs :=
  ⟨h.row.cell (i := 3) (by omega), h.row.cell (i := 4) (by omega), h.row.frozen 3, h.row.lt, h.u, h.f, fun e => (h.sep.u S e).1 rfl, fun e => (h.sep.f S e).1 rfl⟩
theorem TB.setG {w : World} {base S qg cg ql cl : Nat} {vu vf : Value} {us : List K10} {fs : List K3} {gn rm : List Int} {lost : Int} (h : TB w base S qg cg ql cl vu vf us fs gn rm lost) (o : Nat) (x : Int) : TB (w.setCell ⟨qg, o, none⟩ (.int .i64 x)) base S qg cg ql cl vu vf us fs (gn.set o x) rm lost := by
  have sp := h.sep
  have kb : ∀ q, q ≠ qg → (w.setCell ⟨qg, o, none⟩ (.int .i64 x)).heap[q]? = w.heap[q]? := fun q hq => Below.heap_setCell _ _ _ _ hq
  exact ⟨h.row.of_block (kb S sp.sg), h.u.of_block (fun q hq => kb q (sp.u q hq).2.1), h.f.of_block (fun q hq => kb q (sp.f q hq).2.1), h.g.set o x, h.l.of_block (kb ql sp.gl.symm), h.ne, h.nn, h.bS, h.bg, h.bl⟩
theorem TB.setL {w : World} {base S qg cg ql cl : Nat} {vu vf : Value} {us : List K10} {fs : List K3} {gn rm : List Int} {lost : Int} (h : TB w base S qg cg ql cl vu vf us fs gn rm lost) (o : Nat) (x : Int) : TB (w.setCell ⟨ql, o, none⟩ (.int .i64 x)) base S qg cg ql cl vu vf us fs gn (rm.set o x) lost := by
  have sp := h.sep
  have kb : ∀ q, q ≠ ql → (w.setCell ⟨ql, o, none⟩ (.int .i64 x)).heap[q]? = w.heap[q]? := fun q hq => Below.heap_setCell _ _ _ _ hq
  exact ⟨h.row.of_block (kb S sp.sl), h.u.of_block (fun q hq => kb q (sp.u q hq).2.2), h.f.of_block (fun q hq => kb q (sp.f q hq).2.2), h.g.of_block (kb qg sp.gl), h.l.set o x, h.ne, h.nn, h.bS, h.bg, h.bl⟩
theorem TB.setLost {w : World} {base S qg cg ql cl : Nat} {vu vf : Value} {us : List K10} {fs : List K3} {gn rm : List Int} {lost : Int} (h : TB w base S qg cg ql cl vu vf us fs gn rm lost) (x : Int) : TB (w.setCell ⟨S, 2, none⟩ (.int .i64 x)) base S qg cg ql cl vu vf us fs gn rm x := by
  have sp := h.sep
  have kb : ∀ q, q ≠ S → (w.setCell ⟨S, 2, none⟩ (.int .i64 x)).heap[q]? = w.heap[q]? := fun q hq => Below.heap_setCell _ _ _ _ hq
  exact ⟨(h.row.set 2 (.int .i64 x)).congr (fun i hi => by rcases i with _ | _ | _ | _ | _ | i <;> first | rfl | omega), h.u.of_block (fun q hq => kb q (sp.u q hq).1), h.f.of_block (fun q hq => kb q (sp.f q hq).1), h.g.of_block (kb qg sp.sg.symm), h.l.of_block (kb ql sp.sl.symm), h.ne, h.nn, h.bS, h.bg, h.bl⟩
/- behind a unit's turn -/
theorem TB.turn {w w' : World} {base S qg cg ql cl g cap n ow : Nat} {vf : Value} {us : List K10} {fs : List K3} {gn rm : List Int} {lost : Int} {t : Tk} {gv : Value} (h : TB w base S qg cg ql cl (.slice (some ⟨g, 0, none⟩) n cap) vf us fs gn rm lost) (o : UOut w w' base S 3 g cap n vf t ow gv) :
    ∃ vu', TB w' base S qg cg ql cl vu' vf t.us t.fs gn rm lost ∧ SlI w' w.heap.size gv (addAt z4 ow t.give) ∧ KeptS (fun b => b = S ∨ b = g ∨ vf.ownBlock = some b) w w' := by
  obtain ⟨vu', sb, hI, K, nn, hv, oo⟩ := o
  have sp := h.sep
  obtain ⟨v, hr⟩ := oo _ _ _ h.row
  have e3 : v = vu' := by
    have := (hr.cell (i := 3) (by omega)).symm.trans sb.c0
    simpa using this
  subst e3
  have kq : ∀ q, q < w.heap.size → q ≠ S → q ≠ g → vf.ownBlock ≠ some q → w'.heap[q]? = w.heap[q]? := fun q hq h1 h2 h3 => K.block q hq (fun e => e.elim h1 (fun e => e.elim h2 h3))
  refine ⟨v, ⟨hr.congr (fun i hi => by rcases i with _ | _ | _ | _ | _ | i <;> first | rfl | omega), sb.u, sb.f, h.g.of_block (kq qg h.g.lt sp.sg.symm (fun e => (sp.u g rfl).2.1 e.symm) (fun e => (sp.f qg e).2.1 rfl)), h.l.of_block (kq ql h.l.lt sp.sl.symm (fun e => (sp.u g rfl).2.2 e.symm) (fun e => (sp.f ql e).2.2 rfl)), h.ne, nn, h.bS, h.bg, h.bl⟩, hI, K⟩
/- what a board's turn is handed -/
structure LIn (w : World) (p o : Nat) (pu : Option Addr) (m c : Nat) (pf : Option Addr) (m' c' gr og : Nat) (us : List K10) (fs : List K3) (rm : List Int) : Prop where
  c0 : w.cell? ⟨p, o, none⟩ = some (.slice pu m c)
  c1 : w.cell? ⟨p, o + 1, none⟩ = some (.slice pf m' c')
  lp : p < w.heap.size
  hl : us.length = m
  hl' : fs.length = m'
  hr : rm.length = 4
  u : InU w pu m c us
  f : InF w pf m' c' fs
  r : IAt w gr og rm
  lr : gr < w.heap.size
theorem LIn.below {w w' : World} {p o : Nat} {pu : Option Addr} {m c : Nat} {pf : Option Addr} {m' c' gr og : Nat} {us : List K10} {fs : List K3} {rm : List Int} (h : LIn w p o pu m c pf m' c' gr og us fs rm) (hb : Below w.heap.size w w') : LIn w' p o pu m c pf m' c' gr og us fs rm :=
  ⟨by rw [hb.cell h.lp]; exact h.c0, by rw [hb.cell h.lp]; exact h.c1, Nat.lt_of_lt_of_le h.lp hb.size, h.hl, h.hl', h.hr, h.u.later hb, h.f.later hb, h.r.later h.lr hb, Nat.lt_of_lt_of_le h.lr hb.size⟩
end Go.Proofs.YtepjkcfheejlbaaGreatDoor
end
