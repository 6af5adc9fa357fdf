/- Texts of mine put together (a claim holds at most 60 files): TickOneS, TickLaw0. -/
import Derived.Test.YtlonmobfjpmokaaGreatDoorPartU45
import Derived.Test.YtlonmobfjpmokaaGreatDoorPartU44

/- TickOneS -/
/- The contract of the model's TickUnit. Condition: the lists lie in memory as they were laid there. -/
section
namespace Go.Proofs.YtlonmobfjpmokaaGreatDoor
open Go.ChangeShapes Go.WideShapes Go.ChangeAt Go.RowKit
open Bd
set_option linter.unusedVariables false

theorem SlU.addr {w : World} {base : Nat} {v : Value} {l : List K10} (h : SlU w base v l) (hn : v ≠ .slice none 0 0) : ∃ g cap, v = .slice (some ⟨g, 0, none⟩) l.length cap ∧ base ≤ g ∧ g < w.heap.size ∧ UAt w g 0 l := by
  rcases h.2 with ⟨h1, _⟩ | ⟨g, cap, cur, hv, hb, hg, hc, hm, hs, ht⟩
  · exact absurd h1 hn
  · refine ⟨g, cap, hv, hb, (Array.getElem?_eq_some_iff.1 hg).1, fun i x hi f hf => ?_⟩
    have e := flatU_get l i x f hi hf
    have hil : i < l.length := (List.getElem?_eq_some_iff.1 hi).1
    rw [← ht, List.getElem?_take, if_pos (by omega)] at e
    simp [World.cell?, hg]
    simpa using e
theorem SlF.addr {w : World} {base : Nat} {v : Value} {l : List K3} (h : SlF w base v l) (hn : v ≠ .slice none 0 0) : ∃ g cap, v = .slice (some ⟨g, 0, none⟩) l.length cap ∧ base ≤ g ∧ g < w.heap.size ∧ FAt w g 0 l := by
  rcases h.2 with ⟨h1, _⟩ | ⟨g, cap, cur, hv, hb, hg, hc, hm, hs, ht⟩
  · exact absurd h1 hn
  · refine ⟨g, cap, hv, hb, (Array.getElem?_eq_some_iff.1 hg).1, fun i x hi f hf => ?_⟩
    have e := flatF_get l i x f hi hf
    have hil : i < l.length := (List.getElem?_eq_some_iff.1 hi).1
    rw [← ht, List.getElem?_take, if_pos (by omega)] at e
    simp [World.cell?, hg]
    simpa using e
theorem TIn.asked {w : World} {g m c g' m' c' gr mr cr : Nat} {us : List K10} {fs : List K3} {rm : List Int} (h : TIn w g m c g' m' c' gr mr cr us fs rm) {p : Nat} (hB : BrdAt w p (.slice (some ⟨g, 0, none⟩) m c) (.slice (some ⟨g', 0, none⟩) m' c')) :
    Calls Tryz.prog 45 #[.pointer (some ⟨p, 0, none⟩), .slice (some ⟨gr, 0, none⟩) mr cr] w fun e w' => e = .returned (.int .i64 (tkF us fs rm)) ∧ Below w.heap.size w w' :=
  l5Asked_c p _ m c _ m' c' _ mr cr us fs rm h.hl h.hl' h.hr h.mx w hB h.au h.af h.ar
theorem TIn.copy {w : World} {g m c g' m' c' gr mr cr : Nat} {us : List K10} {fs : List K3} {rm : List Int} (h : TIn w g m c g' m' c' gr mr cr us fs rm) (gd : Gd us fs) :
    Calls Tryz.prog 47 #[.agg (brdV (some ⟨g, 0, none⟩) m c (some ⟨g', 0, none⟩) m' c')] w fun e w' => ∃ g1 c1 g2 c2, e = .returned (.agg (brdV (some ⟨g1, 0, none⟩) m c1 (some ⟨g2, 0, none⟩) m' c2)) ∧ SlU w' w.heap.size (.slice (some ⟨g1, 0, none⟩) m c1) us ∧ SlF w' w.heap.size (.slice (some ⟨g2, 0, none⟩) m' c2) fs ∧ Below w.heap.size w w' := by
  refine (l4Copy2_c g 0 c m g' 0 c' m' us fs h.hl (by have := gd.n8; have := h.hl; omega) h.hl' (by have := gd.n4; have := h.hl'; omega) w h.lu h.lf h.u h.f).mono ?_
  rintro e w' ⟨v, f, rfl, hU, hF, n1, n2, hb⟩
  obtain ⟨g1, c1, rfl, _, _, _⟩ := hU.addr n1
  obtain ⟨g2, c2, rfl, _, _, _⟩ := hF.addr n2
  rw [h.hl] at hU ⊢
  rw [h.hl'] at hF ⊢
  exact ⟨g1, c1, g2, c2, rfl, hU, hF, hb⟩
theorem tkS_gn {us : List K10} {fs : List K3} {rm : List Int} {i : Int} {u : K10} (h : findU us i = some u) : tkS (ts0 us fs rm) i = ⟨(tk1 us fs u (rm.getD u.c1.toNat 0)).us, (tk1 us fs u (rm.getD u.c1.toNat 0)).fs, addAt rm u.c1.toNat (-(tk1 us fs u (rm.getD u.c1.toNat 0)).give), addAt z4 u.c1.toNat (tk1 us fs u (rm.getD u.c1.toNat 0)).give, 0 + (tk1 us fs u (rm.getD u.c1.toNat 0)).lost⟩ := by
  rw [tkS_some (s := ts0 us fs rm) h]; rfl
set_option maxRecDepth 20000 in
set_option maxHeartbeats 16000000 in
theorem specTickUnit (g m c g' m' c' gr mr cr : Nat) (us : List K10) (fs : List K3) (i : Int) (rm : List Int) (w : World) (h : TIn w g m c g' m' c' gr mr cr us fs rm) :
    Calls Tryz.prog 14 #[.agg (brdV (some ⟨g, 0, none⟩) m c (some ⟨g', 0, none⟩) m' c'), .int .i64 i, .slice (some ⟨gr, 0, none⟩) mr cr] w fun e w' => ∃ q v f, e = .returned (.agg (resV (tuR us fs i rm).c q (tuR us fs i rm).l v f)) ∧ RIs w' w.heap.size (tuR us fs i rm) q v f ∧ Below w.heap.size w w' := by
  obtain ⟨W1, HW1, rb, rr, B1⟩ := two_res w (.slice (some ⟨g, 0, none⟩) m c) (.slice (some ⟨g', 0, none⟩) m' c')
  have cF := (h.later B1).asked (row_brd rb)
  rcases tu_cases us fs i rm with ⟨h1, e⟩ | ⟨h1, hf, e⟩ | ⟨u, h1, hf, e⟩
  · rw [e]
    have h1' := bne_of h1
    generalize tkF us fs rm = R at h1 h1' cF ⊢
    clear h e
    go_enter Tryz.func14, Tryz.ntmps14
    go_upto_region 1 with fail
    rw [← HW1.out]
    go_wp2_with fail
    refine cF.mono ?_
    rintro e w2 ⟨rfl, k2⟩
    have B2 := B1.trans (k2.mono B1.size)
    have rr2 := row_later rr k2
    obtain ⟨e0, e1, e2, e3, e4, z0, z1, z2, z3, z4, el⟩ := res_cells rr2
    obtain ⟨x0, x1, x2, x3, x4⟩ := setRes_cells (setRes_row rr2 R (.slice none 0 0) 0 (.slice none 0 0) (.slice none 0 0))
    have BZ := setRes_bel B2 (w.heap.size + 1) (by omega) R (.slice none 0 0) 0 (.slice none 0 0) (.slice none 0 0)
    have RZ := RIs.nil (stRes w2 (w.heap.size + 1) R (.slice none 0 0) 0 (.slice none 0 0) (.slice none 0 0)) w.heap.size R
    go_wp2_with fail
    refine bodyPost_ret (v := .agg (resV R (.slice none 0 0) 0 (.slice none 0 0) (.slice none 0 0))) ?_ rfl ⟨_, _, _, rfl, RZ, BZ⟩
    simp [results, Tryz.results14, go_sem, x0, x1, x2, x3, x4]
    done
  · rw [e]
    obtain ⟨hb0, hr4, hrp⟩ := tkF_ok h1
    have gd := Gd.of hb0
    have hm8 : m ≤ 8 := by have := gd.n8; have := h.hl; omega
    have cA := fun W (hB : Below w.heap.size w W) => l4At_c (some ⟨g, 0, none⟩) m c us i h.hl hm8 W (h.later hB).au
    have hat : atI us i = -1 := by
      rcases atU_find us i with ⟨a1, _⟩ | ⟨k, x, _, _, a3⟩
      · unfold atI; rw [a1]
      · rw [hf] at a3; cases a3
    rw [hat] at cA
    rw [h1] at cF
    clear h e h1 hf hat gd hb0 hrp
    go_enter Tryz.func14, Tryz.ntmps14
    go_upto_region 1 with fail
    rw [← HW1.out]
    go_wp2_with fail
    refine cF.mono ?_
    rintro e w2 ⟨rfl, k2⟩
    have B2 := B1.trans (k2.mono B1.size)
    have rr2 := row_later rr k2
    obtain ⟨p0, p1, pl⟩ := row_brd (row_later rb k2)
    go_wp2_with fail
    refine (cA _ B2).mono ?_
    rintro e w3 ⟨rfl, rfl⟩
    clear p0 p1 pl
    obtain ⟨e0, e1, e2, e3, e4, z0, z1, z2, z3, z4, el⟩ := res_cells rr2
    obtain ⟨x0, x1, x2, x3, x4⟩ := setRes_cells (setRes_row rr2 4 (.slice none 0 0) 0 (.slice none 0 0) (.slice none 0 0))
    have BZ := setRes_bel B2 (w.heap.size + 1) (by omega) 4 (.slice none 0 0) 0 (.slice none 0 0) (.slice none 0 0)
    have RZ := RIs.nil (stRes w3 (w.heap.size + 1) 4 (.slice none 0 0) 0 (.slice none 0 0) (.slice none 0 0)) w.heap.size 4
    go_wp2_with fail
    refine bodyPost_ret (v := .agg (resV 4 (.slice none 0 0) 0 (.slice none 0 0) (.slice none 0 0))) ?_ rfl ⟨_, _, _, rfl, RZ, BZ⟩
    simp [results, Tryz.results14, go_sem, x0, x1, x2, x3, x4]
    done
  · rw [e]
    obtain ⟨hb0, hr4, hrp⟩ := tkF_ok h1
    have gd := Gd.of hb0
    have hm : mr = 4 := by have := h.hr; omega
    subst hm
    have hm8 : m ≤ 8 := by have := gd.n8; have := h.hl; omega
    obtain ⟨k, hat, hk⟩ : ∃ k : Nat, atI us i = (k : Int) ∧ us[k]? = some u := by
      rcases atU_find us i with ⟨_, a2⟩ | ⟨k, x, a1, a2, a3⟩
      · rw [hf] at a2; cases a2
      · rw [hf] at a3; cases a3
        exact ⟨k, by unfold atI; rw [a1], a2⟩
    have cA := fun W (hB : Below w.heap.size w W) => l4At_c (some ⟨g, 0, none⟩) m c us i h.hl hm8 W (h.later hB).au
    rw [hat] at cA
    have hkd : decide ((k : Int) < 0) = false := decide_eq_false (by omega)
    have cC := fun W (hB : Below w.heap.size w W) => (h.later hB).copy gd
    rw [h1] at cF
    obtain ⟨t, Ht⟩ : ∃ t, Hid (tk1 us fs u (rm.getD u.c1.toNat 0) = t) := ⟨_, rfl⟩
    have eS := tkS_gn (fs := fs) (rm := rm) hf
    rw [Ht.out] at eS
    rw [eS]
    have H : Hid (TIn w g m c g' m' c' gr 4 cr us fs rm) := h
    have Hgd : Hid (Gd us fs) := gd
    have Hk : Hid (us[k]? = some u) := hk
    have Hrp : Hid (∀ x ∈ rm, 0 ≤ x ∧ x ≤ 1000000) := hrp
    clear h e h1 hf hat gd hb0 hrp eS hk
    go_enter Tryz.func14, Tryz.ntmps14
    go_upto_region 1 with fail
    rw [← HW1.out]
    go_wp2_with fail
    refine cF.mono ?_
    rintro e w2 ⟨rfl, k2⟩
    have B2 := B1.trans (k2.mono B1.size)
    have rr2 := row_later rr k2
    obtain ⟨p0, p1, pl⟩ := row_brd (row_later rb k2)
    go_wp2_with fail
    refine (cA _ B2).mono ?_
    rintro e w3 ⟨rfl, rfl⟩
    go_wp2_with fail
    refine (cC _ B2).mono ?_
    rintro e w4 ⟨g1, c1, g2, c2, rfl, SU, SF, k4⟩
    have B4 := B2.trans (k4.mono B2.size)
    have rr4 := row_later rr2 k4
    obtain ⟨W5, HW5⟩ : ∃ W5, Hid (W5 = w4.alloc (.cells (brdV (some ⟨g1, 0, none⟩) m c1 (some ⟨g2, 0, none⟩) m' c2) 27)) := ⟨_, rfl⟩
    obtain ⟨X, HX⟩ : ∃ X, Hid (X = w4.heap.size) := ⟨_, rfl⟩
    have k5 : Below w4.heap.size w4 W5 := by rw [HW5.out]; exact (Below.refl _ _).alloc (Nat.le_refl _) _
    have B5 := B4.trans (k5.mono B4.size)
    have rx : W5.rowIs X 27 2 (fun i => if i = 0 then .slice (some ⟨g1, 0, none⟩) m c1 else .slice (some ⟨g2, 0, none⟩) m' c2) := by rw [HW5.out, HX.out]; exact rowTwo w4 _ _ _
    have rr5 := row_later rr4 k5
    have g1l : g1 < w4.heap.size := (SU.lt g1 rfl).2
    have g2l : g2 < w4.heap.size := (SF.lt g2 rfl).2
    have sb : SB W5 w3.heap.size X 0 (.slice (some ⟨g1, 0, none⟩) m c1) (.slice (some ⟨g2, 0, none⟩) m' c2) us fs :=
      ⟨rx.cell (i := 0) (by omega), rx.cell (i := 1) (by omega), rx.frozen 0, rx.lt, SU.below k5, SF.below k5, (by intro e; have : g1 = X := Option.some.inj e; have := HX.out; omega), (by intro e; have : g2 = X := Option.some.inj e; have := HX.out; omega)⟩
    have h5 := H.out.later B5
    have cU := l5Unit_c w3.heap.size X 0 g1 c1 k m (.slice (some ⟨g2, 0, none⟩) m' c2) us fs u gr 0 cr rm W5 ⟨sb, Hgd.out, Hk.out, H.out.hl, hr4, Hrp.out, h5.r, h5.lr⟩
    rw [Ht.out] at cU
    have hS2 : w.heap.size + 1 < w3.heap.size := rr2.lt
    have hX3 : w3.heap.size ≤ X := by rw [HX.out]; exact k4.size
    clear p0 p1 pl
    go_upto_region 8 with fail
    rw [← HW5.out, ← HX.out]
    go_wp2_with fail
    refine cU.mono ?_
    rintro e w6 ⟨gv, rfl, vu', sb6, SI6, K6, nn6, hv6⟩
    have B6 : Below w.heap.size w w6 := K6.below B5 B5.size (fun q hq e => by
      rcases e with e | e | e
      · omega
      · have := (SU.lt g1 rfl).1; have := B2.size; omega
      · have : g2 = q := Option.some.inj e; have := (SF.lt g2 rfl).1; have := B2.size; omega)
    have rr6 := rr5.of_block (K6.block (w.heap.size + 1) rr5.lt (by
      rintro (e | e | e)
      · omega
      · have := (SU.lt g1 rfl).1; omega
      · have : g2 = w.heap.size + 1 := Option.some.inj e; have := (SF.lt g2 rfl).1; omega))
    obtain ⟨aq, cq, hq⟩ := SI6.form
    obtain ⟨av, cv, hv, _⟩ := sb6.u.form
    obtain ⟨lq, Hlq⟩ : ∃ n, Hid ((addAt z4 u.c1.toNat t.give).length = n) := ⟨_, rfl⟩
    obtain ⟨lv, Hlv⟩ : ∃ n, Hid (t.us.length = n) := ⟨_, rfl⟩
    rw [Hlq.out] at hq
    rw [Hlv.out] at hv
    subst hq hv
    have hs5 : w3.heap.size ≤ W5.heap.size := Nat.le_trans k4.size k5.size
    have R6 : RIs w6 w3.heap.size ⟨0, addAt z4 u.c1.toNat t.give, 0 + t.lost, t.us, t.fs⟩ (.slice aq lq cq) (.slice av lv cv) (.slice (some ⟨g2, 0, none⟩) m' c2) := ⟨SI6.mono hs5, sb6.u, sb6.f⟩
    obtain ⟨L, HLo⟩ : ∃ L, Hid (t.lost = L) := ⟨_, rfl⟩
    have q0 := sb6.c0
    have q1 := sb6.c1
    have ql := sb6.lt
    obtain ⟨e0, e1, e2, e3, e4, z0, z1, z2, z3, z4, el⟩ := res_cells rr6
    obtain ⟨x0, x1, x2, x3, x4⟩ := setRes_cells (setRes_row rr6 0 (.slice aq lq cq) t.lost (.slice av lv cv) (.slice (some ⟨g2, 0, none⟩) m' c2))
    have BZ := setRes_bel B6 (w.heap.size + 1) (by omega) 0 (.slice aq lq cq) t.lost (.slice av lv cv) (.slice (some ⟨g2, 0, none⟩) m' c2)
    have RZ := (R6.setRes hS2 0 (.slice aq lq cq) t.lost (.slice av lv cv) (.slice (some ⟨g2, 0, none⟩) m' c2)).mono (base' := w.heap.size) (by omega)
    have eZ : Hid ((0 : Int) + t.lost = t.lost) := Int.zero_add _
    go_wp2_with fail
    refine bodyPost_ret (v := .agg (resV 0 (.slice aq lq cq) t.lost (.slice av lv cv) (.slice (some ⟨g2, 0, none⟩) m' c2))) ?_ rfl ⟨_, _, _, by show _ = Ending.returned (.agg (resV 0 _ (0 + t.lost) _ _)); rw [eZ.out], RZ, BZ⟩
    simp [results, Tryz.results14, go_sem, x0, x1, x2, x3, x4]
    done
end Go.Proofs.YtlonmobfjpmokaaGreatDoor
end

/- TickLaw0 -/
/- What the walks of the exact laws of ticks share: a result in memory, its blocks. No condition. -/
section
namespace Go.Proofs.YtlonmobfjpmokaaGreatDoor
open Go.ChangeShapes Go.WideShapes Go.ChangeAt Go.RowKit
open Bd
set_option linter.unusedVariables false

theorem tin_of {w : World} {base g g' gr mr : Nat} {us : List K10} {fs : List K3} {rm : List Int} (N : NewB w base g g' us fs) (L : Lst w gr mr rm) (hr : rm.length = mr) (hm : mr ≤ 1048576) : TIn w g us.length us.length g' fs.length fs.length gr mr mr us fs rm :=
  ⟨rfl, rfl, hr, by omega, rowU_is rfl N.u, rowF_is rfl N.f, L.iat, N.u.lt, N.f.lt, L.lt⟩
theorem RIs.forms {w : World} {base : Nat} {r : TR} {g v f : Value} {ng nu nf : Nat} (h : RIs w base r g v f) (hn : RLen r ng nu nf) : ∃ a1 a2 a3 c1 c2 c3, g = .slice a1 ng c1 ∧ v = .slice a2 nu c2 ∧ f = .slice a3 nf c3 := by
  obtain ⟨a1, c1, e1⟩ := h.g.form
  obtain ⟨a2, c2, e2, _⟩ := h.u.form
  obtain ⟨a3, c3, e3, _⟩ := h.f.form
  rw [hn.g] at e1
  rw [hn.u] at e2
  rw [hn.f] at e3
  exact ⟨a1, a2, a3, c1, c2, c3, e1, e2, e3⟩
structure RA (w : World) (base S : Nat) (r : TR) (g v f : Value) : Prop where
  row : w.rowIs S 32 5 (fun i => (resV r.c g r.l v f)[i]!)
  is : RIs w base r g v f
  bs : base ≤ S
theorem RA.new {w : World} {base : Nat} {r : TR} {g v f : Value} (h : RIs w base r g v f) (hb : base ≤ w.heap.size) : RA (w.alloc (.cells (resV r.c g r.l v f) 32)) base w.heap.size r g v f :=
  ⟨rowAll w (resV r.c g r.l v f) _, h.later ((Below.refl _ _).alloc (Nat.le_refl _) _), hb⟩
theorem RA.later {w w' : World} {base S : Nat} {r : TR} {g v f : Value} (h : RA w base S r g v f) (hb : Below w.heap.size w w') : RA w' base S r g v f := ⟨row_later h.row hb, h.is.later hb, h.bs⟩
def ABlk (S : Nat) (g v f : Value) (b : Nat) : Prop := b = S ∨ RBlk g v f b
theorem RA.lt {w : World} {base S : Nat} {r : TR} {g v f : Value} (h : RA w base S r g v f) (b : Nat) (hb : ABlk S g v f b) : base ≤ b ∧ b < w.heap.size := by
  rcases hb with rfl | hb
  · exact ⟨h.bs, h.row.lt⟩
  · exact h.is.lt b hb
theorem RA.kept {K : Nat → Prop} {w w' : World} {base S : Nat} {r : TR} {g v f : Value} (h : RA w base S r g v f) (k : KeptS K w w') (hs : ∀ b, ABlk S g v f b → ¬ K b) : RA w' base S r g v f :=
  ⟨h.row.of_block (k.block S h.row.lt (hs S (.inl rfl))), h.is.of_kept k (fun b hb => hs b (.inr hb)), h.bs⟩
theorem RA.cells {w : World} {base S : Nat} {r : TR} {g v f : Value} (h : RA w base S r g v f) : w.cell? ⟨S, 0, none⟩ = some (.int .i64 r.c) ∧ w.cell? ⟨S, 1, none⟩ = some g ∧ w.cell? ⟨S, 2, none⟩ = some (.int .i64 r.l) ∧ w.cell? ⟨S, 3, none⟩ = some v ∧ w.cell? ⟨S, 4, none⟩ = some f ∧ S < w.heap.size :=
  ⟨h.row.cell (i := 0) (by omega), h.row.cell (i := 1) (by omega), h.row.cell (i := 2) (by omega), h.row.cell (i := 3) (by omega), h.row.cell (i := 4) (by omega), h.row.lt⟩
theorem RA.ne {w : World} {base S : Nat} {r : TR} {g v f : Value} (h : RA w base S r g v f) : ¬ RBlk g v f S := by
  obtain ⟨c, hS, _⟩ := h.row
  obtain ⟨a1, a2, a3⟩ := h.is.apart hS
  rintro (e | e | e)
  · exact a1 e
  · exact a2 e
  · exact a3 e
theorem KeptS.of2 {w w' : World} {g h : Nat} (k : Kept2 w w' g h) : KeptS (fun b => b = g ∨ b = h) w w' := ⟨k.os, k.tape, k.output, k.size, fun i hi hn => k.block i hi (fun e => hn (.inl e)) (fun e => hn (.inr e))⟩
theorem KeptS.ofG {w w' : World} {g : Nat} (k : w.grownBy w' (some g)) : KeptS (fun b => b = g) w w' := ⟨k.os, k.tape, k.output, k.size, fun i hi hn => k.block i hi (fun e => hn (Option.some.inj e))⟩
theorem row_kept {K : Nat → Prop} {w w' : World} {g n : Nat} {t : TypeId} {f : Nat → Value} (h : w.rowIs g t n f) (k : KeptS K w w') (hs : ¬ K g) : w'.rowIs g t n f := h.of_block (k.block g h.lt hs)
theorem tu_len (us : List K10) (fs : List K3) (i : Int) (rm : List Int) : ∃ ng nu nf, RLen (tuR us fs i rm) ng nu nf := by
  suffices h : (tuR us fs i rm).g.length ≤ 1000 ∧ (tuR us fs i rm).us.length ≤ 1000 ∧ (tuR us fs i rm).fs.length ≤ 1000 from ⟨_, _, _, rfl, rfl, rfl, h.1, h.2.1, h.2.2⟩
  rcases tu_cases us fs i rm with ⟨h1, e⟩ | ⟨h1, hf, e⟩ | ⟨u, h1, hf, e⟩
  · rw [e]; exact ⟨by show 0 ≤ 1000; omega, by show 0 ≤ 1000; omega, by show 0 ≤ 1000; omega⟩
  · rw [e]; exact ⟨by show 0 ≤ 1000; omega, by show 0 ≤ 1000; omega, by show 0 ≤ 1000; omega⟩
  · rw [e]
    have t := (tg0 h1).step i
    exact ⟨by show (tkS _ i).gn.length ≤ _; rw [t.gl]; omega, by have := t.gd.n8; show (tkS _ i).us.length ≤ _; omega, by have := t.gd.n4; show (tkS _ i).fs.length ≤ _; omega⟩
end Go.Proofs.YtlonmobfjpmokaaGreatDoor
end
