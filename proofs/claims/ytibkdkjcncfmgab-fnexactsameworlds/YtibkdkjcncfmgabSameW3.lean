/- Contracts of SameWorlds and of its model on new worlds, and the walk of its exact law. No condition. -/
import Derived.Test.YtibkdkjcncfmgabSameW2
namespace Go.Proofs.Ytibkdkjcncfmgab
open Go.ChangeShapes Go.WideShapes Go.ChangeAt Go.RowKit
set_option linter.unusedVariables false

theorem NewW.lts {w : World} {base gu gf ga gs go : Nat} {x : KW} (h : NewW w base gu gf ga gs go x) : gu < w.heap.size ∧ gf < w.heap.size ∧ ga < w.heap.size ∧ gs < w.heap.size ∧ go < w.heap.size := ⟨h.u.lt, h.f.lt, h.a.lt, h.s.lt, h.o.lt⟩
theorem drewB {f : FuncId} {args : Array Value} {w : World} {b : Bool} (h : Calls Try.prog f args w fun e w' => e = .returned (.bool b) ∧ ∃ nq, w' = w.drewN nq) : Calls Try.prog f args w fun e w' => e = .returned (.bool b) ∧ Below w.heap.size w w' :=
  h.mono fun e w' ⟨he, nq, hw⟩ => ⟨he, by rw [hw]; exact below_drewN _ _⟩
set_option maxHeartbeats 2000000 in
theorem specSameWorlds {w : World} {base base2 gu gf ga gs go hu hf ha hs ho : Nat} {x y : KW} (N1 : NewW w base gu gf ga gs go x) (N2 : NewW w base2 hu hf ha hs ho y) (hm : x.n ≤ 1048576) (hn : y.n ≤ 1048576) :
    Calls Try.prog 5 #[.agg ((nwp gu gf ga gs go x).v x), .agg ((nwp hu hf ha hs ho y).v y)] w fun e w' => e = .returned (.bool (sameW x y)) ∧ Below w.heap.size w w' := by
  have B2 : Below w.heap.size w ((w.alloc (.cells ((nwp gu gf ga gs go x).v x) 41)).alloc (.cells ((nwp hu hf ha hs ho y).v y) 41)) := ((Below.refl _ _).alloc (Nat.le_refl _) _).alloc (by rw [size_new]; omega) _
  have M1 := N1.later B2
  have M2 := N2.later B2
  have k2 : Below (w.alloc (.cells ((nwp gu gf ga gs go x).v x) 41)).heap.size (w.alloc (.cells ((nwp gu gf ga gs go x).v x) 41)) ((w.alloc (.cells ((nwp gu gf ga gs go x).v x) 41)).alloc (.cells ((nwp hu hf ha hs ho y).v y) 41)) := (Below.refl _ _).alloc (Nat.le_refl _) _
  have P := (At7.new w x.t x.s (.slice (some ⟨gu, 0, none⟩) x.us.length x.us.length) (.slice (some ⟨gf, 0, none⟩) x.fs.length x.fs.length) (.slice (some ⟨ga, 0, none⟩) x.fa.length x.fa.length) (.slice (some ⟨gs, 0, none⟩) x.se.length x.se.length) (.slice (some ⟨go, 0, none⟩) x.oo.length x.oo.length) 41).later k2
  have Q := At7.new (w.alloc (.cells ((nwp gu gf ga gs go x).v x) 41)) y.t y.s (.slice (some ⟨hu, 0, none⟩) y.us.length y.us.length) (.slice (some ⟨hf, 0, none⟩) y.fs.length y.fs.length) (.slice (some ⟨ha, 0, none⟩) y.fa.length y.fa.length) (.slice (some ⟨hs, 0, none⟩) y.se.length y.se.length) (.slice (some ⟨ho, 0, none⟩) y.oo.length y.oo.length) 41
  rw [size_new] at Q
  have c := l6Same_c w.heap.size (w.heap.size + 1) gu gf ga gs go hu hf ha hs ho x.us.length x.fs.length x.fa.length x.se.length x.oo.length y.us.length y.fs.length y.fa.length y.se.length y.oo.length x y _ rfl rfl rfl rfl rfl rfl rfl rfl rfl rfl hm hn P Q M1.lts M2.lts (rowU_is rfl M1.u) (rowF_is rfl M1.f) (rowA_is rfl M1.a) (rowS_is rfl M1.s) (rowO_is rfl M1.o) (rowU_is rfl M2.u) (rowF_is rfl M2.f) (rowA_is rfl M2.a) (rowS_is rfl M2.s) (rowO_is rfl M2.o)
  generalize sameW x y = R at c ⊢
  clear P Q M1 M2 k2 N1 N2
  obtain ⟨W2, HW⟩ : ∃ W2, Hid (W2 = (w.alloc (.cells ((nwp gu gf ga gs go x).v x) 41)).alloc (.cells ((nwp hu hf ha hs ho y).v y) 41)) := ⟨_, rfl⟩
  rw [← HW.out] at c B2
  obtain ⟨vx, hvx⟩ : ∃ v, Hid (v = (nwp gu gf ga gs go x).v x) := ⟨_, rfl⟩
  go_enter Try.func5, Try.ntmps5
  go_upto_region 1 with fail
  rw [← HW.out]
  go_wp2_with fail
  refine c.mono ?_
  rintro e w1 ⟨rfl, k1⟩
  go_wp2
  go_ret
  exact ⟨rfl, B2.trans (k1.mono B2.size)⟩
set_option maxRecDepth 20000 in
set_option maxHeartbeats 8000000 in
theorem implSameWorlds {w : World} {base base2 gu gf ga gs go hu hf ha hs ho : Nat} {x y : KW} (N1 : NewW w base gu gf ga gs go x) (N2 : NewW w base2 hu hf ha hs ho y) (hm : x.n ≤ 1048576) (hn : y.n ≤ 1048576) :
    Calls Try.prog 7 #[.agg ((nwp gu gf ga gs go x).v x), .agg ((nwp hu hf ha hs ho y).v y)] w fun e w' => e = .returned (.bool (sameW x y)) ∧ Below w.heap.size w w' := by
  obtain ⟨t, s, us, fs, fa, se, oo⟩ := x
  obtain ⟨t', s', us', fs', fa', se', oo'⟩ := y
  unfold KW.n at hm hn
  dsimp only at hm hn
  have l1 := N1.lts
  have l2 := N2.lts
  have hgf := N1.lt
  have hhf := N2.lt
  have cB := fun W (h : Below w.heap.size w W) => implSameB W (us := us) (fs := fs) (us2 := us') (fs2 := fs') (⟨(N1.later h).u, (N1.later h).f, Nat.zero_le _, hgf⟩ : NewB W 0 gu gf us fs) (⟨(N2.later h).u, (N2.later h).f, Nat.zero_le _, hhf⟩ : NewB W 0 hu hf us' fs') (by omega) (by omega) (by omega) (by omega)
  have cA := fun W (h : Below w.heap.size w W) => drewB (sliceEqA W ga 0 fa.length fa.length ha 0 fa'.length fa'.length fa fa' rfl rfl (by omega) (by omega) (rowA_is rfl (N1.later h).a) (rowA_is rfl (N2.later h).a))
  have cS := fun W (h : Below w.heap.size w W) => drewB (sliceEqS W gs 0 se.length se.length hs 0 se'.length se'.length se se' rfl rfl (by omega) (by omega) (rowS_is rfl (N1.later h).s) (rowS_is rfl (N2.later h).s))
  have cO := fun W (h : Below w.heap.size w W) => drewB (sliceEqO W go 0 oo.length oo.length ho 0 oo'.length oo'.length oo oo' rfl rfl (by omega) (by omega) (rowO_is rfl (N1.later h).o) (rowO_is rfl (N2.later h).o))
  have hc := sw_cases ⟨t, s, us, fs, fa, se, oo⟩ ⟨t', s', us', fs', fa', se', oo'⟩
  dsimp only at hc
  clear N1 N2 l1 l2
  show Calls Try.prog 7 #[.agg (wv t s (some ⟨gu, 0, none⟩) us.length us.length (some ⟨gf, 0, none⟩) fs.length fs.length (some ⟨ga, 0, none⟩) fa.length fa.length (some ⟨gs, 0, none⟩) se.length se.length (some ⟨go, 0, none⟩) oo.length oo.length), .agg (wv t' s' (some ⟨hu, 0, none⟩) us'.length us'.length (some ⟨hf, 0, none⟩) fs'.length fs'.length (some ⟨ha, 0, none⟩) fa'.length fa'.length (some ⟨hs, 0, none⟩) se'.length se'.length (some ⟨ho, 0, none⟩) oo'.length oo'.length)] w _
  generalize sameW ⟨t, s, us, fs, fa, se, oo⟩ ⟨t', s', us', fs', fa', se', oo'⟩ = R at hc ⊢
  generalize (allU us us' && allF fs fs') = bB at cB hc
  generalize allA fa fa' = bA at cA hc
  generalize allS se se' = bS at cS hc
  generalize allO oo oo' = bO at cO hc
  generalize us.length = mu at cB ⊢
  generalize fs.length = mf at cB ⊢
  generalize fa.length = ma at cA ⊢
  generalize se.length = ms at cS ⊢
  generalize oo.length = mo at cO ⊢
  generalize us'.length = nu at cB ⊢
  generalize fs'.length = nf at cB ⊢
  generalize fa'.length = na at cA ⊢
  generalize se'.length = ns at cS ⊢
  generalize oo'.length = no at cO ⊢
  clear hm hn
  obtain ⟨W, HW⟩ : ∃ W, Hid (W = (w.alloc (.cells (wv t s (some ⟨gu, 0, none⟩) mu mu (some ⟨gf, 0, none⟩) mf mf (some ⟨ga, 0, none⟩) ma ma (some ⟨gs, 0, none⟩) ms ms (some ⟨go, 0, none⟩) mo mo) 41)).alloc (.cells (wv t' s' (some ⟨hu, 0, none⟩) nu nu (some ⟨hf, 0, none⟩) nf nf (some ⟨ha, 0, none⟩) na na (some ⟨hs, 0, none⟩) ns ns (some ⟨ho, 0, none⟩) no no) 41)) := ⟨_, rfl⟩
  have B2 : Below w.heap.size w W := by rw [HW.out]; exact ((Below.refl _ _).alloc (Nat.le_refl _) _).alloc (by rw [size_new]; omega) _
  have P : Bk W w.heap.size (wv t s (some ⟨gu, 0, none⟩) mu mu (some ⟨gf, 0, none⟩) mf mf (some ⟨ga, 0, none⟩) ma ma (some ⟨gs, 0, none⟩) ms ms (some ⟨go, 0, none⟩) mo mo) 41 := by rw [HW.out]; exact (Bk.new w (wv t s (some ⟨gu, 0, none⟩) mu mu (some ⟨gf, 0, none⟩) mf mf (some ⟨ga, 0, none⟩) ma ma (some ⟨gs, 0, none⟩) ms ms (some ⟨go, 0, none⟩) mo mo) 41).alloc _
  have Q : Bk W (w.heap.size + 1) (wv t' s' (some ⟨hu, 0, none⟩) nu nu (some ⟨hf, 0, none⟩) nf nf (some ⟨ha, 0, none⟩) na na (some ⟨hs, 0, none⟩) ns ns (some ⟨ho, 0, none⟩) no no) 41 := by rw [HW.out]; have h := Bk.new (w.alloc (.cells (wv t s (some ⟨gu, 0, none⟩) mu mu (some ⟨gf, 0, none⟩) mf mf (some ⟨ga, 0, none⟩) ma ma (some ⟨gs, 0, none⟩) ms ms (some ⟨go, 0, none⟩) mo mo) 41)) (wv t' s' (some ⟨hu, 0, none⟩) nu nu (some ⟨hf, 0, none⟩) nf nf (some ⟨ha, 0, none⟩) na na (some ⟨hs, 0, none⟩) ns ns (some ⟨ho, 0, none⟩) no no) 41; rw [size_new] at h; exact h
  have keep : ∀ w', Below W.heap.size W w' → w'.cell? ⟨w.heap.size, 0, none⟩ = some (.int .i64 t) ∧ w'.cell? ⟨w.heap.size, 1, none⟩ = some (.int .i64 s) ∧ w'.cell? ⟨w.heap.size, 2, none⟩ = some (.slice (some ⟨gu, 0, none⟩) mu mu) ∧ w'.cell? ⟨w.heap.size, 3, none⟩ = some (.slice (some ⟨gf, 0, none⟩) mf mf) ∧ w'.cell? ⟨w.heap.size, 4, none⟩ = some (.slice (some ⟨ga, 0, none⟩) ma ma) ∧ w'.cell? ⟨w.heap.size, 5, none⟩ = some (.slice (some ⟨gs, 0, none⟩) ms ms) ∧ w'.cell? ⟨w.heap.size, 6, none⟩ = some (.slice (some ⟨go, 0, none⟩) mo mo) ∧ w'.cell? ⟨w.heap.size + 1, 0, none⟩ = some (.int .i64 t') ∧ w'.cell? ⟨w.heap.size + 1, 1, none⟩ = some (.int .i64 s') ∧ w'.cell? ⟨w.heap.size + 1, 2, none⟩ = some (.slice (some ⟨hu, 0, none⟩) nu nu) ∧ w'.cell? ⟨w.heap.size + 1, 3, none⟩ = some (.slice (some ⟨hf, 0, none⟩) nf nf) ∧ w'.cell? ⟨w.heap.size + 1, 4, none⟩ = some (.slice (some ⟨ha, 0, none⟩) na na) ∧ w'.cell? ⟨w.heap.size + 1, 5, none⟩ = some (.slice (some ⟨hs, 0, none⟩) ns ns) ∧ w'.cell? ⟨w.heap.size + 1, 6, none⟩ = some (.slice (some ⟨ho, 0, none⟩) no no) ∧ w.heap.size < w'.heap.size ∧ w.heap.size + 1 < w'.heap.size := fun w' hb => by
    have q1 := P.below hb
    have b1 := Q.below hb
    exact ⟨q1.cell rfl, q1.cell rfl, q1.cell rfl, q1.cell rfl, q1.cell rfl, q1.cell rfl, q1.cell rfl, b1.cell rfl, b1.cell rfl, b1.cell rfl, b1.cell rfl, b1.cell rfl, b1.cell rfl, b1.cell rfl, q1.lt, b1.lt⟩
  have keep' := keep _ (Below.refl _ _)
  obtain ⟨x0, x1, x2, x3, x4, x5, x6, y0, y1, y2, y3, y4, y5, y6, xl, yl⟩ := keep'
  have Bc : Below W.heap.size W W := Below.refl _ _
  rcases hc with ⟨e1, e⟩ | ⟨e1, e2, e⟩ | ⟨e1, e2, e3, e⟩ | ⟨e1, e2, e3, e⟩
  · subst e
    go_enter Try.func7, Try.ntmps7
    go_upto_region 1 with fail
    rw [← HW.out]
    try simp only [List.append]
    go_wp2_with (first | (go_at_call 18; refine (cB _ (B2.trans (Bc.mono B2.size))).mono ?_; rintro e wn ⟨rfl, kn⟩; have Bc := Bc.trans (kn.mono Bc.size); obtain ⟨x0, x1, x2, x3, x4, x5, x6, y0, y1, y2, y3, y4, y5, y6, xl, yl⟩ := keep _ Bc) | (go_at_call 19; refine (cA _ (B2.trans (Bc.mono B2.size))).mono ?_; rintro e wn ⟨rfl, kn⟩; have Bc := Bc.trans (kn.mono Bc.size); obtain ⟨x0, x1, x2, x3, x4, x5, x6, y0, y1, y2, y3, y4, y5, y6, xl, yl⟩ := keep _ Bc) | (go_at_call 20; refine (cS _ (B2.trans (Bc.mono B2.size))).mono ?_; rintro e wn ⟨rfl, kn⟩; have Bc := Bc.trans (kn.mono Bc.size); obtain ⟨x0, x1, x2, x3, x4, x5, x6, y0, y1, y2, y3, y4, y5, y6, xl, yl⟩ := keep _ Bc) | (go_at_call 21; refine (cO _ (B2.trans (Bc.mono B2.size))).mono ?_; rintro e wn ⟨rfl, kn⟩; have Bc := Bc.trans (kn.mono Bc.size); obtain ⟨x0, x1, x2, x3, x4, x5, x6, y0, y1, y2, y3, y4, y5, y6, xl, yl⟩ := keep _ Bc))
    go_ret
    exact ⟨rfl, B2.trans (Bc.mono B2.size)⟩
  · subst e
    go_enter Try.func7, Try.ntmps7
    go_upto_region 1 with fail
    rw [← HW.out]
    try simp only [List.append]
    go_wp2_with (first | (go_at_call 18; refine (cB _ (B2.trans (Bc.mono B2.size))).mono ?_; rintro e wn ⟨rfl, kn⟩; have Bc := Bc.trans (kn.mono Bc.size); obtain ⟨x0, x1, x2, x3, x4, x5, x6, y0, y1, y2, y3, y4, y5, y6, xl, yl⟩ := keep _ Bc) | (go_at_call 19; refine (cA _ (B2.trans (Bc.mono B2.size))).mono ?_; rintro e wn ⟨rfl, kn⟩; have Bc := Bc.trans (kn.mono Bc.size); obtain ⟨x0, x1, x2, x3, x4, x5, x6, y0, y1, y2, y3, y4, y5, y6, xl, yl⟩ := keep _ Bc) | (go_at_call 20; refine (cS _ (B2.trans (Bc.mono B2.size))).mono ?_; rintro e wn ⟨rfl, kn⟩; have Bc := Bc.trans (kn.mono Bc.size); obtain ⟨x0, x1, x2, x3, x4, x5, x6, y0, y1, y2, y3, y4, y5, y6, xl, yl⟩ := keep _ Bc) | (go_at_call 21; refine (cO _ (B2.trans (Bc.mono B2.size))).mono ?_; rintro e wn ⟨rfl, kn⟩; have Bc := Bc.trans (kn.mono Bc.size); obtain ⟨x0, x1, x2, x3, x4, x5, x6, y0, y1, y2, y3, y4, y5, y6, xl, yl⟩ := keep _ Bc))
    go_ret
    exact ⟨rfl, B2.trans (Bc.mono B2.size)⟩
  · subst e
    rw [e3] at cB
    go_enter Try.func7, Try.ntmps7
    go_upto_region 1 with fail
    rw [← HW.out]
    try simp only [List.append]
    go_wp2_with (first | (go_at_call 18; refine (cB _ (B2.trans (Bc.mono B2.size))).mono ?_; rintro e wn ⟨rfl, kn⟩; have Bc := Bc.trans (kn.mono Bc.size); obtain ⟨x0, x1, x2, x3, x4, x5, x6, y0, y1, y2, y3, y4, y5, y6, xl, yl⟩ := keep _ Bc) | (go_at_call 19; refine (cA _ (B2.trans (Bc.mono B2.size))).mono ?_; rintro e wn ⟨rfl, kn⟩; have Bc := Bc.trans (kn.mono Bc.size); obtain ⟨x0, x1, x2, x3, x4, x5, x6, y0, y1, y2, y3, y4, y5, y6, xl, yl⟩ := keep _ Bc) | (go_at_call 20; refine (cS _ (B2.trans (Bc.mono B2.size))).mono ?_; rintro e wn ⟨rfl, kn⟩; have Bc := Bc.trans (kn.mono Bc.size); obtain ⟨x0, x1, x2, x3, x4, x5, x6, y0, y1, y2, y3, y4, y5, y6, xl, yl⟩ := keep _ Bc) | (go_at_call 21; refine (cO _ (B2.trans (Bc.mono B2.size))).mono ?_; rintro e wn ⟨rfl, kn⟩; have Bc := Bc.trans (kn.mono Bc.size); obtain ⟨x0, x1, x2, x3, x4, x5, x6, y0, y1, y2, y3, y4, y5, y6, xl, yl⟩ := keep _ Bc))
    go_ret
    exact ⟨rfl, B2.trans (Bc.mono B2.size)⟩
  · subst e
    rw [e3] at cB
    cases bA
    · show Calls _ _ _ _ fun e w' => e = .returned (.bool false) ∧ _
      go_enter Try.func7, Try.ntmps7
      go_upto_region 1 with fail
      rw [← HW.out]
      try simp only [List.append]
      go_wp2_with (first | (go_at_call 18; refine (cB _ (B2.trans (Bc.mono B2.size))).mono ?_; rintro e wn ⟨rfl, kn⟩; have Bc := Bc.trans (kn.mono Bc.size); obtain ⟨x0, x1, x2, x3, x4, x5, x6, y0, y1, y2, y3, y4, y5, y6, xl, yl⟩ := keep _ Bc) | (go_at_call 19; refine (cA _ (B2.trans (Bc.mono B2.size))).mono ?_; rintro e wn ⟨rfl, kn⟩; have Bc := Bc.trans (kn.mono Bc.size); obtain ⟨x0, x1, x2, x3, x4, x5, x6, y0, y1, y2, y3, y4, y5, y6, xl, yl⟩ := keep _ Bc) | (go_at_call 20; refine (cS _ (B2.trans (Bc.mono B2.size))).mono ?_; rintro e wn ⟨rfl, kn⟩; have Bc := Bc.trans (kn.mono Bc.size); obtain ⟨x0, x1, x2, x3, x4, x5, x6, y0, y1, y2, y3, y4, y5, y6, xl, yl⟩ := keep _ Bc) | (go_at_call 21; refine (cO _ (B2.trans (Bc.mono B2.size))).mono ?_; rintro e wn ⟨rfl, kn⟩; have Bc := Bc.trans (kn.mono Bc.size); obtain ⟨x0, x1, x2, x3, x4, x5, x6, y0, y1, y2, y3, y4, y5, y6, xl, yl⟩ := keep _ Bc))
      go_ret
      exact ⟨rfl, B2.trans (Bc.mono B2.size)⟩
    · cases bS
      · show Calls _ _ _ _ fun e w' => e = .returned (.bool false) ∧ _
        go_enter Try.func7, Try.ntmps7
        go_upto_region 1 with fail
        rw [← HW.out]
        try simp only [List.append]
        go_wp2_with (first | (go_at_call 18; refine (cB _ (B2.trans (Bc.mono B2.size))).mono ?_; rintro e wn ⟨rfl, kn⟩; have Bc := Bc.trans (kn.mono Bc.size); obtain ⟨x0, x1, x2, x3, x4, x5, x6, y0, y1, y2, y3, y4, y5, y6, xl, yl⟩ := keep _ Bc) | (go_at_call 19; refine (cA _ (B2.trans (Bc.mono B2.size))).mono ?_; rintro e wn ⟨rfl, kn⟩; have Bc := Bc.trans (kn.mono Bc.size); obtain ⟨x0, x1, x2, x3, x4, x5, x6, y0, y1, y2, y3, y4, y5, y6, xl, yl⟩ := keep _ Bc) | (go_at_call 20; refine (cS _ (B2.trans (Bc.mono B2.size))).mono ?_; rintro e wn ⟨rfl, kn⟩; have Bc := Bc.trans (kn.mono Bc.size); obtain ⟨x0, x1, x2, x3, x4, x5, x6, y0, y1, y2, y3, y4, y5, y6, xl, yl⟩ := keep _ Bc) | (go_at_call 21; refine (cO _ (B2.trans (Bc.mono B2.size))).mono ?_; rintro e wn ⟨rfl, kn⟩; have Bc := Bc.trans (kn.mono Bc.size); obtain ⟨x0, x1, x2, x3, x4, x5, x6, y0, y1, y2, y3, y4, y5, y6, xl, yl⟩ := keep _ Bc))
        go_ret
        exact ⟨rfl, B2.trans (Bc.mono B2.size)⟩
      · cases bO
        · show Calls _ _ _ _ fun e w' => e = .returned (.bool false) ∧ _
          go_enter Try.func7, Try.ntmps7
          go_upto_region 1 with fail
          rw [← HW.out]
          try simp only [List.append]
          go_wp2_with (first | (go_at_call 18; refine (cB _ (B2.trans (Bc.mono B2.size))).mono ?_; rintro e wn ⟨rfl, kn⟩; have Bc := Bc.trans (kn.mono Bc.size); obtain ⟨x0, x1, x2, x3, x4, x5, x6, y0, y1, y2, y3, y4, y5, y6, xl, yl⟩ := keep _ Bc) | (go_at_call 19; refine (cA _ (B2.trans (Bc.mono B2.size))).mono ?_; rintro e wn ⟨rfl, kn⟩; have Bc := Bc.trans (kn.mono Bc.size); obtain ⟨x0, x1, x2, x3, x4, x5, x6, y0, y1, y2, y3, y4, y5, y6, xl, yl⟩ := keep _ Bc) | (go_at_call 20; refine (cS _ (B2.trans (Bc.mono B2.size))).mono ?_; rintro e wn ⟨rfl, kn⟩; have Bc := Bc.trans (kn.mono Bc.size); obtain ⟨x0, x1, x2, x3, x4, x5, x6, y0, y1, y2, y3, y4, y5, y6, xl, yl⟩ := keep _ Bc) | (go_at_call 21; refine (cO _ (B2.trans (Bc.mono B2.size))).mono ?_; rintro e wn ⟨rfl, kn⟩; have Bc := Bc.trans (kn.mono Bc.size); obtain ⟨x0, x1, x2, x3, x4, x5, x6, y0, y1, y2, y3, y4, y5, y6, xl, yl⟩ := keep _ Bc))
          go_ret
          exact ⟨rfl, B2.trans (Bc.mono B2.size)⟩
        · show Calls _ _ _ _ fun e w' => e = .returned (.bool true) ∧ _
          go_enter Try.func7, Try.ntmps7
          go_upto_region 1 with fail
          rw [← HW.out]
          try simp only [List.append]
          go_wp2_with (first | (go_at_call 18; refine (cB _ (B2.trans (Bc.mono B2.size))).mono ?_; rintro e wn ⟨rfl, kn⟩; have Bc := Bc.trans (kn.mono Bc.size); obtain ⟨x0, x1, x2, x3, x4, x5, x6, y0, y1, y2, y3, y4, y5, y6, xl, yl⟩ := keep _ Bc) | (go_at_call 19; refine (cA _ (B2.trans (Bc.mono B2.size))).mono ?_; rintro e wn ⟨rfl, kn⟩; have Bc := Bc.trans (kn.mono Bc.size); obtain ⟨x0, x1, x2, x3, x4, x5, x6, y0, y1, y2, y3, y4, y5, y6, xl, yl⟩ := keep _ Bc) | (go_at_call 20; refine (cS _ (B2.trans (Bc.mono B2.size))).mono ?_; rintro e wn ⟨rfl, kn⟩; have Bc := Bc.trans (kn.mono Bc.size); obtain ⟨x0, x1, x2, x3, x4, x5, x6, y0, y1, y2, y3, y4, y5, y6, xl, yl⟩ := keep _ Bc) | (go_at_call 21; refine (cO _ (B2.trans (Bc.mono B2.size))).mono ?_; rintro e wn ⟨rfl, kn⟩; have Bc := Bc.trans (kn.mono Bc.size); obtain ⟨x0, x1, x2, x3, x4, x5, x6, y0, y1, y2, y3, y4, y5, y6, xl, yl⟩ := keep _ Bc))
          go_ret
          exact ⟨rfl, B2.trans (Bc.mono B2.size)⟩
end Go.Proofs.Ytibkdkjcncfmgab
