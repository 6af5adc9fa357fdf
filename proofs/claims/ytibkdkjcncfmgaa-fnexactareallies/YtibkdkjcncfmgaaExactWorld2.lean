/- Contracts of the exact laws' own helper eqWorld. Condition: the lists have at most 1048576 members together. -/
import Derived.Test.YtibkdkjcncfmgaaExactWorld
namespace Go.Proofs.Ytibkdkjcncfmgaa
open Go.ChangeShapes Go.WideShapes Go.ChangeAt Go.RowKit
set_option linter.unusedVariables false

set_option maxRecDepth 20000 in
set_option maxHeartbeats 4000000 in
theorem eqWorld_same {w : World} {base base2 gu gf ga gs go hu hf ha hs ho : Nat} {x : KW} (N1 : NewW w base gu gf ga gs go x) (N2 : NewW w base2 hu hf ha hs ho x) (hm : x.n ≤ 1048576) :
    Calls Try.prog 38 #[.agg ((nwp gu gf ga gs go x).v x), .agg ((nwp hu hf ha hs ho x).v x)] w fun e w' => e = .returned (.bool true) ∧ Below w.heap.size w w' := by
  obtain ⟨t, s, us, fs, fa, se, oo⟩ := x
  unfold KW.n at hm
  dsimp only at hm
  have l1 : gu < w.heap.size ∧ gf < w.heap.size ∧ ga < w.heap.size ∧ gs < w.heap.size ∧ go < w.heap.size ∧ hu < w.heap.size ∧ hf < w.heap.size ∧ ha < w.heap.size ∧ hs < w.heap.size ∧ ho < w.heap.size := ⟨N1.u.lt, N1.f.lt, N1.a.lt, N1.s.lt, N1.o.lt, N2.u.lt, N2.f.lt, N2.a.lt, N2.s.lt, N2.o.lt⟩
  have u1 : UAt w gu 0 us := rowU_is rfl N1.u
  have u2 : UAt w hu 0 us := rowU_is rfl N2.u
  have f1 : FAt w gf 0 fs := rowF_is rfl N1.f
  have f2 : FAt w hf 0 fs := rowF_is rfl N2.f
  have a1 : AAt w ga 0 fa := rowA_is rfl N1.a
  have a2 : AAt w ha 0 fa := rowA_is rfl N2.a
  have s1 : SAt w gs 0 se := rowS_is rfl N1.s
  have s2 : SAt w hs 0 se := rowS_is rfl N2.s
  have o1 : OAt w go 0 oo := rowO_is rfl N1.o
  have o2 : OAt w ho 0 oo := rowO_is rfl N2.o
  have cB := fun W (h : Below w.heap.size w W) => eqBoard_same gu 0 us.length gf 0 fs.length hu 0 us.length hf 0 fs.length us fs (by omega) (by omega) W (Nat.lt_of_lt_of_le l1.1 h.size) (Nat.lt_of_lt_of_le l1.2.1 h.size) (Nat.lt_of_lt_of_le l1.2.2.2.2.2.1 h.size) (Nat.lt_of_lt_of_le l1.2.2.2.2.2.2.1 h.size) (u1.later l1.1 h) (f1.later l1.2.1 h) (u2.later l1.2.2.2.2.2.1 h) (f2.later l1.2.2.2.2.2.2.1 h)
  have cA := fun W (h : Below w.heap.size w W) => eqFactionS_same W ga 0 ha 0 fa.length fa.length fa.length fa rfl (by omega) (Nat.lt_of_lt_of_le l1.2.2.1 h.size) (Nat.lt_of_lt_of_le l1.2.2.2.2.2.2.2.1 h.size) (a1.later l1.2.2.1 h) (a2.later l1.2.2.2.2.2.2.2.1 h)
  have cS := fun W (h : Below w.heap.size w W) => eqSeatS_same W gs 0 hs 0 se.length se.length se.length se rfl (by omega) (Nat.lt_of_lt_of_le l1.2.2.2.1 h.size) (Nat.lt_of_lt_of_le l1.2.2.2.2.2.2.2.2.1 h.size) (s1.later l1.2.2.2.1 h) (s2.later l1.2.2.2.2.2.2.2.2.1 h)
  have cO := fun W (h : Below w.heap.size w W) => eqOfferS_same W go 0 ho 0 oo.length oo.length oo.length oo rfl (by omega) (Nat.lt_of_lt_of_le l1.2.2.2.2.1 h.size) (Nat.lt_of_lt_of_le l1.2.2.2.2.2.2.2.2.2 h.size) (o1.later l1.2.2.2.2.1 h) (o2.later l1.2.2.2.2.2.2.2.2.2 h)
  clear u1 u2 f1 f2 a1 a2 s1 s2 o1 o2 N1 N2 l1
  show Calls Try.prog 38 #[.agg (wv t s (some ⟨gu, 0, none⟩) us.length us.length (some ⟨gf, 0, none⟩) fs.length fs.length (some ⟨ga, 0, none⟩) fa.length fa.length (some ⟨gs, 0, none⟩) se.length se.length (some ⟨go, 0, none⟩) oo.length oo.length), .agg (wv t s (some ⟨hu, 0, none⟩) us.length us.length (some ⟨hf, 0, none⟩) fs.length fs.length (some ⟨ha, 0, none⟩) fa.length fa.length (some ⟨hs, 0, none⟩) se.length se.length (some ⟨ho, 0, none⟩) oo.length oo.length)] w _
  generalize us.length = mu at cB hm ⊢
  generalize fs.length = mf at cB hm ⊢
  generalize fa.length = ma at cA hm ⊢
  generalize se.length = ms at cS hm ⊢
  generalize oo.length = mo at cO hm ⊢
  have nt : (t != t) = false := by simp
  have ns : (s != s) = false := by simp
  obtain ⟨W, HW⟩ : ∃ W, Hid (W = (w.alloc (.cells (wv t s (some ⟨gu, 0, none⟩) mu mu (some ⟨gf, 0, none⟩) mf mf (some ⟨ga, 0, none⟩) ma ma (some ⟨gs, 0, none⟩) ms ms (some ⟨go, 0, none⟩) mo mo) 71)).alloc (.cells (wv t s (some ⟨hu, 0, none⟩) mu mu (some ⟨hf, 0, none⟩) mf mf (some ⟨ha, 0, none⟩) ma ma (some ⟨hs, 0, none⟩) ms ms (some ⟨ho, 0, none⟩) mo mo) 71)) := ⟨_, rfl⟩
  have B2 : Below w.heap.size w W := by rw [HW.out]; exact ((Below.refl _ _).alloc (Nat.le_refl _) _).alloc (by rw [size_new]; omega) _
  have P : Bk W w.heap.size (wv t s (some ⟨gu, 0, none⟩) mu mu (some ⟨gf, 0, none⟩) mf mf (some ⟨ga, 0, none⟩) ma ma (some ⟨gs, 0, none⟩) ms ms (some ⟨go, 0, none⟩) mo mo) 71 := by rw [HW.out]; exact (Bk.new w (wv t s (some ⟨gu, 0, none⟩) mu mu (some ⟨gf, 0, none⟩) mf mf (some ⟨ga, 0, none⟩) ma ma (some ⟨gs, 0, none⟩) ms ms (some ⟨go, 0, none⟩) mo mo) 71).alloc _
  have Q : Bk W (w.heap.size + 1) (wv t s (some ⟨hu, 0, none⟩) mu mu (some ⟨hf, 0, none⟩) mf mf (some ⟨ha, 0, none⟩) ma ma (some ⟨hs, 0, none⟩) ms ms (some ⟨ho, 0, none⟩) mo mo) 71 := by rw [HW.out]; have h := Bk.new (w.alloc (.cells (wv t s (some ⟨gu, 0, none⟩) mu mu (some ⟨gf, 0, none⟩) mf mf (some ⟨ga, 0, none⟩) ma ma (some ⟨gs, 0, none⟩) ms ms (some ⟨go, 0, none⟩) mo mo) 71)) (wv t s (some ⟨hu, 0, none⟩) mu mu (some ⟨hf, 0, none⟩) mf mf (some ⟨ha, 0, none⟩) ma ma (some ⟨hs, 0, none⟩) ms ms (some ⟨ho, 0, none⟩) mo mo) 71; rw [size_new] at h; exact h
  go_enter Try.func38, Try.ntmps38
  go_upto_region 5 with fail
  rw [← HW.out]
  clear HW
  have p2 := P.cell (i := 2) rfl
  have p3 := P.cell (i := 3) rfl
  have q2 := Q.cell (i := 2) rfl
  have q3 := Q.cell (i := 3) rfl
  have pl := P.lt
  have ql := Q.lt
  go_wp2_with fail
  refine (cB _ B2).mono ?_
  rintro e w1 ⟨rfl, k1⟩
  replace P := P.below k1
  replace Q := Q.below k1
  replace B2 := B2.trans (k1.mono B2.size)
  clear p2 p3 q2 q3 pl ql k1
  have p2 := P.cell (i := 4) rfl
  have q2 := Q.cell (i := 4) rfl
  have pl := P.lt
  have ql := Q.lt
  go_wp2_with fail
  refine (cA _ B2).mono ?_
  rintro e w2 ⟨rfl, k1⟩
  replace P := P.below k1
  replace Q := Q.below k1
  replace B2 := B2.trans (k1.mono B2.size)
  clear p2 q2 pl ql k1
  have p2 := P.cell (i := 5) rfl
  have q2 := Q.cell (i := 5) rfl
  have pl := P.lt
  have ql := Q.lt
  go_wp2_with fail
  refine (cS _ B2).mono ?_
  rintro e w3 ⟨rfl, k1⟩
  replace P := P.below k1
  replace Q := Q.below k1
  replace B2 := B2.trans (k1.mono B2.size)
  clear p2 q2 pl ql k1
  have p2 := P.cell (i := 6) rfl
  have q2 := Q.cell (i := 6) rfl
  have pl := P.lt
  have ql := Q.lt
  go_wp2_with fail
  refine (cO _ B2).mono ?_
  rintro e w4 ⟨rfl, k1⟩
  replace B2 := B2.trans (k1.mono B2.size)
  go_wp2
  go_ret
  exact ⟨rfl, B2⟩
end Go.Proofs.Ytibkdkjcncfmgaa
