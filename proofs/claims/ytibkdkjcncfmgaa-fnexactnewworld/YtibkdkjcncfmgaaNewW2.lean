/- NewWorld and its model: contracts, and the walk of its exact law. No condition. -/
import Derived.Test.YtibkdkjcncfmgaaNewW
namespace Go.Proofs.Ytibkdkjcncfmgaa
open Go.ChangeShapes Go.WideShapes Go.ChangeAt Go.RowKit
set_option linter.unusedVariables false

abbrev Z8 : Array Value := #[.int .i64 0, .int .i64 0, .int .i64 0, .slice none 0 0, .slice none 0 0, .slice none 0 0, .slice none 0 0, .slice none 0 0]
theorem But.below {g : Nat} {w w' : World} (h : Below w.heap.size w w') : But g w w' := But.of h
set_option maxRecDepth 20000 in
set_option maxHeartbeats 1000000 in
theorem l6New_n (w : World) : Calls Try.prog 102 #[] w fun e w' => ∃ g, e = .returned (.agg (w7 g)) ∧ Bk w' g F0 148 ∧ w.heap.size ≤ g ∧ Below w.heap.size w w' := by
  have hmk := fun W => mk4 W
  have R : Bk ((w.alloc (.cells (w7 (w.heap.size + 1)) 71)).alloc (.cells F0 148)) w.heap.size (w7 (w.heap.size + 1)) 71 := (Bk.new w _ _).alloc _
  have FB : Bk ((w.alloc (.cells (w7 (w.heap.size + 1)) 71)).alloc (.cells F0 148)) (w.heap.size + 1) F0 148 := by have h := Bk.new (w.alloc (.cells (w7 (w.heap.size + 1)) 71)) F0 148; rw [size_new] at h; exact h
  have B : Below w.heap.size w ((w.alloc (.cells (w7 (w.heap.size + 1)) 71)).alloc (.cells F0 148)) := ((Below.refl _ _).alloc (Nat.le_refl _) _).alloc (by rw [size_new]; omega) _
  go_enter Try.func102, Try.ntmps102
  go_wp2
  have c0 : World.cell? _ ⟨w.heap.size, 0, none⟩ = some (.int .i64 0) := R.cell (i := 0) rfl
  have c1 : World.cell? _ ⟨w.heap.size, 1, none⟩ = some (.int .i64 0) := R.cell (i := 1) rfl
  have c2 : World.cell? _ ⟨w.heap.size, 2, none⟩ = some (.slice none 0 0) := R.cell (i := 2) rfl
  have c3 : World.cell? _ ⟨w.heap.size, 3, none⟩ = some (.slice none 0 0) := R.cell (i := 3) rfl
  have c4 : World.cell? _ ⟨w.heap.size, 4, none⟩ = some (.slice (some ⟨w.heap.size + 1, 0, none⟩) 4 4) := R.cell (i := 4) rfl
  have c5 : World.cell? _ ⟨w.heap.size, 5, none⟩ = some (.slice none 0 0) := R.cell (i := 5) rfl
  have c6 : World.cell? _ ⟨w.heap.size, 6, none⟩ = some (.slice none 0 0) := R.cell (i := 6) rfl
  refine bodyPost_ret (v := .agg (w7 (w.heap.size + 1))) ?_ rfl ⟨w.heap.size + 1, rfl, FB, by omega, B⟩
  simp [results, Try.results102, go_sem, c0, c1, c2, c3, c4, c5, c6]
  done
set_option maxRecDepth 20000 in
set_option maxHeartbeats 1000000 in
theorem implNewW (w : World) : Calls Try.prog 40 #[] w fun e w' => ∃ g, e = .returned (.agg (r8 g)) ∧ Bk w' g F0 148 ∧ w.heap.size ≤ g ∧ Below w.heap.size w w' := by
  have hmk := fun W => mk4 W
  have R : Bk ((w.alloc (.cells (r8 (w.heap.size + 1)) 76)).alloc (.cells F0 148)) w.heap.size (r8 (w.heap.size + 1)) 76 := (Bk.new w _ _).alloc _
  have FB : Bk ((w.alloc (.cells (r8 (w.heap.size + 1)) 76)).alloc (.cells F0 148)) (w.heap.size + 1) F0 148 := by have h := Bk.new (w.alloc (.cells (r8 (w.heap.size + 1)) 76)) F0 148; rw [size_new] at h; exact h
  have B : Below w.heap.size w ((w.alloc (.cells (r8 (w.heap.size + 1)) 76)).alloc (.cells F0 148)) := ((Below.refl _ _).alloc (Nat.le_refl _) _).alloc (by rw [size_new]; omega) _
  go_enter Try.func40, Try.ntmps40
  go_wp2
  have c0 : World.cell? _ ⟨w.heap.size, 0, none⟩ = some (.int .i64 0) := R.cell (i := 0) rfl
  have c1 : World.cell? _ ⟨w.heap.size, 1, none⟩ = some (.int .i64 0) := R.cell (i := 1) rfl
  have c2 : World.cell? _ ⟨w.heap.size, 2, none⟩ = some (.int .i64 0) := R.cell (i := 2) rfl
  have c3 : World.cell? _ ⟨w.heap.size, 3, none⟩ = some (.slice none 0 0) := R.cell (i := 3) rfl
  have c4 : World.cell? _ ⟨w.heap.size, 4, none⟩ = some (.slice none 0 0) := R.cell (i := 4) rfl
  have c5 : World.cell? _ ⟨w.heap.size, 5, none⟩ = some (.slice (some ⟨w.heap.size + 1, 0, none⟩) 4 4) := R.cell (i := 5) rfl
  have c6 : World.cell? _ ⟨w.heap.size, 6, none⟩ = some (.slice none 0 0) := R.cell (i := 6) rfl
  have c7 : World.cell? _ ⟨w.heap.size, 7, none⟩ = some (.slice none 0 0) := R.cell (i := 7) rfl
  refine bodyPost_ret (v := .agg (r8 (w.heap.size + 1))) ?_ rfl ⟨w.heap.size + 1, rfl, FB, by omega, B⟩
  simp [results, Try.results40, go_sem, c0, c1, c2, c3, c4, c5, c6, c7]
  done
set_option maxRecDepth 20000 in
set_option maxHeartbeats 1000000 in
theorem specNewW (w : World) : Calls Try.prog 39 #[] w fun e w' => ∃ g, e = .returned (.agg (r8 g)) ∧ Bk w' g F0 148 ∧ w.heap.size ≤ g ∧ Below w.heap.size w w' := by
  have R := Bk.new w Z8 76
  have B : Below w.heap.size w (w.alloc (.cells Z8 76)) := (Below.refl _ _).alloc (Nat.le_refl _) _
  go_enter Try.func39, Try.ntmps39
  go_wp2_with fail
  refine (l6New_n _).mono ?_
  rintro e w1 ⟨g, rfl, FB, hg, k1⟩
  rw [size_new] at hg
  replace R := R.below k1
  replace B := B.trans (k1.mono B.size)
  have x0 := R.cell (i := 0) rfl
  have z0 := R.frozen 0
  have x1 := R.cell (i := 1) rfl
  have z1 := R.frozen 1
  have x2 := R.cell (i := 2) rfl
  have z2 := R.frozen 2
  have x3 := R.cell (i := 3) rfl
  have z3 := R.frozen 3
  have x4 := R.cell (i := 4) rfl
  have z4 := R.frozen 4
  have x5 := R.cell (i := 5) rfl
  have z5 := R.frozen 5
  have x6 := R.cell (i := 6) rfl
  have z6 := R.frozen 6
  have x7 := R.cell (i := 7) rfl
  have z7 := R.frozen 7
  have rl := R.lt
  go_wp2_with fail
  have q0 : Bk _ w.heap.size #[.int .i64 0, .int .i64 0, .int .i64 0, .slice none 0 0, .slice none 0 0, .slice none 0 0, .slice none 0 0, .slice none 0 0] 76 := R.set 0 (.int .i64 0)
  have q1 : Bk _ w.heap.size #[.int .i64 0, .int .i64 0, .int .i64 0, .slice none 0 0, .slice none 0 0, .slice none 0 0, .slice none 0 0, .slice none 0 0] 76 := q0.set 1 (.int .i64 0)
  have q2 : Bk _ w.heap.size #[.int .i64 0, .int .i64 0, .int .i64 0, .slice none 0 0, .slice none 0 0, .slice none 0 0, .slice none 0 0, .slice none 0 0] 76 := q1.set 2 (.int .i64 0)
  have q3 : Bk _ w.heap.size #[.int .i64 0, .int .i64 0, .int .i64 0, .slice none 0 0, .slice none 0 0, .slice none 0 0, .slice none 0 0, .slice none 0 0] 76 := q2.set 3 (.slice none 0 0)
  have q4 : Bk _ w.heap.size #[.int .i64 0, .int .i64 0, .int .i64 0, .slice none 0 0, .slice none 0 0, .slice none 0 0, .slice none 0 0, .slice none 0 0] 76 := q3.set 4 (.slice none 0 0)
  have q5 : Bk _ w.heap.size #[.int .i64 0, .int .i64 0, .int .i64 0, .slice none 0 0, .slice none 0 0, .slice (some ⟨g, 0, none⟩) 4 4, .slice none 0 0, .slice none 0 0] 76 := q4.set 5 (.slice (some ⟨g, 0, none⟩) 4 4)
  have q6 : Bk _ w.heap.size #[.int .i64 0, .int .i64 0, .int .i64 0, .slice none 0 0, .slice none 0 0, .slice (some ⟨g, 0, none⟩) 4 4, .slice none 0 0, .slice none 0 0] 76 := q5.set 6 (.slice none 0 0)
  have q7 : Bk _ w.heap.size #[.int .i64 0, .int .i64 0, .int .i64 0, .slice none 0 0, .slice none 0 0, .slice (some ⟨g, 0, none⟩) 4 4, .slice none 0 0, .slice none 0 0] 76 := q6.set 7 (.slice none 0 0)
  have t0 := ((((((((FB.setOther (a := ⟨w.heap.size, 0, none⟩) (by show g ≠ w.heap.size; omega) (.int .i64 0)).setOther (a := ⟨w.heap.size, 1, none⟩) (by show g ≠ w.heap.size; omega) (.int .i64 0)).setOther (a := ⟨w.heap.size, 2, none⟩) (by show g ≠ w.heap.size; omega) (.int .i64 0)).setOther (a := ⟨w.heap.size, 3, none⟩) (by show g ≠ w.heap.size; omega) (.slice none 0 0)).setOther (a := ⟨w.heap.size, 4, none⟩) (by show g ≠ w.heap.size; omega) (.slice none 0 0)).setOther (a := ⟨w.heap.size, 5, none⟩) (by show g ≠ w.heap.size; omega) (.slice (some ⟨g, 0, none⟩) 4 4)).setOther (a := ⟨w.heap.size, 6, none⟩) (by show g ≠ w.heap.size; omega) (.slice none 0 0)).setOther (a := ⟨w.heap.size, 7, none⟩) (by show g ≠ w.heap.size; omega) (.slice none 0 0))
  have t1 := (bel_set (bel_set (bel_set (bel_set (bel_set (bel_set (bel_set (bel_set B w.heap.size 0 (Nat.le_refl _) (.int .i64 0)) w.heap.size 1 (Nat.le_refl _) (.int .i64 0)) w.heap.size 2 (Nat.le_refl _) (.int .i64 0)) w.heap.size 3 (Nat.le_refl _) (.slice none 0 0)) w.heap.size 4 (Nat.le_refl _) (.slice none 0 0)) w.heap.size 5 (Nat.le_refl _) (.slice (some ⟨g, 0, none⟩) 4 4)) w.heap.size 6 (Nat.le_refl _) (.slice none 0 0)) w.heap.size 7 (Nat.le_refl _) (.slice none 0 0))
  have c0 : World.cell? _ ⟨w.heap.size, 0, none⟩ = some (.int .i64 0) := q7.cell (i := 0) rfl
  have c1 : World.cell? _ ⟨w.heap.size, 1, none⟩ = some (.int .i64 0) := q7.cell (i := 1) rfl
  have c2 : World.cell? _ ⟨w.heap.size, 2, none⟩ = some (.int .i64 0) := q7.cell (i := 2) rfl
  have c3 : World.cell? _ ⟨w.heap.size, 3, none⟩ = some (.slice none 0 0) := q7.cell (i := 3) rfl
  have c4 : World.cell? _ ⟨w.heap.size, 4, none⟩ = some (.slice none 0 0) := q7.cell (i := 4) rfl
  have c5 : World.cell? _ ⟨w.heap.size, 5, none⟩ = some (.slice (some ⟨g, 0, none⟩) 4 4) := q7.cell (i := 5) rfl
  have c6 : World.cell? _ ⟨w.heap.size, 6, none⟩ = some (.slice none 0 0) := q7.cell (i := 6) rfl
  have c7 : World.cell? _ ⟨w.heap.size, 7, none⟩ = some (.slice none 0 0) := q7.cell (i := 7) rfl
  refine bodyPost_ret (v := .agg (r8 g)) ?_ rfl ⟨g, rfl, t0, by omega, t1⟩
  simp [results, Try.results39, go_sem, c0, c1, c2, c3, c4, c5, c6, c7]
  done
set_option maxHeartbeats 2000000 in
theorem eqWorldN {w : World} {g1 g2 : Nat} (h1 : Bk w g1 F0 148) (h2 : Bk w g2 F0 148) : Calls Try.prog 38 #[.agg (w7 g1), .agg (w7 g2)] w fun e w' => e = .returned (.bool true) ∧ Below w.heap.size w w' := by
  obtain ⟨W, HW⟩ : ∃ W, Hid (W = (w.alloc (.cells (w7 g1) 71)).alloc (.cells (w7 g2) 71)) := ⟨_, rfl⟩
  have B2 : Below w.heap.size w W := by rw [HW.out]; exact ((Below.refl _ _).alloc (Nat.le_refl _) _).alloc (by rw [size_new]; omega) _
  have P : Bk W w.heap.size (w7 g1) 71 := by rw [HW.out]; exact (Bk.new w (w7 g1) 71).alloc _
  have Q : Bk W (w.heap.size + 1) (w7 g2) 71 := by rw [HW.out]; have h := Bk.new (w.alloc (.cells (w7 g1) 71)) (w7 g2) 71; rw [size_new] at h; exact h
  replace h1 := h1.below B2
  replace h2 := h2.below B2
  go_enter Try.func38, Try.ntmps38
  go_upto_region 5 with fail
  rw [← HW.out]
  clear HW
  have p0 := P.cell (i := 2) rfl
  have q0 := Q.cell (i := 2) rfl
  have p1 := P.cell (i := 3) rfl
  have q1 := Q.cell (i := 3) rfl
  have pl := P.lt
  have ql := Q.lt
  go_wp2_with fail
  refine (eqBoardN _).mono ?_
  rintro e w1 ⟨rfl, k1⟩
  replace P := P.below k1
  replace Q := Q.below k1
  replace h1 := h1.below k1
  replace h2 := h2.below k1
  replace B2 := B2.trans (k1.mono B2.size)
  clear p0 q0 p1 q1 pl ql k1
  have p0 := P.cell (i := 4) rfl
  have q0 := Q.cell (i := 4) rfl
  have pl := P.lt
  have ql := Q.lt
  go_wp2_with fail
  refine (eqFactionN h1 h2).mono ?_
  rintro e w1 ⟨rfl, k1⟩
  replace P := P.below k1
  replace Q := Q.below k1
  replace h1 := h1.below k1
  replace h2 := h2.below k1
  replace B2 := B2.trans (k1.mono B2.size)
  clear p0 q0 pl ql k1
  have p0 := P.cell (i := 5) rfl
  have q0 := Q.cell (i := 5) rfl
  have pl := P.lt
  have ql := Q.lt
  go_wp2_with fail
  refine (eqSeatN _).mono ?_
  rintro e w1 ⟨rfl, hw1⟩
  obtain rfl := hw1.symm
  clear p0 q0 pl ql
  have p0 := P.cell (i := 6) rfl
  have q0 := Q.cell (i := 6) rfl
  have pl := P.lt
  have ql := Q.lt
  go_wp2_with fail
  refine (eqOfferN _).mono ?_
  rintro e w1 ⟨rfl, hw1⟩
  obtain rfl := hw1.symm
  clear p0 q0 pl ql
  go_wp2
  go_ret
  exact ⟨rfl, B2⟩
set_option maxHeartbeats 2000000 in
theorem eqWorldResultN {w : World} {g1 g2 : Nat} (h1 : Bk w g1 F0 148) (h2 : Bk w g2 F0 148) : Calls Try.prog 41 #[.agg (r8 g1), .agg (r8 g2)] w fun e w' => e = .returned (.bool true) ∧ Below w.heap.size w w' := by
  obtain ⟨W, HW⟩ : ∃ W, Hid (W = (w.alloc (.cells (r8 g1) 76)).alloc (.cells (r8 g2) 76)) := ⟨_, rfl⟩
  have B2 : Below w.heap.size w W := by rw [HW.out]; exact ((Below.refl _ _).alloc (Nat.le_refl _) _).alloc (by rw [size_new]; omega) _
  have P : Bk W w.heap.size (r8 g1) 76 := by rw [HW.out]; exact (Bk.new w (r8 g1) 76).alloc _
  have Q : Bk W (w.heap.size + 1) (r8 g2) 76 := by rw [HW.out]; have h := Bk.new (w.alloc (.cells (r8 g1) 76)) (r8 g2) 76; rw [size_new] at h; exact h
  replace h1 := h1.below B2
  replace h2 := h2.below B2
  go_enter Try.func41, Try.ntmps41
  go_upto_region 1 with fail
  rw [← HW.out]
  clear HW
  have p0 := P.cell (i := 0) rfl
  have q0 := Q.cell (i := 0) rfl
  have p1 := P.cell (i := 1) rfl
  have q1 := Q.cell (i := 1) rfl
  have p2 := P.cell (i := 2) rfl
  have q2 := Q.cell (i := 2) rfl
  have p3 := P.cell (i := 3) rfl
  have q3 := Q.cell (i := 3) rfl
  have p4 := P.cell (i := 4) rfl
  have q4 := Q.cell (i := 4) rfl
  have p5 := P.cell (i := 5) rfl
  have q5 := Q.cell (i := 5) rfl
  have p6 := P.cell (i := 6) rfl
  have q6 := Q.cell (i := 6) rfl
  have p7 := P.cell (i := 7) rfl
  have q7 := Q.cell (i := 7) rfl
  have pl := P.lt
  have ql := Q.lt
  go_wp2_with fail
  refine (eqWorldN h1 h2).mono ?_
  rintro e w1 ⟨rfl, k1⟩
  replace P := P.below k1
  replace Q := Q.below k1
  replace h1 := h1.below k1
  replace h2 := h2.below k1
  replace B2 := B2.trans (k1.mono B2.size)
  clear p0 q0 p1 q1 p2 q2 p3 q3 p4 q4 p5 q5 p6 q6 p7 q7 pl ql k1
  go_wp2
  go_ret
  exact ⟨rfl, B2⟩
set_option maxHeartbeats 2000000 in
theorem markWorldN {w : World} {g : Nat} (h : Bk w g F0 148) : Calls Try.prog 103 #[.agg (w7 g), .int .i64 1] w fun e w' => e = .returned (.int .i64 13) ∧ Bk w' g F4 148 ∧ But g w w' := by
  have hg0 := h.lt
  have P := Bk.new w (w7 g) 71
  have B2 : Below w.heap.size w (w.alloc (.cells (w7 g) 71)) := (Below.refl _ _).alloc (Nat.le_refl _) _
  replace h := h.below B2
  go_enter Try.func103, Try.ntmps103
  go_wp2_with fail
  refine (markBoardN 1 (by omega) _).mono ?_
  rintro e w1 ⟨rfl, k1⟩
  replace P := P.below k1
  replace h := h.below k1
  replace B2 := B2.trans (k1.mono B2.size)
  have p4 := P.cell (i := 4) rfl
  have p5 := P.cell (i := 5) rfl
  have p6 := P.cell (i := 6) rfl
  have pl := P.lt
  go_wp2_with fail
  refine (markFactionN g _ h).mono ?_
  rintro e w2 ⟨rfl, h4, kb⟩
  clear p4 p5 p6 pl
  replace P := kb.bk P (by omega)
  have p5 := P.cell (i := 5) rfl
  have p6 := P.cell (i := 6) rfl
  have pl := P.lt
  go_wp2_with (first | (go_at_call 143; refine (markSeatN _ _).mono ?_; rintro e w3 ⟨rfl, hw3⟩; obtain rfl := hw3.symm) | (go_at_call 144; refine (markOfferN _ _).mono ?_; rintro e w3 ⟨rfl, hw3⟩; obtain rfl := hw3.symm))
  go_ret
  exact ⟨rfl, h4, (But.of B2).trans kb⟩
set_option maxHeartbeats 2000000 in
theorem markWorldResultN {w : World} {g : Nat} (h : Bk w g F0 148) : Calls Try.prog 42 #[.agg (r8 g), .int .i64 1] w fun e w' => e = .returned (.int .i64 13) ∧ Bk w' g F4 148 ∧ But g w w' := by
  have P := Bk.new w (r8 g) 76
  have B2 : Below w.heap.size w (w.alloc (.cells (r8 g) 76)) := (Below.refl _ _).alloc (Nat.le_refl _) _
  replace h := h.below B2
  go_enter Try.func42, Try.ntmps42
  go_wp2_with fail
  refine (markWorldN h).mono ?_
  rintro e w2 ⟨rfl, h4, kb⟩
  go_wp2
  go_ret
  exact ⟨rfl, h4, (But.of B2).trans kb⟩
set_option maxHeartbeats 2000000 in
theorem heldWorldN {w : World} {g : Nat} (h : Bk w g F4 148) : Calls Try.prog 104 #[.agg (w7 g), .int .i64 1] w fun e w' => e = .returned (.int .i64 13) ∧ Below w.heap.size w w' := by
  have hg0 := h.lt
  have P := Bk.new w (w7 g) 71
  have B2 : Below w.heap.size w (w.alloc (.cells (w7 g) 71)) := (Below.refl _ _).alloc (Nat.le_refl _) _
  replace h := h.below B2
  go_enter Try.func104, Try.ntmps104
  go_wp2_with fail
  refine (heldBoardN 1 (by omega) _).mono ?_
  rintro e w1 ⟨rfl, k1⟩
  replace P := P.below k1
  replace h := h.below k1
  replace B2 := B2.trans (k1.mono B2.size)
  have p4 := P.cell (i := 4) rfl
  have p5 := P.cell (i := 5) rfl
  have p6 := P.cell (i := 6) rfl
  have pl := P.lt
  go_wp2_with fail
  refine (heldFactionN g _ h).mono ?_
  rintro e w2 ⟨rfl, hw2⟩
  obtain rfl := hw2.symm
  go_wp2_with (first | (go_at_call 147; refine (heldSeatN _ _).mono ?_; rintro e w3 ⟨rfl, hw3⟩; obtain rfl := hw3.symm) | (go_at_call 148; refine (heldOfferN _ _).mono ?_; rintro e w3 ⟨rfl, hw3⟩; obtain rfl := hw3.symm))
  go_ret
  exact ⟨rfl, B2⟩
set_option maxHeartbeats 2000000 in
theorem heldWorldResultN {w : World} {g : Nat} (h : Bk w g F4 148) : Calls Try.prog 43 #[.agg (r8 g), .int .i64 1] w fun e w' => e = .returned (.int .i64 13) ∧ Below w.heap.size w w' := by
  have P := Bk.new w (r8 g) 76
  have B2 : Below w.heap.size w (w.alloc (.cells (r8 g) 76)) := (Below.refl _ _).alloc (Nat.le_refl _) _
  replace h := h.below B2
  go_enter Try.func43, Try.ntmps43
  go_wp2_with fail
  refine (heldWorldN h).mono ?_
  rintro e w2 ⟨rfl, k2⟩
  go_wp2
  go_ret
  exact ⟨rfl, B2.trans (k2.mono B2.size)⟩
set_option maxRecDepth 20000 in
set_option maxHeartbeats 4000000 in
theorem walk_fnExactNewWorld (W : World) : Calls Try.prog 6 #[] W fun e w' => e = .returned (.bool true) ∧ Below W.heap.size W w' := by
  go_enter Try.func6, Try.ntmps6
  go_wp2_with fail
  refine (specNewW _).mono ?_
  rintro e w1 ⟨g1, rfl, F1, hg1, k1⟩
  have B1 := k1.alloc k1.size (.cells (r8 g1) 76)
  have A := Bk.new w1 (r8 g1) 76
  have l1 := F1.lt
  replace F1 := F1.alloc (.cells (r8 g1) 76)
  obtain ⟨W1, HW1⟩ : ∃ W1, Hid (W1 = w1.alloc (.cells (r8 g1) 76)) := ⟨_, rfl⟩
  rw [← HW1.out] at B1 A F1
  go_upto_region 2 with fail
  rw [← HW1.out]
  go_wp2_with fail
  refine (implNewW _).mono ?_
  rintro e w2 ⟨g2, rfl, F2, hg2, k2⟩
  have l2 := F2.lt
  have lA := A.lt
  have k2' := k2.alloc k2.size (.cells (r8 g2) 76)
  have C := Bk.new w2 (r8 g2) 76
  replace F2 := F2.alloc (.cells (r8 g2) 76)
  replace F1 := F1.below k2'
  replace A := A.below k2'
  have B2 := B1.trans (k2'.mono B1.size)
  have hs2 : W1.heap.size ≤ w2.heap.size := k2.size
  obtain ⟨W2, HW2⟩ : ∃ W2, Hid (W2 = w2.alloc (.cells (r8 g2) 76)) := ⟨_, rfl⟩
  rw [← HW2.out] at B2 A C F1 F2
  clear k2' k2 B1
  go_upto_region 3 with fail
  rw [← HW2.out]
  have c0 := C.cell (i := 0) rfl
  have c1 := C.cell (i := 1) rfl
  have c2 := C.cell (i := 2) rfl
  have c3 := C.cell (i := 3) rfl
  have c4 := C.cell (i := 4) rfl
  have c5 := C.cell (i := 5) rfl
  have c6 := C.cell (i := 6) rfl
  have c7 := C.cell (i := 7) rfl
  have cl := C.lt
  have a0 := A.cell (i := 0) rfl
  have a1 := A.cell (i := 1) rfl
  have a2 := A.cell (i := 2) rfl
  have a3 := A.cell (i := 3) rfl
  have a4 := A.cell (i := 4) rfl
  have a5 := A.cell (i := 5) rfl
  have a6 := A.cell (i := 6) rfl
  have a7 := A.cell (i := 7) rfl
  have al := A.lt
  go_wp2_with fail
  refine (eqWorldResultN F2 F1).mono ?_
  rintro e w3 ⟨rfl, k3⟩
  clear c0 c1 c2 c3 c4 c5 c6 c7 cl
  clear a0 a1 a2 a3 a4 a5 a6 a7 al
  replace F1 := F1.below k3
  replace F2 := F2.below k3
  replace A := A.below k3
  replace C := C.below k3
  replace B2 := B2.trans (k3.mono B2.size)
  have c0 := C.cell (i := 0) rfl
  have c1 := C.cell (i := 1) rfl
  have c2 := C.cell (i := 2) rfl
  have c3 := C.cell (i := 3) rfl
  have c4 := C.cell (i := 4) rfl
  have c5 := C.cell (i := 5) rfl
  have c6 := C.cell (i := 6) rfl
  have c7 := C.cell (i := 7) rfl
  have cl := C.lt
  go_wp2_with fail
  refine (markWorldResultN F2).mono ?_
  rintro e w4 ⟨rfl, M2, kb⟩
  clear c0 c1 c2 c3 c4 c5 c6 c7 cl
  have hWs : W.heap.size ≤ w1.heap.size := k1.size
  have hW1 : w1.heap.size < W1.heap.size := lA
  have n1 : g1 ≠ g2 := by omega
  have n2 : w1.heap.size ≠ g2 := by omega
  have n3 : w2.heap.size ≠ g2 := by omega
  replace F1 := kb.bk F1 n1
  replace A := kb.bk A n2
  replace C := kb.bk C n3
  have B4 := kb.bel B2 (Nat.le_refl _) (by omega)
  have c0 := C.cell (i := 0) rfl
  have c1 := C.cell (i := 1) rfl
  have c2 := C.cell (i := 2) rfl
  have c3 := C.cell (i := 3) rfl
  have c4 := C.cell (i := 4) rfl
  have c5 := C.cell (i := 5) rfl
  have c6 := C.cell (i := 6) rfl
  have c7 := C.cell (i := 7) rfl
  have cl := C.lt
  go_wp2_with fail
  refine (heldWorldResultN M2).mono ?_
  rintro e w5 ⟨rfl, k5⟩
  clear c0 c1 c2 c3 c4 c5 c6 c7 cl
  replace F1 := F1.below k5
  replace M2 := M2.below k5
  replace A := A.below k5
  replace C := C.below k5
  replace B4 := B4.trans (k5.mono B4.size)
  go_wp2_with fail
  refine (implNewW _).mono ?_
  rintro e w6 ⟨g3, rfl, F3, hg3, k6⟩
  have k6' := k6.alloc k6.size (.cells (r8 g3) 76)
  have D := Bk.new w6 (r8 g3) 76
  replace F3 := F3.alloc (.cells (r8 g3) 76)
  replace F1 := F1.below k6'
  replace M2 := M2.below k6'
  replace A := A.below k6'
  replace C := C.below k6'
  replace B4 := B4.trans (k6'.mono B4.size)
  obtain ⟨W6, HW6⟩ : ∃ W6, Hid (W6 = w6.alloc (.cells (r8 g3) 76)) := ⟨_, rfl⟩
  rw [← HW6.out] at B4 A C D F1 F3 M2
  clear k6' k6
  go_upto_region 14 with fail
  rw [← HW6.out]
  have d0 := D.cell (i := 0) rfl
  have d1 := D.cell (i := 1) rfl
  have d2 := D.cell (i := 2) rfl
  have d3 := D.cell (i := 3) rfl
  have d4 := D.cell (i := 4) rfl
  have d5 := D.cell (i := 5) rfl
  have d6 := D.cell (i := 6) rfl
  have d7 := D.cell (i := 7) rfl
  have dl := D.lt
  have a0 := A.cell (i := 0) rfl
  have a1 := A.cell (i := 1) rfl
  have a2 := A.cell (i := 2) rfl
  have a3 := A.cell (i := 3) rfl
  have a4 := A.cell (i := 4) rfl
  have a5 := A.cell (i := 5) rfl
  have a6 := A.cell (i := 6) rfl
  have a7 := A.cell (i := 7) rfl
  have al := A.lt
  go_wp2_with fail
  refine (eqWorldResultN F3 F1).mono ?_
  rintro e w7' ⟨rfl, k7⟩
  clear d0 d1 d2 d3 d4 d5 d6 d7 dl
  clear a0 a1 a2 a3 a4 a5 a6 a7 al
  replace M2 := M2.below k7
  replace C := C.below k7
  replace B4 := B4.trans (k7.mono B4.size)
  have c0 := C.cell (i := 0) rfl
  have c1 := C.cell (i := 1) rfl
  have c2 := C.cell (i := 2) rfl
  have c3 := C.cell (i := 3) rfl
  have c4 := C.cell (i := 4) rfl
  have c5 := C.cell (i := 5) rfl
  have c6 := C.cell (i := 6) rfl
  have c7 := C.cell (i := 7) rfl
  have cl := C.lt
  go_wp2_with fail
  refine (heldWorldResultN M2).mono ?_
  rintro e w8 ⟨rfl, k8⟩
  replace B4 := B4.trans (k8.mono B4.size)
  go_wp2
  go_ret
  exact ⟨rfl, B4⟩
end Go.Proofs.Ytibkdkjcncfmgaa
