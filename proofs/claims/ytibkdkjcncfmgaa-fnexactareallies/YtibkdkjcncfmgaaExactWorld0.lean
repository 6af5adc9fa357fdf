/- Contracts of the exact laws' own helpers on worlds. Condition: the lists have at most 1048576 members together. -/
import Derived.Test.YtibkdkjcncfmgaaWorldRows
namespace Go.Proofs.Ytibkdkjcncfmgaa
open Go.ChangeShapes Go.WideShapes Go.ChangeAt Go.RowKit
set_option linter.unusedVariables false

set_option maxHeartbeats 1000000 in
theorem szBoardL_c (a : Option Addr) (m c : Nat) (a' : Option Addr) (m' c' : Nat) (L : Int) (h0 : 0 ≤ L) (hL : L ≤ 1048576) (hb : (m : Int) ≤ 9223372036854775807) (hb' : (m' : Int) ≤ 9223372036854775807) (w : World) :
    Calls Try.prog 29 #[.agg (brdV a m c a' m' c'), .int .i64 L] w fun e w' => e = .returned (.int .i64 (if (m : Int) + (m' : Int) ≤ L then L - (m : Int) - (m' : Int) else -1)) ∧ Below w.heap.size w w' := by
  have B1 : Below w.heap.size w (w.alloc (.cells (brdV a m c a' m' c') 54)) := (Below.refl _ _).alloc (Nat.le_refl _) _
  have z1 := fun w => szU_c a m c L h0 hL hb w
  by_cases h1 : (m : Int) ≤ L
  · rw [if_pos h1] at z1
    have z2 := fun w => szF_c a' m' c' (L - (m : Int)) (by omega) (by omega) hb' w
    have d1 : decide (L - (m : Int) < 0) = false := decide_eq_false (by omega)
    by_cases h2 : (m : Int) + (m' : Int) ≤ L
    · rw [if_pos (by omega)] at z2
      rw [if_pos h2]
      have d2 : decide (L - (m : Int) - (m' : Int) < 0) = false := decide_eq_false (by omega)
      go_enter Try.func29, Try.ntmps29
      go_wp2_with (first | (go_at_call 79; refine (z1 _).mono ?_; rintro e w1 ⟨rfl, rfl⟩) | (go_at_call 80; refine (z2 _).mono ?_; rintro e w1 ⟨rfl, rfl⟩))
      go_ret
      exact ⟨rfl, B1⟩
    · rw [if_neg (by omega)] at z2
      rw [if_neg h2]
      go_enter Try.func29, Try.ntmps29
      go_wp2_with (first | (go_at_call 79; refine (z1 _).mono ?_; rintro e w1 ⟨rfl, rfl⟩) | (go_at_call 80; refine (z2 _).mono ?_; rintro e w1 ⟨rfl, rfl⟩))
      go_ret
      exact ⟨rfl, B1⟩
  · rw [if_neg h1] at z1
    rw [if_neg (by omega)]
    go_enter Try.func29, Try.ntmps29
    go_wp2_with (first | (go_at_call 79; refine (z1 _).mono ?_; rintro e w1 ⟨rfl, rfl⟩))
    go_ret
    exact ⟨rfl, B1⟩
set_option maxHeartbeats 4000000 in
theorem szWorld_c (t s : Int) (u : Option Addr) (mu uc : Nat) (f : Option Addr) (mf fc : Nat) (a : Option Addr) (ma ac : Nat) (se : Option Addr) (ms sc : Nat) (oo : Option Addr) (mo oc : Nat) (L : Int) (h0 : 0 ≤ L) (hL : L ≤ 1048576)
    (xu : mu ≤ maxLen) (xf : mf ≤ maxLen) (xa : ma ≤ maxLen) (xs : ms ≤ maxLen) (xo : mo ≤ maxLen) (w : World) :
    Calls Try.prog 34 #[.agg (wv t s u mu uc f mf fc a ma ac se ms sc oo mo oc), .int .i64 L] w fun e w' => e = .returned (.int .i64 (if (mu : Int) + mf + ma + ms + mo ≤ L then L - ((mu : Int) + mf + ma + ms + mo) else -1)) ∧ Below w.heap.size w w' := by
  unfold maxLen at xu xf xa xs xo
  have B1 : Below w.heap.size w (w.alloc (.cells (wv t s u mu uc f mf fc a ma ac se ms sc oo mo oc) 64)) := (Below.refl _ _).alloc (Nat.le_refl _) _
  have R1 := Bk.new w (wv t s u mu uc f mf fc a ma ac se ms sc oo mo oc) 64
  have zB := fun w => szBoardL_c u mu uc f mf fc L h0 hL (by omega) (by omega) w
  by_cases q0 : (mu : Int) + mf ≤ L
  · rw [if_pos q0] at zB
    have d0 : decide (L - (mu : Int) - (mf : Int) < 0) = false := decide_eq_false (by omega)
    have zA := fun w => szA_c a ma ac (L - (mu : Int) - (mf : Int)) (by omega) (by omega) (by omega) w
    by_cases q1 : (mu : Int) + mf + ma ≤ L
    · rw [if_pos (by omega)] at zA
      have d1 : decide (L - (mu : Int) - (mf : Int) - (ma : Int) < 0) = false := decide_eq_false (by omega)
      have zS := fun w => szS_c se ms sc (L - (mu : Int) - (mf : Int) - (ma : Int)) (by omega) (by omega) (by omega) w
      by_cases q2 : (mu : Int) + mf + ma + ms ≤ L
      · rw [if_pos (by omega)] at zS
        have d2 : decide (L - (mu : Int) - (mf : Int) - (ma : Int) - (ms : Int) < 0) = false := decide_eq_false (by omega)
        have zO := fun w => szO_c oo mo oc (L - (mu : Int) - (mf : Int) - (ma : Int) - (ms : Int)) (by omega) (by omega) (by omega) w
        by_cases q3 : (mu : Int) + mf + ma + ms + mo ≤ L
        · rw [if_pos (by omega)] at zO
          rw [if_pos q3, show L - ((mu : Int) + mf + ma + ms + mo) = L - (mu : Int) - (mf : Int) - (ma : Int) - (ms : Int) - (mo : Int) from by omega]
          have d3 : decide (L - (mu : Int) - (mf : Int) - (ma : Int) - (ms : Int) - (mo : Int) < 0) = false := decide_eq_false (by omega)
          go_enter Try.func34, Try.ntmps34
          go_wp2_with fail
          refine (zB _).mono ?_
          rintro e w1 ⟨rfl, k1⟩
          have B2 := B1.trans (k1.mono B1.size)
          replace R1 := R1.below k1
          have r4 := R1.cell (i := 4) rfl
          have r5 := R1.cell (i := 5) rfl
          have r6 := R1.cell (i := 6) rfl
          have rl := R1.lt
          go_wp2_with (first | (go_at_call 86; refine (zA _).mono ?_; rintro e w2 ⟨rfl, hw2⟩; obtain rfl := hw2.symm) | (go_at_call 87; refine (zS _).mono ?_; rintro e w2 ⟨rfl, hw2⟩; obtain rfl := hw2.symm) | (go_at_call 88; refine (zO _).mono ?_; rintro e w2 ⟨rfl, hw2⟩; obtain rfl := hw2.symm))
          go_ret
          exact ⟨rfl, B2⟩
        · rw [if_neg (by omega)] at zO
          rw [if_neg q3]
          go_enter Try.func34, Try.ntmps34
          go_wp2_with fail
          refine (zB _).mono ?_
          rintro e w1 ⟨rfl, k1⟩
          have B2 := B1.trans (k1.mono B1.size)
          replace R1 := R1.below k1
          have r4 := R1.cell (i := 4) rfl
          have r5 := R1.cell (i := 5) rfl
          have r6 := R1.cell (i := 6) rfl
          have rl := R1.lt
          go_wp2_with (first | (go_at_call 86; refine (zA _).mono ?_; rintro e w2 ⟨rfl, hw2⟩; obtain rfl := hw2.symm) | (go_at_call 87; refine (zS _).mono ?_; rintro e w2 ⟨rfl, hw2⟩; obtain rfl := hw2.symm) | (go_at_call 88; refine (zO _).mono ?_; rintro e w2 ⟨rfl, hw2⟩; obtain rfl := hw2.symm))
          go_ret
          exact ⟨rfl, B2⟩
      · rw [if_neg (by omega)] at zS
        rw [if_neg (by omega)]
        go_enter Try.func34, Try.ntmps34
        go_wp2_with fail
        refine (zB _).mono ?_
        rintro e w1 ⟨rfl, k1⟩
        have B2 := B1.trans (k1.mono B1.size)
        replace R1 := R1.below k1
        have r4 := R1.cell (i := 4) rfl
        have r5 := R1.cell (i := 5) rfl
        have r6 := R1.cell (i := 6) rfl
        have rl := R1.lt
        go_wp2_with (first | (go_at_call 86; refine (zA _).mono ?_; rintro e w2 ⟨rfl, hw2⟩; obtain rfl := hw2.symm) | (go_at_call 87; refine (zS _).mono ?_; rintro e w2 ⟨rfl, hw2⟩; obtain rfl := hw2.symm))
        go_ret
        exact ⟨rfl, B2⟩
    · rw [if_neg (by omega)] at zA
      rw [if_neg (by omega)]
      go_enter Try.func34, Try.ntmps34
      go_wp2_with fail
      refine (zB _).mono ?_
      rintro e w1 ⟨rfl, k1⟩
      have B2 := B1.trans (k1.mono B1.size)
      replace R1 := R1.below k1
      have r4 := R1.cell (i := 4) rfl
      have r5 := R1.cell (i := 5) rfl
      have r6 := R1.cell (i := 6) rfl
      have rl := R1.lt
      go_wp2_with (first | (go_at_call 86; refine (zA _).mono ?_; rintro e w2 ⟨rfl, hw2⟩; obtain rfl := hw2.symm))
      go_ret
      exact ⟨rfl, B2⟩
  · rw [if_neg q0] at zB
    rw [if_neg (by omega)]
    go_enter Try.func34, Try.ntmps34
    go_wp2_with fail
    refine (zB _).mono ?_
    rintro e w1 ⟨rfl, k1⟩
    have B2 := B1.trans (k1.mono B1.size)
    replace R1 := R1.below k1
    have r4 := R1.cell (i := 4) rfl
    have r5 := R1.cell (i := 5) rfl
    have r6 := R1.cell (i := 6) rfl
    have rl := R1.lt
    go_wp2_with fail
    go_ret
    exact ⟨rfl, B2⟩
end Go.Proofs.Ytibkdkjcncfmgaa
