/- Contracts of the tests of numbers that a board is held against. No condition. -/
import Derived.Test.YtibkdkjcncfmgaaBrd
namespace Go.Proofs.Ytibkdkjcncfmgaa
open Go.ChangeShapes Go.WideShapes Go.ChangeAt Go.RowKit
open Bd
set_option linter.unusedVariables false

theorem l1In_c (v lo hi : Int) (w : World) :
    Calls Try.prog 109 #[.int .i64 v, .int .i64 lo, .int .i64 hi] w fun e w' => e = .returned (.bool (inb v lo hi)) ∧ w' = w := by
  by_cases h1 : lo ≤ v
  · by_cases h2 : v ≤ hi
    · rw [inb_t h1 h2]
      go_enter Try.func109, Try.ntmps109
      go_wp2
      go_ret
      exact ⟨rfl, rfl⟩
    · rw [inb_f (by omega)]
      have d2 : decide (v ≤ hi) = false := decide_eq_false h2
      go_enter Try.func109, Try.ntmps109
      go_wp2
      go_ret
      exact ⟨rfl, rfl⟩
  · rw [inb_f (by omega)]
    have d2 : decide (lo ≤ v) = false := decide_eq_false h1
    go_enter Try.func109, Try.ntmps109
    go_wp2
    go_ret
    exact ⟨rfl, rfl⟩
theorem isId_c (v : Int) (w : World) :
    Calls Try.prog 68 #[.int .i64 v] w fun e w' => e = .returned (.bool (inb v 1 99)) ∧ w' = w := by
  by_cases h1 : 1 ≤ v
  · by_cases h2 : v ≤ 99
    · rw [inb_t h1 h2]
      go_enter Try.func68, Try.ntmps68
      go_wp2
      go_ret
      exact ⟨rfl, rfl⟩
    · rw [inb_f (by omega)]
      have d2 : decide (v ≤ 99) = false := decide_eq_false h2
      go_enter Try.func68, Try.ntmps68
      go_wp2
      go_ret
      exact ⟨rfl, rfl⟩
  · rw [inb_f (by omega)]
    have d2 : decide (1 ≤ v) = false := decide_eq_false h1
    go_enter Try.func68, Try.ntmps68
    go_wp2
    go_ret
    exact ⟨rfl, rfl⟩
theorem isSide_c (v : Int) (w : World) :
    Calls Try.prog 115 #[.int .i64 v] w fun e w' => e = .returned (.bool (inb v 0 3)) ∧ w' = w := by
  by_cases h1 : 0 ≤ v
  · by_cases h2 : v ≤ 3
    · rw [inb_t h1 h2]
      go_enter Try.func115, Try.ntmps115
      go_wp2
      go_ret
      exact ⟨rfl, rfl⟩
    · rw [inb_f (by omega)]
      have d2 : decide (v ≤ 3) = false := decide_eq_false h2
      go_enter Try.func115, Try.ntmps115
      go_wp2
      go_ret
      exact ⟨rfl, rfl⟩
  · rw [inb_f (by omega)]
    have d2 : decide (0 ≤ v) = false := decide_eq_false h1
    go_enter Try.func115, Try.ntmps115
    go_wp2
    go_ret
    exact ⟨rfl, rfl⟩
theorem isLife_c (v : Int) (w : World) :
    Calls Try.prog 71 #[.int .i64 v] w fun e w' => e = .returned (.bool (inb v 1 50)) ∧ w' = w := by
  by_cases h1 : 1 ≤ v
  · by_cases h2 : v ≤ 50
    · rw [inb_t h1 h2]
      go_enter Try.func71, Try.ntmps71
      go_wp2
      go_ret
      exact ⟨rfl, rfl⟩
    · rw [inb_f (by omega)]
      have d2 : decide (v ≤ 50) = false := decide_eq_false h2
      go_enter Try.func71, Try.ntmps71
      go_wp2
      go_ret
      exact ⟨rfl, rfl⟩
  · rw [inb_f (by omega)]
    have d2 : decide (1 ≤ v) = false := decide_eq_false h1
    go_enter Try.func71, Try.ntmps71
    go_wp2
    go_ret
    exact ⟨rfl, rfl⟩
theorem isCarry_c (v : Int) (w : World) :
    Calls Try.prog 72 #[.int .i64 v] w fun e w' => e = .returned (.bool (inb v 0 20)) ∧ w' = w := by
  by_cases h1 : 0 ≤ v
  · by_cases h2 : v ≤ 20
    · rw [inb_t h1 h2]
      go_enter Try.func72, Try.ntmps72
      go_wp2
      go_ret
      exact ⟨rfl, rfl⟩
    · rw [inb_f (by omega)]
      have d2 : decide (v ≤ 20) = false := decide_eq_false h2
      go_enter Try.func72, Try.ntmps72
      go_wp2
      go_ret
      exact ⟨rfl, rfl⟩
  · rw [inb_f (by omega)]
    have d2 : decide (0 ≤ v) = false := decide_eq_false h1
    go_enter Try.func72, Try.ntmps72
    go_wp2
    go_ret
    exact ⟨rfl, rfl⟩
theorem isOwner_c (v : Int) (w : World) :
    Calls Try.prog 69 #[.int .i64 v] w fun e w' => e = .returned (.bool (own v)) ∧ w' = w := by
  unfold own
  cases h : inb v 0 3
  · cases h9 : v == 9
    all_goals
      go_enter Try.func69, Try.ntmps69
      go_wp2_with (go_at_call 115; refine (isSide_c _ _).mono ?_; rintro e w' ⟨rfl, rfl⟩)
      go_ret
      exact ⟨rfl, rfl⟩
  · go_enter Try.func69, Try.ntmps69
    go_wp2_with (go_at_call 115; refine (isSide_c _ _).mono ?_; rintro e w' ⟨rfl, rfl⟩)
    go_ret
    exact ⟨rfl, rfl⟩
theorem l4Owner_c (v : Int) (w : World) :
    Calls Try.prog 64 #[.int .i64 v] w fun e w' => e = .returned (.bool (own v)) ∧ w' = w := by
  unfold own
  cases h : inb v 0 3
  · cases h9 : v == 9
    all_goals
      go_enter Try.func64, Try.ntmps64
      go_wp2_with (go_at_call 109; refine (l1In_c _ _ _ _).mono ?_; rintro e w' ⟨rfl, rfl⟩)
      go_ret
      exact ⟨rfl, rfl⟩
  · go_enter Try.func64, Try.ntmps64
    go_wp2_with (go_at_call 109; refine (l1In_c _ _ _ _).mono ?_; rintro e w' ⟨rfl, rfl⟩)
    go_ret
    exact ⟨rfl, rfl⟩
theorem l1Tile_c (x y : Int) (w : World) :
    Calls Try.prog 123 #[.int .i64 x, .int .i64 y] w fun e w' => e = .returned (.bool (tile x y)) ∧ w' = w := by
  unfold tile
  cases h : inb x 0 11
  all_goals
    go_enter Try.func123, Try.ntmps123
    go_wp2_with (go_at_call 109; refine (l1In_c _ _ _ _).mono ?_; rintro e w' ⟨rfl, rfl⟩)
    go_ret
    exact ⟨rfl, rfl⟩
theorem isTile_c (x y : Int) (w : World) :
    Calls Try.prog 70 #[.int .i64 x, .int .i64 y] w fun e w' => e = .returned (.bool (tile x y)) ∧ w' = w := by
  unfold tile inb
  by_cases h1 : 0 ≤ x
  · by_cases h2 : x ≤ 11
    · by_cases h3 : 0 ≤ y
      · by_cases h4 : y ≤ 11
        · rw [decide_eq_true (And.intro h1 h2), decide_eq_true (And.intro h3 h4)]
          go_enter Try.func70, Try.ntmps70
          go_wp2
          go_ret
          exact ⟨rfl, rfl⟩
        · rw [decide_eq_true (And.intro h1 h2), decide_eq_false (p := 0 ≤ y ∧ y ≤ 11) (by omega)]
          have d : decide (y ≤ 11) = false := decide_eq_false h4
          go_enter Try.func70, Try.ntmps70
          go_wp2
          go_ret
          exact ⟨rfl, rfl⟩
      · rw [decide_eq_true (And.intro h1 h2), decide_eq_false (p := 0 ≤ y ∧ y ≤ 11) (by omega)]
        have d : decide (0 ≤ y) = false := decide_eq_false h3
        go_enter Try.func70, Try.ntmps70
        go_wp2
        go_ret
        exact ⟨rfl, rfl⟩
    · rw [decide_eq_false (p := 0 ≤ x ∧ x ≤ 11) (by omega), Bool.false_and]
      have d : decide (x ≤ 11) = false := decide_eq_false h2
      go_enter Try.func70, Try.ntmps70
      go_wp2
      go_ret
      exact ⟨rfl, rfl⟩
  · rw [decide_eq_false (p := 0 ≤ x ∧ x ≤ 11) (by omega), Bool.false_and]
    have d : decide (0 ≤ x) = false := decide_eq_false h1
    go_enter Try.func70, Try.ntmps70
    go_wp2
    go_ret
    exact ⟨rfl, rfl⟩
end Go.Proofs.Ytibkdkjcncfmgaa
