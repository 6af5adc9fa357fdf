/- Contracts of the functions of chapter 2 (rates) on bits and of their models: each answers what the plain functions here say, and lays its answer's one block. Condition: the bits are an int64. -/
import Derived.Test.YtpcjgpgjjdlfdaaDoorFloatWalks
import Derived.Test.YtpcjgpgjjdlfdaaDoorNumWalks
namespace Go.Proofs.YtpcjgpgjjdlfdaaDoor
open Go.ChangeShapes Go.WideShapes Go.ChangeAt Go.RowKit
set_option linter.unusedVariables false

/-- The bits without Minus. -/
def sz (b : Int) : Int := b % 9223372036854775808
def uw (b : Int) : Nat := (b % 18446744073709551616).toNat
theorem sz_bd (b : Int) : 0 ≤ sz b ∧ sz b < 9223372036854775808 := by unfold sz; omega
theorem uw_lt (b : Int) : uw b < 18446744073709551616 := by unfold uw; omega
theorem uw_sz (b : Int) : ((uw b % 9223372036854775808 : Nat) : Int) = sz b := by unfold uw sz; omega
theorem uw_neg {b : Int} (h1 : -9223372036854775808 ≤ b) (h2 : b < 9223372036854775808) : decide (9223372036854775808 ≤ uw b) = decide (b < 0) := by
  rw [decide_eq_decide]; unfold uw; omega

def partsA (b : Int) : Array Value :=
  if 9218868437227405312 ≤ sz b then #[.int .i64 4, .bool false, .int .i64 0, .int .i64 0]
  else if Rts.qt (sz b) < 0 then #[.int .i64 3, .bool false, .int .i64 0, .int .i64 0]
  else #[.int .i64 0, .bool (decide (b < 0)), .int .i64 (Rts.qt (sz b) / 4), .int .i64 (Rts.qt (sz b) % 4)]

def gainB (b : Int) : Bool := decide (0 ≤ Rts.qt (sz b)) && (decide (0 ≤ b) || decide (sz b = 0))

theorem and_mask (b : Int) : bits .and .i64 b 9223372036854775807 = sz b := by
  have hm : ∀ x : Nat, x &&& 9223372036854775807 = x % 9223372036854775808 := fun x => Nat.and_two_pow_sub_one_eq_mod x 63
  have h2 : (BitVec.ofInt 64 9223372036854775807).toNat = 9223372036854775807 := by decide
  show IntKind.i64.wrap ((BitVec.ofInt 64 b &&& BitVec.ofInt 64 9223372036854775807).toNat : Int) = _
  rw [BitVec.toNat_and, h2, BitVec.toNat_ofInt, hm]
  unfold sz
  rw [IntKind.wrap_i64]
  omega

theorem l2Size_c (b : Int) (w : World) :
    Calls Tryd.prog 43 #[.int .i64 b] w fun e w' => e = .returned (.int .i64 (sz b)) ∧ w' = w := by
  have x1 := and_mask b
  go_enter Tryd.func43, Tryd.ntmps43
  go_wp2
  go_ret
  exact ⟨rfl, rfl⟩
def inB (v a b : Int) : Bool := decide (a ≤ v ∧ v ≤ b)
theorem l1In_c (v a b : Int) (w : World) :
    Calls Tryd.prog 39 #[.int .i64 v, .int .i64 a, .int .i64 b] w fun e w' => e = .returned (.bool (inB v a b)) ∧ w' = w := by
  unfold inB
  by_cases h1 : a ≤ v
  · by_cases h2 : v ≤ b
    · rw [decide_eq_true ⟨h1, h2⟩]
      go_enter Tryd.func39, Tryd.ntmps39
      go_wp2
      go_ret
      exact ⟨rfl, rfl⟩
    · have d2 : decide (v ≤ b) = false := decide_eq_false h2
      rw [decide_eq_false (fun h => h2 h.2)]
      go_enter Tryd.func39, Tryd.ntmps39
      go_wp2
      go_ret
      exact ⟨rfl, rfl⟩
  · have d1 : decide (a ≤ v) = false := decide_eq_false h1
    rw [decide_eq_false (fun h => h1 h.1)]
    go_enter Tryd.func39, Tryd.ntmps39
    go_wp2
    go_ret
    exact ⟨rfl, rfl⟩
theorem l2Quarters_c (n : Int) (w : World) (h0 : 0 ≤ n) (h1 : n < 9223372036854775808) :
    Calls Tryd.prog 54 #[.int .i64 n] w fun e w' => e = .returned (.int .i64 (Rts.qt n)) ∧ w' = w := by
  by_cases hz : n = 0
  · subst hz
    go_enter Tryd.func54, Tryd.ntmps54
    go_wp2
    go_ret
    exact ⟨rfl, rfl⟩
  by_cases hr : n / 4503599627370496 - 1021 < 0 ∨ 16 < n / 4503599627370496 - 1021
  · have hd : inB (n / 4503599627370496 - 1021) 0 16 = false := decide_eq_false (by omega)
    rw [Rts.qt_out hz hr]
    go_enter Tryd.func54, Tryd.ntmps54
    go_wp2_with (go_at_call 39; refine (l1In_c _ _ _ _).mono ?_; rintro e w' ⟨rfl, rfl⟩)
    go_ret
    exact ⟨rfl, rfl⟩
  · have hd : inB (n / 4503599627370496 - 1021) 0 16 = true := decide_eq_true (by omega)
    obtain ⟨U, hU⟩ : ∃ U : Int, 4503599627370496 / 2 ^ (n / 4503599627370496 - 1021).toNat = U := ⟨_, rfl⟩
    have hu := Rts.unit_eq (n / 4503599627370496 - 1021).toNat (by omega)
    rw [hU] at hu
    have hp := Nat.two_pow_pos (52 - (n / 4503599627370496 - 1021).toNat)
    have hp2 : 2 ^ (52 - (n / 4503599627370496 - 1021).toNat) ≤ 2 ^ 52 := Nat.pow_le_pow_right (by omega) (by omega)
    have hU1 : 0 < U := by rw [hu]; omega
    have hU2 : U ≤ 4503599627370496 := by rw [hu]; omega
    have hU3 : ¬ U = 0 := by omega
    have hq : Rts.qt n = if (4503599627370496 + n % 4503599627370496) % U = 0 ∧ (4503599627370496 + n % 4503599627370496) / U ≤ 39999 then (4503599627370496 + n % 4503599627370496) / U else -1 := by
      unfold Rts.qt
      rw [if_neg hz, if_neg hr, hU]
    clear hp hp2 hu
    obtain ⟨m, hm⟩ : ∃ m : Int, 4503599627370496 + n % 4503599627370496 = m := ⟨_, rfl⟩
    have hm1 : 0 ≤ m := by omega
    have hm2 : m < 9007199254740992 := by omega
    have ht : m.tdiv U = m / U := Int.tdiv_eq_ediv_of_nonneg hm1
    have ht2 : m.tmod U = m % U := Int.tmod_eq_emod_of_nonneg hm1
    have hw : 0 ≤ m / U ∧ m / U ≤ m := ⟨Int.ediv_nonneg hm1 (by omega), Int.ediv_le_self _ hm1⟩
    have hw2 : wrap64 (m / U) = m / U := by unfold wrap64; omega
    rw [hm] at hq
    by_cases c1 : m % U = 0
    · by_cases c2 : m / U ≤ 39999
      · rw [hq, if_pos ⟨c1, c2⟩]
        clear hq
        go_enter Tryd.func54, Tryd.ntmps54
        go_wp2_with (go_at_call 39; refine (l1In_c _ _ _ _).mono ?_; rintro e w' ⟨rfl, rfl⟩)
        go_ret
        exact ⟨rfl, rfl⟩
      · rw [hq, if_neg (fun h => c2 h.2)]
        clear hq
        have c3 : 39999 < m / U := by omega
        go_enter Tryd.func54, Tryd.ntmps54
        go_wp2_with (go_at_call 39; refine (l1In_c _ _ _ _).mono ?_; rintro e w' ⟨rfl, rfl⟩)
        go_ret
        exact ⟨rfl, rfl⟩
    · rw [hq, if_neg (fun h => c1 h.1)]
      clear hq
      have c3 : (m % U == 0) = false := by simpa using c1
      go_enter Tryd.func54, Tryd.ntmps54
      go_wp2_with (go_at_call 39; refine (l1In_c _ _ _ _).mono ?_; rintro e w' ⟨rfl, rfl⟩)
      go_ret
      exact ⟨rfl, rfl⟩
end Go.Proofs.YtpcjgpgjjdlfdaaDoor
