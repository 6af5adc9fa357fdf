/- The contract of CommandFault. Condition: the table of counts holds what its initialiser lays. -/
import Derived.Test.YtomnadmeolkagaaDoorCmdFault
namespace Go.Proofs.YtomnadmeolkagaaDoor
open Go.ChangeShapes Go.WideShapes Go.ChangeAt Go.RowKit
open Cm
set_option linter.unusedVariables false
theorem fl_1 {n : Nat} {a b c : Int} (h : (n = 0 ∧ a ≠ 0) ∨ (n ≤ 1 ∧ b ≠ 0) ∨ (n ≤ 2 ∧ c ≠ 0)) : fl n a b c = 1 := by
  unfold fl
  by_cases h1 : n = 0 ∧ a ≠ 0
  · rw [if_pos (by simp [h1])]
  · rw [if_neg (by simpa using h1)]
    by_cases h2 : n ≤ 1 ∧ b ≠ 0
    · rw [if_pos (by simp [h2])]
    · rw [if_neg (by simpa using h2), if_pos (by simp; omega)]
theorem fl_3 {n : Nat} {a b c : Int} (h : ¬ ((n = 0 ∧ a ≠ 0) ∨ (n ≤ 1 ∧ b ≠ 0) ∨ (n ≤ 2 ∧ c ≠ 0))) (h2 : a < 0 ∨ 1000000 < a ∨ b < 0 ∨ 1000000 < b ∨ c < 0 ∨ 1000000 < c) : fl n a b c = 3 := by
  unfold fl
  rw [if_neg (by simp; omega), if_neg (by simp; omega), if_neg (by simp; omega)]
  by_cases h3 : a < 0 ∨ 1000000 < a
  · rw [if_pos (by rw [inb_f h3]; rfl)]
  · rw [if_neg (by rw [inb_t (by omega) (by omega)]; decide)]
    by_cases h4 : b < 0 ∨ 1000000 < b
    · rw [if_pos (by rw [inb_f h4]; rfl)]
    · rw [if_neg (by rw [inb_t (by omega) (by omega)]; decide), if_pos (by rw [inb_f (by omega)]; rfl)]
theorem fl_0 {n : Nat} {a b c : Int} (h : ¬ ((n = 0 ∧ a ≠ 0) ∨ (n ≤ 1 ∧ b ≠ 0) ∨ (n ≤ 2 ∧ c ≠ 0))) (h2 : 0 ≤ a ∧ a ≤ 1000000 ∧ 0 ≤ b ∧ b ≤ 1000000 ∧ 0 ≤ c ∧ c ≤ 1000000) : fl n a b c = 0 := by
  unfold fl
  rw [if_neg (by simp; omega), if_neg (by simp; omega), if_neg (by simp; omega), if_neg (by rw [inb_t (by omega) (by omega)]; decide), if_neg (by rw [inb_t (by omega) (by omega)]; decide), if_neg (by rw [inb_t (by omega) (by omega)]; decide)]

set_option maxHeartbeats 4000000 in
theorem implCommandFault (cl sq k a b c : Int) (w : World) (hL : PcAt w) :
    Calls Tryd.prog 21 #[.agg (cmdV cl sq k a b c)] w fun e w' => e = .returned (.int .i64 (flt cl sq k a b c)) ∧ Below w.heap.size w w' := by
  by_cases hh : (inb cl 0 5 && inb sq 1 999 && inb k 1 11) = false
  · rw [flt_head hh]
    have hx : inb cl 0 5 = false ∨ (inb cl 0 5 = true ∧ sq < 1) ∨ (inb cl 0 5 = true ∧ 1 ≤ sq ∧ 999 < sq) ∨ (inb cl 0 5 = true ∧ 1 ≤ sq ∧ sq ≤ 999 ∧ inb k 1 11 = false) := by
      cases h1 : inb cl 0 5
      · exact .inl rfl
      · by_cases h2 : sq < 1
        · exact .inr (.inl ⟨rfl, h2⟩)
        · by_cases h3 : 999 < sq
          · exact .inr (.inr (.inl ⟨rfl, by omega, h3⟩))
          · have h4 : inb sq 1 999 = true := inb_t (by omega) (by omega)
            rw [h1, h4] at hh
            exact .inr (.inr (.inr ⟨rfl, by omega, by omega, by simpa using hh⟩))
    clear hh
    rcases hx with h1 | ⟨h1, h2⟩ | ⟨h1, h2, h3⟩ | ⟨h1, h2, h3, h4⟩
    all_goals
      try (have d1 : decide (sq < 1) = false := decide_eq_false (by omega))
      try (have d2 : decide (999 < sq) = false := decide_eq_false (by omega))
      go_enter Tryd.func21, Tryd.ntmps21
      go_wp2_with (first | (go_at_call 24; refine (isClient_c _ _).mono ?_; rintro e w' ⟨rfl, rfl⟩) | (go_at_call 25; refine (isKind_c _ _).mono ?_; rintro e w' ⟨rfl, rfl⟩))
      go_ret
      exact ⟨rfl, (Below.refl _ _).alloc (Nat.le_refl _) _⟩
  · obtain ⟨h1, h2, h3⟩ : inb cl 0 5 = true ∧ inb sq 1 999 = true ∧ inb k 1 11 = true := by
      revert hh; cases inb cl 0 5 <;> cases inb sq 1 999 <;> cases inb k 1 11 <;> simp
    have hk := inb_i h3
    have hs := inb_i h2
    have d1 : decide (sq < 1) = false := decide_eq_false (by omega)
    have d2 : decide (999 < sq) = false := decide_eq_false (by omega)
    have hc := hL.c k hk.1 hk.2
    have hlt := hL.lt
    clear hh
    rcases pc_cases k with hn | hn | hn | hn
    all_goals
      obtain ⟨N0, eN⟩ : ∃ N0, N0 = pc k := ⟨_, rfl⟩
      rw [flt_fl h1 h2 h3 eN.symm]
      rw [hn] at eN hc
      have hc2 : ∀ o1 o2, ((w.alloc o1).alloc o2).cell? ⟨0, k.toNat, none⟩ = some (.int .i64 ((pc k : Nat) : Int)) := fun o1 o2 => by
        rw [cell_old _ _ _ _ (by rw [size_new]; omega), cell_old _ _ _ _ hlt, hn]; exact hc
      rw [hn] at hc2
      go_enter Tryd.func21, Tryd.ntmps21
      go_wp2_with (first | (go_at_call 24; refine (isClient_c _ _).mono ?_; rintro e w' ⟨rfl, rfl⟩) | (go_at_call 25; refine (isKind_c _ _).mono ?_; rintro e w' ⟨rfl, rfl⟩))
      repeat' (first | (refine wp_loop_rounds 4 ?_; rw [rounds_succ]; go_wp2) | (rw [rounds_succ]; go_wp2))
    all_goals
      go_ret
      refine ⟨?_, ((Below.refl _ _).alloc (Nat.le_refl _) _).alloc (by simp only [size_new]; omega) _⟩
      go_light
      try (have qa : a = 0 := by simpa using ‹(a != 0) = false›)
      try (have qa : a ≠ 0 := by simpa using ‹(a != 0) = true›)
      try (have qb : b = 0 := by simpa using ‹(b != 0) = false›)
      try (have qb : b ≠ 0 := by simpa using ‹(b != 0) = true›)
      try (have qc : c = 0 := by simpa using ‹(c != 0) = false›)
      try (have qc : c ≠ 0 := by simpa using ‹(c != 0) = true›)
      first
      | exact congrArg (fun x => Ending.returned (Value.int .i64 x)) (fl_1 (by omega)).symm
      | exact congrArg (fun x => Ending.returned (Value.int .i64 x)) (fl_3 (by omega) (by omega)).symm
      | exact congrArg (fun x => Ending.returned (Value.int .i64 x)) (fl_0 (by omega) (by omega)).symm
end Go.Proofs.YtomnadmeolkagaaDoor
