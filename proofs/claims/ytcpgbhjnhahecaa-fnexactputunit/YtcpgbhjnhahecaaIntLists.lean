/- Contracts of the exact laws' own helpers on lists of int64: equal lists are equal, marks that were laid are held. Conditions: the lists lie in memory of their own, at most 1000000 numbers. -/
import Derived.Test.YtcpgbhjnhahecaaLists
import Derived.Deep.QuietTactic
import Derived.BigQuiet
namespace Go.Proofs.Ytcpgbhjnhahecaa
open Go.ChangeShapes Go.WideShapes Go.ChangeAt Go.RowKit
set_option linter.unusedVariables false

def marks (k : Int) (m : Nat) : List Int := (List.range m).map (fun (i : Nat) => k + (i : Int))
theorem marks_len (k : Int) (m : Nat) : (marks k m).length = m := by simp [marks]
theorem marks_get (k : Int) (m i : Nat) (h : i < m) : (marks k m)[i]? = some (k + (i : Int)) := by simp [marks, h]

set_option maxHeartbeats 1000000 in
theorem eqInt64S_same (w : World) (g1 c1 g2 c2 m : Nat) (l : List Int) (hm : l.length = m) (hm2 : m ≤ 1000000) (h1 : Lst w g1 c1 l) (h2 : Lst w g2 c2 l) :
    Calls Try.prog 78 #[.slice (some ⟨g1, 0, none⟩) m c1, .slice (some ⟨g2, 0, none⟩) m c2] w fun e w' => e = .returned (.bool true) ∧ ∃ nq, w' = w.drewN nq := by
  go_enter Try.func78, Try.ntmps78
  go_wp2
  go_loopw [5] (fun i wr => ∃ k : Nat, k ≤ m ∧ i = .int .i64 k ∧ ∃ nq, wr = w.drewN nq) (fun i _ => m - (intOf i).toNat)
  case atStart => exact ⟨0, Nat.zero_le _, rfl, 0, rfl⟩
  case round =>
    obtain ⟨k, hk, rfl, nq, rfl⟩ := hrel
    by_cases hlt : k < m
    · have hlt' : (k : Int) < (m : Int) := by omega
      obtain ⟨x, hx⟩ : ∃ x, l[k]? = some x := ⟨_, List.getElem?_eq_getElem (by omega)⟩
      have u1 := h1.cell hx
      have u2 := h2.cell hx
      clear hx
      go_wp2
      go_quiet (fail)
      go_wp2
      go_roundw
      case rel => exact ⟨k + 1, by omega, by go_num, _, rfl⟩
      case measure => simp [intOf]; omega
    · go_wp2
      go_ret
      exact ⟨rfl, nq, rfl⟩
theorem eqInt64S_nil (w : World) :
    Calls Try.prog 78 #[.slice none 0 0, .slice none 0 0] w fun e w' => e = .returned (.bool true) ∧ ∃ nq, w' = w.drewN nq := by
  go_enter Try.func78, Try.ntmps78
  go_wp2
  refine wp_loop_rounds 1 ?_
  rw [rounds_succ]
  go_wp2
  go_ret
  exact ⟨rfl, 0, rfl⟩
set_option maxHeartbeats 1000000 in
theorem markInt64S_any (w : World) (g cap m : Nat) (k0 : Int) (l : List Int) (hm : l.length = m) (hm2 : m ≤ 1000000) (hk0 : 0 ≤ k0) (hk1 : k0 ≤ 1000000000) (h : Lst w g cap l) :
    Calls Try.prog 79 #[.slice (some ⟨g, 0, none⟩) m cap, .int .i64 k0] w fun e w' => e = .returned (.int .i64 (k0 + m)) ∧ Lst w' g cap (marks k0 m) ∧ w.grownBy w' (some g) := by
  go_enter Try.func79, Try.ntmps79
  go_wp2
  go_loopw [1, 5] (fun c i wr => ∃ (k : Nat) (l' : List Int), k ≤ m ∧ i = .int .i64 k ∧ c = .int .i64 (k0 + (k : Int)) ∧ Lst wr g cap l' ∧ Hid (l'.length = m) ∧ Hid (∀ j, j < k → l'[j]? = some (k0 + (j : Int))) ∧ w.grownBy wr (some g)) (fun _ i _ => m - (intOf i).toNat)
  case atStart => exact ⟨0, l, Nat.zero_le _, rfl, by go_num, h, hm, fun j hj => by omega, World.grownBy.refl _ _⟩
  case round =>
    obtain ⟨k, l', hk, rfl, rfl, hL, hl', hj, hgr⟩ := hrel
    by_cases hlt : k < m
    · have hlt' : (k : Int) < (m : Int) := by omega
      have hlen := hl'.out
      obtain ⟨x, hx⟩ : ∃ x, l'[k]? = some x := ⟨_, List.getElem?_eq_getElem (by omega)⟩
      have u1 := hL.cell hx
      have fz := hL.frozen k
      clear hx hlen
      go_wp2
      go_roundw
      case rel =>
        refine ⟨k + 1, l'.set k (k0 + (k : Int)), by omega, by go_num, by go_num, hL.set k _, ?_, ?_, ?_⟩
        · show (l'.set k (k0 + (k : Int))).length = m
          rw [List.length_set]; exact hl'.out
        · intro j hj'
          have hlen := hl'.out
          by_cases e : j = k
          · subst e; rw [List.getElem?_set_self (by omega)]
          · rw [List.getElem?_set_ne (by omega)]; exact hj.out j (by omega)
        · exact ⟨hgr.os, hgr.tape, hgr.output, by simpa [World.setCell] using hgr.size, fun i hi hne => (Below.heap_setCell _ _ _ _ (fun e => hne (by rw [e]))).trans (hgr.block i hi hne)⟩
      case measure => simp [intOf]; omega
    · obtain rfl : k = m := by omega
      have e : l' = marks k0 k := by
        apply List.ext_getElem?
        intro i
        by_cases hi : i < k
        · rw [hj.out i hi, marks_get k0 k i hi]
        · rw [List.getElem?_eq_none (by rw [hl'.out]; omega), List.getElem?_eq_none (by rw [marks_len]; omega)]
      rw [e] at hL
      clear e
      go_wp2
      go_ret
      exact ⟨rfl, hL, hgr⟩
theorem markInt64S_nil (w : World) (k0 : Int) :
    Calls Try.prog 79 #[.slice none 0 0, .int .i64 k0] w fun e w' => e = .returned (.int .i64 k0) ∧ w' = w := by
  go_enter Try.func79, Try.ntmps79
  go_wp2
  refine wp_loop_rounds 1 ?_
  rw [rounds_succ]
  go_wp2
  go_ret
  exact ⟨rfl, rfl⟩
set_option maxHeartbeats 1000000 in
theorem heldInt64S_any (w : World) (g cap m : Nat) (k0 : Int) (hm2 : m ≤ 1000000) (hk0 : 0 ≤ k0) (hk1 : k0 ≤ 1000000000) (h : Lst w g cap (marks k0 m)) :
    Calls Try.prog 80 #[.slice (some ⟨g, 0, none⟩) m cap, .int .i64 k0] w fun e w' => e = .returned (.int .i64 (k0 + m)) ∧ w' = w := by
  go_enter Try.func80, Try.ntmps80
  go_wp2
  go_loop [1, 5] (fun c i => ∃ k : Nat, k ≤ m ∧ i = .int .i64 k ∧ c = .int .i64 (k0 + (k : Int))) (fun _ i => m - (intOf i).toNat)
  case atStart => exact ⟨0, Nat.zero_le _, rfl, by go_num⟩
  case round =>
    obtain ⟨k, hk, rfl, rfl⟩ := hrel
    by_cases hlt : k < m
    · have hlt' : (k : Int) < (m : Int) := by omega
      have u1 := h.cell (marks_get k0 m k hlt)
      go_wp2
      go_round
      case rel => exact ⟨k + 1, by omega, by go_num, by go_num⟩
      case measure => simp [intOf]; omega
    · obtain rfl : k = m := by omega
      go_wp2
      go_ret
      exact ⟨rfl, rfl⟩
theorem heldInt64S_nil (w : World) (k0 : Int) :
    Calls Try.prog 80 #[.slice none 0 0, .int .i64 k0] w fun e w' => e = .returned (.int .i64 k0) ∧ w' = w := by
  go_enter Try.func80, Try.ntmps80
  go_wp2
  refine wp_loop_rounds 1 ?_
  rw [rounds_succ]
  go_wp2
  go_ret
  exact ⟨rfl, rfl⟩
end Go.Proofs.Ytcpgbhjnhahecaa
