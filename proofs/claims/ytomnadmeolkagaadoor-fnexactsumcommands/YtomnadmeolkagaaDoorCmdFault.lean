/- Contracts of CommandFault and of its model. Condition, for the program's own: its table of counts holds what its initialiser lays. -/
import Derived.Test.YtomnadmeolkagaaDoorCmdWalks
import Derived.OwnWalk
import Derived.LoopTactic
import Derived.Outline
import Derived.Deep.Light
namespace Go.Proofs.YtomnadmeolkagaaDoor
open Go.ChangeShapes Go.WideShapes Go.ChangeAt Go.RowKit
open Cm
set_option linter.unusedVariables false

/- A command in a block of memory. -/
structure Cmd (w : World) (p : Nat) (cl sq k a b c : Int) : Prop where
  c0 : w.cell? ⟨p, 0, none⟩ = some (.int .i64 cl)
  c1 : w.cell? ⟨p, 1, none⟩ = some (.int .i64 sq)
  c2 : w.cell? ⟨p, 2, none⟩ = some (.int .i64 k)
  c3 : w.cell? ⟨p, 3, none⟩ = some (.int .i64 a)
  c4 : w.cell? ⟨p, 4, none⟩ = some (.int .i64 b)
  c5 : w.cell? ⟨p, 5, none⟩ = some (.int .i64 c)
  lt : p < w.heap.size
theorem Cmd.later {w w' : World} {p : Nat} {cl sq k a b c : Int} (h : Cmd w p cl sq k a b c) (hb : Below w.heap.size w w') : Cmd w' p cl sq k a b c :=
  ⟨by rw [hb.cell h.lt]; exact h.c0, by rw [hb.cell h.lt]; exact h.c1, by rw [hb.cell h.lt]; exact h.c2, by rw [hb.cell h.lt]; exact h.c3, by rw [hb.cell h.lt]; exact h.c4, by rw [hb.cell h.lt]; exact h.c5, Nat.lt_of_lt_of_le h.lt hb.size⟩
abbrev cmdV (cl sq k a b c : Int) : Array Value := #[.int .i64 cl, .int .i64 sq, .int .i64 k, .int .i64 a, .int .i64 b, .int .i64 c]
theorem Cmd.new (w : World) (cl sq k a b c : Int) (t : TypeId) : Cmd (w.alloc (.cells (cmdV cl sq k a b c) t)) w.heap.size cl sq k a b c :=
  ⟨cell_new _ _ _ _ _ rfl, cell_new _ _ _ _ _ rfl, cell_new _ _ _ _ _ rfl, cell_new _ _ _ _ _ rfl, cell_new _ _ _ _ _ rfl, cell_new _ _ _ _ _ rfl, by rw [size_new]; omega⟩

theorem l3List_c (p : Nat) (cl sq k a b c : Int) (w : World) (h : Cmd w p cl sq k a b c) :
    Calls Tryd.prog 19 #[.pointer (some ⟨p, 0, none⟩)] w fun e w' => e = .returned (.slice (some ⟨w.heap.size, 0, none⟩) 3 3) ∧ w' = (w.alloc (.cells #[.int .i64 a, .int .i64 b, .int .i64 c] 2)).drew := by
  obtain ⟨c0, c1, c2, c3, c4, c5, lt⟩ := h
  go_enter Tryd.func19, Tryd.ntmps19
  go_wp2
  go_region
  all_goals
    go_wp2
    go_ret
    exact ⟨rfl, rfl⟩
set_option maxHeartbeats 4000000 in
theorem l3Fault_c (p : Nat) (cl sq k a b c : Int) (w : World) (h : Cmd w p cl sq k a b c) :
    Calls Tryd.prog 10 #[.pointer (some ⟨p, 0, none⟩)] w fun e w' => e = .returned (.int .i64 (flt cl sq k a b c)) ∧ Below w.heap.size w w' := by
  have hC := fun w h => l3List_c p cl sq k a b c w h
  have h' := h
  obtain ⟨c0, c1, c2, c3, c4, c5, lt⟩ := h
  by_cases hh : (inb cl 0 5 && inb sq 1 999 && inb k 1 11) = false
  · rw [flt_head hh]
    have hx : inb cl 0 5 = false ∨ (inb cl 0 5 = true ∧ inb sq 1 999 = false) ∨ (inb cl 0 5 = true ∧ inb sq 1 999 = true ∧ inb k 1 11 = false) := by
      revert hh; cases inb cl 0 5 <;> cases inb sq 1 999 <;> cases inb k 1 11 <;> simp
    clear hh
    rcases hx with h1 | ⟨h1, h2⟩ | ⟨h1, h2, h3⟩
    all_goals
      go_enter Tryd.func10, Tryd.ntmps10
      go_wp2_with (first | (go_at_call 17; refine (l1In_c _ _ _ _).mono ?_; rintro e w' ⟨rfl, rfl⟩) | (go_at_call 18; refine (l3Kind_c _ _).mono ?_; rintro e w' ⟨rfl, rfl⟩))
      go_ret
      exact ⟨rfl, Below.refl _ _⟩
  · obtain ⟨h1, h2, h3⟩ : inb cl 0 5 = true ∧ inb sq 1 999 = true ∧ inb k 1 11 = true := by
      revert hh; cases inb cl 0 5 <;> cases inb sq 1 999 <;> cases inb k 1 11 <;> simp
    have hk := inb_i h3
    have hp : p ≠ w.heap.size := by omega
    rcases pc_cases k with hn | hn | hn | hn
    all_goals
      obtain ⟨N0, eN⟩ : ∃ N0, N0 = pc k := ⟨_, rfl⟩
      rw [flt_fl h1 h2 h3 eN.symm]
      rw [hn] at eN
      go_enter Tryd.func10, Tryd.ntmps10
      go_wp2_with (first | (go_at_call 17; refine (l1In_c _ _ _ _).mono ?_; rintro e w' ⟨rfl, rfl⟩) | (go_at_call 18; refine (l3Kind_c _ _).mono ?_; rintro e w' ⟨rfl, rfl⟩) | (go_at_call 19; refine (hC _ h').mono ?_; rintro e w' ⟨rfl, rfl⟩) | (go_at_call 20; refine (l3Params_c k hk.1 hk.2 _).mono ?_; rintro e w' ⟨rfl, rfl⟩; rw [hn]))
    all_goals
      repeat' (first | (refine wp_loop_rounds 4 ?_; rw [rounds_succ]; go_wp2_with (go_at_call 17; refine (l1In_c _ _ _ _).mono ?_; rintro e w' ⟨rfl, rfl⟩)) | (rw [rounds_succ]; go_wp2_with (go_at_call 17; refine (l1In_c _ _ _ _).mono ?_; rintro e w' ⟨rfl, rfl⟩)))
    all_goals
      go_ret
      refine ⟨?_, (((Below.refl _ _).alloc (Nat.le_refl _) _).alloc (by simp only [size_new]; omega) _).drew⟩
      go_light
      first
      | (have e : fl N0 a b c = 1 := by simp [fl, *]
         exact congrArg (fun x => Ending.returned (Value.int .i64 x)) e.symm)
      | (have e : fl N0 a b c = 3 := by simp [fl, *]
         exact congrArg (fun x => Ending.returned (Value.int .i64 x)) e.symm)
      | (have e : fl N0 a b c = 0 := by simp [fl, *]
         exact congrArg (fun x => Ending.returned (Value.int .i64 x)) e.symm)
end Go.Proofs.YtomnadmeolkagaaDoor
