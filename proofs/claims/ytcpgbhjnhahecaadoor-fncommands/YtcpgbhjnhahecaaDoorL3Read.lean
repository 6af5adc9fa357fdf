/- The contract of the model's l3Read where the length or the kind does not fit. No condition. -/
import Derived.Test.YtcpgbhjnhahecaaDoorMustRead
import Derived.Test.YtcpgbhjnhahecaaDoorLater
namespace Go.Proofs.YtcpgbhjnhahecaaDoor
open Go.ChangeShapes Go.WideShapes Go.ChangeAt Go.RowKit
open Cm
set_option linter.unusedVariables false

theorem Blk.drew {w : World} {g : Nat} {cs : Array Value} {t : TypeId} (h : Blk w g cs t) : Blk w.drew g cs t := h
theorem getElem?_of_take {l : List Int} {N i : Nat} {x : Int} (h : (l.take N)[i]? = some x) : l[i]? = some x := by
  rw [List.getElem?_take] at h
  split at h
  · exact h
  · cases h
/- what l3Read hands back: the command and true, or whatever command and false -/
def LR (b : Bool) (v : Array Value) (e : Ending) : Prop := if b = true then e = .returned (.tuple #[.agg v, .bool true]) else ∃ y0 y1 y2 y3 y4 y5 : Int, e = .returned (.tuple #[.agg (cmdV y0 y1 y2 y3 y4 y5), .bool false])
theorem LR.yes {b : Bool} {v : Array Value} (h : b = true) : LR b v (.returned (.tuple #[.agg v, .bool true])) := by unfold LR; rw [if_pos h]
theorem LR.no {b : Bool} {v : Array Value} {y0 y1 y2 y3 y4 y5 : Int} (h : b = false) : LR b v (.returned (.tuple #[.agg (cmdV y0 y1 y2 y3 y4 y5), .bool false])) := by unfold LR; rw [h, if_neg (by decide)]; exact ⟨_, _, _, _, _, _, rfl⟩
theorem l3Read_short (g cap m : Nat) (hm : m < 6) (w : World) :
    Calls Tryd.prog 31 #[.slice (some ⟨g, 0, none⟩) m cap] w fun e w' => e = .returned (.tuple #[.agg (cmdV 0 0 0 0 0 0), .bool false]) ∧ Below w.heap.size w w' := by
  have hm' : (m : Int) < 6 := by omega
  go_enter Tryd.func31, Tryd.ntmps31
  go_wp2
  refine bodyPost_ret (v := .tuple #[.agg (cmdV 0 0 0 0 0 0), .bool false]) ?_ rfl ⟨rfl, ?_⟩
  · simp [results, Tryd.results31, go_sem]
    done
  · exact (Below.refl _ _).alloc (Nat.le_refl _) _
set_option maxHeartbeats 1000000 in
theorem l3Read_kind (g cap m : Nat) (hm : 6 ≤ m) (d1 : Int) (b1 : 0 ≤ d1 ∧ d1 ≤ 255) (hk : inb d1 1 11 = false ∨ (inb d1 1 11 = true ∧ m ≠ 6 + 3 * pc d1)) (w : World) (hg : g < w.heap.size) (c1 : w.cell? ⟨g, 1, none⟩ = some (.int .u8 d1)) :
    Calls Tryd.prog 31 #[.slice (some ⟨g, 0, none⟩) m cap] w fun e w' => e = .returned (.tuple #[.agg (cmdV 0 0 0 0 0 0), .bool false]) ∧ Below w.heap.size w w' := by
  have hm' : decide ((m : Int) < 6) = false := decide_eq_false (by omega)
  have hm1 : (1 : Int) < (m : Int) := by omega
  rcases hk with hk | ⟨hk, hne⟩
  · go_enter Tryd.func31, Tryd.ntmps31
    go_wp2_with (go_at_call 33; refine (l3Kind_c _ _).mono ?_; rintro e w' ⟨rfl, rfl⟩)
    refine bodyPost_ret (v := .tuple #[.agg (cmdV 0 0 0 0 0 0), .bool false]) ?_ rfl ⟨rfl, ?_⟩
    · simp [results, Tryd.results31, go_sem]
      done
    · exact (Below.refl _ _).alloc (Nat.le_refl _) _
  · have hb := inb_i hk
    have hpl := pc_le d1
    have hne' : ((m : Int) != 6 + 3 * (pc d1 : Int)) = true := by simp; omega
    clear hne
    go_enter Tryd.func31, Tryd.ntmps31
    go_wp2_with (first | (go_at_call 33; refine (l3Kind_c _ _).mono ?_; rintro e w' ⟨rfl, rfl⟩) | (go_at_call 34; refine (l3Params_c d1 hb.1 hb.2 _).mono ?_; rintro e w' ⟨rfl, rfl⟩))
    refine bodyPost_ret (v := .tuple #[.agg (cmdV 0 0 0 0 0 0), .bool false]) ?_ rfl ⟨rfl, ?_⟩
    · simp [results, Tryd.results31, go_sem]
      done
    · exact ((Below.refl _ _).alloc (Nat.le_refl _) _).alloc (by rw [size_new]; omega) _
end Go.Proofs.YtcpgbhjnhahecaaDoor
