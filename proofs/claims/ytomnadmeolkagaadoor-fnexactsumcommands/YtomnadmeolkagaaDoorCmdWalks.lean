/- Contracts of ParamsOf, of CommandFault and of their models. Condition, for the program's own: its table of counts holds what its initialiser lays. -/
import Derived.Test.YtomnadmeolkagaaDoorRows
import Derived.WalkKit
import Derived.ProofKit
import Derived.OpenShut
import Derived.ShutString
import Derived.WalkLawsBesides
import Derived.Below
import Derived.Test.YtomnadmeolkagaaDoorCells
import Derived.Test.YtomnadmeolkagaaDoorCmds
namespace Go.Proofs.YtomnadmeolkagaaDoor
open Go.ChangeShapes Go.WideShapes Go.ChangeAt Go.RowKit
open Cm
set_option linter.unusedVariables false

theorem l1In_c (v lo hi : Int) (w : World) :
    Calls Tryd.prog 17 #[.int .i64 v, .int .i64 lo, .int .i64 hi] w fun e w' => e = .returned (.bool (inb v lo hi)) ∧ w' = w := by
  by_cases h1 : lo ≤ v
  · by_cases h2 : v ≤ hi
    · rw [inb_t h1 h2]
      go_enter Tryd.func17, Tryd.ntmps17
      go_wp2
      go_ret
      exact ⟨rfl, rfl⟩
    · rw [inb_f (by omega)]
      have d2 : decide (v ≤ hi) = false := decide_eq_false h2
      go_enter Tryd.func17, Tryd.ntmps17
      go_wp2
      go_ret
      exact ⟨rfl, rfl⟩
  · rw [inb_f (by omega)]
    have d2 : decide (lo ≤ v) = false := decide_eq_false h1
    go_enter Tryd.func17, Tryd.ntmps17
    go_wp2
    go_ret
    exact ⟨rfl, rfl⟩
theorem l3Kind_c (v : Int) (w : World) :
    Calls Tryd.prog 18 #[.int .i64 v] w fun e w' => e = .returned (.bool (inb v 1 11)) ∧ w' = w := by
  go_enter Tryd.func18, Tryd.ntmps18
  go_wp2_with fail
  refine (l1In_c v 1 11 w).mono ?_
  rintro e w' ⟨rfl, rfl⟩
  go_wp2
  go_ret
  exact ⟨rfl, rfl⟩
theorem isKind_c (v : Int) (w : World) :
    Calls Tryd.prog 25 #[.int .i64 v] w fun e w' => e = .returned (.bool (inb v 1 11)) ∧ w' = w := by
  by_cases h1 : 1 ≤ v
  · by_cases h2 : v ≤ 11
    · rw [inb_t h1 h2]
      go_enter Tryd.func25, Tryd.ntmps25
      go_wp2
      go_ret
      exact ⟨rfl, rfl⟩
    · rw [inb_f (by omega)]
      have d2 : decide (v ≤ 11) = false := decide_eq_false h2
      go_enter Tryd.func25, Tryd.ntmps25
      go_wp2
      go_ret
      exact ⟨rfl, rfl⟩
  · rw [inb_f (by omega)]
    have d2 : decide (1 ≤ v) = false := decide_eq_false h1
    go_enter Tryd.func25, Tryd.ntmps25
    go_wp2
    go_ret
    exact ⟨rfl, rfl⟩
theorem isClient_c (v : Int) (w : World) :
    Calls Tryd.prog 24 #[.int .i64 v] w fun e w' => e = .returned (.bool (inb v 0 5)) ∧ w' = w := by
  by_cases h1 : 0 ≤ v
  · by_cases h2 : v ≤ 5
    · rw [inb_t h1 h2]
      go_enter Tryd.func24, Tryd.ntmps24
      go_wp2
      go_ret
      exact ⟨rfl, rfl⟩
    · rw [inb_f (by omega)]
      have d2 : decide (v ≤ 5) = false := decide_eq_false h2
      go_enter Tryd.func24, Tryd.ntmps24
      go_wp2
      go_ret
      exact ⟨rfl, rfl⟩
  · rw [inb_f (by omega)]
    have d2 : decide (0 ≤ v) = false := decide_eq_false h1
    go_enter Tryd.func24, Tryd.ntmps24
    go_wp2
    go_ret
    exact ⟨rfl, rfl⟩

def pcO : Obj := .cells #[.int .i64 0, .int .i64 3, .int .i64 2, .int .i64 2, .int .i64 2, .int .i64 2, .int .i64 1, .int .i64 1, .int .i64 1, .int .i64 2, .int .i64 0, .int .i64 0] 3
set_option maxHeartbeats 1000000 in
theorem l3Params_c (k : Int) (h1 : 1 ≤ k) (h2 : k ≤ 11) (w : World) :
    Calls Tryd.prog 20 #[.int .i64 k] w fun e w' => e = .returned (.int .i64 (pc k : Int)) ∧ w' = w.alloc pcO := by
  rcases kind_cases h1 h2 with ⟨rfl, e⟩ | ⟨rfl, e⟩ | ⟨rfl, e⟩ | ⟨rfl, e⟩ | ⟨rfl, e⟩ | ⟨rfl, e⟩ | ⟨rfl, e⟩ | ⟨rfl, e⟩ | ⟨rfl, e⟩ | ⟨rfl, e⟩ | ⟨rfl, e⟩
  all_goals
    rw [e]
    clear e h1 h2
    go_enter Tryd.func20, Tryd.ntmps20
    go_wp2
    go_ret
    exact ⟨rfl, rfl⟩

/- What the program's table of counts holds. -/
structure PcAt (w : World) : Prop where
  c : ∀ k : Int, 1 ≤ k → k ≤ 11 → w.cell? ⟨0, k.toNat, none⟩ = some (.int .i64 (pc k : Int))
  lt : 0 < w.heap.size
theorem PcAt.later {w w' : World} (h : PcAt w) (hb : Below w.heap.size w w') : PcAt w' :=
  ⟨fun k h1 h2 => by rw [hb.cell h.lt]; exact h.c k h1 h2, Nat.lt_of_lt_of_le h.lt hb.size⟩

end Go.Proofs.YtomnadmeolkagaaDoor
