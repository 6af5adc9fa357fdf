/- From the rows' condition on the listed variables to what the walks ask: the table of counts. No further condition. -/
import Derived.Test.YtomnadmeolkagaaDoorCmdWalks
import Derived.LaidMore
import Derived.LaidLaws
import Derived.Lib.LaidTab
import Derived.Stop.Joined
import Derived.Stop.LaidErr
namespace Go.Proofs.YtomnadmeolkagaaDoor
open Go.ChangeShapes Go.WideShapes Go.ChangeAt Go.RowKit
open Cm
set_option linter.unusedVariables false

def pcTab : List Int := [0, 3, 2, 2, 2, 2, 1, 1, 1, 2, 0, 0]
theorem cell_lt' {w : World} {a : Addr} {v : Value} (h : w.cell? a = some v) : a.block < w.heap.size := by
  unfold World.cell? at h
  by_cases hb : a.block < w.heap.size
  · exact hb
  · rw [Array.getElem?_eq_none (by omega)] at h
    cases h
theorem pcAt_of_tab {W : World} (hT : Lib.TabIs Tryd.prog W "loop.example/g00646/impl.paramCounts" .i64 pcTab) : PcAt W := by
  have hc : ∀ k : Int, 1 ≤ k → k ≤ 11 → W.cell? ⟨0, k.toNat, none⟩ = some (.int .i64 (pc k : Int)) := by
    intro k h1 h2
    rcases kind_cases h1 h2 with ⟨rfl, e⟩ | ⟨rfl, e⟩ | ⟨rfl, e⟩ | ⟨rfl, e⟩ | ⟨rfl, e⟩ | ⟨rfl, e⟩ | ⟨rfl, e⟩ | ⟨rfl, e⟩ | ⟨rfl, e⟩ | ⟨rfl, e⟩ | ⟨rfl, e⟩
    all_goals
      rw [e]
      exact hT.cell (g := 0) (by kernel_rfl) _ (by decide)
  exact ⟨hc, cell_lt' (hc 1 (by omega) (by omega))⟩
theorem pcAt_head {W : World} {rest : List (String × DataW Unit)} (h : laidMet Tryd.prog (("loop.example/g00646/impl.paramCounts", Rows.laid_loop_example_g00646_impl_paramCounts) :: rest) W) : PcAt W :=
  pcAt_of_tab (Lib.tabIs_of_head (g := 0) (t := 55) (e := 2) (n := 12) (zs := pcTab) (by kernel_rfl) (by kernel_rfl) (by kernel_rfl) (by kernel_rfl) (by kernel_rfl) (by kernel_rfl) h)

theorem eqIntResult_same (c v : Int) (w : World) :
    Calls Tryd.prog 8 #[.agg #[.int .i64 c, .int .i64 v], .agg #[.int .i64 c, .int .i64 v]] w fun e w' => e = .returned (.bool true) ∧ w' = (w.alloc (.cells #[.int .i64 c, .int .i64 v] 25)).alloc (.cells #[.int .i64 c, .int .i64 v] 25) := by
  go_enter Tryd.func8, Tryd.ntmps8
  go_wp2
  go_ret
  exact ⟨rfl, rfl⟩
end Go.Proofs.YtomnadmeolkagaaDoor
