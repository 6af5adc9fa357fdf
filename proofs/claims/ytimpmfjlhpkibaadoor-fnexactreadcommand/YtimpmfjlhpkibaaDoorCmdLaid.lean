/- From the rows' condition on the listed variables to what the walks ask: the table of counts. No further condition. -/
import Derived.Test.YtimpmfjlhpkibaaDoorCmdWalks
import Derived.LaidMore
import Derived.LaidLaws
import Derived.Lib.LaidTab
import Derived.Stop.Joined
import Derived.Stop.LaidErr
namespace Go.Proofs.YtimpmfjlhpkibaaDoor
open Go.ChangeShapes Go.WideShapes Go.ChangeAt Go.RowKit
open Cm
set_option linter.unusedVariables false

def pcTab : List Int := [0, 3, 2, 2, 2, 2, 1, 1, 1, 2, 0, 0]
theorem cell_lt' {w : World} {a : Addr} {v : Value} (h : w.cell? a = some v) : a.block < w.heap.size := by
  unfold World.cell? at h
  by_cases hb : a.block < w.heap.size
  · exact hb
  · rw [Array.getElem?_eq_none (by omega)] at h
    cases h
theorem pcAt_of_tab {W : World} (hT : Lib.TabIs Tryd.prog W "loop.example/g00646/impl.paramCounts" .i64 pcTab) : PcAt W := by
  have hc : ∀ k : Int, 1 ≤ k → k ≤ 11 → W.cell? ⟨0, k.toNat, none⟩ = some (.int .i64 (pc k : Int)) := by
    intro k h1 h2
    rcases kind_cases h1 h2 with ⟨rfl, e⟩ | ⟨rfl, e⟩ | ⟨rfl, e⟩ | ⟨rfl, e⟩ | ⟨rfl, e⟩ | ⟨rfl, e⟩ | ⟨rfl, e⟩ | ⟨rfl, e⟩ | ⟨rfl, e⟩ | ⟨rfl, e⟩ | ⟨rfl, e⟩
    all_goals
      rw [e]
      exact hT.cell (g := 0) (by kernel_rfl) _ (by decide)
  exact ⟨hc, cell_lt' (hc 1 (by omega) (by omega))⟩
theorem pcAt_head {W : World} {rest : List (String × DataW Unit)} (h : laidMet Tryd.prog (("loop.example/g00646/impl.paramCounts", Rows.laid_loop_example_g00646_impl_paramCounts) :: rest) W) : PcAt W :=
  pcAt_of_tab (Lib.tabIs_of_head (g := 0) (t := 65) (e := 2) (n := 12) (zs := pcTab) (by kernel_rfl) (by kernel_rfl) (by kernel_rfl) (by kernel_rfl) (by kernel_rfl) (by kernel_rfl) h)
theorem pcAt {W : World} (h : laidMetH Tryd.prog Rows.fnExactParamsOfRow.laid W) : PcAt W := by
  rw [MakeChecks.laidMetH_plain _ _ _ (by kernel_rfl)] at h
  exact pcAt_head h

theorem eqIntResult_same (c v : Int) (w : World) :
    Calls Tryd.prog 33 #[.agg #[.int .i64 c, .int .i64 v], .agg #[.int .i64 c, .int .i64 v]] w fun e w' => e = .returned (.bool true) ∧ w' = (w.alloc (.cells #[.int .i64 c, .int .i64 v] 37)).alloc (.cells #[.int .i64 c, .int .i64 v] 37) := by
  go_enter Tryd.func33, Tryd.ntmps33
  go_wp2
  go_ret
  exact ⟨rfl, rfl⟩
set_option maxHeartbeats 1000000 in
theorem walk_fnExactParamsOf (a0 : Int) (w0 : (Lit.int .i64 a0).wf = true) (w : World) (hL : PcAt w) :
    Calls Tryd.prog 7 #[.int .i64 a0] w fun e w' => e = .returned (.bool true) ∧ Below w.heap.size w w' := by
  have c1 := fun w => specParamsOf a0 w
  have c2 := fun w hL => implParamsOf a0 w hL
  generalize poC a0 = C at c1 c2
  generalize poV a0 = S at c1 c2
  go_enter Tryd.func7, Tryd.ntmps7
  go_wp2_with fail
  refine (c1 _).mono ?_
  rintro e w1 ⟨rfl, hb1⟩
  go_wp2_with fail
  have hA1 := hb1.alloc hb1.size (.cells #[.int .i64 C, .int .i64 S] 37)
  refine (c2 _ (hL.later hA1)).mono ?_
  rintro e w2 ⟨rfl, hb2⟩
  have hz1 := hb1.size
  have hz2 := hb2.size
  simp only [size_new] at hz2
  have hlt : w1.heap.size < w2.heap.size := by omega
  have k0 : w2.cell? ⟨w1.heap.size, 0, none⟩ = some (.int .i64 C) := by rw [hb2.cell (by simp only [size_new]; omega)]; exact cell_new _ _ _ _ _ rfl
  have k1 : w2.cell? ⟨w1.heap.size, 1, none⟩ = some (.int .i64 S) := by rw [hb2.cell (by simp only [size_new]; omega)]; exact cell_new _ _ _ _ _ rfl
  go_wp2_with (go_at_call 33; refine (eqIntResult_same _ _ _).mono ?_; rintro e w' ⟨rfl, rfl⟩)
  go_ret
  have hA : Below w.heap.size w w2 := hA1.trans (hb2.mono (by simp only [size_new]; omega))
  exact ⟨rfl, ((hA.alloc hA.size _).alloc (by have := hA.size; simp only [size_new]; omega) _).alloc (by have := hA.size; simp only [size_new]; omega) _⟩
end Go.Proofs.YtimpmfjlhpkibaaDoor
