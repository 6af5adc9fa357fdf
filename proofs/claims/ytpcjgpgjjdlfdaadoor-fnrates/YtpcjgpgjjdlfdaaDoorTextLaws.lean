/- The walk of the exact law of RateText, and what the listed variables hold. Condition: the listed variables hold what their initialisers lay. -/
import Derived.Test.YtpcjgpgjjdlfdaaDoorRateText2
import Derived.LaidMore
import Derived.LaidLaws
import Derived.Lib.LaidTab
import Derived.Stop.Joined
import Derived.Stop.LaidErr
namespace Go.Proofs.YtpcjgpgjjdlfdaaDoor
open Go.ChangeShapes Go.WideShapes Go.ChangeAt Go.RowKit
set_option linter.unusedVariables false

theorem eqText_same (c : Int) (s : ByteArray) (w : World) :
    Calls Tryd.prog 20 #[.agg #[.int .i64 c, .string s], .agg #[.int .i64 c, .string s]] w fun e w' => e = .returned (.bool true) ∧ w' = (w.alloc (.cells #[.int .i64 c, .string s] 30)).alloc (.cells #[.int .i64 c, .string s] 30) := by
  go_enter Tryd.func20, Tryd.ntmps20
  go_wp2
  go_ret
  exact ⟨rfl, rfl⟩
set_option maxHeartbeats 1000000 in
theorem walk_fnExactRateText (a0 : Int) (w0 : (Lit.int .i64 a0).wf = true) (w : World) (hL : LaidAt w) :
    Calls Tryd.prog 4 #[.int .i64 a0] w fun e w' => e = .returned (.bool true) ∧ Below w.heap.size w w' := by
  have e1 : IntKind.min .i64 = -9223372036854775808 := by decide
  have e2 : IntKind.max .i64 = 9223372036854775807 := by decide
  simp only [Lit.wf, e1, e2, Bool.and_eq_true, decide_eq_true_eq] at w0
  have c1 := fun w => specRateText a0 w
  have c2 := fun w hL => implRateText a0 (by omega) (by omega) w hL
  generalize rtC a0 = C at c1 c2
  generalize rtS a0 = S at c1 c2
  clear e1 e2
  go_enter Tryd.func4, Tryd.ntmps4
  go_wp2_with fail
  refine (c1 _).mono ?_
  rintro e w1 ⟨rfl, hb1⟩
  go_wp2_with fail
  have hA1 := hb1.alloc hb1.size (.cells #[.int .i64 C, .string S] 30)
  refine (c2 _ (hL.later hA1)).mono ?_
  rintro e w2 ⟨rfl, hb2⟩
  have hz1 := hb1.size
  have hz2 := hb2.size
  simp only [size_new] at hz2
  have hlt : w1.heap.size < w2.heap.size := by omega
  have k0 : w2.cell? ⟨w1.heap.size, 0, none⟩ = some (.int .i64 C) := by rw [hb2.cell (by simp only [size_new]; omega)]; exact cell_new _ _ _ _ _ rfl
  have k1 : w2.cell? ⟨w1.heap.size, 1, none⟩ = some (.string S) := by rw [hb2.cell (by simp only [size_new]; omega)]; exact cell_new _ _ _ _ _ rfl
  go_wp2_with (go_at_call 20; refine (eqText_same _ _ _).mono ?_; rintro e w' ⟨rfl, rfl⟩)
  go_ret
  have hA : Below w.heap.size w w2 := hA1.trans (hb2.mono (by simp only [size_new]; omega))
  exact ⟨rfl, ((hA.alloc hA.size _).alloc (by have := hA.size; simp only [size_new]; omega) _).alloc (by have := hA.size; simp only [size_new]; omega) _⟩

theorem cell_lt' {w : World} {a : Addr} {v : Value} (h : w.cell? a = some v) : a.block < w.heap.size := by
  unfold World.cell? at h
  by_cases hb : a.block < w.heap.size
  · exact hb
  · rw [Array.getElem?_eq_none (by omega)] at h
    cases h
/-- FROM THE ROW's CONDITION TO WHAT THE WALKS ASK. -/
theorem laidAt {W : World} (h : laidMetH Tryd.prog Rows.fnExactRateTextRow.laid W) : LaidAt W := by
  rw [MakeChecks.laidMetH_plain _ _ _ (by kernel_rfl)] at h
  have h2 := laidMet.tail (laidMet.tail h)
  have hT : Lib.TabIs Tryd.prog W "internal/strconv.uint64pow10" .u64 Lib.pow10Tab :=
    Lib.tabIs_of_head (g := 2) (t := 93) (e := 70) (n := 20) (by kernel_rfl) (by kernel_rfl) (by kernel_rfl) (by kernel_rfl) (by kernel_rfl) (by kernel_rfl) h2
  have h3 := laidMet.tail h2
  obtain ⟨ps, ⟨g0, t0, cs0, f0, p0, q0, hg0, ht0, hv0, hd0, _, _⟩, _⟩ := h3
  have hg : Tryd.prog.globalNamed "loop.example/g00646/impl.quarterTexts" = some 0 := by kernel_rfl
  obtain rfl : 0 = g0 := Option.some.inj (hg.symm.trans hg0)
  have hty : (Tryd.prog.globals[0]?).map (·.type) = some 59 := by kernel_rfl
  obtain rfl : 59 = t0 := Option.some.inj (hty.symm.trans ht0)
  have c1 : Tryd.prog.cellsOf 9 = 1 := by kernel_rfl
  have c4 : Tryd.prog.cellsOf 59 = 4 := by kernel_rfl
  obtain ⟨xs, m, rfl, hx, hlen, hn, hel⟩ := DataW.trod_array Tryd.underlying59 hd0
  rw [c1] at hel
  rw [c4] at hlen
  obtain ⟨cl⟩ := cs0
  have cells : ∀ i (s : List UInt8), i < 4 → (Rows.laid_loop_example_g00646_impl_quarterTexts (H := Unit)) = .agg (xs.map (·.1)) → (xs.map (·.1))[i]? = some (.lit (.string s)) → W.cell? ⟨0, i, none⟩ = some (.string ⟨s.toArray⟩) := by
    intro i s hi _ hs
    have h := hel i hi
    rw [List.getElem?_map] at hs
    cases hxi : xs[i]? with
    | none => rw [hxi] at hs; cases hs
    | some x =>
      rw [hxi] at hs h
      obtain ⟨s', e1, e2, _⟩ := DataW.trod_string Tryd.underlying9 h
      have e3 : x.1 = .lit (.string s) := Option.some.inj hs
      rw [e2] at e3
      have e4 : s'.data.toList = s := by simpa using e3
      have e5 : s' = ⟨s.toArray⟩ := by rw [← e4]
      have hc := World.var?_cell hg0 hv0 i
      have hci : cl[i]? = some (.string s') := by
        have := congrArg (·[0]?) e1
        simpa [List.getElem?_take, List.getElem?_drop] using this
      rw [← e5, hc]
      simpa using hci
  have hxx : (Rows.laid_loop_example_g00646_impl_quarterTexts (H := Unit)) = .agg (xs.map (·.1)) := congrArg Prod.fst hx
  have hxl : xs.map (·.1) = [.lit (.string []), .lit (.string [46, 50, 53]), .lit (.string [46, 53]), .lit (.string [46, 55, 53])] := by
    have := hxx
    unfold Rows.laid_loop_example_g00646_impl_quarterTexts at this
    exact (DataW.agg.inj this).symm
  refine ⟨hT, cells 0 [] (by omega) hxx (by rw [hxl]; rfl), cells 1 [46, 50, 53] (by omega) hxx (by rw [hxl]; rfl), cells 2 [46, 53] (by omega) hxx (by rw [hxl]; rfl), cells 3 [46, 55, 53] (by omega) hxx (by rw [hxl]; rfl), ?_⟩
  have := cell_lt' (cells 0 [] (by omega) hxx (by rw [hxl]; rfl))
  exact this
end Go.Proofs.YtpcjgpgjjdlfdaaDoor
