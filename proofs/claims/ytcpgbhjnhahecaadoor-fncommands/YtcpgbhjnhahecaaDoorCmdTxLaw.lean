/- The walk of the exact law of CommandText, and what the listed variables hold. Condition: the listed variables hold what their initialisers lay. -/
import Derived.Test.YtcpgbhjnhahecaaDoorCmdTx
import Derived.Test.YtcpgbhjnhahecaaDoorCmdLaid
namespace Go.Proofs.YtcpgbhjnhahecaaDoor
open Go.ChangeShapes Go.WideShapes Go.ChangeAt Go.RowKit
open Cm
set_option linter.unusedVariables false

theorem txAt {W : World} (h : laidMetH Tryd.prog Rows.fnCommandsRow.laid W) : TxAt W := by
  rw [MakeChecks.laidMetH_plain _ _ _ (by kernel_rfl)] at h
  have h2 := laidMet.tail (laidMet.tail h)
  have hT : Lib.TabIs Tryd.prog W "internal/strconv.uint64pow10" .u64 Lib.pow10Tab :=
    Lib.tabIs_of_head (g := 2) (t := 80) (e := 73) (n := 20) (by kernel_rfl) (by kernel_rfl) (by kernel_rfl) (by kernel_rfl) (by kernel_rfl) (by kernel_rfl) h2
  have h3 := laidMet.tail h2
  have hP := pcAt_head h3
  obtain ⟨ps, ⟨g0, t0, cs0, f0, p0, q0, hg0, ht0, hv0, hd0, _, _⟩, _⟩ := laidMet.tail h3
  have hg : Tryd.prog.globalNamed "loop.example/g00646/impl.kindTexts" = some 1 := by kernel_rfl
  obtain rfl : 1 = g0 := Option.some.inj (hg.symm.trans hg0)
  have hty : (Tryd.prog.globals[1]?).map (·.type) = some 59 := by kernel_rfl
  obtain rfl : 59 = t0 := Option.some.inj (hty.symm.trans ht0)
  have c1 : Tryd.prog.cellsOf 9 = 1 := by kernel_rfl
  have c12 : Tryd.prog.cellsOf 59 = 12 := by kernel_rfl
  obtain ⟨xs, m, rfl, hx, hlen, hn, hel⟩ := DataW.trod_array Tryd.underlying59 hd0
  rw [c1] at hel
  rw [c12] at hlen
  obtain ⟨cl⟩ := cs0
  have cells : ∀ i (s : List UInt8), i < 12 → (xs.map (·.1))[i]? = some (.lit (.string s)) → W.cell? ⟨1, i, none⟩ = some (.string ⟨s.toArray⟩) := by
    intro i s hi hs
    have h := hel i hi
    rw [List.getElem?_map] at hs
    cases hxi : xs[i]? with
    | none => rw [hxi] at hs; cases hs
    | some x =>
      rw [hxi] at hs h
      obtain ⟨s', e1, e2, _⟩ := DataW.trod_string Tryd.underlying9 h
      have e3 : x.1 = .lit (.string s) := Option.some.inj hs
      rw [e2] at e3
      have e4 : s'.data.toList = s := by simpa using e3
      have e5 : s' = ⟨s.toArray⟩ := by rw [← e4]
      have hc := World.var?_cell hg0 hv0 i
      have hci : cl[i]? = some (.string s') := by
        have := congrArg (·[0]?) e1
        simpa [List.getElem?_take, List.getElem?_drop] using this
      rw [← e5, hc]
      simpa using hci
  have hxx : (Rows.laid_loop_example_g00646_impl_kindTexts (H := Unit)) = .agg (xs.map (·.1)) := congrArg Prod.fst hx
  have hxl : xs.map (·.1) = [.lit (.string []), .lit (.string [109, 111, 118, 101]), .lit (.string [104, 97, 114, 118, 101, 115, 116]), .lit (.string [97, 116, 116, 97, 99, 107]), .lit (.string [116, 114, 105, 98, 117, 116, 101]), .lit (.string [103, 105, 102, 116]), .lit (.string [111, 102, 102, 101, 114]), .lit (.string [97, 99, 99, 101, 112, 116]), .lit (.string [98, 114, 101, 97, 107]), .lit (.string [109, 97, 115, 107]), .lit (.string [115, 117, 114, 114, 101, 110, 100, 101, 114]), .lit (.string [108, 101, 97, 118, 101])] := by
    have := hxx
    unfold Rows.laid_loop_example_g00646_impl_kindTexts at this
    exact (DataW.agg.inj this).symm
  have hk : ∀ k : Int, 1 ≤ k → k ≤ 11 → W.cell? ⟨1, k.toNat, none⟩ = some (.string ⟨(kw k).toArray⟩) := by
    intro k h1 h2
    rcases kw_cases h1 h2 with ⟨rfl, e⟩ | ⟨rfl, e⟩ | ⟨rfl, e⟩ | ⟨rfl, e⟩ | ⟨rfl, e⟩ | ⟨rfl, e⟩ | ⟨rfl, e⟩ | ⟨rfl, e⟩ | ⟨rfl, e⟩ | ⟨rfl, e⟩ | ⟨rfl, e⟩
    all_goals
      rw [e]
      exact cells _ _ (by decide) (by rw [hxl]; rfl)
  exact ⟨hT, hP, hk, cell_lt' (hk 1 (by omega) (by omega))⟩

def ctC (cl sq k a b c : Int) : Int := flt cl sq k a b c
def ctS (cl sq k a b c : Int) : ByteArray := if flt cl sq k a b c = 0 then ⟨(tx k (pc k) a b c).toArray⟩ else ⟨#[]⟩
theorem implCommandText (cl sq k a b c : Int) (w : World) (hL : TxAt w) :
    Calls Tryd.prog 15 #[.agg (cmdV cl sq k a b c)] w fun e w' => e = .returned (.agg #[.int .i64 (ctC cl sq k a b c), .string (ctS cl sq k a b c)]) ∧ Below w.heap.size w w' := by
  unfold ctC ctS
  by_cases h : flt cl sq k a b c = 0
  · rw [if_pos h, h]; exact implText_yes cl sq k a b c h w hL
  · rw [if_neg h]; exact implText_no cl sq k a b c (by simpa using h) w hL.pcs
theorem specCommandText (cl sq k a b c : Int) (w : World) :
    Calls Tryd.prog 16 #[.agg (cmdV cl sq k a b c)] w fun e w' => e = .returned (.agg #[.int .i64 (ctC cl sq k a b c), .string (ctS cl sq k a b c)]) ∧ Below w.heap.size w w' := by
  unfold ctC ctS
  by_cases h : flt cl sq k a b c = 0
  · rw [if_pos h, h]; exact specText_yes cl sq k a b c h w
  · rw [if_neg h]; exact specText_no cl sq k a b c (by simpa using h) w
end Go.Proofs.YtcpgbhjnhahecaaDoor
