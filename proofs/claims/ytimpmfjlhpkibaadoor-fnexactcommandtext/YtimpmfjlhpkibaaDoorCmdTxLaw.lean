/- The walk of the exact law of CommandText, and what the listed variables hold. Condition: the listed variables hold what their initialisers lay. -/
import Derived.Test.YtimpmfjlhpkibaaDoorCmdTx
import Derived.Test.YtimpmfjlhpkibaaDoorCmdLaws
namespace Go.Proofs.YtimpmfjlhpkibaaDoor
open Go.ChangeShapes Go.WideShapes Go.ChangeAt Go.RowKit
open Cm
set_option linter.unusedVariables false

theorem txAt {W : World} (h : laidMetH Tryd.prog Rows.fnExactCommandTextRow.laid W) : TxAt W := by
  rw [MakeChecks.laidMetH_plain _ _ _ (by kernel_rfl)] at h
  have h2 := laidMet.tail (laidMet.tail h)
  have hT : Lib.TabIs Tryd.prog W "internal/strconv.uint64pow10" .u64 Lib.pow10Tab :=
    Lib.tabIs_of_head (g := 2) (t := 90) (e := 83) (n := 20) (by kernel_rfl) (by kernel_rfl) (by kernel_rfl) (by kernel_rfl) (by kernel_rfl) (by kernel_rfl) h2
  have h3 := laidMet.tail h2
  have hP := pcAt_head h3
  obtain ⟨ps, ⟨g0, t0, cs0, f0, p0, q0, hg0, ht0, hv0, hd0, _, _⟩, _⟩ := laidMet.tail h3
  have hg : Tryd.prog.globalNamed "loop.example/g00646/impl.kindTexts" = some 1 := by kernel_rfl
  obtain rfl : 1 = g0 := Option.some.inj (hg.symm.trans hg0)
  have hty : (Tryd.prog.globals[1]?).map (·.type) = some 67 := by kernel_rfl
  obtain rfl : 67 = t0 := Option.some.inj (hty.symm.trans ht0)
  have c1 : Tryd.prog.cellsOf 9 = 1 := by kernel_rfl
  have c12 : Tryd.prog.cellsOf 67 = 12 := by kernel_rfl
  obtain ⟨xs, m, rfl, hx, hlen, hn, hel⟩ := DataW.trod_array Tryd.underlying67 hd0
  rw [c1] at hel
  rw [c12] at hlen
  obtain ⟨cl⟩ := cs0
  have cells : ∀ i (s : List UInt8), i < 12 → (xs.map (·.1))[i]? = some (.lit (.string s)) → W.cell? ⟨1, i, none⟩ = some (.string ⟨s.toArray⟩) := by
    intro i s hi hs
    have h := hel i hi
    rw [List.getElem?_map] at hs
    cases hxi : xs[i]? with
    | none => rw [hxi] at hs; cases hs
    | some x =>
      rw [hxi] at hs h
      obtain ⟨s', e1, e2, _⟩ := DataW.trod_string Tryd.underlying9 h
      have e3 : x.1 = .lit (.string s) := Option.some.inj hs
      rw [e2] at e3
      have e4 : s'.data.toList = s := by simpa using e3
      have e5 : s' = ⟨s.toArray⟩ := by rw [← e4]
      have hc := World.var?_cell hg0 hv0 i
      have hci : cl[i]? = some (.string s') := by
        have := congrArg (·[0]?) e1
        simpa [List.getElem?_take, List.getElem?_drop] using this
      rw [← e5, hc]
      simpa using hci
  have hxx : (Rows.laid_loop_example_g00646_impl_kindTexts (H := Unit)) = .agg (xs.map (·.1)) := congrArg Prod.fst hx
  have hxl : xs.map (·.1) = [.lit (.string []), .lit (.string [109, 111, 118, 101]), .lit (.string [104, 97, 114, 118, 101, 115, 116]), .lit (.string [97, 116, 116, 97, 99, 107]), .lit (.string [116, 114, 105, 98, 117, 116, 101]), .lit (.string [103, 105, 102, 116]), .lit (.string [111, 102, 102, 101, 114]), .lit (.string [97, 99, 99, 101, 112, 116]), .lit (.string [98, 114, 101, 97, 107]), .lit (.string [109, 97, 115, 107]), .lit (.string [115, 117, 114, 114, 101, 110, 100, 101, 114]), .lit (.string [108, 101, 97, 118, 101])] := by
    have := hxx
    unfold Rows.laid_loop_example_g00646_impl_kindTexts at this
    exact (DataW.agg.inj this).symm
  have hk : ∀ k : Int, 1 ≤ k → k ≤ 11 → W.cell? ⟨1, k.toNat, none⟩ = some (.string ⟨(kw k).toArray⟩) := by
    intro k h1 h2
    rcases kw_cases h1 h2 with ⟨rfl, e⟩ | ⟨rfl, e⟩ | ⟨rfl, e⟩ | ⟨rfl, e⟩ | ⟨rfl, e⟩ | ⟨rfl, e⟩ | ⟨rfl, e⟩ | ⟨rfl, e⟩ | ⟨rfl, e⟩ | ⟨rfl, e⟩ | ⟨rfl, e⟩
    all_goals
      rw [e]
      exact cells _ _ (by decide) (by rw [hxl]; rfl)
  exact ⟨hT, hP, hk, cell_lt' (hk 1 (by omega) (by omega))⟩

def ctC (cl sq k a b c : Int) : Int := flt cl sq k a b c
def ctS (cl sq k a b c : Int) : ByteArray := if flt cl sq k a b c = 0 then ⟨(tx k (pc k) a b c).toArray⟩ else ⟨#[]⟩
theorem implCommandText (cl sq k a b c : Int) (w : World) (hL : TxAt w) :
    Calls Tryd.prog 20 #[.agg (cmdV cl sq k a b c)] w fun e w' => e = .returned (.agg #[.int .i64 (ctC cl sq k a b c), .string (ctS cl sq k a b c)]) ∧ Below w.heap.size w w' := by
  unfold ctC ctS
  by_cases h : flt cl sq k a b c = 0
  · rw [if_pos h, h]; exact implText_yes cl sq k a b c h w hL
  · rw [if_neg h]; exact implText_no cl sq k a b c (by simpa using h) w hL.pcs
theorem specCommandText (cl sq k a b c : Int) (w : World) :
    Calls Tryd.prog 21 #[.agg (cmdV cl sq k a b c)] w fun e w' => e = .returned (.agg #[.int .i64 (ctC cl sq k a b c), .string (ctS cl sq k a b c)]) ∧ Below w.heap.size w w' := by
  unfold ctC ctS
  by_cases h : flt cl sq k a b c = 0
  · rw [if_pos h, h]; exact specText_yes cl sq k a b c h w
  · rw [if_neg h]; exact specText_no cl sq k a b c (by simpa using h) w
theorem eqText_same (c : Int) (s : ByteArray) (w : World) :
    Calls Tryd.prog 34 #[.agg #[.int .i64 c, .string s], .agg #[.int .i64 c, .string s]] w fun e w' => e = .returned (.bool true) ∧ w' = (w.alloc (.cells #[.int .i64 c, .string s] 40)).alloc (.cells #[.int .i64 c, .string s] 40) := by
  go_enter Tryd.func34, Tryd.ntmps34
  go_wp2
  go_ret
  exact ⟨rfl, rfl⟩
set_option maxHeartbeats 1000000 in
theorem walk_fnExactCommandText (x0 x1 x2 x3 x4 x5 : Int) (f0 : (Lit.int .i64 x0).wf = true) (f1 : (Lit.int .i64 x1).wf = true) (f2 : (Lit.int .i64 x2).wf = true) (f3 : (Lit.int .i64 x3).wf = true) (f4 : (Lit.int .i64 x4).wf = true) (f5 : (Lit.int .i64 x5).wf = true) (w : World) (hL : TxAt w) :
    Calls Tryd.prog 8 #[.agg #[.int .i64 x0, .int .i64 x1, .int .i64 x2, .int .i64 x3, .int .i64 x4, .int .i64 x5]] w fun e w' => e = .returned (.bool true) ∧ Below w.heap.size w w' := by
  have c0 := fun w => toCommand_c x0 x1 x2 x3 x4 x5 w
  have c1 := fun w => specCommandText x0 x1 x2 x3 x4 x5 w
  have c2 := fun w hL => implCommandText x0 x1 x2 x3 x4 x5 w hL
  generalize ctC x0 x1 x2 x3 x4 x5 = C at c1 c2
  generalize ctS x0 x1 x2 x3 x4 x5 = S at c1 c2
  clear f0 f1 f2 f3 f4 f5
  have A0 := (Below.refl w.heap.size w).alloc (Nat.le_refl _) (.cells (cmdV x0 x1 x2 x3 x4 x5) 44)
  have K0 := Cmd.new w x0 x1 x2 x3 x4 x5 44
  go_enter Tryd.func8, Tryd.ntmps8
  go_wp2_with fail
  refine (c0 _).mono ?_
  rintro e w1 ⟨rfl, b1⟩
  have A1 := A0.trans (b1.mono A0.size)
  go_wp2_with fail
  refine (c1 _).mono ?_
  rintro e w2 ⟨rfl, b2⟩
  have A2 := A1.trans (b2.mono A1.size)
  have B2 := A2.alloc A2.size (.cells #[.int .i64 C, .string S] 40)
  have T1 := Blk.new w2 #[.int .i64 C, .string S] 40
  obtain ⟨q0, q1, q2, q3, q4, q5, ql⟩ := (K0.later b1).later b2
  go_wp2_with fail
  refine (c0 _).mono ?_
  rintro e w3 ⟨rfl, b3⟩
  have A3 := B2.trans (b3.mono B2.size)
  replace T1 := T1.below b3
  clear q0 q1 q2 q3 q4 q5 ql
  go_wp2_with fail
  refine (c2 _ (hL.later A3)).mono ?_
  rintro e w4 ⟨rfl, b4⟩
  have A4 := A3.trans (b4.mono A3.size)
  replace T1 := T1.below b4
  have t0 := T1.cell (i := 0) rfl
  have t1 := T1.cell (i := 1) rfl
  have tl := T1.lt
  go_wp2_with (go_at_call 34; refine (eqText_same _ _ _).mono ?_; rintro e w' ⟨rfl, rfl⟩)
  go_ret
  exact ⟨rfl, ((A4.alloc A4.size _).alloc (by have := A4.size; simp only [size_new]; omega) _).alloc (by have := A4.size; simp only [size_new]; omega) _⟩
end Go.Proofs.YtimpmfjlhpkibaaDoor
