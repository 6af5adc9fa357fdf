/- The contracts of ReasonText and of its model, and the walk of its exact law. Condition, for the program's own: its table of words holds what its initialiser lays. -/
import Derived.Test.YthopodopedbooaaDoorCmdWalks
import Derived.Test.YthopodopedbooaaDoorCmdLaid
namespace Go.Proofs.YthopodopedbooaaDoor
open Go.ChangeShapes Go.WideShapes Go.ChangeAt Go.RowKit
open Cm
set_option linter.unusedVariables false

/- the word of a code -/
def rw_ (k : Int) : List UInt8 := if k = 0 then [111, 107] else if k = 1 then [102, 111, 114, 109] else if k = 2 then [109, 97, 110, 121] else if k = 3 then [114, 97, 110, 103, 101] else if k = 4 then [110, 111, 110, 101] else if k = 5 then [116, 101, 120, 116] else if k = 6 then [116, 97, 107, 101, 110] else if k = 7 then [102, 117, 108, 108] else if k = 8 then [115, 116, 97, 116, 101] else if k = 9 then [114, 105, 103, 104, 116] else [112, 111, 111, 114]
theorem rw_cases {k : Int} (h1 : 0 ≤ k) (h2 : k ≤ 10) : (k = 0 ∧ rw_ k = [111, 107]) ∨ (k = 1 ∧ rw_ k = [102, 111, 114, 109]) ∨ (k = 2 ∧ rw_ k = [109, 97, 110, 121]) ∨ (k = 3 ∧ rw_ k = [114, 97, 110, 103, 101]) ∨ (k = 4 ∧ rw_ k = [110, 111, 110, 101]) ∨ (k = 5 ∧ rw_ k = [116, 101, 120, 116]) ∨ (k = 6 ∧ rw_ k = [116, 97, 107, 101, 110]) ∨ (k = 7 ∧ rw_ k = [102, 117, 108, 108]) ∨ (k = 8 ∧ rw_ k = [115, 116, 97, 116, 101]) ∨ (k = 9 ∧ rw_ k = [114, 105, 103, 104, 116]) ∨ (k = 10 ∧ rw_ k = [112, 111, 111, 114]) := by
  have h : k = 0 ∨ k = 1 ∨ k = 2 ∨ k = 3 ∨ k = 4 ∨ k = 5 ∨ k = 6 ∨ k = 7 ∨ k = 8 ∨ k = 9 ∨ k = 10 := by omega
  rcases h with rfl | rfl | rfl | rfl | rfl | rfl | rfl | rfl | rfl | rfl | rfl <;> simp [rw_]
def rwO : Obj := .cells #[.string ⟨#[111, 107]⟩, .string ⟨#[102, 111, 114, 109]⟩, .string ⟨#[109, 97, 110, 121]⟩, .string ⟨#[114, 97, 110, 103, 101]⟩, .string ⟨#[110, 111, 110, 101]⟩, .string ⟨#[116, 101, 120, 116]⟩, .string ⟨#[116, 97, 107, 101, 110]⟩, .string ⟨#[102, 117, 108, 108]⟩, .string ⟨#[115, 116, 97, 116, 101]⟩, .string ⟨#[114, 105, 103, 104, 116]⟩, .string ⟨#[112, 111, 111, 114]⟩] 9
set_option maxHeartbeats 1000000 in
theorem l9Word_c (k : Int) (h1 : 0 ≤ k) (h2 : k ≤ 10) (w : World) :
    Calls Tryd.prog 15 #[.int .i64 k] w fun e w' => e = .returned (.string ⟨(rw_ k).toArray⟩) ∧ w' = w.alloc rwO := by
  rcases rw_cases h1 h2 with ⟨rfl, e⟩ | ⟨rfl, e⟩ | ⟨rfl, e⟩ | ⟨rfl, e⟩ | ⟨rfl, e⟩ | ⟨rfl, e⟩ | ⟨rfl, e⟩ | ⟨rfl, e⟩ | ⟨rfl, e⟩ | ⟨rfl, e⟩ | ⟨rfl, e⟩
  all_goals
    rw [e]
    clear e h1 h2
    go_enter Tryd.func15, Tryd.ntmps15
    go_wp2
    go_ret
    exact ⟨rfl, rfl⟩
/- what the program's table of words holds -/
structure RtAt (w : World) : Prop where
  c : ∀ k : Int, 0 ≤ k → k ≤ 10 → w.cell? ⟨0, k.toNat, none⟩ = some (.string ⟨(rw_ k).toArray⟩)
  lt : 0 < w.heap.size
theorem RtAt.later {w w' : World} (h : RtAt w) (hb : Below w.heap.size w w') : RtAt w' :=
  ⟨fun k h1 h2 => by rw [hb.cell h.lt]; exact h.c k h1 h2, Nat.lt_of_lt_of_le h.lt hb.size⟩
def rtC (k : Int) : Int := if inb k 0 10 = true then 0 else 3
def rtS (k : Int) : ByteArray := if inb k 0 10 = true then ⟨(rw_ k).toArray⟩ else ⟨#[]⟩
theorem rt_cases (k : Int) : (inb k 0 10 = false ∧ rtC k = 3 ∧ rtS k = ⟨#[]⟩) ∨ (inb k 0 10 = true ∧ rtC k = 0 ∧ rtS k = ⟨(rw_ k).toArray⟩) := by
  unfold rtC rtS
  cases inb k 0 10 <;> simp
theorem specReasonText (k : Int) (w : World) :
    Calls Tryd.prog 9 #[.int .i64 k] w fun e w' => e = .returned (.agg #[.int .i64 (rtC k), .string (rtS k)]) ∧ Below w.heap.size w w' := by
  have q1 := fun w => l1In_c k 0 10 w
  rcases rt_cases k with ⟨h, e1, e2⟩ | ⟨h, e1, e2⟩ <;> rw [e1, e2] <;> clear e1 e2
  · rw [h] at q1
    go_enter Tryd.func9, Tryd.ntmps9
    go_wp2_with (go_at_call 14; refine (q1 _).mono ?_; rintro e w' ⟨rfl, rfl⟩)
    refine bodyPost_ret ?_ rfl ⟨rfl, ?_⟩
    · simp [results, Tryd.results9, go_sem]
      done
    · exact (Below.refl _ _).alloc (Nat.le_refl _) _
  · have hb := inb_i h
    rw [h] at q1
    have q2 := fun w => l9Word_c k hb.1 hb.2 w
    generalize (⟨(rw_ k).toArray⟩ : ByteArray) = S at q2 ⊢
    go_enter Tryd.func9, Tryd.ntmps9
    go_wp2_with (first | (go_at_call 14; refine (q1 _).mono ?_; rintro e w' ⟨rfl, rfl⟩) | (go_at_call 15; refine (q2 _).mono ?_; rintro e w' ⟨rfl, rfl⟩))
    refine bodyPost_ret ?_ rfl ⟨rfl, ?_⟩
    · simp [results, Tryd.results9, go_sem]
      done
    · exact ((Below.refl _ _).alloc (Nat.le_refl _) _).alloc (by simp only [size_new]; omega) _
theorem implReasonText (k : Int) (w : World) (hL : RtAt w) :
    Calls Tryd.prog 10 #[.int .i64 k] w fun e w' => e = .returned (.agg #[.int .i64 (rtC k), .string (rtS k)]) ∧ Below w.heap.size w w' := by
  rcases rt_cases k with ⟨h, e1, e2⟩ | ⟨h, e1, e2⟩ <;> rw [e1, e2] <;> clear e1 e2
  · have hb := inb_n h
    by_cases h1 : k < 0
    · go_enter Tryd.func10, Tryd.ntmps10
      go_wp2
      refine bodyPost_ret ?_ rfl ⟨rfl, ?_⟩
      · simp [results, Tryd.results10, go_sem]
        done
      · exact (Below.refl _ _).alloc (Nat.le_refl _) _
    · have d1 : decide (k < 0) = false := decide_eq_false h1
      have h2 : 10 < k := by omega
      go_enter Tryd.func10, Tryd.ntmps10
      go_wp2
      refine bodyPost_ret ?_ rfl ⟨rfl, ?_⟩
      · simp [results, Tryd.results10, go_sem]
        done
      · exact (Below.refl _ _).alloc (Nat.le_refl _) _
  · have hb := inb_i h
    have hc := hL.c k hb.1 hb.2
    have hlt := hL.lt
    have d1 : decide (k < 0) = false := decide_eq_false (by omega)
    have d2 : decide (10 < k) = false := decide_eq_false (by omega)
    generalize (⟨(rw_ k).toArray⟩ : ByteArray) = S at hc ⊢
    go_enter Tryd.func10, Tryd.ntmps10
    go_wp2
    refine bodyPost_ret ?_ rfl ⟨rfl, ?_⟩
    · simp [results, Tryd.results10, go_sem]
      done
    · exact (Below.refl _ _).alloc (Nat.le_refl _) _
theorem eqText_same (c : Int) (s : ByteArray) (w : World) :
    Calls Tryd.prog 11 #[.agg #[.int .i64 c, .string s], .agg #[.int .i64 c, .string s]] w fun e w' => e = .returned (.bool true) ∧ w' = (w.alloc (.cells #[.int .i64 c, .string s] 32)).alloc (.cells #[.int .i64 c, .string s] 32) := by
  go_enter Tryd.func11, Tryd.ntmps11
  go_wp2
  go_ret
  exact ⟨rfl, rfl⟩
/- from the row's condition to the table -/
theorem rtAt_head {W : World} {rest : List (String × DataW Unit)} (h : laidMet Tryd.prog (("loop.example/g00646/impl.reasonTexts", Rows.laid_loop_example_g00646_impl_reasonTexts) :: rest) W) : RtAt W := by
  obtain ⟨ps, ⟨g0, t0, cs0, f0, p0, q0, hg0, ht0, hv0, hd0, _, _⟩, _⟩ := h
  have hg : Tryd.prog.globalNamed "loop.example/g00646/impl.reasonTexts" = some 0 := by kernel_rfl
  obtain rfl : 0 = g0 := Option.some.inj (hg.symm.trans hg0)
  have hty : (Tryd.prog.globals[0]?).map (·.type) = some 41 := by kernel_rfl
  obtain rfl : 41 = t0 := Option.some.inj (hty.symm.trans ht0)
  have c1 : Tryd.prog.cellsOf 9 = 1 := by kernel_rfl
  have c12 : Tryd.prog.cellsOf 41 = 11 := by kernel_rfl
  obtain ⟨xs, m, rfl, hx, hlen, hn, hel⟩ := DataW.trod_array Tryd.underlying41 hd0
  rw [c1] at hel
  rw [c12] at hlen
  obtain ⟨cl⟩ := cs0
  have cells : ∀ i (s : List UInt8), i < 11 → (xs.map (·.1))[i]? = some (.lit (.string s)) → W.cell? ⟨0, i, none⟩ = some (.string ⟨s.toArray⟩) := by
    intro i s hi hs
    have h := hel i hi
    rw [List.getElem?_map] at hs
    cases hxi : xs[i]? with
    | none => rw [hxi] at hs; cases hs
    | some x =>
      rw [hxi] at hs h
      obtain ⟨s', e1, e2, _⟩ := DataW.trod_string Tryd.underlying9 h
      have e3 : x.1 = .lit (.string s) := Option.some.inj hs
      rw [e2] at e3
      have e4 : s'.data.toList = s := by simpa using e3
      have e5 : s' = ⟨s.toArray⟩ := by rw [← e4]
      have hc := World.var?_cell hg0 hv0 i
      have hci : cl[i]? = some (.string s') := by
        have := congrArg (·[0]?) e1
        simpa [List.getElem?_take, List.getElem?_drop] using this
      rw [← e5, hc]
      simpa using hci
  have hxx : (Rows.laid_loop_example_g00646_impl_reasonTexts (H := Unit)) = .agg (xs.map (·.1)) := congrArg Prod.fst hx
  have hxl : xs.map (·.1) = [.lit (.string [111, 107]), .lit (.string [102, 111, 114, 109]), .lit (.string [109, 97, 110, 121]), .lit (.string [114, 97, 110, 103, 101]), .lit (.string [110, 111, 110, 101]), .lit (.string [116, 101, 120, 116]), .lit (.string [116, 97, 107, 101, 110]), .lit (.string [102, 117, 108, 108]), .lit (.string [115, 116, 97, 116, 101]), .lit (.string [114, 105, 103, 104, 116]), .lit (.string [112, 111, 111, 114])] := by
    have := hxx
    unfold Rows.laid_loop_example_g00646_impl_reasonTexts at this
    exact (DataW.agg.inj this).symm
  have hk : ∀ k : Int, 0 ≤ k → k ≤ 10 → W.cell? ⟨0, k.toNat, none⟩ = some (.string ⟨(rw_ k).toArray⟩) := by
    intro k h1 h2
    rcases rw_cases h1 h2 with ⟨rfl, e⟩ | ⟨rfl, e⟩ | ⟨rfl, e⟩ | ⟨rfl, e⟩ | ⟨rfl, e⟩ | ⟨rfl, e⟩ | ⟨rfl, e⟩ | ⟨rfl, e⟩ | ⟨rfl, e⟩ | ⟨rfl, e⟩ | ⟨rfl, e⟩
    all_goals
      rw [e]
      exact cells _ _ (by decide) (by rw [hxl]; rfl)
  exact ⟨hk, cell_lt' (hk 1 (by omega) (by omega))⟩
theorem rtAt {W : World} (h : laidMetH Tryd.prog Rows.fnExactReasonTextRow.laid W) : RtAt W := by
  rw [MakeChecks.laidMetH_plain _ _ _ (by kernel_rfl)] at h
  exact rtAt_head h
set_option maxHeartbeats 1000000 in
theorem walk_fnExactReasonText (a0 : Int) (w0 : (Lit.int .i64 a0).wf = true) (w : World) (hL : RtAt w) :
    Calls Tryd.prog 4 #[.int .i64 a0] w fun e w' => e = .returned (.bool true) ∧ Below w.heap.size w w' := by
  have c1 := fun w => specReasonText a0 w
  have c2 := fun w hL => implReasonText a0 w hL
  generalize rtC a0 = C at c1 c2
  generalize rtS a0 = S at c1 c2
  go_enter Tryd.func4, Tryd.ntmps4
  go_wp2_with fail
  refine (c1 _).mono ?_
  rintro e w1 ⟨rfl, hb1⟩
  go_wp2_with fail
  have hA1 := hb1.alloc hb1.size (.cells #[.int .i64 C, .string S] 32)
  refine (c2 _ (hL.later hA1)).mono ?_
  rintro e w2 ⟨rfl, hb2⟩
  have hz2 := hb2.size
  simp only [size_new] at hz2
  have tl : w1.heap.size < w2.heap.size := by omega
  have t0 : w2.cell? ⟨w1.heap.size, 0, none⟩ = some (.int .i64 C) := by rw [hb2.cell (by simp only [size_new]; omega)]; exact cell_new _ _ _ _ _ rfl
  have t1 : w2.cell? ⟨w1.heap.size, 1, none⟩ = some (.string S) := by rw [hb2.cell (by simp only [size_new]; omega)]; exact cell_new _ _ _ _ _ rfl
  have A4 : Below w.heap.size w w2 := hA1.trans (hb2.mono hA1.size)
  go_wp2_with (go_at_call 11; refine (eqText_same _ _ _).mono ?_; rintro e w' ⟨rfl, rfl⟩)
  go_ret
  exact ⟨rfl, ((A4.alloc A4.size _).alloc (by have := A4.size; simp only [size_new]; omega) _).alloc (by have := A4.size; simp only [size_new]; omega) _⟩
end Go.Proofs.YthopodopedbooaaDoor
