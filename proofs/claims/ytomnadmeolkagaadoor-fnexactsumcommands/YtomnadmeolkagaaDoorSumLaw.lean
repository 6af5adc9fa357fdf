/- The walk of the exact law of SumCommands. Condition: the table of counts holds what its initialiser lays. -/
import Derived.Test.YtomnadmeolkagaaDoorSumSpec
import Derived.Test.YtomnadmeolkagaaDoorSumImpl
import Derived.Test.YtomnadmeolkagaaDoorSameLaw
import Derived.Test.YtomnadmeolkagaaDoorCmdLaid
namespace Go.Proofs.YtomnadmeolkagaaDoor
open Go.ChangeShapes Go.WideShapes Go.ChangeAt Go.RowKit
open Cm
set_option linter.unusedVariables false

theorem pcAtS {W : World} (h : laidMetH Tryd.prog Rows.fnExactSumCommandsRow.laid W) : PcAt W := by
  rw [MakeChecks.laidMetH_plain _ _ _ (by kernel_rfl)] at h
  exact pcAt_head h
set_option maxHeartbeats 4000000 in
theorem exactSum (a : Option Addr) (m cap : Nat) (l : List K6) (hl : l.length = m) (hm : m ≤ 1048576) (w : World) (h : ArgC w a l) (hL : PcAt w) :
    Calls Tryd.prog 3 #[.slice a m cap] w fun e w' => e = .returned (.bool true) ∧ Below w.heap.size w w' := by
  have z1 := fun w => sz_c a m cap 1048576 (by omega) (by omega) (by omega) w
  rw [if_pos (by omega)] at z1
  have d1 : decide ((1048576 : Int) - (m : Int) < 0) = false := decide_eq_false (by omega)
  have cA := fun W h => toCommandS_c a m cap l hl (by omega) W h
  have s1 := fun (w : World) (g : Nat) hg (h1 : CAt w g 0 l) => specSumCommands w g m m l hl (by omega) hg h1
  have s2 := fun (w : World) hL (g : Nat) hg (h1 : CAt w g 0 l) => implSumCommands w hL g m m l hl (by omega) hg h1
  have q1 := fun (w : World) (g1 g2 : Nat) h1 h2 k1 k2 => eqCommandS_same w g1 g2 m m m l hl (by omega) h1 h2 k1 k2
  generalize scC l = C at s1 s2
  generalize scV l = V at s1 s2
  clear hl
  go_enter Tryd.func3, Tryd.ntmps3
  go_wp2_with fail
  refine (z1 _).mono ?_
  rintro e wA ⟨rfl, rfl⟩
  go_wp2_with fail
  refine (cA _ h).mono ?_
  rintro e w1 ⟨rfl, C1, l1, b1⟩
  go_wp2_with fail
  refine (s1 _ _ l1 C1).mono ?_
  rintro e w2 ⟨rfl, b2⟩
  have A2 := (b1.trans (b2.mono b1.size))
  have A2' := A2.alloc A2.size (.cells #[.int .i64 C, .int .i64 V] 25)
  have T1 := Blk.new w2 #[.int .i64 C, .int .i64 V] 25
  clear C1 l1
  go_wp2_with fail
  refine (cA _ (h.later A2')).mono ?_
  rintro e w3 ⟨rfl, C3, l3, b3⟩
  have A3 := A2'.trans (b3.mono A2'.size)
  rw [size_new] at C3 l3
  replace T1 := T1.below b3
  go_wp2_with fail
  refine (s2 _ (hL.later A3) _ l3 C3).mono ?_
  rintro e w4 ⟨rfl, b4⟩
  have A4 := A3.trans (b4.mono A3.size)
  have A4' := A4.alloc A4.size (.cells #[.int .i64 C, .int .i64 V] 25)
  have C4 := (C3.later l3 b4).later (Nat.lt_of_lt_of_le l3 b4.size) ((Below.refl _ _).alloc (Nat.le_refl _) (.cells #[.int .i64 C, .int .i64 V] 25))
  have l4 : w2.heap.size + 1 < (w4.alloc (.cells #[.int .i64 C, .int .i64 V] 25)).heap.size := by
    have := Nat.lt_of_lt_of_le l3 b4.size
    rw [size_new]
    omega
  have T2 := Blk.new w4 #[.int .i64 C, .int .i64 V] 25
  replace T1 := (T1.below b4).alloc (.cells #[.int .i64 C, .int .i64 V] 25)
  have t0 := T1.cell (i := 0) rfl
  have t1 := T1.cell (i := 1) rfl
  have tl := T1.lt
  clear C3 l3
  go_wp2_with fail
  refine (eqIntResult_same C V _).mono ?_
  rintro e w5 ⟨rfl, rfl⟩
  have A5 := (A4'.alloc A4'.size (.cells #[.int .i64 C, .int .i64 V] 25))
  replace A5 := A5.alloc A5.size (.cells #[.int .i64 C, .int .i64 V] 25)
  go_wp2_with fail
  have B5 : Below (w4.alloc (.cells #[.int .i64 C, .int .i64 V] 25)).heap.size (w4.alloc (.cells #[.int .i64 C, .int .i64 V] 25)) (((w4.alloc (.cells #[.int .i64 C, .int .i64 V] 25)).alloc (.cells #[.int .i64 C, .int .i64 V] 25)).alloc (.cells #[.int .i64 C, .int .i64 V] 25)) := ((Below.refl _ _).alloc (Nat.le_refl _) _).alloc (by rw [size_new (w4.alloc _)]; omega) _
  have C5 := C4.later l4 B5
  have l5 := Nat.lt_of_lt_of_le l4 B5.size
  clear t0 t1 tl C4 l4 B5 T1 T2
  generalize ((w4.alloc (.cells #[.int .i64 C, .int .i64 V] 25)).alloc (.cells #[.int .i64 C, .int .i64 V] 25)).alloc (.cells #[.int .i64 C, .int .i64 V] 25) = w5 at A5 C5 l5 ⊢
  refine (cA _ (h.later A5)).mono ?_
  rintro e w6 ⟨rfl, C6, l6, b6⟩
  have A6 := A5.trans (b6.mono A5.size)
  replace C5 := C5.later l5 b6
  replace l5 := Nat.lt_of_lt_of_le l5 b6.size
  go_wp2_with fail
  refine (q1 _ _ _ l5 l6 C5 C6).mono ?_
  rintro e w7 ⟨rfl, b7⟩
  have A7 := A6.trans (b7.mono A6.size)
  go_wp2
  go_ret
  exact ⟨rfl, A7⟩
theorem walk_fnExactSumCommands (a : Option Addr) (m cap : Nat) (l : List K6) (hx : m ≤ maxLen) (hl : l.length = m) (w : World) (h : ArgC w a l) (hL : PcAt w) :
    Calls Tryd.prog 3 #[.slice a m cap] w fun e w' => e = .returned (.bool true) ∧ Below w.heap.size w w' := by
  unfold maxLen at hx
  by_cases h1 : m ≤ 1048576
  · exact exactSum a m cap l hl h1 w h hL
  · have z1 := fun w => sz_c a m cap 1048576 (by omega) (by omega) (by omega) w
    rw [if_neg (by omega)] at z1
    clear h
    go_enter Tryd.func3, Tryd.ntmps3
    go_wp2_with fail
    refine (z1 _).mono ?_
    rintro e wA ⟨rfl, rfl⟩
    go_wp2
    go_ret
    exact ⟨rfl, Below.refl _ _⟩
end Go.Proofs.YtomnadmeolkagaaDoor
