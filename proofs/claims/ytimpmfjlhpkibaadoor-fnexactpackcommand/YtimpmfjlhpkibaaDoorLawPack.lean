/- The walk of the exact law of PackCommand. Condition: the table of counts holds what its initialiser lays. -/
import Derived.Test.YtimpmfjlhpkibaaDoorByteEq
import Derived.Test.YtimpmfjlhpkibaaDoorCmdLaws
namespace Go.Proofs.YtimpmfjlhpkibaaDoor
open Go.ChangeShapes Go.WideShapes Go.ChangeAt Go.RowKit
open Cm
set_option linter.unusedVariables false

/- what a law that took a command carries: what was there is as it was, and the command's own block -/
structure Car (w W : World) (x0 x1 x2 x3 x4 x5 : Int) : Prop where
  bel : Below w.heap.size w W
  box : Blk W w.heap.size (cmdV x0 x1 x2 x3 x4 x5) 44
theorem Car.later {w W W' : World} {x0 x1 x2 x3 x4 x5 : Int} (h : Car w W x0 x1 x2 x3 x4 x5) (hb : Below W.heap.size W W') : Car w W' x0 x1 x2 x3 x4 x5 :=
  ⟨h.bel.trans (hb.mono h.bel.size), h.box.below hb⟩
theorem Car.alloc {w W : World} {x0 x1 x2 x3 x4 x5 : Int} (h : Car w W x0 x1 x2 x3 x4 x5) (o : Obj) : Car w (W.alloc o) x0 x1 x2 x3 x4 x5 := h.later ((Below.refl _ _).alloc (Nat.le_refl _) o)
theorem Car.grown {w W W' : World} {x0 x1 x2 x3 x4 x5 : Int} {g : Nat} (h : Car w W x0 x1 x2 x3 x4 x5) (hg : W.grownBy W' (some g)) (hw : w.heap.size < g) : Car w W' x0 x1 x2 x3 x4 x5 :=
  ⟨h.bel.grown hg h.bel.size (fun k hk => by cases hk; omega), h.box.grown hg (by simp; omega)⟩
theorem Car.first (w : World) (x0 x1 x2 x3 x4 x5 : Int) : Car w (w.alloc (.cells (cmdV x0 x1 x2 x3 x4 x5) 44)) x0 x1 x2 x3 x4 x5 :=
  ⟨(Below.refl _ _).alloc (Nat.le_refl _) _, Blk.new _ _ _⟩

set_option maxHeartbeats 4000000 in
theorem exactPack_yes (x0 x1 x2 x3 x4 x5 : Int) (hf : flt x0 x1 x2 x3 x4 x5 = 0) (w : World) (hL : PcAt w) :
    Calls Tryd.prog 5 #[.agg #[.int .i64 x0, .int .i64 x1, .int .i64 x2, .int .i64 x3, .int .i64 x4, .int .i64 x5]] w fun e w' => e = .returned (.bool true) ∧ Below w.heap.size w w' := by
  have c0 := fun w => toCommand_c x0 x1 x2 x3 x4 x5 w
  have c1 := fun w => specPack_yes x0 x1 x2 x3 x4 x5 hf w
  have c2 := fun w hL => implPack_yes x0 x1 x2 x3 x4 x5 hf w hL
  have hpl := pc_le x2
  obtain ⟨m, hm⟩ : ∃ m, m = 6 + 3 * pc x2 := ⟨_, rfl⟩
  rw [← hm] at c1 c2
  have hm2 : m ≤ 100 := by omega
  generalize pk x0 x1 x2 x3 x4 x5 = L at c1 c2
  have hneg : decide ((1 : Int) + (m : Int) < 0) = false := decide_eq_false (by omega)
  clear hf hm hpl
  have K0 := Car.first w x0 x1 x2 x3 x4 x5
  go_enter Tryd.func5, Tryd.ntmps5
  go_wp2_with fail
  refine (c0 _).mono ?_
  rintro e w1 ⟨rfl, b1⟩
  have K1 := K0.later b1
  clear K0
  go_wp2_with fail
  refine (c1 _).mono ?_
  rintro e w2 ⟨g1, d1, rfl, O1, b2⟩
  have K2 := (K1.later b2).alloc (.cells #[.int .i64 0, .slice (some ⟨g1, 0, none⟩) m d1] 32)
  have T1 := Blk.new w2 #[.int .i64 0, .slice (some ⟨g1, 0, none⟩) m d1] 32
  replace O1 := O1.alloc (.cells #[.int .i64 0, .slice (some ⟨g1, 0, none⟩) m d1] 32)
  have hw0 := K1.box.lt
  have hw2 := b2.size
  obtain ⟨q0, q1, q2, q3, q4, q5, ql⟩ := ((K1.later b2).box).cmd
  clear K1
  go_wp2_with fail
  refine (c0 _).mono ?_
  rintro e w3 ⟨rfl, b3⟩
  have K3 := K2.later b3
  replace T1 := T1.below b3
  replace O1 := O1.below b3
  have hw3 := b3.size
  clear q0 q1 q2 q3 q4 q5 ql K2
  go_wp2_with fail
  refine (c2 _ (hL.later K3.bel)).mono ?_
  rintro e w4 ⟨g2, d2, rfl, O2, b4⟩
  have hg2 := O2.lt.1
  have hg1 := O1.lt.2
  have K4 := (K3.later b4).alloc (.cells #[.int .i64 0, .slice (some ⟨g2, 0, none⟩) m d2] 32)
  have T2 := Blk.new w4 #[.int .i64 0, .slice (some ⟨g2, 0, none⟩) m d2] 32
  have hT1 := T1.lt
  replace T1 := (T1.below b4)
  have t0 := T1.cell (i := 0) rfl
  have t1 := T1.cell (i := 1) rfl
  have tl := T1.lt
  replace T1 := T1.alloc (.cells #[.int .i64 0, .slice (some ⟨g2, 0, none⟩) m d2] 32)
  replace O1 := (O1.below b4).alloc (.cells #[.int .i64 0, .slice (some ⟨g2, 0, none⟩) m d2] 32)
  have hg2' := O2.lt.2
  replace O2 := O2.alloc (.cells #[.int .i64 0, .slice (some ⟨g2, 0, none⟩) m d2] 32)
  have hx : w.heap.size < g2 := by have := K3.box.lt; omega
  have hy : w2.heap.size < g2 := by rw [size_new] at hw3; omega
  have hz : g1 ≠ g2 := by omega
  have hT : w4.heap.size ≠ g2 := by omega
  clear K3
  go_wp2_with fail
  refine (eqBytesResult_same _ _ _ g2 d2 g1 d1 m L (by omega) O2 O1).mono ?_
  rintro e w5 ⟨rfl, b5⟩
  have K5 := K4.later b5
  replace T1 := T1.below b5
  replace T2 := T2.below b5
  replace O1 := O1.below b5
  replace O2 := O2.below b5
  clear t0 t1 tl K4
  have t0 := T2.cell (i := 0) rfl
  have t1 := T2.cell (i := 1) rfl
  go_wp2_with fail
  refine (markBytesResult_any _ 0 _ g2 d2 m 1 L (by omega) (by omega) (by omega) O2).mono ?_
  rintro e w6 ⟨rfl, M2, G6⟩
  have K6 := K5.grown G6 hx
  replace T1 := T1.grown G6 (by simp; omega)
  replace T2 := T2.grown G6 (by simpa using hT)
  replace O1 := O1.grown G6 (by simpa using hz)
  clear t0 t1 K5 O2 G6
  have t0 := T2.cell (i := 0) rfl
  have t1 := T2.cell (i := 1) rfl
  go_wp2_with fail
  refine (heldBytesResult_any _ 0 _ g2 d2 m 1 (by omega) (by omega) (by omega) M2).mono ?_
  rintro e w7 ⟨rfl, b7⟩
  have K7 := K6.later b7
  replace T1 := T1.below b7
  replace T2 := T2.below b7
  replace O1 := O1.below b7
  replace M2 := M2.below b7
  clear t0 t1 K6
  obtain ⟨q0, q1, q2, q3, q4, q5, ql⟩ := K7.box.cmd
  go_wp2_with fail
  refine (c0 _).mono ?_
  rintro e w8 ⟨rfl, b8⟩
  have K8 := K7.later b8
  replace T1 := T1.below b8
  replace T2 := T2.below b8
  replace O1 := O1.below b8
  replace M2 := M2.below b8
  clear q0 q1 q2 q3 q4 q5 ql K7
  go_wp2_with fail
  refine (c2 _ (hL.later K8.bel)).mono ?_
  rintro e w9 ⟨g3, d3, rfl, O3, b9⟩
  have K9 := (K8.later b9).alloc (.cells #[.int .i64 0, .slice (some ⟨g3, 0, none⟩) m d3] 32)
  replace T1 := T1.below b9
  have t0 := T1.cell (i := 0) rfl
  have t1 := T1.cell (i := 1) rfl
  have tl := T1.lt
  replace T2 := (T2.below b9)
  have tl2 := T2.lt
  replace T2 := T2.alloc (.cells #[.int .i64 0, .slice (some ⟨g3, 0, none⟩) m d3] 32)
  replace O1 := (O1.below b9).alloc (.cells #[.int .i64 0, .slice (some ⟨g3, 0, none⟩) m d3] 32)
  replace M2 := (M2.below b9).alloc (.cells #[.int .i64 0, .slice (some ⟨g3, 0, none⟩) m d3] 32)
  replace O3 := O3.alloc (.cells #[.int .i64 0, .slice (some ⟨g3, 0, none⟩) m d3] 32)
  clear K8 T1
  go_wp2_with fail
  refine (eqBytesResult_same _ _ _ g3 d3 g1 d1 m L (by omega) O3 O1).mono ?_
  rintro e w10 ⟨rfl, b10⟩
  have K10 := K9.later b10
  replace T2 := T2.below b10
  replace M2 := M2.below b10
  clear t0 t1 tl tl2 K9 O3 O1
  have t0 := T2.cell (i := 0) rfl
  have t1 := T2.cell (i := 1) rfl
  go_wp2_with fail
  refine (heldBytesResult_any _ 0 _ g2 d2 m 1 (by omega) (by omega) (by omega) M2).mono ?_
  rintro e w11 ⟨rfl, b11⟩
  have K11 := K10.later b11
  go_wp2
  go_ret
  exact ⟨rfl, K11.bel⟩

set_option maxHeartbeats 4000000 in
theorem exactPack_no (x0 x1 x2 x3 x4 x5 : Int) (hf : (flt x0 x1 x2 x3 x4 x5 != 0) = true) (w : World) (hL : PcAt w) :
    Calls Tryd.prog 5 #[.agg #[.int .i64 x0, .int .i64 x1, .int .i64 x2, .int .i64 x3, .int .i64 x4, .int .i64 x5]] w fun e w' => e = .returned (.bool true) ∧ Below w.heap.size w w' := by
  have c0 := fun w => toCommand_c x0 x1 x2 x3 x4 x5 w
  have c1 := fun w => specPack_no x0 x1 x2 x3 x4 x5 hf w
  have c2 := fun w hL => implPack_no x0 x1 x2 x3 x4 x5 hf w hL
  generalize flt x0 x1 x2 x3 x4 x5 = C at c1 c2
  clear hf
  have K0 := Car.first w x0 x1 x2 x3 x4 x5
  go_enter Tryd.func5, Tryd.ntmps5
  go_wp2_with fail
  refine (c0 _).mono ?_
  rintro e w1 ⟨rfl, b1⟩
  have K1 := K0.later b1
  clear K0
  go_wp2_with fail
  refine (c1 _).mono ?_
  rintro e w2 ⟨rfl, b2⟩
  have K2 := (K1.later b2).alloc (.cells #[.int .i64 C, .slice none 0 0] 32)
  have T1 := Blk.new w2 #[.int .i64 C, .slice none 0 0] 32
  obtain ⟨q0, q1, q2, q3, q4, q5, ql⟩ := ((K1.later b2).box).cmd
  clear K1
  go_wp2_with fail
  refine (c0 _).mono ?_
  rintro e w3 ⟨rfl, b3⟩
  have K3 := K2.later b3
  replace T1 := T1.below b3
  clear q0 q1 q2 q3 q4 q5 ql K2
  go_wp2_with fail
  refine (c2 _ (hL.later K3.bel)).mono ?_
  rintro e w4 ⟨rfl, b4⟩
  have K4 := (K3.later b4).alloc (.cells #[.int .i64 C, .slice none 0 0] 32)
  have T2 := Blk.new w4 #[.int .i64 C, .slice none 0 0] 32
  replace T1 := (T1.below b4)
  have t0 := T1.cell (i := 0) rfl
  have t1 := T1.cell (i := 1) rfl
  have tl := T1.lt
  replace T1 := T1.alloc (.cells #[.int .i64 C, .slice none 0 0] 32)
  clear K3
  go_wp2_with fail
  refine (eqBytesResult_nil _ C).mono ?_
  rintro e w5 ⟨rfl, b5⟩
  have K5 := K4.later b5
  replace T1 := T1.below b5
  replace T2 := T2.below b5
  clear t0 t1 tl K4
  have t0 := T2.cell (i := 0) rfl
  have t1 := T2.cell (i := 1) rfl
  go_wp2_with fail
  refine (markBytesResult_nil _ C 1).mono ?_
  rintro e w6 ⟨rfl, b6⟩
  have K6 := K5.later b6
  replace T1 := T1.below b6
  replace T2 := T2.below b6
  clear t0 t1 K5
  have t0 := T2.cell (i := 0) rfl
  have t1 := T2.cell (i := 1) rfl
  go_wp2_with fail
  refine (heldBytesResult_nil _ C 1 (by omega)).mono ?_
  rintro e w7 ⟨rfl, b7⟩
  have K7 := K6.later b7
  replace T1 := T1.below b7
  replace T2 := T2.below b7
  clear t0 t1 K6
  obtain ⟨q0, q1, q2, q3, q4, q5, ql⟩ := K7.box.cmd
  go_wp2_with fail
  refine (c0 _).mono ?_
  rintro e w8 ⟨rfl, b8⟩
  have K8 := K7.later b8
  replace T1 := T1.below b8
  replace T2 := T2.below b8
  clear q0 q1 q2 q3 q4 q5 ql K7
  go_wp2_with fail
  refine (c2 _ (hL.later K8.bel)).mono ?_
  rintro e w9 ⟨rfl, b9⟩
  have K9 := (K8.later b9).alloc (.cells #[.int .i64 C, .slice none 0 0] 32)
  replace T1 := T1.below b9
  have t0 := T1.cell (i := 0) rfl
  have t1 := T1.cell (i := 1) rfl
  have tl := T1.lt
  replace T2 := (T2.below b9)
  have tl2 := T2.lt
  replace T2 := T2.alloc (.cells #[.int .i64 C, .slice none 0 0] 32)
  clear K8 T1
  go_wp2_with fail
  refine (eqBytesResult_nil _ C).mono ?_
  rintro e w10 ⟨rfl, b10⟩
  have K10 := K9.later b10
  replace T2 := T2.below b10
  clear t0 t1 tl tl2 K9
  have t0 := T2.cell (i := 0) rfl
  have t1 := T2.cell (i := 1) rfl
  go_wp2_with fail
  refine (heldBytesResult_nil _ C 1 (by omega)).mono ?_
  rintro e w11 ⟨rfl, b11⟩
  have K11 := K10.later b11
  go_wp2
  go_ret
  exact ⟨rfl, K11.bel⟩

theorem walk_fnExactPackCommand (x0 x1 x2 x3 x4 x5 : Int) (f0 : (Lit.int .i64 x0).wf = true) (f1 : (Lit.int .i64 x1).wf = true) (f2 : (Lit.int .i64 x2).wf = true) (f3 : (Lit.int .i64 x3).wf = true) (f4 : (Lit.int .i64 x4).wf = true) (f5 : (Lit.int .i64 x5).wf = true) (w : World) (hL : PcAt w) :
    Calls Tryd.prog 5 #[.agg #[.int .i64 x0, .int .i64 x1, .int .i64 x2, .int .i64 x3, .int .i64 x4, .int .i64 x5]] w fun e w' => e = .returned (.bool true) ∧ Below w.heap.size w w' := by
  cases h : (flt x0 x1 x2 x3 x4 x5 != 0)
  · exact exactPack_yes x0 x1 x2 x3 x4 x5 (by simpa using h) w hL
  · exact exactPack_no x0 x1 x2 x3 x4 x5 h w hL
end Go.Proofs.YtimpmfjlhpkibaaDoor
