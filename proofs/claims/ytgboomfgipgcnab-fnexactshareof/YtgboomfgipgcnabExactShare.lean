/- The walk of the exact law of ShareOf: its Go text returns true at every two numbers. No condition. -/
import Derived.Test.YtgboomfgipgcnabShareWalks
import Derived.Test.YtgboomfgipgcnabIntLists
namespace Go.Proofs.Ytgboomfgipgcnab
open Go.ChangeShapes Go.WideShapes Go.ChangeAt Go.RowKit
set_option linter.unusedVariables false

theorem below_drewN (B : Nat) (w : World) (n : Nat) : Below B w (w.drewN n) := ⟨rfl, rfl, rfl, Nat.le_refl _, fun _ _ => rfl⟩

theorem grown_transL {a b c : World} {row : Option Nat} (h : a.grownBy b row) (k : b.grownBy c row) : a.grownBy c row :=
  ⟨k.os.trans h.os, k.tape.trans h.tape, k.output.trans h.output, Nat.le_trans h.size k.size, fun i hi hne => (k.block i (Nat.lt_of_lt_of_le hi h.size) hne).trans (h.block i hi hne)⟩

set_option maxHeartbeats 1000000 in
theorem eqIntsResult_same (w : World) (c : Int) (g1 c1 g2 c2 m : Nat) (l : List Int) (hm : l.length = m) (hm2 : m ≤ 1000000) (h1 : Lst w g1 c1 l) (h2 : Lst w g2 c2 l) :
    Calls Try.prog 20 #[.agg #[.int .i64 c, .slice (some ⟨g1, 0, none⟩) m c1], .agg #[.int .i64 c, .slice (some ⟨g2, 0, none⟩) m c2]] w fun e w' => e = .returned (.bool true) ∧ Below w.heap.size w w' := by
  go_enter Try.func20, Try.ntmps20
  go_wp2_with fail
  refine (eqInt64S_same _ g1 c1 g2 c2 m l hm hm2 ((h1.alloc _).alloc _) ((h2.alloc _).alloc _)).mono ?_
  rintro e w' ⟨rfl, nq, rfl⟩
  go_wp2
  go_ret
  exact ⟨rfl, (((Below.refl _ _).alloc (Nat.le_refl _) _).alloc (by simp) _).trans (below_drewN _ _ _)⟩
set_option maxHeartbeats 1000000 in
theorem eqIntsResult_nil (w : World) (c : Int) :
    Calls Try.prog 20 #[.agg #[.int .i64 c, .slice none 0 0], .agg #[.int .i64 c, .slice none 0 0]] w fun e w' => e = .returned (.bool true) ∧ Below w.heap.size w w' := by
  go_enter Try.func20, Try.ntmps20
  go_wp2_with fail
  refine (eqInt64S_nil _).mono ?_
  rintro e w' ⟨rfl, nq, rfl⟩
  go_wp2
  go_ret
  exact ⟨rfl, (((Below.refl _ _).alloc (Nat.le_refl _) _).alloc (by simp) _).trans (below_drewN _ _ _)⟩
theorem markIntsResult_any (w : World) (c : Int) (g cap m : Nat) (k0 : Int) (l : List Int) (hm : l.length = m) (hm2 : m ≤ 1000000) (hk0 : 0 ≤ k0) (hk1 : k0 ≤ 1000000000) (h : Lst w g cap l) :
    Calls Try.prog 21 #[.agg #[.int .i64 c, .slice (some ⟨g, 0, none⟩) m cap], .int .i64 k0] w fun e w' => e = .returned (.int .i64 (k0 + m)) ∧ Lst w' g cap (marks k0 m) ∧ w.grownBy w' (some g) := by
  go_enter Try.func21, Try.ntmps21
  go_wp2_with fail
  refine (markInt64S_any _ g cap m k0 l hm hm2 hk0 hk1 (h.alloc _)).mono ?_
  rintro e w' ⟨rfl, hL, hg⟩
  go_wp2
  go_ret
  exact ⟨rfl, hL, grown_transL (World.grownBy_alloc _ _ _) hg⟩
theorem markIntsResult_nil (w : World) (c : Int) (k0 : Int) :
    Calls Try.prog 21 #[.agg #[.int .i64 c, .slice none 0 0], .int .i64 k0] w fun e w' => e = .returned (.int .i64 k0) ∧ Below w.heap.size w w' := by
  go_enter Try.func21, Try.ntmps21
  go_wp2_with fail
  refine (markInt64S_nil _ k0).mono ?_
  rintro e w' ⟨rfl, rfl⟩
  go_wp2
  go_ret
  exact ⟨rfl, (Below.refl _ _).alloc (Nat.le_refl _) _⟩
theorem heldIntsResult_any (w : World) (c : Int) (g cap m : Nat) (k0 : Int) (hm2 : m ≤ 1000000) (hk0 : 0 ≤ k0) (hk1 : k0 ≤ 1000000000) (h : Lst w g cap (marks k0 m)) :
    Calls Try.prog 22 #[.agg #[.int .i64 c, .slice (some ⟨g, 0, none⟩) m cap], .int .i64 k0] w fun e w' => e = .returned (.int .i64 (k0 + m)) ∧ Below w.heap.size w w' := by
  have hd : decide (k0 + (m : Int) < 0) = false := decide_eq_false (by omega)
  go_enter Try.func22, Try.ntmps22
  go_wp2_with fail
  refine (heldInt64S_any _ g cap m k0 hm2 hk0 hk1 (h.alloc _)).mono ?_
  rintro e w' ⟨rfl, rfl⟩
  go_wp2
  go_ret
  exact ⟨rfl, (Below.refl _ _).alloc (Nat.le_refl _) _⟩
theorem heldIntsResult_nil (w : World) (c : Int) (k0 : Int) (hk0 : 0 ≤ k0) :
    Calls Try.prog 22 #[.agg #[.int .i64 c, .slice none 0 0], .int .i64 k0] w fun e w' => e = .returned (.int .i64 k0) ∧ Below w.heap.size w w' := by
  have hd : decide (k0 < 0) = false := decide_eq_false (by omega)
  go_enter Try.func22, Try.ntmps22
  go_wp2_with fail
  refine (heldInt64S_nil _ k0).mono ?_
  rintro e w' ⟨rfl, rfl⟩
  go_wp2
  go_ret
  exact ⟨rfl, (Below.refl _ _).alloc (Nat.le_refl _) _⟩

/- a block of two cells -/
def Two (w : World) (b : Nat) (t : TypeId) (x y : Value) : Prop := w.heap[b]? = some (.cells #[x, y] t)
theorem Two.lt {w : World} {b : Nat} {t : TypeId} {x y : Value} (h : Two w b t x y) : b < w.heap.size := (Array.getElem?_eq_some_iff.1 h).1
theorem Two.cell0 {w : World} {b : Nat} {t : TypeId} {x y : Value} (h : Two w b t x y) : w.cell? ⟨b, 0, none⟩ = some x := by unfold Two at h; simp [World.cell?, h]
theorem Two.cell1 {w : World} {b : Nat} {t : TypeId} {x y : Value} (h : Two w b t x y) : w.cell? ⟨b, 1, none⟩ = some y := by unfold Two at h; simp [World.cell?, h]
theorem Two.new (w : World) (t : TypeId) (x y : Value) : Two (w.alloc (.cells #[x, y] t)) w.heap.size t x y := heap_alloc_new w _
theorem Two.below {w w' : World} {b : Nat} {t : TypeId} {x y : Value} (h : Two w b t x y) (hb : Below w.heap.size w w') : Two w' b t x y := (hb.block b h.lt).trans h
theorem Two.grown {w w' : World} {b : Nat} {t : TypeId} {x y : Value} {row : Option Nat} (h : Two w b t x y) (hg : w.grownBy w' row) (hne : some b ≠ row) : Two w' b t x y := (hg.block b h.lt hne).trans h
theorem Lst.grown {w w' : World} {g cap : Nat} {l : List Int} {row : Option Nat} (h : Lst w g cap l) (hg : w.grownBy w' row) (hne : some g ≠ row) : Lst w' g cap l := h.of_block (hg.block g h.lt hne)

set_option maxHeartbeats 2000000 in
theorem exactShareOf_yes (n : Int) (q : Nat) (w : World) (hn : 0 ≤ n) (hn2 : n ≤ 1000000) (hp : 1 ≤ q) (hp2 : q ≤ 8) :
    Calls Try.prog 7 #[.int .i64 n, .int .i64 (q : Int)] w fun e w' => e = .returned (.bool true) ∧ Below w.heap.size w w' := by
  have hlen := Nums.shTo_len n q q
  have Hlen : Hid ((Nums.shTo n q q).length = q) := hlen
  clear hlen
  have hneg : decide ((1 : Int) + (q : Int) < 0) = false := decide_eq_false (by omega)
  go_enter Try.func7, Try.ntmps7
  go_wp2_with fail
  refine (specShareOf_yes n q w hn hn2 hp hp2).mono ?_
  rintro e w1 ⟨g1, c1, rfl, hg1, L1, B1⟩
  have hw1 := B1.size
  go_wp2_with fail
  have t1 := Two.new w1 37 (.int .i64 0) (.slice (some ⟨g1, 0, none⟩) q c1)
  replace L1 := L1.alloc (.cells #[.int .i64 0, .slice (some ⟨g1, 0, none⟩) q c1] 37)
  replace B1 := B1.alloc B1.size (.cells #[.int .i64 0, .slice (some ⟨g1, 0, none⟩) q c1] 37)
  refine (implShareOf_yes n q _ hn hn2 hp hp2).mono ?_
  rintro e w2 ⟨g2, c2, rfl, hg2, L2, B2⟩
  replace t1 := t1.below B2
  have hne12 : g1 ≠ g2 := by have := L1.lt; omega
  have hnl2 : w1.heap.size ≠ g2 := by simp at hg2; omega
  replace L1 := L1.below B2
  replace B1 := B1.trans (B2.mono B1.size)
  clear B2
  have k0 := t1.cell0
  have k1 := t1.cell1
  have kl := t1.lt
  go_wp2_with fail
  have t2 := Two.new w2 37 (.int .i64 0) (.slice (some ⟨g2, 0, none⟩) q c2)
  replace t1 := t1.below ((Below.refl _ _).alloc (Nat.le_refl _) (.cells #[.int .i64 0, .slice (some ⟨g2, 0, none⟩) q c2] 37))
  replace L1 := L1.alloc (.cells #[.int .i64 0, .slice (some ⟨g2, 0, none⟩) q c2] 37)
  have hl2 := L2.lt
  replace L2 := L2.alloc (.cells #[.int .i64 0, .slice (some ⟨g2, 0, none⟩) q c2] 37)
  replace B1 := B1.alloc B1.size (.cells #[.int .i64 0, .slice (some ⟨g2, 0, none⟩) q c2] 37)
  refine (eqIntsResult_same _ 0 g2 c2 g1 c1 q _ Hlen.out (by omega) L2 L1).mono ?_
  rintro e w3 ⟨rfl, B3⟩
  replace t1 := t1.below B3
  replace t2 := t2.below B3
  replace L1 := L1.below B3
  replace L2 := L2.below B3
  replace B1 := B1.trans (B3.mono B1.size)
  clear B3 k0 k1
  have k0 := t2.cell0
  have k1 := t2.cell1
  go_wp2_with fail
  refine (markIntsResult_any _ 0 g2 c2 q 1 _ Hlen.out (by omega) (by omega) (by omega) L2).mono ?_
  rintro e w4 ⟨rfl, M2, G4⟩
  replace t1 := t1.grown G4 (by simpa using hnl2)
  replace t2 := t2.grown G4 (by simp; omega)
  replace L1 := L1.grown G4 (by simpa using hne12)
  have hgb : w.heap.size ≤ g2 := by have := hg2; simp at this; omega
  have B4 : Below w.heap.size w w4 := B1.grown G4 B1.size (fun k' hk' => by cases hk'; exact hgb)
  clear G4 L2 k0 k1 B1
  have k0 := t2.cell0
  have k1 := t2.cell1
  go_wp2_with fail
  refine (heldIntsResult_any _ 0 g2 c2 q 1 (by omega) (by omega) (by omega) M2).mono ?_
  rintro e w5 ⟨rfl, B5⟩
  replace t1 := t1.below B5
  replace t2 := t2.below B5
  replace L1 := L1.below B5
  replace M2 := M2.below B5
  replace B4 := B4.trans (B5.mono B4.size)
  clear B5 k0 k1
  go_wp2_with fail
  refine (implShareOf_yes n q _ hn hn2 hp hp2).mono ?_
  rintro e w6 ⟨g3, c3, rfl, hg3, L3, B6⟩
  replace t1 := t1.below B6
  replace t2 := t2.below B6
  replace L1 := L1.below B6
  replace M2 := M2.below B6
  replace B4 := B4.trans (B6.mono B4.size)
  clear B6
  have k0 := t1.cell0
  have k1 := t1.cell1
  have kl1 := t1.lt
  have kl2 := t2.lt
  go_wp2_with fail
  refine (eqIntsResult_same _ 0 g3 c3 g1 c1 q _ Hlen.out (by omega) (L3.alloc (.cells #[.int .i64 0, .slice (some ⟨g3, 0, none⟩) q c3] 37)) (L1.alloc (.cells #[.int .i64 0, .slice (some ⟨g3, 0, none⟩) q c3] 37))).mono ?_
  rintro e w7 ⟨rfl, B7⟩
  replace t2 := (t2.below ((Below.refl _ _).alloc (Nat.le_refl _) (.cells #[.int .i64 0, .slice (some ⟨g3, 0, none⟩) q c3] 37))).below B7
  replace M2 := (M2.alloc (.cells #[.int .i64 0, .slice (some ⟨g3, 0, none⟩) q c3] 37)).below B7
  replace B4 := (B4.alloc B4.size (.cells #[.int .i64 0, .slice (some ⟨g3, 0, none⟩) q c3] 37)).trans (B7.mono (B4.alloc B4.size (.cells #[.int .i64 0, .slice (some ⟨g3, 0, none⟩) q c3] 37)).size)
  clear B7 k0 k1
  have k0 := t2.cell0
  have k1 := t2.cell1
  go_wp2_with fail
  refine (heldIntsResult_any _ 0 g2 c2 q 1 (by omega) (by omega) (by omega) M2).mono ?_
  rintro e w8 ⟨rfl, B8⟩
  go_wp2
  go_ret
  exact ⟨rfl, B4.trans (B8.mono B4.size)⟩

theorem specShareOf_no_b (n p : Int) (w : World) (h : n < 0 ∨ 1000000 < n ∨ p < 1 ∨ 8 < p) :
    Calls Try.prog 18 #[.int .i64 n, .int .i64 p] w fun e w' => e = .returned (.agg #[.int .i64 3, .slice none 0 0]) ∧ Below w.heap.size w w' :=
  (specShareOf_no n p w h).mono fun e w' ⟨h1, h2⟩ => ⟨h1, by rw [h2]; exact (Below.refl _ _).alloc (Nat.le_refl _) _⟩
theorem implShareOf_no_b (n p : Int) (w : World) (h : n < 0 ∨ 1000000 < n ∨ p < 1 ∨ 8 < p) :
    Calls Try.prog 19 #[.int .i64 n, .int .i64 p] w fun e w' => e = .returned (.agg #[.int .i64 3, .slice none 0 0]) ∧ Below w.heap.size w w' :=
  (implShareOf_no n p w h).mono fun e w' ⟨h1, h2⟩ => ⟨h1, by rw [h2]; exact (Below.refl _ _).alloc (Nat.le_refl _) _⟩

set_option maxHeartbeats 2000000 in
theorem exactShareOf_no (n p : Int) (w : World) (h : Hid (n < 0 ∨ 1000000 < n ∨ p < 1 ∨ 8 < p)) :
    Calls Try.prog 7 #[.int .i64 n, .int .i64 p] w fun e w' => e = .returned (.bool true) ∧ Below w.heap.size w w' := by
  go_enter Try.func7, Try.ntmps7
  go_wp2_with fail
  refine (specShareOf_no_b n p w h.out).mono ?_
  rintro e w1 ⟨rfl, B1⟩
  go_wp2_with fail
  have t1 := Two.new w1 37 (.int .i64 3) (.slice none 0 0)
  replace B1 := B1.alloc B1.size (.cells #[.int .i64 3, .slice none 0 0] 37)
  refine (implShareOf_no_b n p _ h.out).mono ?_
  rintro e w2 ⟨rfl, B2⟩
  replace t1 := t1.below B2
  replace B1 := B1.trans (B2.mono B1.size)
  clear B2
  have k0 := t1.cell0
  have k1 := t1.cell1
  have kl := t1.lt
  go_wp2_with fail
  have t2 := Two.new w2 37 (.int .i64 3) (.slice none 0 0)
  replace t1 := t1.below ((Below.refl _ _).alloc (Nat.le_refl _) (.cells #[.int .i64 3, .slice none 0 0] 37))
  replace B1 := B1.alloc B1.size (.cells #[.int .i64 3, .slice none 0 0] 37)
  refine (eqIntsResult_nil _ 3).mono ?_
  rintro e w3 ⟨rfl, B3⟩
  replace t1 := t1.below B3
  replace t2 := t2.below B3
  replace B1 := B1.trans (B3.mono B1.size)
  clear B3 k0 k1
  have k0 := t2.cell0
  have k1 := t2.cell1
  go_wp2_with fail
  refine (markIntsResult_nil _ 3 1).mono ?_
  rintro e w4 ⟨rfl, B4⟩
  replace t1 := t1.below B4
  replace t2 := t2.below B4
  replace B1 := B1.trans (B4.mono B1.size)
  clear B4 k0 k1
  have k0 := t2.cell0
  have k1 := t2.cell1
  go_wp2_with fail
  refine (heldIntsResult_nil _ 3 1 (by omega)).mono ?_
  rintro e w5 ⟨rfl, B5⟩
  replace t1 := t1.below B5
  replace t2 := t2.below B5
  replace B1 := B1.trans (B5.mono B1.size)
  clear B5 k0 k1
  go_wp2_with fail
  refine (implShareOf_no_b n p _ h.out).mono ?_
  rintro e w6 ⟨rfl, B6⟩
  replace t1 := t1.below B6
  replace t2 := t2.below B6
  replace B1 := B1.trans (B6.mono B1.size)
  clear B6
  have k0 := t1.cell0
  have k1 := t1.cell1
  have kl1 := t1.lt
  have kl2 := t2.lt
  go_wp2_with fail
  refine (eqIntsResult_nil _ 3).mono ?_
  rintro e w7 ⟨rfl, B7⟩
  replace t2 := (t2.below ((Below.refl _ _).alloc (Nat.le_refl _) (.cells #[.int .i64 3, .slice none 0 0] 37))).below B7
  replace B1 := (B1.alloc B1.size (.cells #[.int .i64 3, .slice none 0 0] 37)).trans (B7.mono (B1.alloc B1.size (.cells #[.int .i64 3, .slice none 0 0] 37)).size)
  clear B7 k0 k1
  have k0 := t2.cell0
  have k1 := t2.cell1
  go_wp2_with fail
  refine (heldIntsResult_nil _ 3 1 (by omega)).mono ?_
  rintro e w8 ⟨rfl, B8⟩
  go_wp2
  go_ret
  exact ⟨rfl, B1.trans (B8.mono B1.size)⟩

theorem walk_fnExactShareOf (a0 a1 : Int) (w0 : (Lit.int .i64 a0).wf = true) (w1 : (Lit.int .i64 a1).wf = true) (w : World) :
    Calls Try.prog 7 #[.int .i64 a0, .int .i64 a1] w fun e w' => e = .returned (.bool true) ∧ Below w.heap.size w w' := by
  by_cases h : a0 < 0 ∨ 1000000 < a0 ∨ a1 < 1 ∨ 8 < a1
  · exact exactShareOf_no a0 a1 w h
  · obtain ⟨q, rfl⟩ := Int.eq_ofNat_of_zero_le (show 0 ≤ a1 by omega)
    exact exactShareOf_yes a0 q w (by omega) (by omega) (by omega) (by omega)
end Go.Proofs.Ytgboomfgipgcnab
