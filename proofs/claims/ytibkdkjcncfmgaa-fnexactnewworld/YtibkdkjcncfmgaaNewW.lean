/- NewWorld and its model: contracts; what the exact law asks of it; the law's walk. No condition. -/
import Derived.Test.YtibkdkjcncfmgaaWorldRows
namespace Go.Proofs.Ytibkdkjcncfmgaa
open Go.ChangeShapes Go.WideShapes Go.ChangeAt Go.RowKit
set_option linter.unusedVariables false

abbrev w7 (g : Nat) : Array Value := #[.int .i64 0, .int .i64 0, .slice none 0 0, .slice none 0 0, .slice (some ⟨g, 0, none⟩) 4 4, .slice none 0 0, .slice none 0 0]
abbrev r8 (g : Nat) : Array Value := #[.int .i64 0, .int .i64 0, .int .i64 0, .slice none 0 0, .slice none 0 0, .slice (some ⟨g, 0, none⟩) 4 4, .slice none 0 0, .slice none 0 0]
abbrev F0 : Array Value := #[.int .i64 0, .bool false, .int .i64 0, .int .i64 0, .bool false, .int .i64 0, .int .i64 0, .bool false, .int .i64 0, .int .i64 0, .bool false, .int .i64 0]
abbrev F4 : Array Value := #[.int .i64 1, .bool false, .int .i64 3, .int .i64 4, .bool false, .int .i64 6, .int .i64 7, .bool false, .int .i64 9, .int .i64 10, .bool false, .int .i64 12]
theorem made12 : madeCells KA.z.v 12 = F0 := by kernel_rfl
theorem mk4 (W : World) : (Instr.makeSlice 67 (.int .i64 4) (.int .i64 4)).run Try.prog W = .ok (.slice (some ⟨W.heap.size, 0, none⟩) 4 4) (W.alloc (.cells F0 148)) := by
  have h := makeA 4 (by omega) W
  rw [show 4 * 3 = 12 from rfl, made12] at h
  exact h
theorem eqUnitN (w : World) : Calls Try.prog 84 #[.slice none 0 0, .slice none 0 0] w fun e w' => e = .returned (.bool true) ∧ w' = w := by
  go_enter Try.func84, Try.ntmps84
  go_wp2
  go_loopw [5] (fun i wr => i = .int .i64 0 ∧ wr = w) (fun _ _ => 0)
  case atStart => exact ⟨rfl, rfl⟩
  case round =>
    obtain ⟨rfl, rfl⟩ := hrel
    go_wp2
    go_ret
    exact ⟨rfl, rfl⟩
theorem markUnitN (k : Int) (w : World) : Calls Try.prog 165 #[.slice none 0 0, .int .i64 k] w fun e w' => e = .returned (.int .i64 k) ∧ w' = w := by
  go_enter Try.func165, Try.ntmps165
  go_wp2
  go_loopw [1, 5] (fun kk i wr => kk = .int .i64 k ∧ i = .int .i64 0 ∧ wr = w) (fun _ _ _ => 0)
  case atStart => exact ⟨rfl, rfl, rfl⟩
  case round =>
    obtain ⟨rfl, rfl, rfl⟩ := hrel
    go_wp2
    go_ret
    exact ⟨rfl, rfl⟩
theorem heldUnitN (k : Int) (w : World) : Calls Try.prog 167 #[.slice none 0 0, .int .i64 k] w fun e w' => e = .returned (.int .i64 k) ∧ w' = w := by
  go_enter Try.func167, Try.ntmps167
  go_wp2
  go_loopw [1, 5] (fun kk i wr => kk = .int .i64 k ∧ i = .int .i64 0 ∧ wr = w) (fun _ _ _ => 0)
  case atStart => exact ⟨rfl, rfl, rfl⟩
  case round =>
    obtain ⟨rfl, rfl, rfl⟩ := hrel
    go_wp2
    go_ret
    exact ⟨rfl, rfl⟩
theorem eqFieldN (w : World) : Calls Try.prog 85 #[.slice none 0 0, .slice none 0 0] w fun e w' => e = .returned (.bool true) ∧ w' = w := by
  go_enter Try.func85, Try.ntmps85
  go_wp2
  go_loopw [5] (fun i wr => i = .int .i64 0 ∧ wr = w) (fun _ _ => 0)
  case atStart => exact ⟨rfl, rfl⟩
  case round =>
    obtain ⟨rfl, rfl⟩ := hrel
    go_wp2
    go_ret
    exact ⟨rfl, rfl⟩
theorem markFieldN (k : Int) (w : World) : Calls Try.prog 166 #[.slice none 0 0, .int .i64 k] w fun e w' => e = .returned (.int .i64 k) ∧ w' = w := by
  go_enter Try.func166, Try.ntmps166
  go_wp2
  go_loopw [1, 5] (fun kk i wr => kk = .int .i64 k ∧ i = .int .i64 0 ∧ wr = w) (fun _ _ _ => 0)
  case atStart => exact ⟨rfl, rfl, rfl⟩
  case round =>
    obtain ⟨rfl, rfl, rfl⟩ := hrel
    go_wp2
    go_ret
    exact ⟨rfl, rfl⟩
theorem heldFieldN (k : Int) (w : World) : Calls Try.prog 168 #[.slice none 0 0, .int .i64 k] w fun e w' => e = .returned (.int .i64 k) ∧ w' = w := by
  go_enter Try.func168, Try.ntmps168
  go_wp2
  go_loopw [1, 5] (fun kk i wr => kk = .int .i64 k ∧ i = .int .i64 0 ∧ wr = w) (fun _ _ _ => 0)
  case atStart => exact ⟨rfl, rfl, rfl⟩
  case round =>
    obtain ⟨rfl, rfl, rfl⟩ := hrel
    go_wp2
    go_ret
    exact ⟨rfl, rfl⟩
theorem eqSeatN (w : World) : Calls Try.prog 100 #[.slice none 0 0, .slice none 0 0] w fun e w' => e = .returned (.bool true) ∧ w' = w := by
  go_enter Try.func100, Try.ntmps100
  go_wp2
  go_loopw [5] (fun i wr => i = .int .i64 0 ∧ wr = w) (fun _ _ => 0)
  case atStart => exact ⟨rfl, rfl⟩
  case round =>
    obtain ⟨rfl, rfl⟩ := hrel
    go_wp2
    go_ret
    exact ⟨rfl, rfl⟩
theorem markSeatN (k : Int) (w : World) : Calls Try.prog 143 #[.slice none 0 0, .int .i64 k] w fun e w' => e = .returned (.int .i64 k) ∧ w' = w := by
  go_enter Try.func143, Try.ntmps143
  go_wp2
  go_loopw [1, 5] (fun kk i wr => kk = .int .i64 k ∧ i = .int .i64 0 ∧ wr = w) (fun _ _ _ => 0)
  case atStart => exact ⟨rfl, rfl, rfl⟩
  case round =>
    obtain ⟨rfl, rfl, rfl⟩ := hrel
    go_wp2
    go_ret
    exact ⟨rfl, rfl⟩
theorem heldSeatN (k : Int) (w : World) : Calls Try.prog 147 #[.slice none 0 0, .int .i64 k] w fun e w' => e = .returned (.int .i64 k) ∧ w' = w := by
  go_enter Try.func147, Try.ntmps147
  go_wp2
  go_loopw [1, 5] (fun kk i wr => kk = .int .i64 k ∧ i = .int .i64 0 ∧ wr = w) (fun _ _ _ => 0)
  case atStart => exact ⟨rfl, rfl, rfl⟩
  case round =>
    obtain ⟨rfl, rfl, rfl⟩ := hrel
    go_wp2
    go_ret
    exact ⟨rfl, rfl⟩
theorem eqOfferN (w : World) : Calls Try.prog 101 #[.slice none 0 0, .slice none 0 0] w fun e w' => e = .returned (.bool true) ∧ w' = w := by
  go_enter Try.func101, Try.ntmps101
  go_wp2
  go_loopw [5] (fun i wr => i = .int .i64 0 ∧ wr = w) (fun _ _ => 0)
  case atStart => exact ⟨rfl, rfl⟩
  case round =>
    obtain ⟨rfl, rfl⟩ := hrel
    go_wp2
    go_ret
    exact ⟨rfl, rfl⟩
theorem markOfferN (k : Int) (w : World) : Calls Try.prog 144 #[.slice none 0 0, .int .i64 k] w fun e w' => e = .returned (.int .i64 k) ∧ w' = w := by
  go_enter Try.func144, Try.ntmps144
  go_wp2
  go_loopw [1, 5] (fun kk i wr => kk = .int .i64 k ∧ i = .int .i64 0 ∧ wr = w) (fun _ _ _ => 0)
  case atStart => exact ⟨rfl, rfl, rfl⟩
  case round =>
    obtain ⟨rfl, rfl, rfl⟩ := hrel
    go_wp2
    go_ret
    exact ⟨rfl, rfl⟩
theorem heldOfferN (k : Int) (w : World) : Calls Try.prog 148 #[.slice none 0 0, .int .i64 k] w fun e w' => e = .returned (.int .i64 k) ∧ w' = w := by
  go_enter Try.func148, Try.ntmps148
  go_wp2
  go_loopw [1, 5] (fun kk i wr => kk = .int .i64 k ∧ i = .int .i64 0 ∧ wr = w) (fun _ _ _ => 0)
  case atStart => exact ⟨rfl, rfl, rfl⟩
  case round =>
    obtain ⟨rfl, rfl, rfl⟩ := hrel
    go_wp2
    go_ret
    exact ⟨rfl, rfl⟩
theorem eqBoardN (w : World) : Calls Try.prog 33 #[.agg #[.slice none 0 0, .slice none 0 0], .agg #[.slice none 0 0, .slice none 0 0]] w fun e w' => e = .returned (.bool true) ∧ Below w.heap.size w w' := by
  go_enter Try.func33, Try.ntmps33
  go_wp2_with (first | (go_at_call 84; refine (eqUnitN _).mono ?_; rintro e w1 ⟨rfl, rfl⟩) | (go_at_call 85; refine (eqFieldN _).mono ?_; rintro e w1 ⟨rfl, rfl⟩))
  go_ret
  exact ⟨rfl, ((Below.refl _ _).alloc (Nat.le_refl _) _).alloc (by rw [size_new]; omega) _⟩
theorem markBoardN (k : Int) (h0 : 0 ≤ k) (w : World) : Calls Try.prog 141 #[.agg #[.slice none 0 0, .slice none 0 0], .int .i64 k] w fun e w' => e = .returned (.int .i64 k) ∧ Below w.heap.size w w' := by
  have d : decide (k < 0) = false := decide_eq_false (by omega)
  go_enter Try.func141, Try.ntmps141
  go_wp2_with (first | (go_at_call 165; refine (markUnitN _ _).mono ?_; rintro e w1 ⟨rfl, rfl⟩) | (go_at_call 166; refine (markFieldN _ _).mono ?_; rintro e w1 ⟨rfl, rfl⟩))
  go_ret
  exact ⟨rfl, (Below.refl _ _).alloc (Nat.le_refl _) _⟩
theorem heldBoardN (k : Int) (h0 : 0 ≤ k) (w : World) : Calls Try.prog 145 #[.agg #[.slice none 0 0, .slice none 0 0], .int .i64 k] w fun e w' => e = .returned (.int .i64 k) ∧ Below w.heap.size w w' := by
  have d : decide (k < 0) = false := decide_eq_false (by omega)
  go_enter Try.func145, Try.ntmps145
  go_wp2_with (first | (go_at_call 167; refine (heldUnitN _ _).mono ?_; rintro e w1 ⟨rfl, rfl⟩) | (go_at_call 168; refine (heldFieldN _ _).mono ?_; rintro e w1 ⟨rfl, rfl⟩))
  go_ret
  exact ⟨rfl, (Below.refl _ _).alloc (Nat.le_refl _) _⟩
def z4A : List KA := [KA.z, KA.z, KA.z, KA.z]
theorem Bk.z4 {w : World} {g : Nat} (h : Bk w g F0 148) : AAt w g 0 z4A := by
  intro i x hi f hf
  have hi4 : i < 4 := by simpa [z4A] using (List.getElem?_eq_some_iff.1 hi).1
  have h4 : i = 0 ∨ i = 1 ∨ i = 2 ∨ i = 3 := by omega
  have h3 : f = 0 ∨ f = 1 ∨ f = 2 := by omega
  rcases h4 with rfl | rfl | rfl | rfl <;> rcases h3 with rfl | rfl | rfl <;> (cases hi; exact h.cell rfl)
theorem eqFactionN {w : World} {g1 g2 : Nat} (h1 : Bk w g1 F0 148) (h2 : Bk w g2 F0 148) : Calls Try.prog 99 #[.slice (some ⟨g1, 0, none⟩) 4 4, .slice (some ⟨g2, 0, none⟩) 4 4] w fun e w' => e = .returned (.bool true) ∧ Below w.heap.size w w' :=
  eqFactionS_same w g1 0 g2 0 4 4 4 z4A rfl (by omega) h1.lt h2.lt h1.z4 h2.z4
/- but for one block nothing turns -/
structure But (g : Nat) (w w' : World) : Prop where
  os : w'.os = w.os
  tape : w'.tape = w.tape
  output : w'.output = w.output
  size : w.heap.size ≤ w'.heap.size
  block : ∀ i, i < w.heap.size → i ≠ g → w'.heap[i]? = w.heap[i]?
theorem But.refl (g : Nat) (w : World) : But g w w := ⟨rfl, rfl, rfl, Nat.le_refl _, fun _ _ _ => rfl⟩
theorem But.set {g : Nat} {w w' : World} (h : But g w w') (o : Nat) (v : Value) : But g w (w'.setCell ⟨g, o, none⟩ v) :=
  ⟨h.os, h.tape, h.output, by simpa [World.setCell] using h.size, fun i hi hn => by rw [Below.heap_setCell _ ⟨g, o, none⟩ v i hn]; exact h.block i hi hn⟩
theorem But.of {g : Nat} {w w' : World} (h : Below w.heap.size w w') : But g w w' := ⟨h.os, h.tape, h.output, h.size, fun i hi _ => h.block i hi⟩
theorem But.trans {g : Nat} {a b c : World} (h : But g a b) (k : But g b c) : But g a c :=
  ⟨k.os.trans h.os, k.tape.trans h.tape, k.output.trans h.output, Nat.le_trans h.size k.size, fun i hi hn => (k.block i (Nat.lt_of_lt_of_le hi h.size) hn).trans (h.block i hi hn)⟩
theorem But.bk {g b : Nat} {w w' : World} {cs : Array Value} {t : TypeId} (k : But g w w') (h : Bk w b cs t) (hn : b ≠ g) : Bk w' b cs t := by
  unfold Bk; rw [k.block b h.lt hn]; exact h
theorem But.bel {g n : Nat} {W w w' : World} (k : But g w w') (h : Below n W w) (hn : n ≤ W.heap.size) (hg : n ≤ g) : Below n W w' :=
  ⟨k.os.trans h.os, k.tape.trans h.tape, k.output.trans h.output, Nat.le_trans h.size k.size, fun i hi => (k.block i (Nat.lt_of_lt_of_le hi (Nat.le_trans hn h.size)) (by omega)).trans (h.block i hi)⟩
set_option maxHeartbeats 2000000 in
theorem markFactionN (g : Nat) (w : World) (h : Bk w g F0 148) : Calls Try.prog 142 #[.slice (some ⟨g, 0, none⟩) 4 4, .int .i64 1] w fun e w' => e = .returned (.int .i64 13) ∧ Bk w' g F4 148 ∧ But g w w' := by
  have H : Hid (Bk w g F0 148) := h
  clear h
  go_enter Try.func142, Try.ntmps142
  go_wp2
  go_loopw [1, 5] (fun kk i wr => But g w wr ∧ ((kk = .int .i64 1 ∧ i = .int .i64 0 ∧ Bk wr g #[.int .i64 0, .bool false, .int .i64 0, .int .i64 0, .bool false, .int .i64 0, .int .i64 0, .bool false, .int .i64 0, .int .i64 0, .bool false, .int .i64 0] 148) ∨ (kk = .int .i64 4 ∧ i = .int .i64 1 ∧ Bk wr g #[.int .i64 1, .bool false, .int .i64 3, .int .i64 0, .bool false, .int .i64 0, .int .i64 0, .bool false, .int .i64 0, .int .i64 0, .bool false, .int .i64 0] 148) ∨ (kk = .int .i64 7 ∧ i = .int .i64 2 ∧ Bk wr g #[.int .i64 1, .bool false, .int .i64 3, .int .i64 4, .bool false, .int .i64 6, .int .i64 0, .bool false, .int .i64 0, .int .i64 0, .bool false, .int .i64 0] 148) ∨ (kk = .int .i64 10 ∧ i = .int .i64 3 ∧ Bk wr g #[.int .i64 1, .bool false, .int .i64 3, .int .i64 4, .bool false, .int .i64 6, .int .i64 7, .bool false, .int .i64 9, .int .i64 0, .bool false, .int .i64 0] 148) ∨ (kk = .int .i64 13 ∧ i = .int .i64 4 ∧ Bk wr g #[.int .i64 1, .bool false, .int .i64 3, .int .i64 4, .bool false, .int .i64 6, .int .i64 7, .bool false, .int .i64 9, .int .i64 10, .bool false, .int .i64 12] 148))) (fun _ i _ => 4 - (intOf i).toNat)
  case atStart => exact ⟨But.refl _ _, .inl ⟨rfl, rfl, H.out⟩⟩
  case round =>
    obtain ⟨hB, hr⟩ := hrel
    rcases hr with ⟨rfl, rfl, hb⟩ | ⟨rfl, rfl, hb⟩ | ⟨rfl, rfl, hb⟩ | ⟨rfl, rfl, hb⟩ | ⟨rfl, rfl, hb⟩
    · have c0 := hb.cell (i := 0) rfl
      have c1 := hb.cell (i := 1) rfl
      have c2 := hb.cell (i := 2) rfl
      have f0 := hb.frozen 0
      have f1 := hb.frozen 1
      have f2 := hb.frozen 2
      have hl := hb.lt
      have b1 : Bk _ g #[.int .i64 1, .bool false, .int .i64 0, .int .i64 0, .bool false, .int .i64 0, .int .i64 0, .bool false, .int .i64 0, .int .i64 0, .bool false, .int .i64 0] 148 := hb.set 0 (.int .i64 1)
      have b2 : Bk _ g #[.int .i64 1, .bool false, .int .i64 0, .int .i64 0, .bool false, .int .i64 0, .int .i64 0, .bool false, .int .i64 0, .int .i64 0, .bool false, .int .i64 0] 148 := b1.set 1 (.bool false)
      have b3 : Bk _ g #[.int .i64 1, .bool false, .int .i64 3, .int .i64 0, .bool false, .int .i64 0, .int .i64 0, .bool false, .int .i64 0, .int .i64 0, .bool false, .int .i64 0] 148 := b2.set 2 (.int .i64 3)
      have hB3 := ((hB.set 0 (.int .i64 1)).set 1 (.bool false)).set 2 (.int .i64 3)
      go_wp2
      go_roundw
      case rel => exact ⟨hB3, .inr (.inl ⟨rfl, rfl, b3⟩)⟩
      case measure => simp [intOf]
    · have c0 := hb.cell (i := 3) rfl
      have c1 := hb.cell (i := 4) rfl
      have c2 := hb.cell (i := 5) rfl
      have f0 := hb.frozen 3
      have f1 := hb.frozen 4
      have f2 := hb.frozen 5
      have hl := hb.lt
      have b1 : Bk _ g #[.int .i64 1, .bool false, .int .i64 3, .int .i64 4, .bool false, .int .i64 0, .int .i64 0, .bool false, .int .i64 0, .int .i64 0, .bool false, .int .i64 0] 148 := hb.set 3 (.int .i64 4)
      have b2 : Bk _ g #[.int .i64 1, .bool false, .int .i64 3, .int .i64 4, .bool false, .int .i64 0, .int .i64 0, .bool false, .int .i64 0, .int .i64 0, .bool false, .int .i64 0] 148 := b1.set 4 (.bool false)
      have b3 : Bk _ g #[.int .i64 1, .bool false, .int .i64 3, .int .i64 4, .bool false, .int .i64 6, .int .i64 0, .bool false, .int .i64 0, .int .i64 0, .bool false, .int .i64 0] 148 := b2.set 5 (.int .i64 6)
      have hB3 := ((hB.set 3 (.int .i64 4)).set 4 (.bool false)).set 5 (.int .i64 6)
      go_wp2
      go_roundw
      case rel => exact ⟨hB3, .inr (.inr (.inl ⟨rfl, rfl, b3⟩))⟩
      case measure => simp [intOf]
    · have c0 := hb.cell (i := 6) rfl
      have c1 := hb.cell (i := 7) rfl
      have c2 := hb.cell (i := 8) rfl
      have f0 := hb.frozen 6
      have f1 := hb.frozen 7
      have f2 := hb.frozen 8
      have hl := hb.lt
      have b1 : Bk _ g #[.int .i64 1, .bool false, .int .i64 3, .int .i64 4, .bool false, .int .i64 6, .int .i64 7, .bool false, .int .i64 0, .int .i64 0, .bool false, .int .i64 0] 148 := hb.set 6 (.int .i64 7)
      have b2 : Bk _ g #[.int .i64 1, .bool false, .int .i64 3, .int .i64 4, .bool false, .int .i64 6, .int .i64 7, .bool false, .int .i64 0, .int .i64 0, .bool false, .int .i64 0] 148 := b1.set 7 (.bool false)
      have b3 : Bk _ g #[.int .i64 1, .bool false, .int .i64 3, .int .i64 4, .bool false, .int .i64 6, .int .i64 7, .bool false, .int .i64 9, .int .i64 0, .bool false, .int .i64 0] 148 := b2.set 8 (.int .i64 9)
      have hB3 := ((hB.set 6 (.int .i64 7)).set 7 (.bool false)).set 8 (.int .i64 9)
      go_wp2
      go_roundw
      case rel => exact ⟨hB3, .inr (.inr (.inr (.inl ⟨rfl, rfl, b3⟩)))⟩
      case measure => simp [intOf]
    · have c0 := hb.cell (i := 9) rfl
      have c1 := hb.cell (i := 10) rfl
      have c2 := hb.cell (i := 11) rfl
      have f0 := hb.frozen 9
      have f1 := hb.frozen 10
      have f2 := hb.frozen 11
      have hl := hb.lt
      have b1 : Bk _ g #[.int .i64 1, .bool false, .int .i64 3, .int .i64 4, .bool false, .int .i64 6, .int .i64 7, .bool false, .int .i64 9, .int .i64 10, .bool false, .int .i64 0] 148 := hb.set 9 (.int .i64 10)
      have b2 : Bk _ g #[.int .i64 1, .bool false, .int .i64 3, .int .i64 4, .bool false, .int .i64 6, .int .i64 7, .bool false, .int .i64 9, .int .i64 10, .bool false, .int .i64 0] 148 := b1.set 10 (.bool false)
      have b3 : Bk _ g #[.int .i64 1, .bool false, .int .i64 3, .int .i64 4, .bool false, .int .i64 6, .int .i64 7, .bool false, .int .i64 9, .int .i64 10, .bool false, .int .i64 12] 148 := b2.set 11 (.int .i64 12)
      have hB3 := ((hB.set 9 (.int .i64 10)).set 10 (.bool false)).set 11 (.int .i64 12)
      go_wp2
      go_roundw
      case rel => exact ⟨hB3, .inr (.inr (.inr (.inr (⟨rfl, rfl, b3⟩))))⟩
      case measure => simp [intOf]
    · go_wp2
      go_ret
      exact ⟨rfl, hb, hB⟩
set_option maxHeartbeats 2000000 in
theorem heldFactionN (g : Nat) (w : World) (h : Bk w g F4 148) : Calls Try.prog 146 #[.slice (some ⟨g, 0, none⟩) 4 4, .int .i64 1] w fun e w' => e = .returned (.int .i64 13) ∧ w' = w := by
  go_enter Try.func146, Try.ntmps146
  go_wp2
  go_loopw [1, 5] (fun kk i wr => wr = w ∧ ((kk = .int .i64 1 ∧ i = .int .i64 0) ∨ (kk = .int .i64 4 ∧ i = .int .i64 1) ∨ (kk = .int .i64 7 ∧ i = .int .i64 2) ∨ (kk = .int .i64 10 ∧ i = .int .i64 3) ∨ (kk = .int .i64 13 ∧ i = .int .i64 4))) (fun _ i _ => 4 - (intOf i).toNat)
  case atStart => exact ⟨rfl, .inl ⟨rfl, rfl⟩⟩
  case round =>
    obtain ⟨hw, hr⟩ := hrel
    obtain rfl := hw.symm
    have hl := h.lt
    have c0 := h.cell (i := 0) rfl
    have c1 := h.cell (i := 1) rfl
    have c2 := h.cell (i := 2) rfl
    have c3 := h.cell (i := 3) rfl
    have c4 := h.cell (i := 4) rfl
    have c5 := h.cell (i := 5) rfl
    have c6 := h.cell (i := 6) rfl
    have c7 := h.cell (i := 7) rfl
    have c8 := h.cell (i := 8) rfl
    have c9 := h.cell (i := 9) rfl
    have c10 := h.cell (i := 10) rfl
    have c11 := h.cell (i := 11) rfl
    rcases hr with ⟨rfl, rfl⟩ | ⟨rfl, rfl⟩ | ⟨rfl, rfl⟩ | ⟨rfl, rfl⟩ | ⟨rfl, rfl⟩
    · go_wp2
      go_roundw
      case rel => first | exact ⟨rfl, .inr (.inl ⟨rfl, rfl⟩)⟩ | exact ⟨trivial, .inr (.inl ⟨rfl, rfl⟩)⟩
      case measure => simp [intOf]
    · go_wp2
      go_roundw
      case rel => first | exact ⟨rfl, .inr (.inr (.inl ⟨rfl, rfl⟩))⟩ | exact ⟨trivial, .inr (.inr (.inl ⟨rfl, rfl⟩))⟩
      case measure => simp [intOf]
    · go_wp2
      go_roundw
      case rel => first | exact ⟨rfl, .inr (.inr (.inr (.inl ⟨rfl, rfl⟩)))⟩ | exact ⟨trivial, .inr (.inr (.inr (.inl ⟨rfl, rfl⟩)))⟩
      case measure => simp [intOf]
    · go_wp2
      go_roundw
      case rel => first | exact ⟨rfl, .inr (.inr (.inr (.inr (⟨rfl, rfl⟩))))⟩ | exact ⟨trivial, .inr (.inr (.inr (.inr (⟨rfl, rfl⟩))))⟩
      case measure => simp [intOf]
    · go_wp2
      go_ret
      exact ⟨rfl, rfl⟩
end Go.Proofs.Ytibkdkjcncfmgaa
