/- Contracts of the exact laws' own helpers on lists of commands, and what a list of commands that came in is. Condition: the lists have at most 1048576 commands. -/
import Derived.Test.YtomnadmeolkagaaDoorSameC
import Derived.Test.YtomnadmeolkagaaDoorOpenCmd
import Derived.Test.YtomnadmeolkagaaDoorLater
import Derived.Deep.Slices
namespace Go.Proofs.YtomnadmeolkagaaDoor
open Go.ChangeShapes Go.WideShapes Go.ChangeAt Go.RowKit
set_option linter.unusedVariables false

theorem toCommand_c (x : K6) (w : World) :
    Calls Tryd.prog 13 #[.agg x.v] w fun e w' => e = .returned (.agg x.v) ∧ Below w.heap.size w w' := by
  go_enter Tryd.func13, Tryd.ntmps13
  go_wp2
  refine bodyPost_ret (v := .agg x.v) ?_ rfl ⟨rfl, ?_⟩
  · simp [results, Tryd.results13, go_sem]
    done
  · exact (((Below.refl _ _).alloc (Nat.le_refl _) _).alloc (by simp only [size_new]; omega) _).alloc (by simp only [size_new]; omega) _
theorem eqCommand_same (x : K6) (w : World) :
    Calls Tryd.prog 16 #[.agg x.v, .agg x.v] w fun e w' => e = .returned (.bool true) ∧ Below w.heap.size w w' := by
  go_enter Tryd.func16, Tryd.ntmps16
  go_wp2
  go_ret
  exact ⟨rfl, ((Below.refl _ _).alloc (Nat.le_refl _) _).alloc (by simp only [size_new]; omega) _⟩
theorem sz_c (a : Option Addr) (m cap : Nat) (L : Int) (h0 : 0 ≤ L) (h1 : L ≤ 1048576) (hb : (m : Int) ≤ 9223372036854775807) (w : World) :
    Calls Tryd.prog 4 #[.slice a m cap, .int .i64 L] w fun e w' => e = .returned (.int .i64 (if (m : Int) ≤ L then L - m else -1)) ∧ w' = w := by
  by_cases h : (m : Int) ≤ L
  · rw [if_pos h]
    have hd : decide (L - (m : Int) < 0) = false := decide_eq_false (by omega)
    go_enter Tryd.func4, Tryd.ntmps4
    go_wp2
    go_ret
    exact ⟨rfl, rfl⟩
  · rw [if_neg h]
    have hd : L - (m : Int) < 0 := by omega
    go_enter Tryd.func4, Tryd.ntmps4
    go_wp2
    go_ret
    exact ⟨rfl, rfl⟩

theorem info6 : (Tryd.prog.info? 36).map (fun i => (i.zero, i.size, i.bytes)) = some (some (.agg K6.z.v), 6, 48) := by kernel_rfl
theorem make6 (m : Nat) (hm : m ≤ 1048576) (w : World) : (Instr.makeSlice 27 (.int .i64 (m : Int)) (.int .i64 (m : Int))).run Tryd.prog w = .ok (.slice (some ⟨w.heap.size, 0, none⟩) m m) (w.alloc (.cells (madeCells K6.z.v (m * 6)) 36)) := by
  obtain ⟨i0, hi, hz0, hz1, hz2⟩ := info_parts info6
  have h := run_make (P := Tryd.prog) w 27 36 i0 (.agg K6.z.v) Tryd.underlying27 hi hz0 .i64 .i64 (m : Int) (m : Int) (by omega) (Int.le_refl _) (by rw [hz2]; omega) (by omega)
  rw [hz1, Int.toNat_natCast] at h
  exact h
theorem row0 (w : World) (n : Nat) (t : TypeId) : (w.alloc (.cells (madeCells K6.z.v n) t)).rowIs w.heap.size t n (fun _ => .int .i64 0) := by
  refine ⟨madeCells K6.z.v n, ?_, size_madeCells _ _, fun i hi => ?_⟩
  · show (w.heap.push _)[w.heap.size]? = _
    simp
  · have h6 : i % 6 = 0 ∨ i % 6 = 1 ∨ i % 6 = 2 ∨ i % 6 = 3 ∨ i % 6 = 4 ∨ i % 6 = 5 := by omega
    simp only [madeCells]
    rw [Array.getElem?_map, Array.getElem?_range, if_pos hi]
    simp only [Option.map_some]
    congr 1
    show (K6.z.v)[i % 6]! = _
    rcases h6 with h | h | h | h | h | h <;> rw [h] <;> rfl
def kRow (l : List K6) (k : Nat) (j : Nat) : Value := if j < k * 6 then .int .i64 ((l.getD (j / 6) K6.z).f (j % 6)) else .int .i64 0
theorem kRow_at (l : List K6) (k i : Nat) : kRow l k (k * 6 + i) = .int .i64 0 := by unfold kRow; rw [if_neg (by omega)]
theorem kRow_set (l : List K6) (k : Nat) (x : K6) (h : l.getD k K6.z = x) (j : Nat) :
    (if j = k * 6 + 5 then Value.int .i64 x.c5 else if j = k * 6 + 4 then .int .i64 x.c4 else if j = k * 6 + 3 then .int .i64 x.c3 else if j = k * 6 + 2 then .int .i64 x.c2 else if j = k * 6 + 1 then .int .i64 x.c1 else if j = k * 6 then .int .i64 x.c0 else kRow l k j) = kRow l (k + 1) j := by
  have key : ∀ i, i < 6 → kRow l (k + 1) (k * 6 + i) = .int .i64 (x.f i) := fun i hi => by
    unfold kRow
    rw [if_pos (by omega), show (k * 6 + i) / 6 = k from by omega, show (k * 6 + i) % 6 = i from by omega, h]
  by_cases e5 : j = k * 6 + 5
  · rw [if_pos e5, e5, key 5 (by omega)]; rfl
  rw [if_neg e5]
  by_cases e4 : j = k * 6 + 4
  · rw [if_pos e4, e4, key 4 (by omega)]; rfl
  rw [if_neg e4]
  by_cases e3 : j = k * 6 + 3
  · rw [if_pos e3, e3, key 3 (by omega)]; rfl
  rw [if_neg e3]
  by_cases e2 : j = k * 6 + 2
  · rw [if_pos e2, e2, key 2 (by omega)]; rfl
  rw [if_neg e2]
  by_cases e1 : j = k * 6 + 1
  · rw [if_pos e1, e1, key 1 (by omega)]; rfl
  rw [if_neg e1]
  by_cases e0 : j = k * 6
  · rw [if_pos e0, e0]; exact (key 0 (by omega)).symm
  rw [if_neg e0]
  unfold kRow
  by_cases hj : j < k * 6
  · rw [if_pos hj, if_pos (by omega)]
  · rw [if_neg hj, if_neg (by omega)]
/- commands that came in -/
def ArgC (w : World) (a : Option Addr) (l : List K6) : Prop := l = [] ∨ ∃ b off, a = some ⟨b, off, none⟩ ∧ b < w.heap.size ∧ CAt w b off l
theorem ArgC.later {w w' : World} {a : Option Addr} {l : List K6} (h : ArgC w a l) (hb : Below w.heap.size w w') : ArgC w' a l := by
  rcases h with h | ⟨b, off, h1, h2, h3⟩
  · exact .inl h
  · exact .inr ⟨b, off, h1, Nat.lt_of_lt_of_le h2 hb.size, h3.later h2 hb⟩
set_option maxHeartbeats 2000000 in
theorem toCommandS_c (a : Option Addr) (m cap : Nat) (l : List K6) (hl : l.length = m) (hm : m ≤ 1048576) (w : World) (h : ArgC w a l) :
    Calls Tryd.prog 6 #[.slice a m cap] w fun e w' => e = .returned (.slice (some ⟨w.heap.size, 0, none⟩) m m) ∧ CAt w' w.heap.size 0 l ∧ w.heap.size < w'.heap.size ∧ Below w.heap.size w w' := by
  have Hl : Hid (l.length = m) := hl
  have H : Hid (ArgC w a l) := h
  clear hl h
  have hmk := fun (W : World) => make6 m hm W
  go_enter Tryd.func6, Tryd.ntmps6
  go_wp2
  go_loopw [4] (fun i wr => ∃ k : Nat, k ≤ m ∧ i = .int .i64 k ∧ wr.rowIs w.heap.size 36 (m * 6) (kRow l k) ∧ Below w.heap.size w wr) (fun i _ => m - (intOf i).toNat)
  case atStart =>
    refine ⟨0, Nat.zero_le _, rfl, ?_, (Below.refl _ _).alloc (Nat.le_refl _) _⟩
    exact (row0 w (m * 6) 36).congr (fun i _ => by unfold kRow; rw [if_neg (by omega)])
  case round =>
    obtain ⟨k, hk, rfl, hrow, hbel⟩ := hrel
    by_cases hlt : k < m
    · have hlt' : (k : Int) < (m : Int) := by omega
      obtain ⟨x, hx⟩ : ∃ x, l[k]? = some x := ⟨_, List.getElem?_eq_getElem (by have := Hl.out; omega)⟩
      have HG : Hid (l.getD k K6.z = x) := by show _ = _; rw [List.getD_eq_getElem?_getD, hx]; rfl
      rcases H.out with h0 | ⟨b, off, rfl, hbl, hat⟩
      · have := Hl.out; rw [h0] at this; simp at this; omega
      · obtain ⟨a0, a1, a2, a3, a4, a5⟩ := hat.six hx
        replace a0 := (hbel.cell (p := ⟨b, off + k * 6, none⟩) hbl).trans a0
        replace a1 := (hbel.cell (p := ⟨b, off + k * 6 + 1, none⟩) hbl).trans a1
        replace a2 := (hbel.cell (p := ⟨b, off + k * 6 + 2, none⟩) hbl).trans a2
        replace a3 := (hbel.cell (p := ⟨b, off + k * 6 + 3, none⟩) hbl).trans a3
        replace a4 := (hbel.cell (p := ⟨b, off + k * 6 + 4, none⟩) hbl).trans a4
        replace a5 := (hbel.cell (p := ⟨b, off + k * 6 + 5, none⟩) hbl).trans a5
        clear hx hat
        go_wp2_with fail
        refine (toCommand_c x _).mono ?_
        rintro e w1 ⟨rfl, k1⟩
        have hrow1 := hrow.of_block (k1.block w.heap.size hrow.lt)
        have hbel1 := hbel.trans (k1.mono hbel.size)
        have d0 : w1.cell? ⟨w.heap.size, k * 6, none⟩ = some (.int .i64 0) := by rw [hrow1.cell (by omega)]; exact congrArg some (kRow_at l k 0)
        have d1 : w1.cell? ⟨w.heap.size, k * 6 + 1, none⟩ = some (.int .i64 0) := by rw [hrow1.cell (by omega), kRow_at]
        have d2 : w1.cell? ⟨w.heap.size, k * 6 + 2, none⟩ = some (.int .i64 0) := by rw [hrow1.cell (by omega), kRow_at]
        have d3 : w1.cell? ⟨w.heap.size, k * 6 + 3, none⟩ = some (.int .i64 0) := by rw [hrow1.cell (by omega), kRow_at]
        have d4 : w1.cell? ⟨w.heap.size, k * 6 + 4, none⟩ = some (.int .i64 0) := by rw [hrow1.cell (by omega), kRow_at]
        have d5 : w1.cell? ⟨w.heap.size, k * 6 + 5, none⟩ = some (.int .i64 0) := by rw [hrow1.cell (by omega), kRow_at]
        have z0 := hrow1.frozen (k * 6)
        have z1 := hrow1.frozen (k * 6 + 1)
        have z2 := hrow1.frozen (k * 6 + 2)
        have z3 := hrow1.frozen (k * 6 + 3)
        have z4 := hrow1.frozen (k * 6 + 4)
        have z5 := hrow1.frozen (k * 6 + 5)
        have rl := hrow1.lt
        clear a0 a1 a2 a3 a4 a5 hrow
        go_wp2_with fail
        go_roundw
        case rel => exact ⟨k + 1, by omega, by go_num, ((((((hrow1.set (k * 6) (.int .i64 x.c0)).set (k * 6 + 1) (.int .i64 x.c1)).set (k * 6 + 2) (.int .i64 x.c2)).set (k * 6 + 3) (.int .i64 x.c3)).set (k * 6 + 4) (.int .i64 x.c4)).set (k * 6 + 5) (.int .i64 x.c5)).congr (fun j _ => kRow_set l k _ HG.out j), ((((((hbel1.setCell (Nat.le_refl _) _).setCell (Nat.le_refl _) _).setCell (Nat.le_refl _) _).setCell (Nat.le_refl _) _).setCell (Nat.le_refl _) _).setCell (Nat.le_refl _) _)⟩
        case measure => simp [intOf]; omega
    · obtain rfl : k = m := by omega
      have hR : CAt wr w.heap.size 0 l := fun i x hi f hf => by
        have hlt : i < k := by rw [← Hl.out]; exact (List.getElem?_eq_some_iff.1 hi).1
        have hg : l.getD i K6.z = x := by rw [List.getD_eq_getElem?_getD, hi]; rfl
        rw [hrow.cell (by omega)]
        unfold kRow
        rw [if_pos (by omega), show (0 + i * 6 + f) / 6 = i from by omega, show (0 + i * 6 + f) % 6 = f from by omega, hg]
      have hlt2 := hrow.lt
      go_wp2
      go_ret
      exact ⟨rfl, hR, hlt2, hbel⟩
set_option maxHeartbeats 2000000 in
theorem eqCommandS_same (w : World) (g1 g2 k1 k2 m : Nat) (l : List K6) (hl : l.length = m) (hm : m ≤ 1048576) (hg1 : g1 < w.heap.size) (hg2 : g2 < w.heap.size) (h1 : CAt w g1 0 l) (h2 : CAt w g2 0 l) :
    Calls Tryd.prog 9 #[.slice (some ⟨g1, 0, none⟩) m k1, .slice (some ⟨g2, 0, none⟩) m k2] w fun e w' => e = .returned (.bool true) ∧ Below w.heap.size w w' := by
  have H1 : Hid (CAt w g1 0 l) := h1
  have H2 : Hid (CAt w g2 0 l) := h2
  have Hl : Hid (l.length = m) := hl
  clear h1 h2 hl
  go_enter Tryd.func9, Tryd.ntmps9
  go_wp2
  go_loopw [5] (fun i wr => ∃ k : Nat, k ≤ m ∧ i = .int .i64 k ∧ Below w.heap.size w wr) (fun i _ => m - (intOf i).toNat)
  case atStart => exact ⟨0, Nat.zero_le _, rfl, Below.refl _ _⟩
  case round =>
    obtain ⟨k, hk, rfl, hbel⟩ := hrel
    by_cases hlt : k < m
    · have hlt' : (k : Int) < (m : Int) := by omega
      obtain ⟨x, hx⟩ : ∃ x, l[k]? = some x := ⟨_, List.getElem?_eq_getElem (by have := Hl.out; omega)⟩
      obtain ⟨a0, a1, a2, a3, a4, a5⟩ := (H1.out.later hg1 hbel).six hx
      obtain ⟨b0, b1, b2, b3, b4, b5⟩ := (H2.out.later hg2 hbel).six hx
      simp only [Nat.zero_add] at a0 a1 a2 a3 a4 a5 b0 b1 b2 b3 b4 b5
      have hl1 : g1 < wr.heap.size := Nat.lt_of_lt_of_le hg1 hbel.size
      have hl2 : g2 < wr.heap.size := Nat.lt_of_lt_of_le hg2 hbel.size
      have A0 := fun n => Later.cell hl1 a0 n
      have A1 := fun n => Later.cell hl1 a1 n
      have A2 := fun n => Later.cell hl1 a2 n
      have A3 := fun n => Later.cell hl1 a3 n
      have A4 := fun n => Later.cell hl1 a4 n
      have A5 := fun n => Later.cell hl1 a5 n
      have B0 := fun n => Later.cell hl2 b0 n
      have B1 := fun n => Later.cell hl2 b1 n
      have B2 := fun n => Later.cell hl2 b2 n
      have B3 := fun n => Later.cell hl2 b3 n
      have B4 := fun n => Later.cell hl2 b4 n
      have B5 := fun n => Later.cell hl2 b5 n
      have cE := fun w => eqCommand_same x w
      clear hx
      go_wp2_with fail
      refine wp_region_later (by kernel_rfl) (by kernel_rfl) (fun hne => ?_)
      repeat (go_big_quiet_step (first | (go_at_call 16; exact Later.call (cE _))))
      refine wpQuiet_nil ?_
      rintro _ ⟨nn, rfl⟩
      have hb2 := hbel.trans (nn.bel.mono hbel.size)
      clear A0 A1 A2 A3 A4 A5 B0 B1 B2 B3 B4 B5 a0 a1 a2 a3 a4 a5 b0 b1 b2 b3 b4 b5 hne
      go_wp2_with fail
      go_roundw
      case rel => exact ⟨k + 1, by omega, by go_num, hb2⟩
      case measure => simp [intOf]; omega
    · go_wp2
      go_ret
      exact ⟨rfl, hbel⟩
end Go.Proofs.YtomnadmeolkagaaDoor
