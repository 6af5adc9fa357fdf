/- Contracts of the exact laws' own marks on lists of units and of fields, and on boards. Condition: the lists lie in blocks of their own and have at most 1048576 members. -/
import Derived.Test.YtibkdkjcncfmgaaExactBoard
namespace Go.Proofs.Ytibkdkjcncfmgaa
open Go.ChangeShapes Go.WideShapes Go.ChangeAt Go.RowKit
set_option linter.unusedVariables false

/- the first j cells bear the marks from k0 on -/
def mkd (k0 : Int) (f : Nat → Value) (j : Nat) (i : Nat) : Value := if i < j then .int .i64 (k0 + (i : Int)) else f i
theorem grown_set0 (w : World) (g o : Nat) (v : Value) : w.grownBy (w.setCell ⟨g, o, none⟩ v) (some g) :=
  ⟨rfl, rfl, rfl, by simp [World.setCell], fun i _ hne => Below.heap_setCell _ ⟨g, o, none⟩ v i (fun e => hne (by rw [e]))⟩
theorem grown_tr {a b c : World} {row : Option Nat} (h : a.grownBy b row) (k : b.grownBy c row) : a.grownBy c row :=
  ⟨k.os.trans h.os, k.tape.trans h.tape, k.output.trans h.output, Nat.le_trans h.size k.size, fun i hi hne => (k.block i (Nat.lt_of_lt_of_le hi h.size) hne).trans (h.block i hi hne)⟩
theorem grown_refl (w : World) (row : Option Nat) : w.grownBy w row := ⟨rfl, rfl, rfl, Nat.le_refl _, fun _ _ _ => rfl⟩
theorem mkd_set10 (k0 : Int) (f : Nat → Value) (k : Nat) (KK : Int) (hK : KK = k0 + 10 * (k : Int)) (i : Nat) :
    (if i = k * 10 + 9 then Value.int .i64 (KK + 1 + 1 + 1 + 1 + 1 + 1 + 1 + 1 + 1) else if i = k * 10 + 8 then Value.int .i64 (KK + 1 + 1 + 1 + 1 + 1 + 1 + 1 + 1) else if i = k * 10 + 7 then Value.int .i64 (KK + 1 + 1 + 1 + 1 + 1 + 1 + 1) else if i = k * 10 + 6 then Value.int .i64 (KK + 1 + 1 + 1 + 1 + 1 + 1) else if i = k * 10 + 5 then Value.int .i64 (KK + 1 + 1 + 1 + 1 + 1) else if i = k * 10 + 4 then Value.int .i64 (KK + 1 + 1 + 1 + 1) else if i = k * 10 + 3 then Value.int .i64 (KK + 1 + 1 + 1) else if i = k * 10 + 2 then Value.int .i64 (KK + 1 + 1) else if i = k * 10 + 1 then Value.int .i64 (KK + 1) else if i = k * 10 then Value.int .i64 (KK) else mkd k0 f (k * 10) i) = mkd k0 f ((k + 1) * 10) i := by
  subst hK
  unfold mkd
  by_cases e9 : i = k * 10 + 9
  · rw [if_pos e9, if_pos (by omega)]; congr 1; omega
  rw [if_neg e9]
  by_cases e8 : i = k * 10 + 8
  · rw [if_pos e8, if_pos (by omega)]; congr 1; omega
  rw [if_neg e8]
  by_cases e7 : i = k * 10 + 7
  · rw [if_pos e7, if_pos (by omega)]; congr 1; omega
  rw [if_neg e7]
  by_cases e6 : i = k * 10 + 6
  · rw [if_pos e6, if_pos (by omega)]; congr 1; omega
  rw [if_neg e6]
  by_cases e5 : i = k * 10 + 5
  · rw [if_pos e5, if_pos (by omega)]; congr 1; omega
  rw [if_neg e5]
  by_cases e4 : i = k * 10 + 4
  · rw [if_pos e4, if_pos (by omega)]; congr 1; omega
  rw [if_neg e4]
  by_cases e3 : i = k * 10 + 3
  · rw [if_pos e3, if_pos (by omega)]; congr 1; omega
  rw [if_neg e3]
  by_cases e2 : i = k * 10 + 2
  · rw [if_pos e2, if_pos (by omega)]; congr 1; omega
  rw [if_neg e2]
  by_cases e1 : i = k * 10 + 1
  · rw [if_pos e1, if_pos (by omega)]; congr 1; omega
  rw [if_neg e1]
  by_cases e0 : i = k * 10
  · rw [if_pos e0, if_pos (by omega)]; congr 1; omega
  rw [if_neg e0]
  by_cases hi : i < k * 10
  · rw [if_pos hi, if_pos (by omega)]
  · rw [if_neg hi, if_neg (by omega)]
set_option maxRecDepth 20000 in
set_option maxHeartbeats 4000000 in
theorem markUnitS_c (w : World) (g cap m N : Nat) (k0 : Int) (f : Nat → Value) (hN : m * 10 ≤ N) (hm : m ≤ 1048576) (hk0 : 0 ≤ k0) (hk1 : k0 ≤ 1000000000) (h : w.rowIs g 29 N f) (hf : ∀ i, i < N → ∃ z : Int, f i = .int .i64 z) :
    Calls Try.prog 165 #[.slice (some ⟨g, 0, none⟩) m cap, .int .i64 k0] w fun e w' => e = .returned (.int .i64 (k0 + 10 * (m : Int))) ∧ w'.rowIs g 29 N (mkd k0 f (m * 10)) ∧ w.grownBy w' (some g) := by
  have H : Hid (w.rowIs g 29 N f) := h
  have Hf : Hid (∀ i, i < N → ∃ z : Int, f i = .int .i64 z) := hf
  clear h hf
  go_enter Try.func165, Try.ntmps165
  go_wp2
  go_loopw [1, 5] (fun kk i wr => ∃ k : Nat, k ≤ m ∧ i = .int .i64 k ∧ kk = .int .i64 (k0 + 10 * (k : Int)) ∧ wr.rowIs g 29 N (mkd k0 f (k * 10)) ∧ w.grownBy wr (some g)) (fun _ i _ => m - (intOf i).toNat)
  case atStart => exact ⟨0, Nat.zero_le _, rfl, by simp, H.out.congr (fun i _ => by unfold mkd; rw [if_neg (by omega)]), grown_refl _ _⟩
  case round =>
    obtain ⟨k, hk, rfl, rfl, hrow, hg⟩ := hrel
    by_cases hlt : k < m
    · have hlt' : (k : Int) < (m : Int) := by omega
      obtain ⟨KK, HK⟩ : ∃ KK : Int, Hid (KK = k0 + 10 * (k : Int)) := ⟨_, rfl⟩
      rw [← HK.out]
      have K0 : 0 ≤ KK := by rw [HK.out]; omega
      have K1 : KK ≤ 1100000000 := by rw [HK.out]; omega
      obtain ⟨y0, hy0⟩ := Hf.out (k * 10) (by omega)
      have d0 : wr.cell? ⟨g, k * 10, none⟩ = some (.int .i64 y0) := by rw [hrow.cell (by omega)]; unfold mkd; rw [if_neg (by omega), hy0]
      have z0 := hrow.frozen (k * 10)
      obtain ⟨y1, hy1⟩ := Hf.out (k * 10 + 1) (by omega)
      have d1 : wr.cell? ⟨g, k * 10 + 1, none⟩ = some (.int .i64 y1) := by rw [hrow.cell (by omega)]; unfold mkd; rw [if_neg (by omega), hy1]
      have z1 := hrow.frozen (k * 10 + 1)
      obtain ⟨y2, hy2⟩ := Hf.out (k * 10 + 2) (by omega)
      have d2 : wr.cell? ⟨g, k * 10 + 2, none⟩ = some (.int .i64 y2) := by rw [hrow.cell (by omega)]; unfold mkd; rw [if_neg (by omega), hy2]
      have z2 := hrow.frozen (k * 10 + 2)
      obtain ⟨y3, hy3⟩ := Hf.out (k * 10 + 3) (by omega)
      have d3 : wr.cell? ⟨g, k * 10 + 3, none⟩ = some (.int .i64 y3) := by rw [hrow.cell (by omega)]; unfold mkd; rw [if_neg (by omega), hy3]
      have z3 := hrow.frozen (k * 10 + 3)
      obtain ⟨y4, hy4⟩ := Hf.out (k * 10 + 4) (by omega)
      have d4 : wr.cell? ⟨g, k * 10 + 4, none⟩ = some (.int .i64 y4) := by rw [hrow.cell (by omega)]; unfold mkd; rw [if_neg (by omega), hy4]
      have z4 := hrow.frozen (k * 10 + 4)
      obtain ⟨y5, hy5⟩ := Hf.out (k * 10 + 5) (by omega)
      have d5 : wr.cell? ⟨g, k * 10 + 5, none⟩ = some (.int .i64 y5) := by rw [hrow.cell (by omega)]; unfold mkd; rw [if_neg (by omega), hy5]
      have z5 := hrow.frozen (k * 10 + 5)
      obtain ⟨y6, hy6⟩ := Hf.out (k * 10 + 6) (by omega)
      have d6 : wr.cell? ⟨g, k * 10 + 6, none⟩ = some (.int .i64 y6) := by rw [hrow.cell (by omega)]; unfold mkd; rw [if_neg (by omega), hy6]
      have z6 := hrow.frozen (k * 10 + 6)
      obtain ⟨y7, hy7⟩ := Hf.out (k * 10 + 7) (by omega)
      have d7 : wr.cell? ⟨g, k * 10 + 7, none⟩ = some (.int .i64 y7) := by rw [hrow.cell (by omega)]; unfold mkd; rw [if_neg (by omega), hy7]
      have z7 := hrow.frozen (k * 10 + 7)
      obtain ⟨y8, hy8⟩ := Hf.out (k * 10 + 8) (by omega)
      have d8 : wr.cell? ⟨g, k * 10 + 8, none⟩ = some (.int .i64 y8) := by rw [hrow.cell (by omega)]; unfold mkd; rw [if_neg (by omega), hy8]
      have z8 := hrow.frozen (k * 10 + 8)
      obtain ⟨y9, hy9⟩ := Hf.out (k * 10 + 9) (by omega)
      have d9 : wr.cell? ⟨g, k * 10 + 9, none⟩ = some (.int .i64 y9) := by rw [hrow.cell (by omega)]; unfold mkd; rw [if_neg (by omega), hy9]
      have z9 := hrow.frozen (k * 10 + 9)
      have rl := hrow.lt
      clear hy0 hy1 hy2 hy3 hy4 hy5 hy6 hy7 hy8 hy9
      go_wp2
      go_roundw
      case rel => exact ⟨k + 1, by omega, by go_num, by rw [HK.out]; congr 1; push_cast; omega, ((((((((((hrow.set (k * 10) (.int .i64 (KK))).set (k * 10 + 1) (.int .i64 (KK + 1))).set (k * 10 + 2) (.int .i64 (KK + 1 + 1))).set (k * 10 + 3) (.int .i64 (KK + 1 + 1 + 1))).set (k * 10 + 4) (.int .i64 (KK + 1 + 1 + 1 + 1))).set (k * 10 + 5) (.int .i64 (KK + 1 + 1 + 1 + 1 + 1))).set (k * 10 + 6) (.int .i64 (KK + 1 + 1 + 1 + 1 + 1 + 1))).set (k * 10 + 7) (.int .i64 (KK + 1 + 1 + 1 + 1 + 1 + 1 + 1))).set (k * 10 + 8) (.int .i64 (KK + 1 + 1 + 1 + 1 + 1 + 1 + 1 + 1))).set (k * 10 + 9) (.int .i64 (KK + 1 + 1 + 1 + 1 + 1 + 1 + 1 + 1 + 1))).congr (fun j _ => mkd_set10 k0 f k KK HK.out j), (grown_tr (grown_tr (grown_tr (grown_tr (grown_tr (grown_tr (grown_tr (grown_tr (grown_tr (grown_tr hg (grown_set0 _ g (k * 10) _)) (grown_set0 _ g (k * 10 + 1) _)) (grown_set0 _ g (k * 10 + 2) _)) (grown_set0 _ g (k * 10 + 3) _)) (grown_set0 _ g (k * 10 + 4) _)) (grown_set0 _ g (k * 10 + 5) _)) (grown_set0 _ g (k * 10 + 6) _)) (grown_set0 _ g (k * 10 + 7) _)) (grown_set0 _ g (k * 10 + 8) _)) (grown_set0 _ g (k * 10 + 9) _))⟩
      case measure => simp [intOf]; omega
    · obtain rfl : k = m := by omega
      go_wp2
      go_ret
      exact ⟨rfl, hrow, hg⟩
theorem mkd_set3 (k0 : Int) (f : Nat → Value) (k : Nat) (KK : Int) (hK : KK = k0 + 3 * (k : Int)) (i : Nat) :
    (if i = k * 3 + 2 then Value.int .i64 (KK + 1 + 1) else if i = k * 3 + 1 then Value.int .i64 (KK + 1) else if i = k * 3 then Value.int .i64 (KK) else mkd k0 f (k * 3) i) = mkd k0 f ((k + 1) * 3) i := by
  subst hK
  unfold mkd
  by_cases e2 : i = k * 3 + 2
  · rw [if_pos e2, if_pos (by omega)]; congr 1; omega
  rw [if_neg e2]
  by_cases e1 : i = k * 3 + 1
  · rw [if_pos e1, if_pos (by omega)]; congr 1; omega
  rw [if_neg e1]
  by_cases e0 : i = k * 3
  · rw [if_pos e0, if_pos (by omega)]; congr 1; omega
  rw [if_neg e0]
  by_cases hi : i < k * 3
  · rw [if_pos hi, if_pos (by omega)]
  · rw [if_neg hi, if_neg (by omega)]
set_option maxRecDepth 20000 in
set_option maxHeartbeats 4000000 in
theorem markFieldS_c (w : World) (g cap m N : Nat) (k0 : Int) (f : Nat → Value) (hN : m * 3 ≤ N) (hm : m ≤ 1048576) (hk0 : 0 ≤ k0) (hk1 : k0 ≤ 1000000000) (h : w.rowIs g 105 N f) (hf : ∀ i, i < N → ∃ z : Int, f i = .int .i64 z) :
    Calls Try.prog 166 #[.slice (some ⟨g, 0, none⟩) m cap, .int .i64 k0] w fun e w' => e = .returned (.int .i64 (k0 + 3 * (m : Int))) ∧ w'.rowIs g 105 N (mkd k0 f (m * 3)) ∧ w.grownBy w' (some g) := by
  have H : Hid (w.rowIs g 105 N f) := h
  have Hf : Hid (∀ i, i < N → ∃ z : Int, f i = .int .i64 z) := hf
  clear h hf
  go_enter Try.func166, Try.ntmps166
  go_wp2
  go_loopw [1, 5] (fun kk i wr => ∃ k : Nat, k ≤ m ∧ i = .int .i64 k ∧ kk = .int .i64 (k0 + 3 * (k : Int)) ∧ wr.rowIs g 105 N (mkd k0 f (k * 3)) ∧ w.grownBy wr (some g)) (fun _ i _ => m - (intOf i).toNat)
  case atStart => exact ⟨0, Nat.zero_le _, rfl, by simp, H.out.congr (fun i _ => by unfold mkd; rw [if_neg (by omega)]), grown_refl _ _⟩
  case round =>
    obtain ⟨k, hk, rfl, rfl, hrow, hg⟩ := hrel
    by_cases hlt : k < m
    · have hlt' : (k : Int) < (m : Int) := by omega
      obtain ⟨KK, HK⟩ : ∃ KK : Int, Hid (KK = k0 + 3 * (k : Int)) := ⟨_, rfl⟩
      rw [← HK.out]
      have K0 : 0 ≤ KK := by rw [HK.out]; omega
      have K1 : KK ≤ 1100000000 := by rw [HK.out]; omega
      obtain ⟨y0, hy0⟩ := Hf.out (k * 3) (by omega)
      have d0 : wr.cell? ⟨g, k * 3, none⟩ = some (.int .i64 y0) := by rw [hrow.cell (by omega)]; unfold mkd; rw [if_neg (by omega), hy0]
      have z0 := hrow.frozen (k * 3)
      obtain ⟨y1, hy1⟩ := Hf.out (k * 3 + 1) (by omega)
      have d1 : wr.cell? ⟨g, k * 3 + 1, none⟩ = some (.int .i64 y1) := by rw [hrow.cell (by omega)]; unfold mkd; rw [if_neg (by omega), hy1]
      have z1 := hrow.frozen (k * 3 + 1)
      obtain ⟨y2, hy2⟩ := Hf.out (k * 3 + 2) (by omega)
      have d2 : wr.cell? ⟨g, k * 3 + 2, none⟩ = some (.int .i64 y2) := by rw [hrow.cell (by omega)]; unfold mkd; rw [if_neg (by omega), hy2]
      have z2 := hrow.frozen (k * 3 + 2)
      have rl := hrow.lt
      clear hy0 hy1 hy2
      go_wp2
      go_roundw
      case rel => exact ⟨k + 1, by omega, by go_num, by rw [HK.out]; congr 1; push_cast; omega, (((hrow.set (k * 3) (.int .i64 (KK))).set (k * 3 + 1) (.int .i64 (KK + 1))).set (k * 3 + 2) (.int .i64 (KK + 1 + 1))).congr (fun j _ => mkd_set3 k0 f k KK HK.out j), (grown_tr (grown_tr (grown_tr hg (grown_set0 _ g (k * 3) _)) (grown_set0 _ g (k * 3 + 1) _)) (grown_set0 _ g (k * 3 + 2) _))⟩
      case measure => simp [intOf]; omega
    · obtain rfl : k = m := by omega
      go_wp2
      go_ret
      exact ⟨rfl, hrow, hg⟩
end Go.Proofs.Ytibkdkjcncfmgaa
