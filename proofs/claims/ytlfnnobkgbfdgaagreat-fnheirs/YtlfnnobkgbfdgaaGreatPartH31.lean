/- Texts of mine put together (a claim holds at most 60 files): SideImpl, ShareWalks. -/
import Derived.Test.YtlfnnobkgbfdgaaGreatPartH26
import Derived.Test.YtlfnnobkgbfdgaaGreatPartH30
import Derived.Test.YtlfnnobkgbfdgaaGreatPartH02
import Derived.Test.YtlfnnobkgbfdgaaGreatPartH24
import Derived.Test.YtlfnnobkgbfdgaaGreatPartH29

/- SideImpl -/
/- The contract of sidesIn. No condition. -/
section
namespace Go.Proofs.YtlfnnobkgbfdgaaGreat
open Go.ChangeShapes Go.WideShapes Go.ChangeAt Go.RowKit
open Bd
set_option linter.unusedVariables false

/- the sides of a mask below k -/
def sdT (h : Int → Int → Bool) (m : Int) (k : Nat) : List Int := (([0, 1, 2, 3] : List Int).take k).filter (fun j => h m j)
theorem sdT_step {h : Int → Int → Bool} {m : Int} {k : Nat} (hk : k < 4) : sdT h m (k + 1) = sdT h m k ++ (if h m (k : Int) = true then [(k : Int)] else []) := by
  unfold sdT
  have e : ([0, 1, 2, 3] : List Int)[k]? = some (k : Int) := by
    have h4 : k = 0 ∨ k = 1 ∨ k = 2 ∨ k = 3 := by omega
    rcases h4 with rfl | rfl | rfl | rfl <;> rfl
  rw [List.take_add_one, e, List.filter_append]
  cases hh : h m (k : Int) <;> simp [hh]
theorem sdT_all (h : Int → Int → Bool) (m : Int) : sdT h m 4 = sdL h m := rfl
theorem sdT_len (h : Int → Int → Bool) (m : Int) (k : Nat) : (sdT h m k).length ≤ 4 := by
  unfold sdT
  refine Nat.le_trans (List.length_filter_le _ _) ?_
  rw [List.length_take]
  exact Nat.min_le_right _ _
set_option maxHeartbeats 4000000 in
theorem sidesIn_c (m : Int) (w : World) :
    Calls Tryz.prog 48 #[.int .i64 m] w fun e w' => ∃ v, e = .returned v ∧ SlI w' w.heap.size v (sdL hasI m) ∧ Below w.heap.size w w' := by
  obtain ⟨i0, hi, hz0, hz1, hz2⟩ := info_parts info64
  rw [← sdT_all]
  go_enter Tryz.func48, Tryz.ntmps48
  go_wp2_with fail
  go_loopw [3, 5] (fun v i wr => ∃ k : Nat, k ≤ 4 ∧ i = .int .i64 k ∧ Hid (wr.ownsRow w.heap.size 2 1 v (sdT hasI m k).length ((sdT hasI m k).map (Value.int .i64))) ∧ Below w.heap.size w wr) (fun _ i _ => 4 - (intOf i).toNat)
  case atStart => exact ⟨0, Nat.zero_le _, rfl, ⟨rfl, .inl ⟨rfl, rfl⟩⟩, Below.refl _ _⟩
  case round =>
    obtain ⟨k, hk, rfl, Hown, kb⟩ := hrel
    by_cases hlt : k < 4
    · have hlt' : (k : Int) < 4 := by omega
      have HS : Hid (sdT hasI m (k + 1) = sdT hasI m k ++ (if hasI m (k : Int) = true then [(k : Int)] else [])) := sdT_step hlt
      have hlen : (sdT hasI m k).length ≤ 4 := sdT_len _ _ _
      have q0 := fun w => hasBit_c m (k : Int) (by omega) (by omega) w
      cases hq : hasI m (k : Int)
      · rw [hq] at q0
        have ho1 : Hid (wr.ownsRow w.heap.size 2 1 u3 (sdT hasI m (k + 1)).length ((sdT hasI m (k + 1)).map (Value.int .i64))) := by
          show World.ownsRow _ _ _ _ _ _ _
          rw [HS.out, hq]; simpa using Hown.out
        go_wp2_with (go_at_call 72; refine (q0 _).mono ?_; rintro e w1 ⟨rfl, hw1⟩; obtain rfl := hw1.symm)
        go_roundw
        case rel => exact ⟨k + 1, by omega, by go_num, ho1, kb⟩
        case measure => simp [intOf]; omega
      · rw [hq] at q0
        have hown := Hown.out
        go_wp2_with (first | (go_at_call 72; refine (q0 _).mono ?_; rintro e w1 ⟨rfl, hw1⟩; obtain rfl := hw1.symm) | (at_builtin; refine wpList_append_own _ rfl _ _ 38 rfl w.heap.size 2 i0 (.int .i64 0) 1 8 Tryz.underlying38 hi hz0 hz1 hz2 rfl (by decide) _ _ _ rfl (hown.alloc _) ⟨wr.heap.size, 0, none⟩ 1 1 [.int .i64 k] rfl rfl (one_new _ _ _) (one_cell _ _) (by unfold maxLen; omega) (by omega) (by have := kb.size; simp; omega) ?_))
        intro v' w1 hown' hgrow _
        have hb1 : Below w.heap.size w w1 := (kb.alloc kb.size _).grown hgrow (by have := kb.size; simp; omega) (fun k' hk' => (hown.lt k' hk').1)
        have ho1 : Hid (w1.ownsRow w.heap.size 2 1 v' (sdT hasI m (k + 1)).length ((sdT hasI m (k + 1)).map (Value.int .i64))) := by
          show World.ownsRow _ _ _ _ _ _ _
          rw [HS.out, if_pos hq]; simpa using hown'
        clear hown' hgrow hown
        go_wp2_with fail
        go_roundw
        case rel => exact ⟨k + 1, by omega, by go_num, ho1, hb1⟩
        case measure => simp [intOf]; omega
    · obtain rfl : k = 4 := by omega
      have hlt' : ¬ ((4 : Nat) : Int) < 4 := by omega
      have hown' := SlI.of Hown.out
      clear Hown
      go_wp2_with fail
      go_ret
      exact ⟨_, rfl, hown', kb⟩
end Go.Proofs.YtlfnnobkgbfdgaaGreat
end

/- ShareWalks -/
/- Contracts of ShareOf and of its model: both return the list of shares in memory of its own, or the code alone. No condition. -/
section
namespace Go.Proofs.YtlfnnobkgbfdgaaGreat
open Go.ChangeShapes Go.WideShapes Go.ChangeAt Go.RowKit
set_option linter.unusedVariables false

set_option maxHeartbeats 1000000 in
theorem specShares (n : Int) (p : Nat) (w : World) (hn : 0 ≤ n) (hn2 : n ≤ 1000000) (hp : 1 ≤ p) (hp2 : p ≤ 8) :
    Calls Tryz.prog 99 #[.int .i64 n, .int .i64 (p : Int)] w fun e w' => ∃ g cap, e = .returned (.slice (some ⟨g, 0, none⟩) p cap) ∧ w.heap.size ≤ g ∧ Lst w' g cap (Nums.shTo n p p) ∧ Below w.heap.size w w' := by
  obtain ⟨i0, hi, hz0, hz1, hz2⟩ := info_parts info64
  have q0 := Int.ediv_nonneg (a := n) (b := (p : Int)) hn (by omega)
  have q1 := Int.ediv_le_self (a := n) (p : Int) hn
  have r0 := Int.emod_nonneg n (b := (p : Int)) (by omega)
  have r1 := Int.emod_lt_of_pos n (b := (p : Int)) (by omega)
  have hpp : (1 : Int) ≤ (p : Int) := by omega
  have hpp2 : (p : Int) ≤ 8 := by omega
  have hp0 : ((p : Int) == 0) = false := by simp; omega
  go_enter Tryz.func99, Tryz.ntmps99
  go_wp2
  go_loopw [5, 6] (fun v i wr => ∃ k : Nat, k ≤ p ∧ i = .int .i64 k ∧ wr.ownsRow w.heap.size 2 1 v k ((Nums.shTo n p k).map (Value.int .i64)) ∧ Below w.heap.size w wr) (fun _ i _ => p - (intOf i).toNat)
  case atStart => exact ⟨0, Nat.zero_le _, rfl, World.ownsRow_made w #[] 0 (Nat.le_refl _) (by unfold maxLen; omega) rfl, (Below.refl _ _).alloc (Nat.le_refl _) _⟩
  case round =>
    obtain ⟨k, hk, rfl, hown, hbel⟩ := hrel
    by_cases hlt : k < p
    · by_cases hc : (k : Int) < n % (p : Int)
      · have hc' := hc
        have HS : Hid (Nums.shTo n p (k + 1) = Nums.shTo n p k ++ [n / (p : Int) + 1]) := by
          show Nums.shTo n p (k + 1) = Nums.shTo n p k ++ [n / (p : Int) + 1]
          rw [Nums.shTo_succ, Nums.shAt_lo n p k hc]
        go_wp2_with (first | (at_builtin; refine wpList_append_own _ rfl _ _ 38 rfl w.heap.size 2 i0 (.int .i64 0) 1 8 Tryz.underlying38 hi hz0 hz1 hz2 rfl (by decide) _ _ _ rfl (hown.alloc _) ⟨wr.heap.size, 0, none⟩ 1 1 [.int .i64 (n / (p : Int) + 1)] rfl rfl (one_new _ _ _) (one_cell _ _) (by unfold maxLen; omega) (by omega) (by have := hbel.size; simp; omega) ?_))
        intro v' w1 hown' hgrow _
        have hb1 : Below w.heap.size w w1 := (hbel.alloc hbel.size _).grown hgrow (by have := hbel.size; simp; omega) (fun k' hk' => (hown.lt k' hk').1)
        have ho1 : Hid (w1.ownsRow w.heap.size 2 1 v' (k + 1) ((Nums.shTo n p (k + 1)).map (Value.int .i64))) := by
          show w1.ownsRow w.heap.size 2 1 v' (k + 1) ((Nums.shTo n p (k + 1)).map (Value.int .i64))
          rw [HS.out]; simpa using hown'
        clear hown' hgrow hown
        go_wp2
        go_roundw
        case rel => exact ⟨k + 1, by omega, by go_num, ho1.out, hb1⟩
        case measure => simp [intOf]; omega
      · have hc' : decide ((k : Int) < n % (p : Int)) = false := decide_eq_false hc
        have HS : Hid (Nums.shTo n p (k + 1) = Nums.shTo n p k ++ [n / (p : Int)]) := by
          show Nums.shTo n p (k + 1) = Nums.shTo n p k ++ [n / (p : Int)]
          rw [Nums.shTo_succ, Nums.shAt_hi n p k hc]
        go_wp2_with (first | (at_builtin; refine wpList_append_own _ rfl _ _ 38 rfl w.heap.size 2 i0 (.int .i64 0) 1 8 Tryz.underlying38 hi hz0 hz1 hz2 rfl (by decide) _ _ _ rfl (hown.alloc _) ⟨wr.heap.size, 0, none⟩ 1 1 [.int .i64 (n / (p : Int))] rfl rfl (one_new _ _ _) (one_cell _ _) (by unfold maxLen; omega) (by omega) (by have := hbel.size; simp; omega) ?_))
        intro v' w1 hown' hgrow _
        have hb1 : Below w.heap.size w w1 := (hbel.alloc hbel.size _).grown hgrow (by have := hbel.size; simp; omega) (fun k' hk' => (hown.lt k' hk').1)
        have ho1 : Hid (w1.ownsRow w.heap.size 2 1 v' (k + 1) ((Nums.shTo n p (k + 1)).map (Value.int .i64))) := by
          show w1.ownsRow w.heap.size 2 1 v' (k + 1) ((Nums.shTo n p (k + 1)).map (Value.int .i64))
          rw [HS.out]; simpa using hown'
        clear hown' hgrow hown
        go_wp2
        go_roundw
        case rel => exact ⟨k + 1, by omega, by go_num, ho1.out, hb1⟩
        case measure => simp [intOf]; omega
    · obtain rfl : k = p := by omega
      have hlen := Nums.shTo_len n k k
      obtain ⟨g, cap, hv, hg, hL⟩ := Lst.of_owns (l := Nums.shTo n k k) (by rw [hlen]; exact hown) (by omega)
      rw [hlen] at hv
      subst hv
      go_wp2
      go_ret
      exact ⟨g, cap, rfl, hg, hL, hbel⟩

theorem share_no {n p : Int} (h : n < 0 ∨ 1000000 < n ∨ p < 1 ∨ 8 < p) : (n < 0) ∨ (0 ≤ n ∧ 1000000 < n) ∨ (0 ≤ n ∧ n ≤ 1000000 ∧ p < 1) ∨ (0 ≤ n ∧ n ≤ 1000000 ∧ 1 ≤ p ∧ 8 < p) := by omega
set_option maxHeartbeats 1000000 in
theorem implShareOf_no (n p : Int) (w : World) (h : n < 0 ∨ 1000000 < n ∨ p < 1 ∨ 8 < p) :
    Calls Tryz.prog 85 #[.int .i64 n, .int .i64 p] w fun e w' => e = .returned (.agg #[.int .i64 3, .slice none 0 0]) ∧ w' = w.alloc (.cells #[.int .i64 3, .slice none 0 0] 40) := by
  rcases share_no h with h1 | ⟨h1, h2⟩ | ⟨h1, h2, h3⟩ | ⟨h1, h2, h3, h4⟩
  all_goals
    clear h
    try (have d1 : decide (0 ≤ n) = false := decide_eq_false (by omega))
    try (have d2 : decide (n ≤ 1000000) = false := decide_eq_false (by omega))
    try (have d3 : decide (1 ≤ p) = false := decide_eq_false (by omega))
    try (have d4 : decide (p ≤ 8) = false := decide_eq_false (by omega))
    try (have d5 : decide (p < 1) = false := decide_eq_false (by omega))
    go_enter Tryz.func85, Tryz.ntmps85
    go_wp2
    refine bodyPost_ret ?_ rfl ⟨rfl, rfl⟩
    simp [results, Tryz.results85, go_sem]

def shRow (n : Int) (p k : Nat) (j : Nat) : Value := if j < k then .int .i64 (Nums.shAt n p j) else .int .i64 0
theorem shRow_at (n : Int) (p k : Nat) : shRow n p k k = .int .i64 0 := by unfold shRow; rw [if_neg (by omega)]
theorem shRow_set (n : Int) (p k : Nat) (x : Int) (h : Nums.shAt n p k = x) (j : Nat) : (if j = k then Value.int .i64 x else shRow n p k j) = shRow n p (k + 1) j := by
  unfold shRow
  by_cases e : j = k
  · subst e; rw [if_pos rfl, if_pos (by omega), h]
  · rw [if_neg e]
    by_cases e2 : j < k
    · rw [if_pos e2, if_pos (by omega)]
    · rw [if_neg e2, if_neg (by omega)]
def resRow (j : Nat) : Value := if j = 0 then .int .i64 0 else .slice none 0 0

set_option maxHeartbeats 1000000 in
theorem implShareOf_yes (n : Int) (p : Nat) (w : World) (hn : 0 ≤ n) (hn2 : n ≤ 1000000) (hp : 1 ≤ p) (hp2 : p ≤ 8) :
    Calls Tryz.prog 85 #[.int .i64 n, .int .i64 (p : Int)] w fun e w' => ∃ g cap, e = .returned (.agg #[.int .i64 0, .slice (some ⟨g, 0, none⟩) p cap]) ∧ w.heap.size ≤ g ∧ Lst w' g cap (Nums.shTo n p p) ∧ Below w.heap.size w w' := by
  have q0 := Int.ediv_nonneg (a := n) (b := (p : Int)) hn (by omega)
  have q1 := Int.ediv_le_self (a := n) (p : Int) hn
  have r0 := Int.emod_nonneg n (b := (p : Int)) (by omega)
  have r1 := Int.emod_lt_of_pos n (b := (p : Int)) (by omega)
  have hpp : (1 : Int) ≤ (p : Int) := by omega
  have hpp2 : (p : Int) ≤ 8 := by omega
  have d5 : decide ((p : Int) < 1) = false := decide_eq_false (by omega)
  have d6 : decide ((8 : Int) < (p : Int)) = false := decide_eq_false (by omega)
  have hp0 : ((p : Int) == 0) = false := by simp; omega
  have hmk := fun (W : World) => run_make_row' (P := Tryz.prog) 38 2 (.int .i64 0) 8 Tryz.underlying38 info64 rfl .i64 .i64 p (by omega) (by omega) W
  go_enter Tryz.func85, Tryz.ntmps85
  go_wp2
  go_loopw [22] (fun i wr => ∃ k : Nat, k ≤ p ∧ i = .int .i64 k ∧ wr.rowIs (w.heap.size + 1) 2 p (shRow n p k) ∧ wr.rowIs w.heap.size 40 2 resRow ∧ Below w.heap.size w wr) (fun i _ => p - (intOf i).toNat)
  case atStart =>
    refine ⟨0, Nat.zero_le _, rfl, ?_, ?_, ((Below.refl _ _).alloc (Nat.le_refl _) _).alloc (by simp) _⟩
    · have := World.rowIs_made (w.alloc (.cells #[.int .i64 0, .slice none 0 0] 40)) (.int .i64 0) p 2
      simp only [World.size_alloc] at this
      exact this.congr (fun i _ => by unfold shRow; rw [if_neg (by omega)])
    · exact World.rowIs.alloc (World.rowIs_alloc w #[.int .i64 0, .slice none 0 0] 40 resRow (fun i hi => by
        match i, hi with
        | 0, _ => rfl
        | 1, _ => rfl)) _
  case round =>
    obtain ⟨k, hk, rfl, hrow, hres, hbel⟩ := hrel
    by_cases hlt : k < p
    · have hcell : wr.cell? ⟨w.heap.size + 1, k, none⟩ = some (.int .i64 0) := by rw [hrow.cell hlt, shRow_at]
      have hfz := hrow.frozen k
      by_cases hc : (k : Int) < n % (p : Int)
      · go_wp2
        go_roundw
        case rel =>
          refine ⟨k + 1, by omega, by go_num, ?_, ?_, ?_⟩
          · first | exact (hrow.set k (.int .i64 (n / (p : Int) + 1))).congr (fun j _ => shRow_set n p k _ (Nums.shAt_lo n p k hc) j) | exact ((hrow.set k (.int .i64 (n / (p : Int)))).set k (.int .i64 (n / (p : Int) + 1))).congr (fun j _ => by rw [← shRow_set n p k _ (Nums.shAt_lo n p k hc) j]; split <;> rfl)
          · first | exact hres.setOther (by simp) _ | exact (hres.setOther (by simp) _).setOther (by simp) _
          · first | exact hbel.setCell (by simp) _ | exact (hbel.setCell (by simp) _).setCell (by simp) _
        case measure => simp [intOf]; omega
      · have hc' : decide ((k : Int) < n % (p : Int)) = false := decide_eq_false hc
        go_wp2
        go_roundw
        case rel => exact ⟨k + 1, by omega, by go_num, (hrow.set k (.int .i64 (n / (p : Int)))).congr (fun j _ => shRow_set n p k _ (Nums.shAt_hi n p k hc) j), hres.setOther (by simp) _, hbel.setCell (by simp) _⟩
        case measure => simp [intOf]; omega
    · obtain rfl : k = p := by omega
      have c0 : wr.cell? ⟨w.heap.size, 0, none⟩ = some (.int .i64 0) := hres.cell (by omega)
      have c1 : wr.cell? ⟨w.heap.size, 1, none⟩ = some (.slice none 0 0) := hres.cell (by omega)
      have f0 := hres.frozen 0
      have f1 := hres.frozen 1
      go_wp2
      refine bodyPost_ret (v := .agg #[.int .i64 0, .slice (some ⟨w.heap.size + 1, 0, none⟩) k k]) ?_ rfl ⟨_, _, rfl, by omega, ?_, ?_⟩
      · simp [results, Tryz.results85, go_sem, c0, c1]
        done
      · refine ((Lst.of_row (l := Nums.shTo n k k) (hrow.congr (fun i hi => ?_)) (Nums.shTo_len _ _ _) (by unfold maxLen; omega)).setOther (by simp) _).setOther (by simp) _
        unfold shRow
        rw [if_pos hi, List.getD_eq_getElem?_getD, Nums.shTo_get n k k i hi]
        rfl
      · exact (hbel.setCell (Nat.le_refl _) _).setCell (Nat.le_refl _) _
end Go.Proofs.YtlfnnobkgbfdgaaGreat
end
