/- Texts of mine put together (a claim holds at most 60 files): SideImpl, ShareWalks, LeaveImpl. -/
import Derived.Test.YthopodopedbooaaGreatPartL29
import Derived.Test.YthopodopedbooaaGreatPartL33
import Derived.Test.YthopodopedbooaaGreatPartL02
import Derived.Test.YthopodopedbooaaGreatPartL27
import Derived.Test.YthopodopedbooaaGreatPartL32

/- SideImpl -/
/- The contract of sidesIn. No condition. -/
section
namespace Go.Proofs.YthopodopedbooaaGreat
open Go.ChangeShapes Go.WideShapes Go.ChangeAt Go.RowKit
open Bd
set_option linter.unusedVariables false

/- the sides of a mask below k -/
def sdT (h : Int → Int → Bool) (m : Int) (k : Nat) : List Int := (([0, 1, 2, 3] : List Int).take k).filter (fun j => h m j)
theorem sdT_step {h : Int → Int → Bool} {m : Int} {k : Nat} (hk : k < 4) : sdT h m (k + 1) = sdT h m k ++ (if h m (k : Int) = true then [(k : Int)] else []) := by
  unfold sdT
  have e : ([0, 1, 2, 3] : List Int)[k]? = some (k : Int) := by
    have h4 : k = 0 ∨ k = 1 ∨ k = 2 ∨ k = 3 := by omega
    rcases h4 with rfl | rfl | rfl | rfl <;> rfl
  rw [List.take_add_one, e, List.filter_append]
  cases hh : h m (k : Int) <;> simp [hh]
theorem sdT_all (h : Int → Int → Bool) (m : Int) : sdT h m 4 = sdL h m := rfl
theorem sdT_len (h : Int → Int → Bool) (m : Int) (k : Nat) : (sdT h m k).length ≤ 4 := by
  unfold sdT
  refine Nat.le_trans (List.length_filter_le _ _) ?_
  rw [List.length_take]
  exact Nat.min_le_right _ _
set_option maxHeartbeats 4000000 in
theorem sidesIn_c (m : Int) (w : World) :
    Calls Tryz.prog 76 #[.int .i64 m] w fun e w' => ∃ v, e = .returned v ∧ SlI w' w.heap.size v (sdL hasI m) ∧ Below w.heap.size w w' := by
  obtain ⟨i0, hi, hz0, hz1, hz2⟩ := info_parts info64
  rw [← sdT_all]
  go_enter Tryz.func76, Tryz.ntmps76
  go_wp2_with fail
  go_loopw [3, 5] (fun v i wr => ∃ k : Nat, k ≤ 4 ∧ i = .int .i64 k ∧ Hid (wr.ownsRow w.heap.size 2 1 v (sdT hasI m k).length ((sdT hasI m k).map (Value.int .i64))) ∧ Below w.heap.size w wr) (fun _ i _ => 4 - (intOf i).toNat)
  case atStart => exact ⟨0, Nat.zero_le _, rfl, ⟨rfl, .inl ⟨rfl, rfl⟩⟩, Below.refl _ _⟩
  case round =>
    obtain ⟨k, hk, rfl, Hown, kb⟩ := hrel
    by_cases hlt : k < 4
    · have hlt' : (k : Int) < 4 := by omega
      have HS : Hid (sdT hasI m (k + 1) = sdT hasI m k ++ (if hasI m (k : Int) = true then [(k : Int)] else [])) := sdT_step hlt
      have hlen : (sdT hasI m k).length ≤ 4 := sdT_len _ _ _
      have q0 := fun w => hasBit_c m (k : Int) (by omega) (by omega) w
      cases hq : hasI m (k : Int)
      · rw [hq] at q0
        have ho1 : Hid (wr.ownsRow w.heap.size 2 1 u3 (sdT hasI m (k + 1)).length ((sdT hasI m (k + 1)).map (Value.int .i64))) := by
          show World.ownsRow _ _ _ _ _ _ _
          rw [HS.out, hq]; simpa using Hown.out
        go_wp2_with (go_at_call 51; refine (q0 _).mono ?_; rintro e w1 ⟨rfl, hw1⟩; obtain rfl := hw1.symm)
        go_roundw
        case rel => exact ⟨k + 1, by omega, by go_num, ho1, kb⟩
        case measure => simp [intOf]; omega
      · rw [hq] at q0
        have hown := Hown.out
        go_wp2_with (first | (go_at_call 51; refine (q0 _).mono ?_; rintro e w1 ⟨rfl, hw1⟩; obtain rfl := hw1.symm) | (at_builtin; refine wpList_append_own _ rfl _ _ 43 rfl w.heap.size 2 i0 (.int .i64 0) 1 8 Tryz.underlying43 hi hz0 hz1 hz2 rfl (by decide) _ _ _ rfl (hown.alloc _) ⟨wr.heap.size, 0, none⟩ 1 1 [.int .i64 k] rfl rfl (one_new _ _ _) (one_cell _ _) (by unfold maxLen; omega) (by omega) (by have := kb.size; simp; omega) ?_))
        intro v' w1 hown' hgrow _
        have hb1 : Below w.heap.size w w1 := (kb.alloc kb.size _).grown hgrow (by have := kb.size; simp; omega) (fun k' hk' => (hown.lt k' hk').1)
        have ho1 : Hid (w1.ownsRow w.heap.size 2 1 v' (sdT hasI m (k + 1)).length ((sdT hasI m (k + 1)).map (Value.int .i64))) := by
          show World.ownsRow _ _ _ _ _ _ _
          rw [HS.out, if_pos hq]; simpa using hown'
        clear hown' hgrow hown
        go_wp2_with fail
        go_roundw
        case rel => exact ⟨k + 1, by omega, by go_num, ho1, hb1⟩
        case measure => simp [intOf]; omega
    · obtain rfl : k = 4 := by omega
      have hlt' : ¬ ((4 : Nat) : Int) < 4 := by omega
      have hown' := SlI.of Hown.out
      clear Hown
      go_wp2_with fail
      go_ret
      exact ⟨_, rfl, hown', kb⟩
end Go.Proofs.YthopodopedbooaaGreat
end

/- ShareWalks -/
/- Contracts of ShareOf and of its model: both return the list of shares in memory of its own, or the code alone. No condition. -/
section
namespace Go.Proofs.YthopodopedbooaaGreat
open Go.ChangeShapes Go.WideShapes Go.ChangeAt Go.RowKit
set_option linter.unusedVariables false

set_option maxHeartbeats 1000000 in
theorem specShares (n : Int) (p : Nat) (w : World) (hn : 0 ≤ n) (hn2 : n ≤ 1000000) (hp : 1 ≤ p) (hp2 : p ≤ 8) :
    Calls Tryz.prog 165 #[.int .i64 n, .int .i64 (p : Int)] w fun e w' => ∃ g cap, e = .returned (.slice (some ⟨g, 0, none⟩) p cap) ∧ w.heap.size ≤ g ∧ Lst w' g cap (Nums.shTo n p p) ∧ Below w.heap.size w w' := by
  obtain ⟨i0, hi, hz0, hz1, hz2⟩ := info_parts info64
  have q0 := Int.ediv_nonneg (a := n) (b := (p : Int)) hn (by omega)
  have q1 := Int.ediv_le_self (a := n) (p : Int) hn
  have r0 := Int.emod_nonneg n (b := (p : Int)) (by omega)
  have r1 := Int.emod_lt_of_pos n (b := (p : Int)) (by omega)
  have hpp : (1 : Int) ≤ (p : Int) := by omega
  have hpp2 : (p : Int) ≤ 8 := by omega
  have hp0 : ((p : Int) == 0) = false := by simp; omega
  go_enter Tryz.func165, Tryz.ntmps165
  go_wp2
  go_loopw [5, 6] (fun v i wr => ∃ k : Nat, k ≤ p ∧ i = .int .i64 k ∧ wr.ownsRow w.heap.size 2 1 v k ((Nums.shTo n p k).map (Value.int .i64)) ∧ Below w.heap.size w wr) (fun _ i _ => p - (intOf i).toNat)
  case atStart => exact ⟨0, Nat.zero_le _, rfl, World.ownsRow_made w #[] 0 (Nat.le_refl _) (by unfold maxLen; omega) rfl, (Below.refl _ _).alloc (Nat.le_refl _) _⟩
  case round =>
    obtain ⟨k, hk, rfl, hown, hbel⟩ := hrel
    by_cases hlt : k < p
    · by_cases hc : (k : Int) < n % (p : Int)
      · have hc' := hc
        have HS : Hid (Nums.shTo n p (k + 1) = Nums.shTo n p k ++ [n / (p : Int) + 1]) := by
          show Nums.shTo n p (k + 1) = Nums.shTo n p k ++ [n / (p : Int) + 1]
          rw [Nums.shTo_succ, Nums.shAt_lo n p k hc]
        go_wp2_with (first | (at_builtin; refine wpList_append_own _ rfl _ _ 43 rfl w.heap.size 2 i0 (.int .i64 0) 1 8 Tryz.underlying43 hi hz0 hz1 hz2 rfl (by decide) _ _ _ rfl (hown.alloc _) ⟨wr.heap.size, 0, none⟩ 1 1 [.int .i64 (n / (p : Int) + 1)] rfl rfl (one_new _ _ _) (one_cell _ _) (by unfold maxLen; omega) (by omega) (by have := hbel.size; simp; omega) ?_))
        intro v' w1 hown' hgrow _
        have hb1 : Below w.heap.size w w1 := (hbel.alloc hbel.size _).grown hgrow (by have := hbel.size; simp; omega) (fun k' hk' => (hown.lt k' hk').1)
        have ho1 : Hid (w1.ownsRow w.heap.size 2 1 v' (k + 1) ((Nums.shTo n p (k + 1)).map (Value.int .i64))) := by
          show w1.ownsRow w.heap.size 2 1 v' (k + 1) ((Nums.shTo n p (k + 1)).map (Value.int .i64))
          rw [HS.out]; simpa using hown'
        clear hown' hgrow hown
        go_wp2
        go_roundw
        case rel => exact ⟨k + 1, by omega, by go_num, ho1.out, hb1⟩
        case measure => simp [intOf]; omega
      · have hc' : decide ((k : Int) < n % (p : Int)) = false := decide_eq_false hc
        have HS : Hid (Nums.shTo n p (k + 1) = Nums.shTo n p k ++ [n / (p : Int)]) := by
          show Nums.shTo n p (k + 1) = Nums.shTo n p k ++ [n / (p : Int)]
          rw [Nums.shTo_succ, Nums.shAt_hi n p k hc]
        go_wp2_with (first | (at_builtin; refine wpList_append_own _ rfl _ _ 43 rfl w.heap.size 2 i0 (.int .i64 0) 1 8 Tryz.underlying43 hi hz0 hz1 hz2 rfl (by decide) _ _ _ rfl (hown.alloc _) ⟨wr.heap.size, 0, none⟩ 1 1 [.int .i64 (n / (p : Int))] rfl rfl (one_new _ _ _) (one_cell _ _) (by unfold maxLen; omega) (by omega) (by have := hbel.size; simp; omega) ?_))
        intro v' w1 hown' hgrow _
        have hb1 : Below w.heap.size w w1 := (hbel.alloc hbel.size _).grown hgrow (by have := hbel.size; simp; omega) (fun k' hk' => (hown.lt k' hk').1)
        have ho1 : Hid (w1.ownsRow w.heap.size 2 1 v' (k + 1) ((Nums.shTo n p (k + 1)).map (Value.int .i64))) := by
          show w1.ownsRow w.heap.size 2 1 v' (k + 1) ((Nums.shTo n p (k + 1)).map (Value.int .i64))
          rw [HS.out]; simpa using hown'
        clear hown' hgrow hown
        go_wp2
        go_roundw
        case rel => exact ⟨k + 1, by omega, by go_num, ho1.out, hb1⟩
        case measure => simp [intOf]; omega
    · obtain rfl : k = p := by omega
      have hlen := Nums.shTo_len n k k
      obtain ⟨g, cap, hv, hg, hL⟩ := Lst.of_owns (l := Nums.shTo n k k) (by rw [hlen]; exact hown) (by omega)
      rw [hlen] at hv
      subst hv
      go_wp2
      go_ret
      exact ⟨g, cap, rfl, hg, hL, hbel⟩

theorem share_no {n p : Int} (h : n < 0 ∨ 1000000 < n ∨ p < 1 ∨ 8 < p) : (n < 0) ∨ (0 ≤ n ∧ 1000000 < n) ∨ (0 ≤ n ∧ n ≤ 1000000 ∧ p < 1) ∨ (0 ≤ n ∧ n ≤ 1000000 ∧ 1 ≤ p ∧ 8 < p) := by omega
set_option maxHeartbeats 1000000 in
theorem implShareOf_no (n p : Int) (w : World) (h : n < 0 ∨ 1000000 < n ∨ p < 1 ∨ 8 < p) :
    Calls Tryz.prog 158 #[.int .i64 n, .int .i64 p] w fun e w' => e = .returned (.agg #[.int .i64 3, .slice none 0 0]) ∧ w' = w.alloc (.cells #[.int .i64 3, .slice none 0 0] 45) := by
  rcases share_no h with h1 | ⟨h1, h2⟩ | ⟨h1, h2, h3⟩ | ⟨h1, h2, h3, h4⟩
  all_goals
    clear h
    try (have d1 : decide (0 ≤ n) = false := decide_eq_false (by omega))
    try (have d2 : decide (n ≤ 1000000) = false := decide_eq_false (by omega))
    try (have d3 : decide (1 ≤ p) = false := decide_eq_false (by omega))
    try (have d4 : decide (p ≤ 8) = false := decide_eq_false (by omega))
    try (have d5 : decide (p < 1) = false := decide_eq_false (by omega))
    go_enter Tryz.func158, Tryz.ntmps158
    go_wp2
    refine bodyPost_ret ?_ rfl ⟨rfl, rfl⟩
    simp [results, Tryz.results158, go_sem]

def shRow (n : Int) (p k : Nat) (j : Nat) : Value := if j < k then .int .i64 (Nums.shAt n p j) else .int .i64 0
theorem shRow_at (n : Int) (p k : Nat) : shRow n p k k = .int .i64 0 := by unfold shRow; rw [if_neg (by omega)]
theorem shRow_set (n : Int) (p k : Nat) (x : Int) (h : Nums.shAt n p k = x) (j : Nat) : (if j = k then Value.int .i64 x else shRow n p k j) = shRow n p (k + 1) j := by
  unfold shRow
  by_cases e : j = k
  · subst e; rw [if_pos rfl, if_pos (by omega), h]
  · rw [if_neg e]
    by_cases e2 : j < k
    · rw [if_pos e2, if_pos (by omega)]
    · rw [if_neg e2, if_neg (by omega)]
def resRow (j : Nat) : Value := if j = 0 then .int .i64 0 else .slice none 0 0

set_option maxHeartbeats 1000000 in
theorem implShareOf_yes (n : Int) (p : Nat) (w : World) (hn : 0 ≤ n) (hn2 : n ≤ 1000000) (hp : 1 ≤ p) (hp2 : p ≤ 8) :
    Calls Tryz.prog 158 #[.int .i64 n, .int .i64 (p : Int)] w fun e w' => ∃ g cap, e = .returned (.agg #[.int .i64 0, .slice (some ⟨g, 0, none⟩) p cap]) ∧ w.heap.size ≤ g ∧ Lst w' g cap (Nums.shTo n p p) ∧ Below w.heap.size w w' := by
  have q0 := Int.ediv_nonneg (a := n) (b := (p : Int)) hn (by omega)
  have q1 := Int.ediv_le_self (a := n) (p : Int) hn
  have r0 := Int.emod_nonneg n (b := (p : Int)) (by omega)
  have r1 := Int.emod_lt_of_pos n (b := (p : Int)) (by omega)
  have hpp : (1 : Int) ≤ (p : Int) := by omega
  have hpp2 : (p : Int) ≤ 8 := by omega
  have d5 : decide ((p : Int) < 1) = false := decide_eq_false (by omega)
  have d6 : decide ((8 : Int) < (p : Int)) = false := decide_eq_false (by omega)
  have hp0 : ((p : Int) == 0) = false := by simp; omega
  have hmk := fun (W : World) => run_make_row' (P := Tryz.prog) 43 2 (.int .i64 0) 8 Tryz.underlying43 info64 rfl .i64 .i64 p (by omega) (by omega) W
  go_enter Tryz.func158, Tryz.ntmps158
  go_wp2
  go_loopw [22] (fun i wr => ∃ k : Nat, k ≤ p ∧ i = .int .i64 k ∧ wr.rowIs (w.heap.size + 1) 2 p (shRow n p k) ∧ wr.rowIs w.heap.size 45 2 resRow ∧ Below w.heap.size w wr) (fun i _ => p - (intOf i).toNat)
  case atStart =>
    refine ⟨0, Nat.zero_le _, rfl, ?_, ?_, ((Below.refl _ _).alloc (Nat.le_refl _) _).alloc (by simp) _⟩
    · have := World.rowIs_made (w.alloc (.cells #[.int .i64 0, .slice none 0 0] 45)) (.int .i64 0) p 2
      simp only [World.size_alloc] at this
      exact this.congr (fun i _ => by unfold shRow; rw [if_neg (by omega)])
    · exact World.rowIs.alloc (World.rowIs_alloc w #[.int .i64 0, .slice none 0 0] 45 resRow (fun i hi => by
        match i, hi with
        | 0, _ => rfl
        | 1, _ => rfl)) _
  case round =>
    obtain ⟨k, hk, rfl, hrow, hres, hbel⟩ := hrel
    by_cases hlt : k < p
    · have hcell : wr.cell? ⟨w.heap.size + 1, k, none⟩ = some (.int .i64 0) := by rw [hrow.cell hlt, shRow_at]
      have hfz := hrow.frozen k
      by_cases hc : (k : Int) < n % (p : Int)
      · go_wp2
        go_roundw
        case rel =>
          refine ⟨k + 1, by omega, by go_num, ?_, ?_, ?_⟩
          · first | exact (hrow.set k (.int .i64 (n / (p : Int) + 1))).congr (fun j _ => shRow_set n p k _ (Nums.shAt_lo n p k hc) j) | exact ((hrow.set k (.int .i64 (n / (p : Int)))).set k (.int .i64 (n / (p : Int) + 1))).congr (fun j _ => by rw [← shRow_set n p k _ (Nums.shAt_lo n p k hc) j]; split <;> rfl)
          · first | exact hres.setOther (by simp) _ | exact (hres.setOther (by simp) _).setOther (by simp) _
          · first | exact hbel.setCell (by simp) _ | exact (hbel.setCell (by simp) _).setCell (by simp) _
        case measure => simp [intOf]; omega
      · have hc' : decide ((k : Int) < n % (p : Int)) = false := decide_eq_false hc
        go_wp2
        go_roundw
        case rel => exact ⟨k + 1, by omega, by go_num, (hrow.set k (.int .i64 (n / (p : Int)))).congr (fun j _ => shRow_set n p k _ (Nums.shAt_hi n p k hc) j), hres.setOther (by simp) _, hbel.setCell (by simp) _⟩
        case measure => simp [intOf]; omega
    · obtain rfl : k = p := by omega
      have c0 : wr.cell? ⟨w.heap.size, 0, none⟩ = some (.int .i64 0) := hres.cell (by omega)
      have c1 : wr.cell? ⟨w.heap.size, 1, none⟩ = some (.slice none 0 0) := hres.cell (by omega)
      have f0 := hres.frozen 0
      have f1 := hres.frozen 1
      go_wp2
      refine bodyPost_ret (v := .agg #[.int .i64 0, .slice (some ⟨w.heap.size + 1, 0, none⟩) k k]) ?_ rfl ⟨_, _, rfl, by omega, ?_, ?_⟩
      · simp [results, Tryz.results158, go_sem, c0, c1]
        done
      · refine ((Lst.of_row (l := Nums.shTo n k k) (hrow.congr (fun i hi => ?_)) (Nums.shTo_len _ _ _) (by unfold maxLen; omega)).setOther (by simp) _).setOther (by simp) _
        unfold shRow
        rw [if_pos hi, List.getD_eq_getElem?_getD, Nums.shTo_get n k k i hi]
        rfl
      · exact (hbel.setCell (Nat.le_refl _) _).setCell (Nat.le_refl _) _
end Go.Proofs.YthopodopedbooaaGreat
end

/- LeaveImpl -/
/- The contract of leavePurse: a purse that is shared out. Condition: the world that is worked on lies in memory, its purses are in their bounds. -/
section
namespace Go.Proofs.YthopodopedbooaaGreat
open Go.ChangeShapes Go.WideShapes Go.ChangeAt Go.RowKit
open Bd
set_option linter.unusedVariables false

theorem cell_same {w w' : World} {b i : Nat} (h : w'.heap[b]? = w.heap[b]?) : w'.cell? ⟨b, i, none⟩ = w.cell? ⟨b, i, none⟩ := by simp [World.cell?, h]
theorem KT.setNew {T : TypeId → Bool} {base g : Nat} {w w' : World} (h : KT T base w w') (hb : base ≤ w.heap.size) (hg : w.heap.size ≤ g) (i : Nat) (v : Value) : KT T base w (w'.setCell ⟨g, i, none⟩ v) := by
  refine ⟨h.os, h.tape, h.output, ?_, fun k hk => ?_, fun k cs' t' fr e ht => ?_⟩
  · have := h.size; simpa [World.setCell] using this
  · exact (Below.heap_setCell _ ⟨g, i, none⟩ v k (by show k ≠ g; omega)).trans (h.old k hk)
  · have hk := (Array.getElem?_eq_some_iff.1 e).1
    exact (Below.heap_setCell _ ⟨g, i, none⟩ v k (by show k ≠ g; omega)).trans (h.ty k cs' t' fr e ht)
/- a store into a block of numbers leaves a state as it was -/
theorem WS.setI {w : World} {base g b : Nat} {p : WP} {x : KW} {cs : Array Value} {t : TypeId} (h : WS w base g p x) (hb : Blk w b cs t) (h0 : 76 ≠ t) (h1 : 105 ≠ t) (h2 : 133 ≠ t) (h3 : 53 ≠ t) (h4 : 58 ≠ t) (h5 : 49 ≠ t) (i : Nat) (v : Value) : WS (w.setCell ⟨b, i, none⟩ v) base g p x :=
  ⟨h.b.setOther (bk_ne h.b hb h0) v, h.o.setB hb h1 h2 h3 h4 h5 i v, h.bg⟩
/- what was Spent -/
theorem WS.setS {w : World} {base g : Nat} {p : WP} {x : KW} (h : WS w base g p x) (s : Int) : WS (w.setCell ⟨g, 3, none⟩ (.int .i64 s)) base g p ⟨x.t, s, x.us, x.fs, x.fa, x.se, x.oo⟩ :=
  have q := h.o.setB h.b (by decide) (by decide) (by decide) (by decide) (by decide) 3 (.int .i64 s)
  ⟨h.b.set 3 (.int .i64 s), ⟨q.u, q.f, q.a, q.s, q.o⟩, h.bg⟩
set_option maxRecDepth 20000 in
set_option maxHeartbeats 4000000 in
theorem giveP_c (cS cR g ga base : Nat) (p : WP) (x : KW) (r k sh : Int) (y : KA) (W : World) (hS : Blk W cS #[.pointer (some ⟨g, 0, none⟩)] 71) (hR : Blk W cR #[.int .i64 r] 2) (hw : WS W base g p x) (hp : p.a = some ⟨ga, 0, none⟩)
    (h4 : x.fa.length = 4) (k0 : 0 ≤ k) (k3 : k ≤ 3) (hy : x.fa[k.toNat]? = some y) (y0 : 0 ≤ y.c0) (y1 : y.c0 ≤ 1000000) (s0 : 0 ≤ sh) (s1 : sh ≤ 1000001) (r0 : -10000000 ≤ r) (r1 : r ≤ 10000000) :
    Calls Tryz.prog 160 #[.int .i64 k, .int .i64 sh, .pointer (some ⟨cS, 0, none⟩), .pointer (some ⟨cR, 0, none⟩)] W fun e w' => e = .returned (.tuple #[]) ∧ w' = (W.setCell ⟨ga, k.toNat * 3, none⟩ (.int .i64 (y.c0 + mn sh (1000000 - y.c0)))).setCell ⟨cR, 0, none⟩ (.int .i64 (r - mn sh (1000000 - y.c0))) := by
  have hA := hw.o.a
  rw [hp, h4] at hA
  obtain ⟨gb, e1, hgb, hgl, hat, e9, hfz⟩ := hA.blk0 (by rw [h4]; omega)
  have e2 : ga = gb := by have := Option.some.inj e1; injection this
  subst e2
  obtain ⟨a0, a1, a2, al⟩ := hat.one hgl hy
  rw [Nat.zero_add] at a0 a1 a2
  have f0 := hfz (k.toNat * 3)
  have b4 : W.cell? ⟨g, 4, none⟩ = some (.slice p.a x.fa.length p.ac) := hw.b.cell (i := 4) rfl
  have bl := hw.b.lt
  rw [hp, h4] at b4
  have c0 : W.cell? ⟨cS, 0, none⟩ = some (.pointer (some ⟨g, 0, none⟩)) := hS.cell (i := 0) rfl
  have cl := hS.lt
  have d0 : W.cell? ⟨cR, 0, none⟩ = some (.int .i64 r) := hR.cell (i := 0) rfl
  have df := hR.frozen 0
  have dl := hR.lt
  have hA' := hA.blk (q := ga) rfl
  obtain ⟨csA, hbA⟩ := hA'
  have n1 : g ≠ ga := bk_ne hw.b hbA (by decide)
  have n2 : cS ≠ ga := bk_ne hS hbA (by decide)
  have n3 : cR ≠ ga := bk_ne hR hbA (by decide)
  have k4 : k < 4 := by omega
  clear hS hR hw hp hy hA hbA hat hfz e1 e9 h4
  by_cases hs : sh ≤ 1000000 - y.c0
  · have e : mn sh (1000000 - y.c0) = sh := by unfold mn; split <;> omega
    rw [e]
    clear e
    go_enter Tryz.func160, Tryz.ntmps160
    go_wp2_with fail
    go_end0
    exact ⟨rfl, rfl⟩
  · have e : mn sh (1000000 - y.c0) = 1000000 - y.c0 := by unfold mn; split <;> omega
    rw [e]
    clear e
    go_enter Tryz.func160, Tryz.ntmps160
    go_wp2_with fail
    go_end0
    exact ⟨rfl, rfl⟩
/- two blocks turned alone -/
structure Eq2 (a b : Nat) (w w' : World) : Prop where
  os : w'.os = w.os
  tape : w'.tape = w.tape
  output : w'.output = w.output
  size : w'.heap.size = w.heap.size
  blk : ∀ q, q ≠ a → q ≠ b → w'.heap[q]? = w.heap[q]?
theorem Eq2.refl (a b : Nat) (w : World) : Eq2 a b w w := ⟨rfl, rfl, rfl, rfl, fun _ _ _ => rfl⟩
theorem Eq2.set1 {a b : Nat} {w w' : World} (h : Eq2 a b w w') (i : Nat) (v : Value) : Eq2 a b w (w'.setCell ⟨a, i, none⟩ v) :=
  ⟨h.os, h.tape, h.output, by have := h.size; simpa [World.setCell] using this, fun q h1 h2 => (Below.heap_setCell _ ⟨a, i, none⟩ v q h1).trans (h.blk q h1 h2)⟩
theorem Eq2.set2 {a b : Nat} {w w' : World} (h : Eq2 a b w w') (i : Nat) (v : Value) : Eq2 a b w (w'.setCell ⟨b, i, none⟩ v) :=
  ⟨h.os, h.tape, h.output, by have := h.size; simpa [World.setCell] using this, fun q h1 h2 => (Below.heap_setCell _ ⟨b, i, none⟩ v q h2).trans (h.blk q h1 h2)⟩
theorem Eq2.at {a b : Nat} {w w' : World} (h : Eq2 a b w w') {g cs t} (hb : Blk w g cs t) (h1 : g ≠ a) (h2 : g ≠ b) : Blk w' g cs t := by unfold Blk; rw [h.blk g h1 h2]; exact hb
theorem Eq2.kt {a b base : Nat} {w0 w w' : World} {T : TypeId → Bool} {cs : Array Value} {t : TypeId} (h : Eq2 a b w w') (k : KT T base w0 w) (ha : Blk w a cs t) (hT : T t = true) (hba : base ≤ a) (hb0 : base ≤ w0.heap.size) (hb : w0.heap.size ≤ b) : KT T base w0 w' := by
  refine ⟨h.os.trans k.os, h.tape.trans k.tape, h.output.trans k.output, by rw [h.size]; exact k.size, fun q hq => (h.blk q (by omega) (by omega)).trans (k.old q hq), fun q cs' t' fr e ht => ?_⟩
  have h1 := k.ty q cs' t' fr e ht
  have hq := (Array.getElem?_eq_some_iff.1 e).1
  refine (h.blk q ?_ (by omega)).trans h1
  rintro rfl
  unfold Blk at ha
  rw [ha] at h1
  injection h1 with h1
  injection h1 with _ h1 _
  subst h1
  rw [hT] at ht; cases ht
theorem drop_cons {α : Type} {l : List α} {i : Nat} {k : α} (h : l[i]? = some k) : l.drop i = k :: l.drop (i + 1) := by
  have h' := List.getElem?_eq_some_iff.1 h
  rw [List.drop_eq_getElem_cons h'.1, h'.2]
set_option maxRecDepth 20000 in
set_option maxHeartbeats 8000000 in
theorem shareP_c (cS cR g ga base qh qs ch cs : Nat) (p : WP) (t s : Int) (us : List K10) (fs : List K3) (fa : List KA) (se : List K4) (oo : List K2) (n : Int) (m : Nat) (hs : List Int) (w : World) (hS : Blk w cS #[.pointer (some ⟨g, 0, none⟩)] 71) (hR : Blk w cR #[.int .i64 n] 2) (hw : WS w base g p ⟨t, s, us, fs, fa, se, oo⟩) (hp : p.a = some ⟨ga, 0, none⟩)
    (h4 : fa.length = 4) (hpur : ∀ f ∈ fa, inb f.c0 0 1000000 = true) (n0 : 0 ≤ n) (n1 : n ≤ 1000000) (hm : hs.length = m) (m1 : 1 ≤ m) (m4 : m ≤ 4) (hk : ∀ k ∈ hs, 0 ≤ k ∧ k ≤ 3)
    (hh : ∀ i x, hs[i]? = some x → w.cell? ⟨qh, i, none⟩ = some (.int .i64 x)) (hhl : qh < w.heap.size) (hha : qh ≠ ga) (hhR : qh ≠ cR) (hsh : ∀ i, i < m → w.cell? ⟨qs, i, none⟩ = some (.int .i64 (Nums.shAt n m i))) (hsl : qs < w.heap.size) (hsa : qs ≠ ga) (hsR : qs ≠ cR) (hRa : cR ≠ ga) (hRg : cR ≠ g) :
    Calls Tryz.prog 159 #[.slice (some ⟨qh, 0, none⟩) m ch, .slice (some ⟨qs, 0, none⟩) m cs, .func (.func 160) #[] #[.pointer (some ⟨cS, 0, none⟩), .pointer (some ⟨cR, 0, none⟩)]] w
      fun e w' => e = .returned (.tuple #[]) ∧ WS w' base g p ⟨t, s, us, fs, shA n m 0 hs fa, se, oo⟩ ∧ Blk w' cR #[.int .i64 (n - shT n m 0 hs fa)] 2 ∧ Eq2 ga cR w w' := by
  obtain ⟨RA, HRA⟩ : ∃ R, Hid (R = shA n m 0 (hs.drop 0) fa) := ⟨_, rfl⟩
  obtain ⟨RT, HRT⟩ : ∃ R, Hid (R = n - shT n m 0 (hs.drop 0) fa) := ⟨_, rfl⟩
  rw [show shA n m 0 hs fa = RA from HRA.out.symm, show n - shT n m 0 hs fa = RT from HRT.out.symm]
  have HW : Hid (WS w base g p ⟨t, s, us, fs, fa, se, oo⟩) := hw
  have HP : Hid (p.a = some ⟨ga, 0, none⟩) := hp
  have H4 : Hid (fa.length = 4) := h4
  have HU : Hid (∀ f ∈ fa, inb f.c0 0 1000000 = true) := hpur
  have HSB : Hid (Blk w cS #[.pointer (some ⟨g, 0, none⟩)] 71) := hS
  have HRB : Hid (Blk w cR #[.int .i64 n] 2) := hR
  have HM : Hid (hs.length = m) := hm
  have HK : Hid (∀ k ∈ hs, 0 ≤ k ∧ k ≤ 3) := hk
  have HH : Hid (∀ i x, hs[i]? = some x → w.cell? ⟨qh, i, none⟩ = some (.int .i64 x)) := hh
  have HSH : Hid (∀ i, i < m → w.cell? ⟨qs, i, none⟩ = some (.int .i64 (Nums.shAt n m i))) := hsh
  have hm0 : ((m : Int) == 0) = false := by simp; omega
  clear hw hp h4 hpur hS hR hm hk hh hsh
  go_enter Tryz.func159, Tryz.ntmps159
  go_wp2_with fail
  go_loopw [10] (fun j wr => ∃ (i : Nat) (fi : List KA) (ri : Int), j = .int .i64 i ∧ i ≤ m ∧ Hid (RA = shA n m i (hs.drop i) fi) ∧ Hid (RT = ri - shT n m i (hs.drop i) fi) ∧ Hid (fi.length = 4) ∧ Hid (∀ f ∈ fi, inb f.c0 0 1000000 = true) ∧ Hid (WS wr base g p ⟨t, s, us, fs, fi, se, oo⟩) ∧ Hid (Blk wr cR #[.int .i64 ri] 2) ∧ Eq2 ga cR w wr ∧ n - 1000001 * (i : Int) ≤ ri ∧ ri ≤ n) (fun j _ => m - (intOf j).toNat)
  case atStart => exact ⟨0, fa, n, rfl, Nat.zero_le _, HRA, HRT, H4, HU, HW, HRB, Eq2.refl _ _ _, by omega, by omega⟩
  case round =>
    obtain ⟨i, fi, ri, rfl, hi, HA, HT, Hl, Hu, Hw, Hb, E, b0, b1⟩ := hrel
    by_cases hlt : i < m
    · have hlt' : (i : Int) < (m : Int) := by omega
      obtain ⟨k, hx⟩ : ∃ k, hs[i]? = some k := ⟨_, List.getElem?_eq_getElem (by have := HM.out; omega)⟩
      obtain ⟨k0, k3⟩ := HK.out k (List.mem_of_getElem? hx)
      have c1 : wr.cell? ⟨qh, i, none⟩ = some (.int .i64 k) := by rw [cell_same (E.blk qh hha hhR)]; exact HH.out i k hx
      have c2 : wr.cell? ⟨qs, i, none⟩ = some (.int .i64 (Nums.shAt n m i)) := by rw [cell_same (E.blk qs hsa hsR)]; exact HSH.out i hlt
      have hz := E.size
      have l1 : qh < wr.heap.size := by omega
      have l2 : qs < wr.heap.size := by omega
      have hrem : ((i : Int).tmod (m : Int)) = (i : Int) := by rw [Int.tmod_eq_emod_of_nonneg (by omega)]; exact Int.emod_eq_of_lt (by omega) (by omega)
      have hrem2 : ((i : Int) % (m : Int)) = (i : Int) := Int.emod_eq_of_lt (by omega) (by omega)
      obtain ⟨y, hy⟩ : ∃ y, fi[k.toNat]? = some y := ⟨_, List.getElem?_eq_getElem (by have := Hl.out; omega)⟩
      obtain ⟨y0, y1⟩ := inb_i (Hu.out y (List.mem_of_getElem? hy))
      obtain ⟨s0, s1⟩ := Nums.shAt_bd n m i m1 n0 n1
      have hnS : cS ≠ ga := by
        obtain ⟨csA, hbA⟩ := (show SlA w base (.slice (some ⟨ga, 0, none⟩) fa.length p.ac) fa from by have := HW.out.o.a; rw [HP.out] at this; exact this).blk (q := ga) rfl
        exact bk_ne HSB.out hbA (by decide)
      have hnS2 : cS ≠ cR := bk_ne HSB.out HRB.out (by decide)
      have hSb := E.at HSB.out hnS hnS2
      have cG := giveP_c cS cR g ga base p ⟨t, s, us, fs, fi, se, oo⟩ ri k (Nums.shAt n m i) y wr hSb Hb.out Hw.out HP.out Hl.out k0 k3 hy y0 y1 s0 s1 (by omega) (by omega)
      have hpur : purA fi k = y.c0 := pur_get hy
      obtain ⟨tk, Htk⟩ : ∃ tk, Hid (tk = mn (Nums.shAt n m i) (1000000 - y.c0)) := ⟨_, rfl⟩
      have htk : tkP n m i fi k = tk := by unfold tkP; rw [hpur]; exact Htk.out.symm
      obtain ⟨t1, t2, _⟩ := mn_bd (Nums.shAt n m i) (1000000 - y.c0)
      have t0 : 0 ≤ mn (Nums.shAt n m i) (1000000 - y.c0) := by
        obtain ⟨_, _, h⟩ := mn_bd (Nums.shAt n m i) (1000000 - y.c0)
        omega
      rw [← Htk.out] at cG t0 t1 t2
      have w1 : WS (wr.setCell ⟨ga, k.toNat * 3, none⟩ (.int .i64 (y.c0 + tk))) base g p ⟨t, s, us, fs, setP fi k (y.c0 + tk), se, oo⟩ := Hw.out.setA HP.out (k.toNat * 3) _ _ (by have := Hl.out; dsimp only; omega) (setP_flat hy)
      have b2 : Blk (wr.setCell ⟨ga, k.toNat * 3, none⟩ (.int .i64 (y.c0 + tk))) cR #[.int .i64 ri] 2 := Hb.out.setOther (a := ⟨ga, _, none⟩) hRa _
      have HW2 : Hid (WS ((wr.setCell ⟨ga, k.toNat * 3, none⟩ (.int .i64 (y.c0 + tk))).setCell ⟨cR, 0, none⟩ (.int .i64 (ri - tk))) base g p ⟨t, s, us, fs, setP fi k (y.c0 + tk), se, oo⟩) := w1.setI b2 (by decide) (by decide) (by decide) (by decide) (by decide) (by decide) 0 _
      have HB2 : Hid (Blk ((wr.setCell ⟨ga, k.toNat * 3, none⟩ (.int .i64 (y.c0 + tk))).setCell ⟨cR, 0, none⟩ (.int .i64 (ri - tk))) cR #[.int .i64 (ri - tk)] 2) := b2.set 0 (.int .i64 (ri - tk))
      have E2 := (E.set1 (k.toNat * 3) (.int .i64 (y.c0 + tk))).set2 0 (.int .i64 (ri - tk))
      have HA2 : Hid (RA = shA n m (i + 1) (hs.drop (i + 1)) (setP fi k (y.c0 + tk))) := by
        show _ = _
        rw [HA.out, drop_cons hx]
        show shA n m (i + 1) (hs.drop (i + 1)) (setP fi k (purA fi k + tkP n m i fi k)) = _
        rw [htk, hpur]
      have HT2 : Hid (RT = (ri - tk) - shT n m (i + 1) (hs.drop (i + 1)) (setP fi k (y.c0 + tk))) := by
        show _ = _
        rw [HT.out, drop_cons hx]
        show ri - (tkP n m i fi k + shT n m (i + 1) (hs.drop (i + 1)) (setP fi k (purA fi k + tkP n m i fi k))) = _
        rw [htk, hpur]; omega
      have Hl2 : Hid ((setP fi k (y.c0 + tk)).length = 4) := by show _ = _; rw [setP_len]; exact Hl.out
      have Hu2 : Hid (∀ f ∈ setP fi k (y.c0 + tk), inb f.c0 0 1000000 = true) := setP_in Hu.out (by omega) (by omega)
      generalize Nums.shAt n m i = sh at c2 cG s0 s1 t1
      clear hx hpur htk w1 b2 hSb hy hz Htk
      go_wp2_with fail
      refine cG.mono ?_
      rintro e w5 ⟨rfl, hw5⟩
      obtain rfl := hw5.symm
      go_wp2_with fail
      go_roundw
      case rel => exact ⟨i + 1, _, _, by go_num, by omega, HA2, HT2, Hl2, Hu2, HW2, HB2, E2, by omega, by omega⟩
      case measure => simp [intOf]; omega
    · obtain rfl : i = m := by omega
      have hlt' : ¬ (i : Int) < (i : Int) := by omega
      have hd : hs.drop i = [] := List.drop_of_length_le (by have := HM.out; omega)
      have e1 : Hid (RA = fi) := by show _ = _; rw [HA.out, hd]; rfl
      have e2 : Hid (RT = ri) := by show _ = _; rw [HT.out, hd]; show ri - 0 = ri; omega
      clear hd
      go_wp2_with fail
      go_end0
      exact ⟨rfl, by rw [e1.out]; exact Hw.out, by rw [e2.out]; exact Hb.out, E⟩
end Go.Proofs.YthopodopedbooaaGreat
end
