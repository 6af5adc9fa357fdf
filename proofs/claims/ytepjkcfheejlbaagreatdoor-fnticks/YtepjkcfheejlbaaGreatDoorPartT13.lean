/- Texts of mine put together (a claim holds at most 60 files): OneWalks2, IntLists, Marks. -/
import Derived.Test.YtepjkcfheejlbaaGreatDoorPartT11
import Derived.Test.YtepjkcfheejlbaaGreatDoorPartT06
import Derived.Deep.QuietTactic
import Derived.BigQuiet
import Derived.Test.YtepjkcfheejlbaaGreatDoorPartT03

/- OneWalks2 -/
/- Contracts of UnitOf and of its model. Condition: the board's two lists lie in memory as they were laid there; the Id is a number of its kind. -/
section
namespace Go.Proofs.YtepjkcfheejlbaaGreatDoor
open Go.ChangeShapes Go.WideShapes Go.ChangeAt Go.RowKit
open Bd
set_option linter.unusedVariables false

def uoC (us : List K10) (fs : List K3) (i : Int) : Int := if (bf us fs == 0) = true then (if (findU us i).isSome = true then 0 else 4) else bf us fs
def uoU (us : List K10) (fs : List K3) (i : Int) : K10 := if (bf us fs == 0) = true then (findU us i).getD K10.z else K10.z
theorem uo_cases (us : List K10) (fs : List K3) (i : Int) : ((bf us fs == 0) = false ∧ uoC us fs i = bf us fs ∧ uoU us fs i = K10.z) ∨ (bf us fs = 0 ∧ atI us i = -1 ∧ findU us i = none ∧ uoC us fs i = 4 ∧ uoU us fs i = K10.z) ∨ (∃ (k : Nat) (x : K10), bf us fs = 0 ∧ atI us i = (k : Int) ∧ us[k]? = some x ∧ findU us i = some x ∧ uoC us fs i = 0 ∧ uoU us fs i = x) := by
  unfold uoC uoU
  cases h : bf us fs == 0
  · exact .inl ⟨rfl, rfl, rfl⟩
  · have h0 : bf us fs = 0 := by simpa using h
    rcases atU_find us i with ⟨h1, h2⟩ | ⟨k, x, h1, h2, h3⟩
    · exact .inr (.inl ⟨h0, by unfold atI; rw [h1], h2, by rw [h2]; rfl, by rw [h2]; rfl⟩)
    · exact .inr (.inr ⟨k, x, h0, by unfold atI; rw [h1], h2, h3, by rw [h3]; rfl, by rw [h3]; rfl⟩)
abbrev elevenV (C : Int) (x : K10) : Array Value := #[.int .i64 C, .int .i64 x.c0, .int .i64 x.c1, .int .i64 x.c2, .int .i64 x.c3, .int .i64 x.c4, .int .i64 x.c5, .int .i64 x.c6, .int .i64 x.c7, .int .i64 x.c8, .int .i64 x.c9]
theorem heap_push (w : World) (o : Obj) : (w.alloc o).heap[w.heap.size]? = some o := by
  show (w.heap.push _)[w.heap.size]? = _
  simp
theorem two_el (w : World) (s f : Value) (t t2 : TypeId) : let W := (w.alloc (.cells #[s, f] t)).alloc (.cells (elevenV 0 K10.z) t2)
    W.rowIs w.heap.size t 2 (fun i => if i = 0 then s else f) ∧ W.rowIs (w.heap.size + 1) t2 11 (fun _ => .int .i64 0) ∧ Below w.heap.size w W ∧ W.heap.size = w.heap.size + 1 + 1 := by
  intro W
  have s1 : (w.alloc (.cells #[s, f] t)).heap.size = w.heap.size + 1 := size_new _ _
  have s2 : W.heap.size = w.heap.size + 1 + 1 := by show (World.alloc _ _).heap.size = _; rw [size_new, s1]
  have b1 : Below (w.alloc (.cells #[s, f] t)).heap.size (w.alloc (.cells #[s, f] t)) W := (Below.refl _ _).alloc (Nat.le_refl _) _
  have r0 := rowTwo w s f t
  have r1 : W.rowIs (w.heap.size + 1) t2 11 (fun _ => .int .i64 0) := by
    refine ⟨elevenV 0 K10.z, ?_, rfl, fun i hi => ?_⟩
    · have h := heap_push (w.alloc (.cells #[s, f] t)) (.cells (elevenV 0 K10.z) t2)
      rw [s1] at h; exact h
    · have h : i = 0 ∨ i = 1 ∨ i = 2 ∨ i = 3 ∨ i = 4 ∨ i = 5 ∨ i = 6 ∨ i = 7 ∨ i = 8 ∨ i = 9 ∨ i = 10 := by omega
      rcases h with rfl | rfl | rfl | rfl | rfl | rfl | rfl | rfl | rfl | rfl | rfl <;> rfl
  exact ⟨r0.of_block (b1.block _ r0.lt), r1, ((Below.refl _ _).alloc (Nat.le_refl _) _).alloc (by rw [s1]; omega) _, s2⟩
end Go.Proofs.YtepjkcfheejlbaaGreatDoor
end

/- IntLists -/
/- Contracts of the exact laws' own helpers on lists of int64: equal lists are equal, marks that were laid are held. Conditions: the lists lie in memory of their own, at most 1000000 numbers. -/
section
namespace Go.Proofs.YtepjkcfheejlbaaGreatDoor
open Go.ChangeShapes Go.WideShapes Go.ChangeAt Go.RowKit
set_option linter.unusedVariables false

def marks (k : Int) (m : Nat) : List Int := (List.range m).map (fun (i : Nat) => k + (i : Int))
theorem marks_len (k : Int) (m : Nat) : (marks k m).length = m := by simp [marks]
theorem marks_get (k : Int) (m i : Nat) (h : i < m) : (marks k m)[i]? = some (k + (i : Int)) := by simp [marks, h]

set_option maxHeartbeats 1000000 in
theorem eqInt64S_same (w : World) (g1 c1 g2 c2 m : Nat) (l : List Int) (hm : l.length = m) (hm2 : m ≤ 1048576) (h1 : Lst w g1 c1 l) (h2 : Lst w g2 c2 l) :
    Calls Tryz.prog 30 #[.slice (some ⟨g1, 0, none⟩) m c1, .slice (some ⟨g2, 0, none⟩) m c2] w fun e w' => e = .returned (.bool true) ∧ ∃ nq, w' = w.drewN nq := by
  go_enter Tryz.func30, Tryz.ntmps30
  go_wp2
  go_loopw [5] (fun i wr => ∃ k : Nat, k ≤ m ∧ i = .int .i64 k ∧ ∃ nq, wr = w.drewN nq) (fun i _ => m - (intOf i).toNat)
  case atStart => exact ⟨0, Nat.zero_le _, rfl, 0, rfl⟩
  case round =>
    obtain ⟨k, hk, rfl, nq, rfl⟩ := hrel
    by_cases hlt : k < m
    · have hlt' : (k : Int) < (m : Int) := by omega
      obtain ⟨x, hx⟩ : ∃ x, l[k]? = some x := ⟨_, List.getElem?_eq_getElem (by omega)⟩
      have u1 := h1.cell hx
      have u2 := h2.cell hx
      clear hx
      go_wp2
      go_quiet (fail)
      go_wp2
      go_roundw
      case rel => exact ⟨k + 1, by omega, by go_num, _, rfl⟩
      case measure => simp [intOf]; omega
    · go_wp2
      go_ret
      exact ⟨rfl, nq, rfl⟩
theorem eqInt64S_nil (w : World) :
    Calls Tryz.prog 30 #[.slice none 0 0, .slice none 0 0] w fun e w' => e = .returned (.bool true) ∧ ∃ nq, w' = w.drewN nq := by
  go_enter Tryz.func30, Tryz.ntmps30
  go_wp2
  refine wp_loop_rounds 1 ?_
  rw [rounds_succ]
  go_wp2
  go_ret
  exact ⟨rfl, 0, rfl⟩
set_option maxHeartbeats 1000000 in
theorem markInt64S_any (w : World) (g cap m : Nat) (k0 : Int) (l : List Int) (hm : l.length = m) (hm2 : m ≤ 1048576) (hk0 : 0 ≤ k0) (hk1 : k0 ≤ 1000000000) (h : Lst w g cap l) :
    Calls Tryz.prog 32 #[.slice (some ⟨g, 0, none⟩) m cap, .int .i64 k0] w fun e w' => e = .returned (.int .i64 (k0 + m)) ∧ Lst w' g cap (marks k0 m) ∧ w.grownBy w' (some g) := by
  go_enter Tryz.func32, Tryz.ntmps32
  go_wp2
  go_loopw [1, 5] (fun c i wr => ∃ (k : Nat) (l' : List Int), k ≤ m ∧ i = .int .i64 k ∧ c = .int .i64 (k0 + (k : Int)) ∧ Lst wr g cap l' ∧ Hid (l'.length = m) ∧ Hid (∀ j, j < k → l'[j]? = some (k0 + (j : Int))) ∧ w.grownBy wr (some g)) (fun _ i _ => m - (intOf i).toNat)
  case atStart => exact ⟨0, l, Nat.zero_le _, rfl, by go_num, h, hm, fun j hj => by omega, World.grownBy.refl _ _⟩
  case round =>
    obtain ⟨k, l', hk, rfl, rfl, hL, hl', hj, hgr⟩ := hrel
    by_cases hlt : k < m
    · have hlt' : (k : Int) < (m : Int) := by omega
      have hlen := hl'.out
      obtain ⟨x, hx⟩ : ∃ x, l'[k]? = some x := ⟨_, List.getElem?_eq_getElem (by omega)⟩
      have u1 := hL.cell hx
      have fz := hL.frozen k
      clear hx hlen
      go_wp2
      go_roundw
      case rel =>
        refine ⟨k + 1, l'.set k (k0 + (k : Int)), by omega, by go_num, by go_num, hL.set k _, ?_, ?_, ?_⟩
        · show (l'.set k (k0 + (k : Int))).length = m
          rw [List.length_set]; exact hl'.out
        · intro j hj'
          have hlen := hl'.out
          by_cases e : j = k
          · subst e; rw [List.getElem?_set_self (by omega)]
          · rw [List.getElem?_set_ne (by omega)]; exact hj.out j (by omega)
        · exact ⟨hgr.os, hgr.tape, hgr.output, by simpa [World.setCell] using hgr.size, fun i hi hne => (Below.heap_setCell _ _ _ _ (fun e => hne (by rw [e]))).trans (hgr.block i hi hne)⟩
      case measure => simp [intOf]; omega
    · obtain rfl : k = m := by omega
      have e : l' = marks k0 k := by
        apply List.ext_getElem?
        intro i
        by_cases hi : i < k
        · rw [hj.out i hi, marks_get k0 k i hi]
        · rw [List.getElem?_eq_none (by rw [hl'.out]; omega), List.getElem?_eq_none (by rw [marks_len]; omega)]
      rw [e] at hL
      clear e
      go_wp2
      go_ret
      exact ⟨rfl, hL, hgr⟩
theorem markInt64S_nil (w : World) (k0 : Int) :
    Calls Tryz.prog 32 #[.slice none 0 0, .int .i64 k0] w fun e w' => e = .returned (.int .i64 k0) ∧ w' = w := by
  go_enter Tryz.func32, Tryz.ntmps32
  go_wp2
  refine wp_loop_rounds 1 ?_
  rw [rounds_succ]
  go_wp2
  go_ret
  exact ⟨rfl, rfl⟩
set_option maxHeartbeats 1000000 in
theorem heldInt64S_any (w : World) (g cap m : Nat) (k0 : Int) (hm2 : m ≤ 1048576) (hk0 : 0 ≤ k0) (hk1 : k0 ≤ 1000000000) (h : Lst w g cap (marks k0 m)) :
    Calls Tryz.prog 66 #[.slice (some ⟨g, 0, none⟩) m cap, .int .i64 k0] w fun e w' => e = .returned (.int .i64 (k0 + m)) ∧ w' = w := by
  go_enter Tryz.func66, Tryz.ntmps66
  go_wp2
  go_loop [1, 5] (fun c i => ∃ k : Nat, k ≤ m ∧ i = .int .i64 k ∧ c = .int .i64 (k0 + (k : Int))) (fun _ i => m - (intOf i).toNat)
  case atStart => exact ⟨0, Nat.zero_le _, rfl, by go_num⟩
  case round =>
    obtain ⟨k, hk, rfl, rfl⟩ := hrel
    by_cases hlt : k < m
    · have hlt' : (k : Int) < (m : Int) := by omega
      have u1 := h.cell (marks_get k0 m k hlt)
      go_wp2
      go_round
      case rel => exact ⟨k + 1, by omega, by go_num, by go_num⟩
      case measure => simp [intOf]; omega
    · obtain rfl : k = m := by omega
      go_wp2
      go_ret
      exact ⟨rfl, rfl⟩
theorem heldInt64S_nil (w : World) (k0 : Int) :
    Calls Tryz.prog 66 #[.slice none 0 0, .int .i64 k0] w fun e w' => e = .returned (.int .i64 k0) ∧ w' = w := by
  go_enter Tryz.func66, Tryz.ntmps66
  go_wp2
  refine wp_loop_rounds 1 ?_
  rw [rounds_succ]
  go_wp2
  go_ret
  exact ⟨rfl, rfl⟩
end Go.Proofs.YtepjkcfheejlbaaGreatDoor
end

/- Marks -/
/- Contracts of the exact laws' own marks on lists of units and of fields, and on boards. Condition: the lists lie in blocks of their own and have at most 1048576 members. -/
section
namespace Go.Proofs.YtepjkcfheejlbaaGreatDoor
open Go.ChangeShapes Go.WideShapes Go.ChangeAt Go.RowKit
set_option linter.unusedVariables false

/- the first j cells bear the marks from k0 on -/
def mkd (k0 : Int) (f : Nat → Value) (j : Nat) (i : Nat) : Value := if i < j then .int .i64 (k0 + (i : Int)) else f i
theorem grown_set0 (w : World) (g o : Nat) (v : Value) : w.grownBy (w.setCell ⟨g, o, none⟩ v) (some g) :=
  ⟨rfl, rfl, rfl, by simp [World.setCell], fun i _ hne => Below.heap_setCell _ ⟨g, o, none⟩ v i (fun e => hne (by rw [e]))⟩
theorem grown_tr {a b c : World} {row : Option Nat} (h : a.grownBy b row) (k : b.grownBy c row) : a.grownBy c row :=
  ⟨k.os.trans h.os, k.tape.trans h.tape, k.output.trans h.output, Nat.le_trans h.size k.size, fun i hi hne => (k.block i (Nat.lt_of_lt_of_le hi h.size) hne).trans (h.block i hi hne)⟩
theorem grown_same (w : World) (row : Option Nat) : w.grownBy w row := ⟨rfl, rfl, rfl, Nat.le_refl _, fun _ _ _ => rfl⟩
theorem mkd_set10 (k0 : Int) (f : Nat → Value) (k : Nat) (KK : Int) (hK : KK = k0 + 10 * (k : Int)) (i : Nat) :
    (if i = k * 10 + 9 then Value.int .i64 (KK + 1 + 1 + 1 + 1 + 1 + 1 + 1 + 1 + 1) else if i = k * 10 + 8 then Value.int .i64 (KK + 1 + 1 + 1 + 1 + 1 + 1 + 1 + 1) else if i = k * 10 + 7 then Value.int .i64 (KK + 1 + 1 + 1 + 1 + 1 + 1 + 1) else if i = k * 10 + 6 then Value.int .i64 (KK + 1 + 1 + 1 + 1 + 1 + 1) else if i = k * 10 + 5 then Value.int .i64 (KK + 1 + 1 + 1 + 1 + 1) else if i = k * 10 + 4 then Value.int .i64 (KK + 1 + 1 + 1 + 1) else if i = k * 10 + 3 then Value.int .i64 (KK + 1 + 1 + 1) else if i = k * 10 + 2 then Value.int .i64 (KK + 1 + 1) else if i = k * 10 + 1 then Value.int .i64 (KK + 1) else if i = k * 10 then Value.int .i64 (KK) else mkd k0 f (k * 10) i) = mkd k0 f ((k + 1) * 10) i := by
  subst hK
  unfold mkd
  by_cases e9 : i = k * 10 + 9
  · rw [if_pos e9, if_pos (by omega)]; congr 1; omega
  rw [if_neg e9]
  by_cases e8 : i = k * 10 + 8
  · rw [if_pos e8, if_pos (by omega)]; congr 1; omega
  rw [if_neg e8]
  by_cases e7 : i = k * 10 + 7
  · rw [if_pos e7, if_pos (by omega)]; congr 1; omega
  rw [if_neg e7]
  by_cases e6 : i = k * 10 + 6
  · rw [if_pos e6, if_pos (by omega)]; congr 1; omega
  rw [if_neg e6]
  by_cases e5 : i = k * 10 + 5
  · rw [if_pos e5, if_pos (by omega)]; congr 1; omega
  rw [if_neg e5]
  by_cases e4 : i = k * 10 + 4
  · rw [if_pos e4, if_pos (by omega)]; congr 1; omega
  rw [if_neg e4]
  by_cases e3 : i = k * 10 + 3
  · rw [if_pos e3, if_pos (by omega)]; congr 1; omega
  rw [if_neg e3]
  by_cases e2 : i = k * 10 + 2
  · rw [if_pos e2, if_pos (by omega)]; congr 1; omega
  rw [if_neg e2]
  by_cases e1 : i = k * 10 + 1
  · rw [if_pos e1, if_pos (by omega)]; congr 1; omega
  rw [if_neg e1]
  by_cases e0 : i = k * 10
  · rw [if_pos e0, if_pos (by omega)]; congr 1; omega
  rw [if_neg e0]
  by_cases hi : i < k * 10
  · rw [if_pos hi, if_pos (by omega)]
  · rw [if_neg hi, if_neg (by omega)]
set_option maxRecDepth 20000 in
set_option maxHeartbeats 4000000 in
theorem markUnitS_c (w : World) (g cap m N : Nat) (k0 : Int) (f : Nat → Value) (hN : m * 10 ≤ N) (hm : m ≤ 1048576) (hk0 : 0 ≤ k0) (hk1 : k0 ≤ 1000000000) (h : w.rowIs g 87 N f) (hf : ∀ i, i < N → ∃ z : Int, f i = .int .i64 z) :
    Calls Tryz.prog 64 #[.slice (some ⟨g, 0, none⟩) m cap, .int .i64 k0] w fun e w' => e = .returned (.int .i64 (k0 + 10 * (m : Int))) ∧ w'.rowIs g 87 N (mkd k0 f (m * 10)) ∧ w.grownBy w' (some g) := by
  have H : Hid (w.rowIs g 87 N f) := h
  have Hf : Hid (∀ i, i < N → ∃ z : Int, f i = .int .i64 z) := hf
  clear h hf
  go_enter Tryz.func64, Tryz.ntmps64
  go_wp2
  go_loopw [1, 5] (fun kk i wr => ∃ k : Nat, k ≤ m ∧ i = .int .i64 k ∧ kk = .int .i64 (k0 + 10 * (k : Int)) ∧ wr.rowIs g 87 N (mkd k0 f (k * 10)) ∧ w.grownBy wr (some g)) (fun _ i _ => m - (intOf i).toNat)
  case atStart => exact ⟨0, Nat.zero_le _, rfl, by simp, H.out.congr (fun i _ => by unfold mkd; rw [if_neg (by omega)]), grown_same _ _⟩
  case round =>
    obtain ⟨k, hk, rfl, rfl, hrow, hg⟩ := hrel
    by_cases hlt : k < m
    · have hlt' : (k : Int) < (m : Int) := by omega
      obtain ⟨KK, HK⟩ : ∃ KK : Int, Hid (KK = k0 + 10 * (k : Int)) := ⟨_, rfl⟩
      rw [← HK.out]
      have K0 : 0 ≤ KK := by rw [HK.out]; omega
      have K1 : KK ≤ 1100000000 := by rw [HK.out]; omega
      obtain ⟨y0, hy0⟩ := Hf.out (k * 10) (by omega)
      have d0 : wr.cell? ⟨g, k * 10, none⟩ = some (.int .i64 y0) := by rw [hrow.cell (by omega)]; unfold mkd; rw [if_neg (by omega), hy0]
      have z0 := hrow.frozen (k * 10)
      obtain ⟨y1, hy1⟩ := Hf.out (k * 10 + 1) (by omega)
      have d1 : wr.cell? ⟨g, k * 10 + 1, none⟩ = some (.int .i64 y1) := by rw [hrow.cell (by omega)]; unfold mkd; rw [if_neg (by omega), hy1]
      have z1 := hrow.frozen (k * 10 + 1)
      obtain ⟨y2, hy2⟩ := Hf.out (k * 10 + 2) (by omega)
      have d2 : wr.cell? ⟨g, k * 10 + 2, none⟩ = some (.int .i64 y2) := by rw [hrow.cell (by omega)]; unfold mkd; rw [if_neg (by omega), hy2]
      have z2 := hrow.frozen (k * 10 + 2)
      obtain ⟨y3, hy3⟩ := Hf.out (k * 10 + 3) (by omega)
      have d3 : wr.cell? ⟨g, k * 10 + 3, none⟩ = some (.int .i64 y3) := by rw [hrow.cell (by omega)]; unfold mkd; rw [if_neg (by omega), hy3]
      have z3 := hrow.frozen (k * 10 + 3)
      obtain ⟨y4, hy4⟩ := Hf.out (k * 10 + 4) (by omega)
      have d4 : wr.cell? ⟨g, k * 10 + 4, none⟩ = some (.int .i64 y4) := by rw [hrow.cell (by omega)]; unfold mkd; rw [if_neg (by omega), hy4]
      have z4 := hrow.frozen (k * 10 + 4)
      obtain ⟨y5, hy5⟩ := Hf.out (k * 10 + 5) (by omega)
      have d5 : wr.cell? ⟨g, k * 10 + 5, none⟩ = some (.int .i64 y5) := by rw [hrow.cell (by omega)]; unfold mkd; rw [if_neg (by omega), hy5]
      have z5 := hrow.frozen (k * 10 + 5)
      obtain ⟨y6, hy6⟩ := Hf.out (k * 10 + 6) (by omega)
      have d6 : wr.cell? ⟨g, k * 10 + 6, none⟩ = some (.int .i64 y6) := by rw [hrow.cell (by omega)]; unfold mkd; rw [if_neg (by omega), hy6]
      have z6 := hrow.frozen (k * 10 + 6)
      obtain ⟨y7, hy7⟩ := Hf.out (k * 10 + 7) (by omega)
      have d7 : wr.cell? ⟨g, k * 10 + 7, none⟩ = some (.int .i64 y7) := by rw [hrow.cell (by omega)]; unfold mkd; rw [if_neg (by omega), hy7]
      have z7 := hrow.frozen (k * 10 + 7)
      obtain ⟨y8, hy8⟩ := Hf.out (k * 10 + 8) (by omega)
      have d8 : wr.cell? ⟨g, k * 10 + 8, none⟩ = some (.int .i64 y8) := by rw [hrow.cell (by omega)]; unfold mkd; rw [if_neg (by omega), hy8]
      have z8 := hrow.frozen (k * 10 + 8)
      obtain ⟨y9, hy9⟩ := Hf.out (k * 10 + 9) (by omega)
      have d9 : wr.cell? ⟨g, k * 10 + 9, none⟩ = some (.int .i64 y9) := by rw [hrow.cell (by omega)]; unfold mkd; rw [if_neg (by omega), hy9]
      have z9 := hrow.frozen (k * 10 + 9)
      have rl := hrow.lt
      clear hy0 hy1 hy2 hy3 hy4 hy5 hy6 hy7 hy8 hy9
      go_wp2
      go_roundw
      case rel => exact ⟨k + 1, by omega, by go_num, by rw [HK.out]; congr 1; push_cast; omega, ((((((((((hrow.set (k * 10) (.int .i64 (KK))).set (k * 10 + 1) (.int .i64 (KK + 1))).set (k * 10 + 2) (.int .i64 (KK + 1 + 1))).set (k * 10 + 3) (.int .i64 (KK + 1 + 1 + 1))).set (k * 10 + 4) (.int .i64 (KK + 1 + 1 + 1 + 1))).set (k * 10 + 5) (.int .i64 (KK + 1 + 1 + 1 + 1 + 1))).set (k * 10 + 6) (.int .i64 (KK + 1 + 1 + 1 + 1 + 1 + 1))).set (k * 10 + 7) (.int .i64 (KK + 1 + 1 + 1 + 1 + 1 + 1 + 1))).set (k * 10 + 8) (.int .i64 (KK + 1 + 1 + 1 + 1 + 1 + 1 + 1 + 1))).set (k * 10 + 9) (.int .i64 (KK + 1 + 1 + 1 + 1 + 1 + 1 + 1 + 1 + 1))).congr (fun j _ => mkd_set10 k0 f k KK HK.out j), (grown_tr (grown_tr (grown_tr (grown_tr (grown_tr (grown_tr (grown_tr (grown_tr (grown_tr (grown_tr hg (grown_set0 _ g (k * 10) _)) (grown_set0 _ g (k * 10 + 1) _)) (grown_set0 _ g (k * 10 + 2) _)) (grown_set0 _ g (k * 10 + 3) _)) (grown_set0 _ g (k * 10 + 4) _)) (grown_set0 _ g (k * 10 + 5) _)) (grown_set0 _ g (k * 10 + 6) _)) (grown_set0 _ g (k * 10 + 7) _)) (grown_set0 _ g (k * 10 + 8) _)) (grown_set0 _ g (k * 10 + 9) _))⟩
      case measure => simp [intOf]; omega
    · obtain rfl : k = m := by omega
      go_wp2
      go_ret
      exact ⟨rfl, hrow, hg⟩
theorem mkd_set3 (k0 : Int) (f : Nat → Value) (k : Nat) (KK : Int) (hK : KK = k0 + 3 * (k : Int)) (i : Nat) :
    (if i = k * 3 + 2 then Value.int .i64 (KK + 1 + 1) else if i = k * 3 + 1 then Value.int .i64 (KK + 1) else if i = k * 3 then Value.int .i64 (KK) else mkd k0 f (k * 3) i) = mkd k0 f ((k + 1) * 3) i := by
  subst hK
  unfold mkd
  by_cases e2 : i = k * 3 + 2
  · rw [if_pos e2, if_pos (by omega)]; congr 1; omega
  rw [if_neg e2]
  by_cases e1 : i = k * 3 + 1
  · rw [if_pos e1, if_pos (by omega)]; congr 1; omega
  rw [if_neg e1]
  by_cases e0 : i = k * 3
  · rw [if_pos e0, if_pos (by omega)]; congr 1; omega
  rw [if_neg e0]
  by_cases hi : i < k * 3
  · rw [if_pos hi, if_pos (by omega)]
  · rw [if_neg hi, if_neg (by omega)]
set_option maxRecDepth 20000 in
set_option maxHeartbeats 4000000 in
theorem markFieldS_c (w : World) (g cap m N : Nat) (k0 : Int) (f : Nat → Value) (hN : m * 3 ≤ N) (hm : m ≤ 1048576) (hk0 : 0 ≤ k0) (hk1 : k0 ≤ 1000000000) (h : w.rowIs g 90 N f) (hf : ∀ i, i < N → ∃ z : Int, f i = .int .i64 z) :
    Calls Tryz.prog 65 #[.slice (some ⟨g, 0, none⟩) m cap, .int .i64 k0] w fun e w' => e = .returned (.int .i64 (k0 + 3 * (m : Int))) ∧ w'.rowIs g 90 N (mkd k0 f (m * 3)) ∧ w.grownBy w' (some g) := by
  have H : Hid (w.rowIs g 90 N f) := h
  have Hf : Hid (∀ i, i < N → ∃ z : Int, f i = .int .i64 z) := hf
  clear h hf
  go_enter Tryz.func65, Tryz.ntmps65
  go_wp2
  go_loopw [1, 5] (fun kk i wr => ∃ k : Nat, k ≤ m ∧ i = .int .i64 k ∧ kk = .int .i64 (k0 + 3 * (k : Int)) ∧ wr.rowIs g 90 N (mkd k0 f (k * 3)) ∧ w.grownBy wr (some g)) (fun _ i _ => m - (intOf i).toNat)
  case atStart => exact ⟨0, Nat.zero_le _, rfl, by simp, H.out.congr (fun i _ => by unfold mkd; rw [if_neg (by omega)]), grown_same _ _⟩
  case round =>
    obtain ⟨k, hk, rfl, rfl, hrow, hg⟩ := hrel
    by_cases hlt : k < m
    · have hlt' : (k : Int) < (m : Int) := by omega
      obtain ⟨KK, HK⟩ : ∃ KK : Int, Hid (KK = k0 + 3 * (k : Int)) := ⟨_, rfl⟩
      rw [← HK.out]
      have K0 : 0 ≤ KK := by rw [HK.out]; omega
      have K1 : KK ≤ 1100000000 := by rw [HK.out]; omega
      obtain ⟨y0, hy0⟩ := Hf.out (k * 3) (by omega)
      have d0 : wr.cell? ⟨g, k * 3, none⟩ = some (.int .i64 y0) := by rw [hrow.cell (by omega)]; unfold mkd; rw [if_neg (by omega), hy0]
      have z0 := hrow.frozen (k * 3)
      obtain ⟨y1, hy1⟩ := Hf.out (k * 3 + 1) (by omega)
      have d1 : wr.cell? ⟨g, k * 3 + 1, none⟩ = some (.int .i64 y1) := by rw [hrow.cell (by omega)]; unfold mkd; rw [if_neg (by omega), hy1]
      have z1 := hrow.frozen (k * 3 + 1)
      obtain ⟨y2, hy2⟩ := Hf.out (k * 3 + 2) (by omega)
      have d2 : wr.cell? ⟨g, k * 3 + 2, none⟩ = some (.int .i64 y2) := by rw [hrow.cell (by omega)]; unfold mkd; rw [if_neg (by omega), hy2]
      have z2 := hrow.frozen (k * 3 + 2)
      have rl := hrow.lt
      clear hy0 hy1 hy2
      go_wp2
      go_roundw
      case rel => exact ⟨k + 1, by omega, by go_num, by rw [HK.out]; congr 1; push_cast; omega, (((hrow.set (k * 3) (.int .i64 (KK))).set (k * 3 + 1) (.int .i64 (KK + 1))).set (k * 3 + 2) (.int .i64 (KK + 1 + 1))).congr (fun j _ => mkd_set3 k0 f k KK HK.out j), (grown_tr (grown_tr (grown_tr hg (grown_set0 _ g (k * 3) _)) (grown_set0 _ g (k * 3 + 1) _)) (grown_set0 _ g (k * 3 + 2) _))⟩
      case measure => simp [intOf]; omega
    · obtain rfl : k = m := by omega
      go_wp2
      go_ret
      exact ⟨rfl, hrow, hg⟩
end Go.Proofs.YtepjkcfheejlbaaGreatDoor
end
