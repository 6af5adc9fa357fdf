/- Texts of mine put together (a claim holds at most 60 files): OneWalks2, IntLists, OwnLaw. -/
import Derived.Test.YtlonmobfjpmokaaGreatDoorPartU17
import Derived.Test.YtlonmobfjpmokaaGreatDoorPartU21
import Derived.Deep.QuietTactic
import Derived.BigQuiet
import Derived.Test.YtlonmobfjpmokaaGreatDoorPartU24
import Derived.Test.YtlonmobfjpmokaaGreatDoorPartU06
import Derived.Test.YtlonmobfjpmokaaGreatDoorPartU19
import Derived.Deep.Cut
import Derived.Deep.CutRange

/- OneWalks2 -/
/- Contracts of UnitOf and of its model. Condition: the board's two lists lie in memory as they were laid there; the Id is a number of its kind. -/
section
namespace Go.Proofs.YtlonmobfjpmokaaGreatDoor
open Go.ChangeShapes Go.WideShapes Go.ChangeAt Go.RowKit
open Bd
set_option linter.unusedVariables false

def uoC (us : List K10) (fs : List K3) (i : Int) : Int := if (bf us fs == 0) = true then (if (findU us i).isSome = true then 0 else 4) else bf us fs
def uoU (us : List K10) (fs : List K3) (i : Int) : K10 := if (bf us fs == 0) = true then (findU us i).getD K10.z else K10.z
theorem uo_cases (us : List K10) (fs : List K3) (i : Int) : ((bf us fs == 0) = false ∧ uoC us fs i = bf us fs ∧ uoU us fs i = K10.z) ∨ (bf us fs = 0 ∧ atI us i = -1 ∧ findU us i = none ∧ uoC us fs i = 4 ∧ uoU us fs i = K10.z) ∨ (∃ (k : Nat) (x : K10), bf us fs = 0 ∧ atI us i = (k : Int) ∧ us[k]? = some x ∧ findU us i = some x ∧ uoC us fs i = 0 ∧ uoU us fs i = x) := by
  unfold uoC uoU
  cases h : bf us fs == 0
  · exact .inl ⟨rfl, rfl, rfl⟩
  · have h0 : bf us fs = 0 := by simpa using h
    rcases atU_find us i with ⟨h1, h2⟩ | ⟨k, x, h1, h2, h3⟩
    · exact .inr (.inl ⟨h0, by unfold atI; rw [h1], h2, by rw [h2]; rfl, by rw [h2]; rfl⟩)
    · exact .inr (.inr ⟨k, x, h0, by unfold atI; rw [h1], h2, h3, by rw [h3]; rfl, by rw [h3]; rfl⟩)
abbrev elevenV (C : Int) (x : K10) : Array Value := #[.int .i64 C, .int .i64 x.c0, .int .i64 x.c1, .int .i64 x.c2, .int .i64 x.c3, .int .i64 x.c4, .int .i64 x.c5, .int .i64 x.c6, .int .i64 x.c7, .int .i64 x.c8, .int .i64 x.c9]
theorem heap_push (w : World) (o : Obj) : (w.alloc o).heap[w.heap.size]? = some o := by
  show (w.heap.push _)[w.heap.size]? = _
  simp
theorem two_el (w : World) (s f : Value) (t t2 : TypeId) : let W := (w.alloc (.cells #[s, f] t)).alloc (.cells (elevenV 0 K10.z) t2)
    W.rowIs w.heap.size t 2 (fun i => if i = 0 then s else f) ∧ W.rowIs (w.heap.size + 1) t2 11 (fun _ => .int .i64 0) ∧ Below w.heap.size w W ∧ W.heap.size = w.heap.size + 1 + 1 := by
  intro W
  have s1 : (w.alloc (.cells #[s, f] t)).heap.size = w.heap.size + 1 := size_new _ _
  have s2 : W.heap.size = w.heap.size + 1 + 1 := by show (World.alloc _ _).heap.size = _; rw [size_new, s1]
  have b1 : Below (w.alloc (.cells #[s, f] t)).heap.size (w.alloc (.cells #[s, f] t)) W := (Below.refl _ _).alloc (Nat.le_refl _) _
  have r0 := rowTwo w s f t
  have r1 : W.rowIs (w.heap.size + 1) t2 11 (fun _ => .int .i64 0) := by
    refine ⟨elevenV 0 K10.z, ?_, rfl, fun i hi => ?_⟩
    · have h := heap_push (w.alloc (.cells #[s, f] t)) (.cells (elevenV 0 K10.z) t2)
      rw [s1] at h; exact h
    · have h : i = 0 ∨ i = 1 ∨ i = 2 ∨ i = 3 ∨ i = 4 ∨ i = 5 ∨ i = 6 ∨ i = 7 ∨ i = 8 ∨ i = 9 ∨ i = 10 := by omega
      rcases h with rfl | rfl | rfl | rfl | rfl | rfl | rfl | rfl | rfl | rfl | rfl <;> rfl
  exact ⟨r0.of_block (b1.block _ r0.lt), r1, ((Below.refl _ _).alloc (Nat.le_refl _) _).alloc (by rw [s1]; omega) _, s2⟩
end Go.Proofs.YtlonmobfjpmokaaGreatDoor
end

/- IntLists -/
/- Contracts of the exact laws' own helpers on lists of int64: equal lists are equal, marks that were laid are held. Conditions: the lists lie in memory of their own, at most 1000000 numbers. -/
section
namespace Go.Proofs.YtlonmobfjpmokaaGreatDoor
open Go.ChangeShapes Go.WideShapes Go.ChangeAt Go.RowKit
set_option linter.unusedVariables false

def marks (k : Int) (m : Nat) : List Int := (List.range m).map (fun (i : Nat) => k + (i : Int))
theorem marks_len (k : Int) (m : Nat) : (marks k m).length = m := by simp [marks]
theorem marks_get (k : Int) (m i : Nat) (h : i < m) : (marks k m)[i]? = some (k + (i : Int)) := by simp [marks, h]

set_option maxHeartbeats 1000000 in
theorem eqInt64S_same (w : World) (g1 c1 g2 c2 m : Nat) (l : List Int) (hm : l.length = m) (hm2 : m ≤ 1048576) (h1 : Lst w g1 c1 l) (h2 : Lst w g2 c2 l) :
    Calls Tryz.prog 30 #[.slice (some ⟨g1, 0, none⟩) m c1, .slice (some ⟨g2, 0, none⟩) m c2] w fun e w' => e = .returned (.bool true) ∧ ∃ nq, w' = w.drewN nq := by
  go_enter Tryz.func30, Tryz.ntmps30
  go_wp2
  go_loopw [5] (fun i wr => ∃ k : Nat, k ≤ m ∧ i = .int .i64 k ∧ ∃ nq, wr = w.drewN nq) (fun i _ => m - (intOf i).toNat)
  case atStart => exact ⟨0, Nat.zero_le _, rfl, 0, rfl⟩
  case round =>
    obtain ⟨k, hk, rfl, nq, rfl⟩ := hrel
    by_cases hlt : k < m
    · have hlt' : (k : Int) < (m : Int) := by omega
      obtain ⟨x, hx⟩ : ∃ x, l[k]? = some x := ⟨_, List.getElem?_eq_getElem (by omega)⟩
      have u1 := h1.cell hx
      have u2 := h2.cell hx
      clear hx
      go_wp2
      go_quiet (fail)
      go_wp2
      go_roundw
      case rel => exact ⟨k + 1, by omega, by go_num, _, rfl⟩
      case measure => simp [intOf]; omega
    · go_wp2
      go_ret
      exact ⟨rfl, nq, rfl⟩
theorem eqInt64S_nil (w : World) :
    Calls Tryz.prog 30 #[.slice none 0 0, .slice none 0 0] w fun e w' => e = .returned (.bool true) ∧ ∃ nq, w' = w.drewN nq := by
  go_enter Tryz.func30, Tryz.ntmps30
  go_wp2
  refine wp_loop_rounds 1 ?_
  rw [rounds_succ]
  go_wp2
  go_ret
  exact ⟨rfl, 0, rfl⟩
set_option maxHeartbeats 1000000 in
theorem markInt64S_any (w : World) (g cap m : Nat) (k0 : Int) (l : List Int) (hm : l.length = m) (hm2 : m ≤ 1048576) (hk0 : 0 ≤ k0) (hk1 : k0 ≤ 1000000000) (h : Lst w g cap l) :
    Calls Tryz.prog 32 #[.slice (some ⟨g, 0, none⟩) m cap, .int .i64 k0] w fun e w' => e = .returned (.int .i64 (k0 + m)) ∧ Lst w' g cap (marks k0 m) ∧ w.grownBy w' (some g) := by
  go_enter Tryz.func32, Tryz.ntmps32
  go_wp2
  go_loopw [1, 5] (fun c i wr => ∃ (k : Nat) (l' : List Int), k ≤ m ∧ i = .int .i64 k ∧ c = .int .i64 (k0 + (k : Int)) ∧ Lst wr g cap l' ∧ Hid (l'.length = m) ∧ Hid (∀ j, j < k → l'[j]? = some (k0 + (j : Int))) ∧ w.grownBy wr (some g)) (fun _ i _ => m - (intOf i).toNat)
  case atStart => exact ⟨0, l, Nat.zero_le _, rfl, by go_num, h, hm, fun j hj => by omega, World.grownBy.refl _ _⟩
  case round =>
    obtain ⟨k, l', hk, rfl, rfl, hL, hl', hj, hgr⟩ := hrel
    by_cases hlt : k < m
    · have hlt' : (k : Int) < (m : Int) := by omega
      have hlen := hl'.out
      obtain ⟨x, hx⟩ : ∃ x, l'[k]? = some x := ⟨_, List.getElem?_eq_getElem (by omega)⟩
      have u1 := hL.cell hx
      have fz := hL.frozen k
      clear hx hlen
      go_wp2
      go_roundw
      case rel =>
        refine ⟨k + 1, l'.set k (k0 + (k : Int)), by omega, by go_num, by go_num, hL.set k _, ?_, ?_, ?_⟩
        · show (l'.set k (k0 + (k : Int))).length = m
          rw [List.length_set]; exact hl'.out
        · intro j hj'
          have hlen := hl'.out
          by_cases e : j = k
          · subst e; rw [List.getElem?_set_self (by omega)]
          · rw [List.getElem?_set_ne (by omega)]; exact hj.out j (by omega)
        · exact ⟨hgr.os, hgr.tape, hgr.output, by simpa [World.setCell] using hgr.size, fun i hi hne => (Below.heap_setCell _ _ _ _ (fun e => hne (by rw [e]))).trans (hgr.block i hi hne)⟩
      case measure => simp [intOf]; omega
    · obtain rfl : k = m := by omega
      have e : l' = marks k0 k := by
        apply List.ext_getElem?
        intro i
        by_cases hi : i < k
        · rw [hj.out i hi, marks_get k0 k i hi]
        · rw [List.getElem?_eq_none (by rw [hl'.out]; omega), List.getElem?_eq_none (by rw [marks_len]; omega)]
      rw [e] at hL
      clear e
      go_wp2
      go_ret
      exact ⟨rfl, hL, hgr⟩
theorem markInt64S_nil (w : World) (k0 : Int) :
    Calls Tryz.prog 32 #[.slice none 0 0, .int .i64 k0] w fun e w' => e = .returned (.int .i64 k0) ∧ w' = w := by
  go_enter Tryz.func32, Tryz.ntmps32
  go_wp2
  refine wp_loop_rounds 1 ?_
  rw [rounds_succ]
  go_wp2
  go_ret
  exact ⟨rfl, rfl⟩
set_option maxHeartbeats 1000000 in
theorem heldInt64S_any (w : World) (g cap m : Nat) (k0 : Int) (hm2 : m ≤ 1048576) (hk0 : 0 ≤ k0) (hk1 : k0 ≤ 1000000000) (h : Lst w g cap (marks k0 m)) :
    Calls Tryz.prog 66 #[.slice (some ⟨g, 0, none⟩) m cap, .int .i64 k0] w fun e w' => e = .returned (.int .i64 (k0 + m)) ∧ w' = w := by
  go_enter Tryz.func66, Tryz.ntmps66
  go_wp2
  go_loop [1, 5] (fun c i => ∃ k : Nat, k ≤ m ∧ i = .int .i64 k ∧ c = .int .i64 (k0 + (k : Int))) (fun _ i => m - (intOf i).toNat)
  case atStart => exact ⟨0, Nat.zero_le _, rfl, by go_num⟩
  case round =>
    obtain ⟨k, hk, rfl, rfl⟩ := hrel
    by_cases hlt : k < m
    · have hlt' : (k : Int) < (m : Int) := by omega
      have u1 := h.cell (marks_get k0 m k hlt)
      go_wp2
      go_round
      case rel => exact ⟨k + 1, by omega, by go_num, by go_num⟩
      case measure => simp [intOf]; omega
    · obtain rfl : k = m := by omega
      go_wp2
      go_ret
      exact ⟨rfl, rfl⟩
theorem heldInt64S_nil (w : World) (k0 : Int) :
    Calls Tryz.prog 66 #[.slice none 0 0, .int .i64 k0] w fun e w' => e = .returned (.int .i64 k0) ∧ w' = w := by
  go_enter Tryz.func66, Tryz.ntmps66
  go_wp2
  refine wp_loop_rounds 1 ?_
  rw [rounds_succ]
  go_wp2
  go_ret
  exact ⟨rfl, rfl⟩
end Go.Proofs.YtlonmobfjpmokaaGreatDoor
end

/- OwnLaw -/
/- The walk of the exact law of OwnedBy. No condition. -/
section
namespace Go.Proofs.YtlonmobfjpmokaaGreatDoor
open Go.ChangeShapes Go.WideShapes Go.ChangeAt Go.RowKit
open Bd
set_option linter.unusedVariables false

/- all blocks below n are as they were, and so are those at n or above that are not g or h -/
structure Kept2 (w w' : World) (g h : Nat) : Prop where
  os : w'.os = w.os
  tape : w'.tape = w.tape
  output : w'.output = w.output
  size : w.heap.size ≤ w'.heap.size
  block : ∀ i, i < w.heap.size → i ≠ g → i ≠ h → w'.heap[i]? = w.heap[i]?
theorem Kept2.row {w w' : World} {g h b n : Nat} {t : TypeId} {f : Nat → Value} (k : Kept2 w w' g h) (r : w.rowIs b t n f) (h1 : b ≠ g) (h2 : b ≠ h) : w'.rowIs b t n f := r.of_block (k.block b r.lt h1 h2)
theorem Kept2.below {W w w' : World} {n g h : Nat} (k : Kept2 w w' g h) (hb : Below n W w) (hn : n ≤ W.heap.size) (h1 : n ≤ g) (h2 : n ≤ h) : Below n W w' :=
  hb.trans ⟨k.os, k.tape, k.output, k.size, fun i hi => k.block i (Nat.lt_of_lt_of_le hi (Nat.le_trans hn hb.size)) (by omega) (by omega)⟩
theorem Kept2.sl {w w' : World} {g h base : Nat} {v : Value} {l : List Int} (k : Kept2 w w' g h) (s : SlI w base v l) (hx : ∀ b, v.ownBlock = some b → b ≠ g ∧ b ≠ h) : SlI w' base v l := by
  rcases s with ⟨h1, h2⟩
  refine ⟨h1, ?_⟩
  rcases h2 with h2 | ⟨b, cap, cur, hv, hbb, hg, r⟩
  · exact .inl h2
  · obtain ⟨x1, x2⟩ := hx b (by rw [hv]; rfl)
    exact .inr ⟨b, cap, cur, hv, hbb, (k.block b (Array.getElem?_eq_some_iff.1 hg).1 x1 x2).trans hg, r⟩
theorem SlI.lt {w : World} {base : Nat} {v : Value} {l : List Int} (s : SlI w base v l) : ∀ b, v.ownBlock = some b → base ≤ b ∧ b < w.heap.size := by
  intro b hb
  rcases s.2 with ⟨h1, h2⟩ | ⟨g, cap, cur, hv, hbb, hg, r⟩
  · rw [h1] at hb; cases hb
  · rw [hv] at hb
    have : g = b := Option.some.inj hb
    subst this
    exact ⟨hbb, (Array.getElem?_eq_some_iff.1 hg).1⟩
theorem SlI.cases {w : World} {base : Nat} {v : Value} {l : List Int} (s : SlI w base v l) : (l = [] ∧ ∃ a cap, v = .slice a 0 cap) ∨ (l ≠ [] ∧ ∃ g cap, v = .slice (some ⟨g, 0, none⟩) l.length cap ∧ base ≤ g ∧ Lst w g cap l) := by
  by_cases h : l = []
  · subst h
    obtain ⟨a, cap, hv⟩ := s.form
    exact .inl ⟨rfl, a, cap, hv⟩
  · have h0 : 0 < l.length := by cases l with | nil => exact absurd rfl h | cons _ _ => simp
    exact .inr ⟨h, Lst.of_owns s h0⟩
theorem SlI.of_lst {w : World} {base g cap : Nat} {l : List Int} (h : Lst w g cap l) (hb : base ≤ g) : SlI w base (.slice (some ⟨g, 0, none⟩) l.length cap) l := by
  obtain ⟨cur, h1, h2, h3, h4, h5⟩ := h
  exact ⟨by simp, .inr ⟨g, cap, cur, rfl, hb, h1, h2, h3, by simpa using h4, by simpa using h5⟩⟩
theorem SlI.grown {w w' : World} {base : Nat} {v : Value} {l : List Int} {r : Option Nat} (s : SlI w base v l) (k : w.grownBy w' r) (hx : ∀ b, v.ownBlock = some b → some b ≠ r) : SlI w' base v l := by
  rcases s with ⟨h1, h2⟩
  refine ⟨h1, ?_⟩
  rcases h2 with h2 | ⟨b, cap, cur, hv, hbb, hg, q⟩
  · exact .inl h2
  · exact .inr ⟨b, cap, cur, hv, hbb, (k.block b (Array.getElem?_eq_some_iff.1 hg).1 (hx b (by rw [hv]; rfl))).trans hg, q⟩
theorem row_grown {w w' : World} {g n : Nat} {t : TypeId} {f : Nat → Value} {r : Option Nat} (h : w.rowIs g t n f) (k : w.grownBy w' r) (hx : some g ≠ r) : w'.rowIs g t n f := h.of_block (k.block g h.lt hx)
theorem eqInt64S_zero (a1 a2 : Option Addr) (c1 c2 : Nat) (w : World) :
    Calls Tryz.prog 30 #[.slice a1 0 c1, .slice a2 0 c2] w fun e w' => e = .returned (.bool true) ∧ ∃ nq, w' = w.drewN nq := by
  go_enter Tryz.func30, Tryz.ntmps30
  go_wp2
  refine wp_loop_rounds 1 ?_
  rw [rounds_succ]
  go_wp2
  go_ret
  exact ⟨rfl, 0, rfl⟩
theorem markInt64S_zero (a : Option Addr) (c : Nat) (k0 : Int) (w : World) :
    Calls Tryz.prog 32 #[.slice a 0 c, .int .i64 k0] w fun e w' => e = .returned (.int .i64 k0) ∧ w' = w := by
  go_enter Tryz.func32, Tryz.ntmps32
  go_wp2
  refine wp_loop_rounds 1 ?_
  rw [rounds_succ]
  go_wp2
  go_ret
  exact ⟨rfl, rfl⟩
theorem heldInt64S_zero (a : Option Addr) (c : Nat) (k0 : Int) (w : World) :
    Calls Tryz.prog 66 #[.slice a 0 c, .int .i64 k0] w fun e w' => e = .returned (.int .i64 k0) ∧ w' = w := by
  go_enter Tryz.func66, Tryz.ntmps66
  go_wp2
  refine wp_loop_rounds 1 ?_
  rw [rounds_succ]
  go_wp2
  go_ret
  exact ⟨rfl, rfl⟩
/- marks on the board that came in -/
theorem rowU_int (l : List K10) (k i : Nat) : ∃ z : Int, rowU l k i = .int .i64 z := by unfold rowU; split <;> exact ⟨_, rfl⟩
theorem rowF_int (l : List K3) (k i : Nat) : ∃ z : Int, rowF l k i = .int .i64 z := by unfold rowF; split <;> exact ⟨_, rfl⟩
theorem Kept2.of_grown {w w' : World} {g h : Nat} (k : w.grownBy w' (some g)) : Kept2 w w' g h := ⟨k.os, k.tape, k.output, k.size, fun i hi h1 _ => k.block i hi (fun e => h1 (Option.some.inj e))⟩
theorem Kept2.of_grown' {w w' : World} {g h : Nat} (k : w.grownBy w' (some h)) : Kept2 w w' g h := ⟨k.os, k.tape, k.output, k.size, fun i hi _ h2 => k.block i hi (fun e => h2 (Option.some.inj e))⟩
theorem Kept2.trans {a b c : World} {g h : Nat} (k : Kept2 a b g h) (l : Kept2 b c g h) : Kept2 a c g h := ⟨l.os.trans k.os, l.tape.trans k.tape, l.output.trans k.output, Nat.le_trans k.size l.size, fun i hi h1 h2 => (l.block i (Nat.lt_of_lt_of_le hi k.size) h1 h2).trans (k.block i hi h1 h2)⟩
theorem Kept2.alloc (w : World) (g h : Nat) (o : Obj) : Kept2 w (w.alloc o) g h := Kept2.of_grown (World.grownBy_alloc w o _)
set_option maxHeartbeats 4000000 in
theorem markBoard_c (w : World) {base g g' : Nat} {us : List K10} {fs : List K3} (N : NewB w base g g' us fs) (hm : us.length ≤ 1048576) (hm' : fs.length ≤ 1048576) :
    Calls Tryz.prog 31 #[.agg (brdV (some ⟨g, 0, none⟩) us.length us.length (some ⟨g', 0, none⟩) fs.length fs.length), .int .i64 1] w fun e w' => e = .returned (.int .i64 (1 + 10 * (us.length : Int) + 3 * (fs.length : Int))) ∧ Kept2 w w' g g' := by
  have k1 : Below w.heap.size w (w.alloc (.cells (brdV (some ⟨g, 0, none⟩) us.length us.length (some ⟨g', 0, none⟩) fs.length fs.length) 27)) := (Below.refl _ _).alloc (Nat.le_refl _) _
  have N1 := N.later k1
  have rb := rowTwo w (.slice (some ⟨g, 0, none⟩) us.length us.length) (.slice (some ⟨g', 0, none⟩) fs.length fs.length) 27
  have cU := markUnitS_c _ g us.length us.length (us.length * 10) 1 _ (Nat.le_refl _) hm (by omega) (by omega) N1.u (fun i _ => rowU_int us us.length i)
  have cF := fun w k h0 h1 h => markFieldS_c w g' fs.length fs.length (fs.length * 3) k _ (Nat.le_refl _) hm' h0 h1 h (fun i _ => rowF_int fs fs.length i)
  obtain ⟨m, Hm⟩ : ∃ m, Hid (m = us.length) := ⟨_, rfl⟩
  obtain ⟨m', Hm'⟩ : ∃ m', Hid (m' = fs.length) := ⟨_, rfl⟩
  have hg := N1.u.lt
  have hg' := N1.f.lt
  have hgl : g < w.heap.size := N.u.lt
  have hgl' : g' < w.heap.size := N.f.lt
  have hne := N.lt
  have Nf := N1.f
  rw [← Hm.out] at cU rb hm Nf ⊢
  rw [← Hm'.out] at cF rb hm' Nf cU ⊢
  go_enter Tryz.func31, Tryz.ntmps31
  go_wp2_with fail
  refine cU.mono ?_
  rintro e w2 ⟨rfl, r2, k2⟩
  have rb2 := rb.of_block (k2.block w.heap.size rb.lt (by intro e; have := Option.some.inj e; omega))
  have f2 := Nf.of_block (k2.block g' Nf.lt (by intro e; have := Option.some.inj e; omega))
  have p1 : w2.cell? ⟨w.heap.size, 1, none⟩ = some (.slice (some ⟨g', 0, none⟩) m' m') := rb2.cell (i := 1) (by omega)
  clear cU
  go_wp2_with fail
  refine (cF _ _ (by omega) (by omega) f2).mono ?_
  rintro e w3 ⟨rfl, r3, k3⟩
  go_wp2
  go_ret
  exact ⟨rfl, ((Kept2.alloc w g g' _).trans (Kept2.of_grown k2)).trans (Kept2.of_grown' k3)⟩
end Go.Proofs.YtlonmobfjpmokaaGreatDoor
end
