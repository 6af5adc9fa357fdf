/- Contracts of the exact laws' own helpers on lists of bytes: equal lists are equal, marks that were laid are held. Conditions: the lists lie in memory of their own. -/
import Derived.Test.YtimpmfjlhpkibaaDoorSpecPack2
import Derived.Deep.QuietTactic
import Derived.BigQuiet
namespace Go.Proofs.YtimpmfjlhpkibaaDoor
open Go.ChangeShapes Go.WideShapes Go.ChangeAt Go.RowKit
open Cm
set_option linter.unusedVariables false

def marks (k : Int) (m : Nat) : List Int := (List.range m).map (fun (i : Nat) => k + (i : Int))
theorem marks_len (k : Int) (m : Nat) : (marks k m).length = m := by simp [marks]
theorem marks_get (k : Int) (m i : Nat) (h : i < m) : (marks k m)[i]? = some (k + (i : Int)) := by simp [marks, h]
theorem BRow.frozen {w : World} {base g n cap : Nat} {l : List Int} (h : BRow w base (.slice (some ⟨g, 0, none⟩) n cap) l) (i : Nat) : w.frozen? ⟨g, i, none⟩ = false := by
  rcases h.2 with ⟨h0, _⟩ | ⟨g', cap', cur, hv, hb, hg, _⟩
  · cases h0
  · simp only [Value.slice.injEq, Option.some.injEq, Addr.mk.injEq, and_true] at hv
    rw [← hv.1] at hg
    simp [World.frozen?, hg]
theorem BRow.set {w : World} {base g n cap : Nat} {l : List Int} (h : BRow w base (.slice (some ⟨g, 0, none⟩) n cap) l) (i : Nat) (x : Int) : BRow (w.setCell ⟨g, i, none⟩ (.int .u8 x)) base (.slice (some ⟨g, 0, none⟩) n cap) (l.set i x) := by
  refine ⟨by simp, ?_⟩
  rcases h.2 with ⟨h0, _⟩ | ⟨g', cap', cur, hv, hb, hg, h1, h2, h3, h4⟩
  · cases h0
  · simp only [Value.slice.injEq, Option.some.injEq, Addr.mk.injEq, and_true] at hv
    obtain ⟨rfl, rfl, rfl⟩ := hv
    refine .inr ⟨g, cap, cur.setIfInBounds i (.int .u8 x), by rw [List.length_set], hb, ?_, by simpa using h1, h2, by simpa using h3, ?_⟩
    · simp [World.setCell, Array.getElem?_modify, hg]
    · rw [List.length_set, List.map_set, ← h4]
      simp [List.take_set]
theorem BRow.len {w : World} {base g n cap : Nat} {l : List Int} (h : BRow w base (.slice (some ⟨g, 0, none⟩) n cap) l) : l.length = n := by
  rcases h.2 with ⟨h0, _⟩ | ⟨g', cap', cur, hv, _⟩
  · cases h0
  · simp only [Value.slice.injEq, Option.some.injEq, Addr.mk.injEq, and_true] at hv
    exact hv.2.1.symm
theorem BRow.lt {w : World} {base g n cap : Nat} {l : List Int} (h : BRow w base (.slice (some ⟨g, 0, none⟩) n cap) l) : base ≤ g ∧ g < w.heap.size := by
  rcases h.2 with ⟨h0, _⟩ | ⟨g', cap', cur, hv, hb, hg, _⟩
  · cases h0
  · simp only [Value.slice.injEq, Option.some.injEq, Addr.mk.injEq, and_true] at hv
    obtain ⟨rfl, _⟩ := hv
    exact ⟨hb, (Array.getElem?_eq_some_iff.1 hg).1⟩
theorem BRow.grown {w w' : World} {base g n cap : Nat} {l : List Int} {row : Option Nat} (h : BRow w base (.slice (some ⟨g, 0, none⟩) n cap) l) (hg : w.grownBy w' row) (hne : some g ≠ row) : BRow w' base (.slice (some ⟨g, 0, none⟩) n cap) l :=
  World.ownsRow.kept h hg (.inr hne)
theorem Blk.grown {w w' : World} {g : Nat} {cs : Array Value} {t : TypeId} {row : Option Nat} (h : Blk w g cs t) (hg : w.grownBy w' row) (hne : some g ≠ row) : Blk w' g cs t := by
  unfold Blk; rw [hg.block g h.lt hne]; exact h

set_option maxHeartbeats 1000000 in
theorem eqByteS_same (w : World) (b1 b2 g1 c1 g2 c2 m : Nat) (l : List Int) (hm2 : m ≤ 1048576) (h1 : BRow w b1 (.slice (some ⟨g1, 0, none⟩) m c1) l) (h2 : BRow w b2 (.slice (some ⟨g2, 0, none⟩) m c2) l) :
    Calls Tryd.prog 32 #[.slice (some ⟨g1, 0, none⟩) m c1, .slice (some ⟨g2, 0, none⟩) m c2] w fun e w' => e = .returned (.bool true) ∧ ∃ nq, w' = w.drewN nq := by
  have Hm : Hid (l.length = m) := h1.len
  go_enter Tryd.func32, Tryd.ntmps32
  go_wp2
  go_loopw [5] (fun i wr => ∃ k : Nat, k ≤ m ∧ i = .int .i64 k ∧ ∃ nq, wr = w.drewN nq) (fun i _ => m - (intOf i).toNat)
  case atStart => exact ⟨0, Nat.zero_le _, rfl, 0, rfl⟩
  case round =>
    obtain ⟨k, hk, rfl, nq, rfl⟩ := hrel
    by_cases hlt : k < m
    · have hlt' : (k : Int) < (m : Int) := by omega
      obtain ⟨x, hx⟩ : ∃ x, l[k]? = some x := ⟨_, List.getElem?_eq_getElem (by have := Hm.out; omega)⟩
      have u1 := h1.cell hx
      have u2 := h2.cell hx
      clear hx
      go_wp2
      go_quiet (fail)
      go_wp2
      go_roundw
      case rel => exact ⟨k + 1, by omega, by go_num, _, rfl⟩
      case measure => simp [intOf]; omega
    · go_wp2
      go_ret
      exact ⟨rfl, nq, rfl⟩
theorem eqByteS_nil (w : World) :
    Calls Tryd.prog 32 #[.slice none 0 0, .slice none 0 0] w fun e w' => e = .returned (.bool true) ∧ ∃ nq, w' = w.drewN nq := by
  go_enter Tryd.func32, Tryd.ntmps32
  go_wp2
  refine wp_loop_rounds 1 ?_
  rw [rounds_succ]
  go_wp2
  go_ret
  exact ⟨rfl, 0, rfl⟩
set_option maxHeartbeats 1000000 in
theorem markByteS_any (w : World) (base g cap m : Nat) (k0 : Int) (l : List Int) (hm2 : m ≤ 100) (hk0 : 0 ≤ k0) (hk1 : k0 ≤ 100) (h : BRow w base (.slice (some ⟨g, 0, none⟩) m cap) l) :
    Calls Tryd.prog 56 #[.slice (some ⟨g, 0, none⟩) m cap, .int .i64 k0] w fun e w' => e = .returned (.int .i64 (k0 + m)) ∧ BRow w' base (.slice (some ⟨g, 0, none⟩) m cap) (marks k0 m) ∧ w.grownBy w' (some g) := by
  have hm := h.len
  go_enter Tryd.func56, Tryd.ntmps56
  go_wp2
  go_loopw [1, 5] (fun c i wr => ∃ (k : Nat) (l' : List Int), k ≤ m ∧ i = .int .i64 k ∧ c = .int .i64 (k0 + (k : Int)) ∧ BRow wr base (.slice (some ⟨g, 0, none⟩) m cap) l' ∧ Hid (l'.length = m) ∧ Hid (∀ j, j < k → l'[j]? = some (k0 + (j : Int))) ∧ w.grownBy wr (some g)) (fun _ i _ => m - (intOf i).toNat)
  case atStart => exact ⟨0, l, Nat.zero_le _, rfl, by go_num, h, hm, fun j hj => by omega, World.grownBy.refl _ _⟩
  case round =>
    obtain ⟨k, l', hk, rfl, rfl, hL, hl', hj, hgr⟩ := hrel
    by_cases hlt : k < m
    · have hlt' : (k : Int) < (m : Int) := by omega
      have hlen := hl'.out
      obtain ⟨x, hx⟩ : ∃ x, l'[k]? = some x := ⟨_, List.getElem?_eq_getElem (by omega)⟩
      have u1 := hL.cell hx
      have fz := hL.frozen k
      clear hx hlen
      go_wp2
      go_roundw
      case rel =>
        refine ⟨k + 1, l'.set k (k0 + (k : Int)), by omega, by go_num, by go_num, hL.set k _, ?_, ?_, ?_⟩
        · show (l'.set k (k0 + (k : Int))).length = m
          rw [List.length_set]; exact hl'.out
        · intro j hj'
          have hlen := hl'.out
          by_cases e : j = k
          · subst e; rw [List.getElem?_set_self (by omega)]
          · rw [List.getElem?_set_ne (by omega)]; exact hj.out j (by omega)
        · exact ⟨hgr.os, hgr.tape, hgr.output, by simpa [World.setCell] using hgr.size, fun i hi hne => (Below.heap_setCell _ _ _ _ (fun e => hne (by rw [e]))).trans (hgr.block i hi hne)⟩
      case measure => simp [intOf]; omega
    · obtain rfl : k = m := by omega
      have e : l' = marks k0 k := by
        apply List.ext_getElem?
        intro i
        by_cases hi : i < k
        · rw [hj.out i hi, marks_get k0 k i hi]
        · rw [List.getElem?_eq_none (by rw [hl'.out]; omega), List.getElem?_eq_none (by rw [marks_len]; omega)]
      rw [e] at hL
      clear e
      go_wp2
      go_ret
      exact ⟨rfl, hL, hgr⟩
theorem markByteS_nil (w : World) (k0 : Int) :
    Calls Tryd.prog 56 #[.slice none 0 0, .int .i64 k0] w fun e w' => e = .returned (.int .i64 k0) ∧ w' = w := by
  go_enter Tryd.func56, Tryd.ntmps56
  go_wp2
  refine wp_loop_rounds 1 ?_
  rw [rounds_succ]
  go_wp2
  go_ret
  exact ⟨rfl, rfl⟩
set_option maxHeartbeats 1000000 in
theorem heldByteS_any (w : World) (base g cap m : Nat) (k0 : Int) (hm2 : m ≤ 100) (hk0 : 0 ≤ k0) (hk1 : k0 ≤ 100) (h : BRow w base (.slice (some ⟨g, 0, none⟩) m cap) (marks k0 m)) :
    Calls Tryd.prog 57 #[.slice (some ⟨g, 0, none⟩) m cap, .int .i64 k0] w fun e w' => e = .returned (.int .i64 (k0 + m)) ∧ w' = w := by
  go_enter Tryd.func57, Tryd.ntmps57
  go_wp2
  go_loop [1, 5] (fun c i => ∃ k : Nat, k ≤ m ∧ i = .int .i64 k ∧ c = .int .i64 (k0 + (k : Int))) (fun _ i => m - (intOf i).toNat)
  case atStart => exact ⟨0, Nat.zero_le _, rfl, by go_num⟩
  case round =>
    obtain ⟨k, hk, rfl, rfl⟩ := hrel
    by_cases hlt : k < m
    · have hlt' : (k : Int) < (m : Int) := by omega
      have u1 := h.cell (marks_get k0 m k hlt)
      go_wp2
      go_round
      case rel => exact ⟨k + 1, by omega, by go_num, by go_num⟩
      case measure => simp [intOf]; omega
    · obtain rfl : k = m := by omega
      go_wp2
      go_ret
      exact ⟨rfl, rfl⟩
theorem heldByteS_nil (w : World) (k0 : Int) :
    Calls Tryd.prog 57 #[.slice none 0 0, .int .i64 k0] w fun e w' => e = .returned (.int .i64 k0) ∧ w' = w := by
  go_enter Tryd.func57, Tryd.ntmps57
  go_wp2
  refine wp_loop_rounds 1 ?_
  rw [rounds_succ]
  go_wp2
  go_ret
  exact ⟨rfl, rfl⟩
theorem below_drewN (w : World) (n : Nat) : Below w.heap.size w (w.drewN n) := ⟨rfl, rfl, rfl, Nat.le_refl _, fun _ _ => rfl⟩
theorem eqBytesResult_same (w : World) (b1 b2 g1 c1 g2 c2 m : Nat) (l : List Int) (hm2 : m ≤ 1048576) (h1 : BRow w b1 (.slice (some ⟨g1, 0, none⟩) m c1) l) (h2 : BRow w b2 (.slice (some ⟨g2, 0, none⟩) m c2) l) :
    Calls Tryd.prog 27 #[.agg #[.int .i64 0, .slice (some ⟨g1, 0, none⟩) m c1], .agg #[.int .i64 0, .slice (some ⟨g2, 0, none⟩) m c2]] w fun e w' => e = .returned (.bool true) ∧ Below w.heap.size w w' := by
  have A : Below w.heap.size w ((w.alloc (.cells #[.int .i64 0, .slice (some ⟨g1, 0, none⟩) m c1] 32)).alloc (.cells #[.int .i64 0, .slice (some ⟨g2, 0, none⟩) m c2] 32)) := ((Below.refl w.heap.size w).alloc (Nat.le_refl _) _).alloc (by simp only [size_new]; omega) _
  have c := eqByteS_same _ b1 b2 g1 c1 g2 c2 m l hm2 (h1.below A) (h2.below A)
  go_enter Tryd.func27, Tryd.ntmps27
  go_wp2_with fail
  refine c.mono ?_
  rintro e w1 ⟨rfl, nq, rfl⟩
  go_wp2
  go_ret
  exact ⟨rfl, A.trans ((below_drewN _ nq).mono A.size)⟩
theorem eqBytesResult_nil (w : World) (C : Int) :
    Calls Tryd.prog 27 #[.agg #[.int .i64 C, .slice none 0 0], .agg #[.int .i64 C, .slice none 0 0]] w fun e w' => e = .returned (.bool true) ∧ Below w.heap.size w w' := by
  have A : Below w.heap.size w ((w.alloc (.cells #[.int .i64 C, .slice none 0 0] 32)).alloc (.cells #[.int .i64 C, .slice none 0 0] 32)) := ((Below.refl w.heap.size w).alloc (Nat.le_refl _) _).alloc (by simp only [size_new]; omega) _
  go_enter Tryd.func27, Tryd.ntmps27
  go_wp2_with fail
  refine (eqByteS_nil _).mono ?_
  rintro e w1 ⟨rfl, nq, rfl⟩
  go_wp2
  go_ret
  exact ⟨rfl, A.trans ((below_drewN _ nq).mono A.size)⟩
theorem markBytesResult_any (w : World) (C : Int) (base g cap m : Nat) (k0 : Int) (l : List Int) (hm2 : m ≤ 100) (hk0 : 0 ≤ k0) (hk1 : k0 ≤ 100) (h : BRow w base (.slice (some ⟨g, 0, none⟩) m cap) l) :
    Calls Tryd.prog 28 #[.agg #[.int .i64 C, .slice (some ⟨g, 0, none⟩) m cap], .int .i64 k0] w fun e w' => e = .returned (.int .i64 (k0 + m)) ∧ BRow w' base (.slice (some ⟨g, 0, none⟩) m cap) (marks k0 m) ∧ w.grownBy w' (some g) := by
  have c := markByteS_any _ base g cap m k0 l hm2 hk0 hk1 (h.alloc (.cells #[.int .i64 C, .slice (some ⟨g, 0, none⟩) m cap] 32))
  have hl := h.lt
  go_enter Tryd.func28, Tryd.ntmps28
  go_wp2_with fail
  refine c.mono ?_
  rintro e w1 ⟨rfl, hM, hg⟩
  go_wp2
  go_ret
  refine ⟨rfl, hM, ⟨hg.os, hg.tape, hg.output, ?_, ?_⟩⟩
  · have := hg.size; rw [size_new] at this; omega
  · intro k hk hne
    rw [hg.block k (by rw [size_new]; omega) hne]
    exact ((Below.refl w.heap.size w).alloc (Nat.le_refl _) _).block k hk
theorem markBytesResult_nil (w : World) (C : Int) (k0 : Int) :
    Calls Tryd.prog 28 #[.agg #[.int .i64 C, .slice none 0 0], .int .i64 k0] w fun e w' => e = .returned (.int .i64 k0) ∧ Below w.heap.size w w' := by
  go_enter Tryd.func28, Tryd.ntmps28
  go_wp2_with fail
  refine (markByteS_nil _ k0).mono ?_
  rintro e w1 ⟨rfl, rfl⟩
  go_wp2
  go_ret
  exact ⟨rfl, (Below.refl _ _).alloc (Nat.le_refl _) _⟩
theorem heldBytesResult_any (w : World) (C : Int) (base g cap m : Nat) (k0 : Int) (hm2 : m ≤ 100) (hk0 : 0 ≤ k0) (hk1 : k0 ≤ 100) (h : BRow w base (.slice (some ⟨g, 0, none⟩) m cap) (marks k0 m)) :
    Calls Tryd.prog 29 #[.agg #[.int .i64 C, .slice (some ⟨g, 0, none⟩) m cap], .int .i64 k0] w fun e w' => e = .returned (.int .i64 (k0 + m)) ∧ Below w.heap.size w w' := by
  have c := heldByteS_any _ base g cap m k0 hm2 hk0 hk1 (h.alloc (.cells #[.int .i64 C, .slice (some ⟨g, 0, none⟩) m cap] 32))
  have hneg : decide (k0 + (m : Int) < 0) = false := decide_eq_false (by omega)
  go_enter Tryd.func29, Tryd.ntmps29
  go_wp2_with fail
  refine c.mono ?_
  rintro e w1 ⟨rfl, rfl⟩
  go_wp2
  go_ret
  exact ⟨rfl, (Below.refl _ _).alloc (Nat.le_refl _) _⟩
theorem heldBytesResult_nil (w : World) (C : Int) (k0 : Int) (hk0 : 0 ≤ k0) :
    Calls Tryd.prog 29 #[.agg #[.int .i64 C, .slice none 0 0], .int .i64 k0] w fun e w' => e = .returned (.int .i64 k0) ∧ Below w.heap.size w w' := by
  have hneg : decide (k0 < 0) = false := decide_eq_false (by omega)
  go_enter Tryd.func29, Tryd.ntmps29
  go_wp2_with fail
  refine (heldByteS_nil _ k0).mono ?_
  rintro e w1 ⟨rfl, rfl⟩
  go_wp2
  go_ret
  exact ⟨rfl, (Below.refl _ _).alloc (Nat.le_refl _) _⟩
end Go.Proofs.YtimpmfjlhpkibaaDoor
