/- Rows of bytes in memory of a call's own, appended to; what is no row of bytes stays as it was. No condition. -/
import Derived.Test.YtomnadmeolkagaaDoorCmdFault
import Derived.Test.YtomnadmeolkagaaDoorCmds2
import Derived.ChangeOld
import Derived.OwnWalk
import Derived.Deep.OwnRows
namespace Go.Proofs.YtomnadmeolkagaaDoor
open Go.ChangeShapes Go.WideShapes Go.ChangeAt Go.RowKit
open Cm
set_option linter.unusedVariables false

/- every block of cells that is no row of bytes is as it was -/
def Keeps (w w' : World) : Prop := ∀ (L : Nat) (cs : Array Value) (t : TypeId) (r : Nat × Nat), w.heap[L]? = some (Obj.cells cs t r) → t ≠ 5 → w'.heap[L]? = some (Obj.cells cs t r)
theorem Keeps.refl (w : World) : Keeps w w := fun _ _ _ _ h _ => h
theorem Keeps.trans {a b c : World} (h : Keeps a b) (k : Keeps b c) : Keeps a c := fun L cs t r hL ht => k L cs t r (h L cs t r hL ht) ht
theorem Keeps.of_below {w w' : World} (h : Below w.heap.size w w') : Keeps w w' := fun L cs t r hL _ => by
  have hlt : L < w.heap.size := by
    by_cases hb : L < w.heap.size
    · exact hb
    · rw [Array.getElem?_eq_none (by omega)] at hL; cases hL
  rw [h.block L hlt]; exact hL
theorem Keeps.alloc (w : World) (o : Obj) : Keeps w (w.alloc o) := Keeps.of_below ((Below.refl _ _).alloc (Nat.le_refl _) o)
theorem Keeps.drew (w : World) : Keeps w w.drew := fun _ _ _ _ h _ => h
/- a row of bytes, the call's own from block base on -/
def BRow (w : World) (base : Nat) (v : Value) (l : List Int) : Prop := w.ownsRow base 5 1 v l.length (l.map (Value.int .u8))
theorem Keeps.of_grown {w w' : World} {base : Nat} {v : Value} {n : Nat} {xs : List Value} (ho : w.ownsRow base 5 1 v n xs) (h : w.grownBy w' v.ownBlock) : Keeps w w' := by
  intro L cs t r hL ht
  have hlt : L < w.heap.size := by
    by_cases hb : L < w.heap.size
    · exact hb
    · rw [Array.getElem?_eq_none (by omega)] at hL; cases hL
  rw [h.block L hlt ?_]; exact hL
  intro e
  rcases ho.2 with ⟨rfl, _⟩ | ⟨g, cap, cur, rfl, hb, hg, _⟩
  · cases e
  · simp [Value.ownBlock] at e
    subst e
    rw [hg] at hL
    injection hL with hL
    injection hL with _ ht' _
    exact ht ht'.symm
theorem BRow.alloc {w : World} {base : Nat} {v : Value} {l : List Int} (h : BRow w base v l) (o : Obj) : BRow (w.alloc o) base v l := World.ownsRow.alloc h o
theorem BRow.form {w : World} {base : Nat} {v : Value} {l : List Int} (h : BRow w base v l) (hn : 0 < l.length) : ∃ g cap, v = .slice (some ⟨g, 0, none⟩) l.length cap ∧ base ≤ g ∧ g < w.heap.size := by
  rcases h.2 with ⟨_, h0⟩ | ⟨g, cap, cur, hv, hb, hg, _⟩
  · omega
  · exact ⟨g, cap, hv, hb, (Array.getElem?_eq_some_iff.1 hg).1⟩
theorem BRow.cell {w : World} {base g cap : Nat} {n : Nat} {l : List Int} (h : BRow w base (.slice (some ⟨g, 0, none⟩) n cap) l) {i : Nat} {x : Int} (hi : l[i]? = some x) : w.cell? ⟨g, i, none⟩ = some (.int .u8 x) := by
  rcases h.2 with ⟨h0, _⟩ | ⟨g', cap', cur, hv, hb, hg, _, _, _, ht⟩
  · cases h0
  · simp only [Value.slice.injEq, Option.some.injEq, Addr.mk.injEq, and_true] at hv
    obtain ⟨rfl, rfl, rfl⟩ := hv
    have h1 : (l.map (Value.int .u8))[i]? = some (.int .u8 x) := by simp [hi]
    rw [← ht, List.getElem?_take] at h1
    split at h1
    · simp [World.cell?, hg]; simpa using h1
    · cases h1
theorem BRow.below {w w' : World} {base : Nat} {v : Value} {l : List Int} (h : BRow w base v l) (hb : Below w.heap.size w w') : BRow w' base v l := by
  refine ⟨h.1, ?_⟩
  rcases h.2 with h0 | ⟨g, cap, cur, hv, hb', hg, r⟩
  · exact .inl h0
  · exact .inr ⟨g, cap, cur, hv, hb', by rw [hb.block g (Array.getElem?_eq_some_iff.1 hg).1]; exact hg, r⟩
theorem info8 : (Tryd.prog.info? 5).map (fun i => (i.zero, i.size, i.bytes)) = some (some (.int .u8 0), 1, 1) := by kernel_rfl
theorem one_new (w : World) (v : Value) (t : TypeId) : ∀ j u, [v][j]? = some u → (w.alloc (.cells #[v] t)).cell? ((⟨w.heap.size, 0, none⟩ : Addr).add j) = some u := by
  intro j u hj
  match j, hj with
  | 0, hj => simp at hj; subst hj; simp [Addr.add]
theorem one_cell (k : IntKind) (x : Int) : ∀ u ∈ [Value.int k x], u.oneCell' = true := by
  intro u hu; simp at hu; subst hu; rfl

theorem BRow.push {w' : World} {base : Nat} {v' : Value} {l b : List Int} (h : w'.ownsRow base 5 1 v' (l.length + b.length) (l.map (Value.int .u8) ++ b.map (Value.int .u8))) : BRow w' base v' (l ++ b) := by
  unfold BRow; rw [List.length_append, List.map_append]; exact h
theorem wpList_push {ops : Array Oper} {rest : List Oper} {o : Oper} {a : Act} {Q : Exit → Act → World → Prop} (hgd : o.guard = none) (s x : Operand)
    (ho : o.op = .call { callee := .builtin .append, args := #[s, x], argTypes := #[32, 32] }) (w0 : World) (b : List Int) (base : Nat) (v : Value) (l : List Int) (hs : a.eval s = v) (hown : BRow w0 base v l)
    (hx : a.eval x = .slice (some ⟨w0.heap.size, 0, none⟩) b.length b.length) (hlen : l.length + b.length ≤ 1000) (hbase : base ≤ w0.heap.size)
    (h : ∀ v' w', BRow w' base v' (l ++ b) → Below base w0 w' → Keeps w0 w' → wpList Tryd.prog ops Q rest (a.put o.dst v') w') :
    wpList Tryd.prog ops Q (o :: rest) a (w0.alloc (.cells (b.map (Value.int .u8)).toArray 5)) := by
  obtain ⟨i0, hi, hz0, hz1, hz2⟩ := info_parts info8
  have hown' := hown.alloc (.cells (b.map (Value.int .u8)).toArray 5)
  refine wpList_append_own _ hgd s x 32 ho base 5 i0 (.int .u8 0) 1 1 Tryd.underlying32 hi hz0 hz1 hz2 rfl (by decide) v l.length _ hs hown' ⟨w0.heap.size, 0, none⟩ b.length b.length (b.map (Value.int .u8)) hx (by simp) ?_ ?_ (by unfold maxLen; omega) (by omega) (by simp; omega) ?_
  · intro j u hj
    have e : (⟨w0.heap.size, 0, none⟩ : Addr).add j = ⟨w0.heap.size, j, none⟩ := by unfold Addr.add; split <;> simp_all
    rw [e]
    exact cell_new _ _ _ _ _ (by simpa using hj)
  · intro u hu
    obtain ⟨z, _, rfl⟩ := List.mem_map.1 hu
    rfl
  · intro v' w' h1 h2 _
    exact h v' w' (BRow.push h1) (((Below.refl base w0).alloc hbase _).grown h2 (by simp; omega) (fun k' hk' => (hown.lt k' hk').1)) ((Keeps.alloc _ _).trans (Keeps.of_grown hown' h2))

set_option maxRecDepth 100000 in
set_option maxHeartbeats 1000000 in
theorem appendNumber_2 (x : Int) (h0 : 0 ≤ x) (h1 : x < 65536) (base : Nat) (v : Value) (l : List Int) (hl : l.length ≤ 100) (w : World) (hB : base ≤ w.heap.size) (ho : BRow w base v l) :
    Calls Tryd.prog 22 #[v, .int .i64 x, .int .i64 2] w fun e w' => ∃ v', e = .returned v' ∧ BRow w' base v' (l ++ p2 x) ∧ Below base w w' ∧ Keeps w w' := by
  go_enter Tryd.func22, Tryd.ntmps22
  go_wp2
  refine wp_loop_rounds 3 ?_
  rw [rounds_succ]
  go_wp2_with (at_builtin; refine wpList_push rfl _ _ rfl w [x / 256] base v l rfl ho rfl (by simp; omega) hB ?_)
  intro v1 w1 o1 b1 k1
  have hB1 : base ≤ w1.heap.size := Nat.le_trans hB b1.size
  go_wp2_with fail
  rw [rounds_succ]
  go_wp2_with (at_builtin; refine wpList_push rfl _ _ rfl w1 [x % 256] base v1 _ rfl o1 rfl (by simp; omega) hB1 ?_)
  intro v2 w2 o2 b2 k2
  go_wp2_with fail
  rw [rounds_succ]
  go_wp2
  go_ret
  refine ⟨_, rfl, ?_, b1.trans b2, k1.trans k2⟩
  exact o2
set_option maxRecDepth 100000 in
set_option maxHeartbeats 1000000 in
theorem appendNumber_3 (x : Int) (h0 : 0 ≤ x) (h1 : x ≤ 1000000) (base : Nat) (v : Value) (l : List Int) (hl : l.length ≤ 100) (w : World) (hB : base ≤ w.heap.size) (ho : BRow w base v l) :
    Calls Tryd.prog 22 #[v, .int .i64 x, .int .i64 3] w fun e w' => ∃ v', e = .returned v' ∧ BRow w' base v' (l ++ p3 x) ∧ Below base w w' ∧ Keeps w w' := by
  go_enter Tryd.func22, Tryd.ntmps22
  go_wp2
  refine wp_loop_rounds 4 ?_
  rw [rounds_succ]
  go_wp2_with (at_builtin; refine wpList_push rfl _ _ rfl w [x / 65536] base v l rfl ho rfl (by simp; omega) hB ?_)
  intro v1 w1 o1 b1 k1
  have hB1 : base ≤ w1.heap.size := Nat.le_trans hB b1.size
  go_wp2_with fail
  rw [rounds_succ]
  go_wp2_with (at_builtin; refine wpList_push rfl _ _ rfl w1 [x / 256 % 256] base v1 _ rfl o1 rfl (by simp; omega) hB1 ?_)
  intro v2 w2 o2 b2 k2
  have hB2 : base ≤ w2.heap.size := Nat.le_trans hB1 b2.size
  go_wp2_with fail
  rw [rounds_succ]
  go_wp2_with (at_builtin; refine wpList_push rfl _ _ rfl w2 [x % 256] base v2 _ rfl o2 rfl (by simp; omega) hB2 ?_)
  intro v3 w3 o3 b3 k3
  go_wp2_with fail
  rw [rounds_succ]
  go_wp2
  go_ret
  refine ⟨_, rfl, ?_, (b1.trans b2).trans b3, (k1.trans k2).trans k3⟩
  exact o3

/- bytes in memory, from place off of block g on -/
def BAt (w : World) (g off : Nat) (l : List Int) : Prop := ∀ i x, l[i]? = some x → w.cell? ⟨g, off + i, none⟩ = some (.int .u8 x)
theorem BRow.at {w : World} {base g cap n : Nat} {l : List Int} (h : BRow w base (.slice (some ⟨g, 0, none⟩) n cap) l) : BAt w g 0 l := fun i x hi => by rw [Nat.zero_add]; exact h.cell hi
theorem take_next {l : List Int} {k : Nat} {x : Int} (h : l[k]? = some x) : l.take (k + 1) = l.take k ++ [x] := by rw [List.take_add_one, h]; rfl
set_option maxHeartbeats 1000000 in
theorem sumOf_c (g off cap m : Nat) (l : List Int) (hm : l.length = m) (hm2 : m ≤ 1048576) (hb : ∀ x ∈ l, 0 ≤ x ∧ x ≤ 255) (w : World) (h : BAt w g off l) :
    Calls Tryd.prog 15 #[.slice (some ⟨g, off, none⟩) m cap] w fun e w' => e = .returned (.int .i64 (sm l)) ∧ w' = w := by
  have Hm : Hid (l.length = m) := hm
  have H : Hid (BAt w g off l) := h
  have Hb : Hid (∀ x ∈ l, 0 ≤ x ∧ x ≤ 255) := hb
  clear hm h hb
  go_enter Tryd.func15, Tryd.ntmps15
  go_wp2
  go_loop [3, 8] (fun s i => ∃ k : Nat, k ≤ m ∧ i = .int .i64 k ∧ s = .int .i64 (sm (l.take k))) (fun _ i => m - (intOf i).toNat)
  case atStart => exact ⟨0, Nat.zero_le _, rfl, rfl⟩
  case round =>
    obtain ⟨k, hk, rfl, rfl⟩ := hrel
    by_cases hlt : k < m
    · have hlt' : (k : Int) < (m : Int) := by omega
      obtain ⟨x, hx⟩ : ∃ x, l[k]? = some x := ⟨_, List.getElem?_eq_getElem (by have := Hm.out; omega)⟩
      have u1 := H.out k x hx
      obtain ⟨x0, x1⟩ := Hb.out x (List.mem_of_getElem? hx)
      have HS : Hid (sm (l.take (k + 1)) = stp (sm (l.take k)) x) := by show _ = _; rw [take_next hx, sm_snoc]
      obtain ⟨s0, s1⟩ := sm_bd (l.take k)
      generalize sm (l.take k) = S at HS s0 s1
      clear hx
      go_wp2
      go_round
      case rel => exact ⟨k + 1, by omega, by go_num, by rw [HS.out]; rfl⟩
      case measure => simp [intOf]; omega
    · obtain rfl : k = m := by omega
      have e : l.take k = l := List.take_of_length_le (by have := Hm.out; omega)
      rw [e]
      clear e
      go_wp2
      go_ret
      exact ⟨rfl, rfl⟩
set_option maxHeartbeats 1000000 in
theorem l1Sum_c (g off cap m : Nat) (l : List Int) (hm : l.length = m) (hm2 : m ≤ 1048576) (hb : ∀ x ∈ l, 0 ≤ x ∧ x ≤ 255) (w : World) (h : BAt w g off l) :
    Calls Tryd.prog 12 #[.slice (some ⟨g, off, none⟩) m cap] w fun e w' => e = .returned (.int .i64 (sm l)) ∧ w' = w := by
  have Hm : Hid (l.length = m) := hm
  have H : Hid (BAt w g off l) := h
  have Hb : Hid (∀ x ∈ l, 0 ≤ x ∧ x ≤ 255) := hb
  clear hm h hb
  go_enter Tryd.func12, Tryd.ntmps12
  go_wp2
  go_loop [3, 4] (fun s i => ∃ k : Nat, k ≤ m ∧ i = .int .i64 k ∧ s = .int .i64 (sm (l.take k))) (fun _ i => m - (intOf i).toNat)
  case atStart => exact ⟨0, Nat.zero_le _, rfl, rfl⟩
  case round =>
    obtain ⟨k, hk, rfl, rfl⟩ := hrel
    by_cases hlt : k < m
    · have hlt' : (k : Int) < (m : Int) := by omega
      obtain ⟨x, hx⟩ : ∃ x, l[k]? = some x := ⟨_, List.getElem?_eq_getElem (by have := Hm.out; omega)⟩
      have u1 := H.out k x hx
      obtain ⟨x0, x1⟩ := Hb.out x (List.mem_of_getElem? hx)
      have HS : Hid (sm (l.take (k + 1)) = stp (sm (l.take k)) x) := by show _ = _; rw [take_next hx, sm_snoc]
      obtain ⟨s0, s1⟩ := sm_bd (l.take k)
      generalize sm (l.take k) = S at HS s0 s1
      clear hx
      go_wp2
      go_round
      case rel => exact ⟨k + 1, by omega, by go_num, by rw [HS.out]; rfl⟩
      case measure => simp [intOf]; omega
    · obtain rfl : k = m := by omega
      have e : l.take k = l := List.take_of_length_le (by have := Hm.out; omega)
      rw [e]
      clear e
      go_wp2
      go_ret
      exact ⟨rfl, rfl⟩
end Go.Proofs.YtomnadmeolkagaaDoor
