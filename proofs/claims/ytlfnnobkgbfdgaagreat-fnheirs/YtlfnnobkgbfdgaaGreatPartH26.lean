/- Texts of mine put together (a claim holds at most 60 files): LeaveKit. -/
import Derived.Test.YtlfnnobkgbfdgaaGreatPartH24
import Derived.Test.YtlfnnobkgbfdgaaGreatPartH25
import Derived.Test.YtlfnnobkgbfdgaaGreatPartH20
import Derived.Laws.IdiomCopy
import Derived.Lib.SliceRun

/- LeaveKit -/
/- What stays of old memory, by the blocks' types; own rows of seats, of offers and of factions in their block: stores, a shorter row; clear at structs. No condition. -/
section
namespace Go.Proofs.YtlfnnobkgbfdgaaGreat
open Go.ChangeShapes Go.WideShapes Go.ChangeAt Go.RowKit
open Bd
set_option linter.unusedVariables false

/- blocks below base, and blocks of other types, are as they were -/
structure KT (T : TypeId → Bool) (base : Nat) (w w' : World) : Prop where
  os : w'.os = w.os
  tape : w'.tape = w.tape
  output : w'.output = w.output
  size : w.heap.size ≤ w'.heap.size
  old : ∀ k, k < base → w'.heap[k]? = w.heap[k]?
  ty : ∀ (k : Nat) (cs : Array Value) (t : TypeId) (fr : Nat × Nat), w.heap[k]? = some (Obj.cells cs t fr) → T t = false → w'.heap[k]? = some (Obj.cells cs t fr)
theorem KT.refl (T : TypeId → Bool) (base : Nat) (w : World) : KT T base w w := ⟨rfl, rfl, rfl, Nat.le_refl _, fun _ _ => rfl, fun _ _ _ _ h _ => h⟩
theorem KT.of_below {T : TypeId → Bool} {base : Nat} {w w' : World} (hb : base ≤ w.heap.size) (h : Below w.heap.size w w') : KT T base w w' :=
  ⟨h.os, h.tape, h.output, h.size, fun k hk => h.block k (by omega), fun k cs t fr e _ => (h.block k (Array.getElem?_eq_some_iff.1 e).1).trans e⟩
theorem KT.trans {T : TypeId → Bool} {base : Nat} {a b c : World} (h : KT T base a b) (k : KT T base b c) : KT T base a c :=
  ⟨k.os.trans h.os, k.tape.trans h.tape, k.output.trans h.output, Nat.le_trans h.size k.size, fun i hi => (k.old i hi).trans (h.old i hi), fun i cs t fr e ht => k.ty i cs t fr (h.ty i cs t fr e ht) ht⟩
theorem KT.more {T T' : TypeId → Bool} {base base' : Nat} {w w' : World} (h : KT T base w w') (hT : ∀ t, T' t = false → T t = false) (hb : base' ≤ base) : KT T' base' w w' :=
  ⟨h.os, h.tape, h.output, h.size, fun k hk => h.old k (by omega), fun k cs t fr e ht => h.ty k cs t fr e (hT t ht)⟩
theorem KT.step {T : TypeId → Bool} {base : Nat} {a w w' : World} (h : KT T base a w) (hb : base ≤ w.heap.size) (k : Below w.heap.size w w') : KT T base a w' := h.trans (KT.of_below hb k)
theorem KT.set {T : TypeId → Bool} {base g : Nat} {w w' : World} {cs : Array Value} {t : TypeId} (h : KT T base w w') (hb : Blk w' g cs t) (hT : T t = true) (hg : base ≤ g) (i : Nat) (v : Value) : KT T base w (w'.setCell ⟨g, i, none⟩ v) := by
  refine ⟨h.os, h.tape, h.output, ?_, fun k hk => ?_, fun k cs' t' fr e ht => ?_⟩
  · have := h.size; simpa [World.setCell] using this
  · exact (Below.heap_setCell _ ⟨g, i, none⟩ v k (by show k ≠ g; omega)).trans (h.old k hk)
  · have h1 := h.ty k cs' t' fr e ht
    refine (Below.heap_setCell _ ⟨g, i, none⟩ v k ?_).trans h1
    show k ≠ g
    rintro rfl
    unfold Blk at hb
    rw [hb] at h1
    injection h1 with h1
    injection h1 with _ h1 _
    subst h1
    rw [hT] at ht; cases ht
theorem KT.drew {T : TypeId → Bool} {base : Nat} {w w' : World} (h : KT T base w w') : KT T base w w'.drew := ⟨h.os, h.tape, h.output, h.size, h.old, h.ty⟩
theorem KT.blk {T : TypeId → Bool} {base g : Nat} {w w' : World} {cs : Array Value} {t : TypeId} (h : KT T base w w') (hb : Blk w g cs t) (hT : T t = false) : Blk w' g cs t := h.ty g cs t (0, 0) hb hT
theorem KT.below {T : TypeId → Bool} {base n : Nat} {w w' : World} (h : KT T base w w') (hn : n ≤ base) : Below n w w' := ⟨h.os, h.tape, h.output, h.size, fun k hk => h.old k (by omega)⟩
theorem SlU.blkU {w : World} {base : Nat} {v : Value} {l : List K10} (h : SlU w base v l) {q : Nat} (hq : v.ownBlock = some q) : ∃ cs, Blk w q cs 68 := by
  rcases h.2 with ⟨h1, _⟩ | ⟨g, cap, cur, hv, _, hg, _⟩
  · rw [h1] at hq; cases hq
  · rw [hv] at hq
    have e : g = q := Option.some.inj hq
    subst e
    exact ⟨cur, hg⟩
theorem SlF.blkF {w : World} {base : Nat} {v : Value} {l : List K3} (h : SlF w base v l) {q : Nat} (hq : v.ownBlock = some q) : ∃ cs, Blk w q cs 106 := by
  rcases h.2 with ⟨h1, _⟩ | ⟨g, cap, cur, hv, _, hg, _⟩
  · rw [h1] at hq; cases hq
  · rw [hv] at hq
    have e : g = q := Option.some.inj hq
    subst e
    exact ⟨cur, hg⟩
theorem KT.slU {T : TypeId → Bool} {base b : Nat} {w w' : World} {v : Value} {l : List K10} (h : KT T base w w') (s : SlU w b v l) (hT : T 68 = false) : SlU w' b v l :=
  s.of_block (fun q hq => by obtain ⟨cs, hc⟩ := s.blkU hq; rw [h.blk hc hT]; exact hc.symm)
theorem KT.slF {T : TypeId → Bool} {base b : Nat} {w w' : World} {v : Value} {l : List K3} (h : KT T base w w') (s : SlF w b v l) (hT : T 106 = false) : SlF w' b v l :=
  s.of_block (fun q hq => by obtain ⟨cs, hc⟩ := s.blkF hq; rw [h.blk hc hT]; exact hc.symm)
theorem KT.slA {T : TypeId → Bool} {base b : Nat} {w w' : World} {v : Value} {l : List KA} (h : KT T base w w') (s : SlA w b v l) (hT : T 46 = false) : SlA w' b v l :=
  s.of_block (fun q hq => by obtain ⟨cs, hc⟩ := s.blk hq; rw [h.blk hc hT]; exact hc.symm)
theorem KT.slS {T : TypeId → Bool} {base b : Nat} {w w' : World} {v : Value} {l : List K4} (h : KT T base w w') (s : SlS w b v l) (hT : T 74 = false) : SlS w' b v l :=
  s.of_block (fun q hq => by obtain ⟨cs, hc⟩ := s.blk hq; rw [h.blk hc hT]; exact hc.symm)
theorem KT.slO {T : TypeId → Bool} {base b : Nat} {w w' : World} {v : Value} {l : List K2} (h : KT T base w w') (s : SlO w b v l) (hT : T 77 = false) : SlO w' b v l :=
  s.of_block (fun q hq => by obtain ⟨cs, hc⟩ := s.blk hq; rw [h.blk hc hT]; exact hc.symm)
theorem SlI.blkI {w : World} {base : Nat} {v : Value} {l : List Int} (h : SlI w base v l) {q : Nat} (hq : v.ownBlock = some q) : ∃ cs, Blk w q cs 2 := by
  rcases h.2 with ⟨h1, _⟩ | ⟨g, cap, cur, hv, _, hg, _⟩
  · rw [h1] at hq; cases hq
  · rw [hv] at hq
    have e : g = q := Option.some.inj hq
    subst e
    exact ⟨cur, hg⟩
theorem SlI.of_blockI {w w' : World} {base : Nat} {v : Value} {l : List Int} (h : SlI w base v l) (he : ∀ b, v.ownBlock = some b → w'.heap[b]? = w.heap[b]?) : SlI w' base v l := by
  rcases h with ⟨h1, h2⟩
  refine ⟨h1, ?_⟩
  rcases h2 with h2 | ⟨g, cap, cur, hv, hbb, hg, r⟩
  · exact .inl h2
  · exact .inr ⟨g, cap, cur, hv, hbb, (he g (by rw [hv]; rfl)).trans hg, r⟩
theorem KT.slI {T : TypeId → Bool} {base b : Nat} {w w' : World} {v : Value} {l : List Int} (h : KT T base w w') (s : SlI w b v l) (hT : T 2 = false) : SlI w' b v l :=
  s.of_blockI (fun q hq => by obtain ⟨cs, hc⟩ := s.blkI hq; rw [h.blk hc hT]; exact hc.symm)
/- a list of numbers of a call's own, read -/
theorem SlI.read {w : World} {base : Nat} {v : Value} {l : List Int} (h : SlI w base v l) : (v = .slice none 0 0 ∧ l = []) ∨ ∃ g cap, v = .slice (some ⟨g, 0, none⟩) l.length cap ∧ base ≤ g ∧ g < w.heap.size ∧ ∀ i x, l[i]? = some x → w.cell? ⟨g, i, none⟩ = some (.int .i64 x) := by
  rcases h.2 with ⟨h1, h2⟩ | ⟨g, cap, cur, hv, hb, hg, h4, h5, h6, h7⟩
  · exact .inl ⟨h1, List.eq_nil_of_length_eq_zero h2⟩
  · refine .inr ⟨g, cap, hv, hb, (Array.getElem?_eq_some_iff.1 hg).1, fun i x hi => ?_⟩
    have hil : i < l.length := (List.getElem?_eq_some_iff.1 hi).1
    have e : (l.map (Value.int .i64))[i]? = some (.int .i64 x) := by rw [List.getElem?_map, hi]; rfl
    rw [← h7, List.getElem?_take, if_pos (by omega)] at e
    simp [World.cell?, hg]
    simpa using e
theorem run_clear_struct {P : Program} (w : World) (t e : TypeId) (zs : Array Value) (k : Nat) (ht : P.underlying t = some (.slice e)) (hv : ∀ w, (zeroValue e).run P w = .ok (.agg zs) w) (hz : zs.size = k) (hk : 0 < k) (h1 : ∀ v ∈ zs, v.oneCell' = true) (b o n c : Nat) (hn : 0 < n)
    (hc : ∀ j, j < n * k → (w.cell? ⟨b, o + j, none⟩).isSome = true) (hf : ∀ j, j < n * k → w.frozen? ⟨b, o + j, none⟩ = false) :
    ∃ L : List Value, L.length = n * k ∧ (∀ j, j < n * k → L[j]? = some (zs[j % k]!)) ∧ ∀ ty, (Builtin.clear_ #[t] ty #[.slice (some ⟨b, o, none⟩) n c]).run P w = .ok (.tuple #[]) (w.setCells b o L) := by
  have hl : (Builtin.zeroCells (Value.agg zs).cells n).toList.length = n * k := by simp [Builtin.zeroCells, Value.cells, hz]
  have hg : ∀ j, j < n * k → (Builtin.zeroCells (Value.agg zs).cells n).toList[j]? = some (zs[j % k]!) := fun j hj => by
    simp [Builtin.zeroCells, Value.cells, hz, hj]
  refine ⟨_, hl, hg, fun ty => ?_⟩
  have hst := run_storeCells_cells (P := P) b o (Builtin.zeroCells (Value.agg zs).cells n).toList 0 w (by rw [hl]; simpa using hc) (by rw [hl]; simpa using hf) (by
    intro v hv'
    obtain ⟨j, hj, e⟩ := List.getElem_of_mem hv'
    have h2 := hg j (by rw [← hl]; exact hj)
    rw [List.getElem?_eq_getElem hj, e] at h2
    have h3 := Option.some.inj h2
    rw [h3]
    have hjk : j % k < zs.size := by rw [hz]; exact Nat.mod_lt _ hk
    rw [getElem!_pos zs (j % k) hjk]
    exact h1 _ (Array.getElem_mem hjk))
  simp only [Nat.add_zero] at hst
  obtain ⟨m, rfl⟩ : ∃ m, n = m + 1 := ⟨n - 1, by omega⟩
  simp [Builtin.clear_, run_underlying ht, hv, hst]

/- a row of the call's own in its block -/
structure RwS (w : World) (g cap : Nat) (cur : Array Value) (l : List K4) : Prop where
  b : Blk w g cur 74
  m : cap ≤ maxLen
  le : l.length ≤ cap
  sz : cur.size = cap * 4
  tk : cur.toList.take (l.length * 4) = flatS l
theorem SlS.row {w : World} {base : Nat} {v : Value} {l : List K4} (h : SlS w base v l) : (v = .slice none 0 0 ∧ l = []) ∨ ∃ g cap cur, v = .slice (some ⟨g, 0, none⟩) l.length cap ∧ base ≤ g ∧ RwS w g cap cur l := by
  rcases h.2 with ⟨h1, h2⟩ | ⟨g, cap, cur, hv, hb, hg, h4, h5, h6, h7⟩
  · exact .inl ⟨h1, List.eq_nil_of_length_eq_zero h2⟩
  · exact .inr ⟨g, cap, cur, hv, hb, hg, h5, h4, h6, h7⟩
theorem RwS.sl {w : World} {g cap base : Nat} {cur : Array Value} {l : List K4} (h : RwS w g cap cur l) (hb : base ≤ g) : SlS w base (.slice (some ⟨g, 0, none⟩) l.length cap) l :=
  ⟨flatS_len l, .inr ⟨g, cap, cur, rfl, hb, h.b, h.le, h.m, h.sz, h.tk⟩⟩
theorem RwS.at {w : World} {g cap : Nat} {cur : Array Value} {l : List K4} (h : RwS w g cap cur l) : SAt w g 0 l := by
  intro i x hi f hf
  have e := flatS_get l i x f hi hf
  have hil : i < l.length := (List.getElem?_eq_some_iff.1 hi).1
  rw [← h.tk, List.getElem?_take, if_pos (by omega)] at e
  have hb := h.b
  unfold Blk at hb
  simp [World.cell?, hb]
  simpa using e
theorem RwS.some {w : World} {g cap : Nat} {cur : Array Value} {l : List K4} (h : RwS w g cap cur l) (i : Nat) (hi : i < cap * 4) : (w.cell? ⟨g, i, none⟩).isSome = true := by
  have hb := h.b
  unfold Blk at hb
  simp [World.cell?, hb, h.sz, hi]
theorem RwS.below {w w' : World} {g cap : Nat} {cur : Array Value} {l : List K4} (h : RwS w g cap cur l) (hb : Below w.heap.size w w') : RwS w' g cap cur l := ⟨h.b.below hb, h.m, h.le, h.sz, h.tk⟩
theorem RwS.kt {T : TypeId → Bool} {base : Nat} {w w' : World} {g cap : Nat} {cur : Array Value} {l : List K4} (h : RwS w g cap cur l) (hb : KT T base w w') (hT : T 74 = false) : RwS w' g cap cur l := ⟨hb.blk h.b hT, h.m, h.le, h.sz, h.tk⟩
theorem RwS.take {w : World} {g cap : Nat} {cur : Array Value} {l : List K4} (h : RwS w g cap cur l) (k : Nat) (hk : k ≤ l.length) : RwS w g cap cur (l.take k) := by
  have hle := h.le
  have hl : (l.take k).length = k := by rw [List.length_take]; omega
  refine ⟨h.b, h.m, by omega, h.sz, ?_⟩
  have e : cur.toList.take (k * 4) = (flatS l).take (k * 4) := by rw [← h.tk, List.take_take, Nat.min_eq_left (Nat.mul_le_mul_right _ hk)]
  rw [hl, e]
  conv => lhs; rw [← List.take_append_drop k l, flatS_app]
  rw [List.take_append_of_le_length (by rw [flatS_len, hl]; omega), List.take_of_length_le (by rw [flatS_len, hl]; omega)]
theorem flatS_set (l : List K4) (i : Nat) (x : K4) (h : i < l.length) : ((((flatS l).set (i * 4) (.int .i64 x.c0)).set (i * 4 + 1) (.int .i64 x.c1)).set (i * 4 + 2) (.int .i64 x.c2)).set (i * 4 + 3) (.int .i64 x.c3) = flatS (l.set i x) := by
  apply List.ext_getElem?
  intro j
  obtain ⟨q, f, hf, rfl⟩ : ∃ q f, f < 4 ∧ j = q * 4 + f := ⟨j / 4, j % 4, Nat.mod_lt _ (by omega), by omega⟩
  have hlen := flatS_len l
  by_cases hq : q < l.length
  · obtain ⟨y, hy⟩ : ∃ y, l[q]? = some y := ⟨_, List.getElem?_eq_getElem hq⟩
    have h1 := flatS_get l q y f hy hf
    by_cases e : i = q
    · subst e
      have h2 : (l.set i x)[i]? = some x := by rw [List.getElem?_set, if_pos rfl, if_pos hq]
      rw [flatS_get _ _ _ _ h2 hf]
      have hc : f = 0 ∨ f = 1 ∨ f = 2 ∨ f = 3 := by omega
      rcases hc with rfl | rfl | rfl | rfl
      all_goals
        simp only [List.getElem?_set, List.length_set, hlen]
        repeat' split
        all_goals first | rfl | (exfalso; omega) | (exact absurd trivial (by assumption))
    · have h2 : (l.set i x)[q]? = some y := by rw [List.getElem?_set, if_neg e, hy]
      rw [flatS_get _ _ _ _ h2 hf]
      simp only [List.getElem?_set]
      repeat' (rw [if_neg (by omega)])
      exact h1
  · rw [List.getElem?_eq_none (by simp only [List.length_set, hlen]; omega), List.getElem?_eq_none (by rw [flatS_len, List.length_set]; omega)]
theorem RwS.setAll {w : World} {g cap : Nat} {cur : Array Value} {l : List K4} (h : RwS w g cap cur l) (i : Nat) (x : K4) (hi : i < l.length) : ∃ cur', RwS (((((w.setCell ⟨g, i * 4, none⟩ (.int .i64 x.c0)).setCell ⟨g, i * 4 + 1, none⟩ (.int .i64 x.c1)).setCell ⟨g, i * 4 + 2, none⟩ (.int .i64 x.c2)).setCell ⟨g, i * 4 + 3, none⟩ (.int .i64 x.c3))) g cap cur' (l.set i x) := by
  refine ⟨_, ((((h.b).set (i * 4) (.int .i64 x.c0)).set (i * 4 + 1) (.int .i64 x.c1)).set (i * 4 + 2) (.int .i64 x.c2)).set (i * 4 + 3) (.int .i64 x.c3), h.m, by rw [List.length_set]; exact h.le, by simp [h.sz], ?_⟩
  rw [List.length_set, ← flatS_set l i x hi, ← h.tk]
  simp only [Array.toList_setIfInBounds]
  repeat (rw [take_set (by omega)])
theorem RwS.set1 {w : World} {g cap : Nat} {cur : Array Value} {l l' : List K4} (h : RwS w g cap cur l) (i : Nat) (v : Value) (hi : i < l.length * 4) (hl : l'.length = l.length) (hc : (flatS l).set i v = flatS l') : RwS (w.setCell ⟨g, i, none⟩ v) g cap (cur.setIfInBounds i v) l' := by
  refine ⟨h.b.set i v, h.m, by rw [hl]; exact h.le, by simp [h.sz], ?_⟩
  rw [hl, ← hc, ← h.tk, show (cur.setIfInBounds i v).toList = cur.toList.set i v from by simp]
  exact take_set hi
theorem RwS.far {w : World} {g cap : Nat} {cur : Array Value} {l : List K4} (h : RwS w g cap cur l) (i : Nat) (v : Value) (hi : l.length * 4 ≤ i) : RwS (w.setCell ⟨g, i, none⟩ v) g cap (cur.setIfInBounds i v) l := by
  refine ⟨h.b.set i v, h.m, h.le, by simp [h.sz], ?_⟩
  rw [← h.tk, show (cur.setIfInBounds i v).toList = cur.toList.set i v from by simp, List.take_set_of_le hi]

/- a row of the call's own in its block -/
structure RwO (w : World) (g cap : Nat) (cur : Array Value) (l : List K2) : Prop where
  b : Blk w g cur 77
  m : cap ≤ maxLen
  le : l.length ≤ cap
  sz : cur.size = cap * 2
  tk : cur.toList.take (l.length * 2) = flatO l
theorem SlO.row {w : World} {base : Nat} {v : Value} {l : List K2} (h : SlO w base v l) : (v = .slice none 0 0 ∧ l = []) ∨ ∃ g cap cur, v = .slice (some ⟨g, 0, none⟩) l.length cap ∧ base ≤ g ∧ RwO w g cap cur l := by
  rcases h.2 with ⟨h1, h2⟩ | ⟨g, cap, cur, hv, hb, hg, h4, h5, h6, h7⟩
  · exact .inl ⟨h1, List.eq_nil_of_length_eq_zero h2⟩
  · exact .inr ⟨g, cap, cur, hv, hb, hg, h5, h4, h6, h7⟩
theorem RwO.sl {w : World} {g cap base : Nat} {cur : Array Value} {l : List K2} (h : RwO w g cap cur l) (hb : base ≤ g) : SlO w base (.slice (some ⟨g, 0, none⟩) l.length cap) l :=
  ⟨flatO_len l, .inr ⟨g, cap, cur, rfl, hb, h.b, h.le, h.m, h.sz, h.tk⟩⟩
theorem RwO.at {w : World} {g cap : Nat} {cur : Array Value} {l : List K2} (h : RwO w g cap cur l) : OAt w g 0 l := by
  intro i x hi f hf
  have e := flatO_get l i x f hi hf
  have hil : i < l.length := (List.getElem?_eq_some_iff.1 hi).1
  rw [← h.tk, List.getElem?_take, if_pos (by omega)] at e
  have hb := h.b
  unfold Blk at hb
  simp [World.cell?, hb]
  simpa using e
theorem RwO.some {w : World} {g cap : Nat} {cur : Array Value} {l : List K2} (h : RwO w g cap cur l) (i : Nat) (hi : i < cap * 2) : (w.cell? ⟨g, i, none⟩).isSome = true := by
  have hb := h.b
  unfold Blk at hb
  simp [World.cell?, hb, h.sz, hi]
theorem RwO.below {w w' : World} {g cap : Nat} {cur : Array Value} {l : List K2} (h : RwO w g cap cur l) (hb : Below w.heap.size w w') : RwO w' g cap cur l := ⟨h.b.below hb, h.m, h.le, h.sz, h.tk⟩
theorem RwO.kt {T : TypeId → Bool} {base : Nat} {w w' : World} {g cap : Nat} {cur : Array Value} {l : List K2} (h : RwO w g cap cur l) (hb : KT T base w w') (hT : T 77 = false) : RwO w' g cap cur l := ⟨hb.blk h.b hT, h.m, h.le, h.sz, h.tk⟩
theorem RwO.take {w : World} {g cap : Nat} {cur : Array Value} {l : List K2} (h : RwO w g cap cur l) (k : Nat) (hk : k ≤ l.length) : RwO w g cap cur (l.take k) := by
  have hle := h.le
  have hl : (l.take k).length = k := by rw [List.length_take]; omega
  refine ⟨h.b, h.m, by omega, h.sz, ?_⟩
  have e : cur.toList.take (k * 2) = (flatO l).take (k * 2) := by rw [← h.tk, List.take_take, Nat.min_eq_left (Nat.mul_le_mul_right _ hk)]
  rw [hl, e]
  conv => lhs; rw [← List.take_append_drop k l, flatO_app]
  rw [List.take_append_of_le_length (by rw [flatO_len, hl]; omega), List.take_of_length_le (by rw [flatO_len, hl]; omega)]
theorem flatO_set (l : List K2) (i : Nat) (x : K2) (h : i < l.length) : ((flatO l).set (i * 2) (.int .i64 x.c0)).set (i * 2 + 1) (.int .i64 x.c1) = flatO (l.set i x) := by
  apply List.ext_getElem?
  intro j
  obtain ⟨q, f, hf, rfl⟩ : ∃ q f, f < 2 ∧ j = q * 2 + f := ⟨j / 2, j % 2, Nat.mod_lt _ (by omega), by omega⟩
  have hlen := flatO_len l
  by_cases hq : q < l.length
  · obtain ⟨y, hy⟩ : ∃ y, l[q]? = some y := ⟨_, List.getElem?_eq_getElem hq⟩
    have h1 := flatO_get l q y f hy hf
    by_cases e : i = q
    · subst e
      have h2 : (l.set i x)[i]? = some x := by rw [List.getElem?_set, if_pos rfl, if_pos hq]
      rw [flatO_get _ _ _ _ h2 hf]
      have hc : f = 0 ∨ f = 1 := by omega
      rcases hc with rfl | rfl
      all_goals
        simp only [List.getElem?_set, List.length_set, hlen]
        repeat' split
        all_goals first | rfl | (exfalso; omega) | (exact absurd trivial (by assumption))
    · have h2 : (l.set i x)[q]? = some y := by rw [List.getElem?_set, if_neg e, hy]
      rw [flatO_get _ _ _ _ h2 hf]
      simp only [List.getElem?_set]
      repeat' (rw [if_neg (by omega)])
      exact h1
  · rw [List.getElem?_eq_none (by simp only [List.length_set, hlen]; omega), List.getElem?_eq_none (by rw [flatO_len, List.length_set]; omega)]
theorem RwO.setAll {w : World} {g cap : Nat} {cur : Array Value} {l : List K2} (h : RwO w g cap cur l) (i : Nat) (x : K2) (hi : i < l.length) : ∃ cur', RwO (((w.setCell ⟨g, i * 2, none⟩ (.int .i64 x.c0)).setCell ⟨g, i * 2 + 1, none⟩ (.int .i64 x.c1))) g cap cur' (l.set i x) := by
  refine ⟨_, ((h.b).set (i * 2) (.int .i64 x.c0)).set (i * 2 + 1) (.int .i64 x.c1), h.m, by rw [List.length_set]; exact h.le, by simp [h.sz], ?_⟩
  rw [List.length_set, ← flatO_set l i x hi, ← h.tk]
  simp only [Array.toList_setIfInBounds]
  repeat (rw [take_set (by omega)])
theorem RwO.set1 {w : World} {g cap : Nat} {cur : Array Value} {l l' : List K2} (h : RwO w g cap cur l) (i : Nat) (v : Value) (hi : i < l.length * 2) (hl : l'.length = l.length) (hc : (flatO l).set i v = flatO l') : RwO (w.setCell ⟨g, i, none⟩ v) g cap (cur.setIfInBounds i v) l' := by
  refine ⟨h.b.set i v, h.m, by rw [hl]; exact h.le, by simp [h.sz], ?_⟩
  rw [hl, ← hc, ← h.tk, show (cur.setIfInBounds i v).toList = cur.toList.set i v from by simp]
  exact take_set hi
theorem RwO.far {w : World} {g cap : Nat} {cur : Array Value} {l : List K2} (h : RwO w g cap cur l) (i : Nat) (v : Value) (hi : l.length * 2 ≤ i) : RwO (w.setCell ⟨g, i, none⟩ v) g cap (cur.setIfInBounds i v) l := by
  refine ⟨h.b.set i v, h.m, h.le, by simp [h.sz], ?_⟩
  rw [← h.tk, show (cur.setIfInBounds i v).toList = cur.toList.set i v from by simp, List.take_set_of_le hi]

/- a row of the call's own in its block -/
structure RwA (w : World) (g cap : Nat) (cur : Array Value) (l : List KA) : Prop where
  b : Blk w g cur 46
  m : cap ≤ maxLen
  le : l.length ≤ cap
  sz : cur.size = cap * 3
  tk : cur.toList.take (l.length * 3) = flatA l
theorem SlA.row {w : World} {base : Nat} {v : Value} {l : List KA} (h : SlA w base v l) : (v = .slice none 0 0 ∧ l = []) ∨ ∃ g cap cur, v = .slice (some ⟨g, 0, none⟩) l.length cap ∧ base ≤ g ∧ RwA w g cap cur l := by
  rcases h.2 with ⟨h1, h2⟩ | ⟨g, cap, cur, hv, hb, hg, h4, h5, h6, h7⟩
  · exact .inl ⟨h1, List.eq_nil_of_length_eq_zero h2⟩
  · exact .inr ⟨g, cap, cur, hv, hb, hg, h5, h4, h6, h7⟩
theorem RwA.sl {w : World} {g cap base : Nat} {cur : Array Value} {l : List KA} (h : RwA w g cap cur l) (hb : base ≤ g) : SlA w base (.slice (some ⟨g, 0, none⟩) l.length cap) l :=
  ⟨flatA_len l, .inr ⟨g, cap, cur, rfl, hb, h.b, h.le, h.m, h.sz, h.tk⟩⟩
theorem RwA.at {w : World} {g cap : Nat} {cur : Array Value} {l : List KA} (h : RwA w g cap cur l) : AAt w g 0 l := by
  intro i x hi f hf
  have e := flatA_get l i x f hi hf
  have hil : i < l.length := (List.getElem?_eq_some_iff.1 hi).1
  rw [← h.tk, List.getElem?_take, if_pos (by omega)] at e
  have hb := h.b
  unfold Blk at hb
  simp [World.cell?, hb]
  simpa using e
theorem RwA.some {w : World} {g cap : Nat} {cur : Array Value} {l : List KA} (h : RwA w g cap cur l) (i : Nat) (hi : i < cap * 3) : (w.cell? ⟨g, i, none⟩).isSome = true := by
  have hb := h.b
  unfold Blk at hb
  simp [World.cell?, hb, h.sz, hi]
theorem RwA.below {w w' : World} {g cap : Nat} {cur : Array Value} {l : List KA} (h : RwA w g cap cur l) (hb : Below w.heap.size w w') : RwA w' g cap cur l := ⟨h.b.below hb, h.m, h.le, h.sz, h.tk⟩
theorem RwA.kt {T : TypeId → Bool} {base : Nat} {w w' : World} {g cap : Nat} {cur : Array Value} {l : List KA} (h : RwA w g cap cur l) (hb : KT T base w w') (hT : T 46 = false) : RwA w' g cap cur l := ⟨hb.blk h.b hT, h.m, h.le, h.sz, h.tk⟩
theorem RwA.take {w : World} {g cap : Nat} {cur : Array Value} {l : List KA} (h : RwA w g cap cur l) (k : Nat) (hk : k ≤ l.length) : RwA w g cap cur (l.take k) := by
  have hle := h.le
  have hl : (l.take k).length = k := by rw [List.length_take]; omega
  refine ⟨h.b, h.m, by omega, h.sz, ?_⟩
  have e : cur.toList.take (k * 3) = (flatA l).take (k * 3) := by rw [← h.tk, List.take_take, Nat.min_eq_left (Nat.mul_le_mul_right _ hk)]
  rw [hl, e]
  conv => lhs; rw [← List.take_append_drop k l, flatA_app]
  rw [List.take_append_of_le_length (by rw [flatA_len, hl]; omega), List.take_of_length_le (by rw [flatA_len, hl]; omega)]
theorem flatA_set (l : List KA) (i : Nat) (x : KA) (h : i < l.length) : (((flatA l).set (i * 3) (.int .i64 x.c0)).set (i * 3 + 1) (.bool x.c1)).set (i * 3 + 2) (.int .i64 x.c2) = flatA (l.set i x) := by
  apply List.ext_getElem?
  intro j
  obtain ⟨q, f, hf, rfl⟩ : ∃ q f, f < 3 ∧ j = q * 3 + f := ⟨j / 3, j % 3, Nat.mod_lt _ (by omega), by omega⟩
  have hlen := flatA_len l
  by_cases hq : q < l.length
  · obtain ⟨y, hy⟩ : ∃ y, l[q]? = some y := ⟨_, List.getElem?_eq_getElem hq⟩
    have h1 := flatA_get l q y f hy hf
    by_cases e : i = q
    · subst e
      have h2 : (l.set i x)[i]? = some x := by rw [List.getElem?_set, if_pos rfl, if_pos hq]
      rw [flatA_get _ _ _ _ h2 hf]
      have hc : f = 0 ∨ f = 1 ∨ f = 2 := by omega
      rcases hc with rfl | rfl | rfl
      all_goals
        simp only [List.getElem?_set, List.length_set, hlen]
        repeat' split
        all_goals first | rfl | (exfalso; omega) | (exact absurd trivial (by assumption))
    · have h2 : (l.set i x)[q]? = some y := by rw [List.getElem?_set, if_neg e, hy]
      rw [flatA_get _ _ _ _ h2 hf]
      simp only [List.getElem?_set]
      repeat' (rw [if_neg (by omega)])
      exact h1
  · rw [List.getElem?_eq_none (by simp only [List.length_set, hlen]; omega), List.getElem?_eq_none (by rw [flatA_len, List.length_set]; omega)]
theorem RwA.setAll {w : World} {g cap : Nat} {cur : Array Value} {l : List KA} (h : RwA w g cap cur l) (i : Nat) (x : KA) (hi : i < l.length) : ∃ cur', RwA ((((w.setCell ⟨g, i * 3, none⟩ (.int .i64 x.c0)).setCell ⟨g, i * 3 + 1, none⟩ (.bool x.c1)).setCell ⟨g, i * 3 + 2, none⟩ (.int .i64 x.c2))) g cap cur' (l.set i x) := by
  refine ⟨_, (((h.b).set (i * 3) (.int .i64 x.c0)).set (i * 3 + 1) (.bool x.c1)).set (i * 3 + 2) (.int .i64 x.c2), h.m, by rw [List.length_set]; exact h.le, by simp [h.sz], ?_⟩
  rw [List.length_set, ← flatA_set l i x hi, ← h.tk]
  simp only [Array.toList_setIfInBounds]
  repeat (rw [take_set (by omega)])
theorem RwA.set1 {w : World} {g cap : Nat} {cur : Array Value} {l l' : List KA} (h : RwA w g cap cur l) (i : Nat) (v : Value) (hi : i < l.length * 3) (hl : l'.length = l.length) (hc : (flatA l).set i v = flatA l') : RwA (w.setCell ⟨g, i, none⟩ v) g cap (cur.setIfInBounds i v) l' := by
  refine ⟨h.b.set i v, h.m, by rw [hl]; exact h.le, by simp [h.sz], ?_⟩
  rw [hl, ← hc, ← h.tk, show (cur.setIfInBounds i v).toList = cur.toList.set i v from by simp]
  exact take_set hi
theorem RwA.far {w : World} {g cap : Nat} {cur : Array Value} {l : List KA} (h : RwA w g cap cur l) (i : Nat) (v : Value) (hi : l.length * 3 ≤ i) : RwA (w.setCell ⟨g, i, none⟩ v) g cap (cur.setIfInBounds i v) l := by
  refine ⟨h.b.set i v, h.m, h.le, by simp [h.sz], ?_⟩
  rw [← h.tk, show (cur.setIfInBounds i v).toList = cur.toList.set i v from by simp, List.take_set_of_le hi]
theorem RwS.clear {g cap : Nat} {l : List K4} : ∀ (vs : List Value) (w : World) (cur : Array Value) (i : Nat), RwS w g cap cur l → l.length * 4 ≤ i → ∃ cur', RwS (w.setCells g i vs) g cap cur' l
  | [], w, cur, i, h, _ => ⟨cur, h⟩
  | v :: vs, w, cur, i, h, hi => RwS.clear vs (w.setCell ⟨g, i, none⟩ v) _ (i + 1) (h.far i v hi) (by omega)
theorem RwO.clear {g cap : Nat} {l : List K2} : ∀ (vs : List Value) (w : World) (cur : Array Value) (i : Nat), RwO w g cap cur l → l.length * 2 ≤ i → ∃ cur', RwO (w.setCells g i vs) g cap cur' l
  | [], w, cur, i, h, _ => ⟨cur, h⟩
  | v :: vs, w, cur, i, h, hi => RwO.clear vs (w.setCell ⟨g, i, none⟩ v) _ (i + 1) (h.far i v hi) (by omega)
theorem KT.setCells {T : TypeId → Bool} {base g : Nat} {w0 : World} {t : TypeId} (hT : T t = true) (hg : base ≤ g) : ∀ (vs : List Value) (w : World) (cs : Array Value) (i : Nat), Blk w g cs t → KT T base w0 w → KT T base w0 (w.setCells g i vs)
  | [], w, cs, i, _, h => h
  | v :: vs, w, cs, i, hb, h => KT.setCells hT hg vs (w.setCell ⟨g, i, none⟩ v) _ (i + 1) (hb.set i v) (h.set hb hT hg i v)
end Go.Proofs.YtlfnnobkgbfdgaaGreat
end
