/- Texts of mine put together (a claim holds at most 60 files): LeaveKit, SideImpl. -/
import Derived.Test.YtmfdggaijbcijaaGreatPartQ34
import Derived.Test.YtmfdggaijbcijaaGreatPartQ44
import Derived.Test.YtmfdggaijbcijaaGreatPartQ31
import Derived.Laws.IdiomCopy
import Derived.Lib.SliceRun
import Derived.Test.YtmfdggaijbcijaaGreatPartQ17

/- LeaveKit -/
/- What stays of old memory, by the blocks' types; own rows of seats, of offers and of factions in their block: stores, a shorter row; clear at structs. No condition. -/
section
namespace Go.Proofs.YtmfdggaijbcijaaGreat
open Go.ChangeShapes Go.WideShapes Go.ChangeAt Go.RowKit
open Bd
set_option linter.unusedVariables false

/- blocks below base, and blocks of other types, are as they were -/
structure KT (T : TypeId → Bool) (base : Nat) (w w' : World) : Prop where
  os : w'.os = w.os
  tape : w'.tape = w.tape
  output : w'.output = w.output
  size : w.heap.size ≤ w'.heap.size
  old : ∀ k, k < base → w'.heap[k]? = w.heap[k]?
  ty : ∀ (k : Nat) (cs : Array Value) (t : TypeId) (fr : Nat × Nat), w.heap[k]? = some (Obj.cells cs t fr) → T t = false → w'.heap[k]? = some (Obj.cells cs t fr)
theorem KT.refl (T : TypeId → Bool) (base : Nat) (w : World) : KT T base w w := ⟨rfl, rfl, rfl, Nat.le_refl _, fun _ _ => rfl, fun _ _ _ _ h _ => h⟩
theorem KT.of_below {T : TypeId → Bool} {base : Nat} {w w' : World} (hb : base ≤ w.heap.size) (h : Below w.heap.size w w') : KT T base w w' :=
  ⟨h.os, h.tape, h.output, h.size, fun k hk => h.block k (by omega), fun k cs t fr e _ => (h.block k (Array.getElem?_eq_some_iff.1 e).1).trans e⟩
theorem KT.trans {T : TypeId → Bool} {base : Nat} {a b c : World} (h : KT T base a b) (k : KT T base b c) : KT T base a c :=
  ⟨k.os.trans h.os, k.tape.trans h.tape, k.output.trans h.output, Nat.le_trans h.size k.size, fun i hi => (k.old i hi).trans (h.old i hi), fun i cs t fr e ht => k.ty i cs t fr (h.ty i cs t fr e ht) ht⟩
theorem KT.more {T T' : TypeId → Bool} {base base' : Nat} {w w' : World} (h : KT T base w w') (hT : ∀ t, T' t = false → T t = false) (hb : base' ≤ base) : KT T' base' w w' :=
  ⟨h.os, h.tape, h.output, h.size, fun k hk => h.old k (by omega), fun k cs t fr e ht => h.ty k cs t fr e (hT t ht)⟩
theorem KT.step {T : TypeId → Bool} {base : Nat} {a w w' : World} (h : KT T base a w) (hb : base ≤ w.heap.size) (k : Below w.heap.size w w') : KT T base a w' := h.trans (KT.of_below hb k)
theorem KT.set {T : TypeId → Bool} {base g : Nat} {w w' : World} {cs : Array Value} {t : TypeId} (h : KT T base w w') (hb : Blk w' g cs t) (hT : T t = true) (hg : base ≤ g) (i : Nat) (v : Value) : KT T base w (w'.setCell ⟨g, i, none⟩ v) := by
  refine ⟨h.os, h.tape, h.output, ?_, fun k hk => ?_, fun k cs' t' fr e ht => ?_⟩
  · have := h.size; simpa [World.setCell] using this
  · exact (Below.heap_setCell _ ⟨g, i, none⟩ v k (by show k ≠ g; omega)).trans (h.old k hk)
  · have h1 := h.ty k cs' t' fr e ht
    refine (Below.heap_setCell _ ⟨g, i, none⟩ v k ?_).trans h1
    show k ≠ g
    rintro rfl
    unfold Blk at hb
    rw [hb] at h1
    injection h1 with h1
    injection h1 with _ h1 _
    subst h1
    rw [hT] at ht; cases ht
theorem KT.drew {T : TypeId → Bool} {base : Nat} {w w' : World} (h : KT T base w w') : KT T base w w'.drew := ⟨h.os, h.tape, h.output, h.size, h.old, h.ty⟩
theorem KT.blk {T : TypeId → Bool} {base g : Nat} {w w' : World} {cs : Array Value} {t : TypeId} (h : KT T base w w') (hb : Blk w g cs t) (hT : T t = false) : Blk w' g cs t := h.ty g cs t (0, 0) hb hT
theorem KT.below {T : TypeId → Bool} {base n : Nat} {w w' : World} (h : KT T base w w') (hn : n ≤ base) : Below n w w' := ⟨h.os, h.tape, h.output, h.size, fun k hk => h.old k (by omega)⟩
theorem KT.slA {T : TypeId → Bool} {base b : Nat} {w w' : World} {v : Value} {l : List KA} (h : KT T base w w') (s : SlA w b v l) (hT : T 64 = false) : SlA w' b v l :=
  s.of_block (fun q hq => by obtain ⟨cs, hc⟩ := s.blk hq; rw [h.blk hc hT]; exact hc.symm)
theorem SlI.of_blockI {w w' : World} {base : Nat} {v : Value} {l : List Int} (h : SlI w base v l) (he : ∀ b, v.ownBlock = some b → w'.heap[b]? = w.heap[b]?) : SlI w' base v l := by
  rcases h with ⟨h1, h2⟩
  refine ⟨h1, ?_⟩
  rcases h2 with h2 | ⟨g, cap, cur, hv, hbb, hg, r⟩
  · exact .inl h2
  · exact .inr ⟨g, cap, cur, hv, hbb, (he g (by rw [hv]; rfl)).trans hg, r⟩
/- a list of numbers of a call's own, read -/
theorem SlI.read {w : World} {base : Nat} {v : Value} {l : List Int} (h : SlI w base v l) : (v = .slice none 0 0 ∧ l = []) ∨ ∃ g cap, v = .slice (some ⟨g, 0, none⟩) l.length cap ∧ base ≤ g ∧ g < w.heap.size ∧ ∀ i x, l[i]? = some x → w.cell? ⟨g, i, none⟩ = some (.int .i64 x) := by
  rcases h.2 with ⟨h1, h2⟩ | ⟨g, cap, cur, hv, hb, hg, h4, h5, h6, h7⟩
  · exact .inl ⟨h1, List.eq_nil_of_length_eq_zero h2⟩
  · refine .inr ⟨g, cap, hv, hb, (Array.getElem?_eq_some_iff.1 hg).1, fun i x hi => ?_⟩
    have hil : i < l.length := (List.getElem?_eq_some_iff.1 hi).1
    have e : (l.map (Value.int .i64))[i]? = some (.int .i64 x) := by rw [List.getElem?_map, hi]; rfl
    rw [← h7, List.getElem?_take, if_pos (by omega)] at e
    simp [World.cell?, hg]
    simpa using e
/- a row of the call's own in its block -/
structure RwS (w : World) (g cap : Nat) (cur : Array Value) (l : List K4) : Prop where
  b : Blk w g cur 88
  m : cap ≤ maxLen
  le : l.length ≤ cap
  sz : cur.size = cap * 4
  tk : cur.toList.take (l.length * 4) = flatS l
theorem SlS.row {w : World} {base : Nat} {v : Value} {l : List K4} (h : SlS w base v l) : (v = .slice none 0 0 ∧ l = []) ∨ ∃ g cap cur, v = .slice (some ⟨g, 0, none⟩) l.length cap ∧ base ≤ g ∧ RwS w g cap cur l := by
  rcases h.2 with ⟨h1, h2⟩ | ⟨g, cap, cur, hv, hb, hg, h4, h5, h6, h7⟩
  · exact .inl ⟨h1, List.eq_nil_of_length_eq_zero h2⟩
  · exact .inr ⟨g, cap, cur, hv, hb, hg, h5, h4, h6, h7⟩
theorem RwS.sl {w : World} {g cap base : Nat} {cur : Array Value} {l : List K4} (h : RwS w g cap cur l) (hb : base ≤ g) : SlS w base (.slice (some ⟨g, 0, none⟩) l.length cap) l :=
  ⟨flatS_len l, .inr ⟨g, cap, cur, rfl, hb, h.b, h.le, h.m, h.sz, h.tk⟩⟩
theorem RwS.at {w : World} {g cap : Nat} {cur : Array Value} {l : List K4} (h : RwS w g cap cur l) : SAt w g 0 l := by
  intro i x hi f hf
  have e := flatS_get l i x f hi hf
  have hil : i < l.length := (List.getElem?_eq_some_iff.1 hi).1
  rw [← h.tk, List.getElem?_take, if_pos (by omega)] at e
  have hb := h.b
  unfold Blk at hb
  simp [World.cell?, hb]
  simpa using e
theorem RwS.some {w : World} {g cap : Nat} {cur : Array Value} {l : List K4} (h : RwS w g cap cur l) (i : Nat) (hi : i < cap * 4) : (w.cell? ⟨g, i, none⟩).isSome = true := by
  have hb := h.b
  unfold Blk at hb
  simp [World.cell?, hb, h.sz, hi]
theorem RwS.below {w w' : World} {g cap : Nat} {cur : Array Value} {l : List K4} (h : RwS w g cap cur l) (hb : Below w.heap.size w w') : RwS w' g cap cur l := ⟨h.b.below hb, h.m, h.le, h.sz, h.tk⟩
theorem RwS.take {w : World} {g cap : Nat} {cur : Array Value} {l : List K4} (h : RwS w g cap cur l) (k : Nat) (hk : k ≤ l.length) : RwS w g cap cur (l.take k) := by
  have hle := h.le
  have hl : (l.take k).length = k := by rw [List.length_take]; omega
  refine ⟨h.b, h.m, by omega, h.sz, ?_⟩
  have e : cur.toList.take (k * 4) = (flatS l).take (k * 4) := by rw [← h.tk, List.take_take, Nat.min_eq_left (Nat.mul_le_mul_right _ hk)]
  rw [hl, e]
  conv => lhs; rw [← List.take_append_drop k l, flatS_app]
  rw [List.take_append_of_le_length (by rw [flatS_len, hl]; omega), List.take_of_length_le (by rw [flatS_len, hl]; omega)]
theorem RwS.far {w : World} {g cap : Nat} {cur : Array Value} {l : List K4} (h : RwS w g cap cur l) (i : Nat) (v : Value) (hi : l.length * 4 ≤ i) : RwS (w.setCell ⟨g, i, none⟩ v) g cap (cur.setIfInBounds i v) l := by
  refine ⟨h.b.set i v, h.m, h.le, by simp [h.sz], ?_⟩
  rw [← h.tk, show (cur.setIfInBounds i v).toList = cur.toList.set i v from by simp, List.take_set_of_le hi]

/- a row of the call's own in its block -/
structure RwO (w : World) (g cap : Nat) (cur : Array Value) (l : List K2) : Prop where
  b : Blk w g cur 49
  m : cap ≤ maxLen
  le : l.length ≤ cap
  sz : cur.size = cap * 2
  tk : cur.toList.take (l.length * 2) = flatO l
theorem SlO.row {w : World} {base : Nat} {v : Value} {l : List K2} (h : SlO w base v l) : (v = .slice none 0 0 ∧ l = []) ∨ ∃ g cap cur, v = .slice (some ⟨g, 0, none⟩) l.length cap ∧ base ≤ g ∧ RwO w g cap cur l := by
  rcases h.2 with ⟨h1, h2⟩ | ⟨g, cap, cur, hv, hb, hg, h4, h5, h6, h7⟩
  · exact .inl ⟨h1, List.eq_nil_of_length_eq_zero h2⟩
  · exact .inr ⟨g, cap, cur, hv, hb, hg, h5, h4, h6, h7⟩
theorem RwO.sl {w : World} {g cap base : Nat} {cur : Array Value} {l : List K2} (h : RwO w g cap cur l) (hb : base ≤ g) : SlO w base (.slice (some ⟨g, 0, none⟩) l.length cap) l :=
  ⟨flatO_len l, .inr ⟨g, cap, cur, rfl, hb, h.b, h.le, h.m, h.sz, h.tk⟩⟩
theorem RwO.at {w : World} {g cap : Nat} {cur : Array Value} {l : List K2} (h : RwO w g cap cur l) : OAt w g 0 l := by
  intro i x hi f hf
  have e := flatO_get l i x f hi hf
  have hil : i < l.length := (List.getElem?_eq_some_iff.1 hi).1
  rw [← h.tk, List.getElem?_take, if_pos (by omega)] at e
  have hb := h.b
  unfold Blk at hb
  simp [World.cell?, hb]
  simpa using e
theorem RwO.some {w : World} {g cap : Nat} {cur : Array Value} {l : List K2} (h : RwO w g cap cur l) (i : Nat) (hi : i < cap * 2) : (w.cell? ⟨g, i, none⟩).isSome = true := by
  have hb := h.b
  unfold Blk at hb
  simp [World.cell?, hb, h.sz, hi]
theorem RwO.below {w w' : World} {g cap : Nat} {cur : Array Value} {l : List K2} (h : RwO w g cap cur l) (hb : Below w.heap.size w w') : RwO w' g cap cur l := ⟨h.b.below hb, h.m, h.le, h.sz, h.tk⟩
theorem RwO.take {w : World} {g cap : Nat} {cur : Array Value} {l : List K2} (h : RwO w g cap cur l) (k : Nat) (hk : k ≤ l.length) : RwO w g cap cur (l.take k) := by
  have hle := h.le
  have hl : (l.take k).length = k := by rw [List.length_take]; omega
  refine ⟨h.b, h.m, by omega, h.sz, ?_⟩
  have e : cur.toList.take (k * 2) = (flatO l).take (k * 2) := by rw [← h.tk, List.take_take, Nat.min_eq_left (Nat.mul_le_mul_right _ hk)]
  rw [hl, e]
  conv => lhs; rw [← List.take_append_drop k l, flatO_app]
  rw [List.take_append_of_le_length (by rw [flatO_len, hl]; omega), List.take_of_length_le (by rw [flatO_len, hl]; omega)]
theorem RwO.far {w : World} {g cap : Nat} {cur : Array Value} {l : List K2} (h : RwO w g cap cur l) (i : Nat) (v : Value) (hi : l.length * 2 ≤ i) : RwO (w.setCell ⟨g, i, none⟩ v) g cap (cur.setIfInBounds i v) l := by
  refine ⟨h.b.set i v, h.m, h.le, by simp [h.sz], ?_⟩
  rw [← h.tk, show (cur.setIfInBounds i v).toList = cur.toList.set i v from by simp, List.take_set_of_le hi]

/- a row of the call's own in its block -/
structure RwA (w : World) (g cap : Nat) (cur : Array Value) (l : List KA) : Prop where
  b : Blk w g cur 64
  m : cap ≤ maxLen
  le : l.length ≤ cap
  sz : cur.size = cap * 3
  tk : cur.toList.take (l.length * 3) = flatA l
theorem SlA.row {w : World} {base : Nat} {v : Value} {l : List KA} (h : SlA w base v l) : (v = .slice none 0 0 ∧ l = []) ∨ ∃ g cap cur, v = .slice (some ⟨g, 0, none⟩) l.length cap ∧ base ≤ g ∧ RwA w g cap cur l := by
  rcases h.2 with ⟨h1, h2⟩ | ⟨g, cap, cur, hv, hb, hg, h4, h5, h6, h7⟩
  · exact .inl ⟨h1, List.eq_nil_of_length_eq_zero h2⟩
  · exact .inr ⟨g, cap, cur, hv, hb, hg, h5, h4, h6, h7⟩
theorem RwA.sl {w : World} {g cap base : Nat} {cur : Array Value} {l : List KA} (h : RwA w g cap cur l) (hb : base ≤ g) : SlA w base (.slice (some ⟨g, 0, none⟩) l.length cap) l :=
  ⟨flatA_len l, .inr ⟨g, cap, cur, rfl, hb, h.b, h.le, h.m, h.sz, h.tk⟩⟩
theorem RwA.at {w : World} {g cap : Nat} {cur : Array Value} {l : List KA} (h : RwA w g cap cur l) : AAt w g 0 l := by
  intro i x hi f hf
  have e := flatA_get l i x f hi hf
  have hil : i < l.length := (List.getElem?_eq_some_iff.1 hi).1
  rw [← h.tk, List.getElem?_take, if_pos (by omega)] at e
  have hb := h.b
  unfold Blk at hb
  simp [World.cell?, hb]
  simpa using e
theorem RwA.some {w : World} {g cap : Nat} {cur : Array Value} {l : List KA} (h : RwA w g cap cur l) (i : Nat) (hi : i < cap * 3) : (w.cell? ⟨g, i, none⟩).isSome = true := by
  have hb := h.b
  unfold Blk at hb
  simp [World.cell?, hb, h.sz, hi]
theorem RwA.below {w w' : World} {g cap : Nat} {cur : Array Value} {l : List KA} (h : RwA w g cap cur l) (hb : Below w.heap.size w w') : RwA w' g cap cur l := ⟨h.b.below hb, h.m, h.le, h.sz, h.tk⟩
theorem RwA.take {w : World} {g cap : Nat} {cur : Array Value} {l : List KA} (h : RwA w g cap cur l) (k : Nat) (hk : k ≤ l.length) : RwA w g cap cur (l.take k) := by
  have hle := h.le
  have hl : (l.take k).length = k := by rw [List.length_take]; omega
  refine ⟨h.b, h.m, by omega, h.sz, ?_⟩
  have e : cur.toList.take (k * 3) = (flatA l).take (k * 3) := by rw [← h.tk, List.take_take, Nat.min_eq_left (Nat.mul_le_mul_right _ hk)]
  rw [hl, e]
  conv => lhs; rw [← List.take_append_drop k l, flatA_app]
  rw [List.take_append_of_le_length (by rw [flatA_len, hl]; omega), List.take_of_length_le (by rw [flatA_len, hl]; omega)]
theorem RwA.far {w : World} {g cap : Nat} {cur : Array Value} {l : List KA} (h : RwA w g cap cur l) (i : Nat) (v : Value) (hi : l.length * 3 ≤ i) : RwA (w.setCell ⟨g, i, none⟩ v) g cap (cur.setIfInBounds i v) l := by
  refine ⟨h.b.set i v, h.m, h.le, by simp [h.sz], ?_⟩
  rw [← h.tk, show (cur.setIfInBounds i v).toList = cur.toList.set i v from by simp, List.take_set_of_le hi]
theorem RwS.clear {g cap : Nat} {l : List K4} : ∀ (vs : List Value) (w : World) (cur : Array Value) (i : Nat), RwS w g cap cur l → l.length * 4 ≤ i → ∃ cur', RwS (w.setCells g i vs) g cap cur' l
  | [], w, cur, i, h, _ => ⟨cur, h⟩
  | v :: vs, w, cur, i, h, hi => RwS.clear vs (w.setCell ⟨g, i, none⟩ v) _ (i + 1) (h.far i v hi) (by omega)
theorem RwO.clear {g cap : Nat} {l : List K2} : ∀ (vs : List Value) (w : World) (cur : Array Value) (i : Nat), RwO w g cap cur l → l.length * 2 ≤ i → ∃ cur', RwO (w.setCells g i vs) g cap cur' l
  | [], w, cur, i, h, _ => ⟨cur, h⟩
  | v :: vs, w, cur, i, h, hi => RwO.clear vs (w.setCell ⟨g, i, none⟩ v) _ (i + 1) (h.far i v hi) (by omega)
theorem KT.setCells {T : TypeId → Bool} {base g : Nat} {w0 : World} {t : TypeId} (hT : T t = true) (hg : base ≤ g) : ∀ (vs : List Value) (w : World) (cs : Array Value) (i : Nat), Blk w g cs t → KT T base w0 w → KT T base w0 (w.setCells g i vs)
  | [], w, cs, i, _, h => h
  | v :: vs, w, cs, i, hb, h => KT.setCells hT hg vs (w.setCell ⟨g, i, none⟩ v) _ (i + 1) (hb.set i v) (h.set hb hT hg i v)
end Go.Proofs.YtmfdggaijbcijaaGreat
end

/- SideImpl -/
/- The contract of sidesIn. No condition. -/
section
namespace Go.Proofs.YtmfdggaijbcijaaGreat
open Go.ChangeShapes Go.WideShapes Go.ChangeAt Go.RowKit
open Bd
set_option linter.unusedVariables false

/- the sides of a mask below k -/
def sdT (h : Int → Int → Bool) (m : Int) (k : Nat) : List Int := (([0, 1, 2, 3] : List Int).take k).filter (fun j => h m j)
theorem sdT_step {h : Int → Int → Bool} {m : Int} {k : Nat} (hk : k < 4) : sdT h m (k + 1) = sdT h m k ++ (if h m (k : Int) = true then [(k : Int)] else []) := by
  unfold sdT
  have e : ([0, 1, 2, 3] : List Int)[k]? = some (k : Int) := by
    have h4 : k = 0 ∨ k = 1 ∨ k = 2 ∨ k = 3 := by omega
    rcases h4 with rfl | rfl | rfl | rfl <;> rfl
  rw [List.take_add_one, e, List.filter_append]
  cases hh : h m (k : Int) <;> simp [hh]
theorem sdT_all (h : Int → Int → Bool) (m : Int) : sdT h m 4 = sdL h m := rfl
theorem sdT_len (h : Int → Int → Bool) (m : Int) (k : Nat) : (sdT h m k).length ≤ 4 := by
  unfold sdT
  refine Nat.le_trans (List.length_filter_le _ _) ?_
  rw [List.length_take]
  exact Nat.min_le_right _ _
set_option maxHeartbeats 4000000 in
theorem sidesIn_c (m : Int) (w : World) :
    Calls Tryz.prog 63 #[.int .i64 m] w fun e w' => ∃ v, e = .returned v ∧ SlI w' w.heap.size v (sdL hasI m) ∧ Below w.heap.size w w' := by
  obtain ⟨i0, hi, hz0, hz1, hz2⟩ := info_parts info64
  rw [← sdT_all]
  go_enter Tryz.func63, Tryz.ntmps63
  go_wp2_with fail
  go_loopw [3, 5] (fun v i wr => ∃ k : Nat, k ≤ 4 ∧ i = .int .i64 k ∧ Hid (wr.ownsRow w.heap.size 2 1 v (sdT hasI m k).length ((sdT hasI m k).map (Value.int .i64))) ∧ Below w.heap.size w wr) (fun _ i _ => 4 - (intOf i).toNat)
  case atStart => exact ⟨0, Nat.zero_le _, rfl, ⟨rfl, .inl ⟨rfl, rfl⟩⟩, Below.refl _ _⟩
  case round =>
    obtain ⟨k, hk, rfl, Hown, kb⟩ := hrel
    by_cases hlt : k < 4
    · have hlt' : (k : Int) < 4 := by omega
      have HS : Hid (sdT hasI m (k + 1) = sdT hasI m k ++ (if hasI m (k : Int) = true then [(k : Int)] else [])) := sdT_step hlt
      have hlen : (sdT hasI m k).length ≤ 4 := sdT_len _ _ _
      have q0 := fun w => hasBit_c m (k : Int) (by omega) (by omega) w
      cases hq : hasI m (k : Int)
      · rw [hq] at q0
        have ho1 : Hid (wr.ownsRow w.heap.size 2 1 u3 (sdT hasI m (k + 1)).length ((sdT hasI m (k + 1)).map (Value.int .i64))) := by
          show World.ownsRow _ _ _ _ _ _ _
          rw [HS.out, hq]; simpa using Hown.out
        go_wp2_with (go_at_call 38; refine (q0 _).mono ?_; rintro e w1 ⟨rfl, hw1⟩; obtain rfl := hw1.symm)
        go_roundw
        case rel => exact ⟨k + 1, by omega, by go_num, ho1, kb⟩
        case measure => simp [intOf]; omega
      · rw [hq] at q0
        have hown := Hown.out
        go_wp2_with (first | (go_at_call 38; refine (q0 _).mono ?_; rintro e w1 ⟨rfl, hw1⟩; obtain rfl := hw1.symm) | (at_builtin; refine wpList_append_own _ rfl _ _ 43 rfl w.heap.size 2 i0 (.int .i64 0) 1 8 Tryz.underlying43 hi hz0 hz1 hz2 rfl (by decide) _ _ _ rfl (hown.alloc _) ⟨wr.heap.size, 0, none⟩ 1 1 [.int .i64 k] rfl rfl (one_new _ _ _) (one_cell _ _) (by unfold maxLen; omega) (by omega) (by have := kb.size; simp; omega) ?_))
        intro v' w1 hown' hgrow _
        have hb1 : Below w.heap.size w w1 := (kb.alloc kb.size _).grown hgrow (by have := kb.size; simp; omega) (fun k' hk' => (hown.lt k' hk').1)
        have ho1 : Hid (w1.ownsRow w.heap.size 2 1 v' (sdT hasI m (k + 1)).length ((sdT hasI m (k + 1)).map (Value.int .i64))) := by
          show World.ownsRow _ _ _ _ _ _ _
          rw [HS.out, if_pos hq]; simpa using hown'
        clear hown' hgrow hown
        go_wp2_with fail
        go_roundw
        case rel => exact ⟨k + 1, by omega, by go_num, ho1, hb1⟩
        case measure => simp [intOf]; omega
    · obtain rfl : k = 4 := by omega
      have hlt' : ¬ ((4 : Nat) : Int) < 4 := by omega
      have hown' := SlI.of Hown.out
      clear Hown
      go_wp2_with fail
      go_ret
      exact ⟨_, rfl, hown', kb⟩
end Go.Proofs.YtmfdggaijbcijaaGreat
end
