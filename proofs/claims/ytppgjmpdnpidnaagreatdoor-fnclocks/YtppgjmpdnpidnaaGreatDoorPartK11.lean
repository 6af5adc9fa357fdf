/- Texts of mine put together (a claim holds at most 60 files): OwnWalks, MapKeys, OwnRows, OwnPush, InRows, PutSpec. -/
import Derived.Test.YtppgjmpdnpidnaaGreatDoorPartK10
import Derived.Test.YtppgjmpdnpidnaaGreatDoorPartK09
import Derived.Test.YtppgjmpdnpidnaaGreatDoorPartK00
import Derived.Test.YtppgjmpdnpidnaaGreatDoorPartK03
import Derived.OwnWalk
import Derived.Laws.AppendOwnNone
import Derived.Deep.RegionHeld3
import Derived.Deep.Cut
import Derived.Deep.CutRange
import Derived.Outline

/- OwnWalks -/
/- Contracts of OwnedBy and of its model. Condition: the board's two lists lie in memory as they were laid there. -/
section
namespace Go.Proofs.YtppgjmpdnpidnaaGreatDoor
open Go.ChangeShapes Go.WideShapes Go.ChangeAt Go.RowKit
open Bd
set_option linter.unusedVariables false

/- the Ids of an owner's units -/
def idsOf (o : Int) : List K10 → List Int
  | [] => []
  | u :: l => if (u.c1 == o) = true then u.c0 :: idsOf o l else idsOf o l
def obL (us : List K10) (fs : List K3) (o : Int) : List Int := if (bf us fs == 0 && own o) = true then idsOf o us else []
/- a slice of numbers: its first numbers lie in a block of its own, made behind base -/
def SlI (w : World) (base : Nat) (v : Value) (l : List Int) : Prop := w.ownsRow base 2 1 v l.length (l.map (Value.int .i64))
theorem SlI.below {w w' : World} {base : Nat} {v : Value} {l : List Int} (h : SlI w base v l) (hb : Below w.heap.size w w') : SlI w' base v l := by
  rcases h with ⟨h1, h2⟩
  refine ⟨h1, ?_⟩
  rcases h2 with h2 | ⟨g, cap, cur, hv, hbb, hg, r⟩
  · exact .inl h2
  · exact .inr ⟨g, cap, cur, hv, hbb, (hb.block g (Array.getElem?_eq_some_iff.1 hg).1).trans hg, r⟩
theorem SlI.of {w : World} {base : Nat} {v : Value} {l : List Int} (h : w.ownsRow base 2 1 v l.length (l.map (Value.int .i64))) : SlI w base v l := h
theorem SlI.nil (w : World) (base : Nat) : SlI w base (.slice none 0 0) [] := ⟨rfl, .inl ⟨rfl, rfl⟩⟩
theorem SlI.mono {w : World} {base base' : Nat} {v : Value} {l : List Int} (h : SlI w base v l) (hb : base' ≤ base) : SlI w base' v l := by
  rcases h with ⟨h1, h2⟩
  refine ⟨h1, ?_⟩
  rcases h2 with h2 | ⟨g, cap, cur, hv, hbb, r⟩
  · exact .inl h2
  · exact .inr ⟨g, cap, cur, hv, Nat.le_trans hb hbb, r⟩
theorem SlI.form {w : World} {base : Nat} {v : Value} {l : List Int} (h : SlI w base v l) : ∃ a cap, v = .slice a l.length cap := by
  rcases h.2 with ⟨h1, h2⟩ | ⟨g, cap, cur, hv, _⟩
  · exact ⟨none, 0, by rw [h1, h2]⟩
  · exact ⟨_, cap, hv⟩
theorem SlI.set {w : World} {base : Nat} {v : Value} {l : List Int} (h : SlI w base v l) {b o : Nat} (hb : b < base) (x : Value) : SlI (w.setCell ⟨b, o, none⟩ x) base v l := by
  rcases h with ⟨h1, h2⟩
  refine ⟨h1, ?_⟩
  rcases h2 with h2 | ⟨g, cap, cur, hv, hbb, hg, r⟩
  · exact .inl h2
  · exact .inr ⟨g, cap, cur, hv, hbb, (Below.heap_setCell _ ⟨b, o, none⟩ x g (by show g ≠ b; omega)).trans hg, r⟩
end Go.Proofs.YtppgjmpdnpidnaaGreatDoor
end

/- MapKeys -/
/- The keys of the program's map of rows, sorted. Condition: the map is the call's own. -/
section
namespace Go.Proofs.YtppgjmpdnpidnaaGreatDoor
open Go.ChangeShapes Go.WideShapes Go.ChangeAt Go.RowKit
open Go.Maps Go.Sort Go.Shelf
open Bd
set_option linter.unusedVariables false

theorem sortsA (m : Nat) : AnyZI.SortsIn Tryz.prog Tryz.sortedA_ren Fence.wide m :=
  ⟨fun blk off cap ss W hH hblk hsz => callsIn_wide.2 (AnyM.slices_Sort_int Tryz.sortA blk off cap ss W hH hblk hsz),
   fun p cap W => callsIn_wide.2 (AnyM.slices_Sort_int_none Tryz.sortA p cap W)⟩
theorem keys_c (mb : Option Nat) (W : World) :
    Calls Tryz.prog 95 #[.map mb] W fun e w' => e = .returned (.func (.func 108) #[] #[.pointer (some ⟨W.heap.size, 0, none⟩)]) ∧ w' = W.alloc (.cells #[.map mb] 124) :=
  (callsIn_wide (n := 5)).1 (AnyZI.keys_in Tryz.keysA Fence.wide 5 trivial rfl mb W)
theorem intKeys_ent (l : List K10) : intKeys (DataW.map (l.map ent)) = l.map K10.c0 := by
  unfold intKeys
  simp only [List.map_map]
  rfl
theorem sorted_rise {l : List K10} (h : Rise l) {ss : List Int} (hp : ss.Perm (l.map K10.c0)) : ss.mergeSort (fun x y => decide (x ≤ y)) = l.map K10.c0 := by
  have hs : (l.map K10.c0).Pairwise (fun a b => decide (a ≤ b) = true) := by
    rw [List.pairwise_map]
    exact h.imp (fun {a b} hab => decide_eq_true (by omega))
  have h1 : (ss.mergeSort (fun x y => decide (x ≤ y))).Pairwise (fun a b => decide (a ≤ b) = true) := List.pairwise_mergeSort (fun a b c h1 h2 => by simp at h1 h2 ⊢; omega) (fun a b => by simp; omega) ss
  have h2 : (ss.mergeSort (fun x y => decide (x ≤ y))).Perm (l.map K10.c0) := (List.mergeSort_perm ss _).trans hp
  exact List.Perm.eq_of_pairwise (fun a b _ _ h1 h2 => by simp at h1 h2; omega) h1 hs h2
theorem sorted_c (b : Nat) (l : List K10) (hl : l.length ≤ 100) (hr : Rise l) (w : World) (h : MapAt w b l) :
    Calls Tryz.prog 94 #[.func (.func 108) #[] #[.pointer (some ⟨w.heap.size, 0, none⟩)]] (w.alloc (.cells #[.map (some b)] 124)) fun e w' => ∃ v, e = .returned v ∧ SlI w' w.heap.size v (l.map K10.c0) ∧ Below w.heap.size w w' := by
  have hbl := h.lt
  have hsz : Maps.size (DataW.map (l.map ent)) = l.length := by rw [Maps.size_eq, List.length_map]
  have hseq : SeqGives Fence.wide 2 Tryz.prog 108 #[.pointer (some ⟨w.heap.size, 0, none⟩)] encZ (fun ss => ss.Perm (intKeys (DataW.map (l.map ent)))) (Maps.size (DataW.map (l.map ent))) (w.alloc (.cells #[.map (some b)] 124)) :=
    AnyZI.keys_gives (ρ := Tryz.keysA_ren) { Tryz.keysA with } Fence.wide _ trivial rfl (by omega) w.heap.size b l.length _ _ (by simp) (by simp) (by
      obtain ⟨es, clock, hb, Ft, hs, hD⟩ := h
      exact ⟨es, clock, (Below.heap_alloc _ _ b hbl).trans hb, Ft, hs, hD⟩)
  have cS := AnyZI.sorted_in Tryz.sortedA Fence.wide 5 trivial trivial trivial trivial rfl (by omega) (sortsA _) (enters_of Tryz.func107 (by kernel_rfl) rfl) 108 #[.pointer (some ⟨w.heap.size, 0, none⟩)] trivial (enters_of Tryz.func108 (by kernel_rfl) rfl) _ _ (by rw [hsz]; unfold maxLen; omega) (by rw [hsz]; omega) _ hseq
  change CallsIn _ _ Tryz.prog 94 _ _ _ at cS
  refine ((callsIn_wide).1 cS).mono ?_
  rintro e w' ⟨v, ss, rfl, hS, hrow, hnil, hb⟩
  rw [intKeys_ent] at hS
  rw [sorted_rise hr hS] at hrow
  refine ⟨v, rfl, ?_, ((Below.refl _ w).alloc (Nat.le_refl _) _).trans (hb.mono (by simp))⟩
  have hle : ss.length = (l.map K10.c0).length := hS.length_eq
  rw [hle] at hrow
  have hrow' := ownsRow_base_a hrow (base' := w.heap.size) (by simp)
  exact hrow'
end Go.Proofs.YtppgjmpdnpidnaaGreatDoor
end

/- OwnRows -/
/- Slices of units and of fields in memory of a call's own. No condition. -/
section
namespace Go.Proofs.YtppgjmpdnpidnaaGreatDoor
open Go.ChangeShapes Go.WideShapes Go.ChangeAt Go.RowKit
set_option linter.unusedVariables false

def flatU : List K10 → List Value
  | [] => []
  | x :: l => x.v.toList ++ flatU l
theorem flatU_len : ∀ l : List K10, (flatU l).length = l.length * 10
  | [] => rfl
  | x :: l => by unfold flatU; rw [List.length_append, flatU_len l]; show 10 + _ = (l.length + 1) * 10; omega
theorem flatU_app : ∀ l l' : List K10, flatU (l ++ l') = flatU l ++ flatU l'
  | [], _ => rfl
  | x :: l, l' => by show x.v.toList ++ flatU (l ++ l') = (x.v.toList ++ flatU l) ++ flatU l'; rw [flatU_app l l', List.append_assoc]
theorem flatU_get : ∀ (l : List K10) (i : Nat) (x : K10) (f : Nat), l[i]? = some x → f < 10 → (flatU l)[i * 10 + f]? = some (.int .i64 (x.f f))
  | [], i, x, f, h, _ => by simp at h
  | y :: l, 0, x, f, h, hf => by
    have e : y = x := by simpa using h
    subst e
    unfold flatU
    rw [Nat.zero_mul, Nat.zero_add, List.getElem?_append_left (by show f < 10; exact hf)]
    have h6 : f = 0 ∨ f = 1 ∨ f = 2 ∨ f = 3 ∨ f = 4 ∨ f = 5 ∨ f = 6 ∨ f = 7 ∨ f = 8 ∨ f = 9 := by omega
    rcases h6 with rfl | rfl | rfl | rfl | rfl | rfl | rfl | rfl | rfl | rfl <;> rfl
  | y :: l, i + 1, x, f, h, hf => by
    unfold flatU
    have e : (y.v.toList).length = 10 := rfl
    rw [List.getElem?_append_right (by rw [e]; omega), e, show (i + 1) * 10 + f - 10 = i * 10 + f from by omega]
    exact flatU_get l i x f (by simpa using h) hf
theorem flatU_one : ∀ (l : List K10), ∀ u ∈ flatU l, u.oneCell' = true
  | [], u, h => by cases h
  | x :: l, u, h => by
    unfold flatU at h
    rcases List.mem_append.1 h with h | h
    · simp at h
      rcases h with rfl | rfl | rfl | rfl | rfl | rfl | rfl | rfl | rfl | rfl <;> rfl
    · exact flatU_one l u h
/- a slice of such structs, made behind base -/
def SlU (w : World) (base : Nat) (v : Value) (l : List K10) : Prop := w.ownsRow base 75 10 v l.length (flatU l)
theorem SlU.of {w : World} {base : Nat} {v : Value} {l : List K10} (h : w.ownsRow base 75 10 v l.length (flatU l)) : SlU w base v l := h
theorem SlU.below {w w' : World} {base : Nat} {v : Value} {l : List K10} (h : SlU w base v l) (hb : Below w.heap.size w w') : SlU w' base v l := by
  rcases h with ⟨h1, h2⟩
  refine ⟨h1, ?_⟩
  rcases h2 with h2 | ⟨g, cap, cur, hv, hbb, hg, r⟩
  · exact .inl h2
  · exact .inr ⟨g, cap, cur, hv, hbb, (hb.block g (Array.getElem?_eq_some_iff.1 hg).1).trans hg, r⟩
theorem SlU.of_block {w w' : World} {base : Nat} {v : Value} {l : List K10} (h : SlU w base v l) (he : ∀ b, v.ownBlock = some b → w'.heap[b]? = w.heap[b]?) : SlU w' base v l := by
  rcases h with ⟨h1, h2⟩
  refine ⟨h1, ?_⟩
  rcases h2 with h2 | ⟨g, cap, cur, hv, hbb, hg, r⟩
  · exact .inl h2
  · exact .inr ⟨g, cap, cur, hv, hbb, (he g (by rw [hv]; rfl)).trans hg, r⟩
theorem SlU.lt {w : World} {base : Nat} {v : Value} {l : List K10} (s : SlU w base v l) : ∀ b, v.ownBlock = some b → base ≤ b ∧ b < w.heap.size := by
  intro b hb
  rcases s.2 with ⟨h1, h2⟩ | ⟨g, cap, cur, hv, hbb, hg, r⟩
  · rw [h1] at hb; cases hb
  · rw [hv] at hb
    have : g = b := Option.some.inj hb
    subst this
    exact ⟨hbb, (Array.getElem?_eq_some_iff.1 hg).1⟩
theorem SlU.form {w : World} {base : Nat} {v : Value} {l : List K10} (h : SlU w base v l) : ∃ a cap, v = .slice a l.length cap ∧ ArgU w a l := by
  rcases h.2 with ⟨h1, h2⟩ | ⟨g, cap, cur, hv, hbb, hg, h4, h5, h6, h7⟩
  · exact ⟨none, 0, by rw [h1, h2], .inl (List.eq_nil_of_length_eq_zero h2)⟩
  · refine ⟨_, cap, hv, .inr ⟨g, 0, rfl, (Array.getElem?_eq_some_iff.1 hg).1, fun i x hi f hf => ?_⟩⟩
    have e := flatU_get l i x f hi hf
    have hil : i < l.length := (List.getElem?_eq_some_iff.1 hi).1
    rw [← h7, List.getElem?_take, if_pos (by omega)] at e
    simp [World.cell?, hg]
    simpa using e
/- the whole block of such a slice as a row -/
theorem SlU.row {w : World} {base : Nat} {v : Value} {l : List K10} (h : SlU w base v l) (hne : l ≠ []) : ∃ g cap N f, v = .slice (some ⟨g, 0, none⟩) l.length cap ∧ base ≤ g ∧ l.length * 10 ≤ N ∧ w.rowIs g 75 N f ∧ cap ≤ maxLen ∧ l.length ≤ cap ∧ N = cap * 10 := by
  rcases h.2 with ⟨h1, h2⟩ | ⟨g, cap, cur, hv, hbb, hg, h4, h5, h6, h7⟩
  · exact absurd (List.eq_nil_of_length_eq_zero h2) hne
  · exact ⟨g, cap, cap * 10, fun i => cur[i]!, hv, hbb, Nat.mul_le_mul_right _ h4, ⟨cur, hg, h6, fun i hi => by show cur[i]? = some cur[i]!; rw [getElem!_pos cur i (by omega)]; exact Array.getElem?_eq_getElem (by omega)⟩, h5, h4, rfl⟩
def flatF : List K3 → List Value
  | [] => []
  | x :: l => x.v.toList ++ flatF l
theorem flatF_len : ∀ l : List K3, (flatF l).length = l.length * 3
  | [] => rfl
  | x :: l => by unfold flatF; rw [List.length_append, flatF_len l]; show 3 + _ = (l.length + 1) * 3; omega
theorem flatF_app : ∀ l l' : List K3, flatF (l ++ l') = flatF l ++ flatF l'
  | [], _ => rfl
  | x :: l, l' => by show x.v.toList ++ flatF (l ++ l') = (x.v.toList ++ flatF l) ++ flatF l'; rw [flatF_app l l', List.append_assoc]
theorem flatF_get : ∀ (l : List K3) (i : Nat) (x : K3) (f : Nat), l[i]? = some x → f < 3 → (flatF l)[i * 3 + f]? = some (.int .i64 (x.f f))
  | [], i, x, f, h, _ => by simp at h
  | y :: l, 0, x, f, h, hf => by
    have e : y = x := by simpa using h
    subst e
    unfold flatF
    rw [Nat.zero_mul, Nat.zero_add, List.getElem?_append_left (by show f < 3; exact hf)]
    have h6 : f = 0 ∨ f = 1 ∨ f = 2 := by omega
    rcases h6 with rfl | rfl | rfl <;> rfl
  | y :: l, i + 1, x, f, h, hf => by
    unfold flatF
    have e : (y.v.toList).length = 3 := rfl
    rw [List.getElem?_append_right (by rw [e]; omega), e, show (i + 1) * 3 + f - 3 = i * 3 + f from by omega]
    exact flatF_get l i x f (by simpa using h) hf
theorem flatF_one : ∀ (l : List K3), ∀ u ∈ flatF l, u.oneCell' = true
  | [], u, h => by cases h
  | x :: l, u, h => by
    unfold flatF at h
    rcases List.mem_append.1 h with h | h
    · simp at h
      rcases h with rfl | rfl | rfl <;> rfl
    · exact flatF_one l u h
/- a slice of such structs, made behind base -/
def SlF (w : World) (base : Nat) (v : Value) (l : List K3) : Prop := w.ownsRow base 78 3 v l.length (flatF l)
theorem SlF.of {w : World} {base : Nat} {v : Value} {l : List K3} (h : w.ownsRow base 78 3 v l.length (flatF l)) : SlF w base v l := h
theorem SlF.below {w w' : World} {base : Nat} {v : Value} {l : List K3} (h : SlF w base v l) (hb : Below w.heap.size w w') : SlF w' base v l := by
  rcases h with ⟨h1, h2⟩
  refine ⟨h1, ?_⟩
  rcases h2 with h2 | ⟨g, cap, cur, hv, hbb, hg, r⟩
  · exact .inl h2
  · exact .inr ⟨g, cap, cur, hv, hbb, (hb.block g (Array.getElem?_eq_some_iff.1 hg).1).trans hg, r⟩
theorem SlF.of_block {w w' : World} {base : Nat} {v : Value} {l : List K3} (h : SlF w base v l) (he : ∀ b, v.ownBlock = some b → w'.heap[b]? = w.heap[b]?) : SlF w' base v l := by
  rcases h with ⟨h1, h2⟩
  refine ⟨h1, ?_⟩
  rcases h2 with h2 | ⟨g, cap, cur, hv, hbb, hg, r⟩
  · exact .inl h2
  · exact .inr ⟨g, cap, cur, hv, hbb, (he g (by rw [hv]; rfl)).trans hg, r⟩
theorem SlF.lt {w : World} {base : Nat} {v : Value} {l : List K3} (s : SlF w base v l) : ∀ b, v.ownBlock = some b → base ≤ b ∧ b < w.heap.size := by
  intro b hb
  rcases s.2 with ⟨h1, h2⟩ | ⟨g, cap, cur, hv, hbb, hg, r⟩
  · rw [h1] at hb; cases hb
  · rw [hv] at hb
    have : g = b := Option.some.inj hb
    subst this
    exact ⟨hbb, (Array.getElem?_eq_some_iff.1 hg).1⟩
theorem SlF.form {w : World} {base : Nat} {v : Value} {l : List K3} (h : SlF w base v l) : ∃ a cap, v = .slice a l.length cap ∧ ArgF w a l := by
  rcases h.2 with ⟨h1, h2⟩ | ⟨g, cap, cur, hv, hbb, hg, h4, h5, h6, h7⟩
  · exact ⟨none, 0, by rw [h1, h2], .inl (List.eq_nil_of_length_eq_zero h2)⟩
  · refine ⟨_, cap, hv, .inr ⟨g, 0, rfl, (Array.getElem?_eq_some_iff.1 hg).1, fun i x hi f hf => ?_⟩⟩
    have e := flatF_get l i x f hi hf
    have hil : i < l.length := (List.getElem?_eq_some_iff.1 hi).1
    rw [← h7, List.getElem?_take, if_pos (by omega)] at e
    simp [World.cell?, hg]
    simpa using e
/- the whole block of such a slice as a row -/
theorem SlF.row {w : World} {base : Nat} {v : Value} {l : List K3} (h : SlF w base v l) (hne : l ≠ []) : ∃ g cap N f, v = .slice (some ⟨g, 0, none⟩) l.length cap ∧ base ≤ g ∧ l.length * 3 ≤ N ∧ w.rowIs g 78 N f ∧ cap ≤ maxLen ∧ l.length ≤ cap ∧ N = cap * 3 := by
  rcases h.2 with ⟨h1, h2⟩ | ⟨g, cap, cur, hv, hbb, hg, h4, h5, h6, h7⟩
  · exact absurd (List.eq_nil_of_length_eq_zero h2) hne
  · exact ⟨g, cap, cap * 3, fun i => cur[i]!, hv, hbb, Nat.mul_le_mul_right _ h4, ⟨cur, hg, h6, fun i hi => by show cur[i]? = some cur[i]!; rw [getElem!_pos cur i (by omega)]; exact Array.getElem?_eq_getElem (by omega)⟩, h5, h4, rfl⟩
end Go.Proofs.YtppgjmpdnpidnaaGreatDoor
end

/- OwnPush -/
/- Append: one more behind a slice of one's own, and a copy. No condition. -/
section
namespace Go.Proofs.YtppgjmpdnpidnaaGreatDoor
open Go.ChangeShapes Go.WideShapes Go.ChangeAt Go.RowKit
set_option linter.unusedVariables false

theorem wpList_copyU {ops : Array Oper} {rest : List Oper} {o : Oper} {a : Act} {Q : Exit → Act → World → Prop} (hgd : o.guard = none) (s x : Operand)
    (ho : o.op = .call { callee := .builtin .append, args := #[s, x], argTypes := #[24, 24] }) (w0 : World) (l : List K10) (g off n c : Nat) (hn : l.length = n) (hat : UAt w0 g off l) (hg : g < w0.heap.size)
    (hs : a.eval s = .slice (some ⟨w0.heap.size, 0, none⟩) 0 0) (hx : a.eval x = .slice (some ⟨g, off, none⟩) n c) (hlen : n ≤ 100)
    (h : ∀ v' w', SlU w' w0.heap.size v' l → Below w0.heap.size w0 w' → wpList Tryz.prog ops Q rest (a.put o.dst v') w') :
    wpList Tryz.prog ops Q (o :: rest) a (w0.alloc (.cells #[] 75)) := by
  obtain ⟨i0, hi, hz0, hz1, hz2⟩ := info_parts infoU
  have hown : (w0.alloc (.cells #[] 75)).ownsRow w0.heap.size 75 10 (.slice (some ⟨w0.heap.size, 0, none⟩) 0 0) 0 [] := World.ownsRow_made w0 #[] 0 (Nat.le_refl _) (by unfold maxLen; omega) rfl
  refine wpList_append_own _ hgd s x 24 ho w0.heap.size 75 i0 (.agg K10.z.v) 10 80 Tryz.underlying24 hi hz0 hz1 hz2 rfl (by decide) _ 0 _ hs hown ⟨g, off, none⟩ n c (flatU l) hx (by rw [flatU_len, hn]) ?_ (flatU_one l) (by unfold maxLen; omega) (by omega) (by rw [size_new]; omega) ?_
  · intro j y hj
    rw [add_plain', cell_old _ _ _ _ hg]
    have hjl : j < l.length * 10 := by rw [← flatU_len]; exact (List.getElem?_eq_some_iff.1 hj).1
    obtain ⟨z, hz⟩ : ∃ z, l[j / 10]? = some z := ⟨_, List.getElem?_eq_getElem (by omega)⟩
    have e := flatU_get l (j / 10) z (j % 10) hz (by omega)
    have hj2 : j / 10 * 10 + j % 10 = j := by omega
    rw [hj2, hj] at e
    have := hat (j / 10) z hz (j % 10) (by omega)
    rw [show off + j / 10 * 10 + j % 10 = off + j from by omega] at this
    rw [this, e]
  · intro v' w' h1 h2 _
    refine h v' w' ?_ (((Below.refl _ w0).alloc (Nat.le_refl _) _).grown h2 (by rw [size_new]; omega) (fun k' hk' => by cases hk'; exact Nat.le_refl _))
    unfold SlU
    rw [hn]
    simpa using h1
theorem wpList_copyF {ops : Array Oper} {rest : List Oper} {o : Oper} {a : Act} {Q : Exit → Act → World → Prop} (hgd : o.guard = none) (s x : Operand)
    (ho : o.op = .call { callee := .builtin .append, args := #[s, x], argTypes := #[25, 25] }) (w0 : World) (l : List K3) (g off n c : Nat) (hn : l.length = n) (hat : FAt w0 g off l) (hg : g < w0.heap.size)
    (hs : a.eval s = .slice (some ⟨w0.heap.size, 0, none⟩) 0 0) (hx : a.eval x = .slice (some ⟨g, off, none⟩) n c) (hlen : n ≤ 100)
    (h : ∀ v' w', SlF w' w0.heap.size v' l → Below w0.heap.size w0 w' → wpList Tryz.prog ops Q rest (a.put o.dst v') w') :
    wpList Tryz.prog ops Q (o :: rest) a (w0.alloc (.cells #[] 78)) := by
  obtain ⟨i0, hi, hz0, hz1, hz2⟩ := info_parts infoF
  have hown : (w0.alloc (.cells #[] 78)).ownsRow w0.heap.size 78 3 (.slice (some ⟨w0.heap.size, 0, none⟩) 0 0) 0 [] := World.ownsRow_made w0 #[] 0 (Nat.le_refl _) (by unfold maxLen; omega) rfl
  refine wpList_append_own _ hgd s x 25 ho w0.heap.size 78 i0 (.agg K3.z.v) 3 24 Tryz.underlying25 hi hz0 hz1 hz2 rfl (by decide) _ 0 _ hs hown ⟨g, off, none⟩ n c (flatF l) hx (by rw [flatF_len, hn]) ?_ (flatF_one l) (by unfold maxLen; omega) (by omega) (by rw [size_new]; omega) ?_
  · intro j y hj
    rw [add_plain', cell_old _ _ _ _ hg]
    have hjl : j < l.length * 3 := by rw [← flatF_len]; exact (List.getElem?_eq_some_iff.1 hj).1
    obtain ⟨z, hz⟩ : ∃ z, l[j / 3]? = some z := ⟨_, List.getElem?_eq_getElem (by omega)⟩
    have e := flatF_get l (j / 3) z (j % 3) hz (by omega)
    have hj2 : j / 3 * 3 + j % 3 = j := by omega
    rw [hj2, hj] at e
    have := hat (j / 3) z hz (j % 3) (by omega)
    rw [show off + j / 3 * 3 + j % 3 = off + j from by omega] at this
    rw [this, e]
  · intro v' w' h1 h2 _
    refine h v' w' ?_ (((Below.refl _ w0).alloc (Nat.le_refl _) _).grown h2 (by rw [size_new]; omega) (fun k' hk' => by cases hk'; exact Nat.le_refl _))
    unfold SlF
    rw [hn]
    simpa using h1
end Go.Proofs.YtppgjmpdnpidnaaGreatDoor
end

/- InRows -/
/- Lists of units and of fields that a slice holds, which may be nil. No condition. -/
section
namespace Go.Proofs.YtppgjmpdnpidnaaGreatDoor
open Go.ChangeShapes Go.WideShapes Go.ChangeAt Go.RowKit
set_option linter.unusedVariables false

def InU (w : World) (p : Option Addr) (m c : Nat) (l : List K10) : Prop := (p = none ∧ m = 0 ∧ c = 0 ∧ l = []) ∨ ∃ g off, p = some ⟨g, off, none⟩ ∧ g < w.heap.size ∧ UAt w g off l
theorem InU.later {w w' : World} {p : Option Addr} {m c : Nat} {l : List K10} (h : InU w p m c l) (hb : Below w.heap.size w w') : InU w' p m c l := by
  rcases h with h | ⟨g, off, h1, h2, h3⟩
  · exact .inl h
  · exact .inr ⟨g, off, h1, Nat.lt_of_lt_of_le h2 hb.size, h3.later h2 hb⟩
theorem InU.arg {w : World} {p : Option Addr} {m c : Nat} {l : List K10} (h : InU w p m c l) : ArgU w p l := by
  rcases h with ⟨_, _, _, h⟩ | h
  · exact .inl h
  · exact .inr h
theorem InU.at {w : World} {p : Option Addr} {m c : Nat} {l : List K10} (h : InU w p m c l) {i : Nat} {x : K10} (hi : l[i]? = some x) : ∃ b off, p = some ⟨b, off, none⟩ ∧ b < w.heap.size ∧ UAt w b off l := h.arg.at hi
theorem InU.mk {w : World} {g off m c : Nat} {l : List K10} (hg : g < w.heap.size) (h : UAt w g off l) : InU w (some ⟨g, off, none⟩) m c l := .inr ⟨g, off, rfl, hg, h⟩
theorem SlU.in {w : World} {base : Nat} {v : Value} {l : List K10} (h : SlU w base v l) : ∃ p c, v = .slice p l.length c ∧ InU w p l.length c l := by
  rcases h.2 with ⟨h1, h2⟩ | ⟨g, cap, cur, hv, hbb, hg, h4, h5, h6, h7⟩
  · exact ⟨none, 0, by rw [h1, h2], .inl ⟨rfl, h2, rfl, List.eq_nil_of_length_eq_zero h2⟩⟩
  · obtain ⟨a, cap', e, ha⟩ := h.form
    rw [hv] at e
    injection e with e1 e2 e3
    subst e1
    refine ⟨_, cap, hv, ?_⟩
    rcases ha with ha | ⟨b, off, e4, h8, h9⟩
    · subst ha
      exact .inr ⟨g, 0, rfl, (Array.getElem?_eq_some_iff.1 hg).1, fun i x hi => by simp at hi⟩
    · exact .inr ⟨b, off, e4, h8, h9⟩
def InF (w : World) (p : Option Addr) (m c : Nat) (l : List K3) : Prop := (p = none ∧ m = 0 ∧ c = 0 ∧ l = []) ∨ ∃ g off, p = some ⟨g, off, none⟩ ∧ g < w.heap.size ∧ FAt w g off l
theorem InF.later {w w' : World} {p : Option Addr} {m c : Nat} {l : List K3} (h : InF w p m c l) (hb : Below w.heap.size w w') : InF w' p m c l := by
  rcases h with h | ⟨g, off, h1, h2, h3⟩
  · exact .inl h
  · exact .inr ⟨g, off, h1, Nat.lt_of_lt_of_le h2 hb.size, h3.later h2 hb⟩
theorem InF.arg {w : World} {p : Option Addr} {m c : Nat} {l : List K3} (h : InF w p m c l) : ArgF w p l := by
  rcases h with ⟨_, _, _, h⟩ | h
  · exact .inl h
  · exact .inr h
theorem InF.at {w : World} {p : Option Addr} {m c : Nat} {l : List K3} (h : InF w p m c l) {i : Nat} {x : K3} (hi : l[i]? = some x) : ∃ b off, p = some ⟨b, off, none⟩ ∧ b < w.heap.size ∧ FAt w b off l := h.arg.at hi
theorem InF.mk {w : World} {g off m c : Nat} {l : List K3} (hg : g < w.heap.size) (h : FAt w g off l) : InF w (some ⟨g, off, none⟩) m c l := .inr ⟨g, off, rfl, hg, h⟩
theorem SlF.in {w : World} {base : Nat} {v : Value} {l : List K3} (h : SlF w base v l) : ∃ p c, v = .slice p l.length c ∧ InF w p l.length c l := by
  rcases h.2 with ⟨h1, h2⟩ | ⟨g, cap, cur, hv, hbb, hg, h4, h5, h6, h7⟩
  · exact ⟨none, 0, by rw [h1, h2], .inl ⟨rfl, h2, rfl, List.eq_nil_of_length_eq_zero h2⟩⟩
  · obtain ⟨a, cap', e, ha⟩ := h.form
    rw [hv] at e
    injection e with e1 e2 e3
    subst e1
    refine ⟨_, cap, hv, ?_⟩
    rcases ha with ha | ⟨b, off, e4, h8, h9⟩
    · subst ha
      exact .inr ⟨g, 0, rfl, (Array.getElem?_eq_some_iff.1 hg).1, fun i x hi => by simp at hi⟩
    · exact .inr ⟨b, off, e4, h8, h9⟩
theorem grown_refl (w : World) (r : Option Nat) : w.grownBy w r := ⟨rfl, rfl, rfl, Nat.le_refl _, fun _ _ _ => rfl⟩
end Go.Proofs.YtppgjmpdnpidnaaGreatDoor
end

/- PutSpec -/
/- Contracts of the model of PutUnit's parts. Condition: the board's lists rise and lie in memory as they were laid there. -/
section
namespace Go.Proofs.YtppgjmpdnpidnaaGreatDoor
open Go.ChangeShapes Go.WideShapes Go.ChangeAt Go.RowKit
open Bd
set_option linter.unusedVariables false

theorem SlU.mono {w : World} {base base' : Nat} {v : Value} {l : List K10} (h : SlU w base v l) (hb : base' ≤ base) : SlU w base' v l := by
  rcases h with ⟨h1, h2⟩
  refine ⟨h1, ?_⟩
  rcases h2 with h2 | ⟨g, cap, cur, hv, hbb, r⟩
  · exact .inl h2
  · exact .inr ⟨g, cap, cur, hv, Nat.le_trans hb hbb, r⟩
theorem SlF.mono {w : World} {base base' : Nat} {v : Value} {l : List K3} (h : SlF w base v l) (hb : base' ≤ base) : SlF w base' v l := by
  rcases h with ⟨h1, h2⟩
  refine ⟨h1, ?_⟩
  rcases h2 with h2 | ⟨g, cap, cur, hv, hbb, r⟩
  · exact .inl h2
  · exact .inr ⟨g, cap, cur, hv, Nat.le_trans hb hbb, r⟩
/- what is out behind k units: d: u is among them -/
def lp (u : K10) (us : List K10) (d : Bool) (k : Nat) : List K10 := if d = true then putU u (us.take k) else us.take k
def lc (u : K10) (us : List K10) (d : Bool) (k : Nat) : Prop := (d = false ∧ ∀ x ∈ us.take k, x.c0 < u.c0) ∨ (d = true ∧ ∃ x ∈ us.take k, u.c0 ≤ x.c0)
theorem take_next {us : List K10} {k : Nat} {x : K10} (h : us[k]? = some x) : us.take (k + 1) = us.take k ++ [x] := by rw [List.take_add_one, h]; rfl
end Go.Proofs.YtppgjmpdnpidnaaGreatDoor
end
