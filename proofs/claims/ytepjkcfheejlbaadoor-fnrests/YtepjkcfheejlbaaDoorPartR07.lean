/- Texts of mine put together (a claim holds at most 60 files): Iter, MapKeys, OwnPush, InRows, PutSpec. -/
import Derived.Shelf.SlIterI.Nil
import Derived.Shelf.SortM.Plain
import Derived.Shelf.SortM.SortNone
import Derived.Ground.GgzProg
import Derived.Ground.SlgmProg
import Derived.Test.YtepjkcfheejlbaaDoorProg
import Derived.Test.YtepjkcfheejlbaaDoorPartR04
import Derived.Test.YtepjkcfheejlbaaDoorPartR06
import Derived.Test.YtepjkcfheejlbaaDoorPartR03
import Derived.OwnWalk
import Derived.Laws.AppendOwnNone
import Derived.Deep.RegionHeld3
import Derived.Deep.Cut
import Derived.Deep.CutRange
import Derived.Outline
import Derived.Test.YtepjkcfheejlbaaDoorPartR02

/- Iter -/
/- Contracts of the library at this program, laid by the kit (no walk): maps.Keys, slices.Sorted, slices.Sort. -/
section
namespace Go.Proofs
open Go.Shelf
def Tryd.keysA_ren : Go.Shelf.Ren := ⟨fun | 7 => 40 | 10 => 56 | n => n, fun | 23 => 63 | 26 => 2 | 3 => 61 | 28 => 83 | 0 => 0 | 27 => 82 | 33 => 76 | 4 => 4 | n => n, fun | n => n⟩
theorem Tryd.keysA : Go.Proofs.SlLaysZI.n7 Tryd.prog Tryd.keysA_ren := {
  mixed := by kernel_rfl
  f7 := ⟨Tryd.f40.name, by decide, Tryd.func40.trans (congrArg some (by kernel_rfl))⟩
  f10 := ⟨Tryd.f56.name, by decide, Tryd.func56.trans (congrArg some (by kernel_rfl))⟩
  t0 := Tryd.underlying0
  a0 := Tryd.isAgg0
  z0 := Tryd.sizeOf0
  v0 := Tryd.zeroValue0
  t4 := Tryd.underlying4
  a4 := Tryd.isAgg4
  z4 := Tryd.sizeOf4
  v4 := Tryd.zeroValue4
  t23 := Tryd.underlying63
  a23 := Tryd.isAgg63
  z23 := Tryd.sizeOf63
  v23 := Tryd.zeroValue63
  t26 := Tryd.underlying2
  a26 := Tryd.isAgg2
  z26 := Tryd.sizeOf2
  v26 := Tryd.zeroValue2
  t27 := Tryd.underlying82
  a27 := Tryd.isAgg82
  z27 := Tryd.sizeOf82
  v27 := Tryd.zeroValue82
  t28 := Tryd.underlying83
  a28 := Tryd.isAgg83
  z28 := Tryd.sizeOf83
  v28 := Tryd.zeroValue83
  t33 := Tryd.underlying76
  a33 := Tryd.isAgg76
  z33 := Tryd.sizeOf76
  v33 := Tryd.zeroValue76 }
def Tryd.sortedA_ren : Go.Shelf.Ren := ⟨fun | 6 => 39 | 8 => 54 | 9 => 55 | 11 => 59 | 13 => 61 | 12 => 60 | 23 => 75 | 24 => 76 | 14 => 66 | 15 => 67 | 16 => 68 | 17 => 69 | 18 => 70 | 19 => 71 | 20 => 72 | 21 => 73 | 22 => 74 | 25 => 82 | 26 => 83 | 27 => 84 | 28 => 85 | 29 => 86 | 30 => 87 | 31 => 92 | n => n, fun | 26 => 2 | 28 => 83 | 24 => 29 | 0 => 0 | 3 => 3 | 37 => 98 | 48 => 108 | 50 => 110 | 4 => 4 | 40 => 101 | 39 => 100 | 45 => 105 | 5 => 5 | 9 => 9 | 51 => 113 | 55 => 117 | 57 => 124 | 58 => 125 | 33 => 76 | n => n, fun | n => n⟩
theorem Tryd.sortedA : Go.Proofs.SlLaysZI.n6 Tryd.prog Tryd.sortedA_ren := {
  mixed := by kernel_rfl
  f6 := ⟨Tryd.f39.name, by decide, Tryd.func39.trans (congrArg some (by kernel_rfl))⟩
  f8 := ⟨Tryd.f54.name, by decide, Tryd.func54.trans (congrArg some (by kernel_rfl))⟩
  f11 := ⟨Tryd.f59.name, by decide, Tryd.func59.trans (congrArg some (by kernel_rfl))⟩
  t0 := Tryd.underlying0
  a0 := Tryd.isAgg0
  z0 := Tryd.sizeOf0
  v0 := Tryd.zeroValue0
  t24 := Tryd.underlying29
  a24 := Tryd.isAgg29
  z24 := Tryd.sizeOf29
  v24 := Tryd.zeroValue29
  t26 := Tryd.underlying2
  a26 := Tryd.isAgg2
  z26 := Tryd.sizeOf2
  v26 := Tryd.zeroValue2
  t28 := Tryd.underlying83
  a28 := Tryd.isAgg83
  z28 := Tryd.sizeOf83
  v28 := Tryd.zeroValue83
  i26 := by kernel_rfl }
def Tryd.sortA_ren : Go.Shelf.Ren := ⟨fun | 5 => 55 | 8 => 61 | 7 => 60 | 19 => 75 | 20 => 76 | 10 => 66 | 11 => 67 | 12 => 68 | 13 => 69 | 14 => 70 | 15 => 71 | 16 => 72 | 17 => 73 | 18 => 74 | 30 => 82 | 31 => 83 | 32 => 84 | 33 => 85 | 34 => 86 | 35 => 87 | 40 => 92 | n => n, fun | 23 => 29 | 25 => 2 | 3 => 3 | 32 => 98 | 22 => 29 | 0 => 0 | 44 => 108 | 46 => 110 | 4 => 4 | 36 => 101 | 35 => 100 | 41 => 105 | 5 => 5 | 9 => 9 | 53 => 113 | 57 => 117 | 63 => 124 | 64 => 125 | n => n, fun | n => n⟩
theorem Tryd.sortA : Go.Proofs.SlLaysM.n5 Tryd.prog Tryd.sortA_ren := {
  mixed := by kernel_rfl
  f5 := ⟨Tryd.f55.name, by decide, Tryd.func55.trans (congrArg some (by kernel_rfl))⟩
  f7 := ⟨Tryd.f60.name, by decide, Tryd.func60.trans (congrArg some (by kernel_rfl))⟩
  f8 := Tryd.func61.trans (congrArg some (by kernel_rfl))
  f10 := ⟨Tryd.f66.name, by decide, Tryd.func66.trans (congrArg some (by kernel_rfl))⟩
  f11 := ⟨Tryd.f67.name, by decide, Tryd.func67.trans (congrArg some (by kernel_rfl))⟩
  f12 := ⟨Tryd.f68.name, by decide, Tryd.func68.trans (congrArg some (by kernel_rfl))⟩
  f13 := ⟨Tryd.f69.name, by decide, Tryd.func69.trans (congrArg some (by kernel_rfl))⟩
  f14 := ⟨Tryd.f70.name, by decide, Tryd.func70.trans (congrArg some (by kernel_rfl))⟩
  f15 := ⟨Tryd.f71.name, by decide, Tryd.func71.trans (congrArg some (by kernel_rfl))⟩
  f16 := ⟨Tryd.f72.name, by decide, Tryd.func72.trans (congrArg some (by kernel_rfl))⟩
  f17 := ⟨Tryd.f73.name, by decide, Tryd.func73.trans (congrArg some (by kernel_rfl))⟩
  f18 := ⟨Tryd.f74.name, by decide, Tryd.func74.trans (congrArg some (by kernel_rfl))⟩
  f19 := Tryd.func75.trans (congrArg some (by kernel_rfl))
  f20 := Tryd.func76.trans (congrArg some (by kernel_rfl))
  f30 := ⟨Tryd.f82.name, by decide, Tryd.func82.trans (congrArg some (by kernel_rfl))⟩
  f31 := Tryd.func83.trans (congrArg some (by kernel_rfl))
  f32 := Tryd.func84.trans (congrArg some (by kernel_rfl))
  f33 := ⟨Tryd.f85.name, by decide, Tryd.func85.trans (congrArg some (by kernel_rfl))⟩
  f34 := ⟨Tryd.f86.name, by decide, Tryd.func86.trans (congrArg some (by kernel_rfl))⟩
  f35 := ⟨Tryd.f87.name, by decide, Tryd.func87.trans (congrArg some (by kernel_rfl))⟩
  f40 := ⟨Tryd.f92.name, by decide, Tryd.func92.trans (congrArg some (by kernel_rfl))⟩
  t0 := Tryd.underlying0
  a0 := Tryd.isAgg0
  z0 := Tryd.sizeOf0
  v0 := Tryd.zeroValue0
  t3 := Tryd.underlying3
  a3 := Tryd.isAgg3
  z3 := Tryd.sizeOf3
  v3 := Tryd.zeroValue3
  t4 := Tryd.underlying4
  a4 := Tryd.isAgg4
  z4 := Tryd.sizeOf4
  v4 := Tryd.zeroValue4
  t5 := Tryd.underlying5
  a5 := Tryd.isAgg5
  z5 := Tryd.sizeOf5
  v5 := Tryd.zeroValue5
  t9 := Tryd.underlying9
  a9 := Tryd.isAgg9
  z9 := Tryd.sizeOf9
  v9 := Tryd.zeroValue9
  t22 := Tryd.underlying29
  a22 := Tryd.isAgg29
  z22 := Tryd.sizeOf29
  v22 := Tryd.zeroValue29
  t23 := Tryd.underlying29
  a23 := Tryd.isAgg29
  z23 := Tryd.sizeOf29
  v23 := Tryd.zeroValue29
  t25 := Tryd.underlying2
  a25 := Tryd.isAgg2
  z25 := Tryd.sizeOf2
  v25 := Tryd.zeroValue2
  t32 := Tryd.underlying98
  a32 := Tryd.isAgg98
  z32 := Tryd.sizeOf98
  v32 := Tryd.zeroValue98
  t35 := Tryd.underlying100
  a35 := Tryd.isAgg100
  z35 := Tryd.sizeOf100
  v35 := Tryd.zeroValue100
  t36 := Tryd.underlying101
  a36 := Tryd.isAgg101
  z36 := Tryd.sizeOf101
  v36 := Tryd.zeroValue101
  t41 := Tryd.underlying105
  a41 := Tryd.isAgg105
  z41 := Tryd.sizeOf105
  v41 := Tryd.zeroValue105
  t44 := Tryd.underlying108
  a44 := Tryd.isAgg108
  z44 := Tryd.sizeOf108
  v44 := Tryd.zeroValue108
  t46 := Tryd.underlying110
  a46 := Tryd.isAgg110
  z46 := Tryd.sizeOf110
  v46 := Tryd.zeroValue110
  t53 := Tryd.underlying113
  a53 := Tryd.isAgg113
  z53 := Tryd.sizeOf113
  v53 := Tryd.zeroValue113
  t57 := Tryd.underlying117
  a57 := Tryd.isAgg117
  z57 := Tryd.sizeOf117
  v57 := Tryd.zeroValue117
  t63 := Tryd.underlying124
  a63 := Tryd.isAgg124
  z63 := Tryd.sizeOf124
  v63 := Tryd.zeroValue124
  t64 := Tryd.underlying125
  a64 := Tryd.isAgg125
  z64 := Tryd.sizeOf125
  v64 := Tryd.zeroValue125 }
end Go.Proofs
end

/- MapKeys -/
/- The keys of the program's map of rows, sorted. Condition: the map is the call's own. -/
section
namespace Go.Proofs.YtepjkcfheejlbaaDoor
open Go.ChangeShapes Go.WideShapes Go.ChangeAt Go.RowKit Go.Maps Go.Sort Go.Shelf
open Bd
set_option linter.unusedVariables false

theorem sortsA (m : Nat) : AnyZI.SortsIn Tryd.prog Tryd.sortedA_ren Fence.wide m :=
  ⟨fun blk off cap ss W hH hblk hsz => callsIn_wide.2 (AnyM.slices_Sort_int Tryd.sortA blk off cap ss W hH hblk hsz),
   fun p cap W => callsIn_wide.2 (AnyM.slices_Sort_int_none Tryd.sortA p cap W)⟩
theorem keys_c (mb : Option Nat) (W : World) :
    Calls Tryd.prog 40 #[.map mb] W fun e w' => e = .returned (.func (.func 56) #[] #[.pointer (some ⟨W.heap.size, 0, none⟩)]) ∧ w' = W.alloc (.cells #[.map mb] 63) :=
  (callsIn_wide (n := 5)).1 (AnyZI.keys_in Tryd.keysA Fence.wide 5 trivial rfl mb W)
theorem intKeys_ent (l : List K10) : intKeys (DataW.map (l.map ent)) = l.map K10.c0 := by
  unfold intKeys
  simp only [List.map_map]
  rfl
theorem sorted_rise {l : List K10} (h : Rise l) {ss : List Int} (hp : ss.Perm (l.map K10.c0)) : ss.mergeSort (fun x y => decide (x ≤ y)) = l.map K10.c0 := by
  have hs : (l.map K10.c0).Pairwise (fun a b => decide (a ≤ b) = true) := by
    rw [List.pairwise_map]
    exact h.imp (fun {a b} hab => decide_eq_true (by omega))
  have h1 : (ss.mergeSort (fun x y => decide (x ≤ y))).Pairwise (fun a b => decide (a ≤ b) = true) := List.pairwise_mergeSort (fun a b c h1 h2 => by simp at h1 h2 ⊢; omega) (fun a b => by simp; omega) ss
  have h2 : (ss.mergeSort (fun x y => decide (x ≤ y))).Perm (l.map K10.c0) := (List.mergeSort_perm ss _).trans hp
  exact List.Perm.eq_of_pairwise (fun a b _ _ h1 h2 => by simp at h1 h2; omega) h1 hs h2
theorem sorted_c (b : Nat) (l : List K10) (hl : l.length ≤ 100) (hr : Rise l) (w : World) (h : MapAt w b l) :
    Calls Tryd.prog 39 #[.func (.func 56) #[] #[.pointer (some ⟨w.heap.size, 0, none⟩)]] (w.alloc (.cells #[.map (some b)] 63)) fun e w' => ∃ v, e = .returned v ∧ SlI w' w.heap.size v (l.map K10.c0) ∧ Below w.heap.size w w' := by
  have hbl := h.lt
  have hsz : Maps.size (DataW.map (l.map ent)) = l.length := by rw [Maps.size_eq, List.length_map]
  have hseq : SeqGives Fence.wide 2 Tryd.prog 56 #[.pointer (some ⟨w.heap.size, 0, none⟩)] encZ (fun ss => ss.Perm (intKeys (DataW.map (l.map ent)))) (Maps.size (DataW.map (l.map ent))) (w.alloc (.cells #[.map (some b)] 63)) :=
    AnyZI.keys_gives (ρ := Tryd.keysA_ren) { Tryd.keysA with } Fence.wide _ trivial rfl (by omega) w.heap.size b l.length _ _ (by simp) (by simp) (by
      obtain ⟨es, clock, hb, Ft, hs, hD⟩ := h
      exact ⟨es, clock, (Below.heap_alloc _ _ b hbl).trans hb, Ft, hs, hD⟩)
  have cS := AnyZI.sorted_in Tryd.sortedA Fence.wide 5 trivial trivial trivial trivial rfl (by omega) (sortsA _) (enters_of Tryd.func55 (by kernel_rfl) rfl) 56 #[.pointer (some ⟨w.heap.size, 0, none⟩)] trivial (enters_of Tryd.func56 (by kernel_rfl) rfl) _ _ (by rw [hsz]; unfold maxLen; omega) (by rw [hsz]; omega) _ hseq
  change CallsIn _ _ Tryd.prog 39 _ _ _ at cS
  refine ((callsIn_wide).1 cS).mono ?_
  rintro e w' ⟨v, ss, rfl, hS, hrow, hnil, hb⟩
  rw [intKeys_ent] at hS
  rw [sorted_rise hr hS] at hrow
  refine ⟨v, rfl, ?_, ((Below.refl _ w).alloc (Nat.le_refl _) _).trans (hb.mono (by simp))⟩
  have hle : ss.length = (l.map K10.c0).length := hS.length_eq
  rw [hle] at hrow
  have hrow' := ownsRow_base_a hrow (base' := w.heap.size) (by simp)
  exact hrow'
end Go.Proofs.YtepjkcfheejlbaaDoor
end

/- OwnPush -/
/- Append: one more behind a slice of one's own, and a copy. No condition. -/
section
namespace Go.Proofs.YtepjkcfheejlbaaDoor
open Go.ChangeShapes Go.WideShapes Go.ChangeAt Go.RowKit
set_option linter.unusedVariables false

theorem wpList_pushU {ops : Array Oper} {rest : List Oper} {o : Oper} {a : Act} {Q : Exit → Act → World → Prop} (hgd : o.guard = none) (s x : Operand)
    (ho : o.op = .call { callee := .builtin .append, args := #[s, x], argTypes := #[24, 24] }) (w0 : World) (u : K10) (base : Nat) (v : Value) (l : List K10) (hs : a.eval s = v) (hown : SlU w0 base v l)
    (hx : a.eval x = .slice (some ⟨w0.heap.size, 0, none⟩) 1 1) (hlen : l.length ≤ 100) (hbase : base ≤ w0.heap.size)
    (h : ∀ v' w', SlU w' base v' (l ++ [u]) → Below base w0 w' → wpList Tryd.prog ops Q rest (a.put o.dst v') w') :
    wpList Tryd.prog ops Q (o :: rest) a (w0.alloc (.cells u.v 37)) := by
  obtain ⟨i0, hi, hz0, hz1, hz2⟩ := info_parts infoU
  have hown' : SlU (w0.alloc (.cells u.v 37)) base v l := hown.below ((Below.refl _ _).alloc (Nat.le_refl _) _)
  refine wpList_append_own _ hgd s x 24 ho base 37 i0 (.agg K10.z.v) 10 80 Tryd.underlying24 hi hz0 hz1 hz2 rfl (by decide) v l.length _ hs hown' ⟨w0.heap.size, 0, none⟩ 1 1 u.v.toList hx (by rfl) ?_ ?_ (by unfold maxLen; omega) (by omega) (by rw [size_new]; omega) ?_
  · intro j y hj
    rw [add_plain', Nat.zero_add]
    exact cell_new _ _ _ _ _ (by simpa using hj)
  · intro y hy
    exact flatU_one [u] y (by unfold flatU; exact List.mem_append_left _ hy)
  · intro v' w' h1 h2 _
    refine h v' w' ?_ (((Below.refl base w0).alloc hbase _).grown h2 (by rw [size_new]; omega) (fun k' hk' => (hown.lt k' hk').1))
    unfold SlU
    rw [flatU_app, List.length_append]
    exact h1
theorem wpList_copyU {ops : Array Oper} {rest : List Oper} {o : Oper} {a : Act} {Q : Exit → Act → World → Prop} (hgd : o.guard = none) (s x : Operand)
    (ho : o.op = .call { callee := .builtin .append, args := #[s, x], argTypes := #[24, 24] }) (w0 : World) (l : List K10) (g off n c : Nat) (hn : l.length = n) (hat : UAt w0 g off l) (hg : g < w0.heap.size)
    (hs : a.eval s = .slice (some ⟨w0.heap.size, 0, none⟩) 0 0) (hx : a.eval x = .slice (some ⟨g, off, none⟩) n c) (hlen : n ≤ 100)
    (h : ∀ v' w', SlU w' w0.heap.size v' l → Below w0.heap.size w0 w' → wpList Tryd.prog ops Q rest (a.put o.dst v') w') :
    wpList Tryd.prog ops Q (o :: rest) a (w0.alloc (.cells #[] 37)) := by
  obtain ⟨i0, hi, hz0, hz1, hz2⟩ := info_parts infoU
  have hown : (w0.alloc (.cells #[] 37)).ownsRow w0.heap.size 37 10 (.slice (some ⟨w0.heap.size, 0, none⟩) 0 0) 0 [] := World.ownsRow_made w0 #[] 0 (Nat.le_refl _) (by unfold maxLen; omega) rfl
  refine wpList_append_own _ hgd s x 24 ho w0.heap.size 37 i0 (.agg K10.z.v) 10 80 Tryd.underlying24 hi hz0 hz1 hz2 rfl (by decide) _ 0 _ hs hown ⟨g, off, none⟩ n c (flatU l) hx (by rw [flatU_len, hn]) ?_ (flatU_one l) (by unfold maxLen; omega) (by omega) (by rw [size_new]; omega) ?_
  · intro j y hj
    rw [add_plain', cell_old _ _ _ _ hg]
    have hjl : j < l.length * 10 := by rw [← flatU_len]; exact (List.getElem?_eq_some_iff.1 hj).1
    obtain ⟨z, hz⟩ : ∃ z, l[j / 10]? = some z := ⟨_, List.getElem?_eq_getElem (by omega)⟩
    have e := flatU_get l (j / 10) z (j % 10) hz (by omega)
    have hj2 : j / 10 * 10 + j % 10 = j := by omega
    rw [hj2, hj] at e
    have := hat (j / 10) z hz (j % 10) (by omega)
    rw [show off + j / 10 * 10 + j % 10 = off + j from by omega] at this
    rw [this, e]
  · intro v' w' h1 h2 _
    refine h v' w' ?_ (((Below.refl _ w0).alloc (Nat.le_refl _) _).grown h2 (by rw [size_new]; omega) (fun k' hk' => by cases hk'; exact Nat.le_refl _))
    unfold SlU
    rw [hn]
    simpa using h1
theorem wpList_pushF {ops : Array Oper} {rest : List Oper} {o : Oper} {a : Act} {Q : Exit → Act → World → Prop} (hgd : o.guard = none) (s x : Operand)
    (ho : o.op = .call { callee := .builtin .append, args := #[s, x], argTypes := #[25, 25] }) (w0 : World) (u : K3) (base : Nat) (v : Value) (l : List K3) (hs : a.eval s = v) (hown : SlF w0 base v l)
    (hx : a.eval x = .slice (some ⟨w0.heap.size, 0, none⟩) 1 1) (hlen : l.length ≤ 100) (hbase : base ≤ w0.heap.size)
    (h : ∀ v' w', SlF w' base v' (l ++ [u]) → Below base w0 w' → wpList Tryd.prog ops Q rest (a.put o.dst v') w') :
    wpList Tryd.prog ops Q (o :: rest) a (w0.alloc (.cells u.v 53)) := by
  obtain ⟨i0, hi, hz0, hz1, hz2⟩ := info_parts infoF
  have hown' : SlF (w0.alloc (.cells u.v 53)) base v l := hown.below ((Below.refl _ _).alloc (Nat.le_refl _) _)
  refine wpList_append_own _ hgd s x 25 ho base 53 i0 (.agg K3.z.v) 3 24 Tryd.underlying25 hi hz0 hz1 hz2 rfl (by decide) v l.length _ hs hown' ⟨w0.heap.size, 0, none⟩ 1 1 u.v.toList hx (by rfl) ?_ ?_ (by unfold maxLen; omega) (by omega) (by rw [size_new]; omega) ?_
  · intro j y hj
    rw [add_plain', Nat.zero_add]
    exact cell_new _ _ _ _ _ (by simpa using hj)
  · intro y hy
    exact flatF_one [u] y (by unfold flatF; exact List.mem_append_left _ hy)
  · intro v' w' h1 h2 _
    refine h v' w' ?_ (((Below.refl base w0).alloc hbase _).grown h2 (by rw [size_new]; omega) (fun k' hk' => (hown.lt k' hk').1))
    unfold SlF
    rw [flatF_app, List.length_append]
    exact h1
theorem wpList_copyF {ops : Array Oper} {rest : List Oper} {o : Oper} {a : Act} {Q : Exit → Act → World → Prop} (hgd : o.guard = none) (s x : Operand)
    (ho : o.op = .call { callee := .builtin .append, args := #[s, x], argTypes := #[25, 25] }) (w0 : World) (l : List K3) (g off n c : Nat) (hn : l.length = n) (hat : FAt w0 g off l) (hg : g < w0.heap.size)
    (hs : a.eval s = .slice (some ⟨w0.heap.size, 0, none⟩) 0 0) (hx : a.eval x = .slice (some ⟨g, off, none⟩) n c) (hlen : n ≤ 100)
    (h : ∀ v' w', SlF w' w0.heap.size v' l → Below w0.heap.size w0 w' → wpList Tryd.prog ops Q rest (a.put o.dst v') w') :
    wpList Tryd.prog ops Q (o :: rest) a (w0.alloc (.cells #[] 53)) := by
  obtain ⟨i0, hi, hz0, hz1, hz2⟩ := info_parts infoF
  have hown : (w0.alloc (.cells #[] 53)).ownsRow w0.heap.size 53 3 (.slice (some ⟨w0.heap.size, 0, none⟩) 0 0) 0 [] := World.ownsRow_made w0 #[] 0 (Nat.le_refl _) (by unfold maxLen; omega) rfl
  refine wpList_append_own _ hgd s x 25 ho w0.heap.size 53 i0 (.agg K3.z.v) 3 24 Tryd.underlying25 hi hz0 hz1 hz2 rfl (by decide) _ 0 _ hs hown ⟨g, off, none⟩ n c (flatF l) hx (by rw [flatF_len, hn]) ?_ (flatF_one l) (by unfold maxLen; omega) (by omega) (by rw [size_new]; omega) ?_
  · intro j y hj
    rw [add_plain', cell_old _ _ _ _ hg]
    have hjl : j < l.length * 3 := by rw [← flatF_len]; exact (List.getElem?_eq_some_iff.1 hj).1
    obtain ⟨z, hz⟩ : ∃ z, l[j / 3]? = some z := ⟨_, List.getElem?_eq_getElem (by omega)⟩
    have e := flatF_get l (j / 3) z (j % 3) hz (by omega)
    have hj2 : j / 3 * 3 + j % 3 = j := by omega
    rw [hj2, hj] at e
    have := hat (j / 3) z hz (j % 3) (by omega)
    rw [show off + j / 3 * 3 + j % 3 = off + j from by omega] at this
    rw [this, e]
  · intro v' w' h1 h2 _
    refine h v' w' ?_ (((Below.refl _ w0).alloc (Nat.le_refl _) _).grown h2 (by rw [size_new]; omega) (fun k' hk' => by cases hk'; exact Nat.le_refl _))
    unfold SlF
    rw [hn]
    simpa using h1
end Go.Proofs.YtepjkcfheejlbaaDoor
end

/- InRows -/
/- Lists of units and of fields that a slice holds, which may be nil. No condition. -/
section
namespace Go.Proofs.YtepjkcfheejlbaaDoor
open Go.ChangeShapes Go.WideShapes Go.ChangeAt Go.RowKit
set_option linter.unusedVariables false

def InU (w : World) (p : Option Addr) (m c : Nat) (l : List K10) : Prop := (p = none ∧ m = 0 ∧ c = 0 ∧ l = []) ∨ ∃ g off, p = some ⟨g, off, none⟩ ∧ g < w.heap.size ∧ UAt w g off l
theorem InU.later {w w' : World} {p : Option Addr} {m c : Nat} {l : List K10} (h : InU w p m c l) (hb : Below w.heap.size w w') : InU w' p m c l := by
  rcases h with h | ⟨g, off, h1, h2, h3⟩
  · exact .inl h
  · exact .inr ⟨g, off, h1, Nat.lt_of_lt_of_le h2 hb.size, h3.later h2 hb⟩
theorem InU.arg {w : World} {p : Option Addr} {m c : Nat} {l : List K10} (h : InU w p m c l) : ArgU w p l := by
  rcases h with ⟨_, _, _, h⟩ | h
  · exact .inl h
  · exact .inr h
theorem InU.at {w : World} {p : Option Addr} {m c : Nat} {l : List K10} (h : InU w p m c l) {i : Nat} {x : K10} (hi : l[i]? = some x) : ∃ b off, p = some ⟨b, off, none⟩ ∧ b < w.heap.size ∧ UAt w b off l := h.arg.at hi
theorem InU.mk {w : World} {g off m c : Nat} {l : List K10} (hg : g < w.heap.size) (h : UAt w g off l) : InU w (some ⟨g, off, none⟩) m c l := .inr ⟨g, off, rfl, hg, h⟩
theorem SlU.in {w : World} {base : Nat} {v : Value} {l : List K10} (h : SlU w base v l) : ∃ p c, v = .slice p l.length c ∧ InU w p l.length c l := by
  rcases h.2 with ⟨h1, h2⟩ | ⟨g, cap, cur, hv, hbb, hg, h4, h5, h6, h7⟩
  · exact ⟨none, 0, by rw [h1, h2], .inl ⟨rfl, h2, rfl, List.eq_nil_of_length_eq_zero h2⟩⟩
  · obtain ⟨a, cap', e, ha⟩ := h.form
    rw [hv] at e
    injection e with e1 e2 e3
    subst e1
    refine ⟨_, cap, hv, ?_⟩
    rcases ha with ha | ⟨b, off, e4, h8, h9⟩
    · subst ha
      exact .inr ⟨g, 0, rfl, (Array.getElem?_eq_some_iff.1 hg).1, fun i x hi => by simp at hi⟩
    · exact .inr ⟨b, off, e4, h8, h9⟩
def InF (w : World) (p : Option Addr) (m c : Nat) (l : List K3) : Prop := (p = none ∧ m = 0 ∧ c = 0 ∧ l = []) ∨ ∃ g off, p = some ⟨g, off, none⟩ ∧ g < w.heap.size ∧ FAt w g off l
theorem InF.later {w w' : World} {p : Option Addr} {m c : Nat} {l : List K3} (h : InF w p m c l) (hb : Below w.heap.size w w') : InF w' p m c l := by
  rcases h with h | ⟨g, off, h1, h2, h3⟩
  · exact .inl h
  · exact .inr ⟨g, off, h1, Nat.lt_of_lt_of_le h2 hb.size, h3.later h2 hb⟩
theorem InF.arg {w : World} {p : Option Addr} {m c : Nat} {l : List K3} (h : InF w p m c l) : ArgF w p l := by
  rcases h with ⟨_, _, _, h⟩ | h
  · exact .inl h
  · exact .inr h
theorem InF.at {w : World} {p : Option Addr} {m c : Nat} {l : List K3} (h : InF w p m c l) {i : Nat} {x : K3} (hi : l[i]? = some x) : ∃ b off, p = some ⟨b, off, none⟩ ∧ b < w.heap.size ∧ FAt w b off l := h.arg.at hi
theorem InF.mk {w : World} {g off m c : Nat} {l : List K3} (hg : g < w.heap.size) (h : FAt w g off l) : InF w (some ⟨g, off, none⟩) m c l := .inr ⟨g, off, rfl, hg, h⟩
theorem SlF.in {w : World} {base : Nat} {v : Value} {l : List K3} (h : SlF w base v l) : ∃ p c, v = .slice p l.length c ∧ InF w p l.length c l := by
  rcases h.2 with ⟨h1, h2⟩ | ⟨g, cap, cur, hv, hbb, hg, h4, h5, h6, h7⟩
  · exact ⟨none, 0, by rw [h1, h2], .inl ⟨rfl, h2, rfl, List.eq_nil_of_length_eq_zero h2⟩⟩
  · obtain ⟨a, cap', e, ha⟩ := h.form
    rw [hv] at e
    injection e with e1 e2 e3
    subst e1
    refine ⟨_, cap, hv, ?_⟩
    rcases ha with ha | ⟨b, off, e4, h8, h9⟩
    · subst ha
      exact .inr ⟨g, 0, rfl, (Array.getElem?_eq_some_iff.1 hg).1, fun i x hi => by simp at hi⟩
    · exact .inr ⟨b, off, e4, h8, h9⟩
theorem grown_refl (w : World) (r : Option Nat) : w.grownBy w r := ⟨rfl, rfl, rfl, Nat.le_refl _, fun _ _ _ => rfl⟩
theorem wpList_copyFI {ops : Array Oper} {rest : List Oper} {o : Oper} {a : Act} {Q : Exit → Act → World → Prop} (hgd : o.guard = none) (s x : Operand)
    (ho : o.op = .call { callee := .builtin .append, args := #[s, x], argTypes := #[25, 25] }) (w0 : World) (l : List K3) (p : Option Addr) (n c : Nat) (hn : l.length = n) (hat : InF w0 p n c l)
    (hs : a.eval s = .slice (some ⟨w0.heap.size, 0, none⟩) 0 0) (hx : a.eval x = .slice p n c) (hlen : n ≤ 100)
    (h : ∀ v' w', SlF w' w0.heap.size v' l → Below w0.heap.size w0 w' → wpList Tryd.prog ops Q rest (a.put o.dst v') w') :
    wpList Tryd.prog ops Q (o :: rest) a (w0.alloc (.cells #[] 53)) := by
  rcases hat with ⟨rfl, rfl, rfl, rfl⟩ | ⟨g, off, rfl, hg, hat⟩
  · obtain ⟨i0, hi, hz0, hz1, hz2⟩ := info_parts infoF
    have hown : (w0.alloc (.cells #[] 53)).ownsRow w0.heap.size 53 3 (.slice (some ⟨w0.heap.size, 0, none⟩) 0 0) 0 [] := World.ownsRow_made w0 #[] 0 (Nat.le_refl _) (by unfold maxLen; omega) rfl
    exact wpList_append_own_none hgd s x 25 ho w0.heap.size 53 i0 3 Tryd.underlying25 hi _ 0 [] hs hown hx (h _ _ hown ((Below.refl _ _).alloc (Nat.le_refl _) _))
  · exact wpList_copyF hgd s x ho w0 l g off n c hn hat hg hs hx hlen h
end Go.Proofs.YtepjkcfheejlbaaDoor
end

/- PutSpec -/
/- Contracts of the model of PutUnit's parts. Condition: the board's lists rise and lie in memory as they were laid there. -/
section
namespace Go.Proofs.YtepjkcfheejlbaaDoor
open Go.ChangeShapes Go.WideShapes Go.ChangeAt Go.RowKit
open Bd
set_option linter.unusedVariables false

theorem putU_lt {u x : K10} {l : List K10} (h : ∀ y ∈ l, y.c0 < u.c0) (hx : u.c0 < x.c0) : putU u (l ++ [x]) = l ++ [u] ++ [x] := by
  induction l with
  | nil => show (if u.c0 < x.c0 then _ else _) = _; rw [if_pos hx]; rfl
  | cons y l ih =>
    have h1 := h y (by simp)
    show (if u.c0 < y.c0 then _ else if u.c0 = y.c0 then _ else y :: putU u (l ++ [x])) = _
    rw [if_neg (by omega), if_neg (by omega), ih (fun z hz => h z (by simp [hz]))]; rfl
theorem putU_eq {u x : K10} {l : List K10} (h : ∀ y ∈ l, y.c0 < u.c0) (hx : u.c0 = x.c0) : putU u (l ++ [x]) = l ++ [u] := by
  induction l with
  | nil => show (if u.c0 < x.c0 then _ else if u.c0 = x.c0 then _ else _) = _; rw [if_neg (by omega), if_pos hx]; rfl
  | cons y l ih =>
    have h1 := h y (by simp)
    show (if u.c0 < y.c0 then _ else if u.c0 = y.c0 then _ else y :: putU u (l ++ [x])) = _
    rw [if_neg (by omega), if_neg (by omega), ih (fun z hz => h z (by simp [hz]))]; rfl
theorem putU_snoc {u x : K10} {l : List K10} (h : ∃ y ∈ l, u.c0 ≤ y.c0) : putU u (l ++ [x]) = putU u l ++ [x] := by
  induction l with
  | nil => obtain ⟨y, hy, _⟩ := h; cases hy
  | cons y l ih =>
    show (if u.c0 < y.c0 then u :: y :: (l ++ [x]) else if u.c0 = y.c0 then u :: (l ++ [x]) else y :: putU u (l ++ [x])) = (if u.c0 < y.c0 then u :: y :: l else if u.c0 = y.c0 then u :: l else y :: putU u l) ++ [x]
    by_cases h1 : u.c0 < y.c0
    · rw [if_pos h1, if_pos h1]; rfl
    rw [if_neg h1, if_neg h1]
    by_cases h2 : u.c0 = y.c0
    · rw [if_pos h2, if_pos h2]; rfl
    rw [if_neg h2, if_neg h2, ih]
    · rfl
    · obtain ⟨z, hz, hle⟩ := h
      rcases List.mem_cons.1 hz with rfl | hz
      · omega
      · exact ⟨z, hz, hle⟩
theorem SlU.mono {w : World} {base base' : Nat} {v : Value} {l : List K10} (h : SlU w base v l) (hb : base' ≤ base) : SlU w base' v l := by
  rcases h with ⟨h1, h2⟩
  refine ⟨h1, ?_⟩
  rcases h2 with h2 | ⟨g, cap, cur, hv, hbb, r⟩
  · exact .inl h2
  · exact .inr ⟨g, cap, cur, hv, Nat.le_trans hb hbb, r⟩
theorem SlF.mono {w : World} {base base' : Nat} {v : Value} {l : List K3} (h : SlF w base v l) (hb : base' ≤ base) : SlF w base' v l := by
  rcases h with ⟨h1, h2⟩
  refine ⟨h1, ?_⟩
  rcases h2 with h2 | ⟨g, cap, cur, hv, hbb, r⟩
  · exact .inl h2
  · exact .inr ⟨g, cap, cur, hv, Nat.le_trans hb hbb, r⟩
/- what is out behind k units: d: u is among them -/
def lp (u : K10) (us : List K10) (d : Bool) (k : Nat) : List K10 := if d = true then putU u (us.take k) else us.take k
def lc (u : K10) (us : List K10) (d : Bool) (k : Nat) : Prop := (d = false ∧ ∀ x ∈ us.take k, x.c0 < u.c0) ∨ (d = true ∧ ∃ x ∈ us.take k, u.c0 ≤ x.c0)
theorem putU_len (u : K10) : ∀ l : List K10, (putU u l).length ≤ l.length + 1
  | [] => by simp [putU]
  | x :: l => by
    unfold putU
    split
    · simp
    · split
      · simp
      · have := putU_len u l; simp; exact this
theorem take_next {us : List K10} {k : Nat} {x : K10} (h : us[k]? = some x) : us.take (k + 1) = us.take k ++ [x] := by rw [List.take_add_one, h]; rfl
theorem mem_next {us : List K10} {k : Nat} {x : K10} (h : us[k]? = some x) : x ∈ us.take (k + 1) := by rw [take_next h]; simp
theorem lp_len (u : K10) (us : List K10) (d : Bool) (k : Nat) (h : us.length ≤ 8) : (lp u us d k).length ≤ 9 := by
  unfold lp
  split
  · have := putU_len u (us.take k); rw [List.length_take] at this; omega
  · rw [List.length_take]; omega
end Go.Proofs.YtepjkcfheejlbaaDoor
end
