/- Texts of mine put together (a claim holds at most 60 files): Iter, SumWalks2, Lists, OwnWalks. -/
import Derived.Shelf.SlIterI.Nil
import Derived.Shelf.SortM.Plain
import Derived.Shelf.SortM.SortNone
import Derived.Ground.GgzProg
import Derived.Ground.SlgmProg
import Derived.Test.YtaeeahgibifkjaaGreatProg
import Derived.Test.YtaeeahgibifkjaaGreatPartG15
import Derived.Test.YtaeeahgibifkjaaGreatRows
import Derived.WalkKit
import Derived.ProofKit
import Derived.OpenShut
import Derived.ShutString
import Derived.WalkLawsBesides
import Derived.ChangeOld
import Derived.Below
import Derived.OwnWalk
import Derived.Deep.OwnRows

/- Iter -/
/- Contracts of the library at this program, laid by the kit (no walk): maps.Keys, slices.Sorted, slices.Sort. -/
section
namespace Go.Proofs
open Go.Shelf
def Tryz.keysA_ren : Go.Shelf.Ren := ⟨fun | 7 => 175 | 10 => 193 | n => n, fun | 23 => 119 | 26 => 2 | 3 => 117 | 28 => 191 | 0 => 0 | 27 => 190 | 33 => 93 | 4 => 4 | n => n, fun | n => n⟩
theorem Tryz.keysA : Go.Proofs.SlLaysZI.n7 Tryz.prog Tryz.keysA_ren := {
  mixed := by kernel_rfl
  f7 := ⟨Tryz.f175.name, by decide, Tryz.func175.trans (congrArg some (by kernel_rfl))⟩
  f10 := ⟨Tryz.f193.name, by decide, Tryz.func193.trans (congrArg some (by kernel_rfl))⟩
  t0 := Tryz.underlying0
  a0 := Tryz.isAgg0
  z0 := Tryz.sizeOf0
  v0 := Tryz.zeroValue0
  t4 := Tryz.underlying4
  a4 := Tryz.isAgg4
  z4 := Tryz.sizeOf4
  v4 := Tryz.zeroValue4
  t23 := Tryz.underlying119
  a23 := Tryz.isAgg119
  z23 := Tryz.sizeOf119
  v23 := Tryz.zeroValue119
  t26 := Tryz.underlying2
  a26 := Tryz.isAgg2
  z26 := Tryz.sizeOf2
  v26 := Tryz.zeroValue2
  t27 := Tryz.underlying190
  a27 := Tryz.isAgg190
  z27 := Tryz.sizeOf190
  v27 := Tryz.zeroValue190
  t28 := Tryz.underlying191
  a28 := Tryz.isAgg191
  z28 := Tryz.sizeOf191
  v28 := Tryz.zeroValue191
  t33 := Tryz.underlying93
  a33 := Tryz.isAgg93
  z33 := Tryz.sizeOf93
  v33 := Tryz.zeroValue93 }
def Tryz.sortedA_ren : Go.Shelf.Ren := ⟨fun | 6 => 174 | 8 => 191 | 9 => 192 | 11 => 204 | 13 => 187 | 12 => 205 | 23 => 202 | 24 => 203 | 14 => 211 | 15 => 212 | 16 => 213 | 17 => 214 | 18 => 215 | 19 => 216 | 20 => 217 | 21 => 218 | 22 => 219 | 25 => 221 | 26 => 207 | 27 => 208 | 28 => 222 | 29 => 223 | 30 => 184 | 31 => 224 | n => n, fun | 26 => 2 | 28 => 191 | 24 => 43 | 0 => 0 | 3 => 3 | 37 => 147 | 48 => 215 | 50 => 217 | 4 => 4 | 40 => 209 | 39 => 208 | 45 => 76 | 5 => 5 | 9 => 9 | 51 => 220 | 55 => 224 | 57 => 231 | 58 => 232 | 33 => 93 | n => n, fun | n => n⟩
theorem Tryz.sortedA : Go.Proofs.SlLaysZI.n6 Tryz.prog Tryz.sortedA_ren := {
  mixed := by kernel_rfl
  f6 := ⟨Tryz.f174.name, by decide, Tryz.func174.trans (congrArg some (by kernel_rfl))⟩
  f8 := ⟨Tryz.f191.name, by decide, Tryz.func191.trans (congrArg some (by kernel_rfl))⟩
  f11 := ⟨Tryz.f204.name, by decide, Tryz.func204.trans (congrArg some (by kernel_rfl))⟩
  t0 := Tryz.underlying0
  a0 := Tryz.isAgg0
  z0 := Tryz.sizeOf0
  v0 := Tryz.zeroValue0
  t24 := Tryz.underlying43
  a24 := Tryz.isAgg43
  z24 := Tryz.sizeOf43
  v24 := Tryz.zeroValue43
  t26 := Tryz.underlying2
  a26 := Tryz.isAgg2
  z26 := Tryz.sizeOf2
  v26 := Tryz.zeroValue2
  t28 := Tryz.underlying191
  a28 := Tryz.isAgg191
  z28 := Tryz.sizeOf191
  v28 := Tryz.zeroValue191
  i26 := by kernel_rfl }
def Tryz.sortA_ren : Go.Shelf.Ren := ⟨fun | 5 => 192 | 8 => 187 | 7 => 205 | 19 => 202 | 20 => 203 | 10 => 211 | 11 => 212 | 12 => 213 | 13 => 214 | 14 => 215 | 15 => 216 | 16 => 217 | 17 => 218 | 18 => 219 | 30 => 221 | 31 => 207 | 32 => 208 | 33 => 222 | 34 => 223 | 35 => 184 | 40 => 224 | n => n, fun | 23 => 43 | 25 => 2 | 3 => 3 | 32 => 147 | 22 => 43 | 0 => 0 | 44 => 215 | 46 => 217 | 4 => 4 | 36 => 209 | 35 => 208 | 41 => 76 | 5 => 5 | 9 => 9 | 53 => 220 | 57 => 224 | 63 => 231 | 64 => 232 | n => n, fun | n => n⟩
theorem Tryz.sortA : Go.Proofs.SlLaysM.n5 Tryz.prog Tryz.sortA_ren := {
  mixed := by kernel_rfl
  f5 := ⟨Tryz.f192.name, by decide, Tryz.func192.trans (congrArg some (by kernel_rfl))⟩
  f7 := ⟨Tryz.f205.name, by decide, Tryz.func205.trans (congrArg some (by kernel_rfl))⟩
  f8 := Tryz.func187.trans (congrArg some (by kernel_rfl))
  f10 := ⟨Tryz.f211.name, by decide, Tryz.func211.trans (congrArg some (by kernel_rfl))⟩
  f11 := ⟨Tryz.f212.name, by decide, Tryz.func212.trans (congrArg some (by kernel_rfl))⟩
  f12 := ⟨Tryz.f213.name, by decide, Tryz.func213.trans (congrArg some (by kernel_rfl))⟩
  f13 := ⟨Tryz.f214.name, by decide, Tryz.func214.trans (congrArg some (by kernel_rfl))⟩
  f14 := ⟨Tryz.f215.name, by decide, Tryz.func215.trans (congrArg some (by kernel_rfl))⟩
  f15 := ⟨Tryz.f216.name, by decide, Tryz.func216.trans (congrArg some (by kernel_rfl))⟩
  f16 := ⟨Tryz.f217.name, by decide, Tryz.func217.trans (congrArg some (by kernel_rfl))⟩
  f17 := ⟨Tryz.f218.name, by decide, Tryz.func218.trans (congrArg some (by kernel_rfl))⟩
  f18 := ⟨Tryz.f219.name, by decide, Tryz.func219.trans (congrArg some (by kernel_rfl))⟩
  f19 := Tryz.func202.trans (congrArg some (by kernel_rfl))
  f20 := Tryz.func203.trans (congrArg some (by kernel_rfl))
  f30 := ⟨Tryz.f221.name, by decide, Tryz.func221.trans (congrArg some (by kernel_rfl))⟩
  f31 := Tryz.func207.trans (congrArg some (by kernel_rfl))
  f32 := Tryz.func208.trans (congrArg some (by kernel_rfl))
  f33 := ⟨Tryz.f222.name, by decide, Tryz.func222.trans (congrArg some (by kernel_rfl))⟩
  f34 := ⟨Tryz.f223.name, by decide, Tryz.func223.trans (congrArg some (by kernel_rfl))⟩
  f35 := ⟨Tryz.f184.name, by decide, Tryz.func184.trans (congrArg some (by kernel_rfl))⟩
  f40 := ⟨Tryz.f224.name, by decide, Tryz.func224.trans (congrArg some (by kernel_rfl))⟩
  t0 := Tryz.underlying0
  a0 := Tryz.isAgg0
  z0 := Tryz.sizeOf0
  v0 := Tryz.zeroValue0
  t3 := Tryz.underlying3
  a3 := Tryz.isAgg3
  z3 := Tryz.sizeOf3
  v3 := Tryz.zeroValue3
  t4 := Tryz.underlying4
  a4 := Tryz.isAgg4
  z4 := Tryz.sizeOf4
  v4 := Tryz.zeroValue4
  t5 := Tryz.underlying5
  a5 := Tryz.isAgg5
  z5 := Tryz.sizeOf5
  v5 := Tryz.zeroValue5
  t9 := Tryz.underlying9
  a9 := Tryz.isAgg9
  z9 := Tryz.sizeOf9
  v9 := Tryz.zeroValue9
  t22 := Tryz.underlying43
  a22 := Tryz.isAgg43
  z22 := Tryz.sizeOf43
  v22 := Tryz.zeroValue43
  t23 := Tryz.underlying43
  a23 := Tryz.isAgg43
  z23 := Tryz.sizeOf43
  v23 := Tryz.zeroValue43
  t25 := Tryz.underlying2
  a25 := Tryz.isAgg2
  z25 := Tryz.sizeOf2
  v25 := Tryz.zeroValue2
  t32 := Tryz.underlying147
  a32 := Tryz.isAgg147
  z32 := Tryz.sizeOf147
  v32 := Tryz.zeroValue147
  t35 := Tryz.underlying208
  a35 := Tryz.isAgg208
  z35 := Tryz.sizeOf208
  v35 := Tryz.zeroValue208
  t36 := Tryz.underlying209
  a36 := Tryz.isAgg209
  z36 := Tryz.sizeOf209
  v36 := Tryz.zeroValue209
  t41 := Tryz.underlying76
  a41 := Tryz.isAgg76
  z41 := Tryz.sizeOf76
  v41 := Tryz.zeroValue76
  t44 := Tryz.underlying215
  a44 := Tryz.isAgg215
  z44 := Tryz.sizeOf215
  v44 := Tryz.zeroValue215
  t46 := Tryz.underlying217
  a46 := Tryz.isAgg217
  z46 := Tryz.sizeOf217
  v46 := Tryz.zeroValue217
  t53 := Tryz.underlying220
  a53 := Tryz.isAgg220
  z53 := Tryz.sizeOf220
  v53 := Tryz.zeroValue220
  t57 := Tryz.underlying224
  a57 := Tryz.isAgg224
  z57 := Tryz.sizeOf224
  v57 := Tryz.zeroValue224
  t63 := Tryz.underlying231
  a63 := Tryz.isAgg231
  z63 := Tryz.sizeOf231
  v63 := Tryz.zeroValue231
  t64 := Tryz.underlying232
  a64 := Tryz.isAgg232
  z64 := Tryz.sizeOf232
  v64 := Tryz.zeroValue232 }
end Go.Proofs
end

/- SumWalks2 -/
/- Contracts of CarriedBy and of its model. Condition: the board's two lists lie in memory as they were laid there. -/
section
namespace Go.Proofs.YtaeeahgibifkjaaGreat
open Go.ChangeShapes Go.WideShapes Go.ChangeAt Go.RowKit
open Bd
set_option linter.unusedVariables false

theorem owC_cases (us : List K10) (fs : List K3) (o : Int) : ((bf us fs == 0) = false ∧ owC us fs o = bf us fs) ∨ (bf us fs = 0 ∧ own o = false ∧ owC us fs o = 3) ∨ (bf us fs = 0 ∧ own o = true ∧ owC us fs o = 0) := by
  unfold owC
  cases h : bf us fs == 0
  · exact .inl ⟨rfl, rfl⟩
  · have h0 : bf us fs = 0 := by simpa using h
    cases h2 : own o
    · exact .inr (.inl ⟨h0, rfl, rfl⟩)
    · exact .inr (.inr ⟨h0, rfl, rfl⟩)
set_option maxHeartbeats 4000000 in
theorem ownerFault_c (a : Option Addr) (m c : Nat) (a' : Option Addr) (m' c' : Nat) (us : List K10) (fs : List K3) (o : Int) (hl : us.length = m) (hl' : fs.length = m') (w : World) (hU : ArgU w a us) (hF : ArgF w a' fs) :
    Calls Tryz.prog 92 #[.agg #[.slice a m c, .slice a' m' c'], .int .i64 o] w fun e w' => e = .returned (.int .i64 (owC us fs o)) ∧ Below w.heap.size w w' := by
  have B1 : Below w.heap.size w (w.alloc (.cells #[.slice a m c, .slice a' m' c'] 27)) := (Below.refl _ _).alloc (Nat.le_refl _) _
  have cF := implBoardFault a m c a' m' c' us fs hl hl' _ (hU.later B1) (hF.later B1)
  have cO := fun w => isOwner_c o w
  rcases owC_cases us fs o with ⟨h1, e⟩ | ⟨h1, h2, e⟩ | ⟨h1, h2, e⟩
  · rw [e]
    have h1' := bne_of h1
    generalize bf us fs = R at h1 h1' cF ⊢
    go_enter Tryz.func92, Tryz.ntmps92
    go_wp2_with fail
    refine cF.mono ?_
    rintro e w1 ⟨rfl, k1⟩
    have B2 := B1.trans (k1.mono B1.size)
    go_wp2
    go_ret
    exact ⟨rfl, B2⟩
  · rw [e]
    rw [h1] at cF
    rw [h2] at cO
    go_enter Tryz.func92, Tryz.ntmps92
    go_wp2_with fail
    refine cF.mono ?_
    rintro e w1 ⟨rfl, k1⟩
    have B2 := B1.trans (k1.mono B1.size)
    go_wp2_with (go_at_call 138; refine (cO _).mono ?_; rintro e w2 ⟨rfl, rfl⟩)
    go_ret
    exact ⟨rfl, B2⟩
  · rw [e]
    rw [h1] at cF
    rw [h2] at cO
    go_enter Tryz.func92, Tryz.ntmps92
    go_wp2_with fail
    refine cF.mono ?_
    rintro e w1 ⟨rfl, k1⟩
    have B2 := B1.trans (k1.mono B1.size)
    go_wp2_with (go_at_call 138; refine (cO _).mono ?_; rintro e w2 ⟨rfl, rfl⟩)
    go_ret
    exact ⟨rfl, B2⟩
end Go.Proofs.YtaeeahgibifkjaaGreat
end

/- Lists -/
/- Lists of numbers in memory of their own: a block whose first cells are the list. No condition. -/
section
namespace Go.Proofs.YtaeeahgibifkjaaGreat
open Go.ChangeShapes Go.WideShapes Go.ChangeAt Go.RowKit
set_option linter.unusedVariables false

/- block g is a row of cap cells whose first ones are the numbers l -/
def Lst (w : World) (g cap : Nat) (l : List Int) : Prop :=
  ∃ cur : Array Value, w.heap[g]? = some (.cells cur 2 (0, 0)) ∧ l.length ≤ cap ∧ cap ≤ maxLen ∧ cur.size = cap ∧ cur.toList.take l.length = l.map (Value.int .i64)

theorem Lst.lt {w : World} {g cap : Nat} {l : List Int} (h : Lst w g cap l) : g < w.heap.size := by
  obtain ⟨cur, hg, _⟩ := h
  exact (Array.getElem?_eq_some_iff.1 hg).1
theorem Lst.cell {w : World} {g cap : Nat} {l : List Int} (h : Lst w g cap l) {i : Nat} {x : Int} (hi : l[i]? = some x) : w.cell? ⟨g, i, none⟩ = some (.int .i64 x) := by
  obtain ⟨cur, hg, hl, _, hs, ht⟩ := h
  have h1 : (l.map (Value.int .i64))[i]? = some (.int .i64 x) := by simp [hi]
  rw [← ht, List.getElem?_take] at h1
  split at h1
  · simp [World.cell?, hg]; simpa using h1
  · cases h1
theorem Lst.frozen {w : World} {g cap : Nat} {l : List Int} (h : Lst w g cap l) (i : Nat) : w.frozen? ⟨g, i, none⟩ = false := by
  obtain ⟨cur, hg, _⟩ := h
  simp [World.frozen?, hg]
theorem Lst.of_block {w w' : World} {g cap : Nat} {l : List Int} (h : Lst w g cap l) (e : w'.heap[g]? = w.heap[g]?) : Lst w' g cap l := by
  obtain ⟨cur, hg, r⟩ := h
  exact ⟨cur, e.trans hg, r⟩
theorem Lst.below {w w' : World} {g cap : Nat} {l : List Int} (h : Lst w g cap l) (hb : Below w.heap.size w w') : Lst w' g cap l := h.of_block (hb.block g h.lt)
theorem Lst.alloc {w : World} {g cap : Nat} {l : List Int} (h : Lst w g cap l) (o : Obj) : Lst (w.alloc o) g cap l := h.below ((Below.refl _ _).alloc (Nat.le_refl _) o)
theorem Lst.setOther {w : World} {g cap : Nat} {l : List Int} (h : Lst w g cap l) {a : Addr} (ha : g ≠ a.block) (v : Value) : Lst (w.setCell a v) g cap l := h.of_block (Below.heap_setCell _ _ _ _ ha)
theorem Lst.drew {w : World} {g cap : Nat} {l : List Int} (h : Lst w g cap l) : Lst w.drew g cap l := h
theorem Lst.set {w : World} {g cap : Nat} {l : List Int} (h : Lst w g cap l) (i : Nat) (x : Int) : Lst (w.setCell ⟨g, i, none⟩ (.int .i64 x)) g cap (l.set i x) := by
  obtain ⟨cur, hg, hl, hm, hs, ht⟩ := h
  refine ⟨cur.setIfInBounds i (.int .i64 x), ?_, by simpa using hl, hm, by simpa using hs, ?_⟩
  · simp [World.setCell, Array.getElem?_modify, hg]
  · rw [List.length_set, List.map_set, ← ht]
    simp [List.take_set]
theorem Lst.of_owns {w : World} {base : Nat} {v : Value} {l : List Int} (h : w.ownsRow base 2 1 v l.length (l.map (Value.int .i64))) (hne : 0 < l.length) :
    ∃ g cap, v = .slice (some ⟨g, 0, none⟩) l.length cap ∧ base ≤ g ∧ Lst w g cap l := by
  rcases h.2 with ⟨_, h0⟩ | ⟨g, cap, cur, hv, hb, hg, hc, hm, hs, ht⟩
  · omega
  · exact ⟨g, cap, hv, hb, cur, hg, hc, hm, by simpa using hs, by simpa using ht⟩
theorem Lst.of_row {w : World} {g n : Nat} {l : List Int} (h : w.rowIs g 2 n (fun i => .int .i64 (l.getD i 0))) (hn : l.length = n) (hm : n ≤ maxLen) : Lst w g n l := by
  obtain ⟨cur, hg, hs, hf⟩ := h
  refine ⟨cur, hg, by omega, hm, hs, ?_⟩
  apply List.ext_getElem?
  intro i
  rw [List.getElem?_take]
  by_cases hi : i < l.length
  · rw [if_pos hi]
    have := hf i (by omega)
    simp [List.getElem?_eq_getElem hi] at this ⊢
    simpa using this
  · rw [if_neg hi, List.getElem?_eq_none (by simpa using Nat.le_of_not_lt hi)]
theorem bcellL {W w1 : World} (hb : Below W.heap.size W w1) : (∀ b o, b < W.heap.size → w1.cell? ⟨b, o, none⟩ = W.cell? ⟨b, o, none⟩) ∧ (∀ b o, b < W.heap.size → w1.frozen? ⟨b, o, none⟩ = W.frozen? ⟨b, o, none⟩) :=
  ⟨fun b o h => hb.cell (p := ⟨b, o, none⟩) h, fun b o h => hb.frozen (p := ⟨b, o, none⟩) h⟩
theorem one_new (w : World) (v : Value) (t : TypeId) : ∀ j u, [v][j]? = some u → (w.alloc (.cells #[v] t)).cell? ((⟨w.heap.size, 0, none⟩ : Addr).add j) = some u := by
  intro j u hj
  match j, hj with
  | 0, hj => simp at hj; subst hj; simp [Addr.add]
theorem one_cell (k : IntKind) (x : Int) : ∀ u ∈ [Value.int k x], u.oneCell' = true := by
  intro u hu; simp at hu; subst hu; rfl
theorem info64 : (Tryz.prog.info? 2).map (fun i => (i.zero, i.size, i.bytes)) = some (some (.int .i64 0), 1, 8) := by kernel_rfl
end Go.Proofs.YtaeeahgibifkjaaGreat
end

/- OwnWalks -/
/- Contracts of OwnedBy and of its model. Condition: the board's two lists lie in memory as they were laid there. -/
section
namespace Go.Proofs.YtaeeahgibifkjaaGreat
open Go.ChangeShapes Go.WideShapes Go.ChangeAt Go.RowKit
open Bd
set_option linter.unusedVariables false

/- the Ids of an owner's units -/
def idsOf (o : Int) : List K10 → List Int
  | [] => []
  | u :: l => if (u.c1 == o) = true then u.c0 :: idsOf o l else idsOf o l
theorem idsOf_le (o : Int) : ∀ l : List K10, (idsOf o l).length ≤ l.length
  | [] => Nat.le_refl _
  | u :: l => by
    unfold idsOf
    split
    · simp; exact idsOf_le o l
    · simp; exact Nat.le_succ_of_le (idsOf_le o l)
theorem idsOf_app (o : Int) (l l' : List K10) : idsOf o (l ++ l') = idsOf o l ++ idsOf o l' := by
  induction l with
  | nil => rfl
  | cons u l ih =>
    show (if (u.c1 == o) = true then u.c0 :: idsOf o (l ++ l') else idsOf o (l ++ l')) = (if (u.c1 == o) = true then u.c0 :: idsOf o l else idsOf o l) ++ idsOf o l'
    rw [ih]; split <;> rfl
theorem idsOf_take {l : List K10} {o : Int} {k : Nat} {u : K10} (h : l[k]? = some u) : idsOf o (l.take (k + 1)) = idsOf o (l.take k) ++ (if (u.c1 == o) = true then [u.c0] else []) := by
  rw [List.take_add_one, h, idsOf_app]
  rfl
def obL (us : List K10) (fs : List K3) (o : Int) : List Int := if (bf us fs == 0 && own o) = true then idsOf o us else []
theorem obL_le (us : List K10) (fs : List K3) (o : Int) : (obL us fs o).length ≤ 8 := by
  unfold obL
  split
  · rename_i h
    rw [Bool.and_eq_true] at h
    have h0 : bf us fs = 0 := by simpa using h.1
    have := (bf_ok h0).1
    have := idsOf_le o us
    omega
  · simp
/- a slice of numbers: its first numbers lie in a block of its own, made behind base -/
def SlI (w : World) (base : Nat) (v : Value) (l : List Int) : Prop := w.ownsRow base 2 1 v l.length (l.map (Value.int .i64))
theorem SlI.below {w w' : World} {base : Nat} {v : Value} {l : List Int} (h : SlI w base v l) (hb : Below w.heap.size w w') : SlI w' base v l := by
  rcases h with ⟨h1, h2⟩
  refine ⟨h1, ?_⟩
  rcases h2 with h2 | ⟨g, cap, cur, hv, hbb, hg, r⟩
  · exact .inl h2
  · exact .inr ⟨g, cap, cur, hv, hbb, (hb.block g (Array.getElem?_eq_some_iff.1 hg).1).trans hg, r⟩
theorem SlI.of {w : World} {base : Nat} {v : Value} {l : List Int} (h : w.ownsRow base 2 1 v l.length (l.map (Value.int .i64))) : SlI w base v l := h
theorem Hid.mk' {p : Prop} (h : p) : Hid p := h
theorem SlI.nil (w : World) (base : Nat) : SlI w base (.slice none 0 0) [] := ⟨rfl, .inl ⟨rfl, rfl⟩⟩
theorem SlI.mono {w : World} {base base' : Nat} {v : Value} {l : List Int} (h : SlI w base v l) (hb : base' ≤ base) : SlI w base' v l := by
  rcases h with ⟨h1, h2⟩
  refine ⟨h1, ?_⟩
  rcases h2 with h2 | ⟨g, cap, cur, hv, hbb, r⟩
  · exact .inl h2
  · exact .inr ⟨g, cap, cur, hv, Nat.le_trans hb hbb, r⟩
theorem SlI.form {w : World} {base : Nat} {v : Value} {l : List Int} (h : SlI w base v l) : ∃ a cap, v = .slice a l.length cap := by
  rcases h.2 with ⟨h1, h2⟩ | ⟨g, cap, cur, hv, _⟩
  · exact ⟨none, 0, by rw [h1, h2]⟩
  · exact ⟨_, cap, hv⟩
theorem SlI.set {w : World} {base : Nat} {v : Value} {l : List Int} (h : SlI w base v l) {b o : Nat} (hb : b < base) (x : Value) : SlI (w.setCell ⟨b, o, none⟩ x) base v l := by
  rcases h with ⟨h1, h2⟩
  refine ⟨h1, ?_⟩
  rcases h2 with h2 | ⟨g, cap, cur, hv, hbb, hg, r⟩
  · exact .inl h2
  · exact .inr ⟨g, cap, cur, hv, hbb, (Below.heap_setCell _ ⟨b, o, none⟩ x g (by show g ≠ b; omega)).trans hg, r⟩
set_option maxHeartbeats 4000000 in
theorem implOwnedBy (a : Option Addr) (m c : Nat) (a' : Option Addr) (m' c' : Nat) (us : List K10) (fs : List K3) (o : Int) (hl : us.length = m) (hl' : fs.length = m') (w : World) (hU : ArgU w a us) (hF : ArgF w a' fs) :
    Calls Tryz.prog 34 #[.agg #[.slice a m c, .slice a' m' c'], .int .i64 o] w fun e w' => ∃ v, e = .returned (.agg #[.int .i64 (owC us fs o), v]) ∧ SlI w' w.heap.size v (obL us fs o) ∧ Below w.heap.size w w' := by
  obtain ⟨rb, rr, B2, S2⟩ := two_two w (.slice a m c) (.slice a' m' c') (.int .i64 0) (.slice none 0 0) 27 45
  have cF := ownerFault_c a m c a' m' c' us fs o hl hl' _ (hU.later B2) (hF.later B2)
  rcases owC_cases us fs o with ⟨h1, e⟩ | ⟨h1, h2, e⟩ | ⟨h1, h2, e⟩
  · have hv : obL us fs o = [] := by unfold obL; rw [h1]; rfl
    rw [e, hv]
    have h1' := bne_of h1
    rw [e] at cF
    generalize bf us fs = R at h1 h1' cF ⊢
    go_enter Tryz.func34, Tryz.ntmps34
    go_wp2_with fail
    refine cF.mono ?_
    rintro e w1 ⟨rfl, k1⟩
    have B3 := B2.trans (k1.mono B2.size)
    replace rb := row_later rb k1
    replace rr := row_later rr k1
    have e0 : w1.cell? ⟨w.heap.size + 1, 0, none⟩ = some (.int .i64 0) := rr.cell (i := 0) (by omega)
    have e1 : w1.cell? ⟨w.heap.size + 1, 1, none⟩ = some (.slice none 0 0) := rr.cell (i := 1) (by omega)
    have z0 := rr.frozen 0
    have z1 := rr.frozen 1
    have rl := rr.lt
    have t := (rr.set 0 (.int .i64 R)).set 1 (.slice none 0 0)
    have c0 := t.cell (i := 0) (by omega)
    have c1 := t.cell (i := 1) (by omega)
    have B4 := bel_set (bel_set B3 (w.heap.size + 1) 0 (by omega) (.int .i64 R)) (w.heap.size + 1) 1 (by omega) (.slice none 0 0)
    go_wp2_with fail
    refine bodyPost_ret ?_ rfl ⟨_, rfl, SlI.nil _ _, B4⟩
    simp [results, Tryz.results34, go_sem, c0, c1]
    done
  · have hv : obL us fs o = [] := by unfold obL; rw [h1, h2]; rfl
    rw [e, hv]
    rw [e] at cF
    go_enter Tryz.func34, Tryz.ntmps34
    go_wp2_with fail
    refine cF.mono ?_
    rintro e w1 ⟨rfl, k1⟩
    have B3 := B2.trans (k1.mono B2.size)
    replace rb := row_later rb k1
    replace rr := row_later rr k1
    have e0 : w1.cell? ⟨w.heap.size + 1, 0, none⟩ = some (.int .i64 0) := rr.cell (i := 0) (by omega)
    have e1 : w1.cell? ⟨w.heap.size + 1, 1, none⟩ = some (.slice none 0 0) := rr.cell (i := 1) (by omega)
    have z0 := rr.frozen 0
    have z1 := rr.frozen 1
    have rl := rr.lt
    have t := (rr.set 0 (.int .i64 3)).set 1 (.slice none 0 0)
    have c0 := t.cell (i := 0) (by omega)
    have c1 := t.cell (i := 1) (by omega)
    have B4 := bel_set (bel_set B3 (w.heap.size + 1) 0 (by omega) (.int .i64 3)) (w.heap.size + 1) 1 (by omega) (.slice none 0 0)
    go_wp2_with fail
    refine bodyPost_ret ?_ rfl ⟨_, rfl, SlI.nil _ _, B4⟩
    simp [results, Tryz.results34, go_sem, c0, c1]
    done
  · have hv : obL us fs o = idsOf o us := by unfold obL; rw [h1, h2]; rfl
    rw [e, hv]
    obtain ⟨n8, _, huf, _, _⟩ := bf_ok h1
    rw [e] at cF
    obtain ⟨i0, hi, hz0, hz1, hz2⟩ := info_parts info64
    have Hl : Hid (us.length = m) := hl
    have HU : Hid (ArgU w a us) := hU
    have hm : m ≤ 8 := by omega
    go_enter Tryz.func34, Tryz.ntmps34
    go_wp2_with fail
    refine cF.mono ?_
    rintro e w1 ⟨rfl, k1⟩
    have B3 := B2.trans (k1.mono B2.size)
    replace rb := row_later rb k1
    replace rr := row_later rr k1
    have e0 : w1.cell? ⟨w.heap.size + 1, 0, none⟩ = some (.int .i64 0) := rr.cell (i := 0) (by omega)
    have e1 : w1.cell? ⟨w.heap.size + 1, 1, none⟩ = some (.slice none 0 0) := rr.cell (i := 1) (by omega)
    have z0 := rr.frozen 0
    have z1 := rr.frozen 1
    have rl := rr.lt
    have HB3 : Hid (Below w.heap.size w w1) := B3
    have Hrr : Hid (w1.rowIs (w.heap.size + 1) 45 2 (fun i => if i = 0 then .int .i64 0 else .slice none 0 0)) := rr
    obtain ⟨p1, p2, pl⟩ := row_brd rb
    have hw1 : w.heap.size + 1 < w1.heap.size := rl
    clear huf hl hl' hU hF rb rr B2 B3 k1 hv n8 cF
    go_wp2_with fail
    go_loopw [6, 19] (fun v i wr => ∃ k : Nat, k ≤ m ∧ i = .int .i64 k ∧ wr.ownsRow w1.heap.size 2 1 v (idsOf o (us.take k)).length ((idsOf o (us.take k)).map (Value.int .i64)) ∧ Below w1.heap.size w1 wr) (fun _ i _ => m - (intOf i).toNat)
    case atStart => exact ⟨0, Nat.zero_le _, rfl, ⟨rfl, .inl ⟨rfl, rfl⟩⟩, Below.refl _ _⟩
    case round =>
      obtain ⟨k, hk, rfl, hown, hbel⟩ := hrel
      have hb3 := HB3.out.trans (hbel.mono HB3.out.size)
      by_cases hlt : k < m
      · have hlt' : (k : Int) < (m : Int) := by omega
        obtain ⟨x, hx⟩ : ∃ x, us[k]? = some x := ⟨_, List.getElem?_eq_getElem (by have := Hl.out; omega)⟩
        obtain ⟨b, off, rfl, hb, hat⟩ := HU.out.at hx
        obtain ⟨x0, x1, x2, x3, x4, x5, x6, x7, x8, x9, xl⟩ := (hat.later hb hb3).one (Nat.lt_of_lt_of_le hb hb3.size) hx
        have HS : Hid (idsOf o (us.take (k + 1)) = idsOf o (us.take k) ++ (if (x.c1 == o) = true then [x.c0] else [])) := idsOf_take hx
        have hlen : (idsOf o (us.take k)).length ≤ 8 := Nat.le_trans (idsOf_le o _) (by rw [List.length_take]; omega)
        have hb4 := hbel.alloc hbel.size (.cells x.v 54)
        have ho0 := hown.alloc (.cells x.v 54)
        clear hx hat
        cases hq : x.c1 == o
        · have HS' : idsOf o (us.take k) = idsOf o (us.take (k + 1)) := by rw [HS.out, if_neg (by rw [hq]; simp), List.append_nil]
          rw [HS'] at ho0
          have ho1 := Hid.mk' ho0
          clear hown ho0 HS'
          go_wp2
          go_roundw
          case rel => exact ⟨k + 1, by omega, by go_num, ho1.out, hb4⟩
          case measure => simp [intOf]; omega
        · obtain ⟨W1, HW1⟩ : ∃ W1, Hid (W1 = wr.alloc (.cells x.v 54)) := ⟨_, rfl⟩
          have S1 : U1 W1 wr.heap.size 0 x := by rw [HW1.out]; exact U1.new wr x 54
          rw [← HW1.out] at ho0 hb4
          go_upto_region 9 with fail
          rw [← HW1.out]
          obtain ⟨s0, _, _, _, _, _, _, _, _, _, sl⟩ := S1
          clear hown x0 x1 x2 x3 x4 x5 x6 x7 x8 x9
          go_wp2_with (first | (at_builtin; refine wpList_append_own _ rfl _ _ 43 rfl w1.heap.size 2 i0 (.int .i64 0) 1 8 Tryz.underlying43 hi hz0 hz1 hz2 rfl (by decide) _ _ _ rfl (ho0.alloc _) ⟨W1.heap.size, 0, none⟩ 1 1 [.int .i64 x.c0] rfl rfl (one_new _ _ _) (one_cell _ _) (by unfold maxLen; omega) (by omega) (by have := hb4.size; simp; omega) ?_))
          intro v' w2 hown' hgrow _
          have hb5 : Below w1.heap.size w1 w2 := (hb4.alloc hb4.size _).grown hgrow (by have := hb4.size; simp; omega) (fun k' hk' => (ho0.lt k' hk').1)
          have ho1 : Hid (w2.ownsRow w1.heap.size 2 1 v' (idsOf o (us.take (k + 1))).length ((idsOf o (us.take (k + 1))).map (Value.int .i64))) := by
            show World.ownsRow _ _ _ _ _ _ _
            rw [HS.out, if_pos hq]; simpa using hown'
          clear hown' hgrow ho0
          go_wp2
          go_roundw
          case rel => exact ⟨k + 1, by omega, by go_num, ho1.out, hb5⟩
          case measure => simp [intOf]; omega
      · obtain rfl : k = m := by omega
        rw [List.take_of_length_le (by have := Hl.out; omega)] at hown
        have L2 := SlI.of hown
        clear hown
        obtain ⟨av, cv, hv⟩ := L2.form
        obtain ⟨nn, Hn⟩ : ∃ nn, Hid (nn = (idsOf o us).length) := ⟨_, rfl⟩
        rw [← Hn.out] at hv
        subst hv
        have rr := row_later Hrr.out hbel
        have e0 : wr.cell? ⟨w.heap.size + 1, 0, none⟩ = some (.int .i64 0) := rr.cell (i := 0) (by omega)
        have e1 : wr.cell? ⟨w.heap.size + 1, 1, none⟩ = some (.slice none 0 0) := rr.cell (i := 1) (by omega)
        have z0 := rr.frozen 0
        have z1 := rr.frozen 1
        have rl := rr.lt
        have t := (rr.set 0 (.int .i64 0)).set 1 (.slice av nn cv)
        have c0 := t.cell (i := 0) (by omega)
        have c1 := t.cell (i := 1) (by omega)
        have B5 := bel_set (bel_set hb3 (w.heap.size + 1) 0 (by omega) (.int .i64 0)) (w.heap.size + 1) 1 (by omega) (.slice av nn cv)
        have L5 : SlI _ w.heap.size (.slice av nn cv) (idsOf o us) := ((L2.set (b := w.heap.size + 1) (o := 0) hw1 (.int .i64 0)).set (b := w.heap.size + 1) (o := 1) hw1 (.slice av nn cv)).mono (by omega)
        go_wp2_with fail
        refine bodyPost_ret ?_ rfl ⟨_, rfl, L5, B5⟩
        simp [results, Tryz.results34, go_sem, c0, c1]
        done
end Go.Proofs.YtaeeahgibifkjaaGreat
end
