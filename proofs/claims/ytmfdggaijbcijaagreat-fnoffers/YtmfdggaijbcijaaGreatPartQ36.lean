/- Texts of mine put together (a claim holds at most 60 files): MapO, PlacesO, KeysO. -/
import Derived.Test.YtmfdggaijbcijaaGreatPartQ01
import Derived.Test.YtmfdggaijbcijaaGreatPartQ00
import Derived.WideKeyRuns
import Derived.Maps.RangeWalk
import Derived.RangeFuncRecord
import Derived.TacticsInMore
import Derived.Carry
import Derived.RangeFuncNested
import Derived.RangeFuncBound
import Derived.RangeFuncCalls
import Derived.RangeFuncLeaves
import Derived.Shelf.Abstract
import Derived.Shelf.RegionOpen
import Derived.WalkKit
import Derived.OwnWalkIn
import Derived.LoopNIn
import Derived.LoopIn
import Derived.RegionIn

/- MapO -/
/- The program's map of offers' places, written out in the order in which they were laid. No condition. -/
section
namespace Go.Proofs.YtmfdggaijbcijaaGreat
open Go.ChangeShapes Go.WideShapes Go.ChangeAt Go.RowKit
set_option linter.unusedVariables false

/- an entry: an offer, its place, its stamp -/
structure EO where
  k : K2
  v : Int
  b : Nat
abbrev EO.m (e : EO) : MapEntry := { key := .agg e.k.v, val := .int .i64 e.v, born := e.b }
def MapO (w : World) (b : Nat) (l : List EO) (n : Nat) : Prop := w.heap[b]? = some (.map (l.map EO.m).toArray n)
theorem MapO.lt {w : World} {b n : Nat} {l : List EO} (h : MapO w b l n) : b < w.heap.size := (Array.getElem?_eq_some_iff.1 h).1
theorem MapO.kept {w w' : World} {b n : Nat} {l : List EO} {row : Option Nat} (h : MapO w b l n) (hg : w.grownBy w' row) (hne : some b ≠ row) : MapO w' b l n := (hg.block b h.lt hne).trans h
theorem MapO.below {w w' : World} {b n : Nat} {l : List EO} (h : MapO w b l n) (hb : Below w.heap.size w w') : MapO w' b l n := (hb.block b h.lt).trans h
theorem MapO.alloc {w : World} {b n : Nat} {l : List EO} (h : MapO w b l n) (o : Obj) : MapO (w.alloc o) b l n := h.below ((Below.refl _ _).alloc (Nat.le_refl _) o)
theorem MapO.new (w : World) : MapO (w.alloc (.map #[] 0)) w.heap.size [] 0 := by
  show (w.heap.push _)[w.heap.size]? = _
  simp

theorem eqOff (x y : K2) (w : World) : (Op.equal 49 (.agg x.v) (.agg y.v)).run Tryz.prog w = .ok (x.b y) w := by
  have h := neqO x y w
  rw [run_neq_struct] at h
  unfold Op.equal Op.maxDepth
  cases hr : (Op.equalIn 10000 49 (.agg x.v) (.agg y.v)).run Tryz.prog w with
  | ok b w' =>
    rw [hr] at h
    simp only [Result.andThen, Result.ok.injEq, Value.bool.injEq] at h
    obtain ⟨h1, rfl⟩ := h
    have : b = x.b y := by cases b <;> cases hb : x.b y <;> simp_all
    rw [this]
  | _ => rw [hr] at h; simp [Result.andThen] at h
theorem checkO (em : Bool) (x : K2) (w : World) : (Instr.checkKey em 10000 49 (.agg x.v)).run Tryz.prog w = .ok () w := by
  have h1 : ∀ (m : Nat) (v : Int) (w : World), (Instr.checkKey em (m + 1) 2 (.int .i64 v)).run Tryz.prog w = .ok () w := fun m v w => by
    simp [Instr.checkKey, run_underlying Tryz.underlying2]
  rw [show (10000 : Nat) = 9998 + 1 + 1 from rfl]
  conv => lhs; unfold Instr.checkKey
  simp [run_underlying Tryz.underlying49, go_sem, h1]

/- the place of an offer among the entries -/
def fndO (k : K2) : List EO → Nat → Option (Nat × Value)
  | [], _ => none
  | e :: r, i => if k.b e.k then some (i, .int .i64 e.v) else fndO k r (i + 1)
theorem run_askO (k : K2) (w : World) : ∀ (l : List EO) (i : Nat), (Instr.findAsking 49 (.agg k.v) (l.map EO.m) i).run Tryz.prog w = .ok (fndO k l i) w
  | [], i => by simp [Instr.findAsking, fndO]
  | e :: r, i => by
    have ih := run_askO k w r (i + 1)
    simp only [List.map_cons, Instr.findAsking, fndO, Sem.run_bind, eqOff k e.k w, Result.andThen_ok]
    cases k.b e.k <;> simp [ih]
theorem run_findO (k : K2) (w : World) (l : List EO) : (Instr.findKey 49 (.agg k.v) (l.map EO.m)).run Tryz.prog w = .ok (fndO k l 0) w := by
  rw [run_findKey_eq w (by kernel_rfl)]
  exact run_askO k w l 0

theorem run_setO {w : World} {b n : Nat} {l : List EO} (h : MapO w b l n) (o : Obj) : (setObj b o).run Tryz.prog w = .ok () (w.putObj b o) := by
  have h' : w.heap[b]? = some (.map (l.map EO.m).toArray n) := h
  simp [setObj, Sem.run, h', World.putObj]
theorem run_getO {w : World} {b n : Nat} {l : List EO} (h : MapO w b l n) : (getObj b).run Tryz.prog w = .ok (.map (l.map EO.m).toArray n) w := by
  have h' : w.heap[b]? = some (.map (l.map EO.m).toArray n) := h
  simp [getObj, Sem.run, h']
theorem run_updO {w : World} {b n : Nat} {l : List EO} (h : MapO w b l n) (k : K2) (v : Int) (hf : fndO k l 0 = none) :
    (Instr.mapUpdate 54 (.map (some b)) (.agg k.v) (.int .i64 v)).run Tryz.prog w = .ok () (w.putObj b (.map ((l ++ [EO.mk k v n]).map EO.m).toArray (n + 1))) := by
  simp only [Instr.mapUpdate, run_underlying Tryz.underlying54, Sem.run_bind, Result.andThen_ok, run_getO h, checkO, run_findO, hf, run_setO h]
  simp
theorem run_lookO {w : World} {b n : Nat} {l : List EO} (h : MapO w b l n) (k : K2) :
    (Instr.lookup 54 (.map (some b)) (.agg k.v) true).run Tryz.prog w = .ok (.tuple #[match fndO k l 0 with | some (_, v) => v | none => .int .i64 0, .bool (fndO k l 0).isSome]) w := by
  simp only [Instr.lookup, run_underlying Tryz.underlying54, Sem.run_bind, Result.andThen_ok, run_getO h, Sem.run_pure, checkO, run_findO]
  cases hf : fndO k l 0 with
  | none => simp [Tryz.zeroValue3]
  | some x => obtain ⟨i, v⟩ := x; simp
theorem run_lookO1 {w : World} {b n : Nat} {l : List EO} (h : MapO w b l n) (k : K2) :
    (Instr.lookup 54 (.map (some b)) (.agg k.v) false).run Tryz.prog w = .ok (match fndO k l 0 with | some (_, v) => v | none => .int .i64 0) w := by
  simp only [Instr.lookup, run_underlying Tryz.underlying54, Sem.run_bind, Result.andThen_ok, run_getO h, Sem.run_pure, checkO, run_findO]
  cases hf : fndO k l 0 with
  | none => simp [Tryz.zeroValue3]
  | some x => obtain ⟨i, v⟩ := x; simp
theorem run_delO {w : World} {b n : Nat} {l : List EO} (h : MapO w b l n) (k : K2) (ty : TypeId) :
    (Builtin.delete_ #[54, 49] ty #[.map (some b), .agg k.v]).run Tryz.prog w = .ok (.tuple #[]) (w.putObj b (.map ((match fndO k l 0 with | some (i, _) => l.eraseIdx i | none => l).map EO.m).toArray n)) := by
  have e0 : (#[54, 49] : Array TypeId)[0]? = some 54 := rfl
  have e1 : (#[Value.map (some b), .agg k.v] : Array Value)[0]? = some (.map (some b)) := rfl
  have e2 : (#[Value.map (some b), .agg k.v] : Array Value)[1]? = some (.agg k.v) := rfl
  simp only [Builtin.delete_, e0, e1, e2, run_underlying Tryz.underlying54, Sem.run_bind, Result.andThen_ok, run_getO h, checkO, run_findO]
  cases hf : fndO k l 0 with
  | none => simp [run_setO h]
  | some x => obtain ⟨i, v⟩ := x; simp [run_setO h, ChangeMaps.map_eraseIdx]

/- the entries of a list of offers, their places from j on -/
def entO : Nat → List K2 → List EO
  | _, [] => []
  | j, k :: r => ⟨k, j, j⟩ :: entO (j + 1) r
theorem entO_snoc : ∀ (l : List K2) (j : Nat) (k : K2), entO j (l ++ [k]) = entO j l ++ [EO.mk k ((j + l.length : Nat) : Int) (j + l.length)]
  | [], j, k => by simp [entO]
  | x :: r, j, k => by
    simp only [List.cons_append, entO, entO_snoc r (j + 1) k, List.length_cons]
    rw [show j + 1 + r.length = j + (r.length + 1) from by omega]
theorem fndO_no {k : K2} : ∀ {l : List EO} {i : Nat}, (∀ e ∈ l, k.b e.k = false) → fndO k l i = none
  | [], _, _ => rfl
  | e :: r, i, h => by
    unfold fndO
    rw [h e (by simp)]
    exact fndO_no (fun x hx => h x (by simp [hx]))
theorem entO_key : ∀ {l : List K2} {j : Nat} {e : EO}, e ∈ entO j l → e.k ∈ l
  | k :: r, j, e, h => by
    unfold entO at h
    rcases List.mem_cons.1 h with rfl | h
    · simp
    · exact List.mem_cons_of_mem _ (entO_key h)
theorem fndO_ent {k : K2} : ∀ {l : List K2} {j i : Nat}, (fndO k (entO j l) i).isSome = l.any (fun x => k.b x)
  | [], _, _ => rfl
  | x :: r, j, i => by
    unfold entO fndO
    simp only [List.any_cons]
    cases hb : k.b x
    · simp; exact fndO_ent
    · simp
/- delete leaves what has another key -/
theorem fndO_del {k : K2} : ∀ {l : List EO} {j : Nat}, l.Pairwise (fun a b => a.k.b b.k = false) →
    (match fndO k l j with | some (i, _) => j ≤ i ∧ l.eraseIdx (i - j) = l.filter (fun e => !k.b e.k) | none => l = l.filter (fun e => !k.b e.k))
  | [], j, _ => by simp [fndO]
  | e :: r, j, h => by
    obtain ⟨h1, h2⟩ := List.pairwise_cons.1 h
    unfold fndO
    cases hb : k.b e.k
    · have ih := fndO_del (k := k) (j := j + 1) h2
      simp only [Bool.false_eq_true, if_false]
      cases hf : fndO k r (j + 1) with
      | none => rw [hf] at ih; simp [hb, ← ih]
      | some x =>
        obtain ⟨i, v⟩ := x
        rw [hf] at ih
        simp only at ih ⊢
        refine ⟨by omega, ?_⟩
        rw [show i - j = (i - (j + 1)) + 1 from by omega, List.eraseIdx_cons_succ, ih.2]
        simp [hb]
    · simp only [if_true, Nat.le_refl, Nat.sub_self, List.eraseIdx_cons_zero, true_and]
      have he : k = e.k := K2.b_eq hb
      rw [List.filter_cons_of_neg (by simp [hb])]
      symm
      apply List.filter_eq_self.2
      intro x hx
      rw [he, h1 x hx]; rfl
end Go.Proofs.YtmfdggaijbcijaaGreat
end

/- PlacesO -/
/- The program's map of offers' places: made, asked. No condition. -/
section
namespace Go.Proofs.YtmfdggaijbcijaaGreat
open Go.ChangeShapes Go.WideShapes Go.ChangeAt Go.RowKit
set_option linter.unusedVariables false

theorem MapO.putSame {w : World} {b n : Nat} {l : List EO} (h : MapO w b l n) (l' : List EO) (n' : Nat) : MapO (w.putObj b (.map (l'.map EO.m).toArray n')) b l' n' := World.putObj_heap_same h.lt
theorem below_putObj {w : World} {base b : Nat} {o : Obj} (hb : base ≤ b) : Below base w (w.putObj b o) :=
  ⟨rfl, rfl, rfl, by simp [World.putObj], fun k hk => World.putObj_heap_other (by omega)⟩
set_option maxHeartbeats 1000000 in
theorem offerPlaces_c (a : Option Addr) (m cap : Nat) (l : List K2) (hl : l.length = m) (hm : m ≤ 100) (hnd : l.Pairwise (fun a b => b.b a = false)) (w : World) (h : ArgO w a l) :
    Calls Tryz.prog 29 #[.slice a m cap] w fun e w' => e = .returned (.map (some w.heap.size)) ∧ MapO w' w.heap.size (entO 0 l) m ∧ Below w.heap.size w w' := by
  have H : Hid (ArgO w a l) := h
  have Hl : Hid (l.length = m) := hl
  have M0 := MapO.new w
  have A0 : Below w.heap.size w (w.alloc (.map #[] 0)) := (Below.refl _ _).alloc (Nat.le_refl _) _
  have hmm := @run_makeMap Tryz.prog
  clear h hl
  go_enter Tryz.func29, Tryz.ntmps29
  go_wp2_with fail
  go_loopw [9] (fun i wr => ∃ k : Nat, k ≤ m ∧ i = .int .i64 k ∧ MapO wr w.heap.size (entO 0 (l.take k)) k ∧ Below w.heap.size w wr) (fun i _ => m - (intOf i).toNat)
  case atStart => exact ⟨0, Nat.zero_le _, rfl, by simpa [entO] using M0, A0⟩
  case round =>
    obtain ⟨k, hk, rfl, M, A⟩ := hrel
    by_cases hlt : k < m
    · have hlt' : (k : Int) < (m : Int) := by omega
      obtain ⟨x, hx⟩ : ∃ x, l[k]? = some x := ⟨_, List.getElem?_eq_getElem (by have := Hl.out; omega)⟩
      obtain ⟨g, off, rfl, hg, hO⟩ := (H.out.later A).resolve_left (by intro e; rw [e] at hx; simp at hx)
      obtain ⟨q0, q1⟩ := hO.all hx
      have HX : Hid (l[k]? = some x) := hx
      have M1 := M.alloc (.cells x.v 49)
      have hno : fndO x (entO 0 (l.take k)) 0 = none := by
        refine fndO_no fun e he => ?_
        have := entO_key he
        obtain ⟨i, hi, rfl'⟩ := List.getElem_of_mem this
        have hi1 : i < k := by rw [List.length_take] at hi; omega
        have hx' := List.getElem?_eq_some_iff.1 hx
        have hk' : k < l.length := hx'.1
        have := List.pairwise_iff_getElem.1 hnd i k (by omega) hk' hi1
        rw [hx'.2] at this
        rw [← rfl', List.getElem_take]
        exact this
      have hup := run_updO M1 x k hno
      have A1 := A.alloc A.size (.cells x.v 49)
      have HT : Hid (entO 0 (l.take k) ++ [EO.mk x k k] = entO 0 (l.take (k + 1))) := by
        show _ = _
        rw [List.take_add_one, hx, Option.toList_some, entO_snoc]
        have : (l.take k).length = k := by rw [List.length_take]; have := Hl.out; omega
        rw [this]; simp
      rw [HT.out] at hup
      have hlen := Hl.out
      clear hno hx
      go_wp2_with fail
      go_roundw
      case rel => exact ⟨k + 1, by omega, by go_num, M1.putSame _ _, A1.trans (below_putObj (Nat.le_refl _))⟩
      case measure => simp [intOf]; omega
    · obtain rfl : k = m := by omega
      have e : l.take k = l := List.take_of_length_le (by have := Hl.out; omega)
      rw [e] at M
      go_wp2
      go_ret
      exact ⟨rfl, M, A⟩
end Go.Proofs.YtmfdggaijbcijaaGreat
end

/- KeysO -/
/- maps.Keys over the program's map of offers' places: each offer comes once, in some order. No condition. -/
section
namespace Go.Proofs.YtmfdggaijbcijaaGreat
open Go.ChangeShapes Go.WideShapes Go.ChangeAt Go.RowKit Go.Shelf
open Go.ChangeMaps (setBlock)
set_option linter.unusedVariables false

/- an iterator over the map under way: ss have come, lft are still to come -/
structure ItO (wr : World) (b r nn : Nat) (l ss lft : List EO) : Prop where
  m : MapO wr b l nn
  i : ∃ (seen : Array Nat) (c0 : Nat), wr.heap[r]? = some (.mapIter (some b) nn seen c0) ∧ seen.toList = ss.map EO.b ∧ nn ≤ c0
  p : (ss ++ lft).Perm l
theorem ItO.keep {wr w' : World} {b r nn : Nat} {l ss lft : List EO} (h : ItO wr b r nn l ss lft) (hk : KeepsWalks wr w') : ItO w' b r nn l ss lft := by
  obtain ⟨m, ⟨seen, c0, hi, hs, hc⟩, p⟩ := h
  exact ⟨hk.same _ _ m rfl, ⟨seen, c0, hk.same _ _ hi rfl, hs, hc⟩, p⟩
theorem ItO.step {wr : World} {b r nn : Nat} {l ss lft : List EO} (h : ItO wr b r nn l ss lft) (hnd : (l.map EO.b).Nodup) (hlt : ∀ e ∈ l, e.b < nn) (hbr : b ≠ r) (ty : TypeId) :
    (lft = [] ∧ (Instr.next (.pointer (some ⟨r, 0, none⟩)) false ty).run Tryz.prog wr = .ok (.tuple #[.bool false]) wr) ∨
    ∃ (y : EO) (w2 : World) (lft' : List EO), (Instr.next (.pointer (some ⟨r, 0, none⟩)) false ty).run Tryz.prog wr = .ok (.tuple #[.bool true, .agg y.k.v, .int .i64 y.v]) w2 ∧ ItO w2 b r nn l (ss ++ [y]) lft' ∧ ss.length < l.length ∧
      wr.grownBy w2 (some r) ∧ w2.heap.size = wr.heap.size ∧ (Instr.entry (.pointer (some ⟨r, 0, none⟩))).run Tryz.prog w2 = .ok (.tuple #[.agg y.k.v, .int .i64 y.v]) w2 := by
  obtain ⟨hm, ⟨seen, c0, hi, hs, hc⟩, hp⟩ := h
  have hmem : ∀ e : MapEntry, e ∈ (leftOf (l.map EO.m).toArray seen).toList ↔ ∃ y ∈ l, e = y.m ∧ y.b ∉ ss.map EO.b := by
    intro e
    unfold leftOf
    simp only [Array.toList_filter, List.mem_filter, List.mem_map, ← hs]
    constructor
    · rintro ⟨⟨y, hy, rfl⟩, h2⟩
      exact ⟨y, hy, rfl, by simpa using h2⟩
    · rintro ⟨y, hy, rfl, h2⟩
      exact ⟨⟨y, hy, rfl⟩, by simpa using h2⟩
  have hndp : ((ss ++ lft).map EO.b).Nodup := (hp.map EO.b).nodup_iff.2 hnd
  rcases run_next_at (P := Tryz.prog) wr ty r b nn c0 seen (l.map EO.m).toArray nn hi hm (by intro x hx; simp only [List.mem_map] at hx; obtain ⟨y, hy, rfl⟩ := hx; exact hlt y hy) hc with ⟨h0, hrun⟩ | ⟨e, he, w1, hw1, hrun⟩
  · left
    refine ⟨?_, hrun⟩
    cases hl : lft with
    | nil => rfl
    | cons y t =>
      exfalso
      have hy : y ∈ l := hp.mem_iff.1 (by rw [hl]; simp)
      have hns : y.b ∉ ss.map EO.b := by
        rw [hl, List.map_append] at hndp
        intro hin
        exact (List.nodup_append.1 hndp).2.2 _ hin _ (by simp) rfl
      have := (hmem y.m).2 ⟨y, hy, rfl, hns⟩
      have he : leftOf (l.map EO.m).toArray seen = #[] := Array.eq_empty_of_size_eq_zero h0
      rw [he] at this
      cases this
  · right
    obtain ⟨y, hy, rfl, hns⟩ := (hmem e).1 he
    have hyl : y ∈ lft := by
      rcases List.mem_append.1 (hp.mem_iff.2 hy) with h | h
      · exact absurd (List.mem_map_of_mem h) hns
      · exact h
    obtain ⟨s1, s2, rfl⟩ := List.append_of_mem hyl
    have hpp : ((ss ++ [y]) ++ (s1 ++ s2)).Perm l := by
      refine List.Perm.trans ?_ hp
      rw [List.append_assoc]
      refine List.Perm.append_left ss ?_
      show (y :: (s1 ++ s2)).Perm _
      exact List.perm_middle.symm
    have hrlt : r < wr.heap.size := (Array.getElem?_eq_some_iff.1 hi).1
    have hsz : w1.heap = wr.heap := by rcases hw1 with rfl | rfl <;> rfl
    have hm2 : MapO (setBlock w1 r (.mapIter (some b) nn (seen.push y.m.born) nn)) b l nn := by
      show ((w1.heap).setIfInBounds r _)[b]? = _
      rw [hsz, Array.getElem?_setIfInBounds_ne (fun e => hbr e.symm)]; exact hm
    have hi2 : (setBlock w1 r (.mapIter (some b) nn (seen.push y.m.born) nn)).heap[r]? = some (.mapIter (some b) nn (seen.push y.m.born) nn) := by
      show ((w1.heap).setIfInBounds r _)[r]? = _
      rw [hsz]; simp [hrlt]
    refine ⟨y, _, s1 ++ s2, hrun, ⟨hm2, ⟨_, _, hi2, by simp [hs], Nat.le_refl _⟩, hpp⟩, ?_, ?_, ?_, ?_⟩
    · have := hpp.length_eq; simp at this; omega
    · refine ⟨?_, ?_, ?_, ?_, ?_⟩
      · rcases hw1 with rfl | rfl <;> rfl
      · rcases hw1 with rfl | rfl <;> rfl
      · rcases hw1 with rfl | rfl <;> rfl
      · show wr.heap.size ≤ ((w1.heap).setIfInBounds r _).size; simp [hsz]
      · intro k hk hne
        show ((w1.heap).setIfInBounds r _)[k]? = _
        rw [hsz, Array.getElem?_setIfInBounds_ne (fun e => hne (by rw [e]))]
    · show ((w1.heap).setIfInBounds r _).size = _; simp [hsz]
    · exact run_entry_at _ r b nn seen (l.map EO.m).toArray nn y.m hi2 hm2 (by show y.m ∈ l.map EO.m; exact List.mem_map_of_mem hy) (by simpa [Function.comp_def] using hnd)

open Classical in
/- how many have come, read off the world -/
noncomputable def cameO (w : World) (r : Nat) : Nat := match w.heap[r]? with
  | some (.mapIter _ _ seen _) => seen.size
  | _ => 0
theorem ItO.came {wr : World} {b r nn : Nat} {l ss lft : List EO} (h : ItO wr b r nn l ss lft) : cameO wr r = ss.length := by
  obtain ⟨m, ⟨seen, c0, hi, hs, hc⟩, p⟩ := h
  unfold cameO
  rw [hi]
  show seen.size = _
  rw [← Array.length_toList, hs, List.length_map]
set_option maxRecDepth 100000 in
set_option maxHeartbeats 1000000 in
theorem keysO_stops (F : Fence) (n : Nat) (h1 : F.fn 100) (hro : F.round = none) (hn : 1 ≤ n) (Bm b nn : Nat) (l : List EO) (w : World) (hBm : Bm < w.heap.size)
    (hc : w.cell? ⟨Bm, 0, none⟩ = some (.map (some b))) (hM : MapO w b l nn) (hnd : (l.map EO.b).Nodup) (hlt : ∀ e ∈ l, e.b < nn) :
    SeqStopsK F n Tryz.prog 100 #[.pointer (some ⟨Bm, 0, none⟩)] (fun x : K2 => #[.agg x.v]) KeepsWalks (fun ks => ks.Perm (l.map EO.k)) (fun _ => True) l.length w := fun l0 J Jx W hW hJ hJx hY h0 => by
  have hM' : MapO W b l nn := (hW.block b hM.lt).trans hM
  have hc' : W.cell? ⟨Bm, 0, none⟩ = some (.map (some b)) := (hW.cell (p := ⟨Bm, 0, none⟩) hBm).trans hc
  have hrg := run_range_map (P := Tryz.prog) W 54 49 3 b _ nn Tryz.underlying54 hM'
  have hbl := hM'.lt
  have I0 : ItO (W.alloc (.mapIter (some b) nn #[] nn)) b W.heap.size nn l [] l := ⟨hM'.alloc _, ⟨#[], nn, by show (W.heap.push _)[W.heap.size]? = _; simp, rfl, Nat.le_refl _⟩, List.Perm.refl _⟩
  have J0 : J [] (W.alloc (.mapIter (some b) nn #[] nn)) := hJ [] W _ none h0 (World.grownBy_alloc W _ none) (fun r e => by cases e)
  clear hW hc hM h0
  refine callsIn_of_wp Tryz.func100 rfl h1 ?_ hro
  simp only [Tryz.ntmps100, List.size_toArray, List.length_cons, List.length_nil, Nat.reduceAdd, Nat.reduceSub, Array.replicate_succ, Array.replicate_zero, List.push_toArray, List.append_toArray, List.nil_append, List.cons_append]
  gi_wp2
  gi_loopw [3] (fun _ wr => ∃ (ss lft : List EO), ItO wr b W.heap.size nn l ss lft ∧ J (ss.map EO.k) wr) (fun _ wr => l.length - cameO wr W.heap.size)
  case atStart => exact ⟨[], l, I0, J0⟩
  case round =>
    obtain ⟨ss, lft, I, hJs⟩ := hrel
    rcases I.step hnd hlt (by omega) 0 with ⟨rfl, hnx⟩ | ⟨y, w2, lft', hnx, I2, hl2, hg2, hs2, hen⟩
    · gi_wp2
      go_end0
      refine ⟨⟨_, rfl⟩, .inl ⟨_, ?_, hJs⟩⟩
      have := I.p
      rw [List.append_nil] at this
      exact this.map _
    · have hiw : ∃ o : Obj, wr.heap[W.heap.size]? = some o ∧ o.isWalk = true := by obtain ⟨seen, c0, hi, _⟩ := I.i; exact ⟨_, hi, rfl⟩
      have hJ2 : J (ss.map EO.k) w2 := hJ _ wr w2 (some W.heap.size) hJs hg2 (fun r e => by cases e; exact ⟨Nat.le_refl _, hiw⟩)
      have hJ3 : J (ss.map EO.k) (w2.alloc (.cells y.k.v 49)) := hJ _ w2 _ none hJ2 (World.grownBy_alloc w2 _ none) (fun r e => by cases e)
      obtain ⟨fn, tmps, assign, body, hy, hR⟩ := hY (ss.map EO.k) y.k _ hJ3 (by simpa using hl2)
      have hI3 := I2.keep (KeepsWalks.alloc w2 (.cells y.k.v 49))
      clear hs2
      gi_wp2
      refine hR.mono ?_
      rintro e W4 (⟨rfl, hJ4, hk4⟩ | ⟨rfl, hJ4⟩)
      · have hI4 := hI3.keep hk4
        gi_wp2
        go_roundw
        case rel => exact ⟨ss ++ [y], lft', hI4, by simpa using hJ4⟩
        case measure => rw [hI4.came, I.came, List.length_append, List.length_singleton]; omega
      · gi_wp2
        refine bodyPost_ret (results_none rfl _ _ _) rfl ?_
        exact ⟨⟨_, rfl⟩, .inr ⟨_, trivial, hJ4⟩⟩
end Go.Proofs.YtmfdggaijbcijaaGreat
end
