/- Texts of mine put together (a claim holds at most 60 files): OwnAt, Iter, MapKeys. -/
import Derived.Test.YtlonmobfjpmokaaGreatDoorPartU12
import Derived.Test.YtlonmobfjpmokaaGreatDoorPartU21
import Derived.Test.YtlonmobfjpmokaaGreatDoorPartU24
import Derived.Shelf.SlIterI.Nil
import Derived.Shelf.SortM.Plain
import Derived.Shelf.SortM.SortNone
import Derived.Ground.GgzProg
import Derived.Ground.SlgmProg
import Derived.Test.YtlonmobfjpmokaaGreatDoorProg
import Derived.Test.YtlonmobfjpmokaaGreatDoorPartU15

/- OwnAt -/
/- A member of a list of one's own: its cells, and what a store into one leaves. No condition. -/
section
namespace Go.Proofs.YtlonmobfjpmokaaGreatDoor
open Go.ChangeShapes Go.WideShapes Go.ChangeAt Go.RowKit
open Bd
set_option linter.unusedVariables false

def K10.upd (u : K10) (f : Nat) (x : Int) : K10 := ⟨if f = 0 then x else u.c0, if f = 1 then x else u.c1, if f = 2 then x else u.c2, if f = 3 then x else u.c3, if f = 4 then x else u.c4, if f = 5 then x else u.c5, if f = 6 then x else u.c6, if f = 7 then x else u.c7, if f = 8 then x else u.c8, if f = 9 then x else u.c9⟩
def K3.upd (u : K3) (f : Nat) (x : Int) : K3 := ⟨if f = 0 then x else u.c0, if f = 1 then x else u.c1, if f = 2 then x else u.c2⟩
theorem flatU_set : ∀ (l : List K10) (k : Nat) (u : K10) (f : Nat) (x : Int), l[k]? = some u → f < 10 → (flatU l).set (k * 10 + f) (.int .i64 x) = flatU (l.set k (u.upd f x))
  | [], k, u, f, x, h, _ => by simp at h
  | y :: l, 0, u, f, x, h, hf => by
    have e : y = u := by simpa using h
    subst e
    show (y.v.toList ++ flatU l).set (0 * 10 + f) _ = (y.upd f x).v.toList ++ flatU l
    rw [Nat.zero_mul, Nat.zero_add, List.set_append_left _ _ (by show f < 10; exact hf)]
    congr 1
    have h6 : f = 0 ∨ f = 1 ∨ f = 2 ∨ f = 3 ∨ f = 4 ∨ f = 5 ∨ f = 6 ∨ f = 7 ∨ f = 8 ∨ f = 9 := by omega
    rcases h6 with rfl | rfl | rfl | rfl | rfl | rfl | rfl | rfl | rfl | rfl <;> rfl
  | y :: l, k + 1, u, f, x, h, hf => by
    show (y.v.toList ++ flatU l).set ((k + 1) * 10 + f) _ = y.v.toList ++ flatU (l.set k (u.upd f x))
    have e : (y.v.toList).length = 10 := rfl
    rw [List.set_append_right _ _ (by rw [e]; omega), e, show (k + 1) * 10 + f - 10 = k * 10 + f from by omega, flatU_set l k u f x (by simpa using h) hf]
theorem flatF_set : ∀ (l : List K3) (k : Nat) (u : K3) (f : Nat) (x : Int), l[k]? = some u → f < 3 → (flatF l).set (k * 3 + f) (.int .i64 x) = flatF (l.set k (u.upd f x))
  | [], k, u, f, x, h, _ => by simp at h
  | y :: l, 0, u, f, x, h, hf => by
    have e : y = u := by simpa using h
    subst e
    show (y.v.toList ++ flatF l).set (0 * 3 + f) _ = (y.upd f x).v.toList ++ flatF l
    rw [Nat.zero_mul, Nat.zero_add, List.set_append_left _ _ (by show f < 3; exact hf)]
    congr 1
    have h6 : f = 0 ∨ f = 1 ∨ f = 2 := by omega
    rcases h6 with rfl | rfl | rfl <;> rfl
  | y :: l, k + 1, u, f, x, h, hf => by
    show (y.v.toList ++ flatF l).set ((k + 1) * 3 + f) _ = y.v.toList ++ flatF (l.set k (u.upd f x))
    have e : (y.v.toList).length = 3 := rfl
    rw [List.set_append_right _ _ (by rw [e]; omega), e, show (k + 1) * 3 + f - 3 = k * 3 + f from by omega, flatF_set l k u f x (by simpa using h) hf]
theorem setBlk (w : World) (g i : Nat) (cur : Array Value) (t : TypeId) (hg : w.heap[g]? = some (.cells cur t (0, 0))) (v : Value) : (w.setCell ⟨g, i, none⟩ v).heap[g]? = some (.cells (cur.setIfInBounds i v) t (0, 0)) := by
  simp [World.setCell, Array.getElem?_modify, hg]
/- a unit of a list of one's own: where it lies -/
structure AtU (w : World) (base g cap k : Nat) (l : List K10) (u : K10) : Prop where
  s : SlU w base (.slice (some ⟨g, 0, none⟩) l.length cap) l
  h : l[k]? = some u
  b : base ≤ g
theorem SlU.at {w : World} {base : Nat} {v : Value} {l : List K10} (s : SlU w base v l) {k : Nat} {u : K10} (h : l[k]? = some u) : ∃ g cap, v = .slice (some ⟨g, 0, none⟩) l.length cap ∧ AtU w base g cap k l u := by
  rcases s.2 with ⟨h1, h2⟩ | ⟨g, cap, cur, hv, hbb, r⟩
  · rw [List.eq_nil_of_length_eq_zero h2] at h; simp at h
  · exact ⟨g, cap, hv, by rw [← hv]; exact s, h, hbb⟩
theorem AtU.blk {w : World} {base g cap k : Nat} {l : List K10} {u : K10} (a : AtU w base g cap k l u) : ∃ cur, w.heap[g]? = some (.cells cur 87 (0, 0)) ∧ l.length ≤ cap ∧ cap ≤ maxLen ∧ cur.size = cap * 10 ∧ cur.toList.take (l.length * 10) = flatU l := by
  rcases a.s.2 with ⟨h1, h2⟩ | ⟨g', cap', cur, hv, hbb, hg, r1, r2, r3, r4⟩
  · have := a.h; rw [List.eq_nil_of_length_eq_zero h2] at this; simp at this
  · simp only [Value.slice.injEq, Option.some.injEq, Addr.mk.injEq] at hv
    obtain ⟨⟨rfl, _⟩, _, rfl⟩ := hv
    exact ⟨cur, hg, r1, r2, r3, r4⟩
theorem AtU.lt {w : World} {base g cap k : Nat} {l : List K10} {u : K10} (a : AtU w base g cap k l u) : g < w.heap.size := by
  obtain ⟨cur, hg, _⟩ := a.blk
  exact (Array.getElem?_eq_some_iff.1 hg).1
theorem AtU.one {w : World} {base g cap k : Nat} {l : List K10} {u : K10} (a : AtU w base g cap k l u) : U1 w g (k * 10) u := by
  obtain ⟨a', cap', hv, hA⟩ := a.s.form
  simp only [Value.slice.injEq] at hv
  obtain ⟨rfl, _, _⟩ := hv
  rcases hA with h0 | ⟨b, off, e, hb, hat⟩
  · have := a.h; rw [h0] at this; simp at this
  · simp only [Option.some.injEq, Addr.mk.injEq] at e
    obtain ⟨rfl, rfl, _⟩ := e
    have := hat.one hb a.h
    rwa [Nat.zero_add] at this
theorem AtU.frozen {w : World} {base g cap k : Nat} {l : List K10} {u : K10} (a : AtU w base g cap k l u) (i : Nat) : w.frozen? ⟨g, i, none⟩ = false := by
  obtain ⟨cur, hg, _⟩ := a.blk
  simp [World.frozen?, hg]
theorem AtU.set {w : World} {base g cap k : Nat} {l : List K10} {u : K10} (a : AtU w base g cap k l u) (f : Nat) (hf : f < 10) (x : Int) : AtU (w.setCell ⟨g, k * 10 + f, none⟩ (.int .i64 x)) base g cap k (l.set k (u.upd f x)) (u.upd f x) := by
  obtain ⟨cur, hg, r1, r2, r3, r4⟩ := a.blk
  have hk : k < l.length := (List.getElem?_eq_some_iff.1 a.h).1
  refine ⟨⟨by rw [List.length_set, ← a.s.1, flatU_len, flatU_len, List.length_set], .inr ⟨g, cap, cur.setIfInBounds (k * 10 + f) (.int .i64 x), by rw [List.length_set], a.b, setBlk w g _ cur _ hg _, by rw [List.length_set]; exact r1, r2, by simpa using r3, ?_⟩⟩, by rw [List.getElem?_set, if_pos rfl, if_pos hk], a.b⟩
  rw [List.length_set, ← flatU_set l k u f x a.h hf, ← r4]
  simp [List.take_set]
theorem AtU.other {w : World} {base g cap k : Nat} {l : List K10} {u : K10} (a : AtU w base g cap k l u) {b o : Nat} (h : g ≠ b) (v : Value) : AtU (w.setCell ⟨b, o, none⟩ v) base g cap k l u :=
  ⟨a.s.of_block (fun q hq => by cases hq; exact Below.heap_setCell _ _ _ _ h), a.h, a.b⟩
theorem AtU.of_block {w w' : World} {base g cap k : Nat} {l : List K10} {u : K10} (a : AtU w base g cap k l u) (h : w'.heap[g]? = w.heap[g]?) : AtU w' base g cap k l u := ⟨a.s.of_block (fun q hq => by cases hq; exact h), a.h, a.b⟩
/- a field of a list of one's own -/
structure AtF (w : World) (base g cap k : Nat) (l : List K3) (u : K3) : Prop where
  s : SlF w base (.slice (some ⟨g, 0, none⟩) l.length cap) l
  h : l[k]? = some u
  b : base ≤ g
theorem SlF.at {w : World} {base : Nat} {v : Value} {l : List K3} (s : SlF w base v l) {k : Nat} {u : K3} (h : l[k]? = some u) : ∃ g cap, v = .slice (some ⟨g, 0, none⟩) l.length cap ∧ AtF w base g cap k l u := by
  rcases s.2 with ⟨h1, h2⟩ | ⟨g, cap, cur, hv, hbb, r⟩
  · rw [List.eq_nil_of_length_eq_zero h2] at h; simp at h
  · exact ⟨g, cap, hv, by rw [← hv]; exact s, h, hbb⟩
theorem AtF.blk {w : World} {base g cap k : Nat} {l : List K3} {u : K3} (a : AtF w base g cap k l u) : ∃ cur, w.heap[g]? = some (.cells cur 90 (0, 0)) ∧ l.length ≤ cap ∧ cap ≤ maxLen ∧ cur.size = cap * 3 ∧ cur.toList.take (l.length * 3) = flatF l := by
  rcases a.s.2 with ⟨h1, h2⟩ | ⟨g', cap', cur, hv, hbb, hg, r1, r2, r3, r4⟩
  · have := a.h; rw [List.eq_nil_of_length_eq_zero h2] at this; simp at this
  · simp only [Value.slice.injEq, Option.some.injEq, Addr.mk.injEq] at hv
    obtain ⟨⟨rfl, _⟩, _, rfl⟩ := hv
    exact ⟨cur, hg, r1, r2, r3, r4⟩
theorem AtF.lt {w : World} {base g cap k : Nat} {l : List K3} {u : K3} (a : AtF w base g cap k l u) : g < w.heap.size := by
  obtain ⟨cur, hg, _⟩ := a.blk
  exact (Array.getElem?_eq_some_iff.1 hg).1
theorem AtF.one {w : World} {base g cap k : Nat} {l : List K3} {u : K3} (a : AtF w base g cap k l u) : w.cell? ⟨g, k * 3, none⟩ = some (.int .i64 u.c0) ∧ w.cell? ⟨g, k * 3 + 1, none⟩ = some (.int .i64 u.c1) ∧ w.cell? ⟨g, k * 3 + 2, none⟩ = some (.int .i64 u.c2) := by
  obtain ⟨a', cap', hv, hA⟩ := a.s.form
  simp only [Value.slice.injEq] at hv
  obtain ⟨rfl, _, _⟩ := hv
  rcases hA with h0 | ⟨b, off, e, hb, hat⟩
  · have := a.h; rw [h0] at this; simp at this
  · simp only [Option.some.injEq, Addr.mk.injEq] at e
    obtain ⟨rfl, rfl, _⟩ := e
    have := hat.one hb a.h
    rw [Nat.zero_add] at this
    exact ⟨this.c0, this.c1, this.c2⟩
theorem AtF.frozen {w : World} {base g cap k : Nat} {l : List K3} {u : K3} (a : AtF w base g cap k l u) (i : Nat) : w.frozen? ⟨g, i, none⟩ = false := by
  obtain ⟨cur, hg, _⟩ := a.blk
  simp [World.frozen?, hg]
theorem AtF.set {w : World} {base g cap k : Nat} {l : List K3} {u : K3} (a : AtF w base g cap k l u) (f : Nat) (hf : f < 3) (x : Int) : AtF (w.setCell ⟨g, k * 3 + f, none⟩ (.int .i64 x)) base g cap k (l.set k (u.upd f x)) (u.upd f x) := by
  obtain ⟨cur, hg, r1, r2, r3, r4⟩ := a.blk
  have hk : k < l.length := (List.getElem?_eq_some_iff.1 a.h).1
  refine ⟨⟨by rw [List.length_set, ← a.s.1, flatF_len, flatF_len, List.length_set], .inr ⟨g, cap, cur.setIfInBounds (k * 3 + f) (.int .i64 x), by rw [List.length_set], a.b, setBlk w g _ cur _ hg _, by rw [List.length_set]; exact r1, r2, by simpa using r3, ?_⟩⟩, by rw [List.getElem?_set, if_pos rfl, if_pos hk], a.b⟩
  rw [List.length_set, ← flatF_set l k u f x a.h hf, ← r4]
  simp [List.take_set]
theorem AtF.other {w : World} {base g cap k : Nat} {l : List K3} {u : K3} (a : AtF w base g cap k l u) {b o : Nat} (h : g ≠ b) (v : Value) : AtF (w.setCell ⟨b, o, none⟩ v) base g cap k l u :=
  ⟨a.s.of_block (fun q hq => by cases hq; exact Below.heap_setCell _ _ _ _ h), a.h, a.b⟩
theorem AtF.of_block {w w' : World} {base g cap k : Nat} {l : List K3} {u : K3} (a : AtF w base g cap k l u) (h : w'.heap[g]? = w.heap[g]?) : AtF w' base g cap k l u := ⟨a.s.of_block (fun q hq => by cases hq; exact h), a.h, a.b⟩
/- blocks of two types are two -/
theorem blk_ne {w : World} {b b' : Nat} {c c' : Array Value} {t t' : TypeId} (h : w.heap[b]? = some (.cells c t (0, 0))) (h' : w.heap[b']? = some (.cells c' t' (0, 0))) (ht : t ≠ t') : b ≠ b' := by
  intro e
  subst e
  rw [h] at h'
  simp at h'
  exact ht h'.2
theorem cell_blk {w w' : World} {g o : Nat} (e : w'.heap[g]? = w.heap[g]?) : w'.cell? ⟨g, o, none⟩ = w.cell? ⟨g, o, none⟩ := World.cell?_of_block (a := ⟨g, o, none⟩) e
theorem frozen_blk {w w' : World} {g o : Nat} (e : w'.heap[g]? = w.heap[g]?) : w'.frozen? ⟨g, o, none⟩ = w.frozen? ⟨g, o, none⟩ := World.frozen?_of_block (a := ⟨g, o, none⟩) e
/- what was written: only blocks of S -/
structure KeptS (S : Nat → Prop) (w w' : World) : Prop where
  os : w'.os = w.os
  tape : w'.tape = w.tape
  output : w'.output = w.output
  size : w.heap.size ≤ w'.heap.size
  block : ∀ k, k < w.heap.size → ¬ S k → w'.heap[k]? = w.heap[k]?
theorem KeptS.refl (S : Nat → Prop) (w : World) : KeptS S w w := ⟨rfl, rfl, rfl, Nat.le_refl _, fun _ _ _ => rfl⟩
theorem KeptS.trans {S : Nat → Prop} {a b c : World} (h : KeptS S a b) (k : KeptS S b c) : KeptS S a c :=
  ⟨k.os.trans h.os, k.tape.trans h.tape, k.output.trans h.output, Nat.le_trans h.size k.size, fun i hi hn => (k.block i (Nat.lt_of_lt_of_le hi h.size) hn).trans (h.block i hi hn)⟩
theorem KeptS.mono {S T : Nat → Prop} {a b : World} (h : KeptS S a b) (hs : ∀ k, k < a.heap.size → S k → T k) : KeptS T a b :=
  ⟨h.os, h.tape, h.output, h.size, fun i hi hn => h.block i hi (fun e => hn (hs i hi e))⟩
theorem KeptS.of_below {S : Nat → Prop} {w w' : World} (h : Below w.heap.size w w') : KeptS S w w' := ⟨h.os, h.tape, h.output, h.size, fun i hi _ => h.block i hi⟩
theorem KeptS.below {S : Nat → Prop} {W w w' : World} {n : Nat} (k : KeptS S w w') (hb : Below n W w) (hn : n ≤ w.heap.size) (hs : ∀ i, i < w.heap.size → S i → n ≤ i) : Below n W w' :=
  hb.trans ⟨k.os, k.tape, k.output, k.size, fun i hi => k.block i (by omega) (fun e => by have := hs i (by omega) e; omega)⟩
theorem KeptS.set {S : Nat → Prop} {a b : World} (h : KeptS S a b) {g o : Nat} (hg : S g) (v : Value) : KeptS S a (b.setCell ⟨g, o, none⟩ v) := by
  refine ⟨h.os, h.tape, h.output, ?_, fun i hi hn => ?_⟩
  · have := ((Below.refl 0 b).setCell (p := ⟨g, o, none⟩) (Nat.zero_le _) v).size
    exact Nat.le_trans h.size this
  · exact (Below.heap_setCell b ⟨g, o, none⟩ v i (by rintro rfl; exact hn hg)).trans (h.block i hi hn)
theorem KeptS.grown {S : Nat → Prop} {a b c : World} {r : Option Nat} (h : KeptS S a b) (k : b.grownBy c r) (hr : ∀ q, r = some q → q < a.heap.size → S q) : KeptS S a c :=
  ⟨k.os.trans h.os, k.tape.trans h.tape, k.output.trans h.output, Nat.le_trans h.size k.size, fun i hi hn => (k.block i (Nat.lt_of_lt_of_le hi h.size) (fun e => hn (hr i e.symm hi))).trans (h.block i hi hn)⟩
end Go.Proofs.YtlonmobfjpmokaaGreatDoor
end

/- Iter -/
/- Contracts of the library at this program, laid by the kit (no walk): maps.Keys, slices.Sorted, slices.Sort. -/
section
namespace Go.Proofs
open Go.Shelf
def Tryz.keysA_ren : Go.Shelf.Ren := ⟨fun | 7 => 75 | 10 => 103 | n => n, fun | 23 => 75 | 26 => 2 | 3 => 73 | 28 => 112 | 0 => 0 | 27 => 111 | 33 => 91 | 4 => 4 | n => n, fun | n => n⟩
theorem Tryz.keysA : Go.Proofs.SlLaysZI.n7 Tryz.prog Tryz.keysA_ren := {
  mixed := by kernel_rfl
  f7 := ⟨Tryz.f75.name, by decide, Tryz.func75.trans (congrArg some (by kernel_rfl))⟩
  f10 := ⟨Tryz.f103.name, by decide, Tryz.func103.trans (congrArg some (by kernel_rfl))⟩
  t0 := Tryz.underlying0
  a0 := Tryz.isAgg0
  z0 := Tryz.sizeOf0
  v0 := Tryz.zeroValue0
  t4 := Tryz.underlying4
  a4 := Tryz.isAgg4
  z4 := Tryz.sizeOf4
  v4 := Tryz.zeroValue4
  t23 := Tryz.underlying75
  a23 := Tryz.isAgg75
  z23 := Tryz.sizeOf75
  v23 := Tryz.zeroValue75
  t26 := Tryz.underlying2
  a26 := Tryz.isAgg2
  z26 := Tryz.sizeOf2
  v26 := Tryz.zeroValue2
  t27 := Tryz.underlying111
  a27 := Tryz.isAgg111
  z27 := Tryz.sizeOf111
  v27 := Tryz.zeroValue111
  t28 := Tryz.underlying112
  a28 := Tryz.isAgg112
  z28 := Tryz.sizeOf112
  v28 := Tryz.zeroValue112
  t33 := Tryz.underlying91
  a33 := Tryz.isAgg91
  z33 := Tryz.sizeOf91
  v33 := Tryz.zeroValue91 }
def Tryz.sortedA_ren : Go.Shelf.Ren := ⟨fun | 6 => 74 | 8 => 101 | 9 => 102 | 11 => 116 | 13 => 118 | 12 => 117 | 23 => 137 | 24 => 138 | 14 => 128 | 15 => 129 | 16 => 130 | 17 => 131 | 18 => 132 | 19 => 133 | 20 => 134 | 21 => 135 | 22 => 136 | 25 => 142 | 26 => 143 | 27 => 144 | 28 => 145 | 29 => 146 | 30 => 147 | 31 => 149 | n => n, fun | 26 => 2 | 28 => 112 | 24 => 28 | 0 => 0 | 3 => 3 | 37 => 146 | 48 => 161 | 50 => 163 | 4 => 4 | 40 => 154 | 39 => 153 | 45 => 158 | 5 => 5 | 9 => 9 | 51 => 165 | 55 => 169 | 57 => 171 | 58 => 172 | 33 => 91 | n => n, fun | n => n⟩
theorem Tryz.sortedA : Go.Proofs.SlLaysZI.n6 Tryz.prog Tryz.sortedA_ren := {
  mixed := by kernel_rfl
  f6 := ⟨Tryz.f74.name, by decide, Tryz.func74.trans (congrArg some (by kernel_rfl))⟩
  f8 := ⟨Tryz.f101.name, by decide, Tryz.func101.trans (congrArg some (by kernel_rfl))⟩
  f11 := ⟨Tryz.f116.name, by decide, Tryz.func116.trans (congrArg some (by kernel_rfl))⟩
  t0 := Tryz.underlying0
  a0 := Tryz.isAgg0
  z0 := Tryz.sizeOf0
  v0 := Tryz.zeroValue0
  t24 := Tryz.underlying28
  a24 := Tryz.isAgg28
  z24 := Tryz.sizeOf28
  v24 := Tryz.zeroValue28
  t26 := Tryz.underlying2
  a26 := Tryz.isAgg2
  z26 := Tryz.sizeOf2
  v26 := Tryz.zeroValue2
  t28 := Tryz.underlying112
  a28 := Tryz.isAgg112
  z28 := Tryz.sizeOf112
  v28 := Tryz.zeroValue112
  i26 := by kernel_rfl }
def Tryz.sortA_ren : Go.Shelf.Ren := ⟨fun | 5 => 102 | 8 => 118 | 7 => 117 | 19 => 137 | 20 => 138 | 10 => 128 | 11 => 129 | 12 => 130 | 13 => 131 | 14 => 132 | 15 => 133 | 16 => 134 | 17 => 135 | 18 => 136 | 30 => 142 | 31 => 143 | 32 => 144 | 33 => 145 | 34 => 146 | 35 => 147 | 40 => 149 | n => n, fun | 23 => 28 | 25 => 2 | 3 => 3 | 32 => 146 | 22 => 28 | 0 => 0 | 44 => 161 | 46 => 163 | 4 => 4 | 36 => 154 | 35 => 153 | 41 => 158 | 5 => 5 | 9 => 9 | 53 => 165 | 57 => 169 | 63 => 171 | 64 => 172 | n => n, fun | n => n⟩
theorem Tryz.sortA : Go.Proofs.SlLaysM.n5 Tryz.prog Tryz.sortA_ren := {
  mixed := by kernel_rfl
  f5 := ⟨Tryz.f102.name, by decide, Tryz.func102.trans (congrArg some (by kernel_rfl))⟩
  f7 := ⟨Tryz.f117.name, by decide, Tryz.func117.trans (congrArg some (by kernel_rfl))⟩
  f8 := Tryz.func118.trans (congrArg some (by kernel_rfl))
  f10 := ⟨Tryz.f128.name, by decide, Tryz.func128.trans (congrArg some (by kernel_rfl))⟩
  f11 := ⟨Tryz.f129.name, by decide, Tryz.func129.trans (congrArg some (by kernel_rfl))⟩
  f12 := ⟨Tryz.f130.name, by decide, Tryz.func130.trans (congrArg some (by kernel_rfl))⟩
  f13 := ⟨Tryz.f131.name, by decide, Tryz.func131.trans (congrArg some (by kernel_rfl))⟩
  f14 := ⟨Tryz.f132.name, by decide, Tryz.func132.trans (congrArg some (by kernel_rfl))⟩
  f15 := ⟨Tryz.f133.name, by decide, Tryz.func133.trans (congrArg some (by kernel_rfl))⟩
  f16 := ⟨Tryz.f134.name, by decide, Tryz.func134.trans (congrArg some (by kernel_rfl))⟩
  f17 := ⟨Tryz.f135.name, by decide, Tryz.func135.trans (congrArg some (by kernel_rfl))⟩
  f18 := ⟨Tryz.f136.name, by decide, Tryz.func136.trans (congrArg some (by kernel_rfl))⟩
  f19 := Tryz.func137.trans (congrArg some (by kernel_rfl))
  f20 := Tryz.func138.trans (congrArg some (by kernel_rfl))
  f30 := ⟨Tryz.f142.name, by decide, Tryz.func142.trans (congrArg some (by kernel_rfl))⟩
  f31 := Tryz.func143.trans (congrArg some (by kernel_rfl))
  f32 := Tryz.func144.trans (congrArg some (by kernel_rfl))
  f33 := ⟨Tryz.f145.name, by decide, Tryz.func145.trans (congrArg some (by kernel_rfl))⟩
  f34 := ⟨Tryz.f146.name, by decide, Tryz.func146.trans (congrArg some (by kernel_rfl))⟩
  f35 := ⟨Tryz.f147.name, by decide, Tryz.func147.trans (congrArg some (by kernel_rfl))⟩
  f40 := ⟨Tryz.f149.name, by decide, Tryz.func149.trans (congrArg some (by kernel_rfl))⟩
  t0 := Tryz.underlying0
  a0 := Tryz.isAgg0
  z0 := Tryz.sizeOf0
  v0 := Tryz.zeroValue0
  t3 := Tryz.underlying3
  a3 := Tryz.isAgg3
  z3 := Tryz.sizeOf3
  v3 := Tryz.zeroValue3
  t4 := Tryz.underlying4
  a4 := Tryz.isAgg4
  z4 := Tryz.sizeOf4
  v4 := Tryz.zeroValue4
  t5 := Tryz.underlying5
  a5 := Tryz.isAgg5
  z5 := Tryz.sizeOf5
  v5 := Tryz.zeroValue5
  t9 := Tryz.underlying9
  a9 := Tryz.isAgg9
  z9 := Tryz.sizeOf9
  v9 := Tryz.zeroValue9
  t22 := Tryz.underlying28
  a22 := Tryz.isAgg28
  z22 := Tryz.sizeOf28
  v22 := Tryz.zeroValue28
  t23 := Tryz.underlying28
  a23 := Tryz.isAgg28
  z23 := Tryz.sizeOf28
  v23 := Tryz.zeroValue28
  t25 := Tryz.underlying2
  a25 := Tryz.isAgg2
  z25 := Tryz.sizeOf2
  v25 := Tryz.zeroValue2
  t32 := Tryz.underlying146
  a32 := Tryz.isAgg146
  z32 := Tryz.sizeOf146
  v32 := Tryz.zeroValue146
  t35 := Tryz.underlying153
  a35 := Tryz.isAgg153
  z35 := Tryz.sizeOf153
  v35 := Tryz.zeroValue153
  t36 := Tryz.underlying154
  a36 := Tryz.isAgg154
  z36 := Tryz.sizeOf154
  v36 := Tryz.zeroValue154
  t41 := Tryz.underlying158
  a41 := Tryz.isAgg158
  z41 := Tryz.sizeOf158
  v41 := Tryz.zeroValue158
  t44 := Tryz.underlying161
  a44 := Tryz.isAgg161
  z44 := Tryz.sizeOf161
  v44 := Tryz.zeroValue161
  t46 := Tryz.underlying163
  a46 := Tryz.isAgg163
  z46 := Tryz.sizeOf163
  v46 := Tryz.zeroValue163
  t53 := Tryz.underlying165
  a53 := Tryz.isAgg165
  z53 := Tryz.sizeOf165
  v53 := Tryz.zeroValue165
  t57 := Tryz.underlying169
  a57 := Tryz.isAgg169
  z57 := Tryz.sizeOf169
  v57 := Tryz.zeroValue169
  t63 := Tryz.underlying171
  a63 := Tryz.isAgg171
  z63 := Tryz.sizeOf171
  v63 := Tryz.zeroValue171
  t64 := Tryz.underlying172
  a64 := Tryz.isAgg172
  z64 := Tryz.sizeOf172
  v64 := Tryz.zeroValue172 }
end Go.Proofs
end

/- MapKeys -/
/- The keys of the program's map of rows, sorted. Condition: the map is the call's own. -/
section
namespace Go.Proofs.YtlonmobfjpmokaaGreatDoor
open Go.ChangeShapes Go.WideShapes Go.ChangeAt Go.RowKit Go.Maps Go.Sort Go.Shelf
open Bd
set_option linter.unusedVariables false

theorem sortsA (m : Nat) : AnyZI.SortsIn Tryz.prog Tryz.sortedA_ren Fence.wide m :=
  ⟨fun blk off cap ss W hH hblk hsz => callsIn_wide.2 (AnyM.slices_Sort_int Tryz.sortA blk off cap ss W hH hblk hsz),
   fun p cap W => callsIn_wide.2 (AnyM.slices_Sort_int_none Tryz.sortA p cap W)⟩
theorem keys_c (mb : Option Nat) (W : World) :
    Calls Tryz.prog 75 #[.map mb] W fun e w' => e = .returned (.func (.func 103) #[] #[.pointer (some ⟨W.heap.size, 0, none⟩)]) ∧ w' = W.alloc (.cells #[.map mb] 75) :=
  (callsIn_wide (n := 5)).1 (AnyZI.keys_in Tryz.keysA Fence.wide 5 trivial rfl mb W)
theorem intKeys_ent (l : List K10) : intKeys (DataW.map (l.map ent)) = l.map K10.c0 := by
  unfold intKeys
  simp only [List.map_map]
  rfl
theorem sorted_rise {l : List K10} (h : Rise l) {ss : List Int} (hp : ss.Perm (l.map K10.c0)) : ss.mergeSort (fun x y => decide (x ≤ y)) = l.map K10.c0 := by
  have hs : (l.map K10.c0).Pairwise (fun a b => decide (a ≤ b) = true) := by
    rw [List.pairwise_map]
    exact h.imp (fun {a b} hab => decide_eq_true (by omega))
  have h1 : (ss.mergeSort (fun x y => decide (x ≤ y))).Pairwise (fun a b => decide (a ≤ b) = true) := List.pairwise_mergeSort (fun a b c h1 h2 => by simp at h1 h2 ⊢; omega) (fun a b => by simp; omega) ss
  have h2 : (ss.mergeSort (fun x y => decide (x ≤ y))).Perm (l.map K10.c0) := (List.mergeSort_perm ss _).trans hp
  exact List.Perm.eq_of_pairwise (fun a b _ _ h1 h2 => by simp at h1 h2; omega) h1 hs h2
theorem sorted_c (b : Nat) (l : List K10) (hl : l.length ≤ 100) (hr : Rise l) (w : World) (h : MapAt w b l) :
    Calls Tryz.prog 74 #[.func (.func 103) #[] #[.pointer (some ⟨w.heap.size, 0, none⟩)]] (w.alloc (.cells #[.map (some b)] 75)) fun e w' => ∃ v, e = .returned v ∧ SlI w' w.heap.size v (l.map K10.c0) ∧ Below w.heap.size w w' := by
  have hbl := h.lt
  have hsz : Maps.size (DataW.map (l.map ent)) = l.length := by rw [Maps.size_eq, List.length_map]
  have hseq : SeqGives Fence.wide 2 Tryz.prog 103 #[.pointer (some ⟨w.heap.size, 0, none⟩)] encZ (fun ss => ss.Perm (intKeys (DataW.map (l.map ent)))) (Maps.size (DataW.map (l.map ent))) (w.alloc (.cells #[.map (some b)] 75)) :=
    AnyZI.keys_gives (ρ := Tryz.keysA_ren) { Tryz.keysA with } Fence.wide _ trivial rfl (by omega) w.heap.size b l.length _ _ (by simp) (by simp) (by
      obtain ⟨es, clock, hb, Ft, hs, hD⟩ := h
      exact ⟨es, clock, (Below.heap_alloc _ _ b hbl).trans hb, Ft, hs, hD⟩)
  have cS := AnyZI.sorted_in Tryz.sortedA Fence.wide 5 trivial trivial trivial trivial rfl (by omega) (sortsA _) (enters_of Tryz.func102 (by kernel_rfl) rfl) 103 #[.pointer (some ⟨w.heap.size, 0, none⟩)] trivial (enters_of Tryz.func103 (by kernel_rfl) rfl) _ _ (by rw [hsz]; unfold maxLen; omega) (by rw [hsz]; omega) _ hseq
  change CallsIn _ _ Tryz.prog 74 _ _ _ at cS
  refine ((callsIn_wide).1 cS).mono ?_
  rintro e w' ⟨v, ss, rfl, hS, hrow, hnil, hb⟩
  rw [intKeys_ent] at hS
  rw [sorted_rise hr hS] at hrow
  refine ⟨v, rfl, ?_, ((Below.refl _ w).alloc (Nat.le_refl _) _).trans (hb.mono (by simp))⟩
  have hle : ss.length = (l.map K10.c0).length := hS.length_eq
  rw [hle] at hrow
  have hrow' := ownsRow_base_a hrow (base' := w.heap.size) (by simp)
  exact hrow'
end Go.Proofs.YtlonmobfjpmokaaGreatDoor
end
