/- Texts of mine put together (a claim holds at most 60 files): OwnAt. -/
import Derived.Test.YtppgjmpdnpidnaaGreatDoorPartK11
import Derived.Test.YtppgjmpdnpidnaaGreatDoorPartK10
import Derived.Test.YtppgjmpdnpidnaaGreatDoorPartK13

/- OwnAt -/
/- A member of a list of one's own: its cells, and what a store into one leaves. No condition. -/
section
namespace Go.Proofs.YtppgjmpdnpidnaaGreatDoor
open Go.ChangeShapes Go.WideShapes Go.ChangeAt Go.RowKit
open Bd
set_option linter.unusedVariables false

def K10.upd (u : K10) (f : Nat) (x : Int) : K10 := ⟨if f = 0 then x else u.c0, if f = 1 then x else u.c1, if f = 2 then x else u.c2, if f = 3 then x else u.c3, if f = 4 then x else u.c4, if f = 5 then x else u.c5, if f = 6 then x else u.c6, if f = 7 then x else u.c7, if f = 8 then x else u.c8, if f = 9 then x else u.c9⟩
def K3.upd (u : K3) (f : Nat) (x : Int) : K3 := ⟨if f = 0 then x else u.c0, if f = 1 then x else u.c1, if f = 2 then x else u.c2⟩
theorem flatU_set : ∀ (l : List K10) (k : Nat) (u : K10) (f : Nat) (x : Int), l[k]? = some u → f < 10 → (flatU l).set (k * 10 + f) (.int .i64 x) = flatU (l.set k (u.upd f x))
  | [], k, u, f, x, h, _ => by simp at h
  | y :: l, 0, u, f, x, h, hf => by
    have e : y = u := by simpa using h
    subst e
    show (y.v.toList ++ flatU l).set (0 * 10 + f) _ = (y.upd f x).v.toList ++ flatU l
    rw [Nat.zero_mul, Nat.zero_add, List.set_append_left _ _ (by show f < 10; exact hf)]
    congr 1
    have h6 : f = 0 ∨ f = 1 ∨ f = 2 ∨ f = 3 ∨ f = 4 ∨ f = 5 ∨ f = 6 ∨ f = 7 ∨ f = 8 ∨ f = 9 := by omega
    rcases h6 with rfl | rfl | rfl | rfl | rfl | rfl | rfl | rfl | rfl | rfl <;> rfl
  | y :: l, k + 1, u, f, x, h, hf => by
    show (y.v.toList ++ flatU l).set ((k + 1) * 10 + f) _ = y.v.toList ++ flatU (l.set k (u.upd f x))
    have e : (y.v.toList).length = 10 := rfl
    rw [List.set_append_right _ _ (by rw [e]; omega), e, show (k + 1) * 10 + f - 10 = k * 10 + f from by omega, flatU_set l k u f x (by simpa using h) hf]
theorem flatF_set : ∀ (l : List K3) (k : Nat) (u : K3) (f : Nat) (x : Int), l[k]? = some u → f < 3 → (flatF l).set (k * 3 + f) (.int .i64 x) = flatF (l.set k (u.upd f x))
  | [], k, u, f, x, h, _ => by simp at h
  | y :: l, 0, u, f, x, h, hf => by
    have e : y = u := by simpa using h
    subst e
    show (y.v.toList ++ flatF l).set (0 * 3 + f) _ = (y.upd f x).v.toList ++ flatF l
    rw [Nat.zero_mul, Nat.zero_add, List.set_append_left _ _ (by show f < 3; exact hf)]
    congr 1
    have h6 : f = 0 ∨ f = 1 ∨ f = 2 := by omega
    rcases h6 with rfl | rfl | rfl <;> rfl
  | y :: l, k + 1, u, f, x, h, hf => by
    show (y.v.toList ++ flatF l).set ((k + 1) * 3 + f) _ = y.v.toList ++ flatF (l.set k (u.upd f x))
    have e : (y.v.toList).length = 3 := rfl
    rw [List.set_append_right _ _ (by rw [e]; omega), e, show (k + 1) * 3 + f - 3 = k * 3 + f from by omega, flatF_set l k u f x (by simpa using h) hf]
theorem setBlk (w : World) (g i : Nat) (cur : Array Value) (t : TypeId) (hg : w.heap[g]? = some (.cells cur t (0, 0))) (v : Value) : (w.setCell ⟨g, i, none⟩ v).heap[g]? = some (.cells (cur.setIfInBounds i v) t (0, 0)) := by
  simp [World.setCell, Array.getElem?_modify, hg]
/- a unit of a list of one's own: where it lies -/
structure AtU (w : World) (base g cap k : Nat) (l : List K10) (u : K10) : Prop where
  s : SlU w base (.slice (some ⟨g, 0, none⟩) l.length cap) l
  h : l[k]? = some u
  b : base ≤ g
theorem SlU.at {w : World} {base : Nat} {v : Value} {l : List K10} (s : SlU w base v l) {k : Nat} {u : K10} (h : l[k]? = some u) : ∃ g cap, v = .slice (some ⟨g, 0, Option.none⟩) l.length cap ∧ AtU w base g cap k l u := by
  rcases s.2 with ⟨h1, h2⟩ | ⟨g, cap, cur, hv, hbb, r⟩
  · rw [List.eq_nil_of_length_eq_zero h2] at h; simp at h
  · exact ⟨g, cap, hv, by rw [← hv]; exact s, h, hbb⟩
theorem AtU.blk {w : World} {base g cap k : Nat} {l : List K10} {u : K10} (a : AtU w base g cap k l u) : ∃ cur, w.heap[g]? = some (.cells cur 75 (0, 0)) ∧ l.length ≤ cap ∧ cap ≤ maxLen ∧ cur.size = cap * 10 ∧ cur.toList.take (l.length * 10) = flatU l := by
  rcases a.s.2 with ⟨h1, h2⟩ | ⟨g', cap', cur, hv, hbb, hg, r1, r2, r3, r4⟩
  · have := a.h; rw [List.eq_nil_of_length_eq_zero h2] at this; simp at this
  · simp only [Value.slice.injEq, Option.some.injEq, Addr.mk.injEq] at hv
    obtain ⟨⟨rfl, _⟩, _, rfl⟩ := hv
    exact ⟨cur, hg, r1, r2, r3, r4⟩
theorem AtU.lt {w : World} {base g cap k : Nat} {l : List K10} {u : K10} (a : AtU w base g cap k l u) : g < w.heap.size := by
  obtain ⟨cur, hg, _⟩ := a.blk
  exact (Array.getElem?_eq_some_iff.1 hg).1
theorem AtU.one {w : World} {base g cap k : Nat} {l : List K10} {u : K10} (a : AtU w base g cap k l u) : U1 w g (k * 10) u := by
  obtain ⟨a', cap', hv, hA⟩ := a.s.form
  simp only [Value.slice.injEq] at hv
  obtain ⟨rfl, _, _⟩ := hv
  rcases hA with h0 | ⟨b, off, e, hb, hat⟩
  · have := a.h; rw [h0] at this; simp at this
  · simp only [Option.some.injEq, Addr.mk.injEq] at e
    obtain ⟨rfl, rfl, _⟩ := e
    have := hat.one hb a.h
    rwa [Nat.zero_add] at this
theorem AtU.frozen {w : World} {base g cap k : Nat} {l : List K10} {u : K10} (a : AtU w base g cap k l u) (i : Nat) : w.frozen? ⟨g, i, none⟩ = false := by
  obtain ⟨cur, hg, _⟩ := a.blk
  simp [World.frozen?, hg]
theorem AtU.set {w : World} {base g cap k : Nat} {l : List K10} {u : K10} (a : AtU w base g cap k l u) (f : Nat) (hf : f < 10) (x : Int) : AtU (w.setCell ⟨g, k * 10 + f, none⟩ (.int .i64 x)) base g cap k (l.set k (u.upd f x)) (u.upd f x) := by
  obtain ⟨cur, hg, r1, r2, r3, r4⟩ := a.blk
  have hk : k < l.length := (List.getElem?_eq_some_iff.1 a.h).1
  refine ⟨⟨by rw [List.length_set, ← a.s.1, flatU_len, flatU_len, List.length_set], .inr ⟨g, cap, cur.setIfInBounds (k * 10 + f) (.int .i64 x), by rw [List.length_set], a.b, setBlk w g _ cur _ hg _, by rw [List.length_set]; exact r1, r2, by simpa using r3, ?_⟩⟩, by rw [List.getElem?_set, if_pos rfl, if_pos hk], a.b⟩
  rw [List.length_set, ← flatU_set l k u f x a.h hf, ← r4]
  simp [List.take_set]
theorem AtU.other {w : World} {base g cap k : Nat} {l : List K10} {u : K10} (a : AtU w base g cap k l u) {b o : Nat} (h : g ≠ b) (v : Value) : AtU (w.setCell ⟨b, o, none⟩ v) base g cap k l u :=
  ⟨a.s.of_block (fun q hq => by cases hq; exact Below.heap_setCell _ _ _ _ h), a.h, a.b⟩
theorem AtU.of_block {w w' : World} {base g cap k : Nat} {l : List K10} {u : K10} (a : AtU w base g cap k l u) (h : w'.heap[g]? = w.heap[g]?) : AtU w' base g cap k l u := ⟨a.s.of_block (fun q hq => by cases hq; exact h), a.h, a.b⟩
/- a field of a list of one's own -/
structure AtF (w : World) (base g cap k : Nat) (l : List K3) (u : K3) : Prop where
  s : SlF w base (.slice (some ⟨g, 0, none⟩) l.length cap) l
  h : l[k]? = some u
  b : base ≤ g
theorem SlF.at {w : World} {base : Nat} {v : Value} {l : List K3} (s : SlF w base v l) {k : Nat} {u : K3} (h : l[k]? = some u) : ∃ g cap, v = .slice (some ⟨g, 0, Option.none⟩) l.length cap ∧ AtF w base g cap k l u := by
  rcases s.2 with ⟨h1, h2⟩ | ⟨g, cap, cur, hv, hbb, r⟩
  · rw [List.eq_nil_of_length_eq_zero h2] at h; simp at h
  · exact ⟨g, cap, hv, by rw [← hv]; exact s, h, hbb⟩
theorem AtF.blk {w : World} {base g cap k : Nat} {l : List K3} {u : K3} (a : AtF w base g cap k l u) : ∃ cur, w.heap[g]? = some (.cells cur 78 (0, 0)) ∧ l.length ≤ cap ∧ cap ≤ maxLen ∧ cur.size = cap * 3 ∧ cur.toList.take (l.length * 3) = flatF l := by
  rcases a.s.2 with ⟨h1, h2⟩ | ⟨g', cap', cur, hv, hbb, hg, r1, r2, r3, r4⟩
  · have := a.h; rw [List.eq_nil_of_length_eq_zero h2] at this; simp at this
  · simp only [Value.slice.injEq, Option.some.injEq, Addr.mk.injEq] at hv
    obtain ⟨⟨rfl, _⟩, _, rfl⟩ := hv
    exact ⟨cur, hg, r1, r2, r3, r4⟩
theorem AtF.lt {w : World} {base g cap k : Nat} {l : List K3} {u : K3} (a : AtF w base g cap k l u) : g < w.heap.size := by
  obtain ⟨cur, hg, _⟩ := a.blk
  exact (Array.getElem?_eq_some_iff.1 hg).1
theorem AtF.one {w : World} {base g cap k : Nat} {l : List K3} {u : K3} (a : AtF w base g cap k l u) : w.cell? ⟨g, k * 3, none⟩ = some (.int .i64 u.c0) ∧ w.cell? ⟨g, k * 3 + 1, none⟩ = some (.int .i64 u.c1) ∧ w.cell? ⟨g, k * 3 + 2, none⟩ = some (.int .i64 u.c2) := by
  obtain ⟨a', cap', hv, hA⟩ := a.s.form
  simp only [Value.slice.injEq] at hv
  obtain ⟨rfl, _, _⟩ := hv
  rcases hA with h0 | ⟨b, off, e, hb, hat⟩
  · have := a.h; rw [h0] at this; simp at this
  · simp only [Option.some.injEq, Addr.mk.injEq] at e
    obtain ⟨rfl, rfl, _⟩ := e
    have := hat.one hb a.h
    rw [Nat.zero_add] at this
    exact ⟨this.c0, this.c1, this.c2⟩
theorem AtF.frozen {w : World} {base g cap k : Nat} {l : List K3} {u : K3} (a : AtF w base g cap k l u) (i : Nat) : w.frozen? ⟨g, i, none⟩ = false := by
  obtain ⟨cur, hg, _⟩ := a.blk
  simp [World.frozen?, hg]
theorem AtF.set {w : World} {base g cap k : Nat} {l : List K3} {u : K3} (a : AtF w base g cap k l u) (f : Nat) (hf : f < 3) (x : Int) : AtF (w.setCell ⟨g, k * 3 + f, none⟩ (.int .i64 x)) base g cap k (l.set k (u.upd f x)) (u.upd f x) := by
  obtain ⟨cur, hg, r1, r2, r3, r4⟩ := a.blk
  have hk : k < l.length := (List.getElem?_eq_some_iff.1 a.h).1
  refine ⟨⟨by rw [List.length_set, ← a.s.1, flatF_len, flatF_len, List.length_set], .inr ⟨g, cap, cur.setIfInBounds (k * 3 + f) (.int .i64 x), by rw [List.length_set], a.b, setBlk w g _ cur _ hg _, by rw [List.length_set]; exact r1, r2, by simpa using r3, ?_⟩⟩, by rw [List.getElem?_set, if_pos rfl, if_pos hk], a.b⟩
  rw [List.length_set, ← flatF_set l k u f x a.h hf, ← r4]
  simp [List.take_set]
theorem AtF.other {w : World} {base g cap k : Nat} {l : List K3} {u : K3} (a : AtF w base g cap k l u) {b o : Nat} (h : g ≠ b) (v : Value) : AtF (w.setCell ⟨b, o, none⟩ v) base g cap k l u :=
  ⟨a.s.of_block (fun q hq => by cases hq; exact Below.heap_setCell _ _ _ _ h), a.h, a.b⟩
theorem AtF.of_block {w w' : World} {base g cap k : Nat} {l : List K3} {u : K3} (a : AtF w base g cap k l u) (h : w'.heap[g]? = w.heap[g]?) : AtF w' base g cap k l u := ⟨a.s.of_block (fun q hq => by cases hq; exact h), a.h, a.b⟩
/- blocks of two types are two -/
theorem blk_ne {w : World} {b b' : Nat} {c c' : Array Value} {t t' : TypeId} (h : w.heap[b]? = some (.cells c t (0, 0))) (h' : w.heap[b']? = some (.cells c' t' (0, 0))) (ht : t ≠ t') : b ≠ b' := by
  intro e
  subst e
  rw [h] at h'
  simp at h'
  exact ht h'.2
theorem cell_blk {w w' : World} {g o : Nat} (e : w'.heap[g]? = w.heap[g]?) : w'.cell? ⟨g, o, none⟩ = w.cell? ⟨g, o, none⟩ := World.cell?_of_block (a := ⟨g, o, none⟩) e
theorem frozen_blk {w w' : World} {g o : Nat} (e : w'.heap[g]? = w.heap[g]?) : w'.frozen? ⟨g, o, none⟩ = w.frozen? ⟨g, o, none⟩ := World.frozen?_of_block (a := ⟨g, o, none⟩) e
/- what was written: only blocks of S -/
structure KeptS (S : Nat → Prop) (w w' : World) : Prop where
  os : w'.os = w.os
  tape : w'.tape = w.tape
  output : w'.output = w.output
  size : w.heap.size ≤ w'.heap.size
  block : ∀ k, k < w.heap.size → ¬ S k → w'.heap[k]? = w.heap[k]?
theorem KeptS.refl (S : Nat → Prop) (w : World) : KeptS S w w := ⟨rfl, rfl, rfl, Nat.le_refl _, fun _ _ _ => rfl⟩
theorem KeptS.trans {S : Nat → Prop} {a b c : World} (h : KeptS S a b) (k : KeptS S b c) : KeptS S a c :=
  ⟨k.os.trans h.os, k.tape.trans h.tape, k.output.trans h.output, Nat.le_trans h.size k.size, fun i hi hn => (k.block i (Nat.lt_of_lt_of_le hi h.size) hn).trans (h.block i hi hn)⟩
theorem KeptS.mono {S T : Nat → Prop} {a b : World} (h : KeptS S a b) (hs : ∀ k, k < a.heap.size → S k → T k) : KeptS T a b :=
  ⟨h.os, h.tape, h.output, h.size, fun i hi hn => h.block i hi (fun e => hn (hs i hi e))⟩
theorem KeptS.of_below {S : Nat → Prop} {w w' : World} (h : Below w.heap.size w w') : KeptS S w w' := ⟨h.os, h.tape, h.output, h.size, fun i hi _ => h.block i hi⟩
theorem KeptS.below {S : Nat → Prop} {W w w' : World} {n : Nat} (k : KeptS S w w') (hb : Below n W w) (hn : n ≤ w.heap.size) (hs : ∀ i, i < w.heap.size → S i → n ≤ i) : Below n W w' :=
  hb.trans ⟨k.os, k.tape, k.output, k.size, fun i hi => k.block i (by omega) (fun e => by have := hs i (by omega) e; omega)⟩
theorem KeptS.set {S : Nat → Prop} {a b : World} (h : KeptS S a b) {g o : Nat} (hg : S g) (v : Value) : KeptS S a (b.setCell ⟨g, o, none⟩ v) := by
  refine ⟨h.os, h.tape, h.output, ?_, fun i hi hn => ?_⟩
  · have := ((Below.refl 0 b).setCell (p := ⟨g, o, none⟩) (Nat.zero_le _) v).size
    exact Nat.le_trans h.size this
  · exact (Below.heap_setCell b ⟨g, o, none⟩ v i (by rintro rfl; exact hn hg)).trans (h.block i hi hn)
theorem KeptS.grown {S : Nat → Prop} {a b c : World} {r : Option Nat} (h : KeptS S a b) (k : b.grownBy c r) (hr : ∀ q, r = some q → q < a.heap.size → S q) : KeptS S a c :=
  ⟨k.os.trans h.os, k.tape.trans h.tape, k.output.trans h.output, Nat.le_trans h.size k.size, fun i hi hn => (k.block i (Nat.lt_of_lt_of_le hi h.size) (fun e => hn (hr i e.symm hi))).trans (h.block i hi hn)⟩
end Go.Proofs.YtppgjmpdnpidnaaGreatDoor
end
