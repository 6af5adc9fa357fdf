/- Texts of mine put together (a claim holds at most 60 files): Tick2, OwnWalks. -/
import Derived.Test.YtlonmobfjpmokaaGreatDoorPartU23
import Derived.Test.YtlonmobfjpmokaaGreatDoorPartU19
import Derived.Test.YtlonmobfjpmokaaGreatDoorPartU21

/- Tick2 -/
/- Plain facts of chapter 5 (ticks): ticks that are added up. No condition. -/
section
namespace Go.Proofs.YtlonmobfjpmokaaGreatDoor
open Bd
set_option linter.unusedVariables false

def addL (a b : List Int) : List Int := List.zipWith (fun x y => x + y) a b
def subL (a b : List Int) : List Int := List.zipWith (fun x y => x - y) a b
def z4 : List Int := [0, 0, 0, 0]
theorem addL_len {a b : List Int} (h : a.length = b.length) : (addL a b).length = a.length := by unfold addL; rw [List.length_zipWith]; omega
theorem addL_at {a b : List Int} (h : a.length = b.length) (o : Nat) (x : Int) : addL a (addAt b o x) = addAt (addL a b) o x := by
  apply List.ext_getElem?
  intro i
  unfold addL addAt
  rw [List.getElem?_set, List.getElem?_zipWith, List.getElem?_set, List.getElem?_zipWith, List.length_zipWith]
  by_cases ho : o < b.length
  · by_cases e : o = i
    · subst e
      rw [if_pos rfl, if_pos rfl, if_pos ho, if_pos (by omega), List.getD_eq_getElem?_getD, List.getD_eq_getElem?_getD, List.getElem?_zipWith, List.getElem?_eq_getElem ho, List.getElem?_eq_getElem (l := a) (by omega)]
      simp [Int.add_assoc]
    · rw [if_neg e, if_neg e]
  · by_cases e : o = i
    · subst e
      rw [if_pos rfl, if_pos rfl, if_neg ho, if_neg (by omega)]
      have : a[o]? = none := List.getElem?_eq_none (by omega)
      rw [this]
    · rw [if_neg e, if_neg e]
theorem subL_at {a b : List Int} (h : a.length = b.length) (o : Nat) (x : Int) : subL a (addAt b o x) = addAt (subL a b) o (-x) := by
  apply List.ext_getElem?
  intro i
  unfold subL addAt
  rw [List.getElem?_set, List.getElem?_zipWith, List.getElem?_set, List.getElem?_zipWith, List.length_zipWith]
  by_cases ho : o < b.length
  · by_cases e : o = i
    · subst e
      rw [if_pos rfl, if_pos rfl, if_pos ho, if_pos (by omega), List.getD_eq_getElem?_getD, List.getD_eq_getElem?_getD, List.getElem?_zipWith, List.getElem?_eq_getElem ho, List.getElem?_eq_getElem (l := a) (by omega)]
      simp; omega
    · rw [if_neg e, if_neg e]
  · by_cases e : o = i
    · subst e
      rw [if_pos rfl, if_pos rfl, if_neg ho, if_neg (by omega)]
      have : a[o]? = none := List.getElem?_eq_none (by omega)
      rw [this]
    · rw [if_neg e, if_neg e]
theorem four {l : List Int} (h : l.length = 4) : ∃ a b c d, l = [a, b, c, d] := by
  match l, h with
  | [a, b, c, d], _ => exact ⟨a, b, c, d, rfl⟩
theorem addL_z {a : List Int} (h : a.length = 4) : addL a z4 = a := by
  obtain ⟨a, b, c, d, rfl⟩ := four h
  simp [addL, z4]
theorem z_addL {a : List Int} (h : a.length = 4) : addL z4 a = a := by
  obtain ⟨a, b, c, d, rfl⟩ := four h
  simp [addL, z4]
theorem subL_z {a : List Int} (h : a.length = 4) : subL a z4 = a := by
  obtain ⟨a, b, c, d, rfl⟩ := four h
  simp [subL, z4]
/- two states that are one but for what was got and lost ahead -/
structure Shift (g r0 : List Int) (l : Int) (s t : TS) : Prop where
  us : t.us = s.us
  fs : t.fs = s.fs
  rm : t.rm = s.rm
  gn : t.gn = addL g s.gn
  lost : t.lost = l + s.lost
  r : s.rm = subL r0 s.gn
  n : s.gn.length = g.length
  n' : s.gn.length = r0.length
theorem Shift.step {g r0 : List Int} {l : Int} {s t : TS} (h : Shift g r0 l s t) (i : Int) : Shift g r0 l (tkS s i) (tkS t i) := by
  unfold tkS
  rw [h.us]
  cases hf : findU s.us i with
  | none => exact h
  | some u =>
    dsimp only
    rw [h.fs, h.rm]
    refine ⟨rfl, rfl, rfl, ?_, ?_, ?_, ?_, ?_⟩
    · dsimp only; rw [h.gn, addL_at h.n.symm]
    · dsimp only; rw [h.lost]; omega
    · dsimp only; rw [subL_at h.n'.symm, ← h.r]
    · dsimp only; rw [addAt_len]; exact h.n
    · dsimp only; rw [addAt_len]; exact h.n'
theorem Shift.list {g r0 : List Int} {l : Int} {s t : TS} (h : Shift g r0 l s t) (ids : List Int) : Shift g r0 l (tkL s ids) (tkL t ids) := by
  unfold tkL
  induction ids generalizing s t with
  | nil => exact h
  | cons i ids ih => exact ih (h.step i)
theorem Shift.tick {g r0 : List Int} {l : Int} {s t : TS} (h : Shift g r0 l s t) : Shift g r0 l (tkB s) (tkB t) := by
  unfold tkB
  rw [h.us]
  exact h.list _
theorem Shift.ticks {g r0 : List Int} {l : Int} {s t : TS} (h : Shift g r0 l s t) (n : Nat) : Shift g r0 l (tkN n s) (tkN n t) := by
  induction n generalizing s t with
  | zero => exact h
  | succ n ih => exact ih h.tick
/- the beginning of ticks -/
def ts0 (us : List K10) (fs : List K3) (rm : List Int) : TS := ⟨us, fs, rm, z4, 0⟩
theorem Shift.start {us : List K10} {fs : List K3} {rm gn : List Int} {l : Int} (h : rm.length = 4) (h' : gn.length = 4) : Shift gn rm l (ts0 us fs rm) ⟨us, fs, rm, gn, l⟩ :=
  ⟨rfl, rfl, rfl, (addL_z h').symm, by show l = l + 0; omega, (subL_z h).symm, h'.symm, h.symm⟩
/- a tick of a state is a tick from the beginning, added to it -/
theorem tick_add (s : TS) (h : s.rm.length = 4) (h' : s.gn.length = 4) :
    tkB s = ⟨(tkB (ts0 s.us s.fs s.rm)).us, (tkB (ts0 s.us s.fs s.rm)).fs, subL s.rm (tkB (ts0 s.us s.fs s.rm)).gn, addL s.gn (tkB (ts0 s.us s.fs s.rm)).gn, s.lost + (tkB (ts0 s.us s.fs s.rm)).lost⟩ := by
  have k := (Shift.start (us := s.us) (fs := s.fs) (l := s.lost) h h').tick
  have e : tkB s = ⟨(tkB s).us, (tkB s).fs, (tkB s).rm, (tkB s).gn, (tkB s).lost⟩ := rfl
  rw [e]
  have k' : Shift s.gn s.rm s.lost (tkB (ts0 s.us s.fs s.rm)) (tkB s) := k
  rw [k'.us, k'.fs, k'.rm, k'.gn, k'.lost, ← k'.r]
theorem tkN_next (n : Nat) (s : TS) : tkN (n + 1) s = tkB (tkN n s) := by
  induction n generalizing s with
  | zero => rfl
  | succ n ih => exact ih (tkB s)
theorem tkN_add (n m : Nat) (s : TS) : tkN (n + m) s = tkN m (tkN n s) := by
  induction n generalizing s with
  | zero => rw [Nat.zero_add]; rfl
  | succ n ih => rw [Nat.add_right_comm]; exact ih (tkB s)
theorem TG.start {us : List K10} {fs : List K3} {rm : List Int} (h : Gd us fs) (hl : rm.length = 4) (hr : ∀ x ∈ rm, 0 ≤ x ∧ x ≤ 1000000) : TG (ts0 us fs rm) :=
  ⟨h, hl, rfl, hr, fun x hx => by simp [ts0, z4] at hx; omega, fun k hk => by
    have e : (z4).getD k 0 = 0 := by rcases k with _ | _ | _ | _ | k <;> first | rfl | omega
    show rm.getD k 0 + (z4).getD k 0 ≤ _
    rw [e]
    have := (hr _ (getD_mem (l := rm) (k := k) (by omega))).2
    omega, Int.le_refl _, by have := h.n8; show 0 + 20 * (us.length : Int) ≤ 160; omega⟩
theorem tkL_take {s : TS} {ids : List Int} {k : Nat} {i : Int} (h : ids[k]? = some i) : tkL s (ids.take (k + 1)) = tkS (tkL s (ids.take k)) i := by
  rw [List.take_add_one, h]
  unfold tkL
  rw [List.foldl_append]; rfl
end Go.Proofs.YtlonmobfjpmokaaGreatDoor
end

/- OwnWalks -/
/- Contracts of OwnedBy and of its model. Condition: the board's two lists lie in memory as they were laid there. -/
section
namespace Go.Proofs.YtlonmobfjpmokaaGreatDoor
open Go.ChangeShapes Go.WideShapes Go.ChangeAt Go.RowKit
open Bd
set_option linter.unusedVariables false

/- the Ids of an owner's units -/
def idsOf (o : Int) : List K10 → List Int
  | [] => []
  | u :: l => if (u.c1 == o) = true then u.c0 :: idsOf o l else idsOf o l
theorem idsOf_le (o : Int) : ∀ l : List K10, (idsOf o l).length ≤ l.length
  | [] => Nat.le_refl _
  | u :: l => by
    unfold idsOf
    split
    · simp; exact idsOf_le o l
    · simp; exact Nat.le_succ_of_le (idsOf_le o l)
theorem idsOf_app (o : Int) (l l' : List K10) : idsOf o (l ++ l') = idsOf o l ++ idsOf o l' := by
  induction l with
  | nil => rfl
  | cons u l ih =>
    show (if (u.c1 == o) = true then u.c0 :: idsOf o (l ++ l') else idsOf o (l ++ l')) = (if (u.c1 == o) = true then u.c0 :: idsOf o l else idsOf o l) ++ idsOf o l'
    rw [ih]; split <;> rfl
theorem idsOf_take {l : List K10} {o : Int} {k : Nat} {u : K10} (h : l[k]? = some u) : idsOf o (l.take (k + 1)) = idsOf o (l.take k) ++ (if (u.c1 == o) = true then [u.c0] else []) := by
  rw [List.take_add_one, h, idsOf_app]
  rfl
def obL (us : List K10) (fs : List K3) (o : Int) : List Int := if (bf us fs == 0 && own o) = true then idsOf o us else []
theorem obL_le (us : List K10) (fs : List K3) (o : Int) : (obL us fs o).length ≤ 8 := by
  unfold obL
  split
  · rename_i h
    rw [Bool.and_eq_true] at h
    have h0 : bf us fs = 0 := by simpa using h.1
    have := (bf_ok h0).1
    have := idsOf_le o us
    omega
  · simp
/- a slice of numbers: its first numbers lie in a block of its own, made behind base -/
def SlI (w : World) (base : Nat) (v : Value) (l : List Int) : Prop := w.ownsRow base 2 1 v l.length (l.map (Value.int .i64))
theorem SlI.below {w w' : World} {base : Nat} {v : Value} {l : List Int} (h : SlI w base v l) (hb : Below w.heap.size w w') : SlI w' base v l := by
  rcases h with ⟨h1, h2⟩
  refine ⟨h1, ?_⟩
  rcases h2 with h2 | ⟨g, cap, cur, hv, hbb, hg, r⟩
  · exact .inl h2
  · exact .inr ⟨g, cap, cur, hv, hbb, (hb.block g (Array.getElem?_eq_some_iff.1 hg).1).trans hg, r⟩
theorem SlI.of {w : World} {base : Nat} {v : Value} {l : List Int} (h : w.ownsRow base 2 1 v l.length (l.map (Value.int .i64))) : SlI w base v l := h
theorem Hid.mk' {p : Prop} (h : p) : Hid p := h
theorem SlI.nil (w : World) (base : Nat) : SlI w base (.slice none 0 0) [] := ⟨rfl, .inl ⟨rfl, rfl⟩⟩
theorem SlI.mono {w : World} {base base' : Nat} {v : Value} {l : List Int} (h : SlI w base v l) (hb : base' ≤ base) : SlI w base' v l := by
  rcases h with ⟨h1, h2⟩
  refine ⟨h1, ?_⟩
  rcases h2 with h2 | ⟨g, cap, cur, hv, hbb, r⟩
  · exact .inl h2
  · exact .inr ⟨g, cap, cur, hv, Nat.le_trans hb hbb, r⟩
theorem SlI.form {w : World} {base : Nat} {v : Value} {l : List Int} (h : SlI w base v l) : ∃ a cap, v = .slice a l.length cap := by
  rcases h.2 with ⟨h1, h2⟩ | ⟨g, cap, cur, hv, _⟩
  · exact ⟨none, 0, by rw [h1, h2]⟩
  · exact ⟨_, cap, hv⟩
theorem SlI.set {w : World} {base : Nat} {v : Value} {l : List Int} (h : SlI w base v l) {b o : Nat} (hb : b < base) (x : Value) : SlI (w.setCell ⟨b, o, none⟩ x) base v l := by
  rcases h with ⟨h1, h2⟩
  refine ⟨h1, ?_⟩
  rcases h2 with h2 | ⟨g, cap, cur, hv, hbb, hg, r⟩
  · exact .inl h2
  · exact .inr ⟨g, cap, cur, hv, hbb, (Below.heap_setCell _ ⟨b, o, none⟩ x g (by show g ≠ b; omega)).trans hg, r⟩
end Go.Proofs.YtlonmobfjpmokaaGreatDoor
end
