/- Texts of mine put together (a claim holds at most 60 files): PutSpec. -/
import Derived.Test.YtlonmobfjpmokaaGreatDoorPartU13
import Derived.Test.YtlonmobfjpmokaaGreatDoorPartU15
import Derived.Deep.RegionHeld3
import Derived.Deep.Cut
import Derived.Deep.CutRange
import Derived.Outline
import Derived.Test.YtlonmobfjpmokaaGreatDoorPartU10

/- PutSpec -/
/- Contracts of the model of PutUnit's parts. Condition: the board's lists rise and lie in memory as they were laid there. -/
section
namespace Go.Proofs.YtlonmobfjpmokaaGreatDoor
open Go.ChangeShapes Go.WideShapes Go.ChangeAt Go.RowKit
open Bd
set_option linter.unusedVariables false

theorem putU_lt {u x : K10} {l : List K10} (h : ∀ y ∈ l, y.c0 < u.c0) (hx : u.c0 < x.c0) : putU u (l ++ [x]) = l ++ [u] ++ [x] := by
  induction l with
  | nil => show (if u.c0 < x.c0 then _ else _) = _; rw [if_pos hx]; rfl
  | cons y l ih =>
    have h1 := h y (by simp)
    show (if u.c0 < y.c0 then _ else if u.c0 = y.c0 then _ else y :: putU u (l ++ [x])) = _
    rw [if_neg (by omega), if_neg (by omega), ih (fun z hz => h z (by simp [hz]))]; rfl
theorem putU_eq {u x : K10} {l : List K10} (h : ∀ y ∈ l, y.c0 < u.c0) (hx : u.c0 = x.c0) : putU u (l ++ [x]) = l ++ [u] := by
  induction l with
  | nil => show (if u.c0 < x.c0 then _ else if u.c0 = x.c0 then _ else _) = _; rw [if_neg (by omega), if_pos hx]; rfl
  | cons y l ih =>
    have h1 := h y (by simp)
    show (if u.c0 < y.c0 then _ else if u.c0 = y.c0 then _ else y :: putU u (l ++ [x])) = _
    rw [if_neg (by omega), if_neg (by omega), ih (fun z hz => h z (by simp [hz]))]; rfl
theorem putU_snoc {u x : K10} {l : List K10} (h : ∃ y ∈ l, u.c0 ≤ y.c0) : putU u (l ++ [x]) = putU u l ++ [x] := by
  induction l with
  | nil => obtain ⟨y, hy, _⟩ := h; cases hy
  | cons y l ih =>
    show (if u.c0 < y.c0 then u :: y :: (l ++ [x]) else if u.c0 = y.c0 then u :: (l ++ [x]) else y :: putU u (l ++ [x])) = (if u.c0 < y.c0 then u :: y :: l else if u.c0 = y.c0 then u :: l else y :: putU u l) ++ [x]
    by_cases h1 : u.c0 < y.c0
    · rw [if_pos h1, if_pos h1]; rfl
    rw [if_neg h1, if_neg h1]
    by_cases h2 : u.c0 = y.c0
    · rw [if_pos h2, if_pos h2]; rfl
    rw [if_neg h2, if_neg h2, ih]
    · rfl
    · obtain ⟨z, hz, hle⟩ := h
      rcases List.mem_cons.1 hz with rfl | hz
      · omega
      · exact ⟨z, hz, hle⟩
theorem SlU.mono {w : World} {base base' : Nat} {v : Value} {l : List K10} (h : SlU w base v l) (hb : base' ≤ base) : SlU w base' v l := by
  rcases h with ⟨h1, h2⟩
  refine ⟨h1, ?_⟩
  rcases h2 with h2 | ⟨g, cap, cur, hv, hbb, r⟩
  · exact .inl h2
  · exact .inr ⟨g, cap, cur, hv, Nat.le_trans hb hbb, r⟩
theorem SlF.mono {w : World} {base base' : Nat} {v : Value} {l : List K3} (h : SlF w base v l) (hb : base' ≤ base) : SlF w base' v l := by
  rcases h with ⟨h1, h2⟩
  refine ⟨h1, ?_⟩
  rcases h2 with h2 | ⟨g, cap, cur, hv, hbb, r⟩
  · exact .inl h2
  · exact .inr ⟨g, cap, cur, hv, Nat.le_trans hb hbb, r⟩
/- what is out behind k units: d: u is among them -/
def lp (u : K10) (us : List K10) (d : Bool) (k : Nat) : List K10 := if d = true then putU u (us.take k) else us.take k
def lc (u : K10) (us : List K10) (d : Bool) (k : Nat) : Prop := (d = false ∧ ∀ x ∈ us.take k, x.c0 < u.c0) ∨ (d = true ∧ ∃ x ∈ us.take k, u.c0 ≤ x.c0)
theorem putU_len (u : K10) : ∀ l : List K10, (putU u l).length ≤ l.length + 1
  | [] => by simp [putU]
  | x :: l => by
    unfold putU
    split
    · simp
    · split
      · simp
      · have := putU_len u l; simp; exact this
theorem take_next {us : List K10} {k : Nat} {x : K10} (h : us[k]? = some x) : us.take (k + 1) = us.take k ++ [x] := by rw [List.take_add_one, h]; rfl
theorem mem_next {us : List K10} {k : Nat} {x : K10} (h : us[k]? = some x) : x ∈ us.take (k + 1) := by rw [take_next h]; simp
theorem lp_len (u : K10) (us : List K10) (d : Bool) (k : Nat) (h : us.length ≤ 8) : (lp u us d k).length ≤ 9 := by
  unfold lp
  split
  · have := putU_len u (us.take k); rw [List.length_take] at this; omega
  · rw [List.length_take]; omega
end Go.Proofs.YtlonmobfjpmokaaGreatDoor
end
