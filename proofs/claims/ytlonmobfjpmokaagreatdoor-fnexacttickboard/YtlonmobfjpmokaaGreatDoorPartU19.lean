/- Texts of mine put together (a claim holds at most 60 files): ExactB1, SumWalks2, ExactB2, PutSpec3. -/
import Derived.Test.YtlonmobfjpmokaaGreatDoorPartU05
import Derived.Test.YtlonmobfjpmokaaGreatDoorPartU14
import Derived.Deep.RegionWith
import Derived.Test.YtlonmobfjpmokaaGreatDoorPartU18

/- ExactB1 -/
/- The walks of the exact laws of UnitFault and BoardFault. No condition. -/
section
namespace Go.Proofs.YtlonmobfjpmokaaGreatDoor
open Go.ChangeShapes Go.WideShapes Go.ChangeAt Go.RowKit
open Bd
set_option linter.unusedVariables false

theorem bel_drew {w w' : World} (k : Below w.drew.heap.size w.drew w') : Below w.heap.size w w' := (Below.refl w.heap.size w).drew.trans k
end Go.Proofs.YtlonmobfjpmokaaGreatDoor
end

/- SumWalks2 -/
/- Contracts of CarriedBy and of its model. Condition: the board's two lists lie in memory as they were laid there. -/
section
namespace Go.Proofs.YtlonmobfjpmokaaGreatDoor
open Go.ChangeShapes Go.WideShapes Go.ChangeAt Go.RowKit
open Bd
set_option linter.unusedVariables false

theorem owC_cases (us : List K10) (fs : List K3) (o : Int) : ((bf us fs == 0) = false ∧ owC us fs o = bf us fs) ∨ (bf us fs = 0 ∧ own o = false ∧ owC us fs o = 3) ∨ (bf us fs = 0 ∧ own o = true ∧ owC us fs o = 0) := by
  unfold owC
  cases h : bf us fs == 0
  · exact .inl ⟨rfl, rfl⟩
  · have h0 : bf us fs = 0 := by simpa using h
    cases h2 : own o
    · exact .inr (.inl ⟨h0, rfl, rfl⟩)
    · exact .inr (.inr ⟨h0, rfl, rfl⟩)
end Go.Proofs.YtlonmobfjpmokaaGreatDoor
end

/- ExactB2 -/
/- The walks of the exact laws of LeftIn and CarriedBy. No condition. -/
section
namespace Go.Proofs.YtlonmobfjpmokaaGreatDoor
open Go.ChangeShapes Go.WideShapes Go.ChangeAt Go.RowKit
open Bd
set_option linter.unusedVariables false

theorem rowAll (w : World) (cs : Array Value) (t : TypeId) : (w.alloc (.cells cs t)).rowIs w.heap.size t cs.size (fun i => cs[i]!) := by
  refine ⟨cs, ?_, rfl, fun i hi => ?_⟩
  · show (w.heap.push _)[w.heap.size]? = _
    simp
  · show cs[i]? = some cs[i]!
    rw [getElem!_pos cs i hi]; exact Array.getElem?_eq_getElem hi
end Go.Proofs.YtlonmobfjpmokaaGreatDoor
end

/- PutSpec3 -/
/- The contract of the model of PutUnit. Condition: the board's lists lie in memory as they were laid there. -/
section
namespace Go.Proofs.YtlonmobfjpmokaaGreatDoor
open Go.ChangeShapes Go.WideShapes Go.ChangeAt Go.RowKit
open Bd
set_option linter.unusedVariables false

def puC (us : List K10) (fs : List K3) (u : K10) : Int := if (bf us fs == 0) = true then (if (uf u == 0) = true then (if 8 < (putU u us).length then 7 else 0) else uf u) else bf us fs
def puB (us : List K10) (fs : List K3) (u : K10) : Bool := bf us fs == 0 && (uf u == 0 && decide ((putU u us).length ≤ 8))
def puU (us : List K10) (fs : List K3) (u : K10) : List K10 := if puB us fs u = true then putU u us else []
def puF (us : List K10) (fs : List K3) (u : K10) : List K3 := if puB us fs u = true then fs else []
theorem pu_cases (us : List K10) (fs : List K3) (u : K10) :
    ((bf us fs == 0) = false ∧ puC us fs u = bf us fs ∧ puU us fs u = [] ∧ puF us fs u = []) ∨
    (bf us fs = 0 ∧ (uf u == 0) = false ∧ puC us fs u = uf u ∧ puU us fs u = [] ∧ puF us fs u = []) ∨
    (bf us fs = 0 ∧ uf u = 0 ∧ 8 < (putU u us).length ∧ puC us fs u = 7 ∧ puU us fs u = [] ∧ puF us fs u = []) ∨
    (bf us fs = 0 ∧ uf u = 0 ∧ (putU u us).length ≤ 8 ∧ puC us fs u = 0 ∧ puU us fs u = putU u us ∧ puF us fs u = fs) := by
  unfold puU puF puC puB
  cases h1 : bf us fs == 0
  · exact .inl ⟨rfl, rfl, rfl, rfl⟩
  · have e1 : bf us fs = 0 := by simpa using h1
    cases h2 : uf u == 0
    · exact .inr (.inl ⟨e1, rfl, rfl, rfl, rfl⟩)
    · have e2 : uf u = 0 := by simpa using h2
      by_cases h3 : 8 < (putU u us).length
      · exact .inr (.inr (.inl ⟨e1, e2, h3, by rw [if_pos rfl, if_pos rfl, if_pos h3], by rw [decide_eq_false (by omega)]; rfl, by rw [decide_eq_false (by omega)]; rfl⟩))
      · exact .inr (.inr (.inr ⟨e1, e2, by omega, by rw [if_pos rfl, if_pos rfl, if_neg h3], by rw [decide_eq_true (by omega)]; rfl, by rw [decide_eq_true (by omega)]; rfl⟩))
theorem SlU.nil (w : World) (base : Nat) : SlU w base (.slice none 0 0) [] := ⟨rfl, .inl ⟨rfl, rfl⟩⟩
theorem SlF.nil (w : World) (base : Nat) : SlF w base (.slice none 0 0) [] := ⟨rfl, .inl ⟨rfl, rfl⟩⟩
abbrev res3 (C : Int) (s f : Value) : Array Value := #[.int .i64 C, s, f]
theorem three_put (w : World) (s f : Value) (u : K10) (t t2 t3 : TypeId) : let W := ((w.alloc (.cells #[s, f] t)).alloc (.cells u.v t2)).alloc (.cells (res3 0 (.slice none 0 0) (.slice none 0 0)) t3)
    W.rowIs w.heap.size t 2 (fun i => if i = 0 then s else f) ∧ U1 W (w.heap.size + 1) 0 u ∧ W.rowIs (w.heap.size + 1 + 1) t3 3 (fun i => (res3 0 (.slice none 0 0) (.slice none 0 0))[i]!) ∧ Below w.heap.size w W ∧ W.heap.size = w.heap.size + 1 + 1 + 1 := by
  intro W
  have s1 : (w.alloc (.cells #[s, f] t)).heap.size = w.heap.size + 1 := size_new _ _
  have s2 : ((w.alloc (.cells #[s, f] t)).alloc (.cells u.v t2)).heap.size = w.heap.size + 1 + 1 := by rw [size_new, s1]
  have s3 : W.heap.size = w.heap.size + 1 + 1 + 1 := by show (World.alloc _ _).heap.size = _; rw [size_new, s2]
  have b1 : Below (w.alloc (.cells #[s, f] t)).heap.size (w.alloc (.cells #[s, f] t)) W := ((Below.refl _ _).alloc (Nat.le_refl _) _).alloc (by rw [s2, s1]; omega) _
  have b2 : Below ((w.alloc (.cells #[s, f] t)).alloc (.cells u.v t2)).heap.size ((w.alloc (.cells #[s, f] t)).alloc (.cells u.v t2)) W := (Below.refl _ _).alloc (Nat.le_refl _) _
  have r0 := rowTwo w s f t
  have r1 := U1.new (w.alloc (.cells #[s, f] t)) u t2
  have r2 := rowAll ((w.alloc (.cells #[s, f] t)).alloc (.cells u.v t2)) (res3 0 (.slice none 0 0) (.slice none 0 0)) t3
  rw [s1] at r1
  rw [s2] at r2
  exact ⟨r0.of_block (b1.block _ r0.lt), r1.later b2, r2, (((Below.refl _ _).alloc (Nat.le_refl _) _).alloc (by rw [s1]; omega) _).alloc (by rw [s2]; omega) _, s3⟩
end Go.Proofs.YtlonmobfjpmokaaGreatDoor
end
