/- Plain functions of chapter 6 (worlds): the faults of factions, seats, offers and owners; h m b: has the mask m the bit b. No condition. -/
import Derived.Test.YtibkdkjcncfmgaaBrd
import Derived.Test.YtibkdkjcncfmgaaWorldRows
import Derived.Test.YtibkdkjcncfmgaaRightWalks
namespace Go.Proofs.Ytibkdkjcncfmgaa
open Bd
set_option linter.unusedVariables false

/- each ally of side i (whose mask is m) is another one that has it, too; from side k on -/
def alB (h : Int → Int → Bool) (m i : Int) : Int → List KA → Bool
  | _, [] => true
  | k, g :: l => (!(h m k) || (!(k == i) && h g.c2 i)) && alB h m i (k + 1) l
/- the model's: each ally has it, too -/
def alS (h : Int → Int → Bool) (m i : Int) : Int → List KA → Bool
  | _, [] => true
  | k, g :: l => (!(h m k) || h g.c2 i) && alS h m i (k + 1) l
def faR (f : KA) : Bool := inb f.c0 0 1000000 && inb f.c2 0 15
def faG (f : KA) : Bool := f.c1 && (f.c2 != 0)
def faC (h : Int → Int → Bool) (fa : List KA) (i : Int) (f : KA) : Int := if faR f = false then 3 else if faG f = true then 1 else if alB h f.c2 i 0 fa = false then 1 else 0
def faF (h : Int → Int → Bool) (fa : List KA) : Int → List KA → Int
  | _, [] => 0
  | i, f :: l => if (faC h fa i f == 0) = false then faC h fa i f else faF h fa (i + 1) l
theorem alB_step {h : Int → Int → Bool} {m i : Int} {fa : List KA} {k : Nat} {g : KA} (hk : fa[k]? = some g) : alB h m i k (fa.drop k) = ((!(h m k) || (!((k : Int) == i) && h g.c2 i)) && alB h m i ((k + 1 : Nat) : Int) (fa.drop (k + 1))) := by
  have h' := List.getElem?_eq_some_iff.1 hk
  rw [List.drop_eq_getElem_cons h'.1, h'.2]
  show _ = _
  rw [show ((k + 1 : Nat) : Int) = (k : Int) + 1 from by omega]
  rfl
theorem alS_step {h : Int → Int → Bool} {m i : Int} {fa : List KA} {k : Nat} {g : KA} (hk : fa[k]? = some g) : alS h m i k (fa.drop k) = ((!(h m k) || h g.c2 i) && alS h m i ((k + 1 : Nat) : Int) (fa.drop (k + 1))) := by
  have h' := List.getElem?_eq_some_iff.1 hk
  rw [List.drop_eq_getElem_cons h'.1, h'.2]
  show _ = _
  rw [show ((k + 1 : Nat) : Int) = (k : Int) + 1 from by omega]
  rfl
theorem faF_step {h : Int → Int → Bool} {fa : List KA} {k : Nat} {f : KA} (hk : fa[k]? = some f) : faF h fa k (fa.drop k) = if (faC h fa k f == 0) = false then faC h fa k f else faF h fa ((k + 1 : Nat) : Int) (fa.drop (k + 1)) := by
  have h' := List.getElem?_eq_some_iff.1 hk
  rw [List.drop_eq_getElem_cons h'.1, h'.2, show ((k + 1 : Nat) : Int) = (k : Int) + 1 from by omega]
  rfl
/- four factions: the model's two questions are the program's one -/
theorem alB_four (h : Int → Int → Bool) (m : Int) (a b c d : KA) (i : Nat) (hi : i < 4) : alB h m i 0 [a, b, c, d] = (!(h m i) && alS h m i 0 [a, b, c, d]) := by
  have h4 : i = 0 ∨ i = 1 ∨ i = 2 ∨ i = 3 := by omega
  have e1 : ((0 : Nat) : Int) = 0 := rfl
  have e2 : ((1 : Nat) : Int) = 1 := rfl
  have e3 : ((2 : Nat) : Int) = 2 := rfl
  have e4 : ((3 : Nat) : Int) = 3 := rfl
  have e5 : (0 : Int) + 1 = 1 := rfl
  have e6 : (1 : Int) + 1 = 2 := rfl
  have e7 : (2 : Int) + 1 = 3 := rfl
  rcases h4 with rfl | rfl | rfl | rfl
  all_goals
    simp only [alB, alS, e1, e2, e3, e4, e5, e6, e7]
    generalize h m 0 = p0
    generalize h m 1 = p1
    generalize h m 2 = p2
    generalize h m 3 = p3
    cases p0 <;> cases p1 <;> cases p2 <;> cases p3 <;> simp
/- a seat -/
def goneA (fa : List KA) (i : Int) : Bool := (fa.getD i.toNat KA.z).c1
def allyA (fa : List KA) (i : Int) : Int := (fa.getD i.toNat KA.z).c2
def seR (s : K4) : Bool := inb s.c0 0 5 && (inb s.c1 0 3 && (inb s.c2 0 2047 && inb s.c3 0 999))
def seF (fa : List KA) : Option Int → List K4 → Int
  | _, [] => 0
  | p, s :: l => if seR s = false then 3 else if leP p s.c0 = true then 1 else if goneA fa s.c1 = true then 1 else seF fa (some s.c0) l
def prevC (l : List K4) (k : Nat) : Option Int := if k = 0 then none else (l[k - 1]?).map K4.c0
theorem prevC_next {l : List K4} {k : Nat} {u : K4} (h : l[k]? = some u) : prevC l (k + 1) = some u.c0 := by
  unfold prevC
  rw [if_neg (by omega), Nat.add_sub_cancel, h]; rfl
theorem seF_step {fa : List KA} {l : List K4} {k : Nat} {s : K4} {p : Option Int} (h : l[k]? = some s) : seF fa p (l.drop k) = if seR s = false then 3 else if leP p s.c0 = true then 1 else if goneA fa s.c1 = true then 1 else seF fa (some s.c0) (l.drop (k + 1)) := by
  have h' := List.getElem?_eq_some_iff.1 h
  rw [List.drop_eq_getElem_cons h'.1, h'.2]; rfl
/- an offer; q: those ahead -/
def memO (q : List K2) (x : K2) : Bool := q.any (fun y => y.b x)
def ofR (x : K2) : Bool := inb x.c0 0 3 && inb x.c1 0 3
def ofB (h : Int → Int → Bool) (fa : List KA) (q : List K2) (x : K2) : Bool := (x.c0 == x.c1) || (h (allyA fa x.c0) x.c1 || (goneA fa x.c0 || (goneA fa x.c1 || memO q x)))
def ofF (h : Int → Int → Bool) (fa : List KA) : List K2 → List K2 → Int
  | _, [] => 0
  | q, x :: l => if ofR x = false then 3 else if ofB h fa q x = true then 1 else ofF h fa (q ++ [x]) l
theorem ofF_step {h : Int → Int → Bool} {fa : List KA} {l : List K2} {k : Nat} {x : K2} (hk : l[k]? = some x) : ofF h fa (l.take k) (l.drop k) = if ofR x = false then 3 else if ofB h fa (l.take k) x = true then 1 else ofF h fa (l.take (k + 1)) (l.drop (k + 1)) := by
  have h' := List.getElem?_eq_some_iff.1 hk
  rw [List.drop_eq_getElem_cons h'.1, h'.2, List.take_add_one, hk]; rfl
/- the owners of units -/
def owF (fa : List KA) : List K10 → Int
  | [] => 0
  | u :: l => if ((u.c1 != 9) && goneA fa u.c1) = true then 1 else owF fa l
theorem owF_step {fa : List KA} {l : List K10} {k : Nat} {u : K10} (h : l[k]? = some u) : owF fa (l.drop k) = if ((u.c1 != 9) && goneA fa u.c1) = true then 1 else owF fa (l.drop (k + 1)) := by
  have h' := List.getElem?_eq_some_iff.1 h
  rw [List.drop_eq_getElem_cons h'.1, h'.2]; rfl
/- WorldFault -/
def or4 (a b c d : Int) : Int := if (a == 0) = false then a else if (b == 0) = false then b else if (c == 0) = false then c else d
def wf (h : Int → Int → Bool) (x : KW) : Int :=
  if (inb x.t 0 9999 && inb x.s 0 100000000) = false then 3 else if (bf x.us x.fs == 0) = false then bf x.us x.fs else
  if x.fa.length ≠ 4 ∨ 6 < x.se.length ∨ 6 < x.oo.length then 2 else or4 (faF h x.fa 0 x.fa) (seF x.fa none x.se) (ofF h x.fa [] x.oo) (owF x.fa x.us)
/- the two bits are the same where a mask is in its bounds -/
theorem has_same {m : Int} (h : inb m 0 15 = true) (b : Int) : hasI m b = hasS m b := has_eq m b (inb_i h).1 (by have := (inb_i h).2; omega)
end Go.Proofs.Ytibkdkjcncfmgaa
