/- Texts of mine put together (a claim holds at most 60 files): PutImpl, PutImpl2, BrdPlain0, BrdPlain, GfGive, Shares. -/
import Derived.Test.YtlfnnobkgbfdgaaGreatPartH28
import Derived.Maps.OwnSet
import Derived.Test.YtlfnnobkgbfdgaaGreatPartH14
import Derived.Test.YtlfnnobkgbfdgaaGreatPartH10
import Derived.Test.YtlfnnobkgbfdgaaGreatPartH13
import Derived.Test.YtlfnnobkgbfdgaaGreatPartH25

/- PutImpl -/
/- Contracts of the program's parts of PutUnit: the map's rows as rising units, a copy of the fields. Condition: the map is the call's own. -/
section
namespace Go.Proofs.YtlfnnobkgbfdgaaGreat
open Go.ChangeShapes Go.WideShapes Go.ChangeAt Go.RowKit
open Bd
set_option linter.unusedVariables false

theorem MapAt.size {w : World} {b : Nat} {l : List K10} (h : MapAt w b l) : ∃ es clock, w.heap[b]? = some (.map es clock) ∧ es.size = l.length := by
  obtain ⟨es, clock, hb, F, hs, hD⟩ := h
  refine ⟨es, clock, hb, ?_⟩
  have := congrArg (fun d => match d with | DataW.map x => x.length | _ => 0) hD
  simp only at this
  rw [List.length_map, length_sorted] at this
  simpa using this.symm
end Go.Proofs.YtlfnnobkgbfdgaaGreat
end

/- PutImpl2 -/
/- The contract of the program's PutUnit. Condition: the board's lists lie in memory as they were laid there. -/
section
namespace Go.Proofs.YtlfnnobkgbfdgaaGreat
open Go.ChangeShapes Go.WideShapes Go.ChangeAt Go.RowKit
open Bd
set_option linter.unusedVariables false

end Go.Proofs.YtlfnnobkgbfdgaaGreat
end

/- BrdPlain0 -/
/- Plain facts: a board whose parts are right has no fault. No condition. -/
section
namespace Go.Proofs.YtlfnnobkgbfdgaaGreat
open Bd
set_option linter.unusedVariables false

theorem ffs_mk : ∀ {l : List K3}, (∀ f ∈ l, ff f = true) → ffs l = 0
  | [], _ => rfl
  | f :: l, h => by
    unfold ffs
    rw [if_neg (by rw [h f (by simp)]; simp)]
    exact ffs_mk (fun x hx => h x (List.mem_cons_of_mem _ hx))
theorem ufs_mk {F : Int} (hF : F = 0) : ∀ {l : List K10} {p : Option Int}, (∀ u ∈ l, uf u = 0) → (∀ q, p = some q → ∀ u ∈ l, q < u.c0) → Rise l → ufs p F l = 0
  | [], _, _, _, _ => hF
  | a :: l, p, h, hp, hr => by
    unfold ufs
    rw [if_neg (by rw [h a (by simp)]; simp)]
    have hl : leP p a.c0 = false := by
      cases p with
      | none => rfl
      | some q => have := hp q rfl a (by simp); simp [leP]; omega
    rw [if_neg (by rw [hl]; simp)]
    have hr' := List.pairwise_cons.1 hr
    exact ufs_mk hF (fun x hx => h x (List.mem_cons_of_mem _ hx)) (fun q hq u hu => by cases hq; exact hr'.1 u hu) hr'.2
theorem bf_mk {us : List K10} {fs : List K3} (h1 : us.length ≤ 8) (h2 : fs.length ≤ 4) (h3 : ∀ u ∈ us, uf u = 0) (h4 : ∀ f ∈ fs, ff f = true) (h5 : Rise us) : bf us fs = 0 := by
  unfold bf
  rw [if_neg (by omega)]
  exact ufs_mk (ffs_mk h4) h3 (fun q hq => by cases hq) h5
end Go.Proofs.YtlfnnobkgbfdgaaGreat
end

/- BrdPlain -/
/- Plain facts: a unit that was put is there, all others are as they were, and the board has no fault. No condition. -/
section
namespace Go.Proofs.YtlfnnobkgbfdgaaGreat
open Bd
set_option linter.unusedVariables false

end Go.Proofs.YtlfnnobkgbfdgaaGreat
end

/- GfGive -/
/- Plain facts of gifts: a unit that is given away, the board and the world behind it, what there is together, whose the units are. No condition. -/
section
namespace Go.Proofs.YtlfnnobkgbfdgaaGreat
open Bd
set_option linter.unusedVariables false

/- a unit handed to another owner: it has no job any more -/
def handed (u : K10) (o : Int) : K10 := ⟨u.c0, o, u.c2, u.c3, u.c4, u.c5, 0, 0, 0, 0⟩
def givC (h : Int → Int → Bool) (x : KW) (a i b : Int) : Int := if (prF h x a b == 0) = false then prF h x a b else match findU x.us i with | none => 4 | some u => if (u.c1 == a) = true then 0 else 9
def givU (x : KW) (i b : Int) : List K10 := match findU x.us i with | none => x.us | some u => putU (handed u b) x.us
def givX (h : Int → Int → Bool) (x : KW) (a i b : Int) : KW := if (givC h x a i b == 0) = true then ⟨x.t, x.s, givU x i b, x.fs, x.fa, x.se, x.oo⟩ else kz
def crU : List K10 → Int
  | [] => 0
  | u :: l => u.c5 + crU l
/- what there is together -/
def totF (x : KW) : Int := x.s + crU x.us + sumF x.fs + purS x.fa
theorem GU.handed {u : K10} (g : GU u) {b : Int} (h : (0 ≤ b ∧ b ≤ 3) ∨ b = 9) : GU (handed u b) := ⟨g.i0, g.i1, h, g.x0, g.x1, g.y0, g.y1, g.l0, g.l1, g.c0, g.c1, .inl ⟨rfl, rfl, rfl, rfl⟩⟩
theorem Gd.bf {us : List K10} {fs : List K3} (g : Gd us fs) : bf us fs = 0 := bf_mk g.n8 g.n4 g.u g.f g.r
structure GivG (h : Int → Int → Bool) (x : KW) (a i b : Int) : Prop where
  at' : ∃ k u, x.us[k]? = some u ∧ u.c0 = i ∧ u.c1 = a ∧ (givX h x a i b).us = x.us.set k (handed u b)
  fnd : ∃ u, findU (givX h x a i b).us i = some (handed u b)
  wf0 : wf h (givX h x a i b) = 0
  tot : totF (givX h x a i b) = totF x
  ids : (idsOf b (givX h x a i b).us).length = (idsOf b x.us).length + 1
  bx : Bd.bf x.us x.fs = 0
  bg : Bd.bf (givX h x a i b).us x.fs = 0
  ob : own b = true
  len : (givX h x a i b).us.length = x.us.length
  oth : ∀ (j : Nat) (y : K10), x.us[j]? = some y → y.c0 ≠ i → (givX h x a i b).us[j]? = some y
end Go.Proofs.YtlfnnobkgbfdgaaGreat
end

/- Shares -/
section
/- Plain arithmetic: the shares of a number, as a list. No condition. -/
namespace Go.Proofs.YtlfnnobkgbfdgaaGreat.Nums
set_option linter.unusedVariables false

def shAt (n : Int) (p : Nat) (i : Nat) : Int := if (i : Int) < n % (p : Int) then n / (p : Int) + 1 else n / (p : Int)
def shTo (n : Int) (p : Nat) (k : Nat) : List Int := (List.range k).map (shAt n p)
theorem shTo_len (n : Int) (p k : Nat) : (shTo n p k).length = k := by simp [shTo]
theorem shTo_succ (n : Int) (p k : Nat) : shTo n p (k + 1) = shTo n p k ++ [shAt n p k] := by simp [shTo, List.range_succ]
theorem shTo_get (n : Int) (p k i : Nat) (h : i < k) : (shTo n p k)[i]? = some (shAt n p i) := by simp [shTo, h]
theorem shAt_lo (n : Int) (p i : Nat) (h : (i : Int) < n % (p : Int)) : shAt n p i = n / (p : Int) + 1 := by unfold shAt; rw [if_pos h]
theorem shAt_hi (n : Int) (p i : Nat) (h : ¬ (i : Int) < n % (p : Int)) : shAt n p i = n / (p : Int) := by unfold shAt; rw [if_neg h]
def sumTo (n : Int) (p : Nat) : Nat → Int
  | 0 => 0
  | k + 1 => sumTo n p k + shAt n p k
/- k shares are k times the quotient, and one more for each of the first ones -/
theorem sumTo_eq (n : Int) (p : Nat) (h0 : 0 ≤ n % (p : Int)) : ∀ k : Nat, sumTo n p k = k * (n / (p : Int)) + (if (k : Int) < n % (p : Int) then (k : Int) else n % (p : Int)) := by
  intro k
  induction k with
  | zero => simp [sumTo]; omega
  | succ k ih =>
    have e : (((k + 1 : Nat) : Int)) * (n / (p : Int)) = (k : Int) * (n / (p : Int)) + n / (p : Int) := by
      have : ((k + 1 : Nat) : Int) = (k : Int) + 1 := by omega
      rw [this, Int.add_mul, Int.one_mul]
    unfold sumTo shAt
    rw [ih, e]
    generalize (k : Int) * (n / (p : Int)) = A
    generalize n / (p : Int) = q
    generalize n % (p : Int) = r at *
    split <;> split <;> omega
theorem sumTo_all (n : Int) (p : Nat) (hp : 1 ≤ p) (hn : 0 ≤ n) : sumTo n p p = n := by
  have h0 := Int.emod_nonneg n (b := (p : Int)) (by omega)
  have h1 := Int.emod_lt_of_pos n (b := (p : Int)) (by omega)
  rw [sumTo_eq n p h0, if_neg (by omega)]
  have := Int.mul_ediv_add_emod n (p : Int)
  omega
theorem shAt_bd (n : Int) (p i : Nat) (hp : 1 ≤ p) (hn : 0 ≤ n) (hn2 : n ≤ 1000000) : 0 ≤ shAt n p i ∧ shAt n p i ≤ 1000001 := by
  have a := Int.ediv_nonneg (a := n) (b := (p : Int)) hn (by omega)
  have b := Int.ediv_le_self (a := n) (p : Int) hn
  unfold shAt
  split <;> omega
end Go.Proofs.YtlfnnobkgbfdgaaGreat.Nums
end
