/- Texts of mine put together (a claim holds at most 60 files): OwnWalks, MapKeys, ExactB1, ExactB2, PutSpec3, OneWalks2, IntLists, Marks, OwnLaw, PutImpl, PutImpl2, BrdPlain0, BrdPlain, GdBf, GfGive, Shares, GfLeave. -/
import Derived.Test.YtmfdggaijbcijaaGreatPartQ43
import Derived.Test.YtmfdggaijbcijaaGreatPartQ07
import Derived.Test.YtmfdggaijbcijaaGreatPartQ00
import Derived.Deep.RegionWith
import Derived.Test.YtmfdggaijbcijaaGreatPartQ08
import Derived.Deep.QuietTactic
import Derived.BigQuiet
import Derived.Deep.Cut
import Derived.Deep.CutRange
import Derived.Maps.OwnSet
import Derived.Test.YtmfdggaijbcijaaGreatPartQ25
import Derived.Test.YtmfdggaijbcijaaGreatPartQ27
import Derived.Test.YtmfdggaijbcijaaGreatPartQ30

/- OwnWalks -/
/- Contracts of OwnedBy and of its model. Condition: the board's two lists lie in memory as they were laid there. -/
section
namespace Go.Proofs.YtmfdggaijbcijaaGreat
open Go.ChangeShapes Go.WideShapes Go.ChangeAt Go.RowKit
open Bd
set_option linter.unusedVariables false

/- the Ids of an owner's units -/
def idsOf (o : Int) : List K10 → List Int
  | [] => []
  | u :: l => if (u.c1 == o) = true then u.c0 :: idsOf o l else idsOf o l
def obL (us : List K10) (fs : List K3) (o : Int) : List Int := if (bf us fs == 0 && own o) = true then idsOf o us else []
/- a slice of numbers: its first numbers lie in a block of its own, made behind base -/
def SlI (w : World) (base : Nat) (v : Value) (l : List Int) : Prop := w.ownsRow base 2 1 v l.length (l.map (Value.int .i64))
theorem SlI.below {w w' : World} {base : Nat} {v : Value} {l : List Int} (h : SlI w base v l) (hb : Below w.heap.size w w') : SlI w' base v l := by
  rcases h with ⟨h1, h2⟩
  refine ⟨h1, ?_⟩
  rcases h2 with h2 | ⟨g, cap, cur, hv, hbb, hg, r⟩
  · exact .inl h2
  · exact .inr ⟨g, cap, cur, hv, hbb, (hb.block g (Array.getElem?_eq_some_iff.1 hg).1).trans hg, r⟩
theorem SlI.of {w : World} {base : Nat} {v : Value} {l : List Int} (h : w.ownsRow base 2 1 v l.length (l.map (Value.int .i64))) : SlI w base v l := h
theorem SlI.nil (w : World) (base : Nat) : SlI w base (.slice none 0 0) [] := ⟨rfl, .inl ⟨rfl, rfl⟩⟩
theorem SlI.mono {w : World} {base base' : Nat} {v : Value} {l : List Int} (h : SlI w base v l) (hb : base' ≤ base) : SlI w base' v l := by
  rcases h with ⟨h1, h2⟩
  refine ⟨h1, ?_⟩
  rcases h2 with h2 | ⟨g, cap, cur, hv, hbb, r⟩
  · exact .inl h2
  · exact .inr ⟨g, cap, cur, hv, Nat.le_trans hb hbb, r⟩
theorem SlI.form {w : World} {base : Nat} {v : Value} {l : List Int} (h : SlI w base v l) : ∃ a cap, v = .slice a l.length cap := by
  rcases h.2 with ⟨h1, h2⟩ | ⟨g, cap, cur, hv, _⟩
  · exact ⟨none, 0, by rw [h1, h2]⟩
  · exact ⟨_, cap, hv⟩
theorem SlI.set {w : World} {base : Nat} {v : Value} {l : List Int} (h : SlI w base v l) {b o : Nat} (hb : b < base) (x : Value) : SlI (w.setCell ⟨b, o, none⟩ x) base v l := by
  rcases h with ⟨h1, h2⟩
  refine ⟨h1, ?_⟩
  rcases h2 with h2 | ⟨g, cap, cur, hv, hbb, hg, r⟩
  · exact .inl h2
  · exact .inr ⟨g, cap, cur, hv, hbb, (Below.heap_setCell _ ⟨b, o, none⟩ x g (by show g ≠ b; omega)).trans hg, r⟩
end Go.Proofs.YtmfdggaijbcijaaGreat
end

/- MapKeys -/
/- The keys of the program's map of rows, sorted. Condition: the map is the call's own. -/
section
namespace Go.Proofs.YtmfdggaijbcijaaGreat
open Go.ChangeShapes Go.WideShapes Go.ChangeAt Go.RowKit
open Bd
set_option linter.unusedVariables false

end Go.Proofs.YtmfdggaijbcijaaGreat
end

/- ExactB1 -/
/- The walks of the exact laws of UnitFault and BoardFault. No condition. -/
section
namespace Go.Proofs.YtmfdggaijbcijaaGreat
open Go.ChangeShapes Go.WideShapes Go.ChangeAt Go.RowKit
open Bd
set_option linter.unusedVariables false

end Go.Proofs.YtmfdggaijbcijaaGreat
end

/- ExactB2 -/
/- The walks of the exact laws of LeftIn and CarriedBy. No condition. -/
section
namespace Go.Proofs.YtmfdggaijbcijaaGreat
open Go.ChangeShapes Go.WideShapes Go.ChangeAt Go.RowKit
open Bd
set_option linter.unusedVariables false

end Go.Proofs.YtmfdggaijbcijaaGreat
end

/- PutSpec3 -/
/- The contract of the model of PutUnit. Condition: the board's lists lie in memory as they were laid there. -/
section
namespace Go.Proofs.YtmfdggaijbcijaaGreat
open Go.ChangeShapes Go.WideShapes Go.ChangeAt Go.RowKit
open Bd
set_option linter.unusedVariables false

def puC (us : List K10) (fs : List K3) (u : K10) : Int := if (bf us fs == 0) = true then (if (uf u == 0) = true then (if 8 < (putU u us).length then 7 else 0) else uf u) else bf us fs
def puB (us : List K10) (fs : List K3) (u : K10) : Bool := bf us fs == 0 && (uf u == 0 && decide ((putU u us).length ≤ 8))
def puU (us : List K10) (fs : List K3) (u : K10) : List K10 := if puB us fs u = true then putU u us else []
def puF (us : List K10) (fs : List K3) (u : K10) : List K3 := if puB us fs u = true then fs else []
theorem SlU.nil (w : World) (base : Nat) : SlU w base (.slice Option.none 0 0) [] := ⟨rfl, .inl ⟨rfl, rfl⟩⟩
theorem SlF.nil (w : World) (base : Nat) : SlF w base (.slice Option.none 0 0) [] := ⟨rfl, .inl ⟨rfl, rfl⟩⟩
abbrev res3 (C : Int) (s f : Value) : Array Value := #[.int .i64 C, s, f]
end Go.Proofs.YtmfdggaijbcijaaGreat
end

/- OneWalks2 -/
/- Contracts of UnitOf and of its model. Condition: the board's two lists lie in memory as they were laid there; the Id is a number of its kind. -/
section
namespace Go.Proofs.YtmfdggaijbcijaaGreat
open Go.ChangeShapes Go.WideShapes Go.ChangeAt Go.RowKit
open Bd
set_option linter.unusedVariables false

def uoC (us : List K10) (fs : List K3) (i : Int) : Int := if (bf us fs == 0) = true then (if (findU us i).isSome = true then 0 else 4) else bf us fs
def uoU (us : List K10) (fs : List K3) (i : Int) : K10 := if (bf us fs == 0) = true then (findU us i).getD K10.z else K10.z
abbrev elevenV (C : Int) (x : K10) : Array Value := #[.int .i64 C, .int .i64 x.c0, .int .i64 x.c1, .int .i64 x.c2, .int .i64 x.c3, .int .i64 x.c4, .int .i64 x.c5, .int .i64 x.c6, .int .i64 x.c7, .int .i64 x.c8, .int .i64 x.c9]
end Go.Proofs.YtmfdggaijbcijaaGreat
end

/- IntLists -/
/- Contracts of the exact laws' own helpers on lists of int64: equal lists are equal, marks that were laid are held. Conditions: the lists lie in memory of their own, at most 1000000 numbers. -/
section
namespace Go.Proofs.YtmfdggaijbcijaaGreat
open Go.ChangeShapes Go.WideShapes Go.ChangeAt Go.RowKit
set_option linter.unusedVariables false

def marks (k : Int) (m : Nat) : List Int := (List.range m).map (fun (i : Nat) => k + (i : Int))
end Go.Proofs.YtmfdggaijbcijaaGreat
end

/- Marks -/
/- Contracts of the exact laws' own marks on lists of units and of fields, and on boards. Condition: the lists lie in blocks of their own and have at most 1048576 members. -/
section
namespace Go.Proofs.YtmfdggaijbcijaaGreat
open Go.ChangeShapes Go.WideShapes Go.ChangeAt Go.RowKit
set_option linter.unusedVariables false

/- the first j cells bear the marks from k0 on -/
def mkd (k0 : Int) (f : Nat → Value) (j : Nat) (i : Nat) : Value := if i < j then .int .i64 (k0 + (i : Int)) else f i
end Go.Proofs.YtmfdggaijbcijaaGreat
end

/- OwnLaw -/
/- The walk of the exact law of OwnedBy. No condition. -/
section
namespace Go.Proofs.YtmfdggaijbcijaaGreat
open Go.ChangeShapes Go.WideShapes Go.ChangeAt Go.RowKit
open Bd
set_option linter.unusedVariables false

/- all blocks below n are as they were, and so are those at n or above that are not g or h -/
structure Kept2 (w w' : World) (g h : Nat) : Prop where
  os : w'.os = w.os
  tape : w'.tape = w.tape
  output : w'.output = w.output
  size : w.heap.size ≤ w'.heap.size
  block : ∀ i, i < w.heap.size → i ≠ g → i ≠ h → w'.heap[i]? = w.heap[i]?
theorem Kept2.row {w w' : World} {g h b n : Nat} {t : TypeId} {f : Nat → Value} (k : Kept2 w w' g h) (r : w.rowIs b t n f) (h1 : b ≠ g) (h2 : b ≠ h) : w'.rowIs b t n f := r.of_block (k.block b r.lt h1 h2)
theorem Kept2.below {W w w' : World} {n g h : Nat} (k : Kept2 w w' g h) (hb : Below n W w) (hn : n ≤ W.heap.size) (h1 : n ≤ g) (h2 : n ≤ h) : Below n W w' :=
  hb.trans ⟨k.os, k.tape, k.output, k.size, fun i hi => k.block i (Nat.lt_of_lt_of_le hi (Nat.le_trans hn hb.size)) (by omega) (by omega)⟩
theorem Kept2.sl {w w' : World} {g h base : Nat} {v : Value} {l : List Int} (k : Kept2 w w' g h) (s : SlI w base v l) (hx : ∀ b, v.ownBlock = some b → b ≠ g ∧ b ≠ h) : SlI w' base v l := by
  rcases s with ⟨h1, h2⟩
  refine ⟨h1, ?_⟩
  rcases h2 with h2 | ⟨b, cap, cur, hv, hbb, hg, r⟩
  · exact .inl h2
  · obtain ⟨x1, x2⟩ := hx b (by rw [hv]; rfl)
    exact .inr ⟨b, cap, cur, hv, hbb, (k.block b (Array.getElem?_eq_some_iff.1 hg).1 x1 x2).trans hg, r⟩
theorem SlI.lt {w : World} {base : Nat} {v : Value} {l : List Int} (s : SlI w base v l) : ∀ b, v.ownBlock = some b → base ≤ b ∧ b < w.heap.size := by
  intro b hb
  rcases s.2 with ⟨h1, h2⟩ | ⟨g, cap, cur, hv, hbb, hg, r⟩
  · rw [h1] at hb; cases hb
  · rw [hv] at hb
    have : g = b := Option.some.inj hb
    subst this
    exact ⟨hbb, (Array.getElem?_eq_some_iff.1 hg).1⟩
theorem SlI.cases {w : World} {base : Nat} {v : Value} {l : List Int} (s : SlI w base v l) : (l = [] ∧ ∃ a cap, v = .slice a 0 cap) ∨ (l ≠ [] ∧ ∃ g cap, v = .slice (some ⟨g, 0, none⟩) l.length cap ∧ base ≤ g ∧ Lst w g cap l) := by
  by_cases h : l = []
  · subst h
    obtain ⟨a, cap, hv⟩ := s.form
    exact .inl ⟨rfl, a, cap, hv⟩
  · have h0 : 0 < l.length := by cases l with | nil => exact absurd rfl h | cons _ _ => simp
    exact .inr ⟨h, Lst.of_owns s h0⟩
theorem SlI.grown {w w' : World} {base : Nat} {v : Value} {l : List Int} {r : Option Nat} (s : SlI w base v l) (k : w.grownBy w' r) (hx : ∀ b, v.ownBlock = some b → some b ≠ r) : SlI w' base v l := by
  rcases s with ⟨h1, h2⟩
  refine ⟨h1, ?_⟩
  rcases h2 with h2 | ⟨b, cap, cur, hv, hbb, hg, q⟩
  · exact .inl h2
  · exact .inr ⟨b, cap, cur, hv, hbb, (k.block b (Array.getElem?_eq_some_iff.1 hg).1 (hx b (by rw [hv]; rfl))).trans hg, q⟩
theorem Kept2.of_grown {w w' : World} {g h : Nat} (k : w.grownBy w' (some g)) : Kept2 w w' g h := ⟨k.os, k.tape, k.output, k.size, fun i hi h1 _ => k.block i hi (fun e => h1 (Option.some.inj e))⟩
theorem Kept2.trans {a b c : World} {g h : Nat} (k : Kept2 a b g h) (l : Kept2 b c g h) : Kept2 a c g h := ⟨l.os.trans k.os, l.tape.trans k.tape, l.output.trans k.output, Nat.le_trans k.size l.size, fun i hi h1 h2 => (l.block i (Nat.lt_of_lt_of_le hi k.size) h1 h2).trans (k.block i hi h1 h2)⟩
theorem Kept2.alloc (w : World) (g h : Nat) (o : Obj) : Kept2 w (w.alloc o) g h := Kept2.of_grown (World.grownBy_alloc w o _)
end Go.Proofs.YtmfdggaijbcijaaGreat
end

/- PutImpl -/
/- Contracts of the program's parts of PutUnit: the map's rows as rising units, a copy of the fields. Condition: the map is the call's own. -/
section
namespace Go.Proofs.YtmfdggaijbcijaaGreat
open Go.ChangeShapes Go.WideShapes Go.ChangeAt Go.RowKit
open Bd
set_option linter.unusedVariables false

theorem MapAt.size {w : World} {b : Nat} {l : List K10} (h : MapAt w b l) : ∃ es clock, w.heap[b]? = some (.map es clock) ∧ es.size = l.length := by
  obtain ⟨es, clock, hb, F, hs, hD⟩ := h
  refine ⟨es, clock, hb, ?_⟩
  have := congrArg (fun d => match d with | DataW.map x => x.length | _ => 0) hD
  simp only at this
  rw [List.length_map, length_sorted] at this
  simpa using this.symm
end Go.Proofs.YtmfdggaijbcijaaGreat
end

/- PutImpl2 -/
/- The contract of the program's PutUnit. Condition: the board's lists lie in memory as they were laid there. -/
section
namespace Go.Proofs.YtmfdggaijbcijaaGreat
open Go.ChangeShapes Go.WideShapes Go.ChangeAt Go.RowKit
open Bd
set_option linter.unusedVariables false

end Go.Proofs.YtmfdggaijbcijaaGreat
end

/- BrdPlain0 -/
/- Plain facts: a board whose parts are right has no fault. No condition. -/
section
namespace Go.Proofs.YtmfdggaijbcijaaGreat
open Bd
set_option linter.unusedVariables false

theorem ffs_mk : ∀ {l : List K3}, (∀ f ∈ l, ff f = true) → ffs l = 0
  | [], _ => rfl
  | f :: l, h => by
    unfold ffs
    rw [if_neg (by rw [h f (by simp)]; simp)]
    exact ffs_mk (fun x hx => h x (List.mem_cons_of_mem _ hx))
theorem ufs_mk {F : Int} (hF : F = 0) : ∀ {l : List K10} {p : Option Int}, (∀ u ∈ l, uf u = 0) → (∀ q, p = some q → ∀ u ∈ l, q < u.c0) → Rise l → ufs p F l = 0
  | [], _, _, _, _ => hF
  | a :: l, p, h, hp, hr => by
    unfold ufs
    rw [if_neg (by rw [h a (by simp)]; simp)]
    have hl : leP p a.c0 = false := by
      cases p with
      | none => rfl
      | some q => have := hp q rfl a (by simp); simp [leP]; omega
    rw [if_neg (by rw [hl]; simp)]
    have hr' := List.pairwise_cons.1 hr
    exact ufs_mk hF (fun x hx => h x (List.mem_cons_of_mem _ hx)) (fun q hq u hu => by cases hq; exact hr'.1 u hu) hr'.2
theorem bf_mk {us : List K10} {fs : List K3} (h1 : us.length ≤ 8) (h2 : fs.length ≤ 4) (h3 : ∀ u ∈ us, uf u = 0) (h4 : ∀ f ∈ fs, ff f = true) (h5 : Rise us) : bf us fs = 0 := by
  unfold bf
  rw [if_neg (by omega)]
  exact ufs_mk (ffs_mk h4) h3 (fun q hq => by cases hq) h5
end Go.Proofs.YtmfdggaijbcijaaGreat
end

/- BrdPlain -/
/- Plain facts: a unit that was put is there, all others are as they were, and the board has no fault. No condition. -/
section
namespace Go.Proofs.YtmfdggaijbcijaaGreat
open Bd
set_option linter.unusedVariables false

end Go.Proofs.YtmfdggaijbcijaaGreat
end

/- GdBf -/
/- A right board has no fault. No condition. -/
section
namespace Go.Proofs.YtmfdggaijbcijaaGreat
open Bd
set_option linter.unusedVariables false

theorem Gd.bf {us : List K10} {fs : List K3} (h : Gd us fs) : Bd.bf us fs = 0 := bf_mk h.n8 h.n4 h.u h.f h.r
end Go.Proofs.YtmfdggaijbcijaaGreat
end

/- GfGive -/
/- Plain facts of gifts: a unit that is given away, the board and the world behind it, what there is together, whose the units are. No condition. -/
section
namespace Go.Proofs.YtmfdggaijbcijaaGreat
open Bd
set_option linter.unusedVariables false

/- a unit handed to another owner: it has no job any more -/
def handed (u : K10) (o : Int) : K10 := ⟨u.c0, o, u.c2, u.c3, u.c4, u.c5, 0, 0, 0, 0⟩
def givC (h : Int → Int → Bool) (x : KW) (a i b : Int) : Int := if (prF h x a b == 0) = false then prF h x a b else match findU x.us i with | none => 4 | some u => if (u.c1 == a) = true then 0 else 9
def givU (x : KW) (i b : Int) : List K10 := match findU x.us i with | none => x.us | some u => putU (handed u b) x.us
def givX (h : Int → Int → Bool) (x : KW) (a i b : Int) : KW := if (givC h x a i b == 0) = true then ⟨x.t, x.s, givU x i b, x.fs, x.fa, x.se, x.oo⟩ else kz
def crU : List K10 → Int
  | [] => 0
  | u :: l => u.c5 + crU l
/- what there is together -/
def totF (x : KW) : Int := x.s + crU x.us + sumF x.fs + purS x.fa
theorem GU.handed {u : K10} (g : GU u) {b : Int} (h : (0 ≤ b ∧ b ≤ 3) ∨ b = 9) : GU (handed u b) := ⟨g.i0, g.i1, h, g.x0, g.x1, g.y0, g.y1, g.l0, g.l1, g.c0, g.c1, .inl ⟨rfl, rfl, rfl, rfl⟩⟩
structure GivG (h : Int → Int → Bool) (x : KW) (a i b : Int) : Prop where
  at' : ∃ k u, x.us[k]? = some u ∧ u.c0 = i ∧ u.c1 = a ∧ (givX h x a i b).us = x.us.set k (handed u b)
  fnd : ∃ u, findU (givX h x a i b).us i = some (handed u b)
  wf0 : wf h (givX h x a i b) = 0
  tot : totF (givX h x a i b) = totF x
  ids : (idsOf b (givX h x a i b).us).length = (idsOf b x.us).length + 1
  bx : Bd.bf x.us x.fs = 0
  bg : Bd.bf (givX h x a i b).us x.fs = 0
  ob : own b = true
  len : (givX h x a i b).us.length = x.us.length
  oth : ∀ (j : Nat) (y : K10), x.us[j]? = some y → y.c0 ≠ i → (givX h x a i b).us[j]? = some y
end Go.Proofs.YtmfdggaijbcijaaGreat
end

/- Shares -/
section
/- Plain arithmetic: the shares of a number, as a list. No condition. -/
namespace Go.Proofs.YtmfdggaijbcijaaGreat.Nums
set_option linter.unusedVariables false

def shAt (n : Int) (p : Nat) (i : Nat) : Int := if (i : Int) < n % (p : Int) then n / (p : Int) + 1 else n / (p : Int)
def shTo (n : Int) (p : Nat) (k : Nat) : List Int := (List.range k).map (shAt n p)
def sumTo (n : Int) (p : Nat) : Nat → Int
  | 0 => 0
  | k + 1 => sumTo n p k + shAt n p k
end Go.Proofs.YtmfdggaijbcijaaGreat.Nums
end

/- GfLeave -/
/- Plain facts of those who leave: heirs, a purse and units that are shared out, the world behind it, what there is together. No condition. -/
section
namespace Go.Proofs.YtmfdggaijbcijaaGreat
open Bd
set_option linter.unusedVariables false

/- the sides of a mask, rising -/
def sdL (h : Int → Int → Bool) (m : Int) : List Int := [0, 1, 2, 3].filter (fun k => h m k)
/- a purse that is shared out: the factions behind it, and what was taken -/
def tkP (n : Int) (m i : Nat) (fa : List KA) (k : Int) : Int := mn (Nums.shAt n m i) (1000000 - purA fa k)
def shA (n : Int) (m : Nat) : Nat → List Int → List KA → List KA
  | _, [], fa => fa
  | i, k :: hs, fa => shA n m (i + 1) hs (setP fa k (purA fa k + tkP n m i fa k))
def shT (n : Int) (m : Nat) : Nat → List Int → List KA → Int
  | _, [], _ => 0
  | i, k :: hs, fa => tkP n m i fa k + shT n m (i + 1) hs (setP fa k (purA fa k + tkP n m i fa k))
structure ShG (n : Int) (m i : Nat) (hs : List Int) (fa : List KA) : Prop where
  r : ∀ f ∈ shA n m i hs fa, inb f.c0 0 1000000 = true
  s : purS (shA n m i hs fa) = purS fa + shT n m i hs fa
  t0 : 0 ≤ shT n m i hs fa
  t1 : shT n m i hs fa ≤ Nums.sumTo n m (i + hs.length) - Nums.sumTo n m i
  o : ∀ j : Int, 0 ≤ j → j ∉ hs → purA (shA n m i hs fa) j = purA fa j
/- units that are shared out -/
def shU (a : Int) (hs : List Int) : Nat → List K10 → List K10
  | _, [] => []
  | n, u :: l => if (u.c1 == a) = true then handed u (hs.getD (n % hs.length) 9) :: shU a hs (n + 1) l else u :: shU a hs n l
/- how many of N in turn come to place p of m -/
def cntM (p m : Nat) : Nat → Nat → Nat
  | _, 0 => 0
  | n, N + 1 => (if n % m = p then 1 else 0) + cntM p m (n + 1) N
/- nobody's ally any more -/
def clA (a : Int) : List Int → List KA → List KA
  | [], fa => fa
  | k :: hs, fa => clA a hs (setC fa k (clB (allyA fa k) a))
/- a side that leaves -/
def heirs (h : Int → Int → Bool) (x : KW) (a : Int) : List Int := sdL h (allyA x.fa a)
def leaC (h : Int → Int → Bool) (x : KW) (a : Int) : Int := if (wf h x == 0) = false then wf h x else if inb a 0 3 = false then 3 else if goneA x.fa a = true then 8 else if 100000000 < x.s + purA x.fa a then 7 else 0
def leaF (h : Int → Int → Bool) (x : KW) (a : Int) : List KA := (clA a (heirs h x a) (shA (purA x.fa a) (heirs h x a).length 0 (heirs h x a) x.fa)).set a.toNat ⟨0, true, 0⟩
def leaS (h : Int → Int → Bool) (x : KW) (a : Int) : Int := x.s + (purA x.fa a - shT (purA x.fa a) (heirs h x a).length 0 (heirs h x a) x.fa)
def seF' (a : Int) (l : List K4) : List K4 := l.filter (fun s => !(s.c1 == a))
def ooF' (a : Int) (l : List K2) : List K2 := l.filter (fun o => !((o.c0 == a) || (o.c1 == a)))
def leaX (h : Int → Int → Bool) (x : KW) (a : Int) : KW := if (leaC h x a == 0) = true then ⟨x.t, leaS h x a, shU a (heirs h x a) 0 x.us, x.fs, leaF h x a, seF' a x.se, ooF' a x.oo⟩ else kz
structure LeaG (h : Int → Int → Bool) (x : KW) (a : Int) : Prop where
  wf0 : wf h (leaX h x a) = 0
  tot : totF (leaX h x a) = totF x
  f4 : (leaX h x a).fa.length = 4
  len : (leaX h x a).us.length = x.us.length
  fs : (leaX h x a).fs = x.fs
  bx : Bd.bf x.us x.fs = 0
  bg : Bd.bf (leaX h x a).us x.fs = 0
  at' : (leaX h x a).fa[a.toNat]? = some ⟨0, true, 0⟩
  st : leaC h (leaX h x a) a = 8
  ids : idsOf a (leaX h x a).us = []
  cnt : ∃ q : Nat, q ≤ 8 ∧ ∀ k ∈ heirs h x a, (idsOf k x.us).length + q ≤ (idsOf k (leaX h x a).us).length ∧ (idsOf k (leaX h x a).us).length ≤ (idsOf k x.us).length + q + 1
  non : heirs h x a = [] → (leaX h x a).s = x.s + purA x.fa a ∧ (idsOf 9 (leaX h x a).us).length = (idsOf 9 x.us).length + (idsOf a x.us).length
  get : ∀ j : Int, 0 ≤ j → j ≤ 3 → goneA (leaX h x a).fa j = (if j = a then true else goneA x.fa j) ∧ allyA (leaX h x a).fa j = if j = a then 0 else clB (allyA x.fa j) a
  hr : ∀ k ∈ heirs h x a, 0 ≤ k ∧ k ≤ 3 ∧ k ≠ a
end Go.Proofs.YtmfdggaijbcijaaGreat
end
