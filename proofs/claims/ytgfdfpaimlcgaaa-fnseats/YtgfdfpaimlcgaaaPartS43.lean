/- Texts of mine put together (a claim holds at most 60 files): GdBf, GfGive. -/
import Derived.Test.YtgfdfpaimlcgaaaPartS42
import Derived.Test.YtgfdfpaimlcgaaaPartS20
import Derived.Test.YtgfdfpaimlcgaaaPartS07
import Derived.Test.YtgfdfpaimlcgaaaPartS38

/- GdBf -/
/- A right board has no fault. No condition. -/
section
namespace Go.Proofs.Ytgfdfpaimlcgaaa
open Bd
set_option linter.unusedVariables false

theorem Gd.bf {us : List K10} {fs : List K3} (h : Gd us fs) : Bd.bf us fs = 0 := bf_mk h.n8 h.n4 h.u h.f h.r
end Go.Proofs.Ytgfdfpaimlcgaaa
end

/- GfGive -/
/- Plain facts of gifts: a unit that is given away, the board and the world behind it, what there is together, whose the units are. No condition. -/
section
namespace Go.Proofs.Ytgfdfpaimlcgaaa
open Bd
set_option linter.unusedVariables false

/- a unit handed to another owner: it has no job any more -/
def handed (u : K10) (o : Int) : K10 := ⟨u.c0, o, u.c2, u.c3, u.c4, u.c5, 0, 0, 0, 0⟩
def givC (h : Int → Int → Bool) (x : KW) (a i b : Int) : Int := if (prF h x a b == 0) = false then prF h x a b else match findU x.us i with | none => 4 | some u => if (u.c1 == a) = true then 0 else 9
def givU (x : KW) (i b : Int) : List K10 := match findU x.us i with | none => x.us | some u => putU (handed u b) x.us
def givX (h : Int → Int → Bool) (x : KW) (a i b : Int) : KW := if (givC h x a i b == 0) = true then ⟨x.t, x.s, givU x i b, x.fs, x.fa, x.se, x.oo⟩ else kz
def crU : List K10 → Int
  | [] => 0
  | u :: l => u.c5 + crU l
/- what there is together -/
def totF (x : KW) : Int := x.s + crU x.us + sumF x.fs + purS x.fa
theorem GU.handed {u : K10} (g : GU u) {b : Int} (h : (0 ≤ b ∧ b ≤ 3) ∨ b = 9) : GU (handed u b) := ⟨g.i0, g.i1, h, g.x0, g.x1, g.y0, g.y1, g.l0, g.l1, g.c0, g.c1, .inl ⟨rfl, rfl, rfl, rfl⟩⟩
structure GivG (h : Int → Int → Bool) (x : KW) (a i b : Int) : Prop where
  at' : ∃ k u, x.us[k]? = some u ∧ u.c0 = i ∧ u.c1 = a ∧ (givX h x a i b).us = x.us.set k (handed u b)
  fnd : ∃ u, findU (givX h x a i b).us i = some (handed u b)
  wf0 : wf h (givX h x a i b) = 0
  tot : totF (givX h x a i b) = totF x
  ids : (idsOf b (givX h x a i b).us).length = (idsOf b x.us).length + 1
  bx : Bd.bf x.us x.fs = 0
  bg : Bd.bf (givX h x a i b).us x.fs = 0
  ob : own b = true
  len : (givX h x a i b).us.length = x.us.length
  oth : ∀ (j : Nat) (y : K10), x.us[j]? = some y → y.c0 ≠ i → (givX h x a i b).us[j]? = some y
end Go.Proofs.Ytgfdfpaimlcgaaa
end
