/- Texts of mine put together (a claim holds at most 60 files): PayImpl, PayImpl2. -/
import Derived.Test.YtmfdggaijbcijaaGreatPartQ29
import Derived.Test.YtmfdggaijbcijaaGreatPartQ31
import Derived.Test.YtmfdggaijbcijaaGreatPartQ33
import Derived.Test.YtmfdggaijbcijaaGreatPartQ12
import Derived.Test.YtmfdggaijbcijaaGreatPartQ30
import Derived.Deep.CutRange
import Derived.Deep.RegionHeld3

/- PayImpl -/
/- The contracts of tributes and of all purses together, the program's. Condition: the world's lists lie in memory as they were laid there. -/
section
namespace Go.Proofs.YtmfdggaijbcijaaGreat
open Go.ChangeShapes Go.WideShapes Go.ChangeAt Go.RowKit
open Bd
set_option linter.unusedVariables false

theorem ArgA.atP {w : World} {a : Option Addr} {l : List KA} (h : ArgA w a l) {i : Nat} {x : KA} (hi : l[i]? = some x) : ∃ b off, a = some ⟨b, off, none⟩ ∧ b < w.heap.size ∧ AAt w b off l := by
  rcases h with rfl | h
  · simp at hi
  · exact h
def ppC (h : Int → Int → Bool) (x : KW) : Int := wf h x
def ppV (h : Int → Int → Bool) (x : KW) : Int := if (wf h x == 0) = true then purS x.fa else 0
end Go.Proofs.YtmfdggaijbcijaaGreat
end

/- PayImpl2 -/
/- The contract of PayTribute. Condition: the world's lists lie in memory as they were laid there. -/
section
namespace Go.Proofs.YtmfdggaijbcijaaGreat
open Go.ChangeShapes Go.WideShapes Go.ChangeAt Go.RowKit
open Bd
set_option linter.unusedVariables false

/- a store into a faction of a state -/
theorem WS.setA {w : World} {base g ga : Nat} {p : WP} {x : KW} (h : WS w base g p x) (hp : p.a = some ⟨ga, 0, none⟩) (i : Nat) (v : Value) (fa' : List KA) (hi : i < x.fa.length * 3) (hc : (flatA x.fa).set i v = flatA fa') : WS (w.setCell ⟨ga, i, none⟩ v) base g p ⟨x.t, x.s, x.us, x.fs, fa', x.se, x.oo⟩ := by
  have hl : fa'.length = x.fa.length := by
    have h1 := congrArg List.length hc
    rw [List.length_set, flatA_len, flatA_len] at h1
    omega
  have hA := h.o.a
  rw [hp] at hA
  obtain ⟨csA, hbA⟩ := hA.blk (q := ga) rfl
  have hne : g ≠ ga := bk_ne h.b hbA (by decide)
  refine ⟨?_, ⟨h.o.u.setB hbA (by decide) v, h.o.f.setB hbA (by decide) v, ?_, h.o.s.setB hbA (by decide) v, h.o.o.setB hbA (by decide) v⟩, h.bg⟩
  · have := h.b.setOther (a := ⟨ga, i, none⟩) hne v
    show Blk _ g #[.slice p.u x.us.length p.uc, .slice p.f x.fs.length p.fc, .int .i64 x.t, .int .i64 x.s, .slice p.a fa'.length p.ac, .slice p.s x.se.length p.sc, .slice p.o x.oo.length p.oc] _
    rw [hl]
    exact this
  · show SlA _ _ (.slice p.a fa'.length p.ac) fa'
    rw [hl, hp]
    exact hA.setCell i v hi hc
theorem WS.drew {w : World} {base g : Nat} {p : WP} {x : KW} (h : WS w base g p x) : WS w.drew base g p x := h.later (Below.refl _ _).drew
/- factions behind the one store, the other, both -/
def FF (fa : List KA) (i j v1 v2 : Int) : Bool → Bool → List KA
  | false, false => fa
  | true, false => setP fa i v1
  | false, true => setP fa j v2
  | true, true => setP (setP fa i v1) j v2
/- what was there is as it was, but for one block -/
structure Below2 (w : World) (g : Nat) (W : World) : Prop where
  os : W.os = w.os
  tape : W.tape = w.tape
  output : W.output = w.output
  size : w.heap.size ≤ W.heap.size
  block : ∀ k, k < w.heap.size → k ≠ g → W.heap[k]? = w.heap[k]?
theorem Below2.refl {w : World} {g : Nat} : Below2 w g w.drew := ⟨rfl, rfl, rfl, Nat.le_refl _, fun _ _ _ => rfl⟩
theorem Below2.set {w W : World} {g : Nat} (h : Below2 w g W) (i : Nat) (v : Value) : Below2 w g (W.setCell ⟨g, i, none⟩ v) := ⟨h.os, h.tape, h.output, by simpa [World.setCell] using h.size, fun k hk hne => (Below.heap_setCell _ _ _ _ hne).trans (h.block k hk hne)⟩
theorem Below2.blk {w W : World} {g b : Nat} {cs : Array Value} {t : TypeId} (h : Below2 w g W) (hb : Blk w b cs t) (hne : b ≠ g) : Blk W b cs t := by
  unfold Blk; rw [h.block b hb.lt hne]; exact hb
theorem Below2.below {w W : World} {g n : Nat} (h : Below2 w g W) (hn : n ≤ w.heap.size) (hg : n ≤ g) : Below n w W := ⟨h.os, h.tape, h.output, h.size, fun k hk => h.block k (by omega) (by omega)⟩
theorem Gd8 {us : List K10} {fs : List K3} (h : bf us fs = 0) : us.length ≤ 8 ∧ fs.length ≤ 4 := ⟨(bf_ok h).1, (bf_ok h).2.1⟩
end Go.Proofs.YtmfdggaijbcijaaGreat
end
