/- A region that draws its order, whose operations read old cells and whose callees only make new memory: one walk in the order of the text serves every order. No condition. -/
import Derived.WalkKit
import Derived.Below
import Derived.Deep.QuietTactic
import Derived.BigQuiet
namespace Go.Proofs.YtomnadmeolkagaaDoor
open Go.RowKit

/- a world behind w in which all that was there is as it was -/
def Later (w : World) : Type := { w' : World // Below w.heap.size w w' }
def Later.at {w : World} (n : Later w) : World := n.1
theorem Later.bel {w : World} (n : Later w) : Below w.heap.size w n.at := n.2

theorem wp_region_later {P : Program} {id : Nat} {Q : Exit → Act → World → Prop} {a : Act} {w : World} {l : List Oper} (hm : P.follows .mixedOrders = true) (hB : Region.lexB .any l.toArray = true)
    (h : Nonempty (Later w) → wpQuiet P l.toArray (fun w' => ∃ n : Later w, w' = n.at) (fun a' => ∀ w', (∃ n : Later w, w' = n.at) → Q .normal a' w') l a) : (Code.region id l.toArray true).wp P Q a w :=
  wp_region_quiet (C := fun w' => ∃ n : Later w, w' = n.at) hm hB ⟨⟨w.drew, (Below.refl _ _).drew⟩, rfl⟩ (by simpa using h ⟨⟨w, Below.refl _ _⟩⟩)

theorem Later.call {P : Program} {f : FuncId} {args : Array Value} {w : World} {n : Later w} {v : Value}
    (h : Calls P f args n.at fun e w' => e = .returned v ∧ Below n.at.heap.size n.at w') : Calls P f args n.at fun e w'' => e = .returned v ∧ ∃ m : Later w, w'' = m.at :=
  h.mono fun _ w' ⟨he, hm⟩ => ⟨he, ⟨w', n.bel.trans (hm.mono n.bel.size)⟩, rfl⟩
theorem Later.call1 {P : Program} {f : FuncId} {args : Array Value} {w : World} {n : Later w} {v : Value} {o : Obj}
    (h : Calls P f args n.at fun e w' => e = .returned v ∧ w' = n.at.alloc o) : Calls P f args n.at fun e w'' => e = .returned v ∧ ∃ m : Later w, w'' = m.at :=
  Later.call (h.mono fun _ w' ⟨he, hm⟩ => ⟨he, by rw [hm]; exact (Below.refl _ _).alloc (Nat.le_refl _) _⟩)
theorem Later.call0 {P : Program} {f : FuncId} {args : Array Value} {w : World} {n : Later w} {v : Value}
    (h : Calls P f args n.at fun e w' => e = .returned v ∧ w' = n.at) : Calls P f args n.at fun e w'' => e = .returned v ∧ ∃ m : Later w, w'' = m.at :=
  Later.call (h.mono fun _ w' ⟨he, hm⟩ => ⟨he, by rw [hm]; exact Below.refl _ _⟩)

theorem Later.cell {w : World} {b o : Nat} {v : Value} (hb : b < w.heap.size) (h : w.cell? ⟨b, o, none⟩ = some v) (n : Later w) : n.at.cell? ⟨b, o, none⟩ = some v := by
  rw [n.bel.cell (p := ⟨b, o, none⟩) hb]; exact h
end Go.Proofs.YtomnadmeolkagaaDoor
