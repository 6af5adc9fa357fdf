/- The walk of the exact law of SameCommands, and what a list of commands that came in is. No condition. -/
import Derived.Test.YtomnadmeolkagaaDoorSameC2
namespace Go.Proofs.YtomnadmeolkagaaDoor
open Go.ChangeShapes Go.WideShapes Go.ChangeAt Go.RowKit
set_option linter.unusedVariables false

theorem add_plain' (b off n : Nat) : (⟨b, off, none⟩ : Addr).add n = ⟨b, off + n, none⟩ := by unfold Addr.add; split <;> simp_all
theorem cell_lt2 {w : World} {a : Addr} {v : Value} (h : w.cell? a = some v) : a.block < w.heap.size := by
  unfold World.cell? at h
  by_cases hb : a.block < w.heap.size
  · exact hb
  · rw [Array.getElem?_eq_none (by omega)] at h
    cases h
theorem argC_open {H : Type} {enc : TypeId × Value → H} {w : World} {sp : Nat → Bool} {held : Bool} {a : Option Addr} {len cap : Nat} {d : DataW H} {p : List MemPlace}
    (h : DataW.Trod enc Tryd.prog w 0 sp held 22 (.slice a len cap) d p) : len ≤ maxLen ∧ ∃ l : List K6, l.length = len ∧ ArgC w a l := by
  obtain ⟨fuel, hf⟩ := h
  have c6 : Tryd.prog.cellsOf 40 = 6 := by kernel_rfl
  rcases Go.Deep.open_slice Tryd.underlying22 hf with ⟨hcs, _⟩ | ⟨x, l0, c0, m, n, D, Pl, hcs, _, hl, hm, hmm, _, hel⟩
  · simp [Value.cells] at hcs
    obtain ⟨rfl, rfl, rfl⟩ := hcs
    exact ⟨Nat.zero_le _, [], rfl, .inl rfl⟩
  · simp [Value.cells] at hcs
    obtain ⟨rfl, rfl, rfl⟩ := hcs
    refine ⟨by omega, ?_⟩
    have hlm : len ≤ m := by rw [hmm]; split <;> omega
    have key : ∀ i, i < len → ∃ y : K6, ∀ f, f < 6 → w.cell? ((x.add (i * 6)).add f) = some (.int .i64 (y.f f)) := by
      intro i hi
      obtain ⟨cs', h1, h2⟩ := hel i (by omega)
      rw [c6] at h1
      obtain ⟨_, hlen, hc⟩ := World.cells?_some h1
      obtain ⟨zs, hz, hzl, _⟩ := cells_i64 (e := 2) Tryd.underlying40 Tryd.underlying2 (by kernel_rfl) (by kernel_rfl) (by kernel_rfl) h2
      have hz6 : zs.length = 6 := by rw [← List.length_map (f := Value.int .i64), ← hz]; exact hlen
      match zs, hz6 with
      | [y0, y1, y2, y3, y4, y5], _ =>
        refine ⟨⟨y0, y1, y2, y3, y4, y5⟩, fun f hf => ?_⟩
        rw [hc f hf, hz]
        have h6 : f = 0 ∨ f = 1 ∨ f = 2 ∨ f = 3 ∨ f = 4 ∨ f = 5 := by omega
        rcases h6 with rfl | rfl | rfl | rfl | rfl | rfl <;> rfl
    refine ⟨(List.range len).map fun i => if h : i < len then Classical.choose (key i h) else K6.z, by simp, ?_⟩
    by_cases h0 : len = 0
    · subst h0; exact .inl rfl
    · obtain ⟨b, off, spot⟩ := x
      obtain ⟨y, hy⟩ := key 0 (by omega)
      have hc := hy 0 (by omega)
      have hspot : spot = none := by simpa [Addr.add] using World.cell?_spot hc
      subst hspot
      refine .inr ⟨b, off, rfl, by have := cell_lt2 hc; simpa [Addr.add] using this, fun i z hi f hf => ?_⟩
      have hlt : i < len := by simpa using (List.getElem?_eq_some_iff.1 hi).1
      have hz : z = Classical.choose (key i hlt) := by
        rw [List.getElem?_map, List.getElem?_range hlt] at hi
        simp [hlt] at hi
        exact hi.symm
      have := Classical.choose_spec (key i hlt) f hf
      rw [← hz, add_plain', add_plain'] at this
      exact this
theorem below_drewN (w : World) (n : Nat) : Below w.heap.size w (w.drewN n) := ⟨rfl, rfl, rfl, Nat.le_refl _, fun _ _ => rfl⟩

end Go.Proofs.YtomnadmeolkagaaDoor
