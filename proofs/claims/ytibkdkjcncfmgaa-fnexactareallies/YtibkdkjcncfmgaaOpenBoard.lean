/- Units, boards and numbers that came in: what they are in memory. No condition. -/
import Derived.Test.YtibkdkjcncfmgaaRowsU
import Derived.Test.YtibkdkjcncfmgaaRowsF
import Derived.ChangeArms
import Derived.WideShapes
namespace Go.Proofs.Ytibkdkjcncfmgaa
open Go.ChangeShapes Go.WideShapes Go.ChangeAt Go.RowKit
set_option linter.unusedVariables false

set_option maxRecDepth 100000 in
theorem openU {H : Type} {enc : TypeId × Value → H} {w : World} {base b0 : Nat} {sp : Nat → Bool} {held : Bool} {r : Reach} {v : Value} {d : DataW H} {p : List MemPlace}
    (hv : Value.okWide Try.prog w r b0 159 v) (h : DataW.Trod enc Try.prog w base sp held 159 v d p) : ∃ x : K10, v = .agg x.v := by
  obtain ⟨cs, rfl, hs⟩ := okWide_struct Try.underlying159 hv
  obtain ⟨fuel, hf⟩ := h
  obtain ⟨zs, hz, hl, hw⟩ := cells_i64 (e := 2) Try.underlying159 Try.underlying2 (by kernel_rfl) (by kernel_rfl) (by kernel_rfl) hf
  have hl : zs.length = 10 := hl
  match zs, hl with
  | [y0, y1, y2, y3, y4, y5, y6, y7, y8, y9], _ =>
    refine ⟨⟨y0, y1, y2, y3, y4, y5, y6, y7, y8, y9⟩, ?_⟩
    have : cs.toList = [.int .i64 y0, .int .i64 y1, .int .i64 y2, .int .i64 y3, .int .i64 y4, .int .i64 y5, .int .i64 y6, .int .i64 y7, .int .i64 y8, .int .i64 y9] := by simpa [Value.cells] using hz
    rw [← Array.toArray_toList (xs := cs), this]
set_option maxRecDepth 100000 in
theorem openB {H : Type} {enc : TypeId × Value → H} {w : World} {b0 : Nat} {sp : Nat → Bool} {held : Bool} {r : Reach} {v : Value} {d : DataW H} {p : List MemPlace}
    (hv : Value.okWide Try.prog w r b0 54 v) (h : DataW.Trod enc Try.prog w 0 sp held 54 v d p) :
    ∃ (a : Option Addr) (m c : Nat) (a' : Option Addr) (m' c' : Nat) (us : List K10) (fs : List K3), v = .agg #[.slice a m c, .slice a' m' c'] ∧ m ≤ maxLen ∧ m' ≤ maxLen ∧ us.length = m ∧ fs.length = m' ∧ ArgU w a us ∧ ArgF w a' fs := by
  obtain ⟨cs, rfl, hs⟩ := okWide_struct Try.underlying54 hv
  obtain ⟨fuel, hf⟩ := h
  obtain ⟨y0, y1, n, _, hl, e0, e1⟩ := trod_struct2 Try.underlying54 hf
  have hl2 : cs.toList.length = 2 := by rw [Array.length_toList, hs]; kernel_rfl
  have k0 : Try.prog.cellsOf 51 = 1 := by kernel_rfl
  have k1 : Try.prog.cellsOf 52 = 1 := by kernel_rfl
  simp only [k0, k1] at e0 e1
  have hcc : (Value.agg cs).cells.toList = cs.toList := rfl
  rw [hcc] at e0 e1
  match hc : cs.toList, hl2 with
  | [s, f], _ =>
    rw [hc] at e0 e1
    obtain ⟨a, m, c, us, hs0, i1, i2, i3⟩ := argU_open e0
    obtain ⟨a', m', c', fs, hs1, j1, j2, j3⟩ := argF_open e1
    have hs0' : s = .slice a m c := by simpa using hs0
    have hs1' : f = .slice a' m' c' := by simpa using hs1
    refine ⟨a, m, c, a', m', c', us, fs, ?_, i1, j1, i2, j2, i3, j3⟩
    rw [← Array.toArray_toList (xs := cs), hc, hs0', hs1']
end Go.Proofs.Ytibkdkjcncfmgaa
