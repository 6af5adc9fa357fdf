/- Worlds that came in: what they are in memory. No condition. -/
import Derived.Test.YtibkdkjcncfmgaaWorldRows
import Derived.ChangeArms
import Derived.WideShapes
namespace Go.Proofs.Ytibkdkjcncfmgaa
open Go.ChangeShapes Go.WideShapes Go.ChangeAt Go.RowKit
set_option linter.unusedVariables false

theorem trod_struct6 {H : Type} {enc : TypeId × Value → H} {P : Program} {w : World} {base : Nat} {spare : Nat → Bool} {held : Bool} {t : TypeId} {f0 f1 f2 f3 f4 f5 : Field} {fuel : Nat} {cs : List Value} {x : DataW H × List MemPlace} (ht : P.underlying t = some (.struct #[f0, f1, f2, f3, f4, f5])) (h : DataW.trod enc P w base spare held fuel t cs = some x) :
    ∃ y0 y1 y2 y3 y4 y5 n, cs.length = P.cellsOf t ∧ DataW.trod enc P w base spare held n f0.type ((cs.drop f0.offset).take (P.cellsOf f0.type)) = some y0 ∧ DataW.trod enc P w base spare held n f1.type ((cs.drop f1.offset).take (P.cellsOf f1.type)) = some y1 ∧
      DataW.trod enc P w base spare held n f2.type ((cs.drop f2.offset).take (P.cellsOf f2.type)) = some y2 ∧ DataW.trod enc P w base spare held n f3.type ((cs.drop f3.offset).take (P.cellsOf f3.type)) = some y3 ∧
      DataW.trod enc P w base spare held n f4.type ((cs.drop f4.offset).take (P.cellsOf f4.type)) = some y4 ∧ DataW.trod enc P w base spare held n f5.type ((cs.drop f5.offset).take (P.cellsOf f5.type)) = some y5 := by
  obtain ⟨xs, n, _, rfl, hl, hlen, hf⟩ := DataW.trod_struct ht h
  match xs, hlen with
  | [y0, y1, y2, y3, y4, y5], _ => exact ⟨y0, y1, y2, y3, y4, y5, n, hl, by simpa using hf 0 f0 rfl, by simpa using hf 1 f1 rfl, by simpa using hf 2 f2 rfl, by simpa using hf 3 f3 rfl, by simpa using hf 4 f4 rfl, by simpa using hf 5 f5 rfl⟩
set_option maxRecDepth 100000 in
theorem openW {H : Type} {enc : TypeId × Value → H} {w : World} {b0 : Nat} {sp : Nat → Bool} {held : Bool} {r : Reach} {v : Value} {d : DataW H} {p : List MemPlace}
    (hv : Value.okWide Try.prog w r b0 64 v) (h : DataW.Trod enc Try.prog w 0 sp held 64 v d p) :
    ∃ (pp : WP) (x : KW), v = .agg (pp.v x) ∧ (x.us.length ≤ maxLen ∧ x.fs.length ≤ maxLen ∧ x.fa.length ≤ maxLen ∧ x.se.length ≤ maxLen ∧ x.oo.length ≤ maxLen) ∧ ArgW w pp x := by
  obtain ⟨cs, rfl, hs⟩ := okWide_struct Try.underlying64 hv
  obtain ⟨fuel, hf0⟩ := h
  obtain ⟨y0, y1, y2, y3, y4, y5, n, hl, e0, e1, e2, e3, e4, e5⟩ := trod_struct6 Try.underlying64 hf0
  have hl7 : cs.toList.length = 7 := by rw [Array.length_toList, hs]; kernel_rfl
  have ki : Try.prog.cellsOf 2 = 1 := by kernel_rfl
  have kb : Try.prog.cellsOf 54 = 2 := by kernel_rfl
  have ku : Try.prog.cellsOf 51 = 1 := by kernel_rfl
  have kf : Try.prog.cellsOf 52 = 1 := by kernel_rfl
  have ka : Try.prog.cellsOf 60 = 1 := by kernel_rfl
  have ks : Try.prog.cellsOf 61 = 1 := by kernel_rfl
  have ko : Try.prog.cellsOf 62 = 1 := by kernel_rfl
  have hcc : (Value.agg cs).cells.toList = cs.toList := rfl
  rw [hcc] at e0 e1 e2 e3 e4 e5
  simp only [ki, kb, ka, ks, ko] at e0 e1 e2 e3 e4 e5
  match hc : cs.toList, hl7 with
  | [v0, v1, v2, v3, v4, v5, v6], _ =>
    rw [hc] at e0 e1 e2 e3 e4 e5
    obtain ⟨t, g0, _⟩ := DataW.trod_int Try.underlying2 e0
    obtain ⟨s, g1, _⟩ := DataW.trod_int Try.underlying2 e1
    obtain ⟨r0, r1, nn, _, _, i0, i1⟩ := trod_struct2 Try.underlying54 e2
    simp only [ku, kf] at i0 i1
    obtain ⟨u, mu, uc, us, hu, bu, lu, au⟩ := argU_open i0
    obtain ⟨f, mf, fc, fs, hff, bf, lf, af⟩ := argF_open i1
    obtain ⟨a, ma, ac, fa, ha, ba, la, aa⟩ := argA_open e3
    obtain ⟨q, ms, qc, se, hse, bs, ls, asx⟩ := argS_open e4
    obtain ⟨o, mo, oc, oo, ho, bo, lo, ao⟩ := argO_open e5
    have g0' : v0 = .int .i64 t := by simpa using g0
    have g1' : v1 = .int .i64 s := by simpa using g1
    have hu' : v2 = .slice u mu uc := by simpa using hu
    have hf' : v3 = .slice f mf fc := by simpa using hff
    have ha' : v4 = .slice a ma ac := by simpa using ha
    have hs' : v5 = .slice q ms qc := by simpa using hse
    have ho' : v6 = .slice o mo oc := by simpa using ho
    refine ⟨⟨u, uc, f, fc, a, ac, q, qc, o, oc⟩, ⟨t, s, us, fs, fa, se, oo⟩, ?_, ⟨by dsimp only; omega, by dsimp only; omega, by dsimp only; omega, by dsimp only; omega, by dsimp only; omega⟩, ⟨au, af, aa, asx, ao⟩⟩
    rw [← Array.toArray_toList (xs := cs), hc, g0', g1', hu', hf', ha', hs', ho', ← lu, ← lf, ← la, ← ls, ← lo]
end Go.Proofs.Ytibkdkjcncfmgaa
