/- Texts of mine put together (a claim holds at most 60 files): TickLaid. -/
import Derived.Test.YtlonmobfjpmokaaGreatDoorPartB01
import Derived.Test.YtlonmobfjpmokaaGreatDoorPartB09
import Derived.Test.YtlonmobfjpmokaaGreatDoorPartU01
import Derived.Test.YtlonmobfjpmokaaGreatDoorPartB16
import Derived.LaidMore
import Derived.LaidLaws
import Derived.Lib.LaidTab
import Derived.Stop.Joined
import Derived.Stop.LaidErr
import Derived.ChangeSlices

/- TickLaid -/
/- From the rows' condition on the listed variable to what the walks ask: the homes; and a list of numbers that came in. No further condition. -/
section
namespace Go.Proofs.YtlonmobfjpmokaaGreatDoor
open Go.ChangeShapes Go.WideShapes Go.ChangeAt Go.RowKit
open Bd
set_option linter.unusedVariables false

def lits3 {H : Type} (z : Int × Int × Int) : DataW H := .agg [.lit (.int .i64 z.1), .lit (.int .i64 z.2.1), .lit (.int .i64 z.2.2)]
theorem cells3 {H : Type} {enc : TypeId × Value → H} {P : Program} {w : World} {base : Nat} {sp : Nat → Bool} {held : Bool} {fuel : Nat} {t e : TypeId} {fs : Array Field} {cs : List Value} {z : Int × Int × Int} {p : List MemPlace}
    (ht : P.underlying t = some (.struct fs)) (he : P.underlying e = some (.int .i64)) (hce : P.cellsOf e = 1) (hct : P.cellsOf t = fs.size) (hs : fs.size = 3) (hok : i64Fields e fs = true)
    (h : DataW.trod enc P w base sp held fuel t cs = some (lits3 z, p)) : cs = [.int .i64 z.1, .int .i64 z.2.1, .int .i64 z.2.2] := by
  generalize hx : ((lits3 z : DataW H), p) = x at h
  obtain ⟨xs, n, _, rfl, hl, hlen, hf⟩ := DataW.trod_struct ht h
  rw [hct, hs] at hl
  have hxs : xs.map Prod.fst = [.lit (.int .i64 z.1), .lit (.int .i64 z.2.1), .lit (.int .i64 z.2.2)] := by
    have := congrArg Prod.fst hx
    simpa [lits3] using this.symm
  have key : ∀ i (v : Int), (xs.map Prod.fst)[i]? = some (.lit (.int .i64 v)) → i < 3 → cs[i]? = some (.int .i64 v) := by
    intro i v hv hi
    obtain ⟨f, hfi, ho, hty⟩ := i64Fields.at hok (show i < fs.size by omega)
    have h1 := hf i f hfi
    rw [ho, hty, hce, List.getElem?_eq_getElem (by omega)] at h1
    obtain ⟨y, hc, hd, hw⟩ := DataW.trod_int he h1
    have e1 : (xs.map Prod.fst)[i]? = some (.lit (.int .i64 y)) := by
      rw [List.getElem?_map, List.getElem?_eq_getElem (by omega)]
      simp [hd]
    rw [e1] at hv
    simp at hv
    subst hv
    have := congrArg (·[0]?) hc
    simpa [List.getElem?_take, List.getElem?_drop] using this
  have k0 := key 0 z.1 (by rw [hxs]; rfl) (by omega)
  have k1 := key 1 z.2.1 (by rw [hxs]; rfl) (by omega)
  have k2 := key 2 z.2.2 (by rw [hxs]; rfl) (by omega)
  obtain ⟨c0, c1, c2, rfl⟩ : ∃ c0 c1 c2, cs = [c0, c1, c2] := by
    match cs, hl with
    | [a, b, c], _ => exact ⟨a, b, c, rfl⟩
  simp at k0 k1 k2
  rw [k0, k1, k2]
theorem cells_of_rows {H : Type} {enc : TypeId × Value → H} {P : Program} {w : World} {base : Nat} {sp : Nat → Bool} {held : Bool} {fuel : Nat} {t e i64 : TypeId} {fs : Array Field} {n : Nat} {cs : List Value} {zs : List (Int × Int × Int)} {p : List MemPlace}
    (ht : P.underlying t = some (.array n e)) (hes : P.underlying e = some (.struct fs)) (he : P.underlying i64 = some (.int .i64)) (hc1 : P.cellsOf i64 = 1) (hce : P.cellsOf e = 3) (hs : fs.size = 3) (hok : i64Fields i64 fs = true) (hct : P.cellsOf t = n * 3)
    (h : DataW.trod enc P w base sp held fuel t cs = some (.agg (zs.map lits3), p)) : ∀ i z, zs[i]? = some z → (cs.drop (i * 3)).take 3 = [.int .i64 z.1, .int .i64 z.2.1, .int .i64 z.2.2] := by
  cases fuel with
  | zero => simp [DataW.trod] at h
  | succ fuel =>
    simp only [DataW.trod, ht, hce, hct] at h
    split at h
    · rename_i hl
      obtain ⟨xs, hm, hx⟩ := Option.map_eq_some_iff.1 h
      have hxs : xs.map (·.1) = zs.map lits3 := by
        have := congrArg Prod.fst hx
        simpa using this
      have hxl : xs.length = n := by simpa using Lib.mapM_length hm
      intro i z hz
      have hi : i < n := by
        have := congrArg List.length hxs
        simp at this
        have := (List.getElem?_eq_some_iff.1 hz).1
        omega
      obtain ⟨b, hb, hf⟩ := Lib.mapM_at hm i i (by simp [hi])
      have hb1 : b.1 = lits3 z := by
        have e1 : (xs.map (·.1))[i]? = some b.1 := by simp [hb]
        rw [hxs] at e1
        simp [hz] at e1
        exact e1.symm
      obtain ⟨b1, b2⟩ := b
      simp only at hb1
      subst hb1
      exact cells3 hes he hc1 (by rw [hce, hs]) hs hok hf
    · cases h
def homes : List (Int × Int × Int) := [(0, 0, 0), (0, 11, 0), (0, 0, 11), (0, 11, 11)]
theorem hmAt_head {W : World} {rest : List (String × DataW Unit)} (h : laidMet Tryz.prog (("loop.example/g00646/impl.homeTiles", .agg (homes.map lits3)) :: rest) W) : HmAt W := by
  obtain ⟨ps, ⟨g', t', cs, fuel, p, q, hg', ht', hvar, hd, _, _⟩, _⟩ := h
  have hg : Tryz.prog.globalNamed "loop.example/g00646/impl.homeTiles" = some 0 := by kernel_rfl
  obtain rfl := Option.some.inj (hg.symm.trans hg')
  obtain rfl : 92 = t' := Option.some.inj ((show (Tryz.prog.globals[0]?).map (·.type) = some 92 by kernel_rfl).symm.trans ht')
  have key := cells_of_rows (e := 40) (i64 := 2) (n := 4) (zs := homes) Tryz.underlying92 Tryz.underlying40 Tryz.underlying2 (by kernel_rfl) (by kernel_rfl) (by kernel_rfl) (by kernel_rfl) (by kernel_rfl) hd
  have cell : ∀ o f : Nat, ∀ z, homes[o]? = some z → f < 3 → W.cell? ⟨0, o * 3 + f, none⟩ = [Value.int .i64 z.1, .int .i64 z.2.1, .int .i64 z.2.2][f]? := by
    intro o f z hz hf
    have := World.var?_cell hg hvar (o * 3 + f)
    rw [this, ← key o z hz, List.getElem?_take, if_pos hf, List.getElem?_drop]
    simp
  have hc : ∀ o : Nat, o < 4 → W.cell? ⟨0, o * 3, none⟩ = some (.int .i64 0) ∧ W.cell? ⟨0, o * 3 + 1, none⟩ = some (.int .i64 (hmX o)) ∧ W.cell? ⟨0, o * 3 + 2, none⟩ = some (.int .i64 (hmY o)) := by
    intro o ho
    have : o = 0 ∨ o = 1 ∨ o = 2 ∨ o = 3 := by omega
    rcases this with rfl | rfl | rfl | rfl
    · exact ⟨cell 0 0 _ rfl (by omega), cell 0 1 _ rfl (by omega), cell 0 2 _ rfl (by omega)⟩
    · exact ⟨cell 1 0 _ rfl (by omega), cell 1 1 _ rfl (by omega), cell 1 2 _ rfl (by omega)⟩
    · exact ⟨cell 2 0 _ rfl (by omega), cell 2 1 _ rfl (by omega), cell 2 2 _ rfl (by omega)⟩
    · exact ⟨cell 3 0 _ rfl (by omega), cell 3 1 _ rfl (by omega), cell 3 2 _ rfl (by omega)⟩
  exact ⟨hc, cell_lt2 (hc 0 (by omega)).1⟩
theorem hmAt {W : World} (h : laidMetH Tryz.prog Rows.fnExactTickUnitRow.laid W) : HmAt W := by
  rw [MakeChecks.laidMetH_plain _ _ _ (by kernel_rfl)] at h
  exact hmAt_head h
theorem hmAtB {W : World} (h : laidMetH Tryz.prog Rows.fnExactTickBoardRow.laid W) : HmAt W := by
  rw [MakeChecks.laidMetH_plain _ _ _ (by kernel_rfl)] at h
  exact hmAt_head h
theorem hmAtM {W : World} (h : laidMetH Tryz.prog Rows.fnExactTickManyRow.laid W) : HmAt W := by
  rw [MakeChecks.laidMetH_plain _ _ _ (by kernel_rfl)] at h
  exact hmAt_head h
/- a list of numbers that came in -/
set_option maxRecDepth 100000 in
theorem open_argI {H : Type} {enc : TypeId × Value → H} {w : World} {b0 : Nat} {sp : Nat → Bool} {held : Bool} {r : Reach} {v : Value} {d : DataW H} {p : List MemPlace}
    (hv : Value.okWide Tryz.prog w r b0 28 v) (h : DataW.Trod enc Tryz.prog w 0 sp held 28 v d p) :
    ∃ (a : Option Addr) (m c : Nat) (l : List Int), v = .slice a m c ∧ m ≤ maxLen ∧ l.length = m ∧ ArgI w a l := by
  obtain ⟨fuel, hf⟩ := h
  obtain ⟨a0, m0, c0, rfl⟩ := okWide_slice Tryz.underlying28 hv
  rcases open_ints Tryz.underlying28 Tryz.underlying2 (by kernel_rfl) hf with ⟨hcs, _⟩ | ⟨a, len, cap, zs, hcs, _, hl, hm, hz, _, hc, _⟩
  · have : (Value.slice a0 m0 c0) = .slice none 0 0 := by simpa [Value.cells] using hcs
    rw [this]
    exact ⟨none, 0, 0, [], rfl, Nat.zero_le _, rfl, .inl rfl⟩
  · have e : (Value.slice a0 m0 c0) = .slice (some a) len cap := by simpa [Value.cells] using hcs
    rw [e]
    have hzl : len ≤ zs.length := by rw [hz]; split <;> omega
    refine ⟨some a, len, cap, zs.take len, rfl, by omega, by rw [List.length_take]; omega, ?_⟩
    by_cases h0 : len = 0
    · subst h0; exact .inl rfl
    · obtain ⟨b, off, spot⟩ := a
      have hc0 := hc 0 (by omega)
      have hspot : spot = none := by simpa [Addr.add] using World.cell?_spot hc0
      subst hspot
      refine .inr ⟨b, off, rfl, by have := cell_lt2 hc0; simpa [Addr.add] using this, fun i x hi => ?_⟩
      rw [List.getElem?_take] at hi
      split at hi
      · have hiz := (List.getElem?_eq_some_iff.1 hi).1
        have := hc i hiz
        rw [add_plain', List.getD_eq_getElem?_getD, hi] at this
        exact this
      · cases hi
end Go.Proofs.YtlonmobfjpmokaaGreatDoor
end
