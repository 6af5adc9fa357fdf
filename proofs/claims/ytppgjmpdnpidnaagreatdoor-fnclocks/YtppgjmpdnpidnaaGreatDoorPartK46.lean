/- Texts of mine put together (a claim holds at most 60 files): TickLaid, LawClocksRow. -/
import Derived.Test.YtppgjmpdnpidnaaGreatDoorPartK16
import Derived.Test.YtppgjmpdnpidnaaGreatDoorPartK22
import Derived.Test.YtppgjmpdnpidnaaGreatDoorPartK00
import Derived.Test.YtppgjmpdnpidnaaGreatDoorPartK45
import Derived.LaidMore
import Derived.LaidLaws
import Derived.Lib.LaidTab
import Derived.Stop.Joined
import Derived.Stop.LaidErr
import Derived.ChangeSlices

/- TickLaid -/
/- From the rows' condition on the listed variable to what the walks ask: the homes; and a list of numbers that came in. No further condition. -/
section
namespace Go.Proofs.YtppgjmpdnpidnaaGreatDoor
open Go.ChangeShapes Go.WideShapes Go.ChangeAt Go.RowKit
open Bd
set_option linter.unusedVariables false

def lits3 {H : Type} (z : Int × Int × Int) : DataW H := .agg [.lit (.int .i64 z.1), .lit (.int .i64 z.2.1), .lit (.int .i64 z.2.2)]
theorem cells3 {H : Type} {enc : TypeId × Value → H} {P : Program} {w : World} {base : Nat} {sp : Nat → Bool} {held : Bool} {fuel : Nat} {t e : TypeId} {fs : Array Field} {cs : List Value} {z : Int × Int × Int} {p : List MemPlace}
    (ht : P.underlying t = some (.struct fs)) (he : P.underlying e = some (.int .i64)) (hce : P.cellsOf e = 1) (hct : P.cellsOf t = fs.size) (hs : fs.size = 3) (hok : i64Fields e fs = true)
    (h : DataW.trod enc P w base sp held fuel t cs = some (lits3 z, p)) : cs = [.int .i64 z.1, .int .i64 z.2.1, .int .i64 z.2.2] := by
  generalize hx : ((lits3 z : DataW H), p) = x at h
  obtain ⟨xs, n, _, rfl, hl, hlen, hf⟩ := DataW.trod_struct ht h
  rw [hct, hs] at hl
  have hxs : xs.map Prod.fst = [.lit (.int .i64 z.1), .lit (.int .i64 z.2.1), .lit (.int .i64 z.2.2)] := by
    have := congrArg Prod.fst hx
    simpa [lits3] using this.symm
  have key : ∀ i (v : Int), (xs.map Prod.fst)[i]? = some (.lit (.int .i64 v)) → i < 3 → cs[i]? = some (.int .i64 v) := by
    intro i v hv hi
    obtain ⟨f, hfi, ho, hty⟩ := i64Fields.at hok (show i < fs.size by omega)
    have h1 := hf i f hfi
    rw [ho, hty, hce, List.getElem?_eq_getElem (by omega)] at h1
    obtain ⟨y, hc, hd, hw⟩ := DataW.trod_int he h1
    have e1 : (xs.map Prod.fst)[i]? = some (.lit (.int .i64 y)) := by
      rw [List.getElem?_map, List.getElem?_eq_getElem (by omega)]
      simp [hd]
    rw [e1] at hv
    simp at hv
    subst hv
    have := congrArg (·[0]?) hc
    simpa [List.getElem?_take, List.getElem?_drop] using this
  have k0 := key 0 z.1 (by rw [hxs]; rfl) (by omega)
  have k1 := key 1 z.2.1 (by rw [hxs]; rfl) (by omega)
  have k2 := key 2 z.2.2 (by rw [hxs]; rfl) (by omega)
  obtain ⟨c0, c1, c2, rfl⟩ : ∃ c0 c1 c2, cs = [c0, c1, c2] := by
    match cs, hl with
    | [a, b, c], _ => exact ⟨a, b, c, rfl⟩
  simp at k0 k1 k2
  rw [k0, k1, k2]
theorem cells_of_rows {H : Type} {enc : TypeId × Value → H} {P : Program} {w : World} {base : Nat} {sp : Nat → Bool} {held : Bool} {fuel : Nat} {t e i64 : TypeId} {fs : Array Field} {n : Nat} {cs : List Value} {zs : List (Int × Int × Int)} {p : List MemPlace}
    (ht : P.underlying t = some (.array n e)) (hes : P.underlying e = some (.struct fs)) (he : P.underlying i64 = some (.int .i64)) (hc1 : P.cellsOf i64 = 1) (hce : P.cellsOf e = 3) (hs : fs.size = 3) (hok : i64Fields i64 fs = true) (hct : P.cellsOf t = n * 3)
    (h : DataW.trod enc P w base sp held fuel t cs = some (.agg (zs.map lits3), p)) : ∀ i z, zs[i]? = some z → (cs.drop (i * 3)).take 3 = [.int .i64 z.1, .int .i64 z.2.1, .int .i64 z.2.2] := by
  cases fuel with
  | zero => simp [DataW.trod] at h
  | succ fuel =>
    simp only [DataW.trod, ht, hce, hct] at h
    split at h
    · rename_i hl
      obtain ⟨xs, hm, hx⟩ := Option.map_eq_some_iff.1 h
      have hxs : xs.map (·.1) = zs.map lits3 := by
        have := congrArg Prod.fst hx
        simpa using this
      have hxl : xs.length = n := by simpa using Lib.mapM_length hm
      intro i z hz
      have hi : i < n := by
        have := congrArg List.length hxs
        simp at this
        have := (List.getElem?_eq_some_iff.1 hz).1
        omega
      obtain ⟨b, hb, hf⟩ := Lib.mapM_at hm i i (by simp [hi])
      have hb1 : b.1 = lits3 z := by
        have e1 : (xs.map (·.1))[i]? = some b.1 := by simp [hb]
        rw [hxs] at e1
        simp [hz] at e1
        exact e1.symm
      obtain ⟨b1, b2⟩ := b
      simp only at hb1
      subst hb1
      exact cells3 hes he hc1 (by rw [hce, hs]) hs hok hf
    · cases h
def homes : List (Int × Int × Int) := [(0, 0, 0), (0, 11, 0), (0, 0, 11), (0, 11, 11)]
theorem hmAt_head {W : World} {rest : List (String × DataW Unit)} (h : laidMet Tryz.prog (("loop.example/g00646/impl.homeTiles", .agg (homes.map lits3)) :: rest) W) : HmAt W := by
  obtain ⟨ps, ⟨g', t', cs, fuel, p, q, hg', ht', hvar, hd, _, _⟩, _⟩ := h
  have hg : Tryz.prog.globalNamed "loop.example/g00646/impl.homeTiles" = some 0 := by kernel_rfl
  obtain rfl := Option.some.inj (hg.symm.trans hg')
  obtain rfl : 185 = t' := Option.some.inj ((show (Tryz.prog.globals[0]?).map (·.type) = some 185 by kernel_rfl).symm.trans ht')
  have key := cells_of_rows (e := 179) (i64 := 2) (n := 4) (zs := homes) Tryz.underlying185 Tryz.underlying179 Tryz.underlying2 (by kernel_rfl) (by kernel_rfl) (by kernel_rfl) (by kernel_rfl) (by kernel_rfl) hd
  have cell : ∀ o f : Nat, ∀ z, homes[o]? = some z → f < 3 → W.cell? ⟨0, o * 3 + f, none⟩ = [Value.int .i64 z.1, .int .i64 z.2.1, .int .i64 z.2.2][f]? := by
    intro o f z hz hf
    have := World.var?_cell hg hvar (o * 3 + f)
    rw [this, ← key o z hz, List.getElem?_take, if_pos hf, List.getElem?_drop]
    simp
  have hc : ∀ o : Nat, o < 4 → W.cell? ⟨0, o * 3, none⟩ = some (.int .i64 0) ∧ W.cell? ⟨0, o * 3 + 1, none⟩ = some (.int .i64 (hmX o)) ∧ W.cell? ⟨0, o * 3 + 2, none⟩ = some (.int .i64 (hmY o)) := by
    intro o ho
    have : o = 0 ∨ o = 1 ∨ o = 2 ∨ o = 3 := by omega
    rcases this with rfl | rfl | rfl | rfl
    · exact ⟨cell 0 0 _ rfl (by omega), cell 0 1 _ rfl (by omega), cell 0 2 _ rfl (by omega)⟩
    · exact ⟨cell 1 0 _ rfl (by omega), cell 1 1 _ rfl (by omega), cell 1 2 _ rfl (by omega)⟩
    · exact ⟨cell 2 0 _ rfl (by omega), cell 2 1 _ rfl (by omega), cell 2 2 _ rfl (by omega)⟩
    · exact ⟨cell 3 0 _ rfl (by omega), cell 3 1 _ rfl (by omega), cell 3 2 _ rfl (by omega)⟩
  exact ⟨hc, cell_lt2 (hc 0 (by omega)).1⟩
end Go.Proofs.YtppgjmpdnpidnaaGreatDoor
end

/- LawClocksRow -/
/- The walk of the law FnClocks, at a slice of bytes that came in, and the row's condition on the homes. Condition: the homes lie in their variable. -/
section
namespace Go.Proofs.YtppgjmpdnpidnaaGreatDoor
open Go.ChangeShapes Go.WideShapes Go.ChangeAt Go.RowKit
theorem walk_fnClocks (a0 : Option Addr) (len0 cap0 : Nat) (z0 : List Int) (w : World) (w0 : IsRow .u8 w a0 len0 cap0 z0) (hL : HmAt w) :
    Calls Tryz.prog 3 #[.slice a0 len0 cap0] w fun e w' => e = .returned (.bool true) ∧ Below w.heap.size w w' := clocks_walk a0 len0 cap0 w (Bytes.of_row w0) hL
theorem hmAtC {W : World} (h : laidMetH Tryz.prog Rows.fnClocksRow.laid W) : HmAt W := by
  rw [MakeChecks.laidMetH_plain _ _ _ (by kernel_rfl)] at h
  exact hmAt_head h
end Go.Proofs.YtppgjmpdnpidnaaGreatDoor
end
