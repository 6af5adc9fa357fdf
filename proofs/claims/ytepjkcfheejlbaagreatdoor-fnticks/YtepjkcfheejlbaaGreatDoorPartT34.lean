/- Texts of mine put together (a claim holds at most 60 files): TickLaw0, OpenBoard, TickLaid. -/
import Derived.Test.YtepjkcfheejlbaaGreatDoorPartT33
import Derived.Test.YtepjkcfheejlbaaGreatDoorPartT27
import Derived.Test.YtepjkcfheejlbaaGreatDoorPartT01
import Derived.Test.YtepjkcfheejlbaaGreatDoorPartT02
import Derived.ChangeArms
import Derived.WideShapes
import Derived.Test.YtepjkcfheejlbaaGreatDoorPartT17
import Derived.Test.YtepjkcfheejlbaaGreatDoorPartT25
import Derived.Test.YtepjkcfheejlbaaGreatDoorPartT00
import Derived.LaidMore
import Derived.LaidLaws
import Derived.Lib.LaidTab
import Derived.Stop.Joined
import Derived.Stop.LaidErr
import Derived.ChangeSlices

/- TickLaw0 -/
/- What the walks of the exact laws of ticks share: a result in memory, its blocks. No condition. -/
section
namespace Go.Proofs.YtepjkcfheejlbaaGreatDoor
open Go.ChangeShapes Go.WideShapes Go.ChangeAt Go.RowKit
open Bd
set_option linter.unusedVariables false

theorem tin_of {w : World} {base g g' gr mr : Nat} {us : List K10} {fs : List K3} {rm : List Int} (N : NewB w base g g' us fs) (L : Lst w gr mr rm) (hr : rm.length = mr) (hm : mr ≤ 1048576) : TIn w (some ⟨g, 0, none⟩) us.length us.length (some ⟨g', 0, none⟩) fs.length fs.length gr 0 mr mr us fs rm :=
  ⟨rfl, rfl, hr, by omega, .mk N.u.lt (rowU_is rfl N.u), .mk N.f.lt (rowF_is rfl N.f), L.iat, L.lt⟩
theorem RIs.forms {w : World} {base : Nat} {r : TR} {g v f : Value} {ng nu nf : Nat} (h : RIs w base r g v f) (hn : RLen r ng nu nf) : ∃ a1 a2 a3 c1 c2 c3, g = .slice a1 ng c1 ∧ v = .slice a2 nu c2 ∧ f = .slice a3 nf c3 := by
  obtain ⟨a1, c1, e1⟩ := h.g.form
  obtain ⟨a2, c2, e2, _⟩ := h.u.form
  obtain ⟨a3, c3, e3, _⟩ := h.f.form
  rw [hn.g] at e1
  rw [hn.u] at e2
  rw [hn.f] at e3
  exact ⟨a1, a2, a3, c1, c2, c3, e1, e2, e3⟩
structure RA (w : World) (base S : Nat) (r : TR) (g v f : Value) : Prop where
  row : w.rowIs S 32 5 (fun i => (resV r.c g r.l v f)[i]!)
  is : RIs w base r g v f
  bs : base ≤ S
theorem RA.new {w : World} {base : Nat} {r : TR} {g v f : Value} (h : RIs w base r g v f) (hb : base ≤ w.heap.size) : RA (w.alloc (.cells (resV r.c g r.l v f) 32)) base w.heap.size r g v f :=
  ⟨rowAll w (resV r.c g r.l v f) _, h.later ((Below.refl _ _).alloc (Nat.le_refl _) _), hb⟩
theorem RA.later {w w' : World} {base S : Nat} {r : TR} {g v f : Value} (h : RA w base S r g v f) (hb : Below w.heap.size w w') : RA w' base S r g v f := ⟨row_later h.row hb, h.is.later hb, h.bs⟩
def ABlk (S : Nat) (g v f : Value) (b : Nat) : Prop := b = S ∨ RBlk g v f b
theorem RA.lt {w : World} {base S : Nat} {r : TR} {g v f : Value} (h : RA w base S r g v f) (b : Nat) (hb : ABlk S g v f b) : base ≤ b ∧ b < w.heap.size := by
  rcases hb with rfl | hb
  · exact ⟨h.bs, h.row.lt⟩
  · exact h.is.lt b hb
theorem RA.kept {K : Nat → Prop} {w w' : World} {base S : Nat} {r : TR} {g v f : Value} (h : RA w base S r g v f) (k : KeptS K w w') (hs : ∀ b, ABlk S g v f b → ¬ K b) : RA w' base S r g v f :=
  ⟨h.row.of_block (k.block S h.row.lt (hs S (.inl rfl))), h.is.of_kept k (fun b hb => hs b (.inr hb)), h.bs⟩
theorem RA.cells {w : World} {base S : Nat} {r : TR} {g v f : Value} (h : RA w base S r g v f) : w.cell? ⟨S, 0, none⟩ = some (.int .i64 r.c) ∧ w.cell? ⟨S, 1, none⟩ = some g ∧ w.cell? ⟨S, 2, none⟩ = some (.int .i64 r.l) ∧ w.cell? ⟨S, 3, none⟩ = some v ∧ w.cell? ⟨S, 4, none⟩ = some f ∧ S < w.heap.size :=
  ⟨h.row.cell (i := 0) (by omega), h.row.cell (i := 1) (by omega), h.row.cell (i := 2) (by omega), h.row.cell (i := 3) (by omega), h.row.cell (i := 4) (by omega), h.row.lt⟩
theorem RA.ne {w : World} {base S : Nat} {r : TR} {g v f : Value} (h : RA w base S r g v f) : ¬ RBlk g v f S := by
  obtain ⟨c, hS, _⟩ := h.row
  obtain ⟨a1, a2, a3⟩ := h.is.apart hS
  rintro (e | e | e)
  · exact a1 e
  · exact a2 e
  · exact a3 e
theorem KeptS.of2 {w w' : World} {g h : Nat} (k : Kept2 w w' g h) : KeptS (fun b => b = g ∨ b = h) w w' := ⟨k.os, k.tape, k.output, k.size, fun i hi hn => k.block i hi (fun e => hn (.inl e)) (fun e => hn (.inr e))⟩
theorem KeptS.ofG {w w' : World} {g : Nat} (k : w.grownBy w' (some g)) : KeptS (fun b => b = g) w w' := ⟨k.os, k.tape, k.output, k.size, fun i hi hn => k.block i hi (fun e => hn (Option.some.inj e))⟩
theorem row_kept {K : Nat → Prop} {w w' : World} {g n : Nat} {t : TypeId} {f : Nat → Value} (h : w.rowIs g t n f) (k : KeptS K w w') (hs : ¬ K g) : w'.rowIs g t n f := h.of_block (k.block g h.lt hs)
theorem tu_len (us : List K10) (fs : List K3) (i : Int) (rm : List Int) : ∃ ng nu nf, RLen (tuR us fs i rm) ng nu nf := by
  suffices h : (tuR us fs i rm).g.length ≤ 1000 ∧ (tuR us fs i rm).us.length ≤ 1000 ∧ (tuR us fs i rm).fs.length ≤ 1000 from ⟨_, _, _, rfl, rfl, rfl, h.1, h.2.1, h.2.2⟩
  rcases tu_cases us fs i rm with ⟨h1, e⟩ | ⟨h1, hf, e⟩ | ⟨u, h1, hf, e⟩
  · rw [e]; exact ⟨by show 0 ≤ 1000; omega, by show 0 ≤ 1000; omega, by show 0 ≤ 1000; omega⟩
  · rw [e]; exact ⟨by show 0 ≤ 1000; omega, by show 0 ≤ 1000; omega, by show 0 ≤ 1000; omega⟩
  · rw [e]
    have t := (tg0 h1).step i
    exact ⟨by show (tkS _ i).gn.length ≤ _; rw [t.gl]; omega, by have := t.gd.n8; show (tkS _ i).us.length ≤ _; omega, by have := t.gd.n4; show (tkS _ i).fs.length ≤ _; omega⟩
end Go.Proofs.YtepjkcfheejlbaaGreatDoor
end

/- OpenBoard -/
/- Units, boards and numbers that came in: what they are in memory. No condition. -/
section
namespace Go.Proofs.YtepjkcfheejlbaaGreatDoor
open Go.ChangeShapes Go.WideShapes Go.ChangeAt Go.RowKit
set_option linter.unusedVariables false

set_option maxRecDepth 100000 in
theorem openU {H : Type} {enc : TypeId × Value → H} {w : World} {base b0 : Nat} {sp : Nat → Bool} {held : Bool} {r : Reach} {v : Value} {d : DataW H} {p : List MemPlace}
    (hv : Value.okWide Tryz.prog w r b0 128 v) (h : DataW.Trod enc Tryz.prog w base sp held 128 v d p) : ∃ x : K10, v = .agg x.v := by
  obtain ⟨cs, rfl, hs⟩ := okWide_struct Tryz.underlying128 hv
  obtain ⟨fuel, hf⟩ := h
  obtain ⟨zs, hz, hl, hw⟩ := cells_i64 (e := 2) Tryz.underlying128 Tryz.underlying2 (by kernel_rfl) (by kernel_rfl) (by kernel_rfl) hf
  have hl : zs.length = 10 := hl
  match zs, hl with
  | [y0, y1, y2, y3, y4, y5, y6, y7, y8, y9], _ =>
    refine ⟨⟨y0, y1, y2, y3, y4, y5, y6, y7, y8, y9⟩, ?_⟩
    have : cs.toList = [.int .i64 y0, .int .i64 y1, .int .i64 y2, .int .i64 y3, .int .i64 y4, .int .i64 y5, .int .i64 y6, .int .i64 y7, .int .i64 y8, .int .i64 y9] := by simpa [Value.cells] using hz
    rw [← Array.toArray_toList (xs := cs), this]
set_option maxRecDepth 100000 in
theorem openB {H : Type} {enc : TypeId × Value → H} {w : World} {b0 : Nat} {sp : Nat → Bool} {held : Bool} {r : Reach} {v : Value} {d : DataW H} {p : List MemPlace}
    (hv : Value.okWide Tryz.prog w r b0 50 v) (h : DataW.Trod enc Tryz.prog w 0 sp held 50 v d p) :
    ∃ (a : Option Addr) (m c : Nat) (a' : Option Addr) (m' c' : Nat) (us : List K10) (fs : List K3), v = .agg #[.slice a m c, .slice a' m' c'] ∧ m ≤ maxLen ∧ m' ≤ maxLen ∧ us.length = m ∧ fs.length = m' ∧ ArgU w a us ∧ ArgF w a' fs := by
  obtain ⟨cs, rfl, hs⟩ := okWide_struct Tryz.underlying50 hv
  obtain ⟨fuel, hf⟩ := h
  obtain ⟨y0, y1, n, _, hl, e0, e1⟩ := trod_struct2 Tryz.underlying50 hf
  have hl2 : cs.toList.length = 2 := by rw [Array.length_toList, hs]; kernel_rfl
  have k0 : Tryz.prog.cellsOf 47 = 1 := by kernel_rfl
  have k1 : Tryz.prog.cellsOf 48 = 1 := by kernel_rfl
  simp only [k0, k1] at e0 e1
  have hcc : (Value.agg cs).cells.toList = cs.toList := rfl
  rw [hcc] at e0 e1
  match hc : cs.toList, hl2 with
  | [s, f], _ =>
    rw [hc] at e0 e1
    obtain ⟨a, m, c, us, hs0, i1, i2, i3⟩ := argU_open e0
    obtain ⟨a', m', c', fs, hs1, j1, j2, j3⟩ := argF_open e1
    have hs0' : s = .slice a m c := by simpa using hs0
    have hs1' : f = .slice a' m' c' := by simpa using hs1
    refine ⟨a, m, c, a', m', c', us, fs, ?_, i1, j1, i2, j2, i3, j3⟩
    rw [← Array.toArray_toList (xs := cs), hc, hs0', hs1']
end Go.Proofs.YtepjkcfheejlbaaGreatDoor
end

/- TickLaid -/
/- From the rows' condition on the listed variable to what the walks ask: the homes; and a list of numbers that came in. No further condition. -/
section
namespace Go.Proofs.YtepjkcfheejlbaaGreatDoor
open Go.ChangeShapes Go.WideShapes Go.ChangeAt Go.RowKit
open Bd
set_option linter.unusedVariables false

def lits3 {H : Type} (z : Int × Int × Int) : DataW H := .agg [.lit (.int .i64 z.1), .lit (.int .i64 z.2.1), .lit (.int .i64 z.2.2)]
theorem cells3 {H : Type} {enc : TypeId × Value → H} {P : Program} {w : World} {base : Nat} {sp : Nat → Bool} {held : Bool} {fuel : Nat} {t e : TypeId} {fs : Array Field} {cs : List Value} {z : Int × Int × Int} {p : List MemPlace}
    (ht : P.underlying t = some (.struct fs)) (he : P.underlying e = some (.int .i64)) (hce : P.cellsOf e = 1) (hct : P.cellsOf t = fs.size) (hs : fs.size = 3) (hok : i64Fields e fs = true)
    (h : DataW.trod enc P w base sp held fuel t cs = some (lits3 z, p)) : cs = [.int .i64 z.1, .int .i64 z.2.1, .int .i64 z.2.2] := by
  generalize hx : ((lits3 z : DataW H), p) = x at h
  obtain ⟨xs, n, _, rfl, hl, hlen, hf⟩ := DataW.trod_struct ht h
  rw [hct, hs] at hl
  have hxs : xs.map Prod.fst = [.lit (.int .i64 z.1), .lit (.int .i64 z.2.1), .lit (.int .i64 z.2.2)] := by
    have := congrArg Prod.fst hx
    simpa [lits3] using this.symm
  have key : ∀ i (v : Int), (xs.map Prod.fst)[i]? = some (.lit (.int .i64 v)) → i < 3 → cs[i]? = some (.int .i64 v) := by
    intro i v hv hi
    obtain ⟨f, hfi, ho, hty⟩ := i64Fields.at hok (show i < fs.size by omega)
    have h1 := hf i f hfi
    rw [ho, hty, hce, List.getElem?_eq_getElem (by omega)] at h1
    obtain ⟨y, hc, hd, hw⟩ := DataW.trod_int he h1
    have e1 : (xs.map Prod.fst)[i]? = some (.lit (.int .i64 y)) := by
      rw [List.getElem?_map, List.getElem?_eq_getElem (by omega)]
      simp [hd]
    rw [e1] at hv
    simp at hv
    subst hv
    have := congrArg (·[0]?) hc
    simpa [List.getElem?_take, List.getElem?_drop] using this
  have k0 := key 0 z.1 (by rw [hxs]; rfl) (by omega)
  have k1 := key 1 z.2.1 (by rw [hxs]; rfl) (by omega)
  have k2 := key 2 z.2.2 (by rw [hxs]; rfl) (by omega)
  obtain ⟨c0, c1, c2, rfl⟩ : ∃ c0 c1 c2, cs = [c0, c1, c2] := by
    match cs, hl with
    | [a, b, c], _ => exact ⟨a, b, c, rfl⟩
  simp at k0 k1 k2
  rw [k0, k1, k2]
theorem cells_of_rows {H : Type} {enc : TypeId × Value → H} {P : Program} {w : World} {base : Nat} {sp : Nat → Bool} {held : Bool} {fuel : Nat} {t e i64 : TypeId} {fs : Array Field} {n : Nat} {cs : List Value} {zs : List (Int × Int × Int)} {p : List MemPlace}
    (ht : P.underlying t = some (.array n e)) (hes : P.underlying e = some (.struct fs)) (he : P.underlying i64 = some (.int .i64)) (hc1 : P.cellsOf i64 = 1) (hce : P.cellsOf e = 3) (hs : fs.size = 3) (hok : i64Fields i64 fs = true) (hct : P.cellsOf t = n * 3)
    (h : DataW.trod enc P w base sp held fuel t cs = some (.agg (zs.map lits3), p)) : ∀ i z, zs[i]? = some z → (cs.drop (i * 3)).take 3 = [.int .i64 z.1, .int .i64 z.2.1, .int .i64 z.2.2] := by
  cases fuel with
  | zero => simp [DataW.trod] at h
  | succ fuel =>
    simp only [DataW.trod, ht, hce, hct] at h
    split at h
    · rename_i hl
      obtain ⟨xs, hm, hx⟩ := Option.map_eq_some_iff.1 h
      have hxs : xs.map (·.1) = zs.map lits3 := by
        have := congrArg Prod.fst hx
        simpa using this
      have hxl : xs.length = n := by simpa using Lib.mapM_length hm
      intro i z hz
      have hi : i < n := by
        have := congrArg List.length hxs
        simp at this
        have := (List.getElem?_eq_some_iff.1 hz).1
        omega
      obtain ⟨b, hb, hf⟩ := Lib.mapM_at hm i i (by simp [hi])
      have hb1 : b.1 = lits3 z := by
        have e1 : (xs.map (·.1))[i]? = some b.1 := by simp [hb]
        rw [hxs] at e1
        simp [hz] at e1
        exact e1.symm
      obtain ⟨b1, b2⟩ := b
      simp only at hb1
      subst hb1
      exact cells3 hes he hc1 (by rw [hce, hs]) hs hok hf
    · cases h
def homes : List (Int × Int × Int) := [(0, 0, 0), (0, 11, 0), (0, 0, 11), (0, 11, 11)]
theorem hmAt_head {W : World} {rest : List (String × DataW Unit)} (h : laidMet Tryz.prog (("loop.example/g00646/impl.homeTiles", .agg (homes.map lits3)) :: rest) W) : HmAt W := by
  obtain ⟨ps, ⟨g', t', cs, fuel, p, q, hg', ht', hvar, hd, _, _⟩, _⟩ := h
  have hg : Tryz.prog.globalNamed "loop.example/g00646/impl.homeTiles" = some 0 := by kernel_rfl
  obtain rfl := Option.some.inj (hg.symm.trans hg')
  obtain rfl : 92 = t' := Option.some.inj ((show (Tryz.prog.globals[0]?).map (·.type) = some 92 by kernel_rfl).symm.trans ht')
  have key := cells_of_rows (e := 40) (i64 := 2) (n := 4) (zs := homes) Tryz.underlying92 Tryz.underlying40 Tryz.underlying2 (by kernel_rfl) (by kernel_rfl) (by kernel_rfl) (by kernel_rfl) (by kernel_rfl) hd
  have cell : ∀ o f : Nat, ∀ z, homes[o]? = some z → f < 3 → W.cell? ⟨0, o * 3 + f, none⟩ = [Value.int .i64 z.1, .int .i64 z.2.1, .int .i64 z.2.2][f]? := by
    intro o f z hz hf
    have := World.var?_cell hg hvar (o * 3 + f)
    rw [this, ← key o z hz, List.getElem?_take, if_pos hf, List.getElem?_drop]
    simp
  have hc : ∀ o : Nat, o < 4 → W.cell? ⟨0, o * 3, none⟩ = some (.int .i64 0) ∧ W.cell? ⟨0, o * 3 + 1, none⟩ = some (.int .i64 (hmX o)) ∧ W.cell? ⟨0, o * 3 + 2, none⟩ = some (.int .i64 (hmY o)) := by
    intro o ho
    have : o = 0 ∨ o = 1 ∨ o = 2 ∨ o = 3 := by omega
    rcases this with rfl | rfl | rfl | rfl
    · exact ⟨cell 0 0 _ rfl (by omega), cell 0 1 _ rfl (by omega), cell 0 2 _ rfl (by omega)⟩
    · exact ⟨cell 1 0 _ rfl (by omega), cell 1 1 _ rfl (by omega), cell 1 2 _ rfl (by omega)⟩
    · exact ⟨cell 2 0 _ rfl (by omega), cell 2 1 _ rfl (by omega), cell 2 2 _ rfl (by omega)⟩
    · exact ⟨cell 3 0 _ rfl (by omega), cell 3 1 _ rfl (by omega), cell 3 2 _ rfl (by omega)⟩
  exact ⟨hc, cell_lt2 (hc 0 (by omega)).1⟩
theorem hmAt {W : World} (h : laidMetH Tryz.prog Rows.fnExactTickUnitRow.laid W) : HmAt W := by
  rw [MakeChecks.laidMetH_plain _ _ _ (by kernel_rfl)] at h
  exact hmAt_head h
theorem hmAtB {W : World} (h : laidMetH Tryz.prog Rows.fnExactTickBoardRow.laid W) : HmAt W := by
  rw [MakeChecks.laidMetH_plain _ _ _ (by kernel_rfl)] at h
  exact hmAt_head h
theorem hmAtM {W : World} (h : laidMetH Tryz.prog Rows.fnExactTickManyRow.laid W) : HmAt W := by
  rw [MakeChecks.laidMetH_plain _ _ _ (by kernel_rfl)] at h
  exact hmAt_head h
/- a list of numbers that came in -/
set_option maxRecDepth 100000 in
theorem open_argI {H : Type} {enc : TypeId × Value → H} {w : World} {b0 : Nat} {sp : Nat → Bool} {held : Bool} {r : Reach} {v : Value} {d : DataW H} {p : List MemPlace}
    (hv : Value.okWide Tryz.prog w r b0 28 v) (h : DataW.Trod enc Tryz.prog w 0 sp held 28 v d p) :
    ∃ (a : Option Addr) (m c : Nat) (l : List Int), v = .slice a m c ∧ m ≤ maxLen ∧ l.length = m ∧ ArgI w a l := by
  obtain ⟨fuel, hf⟩ := h
  obtain ⟨a0, m0, c0, rfl⟩ := okWide_slice Tryz.underlying28 hv
  rcases open_ints Tryz.underlying28 Tryz.underlying2 (by kernel_rfl) hf with ⟨hcs, _⟩ | ⟨a, len, cap, zs, hcs, _, hl, hm, hz, _, hc, _⟩
  · have : (Value.slice a0 m0 c0) = .slice none 0 0 := by simpa [Value.cells] using hcs
    rw [this]
    exact ⟨none, 0, 0, [], rfl, Nat.zero_le _, rfl, .inl rfl⟩
  · have e : (Value.slice a0 m0 c0) = .slice (some a) len cap := by simpa [Value.cells] using hcs
    rw [e]
    have hzl : len ≤ zs.length := by rw [hz]; split <;> omega
    refine ⟨some a, len, cap, zs.take len, rfl, by omega, by rw [List.length_take]; omega, ?_⟩
    by_cases h0 : len = 0
    · subst h0; exact .inl rfl
    · obtain ⟨b, off, spot⟩ := a
      have hc0 := hc 0 (by omega)
      have hspot : spot = none := by simpa [Addr.add] using World.cell?_spot hc0
      subst hspot
      refine .inr ⟨b, off, rfl, by have := cell_lt2 hc0; simpa [Addr.add] using this, fun i x hi => ?_⟩
      rw [List.getElem?_take] at hi
      split at hi
      · have hiz := (List.getElem?_eq_some_iff.1 hi).1
        have := hc i hiz
        rw [add_plain', List.getD_eq_getElem?_getD, hi] at this
        exact this
      · cases hi
end Go.Proofs.YtepjkcfheejlbaaGreatDoor
end
