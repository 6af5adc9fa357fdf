/- The walk of the exact law of PutUnit. No condition. -/
import Derived.Test.YtcpgbhjnhahecaaPutImpl2
import Derived.Test.YtcpgbhjnhahecaaMarks3
import Derived.Test.YtcpgbhjnhahecaaOwnLaw
import Derived.Deep.Cut
import Derived.Deep.CutRange
namespace Go.Proofs.Ytcpgbhjnhahecaa
open Go.ChangeShapes Go.WideShapes Go.ChangeAt Go.RowKit
open Bd
set_option linter.unusedVariables false

theorem two_put (w : World) (s f : Value) (u : K10) (t t2 : TypeId) : let W := (w.alloc (.cells #[s, f] t)).alloc (.cells u.v t2)
    W.rowIs w.heap.size t 2 (fun i => if i = 0 then s else f) ∧ U1 W (w.heap.size + 1) 0 u ∧ Below w.heap.size w W ∧ W.heap.size = w.heap.size + 1 + 1 := by
  intro W
  have s1 : (w.alloc (.cells #[s, f] t)).heap.size = w.heap.size + 1 := size_new _ _
  have s2 : W.heap.size = w.heap.size + 1 + 1 := by show (World.alloc _ _).heap.size = _; rw [size_new, s1]
  have b1 : Below (w.alloc (.cells #[s, f] t)).heap.size (w.alloc (.cells #[s, f] t)) W := (Below.refl _ _).alloc (Nat.le_refl _) _
  have r0 := rowTwo w s f t
  have r1 := U1.new (w.alloc (.cells #[s, f] t)) u t2
  rw [s1] at r1
  exact ⟨r0.of_block (b1.block _ r0.lt), r1, ((Below.refl _ _).alloc (Nat.le_refl _) _).alloc (by rw [s1]; omega) _, s2⟩
/- a result that a call has made: its block, its lists -/
structure ResAt (w : World) (base S : Nat) (C : Int) (l : List K10) (fl : List K3) (v f : Value) : Prop where
  row : w.rowIs S 33 3 (fun i => (res3 C v f)[i]!)
  u : SlU w base v l
  f : SlF w base f fl
  bs : base ≤ S
theorem ResAt.later {w w' : World} {base S : Nat} {C : Int} {l : List K10} {fl : List K3} {v f : Value} (h : ResAt w base S C l fl v f) (hb : Below w.heap.size w w') : ResAt w' base S C l fl v f :=
  ⟨row_later h.row hb, h.u.below hb, h.f.below hb, h.bs⟩
theorem resRow {w : World} {S : Nat} {t : TypeId} {f0 : Nat → Value} (h : w.rowIs S t 3 f0) (C : Int) (v f : Value) :
    (((w.setCell ⟨S, 0, none⟩ (.int .i64 C)).setCell ⟨S, 1, none⟩ v).setCell ⟨S, 2, none⟩ f).rowIs S t 3 (fun i => (res3 C v f)[i]!) :=
  (((h.set 0 (.int .i64 C)).set 1 v).set 2 f).congr (fun i hi => by rcases i with _ | _ | _ | i <;> first | rfl | omega)
theorem resSet {w : World} {base base2 S : Nat} {C : Int} {l : List K10} {fl : List K3} {v f : Value} {f0 : Nat → Value} (h : w.rowIs S 33 3 f0) (hu : SlU w base2 v l) (hf : SlF w base2 f fl) (h1 : S < base2) (h2 : base ≤ S) :
    ResAt (((w.setCell ⟨S, 0, none⟩ (.int .i64 C)).setCell ⟨S, 1, none⟩ v).setCell ⟨S, 2, none⟩ f) base S C l fl v f :=
  ⟨resRow h C v f, (((hu.set h1 _).set h1 _).set h1 _).mono (by omega), (((hf.set h1 _).set h1 _).set h1 _).mono (by omega), h2⟩
theorem resNew {w : World} {base base2 : Nat} {C : Int} {l : List K10} {fl : List K3} {v f : Value} (hu : SlU w base2 v l) (hf : SlF w base2 f fl) (h1 : base ≤ base2) (h2 : base ≤ w.heap.size) :
    ResAt (w.alloc (.cells (res3 C v f) 33)) base w.heap.size C l fl v f :=
  ⟨rowAll w (res3 C v f) _, (hu.below ((Below.refl _ _).alloc (Nat.le_refl _) _)).mono h1, (hf.below ((Below.refl _ _).alloc (Nat.le_refl _) _)).mono h1, h2⟩
theorem pu_len (us : List K10) (fs : List K3) (u : K10) : (puU us fs u).length ≤ 1000 ∧ (puF us fs u).length ≤ 1000 := by
  rcases pu_cases us fs u with ⟨h1, e, eu, ef⟩ | ⟨h1, h2, e, eu, ef⟩ | ⟨h1, h2, h3, e, eu, ef⟩ | ⟨h1, h2, h3, e, eu, ef⟩
  · rw [eu, ef]; simp
  · rw [eu, ef]; simp
  · rw [eu, ef]; simp
  · rw [eu, ef]; have := (bf_ok h1).2.1; omega
theorem ResAt.cells {w : World} {base S : Nat} {C : Int} {l : List K10} {fl : List K3} {v f : Value} (h : ResAt w base S C l fl v f) : w.cell? ⟨S, 0, none⟩ = some (.int .i64 C) ∧ w.cell? ⟨S, 1, none⟩ = some v ∧ w.cell? ⟨S, 2, none⟩ = some f :=
  ⟨h.row.cell (i := 0) (by omega), h.row.cell (i := 1) (by omega), h.row.cell (i := 2) (by omega)⟩
def ResBlk (S : Nat) (v f : Value) (b : Nat) : Prop := b = S ∨ v.ownBlock = some b ∨ f.ownBlock = some b
theorem ResAt.lt {w : World} {base S : Nat} {C : Int} {l : List K10} {fl : List K3} {v f : Value} (h : ResAt w base S C l fl v f) (b : Nat) (hb : ResBlk S v f b) : base ≤ b ∧ b < w.heap.size := by
  rcases hb with rfl | hb | hb
  · exact ⟨h.bs, h.row.lt⟩
  · exact h.u.lt b hb
  · exact h.f.lt b hb
theorem ResAt.of_block {w w' : World} {base S : Nat} {C : Int} {l : List K10} {fl : List K3} {v f : Value} (h : ResAt w base S C l fl v f) (he : ∀ b, ResBlk S v f b → w'.heap[b]? = w.heap[b]?) : ResAt w' base S C l fl v f :=
  ⟨h.row.of_block (he S (.inl rfl)), h.u.of_block (fun b hb => he b (.inr (.inl hb))), h.f.of_block (fun b hb => he b (.inr (.inr hb))), h.bs⟩
theorem ResAt.ne {w : World} {base S : Nat} {C : Int} {l : List K10} {fl : List K3} {v f : Value} (h : ResAt w base S C l fl v f) : v.ownBlock ≠ some S ∧ f.ownBlock ≠ some S := by
  obtain ⟨cur, hr, _⟩ := h.row
  constructor
  · intro hi
    rcases h.u.2 with ⟨h1, h2⟩ | ⟨g, cap, cur, hv, hbb, hg, r⟩
    · rw [h1] at hi; cases hi
    · rw [hv] at hi
      have e1 : g = S := Option.some.inj hi
      subst e1
      rw [hg] at hr
      simp at hr
  · intro hi
    rcases h.f.2 with ⟨h1, h2⟩ | ⟨g, cap, cur, hv, hbb, hg, r⟩
    · rw [h1] at hi; cases hi
    · rw [hv] at hi
      have e1 : g = S := Option.some.inj hi
      subst e1
      rw [hg] at hr
      simp at hr
theorem KeptV.below {W w w' : World} {n : Nat} {v f : Value} (k : KeptV w w' v f) (hb : Below n W w) (hn : n ≤ W.heap.size) (h1 : ∀ b, v.ownBlock = some b → n ≤ b) (h2 : ∀ b, f.ownBlock = some b → n ≤ b) : Below n W w' :=
  hb.trans ⟨k.os, k.tape, k.output, k.size, fun i hi => k.block i (Nat.lt_of_lt_of_le hi (Nat.le_trans hn hb.size)) (fun e => by have := h1 i e; omega) (fun e => by have := h2 i e; omega)⟩
abbrev ZR : Obj := .cells (res3 0 (.slice none 0 0) (.slice none 0 0)) 33
theorem zr_row (w : World) : (w.alloc ZR).rowIs w.heap.size 33 3 (fun i => (res3 0 (.slice none 0 0) (.slice none 0 0))[i]!) := rowAll w _ _
theorem zr_cells {w : World} {S : Nat} (h : w.rowIs S 33 3 (fun i => (res3 0 (.slice none 0 0) (.slice none 0 0))[i]!)) :
    w.cell? ⟨S, 0, none⟩ = some (.int .i64 0) ∧ w.cell? ⟨S, 1, none⟩ = some (.slice none 0 0) ∧ w.cell? ⟨S, 2, none⟩ = some (.slice none 0 0) ∧ w.frozen? ⟨S, 0, none⟩ = false ∧ w.frozen? ⟨S, 1, none⟩ = false ∧ w.frozen? ⟨S, 2, none⟩ = false :=
  ⟨h.cell (i := 0) (by omega), h.cell (i := 1) (by omega), h.cell (i := 2) (by omega), h.frozen 0, h.frozen 1, h.frozen 2⟩

set_option maxRecDepth 20000 in
set_option maxHeartbeats 16000000 in
theorem walk_fnExactPutUnit (a : Option Addr) (m c : Nat) (a' : Option Addr) (m' c' : Nat) (us : List K10) (fs : List K3) (hx : m ≤ maxLen) (hx' : m' ≤ maxLen) (hl : us.length = m) (hl' : fs.length = m') (x : K10) (W : World) (hU : ArgU W a us) (hF : ArgF W a' fs) :
    Calls Try.prog 7 #[.agg (brdV a m c a' m' c'), .agg x.v] W fun e w' => e = .returned (.bool true) ∧ Below W.heap.size W w' := by
  unfold maxLen at hx hx'
  subst hl hl'
  have q0 := fun w => szBoard_c a us.length c a' fs.length c' (by omega) (by omega) w
  obtain ⟨rb, ru, B0, _⟩ := two_put W (.slice a us.length c) (.slice a' fs.length c') x 57 51
  by_cases hs : us.length + fs.length ≤ 1048576
  · rw [if_pos hs] at q0
    have d : decide ((1048576 : Int) - (us.length : Int) - (fs.length : Int) < 0) = false := decide_eq_false (by omega)
    have cT := fun W hU hF => toBoard_c a c a' c' us fs (by omega) (by omega) W hU hF
    have cU := fun W => toUnit_c x W
    have s1 := fun base g g' W (N : NewB W base g g' us fs) => specPutUnit g 0 us.length g' 0 fs.length us fs x W N.u.lt N.f.lt (rowU_is rfl N.u) (rowF_is rfl N.f)
    have s2 := fun base g g' W (N : NewB W base g g' us fs) => implPutUnit g 0 us.length g' 0 fs.length us fs x W N.u.lt N.f.lt (rowU_is rfl N.u) (rowF_is rfl N.f)
    have hlen := pu_len us fs x
    generalize puC us fs x = C at s1 s2
    generalize puU us fs x = L at s1 s2 hlen
    generalize puF us fs x = FL at s1 s2 hlen
    obtain ⟨hlen, hlen'⟩ := hlen
    go_enter Try.func7, Try.ntmps7
    go_wp2_with fail
    refine (q0 _).mono ?_
    rintro e w1 ⟨rfl, k1⟩
    have B1 := B0.trans (k1.mono B0.size)
    replace rb := row_later rb k1
    replace ru := ru.later k1
    have Hru : Hid (U1 w1 (W.heap.size + 1) 0 x) := ru
    have keep : ∀ w', Below w1.heap.size w1 w' → w'.cell? ⟨W.heap.size, 0, none⟩ = some (.slice a us.length c) ∧ w'.cell? ⟨W.heap.size, 1, none⟩ = some (.slice a' fs.length c') ∧ w'.cell? ⟨W.heap.size + 1, 0, none⟩ = some (.int .i64 x.c0) ∧ w'.cell? ⟨W.heap.size + 1, 1, none⟩ = some (.int .i64 x.c1) ∧ w'.cell? ⟨W.heap.size + 1, 2, none⟩ = some (.int .i64 x.c2) ∧ w'.cell? ⟨W.heap.size + 1, 3, none⟩ = some (.int .i64 x.c3) ∧ w'.cell? ⟨W.heap.size + 1, 4, none⟩ = some (.int .i64 x.c4) ∧ w'.cell? ⟨W.heap.size + 1, 5, none⟩ = some (.int .i64 x.c5) ∧ w'.cell? ⟨W.heap.size + 1, 6, none⟩ = some (.int .i64 x.c6) ∧ w'.cell? ⟨W.heap.size + 1, 7, none⟩ = some (.int .i64 x.c7) ∧ w'.cell? ⟨W.heap.size + 1, 8, none⟩ = some (.int .i64 x.c8) ∧ w'.cell? ⟨W.heap.size + 1, 9, none⟩ = some (.int .i64 x.c9) := fun w' hb => by
      have r1 := row_later rb hb
      obtain ⟨u0, u1, u2, u3, u4, u5, u6, u7, u8, u9, ul⟩ := Hru.out.later hb
      exact ⟨r1.cell (i := 0) (by omega), r1.cell (i := 1) (by omega), u0, u1, u2, u3, u4, u5, u6, u7, u8, u9⟩
    obtain ⟨p0, p1, u0, u1, u2, u3, u4, u5, u6, u7, u8, u9⟩ := keep _ (Below.refl _ _)
    have Bd : Below w1.heap.size w1 w1.drew := (Below.refl _ _).drew
    have Bz : Below w1.heap.size w1 (w1.alloc ZR).drew := ((Below.refl _ _).alloc (Nat.le_refl _) _).drew
    have B1d := B1.trans (Bd.mono B1.size)
    have B1z := B1.trans (Bz.mono B1.size)
    have zd : (w1.alloc ZR).drew.rowIs w1.heap.size 33 3 (fun i => (res3 0 (.slice none 0 0) (.slice none 0 0))[i]!) := zr_row w1
    clear ru
    go_upto_region 5 with fail
    go_cut [6] from 18 to 22 (fun s6 wx => ∃ S v f, s6 = .pointer (some ⟨S, 0, none⟩) ∧ ResAt wx w1.heap.size S C L FL v f ∧ Below w1.heap.size w1 wx)
    case first =>
      go_region_held3 (fun w' => w'.cell? ⟨W.heap.size, 0, none⟩ = some (.slice a us.length c) ∧ w'.cell? ⟨W.heap.size, 1, none⟩ = some (.slice a' fs.length c') ∧ w'.cell? ⟨W.heap.size + 1, 0, none⟩ = some (.int .i64 x.c0) ∧ w'.cell? ⟨W.heap.size + 1, 1, none⟩ = some (.int .i64 x.c1) ∧ w'.cell? ⟨W.heap.size + 1, 2, none⟩ = some (.int .i64 x.c2) ∧ w'.cell? ⟨W.heap.size + 1, 3, none⟩ = some (.int .i64 x.c3) ∧ w'.cell? ⟨W.heap.size + 1, 4, none⟩ = some (.int .i64 x.c4) ∧ w'.cell? ⟨W.heap.size + 1, 5, none⟩ = some (.int .i64 x.c5) ∧ w'.cell? ⟨W.heap.size + 1, 6, none⟩ = some (.int .i64 x.c6) ∧ w'.cell? ⟨W.heap.size + 1, 7, none⟩ = some (.int .i64 x.c7) ∧ w'.cell? ⟨W.heap.size + 1, 8, none⟩ = some (.int .i64 x.c8) ∧ w'.cell? ⟨W.heap.size + 1, 9, none⟩ = some (.int .i64 x.c9)) (first | exact keep _ (bel_set (bel_set (bel_set Bc _ _ (by first | exact Nat.le_refl _ | exact Ba.size | exact Bb.size) _) _ _ (by first | exact Nat.le_refl _ | exact Ba.size | exact Bb.size) _) _ _ (by first | exact Nat.le_refl _ | exact Ba.size | exact Bb.size) _) | exact keep _ (Bc.alloc Bc.size _) | go_keep) (first
        | (go_at_call 31; with_reducible refine (cT _ (hU.later B1d) (hF.later B1d)).mono ?_; rintro e wa ⟨g1, g1', rfl, Na, ka⟩; have Ba := Bd.trans (ka.mono Bd.size); obtain ⟨p0, p1, u0, u1, u2, u3, u4, u5, u6, u7, u8, u9⟩ := keep _ Ba)
        | (go_at_call 31; with_reducible refine (cT _ (hU.later B1z) (hF.later B1z)).mono ?_; rintro e wa ⟨g1, g1', rfl, Na, ka⟩; have Ba := Bz.trans (ka.mono Bz.size); obtain ⟨p0, p1, u0, u1, u2, u3, u4, u5, u6, u7, u8, u9⟩ := keep _ Ba; have hS := row_later zd ka)
        | (go_at_call 29; with_reducible refine (cU wa).mono ?_; rintro e wb ⟨rfl, kb⟩; have Bb := Ba.trans (kb.mono Ba.size); have Nb := Na.later kb; obtain ⟨p0, p1, u0, u1, u2, u3, u4, u5, u6, u7, u8, u9⟩ := keep _ Bb; try (replace hS := row_later hS kb))
        | (go_at_call 29; with_reducible refine (cU (wa.alloc ZR)).mono ?_; rintro e wb ⟨rfl, kb⟩; have kz := (Below.refl wa.heap.size wa).alloc (Nat.le_refl _) ZR; have kb' := kz.trans (kb.mono kz.size); have Bb := Ba.trans (kb'.mono Ba.size); have Nb := Na.later kb'; obtain ⟨p0, p1, u0, u1, u2, u3, u4, u5, u6, u7, u8, u9⟩ := keep _ Bb; have hS := row_later (zr_row wa) kb)
        | (go_at_call 25; with_reducible refine (s1 _ g1 g1' wb Nb).mono ?_; rintro e wc ⟨v, f, rfl, Su, Sf, kc⟩; have Bc := Bb.trans (kc.mono Bb.size); obtain ⟨p0, p1, u0, u1, u2, u3, u4, u5, u6, u7, u8, u9⟩ := keep _ Bc; obtain ⟨b1, d1, ev, _⟩ := Su.form; obtain ⟨b2, d2, ef, _⟩ := Sf.form; subst ev ef; try (have hSl := hS.lt; replace hS := row_later hS kc; obtain ⟨e0, e1, e2, z0, z1, z2⟩ := zr_cells hS))
        | (go_at_call 25; with_reducible refine (s1 _ g1 g1' (wb.alloc ZR) (Nb.later ((Below.refl wb.heap.size wb).alloc (Nat.le_refl _) ZR))).mono ?_; rintro e wc ⟨v, f, rfl, Su, Sf, kc⟩; have kz := (Below.refl wb.heap.size wb).alloc (Nat.le_refl _) ZR; have kc' := kz.trans (kc.mono kz.size); have Bc := Bb.trans (kc'.mono Bb.size); obtain ⟨p0, p1, u0, u1, u2, u3, u4, u5, u6, u7, u8, u9⟩ := keep _ Bc; obtain ⟨b1, d1, ev, _⟩ := Su.form; obtain ⟨b2, d2, ef, _⟩ := Sf.form; subst ev ef; have hS := zr_row wb; have hSl := hS.lt; replace hS := row_later hS kc; obtain ⟨e0, e1, e2, z0, z1, z2⟩ := zr_cells hS))
      all_goals
        go_wp2_with fail
        go_meet
        case rel => first
          | exact ⟨_, _, _, rfl, resSet hS Su Sf hSl (by first | exact Nat.le_refl _ | exact Ba.size | exact Bb.size), (bel_set (bel_set (bel_set Bc _ _ (by first | exact Nat.le_refl _ | exact Ba.size | exact Bb.size) _) _ _ (by first | exact Nat.le_refl _ | exact Ba.size | exact Bb.size) _) _ _ (by first | exact Nat.le_refl _ | exact Ba.size | exact Bb.size) _)⟩
          | exact ⟨_, _, _, rfl, resNew Su Sf Bb.size Bc.size, Bc.alloc Bc.size _⟩
    case rest =>
      obtain ⟨S, v1, f1, rfl, R5, kx⟩ := hcut
      obtain ⟨wx, hwx⟩ : ∃ y : World, y = wc := ⟨_, rfl⟩
      subst hwx
      obtain ⟨n, Hn⟩ : ∃ n, Hid (n = L.length) := ⟨_, rfl⟩
      obtain ⟨n', Hn'⟩ : ∃ n', Hid (n' = FL.length) := ⟨_, rfl⟩
      obtain ⟨a1, c1, ev, _⟩ := R5.u.form
      obtain ⟨a2, c2, ef, _⟩ := R5.f.form
      rw [← Hn.out] at ev
      rw [← Hn'.out] at ef
      subst ev ef
      have R5lt := R5.lt
      have B2 := B1.trans (kx.mono B1.size)
      have hW1 : W.heap.size + 1 < w1.heap.size := Hru.out.lt
      have rbx := row_later rb kx
      have rux : Hid (U1 wx (W.heap.size + 1) 0 x) := Hru.out.later kx
      clear p0 p1 u0 u1 u2 u3 u4 u5 u6 u7 u8 u9 Bd Bz B1d B1z zd
      obtain ⟨p0, p1, pl⟩ := row_brd rbx
      go_wp2_with fail
      refine (cT _ (hU.later B2) (hF.later B2)).mono ?_
      rintro e w5 ⟨h, h', rfl, N5, k5⟩
      have N5l := N5.le
      have B5 := B2.trans (k5.mono B2.size)
      replace R5 := R5.later k5
      replace rbx := row_later rbx k5
      replace rux : Hid (U1 w5 (W.heap.size + 1) 0 x) := rux.out.later k5
      clear p0 p1 pl
      obtain ⟨w6, H6⟩ : ∃ w6, Hid (w6 = w5.alloc (.cells (brdV (some ⟨h, 0, none⟩) us.length us.length (some ⟨h', 0, none⟩) fs.length fs.length) 27)) := ⟨_, rfl⟩
      obtain ⟨X, HX⟩ : ∃ X, Hid (X = w5.heap.size) := ⟨_, rfl⟩
      have k6 : Below w5.heap.size w5 w6 := by rw [H6.out]; exact (Below.refl _ _).alloc (Nat.le_refl _) _
      have rx : w6.rowIs X 27 2 (fun i => if i = 0 then .slice (some ⟨h, 0, none⟩) us.length us.length else .slice (some ⟨h', 0, none⟩) fs.length fs.length) := by rw [H6.out, HX.out]; exact rowTwo w5 (.slice (some ⟨h, 0, none⟩) us.length us.length) (.slice (some ⟨h', 0, none⟩) fs.length fs.length) 27
      have B6 := B5.trans (k6.mono B5.size)
      have hhX : h < X ∧ h' < X ∧ wx.heap.size ≤ h ∧ h < h' := by
        rw [HX.out]
        have h1 := N5.u.lt; have h2 := N5.f.lt; have h4 := N5.lt
        omega
      have hX6 : X < w6.heap.size := rx.lt
      replace R5 := R5.later k6
      replace rbx := row_later rbx k6
      have rux6 : Hid (U1 w6 (W.heap.size + 1) 0 x) := rux.out.later k6
      replace N5 := N5.later k6
      have keep6 : ∀ w', Below w6.heap.size w6 w' → w'.cell? ⟨X, 0, none⟩ = some (.slice (some ⟨h, 0, none⟩) us.length us.length) ∧ w'.cell? ⟨X, 1, none⟩ = some (.slice (some ⟨h', 0, none⟩) fs.length fs.length) ∧ w'.cell? ⟨W.heap.size + 1, 0, none⟩ = some (.int .i64 x.c0) ∧ w'.cell? ⟨W.heap.size + 1, 1, none⟩ = some (.int .i64 x.c1) ∧ w'.cell? ⟨W.heap.size + 1, 2, none⟩ = some (.int .i64 x.c2) ∧ w'.cell? ⟨W.heap.size + 1, 3, none⟩ = some (.int .i64 x.c3) ∧ w'.cell? ⟨W.heap.size + 1, 4, none⟩ = some (.int .i64 x.c4) ∧ w'.cell? ⟨W.heap.size + 1, 5, none⟩ = some (.int .i64 x.c5) ∧ w'.cell? ⟨W.heap.size + 1, 6, none⟩ = some (.int .i64 x.c6) ∧ w'.cell? ⟨W.heap.size + 1, 7, none⟩ = some (.int .i64 x.c7) ∧ w'.cell? ⟨W.heap.size + 1, 8, none⟩ = some (.int .i64 x.c8) ∧ w'.cell? ⟨W.heap.size + 1, 9, none⟩ = some (.int .i64 x.c9) := fun w' hb => by
        have r1 := row_later rx hb
        obtain ⟨u0, u1, u2, u3, u4, u5, u6, u7, u8, u9, ul⟩ := rux6.out.later hb
        exact ⟨r1.cell (i := 0) (by omega), r1.cell (i := 1) (by omega), u0, u1, u2, u3, u4, u5, u6, u7, u8, u9⟩
      go_upto_region 7 with fail
      rw [← H6.out, ← HX.out]
      obtain ⟨p0, p1, u0, u1, u2, u3, u4, u5, u6, u7, u8, u9⟩ := keep6 _ (Below.refl _ _)
      have Bd6 : Below w6.heap.size w6 w6.drew := (Below.refl _ _).drew
      have Bz6 : Below w6.heap.size w6 (w6.alloc ZR).drew := ((Below.refl _ _).alloc (Nat.le_refl _) _).drew
      have zd6 : (w6.alloc ZR).drew.rowIs w6.heap.size 33 3 (fun i => (res3 0 (.slice none 0 0) (.slice none 0 0))[i]!) := zr_row w6
      go_cut [8] from 25 to 28 (fun s8 wy => ∃ G v f, s8 = .pointer (some ⟨G, 0, none⟩) ∧ ResAt wy w6.heap.size G C L FL v f ∧ Below w6.heap.size w6 wy)
      case first =>
        go_region_held3 (fun w' => w'.cell? ⟨X, 0, none⟩ = some (.slice (some ⟨h, 0, none⟩) us.length us.length) ∧ w'.cell? ⟨X, 1, none⟩ = some (.slice (some ⟨h', 0, none⟩) fs.length fs.length) ∧ w'.cell? ⟨W.heap.size + 1, 0, none⟩ = some (.int .i64 x.c0) ∧ w'.cell? ⟨W.heap.size + 1, 1, none⟩ = some (.int .i64 x.c1) ∧ w'.cell? ⟨W.heap.size + 1, 2, none⟩ = some (.int .i64 x.c2) ∧ w'.cell? ⟨W.heap.size + 1, 3, none⟩ = some (.int .i64 x.c3) ∧ w'.cell? ⟨W.heap.size + 1, 4, none⟩ = some (.int .i64 x.c4) ∧ w'.cell? ⟨W.heap.size + 1, 5, none⟩ = some (.int .i64 x.c5) ∧ w'.cell? ⟨W.heap.size + 1, 6, none⟩ = some (.int .i64 x.c6) ∧ w'.cell? ⟨W.heap.size + 1, 7, none⟩ = some (.int .i64 x.c7) ∧ w'.cell? ⟨W.heap.size + 1, 8, none⟩ = some (.int .i64 x.c8) ∧ w'.cell? ⟨W.heap.size + 1, 9, none⟩ = some (.int .i64 x.c9)) (first | exact keep6 _ (bel_set (bel_set (bel_set Bc _ _ (by first | exact Nat.le_refl _ | exact Bb.size) _) _ _ (by first | exact Nat.le_refl _ | exact Bb.size) _) _ _ (by first | exact Nat.le_refl _ | exact Bb.size) _) | exact keep6 _ (Bc.alloc Bc.size _) | go_keep) (first
          | (go_at_call 29; with_reducible refine (cU w6.drew).mono ?_; rintro e wb ⟨rfl, kb⟩; have Bb := Bd6.trans (kb.mono Bd6.size); have Nb := N5.later Bb; obtain ⟨p0, p1, u0, u1, u2, u3, u4, u5, u6, u7, u8, u9⟩ := keep6 _ Bb)
          | (go_at_call 29; with_reducible refine (cU (w6.alloc ZR).drew).mono ?_; rintro e wb ⟨rfl, kb⟩; have Bb := Bz6.trans (kb.mono Bz6.size); have Nb := N5.later Bb; obtain ⟨p0, p1, u0, u1, u2, u3, u4, u5, u6, u7, u8, u9⟩ := keep6 _ Bb; have hS := row_later zd6 kb)
          | (go_at_call 13; with_reducible refine (s2 _ h h' wb Nb).mono ?_; rintro e wc ⟨v, f, rfl, Su, Sf, kc⟩; have Bc := Bb.trans (kc.mono Bb.size); obtain ⟨p0, p1, u0, u1, u2, u3, u4, u5, u6, u7, u8, u9⟩ := keep6 _ Bc; obtain ⟨b1, d1, ev, _⟩ := Su.form; obtain ⟨b2, d2, ef, _⟩ := Sf.form; subst ev ef; try (have hSl := hS.lt; replace hS := row_later hS kc; obtain ⟨e0, e1, e2, z0, z1, z2⟩ := zr_cells hS))
          | (go_at_call 13; with_reducible refine (s2 _ h h' (wb.alloc ZR) (Nb.later ((Below.refl wb.heap.size wb).alloc (Nat.le_refl _) ZR))).mono ?_; rintro e wc ⟨v, f, rfl, Su, Sf, kc⟩; have kz := (Below.refl wb.heap.size wb).alloc (Nat.le_refl _) ZR; have kc' := kz.trans (kc.mono kz.size); have Bc := Bb.trans (kc'.mono Bb.size); obtain ⟨p0, p1, u0, u1, u2, u3, u4, u5, u6, u7, u8, u9⟩ := keep6 _ Bc; obtain ⟨b1, d1, ev, _⟩ := Su.form; obtain ⟨b2, d2, ef, _⟩ := Sf.form; subst ev ef; have hS := zr_row wb; have hSl := hS.lt; replace hS := row_later hS kc; obtain ⟨e0, e1, e2, z0, z1, z2⟩ := zr_cells hS))
        all_goals
          go_wp2_with fail
          go_meet
          case rel => first
            | exact ⟨_, _, _, rfl, resSet hS Su Sf hSl (by first | exact Nat.le_refl _ | exact Bb.size), (bel_set (bel_set (bel_set Bc _ _ (by first | exact Nat.le_refl _ | exact Bb.size) _) _ _ (by first | exact Nat.le_refl _ | exact Bb.size) _) _ _ (by first | exact Nat.le_refl _ | exact Bb.size) _)⟩
            | exact ⟨_, _, _, rfl, resNew Su Sf Bb.size Bc.size, Bc.alloc Bc.size _⟩
      case rest =>
        obtain ⟨G, v2, f2, rfl, R8, ky⟩ := hcut
        obtain ⟨w8, hwx⟩ : ∃ y : World, y = wc := ⟨_, rfl⟩
        subst hwx
        clear p0 p1 u0 u1 u2 u3 u4 u5 u6 u7 u8 u9 Bd6 Bz6 zd6 keep6
        obtain ⟨b1, d1, ev, _⟩ := R8.u.form
        obtain ⟨b2, d2, ef, _⟩ := R8.f.form
        rw [← Hn.out] at ev
        rw [← Hn'.out] at ef
        subst ev ef
        have R8lt := R8.lt
        have B8 := B6.trans (ky.mono B6.size)
        replace R5 := R5.later ky
        replace rbx := row_later rbx ky
        replace rux : Hid (U1 w8 (W.heap.size + 1) 0 x) := rux6.out.later ky
        replace rx := row_later rx ky
        replace N5 := N5.later ky
        have cE := fun w (h1 : ResAt w w6.heap.size G C L FL (.slice b1 n d1) (.slice b2 n' d2)) (h2 : ResAt w w1.heap.size S C L FL (.slice a1 n c1) (.slice a2 n' c2)) => eqBR C (.slice b1 n d1) (.slice b2 n' d2) (.slice a1 n c1) (.slice a2 n' c2) L FL w6.heap.size w6.heap.size w1.heap.size w1.heap.size hlen hlen' w h1.u h1.f h2.u h2.f
        obtain ⟨s0, s1', s2'⟩ := R5.cells
        obtain ⟨g0, g1, g2⟩ := R8.cells
        go_wp2_with fail
        refine (cE _ R8 R5).mono ?_
        rintro e w9 ⟨rfl, k9⟩
        have B9 := B8.trans (k9.mono B8.size)
        replace R5 := R5.later k9
        replace R8 := R8.later k9
        replace rbx := row_later rbx k9
        replace rux : Hid (U1 w9 (W.heap.size + 1) 0 x) := rux.out.later k9
        replace rx := row_later rx k9
        replace N5 := N5.later k9
        clear s0 s1' s2' g0 g1 g2 k9
        obtain ⟨p0, p1, pl⟩ := row_brd rbx
        obtain ⟨x0, x1, xl⟩ := row_brd rx
        go_upto_region 10 with fail
        go_cut [37] from 33 to 36 (fun s37 wx => s37 = .bool false ∧ Below w9.heap.size w9 wx)
        case first =>
          go_region_with (first
            | (go_at_call 31; with_reducible refine (cT _ (hU.later B9.drew) (hF.later B9.drew)).mono ?_; rintro e wa ⟨g3, g3', rfl, Na, ka⟩; have Ba := bel_drew ka; have Nb := N5.later Ba; have x0 := (row_brd (row_later rx Ba)).c0; have x1 := (row_brd (row_later rx Ba)).c1)
            | (go_at_call 32; with_reducible refine (Nb.eq Na (by omega) (by omega)).mono ?_; rintro e wb ⟨rfl, kb⟩; have Bb := Ba.trans (kb.mono Ba.size)))
          all_goals
            go_wp2_with fail
            go_meet
            case rel => exact ⟨rfl, Bb⟩
        case rest =>
          obtain ⟨rfl, kc⟩ := hcut
          obtain ⟨w10, hwx⟩ : ∃ y : World, y = wc := ⟨_, rfl⟩
          subst hwx
          have B10 := B9.trans (kc.mono B9.size)
          replace R5 := R5.later kc
          replace R8 := R8.later kc
          replace rbx := row_later rbx kc
          replace rux : Hid (U1 w10 (W.heap.size + 1) 0 x) := rux.out.later kc
          replace rx := row_later rx kc
          replace N5 := N5.later kc
          clear p0 p1 pl x0 x1 xl kc
          obtain ⟨x0, x1, xl⟩ := row_brd rx
          have hszx := kx.size
          go_upto_region 13 with fail
          go_wp2_with fail
          refine (markBoard_c _ N5 (by omega) (by omega)).mono ?_
          rintro e w11 ⟨rfl, k11⟩
          have B11 := k11.below B10 (Nat.le_refl _) (by omega) (by omega)
          replace rbx := k11.row rbx (by omega) (by omega)
          have ru11 : Hid (U1 w11 (W.heap.size + 1) 0 x) := rux.out.of_block (k11.block _ rux.out.lt (by omega) (by omega)) (by have := rux.out.lt; have := k11.size; omega)
          replace R5 := R5.of_block (w' := w11) (fun b hb => k11.block b (R5.lt b hb).2 (by have := R5lt b hb; omega) (by have := R5lt b hb; omega))
          replace R8 := R8.of_block (w' := w11) (fun b hb => k11.block b (R8.lt b hb).2 (by have := R8lt b hb; omega) (by have := R8lt b hb; omega))
          have d11 : decide ((1 : Int) + 10 * (us.length : Int) + 3 * (fs.length : Int) < 0) = false := decide_eq_false (by omega)
          clear x0 x1 xl rx k11 N5 rux
          obtain ⟨s0, s1', s2'⟩ := R5.cells
          obtain ⟨g0, g1, g2⟩ := R8.cells
          go_wp2_with fail
          refine (cE _ R8 R5).mono ?_
          rintro e w12 ⟨rfl, k12⟩
          have B12 := B11.trans (k12.mono B11.size)
          replace R5 := R5.later k12
          replace R8 := R8.later k12
          replace rbx := row_later rbx k12
          have ru12 : Hid (U1 w12 (W.heap.size + 1) 0 x) := ru11.out.later k12
          clear s0 s1' s2' g0 g1 g2 k12
          obtain ⟨g0, g1, g2⟩ := R8.cells
          have cM := markBR C (.slice b1 n d1) (.slice b2 n' d2) L FL _ _ hlen hlen' _ R8.u R8.f
          rw [← Hn.out, ← Hn'.out] at cM
          rw [← Hn.out] at hlen
          rw [← Hn'.out] at hlen'
          have Rne := R8.ne
          go_upto_region 17 with fail
          go_wp2_with fail
          refine cM.mono ?_
          rintro e w13 ⟨rfl, M13, M13', k13⟩
          have o1 : ∀ b, (Value.slice b1 n d1).ownBlock = some b → w6.heap.size ≤ b := fun b hb => (R8lt b (.inr (.inl hb))).1
          have o2 : ∀ b, (Value.slice b2 n' d2).ownBlock = some b → w6.heap.size ≤ b := fun b hb => (R8lt b (.inr (.inr hb))).1
          have B13 : Below W.heap.size W w13 := k13.below B12 (Nat.le_refl _) (fun b hb => by have := o1 b hb; omega) (fun b hb => by have := o2 b hb; omega)
          replace rbx := rbx.of_block (k13.block _ rbx.lt (fun e => by have := o1 _ e; omega) (fun e => by have := o2 _ e; omega))
          have ru13 : Hid (U1 w13 (W.heap.size + 1) 0 x) := ru12.out.of_block (k13.block _ ru12.out.lt (fun e => by have := o1 _ e; omega) (fun e => by have := o2 _ e; omega)) (by have := ru12.out.lt; have := k13.size; omega)
          replace R5 := R5.of_block (w' := w13) (fun b hb => k13.block b (R5.lt b hb).2 (fun e => by have := o1 _ e; have := R5lt b hb; omega) (fun e => by have := o2 _ e; have := R5lt b hb; omega))
          have rg := R8.row.of_block (k13.block _ R8.row.lt Rne.1 Rne.2)
          clear g0 g1 g2 cM R8 k13 ru12 ru11
          have g0 : w13.cell? ⟨G, 0, none⟩ = some (.int .i64 C) := rg.cell (i := 0) (by omega)
          have g1 : w13.cell? ⟨G, 1, none⟩ = some (.slice b1 n d1) := rg.cell (i := 1) (by omega)
          have g2 : w13.cell? ⟨G, 2, none⟩ = some (.slice b2 n' d2) := rg.cell (i := 2) (by omega)
          have hd1 : decide ((1 : Int) + 10 * (n : Int) + 3 * (n' : Int) < 0) = false := decide_eq_false (by omega)
          have hd2 : (((1 : Int) + 10 * (n : Int) + 3 * (n' : Int)) != (1 + 10 * (n : Int) + 3 * (n' : Int))) = false := by simp
          go_upto_region 19 with fail
          go_wp2_with fail
          refine (heldBR C _ _ n n' hlen hlen' _ M13 M13').mono ?_
          rintro e w14 ⟨rfl, k14⟩
          have B14 := B13.trans (k14.mono B13.size)
          replace R5 := R5.later k14
          replace rbx := row_later rbx k14
          have ru14 : Hid (U1 w14 (W.heap.size + 1) 0 x) := ru13.out.later k14
          replace rg := row_later rg k14
          replace M13 := M13.later k14
          replace M13' := M13'.later k14
          clear g0 g1 g2 k14
          have keep14 : ∀ w', Below w14.heap.size w14 w' → w'.cell? ⟨W.heap.size, 0, none⟩ = some (.slice a us.length c) ∧ w'.cell? ⟨W.heap.size, 1, none⟩ = some (.slice a' fs.length c') ∧ w'.cell? ⟨W.heap.size + 1, 0, none⟩ = some (.int .i64 x.c0) ∧ w'.cell? ⟨W.heap.size + 1, 1, none⟩ = some (.int .i64 x.c1) ∧ w'.cell? ⟨W.heap.size + 1, 2, none⟩ = some (.int .i64 x.c2) ∧ w'.cell? ⟨W.heap.size + 1, 3, none⟩ = some (.int .i64 x.c3) ∧ w'.cell? ⟨W.heap.size + 1, 4, none⟩ = some (.int .i64 x.c4) ∧ w'.cell? ⟨W.heap.size + 1, 5, none⟩ = some (.int .i64 x.c5) ∧ w'.cell? ⟨W.heap.size + 1, 6, none⟩ = some (.int .i64 x.c6) ∧ w'.cell? ⟨W.heap.size + 1, 7, none⟩ = some (.int .i64 x.c7) ∧ w'.cell? ⟨W.heap.size + 1, 8, none⟩ = some (.int .i64 x.c8) ∧ w'.cell? ⟨W.heap.size + 1, 9, none⟩ = some (.int .i64 x.c9) := fun w' hb => by
            have r1 := row_later rbx hb
            obtain ⟨u0, u1, u2, u3, u4, u5, u6, u7, u8, u9, ul⟩ := ru14.out.later hb
            exact ⟨r1.cell (i := 0) (by omega), r1.cell (i := 1) (by omega), u0, u1, u2, u3, u4, u5, u6, u7, u8, u9⟩
          obtain ⟨p0, p1, u0, u1, u2, u3, u4, u5, u6, u7, u8, u9⟩ := keep14 _ (Below.refl _ _)
          have Bd14 : Below w14.heap.size w14 w14.drew := (Below.refl _ _).drew
          have Bz14 : Below w14.heap.size w14 (w14.alloc ZR).drew := ((Below.refl _ _).alloc (Nat.le_refl _) _).drew
          have Bd14' := B14.trans (Bd14.mono B14.size)
          have Bz14' := B14.trans (Bz14.mono B14.size)
          have zd14 : (w14.alloc ZR).drew.rowIs w14.heap.size 33 3 (fun i => (res3 0 (.slice none 0 0) (.slice none 0 0))[i]!) := zr_row w14
          go_upto_region 24 with fail
          go_cut [12] from 60 to 64 (fun s12 wx => ∃ Y v f, s12 = .pointer (some ⟨Y, 0, none⟩) ∧ ResAt wx w14.heap.size Y C L FL v f ∧ Below w14.heap.size w14 wx)
          case first =>
            go_region_held3 (fun w' => w'.cell? ⟨W.heap.size, 0, none⟩ = some (.slice a us.length c) ∧ w'.cell? ⟨W.heap.size, 1, none⟩ = some (.slice a' fs.length c') ∧ w'.cell? ⟨W.heap.size + 1, 0, none⟩ = some (.int .i64 x.c0) ∧ w'.cell? ⟨W.heap.size + 1, 1, none⟩ = some (.int .i64 x.c1) ∧ w'.cell? ⟨W.heap.size + 1, 2, none⟩ = some (.int .i64 x.c2) ∧ w'.cell? ⟨W.heap.size + 1, 3, none⟩ = some (.int .i64 x.c3) ∧ w'.cell? ⟨W.heap.size + 1, 4, none⟩ = some (.int .i64 x.c4) ∧ w'.cell? ⟨W.heap.size + 1, 5, none⟩ = some (.int .i64 x.c5) ∧ w'.cell? ⟨W.heap.size + 1, 6, none⟩ = some (.int .i64 x.c6) ∧ w'.cell? ⟨W.heap.size + 1, 7, none⟩ = some (.int .i64 x.c7) ∧ w'.cell? ⟨W.heap.size + 1, 8, none⟩ = some (.int .i64 x.c8) ∧ w'.cell? ⟨W.heap.size + 1, 9, none⟩ = some (.int .i64 x.c9)) (first | exact keep14 _ (bel_set (bel_set (bel_set Bc _ _ (by first | exact Nat.le_refl _ | exact Ba.size | exact Bb.size) _) _ _ (by first | exact Nat.le_refl _ | exact Ba.size | exact Bb.size) _) _ _ (by first | exact Nat.le_refl _ | exact Ba.size | exact Bb.size) _) | exact keep14 _ (Bc.alloc Bc.size _) | go_keep) (first
              | (go_at_call 31; with_reducible refine (cT _ (hU.later Bd14') (hF.later Bd14')).mono ?_; rintro e wa ⟨g1, g1', rfl, Na, ka⟩; have Ba := Bd14.trans (ka.mono Bd14.size); obtain ⟨p0, p1, u0, u1, u2, u3, u4, u5, u6, u7, u8, u9⟩ := keep14 _ Ba)
              | (go_at_call 31; with_reducible refine (cT _ (hU.later Bz14') (hF.later Bz14')).mono ?_; rintro e wa ⟨g1, g1', rfl, Na, ka⟩; have Ba := Bz14.trans (ka.mono Bz14.size); obtain ⟨p0, p1, u0, u1, u2, u3, u4, u5, u6, u7, u8, u9⟩ := keep14 _ Ba; have hS := row_later zd14 ka)
              | (go_at_call 29; with_reducible refine (cU wa).mono ?_; rintro e wb ⟨rfl, kb⟩; have Bb := Ba.trans (kb.mono Ba.size); have Nb := Na.later kb; obtain ⟨p0, p1, u0, u1, u2, u3, u4, u5, u6, u7, u8, u9⟩ := keep14 _ Bb; try (replace hS := row_later hS kb))
              | (go_at_call 29; with_reducible refine (cU (wa.alloc ZR)).mono ?_; rintro e wb ⟨rfl, kb⟩; have kz := (Below.refl wa.heap.size wa).alloc (Nat.le_refl _) ZR; have kb' := kz.trans (kb.mono kz.size); have Bb := Ba.trans (kb'.mono Ba.size); have Nb := Na.later kb'; obtain ⟨p0, p1, u0, u1, u2, u3, u4, u5, u6, u7, u8, u9⟩ := keep14 _ Bb; have hS := row_later (zr_row wa) kb)
              | (go_at_call 13; with_reducible refine (s2 _ g1 g1' wb Nb).mono ?_; rintro e wc ⟨v, f, rfl, Su, Sf, kc⟩; have Bc := Bb.trans (kc.mono Bb.size); obtain ⟨p0, p1, u0, u1, u2, u3, u4, u5, u6, u7, u8, u9⟩ := keep14 _ Bc; obtain ⟨b1, d1, ev, _⟩ := Su.form; obtain ⟨b2, d2, ef, _⟩ := Sf.form; subst ev ef; try (have hSl := hS.lt; replace hS := row_later hS kc; obtain ⟨e0, e1, e2, z0, z1, z2⟩ := zr_cells hS))
              | (go_at_call 13; with_reducible refine (s2 _ g1 g1' (wb.alloc ZR) (Nb.later ((Below.refl wb.heap.size wb).alloc (Nat.le_refl _) ZR))).mono ?_; rintro e wc ⟨v, f, rfl, Su, Sf, kc⟩; have kz := (Below.refl wb.heap.size wb).alloc (Nat.le_refl _) ZR; have kc' := kz.trans (kc.mono kz.size); have Bc := Bb.trans (kc'.mono Bb.size); obtain ⟨p0, p1, u0, u1, u2, u3, u4, u5, u6, u7, u8, u9⟩ := keep14 _ Bc; obtain ⟨b1, d1, ev, _⟩ := Su.form; obtain ⟨b2, d2, ef, _⟩ := Sf.form; subst ev ef; have hS := zr_row wb; have hSl := hS.lt; replace hS := row_later hS kc; obtain ⟨e0, e1, e2, z0, z1, z2⟩ := zr_cells hS))
            all_goals
              go_wp2_with fail
              go_meet
              case rel => first
                | exact ⟨_, _, _, rfl, resSet hS Su Sf hSl (by first | exact Nat.le_refl _ | exact Ba.size | exact Bb.size), (bel_set (bel_set (bel_set Bc _ _ (by first | exact Nat.le_refl _ | exact Ba.size | exact Bb.size) _) _ _ (by first | exact Nat.le_refl _ | exact Ba.size | exact Bb.size) _) _ _ (by first | exact Nat.le_refl _ | exact Ba.size | exact Bb.size) _)⟩
                | exact ⟨_, _, _, rfl, resNew Su Sf Bb.size Bc.size, Bc.alloc Bc.size _⟩
          case rest =>
            obtain ⟨Y, v3, f3, rfl, R17, kz⟩ := hcut
            obtain ⟨w17, hwx⟩ : ∃ y : World, y = wc := ⟨_, rfl⟩
            subst hwx
            clear p0 p1 u0 u1 u2 u3 u4 u5 u6 u7 u8 u9 Bd14 Bz14 Bd14' Bz14' zd14 keep14
            obtain ⟨y1, l1, ev, _⟩ := R17.u.form
            obtain ⟨y2, l2, ef, _⟩ := R17.f.form
            have cE3 := eqBR C _ _ (.slice a1 n c1) (.slice a2 n' c2) L FL _ _ _ _ (by rw [← Hn.out]; exact hlen) (by rw [← Hn'.out]; exact hlen') w17 R17.u R17.f (R5.later kz).u (R5.later kz).f
            rw [← Hn.out] at ev
            rw [← Hn'.out] at ef
            subst ev ef
            have B17 := B14.trans (kz.mono B14.size)
            replace R5 := R5.later kz
            replace rg := row_later rg kz
            replace M13 := M13.later kz
            replace M13' := M13'.later kz
            obtain ⟨s0, s1', s2'⟩ := R5.cells
            obtain ⟨y0, y1', y2'⟩ := R17.cells
            go_wp2_with fail
            refine cE3.mono ?_
            rintro e w18 ⟨rfl, k18⟩
            have B18 := B17.trans (k18.mono B17.size)
            replace rg := row_later rg k18
            replace M13 := M13.later k18
            replace M13' := M13'.later k18
            clear s0 s1' s2' y0 y1' y2' cE3
            have g0 : w18.cell? ⟨G, 0, none⟩ = some (.int .i64 C) := rg.cell (i := 0) (by omega)
            have g1 : w18.cell? ⟨G, 1, none⟩ = some (.slice b1 n d1) := rg.cell (i := 1) (by omega)
            have g2 : w18.cell? ⟨G, 2, none⟩ = some (.slice b2 n' d2) := rg.cell (i := 2) (by omega)
            go_upto_region 28 with fail
            go_wp2_with fail
            refine (heldBR C _ _ n n' hlen hlen' _ M13 M13').mono ?_
            rintro e w19 ⟨rfl, k19⟩
            have B19 := B18.trans (k19.mono B18.size)
            go_wp2_with fail
            go_ret
            exact ⟨rfl, B19⟩
  · rw [if_neg hs] at q0
    go_enter Try.func7, Try.ntmps7
    go_wp2_with fail
    refine (q0 _).mono ?_
    rintro e w1 ⟨rfl, k1⟩
    have B1 := B0.trans (k1.mono B0.size)
    go_wp2
    go_ret
    exact ⟨rfl, B1⟩
end Go.Proofs.Ytcpgbhjnhahecaa
