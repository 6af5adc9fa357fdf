/- Texts of mine put together (a claim holds at most 60 files): LeaveSpec5. -/
import Derived.Test.YtlfnnobkgbfdgaaGreatPartH46
import Derived.Test.YtlfnnobkgbfdgaaGreatPartH47
import Derived.Deep.RegionHeld3

/- LeaveSpec5 -/
/- The contracts of l8Side and LeaveSide of the model. Condition: the world's lists lie in memory as they were laid there. -/
section
namespace Go.Proofs.YtlfnnobkgbfdgaaGreat
open Go.ChangeShapes Go.WideShapes Go.ChangeAt Go.RowKit
open Bd
set_option linter.unusedVariables false

/- nobody's ally any more, all four by turns -/
def clK (a : Int) : Nat → List KA → List KA
  | 0, fa => fa
  | k + 1, fa => setC (clK a k fa) (k : Int) (clB (allyA (clK a k fa) (k : Int)) a)
theorem clK_len {a : Int} {fa : List KA} : ∀ k : Nat, (clK a k fa).length = fa.length
  | 0 => rfl
  | k + 1 => by show (setC _ _ _).length = _; rw [setC_len, clK_len k]
theorem clK_get {a : Int} {fa : List KA} (h4 : fa.length = 4) : ∀ {k : Nat}, k ≤ 4 → ∀ j : Int, 0 ≤ j → purA (clK a k fa) j = purA fa j ∧ goneA (clK a k fa) j = goneA fa j ∧ allyA (clK a k fa) j = if j < (k : Int) then clB (allyA fa j) a else allyA fa j
  | 0, _, j, j0 => ⟨rfl, rfl, by rw [if_neg (by omega)]; rfl⟩
  | k + 1, hk, j, j0 => by
    have ih := clK_get (a := a) h4 (k := k) (by omega) j j0
    have ik := clK_get (a := a) h4 (k := k) (by omega) (k : Int) (by omega)
    have h := setC_get (fa := clK a k fa) (i := (k : Int)) (j := j) (v := clB (allyA (clK a k fa) (k : Int)) a) (by omega) j0 (by rw [clK_len, h4]; omega)
    show purA (setC _ _ _) j = _ ∧ goneA (setC _ _ _) j = _ ∧ allyA (setC _ _ _) j = _
    refine ⟨h.1.trans ih.1, h.2.1.trans ih.2.1, ?_⟩
    rw [h.2.2]
    by_cases e : j = (k : Int)
    · subst e
      rw [if_pos rfl, if_pos (by omega), ik.2.2, if_neg (by omega)]
    · rw [if_neg e, ih.2.2]
      by_cases e2 : j < (k : Int)
      · rw [if_pos e2, if_pos (by omega)]
      · rw [if_neg e2, if_neg (by omega)]
theorem ka_ext {fa fb : List KA} (h4 : fa.length = 4) (h5 : fb.length = 4) (h : ∀ j : Int, 0 ≤ j → j ≤ 3 → purA fa j = purA fb j ∧ goneA fa j = goneA fb j ∧ allyA fa j = allyA fb j) : fa = fb := by
  apply List.ext_getElem?
  intro i
  by_cases hi : i < 4
  · obtain ⟨f, hf, f1, f2, f3⟩ := at_get h4 (i := (i : Int)) (by omega) (by omega)
    obtain ⟨g, hg, g1, g2, g3⟩ := at_get h5 (i := (i : Int)) (by omega) (by omega)
    obtain ⟨e1, e2, e3⟩ := h (i : Int) (by omega) (by omega)
    rw [Int.toNat_natCast] at hf hg
    rw [hf, hg]
    rw [f1, g1] at e1; rw [f2, g2] at e2; rw [f3, g3] at e3
    cases f; cases g
    dsimp only at e1 e2 e3
    subst e1 e2 e3
    rfl
  · rw [List.getElem?_eq_none (by omega), List.getElem?_eq_none (by omega)]
theorem cl_all {a : Int} {fa : List KA} {hs : List Int} (h4 : fa.length = 4) (hn : hs.Nodup) (hk : ∀ k ∈ hs, 0 ≤ k ∧ k ≤ 3) (hno : ∀ j : Int, 0 ≤ j → j ≤ 3 → j ∉ hs → clB (allyA fa j) a = allyA fa j) : clK a 4 fa = clA a hs fa := by
  refine ka_ext (by rw [clK_len, h4]) (by rw [clA_len, h4]) fun j j0 j3 => ?_
  have h1 := clK_get (a := a) h4 (k := 4) (by omega) j j0
  have h2 := clA_get (a := a) h4 hn hk j j0
  refine ⟨h1.1.trans h2.1.symm, h1.2.1.trans h2.2.1.symm, ?_⟩
  rw [h1.2.2, h2.2.2, if_pos (by omega)]
  by_cases e : j ∈ hs
  · rw [if_pos e]
  · rw [if_neg e, hno j j0 j3 e]
theorem VS.setO {w : World} {base g : Nat} {p : WP} {x : KW} (h : VS w base g p x) {q : Option Addr} {c : Nat} {l' : List K2} (hs : SlO w base (.slice q l'.length c) l') :
    VS (w.setCell ⟨g, 6, none⟩ (.slice q l'.length c)) base g ⟨p.u, p.uc, p.f, p.fc, p.a, p.ac, p.s, p.sc, q, c⟩ ⟨x.t, x.s, x.us, x.fs, x.fa, x.se, l'⟩ :=
  ⟨h.b.set 6 (.slice q l'.length c), ⟨h.o.u.setB h.b (by decide) _, h.o.f.setB h.b (by decide) _, h.o.a.setB h.b (by decide) _, h.o.s.setB h.b (by decide) _, hs.setB h.b (by decide) _⟩, h.bg⟩
theorem VS.setQ {w : World} {base g : Nat} {p : WP} {x : KW} (h : VS w base g p x) {q : Option Addr} {c : Nat} {l' : List K4} (hs : SlS w base (.slice q l'.length c) l') :
    VS (w.setCell ⟨g, 5, none⟩ (.slice q l'.length c)) base g ⟨p.u, p.uc, p.f, p.fc, p.a, p.ac, q, c, p.o, p.oc⟩ ⟨x.t, x.s, x.us, x.fs, x.fa, l', x.oo⟩ :=
  ⟨h.b.set 5 (.slice q l'.length c), ⟨h.o.u.setB h.b (by decide) _, h.o.f.setB h.b (by decide) _, h.o.a.setB h.b (by decide) _, hs.setB h.b (by decide) _, h.o.o.setB h.b (by decide) _⟩, h.bg⟩
set_option maxRecDepth 20000 in
set_option maxHeartbeats 32000000 in
theorem l8Side_ok (gW : Nat) (p : WP) (x : KW) (G : GdW hasS x) (w : World) (hW : Blk w gW (p.v x) 32) (hI : InW w p x) (i : Int) (i0 : 0 ≤ i) (i3 : i ≤ 3) (hgn : goneA x.fa i = false) (hfull : x.s + purA x.fa i ≤ 100000000) :
    Calls Tryz.prog 26 #[.pointer (some ⟨gW, 0, none⟩), .int .i64 i] w fun e w' => ∃ q, e = .returned (.agg (r8 0 q ⟨x.t, leaS hasS x i, shU i (heirs hasS x i) 0 x.us, x.fs, leaF hasS x i, seF' i x.se, ooF' i x.oo⟩)) ∧ OwW w' w.heap.size q ⟨x.t, leaS hasS x i, shU i (heirs hasS x i) 0 x.us, x.fs, leaF hasS x i, seF' i x.se, ooF' i x.oo⟩ ∧ Below w.heap.size w w' := by
  obtain ⟨t, s, us, fs, fa, se, oo⟩ := x
  obtain ⟨u, uc, f, fc, a, ac, q, qc, r, rc⟩ := p
  dsimp only at hgn hfull
  obtain ⟨W, HW⟩ : ∃ W, Hid (W = w.alloc (.cells z8 36)) := ⟨_, rfl⟩
  have B1 : Below w.heap.size w W := by rw [HW.out]; exact (Below.refl _ _).alloc (Nat.le_refl _) _
  have R : Blk W w.heap.size z8 36 := by rw [HW.out]; exact Blk.new w z8 36
  have HR : Hid (Blk W w.heap.size z8 36) := R
  have HN : Hid (InW W ⟨u, uc, f, fc, a, ac, q, qc, r, rc⟩ ⟨t, s, us, fs, fa, se, oo⟩) := hI.later B1
  have P : Blk W gW (wv t s u us.length uc f fs.length fc a fa.length ac q se.length qc r oo.length rc) 32 := hW.below B1
  have hB := B1.size
  have hWz : W.heap.size = w.heap.size + 1 := by rw [HW.out, size_new]
  have h4 : fa.length = 4 := G.a4
  obtain ⟨y, hy, hyg, hya⟩ := side_at h4 i0 i3
  have hyp : purA fa i = y.c0 := pur_get hy
  obtain ⟨yb0, yb1⟩ := inb_i (purse_in G y (List.mem_of_getElem? hy))
  obtain ⟨sb0, sb1⟩ := inb_i G.s
  dsimp only at sb0 sb1
  have hym : inb y.c2 0 15 = true := by rw [← hya]; exact (gd_fac G i0 i3).m
  obtain ⟨ba, oa, rfl, hba, hat⟩ := HN.out.arg.a.four h4
  rw [hgn] at hyg
  rw [hyp] at hfull
  have keep : ∀ w', Below W.heap.size W w' → w'.cell? ⟨gW, 0, none⟩ = some (.int .i64 t) ∧ w'.cell? ⟨gW, 1, none⟩ = some (.int .i64 s) ∧ w'.cell? ⟨gW, 2, none⟩ = some (.slice u us.length uc) ∧ w'.cell? ⟨gW, 3, none⟩ = some (.slice f fs.length fc) ∧ w'.cell? ⟨gW, 4, none⟩ = some (.slice (some ⟨ba, oa, none⟩) 4 ac) ∧ w'.cell? ⟨gW, 5, none⟩ = some (.slice q se.length qc) ∧ w'.cell? ⟨gW, 6, none⟩ = some (.slice r oo.length rc) ∧ w'.cell? ⟨ba, oa + i.toNat * 3, none⟩ = some (.int .i64 y.c0) ∧ w'.cell? ⟨ba, oa + i.toNat * 3 + 1, none⟩ = some (.bool false) ∧ gW < w'.heap.size ∧ ba < w'.heap.size := fun w' h => by
    have c7 := (P.below h).c7
    rw [h4] at c7
    obtain ⟨p0, p1, p2, p3, p4, p5, p6, pl⟩ := c7
    have hbl := Nat.lt_of_lt_of_le hba h.size
    obtain ⟨y0, y1, _, _⟩ := (hat.later hba h).one hbl hy
    rw [← hyg] at y1
    exact ⟨p0, p1, p2, p3, p4, p5, p6, y0, y1, pl, hbl⟩
  have Bc : Below W.heap.size W W := Below.refl _ _
  have i4 : i < 4 := by omega
  have i62 : i ≤ 62 := by omega
  have hle : ¬ (100000000 : Int) < s + y.c0 := by omega
  have hwr : IntKind.i64.wrap (s + y.c0) = s + y.c0 := by rw [IntKind.wrap_i64]; omega
  obtain ⟨hs, Hs⟩ : ∃ hs, Hid (hs = sdL hasS (allyA fa i)) := ⟨_, rfl⟩
  have cL := fun W' (h : Below W.heap.size W W') => l7Allies_c gW (some ⟨ba, oa, none⟩) ac fa h4 i i0 i3 W' (keep W' h).2.2.2.2.1 (keep W' h).2.2.2.2.2.2.2.2.2.1 (HN.out.later h).arg.a
  rw [← Hs.out] at cL
  obtain ⟨u8, f4⟩ := Gd8 G.b
  have s6 := G.s6
  have o6 := G.o6
  dsimp only at u8 f4 s6 o6
  have cN := fun W' (h : Below W.heap.size W W') => l6Copy_c ⟨u, uc, f, fc, some ⟨ba, oa, none⟩, ac, q, qc, r, rc⟩ ⟨t, s, us, fs, fa, se, oo⟩ u8 f4 (Nat.le_of_eq h4) s6 o6 W' (HN.out.later h)
  replace cN : ∀ W', Below W.heap.size W W' → Calls Tryz.prog 61 #[.agg (wv t s u us.length uc f fs.length fc (some ⟨ba, oa, none⟩) 4 ac q se.length qc r oo.length rc)] W' fun e w' => ∃ p', e = .returned (.agg (WP.v p' ⟨t, s, us, fs, fa, se, oo⟩)) ∧ OwW w' W'.heap.size p' ⟨t, s, us, fs, fa, se, oo⟩ ∧ Below W'.heap.size W' w' := fun W' h => by
    have := cN W' h
    rw [← h4]; exact this
  have hpur := purse_in G
  have hkk : ∀ k ∈ hs, 0 ≤ k ∧ k ≤ 3 := fun k hk => by rw [Hs.out] at hk; have := mem_sdL.1 hk; exact ⟨this.1, this.2.1⟩
  have hl4 : hs.length ≤ 4 := by rw [Hs.out]; exact len_sdL _ _
  have hga : eqGA fa (shA y.c0 hs.length 0 hs fa) := shA_eq (eqGA.refl fa)
  have hl1 : (shA y.c0 hs.length 0 hs fa).length = 4 := by rw [← hga.1]; exact h4
  have Hall : Hid (clK i 4 (shA y.c0 hs.length 0 hs fa) = clA i hs (shA y.c0 hs.length 0 hs fa)) := cl_all hl1 (by rw [Hs.out]; exact nd_sdL _ _) hkk (fun j j0 j3 hj => by
    rw [← hga.ally]
    refine clB_same (gd_fac G j0 j3).m i0 i3 ?_
    cases e : hasS (allyA fa j) i
    · rfl
    · exfalso
      have h := ((gd_fac G j0 j3).r i i0 i3 e).2
      exact hj (by rw [Hs.out]; exact mem_sdL.2 ⟨j0, j3, h⟩))
  have Hal : Hid (∀ j, 0 ≤ j → j ≤ 3 → inb (allyA (shA y.c0 hs.length 0 hs fa) j) 0 15 = true) := fun j j0 j3 => by rw [← hga.ally]; exact (gd_fac G j0 j3).m
  have HX : Hid ((⟨t, leaS hasS ⟨t, s, us, fs, fa, se, oo⟩ i, shU i (heirs hasS ⟨t, s, us, fs, fa, se, oo⟩ i) 0 us, fs, leaF hasS ⟨t, s, us, fs, fa, se, oo⟩ i, seF' i se, ooF' i oo⟩ : KW) = ⟨t, s + (y.c0 - shT y.c0 hs.length 0 hs fa), shU i hs 0 us, fs, (clK i 4 (shA y.c0 hs.length 0 hs fa)).set i.toNat ⟨0, true, 0⟩, seF' i se, ooF' i oo⟩) := by
    show _ = _
    rw [Hall.out, Hs.out, ← hyp]; rfl
  dsimp only
  rw [HX.out]
  have cP := fun (g6 base b0 : Nat) (p' : WP) (vh : Value) (w2 : World) (h1 : VS w2 base g6 p' ⟨t, s, us, fs, fa, se, oo⟩) (h2 : SlI w2 b0 vh hs) (h3 : base ≤ w2.heap.size) => l8Purse_c g6 base b0 p' t s us fs fa se oo y.c0 hs vh w2 h1 h2 h3 h4 hpur yb0 yb1 hkk hl4 sb0 sb1
  generalize s + (y.c0 - shT y.c0 hs.length 0 hs fa) = S1 at cP ⊢
  generalize shA y.c0 hs.length 0 hs fa = FA1 at cP hl1 Hal ⊢
  have cU := fun (g6 base b0 : Nat) (p' : WP) (vh : Value) (w3 : World) (h1 : VS w3 base g6 p' ⟨t, S1, us, fs, FA1, se, oo⟩) (h2 : SlI w3 b0 vh hs) (h3 : base ≤ w3.heap.size) => l8Units_c g6 base b0 p' t S1 us fs FA1 se oo i hs vh w3 h1 h2 h3 u8 hl4
  generalize shU i hs 0 us = U1 at cU ⊢
  have Hl1 : Hid (FA1.length = 4) := hl1
  obtain ⟨FA2, HF2⟩ : ∃ l, Hid (l = clK i 4 FA1) := ⟨_, rfl⟩
  obtain ⟨FA3, HF3⟩ : ∃ l, Hid (l = FA2.set i.toNat ⟨0, true, 0⟩) := ⟨_, rfl⟩
  obtain ⟨o9, HO9⟩ : ∃ l, Hid (l = ooF' i oo) := ⟨_, rfl⟩
  obtain ⟨q9, HQ9⟩ : ∃ l, Hid (l = seF' i se) := ⟨_, rfl⟩
  rw [← HF2.out, ← HF3.out, ← HO9.out, ← HQ9.out]
  have HSe : Hid (∀ W', Below W.heap.size W W' → ArgS W' q se) := fun W' h => (HN.out.later h).arg.s
  have HOo : Hid (∀ W', Below W.heap.size W W' → ArgO W' r oo) := fun W' h => (HN.out.later h).arg.o
  clear R P hW hI G hy hyg hyp hat hga hl1 hpur hya hgn hym HX Hall hkk hl4 hfull h4
  go_enter Tryz.func26, Tryz.ntmps26
  go_upto_region 1 with fail
  rw [← HW.out]
  obtain ⟨p0, p1, p2, p3, p4, p5, p6, y0, y1, pl, bl⟩ := keep _ Bc
  go_upto_region 3 with fail
  go_quiet (fail)
  have Bc := Bc.trans ((below_drewN _ nq).mono Bc.size)
  clear p0 p1 p2 p3 p4 p5 p6 y0 y1 pl bl
  obtain ⟨p0, p1, p2, p3, p4, p5, p6, y0, y1, pl, bl⟩ := keep _ Bc
  go_wp2_with fail
  refine (cL _ Bc).mono ?_
  rintro e w2 ⟨vh, rfl, hSI, k2⟩
  have Bc := Bc.trans (k2.mono Bc.size)
  clear p0 p1 p2 p3 p4 p5 p6 y0 y1 pl bl cL
  obtain ⟨p0, p1, p2, p3, p4, p5, p6, y0, y1, pl, bl⟩ := keep _ Bc
  go_wp2_with fail
  refine (cN _ Bc).mono ?_
  rintro e w3 ⟨p', rfl, O3, k3⟩
  obtain ⟨W6, HW6⟩ : ∃ W6, Hid (W6 = w3.alloc (.cells (p'.v ⟨t, s, us, fs, fa, se, oo⟩) 32)) := ⟨_, rfl⟩
  have k6 : Below w3.heap.size w3 W6 := by rw [HW6.out]; exact (Below.refl _ _).alloc (Nat.le_refl _) _
  have k26 : Below w2.heap.size w2 W6 := k3.trans (k6.mono k3.size)
  have V6 : VS W6 w2.heap.size w3.heap.size p' ⟨t, s, us, fs, fa, se, oo⟩ := ⟨by rw [HW6.out]; exact Blk.new w3 _ _, O3.later k6, k3.size⟩
  have hbw : W.heap.size ≤ w2.heap.size := Bc.size
  have hs26 := k26.size
  have SI6 := hSI.below k26
  have Bc := Bc.trans (k26.mono hbw)
  clear p0 p1 p2 p3 p4 p5 p6 y0 y1 pl bl cN O3 k6 k26 hSI k3
  obtain ⟨p0, p1, p2, p3, p4, p5, p6, y0, y1, pl, bl⟩ := keep _ Bc
  have cP := cP _ _ _ _ _ _ V6 SI6 hs26
  go_upto_region 7 with fail
  rw [← HW6.out]
  go_wp2_with fail
  refine cP.mono ?_
  rintro e w7 ⟨rfl, V7, K7⟩
  have SI7 := K7.slI SI6 (by decide)
  have hs7 : w2.heap.size ≤ w7.heap.size := Nat.le_trans hs26 K7.size
  have Bc := Bc.trans (K7.below hbw)
  have cU := cU _ _ _ _ _ _ V7 SI7 hs7
  clear p0 p1 p2 p3 p4 p5 p6 y0 y1 pl bl cP V6 SI6 SI7 V7 K7
  go_wp2_with fail
  refine cU.mono ?_
  rintro e w8 ⟨rfl, V8, K8⟩
  have hs8 : w2.heap.size ≤ w8.heap.size := Nat.le_trans hs7 K8.size
  have Bc := Bc.trans (K8.below hbw)
  obtain ⟨pu, puc, pf, pfc, pa, pac, ps, psc, po, poc⟩ := p'
  obtain ⟨ga, hpa, hgb, hgl, _, _, _⟩ := V8.o.a.blk0 (show 0 < FA1.length by rw [Hl1.out]; omega)
  dsimp only at hpa
  subst hpa
  have HV8 : Hid (VS w8 w2.heap.size w3.heap.size ⟨pu, puc, pf, pfc, some ⟨ga, 0, none⟩, pac, ps, psc, po, poc⟩ ⟨t, S1, U1, fs, FA1, se, oo⟩) := V8
  clear cU K8 V8
  go_wp2_with fail
  go_loopw [7] (fun j wr => ∃ k : Nat, j = .int .i64 k ∧ k ≤ 4 ∧ Hid (VS wr w2.heap.size w3.heap.size ⟨pu, puc, pf, pfc, some ⟨ga, 0, none⟩, pac, ps, psc, po, poc⟩ ⟨t, S1, U1, fs, clK i k FA1, se, oo⟩) ∧ KT TQ w2.heap.size w8 wr) (fun j _ => 4 - (intOf j).toNat)
  case atStart => exact ⟨0, rfl, Nat.zero_le _, HV8, KT.refl _ _ _⟩
  case round =>
    obtain ⟨k, rfl, hk, Hw, KK⟩ := hrel
    have hlk : (clK i k FA1).length = 4 := by rw [clK_len]; exact Hl1.out
    have d4 : wr.cell? ⟨w3.heap.size, 4, none⟩ = some (.slice (some ⟨ga, 0, none⟩) (clK i k FA1).length pac) := Hw.out.b.cell (i := 4) rfl
    rw [hlk] at d4
    have gl6 := Hw.out.b.lt
    obtain ⟨ga2, e9, _, hgl2, hat2, _, hfz2⟩ := (show SlA wr w2.heap.size (.slice (some ⟨ga, 0, none⟩) (clK i k FA1).length pac) (clK i k FA1) from Hw.out.o.a).blk0 (by omega)
    obtain rfl : ga = ga2 := by have := Option.some.inj e9; injection this
    obtain ⟨csA, hbA⟩ := (show SlA wr w2.heap.size (.slice (some ⟨ga, 0, none⟩) (clK i k FA1).length pac) (clK i k FA1) from Hw.out.o.a).blk (q := ga) rfl
    by_cases hlt : k < 4
    · have hlt' : (k : Int) < 4 := by omega
      obtain ⟨z, hz⟩ : ∃ z, (clK i k FA1)[k]? = some z := ⟨_, List.getElem?_eq_getElem (by omega)⟩
      obtain ⟨z0, z1, z2, zl⟩ := hat2.one hgl2 hz
      rw [Nat.zero_add] at z2
      have hal : allyA (clK i k FA1) (k : Int) = z.c2 := ally_get (by rw [Int.toNat_natCast]; exact hz)
      have hzb : inb z.c2 0 15 = true := by
        rw [← hal, (clK_get Hl1.out (by omega) (k : Int) (by omega)).2.2, if_neg (by omega)]
        exact Hal.out _ (by omega) (by omega)
      have hbit := clB_run hzb i0 i3
      have fz := hfz2 (k * 3 + 2)
      have hzs : (flatA (clK i k FA1)).set (k * 3 + 2) (.int .i64 (clB z.c2 i)) = flatA (clK i (k + 1) FA1) := by
        have := setC_flat (k := (k : Int)) (clB z.c2 i) (by rw [Int.toNat_natCast]; exact hz)
        rw [Int.toNat_natCast] at this
        rw [this]
        show _ = flatA (setC _ _ (clB (allyA (clK i k FA1) (k : Int)) i))
        rw [hal]
      have Hw5 : Hid (VS (wr.setCell ⟨ga, k * 3 + 2, none⟩ (.int .i64 (clB z.c2 i))).drew w2.heap.size w3.heap.size ⟨pu, puc, pf, pfc, some ⟨ga, 0, none⟩, pac, ps, psc, po, poc⟩ ⟨t, S1, U1, fs, clK i (k + 1) FA1, se, oo⟩) := (Hw.out.setA rfl (k * 3 + 2) (.int .i64 (clB z.c2 i)) _ (by dsimp only; omega) hzs).drew
      have HK5 : Hid (KT TQ w2.heap.size w8 (wr.setCell ⟨ga, k * 3 + 2, none⟩ (.int .i64 (clB z.c2 i))).drew) := (KK.set hbA (by decide) hgb _ _).drew
      clear hz hal hzs hbA hat2 hfz2 e9 z0 z1 hlk
      go_upto_region 12 with fail
      go_region
      all_goals
        try rw [hbit]
        go_wp2_with fail
        go_roundw
        case rel => exact ⟨k + 1, by go_num, by omega, Hw5, HK5.out⟩
        case measure => simp [intOf]; omega
    · obtain rfl : k = 4 := by omega
      have hlt' : ¬ ((4 : Nat) : Int) < 4 := by omega
      have Bc := Bc.trans (KK.below hbw)
      rw [← HF2.out] at Hw hlk hat2
      obtain ⟨z, hz⟩ : ∃ z, FA2[i.toNat]? = some z := ⟨_, List.getElem?_eq_getElem (by omega)⟩
      have fz0 := hfz2 (i.toNat * 3)
      have fz1 := hfz2 (i.toNat * 3 + 1)
      have fz2 := hfz2 (i.toNat * 3 + 2)
      obtain ⟨z0, z1, z2, zl⟩ := hat2.one hgl2 hz
      rw [Nat.zero_add] at z0 z1 z2
      have q1 := Hw.out.setA rfl (i.toNat * 3) (.int .i64 0) (FA2.set i.toNat ⟨0, z.c1, z.c2⟩) (by dsimp only; omega) (flatA_set0 FA2 i.toNat z 0 hz)
      have hz1 : (FA2.set i.toNat ⟨0, z.c1, z.c2⟩)[i.toNat]? = some ⟨0, z.c1, z.c2⟩ := by rw [List.getElem?_set, if_pos rfl, if_pos (by omega)]
      have q2 := q1.setA rfl (i.toNat * 3 + 1) (.bool true) ((FA2.set i.toNat ⟨0, z.c1, z.c2⟩).set i.toNat ⟨0, true, z.c2⟩) (by dsimp only; rw [List.length_set]; omega) (flatA_set1 _ i.toNat _ true hz1)
      rw [List.set_set] at q2
      have hz2 : (FA2.set i.toNat ⟨0, true, z.c2⟩)[i.toNat]? = some ⟨0, true, z.c2⟩ := by rw [List.getElem?_set, if_pos rfl, if_pos (by omega)]
      have q3 := q2.setA rfl (i.toNat * 3 + 2) (.int .i64 0) ((FA2.set i.toNat ⟨0, true, z.c2⟩).set i.toNat ⟨0, true, 0⟩) (by dsimp only; rw [List.length_set]; omega) (flatA_set2 _ i.toNat _ 0 hz2)
      rw [List.set_set] at q3
      obtain ⟨W13, HW13⟩ : ∃ W13, Hid (W13 = ((wr.setCell ⟨ga, i.toNat * 3, none⟩ (.int .i64 0)).setCell ⟨ga, i.toNat * 3 + 1, none⟩ (.bool true)).setCell ⟨ga, i.toNat * 3 + 2, none⟩ (.int .i64 0)) := ⟨_, rfl⟩
      have K13 : KT TQ w2.heap.size wr W13 := by
        rw [HW13.out]
        exact (((KT.refl _ _ _).set hbA (by decide) hgb _ _).set (hbA.set _ _) (by decide) hgb _ _).set ((hbA.set _ _).set _ _) (by decide) hgb _ _
      rw [← HW13.out] at q3
      have Bc := Bc.trans (K13.below hbw)
      have HV13 : Hid (VS W13 w2.heap.size w3.heap.size ⟨pu, puc, pf, pfc, some ⟨ga, 0, none⟩, pac, ps, psc, po, poc⟩ ⟨t, S1, U1, fs, FA2.set i.toNat ⟨0, true, 0⟩, se, oo⟩) := q3
      have hs13 : w2.heap.size ≤ W13.heap.size := Nat.le_trans hs8 (Nat.le_trans KK.size K13.size)
      rw [← HF3.out] at HV13
      clear q1 q2 q3 hz hz1 hz2 K13 hbA hat2 hfz2 e9
      go_upto_region 14 with fail
      rw [← HW13.out]
      clear d4 gl6 hgl2 fz0 fz1 fz2 z0 z1 z2 zl KK Hw hlk
      obtain ⟨p0, p1, p2, p3, p4, p5, p6, y0, y1, pl, bl⟩ := keep _ Bc
      have cO := l7Without_c r oo.length rc oo i rfl (by omega) W13 (HOo.out _ Bc)
      go_wp2_with fail
      refine cO.mono ?_
      rintro e w14 ⟨v14, rfl, S14, k14⟩
      rw [← HO9.out] at S14
      obtain ⟨po9, oc9, rfl⟩ := S14.fm
      have V14 := HV13.out.later k14
      have d6 : w14.cell? ⟨w3.heap.size, 6, none⟩ = some (.slice po oo.length poc) := V14.b.cell (i := 6) rfl
      have fz6 := V14.b.frozen 6
      have gl14 := V14.b.lt
      have V15 := V14.setO (S14.mono hs13)
      obtain ⟨W15, HW15⟩ : ∃ W15, Hid (W15 = w14.setCell ⟨w3.heap.size, 6, none⟩ (.slice po9 o9.length oc9)) := ⟨_, rfl⟩
      rw [← HW15.out] at V15
      have hs14 : w2.heap.size ≤ w14.heap.size := Nat.le_trans hs13 k14.size
      have k15 : KT TQ w2.heap.size w14 W15 := by rw [HW15.out]; exact (KT.refl _ _ _).set V14.b (by decide) V14.bg 6 _
      have Bc := (Bc.trans (k14.mono (Nat.le_trans hbw hs13))).trans (k15.below hbw)
      have hs15 : w2.heap.size ≤ W15.heap.size := Nat.le_trans hs14 k15.size
      have HV15 : Hid _ := V15
      clear p0 p1 p2 p3 p4 p5 p6 y0 y1 pl bl cO V14 V15 k15 S14 k14
      go_upto_region 15 with fail
      rw [← HW15.out]
      clear d6 fz6 gl14
      obtain ⟨p0, p1, p2, p3, p4, p5, p6, y0, y1, pl, bl⟩ := keep _ Bc
      have cQ := l8Seats_c q se.length qc se i rfl (by omega) W15 (HSe.out _ Bc)
      go_wp2_with fail
      refine cQ.mono ?_
      rintro e w16 ⟨v16, rfl, S16, k16⟩
      rw [← HQ9.out] at S16
      obtain ⟨ps9, sc9, rfl⟩ := S16.fm
      have V16 := HV15.out.later k16
      have d5 : w16.cell? ⟨w3.heap.size, 5, none⟩ = some (.slice ps se.length psc) := V16.b.cell (i := 5) rfl
      have fz5 := V16.b.frozen 5
      have gl16 := V16.b.lt
      have V17 := V16.setQ (S16.mono hs15)
      obtain ⟨W17, HW17⟩ : ∃ W17, Hid (W17 = w16.setCell ⟨w3.heap.size, 5, none⟩ (.slice ps9 q9.length sc9)) := ⟨_, rfl⟩
      rw [← HW17.out] at V17
      have k17 : KT TQ w2.heap.size w16 W17 := by rw [HW17.out]; exact (KT.refl _ _ _).set V16.b (by decide) V16.bg 5 _
      have Bc := (Bc.trans (k16.mono (Nat.le_trans hbw hs15))).trans (k17.below hbw)
      have O8 : OwW W17 w2.heap.size ⟨pu, puc, pf, pfc, some ⟨ga, 0, none⟩, pac, ps9, sc9, po9, oc9⟩ ⟨t, S1, U1, fs, FA3, q9, o9⟩ := V17.o
      have V17b := V17.b
      clear p0 p1 p2 p3 p4 p5 p6 y0 y1 pl bl cQ V16 V17 k17 S16 k16
      go_upto_region 16 with fail
      rw [← HW17.out]
      clear d5 fz5 gl16
      obtain ⟨e0, e1, e2, e3, e4, e5, e6, el⟩ : W17.cell? ⟨w3.heap.size, 0, none⟩ = some (.int .i64 t) ∧ W17.cell? ⟨w3.heap.size, 1, none⟩ = some (.int .i64 S1) ∧ W17.cell? ⟨w3.heap.size, 2, none⟩ = some (.slice pu U1.length puc) ∧ W17.cell? ⟨w3.heap.size, 3, none⟩ = some (.slice pf fs.length pfc) ∧ W17.cell? ⟨w3.heap.size, 4, none⟩ = some (.slice (some ⟨ga, 0, none⟩) FA3.length pac) ∧ W17.cell? ⟨w3.heap.size, 5, none⟩ = some (.slice ps9 q9.length sc9) ∧ W17.cell? ⟨w3.heap.size, 6, none⟩ = some (.slice po9 o9.length oc9) ∧ w3.heap.size < W17.heap.size := ⟨V17b.cell (i := 0) rfl, V17b.cell (i := 1) rfl, V17b.cell (i := 2) rfl, V17b.cell (i := 3) rfl, V17b.cell (i := 4) rfl, V17b.cell (i := 5) rfl, V17b.cell (i := 6) rfl, V17b.lt⟩
      clear V17b
      have R1 := HR.out.below Bc
      obtain ⟨r0, r1, r2, r3, r4, r5, r6, r7, y0, y1, y2, y3, y4, y5, y6, y7, rl⟩ := R1.z8
      have Fz := set8_blk R1 (.int .i64 0) (.int .i64 t) (.int .i64 S1) (.slice pu U1.length puc) (.slice pf fs.length pfc) (.slice (some ⟨ga, 0, none⟩) FA3.length pac) (.slice ps9 q9.length sc9) (.slice po9 o9.length oc9)
      have Fo := (O8.of_block R1 (by decide) (by decide) (by decide) (by decide) (by decide) (set8_other (W := W17) (g := w.heap.size) (.int .i64 0) (.int .i64 t) (.int .i64 S1) (.slice pu U1.length puc) (.slice pf fs.length pfc) (.slice (some ⟨ga, 0, none⟩) FA3.length pac) (.slice ps9 q9.length sc9) (.slice po9 o9.length oc9))).mono (show w.heap.size ≤ _ by omega)
      have BE := set8_below (B1.trans (Bc.mono hB)) (Nat.le_refl w.heap.size) (.int .i64 0) (.int .i64 t) (.int .i64 S1) (.slice pu U1.length puc) (.slice pf fs.length pfc) (.slice (some ⟨ga, 0, none⟩) FA3.length pac) (.slice ps9 q9.length sc9) (.slice po9 o9.length oc9)
      clear R1 O8
      go_wp2_with fail
      exact bodyPost_ret (v := .agg (r8 0 ⟨pu, puc, pf, pfc, some ⟨ga, 0, none⟩, pac, ps9, sc9, po9, oc9⟩ ⟨t, S1, U1, fs, FA3, q9, o9⟩)) (result8 Tryz.results26 Fz _ rfl) rfl ⟨_, rfl, Fo, BE⟩
end Go.Proofs.YtlfnnobkgbfdgaaGreat
end
