/- Texts of mine put together (a claim holds at most 60 files): SeatWalk. -/
import Derived.Test.YtgfdfpaimlcgaaaPartS21
import Derived.Test.YtgfdfpaimlcgaaaPartS29
import Derived.Test.YtgfdfpaimlcgaaaPartS25

/- SeatWalk -/
/- The contracts of SeatOf and of its model. Condition: the world's lists lie in memory as they were laid there. -/
section
namespace Go.Proofs.Ytgfdfpaimlcgaaa
open Go.ChangeShapes Go.WideShapes Go.ChangeAt Go.RowKit
open Bd
set_option linter.unusedVariables false

abbrev z5 : Array Value := #[.int .i64 0, .int .i64 0, .int .i64 0, .int .i64 0, .int .i64 0]
abbrev set5 (W : World) (g : Nat) (v0 v1 v2 v3 v4 : Value) : World := ((((W.setCell ⟨g, 0, none⟩ v0).setCell ⟨g, 1, none⟩ v1).setCell ⟨g, 2, none⟩ v2).setCell ⟨g, 3, none⟩ v3).setCell ⟨g, 4, none⟩ v4
theorem set5_blk {W : World} {g : Nat} {c0 c1 c2 c3 c4 : Value} {t : TypeId} (h : Blk W g #[c0, c1, c2, c3, c4] t) (v0 v1 v2 v3 v4 : Value) : Blk (set5 W g v0 v1 v2 v3 v4) g #[v0, v1, v2, v3, v4] t := by
  have q0 : Blk _ g #[v0, c1, c2, c3, c4] t := h.set 0 v0
  have q1 : Blk _ g #[v0, v1, c2, c3, c4] t := q0.set 1 v1
  have q2 : Blk _ g #[v0, v1, v2, c3, c4] t := q1.set 2 v2
  have q3 : Blk _ g #[v0, v1, v2, v3, c4] t := q2.set 3 v3
  have q4 : Blk _ g #[v0, v1, v2, v3, v4] t := q3.set 4 v4
  exact q4
theorem set5_below {n : Nat} {w W : World} {g : Nat} (h : Below n w W) (hg : n ≤ g) (v0 v1 v2 v3 v4 : Value) : Below n w (set5 W g v0 v1 v2 v3 v4) :=
  bel_set (bel_set (bel_set (bel_set (bel_set (h) g 0 hg v0) g 1 hg v1) g 2 hg v2) g 3 hg v3) g 4 hg v4
structure Z5 (w : World) (g : Nat) : Prop where
  c0 : w.cell? ⟨g, 0, none⟩ = some (.int .i64 0)
  c1 : w.cell? ⟨g, 1, none⟩ = some (.int .i64 0)
  c2 : w.cell? ⟨g, 2, none⟩ = some (.int .i64 0)
  c3 : w.cell? ⟨g, 3, none⟩ = some (.int .i64 0)
  c4 : w.cell? ⟨g, 4, none⟩ = some (.int .i64 0)
  f0 : w.frozen? ⟨g, 0, none⟩ = false
  f1 : w.frozen? ⟨g, 1, none⟩ = false
  f2 : w.frozen? ⟨g, 2, none⟩ = false
  f3 : w.frozen? ⟨g, 3, none⟩ = false
  f4 : w.frozen? ⟨g, 4, none⟩ = false
  lt : g < w.heap.size
theorem Blk.z5 {w : World} {g : Nat} {t : TypeId} (h : Blk w g z5 t) : Z5 w g :=
  ⟨h.cell rfl, h.cell rfl, h.cell rfl, h.cell rfl, h.cell rfl, h.frozen _, h.frozen _, h.frozen _, h.frozen _, h.frozen _, h.lt⟩
theorem result5 {w : World} {p : Nat} {v0 v1 v2 v3 v4 : Value} {fn : Func} {k : Nat} (hf : fn.results = #[.cell k 49]) (h : Blk w p #[v0, v1, v2, v3, v4] 49) (T : Array Value) (hT : T[k]?.getD undef = .pointer (some ⟨p, 0, none⟩)) :
    (results fn T).run Try.prog w = .ok (.agg #[v0, v1, v2, v3, v4]) w := by
  have c0 := h.cell (i := 0) rfl
  have c1 := h.cell (i := 1) rfl
  have c2 := h.cell (i := 2) rfl
  have c3 := h.cell (i := 3) rfl
  have c4 := h.cell (i := 4) rfl
  simp [results, hf, go_sem, hT, c0, c1, c2, c3, c4]
abbrev r5 (c : Int) (s : K4) : Array Value := #[.int .i64 c, .int .i64 s.c0, .int .i64 s.c1, .int .i64 s.c2, .int .i64 s.c3]
/- the place of a seat, or -1 -/
def atS (l : List K4) (c r : Int) : Prop := (sTh l c = true ∧ 0 ≤ r ∧ l[r.toNat]? = some (sGet l c)) ∨ (sTh l c = false ∧ r = -1)
set_option maxHeartbeats 4000000 in
theorem l6Seat_c (g : Nat) (q : Option Addr) (m qc : Nat) (l : List K4) (c : Int) (hl : l.length = m) (hm : m ≤ 1048576) (w : World) (hg : w.cell? ⟨g, 5, none⟩ = some (.slice q m qc)) (hgl : g < w.heap.size) (hS : ArgS w q l) :
    Calls Try.prog 33 #[.pointer (some ⟨g, 0, none⟩), .int .i64 c] w fun e w' => ∃ r : Int, e = .returned (.int .i64 r) ∧ atS l c r ∧ Below w.heap.size w w' := by
  have Hl : Hid (l.length = m) := hl
  have HS : Hid (ArgS w q l) := hS
  have H0 : Hid (sTh l c = sTh (l.drop 0) c ∧ sGet l c = sGet (l.drop 0) c) := ⟨rfl, rfl⟩
  have HE : Hid (∀ r, atS l c r = ((sTh l c = true ∧ 0 ≤ r ∧ l[r.toNat]? = some (sGet l c)) ∨ (sTh l c = false ∧ r = -1))) := fun _ => rfl
  have Hc : Hid (w.cell? ⟨g, 5, none⟩ = some (.slice q m qc)) := hg
  generalize atS l c = A at HE ⊢
  generalize sTh l c = T at H0 HE
  generalize sGet l c = G at H0 HE
  clear hl hS
  go_enter Try.func33, Try.ntmps33
  go_wp2_with fail
  go_loopw [5] (fun j wr => ∃ k : Nat, k ≤ m ∧ j = .int .i64 k ∧ Hid (T = sTh (l.drop k) c ∧ G = sGet (l.drop k) c) ∧ Below w.heap.size w wr) (fun j _ => m - (intOf j).toNat)
  case atStart => exact ⟨0, Nat.zero_le _, rfl, H0, Below.refl _ _⟩
  case round =>
    clear hg
    obtain ⟨k, hk, rfl, Hk, kb⟩ := hrel
    have pc : wr.cell? ⟨g, 5, none⟩ = some (.slice q m qc) := by rw [kb.cell hgl]; exact Hc.out
    have pl : g < wr.heap.size := Nat.lt_of_lt_of_le hgl kb.size
    by_cases hlt : k < m
    · have hlt' : (k : Int) < (m : Int) := by omega
      obtain ⟨x, hx⟩ : ∃ x, l[k]? = some x := ⟨_, List.getElem?_eq_getElem (by have := Hl.out; omega)⟩
      obtain ⟨b, off, rfl, hb, hat⟩ := HS.out.at hx
      obtain ⟨x0, x1, x2, x3, xl⟩ := (hat.later hb kb).one (Nat.lt_of_lt_of_le hb kb.size) hx
      have Hx : Hid (l[k]? = some x) := hx
      clear hx hat
      cases ec : x.c0 == c
      · have HE1 : Hid (T = sTh (l.drop (k + 1)) c ∧ G = sGet (l.drop (k + 1)) c) := by
          refine ⟨?_, ?_⟩
          · rw [Hk.out.1, sTh_step Hx.out, ec]; rfl
          · rw [Hk.out.2, sGet_step Hx.out, ec]; rfl
        go_wp2_with fail
        go_roundw
        case rel => exact ⟨k + 1, by omega, by go_num, HE1, kb⟩
        case measure => simp [intOf]; omega
      · have HE1 : Hid (A (k : Int)) := by
          show A _
          rw [HE.out]
          refine .inl ⟨by rw [Hk.out.1, sTh_step Hx.out, ec]; rfl, by omega, ?_⟩
          rw [Hk.out.2, sGet_step Hx.out, if_pos ec, Int.toNat_natCast]
          exact Hx.out
        go_wp2_with fail
        go_ret
        exact ⟨_, rfl, HE1.out, kb⟩
    · obtain rfl : m = k := by omega
      have hlt' : ¬ (m : Int) < (m : Int) := by omega
      have HE1 : Hid (A (-1)) := by
        show A _
        rw [HE.out]
        refine .inr ⟨?_, rfl⟩
        rw [Hk.out.1, List.drop_of_length_le (by have := Hl.out; omega)]; rfl
      go_wp2_with fail
      go_ret
      exact ⟨_, rfl, HE1.out, kb⟩
set_option maxRecDepth 20000 in
set_option maxHeartbeats 8000000 in
theorem implSeatOf (p : WP) (x : KW) (w : World) (h : InW w p x) (c : Int) :
    Calls Try.prog 11 #[.agg (p.v x), .int .i64 c] w fun e w' => e = .returned (.agg (r5 (soC hasI x c) (soS hasI x c))) ∧ Below w.heap.size w w' := by
  obtain ⟨t, s, us, fs, fa, se, oo⟩ := x
  obtain ⟨u, uc, f, fc, a, ac, q, qc, r, rc⟩ := p
  obtain ⟨W, HW⟩ : ∃ W, Hid (W = (w.alloc (.cells (wv t s u us.length uc f fs.length fc a fa.length ac q se.length qc r oo.length rc) 32)).alloc (.cells z5 49)) := ⟨_, rfl⟩
  have B1 : Below w.heap.size w W := by rw [HW.out]; exact ((Below.refl _ _).alloc (Nat.le_refl _) _).alloc (by rw [size_new]; omega) _
  have P : Bk W w.heap.size (wv t s u us.length uc f fs.length fc a fa.length ac q se.length qc r oo.length rc) 32 := by rw [HW.out]; exact (Bk.new w (wv t s u us.length uc f fs.length fc a fa.length ac q se.length qc r oo.length rc) 32).alloc _
  have R : Blk W (w.heap.size + 1) z5 49 := by rw [HW.out]; have h := Blk.new (w.alloc (.cells (wv t s u us.length uc f fs.length fc a fa.length ac q se.length qc r oo.length rc) 32)) z5 49; rw [size_new] at h; exact h
  have HN : Hid (InW W ⟨u, uc, f, fc, a, ac, q, qc, r, rc⟩ ⟨t, s, us, fs, fa, se, oo⟩) := h.later B1
  have HR : Hid (Blk W (w.heap.size + 1) z5 49) := R
  have hB := B1.size
  show Calls Try.prog 11 #[.agg (wv t s u us.length uc f fs.length fc a fa.length ac q se.length qc r oo.length rc), .int .i64 c] w _
  have cF := fun W' (h : Below W.heap.size W W') => implWorldFault ⟨u, uc, f, fc, a, ac, q, qc, r, rc⟩ ⟨t, s, us, fs, fa, se, oo⟩ HN.out.o1 HN.out.o2 W' (HN.out.later h).arg
  replace cF : ∀ W', Below W.heap.size W W' → Calls Try.prog 18 #[.agg (wv t s u us.length uc f fs.length fc a fa.length ac q se.length qc r oo.length rc)] W' fun e w' => e = .returned (.int .i64 (wf hasI ⟨t, s, us, fs, fa, se, oo⟩)) ∧ Below W'.heap.size W' w' := cF
  have HC : Hid (soC hasI ⟨t, s, us, fs, fa, se, oo⟩ c = if (wf hasI ⟨t, s, us, fs, fa, se, oo⟩ == 0) = false then wf hasI ⟨t, s, us, fs, fa, se, oo⟩ else if sTh se c = false then 4 else 0) := rfl
  have HX : Hid (soS hasI ⟨t, s, us, fs, fa, se, oo⟩ c = if (soC hasI ⟨t, s, us, fs, fa, se, oo⟩ c == 0) = true then sGet se c else K4.z) := rfl
  have HG : Hid (wf hasI ⟨t, s, us, fs, fa, se, oo⟩ = 0 → GdW hasI ⟨t, s, us, fs, fa, se, oo⟩) := (gdW_iff hasI _).1
  generalize soS hasI ⟨t, s, us, fs, fa, se, oo⟩ c = X at HX ⊢
  generalize soC hasI ⟨t, s, us, fs, fa, se, oo⟩ c = C at HC HX ⊢
  generalize wf hasI ⟨t, s, us, fs, fa, se, oo⟩ = F at cF HC HG
  have HSe : Hid (∀ W', Below W.heap.size W W' → ArgS W' q se) := fun W' h => (HN.out.later h).arg.s
  obtain ⟨mu, Hmu⟩ : ∃ m, Hid (us.length = m) := ⟨_, rfl⟩
  obtain ⟨mf, Hmf⟩ : ∃ m, Hid (fs.length = m) := ⟨_, rfl⟩
  obtain ⟨ma, Hma⟩ : ∃ m, Hid (fa.length = m) := ⟨_, rfl⟩
  obtain ⟨ms, Hms⟩ : ∃ m, Hid (se.length = m) := ⟨_, rfl⟩
  obtain ⟨mo, Hmo⟩ : ∃ m, Hid (oo.length = m) := ⟨_, rfl⟩
  rw [Hmu.out, Hmf.out, Hma.out, Hms.out, Hmo.out] at P HW ⊢
  rw [Hmu.out, Hmf.out, Hma.out, Hms.out, Hmo.out] at cF
  clear h R
  have keep : ∀ w', Below W.heap.size W w' → w'.cell? ⟨w.heap.size, 0, none⟩ = some (.int .i64 t) ∧ w'.cell? ⟨w.heap.size, 1, none⟩ = some (.int .i64 s) ∧ w'.cell? ⟨w.heap.size, 2, none⟩ = some (.slice u mu uc) ∧ w'.cell? ⟨w.heap.size, 3, none⟩ = some (.slice f mf fc) ∧ w'.cell? ⟨w.heap.size, 4, none⟩ = some (.slice a ma ac) ∧ w'.cell? ⟨w.heap.size, 5, none⟩ = some (.slice q ms qc) ∧ w'.cell? ⟨w.heap.size, 6, none⟩ = some (.slice r mo rc) ∧ w.heap.size < w'.heap.size := fun w' hb => by
    have q := P.below hb
    exact ⟨q.cell rfl, q.cell rfl, q.cell rfl, q.cell rfl, q.cell rfl, q.cell rfl, q.cell rfl, q.lt⟩
  have Bc : Below W.heap.size W W := Below.refl _ _
  obtain ⟨p0, p1, p2, p3, p4, p5, p6, pl⟩ := keep _ Bc
  cases e2 : F == 0
  · have n7 : (F != 0) = true := by simp only [bne, e2]; rfl
    have HR1 : Hid (C = F ∧ X = K4.z) := by
      have e : C = F := by rw [HC.out, e2]; rfl
      exact ⟨e, by rw [HX.out, e, e2]; rfl⟩
    clear HC HX HG e2
    go_enter Try.func11, Try.ntmps11
    go_upto_region 1 with fail
    rw [← HW.out]
    go_wp2_with fail
    refine (cF _ Bc).mono ?_
    rintro e wn ⟨rfl, kn⟩
    have Bc := Bc.trans (kn.mono Bc.size)
    clear p0 p1 p2 p3 p4 p5 p6 pl
    have R1 := HR.out.below Bc
    obtain ⟨r0, r1, r2, r3, r4, y0, y1, y2, y3, y4, rl⟩ := R1.z5
    have Fz := set5_blk R1 (.int .i64 F) (.int .i64 0) (.int .i64 0) (.int .i64 0) (.int .i64 0)
    have BE := set5_below (B1.trans (Bc.mono hB)) (show w.heap.size ≤ w.heap.size + 1 by omega) (.int .i64 F) (.int .i64 0) (.int .i64 0) (.int .i64 0) (.int .i64 0)
    clear R1
    go_wp2_with fail
    rw [HR1.out.1, HR1.out.2]
    refine bodyPost_ret ?_ rfl ⟨rfl, BE⟩
    exact result5 Try.results11 Fz _ rfl
  obtain rfl : F = 0 := by simpa using e2
  replace HC : Hid (C = if sTh se c = false then 4 else 0) := HC
  have G := HG.out rfl
  have Hf : Hid (sTh se c = true → se[sPl se c]? = some (sGet se c)) := fun h => (sPl_found (gd_rs G) h).1
  have cS := fun W' (h : Below W.heap.size W W') => seatPlace_c q ms qc se c Hms.out (by have := G.s6; have := Hms.out; dsimp only at *; omega) (gd_rs G) W' (HSe.out W' h)
  have hp := sPl_le c se
  clear HG G e2
  generalize sPl se c = L at cS Hf hp
  generalize sGet se c = Y at HX Hf
  generalize sTh se c = T at HC Hf cS
  cases T
  · have HR1 : Hid (C = 4 ∧ X = K4.z) := by
      have e : C = 4 := by rw [HC.out]; rfl
      exact ⟨e, by rw [HX.out, e]; rfl⟩
    clear HC HX Hf
    go_enter Try.func11, Try.ntmps11
    go_upto_region 1 with fail
    rw [← HW.out]
    go_wp2_with fail
    refine (cF _ Bc).mono ?_
    rintro e wn ⟨rfl, kn⟩
    have Bc := Bc.trans (kn.mono Bc.size)
    clear p0 p1 p2 p3 p4 p5 p6 pl
    obtain ⟨p0, p1, p2, p3, p4, p5, p6, pl⟩ := keep _ Bc
    go_wp2_with fail
    refine (cS _ Bc).mono ?_
    rintro e w2 ⟨rfl, k2⟩
    have Bc := Bc.trans (k2.mono Bc.size)
    clear p0 p1 p2 p3 p4 p5 p6 pl
    have R1 := HR.out.below Bc
    obtain ⟨r0, r1, r2, r3, r4, y0, y1, y2, y3, y4, rl⟩ := R1.z5
    have Fz := set5_blk R1 (.int .i64 4) (.int .i64 0) (.int .i64 0) (.int .i64 0) (.int .i64 0)
    have BE := set5_below (B1.trans (Bc.mono hB)) (show w.heap.size ≤ w.heap.size + 1 by omega) (.int .i64 4) (.int .i64 0) (.int .i64 0) (.int .i64 0) (.int .i64 0)
    clear R1
    go_wp2_with fail
    rw [HR1.out.1, HR1.out.2]
    refine bodyPost_ret ?_ rfl ⟨rfl, BE⟩
    exact result5 Try.results11 Fz _ rfl
  · have hY := Hf.out rfl
    have HR1 : Hid (C = 0 ∧ X = Y) := by
      have e : C = 0 := by rw [HC.out]; rfl
      exact ⟨e, by rw [HX.out, e]; rfl⟩
    have hL : (L : Int) < (ms : Int) := by have := (List.getElem?_eq_some_iff.1 hY).1; have := Hms.out; omega
    obtain ⟨b, off, rfl, _, _⟩ := (HSe.out _ Bc).at hY
    have HY : Hid (∀ W', Below W.heap.size W W' → S1 W' b (off + L * 4) Y) := fun W' h => by
      obtain ⟨b', off', e, hb, hat⟩ := (HSe.out W' h).at hY
      cases e
      exact hat.one hb hY
    clear HC HX Hf hY
    go_enter Try.func11, Try.ntmps11
    go_upto_region 1 with fail
    rw [← HW.out]
    go_wp2_with fail
    refine (cF _ Bc).mono ?_
    rintro e wn ⟨rfl, kn⟩
    have Bc := Bc.trans (kn.mono Bc.size)
    clear p0 p1 p2 p3 p4 p5 p6 pl
    obtain ⟨p0, p1, p2, p3, p4, p5, p6, pl⟩ := keep _ Bc
    go_wp2_with fail
    refine (cS _ Bc).mono ?_
    rintro e w2 ⟨rfl, k2⟩
    have Bc := Bc.trans (k2.mono Bc.size)
    clear p0 p1 p2 p3 p4 p5 p6 pl
    obtain ⟨p0, p1, p2, p3, p4, p5, p6, pl⟩ := keep _ Bc
    obtain ⟨x0, x1, x2, x3, xl⟩ := HY.out _ Bc
    have R1 := HR.out.below Bc
    obtain ⟨r0, r1, r2, r3, r4, y0, y1, y2, y3, y4, rl⟩ := R1.z5
    have Fz := set5_blk R1 (.int .i64 0) (.int .i64 Y.c0) (.int .i64 Y.c1) (.int .i64 Y.c2) (.int .i64 Y.c3)
    have BE := set5_below (B1.trans (Bc.mono hB)) (show w.heap.size ≤ w.heap.size + 1 by omega) (.int .i64 0) (.int .i64 Y.c0) (.int .i64 Y.c1) (.int .i64 Y.c2) (.int .i64 Y.c3)
    clear R1
    go_wp2_with fail
    rw [HR1.out.1, HR1.out.2]
    refine bodyPost_ret ?_ rfl ⟨rfl, BE⟩
    exact result5 Try.results11 Fz _ rfl
set_option maxRecDepth 20000 in
set_option maxHeartbeats 8000000 in
theorem specSeatOf (p : WP) (x : KW) (w : World) (h : InW w p x) (c : Int) :
    Calls Try.prog 12 #[.agg (p.v x), .int .i64 c] w fun e w' => e = .returned (.agg (r5 (soC hasS x c) (soS hasS x c))) ∧ Below w.heap.size w w' := by
  obtain ⟨t, s, us, fs, fa, se, oo⟩ := x
  obtain ⟨u, uc, f, fc, a, ac, q, qc, r, rc⟩ := p
  obtain ⟨W, HW⟩ : ∃ W, Hid (W = (w.alloc (.cells (wv t s u us.length uc f fs.length fc a fa.length ac q se.length qc r oo.length rc) 32)).alloc (.cells z5 49)) := ⟨_, rfl⟩
  have B1 : Below w.heap.size w W := by rw [HW.out]; exact ((Below.refl _ _).alloc (Nat.le_refl _) _).alloc (by rw [size_new]; omega) _
  have P : Bk W w.heap.size (wv t s u us.length uc f fs.length fc a fa.length ac q se.length qc r oo.length rc) 32 := by rw [HW.out]; exact (Bk.new w (wv t s u us.length uc f fs.length fc a fa.length ac q se.length qc r oo.length rc) 32).alloc _
  have R : Blk W (w.heap.size + 1) z5 49 := by rw [HW.out]; have h := Blk.new (w.alloc (.cells (wv t s u us.length uc f fs.length fc a fa.length ac q se.length qc r oo.length rc) 32)) z5 49; rw [size_new] at h; exact h
  have HN : Hid (InW W ⟨u, uc, f, fc, a, ac, q, qc, r, rc⟩ ⟨t, s, us, fs, fa, se, oo⟩) := h.later B1
  have HR : Hid (Blk W (w.heap.size + 1) z5 49) := R
  have hB := B1.size
  show Calls Try.prog 12 #[.agg (wv t s u us.length uc f fs.length fc a fa.length ac q se.length qc r oo.length rc), .int .i64 c] w _
  have cF := fun W' (h : Below W.heap.size W W') => l6Fault_c w.heap.size t s u us.length uc f fs.length fc a fa.length ac q se.length qc r oo.length rc us fs fa se oo rfl rfl rfl rfl rfl HN.out.o1 HN.out.o2 W' ⟨(P.below h).cell rfl, (P.below h).cell rfl, (P.below h).cell rfl, (P.below h).cell rfl, (P.below h).cell rfl, (P.below h).cell rfl, (P.below h).cell rfl, (P.below h).lt⟩ (HN.out.later h).arg.u (HN.out.later h).arg.f (HN.out.later h).arg.a (HN.out.later h).arg.s (HN.out.later h).arg.o
  have HC : Hid (soC hasS ⟨t, s, us, fs, fa, se, oo⟩ c = if (wf hasS ⟨t, s, us, fs, fa, se, oo⟩ == 0) = false then wf hasS ⟨t, s, us, fs, fa, se, oo⟩ else if sTh se c = false then 4 else 0) := rfl
  have HX : Hid (soS hasS ⟨t, s, us, fs, fa, se, oo⟩ c = if (soC hasS ⟨t, s, us, fs, fa, se, oo⟩ c == 0) = true then sGet se c else K4.z) := rfl
  have HG : Hid (wf hasS ⟨t, s, us, fs, fa, se, oo⟩ = 0 → GdW hasS ⟨t, s, us, fs, fa, se, oo⟩) := (gdW_iff hasS _).1
  generalize soS hasS ⟨t, s, us, fs, fa, se, oo⟩ c = X at HX ⊢
  generalize soC hasS ⟨t, s, us, fs, fa, se, oo⟩ c = C at HC HX ⊢
  generalize wf hasS ⟨t, s, us, fs, fa, se, oo⟩ = F at cF HC HG
  have HSe : Hid (∀ W', Below W.heap.size W W' → ArgS W' q se) := fun W' h => (HN.out.later h).arg.s
  obtain ⟨mu, Hmu⟩ : ∃ m, Hid (us.length = m) := ⟨_, rfl⟩
  obtain ⟨mf, Hmf⟩ : ∃ m, Hid (fs.length = m) := ⟨_, rfl⟩
  obtain ⟨ma, Hma⟩ : ∃ m, Hid (fa.length = m) := ⟨_, rfl⟩
  obtain ⟨ms, Hms⟩ : ∃ m, Hid (se.length = m) := ⟨_, rfl⟩
  obtain ⟨mo, Hmo⟩ : ∃ m, Hid (oo.length = m) := ⟨_, rfl⟩
  rw [Hmu.out, Hmf.out, Hma.out, Hms.out, Hmo.out] at P HW ⊢
  clear h R
  have keep : ∀ w', Below W.heap.size W w' → w'.cell? ⟨w.heap.size, 0, none⟩ = some (.int .i64 t) ∧ w'.cell? ⟨w.heap.size, 1, none⟩ = some (.int .i64 s) ∧ w'.cell? ⟨w.heap.size, 2, none⟩ = some (.slice u mu uc) ∧ w'.cell? ⟨w.heap.size, 3, none⟩ = some (.slice f mf fc) ∧ w'.cell? ⟨w.heap.size, 4, none⟩ = some (.slice a ma ac) ∧ w'.cell? ⟨w.heap.size, 5, none⟩ = some (.slice q ms qc) ∧ w'.cell? ⟨w.heap.size, 6, none⟩ = some (.slice r mo rc) ∧ w.heap.size < w'.heap.size := fun w' hb => by
    have q := P.below hb
    exact ⟨q.cell rfl, q.cell rfl, q.cell rfl, q.cell rfl, q.cell rfl, q.cell rfl, q.cell rfl, q.lt⟩
  have Bc : Below W.heap.size W W := Below.refl _ _
  obtain ⟨p0, p1, p2, p3, p4, p5, p6, pl⟩ := keep _ Bc
  cases e2 : F == 0
  · have n7 : (F != 0) = true := by simp only [bne, e2]; rfl
    have HR1 : Hid (C = F ∧ X = K4.z) := by
      have e : C = F := by rw [HC.out, e2]; rfl
      exact ⟨e, by rw [HX.out, e, e2]; rfl⟩
    clear HC HX HG e2
    go_enter Try.func12, Try.ntmps12
    go_upto_region 1 with fail
    rw [← HW.out]
    go_wp2_with fail
    refine (cF _ Bc).mono ?_
    rintro e wn ⟨rfl, kn⟩
    have Bc := Bc.trans (kn.mono Bc.size)
    clear p0 p1 p2 p3 p4 p5 p6 pl
    have R1 := HR.out.below Bc
    obtain ⟨r0, r1, r2, r3, r4, y0, y1, y2, y3, y4, rl⟩ := R1.z5
    have Fz := set5_blk R1 (.int .i64 F) (.int .i64 0) (.int .i64 0) (.int .i64 0) (.int .i64 0)
    have BE := set5_below (B1.trans (Bc.mono hB)) (show w.heap.size ≤ w.heap.size + 1 by omega) (.int .i64 F) (.int .i64 0) (.int .i64 0) (.int .i64 0) (.int .i64 0)
    clear R1
    go_wp2_with fail
    rw [HR1.out.1, HR1.out.2]
    refine bodyPost_ret ?_ rfl ⟨rfl, BE⟩
    exact result5 Try.results12 Fz _ rfl
  obtain rfl : F = 0 := by simpa using e2
  replace HC : Hid (C = if sTh se c = false then 4 else 0) := HC
  have G := HG.out rfl
  have Hf : Hid (sTh se c = true → se[sPl se c]? = some (sGet se c)) := fun h => (sPl_found (gd_rs G) h).1
  have cS := fun W' (h : Below W.heap.size W W') => l6Seat_c w.heap.size q ms qc se c Hms.out (by have := G.s6; have := Hms.out; dsimp only at *; omega) W' (keep W' h).2.2.2.2.2.1 (keep W' h).2.2.2.2.2.2.2 (HSe.out W' h)
  have hp := sPl_le c se
  clear HG G e2
  have HA : Hid (∀ r, atS se c r → (sTh se c = true ∧ 0 ≤ r ∧ se[r.toNat]? = some (sGet se c)) ∨ (sTh se c = false ∧ r = -1)) := fun _ h => h
  clear Hf hp
  generalize atS se c = A at cS HA
  generalize sGet se c = Y at HX HA
  generalize sTh se c = T at HC HA
  go_enter Try.func12, Try.ntmps12
  go_upto_region 1 with fail
  rw [← HW.out]
  go_wp2_with fail
  refine (cF _ Bc).mono ?_
  rintro e wn ⟨rfl, kn⟩
  have Bc := Bc.trans (kn.mono Bc.size)
  clear p0 p1 p2 p3 p4 p5 p6 pl
  obtain ⟨p0, p1, p2, p3, p4, p5, p6, pl⟩ := keep _ Bc
  go_wp2_with fail
  refine (cS _ Bc).mono ?_
  rintro e w2 ⟨r0, rfl, hA, k2⟩
  have Bc := Bc.trans (k2.mono Bc.size)
  clear p0 p1 p2 p3 p4 p5 p6 pl
  rcases HA.out _ hA with ⟨rfl, h0, hY⟩ | ⟨rfl, rfl⟩
  · have HR1 : Hid (C = 0 ∧ X = Y) := by
      have e : C = 0 := by rw [HC.out]; rfl
      exact ⟨e, by rw [HX.out, e]; rfl⟩
    have hn : decide (r0 < 0) = false := decide_eq_false (by omega)
    have hL : r0 < (ms : Int) := by have := (List.getElem?_eq_some_iff.1 hY).1; have := Hms.out; omega
    obtain ⟨b, off, rfl, hb, hat⟩ := (HSe.out _ Bc).at hY
    obtain ⟨x0, x1, x2, x3, xl⟩ := hat.one hb hY
    obtain ⟨p0, p1, p2, p3, p4, p5, p6, pl⟩ := keep _ Bc
    clear HC HX HA hA hY hat
    have R1 := HR.out.below Bc
    obtain ⟨r0, r1, r2, r3, r4, y0, y1, y2, y3, y4, rl⟩ := R1.z5
    have Fz := set5_blk R1 (.int .i64 0) (.int .i64 Y.c0) (.int .i64 Y.c1) (.int .i64 Y.c2) (.int .i64 Y.c3)
    have BE := set5_below (B1.trans (Bc.mono hB)) (show w.heap.size ≤ w.heap.size + 1 by omega) (.int .i64 0) (.int .i64 Y.c0) (.int .i64 Y.c1) (.int .i64 Y.c2) (.int .i64 Y.c3)
    clear R1
    go_wp2_with fail
    rw [HR1.out.1, HR1.out.2]
    refine bodyPost_ret ?_ rfl ⟨rfl, BE⟩
    exact result5 Try.results12 Fz _ rfl
  · have HR1 : Hid (C = 4 ∧ X = K4.z) := by
      have e : C = 4 := by rw [HC.out]; rfl
      exact ⟨e, by rw [HX.out, e]; rfl⟩
    clear HC HX HA hA
    have R1 := HR.out.below Bc
    obtain ⟨r0, r1, r2, r3, r4, y0, y1, y2, y3, y4, rl⟩ := R1.z5
    have Fz := set5_blk R1 (.int .i64 4) (.int .i64 0) (.int .i64 0) (.int .i64 0) (.int .i64 0)
    have BE := set5_below (B1.trans (Bc.mono hB)) (show w.heap.size ≤ w.heap.size + 1 by omega) (.int .i64 4) (.int .i64 0) (.int .i64 0) (.int .i64 0) (.int .i64 0)
    clear R1
    go_wp2_with fail
    rw [HR1.out.1, HR1.out.2]
    refine bodyPost_ret ?_ rfl ⟨rfl, BE⟩
    exact result5 Try.results12 Fz _ rfl
end Go.Proofs.Ytgfdfpaimlcgaaa
end
