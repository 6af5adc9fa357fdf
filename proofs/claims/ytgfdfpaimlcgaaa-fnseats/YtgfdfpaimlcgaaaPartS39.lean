/- Texts of mine put together (a claim holds at most 60 files): StKinds. -/
import Derived.Test.YtgfdfpaimlcgaaaPartS30
import Derived.Test.YtgfdfpaimlcgaaaPartS21
import Derived.Test.YtgfdfpaimlcgaaaPartS25
import Derived.Test.YtgfdfpaimlcgaaaPartS36
import Derived.Test.YtgfdfpaimlcgaaaPartS20
import Derived.Test.YtgfdfpaimlcgaaaPartS29
import Derived.Test.YtgfdfpaimlcgaaaPartS13
import Derived.Test.YtgfdfpaimlcgaaaPartS38

/- StKinds -/
/- The contracts of AllowedKinds, the program's and the model's; of the model's WorldFault; of the model's TakeSeat where it tells a code. Condition: the world's lists lie in memory as they were laid there. -/
section
namespace Go.Proofs.Ytgfdfpaimlcgaaa
open Go.ChangeShapes Go.WideShapes Go.ChangeAt Go.RowKit
open Bd
set_option linter.unusedVariables false

abbrev zq2 : Array Value := #[.int .i64 0, .slice none 0 0]
abbrev setq2 (W : World) (g : Nat) (v0 v1 : Value) : World := (W.setCell ⟨g, 0, none⟩ v0).setCell ⟨g, 1, none⟩ v1
theorem setq2_blk {W : World} {g : Nat} {c0 c1 : Value} {t : TypeId} (h : Blk W g #[c0, c1] t) (v0 v1 : Value) : Blk (setq2 W g v0 v1) g #[v0, v1] t := by
  have q0 : Blk _ g #[v0, c1] t := h.set 0 v0
  have q1 : Blk _ g #[v0, v1] t := q0.set 1 v1
  exact q1
theorem setq2_below {n : Nat} {w W : World} {g : Nat} (h : Below n w W) (hg : n ≤ g) (v0 v1 : Value) : Below n w (setq2 W g v0 v1) :=
  bel_set (bel_set (h) g 0 hg v0) g 1 hg v1
structure Zq2 (w : World) (g : Nat) : Prop where
  c0 : w.cell? ⟨g, 0, none⟩ = some (.int .i64 0)
  c1 : w.cell? ⟨g, 1, none⟩ = some (.slice none 0 0)
  f0 : w.frozen? ⟨g, 0, none⟩ = false
  f1 : w.frozen? ⟨g, 1, none⟩ = false
  lt : g < w.heap.size
theorem Blk.zq2 {w : World} {g : Nat} {t : TypeId} (h : Blk w g zq2 t) : Zq2 w g :=
  ⟨h.cell rfl, h.cell rfl, h.frozen _, h.frozen _, h.lt⟩
theorem resultq2 {w : World} {p : Nat} {v0 v1 : Value} {fn : Func} {k : Nat} (hf : fn.results = #[.cell k 44]) (h : Blk w p #[v0, v1] 44) (T : Array Value) (hT : T[k]?.getD undef = .pointer (some ⟨p, 0, none⟩)) :
    (results fn T).run Try.prog w = .ok (.agg #[v0, v1]) w := by
  have c0 := h.cell (i := 0) rfl
  have c1 := h.cell (i := 1) rfl
  simp [results, hf, go_sem, hT, c0, c1]
/- the kinds up to k that a mask has a right to -/
def akT (m : Int) (k : Nat) : List Int := ((List.range k).map (fun (j : Nat) => (j : Int) + 1)).filter (fun q => hr m q)
def akV (h : Int → Int → Bool) (x : KW) (c : Int) : List Int := if (soC h x c == 0) = true then akT (soS h x c).c2 11 else []
theorem akT_yes {m : Int} {k : Nat} (h : hr m ((k : Int) + 1) = true) : akT m (k + 1) = akT m k ++ [(k : Int) + 1] := by
  unfold akT
  rw [List.range_succ, List.map_append, List.filter_append]
  simp [h]
theorem akT_no {m : Int} {k : Nat} (h : hr m ((k : Int) + 1) = false) : akT m (k + 1) = akT m k := by
  unfold akT
  rw [List.range_succ, List.map_append, List.filter_append]
  simp [h]
theorem akT_len (m : Int) (k : Nat) : (akT m k).length ≤ k := by
  unfold akT
  refine Nat.le_trans (List.length_filter_le _ _) ?_
  simp
theorem akT_hr {m q : Int} {k : Nat} (h : q ∈ akT m k) : hr m q = true := (List.mem_filter.1 h).2
theorem akV_len (h : Int → Int → Bool) (x : KW) (c : Int) : (akV h x c).length ≤ 11 := by
  unfold akV
  split
  · exact akT_len _ _
  · simp
/- a seat that was found has a right mask -/
theorem so_mask {h : Int → Int → Bool} {x : KW} {c : Int} (e : soC h x c = 0) : inb (soS h x c).c2 0 2047 = true := by
  obtain ⟨w0, th⟩ := soC_zero.1 e
  have g := (gdW_iff h x).1 w0
  have hm := (sPl_found (gd_rs g) th).1
  have hr := ((seF_iff.1 g.se).2 _ (List.mem_of_getElem? hm)).1
  unfold soS
  rw [e, if_pos (by rfl)]
  unfold seR at hr
  simp only [Bool.and_eq_true] at hr
  exact hr.2.2.1
set_option maxRecDepth 20000 in
set_option maxHeartbeats 16000000 in
theorem implAllowedKinds (p : WP) (x : KW) (w : World) (h : InW w p x) (ci : Int) :
    Calls Try.prog 10 #[.agg (p.v x), .int .i64 ci] w fun e w' => ∃ v, e = .returned (.agg #[.int .i64 (soC hasI x ci), v]) ∧ SlI w' w.heap.size v (akV hasI x ci) ∧ Below w.heap.size w w' := by
  obtain ⟨t, s, us, fs, fa, se, oo⟩ := x
  obtain ⟨u, uc, f, fc, a, ac, q, qc, r, rc⟩ := p
  obtain ⟨W, HW⟩ : ∃ W, Hid (W = (w.alloc (.cells (wv t s u us.length uc f fs.length fc a fa.length ac q se.length qc r oo.length rc) 32)).alloc (.cells zq2 44)) := ⟨_, rfl⟩
  have B1 : Below w.heap.size w W := by rw [HW.out]; exact ((Below.refl _ _).alloc (Nat.le_refl _) _).alloc (by rw [size_new]; omega) _
  have P : Bk W w.heap.size (wv t s u us.length uc f fs.length fc a fa.length ac q se.length qc r oo.length rc) 32 := by rw [HW.out]; exact (Bk.new w (wv t s u us.length uc f fs.length fc a fa.length ac q se.length qc r oo.length rc) 32).alloc _
  have R : Blk W (w.heap.size + 1) zq2 44 := by rw [HW.out]; have h := Blk.new (w.alloc (.cells (wv t s u us.length uc f fs.length fc a fa.length ac q se.length qc r oo.length rc) 32)) zq2 44; rw [size_new] at h; exact h
  have HN : Hid (InW W ⟨u, uc, f, fc, a, ac, q, qc, r, rc⟩ ⟨t, s, us, fs, fa, se, oo⟩) := h.later B1
  have HR : Hid (Blk W (w.heap.size + 1) zq2 44) := R
  have hB := B1.size
  show Calls Try.prog 10 #[.agg (wv t s u us.length uc f fs.length fc a fa.length ac q se.length qc r oo.length rc), .int .i64 ci] w _
  have cS := fun W' (h : Below W.heap.size W W') => implSeatOf ⟨u, uc, f, fc, a, ac, q, qc, r, rc⟩ ⟨t, s, us, fs, fa, se, oo⟩ W' (HN.out.later h) ci
  replace cS : ∀ W', Below W.heap.size W W' → Calls Try.prog 11 #[.agg (wv t s u us.length uc f fs.length fc a fa.length ac q se.length qc r oo.length rc), .int .i64 ci] W' fun e w' => e = .returned (.agg (r5 (soC hasI ⟨t, s, us, fs, fa, se, oo⟩ ci) (soS hasI ⟨t, s, us, fs, fa, se, oo⟩ ci))) ∧ Below W'.heap.size W' w' := cS
  have HV : Hid (akV hasI ⟨t, s, us, fs, fa, se, oo⟩ ci = if (soC hasI ⟨t, s, us, fs, fa, se, oo⟩ ci == 0) = true then akT (soS hasI ⟨t, s, us, fs, fa, se, oo⟩ ci).c2 11 else []) := rfl
  have HM : Hid (soC hasI ⟨t, s, us, fs, fa, se, oo⟩ ci = 0 → inb (soS hasI ⟨t, s, us, fs, fa, se, oo⟩ ci).c2 0 2047 = true) := so_mask
  generalize akV hasI ⟨t, s, us, fs, fa, se, oo⟩ ci = L at HV ⊢
  generalize soC hasI ⟨t, s, us, fs, fa, se, oo⟩ ci = F at cS HV HM ⊢
  generalize soS hasI ⟨t, s, us, fs, fa, se, oo⟩ ci = S at cS HV HM
  have HW2 : Hid (W.heap.size = w.heap.size + 2) := by show _ = _; rw [HW.out, size_new, size_new]
  obtain ⟨mu, Hmu⟩ : ∃ m, Hid (us.length = m) := ⟨_, rfl⟩
  obtain ⟨mf, Hmf⟩ : ∃ m, Hid (fs.length = m) := ⟨_, rfl⟩
  obtain ⟨ma, Hma⟩ : ∃ m, Hid (fa.length = m) := ⟨_, rfl⟩
  obtain ⟨ms, Hms⟩ : ∃ m, Hid (se.length = m) := ⟨_, rfl⟩
  obtain ⟨mo, Hmo⟩ : ∃ m, Hid (oo.length = m) := ⟨_, rfl⟩
  rw [Hmu.out, Hmf.out, Hma.out, Hms.out, Hmo.out] at P HW cS ⊢
  clear h R
  have keep : ∀ w', Below W.heap.size W w' → w'.cell? ⟨w.heap.size, 0, none⟩ = some (.int .i64 t) ∧ w'.cell? ⟨w.heap.size, 1, none⟩ = some (.int .i64 s) ∧ w'.cell? ⟨w.heap.size, 2, none⟩ = some (.slice u mu uc) ∧ w'.cell? ⟨w.heap.size, 3, none⟩ = some (.slice f mf fc) ∧ w'.cell? ⟨w.heap.size, 4, none⟩ = some (.slice a ma ac) ∧ w'.cell? ⟨w.heap.size, 5, none⟩ = some (.slice q ms qc) ∧ w'.cell? ⟨w.heap.size, 6, none⟩ = some (.slice r mo rc) ∧ w.heap.size < w'.heap.size := fun w' hb => by
    have q := P.below hb
    exact ⟨q.cell rfl, q.cell rfl, q.cell rfl, q.cell rfl, q.cell rfl, q.cell rfl, q.cell rfl, q.lt⟩
  have Bc : Below W.heap.size W W := Below.refl _ _
  obtain ⟨p0, p1, p2, p3, p4, p5, p6, pl⟩ := keep _ Bc
  cases e2 : F == 0
  · have n7 : (F != 0) = true := by simp only [bne, e2]; rfl
    have HL : Hid (L = []) := by show _ = _; rw [HV.out, e2]; rfl
    clear HV HM e2
    go_enter Try.func10, Try.ntmps10
    go_upto_region 1 with fail
    rw [← HW.out]
    go_wp2_with fail
    refine (cS _ Bc).mono ?_
    rintro e w3 ⟨rfl, k3⟩
    have Bc := Bc.trans (k3.mono Bc.size)
    have Bc := Bc.alloc Bc.size (.cells (r5 F S) 49)
    have RB := Blk.new w3 (r5 F S) 49
    obtain ⟨W5, HW5⟩ : ∃ W5, Hid (W5 = w3.alloc (.cells (r5 F S) 49)) := ⟨_, rfl⟩
    rw [← HW5.out] at Bc RB
    have b0 : W5.cell? ⟨w3.heap.size, 0, none⟩ = some (.int .i64 F) := RB.cell (i := 0) rfl
    have bl := RB.lt
    clear k3
    clear p0 p1 p2 p3 p4 p5 p6 pl
    go_upto_region 2 with fail
    rw [← HW5.out]
    have R1 := HR.out.below Bc
    obtain ⟨r0, r1, y0, y1, rl⟩ := R1.zq2
    have Fz := setq2_blk R1 (.int .i64 F) (.slice none 0 0)
    have BE := setq2_below (B1.trans (Bc.mono hB)) (show w.heap.size ≤ w.heap.size + 1 by omega) (.int .i64 F) (.slice none 0 0)
    clear R1
    go_wp2_with fail
    rw [HL.out]
    exact bodyPost_ret (v := .agg #[.int .i64 F, .slice none 0 0]) (resultq2 Try.results10 Fz _ rfl) rfl ⟨_, rfl, SlI.nil _ _, BE⟩
  · obtain rfl : F = 0 := by simpa using e2
    have HL : Hid (L = akT S.c2 11) := by show _ = _; rw [HV.out]; rfl
    have HM2 : Hid (inb S.c2 0 2047 = true) := HM.out rfl
    obtain ⟨m, Hm⟩ : ∃ m, Hid (S.c2 = m) := ⟨_, rfl⟩
    rw [Hm.out] at HL HM2
    obtain ⟨i0', hi, hz0, hz1, hz2⟩ := info_parts info64
    clear HV HM e2
    go_enter Try.func10, Try.ntmps10
    go_upto_region 1 with fail
    rw [← HW.out]
    go_wp2_with fail
    refine (cS _ Bc).mono ?_
    rintro e w3 ⟨rfl, k3⟩
    have Bc := Bc.trans (k3.mono Bc.size)
    have Bc := Bc.alloc Bc.size (.cells (r5 0 S) 49)
    have RB := Blk.new w3 (r5 0 S) 49
    obtain ⟨W5, HW5⟩ : ∃ W5, Hid (W5 = w3.alloc (.cells (r5 0 S) 49)) := ⟨_, rfl⟩
    rw [← HW5.out] at Bc RB
    have HRB : Hid (Blk W5 w3.heap.size (r5 0 S) 49) := RB
    have keep5 : ∀ w', Below W5.heap.size W5 w' → w'.cell? ⟨w3.heap.size, 3, none⟩ = some (.int .i64 m) ∧ w3.heap.size < w'.heap.size := fun w' hb => by
      have q := HRB.out.below hb
      have c := q.cell (i := 3) (v := .int .i64 S.c2) rfl
      rw [Hm.out] at c
      exact ⟨c, q.lt⟩
    have b0 : W5.cell? ⟨w3.heap.size, 0, none⟩ = some (.int .i64 0) := RB.cell (i := 0) rfl
    have bl := RB.lt
    have hW5 : W.heap.size ≤ W5.heap.size := Bc.size
    have HBc : Hid (Below W.heap.size W W5) := Bc
    clear k3 RB
    clear p0 p1 p2 p3 p4 p5 p6 pl
    go_upto_region 2 with fail
    rw [← HW5.out]
    go_wp2_with fail
    go_loopw [6, 7] (fun v j wr => ∃ k : Nat, k ≤ 11 ∧ j = .int .i64 ((k : Int) + 1) ∧ Hid (wr.ownsRow W5.heap.size 2 1 v (akT m k).length ((akT m k).map (Value.int .i64))) ∧ Below W5.heap.size W5 wr) (fun _ j _ => 12 - (intOf j).toNat)
    case atStart => exact ⟨0, Nat.zero_le _, rfl, ⟨rfl, .inl ⟨rfl, rfl⟩⟩, Below.refl _ _⟩
    case round =>
      clear b0 bl Bc
      obtain ⟨k, hk, rfl, Hown, kb⟩ := hrel
      obtain ⟨b3, bl⟩ := keep5 _ kb
      have hwk : IntKind.i64.wrap ((k : Int) + 1 + 1) = (k : Int) + 1 + 1 := by rw [IntKind.wrap_i64]; omega
      by_cases hlt : k < 11
      · have hlt' : (k : Int) + 1 ≤ 11 := by omega
        have hlen : (akT m k).length ≤ 11 := Nat.le_trans (akT_len m k) (by omega)
        have q0 := fun w => implHasRight m ((k : Int) + 1) w
        have hown := Hown.out
        cases hq : hr m ((k : Int) + 1)
        · rw [hq] at q0
          have ho1 : Hid (wr.ownsRow W5.heap.size 2 1 u6 (akT m (k + 1)).length ((akT m (k + 1)).map (Value.int .i64))) := by
            show World.ownsRow _ _ _ _ _ _ _
            rw [akT_no hq]; exact Hown.out
          clear hown
          go_wp2_with (go_at_call 13; refine (q0 _).mono ?_; rintro e w7 ⟨rfl, hw7⟩; obtain rfl := hw7.symm)
          go_roundw
          case rel => exact ⟨k + 1, by omega, by go_num, ho1, kb⟩
          case measure => simp [intOf]; omega
        · rw [hq] at q0
          go_wp2_with (first | (go_at_call 13; refine (q0 _).mono ?_; rintro e w7 ⟨rfl, hw7⟩; obtain rfl := hw7.symm) | (at_builtin; refine wpList_append_own _ rfl _ _ 42 rfl W5.heap.size 2 i0' (.int .i64 0) 1 8 Try.underlying42 hi hz0 hz1 hz2 rfl (by decide) _ _ _ rfl (hown.alloc _) ⟨wr.heap.size, 0, none⟩ 1 1 [.int .i64 ((k : Int) + 1)] rfl rfl (one_new _ _ _) (one_cell _ _) (by unfold maxLen; omega) (by omega) (by have := kb.size; simp; omega) ?_))
          intro v' w1 hown' hgrow _
          have hb1 : Below W5.heap.size W5 w1 := (kb.alloc kb.size _).grown hgrow (by have := kb.size; simp; omega) (fun k' hk' => (hown.lt k' hk').1)
          have ho1 : Hid (w1.ownsRow W5.heap.size 2 1 v' (akT m (k + 1)).length ((akT m (k + 1)).map (Value.int .i64))) := by
            show World.ownsRow _ _ _ _ _ _ _
            rw [akT_yes hq]; simpa using hown'
          clear hown' hgrow hown
          go_wp2_with fail
          go_roundw
          case rel => exact ⟨k + 1, by omega, by go_num, ho1, hb1⟩
          case measure => simp [intOf]; omega
      · obtain rfl : k = 11 := by omega
        have hlt' : ¬ (((11 : Nat) : Int) + 1 ≤ 11) := by omega
        have Sv := SlI.of Hown.out
        clear Hown
        obtain ⟨pv, cv, hv⟩ := Sv.form
        obtain ⟨n9, Hn9⟩ : ∃ n9, Hid ((akT m 11).length = n9) := ⟨_, rfl⟩
        rw [Hn9.out] at hv
        subst hv
        have Ow := (Sv.set (b := w.heap.size + 1) (o := 0) (by have := HW2.out; omega) (.int .i64 0)).set (b := w.heap.size + 1) (o := 1) (by have := HW2.out; omega) (.slice pv n9 cv)
        have Ow2 := Ow.mono (base' := w.heap.size) (by omega)
        have Bc := HBc.out.trans (kb.mono HBc.out.size)
        clear Sv Ow kb b3 bl
        have R1 := HR.out.below Bc
        obtain ⟨r0, r1, y0, y1, rl⟩ := R1.zq2
        have Fz := setq2_blk R1 (.int .i64 0) (.slice pv n9 cv)
        have BE := setq2_below (B1.trans (Bc.mono hB)) (show w.heap.size ≤ w.heap.size + 1 by omega) (.int .i64 0) (.slice pv n9 cv)
        clear R1
        go_wp2_with fail
        rw [HL.out]
        exact bodyPost_ret (v := .agg #[.int .i64 0, .slice pv n9 cv]) (resultq2 Try.results10 Fz _ rfl) rfl ⟨_, rfl, Ow2, BE⟩
set_option maxRecDepth 20000 in
set_option maxHeartbeats 16000000 in
theorem specAllowedKinds (p : WP) (x : KW) (w : World) (h : InW w p x) (ci : Int) :
    Calls Try.prog 15 #[.agg (p.v x), .int .i64 ci] w fun e w' => ∃ v, e = .returned (.agg #[.int .i64 (soC hasS x ci), v]) ∧ SlI w' w.heap.size v (akV hasS x ci) ∧ Below w.heap.size w w' := by
  obtain ⟨t, s, us, fs, fa, se, oo⟩ := x
  obtain ⟨u, uc, f, fc, a, ac, q, qc, r, rc⟩ := p
  obtain ⟨W, HW⟩ : ∃ W, Hid (W = (w.alloc (.cells (wv t s u us.length uc f fs.length fc a fa.length ac q se.length qc r oo.length rc) 32)).alloc (.cells zq2 44)) := ⟨_, rfl⟩
  have B1 : Below w.heap.size w W := by rw [HW.out]; exact ((Below.refl _ _).alloc (Nat.le_refl _) _).alloc (by rw [size_new]; omega) _
  have P : Bk W w.heap.size (wv t s u us.length uc f fs.length fc a fa.length ac q se.length qc r oo.length rc) 32 := by rw [HW.out]; exact (Bk.new w (wv t s u us.length uc f fs.length fc a fa.length ac q se.length qc r oo.length rc) 32).alloc _
  have R : Blk W (w.heap.size + 1) zq2 44 := by rw [HW.out]; have h := Blk.new (w.alloc (.cells (wv t s u us.length uc f fs.length fc a fa.length ac q se.length qc r oo.length rc) 32)) zq2 44; rw [size_new] at h; exact h
  have HN : Hid (InW W ⟨u, uc, f, fc, a, ac, q, qc, r, rc⟩ ⟨t, s, us, fs, fa, se, oo⟩) := h.later B1
  have HR : Hid (Blk W (w.heap.size + 1) zq2 44) := R
  have hB := B1.size
  show Calls Try.prog 15 #[.agg (wv t s u us.length uc f fs.length fc a fa.length ac q se.length qc r oo.length rc), .int .i64 ci] w _
  have cS := fun W' (h : Below W.heap.size W W') => specSeatOf ⟨u, uc, f, fc, a, ac, q, qc, r, rc⟩ ⟨t, s, us, fs, fa, se, oo⟩ W' (HN.out.later h) ci
  replace cS : ∀ W', Below W.heap.size W W' → Calls Try.prog 12 #[.agg (wv t s u us.length uc f fs.length fc a fa.length ac q se.length qc r oo.length rc), .int .i64 ci] W' fun e w' => e = .returned (.agg (r5 (soC hasS ⟨t, s, us, fs, fa, se, oo⟩ ci) (soS hasS ⟨t, s, us, fs, fa, se, oo⟩ ci))) ∧ Below W'.heap.size W' w' := cS
  have HV : Hid (akV hasS ⟨t, s, us, fs, fa, se, oo⟩ ci = if (soC hasS ⟨t, s, us, fs, fa, se, oo⟩ ci == 0) = true then akT (soS hasS ⟨t, s, us, fs, fa, se, oo⟩ ci).c2 11 else []) := rfl
  have HM : Hid (soC hasS ⟨t, s, us, fs, fa, se, oo⟩ ci = 0 → inb (soS hasS ⟨t, s, us, fs, fa, se, oo⟩ ci).c2 0 2047 = true) := so_mask
  generalize akV hasS ⟨t, s, us, fs, fa, se, oo⟩ ci = L at HV ⊢
  generalize soC hasS ⟨t, s, us, fs, fa, se, oo⟩ ci = F at cS HV HM ⊢
  generalize soS hasS ⟨t, s, us, fs, fa, se, oo⟩ ci = S at cS HV HM
  have HW2 : Hid (W.heap.size = w.heap.size + 2) := by show _ = _; rw [HW.out, size_new, size_new]
  obtain ⟨mu, Hmu⟩ : ∃ m, Hid (us.length = m) := ⟨_, rfl⟩
  obtain ⟨mf, Hmf⟩ : ∃ m, Hid (fs.length = m) := ⟨_, rfl⟩
  obtain ⟨ma, Hma⟩ : ∃ m, Hid (fa.length = m) := ⟨_, rfl⟩
  obtain ⟨ms, Hms⟩ : ∃ m, Hid (se.length = m) := ⟨_, rfl⟩
  obtain ⟨mo, Hmo⟩ : ∃ m, Hid (oo.length = m) := ⟨_, rfl⟩
  rw [Hmu.out, Hmf.out, Hma.out, Hms.out, Hmo.out] at P HW cS ⊢
  clear h R
  have keep : ∀ w', Below W.heap.size W w' → w'.cell? ⟨w.heap.size, 0, none⟩ = some (.int .i64 t) ∧ w'.cell? ⟨w.heap.size, 1, none⟩ = some (.int .i64 s) ∧ w'.cell? ⟨w.heap.size, 2, none⟩ = some (.slice u mu uc) ∧ w'.cell? ⟨w.heap.size, 3, none⟩ = some (.slice f mf fc) ∧ w'.cell? ⟨w.heap.size, 4, none⟩ = some (.slice a ma ac) ∧ w'.cell? ⟨w.heap.size, 5, none⟩ = some (.slice q ms qc) ∧ w'.cell? ⟨w.heap.size, 6, none⟩ = some (.slice r mo rc) ∧ w.heap.size < w'.heap.size := fun w' hb => by
    have q := P.below hb
    exact ⟨q.cell rfl, q.cell rfl, q.cell rfl, q.cell rfl, q.cell rfl, q.cell rfl, q.cell rfl, q.lt⟩
  have Bc : Below W.heap.size W W := Below.refl _ _
  obtain ⟨p0, p1, p2, p3, p4, p5, p6, pl⟩ := keep _ Bc
  cases e2 : F == 0
  · have n7 : (F != 0) = true := by simp only [bne, e2]; rfl
    have HL : Hid (L = []) := by show _ = _; rw [HV.out, e2]; rfl
    clear HV HM e2
    go_enter Try.func15, Try.ntmps15
    go_upto_region 1 with fail
    rw [← HW.out]
    go_wp2_with fail
    refine (cS _ Bc).mono ?_
    rintro e w3 ⟨rfl, k3⟩
    have Bc := Bc.trans (k3.mono Bc.size)
    have Bc := Bc.alloc Bc.size (.cells (r5 F S) 49)
    have RB := Blk.new w3 (r5 F S) 49
    obtain ⟨W5, HW5⟩ : ∃ W5, Hid (W5 = w3.alloc (.cells (r5 F S) 49)) := ⟨_, rfl⟩
    rw [← HW5.out] at Bc RB
    have b0 : W5.cell? ⟨w3.heap.size, 0, none⟩ = some (.int .i64 F) := RB.cell (i := 0) rfl
    have bl := RB.lt
    clear k3
    clear p0 p1 p2 p3 p4 p5 p6 pl
    go_upto_region 2 with fail
    rw [← HW5.out]
    have R1 := HR.out.below Bc
    obtain ⟨r0, r1, y0, y1, rl⟩ := R1.zq2
    have Fz := setq2_blk R1 (.int .i64 F) (.slice none 0 0)
    have BE := setq2_below (B1.trans (Bc.mono hB)) (show w.heap.size ≤ w.heap.size + 1 by omega) (.int .i64 F) (.slice none 0 0)
    clear R1
    go_wp2_with fail
    rw [HL.out]
    exact bodyPost_ret (v := .agg #[.int .i64 F, .slice none 0 0]) (resultq2 Try.results15 Fz _ rfl) rfl ⟨_, rfl, SlI.nil _ _, BE⟩
  · obtain rfl : F = 0 := by simpa using e2
    have HL : Hid (L = akT S.c2 11) := by show _ = _; rw [HV.out]; rfl
    have HM2 : Hid (inb S.c2 0 2047 = true) := HM.out rfl
    obtain ⟨m, Hm⟩ : ∃ m, Hid (S.c2 = m) := ⟨_, rfl⟩
    rw [Hm.out] at HL HM2
    obtain ⟨i0', hi, hz0, hz1, hz2⟩ := info_parts info64
    clear HV HM e2
    go_enter Try.func15, Try.ntmps15
    go_upto_region 1 with fail
    rw [← HW.out]
    go_wp2_with fail
    refine (cS _ Bc).mono ?_
    rintro e w3 ⟨rfl, k3⟩
    have Bc := Bc.trans (k3.mono Bc.size)
    have Bc := Bc.alloc Bc.size (.cells (r5 0 S) 49)
    have RB := Blk.new w3 (r5 0 S) 49
    obtain ⟨W5, HW5⟩ : ∃ W5, Hid (W5 = w3.alloc (.cells (r5 0 S) 49)) := ⟨_, rfl⟩
    rw [← HW5.out] at Bc RB
    have HRB : Hid (Blk W5 w3.heap.size (r5 0 S) 49) := RB
    have keep5 : ∀ w', Below W5.heap.size W5 w' → w'.cell? ⟨w3.heap.size, 3, none⟩ = some (.int .i64 m) ∧ w3.heap.size < w'.heap.size := fun w' hb => by
      have q := HRB.out.below hb
      have c := q.cell (i := 3) (v := .int .i64 S.c2) rfl
      rw [Hm.out] at c
      exact ⟨c, q.lt⟩
    have b0 : W5.cell? ⟨w3.heap.size, 0, none⟩ = some (.int .i64 0) := RB.cell (i := 0) rfl
    have bl := RB.lt
    have hW5 : W.heap.size ≤ W5.heap.size := Bc.size
    have HBc : Hid (Below W.heap.size W W5) := Bc
    clear k3 RB
    clear p0 p1 p2 p3 p4 p5 p6 pl
    go_upto_region 2 with fail
    rw [← HW5.out]
    obtain ⟨W6, HW6⟩ : ∃ W6, Hid (W6 = W5.alloc (.cells zq2 44)) := ⟨_, rfl⟩
    have O6 : Blk W6 W5.heap.size #[.int .i64 0, .slice none 0 0] 44 := by rw [HW6.out]; exact Blk.new W5 _ _
    have K6 : Below W5.heap.size W5 W6 := by rw [HW6.out]; exact (Below.refl _ _).alloc (Nat.le_refl _) _
    have hW6 : W6.heap.size = W5.heap.size + 1 := by rw [HW6.out, size_new]
    have sn : W6.ownsRow W6.heap.size 2 1 (.slice none 0 0) 0 [] := ⟨rfl, .inl ⟨rfl, rfl⟩⟩
    go_upto_region 5 with fail
    rw [← HW6.out]
    go_wp2_with fail
    go_loopw [7] (fun j wr => ∃ (k : Nat) (pv : Option Addr) (nv cv : Nat), k ≤ 11 ∧ j = .int .i64 ((k : Int) + 1) ∧ Hid (Blk wr W5.heap.size #[.int .i64 0, .slice pv nv cv] 44 ∧ wr.ownsRow W6.heap.size 2 1 (.slice pv nv cv) (akT m k).length ((akT m k).map (Value.int .i64))) ∧ Below W5.heap.size W5 wr ∧ W6.heap.size ≤ wr.heap.size) (fun j _ => 12 - (intOf j).toNat)
    case atStart => exact ⟨0, none, 0, 0, Nat.zero_le _, rfl, ⟨O6, sn⟩, K6, Nat.le_refl _⟩
    case round =>
      clear b0 bl Bc O6 K6 sn
      obtain ⟨k, pv, nv, cv, hk, rfl, Hown, kb, k6⟩ := hrel
      obtain ⟨b3, bl⟩ := keep5 _ kb
      have o0 := Hown.out.1.cell (i := 0) rfl
      have o1 := Hown.out.1.cell (i := 1) rfl
      have of1 := Hown.out.1.frozen 1
      have ol := Hown.out.1.lt
      have hwk : IntKind.i64.wrap ((k : Int) + 1 + 1) = (k : Int) + 1 + 1 := by rw [IntKind.wrap_i64]; omega
      have hwj : IntKind.i64.wrap ((k : Int) + 1 - 1) = (k : Int) := by rw [IntKind.wrap_i64]; omega
      by_cases hlt : k < 11
      · have hlt' : (k : Int) + 1 ≤ 11 := by omega
        have hlen : (akT m k).length ≤ 11 := Nat.le_trans (akT_len m k) (by omega)
        have hhr : hr m ((k : Int) + 1) = hasS m (k : Int) := by
          unfold hr
          rw [inb_t (by omega) hlt', HM2.out, show (k : Int) + 1 - 1 = (k : Int) by omega]; rfl
        have q0 := fun w => l6Has_c m (k : Int) (by omega) (by omega) w
        have hown := Hown.out.2
        cases hq : hasS m (k : Int)
        · rw [hq] at q0 hhr
          have ho1 : Hid (Blk wr W5.heap.size #[.int .i64 0, .slice pv nv cv] 44 ∧ wr.ownsRow W6.heap.size 2 1 (.slice pv nv cv) (akT m (k + 1)).length ((akT m (k + 1)).map (Value.int .i64))) := by
            refine ⟨Hown.out.1, ?_⟩
            rw [akT_no hhr]; exact Hown.out.2
          clear hown
          go_wp2_with (go_at_call 38; refine (q0 _).mono ?_; rintro e w7 ⟨rfl, hw7⟩; obtain rfl := hw7.symm)
          go_roundw
          case rel => exact ⟨k + 1, pv, nv, cv, by omega, by go_num, ho1, kb, k6⟩
          case measure => simp [intOf]; omega
        · rw [hq] at q0 hhr
          go_wp2_with (first | (go_at_call 38; refine (q0 _).mono ?_; rintro e w7 ⟨rfl, hw7⟩; obtain rfl := hw7.symm) | (at_builtin; refine wpList_append_own _ rfl _ _ 42 rfl W6.heap.size 2 i0' (.int .i64 0) 1 8 Try.underlying42 hi hz0 hz1 hz2 rfl (by decide) _ _ _ rfl (hown.alloc _) ⟨wr.heap.size, 0, none⟩ 1 1 [.int .i64 ((k : Int) + 1)] rfl rfl (one_new _ _ _) (one_cell _ _) (by unfold maxLen; omega) (by omega) (by simp; omega) ?_))
          intro v' w1 hown' hgrow _
          have hb1 : Below W5.heap.size W5 w1 := (kb.alloc kb.size _).grown hgrow (by have := kb.size; simp; omega) (fun k' hk' => by have := (hown.lt k' hk').1; omega)
          have ho1 : w1.ownsRow W6.heap.size 2 1 v' (akT m (k + 1)).length ((akT m (k + 1)).map (Value.int .i64)) := by
            rw [hW6, akT_yes hhr, List.map_append, List.length_append]; exact hown'
          have O1 : Blk w1 W5.heap.size #[.int .i64 0, .slice pv nv cv] 44 := (Hown.out.1.alloc _).grown hgrow (fun e => by have := (hown.lt _ e.symm).1; omega)
          have o21 := O1.cell (i := 1) rfl
          have o2f := O1.frozen 1
          have o2l := O1.lt
          obtain ⟨pv2, cv2, hv2⟩ := (SlI.of ho1).form
          obtain ⟨nv2, Hnv2⟩ : ∃ n, Hid ((akT m (k + 1)).length = n) := ⟨_, rfl⟩
          rw [Hnv2.out] at hv2
          subst hv2
          have ho2 := (SlI.of ho1).set (b := W5.heap.size) (o := 1) (by omega) (.slice pv2 nv2 cv2)
          have HN2 : Hid (Blk (w1.setCell ⟨W5.heap.size, 1, none⟩ (.slice pv2 nv2 cv2)) W5.heap.size #[.int .i64 0, .slice pv2 nv2 cv2] 44 ∧ (w1.setCell ⟨W5.heap.size, 1, none⟩ (.slice pv2 nv2 cv2)).ownsRow W6.heap.size 2 1 (.slice pv2 nv2 cv2) (akT m (k + 1)).length ((akT m (k + 1)).map (Value.int .i64))) := ⟨O1.set 1 (.slice pv2 nv2 cv2), ho2⟩
          have hb2 := bel_set hb1 W5.heap.size 1 (Nat.le_refl _) (.slice pv2 nv2 cv2)
          have hz6 : W6.heap.size ≤ (w1.setCell ⟨W5.heap.size, 1, none⟩ (.slice pv2 nv2 cv2)).heap.size := by have := hgrow.size; rw [size_new] at this; simp [World.setCell]; omega
          clear hown' hgrow hown ho1 O1 ho2 o0 o1 of1 ol
          go_wp2_with fail
          go_roundw
          case rel => exact ⟨k + 1, pv2, nv2, cv2, by omega, by go_num, HN2, hb2, hz6⟩
          case measure => simp [intOf]; omega
      · obtain rfl : k = 11 := by omega
        have hlt' : ¬ (((11 : Nat) : Int) + 1 ≤ 11) := by omega
        have Sv := SlI.of Hown.out.2
        have Ow := (Sv.set (b := w.heap.size + 1) (o := 0) (by have := HW2.out; omega) (.int .i64 0)).set (b := w.heap.size + 1) (o := 1) (by have := HW2.out; omega) (.slice pv nv cv)
        have Ow2 := Ow.mono (base' := w.heap.size) (by omega)
        have Bc := HBc.out.trans (kb.mono HBc.out.size)
        clear Sv Ow kb b3 bl Hown
        have R1 := HR.out.below Bc
        obtain ⟨r0, r1, y0, y1, rl⟩ := R1.zq2
        have Fz := setq2_blk R1 (.int .i64 0) (.slice pv nv cv)
        have BE := setq2_below (B1.trans (Bc.mono hB)) (show w.heap.size ≤ w.heap.size + 1 by omega) (.int .i64 0) (.slice pv nv cv)
        clear R1
        go_wp2_with fail
        rw [HL.out]
        exact bodyPost_ret (v := .agg #[.int .i64 0, .slice pv nv cv]) (resultq2 Try.results15 Fz _ rfl) rfl ⟨_, rfl, Ow2, BE⟩
set_option maxRecDepth 20000 in
set_option maxHeartbeats 8000000 in
theorem specWorldFault (p : WP) (x : KW) (w : World) (h : InW w p x) :
    Calls Try.prog 19 #[.agg (p.v x)] w fun e w' => e = .returned (.int .i64 (wf hasS x)) ∧ Below w.heap.size w w' := by
  obtain ⟨t, s, us, fs, fa, se, oo⟩ := x
  obtain ⟨u, uc, f, fc, a, ac, q, qc, r, rc⟩ := p
  obtain ⟨W, HW⟩ : ∃ W, Hid (W = w.alloc (.cells (wv t s u us.length uc f fs.length fc a fa.length ac q se.length qc r oo.length rc) 32)) := ⟨_, rfl⟩
  have B1 : Below w.heap.size w W := by rw [HW.out]; exact (Below.refl _ _).alloc (Nat.le_refl _) _
  have P : Bk W w.heap.size (wv t s u us.length uc f fs.length fc a fa.length ac q se.length qc r oo.length rc) 32 := by rw [HW.out]; exact Bk.new w _ _
  have HN : Hid (InW W ⟨u, uc, f, fc, a, ac, q, qc, r, rc⟩ ⟨t, s, us, fs, fa, se, oo⟩) := h.later B1
  have hB := B1.size
  show Calls Try.prog 19 #[.agg (wv t s u us.length uc f fs.length fc a fa.length ac q se.length qc r oo.length rc)] w _
  have cF := fun W' (h : Below W.heap.size W W') => l6Fault_c w.heap.size t s u us.length uc f fs.length fc a fa.length ac q se.length qc r oo.length rc us fs fa se oo rfl rfl rfl rfl rfl HN.out.o1 HN.out.o2 W' ⟨(P.below h).cell rfl, (P.below h).cell rfl, (P.below h).cell rfl, (P.below h).cell rfl, (P.below h).cell rfl, (P.below h).cell rfl, (P.below h).cell rfl, (P.below h).lt⟩ (HN.out.later h).arg.u (HN.out.later h).arg.f (HN.out.later h).arg.a (HN.out.later h).arg.s (HN.out.later h).arg.o
  have Bc : Below W.heap.size W W := Below.refl _ _
  clear h
  go_enter Try.func19, Try.ntmps19
  go_upto_region 1 with fail
  rw [← HW.out]
  go_wp2_with fail
  refine (cF _ Bc).mono ?_
  rintro e wn ⟨rfl, kn⟩
  go_wp2_with fail
  go_ret
  exact ⟨rfl, B1.trans (kn.mono hB)⟩
end Go.Proofs.Ytgfdfpaimlcgaaa
end
