/- Texts of mine put together (a claim holds at most 60 files): ClockSpec. -/
import Derived.Test.YtppgjmpdnpidnaaGreatDoorPartK34
import Derived.Test.YtppgjmpdnpidnaaGreatDoorPartK35
import Derived.Test.YtppgjmpdnpidnaaGreatDoorPartK40
import Derived.Test.YtppgjmpdnpidnaaGreatDoorPartK39
import Derived.Test.YtppgjmpdnpidnaaGreatDoorPartK08
import Derived.Test.YtppgjmpdnpidnaaGreatDoorPartK33
import Derived.Deep.CutRange

/- ClockSpec -/
/- The contracts of RoomsOf and TickWorld, the model's: of TickWorld its code. Condition: the world's lists lie in memory as they were laid there. -/
section
namespace Go.Proofs.YtppgjmpdnpidnaaGreatDoor
open Go.ChangeShapes Go.WideShapes Go.ChangeAt Go.RowKit
open Bd
set_option linter.unusedVariables false

theorem rmL_take {fa : List KA} {k : Nat} {y : KA} (h : fa[k]? = some y) : (rmL fa).take (k + 1) = (rmL fa).take k ++ [1000000 - y.c0] := by
  unfold rmL
  rw [List.take_add_one, List.getElem?_map, h]; rfl
set_option maxHeartbeats 4000000 in
theorem l10Rooms_c (g : Nat) (a : Option Addr) (ac : Nat) (fa : List KA) (h4 : fa.length = 4) (hp : ∀ f ∈ fa, inb f.c0 0 1000000 = true) (w : World) (hg : w.cell? ⟨g, 4, none⟩ = some (.slice a 4 ac)) (hgl : g < w.heap.size) (hA : ArgA w a fa) :
    Calls Tryz.prog 25 #[.pointer (some ⟨g, 0, none⟩)] w fun e w' => ∃ v, e = .returned v ∧ SlI w' w.heap.size v (rmL fa) ∧ Below w.heap.size w w' := by
  obtain ⟨i0', hi, hz0, hz1, hz2⟩ := info_parts info64
  have H4 : Hid (fa.length = 4) := h4
  have Hp : Hid (∀ f ∈ fa, inb f.c0 0 1000000 = true) := hp
  have HA : Hid (ArgA w a fa) := hA
  have keep : ∀ w', Below w.heap.size w w' → w'.cell? ⟨g, 4, none⟩ = some (.slice a 4 ac) ∧ g < w'.heap.size := fun w' h => ⟨by rw [h.cell hgl]; exact hg, Nat.lt_of_lt_of_le hgl h.size⟩
  clear h4 hp hA hg hgl
  go_enter Tryz.func25, Tryz.ntmps25
  go_wp2_with fail
  go_loopw [3, 4] (fun v j wr => ∃ k : Nat, k ≤ 4 ∧ j = .int .i64 k ∧ Hid (wr.ownsRow w.heap.size 2 1 v ((rmL fa).take k).length (((rmL fa).take k).map (Value.int .i64))) ∧ Below w.heap.size w wr) (fun _ j _ => 4 - (intOf j).toNat)
  case atStart => exact ⟨0, Nat.zero_le _, rfl, World.ownsRow_made w #[] 0 (Nat.le_refl _) (by unfold maxLen; omega) rfl, (Below.refl _ _).alloc (Nat.le_refl _) _⟩
  case round =>
    obtain ⟨k, hk, rfl, Hown, kb⟩ := hrel
    obtain ⟨p4, gl⟩ := keep _ kb
    by_cases hlt : k < 4
    · have hlt' : (k : Int) < 4 := by omega
      obtain ⟨y, hy⟩ : ∃ y, fa[k]? = some y := ⟨_, List.getElem?_eq_getElem (by have := H4.out; omega)⟩
      obtain ⟨b, off, rfl, hb, hat⟩ := (HA.out.later kb).atP hy
      obtain ⟨x0, x1, x2, xl⟩ := hat.one hb hy
      obtain ⟨f0, f1⟩ := inb_i (Hp.out y (List.mem_of_getElem? hy))
      have hw1 : IntKind.i64.wrap (1000000 - y.c0) = 1000000 - y.c0 := by rw [IntKind.wrap_i64]; omega
      have HS : Hid ((rmL fa).take (k + 1) = (rmL fa).take k ++ [1000000 - y.c0]) := rmL_take hy
      have hlen : ((rmL fa).take k).length ≤ 4 := by rw [List.length_take]; omega
      have hown := Hown.out
      clear hy hat
      go_wp2_with (at_builtin; refine wpList_append_own _ rfl _ _ 37 rfl w.heap.size 2 i0' (.int .i64 0) 1 8 Tryz.underlying37 hi hz0 hz1 hz2 rfl (by decide) _ _ _ rfl (hown.alloc _) ⟨wr.heap.size, 0, none⟩ 1 1 [.int .i64 (1000000 - y.c0)] rfl rfl (one_new _ _ _) (one_cell _ _) (by unfold maxLen; omega) (by omega) (by have := kb.size; simp; omega) ?_)
      intro v' w1 hown' hgrow _
      have hb1 : Below w.heap.size w w1 := (kb.alloc kb.size _).grown hgrow (by have := kb.size; simp; omega) (fun k' hk' => (hown.lt k' hk').1)
      have ho1 : Hid (w1.ownsRow w.heap.size 2 1 v' ((rmL fa).take (k + 1)).length (((rmL fa).take (k + 1)).map (Value.int .i64))) := by
        show World.ownsRow _ _ _ _ _ _ _
        rw [HS.out]; simpa using hown'
      clear hown' hgrow hown
      go_wp2_with fail
      go_roundw
      case rel => exact ⟨k + 1, by omega, by go_num, ho1, hb1⟩
      case measure => simp [intOf]; omega
    · obtain rfl : k = 4 := by omega
      have hlt' : ¬ ((4 : Nat) : Int) < 4 := by omega
      have hE : (rmL fa).take 4 = rmL fa := List.take_of_length_le (by rw [rmL_len, H4.out]; omega)
      rw [hE] at Hown
      have hown' := SlI.of Hown.out
      clear Hown hE
      go_wp2_with fail
      go_ret
      exact ⟨_, rfl, hown', kb⟩
set_option maxRecDepth 20000 in
set_option maxHeartbeats 16000000 in
theorem specRoomsOf (p : WP) (x : KW) (w : World) (h : InW w p x) :
    Calls Tryz.prog 9 #[.agg (p.v x)] w fun e w' => ∃ v, e = .returned (.agg #[.int .i64 (wf hasS x), v]) ∧ SlI w' w.heap.size v (rmV hasS x) ∧ Below w.heap.size w w' := by
  obtain ⟨t, s, us, fs, fa, se, oo⟩ := x
  obtain ⟨u, uc, f, fc, a, ac, q, qc, r, rc⟩ := p
  obtain ⟨W, HW⟩ : ∃ W, Hid (W = (w.alloc (.cells (wv t s u us.length uc f fs.length fc a fa.length ac q se.length qc r oo.length rc) 32)).alloc (.cells zk2 39)) := ⟨_, rfl⟩
  have B1 : Below w.heap.size w W := by rw [HW.out]; exact ((Below.refl _ _).alloc (Nat.le_refl _) _).alloc (by rw [size_new]; omega) _
  have P : Bk W w.heap.size (wv t s u us.length uc f fs.length fc a fa.length ac q se.length qc r oo.length rc) 32 := by rw [HW.out]; exact (Bk.new w (wv t s u us.length uc f fs.length fc a fa.length ac q se.length qc r oo.length rc) 32).alloc _
  have R : Blk W (w.heap.size + 1) zk2 39 := by rw [HW.out]; have h := Blk.new (w.alloc (.cells (wv t s u us.length uc f fs.length fc a fa.length ac q se.length qc r oo.length rc) 32)) zk2 39; rw [size_new] at h; exact h
  have HN : Hid (InW W ⟨u, uc, f, fc, a, ac, q, qc, r, rc⟩ ⟨t, s, us, fs, fa, se, oo⟩) := h.later B1
  have HR : Hid (Blk W (w.heap.size + 1) zk2 39) := R
  have hB := B1.size
  show Calls Tryz.prog 9 #[.agg (wv t s u us.length uc f fs.length fc a fa.length ac q se.length qc r oo.length rc)] w _
  have cF := fun W' (h : Below W.heap.size W W') => l6Fault_c w.heap.size t s u us.length uc f fs.length fc a fa.length ac q se.length qc r oo.length rc us fs fa se oo rfl rfl rfl rfl rfl HN.out.o1 HN.out.o2 W' ⟨(P.below h).cell rfl, (P.below h).cell rfl, (P.below h).cell rfl, (P.below h).cell rfl, (P.below h).cell rfl, (P.below h).cell rfl, (P.below h).cell rfl, (P.below h).lt⟩ (HN.out.later h).arg.u (HN.out.later h).arg.f (HN.out.later h).arg.a (HN.out.later h).arg.s (HN.out.later h).arg.o
  have HV : Hid (rmV hasS ⟨t, s, us, fs, fa, se, oo⟩ = if (wf hasS ⟨t, s, us, fs, fa, se, oo⟩ == 0) = true then rmL fa else []) := rfl
  have HG : Hid (wf hasS ⟨t, s, us, fs, fa, se, oo⟩ = 0 → GdW hasS ⟨t, s, us, fs, fa, se, oo⟩) := (gdW_iff hasS _).1
  generalize rmV hasS ⟨t, s, us, fs, fa, se, oo⟩ = L at HV ⊢
  generalize wf hasS ⟨t, s, us, fs, fa, se, oo⟩ = F at cF HV HG ⊢
  obtain ⟨mu, Hmu⟩ : ∃ m, Hid (us.length = m) := ⟨_, rfl⟩
  obtain ⟨mf, Hmf⟩ : ∃ m, Hid (fs.length = m) := ⟨_, rfl⟩
  obtain ⟨ma, Hma⟩ : ∃ m, Hid (fa.length = m) := ⟨_, rfl⟩
  obtain ⟨ms, Hms⟩ : ∃ m, Hid (se.length = m) := ⟨_, rfl⟩
  obtain ⟨mo, Hmo⟩ : ∃ m, Hid (oo.length = m) := ⟨_, rfl⟩
  rw [Hmu.out, Hmf.out, Hma.out, Hms.out, Hmo.out] at P HW ⊢
  have HA : Hid (ArgA W a fa) := HN.out.arg.a
  clear h R
  have keep : ∀ w', Below W.heap.size W w' → w'.cell? ⟨w.heap.size, 0, none⟩ = some (.int .i64 t) ∧ w'.cell? ⟨w.heap.size, 1, none⟩ = some (.int .i64 s) ∧ w'.cell? ⟨w.heap.size, 2, none⟩ = some (.slice u mu uc) ∧ w'.cell? ⟨w.heap.size, 3, none⟩ = some (.slice f mf fc) ∧ w'.cell? ⟨w.heap.size, 4, none⟩ = some (.slice a ma ac) ∧ w'.cell? ⟨w.heap.size, 5, none⟩ = some (.slice q ms qc) ∧ w'.cell? ⟨w.heap.size, 6, none⟩ = some (.slice r mo rc) ∧ w.heap.size < w'.heap.size := fun w' hb => by
    have q := P.below hb
    exact ⟨q.cell rfl, q.cell rfl, q.cell rfl, q.cell rfl, q.cell rfl, q.cell rfl, q.cell rfl, q.lt⟩
  have Bc : Below W.heap.size W W := Below.refl _ _
  obtain ⟨p0, p1, p2, p3, p4, p5, p6, pl⟩ := keep _ Bc
  cases e2 : F == 0
  · have n7 : (F != 0) = true := by simp only [bne, e2]; rfl
    have HL : Hid (L = []) := by show _ = _; rw [HV.out, e2]; rfl
    clear HV HG e2
    go_enter Tryz.func9, Tryz.ntmps9
    go_upto_region 1 with fail
    rw [← HW.out]
    go_wp2_with fail
    refine (cF _ Bc).mono ?_
    rintro e wn ⟨rfl, kn⟩
    have Bc := Bc.trans (kn.mono Bc.size)
    clear p0 p1 p2 p3 p4 p5 p6 pl
    have R1 := HR.out.below Bc
    obtain ⟨r0, r1, y0, y1, rl⟩ := R1.zk2
    have Fz := setk2_blk R1 (.int .i64 F) (.slice none 0 0)
    have BE := setk2_below (B1.trans (Bc.mono hB)) (show w.heap.size ≤ w.heap.size + 1 by omega) (.int .i64 F) (.slice none 0 0)
    clear R1
    go_wp2_with fail
    rw [HL.out]
    exact bodyPost_ret (v := .agg #[.int .i64 F, .slice none 0 0]) (resultk2 Tryz.results9 Fz _ rfl) rfl ⟨_, rfl, SlI.nil _ _, BE⟩
  · obtain rfl : F = 0 := by simpa using e2
    have G := HG.out rfl
    have HL : Hid (L = rmL fa) := by show _ = _; rw [HV.out]; rfl
    have h4 : fa.length = 4 := G.a4
    have hm4 : ma = 4 := by rw [← Hma.out]; exact h4
    subst hm4
    have cM := fun W' (h : Below W.heap.size W W') => l10Rooms_c w.heap.size a ac fa h4 (purse_in G) W' ((P.below h).cell rfl) (P.below h).lt (HA.out.later h)
    have HW2 : Hid (W.heap.size = w.heap.size + 2) := by show _ = _; rw [HW.out, size_new, size_new]
    have hr4 : (rmL fa).length = 4 := by rw [rmL_len]; exact h4
    clear HV HG e2 G h4
    go_enter Tryz.func9, Tryz.ntmps9
    go_upto_region 1 with fail
    rw [← HW.out]
    go_wp2_with fail
    refine (cF _ Bc).mono ?_
    rintro e wn ⟨rfl, kn⟩
    have Bc := Bc.trans (kn.mono Bc.size)
    clear p0 p1 p2 p3 p4 p5 p6 pl
    obtain ⟨p0, p1, p2, p3, p4, p5, p6, pl⟩ := keep _ Bc
    go_wp2_with fail
    refine (cM _ Bc).mono ?_
    rintro e w3 ⟨v, rfl, Sv, k3⟩
    clear p0 p1 p2 p3 p4 p5 p6 pl
    obtain ⟨R4, cap, rfl, hRb, LR⟩ := Sv.four hr4
    have hs := Bc.size
    have Bc := Bc.trans (k3.mono Bc.size)
    have S6 := (SlI.of_lst ((LR.setOther (a := ⟨w.heap.size + 1, 0, none⟩) (by show R4 ≠ w.heap.size + 1; have := HW2.out; omega) (.int .i64 0)).setOther (a := ⟨w.heap.size + 1, 1, none⟩) (by show R4 ≠ w.heap.size + 1; have := HW2.out; omega) (.slice (some ⟨R4, 0, none⟩) 4 cap)) (show w.heap.size ≤ R4 by omega))
    rw [hr4] at S6
    clear Sv k3 LR hr4
    have R1 := HR.out.below Bc
    obtain ⟨r0, r1, y0, y1, rl⟩ := R1.zk2
    have Fz := setk2_blk R1 (.int .i64 0) (.slice (some ⟨R4, 0, none⟩) 4 cap)
    have BE := setk2_below (B1.trans (Bc.mono hB)) (show w.heap.size ≤ w.heap.size + 1 by omega) (.int .i64 0) (.slice (some ⟨R4, 0, none⟩) 4 cap)
    clear R1
    go_wp2_with fail
    rw [HL.out]
    exact bodyPost_ret (v := .agg #[.int .i64 0, .slice (some ⟨R4, 0, none⟩) 4 cap]) (resultk2 Tryz.results9 Fz _ rfl) rfl ⟨_, rfl, S6, BE⟩
/- a result of ticks that is filled behind its making -/
theorem resPut {w : World} {T Q cq : Nat} {gn : List Int} {t : TypeId} (hT : Blk w T zResV t) (hL : Lst w Q cq gn) (hne : Q ≠ T) (C : Int) (g : Value) (L : Int) (v f : Value) : Blk (stRes w T C g L v f) T (resV C g L v f) t ∧ Lst (stRes w T C g L v f) Q cq gn := by
  have q0 := hT.set 0 (.int .i64 C)
  have q1 := q0.set 1 g
  have q2 := q1.set 2 (.int .i64 L)
  have q3 := q2.set 3 v
  have q4 := q3.set 4 f
  exact ⟨q4, hL.of_block (stRes_heap w T C g L v f hne)⟩
structure ZT (w : World) (g : Nat) : Prop where
  c0 : w.cell? ⟨g, 0, none⟩ = some (.int .i64 0)
  c1 : w.cell? ⟨g, 1, none⟩ = some (.slice none 0 0)
  c2 : w.cell? ⟨g, 2, none⟩ = some (.int .i64 0)
  c3 : w.cell? ⟨g, 3, none⟩ = some (.slice none 0 0)
  c4 : w.cell? ⟨g, 4, none⟩ = some (.slice none 0 0)
  f0 : w.frozen? ⟨g, 0, none⟩ = false
  f1 : w.frozen? ⟨g, 1, none⟩ = false
  f2 : w.frozen? ⟨g, 2, none⟩ = false
  f3 : w.frozen? ⟨g, 3, none⟩ = false
  f4 : w.frozen? ⟨g, 4, none⟩ = false
  lt : g < w.heap.size
theorem Blk.zt {w : World} {g : Nat} {t : TypeId} (h : Blk w g zResV t) : ZT w g := ⟨h.cell rfl, h.cell rfl, h.cell rfl, h.cell rfl, h.cell rfl, h.frozen _, h.frozen _, h.frozen _, h.frozen _, h.frozen _, h.lt⟩
set_option maxRecDepth 20000 in
set_option maxHeartbeats 32000000 in
theorem l10Tick_c (gw : Nat) (p : WP) (x : KW) (e0 : wf hasS x = 0) (w : World) (hW : Bk w gw (p.v x) 32) (hI : InW w p x) :
    Calls Tryz.prog 24 #[.pointer (some ⟨gw, 0, none⟩)] w fun e w' => ∃ (t' s' : Int) (u1 : Option Addr) (n1 c1 : Nat) (u2 : Option Addr) (n2 c2 : Nat) (u3 : Option Addr) (n3 c3 : Nat) (u4 : Option Addr) (n4 c4 : Nat) (u5 : Option Addr) (n5 c5 : Nat), e = .returned (.tuple #[.agg (wv t' s' u1 n1 c1 u2 n2 c2 u3 n3 c3 u4 n4 c4 u5 n5 c5), .int .i64 (ckC hasS x)]) ∧ Below w.heap.size w w' := by
  obtain ⟨t, s, us, fs, fa, se, oo⟩ := x
  obtain ⟨u, uc, f, fc, a, ac, q, qc, r, rc⟩ := p
  obtain ⟨W, HW⟩ : ∃ W, Hid (W = w.alloc (.cells zW 32)) := ⟨_, rfl⟩
  have B1 : Below w.heap.size w W := by rw [HW.out]; exact (Below.refl _ _).alloc (Nat.le_refl _) _
  have hB := B1.size
  have P : Bk W gw (wv t s u us.length uc f fs.length fc a fa.length ac q se.length qc r oo.length rc) 32 := hW.below B1
  have HR : Hid (Blk W w.heap.size zW 32) := by show Blk _ _ _ _; rw [HW.out]; exact Blk.new w zW 32
  have HN : Hid (InW W ⟨u, uc, f, fc, a, ac, q, qc, r, rc⟩ ⟨t, s, us, fs, fa, se, oo⟩) := hI.later B1
  have G := (gdW_iff hasS _).1 e0
  have tg : TG (ckS ⟨t, s, us, fs, fa, se, oo⟩) := (tg0 (ck_tkF e0)).ticks 1
  have HC : Hid (ckC hasS ⟨t, s, us, fs, fa, se, oo⟩ = if t = 9999 then 7 else if 100000000 < s + (ckS ⟨t, s, us, fs, fa, se, oo⟩).lost then 7 else 0) := by show _ = _; unfold ckC; rw [e0]; rfl
  have cT := fun (T0 R4 cap : Nat) W' (h : LIn W' T0 2 u us.length uc f fs.length fc R4 0 us fs (rmL fa)) => l5Tick_c T0 2 u us.length uc f fs.length fc R4 0 cap us fs (rmL fa) W' h (tg0 (ck_tkF (x := ⟨t, s, us, fs, fa, se, oo⟩) e0))
  have cY := fun W' (h : Below W.heap.size W W') => l6Copy_c ⟨u, uc, f, fc, a, ac, q, qc, r, rc⟩ ⟨t, s, us, fs, fa, se, oo⟩ (Gd8 G.b).1 (Gd8 G.b).2 (Nat.le_of_eq G.a4) G.s6 G.o6 W' (HN.out.later h)
  replace cY : ∀ W', Below W.heap.size W W' → Calls Tryz.prog 51 #[.agg (wv t s u us.length uc f fs.length fc a fa.length ac q se.length qc r oo.length rc)] W' fun e w' => ∃ p', e = .returned (.agg (WP.v p' ⟨t, s, us, fs, fa, se, oo⟩)) ∧ OwW w' W'.heap.size p' ⟨t, s, us, fs, fa, se, oo⟩ ∧ Below W'.heap.size W' w' := cY
  obtain ⟨t0, t1⟩ := inb_i G.t
  obtain ⟨s0, s1⟩ := inb_i G.s
  have h4 : fa.length = 4 := G.a4
  have hr4 : (rmL fa).length = 4 := by rw [rmL_len]; exact h4
  have Hp : Hid (∀ f ∈ fa, inb f.c0 0 1000000 = true) := purse_in G
  dsimp only at t0 t1 s0 s1
  change TG (tkB (ts0 us fs (rmL fa))) at tg
  replace HC : Hid (ckC hasS ⟨t, s, us, fs, fa, se, oo⟩ = if t = 9999 then 7 else if 100000000 < s + (tkB (ts0 us fs (rmL fa))).lost then 7 else 0) := HC
  generalize ckC hasS ⟨t, s, us, fs, fa, se, oo⟩ = C at HC ⊢
  generalize tkB (ts0 us fs (rmL fa)) = S at HC cT tg
  have l0 := tg.l0
  have Hg4 : Hid (S.gn.length = 4) := tg.gl
  have Hg5 : Hid ((TR.of S).g.length = 4) := tg.gl
  have HP : Hid (∀ (k : Nat) (y : KA) (d : Int), fa[k]? = some y → S.gn[k]? = some d → 0 ≤ y.c0 ∧ y.c0 ≤ 1000000 ∧ 0 ≤ d ∧ d ≤ 1000000) := fun k y d hy hd => by
    have a := inb_i (Hp.out y (List.mem_of_getElem? hy))
    have hk : k < 4 := by have := (List.getElem?_eq_some_iff.1 hy).1; omega
    have b := tg.bd hk
    rw [List.getD_eq_getElem?_getD, hd] at b
    exact ⟨a.1, a.2, b.1, b.2.1⟩
  have hl160 : S.lost ≤ 1000 := by have := tg.l1; have := tg.gd.n8; omega
  obtain ⟨lost, Hlost⟩ : ∃ lost, Hid (S.lost = lost) := ⟨_, rfl⟩
  rw [Hlost.out] at l0 hl160 cT HC
  obtain ⟨mu, Hmu⟩ : ∃ m, Hid (us.length = m) := ⟨_, rfl⟩
  obtain ⟨mf, Hmf⟩ : ∃ m, Hid (fs.length = m) := ⟨_, rfl⟩
  obtain ⟨ma, Hma⟩ : ∃ m, Hid (fa.length = m) := ⟨_, rfl⟩
  obtain ⟨ms, Hms⟩ : ∃ m, Hid (se.length = m) := ⟨_, rfl⟩
  obtain ⟨mo, Hmo⟩ : ∃ m, Hid (oo.length = m) := ⟨_, rfl⟩
  have HA : Hid (ArgA W a fa) := HN.out.arg.a
  have HU : Hid (InU W u mu uc us ∧ InF W f mf fc fs) := by have := HN.out.u; have h2 := HN.out.f; dsimp only at this h2; rw [Hmu.out] at this; rw [Hmf.out] at h2; exact ⟨this, h2⟩
  rw [Hmu.out, Hmf.out, Hma.out, Hms.out, Hmo.out] at P cY
  rw [Hmu.out, Hmf.out] at cT
  have hm4 : ma = 4 := by rw [← Hma.out]; exact h4
  subst hm4
  have cM := fun W' (h : Below W.heap.size W W') => l10Rooms_c gw a ac fa h4 Hp.out W' ((P.below h).cell rfl) (P.below h).lt (HA.out.later h)
  replace cT := fun (R4 cap : Nat) W' (h : Below W.heap.size W W') (hR : Lst W' R4 cap (rmL fa)) => cT gw R4 cap W' ⟨(P.below h).cell rfl, (P.below h).cell rfl, (P.below h).lt, Hmu.out, Hmf.out, hr4, HU.out.1.later h, HU.out.2.later h, hR.iat, hR.lt⟩
  have keep : ∀ w', Below W.heap.size W w' → w'.cell? ⟨gw, 0, none⟩ = some (.int .i64 t) ∧ w'.cell? ⟨gw, 1, none⟩ = some (.int .i64 s) ∧ w'.cell? ⟨gw, 2, none⟩ = some (.slice u mu uc) ∧ w'.cell? ⟨gw, 3, none⟩ = some (.slice f mf fc) ∧ w'.cell? ⟨gw, 4, none⟩ = some (.slice a 4 ac) ∧ w'.cell? ⟨gw, 5, none⟩ = some (.slice q ms qc) ∧ w'.cell? ⟨gw, 6, none⟩ = some (.slice r mo rc) ∧ gw < w'.heap.size := fun w' hb => by
    have q := P.below hb
    exact ⟨q.cell rfl, q.cell rfl, q.cell rfl, q.cell rfl, q.cell rfl, q.cell rfl, q.cell rfl, q.lt⟩
  have H4 : Hid (fa.length = 4) := h4
  have Bc : Below W.heap.size W W := Below.refl _ _
  clear hW hI e0 G tg h4
  obtain ⟨p0, p1, p2, p3, p4, p5, p6, pl⟩ := keep _ Bc
  by_cases ht : t = 9999
  · subst ht
    have HC7 : Hid (C = 7) := by show _ = _; rw [HC.out, if_pos rfl]
    go_enter Tryz.func24, Tryz.ntmps24
    go_upto_region 1 with fail
    rw [← HW.out]
    clear cT cY cM
    have R1 := HR.out.below Bc
    obtain ⟨y0, y1, y2, y3, y4, y5, y6, z0, z1, z2, z3, z4, z5, z6, rl⟩ := R1.z7
    have Fz := set7_blk R1 (.int .i64 0) (.int .i64 0) (.slice none 0 0) (.slice none 0 0) (.slice none 0 0) (.slice none 0 0) (.slice none 0 0)
    have BE := set7_below (B1.trans (Bc.mono hB)) (Nat.le_refl w.heap.size) (.int .i64 0) (.int .i64 0) (.slice none 0 0) (.slice none 0 0) (.slice none 0 0) (.slice none 0 0) (.slice none 0 0)
    clear R1
    go_wp2_with fail
    rw [HC7.out]
    obtain ⟨d0, d1, d2, d3, d4, d5, d6, dl⟩ := Fz.c7
    refine bodyPost_ret (v := .tuple #[.agg #[.int .i64 0, .int .i64 0, .slice none 0 0, .slice none 0 0, .slice none 0 0, .slice none 0 0, .slice none 0 0], .int .i64 7]) ?_ rfl ⟨⟨_, _, _, _, _, _, _, _, _, _, _, _, _, _, _, _, _, rfl⟩, BE⟩
    simp [results, Tryz.results24, go_sem, d0, d1, d2, d3, d4, d5, d6]
    done
  · have ht' : ¬ (9999 : Int) ≤ t := by omega
    replace HC : Hid (C = if 100000000 < s + lost then 7 else 0) := by show _ = _; rw [HC.out, if_neg ht]
    go_enter Tryz.func24, Tryz.ntmps24
    go_upto_region 1 with fail
    rw [← HW.out]
    go_upto_region 3 with fail
    go_cut [4] from 13 to 18 (fun v wx => ∃ (T Q cq : Nat) (pv pf : Option Addr) (lu cv lf cf : Nat), v = .pointer (some ⟨T, 0, none⟩) ∧ Hid (Blk wx T (resV 0 (.slice (some ⟨Q, 0, none⟩) 4 cq) lost (.slice pv lu cv) (.slice pf lf cf)) 48 ∧ Lst wx Q cq S.gn) ∧ Below W.heap.size W wx)
    case first =>
      clear cY
      have Bc := Bc.drew
      have E1 : Below W.heap.size W (W.alloc (.cells zResV 48)).drew := ((Below.refl _ _).alloc (Nat.le_refl _) _).drew
      have E1s : (W.alloc (.cells zResV 48)).drew.heap.size = W.heap.size + 1 := size_new W _
      have TB1 : Blk (W.alloc (.cells zResV 48)).drew W.heap.size zResV 48 := Blk.new W _ _
      clear p0 p1 p2 p3 p4 p5 p6 pl
      obtain ⟨p0, p1, p2, p3, p4, p5, p6, pl⟩ := keep _ Bc
      go_region_held3 (fun w' => w'.cell? ⟨gw, 0, none⟩ = some (.int .i64 t) ∧ w'.cell? ⟨gw, 1, none⟩ = some (.int .i64 s) ∧ w'.cell? ⟨gw, 2, none⟩ = some (.slice u mu uc) ∧ w'.cell? ⟨gw, 3, none⟩ = some (.slice f mf fc) ∧ w'.cell? ⟨gw, 4, none⟩ = some (.slice a 4 ac) ∧ w'.cell? ⟨gw, 5, none⟩ = some (.slice q ms qc) ∧ w'.cell? ⟨gw, 6, none⟩ = some (.slice r mo rc)) (first | (obtain ⟨p0, p1, p2, p3, p4, p5, p6, _⟩ := keep _ E1; with_reducible exact ⟨p0, p1, p2, p3, p4, p5, p6⟩) | (obtain ⟨p0, p1, p2, p3, p4, p5, p6, _⟩ := keep _ Bc; with_reducible exact ⟨p0, p1, p2, p3, p4, p5, p6⟩) | (obtain ⟨p0, p1, p2, p3, p4, p5, p6, _⟩ := keep _ (Bc.alloc Bc.size (.cells zResV 48)); with_reducible exact ⟨p0, p1, p2, p3, p4, p5, p6⟩) | (obtain ⟨p0, p1, p2, p3, p4, p5, p6, _⟩ := keep _ (setRes_bel Bc W.heap.size (Nat.le_refl _) 0 (.slice (some ⟨Q, 0, none⟩) 4 cq) lost (.slice pv (TR.of S).us.length cv) (.slice pf (TR.of S).fs.length cf)); with_reducible exact ⟨p0, p1, p2, p3, p4, p5, p6⟩) | (obtain ⟨p0, p1, p2, p3, p4, p5, p6, _⟩ := keep _ (setRes_bel Bc w3.heap.size (by omega) 0 (.slice (some ⟨Q, 0, none⟩) 4 cq) lost (.slice pv (TR.of S).us.length cv) (.slice pf (TR.of S).fs.length cf)); with_reducible exact ⟨p0, p1, p2, p3, p4, p5, p6⟩) | (obtain ⟨p0, p1, p2, p3, p4, p5, p6, _⟩ := keep _ (setRes_bel (Bc.alloc Bc.size (.cells zResV 48)) w5.heap.size (by omega) 0 (.slice (some ⟨Q, 0, none⟩) 4 cq) lost (.slice pv (TR.of S).us.length cv) (.slice pf (TR.of S).fs.length cf)); with_reducible exact ⟨p0, p1, p2, p3, p4, p5, p6⟩) | (obtain ⟨p0, p1, p2, p3, p4, p5, p6, _⟩ := keep _ (Bc.alloc Bc.size (.cells (resV 0 (.slice (some ⟨Q, 0, none⟩) 4 cq) lost (.slice pv (TR.of S).us.length cv) (.slice pf (TR.of S).fs.length cf)) 48)); with_reducible exact ⟨p0, p1, p2, p3, p4, p5, p6⟩) | fail) (first
        | (go_at_call 25; with_reducible refine (cM _ Bc).mono ?_; rintro e w3 ⟨v3, rfl, Sv, k3⟩; obtain ⟨R4, cap, rfl, hRb, LR⟩ := Sv.four hr4; have hs3 := Bc.size; have Bc := Bc.trans (k3.mono Bc.size); obtain ⟨p0, p1, p2, p3, p4, p5, p6, pl⟩ := keep _ Bc)
        | (go_at_call 25; with_reducible refine (cM _ E1).mono ?_; rintro e w3 ⟨v3, rfl, Sv, k3⟩; obtain ⟨R4, cap, rfl, hRb, LR⟩ := Sv.four hr4; have hT3 : W.heap.size + 1 ≤ w3.heap.size := (by have := k3.size; rw [E1s] at this; exact this); have TB := TB1.below k3; have Bc := E1.trans (k3.mono E1.size); obtain ⟨p0, p1, p2, p3, p4, p5, p6, pl⟩ := keep _ Bc)
        | (go_at_call 50; with_reducible refine (cT R4 cap _ Bc LR).mono ?_; rintro e w5 ⟨q5, v5, f5, rfl, R5, _, _, k5⟩; obtain ⟨Q, cq, rfl, hQb, LQ⟩ := R5.g.four Hg5.out; obtain ⟨pv, cv, rfl⟩ := R5.u.fm; obtain ⟨pf, cf, rfl⟩ := R5.f.fm; have hs5 := Bc.size; (try (have hTl := TB.lt; have TB := TB.below k5; obtain ⟨d0, d1, d2, d3, d4, g0, g1, g2, g3, g4, dl⟩ := TB.zt)); have Bc := Bc.trans (k5.mono Bc.size); obtain ⟨p0, p1, p2, p3, p4, p5, p6, pl⟩ := keep _ Bc)
        | (go_at_call 50; with_reducible refine (cT R4 cap _ (Bc.alloc Bc.size _) (LR.alloc _)).mono ?_; rintro e w5 ⟨q5, v5, f5, rfl, R5, _, _, k5⟩; obtain ⟨Q, cq, rfl, hQb, LQ⟩ := R5.g.four Hg5.out; obtain ⟨pv, cv, rfl⟩ := R5.u.fm; obtain ⟨pf, cf, rfl⟩ := R5.f.fm; have hs5 := Bc.size; rw [size_new] at hQb; have TB := (Blk.new _ zResV 48).below k5; obtain ⟨d0, d1, d2, d3, d4, g0, g1, g2, g3, g4, dl⟩ := TB.zt; have Bc := (Bc.alloc Bc.size _).trans (k5.mono (Bc.alloc Bc.size _).size); obtain ⟨p0, p1, p2, p3, p4, p5, p6, pl⟩ := keep _ Bc))
      all_goals
        go_wp2_with fail
        go_meet
        case rel =>
          first
            | (have hTB := TB; exact ⟨_, Q, cq, pv, pf, _, cv, _, cf, rfl, resPut hTB LQ (by omega) 0 (.slice (some ⟨Q, 0, none⟩) 4 cq) lost (.slice pv (TR.of S).us.length cv) (.slice pf (TR.of S).fs.length cf), setRes_bel Bc _ (by omega) 0 (.slice (some ⟨Q, 0, none⟩) 4 cq) lost (.slice pv (TR.of S).us.length cv) (.slice pf (TR.of S).fs.length cf)⟩)
            | exact ⟨w5.heap.size, Q, cq, pv, pf, _, cv, _, cf, rfl, ⟨Blk.new w5 _ _, LQ.alloc _⟩, Bc.alloc Bc.size _⟩
    case rest =>
      obtain ⟨T, Q, cq, pv, pf, lu, cv, lf, cf, rfl, HT, Bc⟩ := hcut
      obtain ⟨wx, hwx⟩ : ∃ y : World, y = wc := ⟨_, rfl⟩
      subst hwx
      have keepT : ∀ w', Below wx.heap.size wx w' → w'.cell? ⟨T, 1, none⟩ = some (.slice (some ⟨Q, 0, none⟩) 4 cq) ∧ w'.cell? ⟨T, 2, none⟩ = some (.int .i64 lost) ∧ w'.cell? ⟨T, 3, none⟩ = some (.slice pv lu cv) ∧ w'.cell? ⟨T, 4, none⟩ = some (.slice pf lf cf) ∧ T < w'.heap.size := fun w' hb => by
        have q := HT.out.1.below hb
        exact ⟨q.cell rfl, q.cell rfl, q.cell rfl, q.cell rfl, q.lt⟩
      clear cT cM
      obtain ⟨p0, p1, p2, p3, p4, p5, p6, pl⟩ := keep _ Bc
      obtain ⟨e1, e2, e3, e4, el⟩ := keepT _ (Below.refl _ _)
      have hw1 : IntKind.i64.wrap (s + lost) = s + lost := by rw [IntKind.wrap_i64]; omega
      go_upto_region 4 with fail
      by_cases hs : 100000000 < s + lost
      · have HC7 : Hid (C = 7) := by show _ = _; rw [HC.out, if_pos hs]
        have hs' : decide (s + lost > 100000000) = true := decide_eq_true hs
        clear cY
        go_quiet (fail)
        have Bc := Bc.trans ((below_drewN _ nq).mono Bc.size)
        obtain ⟨W9, HW9⟩ : ∃ W9, Hid (W9 = wx.drewN nq) := ⟨_, rfl⟩
        rw [← HW9.out] at Bc ⊢
        clear p0 p1 p2 p3 p4 p5 p6 pl
        clear e1 e2 e3 e4 el
        have R1 := HR.out.below Bc
        obtain ⟨y0, y1, y2, y3, y4, y5, y6, z0, z1, z2, z3, z4, z5, z6, rl⟩ := R1.z7
        have Fz := set7_blk R1 (.int .i64 0) (.int .i64 0) (.slice none 0 0) (.slice none 0 0) (.slice none 0 0) (.slice none 0 0) (.slice none 0 0)
        have BE := set7_below (B1.trans (Bc.mono hB)) (Nat.le_refl w.heap.size) (.int .i64 0) (.int .i64 0) (.slice none 0 0) (.slice none 0 0) (.slice none 0 0) (.slice none 0 0) (.slice none 0 0)
        clear R1
        go_wp2_with fail
        rw [HC7.out]
        obtain ⟨d0, d1, d2, d3, d4, d5, d6, dl⟩ := Fz.c7
        refine bodyPost_ret (v := .tuple #[.agg #[.int .i64 0, .int .i64 0, .slice none 0 0, .slice none 0 0, .slice none 0 0, .slice none 0 0, .slice none 0 0], .int .i64 7]) ?_ rfl ⟨⟨_, _, _, _, _, _, _, _, _, _, _, _, _, _, _, _, _, rfl⟩, BE⟩
        simp [results, Tryz.results24, go_sem, d0, d1, d2, d3, d4, d5, d6]
        done
      · have HC0 : Hid (C = 0) := by show _ = _; rw [HC.out, if_neg hs]
        go_quiet (fail)
        have Bc := Bc.trans ((below_drewN _ nq).mono Bc.size)
        obtain ⟨W9, HW9⟩ : ∃ W9, Hid (W9 = wx.drewN nq) := ⟨_, rfl⟩
        have Kx : Below wx.heap.size wx W9 := by rw [HW9.out]; exact below_drewN _ nq
        rw [← HW9.out] at Bc ⊢
        clear p0 p1 p2 p3 p4 p5 p6 pl e1 e2 e3 e4 el
        obtain ⟨p0, p1, p2, p3, p4, p5, p6, pl⟩ := keep _ Bc
        have HBc : Hid (Below W.heap.size W W9) := Bc
        have hW9 := Bc.size
        have hxs := Kx.size
        go_wp2_with fail
        refine (cY _ Bc).mono ?_
        rintro e w10 ⟨p', rfl, O10, k10⟩
        obtain ⟨pu9, uc9, pf9, fc9, pa9, ac9, ps9, sc9, po9, oc9⟩ := p'
        obtain ⟨ga, hpa, hgab, _, _, _, _⟩ := O10.a.blk0 (by rw [H4.out]; omega)
        dsimp only at hpa
        subst hpa
        have A10 : SlA w10 W9.heap.size (.slice (some ⟨ga, 0, none⟩) fa.length ac9) fa := O10.a
        obtain ⟨W11, HW11⟩ : ∃ W11, Hid (W11 = w10.alloc (.cells (wv t s pu9 mu uc9 pf9 mf fc9 (some ⟨ga, 0, none⟩) 4 ac9 ps9 ms sc9 po9 mo oc9) 32)) := ⟨_, rfl⟩
        have D11 : Blk W11 w10.heap.size (wv t s pu9 mu uc9 pf9 mf fc9 (some ⟨ga, 0, none⟩) 4 ac9 ps9 ms sc9 po9 mo oc9) 32 := by rw [HW11.out]; exact Blk.new w10 _ _
        have A11 : SlA W11 W9.heap.size (.slice (some ⟨ga, 0, none⟩) fa.length ac9) fa := by rw [HW11.out]; exact A10.below ((Below.refl _ _).alloc (Nat.le_refl _) _)
        have K11 : Below W9.heap.size W9 W11 := by rw [HW11.out]; exact k10.alloc k10.size _
        obtain ⟨G, HG⟩ : ∃ G, Hid (G = w10.heap.size) := ⟨_, rfl⟩
        have hG9 : W9.heap.size ≤ G := by rw [HG.out]; exact k10.size
        rw [← HG.out] at D11
        have keep9 : ∀ w', Below W9.heap.size W9 w' → (w'.cell? ⟨T, 1, none⟩ = some (.slice (some ⟨Q, 0, none⟩) 4 cq) ∧ w'.cell? ⟨T, 2, none⟩ = some (.int .i64 lost) ∧ w'.cell? ⟨T, 3, none⟩ = some (.slice pv lu cv) ∧ w'.cell? ⟨T, 4, none⟩ = some (.slice pf lf cf) ∧ T < w'.heap.size) ∧ w'.cell? ⟨gw, 0, none⟩ = some (.int .i64 t) ∧ w'.cell? ⟨gw, 1, none⟩ = some (.int .i64 s) ∧ gw < w'.heap.size := fun w' h => by
          obtain ⟨q0, q1, _, _, _, _, _, ql⟩ := keep w' (HBc.out.trans (h.mono HBc.out.size))
          exact ⟨keepT w' (Kx.trans (h.mono Kx.size)), q0, q1, ql⟩
        have KQ : Hid (∀ w', Below W9.heap.size W9 w' → Lst w' Q cq S.gn) := fun w' h => HT.out.2.below (Kx.trans (h.mono Kx.size))
        clear p0 p1 p2 p3 p4 p5 p6 pl O10 A10 cY
        obtain ⟨⟨e1, e2, e3, e4, el⟩, p0, p1, pl⟩ := keep9 _ K11
        have hlu : us.length = mu := Hmu.out
        have hlf : fs.length = mf := Hmf.out
        have hla : fa.length = 4 := Hma.out
        have hls : se.length = ms := Hms.out
        have hlo : oo.length = mo := Hmo.out
        go_upto_region 7 with fail
        simp only [WP.v, hlu, hlf, hla, hls, hlo]
        rw [← HW11.out, ← HG.out]
        clear hlu hlf hls hlo
        have g2 := D11.cell (i := 2) rfl
        have g3 := D11.cell (i := 3) rfl
        have f2 := D11.frozen 2
        have f3 := D11.frozen 3
        have dl := D11.lt
        have D12a := D11.set 2 (.slice pv lu cv)
        have D12 := D12a.set 3 (.slice pf lf cf)
        have A12 := (A11.setB (o := 2) D11 (by decide) (.slice pv lu cv)).setB (o := 3) D12a (by decide) (.slice pf lf cf)
        have K12 := bel_set (bel_set K11 G 2 hG9 (.slice pv lu cv)) G 3 hG9 (.slice pf lf cf)
        obtain ⟨W12, HW12⟩ : ∃ W12, Hid (W12 = (W11.setCell ⟨G, 2, none⟩ (.slice pv lu cv)).setCell ⟨G, 3, none⟩ (.slice pf lf cf)) := ⟨_, rfl⟩
        rw [← HW12.out] at D12 A12 K12
        clear D11 D12a A11 K11
        go_upto_region 8 with fail
        rw [← HW12.out]
        clear g2 g3 f2 f3 dl e1 e2 e3 e4 el p0 p1 pl
        obtain ⟨⟨e1, e2, e3, e4, el⟩, p0, p1, pl⟩ := keep9 _ K12
        have g1 := D12.cell (i := 1) rfl
        have f1 := D12.frozen 1
        have dl := D12.lt
        have HD13 : Hid (Blk (W12.setCell ⟨G, 1, none⟩ (.int .i64 (s + lost))).drew G #[.int .i64 t, .int .i64 (s + lost), .slice pv lu cv, .slice pf lf cf, .slice (some ⟨ga, 0, none⟩) 4 ac9, .slice ps9 ms sc9, .slice po9 mo oc9] 32) := D12.set 1 (.int .i64 (s + lost))
        have HA13 : Hid (SlA (W12.setCell ⟨G, 1, none⟩ (.int .i64 (s + lost))).drew W9.heap.size (.slice (some ⟨ga, 0, none⟩) fa.length ac9) fa) := (A12.setB (o := 1) D12 (by decide) (.int .i64 (s + lost))).below (Below.refl _ _).drew
        have HK13 : Hid (Below W9.heap.size W9 (W12.setCell ⟨G, 1, none⟩ (.int .i64 (s + lost))).drew) := (bel_set K12 G 1 hG9 (.int .i64 (s + lost))).drew
        clear D12 A12 K12 e1 e3 e4
        go_region
        all_goals
          clear g1 f1 dl e2 el p0 p1 pl
          have D13 := HD13.out
          have A13 := HA13.out
          have K13 := HK13.out
          clear HD13 HA13 HK13
          obtain ⟨W13, HW13⟩ : ∃ W13, Hid (W13 = (W12.setCell ⟨G, 1, none⟩ (.int .i64 (s + lost))).drew) := ⟨_, rfl⟩
          rw [← HW13.out] at D13 A13 K13 ⊢
          obtain ⟨⟨e1, e2, e3, e4, el⟩, p0, p1, pl⟩ := keep9 _ K13
          have g0 := D13.cell (i := 0) rfl
          have f0 := D13.frozen 0
          have dl := D13.lt
          have hw3 : IntKind.i64.wrap (t + 1) = t + 1 := by rw [IntKind.wrap_i64]; omega
          have D14 : Blk (W13.setCell ⟨G, 0, none⟩ (.int .i64 (t + 1))) G #[.int .i64 (t + 1), .int .i64 (s + lost), .slice pv lu cv, .slice pf lf cf, .slice (some ⟨ga, 0, none⟩) 4 ac9, .slice ps9 ms sc9, .slice po9 mo oc9] 32 := D13.set 0 (.int .i64 (t + 1))
          have A14 := A13.setB (o := 0) D13 (by decide) (.int .i64 (t + 1))
          have K14 := bel_set K13 G 0 hG9 (.int .i64 (t + 1))
          obtain ⟨W14, HW14⟩ : ∃ W14, Hid (W14 = W13.setCell ⟨G, 0, none⟩ (.int .i64 (t + 1))) := ⟨_, rfl⟩
          rw [← HW14.out] at D14 A14 K14
          clear D13 A13 K13
          go_upto_region 10 with fail
          rw [← HW14.out]
          clear g0 f0 dl e1 e2 e3 e4 el p0 p1 pl
          have Hg0 : Hid (gnK fa S.gn 0 = fa) := (gnK_end H4.out Hg4.out).2
          rw [hla] at A14
          have A15 : SlA W14 W9.heap.size (.slice (some ⟨ga, 0, none⟩) 4 ac9) (gnK fa S.gn 0) := by rw [Hg0.out]; exact A14
          go_wp2_with fail
          go_loopw [6] (fun iv wr => ∃ k : Nat, k ≤ 4 ∧ iv = .int .i64 k ∧ Hid (Blk wr G #[.int .i64 (t + 1), .int .i64 (s + lost), .slice pv lu cv, .slice pf lf cf, .slice (some ⟨ga, 0, none⟩) 4 ac9, .slice ps9 ms sc9, .slice po9 mo oc9] 32 ∧ SlA wr W9.heap.size (.slice (some ⟨ga, 0, none⟩) 4 ac9) (gnK fa S.gn k)) ∧ Below W9.heap.size W9 wr) (fun iv _ => 4 - (intOf iv).toNat)
          case atStart => exact ⟨0, Nat.zero_le _, rfl, ⟨D14, A15⟩, K14⟩
          case round =>
            clear D14 A14 A15 K14
            obtain ⟨k, hk, rfl, Hk, Kk⟩ := hrel
            obtain ⟨⟨e1, e2, e3, e4, el⟩, p0, p1, pl⟩ := keep9 _ Kk
            by_cases hlt : k < 4
            · have hlt' : (k : Int) < 4 := by omega
              obtain ⟨y, hy⟩ : ∃ y, fa[k]? = some y := ⟨_, List.getElem?_eq_getElem (by have := H4.out; omega)⟩
              obtain ⟨d, hd⟩ : ∃ d, S.gn[k]? = some d := ⟨_, List.getElem?_eq_getElem (by have := Hg4.out; omega)⟩
              obtain ⟨y0, y1, d0, d1⟩ := HP.out k y d hy hd
              obtain ⟨hyk, hset, hlen⟩ := gnK_step H4.out Hg4.out hy hd
              have LQ := KQ.out _ Kk
              have dc := LQ.cell hd
              have dq := LQ.lt
              have g4 := Hk.out.1.cell (i := 4) rfl
              have dl := Hk.out.1.lt
              obtain ⟨ga2, e9, hb9, hgl2, hat2, hn9, hfz2⟩ := Hk.out.2.blk0 (by rw [hlen]; omega)
              obtain rfl : ga = ga2 := by have := Option.some.inj e9; injection this
              obtain ⟨x0, _, _, xl⟩ := hat2.one hgl2 hyk
              rw [Nat.zero_add] at x0
              have xf := hfz2 (k * 3)
              obtain ⟨csA, hbA⟩ := Hk.out.2.blk (q := ga) rfl
              have hne : G ≠ ga := bk_ne Hk.out.1 hbA (by decide)
              have hn4 : (gnK fa S.gn (k + 1)).length = 4 := by
                have h1 := congrArg List.length hset
                rw [List.length_set, flatA_len, flatA_len] at h1
                omega
              have HN : Hid (Blk (wr.setCell ⟨ga, k * 3, none⟩ (.int .i64 (y.c0 + d))).drew G #[.int .i64 (t + 1), .int .i64 (s + lost), .slice pv lu cv, .slice pf lf cf, .slice (some ⟨ga, 0, none⟩) 4 ac9, .slice ps9 ms sc9, .slice po9 mo oc9] 32 ∧ SlA (wr.setCell ⟨ga, k * 3, none⟩ (.int .i64 (y.c0 + d))).drew W9.heap.size (.slice (some ⟨ga, 0, none⟩) 4 ac9) (gnK fa S.gn (k + 1))) :=
                ⟨Hk.out.1.setOther (a := ⟨ga, k * 3, none⟩) hne (.int .i64 (y.c0 + d)), (Hk.out.2.setCell (k * 3) (.int .i64 (y.c0 + d)) (by rw [hlen]; omega) hset).below (Below.refl _ _).drew⟩
              have HKn : Hid (Below W9.heap.size W9 (wr.setCell ⟨ga, k * 3, none⟩ (.int .i64 (y.c0 + d))).drew) := (bel_set Kk ga (k * 3) hgab (.int .i64 (y.c0 + d))).drew
              have hw2 : IntKind.i64.wrap (y.c0 + d) = y.c0 + d := by rw [IntKind.wrap_i64]; omega
              clear hy hd hyk hset hlen Kk e9 hat2 hgl2 hfz2 hbA hn4 LQ e2 e3 e4 p0 p1 hn9 hb9
              go_upto_region 13 with fail
              go_region
              all_goals
                go_wp2_with fail
                go_roundw
                case rel => exact ⟨k + 1, by omega, by go_num, HN, HKn.out⟩
                case measure => simp [intOf]; omega
            · obtain rfl : k = 4 := by omega
              have hlt' : ¬ ((4 : Nat) : Int) < 4 := by omega
              have g0 := Hk.out.1.cell (i := 0) rfl
              have g1 := Hk.out.1.cell (i := 1) rfl
              have g2 := Hk.out.1.cell (i := 2) rfl
              have g3 := Hk.out.1.cell (i := 3) rfl
              have g4 := Hk.out.1.cell (i := 4) rfl
              have g5 := Hk.out.1.cell (i := 5) rfl
              have g6 := Hk.out.1.cell (i := 6) rfl
              have dl := Hk.out.1.lt
              have Bc := HBc.out.trans (Kk.mono HBc.out.size)
              have R1 := HR.out.below Bc
              obtain ⟨y0, y1, y2, y3, y4, y5, y6, z0, z1, z2, z3, z4, z5, z6, rl⟩ := R1.z7
              have Fz := set7_blk R1 (.int .i64 (t + 1)) (.int .i64 (s + lost)) (.slice pv lu cv) (.slice pf lf cf) (.slice (some ⟨ga, 0, none⟩) 4 ac9) (.slice ps9 ms sc9) (.slice po9 mo oc9)
              have BE := set7_below (B1.trans (Bc.mono hB)) (Nat.le_refl w.heap.size) (.int .i64 (t + 1)) (.int .i64 (s + lost)) (.slice pv lu cv) (.slice pf lf cf) (.slice (some ⟨ga, 0, none⟩) 4 ac9) (.slice ps9 ms sc9) (.slice po9 mo oc9)
              clear R1 Hk Kk
              go_wp2_with fail
              rw [HC0.out]
              obtain ⟨d0, d1, d2, d3, d4, d5, d6, dl⟩ := Fz.c7
              refine bodyPost_ret (v := .tuple #[.agg #[.int .i64 (t + 1), .int .i64 (s + lost), .slice pv lu cv, .slice pf lf cf, .slice (some ⟨ga, 0, none⟩) 4 ac9, .slice ps9 ms sc9, .slice po9 mo oc9], .int .i64 0]) ?_ rfl ⟨⟨_, _, _, _, _, _, _, _, _, _, _, _, _, _, _, _, _, rfl⟩, BE⟩
              simp [results, Tryz.results24, go_sem, d0, d1, d2, d3, d4, d5, d6]
              done
set_option maxRecDepth 20000 in
set_option maxHeartbeats 16000000 in
theorem specTickWorld (p : WP) (x : KW) (w : World) (h : InW w p x) :
    Calls Tryz.prog 8 #[.agg (p.v x)] w fun e w' => ∃ (t' s' : Int) (u1 : Option Addr) (n1 c1 : Nat) (u2 : Option Addr) (n2 c2 : Nat) (u3 : Option Addr) (n3 c3 : Nat) (u4 : Option Addr) (n4 c4 : Nat) (u5 : Option Addr) (n5 c5 : Nat), e = .returned (.agg (v8 (ckC hasS x) t' s' u1 n1 c1 u2 n2 c2 u3 n3 c3 u4 n4 c4 u5 n5 c5)) ∧ Below w.heap.size w w' := by
  obtain ⟨t, s, us, fs, fa, se, oo⟩ := x
  obtain ⟨u, uc, f, fc, a, ac, q, qc, r, rc⟩ := p
  obtain ⟨W, HW⟩ : ∃ W, Hid (W = (w.alloc (.cells (wv t s u us.length uc f fs.length fc a fa.length ac q se.length qc r oo.length rc) 32)).alloc (.cells z8 35)) := ⟨_, rfl⟩
  have B1 : Below w.heap.size w W := by rw [HW.out]; exact ((Below.refl _ _).alloc (Nat.le_refl _) _).alloc (by rw [size_new]; omega) _
  have P : Bk W w.heap.size (wv t s u us.length uc f fs.length fc a fa.length ac q se.length qc r oo.length rc) 32 := by rw [HW.out]; exact (Bk.new w (wv t s u us.length uc f fs.length fc a fa.length ac q se.length qc r oo.length rc) 32).alloc _
  have R : Blk W (w.heap.size + 1) z8 35 := by rw [HW.out]; have h := Blk.new (w.alloc (.cells (wv t s u us.length uc f fs.length fc a fa.length ac q se.length qc r oo.length rc) 32)) z8 35; rw [size_new] at h; exact h
  have HN : Hid (InW W ⟨u, uc, f, fc, a, ac, q, qc, r, rc⟩ ⟨t, s, us, fs, fa, se, oo⟩) := h.later B1
  have HR : Hid (Blk W (w.heap.size + 1) z8 35) := R
  have hB := B1.size
  show Calls Tryz.prog 8 #[.agg (wv t s u us.length uc f fs.length fc a fa.length ac q se.length qc r oo.length rc)] w _
  have cF := fun W' (h : Below W.heap.size W W') => l6Fault_c w.heap.size t s u us.length uc f fs.length fc a fa.length ac q se.length qc r oo.length rc us fs fa se oo rfl rfl rfl rfl rfl HN.out.o1 HN.out.o2 W' ⟨(P.below h).cell rfl, (P.below h).cell rfl, (P.below h).cell rfl, (P.below h).cell rfl, (P.below h).cell rfl, (P.below h).cell rfl, (P.below h).cell rfl, (P.below h).lt⟩ (HN.out.later h).arg.u (HN.out.later h).arg.f (HN.out.later h).arg.a (HN.out.later h).arg.s (HN.out.later h).arg.o
  have cL := fun (e0 : wf hasS ⟨t, s, us, fs, fa, se, oo⟩ = 0) W' (h : Below W.heap.size W W') => l10Tick_c w.heap.size ⟨u, uc, f, fc, a, ac, q, qc, r, rc⟩ ⟨t, s, us, fs, fa, se, oo⟩ e0 W' (P.below h) (HN.out.later h)
  have HC : Hid ((wf hasS ⟨t, s, us, fs, fa, se, oo⟩ == 0) = false → ckC hasS ⟨t, s, us, fs, fa, se, oo⟩ = wf hasS ⟨t, s, us, fs, fa, se, oo⟩) := fun e => by unfold ckC; rw [if_pos e]
  generalize ckC hasS ⟨t, s, us, fs, fa, se, oo⟩ = C at HC cL ⊢
  generalize wf hasS ⟨t, s, us, fs, fa, se, oo⟩ = F at cF HC cL
  obtain ⟨mu, Hmu⟩ : ∃ m, Hid (us.length = m) := ⟨_, rfl⟩
  obtain ⟨mf, Hmf⟩ : ∃ m, Hid (fs.length = m) := ⟨_, rfl⟩
  obtain ⟨ma, Hma⟩ : ∃ m, Hid (fa.length = m) := ⟨_, rfl⟩
  obtain ⟨ms, Hms⟩ : ∃ m, Hid (se.length = m) := ⟨_, rfl⟩
  obtain ⟨mo, Hmo⟩ : ∃ m, Hid (oo.length = m) := ⟨_, rfl⟩
  rw [Hmu.out, Hmf.out, Hma.out, Hms.out, Hmo.out] at P HW ⊢
  clear h R
  have keep : ∀ w', Below W.heap.size W w' → w'.cell? ⟨w.heap.size, 0, none⟩ = some (.int .i64 t) ∧ w'.cell? ⟨w.heap.size, 1, none⟩ = some (.int .i64 s) ∧ w'.cell? ⟨w.heap.size, 2, none⟩ = some (.slice u mu uc) ∧ w'.cell? ⟨w.heap.size, 3, none⟩ = some (.slice f mf fc) ∧ w'.cell? ⟨w.heap.size, 4, none⟩ = some (.slice a ma ac) ∧ w'.cell? ⟨w.heap.size, 5, none⟩ = some (.slice q ms qc) ∧ w'.cell? ⟨w.heap.size, 6, none⟩ = some (.slice r mo rc) ∧ w.heap.size < w'.heap.size := fun w' hb => by
    have q := P.below hb
    exact ⟨q.cell rfl, q.cell rfl, q.cell rfl, q.cell rfl, q.cell rfl, q.cell rfl, q.cell rfl, q.lt⟩
  have Bc : Below W.heap.size W W := Below.refl _ _
  obtain ⟨p0, p1, p2, p3, p4, p5, p6, pl⟩ := keep _ Bc
  cases e2 : F == 0
  · have n7 : (F != 0) = true := by simp only [bne, e2]; rfl
    obtain rfl : C = F := HC.out e2
    clear HC cL e2
    go_enter Tryz.func8, Tryz.ntmps8
    go_upto_region 1 with fail
    rw [← HW.out]
    go_wp2_with fail
    refine (cF _ Bc).mono ?_
    rintro e wn ⟨rfl, kn⟩
    have Bc := Bc.trans (kn.mono Bc.size)
    clear p0 p1 p2 p3 p4 p5 p6 pl
    go_wp2_with fail
    refine (l7Bad_c C _).mono ?_
    rintro e w4 ⟨rfl, k4⟩
    have Bc := Bc.trans (k4.mono Bc.size)
    have R1 := HR.out.below Bc
    obtain ⟨r0, r1, r2, r3, r4, r5, r6, r7, y0, y1, y2, y3, y4, y5, y6, y7, rl⟩ := R1.z8
    have Fz : Blk _ (w.heap.size + 1) (v8 C 0 0 none 0 0 none 0 0 none 0 0 none 0 0 none 0 0) 35 := set8_blk R1 (.int .i64 C) (.int .i64 0) (.int .i64 0) (.slice none 0 0) (.slice none 0 0) (.slice none 0 0) (.slice none 0 0) (.slice none 0 0)
    have BE := set8_below (B1.trans (Bc.mono hB)) (show w.heap.size ≤ w.heap.size + 1 by omega) (.int .i64 C) (.int .i64 0) (.int .i64 0) (.slice none 0 0) (.slice none 0 0) (.slice none 0 0) (.slice none 0 0) (.slice none 0 0)
    clear R1
    go_wp2_with fail
    exact bodyPost_ret (v := .agg (v8 C 0 0 none 0 0 none 0 0 none 0 0 none 0 0 none 0 0)) (result8v Tryz.results8 Fz _ rfl) rfl (by first | exact ⟨⟨_, _, _, _, _, _, _, _, _, _, _, _, _, _, _, _, _, rfl⟩, BE⟩ | exact ⟨_, _, _, _, _, _, _, _, _, _, _, _, _, _, _, _, _, rfl, BE⟩)
  · obtain rfl : F = 0 := by simpa using e2
    have cL2 := fun W' (h : Below W.heap.size W W') => cL rfl W' h
    clear HC e2 cL
    go_enter Tryz.func8, Tryz.ntmps8
    go_upto_region 1 with fail
    rw [← HW.out]
    go_wp2_with fail
    refine (cF _ Bc).mono ?_
    rintro e wn ⟨rfl, kn⟩
    have Bc := Bc.trans (kn.mono Bc.size)
    clear p0 p1 p2 p3 p4 p5 p6 pl
    go_wp2_with fail
    refine (cL2 _ Bc).mono ?_
    rintro e w4 ⟨t', s', u1, n1, c1, u2, n2, c2, u3, n3, c3, u4, n4, c4, u5, n5, c5, rfl, k4⟩
    have Bc := Bc.trans (k4.mono Bc.size)
    obtain ⟨W5, HW5⟩ : ∃ W5, Hid (W5 = w4.alloc (.cells (wv t' s' u1 n1 c1 u2 n2 c2 u3 n3 c3 u4 n4 c4 u5 n5 c5) 32)) := ⟨_, rfl⟩
    have D5 : Blk W5 w4.heap.size (wv t' s' u1 n1 c1 u2 n2 c2 u3 n3 c3 u4 n4 c4 u5 n5 c5) 32 := by rw [HW5.out]; exact Blk.new w4 _ _
    have Bc : Below W.heap.size W W5 := by rw [HW5.out]; exact Bc.alloc Bc.size _
    obtain ⟨q0, q1, q2, q3, q4, q5, q6, ql⟩ := D5.c7
    clear D5
    go_upto_region 5 with fail
    rw [← HW5.out]
    have R1 := HR.out.below Bc
    obtain ⟨r0, r1, r2, r3, r4, r5, r6, r7, y0, y1, y2, y3, y4, y5, y6, y7, rl⟩ := R1.z8
    have Fz : Blk _ (w.heap.size + 1) (v8 C t' s' u1 n1 c1 u2 n2 c2 u3 n3 c3 u4 n4 c4 u5 n5 c5) 35 := set8_blk R1 (.int .i64 C) (.int .i64 t') (.int .i64 s') (.slice u1 n1 c1) (.slice u2 n2 c2) (.slice u3 n3 c3) (.slice u4 n4 c4) (.slice u5 n5 c5)
    have BE := set8_below (B1.trans (Bc.mono hB)) (show w.heap.size ≤ w.heap.size + 1 by omega) (.int .i64 C) (.int .i64 t') (.int .i64 s') (.slice u1 n1 c1) (.slice u2 n2 c2) (.slice u3 n3 c3) (.slice u4 n4 c4) (.slice u5 n5 c5)
    clear R1
    go_wp2_with fail
    exact bodyPost_ret (v := .agg (v8 C t' s' u1 n1 c1 u2 n2 c2 u3 n3 c3 u4 n4 c4 u5 n5 c5)) (result8v Tryz.results8 Fz _ rfl) rfl (by first | exact ⟨⟨_, _, _, _, _, _, _, _, _, _, _, _, _, _, _, _, _, rfl⟩, BE⟩ | exact ⟨_, _, _, _, _, _, _, _, _, _, _, _, _, _, _, _, _, rfl, BE⟩)
end Go.Proofs.YtppgjmpdnpidnaaGreatDoor
end
