/- Texts of mine put together (a claim holds at most 60 files): LawSeats. -/
import Derived.Test.YtgfdfpaimlcgaaaPartS40
import Derived.Test.YtgfdfpaimlcgaaaPartS41
import Derived.Test.YtgfdfpaimlcgaaaPartS44
import Derived.Test.YtgfdfpaimlcgaaaPartS00
import Derived.Test.YtgfdfpaimlcgaaaPartS45
import Derived.Deep.RegionHeld3

/- LawSeats -/
/- The walk of the law FnSeats. No condition. -/
section
namespace Go.Proofs.Ytgfdfpaimlcgaaa
open Go.ChangeShapes Go.WideShapes Go.ChangeAt Go.RowKit
open Bd
set_option linter.unusedVariables false

theorem DW.soE {x : KW} (h : DW x) (c : Int) : soC hasI x c = soC hasS x c := by unfold soC; rw [h.wf]
theorem DW.ssE {x : KW} (h : DW x) (c : Int) : soS hasI x c = soS hasS x c := by unfold soS; rw [h.soE]
theorem DW.akE {x : KW} (h : DW x) (c : Int) : akV hasI x c = akV hasS x c := by unfold akV; rw [h.soE, h.ssE]
theorem DW.tsE {x : KW} (h : DW x) (c f m : Int) : tsC hasI x c f m = tsC hasS x c f m := by unfold tsC; rw [h.wf]
theorem neqS_same (x : K4) (w : World) : (binOp .neq 47 (.agg x.v) (.agg x.v)).run Try.prog w = .ok (.bool false) w := by
  rw [neqS, show x.b x = true from by unfold K4.b; simp]; rfl
/- a kind in the list is a kind that the seat has a right to -/
theorem akV_hr {h : Int → Int → Bool} {x : KW} {c q : Int} (hq : q ∈ akV h x c) : hr (soS h x c).c2 q = true := by
  unfold akV at hq
  split at hq
  · exact akT_hr hq
  · simp at hq
set_option maxRecDepth 20000 in
set_option maxHeartbeats 64000000 in
theorem seats_walk (a : Option Addr) (len cap : Nat) (W : World) (hb : Bytes W a len W.heap.size) :
    Calls Try.prog 3 #[.slice a len cap] W fun e w' => e = .returned (.bool true) ∧ Below W.heap.size W w' := by
  by_cases hl : len ≤ 1048576
  · have cB := fun w => lwBig_no w a len cap hl
    have f50 : ∀ (x y0 y1 y2 y3 : Value) (w : World), (Instr.field 49 (.agg #[x, y0, y1, y2, y3]) 0).run Try.prog w = .ok x w := fun _ _ _ _ _ _ => by kernel_rfl
    have f51 : ∀ (x y0 y1 y2 y3 : Value) (w : World), (Instr.field 49 (.agg #[x, y0, y1, y2, y3]) 1).run Try.prog w = .ok (.agg #[y0, y1, y2, y3]) w := fun _ _ _ _ _ _ => by kernel_rfl
    have f42 : ∀ (y0 y1 y2 y3 : Value) (w : World), (Instr.field 47 (.agg #[y0, y1, y2, y3]) 2).run Try.prog w = .ok y2 w := fun _ _ _ _ _ => by kernel_rfl
    have f1 : ∀ (x y : Value) (w : World), (Instr.field 55 (.agg #[x, y]) 1).run Try.prog w = .ok y w := fun _ _ _ => by kernel_rfl
    have s0 : ∀ (x y : Value) (w : World), (Instr.field 44 (.agg #[x, y]) 0).run Try.prog w = .ok x w := fun _ _ _ => by kernel_rfl
    have s1 : ∀ (x y : Value) (w : World), (Instr.field 44 (.agg #[x, y]) 1).run Try.prog w = .ok y w := fun _ _ _ => by kernel_rfl
    have g0 : ∀ (v0 v1 v2 v3 v4 v5 v6 v7 : Value) (w : World), (Instr.field 36 (.agg #[v0, v1, v2, v3, v4, v5, v6, v7]) 0).run Try.prog w = .ok v0 w := fun _ _ _ _ _ _ _ _ _ => by kernel_rfl
    go_enter Try.func3, Try.ntmps3
    go_wp2_with (go_at_call 4; refine (cB _).mono ?_; rintro e w1 ⟨rfl, hw1⟩; obtain rfl := hw1.symm)
    refine (drawTakeSeat_c W a len cap hb hl).mono ?_
    rintro e w1 ⟨p, x, ci, fj, mk, rfl, O1, dwx, k1⟩
    obtain ⟨W2, HW2⟩ : ∃ W2, Hid (W2 = w1.alloc (.cells (p.v x) 32)) := ⟨_, rfl⟩
    have kW2 : Below w1.heap.size w1 W2 := by rw [HW2.out]; exact (Below.refl _ _).alloc (Nat.le_refl _) _
    obtain ⟨g1, Eg1⟩ : ∃ g, Hid (g = w1.heap.size) := ⟨_, rfl⟩
    have BW2 : Blk W2 g1 (p.v x) 32 := by rw [HW2.out, Eg1.out]; exact Blk.new w1 _ _
    have K2 := k1.trans (kW2.mono k1.size)
    have cI := implTakeSeat p x W2 (O1.later kW2).in ci fj mk
    have eC := dwx.tsE ci fj mk
    have Hgood : Hid (tsC hasI x ci fj mk = 0 → TsG hasI x ci fj mk) := ts_good
    obtain ⟨C, HC⟩ : ∃ C, Hid (C = tsC hasI x ci fj mk) := ⟨_, rfl⟩
    obtain ⟨X, HXX⟩ : ∃ X, Hid (X = tsX hasI x ci fj mk) := ⟨_, rfl⟩
    rw [← HC.out, ← HXX.out] at cI
    rw [← HC.out] at eC
    have HeC : Hid (tsC hasS x ci fj mk = C) := eC.symm
    clear eC
    obtain ⟨a0, a1, a2, a3, a4, a5, a6, al⟩ := BW2.c7
    go_upto_region 4 with fail
    rw [← HW2.out, ← Eg1.out]
    go_wp2_with fail
    refine cI.mono ?_
    rintro e w3 ⟨q, rfl, O3, k3⟩
    obtain ⟨W4, HW4⟩ : ∃ W4, Hid (W4 = w3.alloc (.cells (r8 C q X) 36)) := ⟨_, rfl⟩
    have kW4 : Below w3.heap.size w3 W4 := by rw [HW4.out]; exact (Below.refl _ _).alloc (Nat.le_refl _) _
    obtain ⟨g2, Eg2⟩ : ∃ g, Hid (g = w3.heap.size) := ⟨_, rfl⟩
    have BW4 : Blk W4 g2 (r8 C q X) 36 := by rw [HW4.out, Eg2.out]; exact Blk.new w3 _ _
    have K4 := K2.trans ((k3.trans (kW4.mono k3.size)).mono K2.size)
    clear cI a0 a1 a2 a3 a4 a5 a6 al
    go_upto_region 5 with fail
    rw [← HW4.out]
    go_wp2_with fail
    refine (drawSeatOf_c W4 a len cap (hb.later K4) hl).mono ?_
    rintro e w5 ⟨pY, y, yc, rfl, O5, dwy, k5⟩
    obtain ⟨W6, HW6⟩ : ∃ W6, Hid (W6 = w5.alloc (.cells (pY.v y) 32)) := ⟨_, rfl⟩
    have kW6 : Below w5.heap.size w5 W6 := by rw [HW6.out]; exact (Below.refl _ _).alloc (Nat.le_refl _) _
    obtain ⟨g3, Eg3⟩ : ∃ g, Hid (g = w5.heap.size) := ⟨_, rfl⟩
    have BW6 : Blk W6 g3 (pY.v y) 32 := by rw [HW6.out, Eg3.out]; exact Blk.new w5 _ _
    have K6 := K4.trans ((k5.trans (kW6.mono k5.size)).mono K4.size)
    go_upto_region 6 with fail
    rw [← HW6.out]
    go_wp2_with fail
    refine (drawHasRight_c W6 a len cap (hb.later K6) hl).mono ?_
    rintro e w7 ⟨hm, hk, rfl, k7⟩
    have K7 := K6.trans (k7.mono K6.size)
    go_wp2_with fail
    refine (drawAllowedKinds_c w7 a len cap (hb.later K7) hl).mono ?_
    rintro e w8 ⟨pV, v, vc, rfl, O8, dwv, k8⟩
    obtain ⟨W9, HW9⟩ : ∃ W9, Hid (W9 = w8.alloc (.cells (pV.v v) 32)) := ⟨_, rfl⟩
    have kW9 : Below w8.heap.size w8 W9 := by rw [HW9.out]; exact (Below.refl _ _).alloc (Nat.le_refl _) _
    obtain ⟨g4, Eg4⟩ : ∃ g, Hid (g = w8.heap.size) := ⟨_, rfl⟩
    have BW9 : Blk W9 g4 (pV.v v) 32 := by rw [HW9.out, Eg4.out]; exact Blk.new w8 _ _
    have K9 := K7.trans ((k8.trans (kW9.mono k8.size)).mono K7.size)
    have cK := implAllowedKinds pV v W9 (O8.later kW9).in vc
    obtain ⟨LC, HLC⟩ : ∃ C, Hid (C = soC hasI v vc) := ⟨_, rfl⟩
    obtain ⟨L, HL⟩ : ∃ C, Hid (C = akV hasI v vc) := ⟨_, rfl⟩
    rw [← HLC.out, ← HL.out] at cK
    obtain ⟨n, Hn⟩ : ∃ n, Hid (L.length = n) := ⟨_, rfl⟩
    obtain ⟨a0, a1, a2, a3, a4, a5, a6, al⟩ := BW9.c7
    go_upto_region 8 with fail
    rw [← HW9.out, ← Eg4.out]
    go_wp2_with fail
    refine cK.mono ?_
    rintro e w10 ⟨v9, rfl, Sv, k10⟩
    obtain ⟨hq, hc, rfl⟩ := Sv.form
    rw [Hn.out] at Sv ⊢
    obtain ⟨Wz, HWz⟩ : ∃ Wz, Hid (Wz = w10.alloc (.cells #[.int .i64 LC, .slice hq n hc] 44)) := ⟨_, rfl⟩
    have kWz : Below w10.heap.size w10 Wz := by rw [HWz.out]; exact (Below.refl _ _).alloc (Nat.le_refl _) _
    obtain ⟨g5, Eg5⟩ : ∃ g, Hid (g = w10.heap.size) := ⟨_, rfl⟩
    have BWz : Blk Wz g5 #[.int .i64 LC, .slice hq n hc] 44 := by rw [HWz.out, Eg5.out]; exact Blk.new w10 _ _
    have Kz := K9.trans ((k10.trans (kWz.mono k10.size)).mono K9.size)
    have l9 := k10.trans (kWz.mono k10.size)
    have l7 := (k8.trans (kW9.mono k8.size)).trans (l9.mono (k8.trans (kW9.mono k8.size)).size)
    have l6 := k7.trans (l7.mono k7.size)
    have l4 := (k5.trans (kW6.mono k5.size)).trans (l6.mono (k5.trans (kW6.mono k5.size)).size)
    have l2 := (k3.trans (kW4.mono k3.size)).trans (l4.mono (k3.trans (kW4.mono k3.size)).size)
    have HKz : Hid (Below W.heap.size W Wz) := Kz
    have HB1 : Hid (Blk Wz g1 (p.v x) 32) := BW2.below l2
    have HB2 : Hid (Blk Wz g2 (r8 C q X) 36) := BW4.below l4
    have HB3 : Hid (Blk Wz g3 (pY.v y) 32) := BW6.below l6
    have HB4 : Hid (Blk Wz g4 (pV.v v) 32) := BW9.below l9
    have HB5 : Hid (Blk Wz g5 #[.int .i64 LC, .slice hq n hc] 44) := BWz
    have HN1 : Hid (InW Wz p x) := ((O1.later kW2).later l2).in
    have HN2 : Hid (InW Wz q X) := ((O3.later kW4).later l4).in
    have HN3 : Hid (InW Wz pY y) := ((O5.later kW6).later l6).in
    have HN4 : Hid (InW Wz pV v) := ((O8.later kW9).later l9).in
    have HI : Hid (SlI Wz W9.heap.size (.slice hq n hc) L) := Sv.below kWz
    have HL1 : Hid (L.length ≤ 1000) := by show _ ≤ _; rw [HL.out]; have := akV_len hasI v vc; omega
    clear cK a0 a1 a2 a3 a4 a5 a6 al K2 K4 K6 K7 K9 Kz l9 l7 l6 l4 l2 k1 k3 k5 k7 k8 k10 kW2 kW4 kW6 kW9 kWz O1 O3 O5 O8 BW2 BW4 BW6 BW9 BWz Sv hb cB
    go_upto_region 9 with fail
    rw [← HWz.out]
    simp only [← Eg2.out, ← Eg3.out, ← Eg5.out]
    clear HWz HW9 HW6 HW4 HW2 Eg1 Eg2 Eg3 Eg4 Eg5
    have cY := fun W' (h : Below Wz.heap.size Wz W') => implSeatOf pY y W' (HN3.out.later h) yc
    have cYs := fun W' (h : Below Wz.heap.size Wz W') => specSeatOf pY y W' (HN3.out.later h) yc
    have cVs := fun W' (h : Below Wz.heap.size Wz W') => specAllowedKinds pV v W' (HN4.out.later h) vc
    rw [← dwy.soE, ← dwy.ssE] at cYs
    rw [← dwv.soE, ← dwv.akE, ← HLC.out, ← HL.out] at cVs
    have nYC : (soC hasI y yc != soC hasI y yc) = false := by simp
    have nYS := fun w => neqS_same (soS hasI y yc) w
    have nVC : (LC != LC) = false := by simp
    generalize soC hasI y yc = YC at cY cYs nYC
    generalize soS hasI y yc = YS at cY cYs nYS
    have cH := fun w => implHasRight hm hk w
    have cHs := fun w => specHasRight hm hk w
    have nH : (hr hm hk != hr hm hk) = false := by simp
    generalize hr hm hk = HH at cH cHs nH
    have keep9 : ∀ w', Below Wz.heap.size Wz w' → w'.cell? ⟨g3, 0, none⟩ = some (.int .i64 y.t) ∧ w'.cell? ⟨g3, 1, none⟩ = some (.int .i64 y.s) ∧ w'.cell? ⟨g3, 2, none⟩ = some (.slice pY.u y.us.length pY.uc) ∧ w'.cell? ⟨g3, 3, none⟩ = some (.slice pY.f y.fs.length pY.fc) ∧ w'.cell? ⟨g3, 4, none⟩ = some (.slice pY.a y.fa.length pY.ac) ∧ w'.cell? ⟨g3, 5, none⟩ = some (.slice pY.s y.se.length pY.sc) ∧ w'.cell? ⟨g3, 6, none⟩ = some (.slice pY.o y.oo.length pY.oc) ∧ w'.cell? ⟨g4, 0, none⟩ = some (.int .i64 v.t) ∧ w'.cell? ⟨g4, 1, none⟩ = some (.int .i64 v.s) ∧ w'.cell? ⟨g4, 2, none⟩ = some (.slice pV.u v.us.length pV.uc) ∧ w'.cell? ⟨g4, 3, none⟩ = some (.slice pV.f v.fs.length pV.fc) ∧ w'.cell? ⟨g4, 4, none⟩ = some (.slice pV.a v.fa.length pV.ac) ∧ w'.cell? ⟨g4, 5, none⟩ = some (.slice pV.s v.se.length pV.sc) ∧ w'.cell? ⟨g4, 6, none⟩ = some (.slice pV.o v.oo.length pV.oc) ∧ w'.cell? ⟨g5, 0, none⟩ = some (.int .i64 LC) ∧ w'.cell? ⟨g5, 1, none⟩ = some (.slice hq n hc) := fun w' h => by
      obtain ⟨d0, d1, d2, d3, d4, d5, d6, _⟩ := (HB3.out.below h).c7
      obtain ⟨e0, e1, e2, e3, e4, e5, e6, _⟩ := (HB4.out.below h).c7
      exact ⟨d0, d1, d2, d3, d4, d5, d6, e0, e1, e2, e3, e4, e5, e6, (HB5.out.below h).cell rfl, (HB5.out.below h).cell rfl⟩
    have Bc : Below Wz.heap.size Wz Wz.drew := (Below.refl _ _).drew
    obtain ⟨d0, d1, d2, d3, d4, d5, d6, e0, e1, e2, e3, e4, e5, e6, i0, i1⟩ := keep9 _ (Below.refl _ _)
    go_region_held3 (fun w' => w'.cell? ⟨g3, 0, none⟩ = some (.int .i64 y.t) ∧ w'.cell? ⟨g3, 1, none⟩ = some (.int .i64 y.s) ∧ w'.cell? ⟨g3, 2, none⟩ = some (.slice pY.u y.us.length pY.uc) ∧ w'.cell? ⟨g3, 3, none⟩ = some (.slice pY.f y.fs.length pY.fc) ∧ w'.cell? ⟨g3, 4, none⟩ = some (.slice pY.a y.fa.length pY.ac) ∧ w'.cell? ⟨g3, 5, none⟩ = some (.slice pY.s y.se.length pY.sc) ∧ w'.cell? ⟨g3, 6, none⟩ = some (.slice pY.o y.oo.length pY.oc) ∧ w'.cell? ⟨g4, 0, none⟩ = some (.int .i64 v.t) ∧ w'.cell? ⟨g4, 1, none⟩ = some (.int .i64 v.s) ∧ w'.cell? ⟨g4, 2, none⟩ = some (.slice pV.u v.us.length pV.uc) ∧ w'.cell? ⟨g4, 3, none⟩ = some (.slice pV.f v.fs.length pV.fc) ∧ w'.cell? ⟨g4, 4, none⟩ = some (.slice pV.a v.fa.length pV.ac) ∧ w'.cell? ⟨g4, 5, none⟩ = some (.slice pV.s v.se.length pV.sc) ∧ w'.cell? ⟨g4, 6, none⟩ = some (.slice pV.o v.oo.length pV.oc) ∧ w'.cell? ⟨g5, 0, none⟩ = some (.int .i64 LC) ∧ w'.cell? ⟨g5, 1, none⟩ = some (.slice hq n hc)) (first | exact keep9 _ Bc | go_keep) (first
        | (go_at_call 11; with_reducible refine (cY _ Bc).mono ?_; rintro e wn ⟨rfl, kn⟩; have Bc := Bc.trans (kn.mono Bc.size); obtain ⟨d0, d1, d2, d3, d4, d5, d6, e0, e1, e2, e3, e4, e5, e6, i0, i1⟩ := keep9 _ Bc)
        | (go_at_call 12; with_reducible refine (cYs _ Bc).mono ?_; rintro e wn ⟨rfl, kn⟩; have Bc := Bc.trans (kn.mono Bc.size); obtain ⟨d0, d1, d2, d3, d4, d5, d6, e0, e1, e2, e3, e4, e5, e6, i0, i1⟩ := keep9 _ Bc)
        | (go_at_call 13; with_reducible refine (cH _).mono ?_; rintro e wn ⟨rfl, kn⟩; obtain rfl := kn.symm)
        | (go_at_call 14; with_reducible refine (cHs _).mono ?_; rintro e wn ⟨rfl, kn⟩; obtain rfl := kn.symm)
        | (go_at_call 15; with_reducible refine (cVs _ Bc).mono ?_; rintro e wn ⟨vn, rfl, Sv, kn⟩; obtain ⟨pv, cv, rfl⟩ := Sv.form; rw [Hn.out] at Sv ⊢; have Bc := Bc.trans (kn.mono Bc.size); obtain ⟨d0, d1, d2, d3, d4, d5, d6, e0, e1, e2, e3, e4, e5, e6, i0, i1⟩ := keep9 _ Bc)
        | (go_at_call 16; refine (lwNums_same _ _ _ _ _ L (HI.out.below Bc) Sv HL1.out).mono ?_; rintro e wn ⟨rfl, kn⟩; have Bc := Bc.trans (kn.mono Bc.size); obtain ⟨d0, d1, d2, d3, d4, d5, d6, e0, e1, e2, e3, e4, e5, e6, i0, i1⟩ := keep9 _ Bc))
    clear keep9 cY cYs cVs cH cHs nYC nYS nVC nH dwy dwv d0 d1 d2 d3 d4 d5 d6 e0 e1 e2 e3 e4 e5 e6 i0 i1
    have keep12 : ∀ w', Below Wz.heap.size Wz w' → w'.cell? ⟨g1, 0, none⟩ = some (.int .i64 x.t) ∧ w'.cell? ⟨g1, 1, none⟩ = some (.int .i64 x.s) ∧ w'.cell? ⟨g1, 2, none⟩ = some (.slice p.u x.us.length p.uc) ∧ w'.cell? ⟨g1, 3, none⟩ = some (.slice p.f x.fs.length p.fc) ∧ w'.cell? ⟨g1, 4, none⟩ = some (.slice p.a x.fa.length p.ac) ∧ w'.cell? ⟨g1, 5, none⟩ = some (.slice p.s x.se.length p.sc) ∧ w'.cell? ⟨g1, 6, none⟩ = some (.slice p.o x.oo.length p.oc) ∧ w'.cell? ⟨g2, 0, none⟩ = some (.int .i64 C) ∧ w'.cell? ⟨g2, 1, none⟩ = some (.int .i64 X.t) ∧ w'.cell? ⟨g2, 2, none⟩ = some (.int .i64 X.s) ∧ w'.cell? ⟨g2, 3, none⟩ = some (.slice q.u X.us.length q.uc) ∧ w'.cell? ⟨g2, 4, none⟩ = some (.slice q.f X.fs.length q.fc) ∧ w'.cell? ⟨g2, 5, none⟩ = some (.slice q.a X.fa.length q.ac) ∧ w'.cell? ⟨g2, 6, none⟩ = some (.slice q.s X.se.length q.sc) ∧ w'.cell? ⟨g2, 7, none⟩ = some (.slice q.o X.oo.length q.oc) := fun w' h => by
      obtain ⟨a0, a1, a2, a3, a4, a5, a6, _⟩ := (HB1.out.below h).c7
      have P7 := HB2.out.below h
      exact ⟨a0, a1, a2, a3, a4, a5, a6, P7.cell rfl, P7.cell rfl, P7.cell rfl, P7.cell rfl, P7.cell rfl, P7.cell rfl, P7.cell rfl, P7.cell rfl⟩
    obtain ⟨a0, a1, a2, a3, a4, a5, a6, c0, c1, c2, c3, c4, c5, c6, c7⟩ := keep12 _ Bc
    cases e2 : C == 0
    · have n7 : (C != 0) = true := by simp only [bne, e2]; rfl
      have hne : tsC hasS x ci fj mk ≠ 0 := by rw [HeC.out]; simpa using e2
      have cTs := fun W' (h : Below Wz.heap.size Wz W') => specTakeSeat p x W' (HN1.out.later h) ci fj mk hne
      rw [HeC.out] at cTs
      have cF := fun W' (h : Below Wz.heap.size Wz W') => implWorldFault p x HN1.out.o1 HN1.out.o2 W' (HN1.out.later h).arg
      have cFs := fun W' (h : Below Wz.heap.size Wz W') => specWorldFault p x W' (HN1.out.later h)
      rw [← dwx.wf] at cFs
      have nCC : (C == C) = true := by simp
      have nF : (wf hasI x == wf hasI x) = true := by simp
      generalize wf hasI x = FF at cF cFs nF
      clear hne e2
      go_upto_region 12 with fail
      have Bc := Bc.trans ((Below.refl _ _).drew.mono Bc.size)
      go_region_held3 (fun w' => w'.cell? ⟨g1, 0, none⟩ = some (.int .i64 x.t) ∧ w'.cell? ⟨g1, 1, none⟩ = some (.int .i64 x.s) ∧ w'.cell? ⟨g1, 2, none⟩ = some (.slice p.u x.us.length p.uc) ∧ w'.cell? ⟨g1, 3, none⟩ = some (.slice p.f x.fs.length p.fc) ∧ w'.cell? ⟨g1, 4, none⟩ = some (.slice p.a x.fa.length p.ac) ∧ w'.cell? ⟨g1, 5, none⟩ = some (.slice p.s x.se.length p.sc) ∧ w'.cell? ⟨g1, 6, none⟩ = some (.slice p.o x.oo.length p.oc) ∧ w'.cell? ⟨g2, 0, none⟩ = some (.int .i64 C) ∧ w'.cell? ⟨g2, 1, none⟩ = some (.int .i64 X.t) ∧ w'.cell? ⟨g2, 2, none⟩ = some (.int .i64 X.s) ∧ w'.cell? ⟨g2, 3, none⟩ = some (.slice q.u X.us.length q.uc) ∧ w'.cell? ⟨g2, 4, none⟩ = some (.slice q.f X.fs.length q.fc) ∧ w'.cell? ⟨g2, 5, none⟩ = some (.slice q.a X.fa.length q.ac) ∧ w'.cell? ⟨g2, 6, none⟩ = some (.slice q.s X.se.length q.sc) ∧ w'.cell? ⟨g2, 7, none⟩ = some (.slice q.o X.oo.length q.oc)) (first | exact keep12 _ Bc | go_keep) (first
          | (go_at_call 17; with_reducible refine (cTs _ Bc).mono ?_; rintro e wn ⟨rfl, kn⟩; have Bc := Bc.trans (kn.mono Bc.size); obtain ⟨a0, a1, a2, a3, a4, a5, a6, c0, c1, c2, c3, c4, c5, c6, c7⟩ := keep12 _ Bc)
          | (go_at_call 18; with_reducible refine (cF _ Bc).mono ?_; rintro e wn ⟨rfl, kn⟩; have Bc := Bc.trans (kn.mono Bc.size); obtain ⟨a0, a1, a2, a3, a4, a5, a6, c0, c1, c2, c3, c4, c5, c6, c7⟩ := keep12 _ Bc)
          | (go_at_call 19; with_reducible refine (cFs _ Bc).mono ?_; rintro e wn ⟨rfl, kn⟩; have Bc := Bc.trans (kn.mono Bc.size); obtain ⟨a0, a1, a2, a3, a4, a5, a6, c0, c1, c2, c3, c4, c5, c6, c7⟩ := keep12 _ Bc))
      all_goals
        go_wp2_with fail
        go_ret
        exact ⟨rfl, HKz.out.trans (Bc.mono HKz.out.size)⟩
    · obtain rfl : C = 0 := by simpa using e2
      have G := Hgood.out HC.out.symm
      have w0X : wf hasI X = 0 := by rw [HXX.out]; exact G.wf0
      have w0 : wf hasI x = 0 := (tsC_zero.1 HC.out.symm).1
      have htX : Hid (toV hasI X = totF x) := by show _ = _; unfold toV; rw [w0X, HXX.out, tsX_eq HC.out.symm]; rfl
      have htx : Hid (toV hasI x = totF x) := by show _ = _; unfold toV; rw [w0]; rfl
      have Hoth : Hid (∀ z ∈ x.se, z.c0 ≠ ci → soC hasI X z.c0 = 0 ∧ soS hasI X z.c0 = z) := by show ∀ z ∈ x.se, _; rw [HXX.out]; exact G.others
      obtain ⟨hS0, hS1, hS2⟩ := G.mine
      rw [← HXX.out] at hS0 hS1 hS2
      have cS := fun W' (h : Below Wz.heap.size Wz W') => implSeatOf q X W' (HN2.out.later h) ci
      rw [hS0] at cS
      obtain ⟨S, HS⟩ : ∃ S, S = soS hasI X ci := ⟨_, rfl⟩
      rw [← HS] at cS hS1 hS2
      obtain ⟨z0, z1, z2, z3⟩ := S
      obtain rfl : fj = z1 := hS1.symm
      obtain rfl : mk = z2 := hS2.symm
      replace cS : ∀ W', Below Wz.heap.size Wz W' → Calls Try.prog 11 #[.agg (q.v X), .int .i64 ci] W' fun e w' => e = .returned (.agg #[.int .i64 0, .int .i64 z0, .int .i64 fj, .int .i64 mk, .int .i64 z3]) ∧ Below W'.heap.size W' w' := cS
      have Hw0X : Hid (wf hasI X = 0) := w0X
      clear hS0 hS1 hS2 HS G w0 w0X e2 Hgood
      go_wp2_with fail
      refine (cS _ Bc).mono ?_
      rintro e w13 ⟨rfl, k13⟩
      have B13 := Bc.trans (k13.mono Bc.size)
      obtain ⟨Ws, HWs⟩ : ∃ Ws, Hid (Ws = w13.alloc (.cells #[.int .i64 z0, .int .i64 fj, .int .i64 mk, .int .i64 z3] 47)) := ⟨_, rfl⟩
      have kWs : Below w13.heap.size w13 Ws := by rw [HWs.out]; exact (Below.refl _ _).alloc (Nat.le_refl _) _
      obtain ⟨g6, Eg6⟩ : ∃ g, Hid (g = w13.heap.size) := ⟨_, rfl⟩
      have BWs : Blk Ws g6 #[.int .i64 z0, .int .i64 fj, .int .i64 mk, .int .i64 z3] 47 := by rw [HWs.out, Eg6.out]; exact Blk.new w13 _ _
      have LS : Below Wz.heap.size Wz Ws := B13.trans (kWs.mono B13.size)
      have HB6 : Hid (Blk Ws g6 #[.int .i64 z0, .int .i64 fj, .int .i64 mk, .int .i64 z3] 47) := BWs
      have HKs : Hid (Below W.heap.size W Ws) := HKz.out.trans (LS.mono HKz.out.size)
      clear k13 kWs BWs B13 cS
      go_upto_region 14 with fail
      rw [← HWs.out]
      simp only [← Eg6.out]
      clear HWs Eg6 Bc a0 a1 a2 a3 a4 a5 a6 c0 c1 c2 c3 c4 c5 c6 c7
      have keep24 : ∀ w', Below Ws.heap.size Ws w' → w'.cell? ⟨g1, 0, none⟩ = some (.int .i64 x.t) ∧ w'.cell? ⟨g1, 1, none⟩ = some (.int .i64 x.s) ∧ w'.cell? ⟨g1, 2, none⟩ = some (.slice p.u x.us.length p.uc) ∧ w'.cell? ⟨g1, 3, none⟩ = some (.slice p.f x.fs.length p.fc) ∧ w'.cell? ⟨g1, 4, none⟩ = some (.slice p.a x.fa.length p.ac) ∧ w'.cell? ⟨g1, 5, none⟩ = some (.slice p.s x.se.length p.sc) ∧ w'.cell? ⟨g1, 6, none⟩ = some (.slice p.o x.oo.length p.oc) ∧ w'.cell? ⟨g2, 0, none⟩ = some (.int .i64 0) ∧ w'.cell? ⟨g2, 1, none⟩ = some (.int .i64 X.t) ∧ w'.cell? ⟨g2, 2, none⟩ = some (.int .i64 X.s) ∧ w'.cell? ⟨g2, 3, none⟩ = some (.slice q.u X.us.length q.uc) ∧ w'.cell? ⟨g2, 4, none⟩ = some (.slice q.f X.fs.length q.fc) ∧ w'.cell? ⟨g2, 5, none⟩ = some (.slice q.a X.fa.length q.ac) ∧ w'.cell? ⟨g2, 6, none⟩ = some (.slice q.s X.se.length q.sc) ∧ w'.cell? ⟨g2, 7, none⟩ = some (.slice q.o X.oo.length q.oc) ∧ w'.cell? ⟨g6, 0, none⟩ = some (.int .i64 z0) ∧ w'.cell? ⟨g6, 1, none⟩ = some (.int .i64 fj) ∧ w'.cell? ⟨g6, 2, none⟩ = some (.int .i64 mk) ∧ w'.cell? ⟨g6, 3, none⟩ = some (.int .i64 z3) := fun w' h => by
        obtain ⟨a0, a1, a2, a3, a4, a5, a6, c0, c1, c2, c3, c4, c5, c6, c7⟩ := keep12 _ (LS.trans (h.mono LS.size))
        have P7 := HB6.out.below h
        exact ⟨a0, a1, a2, a3, a4, a5, a6, c0, c1, c2, c3, c4, c5, c6, c7, P7.cell rfl, P7.cell rfl, P7.cell rfl, P7.cell rfl⟩
      obtain ⟨a0, a1, a2, a3, a4, a5, a6, c0, c1, c2, c3, c4, c5, c6, c7, s0, s1, s2, s3⟩ := keep24 _ (Below.refl _ _)
      have HLS : Hid (Below Wz.heap.size Wz Ws) := LS
      clear LS keep12
      go_wp2_with fail
      go_loopw [16] (fun iv wr => ∃ k : Nat, k ≤ x.se.length ∧ iv = .int .i64 k ∧ Below Ws.heap.size Ws wr) (fun iv _ => x.se.length - (intOf iv).toNat)
      case atStart => exact ⟨0, Nat.zero_le _, rfl, Below.refl _ _⟩
      case round =>
        clear a0 a1 a2 a3 a4 a5 a6 c0 c1 c2 c3 c4 c5 c6 c7 s0 s1 s2 s3
        obtain ⟨k, hk, rfl, Br⟩ := hrel
        obtain ⟨a0, a1, a2, a3, a4, a5, a6, c0, c1, c2, c3, c4, c5, c6, c7, s0, s1, s2, s3⟩ := keep24 _ Br
        by_cases hlt : k < x.se.length
        · have hlt' : (k : Int) < (x.se.length : Int) := by omega
          have hse5 : x.se.length ≤ 5 := dwx.s
          have hwk : IntKind.i64.wrap ((k : Int) + 1) = (k : Int) + 1 := by rw [IntKind.wrap_i64]; omega
          have Hlt : Hid (k < x.se.length) := hlt
          obtain ⟨z, hz⟩ : ∃ z, x.se[k]? = some z := ⟨_, List.getElem?_eq_getElem hlt⟩
          obtain ⟨g, off, hps, hg, hat⟩ := (HN1.out.later (HLS.out.trans (Br.mono HLS.out.size))).arg.s.at hz
          obtain ⟨x0, x1, x2, x3, xl⟩ := hat.one hg hz
          rw [hps] at a5
          have Hps : Hid (p.s = some ⟨g, off, none⟩) := hps
          clear hps
          cases hq : z.c0 == ci
          · have hq' := bne_of hq
            obtain ⟨ho1, ho2⟩ := Hoth.out z (List.mem_of_getElem? hz) (by simpa using hq)
            have cO := fun W' (h : Below wr.heap.size wr W') => implSeatOf q X W' (HN2.out.later (HLS.out.trans ((Br.trans (h.mono Br.size)).mono HLS.out.size))) z.c0
            rw [ho1, ho2] at cO
            have n6 := fun w => neqS_same z w
            have keep17 : ∀ w', Below wr.heap.size wr w' → w'.cell? ⟨g1, 0, none⟩ = some (.int .i64 x.t) ∧ w'.cell? ⟨g1, 1, none⟩ = some (.int .i64 x.s) ∧ w'.cell? ⟨g1, 2, none⟩ = some (.slice p.u x.us.length p.uc) ∧ w'.cell? ⟨g1, 3, none⟩ = some (.slice p.f x.fs.length p.fc) ∧ w'.cell? ⟨g1, 4, none⟩ = some (.slice p.a x.fa.length p.ac) ∧ w'.cell? ⟨g1, 5, none⟩ = some (.slice (some ⟨g, off, none⟩) x.se.length p.sc) ∧ w'.cell? ⟨g1, 6, none⟩ = some (.slice p.o x.oo.length p.oc) ∧ w'.cell? ⟨g2, 0, none⟩ = some (.int .i64 0) ∧ w'.cell? ⟨g2, 1, none⟩ = some (.int .i64 X.t) ∧ w'.cell? ⟨g2, 2, none⟩ = some (.int .i64 X.s) ∧ w'.cell? ⟨g2, 3, none⟩ = some (.slice q.u X.us.length q.uc) ∧ w'.cell? ⟨g2, 4, none⟩ = some (.slice q.f X.fs.length q.fc) ∧ w'.cell? ⟨g2, 5, none⟩ = some (.slice q.a X.fa.length q.ac) ∧ w'.cell? ⟨g2, 6, none⟩ = some (.slice q.s X.se.length q.sc) ∧ w'.cell? ⟨g2, 7, none⟩ = some (.slice q.o X.oo.length q.oc) ∧ w'.cell? ⟨g, off + k * 4, none⟩ = some (.int .i64 z.c0) ∧ w'.cell? ⟨g, off + k * 4 + 1, none⟩ = some (.int .i64 z.c1) ∧ w'.cell? ⟨g, off + k * 4 + 2, none⟩ = some (.int .i64 z.c2) ∧ w'.cell? ⟨g, off + k * 4 + 3, none⟩ = some (.int .i64 z.c3) := fun w' h => by
              obtain ⟨a0, a1, a2, a3, a4, _, a6, c0, c1, c2, c3, c4, c5, c6, c7, _, _, _, _⟩ := keep24 _ (Br.trans (h.mono Br.size))
              have a5 := (keep24 _ (Br.trans (h.mono Br.size))).2.2.2.2.2.1
              rw [Hps.out] at a5
              exact ⟨a0, a1, a2, a3, a4, a5, a6, c0, c1, c2, c3, c4, c5, c6, c7, (h.cell xl).trans x0, (h.cell xl).trans x1, (h.cell xl).trans x2, (h.cell xl).trans x3⟩
            clear hat hz ho1 ho2
            go_upto_region 17 with fail
            have Bc : Below wr.heap.size wr wr.drew := (Below.refl _ _).drew
            go_cut [154] from 122 to 154 (fun s wx => s = .bool false ∧ Below wr.heap.size wr wx)
            case first =>
              go_region_held3 (fun w' => w'.cell? ⟨g1, 0, none⟩ = some (.int .i64 x.t) ∧ w'.cell? ⟨g1, 1, none⟩ = some (.int .i64 x.s) ∧ w'.cell? ⟨g1, 2, none⟩ = some (.slice p.u x.us.length p.uc) ∧ w'.cell? ⟨g1, 3, none⟩ = some (.slice p.f x.fs.length p.fc) ∧ w'.cell? ⟨g1, 4, none⟩ = some (.slice p.a x.fa.length p.ac) ∧ w'.cell? ⟨g1, 5, none⟩ = some (.slice (some ⟨g, off, none⟩) x.se.length p.sc) ∧ w'.cell? ⟨g1, 6, none⟩ = some (.slice p.o x.oo.length p.oc) ∧ w'.cell? ⟨g2, 0, none⟩ = some (.int .i64 0) ∧ w'.cell? ⟨g2, 1, none⟩ = some (.int .i64 X.t) ∧ w'.cell? ⟨g2, 2, none⟩ = some (.int .i64 X.s) ∧ w'.cell? ⟨g2, 3, none⟩ = some (.slice q.u X.us.length q.uc) ∧ w'.cell? ⟨g2, 4, none⟩ = some (.slice q.f X.fs.length q.fc) ∧ w'.cell? ⟨g2, 5, none⟩ = some (.slice q.a X.fa.length q.ac) ∧ w'.cell? ⟨g2, 6, none⟩ = some (.slice q.s X.se.length q.sc) ∧ w'.cell? ⟨g2, 7, none⟩ = some (.slice q.o X.oo.length q.oc) ∧ w'.cell? ⟨g, off + k * 4, none⟩ = some (.int .i64 z.c0) ∧ w'.cell? ⟨g, off + k * 4 + 1, none⟩ = some (.int .i64 z.c1) ∧ w'.cell? ⟨g, off + k * 4 + 2, none⟩ = some (.int .i64 z.c2) ∧ w'.cell? ⟨g, off + k * 4 + 3, none⟩ = some (.int .i64 z.c3)) (first | exact keep17 _ Bc | go_keep) (first
                  | (go_at_call 11; with_reducible refine (cO _ Bc).mono ?_; rintro e wn ⟨rfl, kn⟩; have Bc := Bc.trans (kn.mono Bc.size); obtain ⟨a0, a1, a2, a3, a4, a5, a6, c0, c1, c2, c3, c4, c5, c6, c7, x0, x1, x2, x3⟩ := keep17 _ Bc))
              all_goals
                go_wp2_with fail
                go_meet
                case rel => exact ⟨rfl, Bc⟩
            case rest =>
              obtain ⟨rfl, Bx⟩ := hcut
              go_wp2_with fail
              go_roundw
              case rel => exact ⟨k + 1, by have := Hlt.out; omega, by go_num, Br.trans (Bx.mono Br.size)⟩
              case measure => have := Hlt.out; simp [intOf]; omega
          · have hq' : (z.c0 != ci) = false := by simp only [bne, hq]; rfl
            clear hat hz
            have hps := Hps.out
            go_wp2_with fail
            go_quiet (fail)
            go_wp2_with fail
            go_roundw
            case rel => exact ⟨k + 1, by have := Hlt.out; omega, by go_num, Br.trans ((below_drewN _ _).mono Br.size)⟩
            case measure => have := Hlt.out; simp [intOf]; omega
        · have hlt' : ¬ (k : Int) < (x.se.length : Int) := by omega
          obtain ⟨wv9, hwv9⟩ : ∃ y : World, y = wr := ⟨_, rfl⟩
          subst hwv9
          have n11 : n ≤ 11 := by rw [← Hn.out, HL.out]; exact akV_len hasI v vc
          have keep22 : ∀ w', Below wv9.heap.size wv9 w' → w'.cell? ⟨g4, 0, none⟩ = some (.int .i64 v.t) ∧ w'.cell? ⟨g4, 1, none⟩ = some (.int .i64 v.s) ∧ w'.cell? ⟨g4, 2, none⟩ = some (.slice pV.u v.us.length pV.uc) ∧ w'.cell? ⟨g4, 3, none⟩ = some (.slice pV.f v.fs.length pV.fc) ∧ w'.cell? ⟨g4, 4, none⟩ = some (.slice pV.a v.fa.length pV.ac) ∧ w'.cell? ⟨g4, 5, none⟩ = some (.slice pV.s v.se.length pV.sc) ∧ w'.cell? ⟨g4, 6, none⟩ = some (.slice pV.o v.oo.length pV.oc) ∧ w'.cell? ⟨g5, 0, none⟩ = some (.int .i64 LC) ∧ w'.cell? ⟨g5, 1, none⟩ = some (.slice hq n hc) := fun w' h => by
            have hz := HLS.out.trans ((Br.trans (h.mono Br.size)).mono HLS.out.size)
            obtain ⟨e0, e1, e2, e3, e4, e5, e6, _⟩ := (HB4.out.below hz).c7
            exact ⟨e0, e1, e2, e3, e4, e5, e6, (HB5.out.below hz).cell rfl, (HB5.out.below hz).cell rfl⟩
          obtain ⟨e0, e1, e2, e3, e4, e5, e6, i0, i1⟩ := keep22 _ (Below.refl _ _)
          have HBr : Hid (Below Ws.heap.size Ws wv9) := Br
          have cV2 := fun W' (h : Below wv9.heap.size wv9 W') => implSeatOf pV v W' (HN4.out.later (HLS.out.trans ((HBr.out.trans (h.mono HBr.out.size)).mono HLS.out.size))) vc
          have HVr : Hid (∀ q9 ∈ L, hr (soS hasI v vc).c2 q9 = true) := by show ∀ q9 ∈ L, _; rw [HL.out]; exact fun _ h9 => akV_hr h9
          rw [← HLC.out] at cV2
          generalize soS hasI v vc = VS at cV2 HVr
          clear hlt hk a0 a1 a2 a3 a4 a5 a6 c0 c1 c2 c3 c4 c5 c6 c7 s0 s1 s2 s3
          obtain ⟨a0, a1, a2, a3, a4, a5, a6, c0, c1, c2, c3, c4, c5, c6, c7, s0, s1, s2, s3⟩ := keep24 _ Br
          clear Br
          go_wp2_with fail
          go_loopw [17] (fun iv wr => ∃ k2 : Nat, k2 ≤ n ∧ iv = .int .i64 k2 ∧ Below wv9.heap.size wv9 wr) (fun iv _ => n - (intOf iv).toNat)
          case atStart => exact ⟨0, Nat.zero_le _, rfl, Below.refl _ _⟩
          case round =>
            clear a0 a1 a2 a3 a4 a5 a6 c0 c1 c2 c3 c4 c5 c6 c7 s0 s1 s2 s3 e0 e1 e2 e3 e4 e5 e6 i0 i1
            obtain ⟨k, hk9, rfl, Bq⟩ := hrel
            obtain ⟨e0, e1, e2, e3, e4, e5, e6, i0, i1⟩ := keep22 _ Bq
            by_cases hlt : k < n
            · have hlt' : (k : Int) < (n : Int) := by omega
              have Hlt : Hid (k < n) := hlt
              have hwk : IntKind.i64.wrap ((k : Int) + 1) = (k : Int) + 1 := by rw [IntKind.wrap_i64]; omega
              obtain ⟨lk, hlk⟩ : ∃ lk, L[k]? = some lk := ⟨_, List.getElem?_eq_getElem (by rw [Hn.out]; exact hlt)⟩
              obtain ⟨al9, cl9, hsl, hal⟩ := HI.out.arg
              injection hsl with v1 v2 v3
              obtain ⟨bl, hbl, hbz, hcell⟩ : ∃ b, al9 = some ⟨b, 0, none⟩ ∧ b < Wz.heap.size ∧ ∀ i x, L[i]? = some x → Wz.cell? ⟨b, i, none⟩ = some (.int .i64 x) := by
                rcases hal with h | h
                · rw [h] at hlk; simp at hlk
                · exact h
              have Hhq : Hid (hq = some ⟨bl, 0, none⟩) := v1.trans hbl
              have hc9 := hcell k lk hlk
              have htr : hr VS.c2 lk = true := HVr.out lk (List.mem_of_getElem? hlk)
              have cH2 := fun w => implHasRight VS.c2 lk w
              rw [htr] at cH2
              have keepL : ∀ w', Below wr.heap.size wr w' → w'.cell? ⟨g4, 0, none⟩ = some (.int .i64 v.t) ∧ w'.cell? ⟨g4, 1, none⟩ = some (.int .i64 v.s) ∧ w'.cell? ⟨g4, 2, none⟩ = some (.slice pV.u v.us.length pV.uc) ∧ w'.cell? ⟨g4, 3, none⟩ = some (.slice pV.f v.fs.length pV.fc) ∧ w'.cell? ⟨g4, 4, none⟩ = some (.slice pV.a v.fa.length pV.ac) ∧ w'.cell? ⟨g4, 5, none⟩ = some (.slice pV.s v.se.length pV.sc) ∧ w'.cell? ⟨g4, 6, none⟩ = some (.slice pV.o v.oo.length pV.oc) ∧ w'.cell? ⟨g5, 0, none⟩ = some (.int .i64 LC) ∧ w'.cell? ⟨g5, 1, none⟩ = some (.slice (some ⟨bl, 0, none⟩) n hc) ∧ w'.cell? ⟨bl, k, none⟩ = some (.int .i64 lk) := fun w' h => by
                have hz0 := Bq.trans (h.mono Bq.size)
                have hz := HLS.out.trans ((HBr.out.trans (hz0.mono HBr.out.size)).mono HLS.out.size)
                obtain ⟨e0, e1, e2, e3, e4, e5, e6, i0, i1⟩ := keep22 _ hz0
                rw [Hhq.out] at i1
                exact ⟨e0, e1, e2, e3, e4, e5, e6, i0, i1, (hz.cell hbz).trans hc9⟩
              clear hal v1 v2 v3 hbl hcell hc9 htr hlk e0 e1 e2 e3 e4 e5 e6 i0 i1
              replace cV2 := fun W' (h : Below wr.heap.size wr W') => cV2 W' (Bq.trans (h.mono Bq.size))
              obtain ⟨e0, e1, e2, e3, e4, e5, e6, i0, i1, x0⟩ := keepL _ (Below.refl _ _)
              go_upto_region 22 with fail
              have Bc : Below wr.heap.size wr wr.drew := (Below.refl _ _).drew
              go_cut [173] from 155 to 173 (fun s wx => s = .bool false ∧ Below wr.heap.size wr wx)
              case first =>
                go_region_held3 (fun w' => w'.cell? ⟨g4, 0, none⟩ = some (.int .i64 v.t) ∧ w'.cell? ⟨g4, 1, none⟩ = some (.int .i64 v.s) ∧ w'.cell? ⟨g4, 2, none⟩ = some (.slice pV.u v.us.length pV.uc) ∧ w'.cell? ⟨g4, 3, none⟩ = some (.slice pV.f v.fs.length pV.fc) ∧ w'.cell? ⟨g4, 4, none⟩ = some (.slice pV.a v.fa.length pV.ac) ∧ w'.cell? ⟨g4, 5, none⟩ = some (.slice pV.s v.se.length pV.sc) ∧ w'.cell? ⟨g4, 6, none⟩ = some (.slice pV.o v.oo.length pV.oc) ∧ w'.cell? ⟨g5, 0, none⟩ = some (.int .i64 LC) ∧ w'.cell? ⟨g5, 1, none⟩ = some (.slice (some ⟨bl, 0, none⟩) n hc) ∧ w'.cell? ⟨bl, k, none⟩ = some (.int .i64 lk)) (first | exact keepL _ Bc | go_keep) (first
                    | (go_at_call 11; with_reducible refine (cV2 _ Bc).mono ?_; rintro e wn ⟨rfl, kn⟩; have Bc := Bc.trans (kn.mono Bc.size); obtain ⟨e0, e1, e2, e3, e4, e5, e6, i0, i1, x0⟩ := keepL _ Bc)
                    | (go_at_call 13; with_reducible refine (cH2 _).mono ?_; rintro e wn ⟨rfl, kn⟩; obtain rfl := kn.symm))
                all_goals
                  go_wp2_with fail
                  go_meet
                  case rel => exact ⟨rfl, Bc⟩
              case rest =>
                obtain ⟨rfl, Bx⟩ := hcut
                go_wp2_with fail
                go_roundw
                case rel => exact ⟨k + 1, by have := Hlt.out; omega, by go_num, Bq.trans (Bx.mono Bq.size)⟩
                case measure => have := Hlt.out; simp [intOf]; omega
            · have hlt' : ¬ (k : Int) < (n : Int) := by omega
              have Bs := HBr.out.trans (Bq.mono HBr.out.size)
              have cFX := fun W' (h : Below Ws.heap.size Ws W') => implWorldFault q X HN2.out.o1 HN2.out.o2 W' (HN2.out.later (HLS.out.trans (h.mono HLS.out.size))).arg
              rw [Hw0X.out] at cFX
              have cTX := fun W' (h : Below Ws.heap.size Ws W') => implTotalOf q X W' (HN2.out.later (HLS.out.trans (h.mono HLS.out.size)))
              have cTx := fun W' (h : Below Ws.heap.size Ws W') => implTotalOf p x W' (HN1.out.later (HLS.out.trans (h.mono HLS.out.size)))
              rw [htX.out] at cTX
              rw [htx.out] at cTx
              have nT : (totF x == totF x) = true := by simp
              have nfj : (fj == fj) = true := by simp
              have nmk : (mk == mk) = true := by simp
              generalize totF x = TT at cTX cTx nT
              clear cV2 keep22
              go_upto_region 24 with fail
              clear e0 e1 e2 e3 e4 e5 e6 i0 i1
              have Bc : Below Ws.heap.size Ws wr.drew := Bs.trans ((Below.refl _ _).drew.mono Bs.size)
              obtain ⟨a0, a1, a2, a3, a4, a5, a6, c0, c1, c2, c3, c4, c5, c6, c7, s0, s1, s2, s3⟩ := keep24 _ Bs
              go_region_held3 (fun w' => w'.cell? ⟨g1, 0, none⟩ = some (.int .i64 x.t) ∧ w'.cell? ⟨g1, 1, none⟩ = some (.int .i64 x.s) ∧ w'.cell? ⟨g1, 2, none⟩ = some (.slice p.u x.us.length p.uc) ∧ w'.cell? ⟨g1, 3, none⟩ = some (.slice p.f x.fs.length p.fc) ∧ w'.cell? ⟨g1, 4, none⟩ = some (.slice p.a x.fa.length p.ac) ∧ w'.cell? ⟨g1, 5, none⟩ = some (.slice p.s x.se.length p.sc) ∧ w'.cell? ⟨g1, 6, none⟩ = some (.slice p.o x.oo.length p.oc) ∧ w'.cell? ⟨g2, 0, none⟩ = some (.int .i64 0) ∧ w'.cell? ⟨g2, 1, none⟩ = some (.int .i64 X.t) ∧ w'.cell? ⟨g2, 2, none⟩ = some (.int .i64 X.s) ∧ w'.cell? ⟨g2, 3, none⟩ = some (.slice q.u X.us.length q.uc) ∧ w'.cell? ⟨g2, 4, none⟩ = some (.slice q.f X.fs.length q.fc) ∧ w'.cell? ⟨g2, 5, none⟩ = some (.slice q.a X.fa.length q.ac) ∧ w'.cell? ⟨g2, 6, none⟩ = some (.slice q.s X.se.length q.sc) ∧ w'.cell? ⟨g2, 7, none⟩ = some (.slice q.o X.oo.length q.oc) ∧ w'.cell? ⟨g6, 0, none⟩ = some (.int .i64 z0) ∧ w'.cell? ⟨g6, 1, none⟩ = some (.int .i64 fj) ∧ w'.cell? ⟨g6, 2, none⟩ = some (.int .i64 mk) ∧ w'.cell? ⟨g6, 3, none⟩ = some (.int .i64 z3)) (first | exact keep24 _ Bc | go_keep) (first
                  | (go_at_call 18; with_reducible refine (cFX _ Bc).mono ?_; rintro e wn ⟨rfl, kn⟩; have Bc := Bc.trans (kn.mono Bc.size); obtain ⟨a0, a1, a2, a3, a4, a5, a6, c0, c1, c2, c3, c4, c5, c6, c7, s0, s1, s2, s3⟩ := keep24 _ Bc)
                  | (go_at_call 20; with_reducible refine (cTX _ Bc).mono ?_; rintro e wn ⟨rfl, kn⟩; have Bc := Bc.trans (kn.mono Bc.size); obtain ⟨a0, a1, a2, a3, a4, a5, a6, c0, c1, c2, c3, c4, c5, c6, c7, s0, s1, s2, s3⟩ := keep24 _ Bc)
                  | (go_at_call 20; with_reducible refine (cTx _ Bc).mono ?_; rintro e wn ⟨rfl, kn⟩; have Bc := Bc.trans (kn.mono Bc.size); obtain ⟨a0, a1, a2, a3, a4, a5, a6, c0, c1, c2, c3, c4, c5, c6, c7, s0, s1, s2, s3⟩ := keep24 _ Bc))
              all_goals
                go_wp2_with fail
                go_ret
                exact ⟨rfl, HKs.out.trans (Bc.mono HKs.out.size)⟩
  · go_enter Try.func3, Try.ntmps3
    go_wp2_with fail
    refine (lwBig_yes _ a len cap (by omega)).mono ?_
    rintro e w' ⟨rfl, rfl⟩
    go_wp2
    go_ret
    exact ⟨rfl, Below.refl _ _⟩
end Go.Proofs.Ytgfdfpaimlcgaaa
end
