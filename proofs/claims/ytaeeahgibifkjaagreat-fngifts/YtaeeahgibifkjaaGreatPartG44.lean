/- Texts of mine put together (a claim holds at most 60 files): WfSame, LawGift, LawGiftRow. -/
import Derived.Test.YtaeeahgibifkjaaGreatPartG12
import Derived.Test.YtaeeahgibifkjaaGreatPartG36
import Derived.Test.YtaeeahgibifkjaaGreatPartG40
import Derived.Test.YtaeeahgibifkjaaGreatPartG41
import Derived.Test.YtaeeahgibifkjaaGreatPartG43
import Derived.Test.YtaeeahgibifkjaaGreatPartG38
import Derived.Test.YtaeeahgibifkjaaGreatPartG24
import Derived.Test.YtaeeahgibifkjaaGreatPartG01
import Derived.Deep.RegionHeld3

/- WfSame -/
/- Plain facts: the program and the model tell the same of a world whose Allies are from 0 to 31. No condition. -/
section
namespace Go.Proofs.YtaeeahgibifkjaaGreat
open Bd
set_option linter.unusedVariables false

theorem has32 {m : Int} (h0 : 0 ≤ m) (h1 : m < 32) (b : Int) : hasI m b = hasS m b := has_eq m b h0 (by omega)
theorem alB32 {m i : Int} (m0 : 0 ≤ m) (m1 : m < 32) : ∀ {k : Int} {l : List KA}, (∀ g ∈ l, 0 ≤ g.c2 ∧ g.c2 < 32) → alB hasI m i k l = alB hasS m i k l
  | _, [], _ => rfl
  | k, g :: l, h => by
    have hg := h g (by simp)
    unfold alB
    rw [has32 m0 m1, has32 hg.1 hg.2, alB32 m0 m1 (fun x hx => h x (List.mem_cons_of_mem _ hx))]
theorem faF32 {fa : List KA} (hfa : ∀ f ∈ fa, 0 ≤ f.c2 ∧ f.c2 < 32) : ∀ {l : List KA} {i : Int}, (∀ f ∈ l, 0 ≤ f.c2 ∧ f.c2 < 32) → faF hasI fa i l = faF hasS fa i l
  | [], _, _ => rfl
  | a :: l, i, h => by
    have ha := h a (by simp)
    have e : faC hasI fa i a = faC hasS fa i a := by unfold faC; rw [alB32 ha.1 ha.2 hfa]
    unfold faF
    rw [e, faF32 hfa (fun x hx => h x (List.mem_cons_of_mem _ hx))]
theorem ally32 {fa : List KA} (hfa : ∀ f ∈ fa, 0 ≤ f.c2 ∧ f.c2 < 32) (i : Int) : 0 ≤ allyA fa i ∧ allyA fa i < 32 := by
  unfold allyA
  rw [List.getD_eq_getElem?_getD]
  cases hh : fa[i.toNat]? with
  | none => exact ⟨by decide, by decide⟩
  | some g => exact hfa g (List.mem_of_getElem? hh)
theorem ofF32 {fa : List KA} (hfa : ∀ f ∈ fa, 0 ≤ f.c2 ∧ f.c2 < 32) : ∀ {l q : List K2}, ofF hasI fa q l = ofF hasS fa q l
  | [], _ => rfl
  | x :: l, q => by
    have hx := ally32 hfa x.c0
    have e : ofB hasI fa q x = ofB hasS fa q x := by unfold ofB; rw [has32 hx.1 hx.2]
    unfold ofF
    rw [e, ofF32 hfa]
theorem wf32 {x : KW} (hfa : ∀ f ∈ x.fa, 0 ≤ f.c2 ∧ f.c2 < 32) : wf hasI x = wf hasS x := by
  unfold wf
  rw [faF32 hfa hfa, ofF32 hfa]
theorem DW.wf {x : KW} (h : DW x) : Go.Proofs.YtaeeahgibifkjaaGreat.wf hasI x = Go.Proofs.YtaeeahgibifkjaaGreat.wf hasS x := wf32 h.a.p
theorem DW.prF {x : KW} (h : DW x) (a b : Int) : Go.Proofs.YtaeeahgibifkjaaGreat.prF hasI x a b = Go.Proofs.YtaeeahgibifkjaaGreat.prF hasS x a b := by unfold Go.Proofs.YtaeeahgibifkjaaGreat.prF; rw [h.wf]
theorem DW.payC {x : KW} (h : DW x) (a b n : Int) : Go.Proofs.YtaeeahgibifkjaaGreat.payC hasI x a b n = Go.Proofs.YtaeeahgibifkjaaGreat.payC hasS x a b n := by unfold Go.Proofs.YtaeeahgibifkjaaGreat.payC; rw [h.prF]
theorem DW.payX {x : KW} (h : DW x) (a b n : Int) : Go.Proofs.YtaeeahgibifkjaaGreat.payX hasI x a b n = Go.Proofs.YtaeeahgibifkjaaGreat.payX hasS x a b n := by unfold Go.Proofs.YtaeeahgibifkjaaGreat.payX; rw [h.payC]
end Go.Proofs.YtaeeahgibifkjaaGreat
end

/- LawGift -/
/- The walk of the law FnGifts. No condition. -/
section
namespace Go.Proofs.YtaeeahgibifkjaaGreat
open Go.ChangeShapes Go.WideShapes Go.ChangeAt Go.RowKit
open Bd
set_option linter.unusedVariables false

theorem DW.givC {x : KW} (h : DW x) (a i b : Int) : Go.Proofs.YtaeeahgibifkjaaGreat.givC hasI x a i b = Go.Proofs.YtaeeahgibifkjaaGreat.givC hasS x a i b := by unfold Go.Proofs.YtaeeahgibifkjaaGreat.givC; rw [h.prF]
theorem neqU_sameG (x : K10) (w : World) : (binOp .neq 54 (.agg x.v) (.agg x.v)).run Tryz.prog w = .ok (.bool false) w := by rw [neqU, K10.b_self]; rfl
set_option maxRecDepth 20000 in
set_option maxHeartbeats 32000000 in
theorem gifts_walk (a : Option Addr) (len cap : Nat) (W : World) (hb : Bytes W a len W.heap.size) :
    Calls Tryz.prog 5 #[.slice a len cap] W fun e w' => e = .returned (.bool true) ∧ Below W.heap.size W w' := by
  by_cases hl : len ≤ 1048576
  · have cB := fun w => lwBig_no w a len cap hl
    have f1 : ∀ (x y : Value) (w : World), (Instr.field 59 (.agg #[x, y]) 1).run Tryz.prog w = .ok y w := fun _ _ _ => by kernel_rfl
    have s1 : ∀ (x y : Value) (w : World), (Instr.field 45 (.agg #[x, y]) 1).run Tryz.prog w = .ok y w := fun _ _ _ => by kernel_rfl
    have h1 : ∀ (v v0 v1 v2 v3 v4 v5 v6 v7 v8 v9 : Value) (w : World), (Instr.field 56 (.agg #[v, v0, v1, v2, v3, v4, v5, v6, v7, v8, v9]) 1).run Tryz.prog w = .ok (.agg #[v0, v1, v2, v3, v4, v5, v6, v7, v8, v9]) w := fun _ _ _ _ _ _ _ _ _ _ _ _ => by kernel_rfl
    have g0 : ∀ (v0 v1 v2 v3 v4 v5 v6 v7 : Value) (w : World), (Instr.field 36 (.agg #[v0, v1, v2, v3, v4, v5, v6, v7]) 0).run Tryz.prog w = .ok v0 w := fun _ _ _ _ _ _ _ _ _ => by kernel_rfl
    go_enter Tryz.func5, Tryz.ntmps5
    go_wp2_with (go_at_call 8; refine (cB _).mono ?_; rintro e w1 ⟨rfl, hw1⟩; obtain rfl := hw1.symm)
    refine (drawGiveUnit_c W a len cap hb hl).mono ?_
    rintro e w1 ⟨p, x, i, id, j, rfl, O1, dw, k1, hid⟩
    obtain ⟨W2, HW2⟩ : ∃ W2, Hid (W2 = w1.alloc (.cells (p.v x) 32)) := ⟨_, rfl⟩
    have k2 : Below w1.heap.size w1 W2 := by rw [HW2.out]; exact (Below.refl _ _).alloc (Nat.le_refl _) _
    have X2 : Blk W2 w1.heap.size (p.v x) 32 := by rw [HW2.out]; exact Blk.new w1 _ _
    have B2 := k1.trans (k2.mono k1.size)
    have O2 := O1.later k2
    have hw : wf hasI x = 0 → (Lit.int .i64 id).wf = true := fun e => by
      rcases hid with ⟨h1, h2⟩ | ⟨y, hy, rfl⟩
      · exact wf_int (by omega) (by omega)
      · have g := (Gd.of ((gdW_iff hasI x).1 e).b).gu hy
        have := g.i0; have := g.i1
        exact wf_int (by omega) (by omega)
    have cI := implGiveUnit p x W2 O2.in i id j hw
    have HX : Hid (Blk W2 w1.heap.size (p.v x) 32) := X2
    have HO : Hid (OwW W2 W.heap.size p x) := O2
    have HB2 : Hid (Below W.heap.size W W2) := B2
    have hux : x.us.length ≤ 8 := dw.u
    have eC := dw.givC i id j
    have Hhw : Hid (wf hasI x = 0 → (Lit.int .i64 id).wf = true) := hw
    obtain ⟨a0, a1, a2, a3, a4, a5, a6, al⟩ := X2.c7
    clear O1 k1 k2 X2 B2 O2 dw hb cB hid hw
    have good : givC hasI x i id j = 0 → GivG hasI x i id j := giv_good
    obtain ⟨C, HC⟩ : ∃ C, Hid (C = givC hasI x i id j) := ⟨_, rfl⟩
    obtain ⟨X, HXX⟩ : ∃ X, Hid (X = givX hasI x i id j) := ⟨_, rfl⟩
    rw [← HC.out] at cI eC good
    rw [← HXX.out] at cI
    have HeC : Hid (givC hasS x i id j = C) := eC.symm
    have Hgood : Hid (C = 0 → GivG hasI x i id j) := good
    clear eC good
    go_upto_region 4 with fail
    rw [← HW2.out]
    go_wp2_with fail
    refine cI.mono ?_
    rintro e w3 ⟨q, rfl, O3, k3⟩
    obtain ⟨W4, HW4⟩ : ∃ W4, Hid (W4 = w3.alloc (.cells (r8 C q X) 36)) := ⟨_, rfl⟩
    have k4 : Below w3.heap.size w3 W4 := by rw [HW4.out]; exact (Below.refl _ _).alloc (Nat.le_refl _) _
    have HP : Hid (Blk W4 w3.heap.size (r8 C q X) 36) := by show Blk _ _ _ _; rw [HW4.out]; exact Blk.new w3 _ _
    have K4 : Below W2.heap.size W2 W4 := k3.trans (k4.mono k3.size)
    have HO4 : Hid (OwW W4 W2.heap.size q X) := O3.later k4
    have HK4 : Hid (Below W2.heap.size W2 W4) := K4
    clear cI O3 k3 k4
    go_upto_region 5 with fail
    rw [← HW4.out]
    clear HW4 HW2 a0 a1 a2 a3 a4 a5 a6 al
    have P7 := HP.out
    have c0 : W4.cell? ⟨w3.heap.size, 0, none⟩ = some (.int .i64 C) := P7.cell (i := 0) rfl
    have cl := P7.lt
    cases e2 : C == 0
    · have n7 : (C != 0) = true := by simp only [bne, e2]; rfl
      have nCC : (C == C) = true := by simp
      have sP := fun W' (h : Below W2.heap.size W2 W') => specGiveC p x W' (HO.out.later h).in i id j (by rw [HeC.out]; simpa using e2)
      simp only [HeC.out] at sP
      have keep : ∀ w', Below W2.heap.size W2 w' → Below W4.heap.size W4 w' → w'.cell? ⟨w1.heap.size, 0, none⟩ = some (.int .i64 x.t) ∧ w'.cell? ⟨w1.heap.size, 1, none⟩ = some (.int .i64 x.s) ∧ w'.cell? ⟨w1.heap.size, 2, none⟩ = some (.slice p.u x.us.length p.uc) ∧ w'.cell? ⟨w1.heap.size, 3, none⟩ = some (.slice p.f x.fs.length p.fc) ∧ w'.cell? ⟨w1.heap.size, 4, none⟩ = some (.slice p.a x.fa.length p.ac) ∧ w'.cell? ⟨w1.heap.size, 5, none⟩ = some (.slice p.s x.se.length p.sc) ∧ w'.cell? ⟨w1.heap.size, 6, none⟩ = some (.slice p.o x.oo.length p.oc) ∧ w'.cell? ⟨w3.heap.size, 0, none⟩ = some (.int .i64 C) ∧ w1.heap.size < w'.heap.size ∧ w3.heap.size < w'.heap.size := fun w' h h' => by
        obtain ⟨a0, a1, a2, a3, a4, a5, a6, al⟩ := (HX.out.below h).c7
        have cc := (HP.out.below h').cell (i := 0) rfl
        exact ⟨a0, a1, a2, a3, a4, a5, a6, cc, al, (HP.out.below h').lt⟩
      obtain ⟨a0, a1, a2, a3, a4, a5, a6, c0, al, cl⟩ := keep _ K4 (Below.refl _ _)
      have Bd : Below W2.heap.size W2 W4.drew := K4.trans ((Below.refl _ _).drew.mono K4.size)
      have Be : Below W4.heap.size W4 W4.drew := (Below.refl _ _).drew
      clear P7
      go_upto_region 6 with fail
      go_region_held3 (fun w' => w'.cell? ⟨w1.heap.size, 0, none⟩ = some (.int .i64 x.t) ∧ w'.cell? ⟨w1.heap.size, 1, none⟩ = some (.int .i64 x.s) ∧ w'.cell? ⟨w1.heap.size, 2, none⟩ = some (.slice p.u x.us.length p.uc) ∧ w'.cell? ⟨w1.heap.size, 3, none⟩ = some (.slice p.f x.fs.length p.fc) ∧ w'.cell? ⟨w1.heap.size, 4, none⟩ = some (.slice p.a x.fa.length p.ac) ∧ w'.cell? ⟨w1.heap.size, 5, none⟩ = some (.slice p.s x.se.length p.sc) ∧ w'.cell? ⟨w1.heap.size, 6, none⟩ = some (.slice p.o x.oo.length p.oc) ∧ w'.cell? ⟨w3.heap.size, 0, none⟩ = some (.int .i64 C)) (first | exact (by obtain ⟨a0, a1, a2, a3, a4, a5, a6, c0, _, _⟩ := keep _ Bd Be; exact ⟨a0, a1, a2, a3, a4, a5, a6, c0⟩) | go_keep) (first
        | (go_at_call 31; refine (sP _ Bd).mono ?_; rintro e wn ⟨rfl, kn⟩; have Bd := Bd.trans (kn.mono Bd.size); have Be := Be.trans (kn.mono Be.size); obtain ⟨a0, a1, a2, a3, a4, a5, a6, c0, al, cl⟩ := keep _ Bd Be))
      all_goals
        go_wp2_with fail
        go_ret
        exact ⟨rfl, HB2.out.trans (Bd.mono HB2.out.size)⟩
    · obtain rfl : C = 0 := by simpa using e2
      obtain ⟨_, ⟨u1, hfnd⟩, hwf, htot, hids, hbx, _, hob, hlen, hoth⟩ := Hgood.out rfl
      rw [← HXX.out] at hfnd hwf htot hids hlen hoth
      have hwx : wf hasI x = 0 := (givC_zero.1 HC.out.symm).1 |> fun e => (prF_zero.1 e).1
      have hwi := Hhw.out hwx
      have Hwf : Hid (wf hasI X = 0) := hwf
      have Hwx : Hid (wf hasI x = 0) := hwx
      have hbX : bf X.us X.fs = 0 := ((gdW_iff hasI X).1 hwf).b
      have cU := implUnitOf q.u X.us.length q.uc q.f X.fs.length q.fc X.us X.fs id hwi rfl rfl W4 HO4.out.in.u.arg HO4.out.in.f.arg
      have eC : uoC X.us X.fs id = 0 := by unfold uoC; rw [hbX, hfnd]; rfl
      have eU : uoU X.us X.fs id = handed u1 j := by unfold uoU; rw [hbX, hfnd]; rfl
      rw [eC, eU] at cU
      obtain ⟨hv, Hv, v1, v6⟩ : ∃ hv : K10, Hid (hv = handed u1 j) ∧ hv.c1 = j ∧ hv.c6 = 0 := ⟨_, rfl, rfl, rfl⟩
      rw [← Hv.out] at cU
      have Hoth : Hid (∀ (k : Nat) (y : K10), x.us[k]? = some y → y.c0 ≠ id → X.us[k]? = some y) := hoth
      obtain ⟨n, Hn⟩ : ∃ n, Hid (n = (idsOf j x.us).length) := ⟨_, rfl⟩
      obtain ⟨m1, Hm1⟩ : ∃ m1, Hid (m1 = (idsOf j X.us).length) := ⟨_, rfl⟩
      have nm : (m1 : Int) = (n : Int) + 1 := by rw [Hm1.out, Hn.out, hids]; omega
      have oX : obL X.us X.fs j = idsOf j X.us := by unfold obL; rw [hbX, hob]; rfl
      have ox : obL x.us x.fs j = idsOf j x.us := by unfold obL; rw [hbx, hob]; rfl
      have n8 : n ≤ 8 := by have := obL_le x.us x.fs j; rw [ox] at this; rw [Hn.out]; exact this
      have Hox : Hid ((obL x.us x.fs j).length = n) := by show _ = _; rw [ox, Hn.out]
      have HoX : Hid ((obL X.us X.fs j).length = m1) := by show _ = _; rw [oX, Hm1.out]
      have htX : Hid (toV hasI X = totF x) := by show _ = _; unfold toV; rw [Hwf.out, htot]; rfl
      have htx : Hid (toV hasI x = totF x) := by show _ = _; unfold toV; rw [Hwx.out]; rfl
      have hlI : ((X.us.length : Int) != (x.us.length : Int)) = false := by rw [hlen]; simp
      have Hlen : Hid (X.us.length = x.us.length) := hlen
      clear hoth hfnd hwf htot hids hbx hwx hwi hbX eC eU e2 oX ox hob hlen
      obtain ⟨c0x, c1, c2, c3, c4, c5, c6, c7⟩ : W4.cell? ⟨w3.heap.size, 0, none⟩ = some (.int .i64 0) ∧ W4.cell? ⟨w3.heap.size, 1, none⟩ = some (.int .i64 X.t) ∧ W4.cell? ⟨w3.heap.size, 2, none⟩ = some (.int .i64 X.s) ∧ W4.cell? ⟨w3.heap.size, 3, none⟩ = some (.slice q.u X.us.length q.uc) ∧ W4.cell? ⟨w3.heap.size, 4, none⟩ = some (.slice q.f X.fs.length q.fc) ∧ W4.cell? ⟨w3.heap.size, 5, none⟩ = some (.slice q.a X.fa.length q.ac) ∧ W4.cell? ⟨w3.heap.size, 6, none⟩ = some (.slice q.s X.se.length q.sc) ∧ W4.cell? ⟨w3.heap.size, 7, none⟩ = some (.slice q.o X.oo.length q.oc) := ⟨P7.cell rfl, P7.cell rfl, P7.cell rfl, P7.cell rfl, P7.cell rfl, P7.cell rfl, P7.cell rfl, P7.cell rfl⟩
      clear P7 c0x
      go_wp2_with fail
      refine cU.mono ?_
      rintro e w5 ⟨rfl, k5⟩
      obtain ⟨W6, HW6⟩ : ∃ W6, Hid (W6 = w5.alloc (.cells #[.int .i64 hv.c0, .int .i64 j, .int .i64 hv.c2, .int .i64 hv.c3, .int .i64 hv.c4, .int .i64 hv.c5, .int .i64 0, .int .i64 hv.c7, .int .i64 hv.c8, .int .i64 hv.c9] 54)) := ⟨_, rfl⟩
      have k6 : Below w5.heap.size w5 W6 := by rw [HW6.out]; exact (Below.refl _ _).alloc (Nat.le_refl _) _
      have HU : Hid (Blk W6 w5.heap.size #[.int .i64 hv.c0, .int .i64 j, .int .i64 hv.c2, .int .i64 hv.c3, .int .i64 hv.c4, .int .i64 hv.c5, .int .i64 0, .int .i64 hv.c7, .int .i64 hv.c8, .int .i64 hv.c9] 54) := by show Blk _ _ _ _; rw [HW6.out]; exact Blk.new w5 _ _
      have L4 : Below W4.heap.size W4 W6 := k5.trans (k6.mono k5.size)
      have L2 : Below W2.heap.size W2 W6 := HK4.out.trans (L4.mono HK4.out.size)
      have keep : ∀ w', Below W6.heap.size W6 w' → w'.cell? ⟨w1.heap.size, 0, none⟩ = some (.int .i64 x.t) ∧ w'.cell? ⟨w1.heap.size, 1, none⟩ = some (.int .i64 x.s) ∧ w'.cell? ⟨w1.heap.size, 2, none⟩ = some (.slice p.u x.us.length p.uc) ∧ w'.cell? ⟨w1.heap.size, 3, none⟩ = some (.slice p.f x.fs.length p.fc) ∧ w'.cell? ⟨w1.heap.size, 4, none⟩ = some (.slice p.a x.fa.length p.ac) ∧ w'.cell? ⟨w1.heap.size, 5, none⟩ = some (.slice p.s x.se.length p.sc) ∧ w'.cell? ⟨w1.heap.size, 6, none⟩ = some (.slice p.o x.oo.length p.oc) ∧ w'.cell? ⟨w3.heap.size, 0, none⟩ = some (.int .i64 0) ∧ w'.cell? ⟨w3.heap.size, 1, none⟩ = some (.int .i64 X.t) ∧ w'.cell? ⟨w3.heap.size, 2, none⟩ = some (.int .i64 X.s) ∧ w'.cell? ⟨w3.heap.size, 3, none⟩ = some (.slice q.u X.us.length q.uc) ∧ w'.cell? ⟨w3.heap.size, 4, none⟩ = some (.slice q.f X.fs.length q.fc) ∧ w'.cell? ⟨w3.heap.size, 5, none⟩ = some (.slice q.a X.fa.length q.ac) ∧ w'.cell? ⟨w3.heap.size, 6, none⟩ = some (.slice q.s X.se.length q.sc) ∧ w'.cell? ⟨w3.heap.size, 7, none⟩ = some (.slice q.o X.oo.length q.oc) ∧ w'.cell? ⟨w5.heap.size, 1, none⟩ = some (.int .i64 j) ∧ w'.cell? ⟨w5.heap.size, 6, none⟩ = some (.int .i64 0) ∧ w1.heap.size < w'.heap.size ∧ w3.heap.size < w'.heap.size ∧ w5.heap.size < w'.heap.size := fun w' h => by
        have h2 := L2.trans (h.mono L2.size)
        have h4 := L4.trans (h.mono L4.size)
        obtain ⟨a0, a1, a2, a3, a4, a5, a6, al⟩ := (HX.out.below h2).c7
        have P7 := HP.out.below h4
        have Q7 := HU.out.below h
        exact ⟨a0, a1, a2, a3, a4, a5, a6, P7.cell rfl, P7.cell rfl, P7.cell rfl, P7.cell rfl, P7.cell rfl, P7.cell rfl, P7.cell rfl, P7.cell rfl, Q7.cell rfl, Q7.cell rfl, al, P7.lt, Q7.lt⟩
      clear c1 c2 c3 c4 c5 c6 c7 cl c0 cU k5 k6
      obtain ⟨a0, a1, a2, a3, a4, a5, a6, c0, c1, c2, c3, c4, c5, c6, c7, u1, u6, al, cl, ul⟩ := keep _ (Below.refl _ _)
      have Bx : Below W6.heap.size W6 W6 := Below.refl _ _
      go_upto_region 8 with fail
      rw [← HW6.out]
      go_wp2_with fail
      go_loopw [9] (fun iv wr => ∃ k : Nat, k ≤ x.us.length ∧ iv = .int .i64 k ∧ Below W6.heap.size W6 wr) (fun iv _ => x.us.length - (intOf iv).toNat)
      case atStart => exact ⟨0, Nat.zero_le _, rfl, Bx⟩
      case round =>
        clear a0 a1 a2 a3 a4 a5 a6 c0 c1 c2 c3 c4 c5 c6 c7 u1 u6 al cl ul
        obtain ⟨k, hk, rfl, Br⟩ := hrel
        obtain ⟨a0, a1, a2, a3, a4, a5, a6, c0, c1, c2, c3, c4, c5, c6, c7, u1, u6, al, cl, ul⟩ := keep _ Br
        by_cases hlt : k < x.us.length
        · have hlt' : (k : Int) < (x.us.length : Int) := by omega
          have hltX : (k : Int) < (X.us.length : Int) := by rw [Hlen.out]; omega
          have Hlt : Hid (k < x.us.length) := hlt
          obtain ⟨y, hy⟩ : ∃ y, x.us[k]? = some y := ⟨_, List.getElem?_eq_getElem hlt⟩
          obtain ⟨g, off, hpu, hg, hat⟩ := (HO.out.later (L2.trans (Br.mono L2.size))).in.u.arg.at hy
          obtain ⟨x0, x1, x2, x3, x4, x5, x6, x7, x8, x9, xl⟩ := hat.one hg hy
          rw [hpu] at a2
          clear hat
          cases hq : y.c0 == id
          · have hq' := bne_of hq
            have hyX := Hoth.out k y hy (by simpa using hq)
            obtain ⟨gX, oX, hqu, hgX, haX⟩ := (HO4.out.later (L4.trans (Br.mono L4.size))).in.u.arg.at hyX
            obtain ⟨z0, z1, z2, z3, z4, z5, z6, z7, z8, z9, zl⟩ := haX.one hgX hyX
            rw [hqu] at c3
            have n6 := fun w => neqU_sameG y w
            clear haX hyX hy
            go_wp2_with fail
            go_quiet (fail)
            go_wp2_with fail
            go_roundw
            case rel => exact ⟨k + 1, by have := Hlt.out; omega, by go_num, Br.trans ((below_drewN _ _).mono Br.size)⟩
            case measure => have := Hlt.out; simp [intOf]; omega
          · have hq' : (y.c0 != id) = false := by simp only [bne, hq]; rfl
            clear hy
            go_wp2_with fail
            go_quiet (fail)
            go_wp2_with fail
            go_roundw
            case rel => exact ⟨k + 1, by have := Hlt.out; omega, by go_num, Br.trans ((below_drewN _ _).mono Br.size)⟩
            case measure => have := Hlt.out; simp [intOf]; omega
        · have hke : (k : Int) = (x.us.length : Int) := by omega
          obtain rfl : k = x.us.length := by omega
          have Bc : Below W6.heap.size W6 wr.drew := Br.trans ((Below.refl _ _).drew.mono Br.size)
          have cF := fun W' (h : Below W6.heap.size W6 W') => implWorldFault q X (HO4.out.in.o1) (HO4.out.in.o2) W' (HO4.out.later (L4.trans (h.mono L4.size))).in.arg
          rw [Hwf.out] at cF
          have cTX := fun W' (h : Below W6.heap.size W6 W') => implTotalOf q X W' (HO4.out.later (L4.trans (h.mono L4.size))).in
          have cTx := fun W' (h : Below W6.heap.size W6 W') => implTotalOf p x W' (HO.out.later (L2.trans (h.mono L2.size))).in
          rw [htX.out] at cTX
          rw [htx.out] at cTx
          have cOX := fun W' (h : Below W6.heap.size W6 W') => implOwnedBy q.u X.us.length q.uc q.f X.fs.length q.fc X.us X.fs j rfl rfl W' (HO4.out.later (L4.trans (h.mono L4.size))).in.u.arg (HO4.out.later (L4.trans (h.mono L4.size))).in.f.arg
          have cOx := fun W' (h : Below W6.heap.size W6 W') => implOwnedBy p.u x.us.length p.uc p.f x.fs.length p.fc x.us x.fs j rfl rfl W' (HO.out.later (L2.trans (h.mono L2.size))).in.u.arg (HO.out.later (L2.trans (h.mono L2.size))).in.f.arg
          have nT : (totF x == totF x) = true := by simp
          have nj : (j == j) = true := by simp
          have nW : IntKind.i64.wrap ((n : Int) + 1) = (n : Int) + 1 := wrapS (by omega) (by omega)
          have nE : ((m1 : Int) == (n : Int) + 1) = true := by rw [nm]; simp
          generalize totF x = TT at cTX cTx nT
          generalize wf hasI X = P1 at cTX
          generalize wf hasI x = P2 at cTx
          generalize owC X.us X.fs j = P3 at cOX
          generalize owC x.us x.fs j = P4 at cOx
          clear nm hlt
          go_upto_region 15 with fail
          go_region_held3 (fun w' => w'.cell? ⟨w1.heap.size, 0, none⟩ = some (.int .i64 x.t) ∧ w'.cell? ⟨w1.heap.size, 1, none⟩ = some (.int .i64 x.s) ∧ w'.cell? ⟨w1.heap.size, 2, none⟩ = some (.slice p.u x.us.length p.uc) ∧ w'.cell? ⟨w1.heap.size, 3, none⟩ = some (.slice p.f x.fs.length p.fc) ∧ w'.cell? ⟨w1.heap.size, 4, none⟩ = some (.slice p.a x.fa.length p.ac) ∧ w'.cell? ⟨w1.heap.size, 5, none⟩ = some (.slice p.s x.se.length p.sc) ∧ w'.cell? ⟨w1.heap.size, 6, none⟩ = some (.slice p.o x.oo.length p.oc) ∧ w'.cell? ⟨w3.heap.size, 0, none⟩ = some (.int .i64 0) ∧ w'.cell? ⟨w3.heap.size, 1, none⟩ = some (.int .i64 X.t) ∧ w'.cell? ⟨w3.heap.size, 2, none⟩ = some (.int .i64 X.s) ∧ w'.cell? ⟨w3.heap.size, 3, none⟩ = some (.slice q.u X.us.length q.uc) ∧ w'.cell? ⟨w3.heap.size, 4, none⟩ = some (.slice q.f X.fs.length q.fc) ∧ w'.cell? ⟨w3.heap.size, 5, none⟩ = some (.slice q.a X.fa.length q.ac) ∧ w'.cell? ⟨w3.heap.size, 6, none⟩ = some (.slice q.s X.se.length q.sc) ∧ w'.cell? ⟨w3.heap.size, 7, none⟩ = some (.slice q.o X.oo.length q.oc) ∧ w'.cell? ⟨w5.heap.size, 1, none⟩ = some (.int .i64 j) ∧ w'.cell? ⟨w5.heap.size, 6, none⟩ = some (.int .i64 0)) (first | exact (by obtain ⟨a0, a1, a2, a3, a4, a5, a6, c0, c1, c2, c3, c4, c5, c6, c7, u1, u6, _, _, _⟩ := keep _ Bc; exact ⟨a0, a1, a2, a3, a4, a5, a6, c0, c1, c2, c3, c4, c5, c6, c7, u1, u6⟩) | go_keep) (first
            | (go_at_call 17; refine (cF _ Bc).mono ?_; rintro e wn ⟨rfl, kn⟩; have Bc := Bc.trans (kn.mono Bc.size); obtain ⟨a0, a1, a2, a3, a4, a5, a6, c0, c1, c2, c3, c4, c5, c6, c7, u1, u6, al, cl, ul⟩ := keep _ Bc)
            | (go_at_call 33; with_reducible refine (cTX _ Bc).mono ?_; rintro e wn ⟨rfl, kn⟩; have Bc := Bc.trans (kn.mono Bc.size); obtain ⟨a0, a1, a2, a3, a4, a5, a6, c0, c1, c2, c3, c4, c5, c6, c7, u1, u6, al, cl, ul⟩ := keep _ Bc)
            | (go_at_call 33; with_reducible refine (cTx _ Bc).mono ?_; rintro e wn ⟨rfl, kn⟩; have Bc := Bc.trans (kn.mono Bc.size); obtain ⟨a0, a1, a2, a3, a4, a5, a6, c0, c1, c2, c3, c4, c5, c6, c7, u1, u6, al, cl, ul⟩ := keep _ Bc)
            | (go_at_call 34; with_reducible refine (cOX _ Bc).mono ?_; rintro e wn ⟨v, rfl, Sv, kn⟩; obtain ⟨pv, cv, rfl⟩ := Sv.form; rw [HoX.out]; have Bc := Bc.trans (kn.mono Bc.size); obtain ⟨a0, a1, a2, a3, a4, a5, a6, c0, c1, c2, c3, c4, c5, c6, c7, u1, u6, al, cl, ul⟩ := keep _ Bc)
            | (go_at_call 34; with_reducible refine (cOx _ Bc).mono ?_; rintro e wn ⟨v, rfl, Sv, kn⟩; obtain ⟨pv', cv', rfl⟩ := Sv.form; rw [Hox.out]; have Bc := Bc.trans (kn.mono Bc.size); obtain ⟨a0, a1, a2, a3, a4, a5, a6, c0, c1, c2, c3, c4, c5, c6, c7, u1, u6, al, cl, ul⟩ := keep _ Bc))
          all_goals
            go_wp2_with fail
            go_ret
            exact ⟨rfl, HB2.out.trans ((L2.trans (Bc.mono L2.size)).mono HB2.out.size)⟩
  · go_enter Tryz.func5, Tryz.ntmps5
    go_wp2_with fail
    refine (lwBig_yes _ a len cap (by omega)).mono ?_
    rintro e w' ⟨rfl, rfl⟩
    go_wp2
    go_ret
    exact ⟨rfl, Below.refl _ _⟩
end Go.Proofs.YtaeeahgibifkjaaGreat
end

/- LawGiftRow -/
/- The walk of the law FnGifts, at a slice of bytes that came in. No condition. -/
section
namespace Go.Proofs.YtaeeahgibifkjaaGreat
open Go.ChangeShapes Go.WideShapes Go.ChangeAt Go.RowKit
theorem walk_fnGifts (a0 : Option Addr) (len0 cap0 : Nat) (z0 : List Int) (w : World) (w0 : IsRow .u8 w a0 len0 cap0 z0) :
    Calls Tryz.prog 5 #[.slice a0 len0 cap0] w fun e w' => e = .returned (.bool true) ∧ Below w.heap.size w w' := gifts_walk a0 len0 cap0 w (Bytes.of_row w0)
end Go.Proofs.YtaeeahgibifkjaaGreat
end
