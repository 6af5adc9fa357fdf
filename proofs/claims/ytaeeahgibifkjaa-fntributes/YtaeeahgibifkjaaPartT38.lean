/- Texts of mine put together (a claim holds at most 60 files): LawTrib, LawTribRow. -/
import Derived.Test.YtaeeahgibifkjaaPartT35
import Derived.Test.YtaeeahgibifkjaaPartT36
import Derived.Test.YtaeeahgibifkjaaPartT37
import Derived.Test.YtaeeahgibifkjaaPartT01
import Derived.Deep.RegionHeld3

/- LawTrib -/
/- The walk of the law FnTributes. No condition. -/
section
namespace Go.Proofs.Ytaeeahgibifkjaa
open Go.ChangeShapes Go.WideShapes Go.ChangeAt Go.RowKit
open Bd
set_option linter.unusedVariables false

set_option maxRecDepth 20000 in
set_option maxHeartbeats 16000000 in
theorem tributes_walk (a : Option Addr) (len cap : Nat) (W : World) (hb : Bytes W a len W.heap.size) :
    Calls Try.prog 3 #[.slice a len cap] W fun e w' => e = .returned (.bool true) ∧ Below W.heap.size W w' := by
  by_cases hl : len ≤ 1048576
  · have cB := fun w => lwBig_no w a len cap hl
    have f0 : ∀ (x y : Value) (w : World), (Instr.field 40 (.agg #[x, y]) 0).run Try.prog w = .ok x w := fun _ _ _ => by kernel_rfl
    have f1 : ∀ (x y : Value) (w : World), (Instr.field 40 (.agg #[x, y]) 1).run Try.prog w = .ok y w := fun _ _ _ => by kernel_rfl
    have g0 : ∀ (v0 v1 v2 v3 v4 v5 v6 v7 : Value) (w : World), (Instr.field 36 (.agg #[v0, v1, v2, v3, v4, v5, v6, v7]) 0).run Try.prog w = .ok v0 w := fun _ _ _ _ _ _ _ _ _ => by kernel_rfl
    have g1 : ∀ (v0 v1 v2 v3 v4 v5 v6 v7 : Value) (w : World), (Instr.field 36 (.agg #[v0, v1, v2, v3, v4, v5, v6, v7]) 1).run Try.prog w = .ok (.agg #[v1, v2, v3, v4, v5, v6, v7]) w := fun _ _ _ _ _ _ _ _ _ => by kernel_rfl
    go_enter Try.func3, Try.ntmps3
    go_wp2_with (go_at_call 4; refine (cB _).mono ?_; rintro e w1 ⟨rfl, hw1⟩; obtain rfl := hw1.symm)
    refine (drawPayTribute_c W a len cap hb hl).mono ?_
    rintro e w1 ⟨p, x, i, j, n, rfl, O1, dw, k1⟩
    obtain ⟨W2, HW2⟩ : ∃ W2, Hid (W2 = w1.alloc (.cells (p.v x) 32)) := ⟨_, rfl⟩
    have k2 : Below w1.heap.size w1 W2 := by rw [HW2.out]; exact (Below.refl _ _).alloc (Nat.le_refl _) _
    have X2 : Blk W2 w1.heap.size (p.v x) 32 := by rw [HW2.out]; exact Blk.new w1 _ _
    have B2 := k1.trans (k2.mono k1.size)
    have O2 := O1.later k2
    have cI := implPayTribute p x W2 O2.in i j n
    have HB : Hid (Bytes W2 a len W2.heap.size) := hb.later B2
    have HX : Hid (Blk W2 w1.heap.size (p.v x) 32) := X2
    have HO : Hid (OwW W2 W.heap.size p x) := O2
    have HB2 : Hid (Below W.heap.size W W2) := B2
    have Hdw : Hid (DW x) := dw
    have eC := dw.payC i j n
    have eX := dw.payX i j n
    obtain ⟨a0, a1, a2, a3, a4, a5, a6, al⟩ := X2.c7
    clear O1 k1 k2 X2 B2 O2 dw hb cB
    have good : payC hasI x i j n = 0 → PayG hasI x i j n := pay_good
    obtain ⟨C, HC⟩ : ∃ C, Hid (C = payC hasI x i j n) := ⟨_, rfl⟩
    obtain ⟨X, HXX⟩ : ∃ X, Hid (X = payX hasI x i j n) := ⟨_, rfl⟩
    rw [← HC.out] at cI eC good
    rw [← HXX.out] at cI eX
    have HeC : Hid (payC hasS x i j n = C) := eC.symm
    have HeX : Hid (payX hasS x i j n = X) := eX.symm
    have Hgood : Hid (C = 0 → PayG hasI x i j n) := good
    clear eC eX good
    go_upto_region 4 with fail
    rw [← HW2.out]
    go_wp2_with fail
    refine cI.mono ?_
    rintro e w3 ⟨q, rfl, O3, k3⟩
    obtain ⟨W4, HW4⟩ : ∃ W4, Hid (W4 = w3.alloc (.cells (r8 C q X) 36)) := ⟨_, rfl⟩
    have k4 : Below w3.heap.size w3 W4 := by rw [HW4.out]; exact (Below.refl _ _).alloc (Nat.le_refl _) _
    have HP : Hid (Blk W4 w3.heap.size (r8 C q X) 36) := by show Blk _ _ _ _; rw [HW4.out]; exact Blk.new w3 _ _
    have K4 : Below W2.heap.size W2 W4 := k3.trans (k4.mono k3.size)
    have HO4 : Hid (OwW W4 W2.heap.size q X) := O3.later k4
    have HK4 : Hid (Below W2.heap.size W2 W4) := K4
    clear cI O3 k3 k4
    go_upto_region 5 with fail
    rw [← HW4.out]
    clear HW4 HW2 a0 a1 a2 a3 a4 a5 a6 al
    go_wp2_with fail
    refine (drawPursesOf_c W4 a len cap (HB.out.later K4) hl).mono ?_
    rintro e w5 ⟨p', y, rfl, O5, dy, k5⟩
    obtain ⟨W6, HW6⟩ : ∃ W6, Hid (W6 = w5.alloc (.cells (p'.v y) 32)) := ⟨_, rfl⟩
    have k6 : Below w5.heap.size w5 W6 := by rw [HW6.out]; exact (Below.refl _ _).alloc (Nat.le_refl _) _
    have Y6 : Blk W6 w5.heap.size (p'.v y) 32 := by rw [HW6.out]; exact Blk.new w5 _ _
    have K6 : Below W4.heap.size W4 W6 := k5.trans (k6.mono k5.size)
    have O6 := O5.later k6
    have ci := fun nn : Later W6 => implPursesOf p' y nn.at (O6.later nn.bel).in
    have cs := fun nn : Later W6 => specPursesOf p' y nn.at (O6.later nn.bel).in
    have eP : ppC hasS y = ppC hasI y := dy.wf.symm
    have eV : ppV hasS y = ppV hasI y := by unfold ppV; rw [dy.wf]
    rw [eP, eV] at cs
    have nC : (ppC hasI y != ppC hasI y) = false := by simp
    have nV : (ppV hasI y != ppV hasI y) = false := by simp
    generalize ppC hasI y = PC at ci cs nC
    generalize ppV hasI y = PV at ci cs nV
    have b0 := fun nn : Later W6 => Later.cell Y6.lt (Y6.cell (i := 0) rfl) nn
    have b1 := fun nn : Later W6 => Later.cell Y6.lt (Y6.cell (i := 1) rfl) nn
    have b2 := fun nn : Later W6 => Later.cell Y6.lt (Y6.cell (i := 2) rfl) nn
    have b3 := fun nn : Later W6 => Later.cell Y6.lt (Y6.cell (i := 3) rfl) nn
    have b4 := fun nn : Later W6 => Later.cell Y6.lt (Y6.cell (i := 4) rfl) nn
    have b5 := fun nn : Later W6 => Later.cell Y6.lt (Y6.cell (i := 5) rfl) nn
    have b6 := fun nn : Later W6 => Later.cell Y6.lt (Y6.cell (i := 6) rfl) nn
    clear O5 dy k5 k6 Y6 O6 eP eV
    go_upto_region 6 with fail
    rw [← HW6.out]
    clear HW6
    refine wp_region_later (by kernel_rfl) (by kernel_rfl) (fun hne => ?_)
    repeat (go_big_quiet_step ((first | (go_at_call 8; exact Later.call (ci _)) | (go_at_call 9; exact Later.call (cs _)))))
    refine wpQuiet_nil ?_
    rintro _ ⟨nn, rfl⟩
    have K7 := K6.trans (nn.bel.mono K6.size)
    have P7 := HP.out.below K7
    obtain ⟨w7, Hw7⟩ : ∃ v, Hid (v = nn.at) := ⟨_, rfl⟩
    rw [← Hw7.out] at K7 P7 ⊢
    have c0 : w7.cell? ⟨w3.heap.size, 0, none⟩ = some (.int .i64 C) := P7.cell (i := 0) rfl
    have cl := P7.lt
    clear b0 b1 b2 b3 b4 b5 b6 ci cs nC nV hne K6
    have K7' : Below W2.heap.size W2 w7 := HK4.out.trans (K7.mono HK4.out.size)
    have sP := fun W' (h : Below W2.heap.size W2 W') => specPayTribute p x W' (HO.out.later h).in i j n
    simp only [HeC.out, HeX.out] at sP
    cases e2 : C == 0
    · have n7 : (C != 0) = true := by simp only [bne, e2]; rfl
      have nCC : (C == C) = true := by simp
      have keep : ∀ w', Below W2.heap.size W2 w' → Below W4.heap.size W4 w' → w'.cell? ⟨w1.heap.size, 0, none⟩ = some (.int .i64 x.t) ∧ w'.cell? ⟨w1.heap.size, 1, none⟩ = some (.int .i64 x.s) ∧ w'.cell? ⟨w1.heap.size, 2, none⟩ = some (.slice p.u x.us.length p.uc) ∧ w'.cell? ⟨w1.heap.size, 3, none⟩ = some (.slice p.f x.fs.length p.fc) ∧ w'.cell? ⟨w1.heap.size, 4, none⟩ = some (.slice p.a x.fa.length p.ac) ∧ w'.cell? ⟨w1.heap.size, 5, none⟩ = some (.slice p.s x.se.length p.sc) ∧ w'.cell? ⟨w1.heap.size, 6, none⟩ = some (.slice p.o x.oo.length p.oc) ∧ w'.cell? ⟨w3.heap.size, 0, none⟩ = some (.int .i64 C) ∧ w1.heap.size < w'.heap.size ∧ w3.heap.size < w'.heap.size := fun w' h h' => by
        obtain ⟨a0, a1, a2, a3, a4, a5, a6, al⟩ := (HX.out.below h).c7
        have cc := (HP.out.below h').cell (i := 0) rfl
        exact ⟨a0, a1, a2, a3, a4, a5, a6, cc, al, (HP.out.below h').lt⟩
      obtain ⟨a0, a1, a2, a3, a4, a5, a6, c0, al, cl⟩ := keep _ K7' K7
      have Bd : Below W2.heap.size W2 w7.drew := K7'.trans ((Below.refl _ _).drew.mono K7'.size)
      have Be : Below W4.heap.size W4 w7.drew := K7.trans ((Below.refl _ _).drew.mono K7.size)
      clear P7
      go_upto_region 9 with fail
      go_region_held3 (fun w' => w'.cell? ⟨w1.heap.size, 0, none⟩ = some (.int .i64 x.t) ∧ w'.cell? ⟨w1.heap.size, 1, none⟩ = some (.int .i64 x.s) ∧ w'.cell? ⟨w1.heap.size, 2, none⟩ = some (.slice p.u x.us.length p.uc) ∧ w'.cell? ⟨w1.heap.size, 3, none⟩ = some (.slice p.f x.fs.length p.fc) ∧ w'.cell? ⟨w1.heap.size, 4, none⟩ = some (.slice p.a x.fa.length p.ac) ∧ w'.cell? ⟨w1.heap.size, 5, none⟩ = some (.slice p.s x.se.length p.sc) ∧ w'.cell? ⟨w1.heap.size, 6, none⟩ = some (.slice p.o x.oo.length p.oc) ∧ w'.cell? ⟨w3.heap.size, 0, none⟩ = some (.int .i64 C)) (first | exact (by obtain ⟨a0, a1, a2, a3, a4, a5, a6, c0, _, _⟩ := keep _ Bd Be; exact ⟨a0, a1, a2, a3, a4, a5, a6, c0⟩) | go_keep) (first
        | (go_at_call 10; refine (sP _ Bd).mono ?_; rintro e wn ⟨qn, rfl, _, kn⟩; have Bd := Bd.trans (kn.mono Bd.size); have Be := Be.trans (kn.mono Be.size); obtain ⟨a0, a1, a2, a3, a4, a5, a6, c0, al, cl⟩ := keep _ Bd Be))
      all_goals
        go_wp2_with fail
        go_ret
        exact ⟨rfl, HB2.out.trans (Bd.mono HB2.out.size)⟩
    · obtain rfl : C = 0 := by simpa using e2
      obtain ⟨hwf, hsum, hback, hsame⟩ := Hgood.out rfl
      rw [← HXX.out] at hwf hsum hback hsame
      have cI := implPayTribute q X w7 (HO4.out.later K7).in j i n
      rw [hback, hsame] at cI
      have HQ : Hid (purS X.fa = purS x.fa) := hsum
      have Hwf : Hid (wf hasI X = 0) := hwf
      clear hback hsame hsum hwf e2
      obtain ⟨c0x, c1, c2, c3, c4, c5, c6, c7⟩ : w7.cell? ⟨w3.heap.size, 0, none⟩ = some (.int .i64 0) ∧ w7.cell? ⟨w3.heap.size, 1, none⟩ = some (.int .i64 X.t) ∧ w7.cell? ⟨w3.heap.size, 2, none⟩ = some (.int .i64 X.s) ∧ w7.cell? ⟨w3.heap.size, 3, none⟩ = some (.slice q.u X.us.length q.uc) ∧ w7.cell? ⟨w3.heap.size, 4, none⟩ = some (.slice q.f X.fs.length q.fc) ∧ w7.cell? ⟨w3.heap.size, 5, none⟩ = some (.slice q.a X.fa.length q.ac) ∧ w7.cell? ⟨w3.heap.size, 6, none⟩ = some (.slice q.s X.se.length q.sc) ∧ w7.cell? ⟨w3.heap.size, 7, none⟩ = some (.slice q.o X.oo.length q.oc) := ⟨P7.cell rfl, P7.cell rfl, P7.cell rfl, P7.cell rfl, P7.cell rfl, P7.cell rfl, P7.cell rfl, P7.cell rfl⟩
      clear P7 c0x
      go_wp2_with fail
      refine cI.mono ?_
      rintro e w9 ⟨q2, rfl, O9, k9⟩
      obtain ⟨W10, HW10⟩ : ∃ W10, Hid (W10 = w9.alloc (.cells (r8 0 q2 x) 36)) := ⟨_, rfl⟩
      have k10 : Below w9.heap.size w9 W10 := by rw [HW10.out]; exact (Below.refl _ _).alloc (Nat.le_refl _) _
      have HBk : Hid (Blk W10 w9.heap.size (r8 0 q2 x) 36) := by show Blk _ _ _ _; rw [HW10.out]; exact Blk.new w9 _ _
      have HOb : Hid (OwW W10 w7.heap.size q2 x) := O9.later k10
      have K10 : Below w7.heap.size w7 W10 := k9.trans (k10.mono k9.size)
      have L2 : Below W2.heap.size W2 W10 := K7'.trans (K10.mono K7'.size)
      have L4 : Below W4.heap.size W4 W10 := K7.trans (K10.mono K7.size)
      have keep : ∀ w', Below W10.heap.size W10 w' → w'.cell? ⟨w1.heap.size, 0, none⟩ = some (.int .i64 x.t) ∧ w'.cell? ⟨w1.heap.size, 1, none⟩ = some (.int .i64 x.s) ∧ w'.cell? ⟨w1.heap.size, 2, none⟩ = some (.slice p.u x.us.length p.uc) ∧ w'.cell? ⟨w1.heap.size, 3, none⟩ = some (.slice p.f x.fs.length p.fc) ∧ w'.cell? ⟨w1.heap.size, 4, none⟩ = some (.slice p.a x.fa.length p.ac) ∧ w'.cell? ⟨w1.heap.size, 5, none⟩ = some (.slice p.s x.se.length p.sc) ∧ w'.cell? ⟨w1.heap.size, 6, none⟩ = some (.slice p.o x.oo.length p.oc) ∧ w'.cell? ⟨w3.heap.size, 0, none⟩ = some (.int .i64 0) ∧ w'.cell? ⟨w3.heap.size, 1, none⟩ = some (.int .i64 X.t) ∧ w'.cell? ⟨w3.heap.size, 2, none⟩ = some (.int .i64 X.s) ∧ w'.cell? ⟨w3.heap.size, 3, none⟩ = some (.slice q.u X.us.length q.uc) ∧ w'.cell? ⟨w3.heap.size, 4, none⟩ = some (.slice q.f X.fs.length q.fc) ∧ w'.cell? ⟨w3.heap.size, 5, none⟩ = some (.slice q.a X.fa.length q.ac) ∧ w'.cell? ⟨w3.heap.size, 6, none⟩ = some (.slice q.s X.se.length q.sc) ∧ w'.cell? ⟨w3.heap.size, 7, none⟩ = some (.slice q.o X.oo.length q.oc) ∧ w'.cell? ⟨w9.heap.size, 0, none⟩ = some (.int .i64 0) ∧ w'.cell? ⟨w9.heap.size, 1, none⟩ = some (.int .i64 x.t) ∧ w'.cell? ⟨w9.heap.size, 2, none⟩ = some (.int .i64 x.s) ∧ w'.cell? ⟨w9.heap.size, 3, none⟩ = some (.slice q2.u x.us.length q2.uc) ∧ w'.cell? ⟨w9.heap.size, 4, none⟩ = some (.slice q2.f x.fs.length q2.fc) ∧ w'.cell? ⟨w9.heap.size, 5, none⟩ = some (.slice q2.a x.fa.length q2.ac) ∧ w'.cell? ⟨w9.heap.size, 6, none⟩ = some (.slice q2.s x.se.length q2.sc) ∧ w'.cell? ⟨w9.heap.size, 7, none⟩ = some (.slice q2.o x.oo.length q2.oc) ∧ w1.heap.size < w'.heap.size ∧ w3.heap.size < w'.heap.size ∧ w9.heap.size < w'.heap.size := fun w' h => by
        have h2 := L2.trans (h.mono L2.size)
        have h4 := L4.trans (h.mono L4.size)
        obtain ⟨a0, a1, a2, a3, a4, a5, a6, al⟩ := (HX.out.below h2).c7
        have P7 := HP.out.below h4
        have Q7 := HBk.out.below h
        exact ⟨a0, a1, a2, a3, a4, a5, a6, P7.cell rfl, P7.cell rfl, P7.cell rfl, P7.cell rfl, P7.cell rfl, P7.cell rfl, P7.cell rfl, P7.cell rfl, Q7.cell rfl, Q7.cell rfl, Q7.cell rfl, Q7.cell rfl, Q7.cell rfl, Q7.cell rfl, Q7.cell rfl, Q7.cell rfl, al, P7.lt, Q7.lt⟩
      clear c1 c2 c3 c4 c5 c6 c7 cl c0 cI O9 k9 k10
      obtain ⟨a0, a1, a2, a3, a4, a5, a6, c0, c1, c2, c3, c4, c5, c6, c7, b0, b1, b2, b3, b4, b5, b6, b7, al, cl, bl⟩ := keep _ (Below.refl _ _)
      have Bc : Below W10.heap.size W10 W10.drew := (Below.refl _ _).drew
      have cF := fun W' (h : Below W10.heap.size W10 W') => implWorldFault q X (HO4.out.in.o1) (HO4.out.in.o2) W' (HO4.out.later (L4.trans (h.mono L4.size))).in.arg
      rw [Hwf.out] at cF
      have vX : ppV hasI X = purS x.fa := by unfold ppV; rw [Hwf.out, ← HQ.out]; rfl
      have vx : ppV hasI x = purS x.fa := by
        have hz : payC hasI x i j n = 0 := HC.out.symm
        have := (prF_zero.1 (payC_zero.1 hz).1).1
        unfold ppV; rw [this]; rfl
      have cPX := fun W' (h : Below W10.heap.size W10 W') => implPursesOf q X W' (HO4.out.later (L4.trans (h.mono L4.size))).in
      have cPx := fun W' (h : Below W10.heap.size W10 W') => implPursesOf p x W' (HO.out.later (L2.trans (h.mono L2.size))).in
      rw [vX] at cPX
      rw [vx] at cPx
      have szx : x.us.length ≤ 1000 ∧ x.fs.length ≤ 1000 ∧ x.fa.length ≤ 1000 ∧ x.se.length ≤ 1000 ∧ x.oo.length ≤ 1000 := by
        have h1 := Hdw.out
        have := h1.u; have := h1.f; have := h1.a.l; have := h1.s; have := h1.o
        omega
      have szX : X.us.length ≤ 1000 ∧ X.fs.length ≤ 1000 ∧ X.fa.length ≤ 1000 ∧ X.se.length ≤ 1000 ∧ X.oo.length ≤ 1000 := by
        have g := (gdW_iff hasI X).1 Hwf.out
        have h1 := Gd8 g.b; have := g.a4; have := g.s6; have := g.o6
        omega
      have s1 := fun W' (h : Below W10.heap.size W10 W') => sameW_in q2 p x W' (HOb.out.later h).in.arg (HO.out.later (L2.trans (h.mono L2.size))).in.arg szx.1 szx.2.1 szx.2.2.1 szx.2.2.2.1 szx.2.2.2.2
      have s2 := fun (q3 : WP) W' (O3 : ArgW W' q3 X) (h : Below W10.heap.size W10 W') => sameW_in q q3 X W' (HO4.out.later (L4.trans (h.mono L4.size))).in.arg O3 szX.1 szX.2.1 szX.2.2.1 szX.2.2.2.1 szX.2.2.2.2
      have sQ := fun W' (h : Below W10.heap.size W10 W') => sP W' (L2.trans (h.mono L2.size))
      have nS : (purS x.fa == purS x.fa) = true := by simp
      generalize purS x.fa = SS at cPX cPx nS
      generalize ppC hasI X = P1 at cPX
      generalize ppC hasI x = P2 at cPx
      clear vX vx szx szX sP
      go_upto_region 11 with fail
      rw [← HW10.out]
      go_region_held3 (fun w' => w'.cell? ⟨w1.heap.size, 0, none⟩ = some (.int .i64 x.t) ∧ w'.cell? ⟨w1.heap.size, 1, none⟩ = some (.int .i64 x.s) ∧ w'.cell? ⟨w1.heap.size, 2, none⟩ = some (.slice p.u x.us.length p.uc) ∧ w'.cell? ⟨w1.heap.size, 3, none⟩ = some (.slice p.f x.fs.length p.fc) ∧ w'.cell? ⟨w1.heap.size, 4, none⟩ = some (.slice p.a x.fa.length p.ac) ∧ w'.cell? ⟨w1.heap.size, 5, none⟩ = some (.slice p.s x.se.length p.sc) ∧ w'.cell? ⟨w1.heap.size, 6, none⟩ = some (.slice p.o x.oo.length p.oc) ∧ w'.cell? ⟨w3.heap.size, 0, none⟩ = some (.int .i64 0) ∧ w'.cell? ⟨w3.heap.size, 1, none⟩ = some (.int .i64 X.t) ∧ w'.cell? ⟨w3.heap.size, 2, none⟩ = some (.int .i64 X.s) ∧ w'.cell? ⟨w3.heap.size, 3, none⟩ = some (.slice q.u X.us.length q.uc) ∧ w'.cell? ⟨w3.heap.size, 4, none⟩ = some (.slice q.f X.fs.length q.fc) ∧ w'.cell? ⟨w3.heap.size, 5, none⟩ = some (.slice q.a X.fa.length q.ac) ∧ w'.cell? ⟨w3.heap.size, 6, none⟩ = some (.slice q.s X.se.length q.sc) ∧ w'.cell? ⟨w3.heap.size, 7, none⟩ = some (.slice q.o X.oo.length q.oc) ∧ w'.cell? ⟨w9.heap.size, 0, none⟩ = some (.int .i64 0) ∧ w'.cell? ⟨w9.heap.size, 1, none⟩ = some (.int .i64 x.t) ∧ w'.cell? ⟨w9.heap.size, 2, none⟩ = some (.int .i64 x.s) ∧ w'.cell? ⟨w9.heap.size, 3, none⟩ = some (.slice q2.u x.us.length q2.uc) ∧ w'.cell? ⟨w9.heap.size, 4, none⟩ = some (.slice q2.f x.fs.length q2.fc) ∧ w'.cell? ⟨w9.heap.size, 5, none⟩ = some (.slice q2.a x.fa.length q2.ac) ∧ w'.cell? ⟨w9.heap.size, 6, none⟩ = some (.slice q2.s x.se.length q2.sc) ∧ w'.cell? ⟨w9.heap.size, 7, none⟩ = some (.slice q2.o x.oo.length q2.oc)) (first | exact (by obtain ⟨a0, a1, a2, a3, a4, a5, a6, c0, c1, c2, c3, c4, c5, c6, c7, b0, b1, b2, b3, b4, b5, b6, b7, _, _, _⟩ := keep _ Bc; exact ⟨a0, a1, a2, a3, a4, a5, a6, c0, c1, c2, c3, c4, c5, c6, c7, b0, b1, b2, b3, b4, b5, b6, b7⟩) | go_keep) (first
        | (go_at_call 11; refine (cF _ Bc).mono ?_; rintro e wn ⟨rfl, kn⟩; have Bc := Bc.trans (kn.mono Bc.size); obtain ⟨a0, a1, a2, a3, a4, a5, a6, c0, c1, c2, c3, c4, c5, c6, c7, b0, b1, b2, b3, b4, b5, b6, b7, al, cl, bl⟩ := keep _ Bc)
        | (go_at_call 8; with_reducible refine (cPX _ Bc).mono ?_; rintro e wn ⟨rfl, kn⟩; have Bc := Bc.trans (kn.mono Bc.size); obtain ⟨a0, a1, a2, a3, a4, a5, a6, c0, c1, c2, c3, c4, c5, c6, c7, b0, b1, b2, b3, b4, b5, b6, b7, al, cl, bl⟩ := keep _ Bc)
        | (go_at_call 8; with_reducible refine (cPx _ Bc).mono ?_; rintro e wn ⟨rfl, kn⟩; have Bc := Bc.trans (kn.mono Bc.size); obtain ⟨a0, a1, a2, a3, a4, a5, a6, c0, c1, c2, c3, c4, c5, c6, c7, b0, b1, b2, b3, b4, b5, b6, b7, al, cl, bl⟩ := keep _ Bc)
        | (go_at_call 12; with_reducible refine (s1 _ Bc).mono ?_; rintro e wn ⟨rfl, kn⟩; have Bc := Bc.trans (kn.mono Bc.size); obtain ⟨a0, a1, a2, a3, a4, a5, a6, c0, c1, c2, c3, c4, c5, c6, c7, b0, b1, b2, b3, b4, b5, b6, b7, al, cl, bl⟩ := keep _ Bc)
        | (go_at_call 10; refine (sQ _ Bc).mono ?_; rintro e wn ⟨q3, rfl, On, kn⟩; have O3 := On.in.arg; have Bc := Bc.trans (kn.mono Bc.size); obtain ⟨a0, a1, a2, a3, a4, a5, a6, c0, c1, c2, c3, c4, c5, c6, c7, b0, b1, b2, b3, b4, b5, b6, b7, al, cl, bl⟩ := keep _ Bc)
        | (go_at_call 12; refine (s2 q3 _ O3 Bc).mono ?_; rintro e wn ⟨rfl, kn⟩; have Bc := Bc.trans (kn.mono Bc.size); obtain ⟨a0, a1, a2, a3, a4, a5, a6, c0, c1, c2, c3, c4, c5, c6, c7, b0, b1, b2, b3, b4, b5, b6, b7, al, cl, bl⟩ := keep _ Bc))
      all_goals
        go_wp2_with fail
        go_ret
        exact ⟨rfl, HB2.out.trans ((L2.trans (Bc.mono L2.size)).mono HB2.out.size)⟩
  · go_enter Try.func3, Try.ntmps3
    go_wp2_with fail
    refine (lwBig_yes _ a len cap (by omega)).mono ?_
    rintro e w' ⟨rfl, rfl⟩
    go_wp2
    go_ret
    exact ⟨rfl, Below.refl _ _⟩
end Go.Proofs.Ytaeeahgibifkjaa
end

/- LawTribRow -/
/- The walk of the law FnTributes, at a slice of bytes that came in. No condition. -/
section
namespace Go.Proofs.Ytaeeahgibifkjaa
open Go.ChangeShapes Go.WideShapes Go.ChangeAt Go.RowKit
theorem walk_fnTributes (a0 : Option Addr) (len0 cap0 : Nat) (z0 : List Int) (w : World) (w0 : IsRow .u8 w a0 len0 cap0 z0) :
    Calls Try.prog 3 #[.slice a0 len0 cap0] w fun e w' => e = .returned (.bool true) ∧ Below w.heap.size w w' := tributes_walk a0 len0 cap0 w (Bytes.of_row w0)
end Go.Proofs.Ytaeeahgibifkjaa
end
