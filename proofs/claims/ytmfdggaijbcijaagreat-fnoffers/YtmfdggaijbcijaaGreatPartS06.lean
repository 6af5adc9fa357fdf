/- Texts of mine put together (a claim holds at most 60 files): LawOffers, LawOffersRow. -/
import Derived.Test.YtmfdggaijbcijaaGreatPartS02
import Derived.Test.YtmfdggaijbcijaaGreatPartQ39
import Derived.Test.YtmfdggaijbcijaaGreatPartQ35
import Derived.Test.YtmfdggaijbcijaaGreatPartS03
import Derived.Test.YtmfdggaijbcijaaGreatPartS04
import Derived.Test.YtmfdggaijbcijaaGreatPartQ45
import Derived.Test.YtmfdggaijbcijaaGreatPartQ46
import Derived.Test.YtmfdggaijbcijaaGreatPartQ00
import Derived.Test.YtmfdggaijbcijaaGreatPartS05
import Derived.Deep.RegionHeld3

/- LawOffers -/
/- The walk of the law FnOffers. No condition. -/
section
namespace Go.Proofs.YtmfdggaijbcijaaGreat
open Go.ChangeShapes Go.WideShapes Go.ChangeAt Go.RowKit
open Bd
set_option linter.unusedVariables false

set_option maxRecDepth 20000 in
set_option maxHeartbeats 16000000 in
theorem offers_walk (a : Option Addr) (len cap : Nat) (W : World) (hb : Bytes W a len W.heap.size) :
    Calls Tryz.prog 4 #[.slice a len cap] W fun e w' => e = .returned (.bool true) ∧ Below W.heap.size W w' := by
  by_cases hl : len ≤ 1048576
  · have cB0 := fun w => lwBig_no w a len cap hl
    have g0 : ∀ (v0 v1 v2 v3 v4 v5 v6 v7 : Value) (w : World), (Instr.field 36 (.agg #[v0, v1, v2, v3, v4, v5, v6, v7]) 0).run Tryz.prog w = .ok v0 w := fun _ _ _ _ _ _ _ _ _ => by kernel_rfl
    have g1 : ∀ (v0 v1 v2 v3 v4 v5 v6 v7 : Value) (w : World), (Instr.field 36 (.agg #[v0, v1, v2, v3, v4, v5, v6, v7]) 1).run Tryz.prog w = .ok (.agg #[v1, v2, v3, v4, v5, v6, v7]) w := fun _ _ _ _ _ _ _ _ _ => by kernel_rfl
    have HB : Hid (Bytes W a len W.heap.size) := hb
    have L0 : Below W.heap.size W W := Below.refl _ _
    go_enter Tryz.func4, Tryz.ntmps4
    go_wp2_with (go_at_call 5; refine (cB0 _).mono ?_; rintro e w1 ⟨rfl, hw1⟩; obtain rfl := hw1.symm)
    clear cB0 hb
    refine (drawOfferPact_c W a len cap (HB.out.later L0) hl).mono ?_
    rintro e w1 ⟨p, x, i, j, rfl, O1, dw, k1⟩
    obtain ⟨W2, HW2⟩ : ∃ W2, Hid (W2 = w1.alloc (.cells (p.v x) 32)) := ⟨_, rfl⟩
    have k2 : Below w1.heap.size w1 W2 := by rw [HW2.out]; exact (Below.refl _ _).alloc (Nat.le_refl _) _
    have X2 : Hid (Blk W2 w1.heap.size (p.v x) 32) := by show Blk _ _ _ _; rw [HW2.out]; exact Blk.new w1 _ _
    have J2 : Below W.heap.size W W2 := k1.trans (k2.mono k1.size)
    have L2 : Below W.heap.size W W2 := L0.trans (J2.mono L0.size)
    have HO2 : Hid (OwW W2 W.heap.size p x) := O1.later k2
    have Hd2 : Hid (DW x) := dw
    clear O1 k1 k2 dw
    go_upto_region 4 with fail
    rw [← HW2.out]
    clear HW2
    obtain ⟨s0, s1, s2, s3, s4, s5, s6, sl⟩ := X2.out.c7
    go_wp2_with fail
    clear s0 s1 s2 s3 s4 s5 s6 sl
    have cI := implOfferPact p x W2 HO2.out.in i j
    obtain ⟨C, HC⟩ : ∃ C, Hid (C = offC hasI x i j) := ⟨_, rfl⟩
    obtain ⟨X, HX⟩ : ∃ X, Hid (X = offX hasI x i j) := ⟨_, rfl⟩
    have eC : offC hasS x i j = offC hasI x i j := (Hd2.out.offC i j).symm
    have HS : Hid (∀ W' (h : Below W2.heap.size W2 W'), Calls Tryz.prog 25 #[.agg (p.v x), .int .i64 i, .int .i64 j] W' fun e w' => ∃ q, e = .returned (.agg (r8 C q (offX hasS x i j))) ∧ OwW w' W'.heap.size q (offX hasS x i j) ∧ Below W'.heap.size W' w') := by
      intro W' h
      rw [HC.out, ← eC]
      exact specOfferPact p x W' (HO2.out.later h).in i j
    have Hg : Hid (C = 0 → wf hasI X = 0 ∧ offC hasI X i j = 6 ∧ accC hasI X j i = 0 ∧ brkC hasI (accX hasI X j i) i j = 0 ∧ (memO x.oo ⟨j, i⟩ = false → brkX hasI (accX hasI X j i) i j = x)) := fun e => by
      have g := off_good hIS (HC.out.symm.trans e)
      rw [HX.out]
      exact ⟨g.wf0, g.taken, g.acc, g.brk, g.same⟩
    rw [← HC.out, ← HX.out] at cI
    clear eC HC HX
    refine cI.mono ?_
    rintro e w3 ⟨q, rfl, O3, k3⟩
    obtain ⟨W4, HW4⟩ : ∃ W4, Hid (W4 = w3.alloc (.cells (r8 C q X) 36)) := ⟨_, rfl⟩
    have k4 : Below w3.heap.size w3 W4 := by rw [HW4.out]; exact (Below.refl _ _).alloc (Nat.le_refl _) _
    have X4 : Hid (Blk W4 w3.heap.size (r8 C q X) 36) := by show Blk _ _ _ _; rw [HW4.out]; exact Blk.new w3 _ _
    have J4 : Below W2.heap.size W2 W4 := k3.trans (k4.mono k3.size)
    have L4 : Below W.heap.size W W4 := L2.trans (J4.mono L2.size)
    have HO4 : Hid (OwW W4 W2.heap.size q X) := O3.later k4
    clear O3 k3 k4
    go_upto_region 5 with fail
    rw [← HW4.out]
    clear HW4
    clear cI
    go_wp2_with fail
    refine (drawOffersTo_c W4 a len cap (HB.out.later L4) hl).mono ?_
    rintro e w5 ⟨p2, y, k, rfl, O5, dw, k5⟩
    obtain ⟨W6, HW6⟩ : ∃ W6, Hid (W6 = w5.alloc (.cells (p2.v y) 32)) := ⟨_, rfl⟩
    have k6 : Below w5.heap.size w5 W6 := by rw [HW6.out]; exact (Below.refl _ _).alloc (Nat.le_refl _) _
    have X6 : Hid (Blk W6 w5.heap.size (p2.v y) 32) := by show Blk _ _ _ _; rw [HW6.out]; exact Blk.new w5 _ _
    have J6 : Below W4.heap.size W4 W6 := k5.trans (k6.mono k5.size)
    have L6 : Below W.heap.size W W6 := L4.trans (J6.mono L4.size)
    have HO6 : Hid (OwW W6 W4.heap.size p2 y) := O5.later k6
    have Hd6 : Hid (DW y) := dw
    clear O5 k5 k6 dw
    go_upto_region 6 with fail
    rw [← HW6.out]
    clear HW6
    obtain ⟨s0, s1, s2, s3, s4, s5, s6, sl⟩ := X6.out.c7
    go_wp2_with fail
    clear s0 s1 s2 s3 s4 s5 s6 sl
    have cA := implAlliesOf p2 y W6 HO6.out.in k
    obtain ⟨F, HF⟩ : ∃ v, Hid (v = sfF hasI y k) := ⟨_, rfl⟩
    obtain ⟨LA, HLA⟩ : ∃ v, Hid (v = alL hasI y k) := ⟨_, rfl⟩
    obtain ⟨LO, HLO⟩ : ∃ v, Hid (v = otX hasI y k) := ⟨_, rfl⟩
    have nLA : Hid (LA.length ≤ 1000) := by show _ ≤ _; rw [HLA.out]; exact alL_len _ _ _
    have nLO : Hid (LO.length ≤ 1000) := by show _ ≤ _; rw [HLO.out]; exact otX_len Hd6.out _ _
    have cS := fun W' (h : Below W6.heap.size W6 W') => specAlliesOf p2 y W' (HO6.out.later h).in k
    have cO := fun W' (h : Below W6.heap.size W6 W') => implOffersTo p2 y W' (HO6.out.later h).in k
    have cQ := fun W' (h : Below W6.heap.size W6 W') => specOffersTo p2 y W' (HO6.out.later h).in k
    rw [Hd6.out.sfF, Hd6.out.alL] at cS
    rw [Hd6.out.sfF, Hd6.out.otX] at cQ
    rw [← HF.out, ← HLA.out] at cA cS
    rw [← HF.out, ← HLO.out] at cO cQ
    refine cA.mono ?_
    rintro e w7 ⟨v7, rfl, S7, k7⟩
    obtain ⟨pv7, cv7, rfl⟩ := S7.fm
    obtain ⟨W8, HW8⟩ : ∃ W8, Hid (W8 = w7.alloc (.cells #[.int .i64 F, .slice pv7 LA.length cv7] 45)) := ⟨_, rfl⟩
    have k8 : Below w7.heap.size w7 W8 := by rw [HW8.out]; exact (Below.refl _ _).alloc (Nat.le_refl _) _
    have X8 : Hid (Blk W8 w7.heap.size #[.int .i64 F, .slice pv7 LA.length cv7] 45) := by show Blk _ _ _ _; rw [HW8.out]; exact Blk.new w7 _ _
    have J8 : Below W6.heap.size W6 W8 := k7.trans (k8.mono k7.size)
    have L8 : Below W.heap.size W W8 := L6.trans (J8.mono L6.size)
    have S8 : Hid (SlI W8 W6.heap.size (.slice pv7 LA.length cv7) LA) := S7.below k8
    have f0 : ∀ (x y : Value) (w : World), (Instr.field 45 (.agg #[x, y]) 0).run Tryz.prog w = .ok x w := fun _ _ _ => by kernel_rfl
    have f1 : ∀ (x y : Value) (w : World), (Instr.field 45 (.agg #[x, y]) 1).run Tryz.prog w = .ok y w := fun _ _ _ => by kernel_rfl
    clear cA S7 k7 k8 HF HLA HLO
    go_upto_region 7 with fail
    rw [← HW8.out]
    clear HW8
    have keep7 : ∀ w', Below W8.heap.size W8 w' → w'.cell? ⟨w5.heap.size, 0, none⟩ = some (.int .i64 y.t) ∧ w'.cell? ⟨w5.heap.size, 1, none⟩ = some (.int .i64 y.s) ∧ w'.cell? ⟨w5.heap.size, 2, none⟩ = some (.slice p2.u y.us.length p2.uc) ∧ w'.cell? ⟨w5.heap.size, 3, none⟩ = some (.slice p2.f y.fs.length p2.fc) ∧ w'.cell? ⟨w5.heap.size, 4, none⟩ = some (.slice p2.a y.fa.length p2.ac) ∧ w'.cell? ⟨w5.heap.size, 5, none⟩ = some (.slice p2.s y.se.length p2.sc) ∧ w'.cell? ⟨w5.heap.size, 6, none⟩ = some (.slice p2.o y.oo.length p2.oc) ∧ w'.cell? ⟨w7.heap.size, 0, none⟩ = some (.int .i64 F) ∧ w'.cell? ⟨w7.heap.size, 1, none⟩ = some (.slice pv7 LA.length cv7) ∧ w5.heap.size < w'.heap.size ∧ w7.heap.size < w'.heap.size := fun w' h => by
      obtain ⟨y0, y1, y2, y3, y4, y5, y6, l3⟩ := (X6.out.below (J8.trans (h.mono J8.size))).c7
      have P7 := X8.out.below h
      exact ⟨y0, y1, y2, y3, y4, y5, y6, P7.cell rfl, P7.cell rfl, l3, P7.lt⟩
    have Bc : Below W8.heap.size W8 W8.drew := (Below.refl _ _).drew
    obtain ⟨y0, y1, y2, y3, y4, y5, y6, b0, b1, lt0, lt1⟩ := keep7 _ (Below.refl _ _)
    have cS := fun W' (h : Below W8.heap.size W8 W') => cS W' (J8.trans (h.mono J8.size))
    have cO := fun W' (h : Below W8.heap.size W8 W') => cO W' (J8.trans (h.mono J8.size))
    have cQ := fun W' (h : Below W8.heap.size W8 W') => cQ W' (J8.trans (h.mono J8.size))
    have nF : (F != F) = false := by simp
    go_region_held3 (fun w' => w'.cell? ⟨w5.heap.size, 0, none⟩ = some (.int .i64 y.t) ∧ w'.cell? ⟨w5.heap.size, 1, none⟩ = some (.int .i64 y.s) ∧ w'.cell? ⟨w5.heap.size, 2, none⟩ = some (.slice p2.u y.us.length p2.uc) ∧ w'.cell? ⟨w5.heap.size, 3, none⟩ = some (.slice p2.f y.fs.length p2.fc) ∧ w'.cell? ⟨w5.heap.size, 4, none⟩ = some (.slice p2.a y.fa.length p2.ac) ∧ w'.cell? ⟨w5.heap.size, 5, none⟩ = some (.slice p2.s y.se.length p2.sc) ∧ w'.cell? ⟨w5.heap.size, 6, none⟩ = some (.slice p2.o y.oo.length p2.oc) ∧ w'.cell? ⟨w7.heap.size, 0, none⟩ = some (.int .i64 F) ∧ w'.cell? ⟨w7.heap.size, 1, none⟩ = some (.slice pv7 LA.length cv7)) (first | exact (by obtain ⟨y0, y1, y2, y3, y4, y5, y6, b0, b1, _, _⟩ := keep7 _ Bc; exact ⟨y0, y1, y2, y3, y4, y5, y6, b0, b1⟩) | go_keep) (first
      | (go_at_call 21; refine (cO _ Bc).mono ?_; rintro e wn ⟨va, rfl, Sa, kn⟩; have Bc := Bc.trans (kn.mono Bc.size); obtain ⟨y0, y1, y2, y3, y4, y5, y6, b0, b1, lt0, lt1⟩ := keep7 _ Bc)
      | (go_at_call 22; refine (cQ _ Bc).mono ?_; rintro e wn ⟨vb, rfl, Sb, kn⟩; have Sa := Sa.below kn; have Bc := Bc.trans (kn.mono Bc.size); obtain ⟨y0, y1, y2, y3, y4, y5, y6, b0, b1, lt0, lt1⟩ := keep7 _ Bc)
      | (go_at_call 23; with_reducible refine (lwNums_same _ va vb _ _ LO Sa Sb nLO.out).mono ?_; rintro e wn ⟨rfl, kn⟩; have Bc := Bc.trans (kn.mono Bc.size); obtain ⟨y0, y1, y2, y3, y4, y5, y6, b0, b1, lt0, lt1⟩ := keep7 _ Bc)
      | (go_at_call 24; refine (cS _ Bc).mono ?_; rintro e wn ⟨vc, rfl, Sc, kn⟩; have Bc := Bc.trans (kn.mono Bc.size); obtain ⟨y0, y1, y2, y3, y4, y5, y6, b0, b1, lt0, lt1⟩ := keep7 _ Bc)
      | (go_at_call 23; with_reducible refine (lwNums_same _ (.slice pv7 LA.length cv7) vc _ _ LA (S8.out.below Bc) Sc nLA.out).mono ?_; rintro e wn ⟨rfl, kn⟩; have Bc := Bc.trans (kn.mono Bc.size); obtain ⟨y0, y1, y2, y3, y4, y5, y6, b0, b1, lt0, lt1⟩ := keep7 _ Bc))
    obtain ⟨w9, Hw9⟩ : ∃ v, Hid (v = wn) := ⟨_, rfl⟩
    rw [← Hw9.out] at Bc ⊢
    have M4 : Below W4.heap.size W4 W8 := J6.trans (J8.mono J6.size)
    have M2 : Below W2.heap.size W2 W8 := J4.trans (M4.mono J4.size)
    have P4 := X4.out.below (M4.trans (Bc.mono M4.size))
    have c0 : w9.cell? ⟨w3.heap.size, 0, none⟩ = some (.int .i64 C) := P4.cell (i := 0) rfl
    have cl := P4.lt
    have sA := fun W' (h : Below W8.heap.size W8 W') => HS.out W' (M2.trans (h.mono M2.size))
    clear keep7 y0 y1 y2 y3 y4 y5 y6 b0 b1 lt0 lt1 cS cO cQ nF f0 f1 Hw9 kn
    cases e2 : C == 0
    · have n7 : (C != 0) = true := by simp only [bne, e2]; rfl
      have nCC : (C == C) = true := by simp
      clear P4
      have keepE : ∀ w', Below W8.heap.size W8 w' → w'.cell? ⟨w1.heap.size, 0, none⟩ = some (.int .i64 x.t) ∧ w'.cell? ⟨w1.heap.size, 1, none⟩ = some (.int .i64 x.s) ∧ w'.cell? ⟨w1.heap.size, 2, none⟩ = some (.slice p.u x.us.length p.uc) ∧ w'.cell? ⟨w1.heap.size, 3, none⟩ = some (.slice p.f x.fs.length p.fc) ∧ w'.cell? ⟨w1.heap.size, 4, none⟩ = some (.slice p.a x.fa.length p.ac) ∧ w'.cell? ⟨w1.heap.size, 5, none⟩ = some (.slice p.s x.se.length p.sc) ∧ w'.cell? ⟨w1.heap.size, 6, none⟩ = some (.slice p.o x.oo.length p.oc) ∧ w'.cell? ⟨w3.heap.size, 0, none⟩ = some (.int .i64 C) ∧ w1.heap.size < w'.heap.size ∧ w3.heap.size < w'.heap.size := fun w' h => by
        have P7 := X4.out.below (M4.trans (h.mono M4.size))
        obtain ⟨a0, a1, a2, a3, a4, a5, a6, l1⟩ := (X2.out.below (M2.trans (h.mono M2.size))).c7
        exact ⟨a0, a1, a2, a3, a4, a5, a6, P7.cell rfl, l1, P7.lt⟩
      obtain ⟨a0, a1, a2, a3, a4, a5, a6, c0, al, cl⟩ := keepE _ Bc
      have Bd : Below W8.heap.size W8 w9.drew := Bc.trans ((Below.refl _ _).drew.mono Bc.size)
      go_upto_region 10 with fail
      go_region_held3 (fun w' => w'.cell? ⟨w1.heap.size, 0, none⟩ = some (.int .i64 x.t) ∧ w'.cell? ⟨w1.heap.size, 1, none⟩ = some (.int .i64 x.s) ∧ w'.cell? ⟨w1.heap.size, 2, none⟩ = some (.slice p.u x.us.length p.uc) ∧ w'.cell? ⟨w1.heap.size, 3, none⟩ = some (.slice p.f x.fs.length p.fc) ∧ w'.cell? ⟨w1.heap.size, 4, none⟩ = some (.slice p.a x.fa.length p.ac) ∧ w'.cell? ⟨w1.heap.size, 5, none⟩ = some (.slice p.s x.se.length p.sc) ∧ w'.cell? ⟨w1.heap.size, 6, none⟩ = some (.slice p.o x.oo.length p.oc) ∧ w'.cell? ⟨w3.heap.size, 0, none⟩ = some (.int .i64 C)) (first | exact (by obtain ⟨a0, a1, a2, a3, a4, a5, a6, c0, _, _⟩ := keepE _ Bd; exact ⟨a0, a1, a2, a3, a4, a5, a6, c0⟩) | go_keep) (first
        | (go_at_call 25; refine (sA _ Bd).mono ?_; rintro e wn ⟨qn, rfl, _, kn⟩; have Bd := Bd.trans (kn.mono Bd.size); obtain ⟨a0, a1, a2, a3, a4, a5, a6, c0, al, cl⟩ := keepE _ Bd))
      all_goals
        go_wp2_with fail
        go_ret
        exact ⟨rfl, L8.trans (Bd.mono L8.size)⟩
    · obtain rfl : C = 0 := by simpa using e2
      obtain ⟨hwf, htk, hacc, hbrk, hsame⟩ := Hg.out rfl
      obtain ⟨X3, HX3⟩ : ∃ v, Hid (v = accX hasI X j i) := ⟨_, rfl⟩
      obtain ⟨X4', HX4⟩ : ∃ v, Hid (v = brkX hasI X3 i j) := ⟨_, rfl⟩
      rw [← HX3.out] at hbrk hsame
      rw [← HX4.out] at hsame
      have Hsame : Hid (memO x.oo ⟨j, i⟩ = false → X4' = x) := hsame
      have M9 : Below W4.heap.size W4 w9 := M4.trans (Bc.mono M4.size)
      have cA := implAcceptPact q X w9 (HO4.out.later M9).in j i
      rw [hacc, ← HX3.out] at cA
      obtain ⟨c0x, c1, c2, c3, c4, c5, c6, c7⟩ : w9.cell? ⟨w3.heap.size, 0, none⟩ = some (.int .i64 0) ∧ w9.cell? ⟨w3.heap.size, 1, none⟩ = some (.int .i64 X.t) ∧ w9.cell? ⟨w3.heap.size, 2, none⟩ = some (.int .i64 X.s) ∧ w9.cell? ⟨w3.heap.size, 3, none⟩ = some (.slice q.u X.us.length q.uc) ∧ w9.cell? ⟨w3.heap.size, 4, none⟩ = some (.slice q.f X.fs.length q.fc) ∧ w9.cell? ⟨w3.heap.size, 5, none⟩ = some (.slice q.a X.fa.length q.ac) ∧ w9.cell? ⟨w3.heap.size, 6, none⟩ = some (.slice q.s X.se.length q.sc) ∧ w9.cell? ⟨w3.heap.size, 7, none⟩ = some (.slice q.o X.oo.length q.oc) := ⟨P4.cell rfl, P4.cell rfl, P4.cell rfl, P4.cell rfl, P4.cell rfl, P4.cell rfl, P4.cell rfl, P4.cell rfl⟩
      clear P4 c0x hsame hacc sA e2
      go_wp2_with fail
      refine cA.mono ?_
      rintro e w11 ⟨q3, rfl, O11, k11⟩
      obtain ⟨W12, HW12⟩ : ∃ W12, Hid (W12 = w11.alloc (.cells (r8 0 q3 X3) 36)) := ⟨_, rfl⟩
      have k12 : Below w11.heap.size w11 W12 := by rw [HW12.out]; exact (Below.refl _ _).alloc (Nat.le_refl _) _
      have X12 : Hid (Blk W12 w11.heap.size (r8 0 q3 X3) 36) := by show Blk _ _ _ _; rw [HW12.out]; exact Blk.new w11 _ _
      have J12 : Below w9.heap.size w9 W12 := k11.trans (k12.mono k11.size)
      have HO12 : Hid (OwW W12 w9.heap.size q3 X3) := O11.later k12
      clear O11 k11 k12
      go_upto_region 12 with fail
      rw [← HW12.out]
      clear HW12 c0 c1 c2 c3 c4 c5 c6 c7 cl
      obtain ⟨c0, c1, c2, c3, c4, c5, c6, c7⟩ : W12.cell? ⟨w11.heap.size, 0, none⟩ = some (.int .i64 0) ∧ W12.cell? ⟨w11.heap.size, 1, none⟩ = some (.int .i64 X3.t) ∧ W12.cell? ⟨w11.heap.size, 2, none⟩ = some (.int .i64 X3.s) ∧ W12.cell? ⟨w11.heap.size, 3, none⟩ = some (.slice q3.u X3.us.length q3.uc) ∧ W12.cell? ⟨w11.heap.size, 4, none⟩ = some (.slice q3.f X3.fs.length q3.fc) ∧ W12.cell? ⟨w11.heap.size, 5, none⟩ = some (.slice q3.a X3.fa.length q3.ac) ∧ W12.cell? ⟨w11.heap.size, 6, none⟩ = some (.slice q3.s X3.se.length q3.sc) ∧ W12.cell? ⟨w11.heap.size, 7, none⟩ = some (.slice q3.o X3.oo.length q3.oc) := ⟨X12.out.cell rfl, X12.out.cell rfl, X12.out.cell rfl, X12.out.cell rfl, X12.out.cell rfl, X12.out.cell rfl, X12.out.cell rfl, X12.out.cell rfl⟩
      have cl := X12.out.lt
      have cB := implBreakPact q3 X3 W12 HO12.out.in i j
      rw [hbrk, ← HX4.out] at cB
      clear cA hbrk
      go_wp2_with fail
      refine cB.mono ?_
      rintro e w13 ⟨q4, rfl, O13, k13⟩
      obtain ⟨W14, HW14⟩ : ∃ W14, Hid (W14 = w13.alloc (.cells (r8 0 q4 X4') 36)) := ⟨_, rfl⟩
      have k14 : Below w13.heap.size w13 W14 := by rw [HW14.out]; exact (Below.refl _ _).alloc (Nat.le_refl _) _
      have X14 : Hid (Blk W14 w13.heap.size (r8 0 q4 X4') 36) := by show Blk _ _ _ _; rw [HW14.out]; exact Blk.new w13 _ _
      have J14 : Below W12.heap.size W12 W14 := k13.trans (k14.mono k13.size)
      have HO14 : Hid (OwW W14 W12.heap.size q4 X4') := O13.later k14
      clear O13 k13 k14
      go_upto_region 13 with fail
      rw [← HW14.out]
      clear HW14 c0 c1 c2 c3 c4 c5 c6 c7 cl
      obtain ⟨c0, c1, c2, c3, c4, c5, c6, c7⟩ : W14.cell? ⟨w13.heap.size, 0, none⟩ = some (.int .i64 0) ∧ W14.cell? ⟨w13.heap.size, 1, none⟩ = some (.int .i64 X4'.t) ∧ W14.cell? ⟨w13.heap.size, 2, none⟩ = some (.int .i64 X4'.s) ∧ W14.cell? ⟨w13.heap.size, 3, none⟩ = some (.slice q4.u X4'.us.length q4.uc) ∧ W14.cell? ⟨w13.heap.size, 4, none⟩ = some (.slice q4.f X4'.fs.length q4.fc) ∧ W14.cell? ⟨w13.heap.size, 5, none⟩ = some (.slice q4.a X4'.fa.length q4.ac) ∧ W14.cell? ⟨w13.heap.size, 6, none⟩ = some (.slice q4.s X4'.se.length q4.sc) ∧ W14.cell? ⟨w13.heap.size, 7, none⟩ = some (.slice q4.o X4'.oo.length q4.oc) := ⟨X14.out.cell rfl, X14.out.cell rfl, X14.out.cell rfl, X14.out.cell rfl, X14.out.cell rfl, X14.out.cell rfl, X14.out.cell rfl, X14.out.cell rfl⟩
      have cl := X14.out.lt
      clear cB
      have N12 : Below w9.heap.size w9 W14 := J12.trans (J14.mono J12.size)
      have N8 : Below W8.heap.size W8 W14 := Bc.trans (N12.mono Bc.size)
      have N2 : Below W2.heap.size W2 W14 := M2.trans (N8.mono M2.size)
      have LW : Below W.heap.size W W14 := L8.trans (N8.mono L8.size)
      have keepX : Hid (∀ w', Below W14.heap.size W14 w' → w'.cell? ⟨w1.heap.size, 0, none⟩ = some (.int .i64 x.t) ∧ w'.cell? ⟨w1.heap.size, 1, none⟩ = some (.int .i64 x.s) ∧ w'.cell? ⟨w1.heap.size, 2, none⟩ = some (.slice p.u x.us.length p.uc) ∧ w'.cell? ⟨w1.heap.size, 3, none⟩ = some (.slice p.f x.fs.length p.fc) ∧ w'.cell? ⟨w1.heap.size, 4, none⟩ = some (.slice p.a x.fa.length p.ac) ∧ w'.cell? ⟨w1.heap.size, 5, none⟩ = some (.slice p.s x.se.length p.sc) ∧ w'.cell? ⟨w1.heap.size, 6, none⟩ = some (.slice p.o x.oo.length p.oc) ∧ w1.heap.size < w'.heap.size) := fun w' h => by
        obtain ⟨a0, a1, a2, a3, a4, a5, a6, l1⟩ := (X2.out.below (N2.trans (h.mono N2.size))).c7
        exact ⟨a0, a1, a2, a3, a4, a5, a6, l1⟩
      obtain ⟨a0, a1, a2, a3, a4, a5, a6, al⟩ := keepX.out _ (Below.refl _ _)
      obtain ⟨mo, Hmo⟩ : ∃ m, Hid (x.oo.length = m) := ⟨_, rfl⟩
      have mo2 : mo ≤ 2 := by rw [← Hmo.out]; exact Hd2.out.o
      have HI := HO2.out
      have Hix : Hid (InW W2 p x) := HO2.out.in
      clear HI c0 c1 c2 c3 c4 c5 c6 c7 cl
      rw [Hmo.out] at a6
      go_wp2_with fail
      go_loopw [12, 13] (fun u v wr => ∃ k : Nat, k ≤ mo ∧ u = .int .i64 ((cntO (x.oo.take k) ⟨j, i⟩ : Nat) : Int) ∧ v = .int .i64 k ∧ Below W14.heap.size W14 wr) (fun _ v _ => mo - (intOf v).toNat)
      case atStart => exact ⟨0, Nat.zero_le _, rfl, rfl, Below.refl _ _⟩
      case round =>
        obtain ⟨k, hk, rfl, rfl, kb⟩ := hrel
        clear a0 a1 a2 a3 a4 a5 a6 al
        obtain ⟨a0, a1, a2, a3, a4, a5, a6, al⟩ := keepX.out _ kb
        rw [Hmo.out] at a6
        by_cases hlt : k < mo
        · have hlt' : (k : Int) < (mo : Int) := by omega
          obtain ⟨y9, hy⟩ : ∃ y9, x.oo[k]? = some y9 := ⟨_, List.getElem?_eq_getElem (by have := Hmo.out; omega)⟩
          obtain ⟨b9, off9, hro, hb9, hat⟩ := (Hix.out.later (N2.trans (kb.mono N2.size))).arg.o.at hy
          rw [hro] at a6
          obtain ⟨x0, x1, xl⟩ := hat.one hb9 hy
          have Hst : Hid (cntO (x.oo.take (k + 1)) ⟨j, i⟩ = cntO (x.oo.take k) ⟨j, i⟩ + (if (y9.c0 == j && y9.c1 == i) = true then 1 else 0)) := cntO_step hy
          have hcl : cntO (x.oo.take k) ⟨j, i⟩ ≤ 100 := Nat.le_trans (cntO_len _ _) (by rw [List.length_take]; omega)
          clear hy hat hro
          generalize cntO (x.oo.take k) ⟨j, i⟩ = n0 at Hst hcl ⊢
          cases e0 : y9.c0 == j <;> cases e1 : y9.c1 == i <;> rw [e0, e1] at Hst
          all_goals
            go_wp2_with fail
            go_roundw
            case rel => exact ⟨k + 1, by omega, by rw [Hst.out]; go_num, by go_num, kb⟩
            case measure => simp [intOf]; omega
        · obtain rfl : k = x.oo.length := by have := Hmo.out; omega
          have e : x.oo.take x.oo.length = x.oo := List.take_of_length_le (Nat.le_refl _)
          rw [e]
          have Hz := cntO_zero (l := x.oo) (y := ⟨j, i⟩)
          generalize cntO x.oo ⟨j, i⟩ = n0 at Hz ⊢
          clear a0 a1 a2 a3 a4 a5 a6 al
          have kW : Below W8.heap.size W8 wr := N8.trans (kb.mono N8.size)
          have keepS : Hid (∀ w', Below wr.heap.size wr w' → w'.cell? ⟨w1.heap.size, 0, none⟩ = some (.int .i64 x.t) ∧ w'.cell? ⟨w1.heap.size, 1, none⟩ = some (.int .i64 x.s) ∧ w'.cell? ⟨w1.heap.size, 2, none⟩ = some (.slice p.u x.us.length p.uc) ∧ w'.cell? ⟨w1.heap.size, 3, none⟩ = some (.slice p.f x.fs.length p.fc) ∧ w'.cell? ⟨w1.heap.size, 4, none⟩ = some (.slice p.a x.fa.length p.ac) ∧ w'.cell? ⟨w1.heap.size, 5, none⟩ = some (.slice p.s x.se.length p.sc) ∧ w'.cell? ⟨w1.heap.size, 6, none⟩ = some (.slice p.o x.oo.length p.oc) ∧ w'.cell? ⟨w3.heap.size, 0, none⟩ = some (.int .i64 0) ∧ w'.cell? ⟨w3.heap.size, 1, none⟩ = some (.int .i64 X.t) ∧ w'.cell? ⟨w3.heap.size, 2, none⟩ = some (.int .i64 X.s) ∧ w'.cell? ⟨w3.heap.size, 3, none⟩ = some (.slice q.u X.us.length q.uc) ∧ w'.cell? ⟨w3.heap.size, 4, none⟩ = some (.slice q.f X.fs.length q.fc) ∧ w'.cell? ⟨w3.heap.size, 5, none⟩ = some (.slice q.a X.fa.length q.ac) ∧ w'.cell? ⟨w3.heap.size, 6, none⟩ = some (.slice q.s X.se.length q.sc) ∧ w'.cell? ⟨w3.heap.size, 7, none⟩ = some (.slice q.o X.oo.length q.oc) ∧ w'.cell? ⟨w11.heap.size, 0, none⟩ = some (.int .i64 0) ∧ w'.cell? ⟨w13.heap.size, 0, none⟩ = some (.int .i64 0) ∧ w'.cell? ⟨w13.heap.size, 1, none⟩ = some (.int .i64 X4'.t) ∧ w'.cell? ⟨w13.heap.size, 2, none⟩ = some (.int .i64 X4'.s) ∧ w'.cell? ⟨w13.heap.size, 3, none⟩ = some (.slice q4.u X4'.us.length q4.uc) ∧ w'.cell? ⟨w13.heap.size, 4, none⟩ = some (.slice q4.f X4'.fs.length q4.fc) ∧ w'.cell? ⟨w13.heap.size, 5, none⟩ = some (.slice q4.a X4'.fa.length q4.ac) ∧ w'.cell? ⟨w13.heap.size, 6, none⟩ = some (.slice q4.s X4'.se.length q4.sc) ∧ w'.cell? ⟨w13.heap.size, 7, none⟩ = some (.slice q4.o X4'.oo.length q4.oc) ∧ w1.heap.size < w'.heap.size ∧ w3.heap.size < w'.heap.size ∧ w11.heap.size < w'.heap.size ∧ w13.heap.size < w'.heap.size) := fun w' h => by
            have h14 := kb.trans (h.mono kb.size)
            have h8 := kW.trans (h.mono kW.size)
            obtain ⟨a0, a1, a2, a3, a4, a5, a6, l1⟩ := keepX.out _ h14
            have P4 := X4.out.below (M4.trans (h8.mono M4.size))
            have P12 := X12.out.below (J14.trans (h14.mono J14.size))
            have P14 := X14.out.below h14
            exact ⟨a0, a1, a2, a3, a4, a5, a6, P4.cell rfl, P4.cell rfl, P4.cell rfl, P4.cell rfl, P4.cell rfl, P4.cell rfl, P4.cell rfl, P4.cell rfl, P12.cell (i := 0) rfl, P14.cell rfl, P14.cell rfl, P14.cell rfl, P14.cell rfl, P14.cell rfl, P14.cell rfl, P14.cell rfl, P14.cell rfl, l1, P4.lt, P12.lt, P14.lt⟩
          have vF := fun W' (h : Below wr.heap.size wr W') => implWorldFault q X HO4.out.in.o1 HO4.out.in.o2 W' (HO4.out.later (M4.trans ((kW.trans (h.mono kW.size)).mono M4.size))).in.arg
          have vO := fun W' (h : Below wr.heap.size wr W') => implOfferPact q X W' (HO4.out.later (M4.trans ((kW.trans (h.mono kW.size)).mono M4.size))).in i j
          rw [hwf] at vF
          rw [htk] at vO
          obtain ⟨a0, a1, a2, a3, a4, a5, a6, d0, d1, d2, d3, d4, d5, d6, d7, e0, k0, k1, k2, k3, k4, k5, k6, k7, al, cl, dl, el⟩ := keepS.out _ (Below.refl _ _)
          have Bc := Below.refl wr.heap.size wr
          by_cases hn : n0 = 0
          · subst hn
            have eX := Hsame.out (Hz rfl)
            have sz := Hd2.out.sz
            have vS : ∀ W', Below wr.heap.size wr W' → Calls Tryz.prog 16 #[.agg (WP.v q4 X4'), .agg (p.v x)] W' fun e w' => e = .returned (.bool true) ∧ Below W'.heap.size W' w' := fun W' h => by
              have h1 := (HO14.out.later (kb.trans (h.mono kb.size))).in.arg
              rw [eX] at h1 ⊢
              exact sameW_in q4 p x W' h1 (HO2.out.later (N2.trans ((kb.trans (h.mono kb.size)).mono N2.size))).in.arg sz.u sz.f sz.a sz.s sz.o
            clear Hz sz eX
            go_wp2_with (first
              | (go_at_call 14; refine (vF _ Bc).mono ?_; rintro e wn ⟨rfl, kn⟩; have Bc := Bc.trans (kn.mono Bc.size); clear a0 a1 a2 a3 a4 a5 a6 d0 d1 d2 d3 d4 d5 d6 d7 e0 k0 k1 k2 k3 k4 k5 k6 k7 al cl dl el; obtain ⟨a0, a1, a2, a3, a4, a5, a6, d0, d1, d2, d3, d4, d5, d6, d7, e0, k0, k1, k2, k3, k4, k5, k6, k7, al, cl, dl, el⟩ := keepS.out _ Bc)
              | (go_at_call 18; refine (vO _ Bc).mono ?_; rintro e wn ⟨qn, rfl, _, kn⟩; have Bc := Bc.trans (kn.mono Bc.size); clear a0 a1 a2 a3 a4 a5 a6 d0 d1 d2 d3 d4 d5 d6 d7 e0 k0 k1 k2 k3 k4 k5 k6 k7 al cl dl el; obtain ⟨a0, a1, a2, a3, a4, a5, a6, d0, d1, d2, d3, d4, d5, d6, d7, e0, k0, k1, k2, k3, k4, k5, k6, k7, al, cl, dl, el⟩ := keepS.out _ Bc)
              | (go_at_call 16; refine (vS _ Bc).mono ?_; rintro e wn ⟨rfl, kn⟩; have Bc := Bc.trans (kn.mono Bc.size); clear a0 a1 a2 a3 a4 a5 a6 d0 d1 d2 d3 d4 d5 d6 d7 e0 k0 k1 k2 k3 k4 k5 k6 k7 al cl dl el; obtain ⟨a0, a1, a2, a3, a4, a5, a6, d0, d1, d2, d3, d4, d5, d6, d7, e0, k0, k1, k2, k3, k4, k5, k6, k7, al, cl, dl, el⟩ := keepS.out _ Bc))
            go_ret
            exact ⟨rfl, (LW.trans (kb.mono LW.size)).trans (Bc.mono (LW.trans (kb.mono LW.size)).size)⟩
          · have hn2 : ((n0 : Nat) : Int) > 0 := by omega
            have hn3 : decide ((0 : Int) < (n0 : Int)) = true := by simpa using hn2
            clear Hz hn
            go_wp2_with (first
              | (go_at_call 14; refine (vF _ Bc).mono ?_; rintro e wn ⟨rfl, kn⟩; have Bc := Bc.trans (kn.mono Bc.size); clear a0 a1 a2 a3 a4 a5 a6 d0 d1 d2 d3 d4 d5 d6 d7 e0 k0 k1 k2 k3 k4 k5 k6 k7 al cl dl el; obtain ⟨a0, a1, a2, a3, a4, a5, a6, d0, d1, d2, d3, d4, d5, d6, d7, e0, k0, k1, k2, k3, k4, k5, k6, k7, al, cl, dl, el⟩ := keepS.out _ Bc)
              | (go_at_call 18; refine (vO _ Bc).mono ?_; rintro e wn ⟨qn, rfl, _, kn⟩; have Bc := Bc.trans (kn.mono Bc.size); clear a0 a1 a2 a3 a4 a5 a6 d0 d1 d2 d3 d4 d5 d6 d7 e0 k0 k1 k2 k3 k4 k5 k6 k7 al cl dl el; obtain ⟨a0, a1, a2, a3, a4, a5, a6, d0, d1, d2, d3, d4, d5, d6, d7, e0, k0, k1, k2, k3, k4, k5, k6, k7, al, cl, dl, el⟩ := keepS.out _ Bc))
            go_ret
            exact ⟨rfl, (LW.trans (kb.mono LW.size)).trans (Bc.mono (LW.trans (kb.mono LW.size)).size)⟩
  · go_enter Tryz.func4, Tryz.ntmps4
    go_wp2_with (go_at_call 5; refine (lwBig_yes _ a len cap (by omega)).mono ?_; rintro e w1 ⟨rfl, hw1⟩; obtain rfl := hw1.symm)
    go_ret
    exact ⟨rfl, Below.refl _ _⟩
end Go.Proofs.YtmfdggaijbcijaaGreat
end

/- LawOffersRow -/
/- The walk of the law FnOffers, at a slice of bytes that came in. No condition. -/
section
namespace Go.Proofs.YtmfdggaijbcijaaGreat
open Go.ChangeShapes Go.WideShapes Go.ChangeAt Go.RowKit
theorem walk_fnOffers (a0 : Option Addr) (len0 cap0 : Nat) (z0 : List Int) (w : World) (w0 : IsRow .u8 w a0 len0 cap0 z0) :
    Calls Tryz.prog 4 #[.slice a0 len0 cap0] w fun e w' => e = .returned (.bool true) ∧ Below w.heap.size w w' := offers_walk a0 len0 cap0 w (Bytes.of_row w0)
end Go.Proofs.YtmfdggaijbcijaaGreat
end
