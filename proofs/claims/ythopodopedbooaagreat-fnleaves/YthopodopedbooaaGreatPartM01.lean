/- Texts of mine put together (a claim holds at most 60 files): LawLeaves, LawLeavesRow. -/
import Derived.Test.YthopodopedbooaaGreatPartM00
import Derived.Test.YthopodopedbooaaGreatPartL49
import Derived.Test.YthopodopedbooaaGreatPartL50
import Derived.Test.YthopodopedbooaaGreatPartL01
import Derived.Deep.RegionHeld3

/- LawLeaves -/
/- The walk of the law FnLeaves. No condition. -/
section
namespace Go.Proofs.YthopodopedbooaaGreat
open Go.ChangeShapes Go.WideShapes Go.ChangeAt Go.RowKit
open Bd
set_option linter.unusedVariables false

theorem DW.lsE {x : KW} (h : DW x) (i : Int) : lsC hasI x i = lsC hasS x i := by rw [lsC_l8, lsC_l8, h.wf]
set_option maxRecDepth 20000 in
set_option maxHeartbeats 32000000 in
theorem leaves_walk (a : Option Addr) (len cap : Nat) (W : World) (hb : Bytes W a len W.heap.size) :
    Calls Tryz.prog 6 #[.slice a len cap] W fun e w' => e = .returned (.bool true) ∧ Below W.heap.size W w' := by
  by_cases hl : len ≤ 1048576
  · have cB := fun w => lwBig_no w a len cap hl
    have f1 : ∀ (x y : Value) (w : World), (Instr.field 55 (.agg #[x, y]) 1).run Tryz.prog w = .ok y w := fun _ _ _ => by kernel_rfl
    have s0 : ∀ (v0 v1 v2 v3 v4 : Value) (w : World), (Instr.field 60 (.agg #[v0, v1, v2, v3, v4]) 0).run Tryz.prog w = .ok v0 w := fun _ _ _ _ _ _ => by kernel_rfl
    have s1 : ∀ (v0 v1 v2 v3 v4 : Value) (w : World), (Instr.field 60 (.agg #[v0, v1, v2, v3, v4]) 1).run Tryz.prog w = .ok (.agg #[v1, v2, v3, v4]) w := fun _ _ _ _ _ _ => by kernel_rfl
    have s2 : ∀ (v1 v2 v3 v4 : Value) (w : World), (Instr.field 58 (.agg #[v1, v2, v3, v4]) 1).run Tryz.prog w = .ok v2 w := fun _ _ _ _ _ => by kernel_rfl
    have g0 : ∀ (v0 v1 v2 v3 v4 v5 v6 v7 : Value) (w : World), (Instr.field 36 (.agg #[v0, v1, v2, v3, v4, v5, v6, v7]) 0).run Tryz.prog w = .ok v0 w := fun _ _ _ _ _ _ _ _ _ => by kernel_rfl
    go_enter Tryz.func6, Tryz.ntmps6
    go_wp2_with (go_at_call 7; refine (cB _).mono ?_; rintro e w1 ⟨rfl, hw1⟩; obtain rfl := hw1.symm)
    refine (drawLeaveSeat_c W a len cap hb hl).mono ?_
    rintro e w1 ⟨p, x, i, rfl, O1, dw, k1⟩
    obtain ⟨W2, HW2⟩ : ∃ W2, Hid (W2 = w1.alloc (.cells (p.v x) 32)) := ⟨_, rfl⟩
    have k2 : Below w1.heap.size w1 W2 := by rw [HW2.out]; exact (Below.refl _ _).alloc (Nat.le_refl _) _
    have X2 : Blk W2 w1.heap.size (p.v x) 32 := by rw [HW2.out]; exact Blk.new w1 _ _
    have B2 := k1.trans (k2.mono k1.size)
    have O2 := O1.later k2
    have cI := implLeaveSeat p x W2 O2.in i
    have HX : Hid (Blk W2 w1.heap.size (p.v x) 32) := X2
    have HO : Hid (OwW W2 W.heap.size p x) := O2
    have HB2 : Hid (Below W.heap.size W W2) := B2
    have hsx : x.se.length ≤ 5 := dw.s
    have eC := dw.lsE i
    obtain ⟨a0, a1, a2, a3, a4, a5, a6, al⟩ := X2.c7
    clear O1 k1 k2 X2 B2 O2 dw hb cB
    have good : lsC hasI x i = 0 → LsG hasI x i := ls_good (fun m b hm => has_same hm b)
    obtain ⟨C, HC⟩ : ∃ C, Hid (C = lsC hasI x i) := ⟨_, rfl⟩
    obtain ⟨X, HXX⟩ : ∃ X, Hid (X = lsX hasI x i) := ⟨_, rfl⟩
    rw [← HC.out] at cI eC good
    rw [← HXX.out] at cI
    have HeC : Hid (lsC hasS x i = C) := eC.symm
    have Hgood : Hid (C = 0 → LsG hasI x i) := good
    clear eC good
    go_upto_region 4 with fail
    rw [← HW2.out]
    go_wp2_with fail
    refine cI.mono ?_
    rintro e w3 ⟨q, rfl, O3, k3⟩
    obtain ⟨W4, HW4⟩ : ∃ W4, Hid (W4 = w3.alloc (.cells (r8 C q X) 36)) := ⟨_, rfl⟩
    have k4 : Below w3.heap.size w3 W4 := by rw [HW4.out]; exact (Below.refl _ _).alloc (Nat.le_refl _) _
    have HP : Hid (Blk W4 w3.heap.size (r8 C q X) 36) := by show Blk _ _ _ _; rw [HW4.out]; exact Blk.new w3 _ _
    have K4 : Below W2.heap.size W2 W4 := k3.trans (k4.mono k3.size)
    have HO4 : Hid (OwW W4 W2.heap.size q X) := O3.later k4
    have HK4 : Hid (Below W2.heap.size W2 W4) := K4
    clear cI O3 k3 k4
    go_upto_region 5 with fail
    rw [← HW4.out]
    clear HW4 HW2 a0 a1 a2 a3 a4 a5 a6 al
    have P7 := HP.out
    have c0 : W4.cell? ⟨w3.heap.size, 0, none⟩ = some (.int .i64 C) := P7.cell (i := 0) rfl
    have cl := P7.lt
    cases e2 : C == 0
    · have n7 : (C != 0) = true := by simp only [bne, e2]; rfl
      have nCC : (C == C) = true := by simp
      have sP := fun W' (h : Below W2.heap.size W2 W') => specLeaveSeat_no p x W' (HO.out.later h).in i (by rw [HeC.out]; simpa using e2)
      simp only [HeC.out] at sP
      have keep : ∀ w', Below W2.heap.size W2 w' → Below W4.heap.size W4 w' → w'.cell? ⟨w1.heap.size, 0, none⟩ = some (.int .i64 x.t) ∧ w'.cell? ⟨w1.heap.size, 1, none⟩ = some (.int .i64 x.s) ∧ w'.cell? ⟨w1.heap.size, 2, none⟩ = some (.slice p.u x.us.length p.uc) ∧ w'.cell? ⟨w1.heap.size, 3, none⟩ = some (.slice p.f x.fs.length p.fc) ∧ w'.cell? ⟨w1.heap.size, 4, none⟩ = some (.slice p.a x.fa.length p.ac) ∧ w'.cell? ⟨w1.heap.size, 5, none⟩ = some (.slice p.s x.se.length p.sc) ∧ w'.cell? ⟨w1.heap.size, 6, none⟩ = some (.slice p.o x.oo.length p.oc) ∧ w'.cell? ⟨w3.heap.size, 0, none⟩ = some (.int .i64 C) ∧ w1.heap.size < w'.heap.size ∧ w3.heap.size < w'.heap.size := fun w' h h' => by
        obtain ⟨a0, a1, a2, a3, a4, a5, a6, al⟩ := (HX.out.below h).c7
        have cc := (HP.out.below h').cell (i := 0) rfl
        exact ⟨a0, a1, a2, a3, a4, a5, a6, cc, al, (HP.out.below h').lt⟩
      obtain ⟨a0, a1, a2, a3, a4, a5, a6, c0, al, cl⟩ := keep _ K4 (Below.refl _ _)
      have Bd : Below W2.heap.size W2 W4.drew := K4.trans ((Below.refl _ _).drew.mono K4.size)
      have Be : Below W4.heap.size W4 W4.drew := (Below.refl _ _).drew
      clear P7
      go_upto_region 6 with fail
      go_region_held3 (fun w' => w'.cell? ⟨w1.heap.size, 0, none⟩ = some (.int .i64 x.t) ∧ w'.cell? ⟨w1.heap.size, 1, none⟩ = some (.int .i64 x.s) ∧ w'.cell? ⟨w1.heap.size, 2, none⟩ = some (.slice p.u x.us.length p.uc) ∧ w'.cell? ⟨w1.heap.size, 3, none⟩ = some (.slice p.f x.fs.length p.fc) ∧ w'.cell? ⟨w1.heap.size, 4, none⟩ = some (.slice p.a x.fa.length p.ac) ∧ w'.cell? ⟨w1.heap.size, 5, none⟩ = some (.slice p.s x.se.length p.sc) ∧ w'.cell? ⟨w1.heap.size, 6, none⟩ = some (.slice p.o x.oo.length p.oc) ∧ w'.cell? ⟨w3.heap.size, 0, none⟩ = some (.int .i64 C)) (first | exact (by obtain ⟨a0, a1, a2, a3, a4, a5, a6, c0, _, _⟩ := keep _ Bd Be; exact ⟨a0, a1, a2, a3, a4, a5, a6, c0⟩) | go_keep) (first
        | (go_at_call 37; refine (sP _ Bd).mono ?_; rintro e wn ⟨rfl, kn⟩; have Bd := Bd.trans (kn.mono Bd.size); have Be := Be.trans (kn.mono Be.size); obtain ⟨a0, a1, a2, a3, a4, a5, a6, c0, al, cl⟩ := keep _ Bd Be))
      all_goals
        go_wp2_with fail
        go_ret
        exact ⟨rfl, HB2.out.trans (Bd.mono HB2.out.size)⟩
    · obtain rfl : C = 0 := by simpa using e2
      have L := Hgood.out rfl
      have eN : soC hasI X i = 4 := by rw [HXX.out]; exact L.none'
      have eW : wf hasI X = 0 := by rw [HXX.out]; exact L.wf0
      have Hl4 : Hid (X.fa.length = 4) := by show _ = _; rw [HXX.out]; exact L.f4
      have htX : Hid (toV hasI X = totF x) := by show _ = _; unfold toV; rw [eW, HXX.out, L.tot]; rfl
      have htx : Hid (toV hasI x = totF x) := by show _ = _; unfold toV; rw [L.wfx]; rfl
      have cS := implSeatOf p x W4 (HO.out.later K4).in i
      rw [L.so0] at cS
      have Hln := oth_last L.so0
      have hg := L.gone
      rw [← HXX.out] at hg
      have f0 := L.f0
      have f3 := L.f3
      generalize soS hasI x i = S at cS Hln hg f0 f3
      obtain ⟨S0, S1', S2, S3⟩ := S
      dsimp only at Hln hg f0 f3
      obtain ⟨f, rfl⟩ : ∃ f : Nat, S1' = (f : Int) := ⟨S1'.toNat, by omega⟩
      have hf4 : f < 4 := by omega
      have HN : Hid (goneA X.fa (f : Int) = (othS (f : Int) i x.se == 0)) := by
        show _ = _
        rw [hg, Bool.eq_iff_iff, Hln]; simp
      obtain ⟨G, HG⟩ : ∃ G, Hid (G = goneA X.fa (f : Int)) := ⟨_, rfl⟩
      obtain ⟨y0, hy0, _, hy1, _⟩ := at_get Hl4.out f0 f3
      rw [Int.toNat_natCast] at hy0
      rw [← HG.out] at hy1
      obtain ⟨qu, quc, qf, qfc, qa, qac, qs, qsc, qo, qoc⟩ := q
      obtain ⟨ba, oa, hqa, hba, hat⟩ := HO4.out.in.a.arg.at hy0
      dsimp only at hqa
      subst hqa
      have keep : ∀ w', Below W4.heap.size W4 w' → w'.cell? ⟨w1.heap.size, 0, none⟩ = some (.int .i64 x.t) ∧ w'.cell? ⟨w1.heap.size, 1, none⟩ = some (.int .i64 x.s) ∧ w'.cell? ⟨w1.heap.size, 2, none⟩ = some (.slice p.u x.us.length p.uc) ∧ w'.cell? ⟨w1.heap.size, 3, none⟩ = some (.slice p.f x.fs.length p.fc) ∧ w'.cell? ⟨w1.heap.size, 4, none⟩ = some (.slice p.a x.fa.length p.ac) ∧ w'.cell? ⟨w1.heap.size, 5, none⟩ = some (.slice p.s x.se.length p.sc) ∧ w'.cell? ⟨w1.heap.size, 6, none⟩ = some (.slice p.o x.oo.length p.oc) ∧ w'.cell? ⟨w3.heap.size, 1, none⟩ = some (.int .i64 X.t) ∧ w'.cell? ⟨w3.heap.size, 2, none⟩ = some (.int .i64 X.s) ∧ w'.cell? ⟨w3.heap.size, 3, none⟩ = some (.slice qu X.us.length quc) ∧ w'.cell? ⟨w3.heap.size, 4, none⟩ = some (.slice qf X.fs.length qfc) ∧ w'.cell? ⟨w3.heap.size, 5, none⟩ = some (.slice (some ⟨ba, oa, none⟩) X.fa.length qac) ∧ w'.cell? ⟨w3.heap.size, 6, none⟩ = some (.slice qs X.se.length qsc) ∧ w'.cell? ⟨w3.heap.size, 7, none⟩ = some (.slice qo X.oo.length qoc) ∧ w'.cell? ⟨ba, oa + f * 3 + 1, none⟩ = some (.bool G) ∧ w1.heap.size < w'.heap.size ∧ w3.heap.size < w'.heap.size ∧ ba < w'.heap.size := fun w' h => by
        have h2 := HK4.out.trans (h.mono HK4.out.size)
        obtain ⟨a0, a1, a2, a3, a4, a5, a6, al⟩ := (HX.out.below h2).c7
        have P7 := HP.out.below h
        have hl := Nat.lt_of_lt_of_le hba h.size
        have r1 := ((hat.later hba h).one hl hy0).c1
        rw [← hy1] at r1
        exact ⟨a0, a1, a2, a3, a4, a5, a6, P7.cell rfl, P7.cell rfl, P7.cell rfl, P7.cell rfl, P7.cell rfl, P7.cell rfl, P7.cell rfl, r1, al, P7.lt, hl⟩
      have HE4 : Hid (wf hasI X = 0 ∧ soC hasI X i = 4) := ⟨eW, eN⟩
      have h4I : ((X.fa.length : Int) != 4) = false := by rw [Hl4.out]; rfl
      have hltA : (f : Int) < (X.fa.length : Int) := by rw [Hl4.out]; omega
      have nf0 : ¬ (f : Int) < 0 := by omega
      have nf3 : ¬ (3 : Int) < (f : Int) := by omega
      have Hf : Hid (f < 4) := hf4
      clear L e2 eN eW hg Hln cl P7 hf4 f0 f3
      obtain ⟨a0, a1, a2, a3, a4, a5, a6, c1, c2, c3, c4, c5, c6, c7, g1, al, cl, bl⟩ := keep _ (Below.refl _ _)
      go_wp2_with fail
      refine cS.mono ?_
      rintro e w5 ⟨rfl, k5⟩
      have Bx : Below W4.heap.size W4 w5 := k5
      clear c0 cS k5 a0 a1 a2 a3 a4 a5 a6 c1 c2 c3 c4 c5 c6 c7 g1 al cl bl
      obtain ⟨a0, a1, a2, a3, a4, a5, a6, c1, c2, c3, c4, c5, c6, c7, g1, al, cl, bl⟩ := keep _ Bx
      go_wp2_with fail
      go_loopw [7, 8] (fun nv iv wr => ∃ k : Nat, k ≤ x.se.length ∧ nv = .int .i64 (othS (f : Int) i (x.se.take k)) ∧ iv = .int .i64 k ∧ Below W4.heap.size W4 wr) (fun _ iv _ => x.se.length - (intOf iv).toNat)
      case atStart => exact ⟨0, Nat.zero_le _, rfl, rfl, Bx⟩
      case round =>
        clear a0 a1 a2 a3 a4 a5 a6 c1 c2 c3 c4 c5 c6 c7 g1 al cl bl
        obtain ⟨k, hk, rfl, rfl, Br⟩ := hrel
        obtain ⟨a0, a1, a2, a3, a4, a5, a6, c1, c2, c3, c4, c5, c6, c7, g1, al, cl, bl⟩ := keep _ Br
        obtain ⟨N, HNN⟩ : ∃ N, Hid (N = othS (f : Int) i (x.se.take k)) := ⟨_, rfl⟩
        rw [← HNN.out]
        have nb := othS_bd (f := (f : Int)) (c := i) (x.se.take k)
        rw [← HNN.out, List.length_take] at nb
        have nW : IntKind.i64.wrap (N + 1) = N + 1 := wrapS (by omega) (by omega)
        by_cases hlt : k < x.se.length
        · have hlt' : (k : Int) < (x.se.length : Int) := by omega
          have Hlt : Hid (k < x.se.length) := hlt
          obtain ⟨y, hy⟩ : ∃ y, x.se[k]? = some y := ⟨_, List.getElem?_eq_getElem hlt⟩
          obtain ⟨g, off, hps, hgl, hat2⟩ := (HO.out.later (HK4.out.trans (Br.mono HK4.out.size))).in.s.arg.at hy
          obtain ⟨x0, x1, x2, x3, xl⟩ := hat2.one hgl hy
          rw [hps] at a5
          have Hst := othS_take (f := (f : Int)) (c := i) hy
          rw [← HNN.out] at Hst
          clear hat2 hy nb
          cases e1 : y.c1 == (f : Int)
          · have HE : Hid (othS (f : Int) i (x.se.take (k + 1)) = N) := by show _ = _; rw [Hst, e1]; simp
            clear Hst
            go_wp2_with fail
            go_roundw
            case rel => exact ⟨k + 1, by have := Hlt.out; omega, by rw [HE.out], by go_num, Br⟩
            case measure => have := Hlt.out; simp [intOf]; omega
          · cases hq : y.c0 == i
            · have hq' : (y.c0 != i) = true := by simp only [bne, hq]; rfl
              have HE : Hid (othS (f : Int) i (x.se.take (k + 1)) = N + 1) := by show _ = _; rw [Hst, e1, hq']; simp
              clear Hst
              go_wp2_with fail
              go_roundw
              case rel => exact ⟨k + 1, by have := Hlt.out; omega, by rw [HE.out], by go_num, Br⟩
              case measure => have := Hlt.out; simp [intOf]; omega
            · have hq' : (y.c0 != i) = false := by simp only [bne, hq]; rfl
              have HE : Hid (othS (f : Int) i (x.se.take (k + 1)) = N) := by show _ = _; rw [Hst, e1, hq']; simp
              clear Hst
              go_wp2_with fail
              go_roundw
              case rel => exact ⟨k + 1, by have := Hlt.out; omega, by rw [HE.out], by go_num, Br⟩
              case measure => have := Hlt.out; simp [intOf]; omega
        · obtain rfl : k = x.se.length := by omega
          have hlt' : ¬ (x.se.length : Int) < (x.se.length : Int) := by omega
          have HGN : Hid (G = (N == 0)) := by show _ = _; rw [HG.out, HN.out, HNN.out, List.take_length]
          have Bc : Below W4.heap.size W4 wr.drew := Br.trans ((Below.refl _ _).drew.mono Br.size)
          have cF := fun W' (h : Below W4.heap.size W4 W') => implWorldFault ⟨qu, quc, qf, qfc, some ⟨ba, oa, none⟩, qac, qs, qsc, qo, qoc⟩ X (HO4.out.in.o1) (HO4.out.in.o2) W' (HO4.out.later h).in.arg
          rw [HE4.out.1] at cF
          have cSX := fun W' (h : Below W4.heap.size W4 W') => implSeatOf ⟨qu, quc, qf, qfc, some ⟨ba, oa, none⟩, qac, qs, qsc, qo, qoc⟩ X W' (HO4.out.later h).in i
          rw [HE4.out.2] at cSX
          have cTX := fun W' (h : Below W4.heap.size W4 W') => implTotalOf ⟨qu, quc, qf, qfc, some ⟨ba, oa, none⟩, qac, qs, qsc, qo, qoc⟩ X W' (HO4.out.later h).in
          have cTx := fun W' (h : Below W4.heap.size W4 W') => implTotalOf p x W' (HO.out.later (HK4.out.trans (h.mono HK4.out.size))).in
          rw [htX.out] at cTX
          rw [htx.out] at cTx
          have nT : (totF x == totF x) = true := by simp
          generalize totF x = TT at cTX cTx nT
          generalize wf hasI X = P1 at cTX
          generalize wf hasI x = P2 at cTx
          generalize soS hasI X i = S9 at cSX
          clear hlt nb nW hy1
          cases hz : N == 0
          · obtain rfl : G = false := by rw [HGN.out, hz]
            go_upto_region 16 with fail
            go_region_held3 (fun w' => w'.cell? ⟨w1.heap.size, 0, none⟩ = some (.int .i64 x.t) ∧ w'.cell? ⟨w1.heap.size, 1, none⟩ = some (.int .i64 x.s) ∧ w'.cell? ⟨w1.heap.size, 2, none⟩ = some (.slice p.u x.us.length p.uc) ∧ w'.cell? ⟨w1.heap.size, 3, none⟩ = some (.slice p.f x.fs.length p.fc) ∧ w'.cell? ⟨w1.heap.size, 4, none⟩ = some (.slice p.a x.fa.length p.ac) ∧ w'.cell? ⟨w1.heap.size, 5, none⟩ = some (.slice p.s x.se.length p.sc) ∧ w'.cell? ⟨w1.heap.size, 6, none⟩ = some (.slice p.o x.oo.length p.oc) ∧ w'.cell? ⟨w3.heap.size, 1, none⟩ = some (.int .i64 X.t) ∧ w'.cell? ⟨w3.heap.size, 2, none⟩ = some (.int .i64 X.s) ∧ w'.cell? ⟨w3.heap.size, 3, none⟩ = some (.slice qu X.us.length quc) ∧ w'.cell? ⟨w3.heap.size, 4, none⟩ = some (.slice qf X.fs.length qfc) ∧ w'.cell? ⟨w3.heap.size, 5, none⟩ = some (.slice (some ⟨ba, oa, none⟩) X.fa.length qac) ∧ w'.cell? ⟨w3.heap.size, 6, none⟩ = some (.slice qs X.se.length qsc) ∧ w'.cell? ⟨w3.heap.size, 7, none⟩ = some (.slice qo X.oo.length qoc) ∧ w'.cell? ⟨ba, oa + f * 3 + 1, none⟩ = some (.bool false)) (first | exact (by obtain ⟨a0, a1, a2, a3, a4, a5, a6, c1, c2, c3, c4, c5, c6, c7, g1, _, _, _⟩ := keep _ Bc; exact ⟨a0, a1, a2, a3, a4, a5, a6, c1, c2, c3, c4, c5, c6, c7, g1⟩) | go_keep) (first
              | (go_at_call 16; with_reducible refine (cF _ Bc).mono ?_; rintro e wn ⟨rfl, kn⟩; have Bc := Bc.trans (kn.mono Bc.size); obtain ⟨a0, a1, a2, a3, a4, a5, a6, c1, c2, c3, c4, c5, c6, c7, g1, al, cl, bl⟩ := keep _ Bc)
              | (go_at_call 38; with_reducible refine (cSX _ Bc).mono ?_; rintro e wn ⟨rfl, kn⟩; have Bc := Bc.trans (kn.mono Bc.size); obtain ⟨a0, a1, a2, a3, a4, a5, a6, c1, c2, c3, c4, c5, c6, c7, g1, al, cl, bl⟩ := keep _ Bc)
              | (go_at_call 34; with_reducible refine (cTX _ Bc).mono ?_; rintro e wn ⟨rfl, kn⟩; have Bc := Bc.trans (kn.mono Bc.size); obtain ⟨a0, a1, a2, a3, a4, a5, a6, c1, c2, c3, c4, c5, c6, c7, g1, al, cl, bl⟩ := keep _ Bc)
              | (go_at_call 34; with_reducible refine (cTx _ Bc).mono ?_; rintro e wn ⟨rfl, kn⟩; have Bc := Bc.trans (kn.mono Bc.size); obtain ⟨a0, a1, a2, a3, a4, a5, a6, c1, c2, c3, c4, c5, c6, c7, g1, al, cl, bl⟩ := keep _ Bc))
            all_goals
              go_wp2_with fail
              go_ret
              exact ⟨rfl, HB2.out.trans ((HK4.out.trans (Bc.mono HK4.out.size)).mono HB2.out.size)⟩
          · obtain rfl : G = true := by rw [HGN.out, hz]
            go_upto_region 16 with fail
            go_region_held3 (fun w' => w'.cell? ⟨w1.heap.size, 0, none⟩ = some (.int .i64 x.t) ∧ w'.cell? ⟨w1.heap.size, 1, none⟩ = some (.int .i64 x.s) ∧ w'.cell? ⟨w1.heap.size, 2, none⟩ = some (.slice p.u x.us.length p.uc) ∧ w'.cell? ⟨w1.heap.size, 3, none⟩ = some (.slice p.f x.fs.length p.fc) ∧ w'.cell? ⟨w1.heap.size, 4, none⟩ = some (.slice p.a x.fa.length p.ac) ∧ w'.cell? ⟨w1.heap.size, 5, none⟩ = some (.slice p.s x.se.length p.sc) ∧ w'.cell? ⟨w1.heap.size, 6, none⟩ = some (.slice p.o x.oo.length p.oc) ∧ w'.cell? ⟨w3.heap.size, 1, none⟩ = some (.int .i64 X.t) ∧ w'.cell? ⟨w3.heap.size, 2, none⟩ = some (.int .i64 X.s) ∧ w'.cell? ⟨w3.heap.size, 3, none⟩ = some (.slice qu X.us.length quc) ∧ w'.cell? ⟨w3.heap.size, 4, none⟩ = some (.slice qf X.fs.length qfc) ∧ w'.cell? ⟨w3.heap.size, 5, none⟩ = some (.slice (some ⟨ba, oa, none⟩) X.fa.length qac) ∧ w'.cell? ⟨w3.heap.size, 6, none⟩ = some (.slice qs X.se.length qsc) ∧ w'.cell? ⟨w3.heap.size, 7, none⟩ = some (.slice qo X.oo.length qoc) ∧ w'.cell? ⟨ba, oa + f * 3 + 1, none⟩ = some (.bool true)) (first | exact (by obtain ⟨a0, a1, a2, a3, a4, a5, a6, c1, c2, c3, c4, c5, c6, c7, g1, _, _, _⟩ := keep _ Bc; exact ⟨a0, a1, a2, a3, a4, a5, a6, c1, c2, c3, c4, c5, c6, c7, g1⟩) | go_keep) (first
              | (go_at_call 16; with_reducible refine (cF _ Bc).mono ?_; rintro e wn ⟨rfl, kn⟩; have Bc := Bc.trans (kn.mono Bc.size); obtain ⟨a0, a1, a2, a3, a4, a5, a6, c1, c2, c3, c4, c5, c6, c7, g1, al, cl, bl⟩ := keep _ Bc)
              | (go_at_call 38; with_reducible refine (cSX _ Bc).mono ?_; rintro e wn ⟨rfl, kn⟩; have Bc := Bc.trans (kn.mono Bc.size); obtain ⟨a0, a1, a2, a3, a4, a5, a6, c1, c2, c3, c4, c5, c6, c7, g1, al, cl, bl⟩ := keep _ Bc)
              | (go_at_call 34; with_reducible refine (cTX _ Bc).mono ?_; rintro e wn ⟨rfl, kn⟩; have Bc := Bc.trans (kn.mono Bc.size); obtain ⟨a0, a1, a2, a3, a4, a5, a6, c1, c2, c3, c4, c5, c6, c7, g1, al, cl, bl⟩ := keep _ Bc)
              | (go_at_call 34; with_reducible refine (cTx _ Bc).mono ?_; rintro e wn ⟨rfl, kn⟩; have Bc := Bc.trans (kn.mono Bc.size); obtain ⟨a0, a1, a2, a3, a4, a5, a6, c1, c2, c3, c4, c5, c6, c7, g1, al, cl, bl⟩ := keep _ Bc))
            all_goals
              go_wp2_with fail
              go_ret
              exact ⟨rfl, HB2.out.trans ((HK4.out.trans (Bc.mono HK4.out.size)).mono HB2.out.size)⟩
  · go_enter Tryz.func6, Tryz.ntmps6
    go_wp2_with fail
    refine (lwBig_yes _ a len cap (by omega)).mono ?_
    rintro e w' ⟨rfl, rfl⟩
    go_wp2
    go_ret
    exact ⟨rfl, Below.refl _ _⟩
end Go.Proofs.YthopodopedbooaaGreat
end

/- LawLeavesRow -/
/- The walk of the law FnLeaves, at a slice of bytes that came in. No condition. -/
section
namespace Go.Proofs.YthopodopedbooaaGreat
open Go.ChangeShapes Go.WideShapes Go.ChangeAt Go.RowKit
theorem walk_fnLeaves (a0 : Option Addr) (len0 cap0 : Nat) (z0 : List Int) (w : World) (w0 : IsRow .u8 w a0 len0 cap0 z0) :
    Calls Tryz.prog 6 #[.slice a0 len0 cap0] w fun e w' => e = .returned (.bool true) ∧ Below w.heap.size w w' := leaves_walk a0 len0 cap0 w (Bytes.of_row w0)
end Go.Proofs.YthopodopedbooaaGreat
end
