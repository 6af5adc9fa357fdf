/- Texts of mine put together (a claim holds at most 60 files): LawHalves, LawHalvesRow. -/
import Derived.Test.YtepjkcfheejlbaaGreatDoorPartD04
import Derived.Test.YtepjkcfheejlbaaGreatDoorPartT34

/- LawHalves -/
/- The walk of the law FnHalves. Condition: the homes lie in their variable. -/
section
namespace Go.Proofs.YtepjkcfheejlbaaGreatDoor
open Go.ChangeShapes Go.WideShapes Go.ChangeAt Go.RowKit
open Bd
set_option linter.unusedVariables false

set_option maxRecDepth 20000 in
set_option maxHeartbeats 16000000 in
theorem halves_walk (a : Option Addr) (len cap : Nat) (W : World) (hb : Bytes W a len W.heap.size) (hL : HmAt W) :
    Calls Tryz.prog 4 #[.slice a len cap] W fun e w' => e = .returned (.bool true) ∧ Below W.heap.size W w' := by
  by_cases hl : len ≤ 1048576
  · have cB := fun w => lwBig_no w a len cap hl
    go_enter Tryz.func4, Tryz.ntmps4
    go_wp2_with (go_at_call 8; refine (cB _).mono ?_; rintro e w1 ⟨rfl, hw1⟩; obtain rfl := hw1.symm)
    refine (drawTickBoard_c W a len cap hb hl).mono ?_
    rintro e w1 ⟨v1, f1, us, fs, gr, og, mr, cr, rm, rfl, S1, F1, hus, hfs, hrm, hmr, I1, hg1, k1⟩
    obtain ⟨p1, c1, m1, rfl, Hm1, X1⟩ := S1.nm
    obtain ⟨p1', c1', m1', rfl, Hm1', G1⟩ := F1.nm
    obtain ⟨W2, HW2⟩ : ∃ W2, Hid (W2 = w1.alloc (.cells #[.slice p1 m1 c1, .slice p1' m1' c1'] 27)) := ⟨_, rfl⟩
    have k2 : Below w1.heap.size w1 W2 := by rw [HW2.out]; exact (Below.refl _ _).alloc (Nat.le_refl _) _
    have Bb : Hid (Blk W2 w1.heap.size #[.slice p1 m1 c1, .slice p1' m1' c1'] 27) := by show Blk _ _ _ _; rw [HW2.out]; exact Blk.new w1 #[.slice p1 m1 c1, .slice p1' m1' c1'] 27
    have B2 := k1.trans (k2.mono k1.size)
    have T2 : Hid (TIn W2 p1 m1 c1 p1' m1' c1' gr og mr cr us fs rm) := ⟨Hm1.out, Hm1'.out, hrm, by omega, X1.later k2, G1.later k2, I1.later hg1 k2, Nat.lt_of_lt_of_le hg1 k2.size⟩
    have HL : Hid (HmAt W2) := hL.later B2
    have HB : Hid (Bytes W2 a len W2.heap.size) := hb.later B2
    have HB2 : Hid (Below W.heap.size W W2) := B2
    have cT := implTickBoard p1 m1 c1 p1' m1' c1' gr og mr cr us fs rm W2 HL.out T2.out
    have cM := fun (n : Int) W' (h : Below W2.heap.size W2 W') => implTickMany p1 m1 c1 p1' m1' c1' gr og mr cr us fs n rm W' (HL.out.later h) (T2.out.later h)
    clear S1 F1 X1 G1 I1 hg1 k1 k2 B2 hb hL cB
    go_upto_region 4 with fail
    rw [← HW2.out]
    have f0 : ∀ (x g l v f : Value) (w : World), (Instr.field 32 (.agg #[x, g, l, v, f]) 0).run Tryz.prog w = .ok x w := fun _ _ _ _ _ _ => by kernel_rfl
    have f3 : ∀ (x g l v f : Value) (w : World), (Instr.field 32 (.agg #[x, g, l, v, f]) 3).run Tryz.prog w = .ok (.agg #[v, f]) w := fun _ _ _ _ _ _ => by kernel_rfl
    have b0 := Bb.out.cell (i := 0) rfl
    have b1 := Bb.out.cell (i := 1) rfl
    have bl := Bb.out.lt
    rcases tb_cases us fs rm with ⟨h1, e⟩ | ⟨h1, e⟩
    · -- a fault
      rw [e] at cT
      have sT := fun W' (h : Below W2.heap.size W2 W') => specTickBoard_no p1 m1 c1 p1' m1' c1' gr og mr cr us fs rm _ h1 rfl W' (T2.out.later h)
      have h1' := bne_of h1
      generalize tkF us fs rm = R at h1 h1' cT sT
      have eC : (TR.no R).c = R := rfl
      have eL : (TR.no R).l = 0 := rfl
      rw [eC, eL] at cT
      clear e cM eC eL
      go_wp2_with fail
      refine cT.mono ?_
      rintro e w3 ⟨q, v, f, rfl, R3, k3⟩
      obtain ⟨a1, n1, d1, a2, n2, d2, a3, n3, d3, rfl, rfl, rfl⟩ := R3.nm0
      obtain ⟨W4, HW4⟩ : ∃ W4, Hid (W4 = w3.alloc (.cells (resV R (.slice a1 n1 d1) 0 (.slice a2 n2 d2) (.slice a3 n3 d3)) 32)) := ⟨_, rfl⟩
      have k4 : Below w3.heap.size w3 W4 := by rw [HW4.out]; exact (Below.refl _ _).alloc (Nat.le_refl _) _
      have Tb : Hid (Blk W4 w3.heap.size (resV R (.slice a1 n1 d1) 0 (.slice a2 n2 d2) (.slice a3 n3 d3)) 32) := by show Blk _ _ _ _; rw [HW4.out]; exact Blk.new w3 _ 32
      have K4 : Below W2.heap.size W2 W4 := k3.trans (k4.mono k3.size)
      clear b0 b1 bl cT
      go_upto_region 5 with fail
      rw [← HW4.out]
      have b4 := Bb.out.below K4
      have t0 := fun n : Later W4 => Later.cell Tb.out.lt (Tb.out.cell (i := 0) rfl) n
      have b0 := fun n : Later W4 => Later.cell b4.lt (b4.cell (i := 0) rfl) n
      have b1 := fun n : Later W4 => Later.cell b4.lt (b4.cell (i := 1) rfl) n
      have sT' := fun n : Later W4 => sT n.at (K4.trans (n.bel.mono K4.size))
      have nR : (R != R) = false := by simp
      clear sT
      refine wp_region_later (by kernel_rfl) (by kernel_rfl) (fun hne => ?_)
      repeat (go_big_quiet_step ((go_at_call 23; exact Later.call (sT' _))))
      refine wpQuiet_nil ?_
      rintro _ ⟨nn, rfl⟩
      have hN := nn.bel
      have t0' := t0 nn
      have tl : w3.heap.size < nn.at.heap.size := Nat.lt_of_lt_of_le Tb.out.lt hN.size
      have hE := HB2.out.trans ((K4.trans (hN.mono K4.size)).mono HB2.out.size)
      clear t0 b0 b1 sT'
      go_wp2_with fail
      go_ret
      exact ⟨rfl, hE⟩
    · -- no fault
      have tgB := tg0 h1
      have tg1 : Hid (TG (tkB (ts0 us fs rm))) := tgB.tick
      have hm4 : mr = 4 := by have := (tkF_ok h1).2.1; omega
      subst hm4
      have Hrm : Hid (rm.length = 4) := hrm
      clear hrm
      have sT := fun W' (h : Below W2.heap.size W2 W') => specTickBoard p1 m1 c1 p1' m1' c1' gr og 4 cr us fs rm W' (T2.out.later h)
      have c1M := fun W' (h : Below W2.heap.size W2 W') => cM 1 W' h
      rw [e] at cT sT c1M
      have H1 : Hid (tkF us fs rm = 0) := h1
      obtain ⟨s1, Hs1⟩ : ∃ s1, Hid (s1 = tkB (ts0 us fs rm)) := ⟨_, rfl⟩
      rw [← Hs1.out] at cT sT c1M tg1
      have eC : (TR.of s1).c = 0 := rfl
      have eL : (TR.of s1).l = s1.lost := rfl
      rw [eC, eL] at cT sT c1M
      clear e eC eL h1 tgB
      go_wp2_with fail
      refine cT.mono ?_
      rintro e w3 ⟨q, v, f, rfl, R3, k3⟩
      obtain ⟨gq, cq, p3, c3, m3, p3', c3', m3', rfl, rfl, rfl, Hm3, Hm3', L3, X3, Y3⟩ := R3.nm tg1.out
      obtain ⟨W4, HW4⟩ : ∃ W4, Hid (W4 = w3.alloc (.cells (resV 0 (.slice (some ⟨gq, 0, none⟩) 4 cq) s1.lost (.slice p3 m3 c3) (.slice p3' m3' c3')) 32)) := ⟨_, rfl⟩
      have k4 : Below w3.heap.size w3 W4 := by rw [HW4.out]; exact (Below.refl _ _).alloc (Nat.le_refl _) _
      have Tb : Hid (Blk W4 w3.heap.size (resV 0 (.slice (some ⟨gq, 0, none⟩) 4 cq) s1.lost (.slice p3 m3 c3) (.slice p3' m3' c3')) 32) := by show Blk _ _ _ _; rw [HW4.out]; exact Blk.new w3 _ 32
      have K4 : Below W2.heap.size W2 W4 := k3.trans (k4.mono k3.size)
      have X4 := X3.later k4
      have Y4 := Y3.later k4
      have hm3 : m3 ≤ 1000 := by have := tg1.out.gd.n8; have := Hm3.out; omega
      have hm3' : m3' ≤ 1000 := by have := tg1.out.gd.n4; have := Hm3'.out; omega
      have keep : ∀ w', Below W2.heap.size W2 w' → Below W4.heap.size W4 w' → w'.cell? ⟨w3.heap.size, 0, none⟩ = some (.int .i64 0) ∧ w'.cell? ⟨w3.heap.size, 3, none⟩ = some (.slice p3 m3 c3) ∧ w'.cell? ⟨w3.heap.size, 4, none⟩ = some (.slice p3' m3' c3') ∧ w'.cell? ⟨w1.heap.size, 0, none⟩ = some (.slice p1 m1 c1) ∧ w'.cell? ⟨w1.heap.size, 1, none⟩ = some (.slice p1' m1' c1') := fun w' h h' => ⟨(Tb.out.below h').cell (i := 0) rfl, (Tb.out.below h').cell (i := 3) rfl, (Tb.out.below h').cell (i := 4) rfl, (Bb.out.below h).cell (i := 0) rfl, (Bb.out.below h).cell (i := 1) rfl⟩
      have same := fun W' (h : Below W4.heap.size W4 W') p c p' c' (U' : ArgU W' p s1.us) (F' : ArgF W' p' s1.fs) => sameB_in W' p3 p3' p p' m3 m3' c3 c3' c c' s1.us s1.fs Hm3.out Hm3'.out hm3 hm3' (X4.arg' h) (Y4.arg' h) U' F'
      clear b0 b1 bl cT R3 X3 Y3 L3
      go_upto_region 5 with fail
      rw [← HW4.out]
      obtain ⟨t0, t3, t4, b0, b1⟩ := keep W4 K4 (Below.refl _ _)
      have tl := Tb.out.lt
      have bl := (Bb.out.below K4).lt
      have Bc : Below W4.heap.size W4 W4.drew := (Below.refl _ _).drew
      have Bd : Below W2.heap.size W2 W4.drew := K4.trans (Bc.mono K4.size)
      go_cut [44] from 23 to 44 (fun s wx => s = .bool false ∧ Below W4.heap.size W4 wx)
      case first =>
        go_region_held3 (fun w' => w'.cell? ⟨w3.heap.size, 0, none⟩ = some (.int .i64 0) ∧ w'.cell? ⟨w3.heap.size, 3, none⟩ = some (.slice p3 m3 c3) ∧ w'.cell? ⟨w3.heap.size, 4, none⟩ = some (.slice p3' m3' c3') ∧ w'.cell? ⟨w1.heap.size, 0, none⟩ = some (.slice p1 m1 c1) ∧ w'.cell? ⟨w1.heap.size, 1, none⟩ = some (.slice p1' m1' c1')) (first | exact keep _ Bd Bc | go_keep) (first
          | (go_at_call 23; refine (sT _ Bd).mono ?_; rintro e wn ⟨qn, vn, fn, rfl, Rn, kn⟩; have Bc := Bc.trans (kn.mono Bc.size); have Bd := Bd.trans (kn.mono Bd.size); obtain ⟨t0, t3, t4, b0, b1⟩ := keep _ Bd Bc)
          | (go_at_call 10; refine (c1M _ Bd).mono ?_; rintro e wn ⟨qm, vm, fm, rfl, Rm, km⟩; obtain ⟨gm, cm, pm, dm, mm, pm', dm', mm', rfl, rfl, rfl, Hmm, Hmm', Lm, Xm, Ym⟩ := Rm.nm tg1.out; obtain rfl : m3 = mm := by rw [← Hm3.out, ← Hmm.out]
             obtain rfl : m3' = mm' := by rw [← Hm3'.out, ← Hmm'.out]
             have Bc := Bc.trans (km.mono Bc.size); have Bd := Bd.trans (km.mono Bd.size); obtain ⟨t0, t3, t4, b0, b1⟩ := keep _ Bd Bc)
          | (go_at_call 15; refine (same _ Bc _ _ _ _ Xm.arg Ym.arg).mono ?_; rintro e wn ⟨rfl, ks⟩; have Bc := Bc.trans (ks.mono Bc.size); have Bd := Bd.trans (ks.mono Bd.size); obtain ⟨t0, t3, t4, b0, b1⟩ := keep _ Bd Bc))
        all_goals
          go_wp2_with fail
          go_meet
          case rel => exact ⟨rfl, Bc⟩
      case rest =>
        obtain ⟨rfl, Bx⟩ := hcut
        obtain ⟨wx, hwx⟩ : ∃ y : World, y = wc := ⟨_, rfl⟩
        subst hwx
        clear t0 t3 t4 b0 b1 tl bl Bc Bd same c1M sT
        obtain ⟨t0, t3, t4, b0, b1⟩ := keep wx (K4.trans (Bx.mono K4.size)) Bx
        have tl := (Tb.out.below Bx).lt
        have K5 := K4.trans (Bx.mono K4.size)
        clear b0 b1 t3 t4
        go_wp2_with fail
        refine (lwAt_c wx a len cap (HB.out.later K5) hl 3 8 (by omega) (by omega) (by omega) (by omega)).mono ?_
        rintro e w5 ⟨n, rfl, n0, n1, k5⟩
        have K5b := K5.trans (k5.mono K5.size)
        clear t0 tl
        go_wp2_with fail
        refine (lwAt_c w5 a len cap (HB.out.later K5b) hl 4 8 (by omega) (by omega) (by omega) (by omega)).mono ?_
        rintro e w6 ⟨m, rfl, m0, m6, k6⟩
        have K6 := K5b.trans (k6.mono K5b.size)
        obtain ⟨N, rfl⟩ : ∃ N : Nat, n = (N : Int) := ⟨n.toNat, by omega⟩
        obtain ⟨M, rfl⟩ : ∃ M : Nat, m = (M : Int) := ⟨m.toNat, by omega⟩
        have b0 := (Bb.out.below K6).cell (i := 0) rfl
        have b1 := (Bb.out.below K6).cell (i := 1) rfl
        have bl := (Bb.out.below K6).lt
        have cN := cM N w6 K6
        rw [tmR_of H1.out (by omega)] at cN
        have tg2 : Hid (TG (tkN N (ts0 us fs rm))) := (tg0 H1.out).ticks N
        have gl2 : Hid (∀ k, k < 4 → 0 ≤ (tkN N (ts0 us fs rm)).gn.getD k 0 ∧ (tkN N (ts0 us fs rm)).gn.getD k 0 ≤ rm.getD k 0 ∧ rm.getD k 0 - (tkN N (ts0 us fs rm)).gn.getD k 0 = (tkN N (ts0 us fs rm)).rm.getD k 0) := fun k hk => gain_le H1.out N hk
        have hv : Hid _ := halves H1.out N M
        obtain ⟨s2, Hs2⟩ : ∃ s2, Hid (s2 = tkN N (ts0 us fs rm)) := ⟨_, rfl⟩
        rw [← Hs2.out] at cN tg2 gl2 hv
        have eC : (TR.of s2).c = 0 := rfl
        have eL : (TR.of s2).l = s2.lost := rfl
        rw [eC, eL] at cN
        clear eC eL keep
        go_wp2_with fail
        refine cN.mono ?_
        rintro e w7 ⟨q, v, f, rfl, R7, k7⟩
        obtain ⟨g7, d7, p7, c7, m7, p7', c7', m7', rfl, rfl, rfl, Hm7, Hm7', L7, X7, Y7⟩ := R7.nm tg2.out
        obtain ⟨W8, HW8⟩ : ∃ W8, Hid (W8 = w7.alloc (.cells (resV 0 (.slice (some ⟨g7, 0, none⟩) 4 d7) s2.lost (.slice p7 m7 c7) (.slice p7' m7' c7')) 32)) := ⟨_, rfl⟩
        have k8 : Below w7.heap.size w7 W8 := by rw [HW8.out]; exact (Below.refl _ _).alloc (Nat.le_refl _) _
        have Ob : Hid (Blk W8 w7.heap.size (resV 0 (.slice (some ⟨g7, 0, none⟩) 4 d7) s2.lost (.slice p7 m7 c7) (.slice p7' m7' c7')) 32) := by show Blk _ _ _ _; rw [HW8.out]; exact Blk.new w7 _ 32
        have K7 := K6.trans (k7.mono K6.size)
        have K8 : Hid (Below W2.heap.size W2 W8) := K7.trans (k8.mono K7.size)
        have X8 : Hid (InU W8 p7 m7 c7 s2.us) := X7.later k8
        have Y8 : Hid (InF W8 p7' m7' c7' s2.fs) := Y7.later k8
        have L8 : Hid (Lst W8 g7 d7 s2.gn) := L7.below k8
        clear b0 b1 bl cN R7 X7 Y7 L7 k7 k8 K7
        go_upto_region 12 with fail
        rw [← HW8.out]
        have o1 := Ob.out.cell (i := 1) rfl
        have ol := Ob.out.lt
        obtain ⟨W9, HW9⟩ : ∃ W9, Hid (W9 = W8.alloc (.cells #[] 2)) := ⟨_, rfl⟩
        have S9 : SlI W9 W8.heap.size (.slice (some ⟨W8.heap.size, 0, none⟩) 0 0) [] := by rw [HW9.out]; exact empty_own W8
        have k9 : Below W8.heap.size W8 W9 := by rw [HW9.out]; exact (Below.refl _ _).alloc (Nat.le_refl _) _
        go_upto_region 15 with fail
        rw [← HW9.out]
        clear o1 ol
        go_wp2_with fail
        go_loopw [9, 10] (fun s i wr => ∃ (k : Nat) (p : Option Addr) (c : Nat), k ≤ 4 ∧ i = .int .i64 k ∧ s = .slice p k c ∧ Hid (SlI wr W8.heap.size (.slice p k c) (s2.rm.take k)) ∧ Hid (Value.slice p k c ≠ .slice none 0 0) ∧ Hid (Below W8.heap.size W8 wr)) (fun s i _ => 4 - (intOf i).toNat)
        case atStart => exact ⟨0, _, _, Nat.zero_le _, rfl, rfl, S9, by show _ ≠ _; simp, k9⟩
        case round =>
          obtain ⟨k, ps, cs, hk, rfl, rfl, hS, nn, hK⟩ := hrel
          by_cases hlt : k < 4
          · have hlt' : (k : Int) < 4 := by omega
            have o1 := (Ob.out.below hK.out).cell (i := 1) rfl
            have ol := (Ob.out.below hK.out).lt
            have hX : rm[k]? = some (rm.getD k 0) := getD_some (by have := Hrm.out; omega)
            have x0 := (T2.out.later (K8.out.trans (hK.out.mono K8.out.size))).r k _ hX
            have xl := (T2.out.later (K8.out.trans (hK.out.mono K8.out.size))).lr
            have hY : s2.gn[k]? = some (s2.gn.getD k 0) := getD_some (by have := tg2.out.gl; omega)
            have y0 := (L8.out.below hK.out).cell hY
            have yl := (L8.out.below hK.out).lt
            obtain ⟨q0, q1, q2⟩ := gl2.out k hlt
            have q3 := ((tkF_ok H1.out).2.2 _ (List.mem_of_getElem? hX)).2
            have HE : Hid (s2.rm.take k ++ [rm.getD k 0 - s2.gn.getD k 0] = s2.rm.take (k + 1)) := by show _ = _; rw [q2]; exact take_push (by have := tg2.out.rl; omega)
            generalize rm.getD k 0 = X at x0 q0 q1 q3 HE
            generalize s2.gn.getD k 0 = Y at y0 q0 q1 HE
            clear hX hY q2
            go_upto_region 18 with fail
            have hsz : W8.heap.size ≤ wr.heap.size := hK.out.size
            have hwz : Hid (IntKind.i64.wrap (X - Y) = X - Y) := by show _ = _; rw [IntKind.wrap_i64]; omega
            rw [← hwz.out] at HE
            go_region_law (first
              | (refine step_pushI rfl (.tmp 70) (.tmp 81) rfl wr.heap.size (IntKind.i64.wrap (X - Y)) W8.heap.size _ (s2.rm.take k) (by simp [Act.eval]; done) (SlI.alloc' (w := wr) hS.out _) nn.out (by simp [Act.eval]; done) (Blk.drew (Blk.new wr #[.int .i64 (IntKind.i64.wrap (X - Y))] 2)) (by rw [List.length_take]; omega) (by show W8.heap.size ≤ (World.alloc wr _).heap.size; rw [size_new]; omega) ?_; intro v3 w3 S3 g3 nn3))
            all_goals
              rw [HE.out] at S3
              obtain ⟨p3, c3, hv3⟩ := S3.form
              have el : (s2.rm.take (k + 1)).length = k + 1 := by rw [List.length_take, tg2.out.rl]; omega
              rw [el] at hv3
              subst hv3
              have K3' : Below W8.heap.size W8 w3 := (hK.out.trans (((Below.refl _ wr).alloc (Nat.le_refl _) (.cells #[.int .i64 (IntKind.i64.wrap (X - Y))] 2)).drew.mono hsz)).grown g3 (Nat.le_trans hsz (by show wr.heap.size ≤ (World.alloc wr _).heap.size; rw [size_new]; exact Nat.le_succ _)) (fun q hq => (hS.out.lt' q hq))
              go_wp2_with fail
              go_roundw
              case rel => exact ⟨k + 1, _, _, by omega, by go_num, rfl, S3, nn3, K3'⟩
              case measure => simp [intOf]; omega
          · obtain rfl : k = 4 := by omega
            have hS4 := hS.out
            rw [List.take_of_length_le (by have := tg2.out.rl; omega)] at hS4
            obtain ⟨g9, d9, e9, hg9, L9⟩ := hS4.addr nn.out
            simp only [Value.slice.injEq] at e9
            obtain ⟨rfl, h44, rfl⟩ := e9
            clear h44
            have K9 := K8.out.trans (hK.out.mono K8.out.size)
            obtain ⟨hvu, hvf, hvl, hv0⟩ := hv.out
            have HV0 : Hid (tkF s2.us s2.fs s2.rm = 0) := hv0
            have c2 := implTickMany p7 m7 c7 p7' m7' c7' g9 0 4 cs s2.us s2.fs M s2.rm wr (HL.out.later K9) ⟨Hm7.out, Hm7'.out, tg2.out.rl, by omega, X8.out.later hK.out, Y8.out.later hK.out, L9.iat, L9.lt⟩
            rw [tmR_of hv0 (by omega)] at c2
            have tg3 : Hid (TG (tkN M (ts0 s2.us s2.fs s2.rm))) := (tg0 hv0).ticks M
            obtain ⟨s3, Hs3⟩ : ∃ s3, Hid (s3 = tkN M (ts0 s2.us s2.fs s2.rm)) := ⟨_, rfl⟩
            obtain ⟨s4, Hs4⟩ : ∃ s4, Hid (s4 = tkN (N + M) (ts0 us fs rm)) := ⟨_, rfl⟩
            rw [← Hs3.out, ← Hs4.out] at hvu hvf hvl
            rw [← Hs3.out] at c2 tg3
            have eC : (TR.of s3).c = 0 := rfl
            have eL : (TR.of s3).l = s3.lost := rfl
            rw [eC, eL] at c2
            have HV : Hid (s4.us = s3.us ∧ s4.fs = s3.fs ∧ s4.lost = s2.lost + s3.lost) := ⟨hvu, hvf, hvl⟩
            have o3 : wr.cell? ⟨w7.heap.size, 3, none⟩ = some (.slice p7 m7 c7) := (Ob.out.below hK.out).cell (i := 3) rfl
            have o4 : wr.cell? ⟨w7.heap.size, 4, none⟩ = some (.slice p7' m7' c7') := (Ob.out.below hK.out).cell (i := 4) rfl
            have ol := (Ob.out.below hK.out).lt
            clear eC eL hvu hvf hvl hv0 hv hS4 L9 hg9 hS
            go_wp2_with fail
            refine c2.mono ?_
            rintro e w10 ⟨q, v, f, rfl, R10, k10⟩
            obtain ⟨g10, d10, p10, c10, m10, p10', c10', m10', rfl, rfl, rfl, Hm10, Hm10', L10, X10, Y10⟩ := R10.nm tg3.out
            obtain ⟨W11, HW11⟩ : ∃ W11, Hid (W11 = w10.alloc (.cells (resV 0 (.slice (some ⟨g10, 0, none⟩) 4 d10) s3.lost (.slice p10 m10 c10) (.slice p10' m10' c10')) 32)) := ⟨_, rfl⟩
            have k11 : Below w10.heap.size w10 W11 := by rw [HW11.out]; exact (Below.refl _ _).alloc (Nat.le_refl _) _
            have Tw : Hid (Blk W11 w10.heap.size (resV 0 (.slice (some ⟨g10, 0, none⟩) 4 d10) s3.lost (.slice p10 m10 c10) (.slice p10' m10' c10')) 32) := by show Blk _ _ _ _; rw [HW11.out]; exact Blk.new w10 _ 32
            have k9b : Below wr.heap.size wr W11 := k10.trans (k11.mono k10.size)
            have J11 : Hid (Below W8.heap.size W8 W11) := hK.out.trans (k9b.mono hK.out.size)
            have K11 : Below W2.heap.size W2 W11 := K9.trans (k9b.mono K9.size)
            have X11 := X10.later k11
            have Y11 := Y10.later k11
            have cA := cM ((N : Int) + (M : Int)) W11 K11
            have eNM : tmR us fs rm ((N : Int) + (M : Int)) = .of s4 := by rw [show (N : Int) + (M : Int) = ((N + M : Nat) : Int) from by omega, Hs4.out]; exact tmR_of H1.out (by omega)
            rw [eNM] at cA
            have eC : (TR.of s4).c = 0 := rfl
            have eL : (TR.of s4).l = s2.lost + s3.lost := HV.out.2.2
            rw [eC, eL] at cA
            have tg4 : Hid (TG s4) := by show TG _; rw [Hs4.out]; exact (tg0 H1.out).ticks (N + M)
            have b0 := (Bb.out.below K11).cell (i := 0) rfl
            have b1 := (Bb.out.below K11).cell (i := 1) rfl
            have bl := (Bb.out.below K11).lt
            clear o3 o4 ol c2 R10 X10 Y10 L10 eC eL eNM
            go_upto_region 20 with fail
            rw [← HW11.out]
            go_wp2_with fail
            refine cA.mono ?_
            rintro e w12 ⟨q, v, f, rfl, R12, k12⟩
            obtain ⟨g12, d12, p12, c12, m12, p12', c12', m12', rfl, rfl, rfl, Hm12, Hm12', L12, X12, Y12⟩ := R12.nm tg4.out
            rw [HV.out.1] at X12 Hm12
            rw [HV.out.2.1] at Y12 Hm12'
            obtain rfl : m10 = m12 := by rw [← Hm10.out, ← Hm12.out]
            obtain rfl : m10' = m12' := by rw [← Hm10'.out, ← Hm12'.out]
            obtain ⟨W13, HW13⟩ : ∃ W13, Hid (W13 = w12.alloc (.cells (resV 0 (.slice (some ⟨g12, 0, none⟩) 4 d12) (s2.lost + s3.lost) (.slice p12 m10 c12) (.slice p12' m10' c12')) 32)) := ⟨_, rfl⟩
            have k13 : Below w12.heap.size w12 W13 := by rw [HW13.out]; exact (Below.refl _ _).alloc (Nat.le_refl _) _
            have Ab : Hid (Blk W13 w12.heap.size (resV 0 (.slice (some ⟨g12, 0, none⟩) 4 d12) (s2.lost + s3.lost) (.slice p12 m10 c12) (.slice p12' m10' c12')) 32) := by show Blk _ _ _ _; rw [HW13.out]; exact Blk.new w12 _ 32
            have k11b : Below W11.heap.size W11 W13 := k12.trans (k13.mono k12.size)
            have hm3 : m10 ≤ 1000 := by have := tg3.out.gd.n8; have := Hm10.out; omega
            have hm3' : m10' ≤ 1000 := by have := tg3.out.gd.n4; have := Hm10'.out; omega
            have sB := sameB_in W13 p10 p10' p12 p12' m10 m10' c10 c10' c12 c12' s3.us s3.fs Hm10.out Hm10'.out hm3 hm3' (X11.arg' k11b) (Y11.arg' k11b) (X12.arg' k13) (Y12.arg' k13)
            have Tw3 := Tw.out.below k11b
            have Ob3 := (Ob.out.below J11.out).below k11b
            have K13 := HB2.out.trans ((K11.trans (k11b.mono K11.size)).mono HB2.out.size)
            obtain ⟨l20, l21⟩ := lost_bd tg2.out
            obtain ⟨l30, l31⟩ := lost_bd tg3.out
            clear b0 b1 bl cA R12 X12 Y12 L12 X11 Y11
            go_upto_region 21 with fail
            rw [← HW13.out]
            have j0 : W13.cell? ⟨w10.heap.size, 0, none⟩ = some (.int .i64 0) := Tw3.cell (i := 0) rfl
            have j3 : W13.cell? ⟨w10.heap.size, 3, none⟩ = some (.slice p10 m10 c10) := Tw3.cell (i := 3) rfl
            have j4 : W13.cell? ⟨w10.heap.size, 4, none⟩ = some (.slice p10' m10' c10') := Tw3.cell (i := 4) rfl
            have jl := Tw3.lt
            have i0 : W13.cell? ⟨w12.heap.size, 0, none⟩ = some (.int .i64 0) := Ab.out.cell (i := 0) rfl
            have i3 : W13.cell? ⟨w12.heap.size, 3, none⟩ = some (.slice p12 m10 c12) := Ab.out.cell (i := 3) rfl
            have i4 : W13.cell? ⟨w12.heap.size, 4, none⟩ = some (.slice p12' m10' c12') := Ab.out.cell (i := 4) rfl
            have il := Ab.out.lt
            generalize s2.lost = LA at *
            generalize s3.lost = LB at *
            go_wp2_with fail
            refine sB.mono ?_
            rintro e wz ⟨rfl, kz⟩
            have nE : (LA + LB == LA + LB) = true := by simp
            have j2 : wz.cell? ⟨w10.heap.size, 2, none⟩ = some (.int .i64 LB) := (Tw3.below kz).cell (i := 2) rfl
            have jl' := (Tw3.below kz).lt
            have i2 : wz.cell? ⟨w12.heap.size, 2, none⟩ = some (.int .i64 (LA + LB)) := (Ab.out.below kz).cell (i := 2) rfl
            have il' := (Ab.out.below kz).lt
            have o2 : wz.cell? ⟨w7.heap.size, 2, none⟩ = some (.int .i64 LA) := (Ob3.below kz).cell (i := 2) rfl
            have ol' := (Ob3.below kz).lt
            clear j0 j3 j4 i0 i3 i4
            go_wp2_with fail
            go_ret
            exact ⟨rfl, K13.trans (kz.mono K13.size)⟩
  · go_enter Tryz.func4, Tryz.ntmps4
    go_wp2_with fail
    refine (lwBig_yes _ a len cap (by omega)).mono ?_
    rintro e w' ⟨rfl, rfl⟩
    go_wp2
    go_ret
    exact ⟨rfl, Below.refl _ _⟩
end Go.Proofs.YtepjkcfheejlbaaGreatDoor
end

/- LawHalvesRow -/
/- The walk of the law FnHalves, at a slice of bytes that came in, and the row's condition on the homes. Condition: the homes lie in their variable. -/
section
namespace Go.Proofs.YtepjkcfheejlbaaGreatDoor
open Go.ChangeShapes Go.WideShapes Go.ChangeAt Go.RowKit
theorem walk_fnHalves (a0 : Option Addr) (len0 cap0 : Nat) (z0 : List Int) (w : World) (w0 : IsRow .u8 w a0 len0 cap0 z0) (hL : HmAt w) :
    Calls Tryz.prog 4 #[.slice a0 len0 cap0] w fun e w' => e = .returned (.bool true) ∧ Below w.heap.size w w' := halves_walk a0 len0 cap0 w (Bytes.of_row w0) hL
theorem hmAtH {W : World} (h : laidMetH Tryz.prog Rows.fnHalvesRow.laid W) : HmAt W := by
  rw [MakeChecks.laidMetH_plain _ _ _ (by kernel_rfl)] at h
  exact hmAt_head h
end Go.Proofs.YtepjkcfheejlbaaGreatDoor
end
