/- Texts of mine put together (a claim holds at most 60 files): LawTicks, LawTicksRow. -/
import Derived.Test.YtepjkcfheejlbaaGreatDoorPartD04
import Derived.Test.YtepjkcfheejlbaaGreatDoorPartT34

/- LawTicks -/
/- The walk of the law FnTicks. Condition: the homes lie in their variable. -/
section
namespace Go.Proofs.YtepjkcfheejlbaaGreatDoor
open Go.ChangeShapes Go.WideShapes Go.ChangeAt Go.RowKit
open Bd
set_option linter.unusedVariables false

theorem hldI_take {l : List Int} {k : Nat} (h : k < l.length) : hldI (l.take (k + 1)) = hldI (l.take k) + l.getD k 0 := by
  induction l generalizing k with
  | nil => simp at h
  | cons x l ih =>
    cases k with
    | zero => show x + 0 = 0 + x; omega
    | succ k =>
      show x + hldI (l.take (k + 1)) = x + hldI (l.take k) + l.getD k 0
      rw [ih (by simpa using h)]; omega
theorem hldI_part {l : List Int} (h : ∀ x ∈ l, 0 ≤ x ∧ x ≤ 1000000) (k : Nat) : 0 ≤ hldI (l.take k) ∧ hldI (l.take k) ≤ 1000000 * (k : Int) := by
  induction l generalizing k with
  | nil => rw [List.take_nil]; show 0 ≤ (0 : Int) ∧ (0 : Int) ≤ 1000000 * (k : Int); omega
  | cons x l ih =>
    cases k with
    | zero => show 0 ≤ (0 : Int) ∧ (0 : Int) ≤ 1000000 * (0 : Int); omega
    | succ k =>
      have a := h x (List.mem_cons_self ..)
      have b := ih (fun y hy => h y (List.mem_cons_of_mem _ hy)) k
      show 0 ≤ x + hldI (l.take k) ∧ x + hldI (l.take k) ≤ 1000000 * ((k + 1 : Nat) : Int)
      omega
theorem all_kept {us : List K10} {fs : List K3} {rm : List Int} (h : tkF us fs rm = 0) (n : Nat) : hldU (tkN n (ts0 us fs rm)).us + hldF (tkN n (ts0 us fs rm)).fs + (tkN n (ts0 us fs rm)).lost + hldI (tkN n (ts0 us fs rm)).gn = hldU us + hldF fs := by
  have t := tot_ticks (tg0 h) n
  unfold tot at t
  have e : hldI (ts0 us fs rm).gn = 0 := rfl
  have e1 : (ts0 us fs rm).lost = 0 := rfl
  have e2 : (ts0 us fs rm).us = us := rfl
  have e3 : (ts0 us fs rm).fs = fs := rfl
  rw [e, e1, e2, e3] at t
  omega
set_option maxRecDepth 20000 in
set_option maxHeartbeats 16000000 in
theorem ticks_walk (a : Option Addr) (len cap : Nat) (W : World) (hb : Bytes W a len W.heap.size) (hL : HmAt W) :
    Calls Tryz.prog 3 #[.slice a len cap] W fun e w' => e = .returned (.bool true) ∧ Below W.heap.size W w' := by
  by_cases hl : len ≤ 1048576
  · have cB := fun w => lwBig_no w a len cap hl
    go_enter Tryz.func3, Tryz.ntmps3
    go_wp2_with (go_at_call 8; refine (cB _).mono ?_; rintro e w1 ⟨rfl, hw1⟩; obtain rfl := hw1.symm)
    refine (drawTickMany_c W a len cap hb hl).mono ?_
    rintro e w1 ⟨v1, f1, us, fs, gr, og, mr, cr, rm, n, rfl, S1, F1, hus, hfs, hrm, hmr, I1, hg1, k1⟩
    obtain ⟨p1, c1, m1, rfl, Hm1, X1⟩ := S1.nm
    obtain ⟨p1', c1', m1', rfl, Hm1', G1⟩ := F1.nm
    obtain ⟨W2, HW2⟩ : ∃ W2, Hid (W2 = w1.alloc (.cells #[.slice p1 m1 c1, .slice p1' m1' c1'] 27)) := ⟨_, rfl⟩
    have k2 : Below w1.heap.size w1 W2 := by rw [HW2.out]; exact (Below.refl _ _).alloc (Nat.le_refl _) _
    have Bb : Hid (Blk W2 w1.heap.size #[.slice p1 m1 c1, .slice p1' m1' c1'] 27) := by show Blk _ _ _ _; rw [HW2.out]; exact Blk.new w1 #[.slice p1 m1 c1, .slice p1' m1' c1'] 27
    have B2 := k1.trans (k2.mono k1.size)
    have Hrm : Hid (rm.length = mr) := hrm
    have T2 : Hid (TIn W2 p1 m1 c1 p1' m1' c1' gr og mr cr us fs rm) := ⟨Hm1.out, Hm1'.out, hrm, by omega, X1.later k2, G1.later k2, I1.later hg1 k2, Nat.lt_of_lt_of_le hg1 k2.size⟩
    have HL : Hid (HmAt W2) := hL.later B2
    have HB : Hid (Bytes W2 a len W2.heap.size) := hb.later B2
    have HB2 : Hid (Below W.heap.size W W2) := B2
    have cT := implTickMany p1 m1 c1 p1' m1' c1' gr og mr cr us fs n rm W2 HL.out T2.out
    obtain ⟨r, Hr⟩ : ∃ r, Hid (tmR us fs rm n = r) := ⟨_, rfl⟩
    rw [Hr.out] at cT
    obtain ⟨C, HC⟩ : ∃ C, Hid (r.c = C) := ⟨_, rfl⟩
    obtain ⟨LL, HLL⟩ : ∃ LL, Hid (r.l = LL) := ⟨_, rfl⟩
    rw [HC.out, HLL.out] at cT
    have b0 := Bb.out.cell (i := 0) rfl
    have b1 := Bb.out.cell (i := 1) rfl
    have bl := Bb.out.lt
    clear S1 F1 X1 G1 I1 hg1 k1 k2 B2 hb hL cB hrm
    go_upto_region 4 with fail
    rw [← HW2.out]
    have f0 : ∀ (x g l v f : Value) (w : World), (Instr.field 32 (.agg #[x, g, l, v, f]) 0).run Tryz.prog w = .ok x w := fun _ _ _ _ _ _ => by kernel_rfl
    have f3 : ∀ (x g l v f : Value) (w : World), (Instr.field 32 (.agg #[x, g, l, v, f]) 3).run Tryz.prog w = .ok (.agg #[v, f]) w := fun _ _ _ _ _ _ => by kernel_rfl
    go_wp2_with fail
    refine cT.mono ?_
    rintro e w3 ⟨q, v, f, rfl, R3, k3⟩
    obtain ⟨a1, n1, d1, a2, n2, d2, a3, n3, d3, rfl, rfl, rfl⟩ := R3.nm0
    obtain ⟨W4, HW4⟩ : ∃ W4, Hid (W4 = w3.alloc (.cells (resV C (.slice a1 n1 d1) LL (.slice a2 n2 d2) (.slice a3 n3 d3)) 32)) := ⟨_, rfl⟩
    have k4 : Below w3.heap.size w3 W4 := by rw [HW4.out]; exact (Below.refl _ _).alloc (Nat.le_refl _) _
    have Tb : Hid (Blk W4 w3.heap.size (resV C (.slice a1 n1 d1) LL (.slice a2 n2 d2) (.slice a3 n3 d3)) 32) := by show Blk _ _ _ _; rw [HW4.out]; exact Blk.new w3 _ 32
    have R4 : Hid (RIs W4 W2.heap.size r (.slice a1 n1 d1) (.slice a2 n2 d2) (.slice a3 n3 d3)) := R3.later k4
    have K4 : Below W2.heap.size W2 W4 := k3.trans (k4.mono k3.size)
    clear b0 b1 bl cT R3
    go_upto_region 5 with fail
    rw [← HW4.out]
    -- the unit's tick
    go_wp2_with fail
    refine (drawTickUnit_c W4 a len cap (HB.out.later K4) hl).mono ?_
    rintro e w5 ⟨v5, f5, us5, fs5, gr5, og5, mr5, cr5, rm5, id, rfl, S5, F5, hus5, hfs5, hrm5, hmr5, I5, hg5, id1, id7, k5⟩
    obtain ⟨p5, c5, m5, rfl, Hm5, X5⟩ := S5.nm
    obtain ⟨p5', c5', m5', rfl, Hm5', G5⟩ := F5.nm
    obtain ⟨W6, HW6⟩ : ∃ W6, Hid (W6 = w5.alloc (.cells #[.slice p5 m5 c5, .slice p5' m5' c5'] 27)) := ⟨_, rfl⟩
    have k6 : Below w5.heap.size w5 W6 := by rw [HW6.out]; exact (Below.refl _ _).alloc (Nat.le_refl _) _
    have Xb : Hid (Blk W6 w5.heap.size #[.slice p5 m5 c5, .slice p5' m5' c5'] 27) := by show Blk _ _ _ _; rw [HW6.out]; exact Blk.new w5 #[.slice p5 m5 c5, .slice p5' m5' c5'] 27
    have T6 : Hid (TIn W6 p5 m5 c5 p5' m5' c5' gr5 og5 mr5 cr5 us5 fs5 rm5) := ⟨Hm5.out, Hm5'.out, hrm5, by omega, X5.later k6, G5.later k6, I5.later hg5 k6, Nat.lt_of_lt_of_le hg5 k6.size⟩
    have J6 : Below W4.heap.size W4 W6 := k5.trans (k6.mono k5.size)
    have K6 : Below W2.heap.size W2 W6 := K4.trans (J6.mono K4.size)
    have HL6 : Hid (HmAt W6) := HL.out.later K6
    have wfi : (Lit.int .i64 id).wf = true := wf_int (by omega) (by omega)
    have cU := implTickUnit p5 m5 c5 p5' m5' c5' gr5 og5 mr5 cr5 us5 fs5 id wfi rm5 W6 HL6.out T6.out
    obtain ⟨ru, Hru⟩ : ∃ ru, Hid (tuR us5 fs5 id rm5 = ru) := ⟨_, rfl⟩
    rw [Hru.out] at cU
    obtain ⟨Cu, HCu⟩ : ∃ Cu, Hid (ru.c = Cu) := ⟨_, rfl⟩
    obtain ⟨Lu, HLu⟩ : ∃ Lu, Hid (ru.l = Lu) := ⟨_, rfl⟩
    rw [HCu.out, HLu.out] at cU
    have x0 := Xb.out.cell (i := 0) rfl
    have x1 := Xb.out.cell (i := 1) rfl
    have xl := Xb.out.lt
    clear S5 F5 X5 G5 I5 hg5 k5 k6 hrm5
    go_upto_region 6 with fail
    rw [← HW6.out]
    go_wp2_with fail
    refine cU.mono ?_
    rintro e w7 ⟨qu, vu, fu, rfl, R7, k7⟩
    obtain ⟨a4, n4, d4, a5, n5, d5, a6, n6, d6, rfl, rfl, rfl⟩ := R7.nm0
    obtain ⟨W8, HW8⟩ : ∃ W8, Hid (W8 = w7.alloc (.cells (resV Cu (.slice a4 n4 d4) Lu (.slice a5 n5 d5) (.slice a6 n6 d6)) 32)) := ⟨_, rfl⟩
    have k8 : Below w7.heap.size w7 W8 := by rw [HW8.out]; exact (Below.refl _ _).alloc (Nat.le_refl _) _
    have Ub : Hid (Blk W8 w7.heap.size (resV Cu (.slice a4 n4 d4) Lu (.slice a5 n5 d5) (.slice a6 n6 d6)) 32) := by show Blk _ _ _ _; rw [HW8.out]; exact Blk.new w7 _ 32
    have R8 : Hid (RIs W8 W6.heap.size ru (.slice a4 n4 d4) (.slice a5 n5 d5) (.slice a6 n6 d6)) := R7.later k8
    have J8 : Below W6.heap.size W6 W8 := k7.trans (k8.mono k7.size)
    have K8 : Below W2.heap.size W2 W8 := K6.trans (J8.mono K6.size)
    clear x0 x1 xl cU R7
    go_upto_region 7 with fail
    rw [← HW8.out]
    go_wp2_with fail
    refine (drawHomeOf_c W8 a len cap (HB.out.later K8) hl).mono ?_
    rintro e w9 ⟨ho, rfl, ho0, ho4, k9⟩
    have J9 : Below W6.heap.size W6 w9 := J8.trans (k9.mono J8.size)
    have K9 : Below W2.heap.size W2 w9 := K8.trans (k9.mono K8.size)
    have Ub9 : Hid (Blk w9 w7.heap.size (resV Cu (.slice a4 n4 d4) Lu (.slice a5 n5 d5) (.slice a6 n6 d6)) 32) := Ub.out.below k9
    have Xb9 : Hid (Blk w9 w5.heap.size #[.slice p5 m5 c5, .slice p5' m5' c5'] 27) := Xb.out.below J9
    obtain ⟨hc, hx, hy, sH, iH⟩ := home_any ho
    have nH := fun w => neqT_same hc hx hy w
    have sH' := fun (W' : World) (h : Below w9.heap.size w9 W') => sH W'
    have iH' := fun (W' : World) (h : Below w9.heap.size w9 W') => iH W' ((HL6.out.later J9).later h)
    clear sH iH
    go_upto_region 8 with fail
    go_cut [68] from 38 to 68 (fun s wx => s = .bool false ∧ Below w9.heap.size w9 wx)
    case first =>
      rcases tu_cases us5 fs5 id rm5 with ⟨h1, e⟩ | ⟨h1, hf, e⟩ | ⟨u, h1, hf, e⟩
      · have eC : Cu = tkF us5 fs5 rm5 := by rw [← HCu.out, ← Hru.out, e]; rfl
        have h1' := bne_of h1
        have sN := fun W' hT => specTickUnit_no p5 m5 c5 p5' m5' c5' gr5 og5 mr5 cr5 us5 fs5 id rm5 _ h1 rfl W' hT
        rw [← eC] at h1 h1' sN
        clear e eC
        have u0 := fun n : Later w9 => Later.cell Ub9.out.lt (Ub9.out.cell (i := 0) rfl) n
        have x0 := fun n : Later w9 => Later.cell Xb9.out.lt (Xb9.out.cell (i := 0) rfl) n
        have x1 := fun n : Later w9 => Later.cell Xb9.out.lt (Xb9.out.cell (i := 1) rfl) n
        have sU := fun n : Later w9 => sN n.at ((T6.out.later J9).later n.bel)
        have sH := fun n : Later w9 => sH' n.at n.bel
        have iH := fun n : Later w9 => iH' n.at n.bel
        have nR : (Cu != Cu) = false := by simp
        clear sN
        refine wp_region_later (by kernel_rfl) (by kernel_rfl) (fun hne => ?_)
        repeat (go_big_quiet_step ((first | (go_at_call 14; exact Later.call (sU _)) | (go_at_call 16; exact Later.call (iH _)) | (go_at_call 17; exact Later.call (sH _)))))
        refine wpQuiet_nil ?_
        rintro _ ⟨nn, rfl⟩
        have hN := nn.bel
        clear u0 x0 x1 sU sH iH hne
        go_wp2_with fail
        go_meet
        case rel => exact ⟨rfl, hN⟩
      · have eC : Cu = 4 := by rw [← HCu.out, ← Hru.out, e]; rfl
        have sN := fun W' hT => specTickUnit_none p5 m5 c5 p5' m5' c5' gr5 og5 mr5 cr5 us5 fs5 id rm5 h1 hf W' hT
        subst eC
        have n40 : ((4 : Int) == 0) = false := rfl
        clear e h1 hf
        have u0 := fun n : Later w9 => Later.cell Ub9.out.lt (Ub9.out.cell (i := 0) rfl) n
        have x0 := fun n : Later w9 => Later.cell Xb9.out.lt (Xb9.out.cell (i := 0) rfl) n
        have x1 := fun n : Later w9 => Later.cell Xb9.out.lt (Xb9.out.cell (i := 1) rfl) n
        have sU := fun n : Later w9 => sN n.at ((T6.out.later J9).later n.bel)
        have sH := fun n : Later w9 => sH' n.at n.bel
        have iH := fun n : Later w9 => iH' n.at n.bel
        have nR : ((4 : Int) != 4) = false := rfl
        clear sN
        refine wp_region_later (by kernel_rfl) (by kernel_rfl) (fun hne => ?_)
        repeat (go_big_quiet_step ((first | (go_at_call 14; exact Later.call (sU _)) | (go_at_call 16; exact Later.call (iH _)) | (go_at_call 17; exact Later.call (sH _)))))
        refine wpQuiet_nil ?_
        rintro _ ⟨nn, rfl⟩
        have hN := nn.bel
        clear u0 x0 x1 sU sH iH hne
        go_wp2_with fail
        go_meet
        case rel => exact ⟨rfl, hN⟩
      · have tgu : Hid (TG (tkS (ts0 us5 fs5 rm5) id)) := (tg0 h1).step id
        obtain ⟨s5, Hs5⟩ : ∃ s5, Hid (s5 = tkS (ts0 us5 fs5 rm5) id) := ⟨_, rfl⟩
        rw [← Hs5.out] at e tgu
        have eC : Cu = 0 := by rw [← HCu.out, ← Hru.out, e]; rfl
        have R9 := R8.out
        rw [← Hru.out, e] at R9
        subst eC
        obtain ⟨gq, cq, p3, c3, m3, p3', c3', m3', e1, e2, e3, Hm3, Hm3', L3, X3, Y3⟩ := R9.nm tgu.out
        simp only [Value.slice.injEq] at e1 e2 e3
        obtain ⟨rfl, rfl, rfl⟩ := e1
        obtain ⟨rfl, rfl, rfl⟩ := e2
        obtain ⟨rfl, rfl, rfl⟩ := e3
        have sU := fun W' (h : Below w9.heap.size w9 W') => specTickUnit p5 m5 c5 p5' m5' c5' gr5 og5 mr5 cr5 us5 fs5 id rm5 W' ((T6.out.later J9).later h)
        rw [e] at sU
        have eC : (TR.of s5).c = 0 := rfl
        have eL : (TR.of s5).l = s5.lost := rfl
        rw [eC, eL] at sU
        have hm3 : n5 ≤ 1000 := by have := tgu.out.gd.n8; have := Hm3.out; omega
        have hm3' : n6 ≤ 1000 := by have := tgu.out.gd.n4; have := Hm3'.out; omega
        have same := fun W' (h : Below w9.heap.size w9 W') p c p' c' (U' : ArgU W' p s5.us) (F' : ArgF W' p' s5.fs) => sameB_in W' a5 a6 p p' n5 n6 d5 d6 c c' s5.us s5.fs Hm3.out Hm3'.out hm3 hm3' ((X3.later k9).arg' h) ((Y3.later k9).arg' h) U' F'
        have keep : ∀ w', Below w9.heap.size w9 w' → w'.cell? ⟨w7.heap.size, 0, none⟩ = some (.int .i64 0) ∧ w'.cell? ⟨w7.heap.size, 3, none⟩ = some (.slice a5 n5 d5) ∧ w'.cell? ⟨w7.heap.size, 4, none⟩ = some (.slice a6 n6 d6) ∧ w'.cell? ⟨w5.heap.size, 0, none⟩ = some (.slice p5 m5 c5) ∧ w'.cell? ⟨w5.heap.size, 1, none⟩ = some (.slice p5' m5' c5') := fun w' h => ⟨(Ub9.out.below h).cell (i := 0) rfl, (Ub9.out.below h).cell (i := 3) rfl, (Ub9.out.below h).cell (i := 4) rfl, (Xb9.out.below h).cell (i := 0) rfl, (Xb9.out.below h).cell (i := 1) rfl⟩
        obtain ⟨u0, q3, q4, x0, x1⟩ := keep w9 (Below.refl _ _)
        have ul := Ub9.out.lt
        have xl := Xb9.out.lt
        have Bc : Below w9.heap.size w9 w9.drew := (Below.refl _ _).drew
        clear e eC eL h1 hf R9 X3 Y3 L3
        go_region_held3 (fun w' => w'.cell? ⟨w7.heap.size, 0, none⟩ = some (.int .i64 0) ∧ w'.cell? ⟨w7.heap.size, 3, none⟩ = some (.slice a5 n5 d5) ∧ w'.cell? ⟨w7.heap.size, 4, none⟩ = some (.slice a6 n6 d6) ∧ w'.cell? ⟨w5.heap.size, 0, none⟩ = some (.slice p5 m5 c5) ∧ w'.cell? ⟨w5.heap.size, 1, none⟩ = some (.slice p5' m5' c5')) (first | exact keep _ Bc | go_keep) (first
          | (go_at_call 14; refine (sU _ Bc).mono ?_; rintro e wn ⟨qm, vm, fm, rfl, Rm, km⟩; obtain ⟨gm, cm, pm, dm, mm, pm', dm', mm', rfl, rfl, rfl, Hmm, Hmm', Lm, Xm, Ym⟩ := Rm.nm tgu.out; obtain rfl : n5 = mm := by rw [← Hm3.out, ← Hmm.out]
             obtain rfl : n6 = mm' := by rw [← Hm3'.out, ← Hmm'.out]
             have Bc := Bc.trans (km.mono Bc.size); obtain ⟨u0, q3, q4, x0, x1⟩ := keep _ Bc)
          | (go_at_call 15; refine (same _ Bc _ _ _ _ Xm.arg Ym.arg).mono ?_; rintro e wn ⟨rfl, ks⟩; have Bc := Bc.trans (ks.mono Bc.size); obtain ⟨u0, q3, q4, x0, x1⟩ := keep _ Bc)
          | (go_at_call 16; refine (iH' _ Bc).mono ?_; rintro e wn ⟨rfl, ks⟩; have Bc := Bc.trans (ks.mono Bc.size); obtain ⟨u0, q3, q4, x0, x1⟩ := keep _ Bc)
          | (go_at_call 17; refine (sH' _ Bc).mono ?_; rintro e wn ⟨rfl, ks⟩; have Bc := Bc.trans (ks.mono Bc.size); obtain ⟨u0, q3, q4, x0, x1⟩ := keep _ Bc))
        all_goals
          go_wp2_with fail
          go_meet
          case rel => exact ⟨rfl, Bc⟩
    case rest =>
      obtain ⟨rfl, Bx⟩ := hcut
      obtain ⟨wx, hwx⟩ : ∃ y : World, y = wc := ⟨_, rfl⟩
      subst hwx
      clear nH sH' iH' Ub9 Xb9
      have J4x : Below W4.heap.size W4 wx := J6.trans (((J8.trans (k9.mono J8.size)).trans (Bx.mono J9.size)).mono J6.size)
      have K9x : Below W2.heap.size W2 wx := K4.trans (J4x.mono K4.size)
      have HKx : Hid (Below W.heap.size W wx) := HB2.out.trans (K9x.mono HB2.out.size)
      have Tx : Hid (Blk wx w3.heap.size (resV C (.slice a1 n1 d1) LL (.slice a2 n2 d2) (.slice a3 n3 d3)) 32) := Tb.out.below J4x
      have Bbx : Hid (Blk wx w1.heap.size #[.slice p1 m1 c1, .slice p1' m1' c1'] 27) := Bb.out.below K9x
      have Txi : Hid (TIn wx p1 m1 c1 p1' m1' c1' gr og mr cr us fs rm) := T2.out.later K9x
      have sM := fun W' (h : Below wx.heap.size wx W') => specTickMany p1 m1 c1 p1' m1' c1' gr og mr cr us fs n rm W' (Txi.out.later h)
      rw [Hr.out, HC.out, HLL.out] at sM
      have RX : Hid (RIs wx W2.heap.size r (.slice a1 n1 d1) (.slice a2 n2 d2) (.slice a3 n3 d3)) := R4.out.later J4x
      clear Tb Bb T2 J4x K9x Bx J9 J8 J6 K8 K6 K4 R4 R8 Ub Xb T6 HL6
      by_cases hC0 : C = 0
      · have hok : ∃ k : Nat, n = k ∧ k ≤ 20 ∧ tkF us fs rm = 0 ∧ r = .of (tkN k (ts0 us fs rm)) := by
          rcases tm_cases us fs rm n with ⟨h1, e⟩ | ⟨h1, _, e⟩ | ⟨h1, k, hk, hk2, e⟩
          · rw [Hr.out] at e
            have := HC.out
            rw [e] at this
            have h2 : tkF us fs rm = 0 := this.trans hC0
            rw [h2] at h1; cases h1
          · rw [Hr.out] at e
            have := HC.out
            rw [e] at this
            have h2 : (3 : Int) = 0 := this.trans hC0
            cases h2
          · exact ⟨k, hk, hk2, h1, by rw [← Hr.out]; exact e⟩
        subst hC0
        obtain ⟨j, rfl, hj, h1, er⟩ := hok
        have tgs : Hid (TG (tkN j (ts0 us fs rm))) := (tg0 h1).ticks j
        have hall : Hid _ := all_kept h1 j
        have hga : Hid (∀ k, k < 4 → 0 ≤ (tkN j (ts0 us fs rm)).gn.getD k 0 ∧ (tkN j (ts0 us fs rm)).gn.getD k 0 ≤ rm.getD k 0 ∧ rm.getD k 0 - (tkN j (ts0 us fs rm)).gn.getD k 0 = (tkN j (ts0 us fs rm)).rm.getD k 0) := fun k hk => gain_le h1 j hk
        have H1 : Hid (tkF us fs rm = 0) := h1
        obtain ⟨s, Hs⟩ : ∃ s, Hid (s = tkN j (ts0 us fs rm)) := ⟨_, rfl⟩
        rw [← Hs.out] at er tgs hall hga
        have R5 := RX.out
        rw [er] at R5
        have eL : LL = s.lost := by rw [← HLL.out, er]; rfl
        subst eL
        obtain ⟨gq, cq, p3, c3, m3, p3', c3', m3', e1, e2, e3, Hm3, Hm3', L3, X3, Y3⟩ := R5.nm tgs.out
        simp only [Value.slice.injEq] at e1 e2 e3
        obtain ⟨rfl, rfl, rfl⟩ := e1
        obtain ⟨rfl, rfl, rfl⟩ := e2
        obtain ⟨rfl, rfl, rfl⟩ := e3
        have hm4 : mr = 4 := by have := (tkF_ok h1).2.1; have := Hrm.out; omega
        subst hm4
        have HRS : Hid (r = .of s) := er
        have HX3 : Hid (InU wx a2 n2 d2 s.us) := X3
        have HY3 : Hid (InF wx a3 n3 d3 s.fs) := Y3
        have HL3 : Hid (Lst wx gq d1 s.gn) := L3
        clear er h1 R5 RX X3 Y3 L3
        have gd2 : Hid (Gd s.us s.fs) := tgs.out.gd
        have cH := fun W' (h : Below wx.heap.size wx W') => lwHolds_c a2 n2 d2 a3 n3 d3 s.us s.fs Hm3.out Hm3'.out gd2.out W' (HX3.out.arg' h) (HY3.out.arg' h)
        have cHb := fun W' (h : Below wx.heap.size wx W') => lwHolds_c p1 m1 c1 p1' m1' c1' us fs Hm1.out Hm1'.out (Gd.of (tkF_ok H1.out).1) W' (Txi.out.later h).au (Txi.out.later h).af
        have cF := fun W' (h : Below wx.heap.size wx W') => implBoardFault a2 n2 d2 a3 n3 d3 s.us s.fs Hm3.out Hm3'.out W' (HX3.out.arg' h) (HY3.out.arg' h)
        rw [gd2.out.bf] at cF
        have hb1 := hldU_bd gd2.out.u
        have hb2 := hldF_bd gd2.out.f
        have hn8 := gd2.out.n8
        have hn4 := gd2.out.n4
        obtain ⟨l0, l1⟩ := lost_bd tgs.out
        obtain ⟨H, HH⟩ : ∃ H, Hid (hldU s.us + hldF s.fs = H) := ⟨_, rfl⟩
        obtain ⟨T, HT⟩ : ∃ T, Hid (hldU us + hldF fs = T) := ⟨_, rfl⟩
        have hH0 : 0 ≤ H ∧ H ≤ 50000 := by have := HH.out; omega
        obtain ⟨hH0, hH1⟩ := hH0
        rw [HH.out] at cH
        rw [HT.out] at cHb
        have HA : Hid (H + s.lost + hldI s.gn = T) := by have := hall.out; have := HH.out; have := HT.out; show _ = _; omega
        have keep : ∀ w', Below wx.heap.size wx w' → w'.cell? ⟨w3.heap.size, 2, none⟩ = some (.int .i64 s.lost) ∧ w'.cell? ⟨w3.heap.size, 3, none⟩ = some (.slice a2 n2 d2) ∧ w'.cell? ⟨w3.heap.size, 4, none⟩ = some (.slice a3 n3 d3) ∧ w'.cell? ⟨w1.heap.size, 0, none⟩ = some (.slice p1 m1 c1) ∧ w'.cell? ⟨w1.heap.size, 1, none⟩ = some (.slice p1' m1' c1') := fun w' h => ⟨(Tx.out.below h).cell (i := 2) rfl, (Tx.out.below h).cell (i := 3) rfl, (Tx.out.below h).cell (i := 4) rfl, (Bbx.out.below h).cell (i := 0) rfl, (Bbx.out.below h).cell (i := 1) rfl⟩
        have t0 : wx.cell? ⟨w3.heap.size, 0, none⟩ = some (.int .i64 0) := Tx.out.cell (i := 0) rfl
        have tl := Tx.out.lt
        clear hb1 hb2 hn8 hn4 hall
        go_upto_region 12 with fail
        obtain ⟨q2, q3, q4, y0, y1⟩ := keep wx (Below.refl _ _)
        have bl := Bbx.out.lt
        have hwz : Hid (IntKind.i64.wrap (H + s.lost) = H + s.lost) := by show _ = _; rw [IntKind.wrap_i64]; omega
        go_cut [12] from 80 to 85 (fun z wy => z = .int .i64 (H + s.lost) ∧ Below wx.heap.size wx wy)
        case first =>
          have Bc : Below wx.heap.size wx wx.drew := (Below.refl _ _).drew
          go_region_held3 (fun w' => w'.cell? ⟨w3.heap.size, 2, none⟩ = some (.int .i64 s.lost) ∧ w'.cell? ⟨w3.heap.size, 3, none⟩ = some (.slice a2 n2 d2) ∧ w'.cell? ⟨w3.heap.size, 4, none⟩ = some (.slice a3 n3 d3) ∧ w'.cell? ⟨w1.heap.size, 0, none⟩ = some (.slice p1 m1 c1) ∧ w'.cell? ⟨w1.heap.size, 1, none⟩ = some (.slice p1' m1' c1')) (first | exact keep _ Bc | go_keep) (first
            | (go_at_call 19; refine (cH _ Bc).mono ?_; rintro e wn ⟨rfl, kn⟩; have Bc := Bc.trans (kn.mono Bc.size); obtain ⟨q2, q3, q4, y0, y1⟩ := keep _ Bc))
          all_goals
            go_wp2_with fail
            go_meet
            case rel => first | exact ⟨rfl, Bc⟩ | exact ⟨by rw [hwz.out], Bc⟩
        case rest =>
          obtain ⟨rfl, By⟩ := hcut
          obtain ⟨wy, hwy⟩ : ∃ y : World, y = wc := ⟨_, rfl⟩
          subst hwy
          clear q2 q3 q4 y0 y1 t0 tl bl cH
          have t1 : wy.cell? ⟨w3.heap.size, 1, none⟩ = some (.slice (some ⟨gq, 0, none⟩) 4 d1) := (Tx.out.below By).cell (i := 1) rfl
          have tl := (Tx.out.below By).lt
          go_wp2_with fail
          go_loopw [12, 13] (fun z i wr => ∃ (k : Nat) (A : Int), k ≤ 4 ∧ i = .int .i64 k ∧ z = .int .i64 A ∧ Hid (A = H + s.lost + hldI (s.gn.take k)) ∧ Hid (Below wx.heap.size wx wr)) (fun z i _ => 4 - (intOf i).toNat)
          case atStart => exact ⟨0, _, Nat.zero_le _, rfl, rfl, by show H + s.lost = H + s.lost + 0; omega, By⟩
          case round =>
            clear t1 tl
            obtain ⟨k, A, hk, rfl, rfl, hA, hK⟩ := hrel
            by_cases hlt : k < 4
            · have hlt' : (k : Int) < 4 := by omega
              have t1 : wr.cell? ⟨w3.heap.size, 1, none⟩ = some (.slice (some ⟨gq, 0, none⟩) 4 d1) := (Tx.out.below hK.out).cell (i := 1) rfl
              have tl := (Tx.out.below hK.out).lt
              have hX : rm[k]? = some (rm.getD k 0) := getD_some (by have := Hrm.out; omega)
              have x0 := (Txi.out.later hK.out).r k _ hX
              have xl := (Txi.out.later hK.out).lr
              have hY : s.gn[k]? = some (s.gn.getD k 0) := getD_some (by have := tgs.out.gl; omega)
              have y0 := (HL3.out.below hK.out).cell hY
              have yl := (HL3.out.below hK.out).lt
              obtain ⟨z0, z1, _⟩ := hga.out k hlt
              have z3 := ((tkF_ok H1.out).2.2 _ (List.mem_of_getElem? hX)).2
              have HE : Hid (A + s.gn.getD k 0 = H + s.lost + hldI (s.gn.take (k + 1))) := by show _ = _; rw [hldI_take (by have := tgs.out.gl; omega), hA.out]; omega
              have hpt := hldI_part (l := s.gn) (fun x hx => by
                obtain ⟨i, hi, rfl⟩ := List.getElem_of_mem hx
                have hi4 : i < 4 := by have := tgs.out.gl; omega
                have g := hga.out i hi4
                have r := (tkF_ok H1.out).2.2 (rm.getD i 0) (getD_mem (by have := Hrm.out; omega))
                have e : s.gn.getD i 0 = s.gn[i] := by rw [List.getD_eq_getElem?_getD, List.getElem?_eq_getElem hi]; rfl
                rw [e] at g
                omega) k
              have hA0 : 0 ≤ A ∧ A ≤ 5000000 := by have := hA.out; omega
              obtain ⟨hA0, hA1⟩ := hA0
              generalize rm.getD k 0 = X at x0 z1 z3
              generalize s.gn.getD k 0 = Y at y0 z0 z1 HE
              have dY : decide (Y < 0) = false := decide_eq_false (by omega)
              have dX : decide (X < Y) = false := decide_eq_false (by omega)
              clear hX hY hpt
              go_upto_region 19 with fail
              go_quiet (fail)
              go_wp2_with fail
              go_roundw
              case rel => exact ⟨k + 1, _, by omega, by go_num, rfl, HE, hK.out.trans ((below_drewN _ _).mono hK.out.size)⟩
              case measure => simp [intOf]; omega
            · obtain rfl : k = 4 := by omega
              have hT : A = T := by rw [hA.out, List.take_of_length_le (by have := tgs.out.gl; omega)]; exact HA.out
              subst hT
              have nT : (A == A) = true := by simp
              obtain ⟨q2, q3, q4, y0, y1⟩ := keep wr hK.out
              have tl := (Tx.out.below hK.out).lt
              have bl := (Bbx.out.below hK.out).lt
              have Bc : Below wx.heap.size wx wr.drew := hK.out.trans ((Below.refl _ _).drew.mono hK.out.size)
              have er : r = .of s := HRS.out
              have hm3 : n2 ≤ 1000 := by have := gd2.out.n8; have := Hm3.out; omega
              have hm3' : n3 ≤ 1000 := by have := gd2.out.n4; have := Hm3'.out; omega
              rw [er] at sM
              have same := fun W' (h : Below wx.heap.size wx W') p c p' c' (U' : ArgU W' p s.us) (F' : ArgF W' p' s.fs) => sameB_in W' a2 a3 p p' n2 n3 d2 d3 c c' s.us s.fs Hm3.out Hm3'.out hm3 hm3' (HX3.out.arg' h) (HY3.out.arg' h) U' F'
              generalize s.lost = L at q2 l0 l1 keep sM
              clear er HC
              go_upto_region 21 with fail
              go_region_held3 (fun w' => w'.cell? ⟨w3.heap.size, 2, none⟩ = some (.int .i64 L) ∧ w'.cell? ⟨w3.heap.size, 3, none⟩ = some (.slice a2 n2 d2) ∧ w'.cell? ⟨w3.heap.size, 4, none⟩ = some (.slice a3 n3 d3) ∧ w'.cell? ⟨w1.heap.size, 0, none⟩ = some (.slice p1 m1 c1) ∧ w'.cell? ⟨w1.heap.size, 1, none⟩ = some (.slice p1' m1' c1')) (first | exact keep _ Bc | go_keep) (first
                | (go_at_call 19; refine (cHb _ Bc).mono ?_; rintro e wn ⟨rfl, kn⟩; have Bc := Bc.trans (kn.mono Bc.size); obtain ⟨q2, q3, q4, y0, y1⟩ := keep _ Bc)
                | (go_at_call 20; refine (cF _ Bc).mono ?_; rintro e wn ⟨rfl, kn⟩; have Bc := Bc.trans (kn.mono Bc.size); obtain ⟨q2, q3, q4, y0, y1⟩ := keep _ Bc)
                | (go_at_call 18; refine (sM _ Bc).mono ?_; rintro e wn ⟨qm, vm, fm, rfl, Rm, km⟩; obtain ⟨gm, cm, pm, dm, mm, pm', dm', mm', rfl, rfl, rfl, Hmm, Hmm', Lm, Xm, Ym⟩ := Rm.nm tgs.out; obtain rfl : n2 = mm := by rw [← Hm3.out, ← Hmm.out]
                   obtain rfl : n3 = mm' := by rw [← Hm3'.out, ← Hmm'.out]
                   have Bc := Bc.trans (km.mono Bc.size); obtain ⟨q2, q3, q4, y0, y1⟩ := keep _ Bc)
                | (go_at_call 15; refine (same _ Bc _ _ _ _ Xm.arg Ym.arg).mono ?_; rintro e wn ⟨rfl, ks⟩; have Bc := Bc.trans (ks.mono Bc.size); obtain ⟨q2, q3, q4, y0, y1⟩ := keep _ Bc))
              all_goals
                go_wp2_with fail
                go_ret
                exact ⟨rfl, HKx.out.trans (Bc.mono HKx.out.size)⟩
      · have hC0' : (C == 0) = false := by simpa using hC0
        have hC1 := bne_of hC0'
        have nC : (C == C) = true := by simp
        have t0 : wx.cell? ⟨w3.heap.size, 0, none⟩ = some (.int .i64 C) := Tx.out.cell (i := 0) rfl
        have tl := Tx.out.lt
        have y0 : wx.cell? ⟨w1.heap.size, 0, none⟩ = some (.slice p1 m1 c1) := Bbx.out.cell (i := 0) rfl
        have y1 : wx.cell? ⟨w1.heap.size, 1, none⟩ = some (.slice p1' m1' c1') := Bbx.out.cell (i := 1) rfl
        have bl := Bbx.out.lt
        have keep : ∀ w', Below wx.heap.size wx w' → w'.cell? ⟨w3.heap.size, 0, none⟩ = some (.int .i64 C) ∧ w'.cell? ⟨w1.heap.size, 0, none⟩ = some (.slice p1 m1 c1) ∧ w'.cell? ⟨w1.heap.size, 1, none⟩ = some (.slice p1' m1' c1') := fun w' h => ⟨(Tx.out.below h).cell (i := 0) rfl, (Bbx.out.below h).cell (i := 0) rfl, (Bbx.out.below h).cell (i := 1) rfl⟩
        have Bc : Below wx.heap.size wx wx.drew := (Below.refl _ _).drew
        go_upto_region 11 with fail
        go_region_held3 (fun w' => w'.cell? ⟨w3.heap.size, 0, none⟩ = some (.int .i64 C) ∧ w'.cell? ⟨w1.heap.size, 0, none⟩ = some (.slice p1 m1 c1) ∧ w'.cell? ⟨w1.heap.size, 1, none⟩ = some (.slice p1' m1' c1')) (first | exact keep _ Bc | go_keep) (first
          | (go_at_call 18; refine (sM _ Bc).mono ?_; rintro e wn ⟨qm, vm, fm, rfl, Rm, km⟩; obtain ⟨b1', b2', b3', b4', b5', b6', b7', b8', b9', rfl, rfl, rfl⟩ := Rm.nm0; have Bc := Bc.trans (km.mono Bc.size); obtain ⟨t0, y0, y1⟩ := keep _ Bc))
        all_goals
          go_wp2_with fail
          go_ret
          exact ⟨rfl, HKx.out.trans (Bc.mono HKx.out.size)⟩
  · go_enter Tryz.func3, Tryz.ntmps3
    go_wp2_with fail
    refine (lwBig_yes _ a len cap (by omega)).mono ?_
    rintro e w' ⟨rfl, rfl⟩
    go_wp2
    go_ret
    exact ⟨rfl, Below.refl _ _⟩
end Go.Proofs.YtepjkcfheejlbaaGreatDoor
end

/- LawTicksRow -/
/- The walk of the law FnTicks, at a slice of bytes that came in, and the row's condition on the homes. Condition: the homes lie in their variable. -/
section
namespace Go.Proofs.YtepjkcfheejlbaaGreatDoor
open Go.ChangeShapes Go.WideShapes Go.ChangeAt Go.RowKit
theorem walk_fnTicks (a0 : Option Addr) (len0 cap0 : Nat) (z0 : List Int) (w : World) (w0 : IsRow .u8 w a0 len0 cap0 z0) (hL : HmAt w) :
    Calls Tryz.prog 3 #[.slice a0 len0 cap0] w fun e w' => e = .returned (.bool true) ∧ Below w.heap.size w w' := ticks_walk a0 len0 cap0 w (Bytes.of_row w0) hL
theorem hmAtT {W : World} (h : laidMetH Tryz.prog Rows.fnTicksRow.laid W) : HmAt W := by
  rw [MakeChecks.laidMetH_plain _ _ _ (by kernel_rfl)] at h
  exact hmAt_head h
end Go.Proofs.YtepjkcfheejlbaaGreatDoor
end
