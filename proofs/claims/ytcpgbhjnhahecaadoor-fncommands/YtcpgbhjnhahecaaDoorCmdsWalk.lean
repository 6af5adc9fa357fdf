/- The walk of the law FnCommands: its Go text returns true. Condition: the listed variables hold what their initialisers lay. -/
import Derived.Test.YtcpgbhjnhahecaaDoorCmdsPre2
import Derived.Deep.RegionHeld3
import Derived.Deep.Cut
import Derived.Deep.CutRange
import Derived.Deep.RegionWith
namespace Go.Proofs.YtcpgbhjnhahecaaDoor
open Go.ChangeShapes Go.WideShapes Go.ChangeAt Go.RowKit
open Cm
set_option linter.unusedVariables false
set_option maxRecDepth 100000 in
set_option maxHeartbeats 8000000 in
theorem commands_walk (w : World) (a : Option Addr) (len cap : Nat) (hb : Bytes w a len w.heap.size) (hl : len ≤ 1048576) (hL : TxAt w) :
    Calls Tryd.prog 3 #[.slice a len cap] w fun e w' => e = .returned (.bool true) ∧ Below w.heap.size w w' := by
  go_enter Tryd.func3, Tryd.ntmps3
  go_wp2_with fail
  refine (lwBig_no w a len cap hl).mono ?_
  rintro e w1 ⟨rfl, rfl⟩
  go_wp2_with fail
  refine (drawReadCommand _ a len cap hb hl).mono ?_
  rintro e w2 ⟨g, m, cp, l, rfl, D2, Hl, hm, B2⟩
  have hcaps := D2.caps
  have Hlen : Hid (l.length = m) := D2.len
  obtain ⟨c, q0, q1, q2, q3, q4, q5, hv, HR⟩ := rdV_form l
  have cI := implReadCommand g cp m l Hlen hcaps.1 hcaps.2 Hl _ (hL.later B2).pcs D2.lt.2 D2.at
  have cS := fun w hg hat => specReadCommand g cp m l Hlen hcaps.1 Hl w hg hat
  rw [hv] at cI cS
  clear hv
  go_wp2_with fail
  refine cI.mono ?_
  rintro e w3 ⟨rfl, B3⟩
  have D3 := (D2.below B3).alloc (.cells (u7 c q0 q1 q2 q3 q4 q5) 28)
  have U3 := Blk.new w3 (u7 c q0 q1 q2 q3 q4 q5) 28
  have A3 := belowA (belowT B2 B3) (.cells (u7 c q0 q1 q2 q3 q4 q5) 28)
  clear cI D2 B2 B3
  go_wp2_with fail
  refine (drawPackCommand _ a len cap (hb.later A3) hl).mono ?_
  rintro e w4 ⟨x0, x1, x2, x3, x4, x5, rfl, B4⟩
  have D4 := (D3.below B4).alloc (.cells (cmdV x0 x1 x2 x3 x4 x5) 26)
  have U4 := (U3.below B4).alloc (.cells (cmdV x0 x1 x2 x3 x4 x5) 26)
  have C4 := Blk.new w4 (cmdV x0 x1 x2 x3 x4 x5) 26
  have A4 := belowA (belowT A3 B4) (.cells (cmdV x0 x1 x2 x3 x4 x5) 26)
  clear D3 U3 A3 B4
  have cP := implPackV x0 x1 x2 x3 x4 x5 _ (hL.later A4).pcs
  obtain ⟨F, HF⟩ : ∃ F, Hid (F = flt x0 x1 x2 x3 x4 x5) := ⟨_, rfl⟩
  rw [← HF.out] at cP
  obtain ⟨k0, k1, k2, k3, k4, k5, kl⟩ := C4.cmd
  go_wp2_with fail
  refine cP.mono ?_
  rintro e w5 ⟨_, rfl, ⟨ad, pm, pcap, rfl⟩, P5, B5⟩
  have D5 := (D4.below B5).alloc (.cells #[.int .i64 F, .slice ad pm pcap] 32)
  have U5 := (U4.below B5).alloc (.cells #[.int .i64 F, .slice ad pm pcap] 32)
  have C5 := (C4.below B5).alloc (.cells #[.int .i64 F, .slice ad pm pcap] 32)
  have Q5 := Blk.new w5 #[.int .i64 F, .slice ad pm pcap] 32
  have A5 := belowA (belowT A4 B5) (.cells #[.int .i64 F, .slice ad pm pcap] 32)
  replace P5 := P5.below (belowA (Below.refl _ _) (.cells #[.int .i64 F, .slice ad pm pcap] 32))
  clear cP k0 k1 k2 k3 k4 k5 kl D4 U4 C4 A4 B5
  go_wp2_with fail
  refine (drawParamsOf _ a len cap (hb.later A5) hl).mono ?_
  rintro e w6 ⟨k, rfl, B6⟩
  have D6 := D5.below B6
  have U6 := U5.below B6
  have C6 := C5.below B6
  have Q6 := Q5.below B6
  have P6 := P5.below B6
  have A6 := belowT A5 B6
  clear D5 U5 C5 Q5 P5 A5 B6
  go_wp2_with fail
  refine (drawCommandText _ a len cap (hb.later A6) hl).mono ?_
  rintro e w7 ⟨t0, t1, t2, t3, t4, t5, rfl, B7⟩
  have D7 := (D6.below B7).alloc (.cells (cmdV t0 t1 t2 t3 t4 t5) 26)
  have U7 := (U6.below B7).alloc (.cells (cmdV t0 t1 t2 t3 t4 t5) 26)
  have C7 := (C6.below B7).alloc (.cells (cmdV t0 t1 t2 t3 t4 t5) 26)
  have Q7 := (Q6.below B7).alloc (.cells (cmdV t0 t1 t2 t3 t4 t5) 26)
  have P7 := P6.below (belowA B7 (.cells (cmdV t0 t1 t2 t3 t4 t5) 26))
  have T7 := Blk.new w7 (cmdV t0 t1 t2 t3 t4 t5) 26
  have A7 := belowA (belowT A6 B7) (.cells (cmdV t0 t1 t2 t3 t4 t5) 26)
  clear D6 U6 C6 Q6 P6 A6 B7
  obtain ⟨W, HW⟩ : ∃ W, Hid (W = w7.alloc (.cells (cmdV t0 t1 t2 t3 t4 t5) 26)) := ⟨_, rfl⟩
  obtain ⟨T, HT⟩ : ∃ T, Hid (T = w7.heap.size) := ⟨_, rfl⟩
  obtain ⟨U, HU⟩ : ∃ U, Hid (U = w3.heap.size) := ⟨_, rfl⟩
  rw [← HW.out] at D7 U7 C7 Q7 P7 T7 A7
  rw [← HT.out] at T7
  rw [← HU.out] at U7
  go_upto_region 9 with fail
  rw [← HW.out, ← HT.out, ← HU.out]
  go_cut [80] from 25 to 79 (fun s80 wx => s80 = .bool false ∧ Below W.heap.size W wx)
  case first =>
    have S1 := fun w (n : Below W.heap.size W w) => cS w (Nat.lt_of_lt_of_le D7.lt.2 n.size) (D7.below n).at
    have S2 := fun w (n : Below W.heap.size W w) => implParamsOf k w (hL.later (belowT A7 n)).pcs
    have S3 := fun w (n : Below W.heap.size W w) => specParamsOf k w
    have S4 := fun w (n : Below W.heap.size W w) => implCommandText t0 t1 t2 t3 t4 t5 w (hL.later (belowT A7 n))
    have S5 := fun w (n : Below W.heap.size W w) => specCommandText t0 t1 t2 t3 t4 t5 w
    have hf0 : ∀ (s u : Value) (w : World), (Instr.field 37 (.agg #[s, u]) 0).run Tryd.prog w = .ok s w := fun _ _ _ => by kernel_rfl
    have hf1 : ∀ (s u : Value) (w : World), (Instr.field 37 (.agg #[s, u]) 1).run Tryd.prog w = .ok u w := fun _ _ _ => by kernel_rfl
    have hg0 : ∀ (s u : Value) (w : World), (Instr.field 40 (.agg #[s, u]) 0).run Tryd.prog w = .ok s w := fun _ _ _ => by kernel_rfl
    have hg1 : ∀ (s u : Value) (w : World), (Instr.field 40 (.agg #[s, u]) 1).run Tryd.prog w = .ok u w := fun _ _ _ => by kernel_rfl
    have hb1 : ∀ (s u : Value) (w : World), (Instr.field 32 (.agg #[s, u]) 1).run Tryd.prog w = .ok u w := fun _ _ _ => by kernel_rfl
    have hh0 : ∀ (a b c d e f g : Value) (w : World), (Instr.field 28 (.agg #[a, b, c, d, e, f, g]) 0).run Tryd.prog w = .ok a w := fun _ _ _ _ _ _ _ _ => by kernel_rfl
    generalize poC k = pC at S2 S3
    generalize poV k = pV at S2 S3
    generalize ctC t0 t1 t2 t3 t4 t5 = tC at S4 S5
    generalize ctS t0 t1 t2 t3 t4 t5 = tS at S4 S5
    rcases HR with ⟨rfl, hq, hpk⟩ | rfl
    · have S6 := fun w (n : Below W.heap.size W w) => implPack_yes q0 q1 q2 q3 q4 q5 hq w (hL.later (belowT A7 n)).pcs
      have S7 := fun w (n : Below W.heap.size W w) (g2 cap2 base : Nat) (hB : BRow w base (.slice (some ⟨g2, 0, none⟩) (6 + 3 * pc q2) cap2) (pk q0 q1 q2 q3 q4 q5)) => lwBytes_same w g2 cap2 (6 + 3 * pc q2) g cp m l (by have := hB.1; rw [hpk] at this; simpa using (pk_len' hpk)) Hlen Hl (by rw [hpk] at hB; exact hB.at) (D7.below n).at
      have keep : ∀ w', Below W.heap.size W w' → w'.cell? ⟨U, 0, none⟩ = some (.int .i64 0) ∧ w'.cell? ⟨U, 1, none⟩ = some (.int .i64 q0) ∧ w'.cell? ⟨U, 2, none⟩ = some (.int .i64 q1) ∧ w'.cell? ⟨U, 3, none⟩ = some (.int .i64 q2) ∧ w'.cell? ⟨U, 4, none⟩ = some (.int .i64 q3) ∧ w'.cell? ⟨U, 5, none⟩ = some (.int .i64 q4) ∧ w'.cell? ⟨U, 6, none⟩ = some (.int .i64 q5) ∧ w'.cell? ⟨T, 0, none⟩ = some (.int .i64 t0) ∧ w'.cell? ⟨T, 1, none⟩ = some (.int .i64 t1) ∧ w'.cell? ⟨T, 2, none⟩ = some (.int .i64 t2) ∧ w'.cell? ⟨T, 3, none⟩ = some (.int .i64 t3) ∧ w'.cell? ⟨T, 4, none⟩ = some (.int .i64 t4) ∧ w'.cell? ⟨T, 5, none⟩ = some (.int .i64 t5) := fun w' hb => ⟨by rw [hb.cell U7.lt]; exact U7.cell (i := 0) rfl, by rw [hb.cell U7.lt]; exact U7.cell (i := 1) rfl, by rw [hb.cell U7.lt]; exact U7.cell (i := 2) rfl, by rw [hb.cell U7.lt]; exact U7.cell (i := 3) rfl, by rw [hb.cell U7.lt]; exact U7.cell (i := 4) rfl, by rw [hb.cell U7.lt]; exact U7.cell (i := 5) rfl, by rw [hb.cell U7.lt]; exact U7.cell (i := 6) rfl, by rw [hb.cell T7.lt]; exact T7.cell (i := 0) rfl, by rw [hb.cell T7.lt]; exact T7.cell (i := 1) rfl, by rw [hb.cell T7.lt]; exact T7.cell (i := 2) rfl, by rw [hb.cell T7.lt]; exact T7.cell (i := 3) rfl, by rw [hb.cell T7.lt]; exact T7.cell (i := 4) rfl, by rw [hb.cell T7.lt]; exact T7.cell (i := 5) rfl⟩
      have HB : Below W.heap.size W W := Below.refl _ _
      obtain ⟨j0, j1, j2, j3, j4, j5, j6, s0, s1, s2, s3, s4, s5⟩ := keep _ HB
      go_region_held3 (fun w' => w'.cell? ⟨U, 0, none⟩ = some (.int .i64 0) ∧ w'.cell? ⟨U, 1, none⟩ = some (.int .i64 q0) ∧ w'.cell? ⟨U, 2, none⟩ = some (.int .i64 q1) ∧ w'.cell? ⟨U, 3, none⟩ = some (.int .i64 q2) ∧ w'.cell? ⟨U, 4, none⟩ = some (.int .i64 q3) ∧ w'.cell? ⟨U, 5, none⟩ = some (.int .i64 q4) ∧ w'.cell? ⟨U, 6, none⟩ = some (.int .i64 q5) ∧ w'.cell? ⟨T, 0, none⟩ = some (.int .i64 t0) ∧ w'.cell? ⟨T, 1, none⟩ = some (.int .i64 t1) ∧ w'.cell? ⟨T, 2, none⟩ = some (.int .i64 t2) ∧ w'.cell? ⟨T, 3, none⟩ = some (.int .i64 t3) ∧ w'.cell? ⟨T, 4, none⟩ = some (.int .i64 t4) ∧ w'.cell? ⟨T, 5, none⟩ = some (.int .i64 t5)) (go_keep) (first
        | (go_at_call 11; (first | refine (S1 _ HB).mono ?_ | refine (S1 _ HB.drew).mono ?_); rintro e wn ⟨rfl, kk⟩; replace HB := belowT (by first | exact HB | exact HB.drew) kk; obtain ⟨j0, j1, j2, j3, j4, j5, j6, s0, s1, s2, s3, s4, s5⟩ := keep _ HB)
        | (go_at_call 13; (first | refine (S2 _ HB).mono ?_ | refine (S2 _ HB.drew).mono ?_); rintro e wn ⟨rfl, kk⟩; replace HB := belowT (by first | exact HB | exact HB.drew) kk; obtain ⟨j0, j1, j2, j3, j4, j5, j6, s0, s1, s2, s3, s4, s5⟩ := keep _ HB)
        | (go_at_call 14; (first | refine (S3 _ HB).mono ?_ | refine (S3 _ HB.drew).mono ?_); rintro e wn ⟨rfl, kk⟩; replace HB := belowT (by first | exact HB | exact HB.drew) kk; obtain ⟨j0, j1, j2, j3, j4, j5, j6, s0, s1, s2, s3, s4, s5⟩ := keep _ HB)
        | (go_at_call 15; (first | refine (S4 _ HB).mono ?_ | refine (S4 _ HB.drew).mono ?_); rintro e wn ⟨rfl, kk⟩; replace HB := belowT (by first | exact HB | exact HB.drew) kk; obtain ⟨j0, j1, j2, j3, j4, j5, j6, s0, s1, s2, s3, s4, s5⟩ := keep _ HB)
        | (go_at_call 16; (first | refine (S5 _ HB).mono ?_ | refine (S5 _ HB.drew).mono ?_); rintro e wn ⟨rfl, kk⟩; replace HB := belowT (by first | exact HB | exact HB.drew) kk; obtain ⟨j0, j1, j2, j3, j4, j5, j6, s0, s1, s2, s3, s4, s5⟩ := keep _ HB)
        | (go_at_call 8; (first | refine (S6 _ HB).mono ?_ | refine (S6 _ HB.drew).mono ?_); rintro e wn ⟨g2, cap2, rfl, hB2, kk⟩; replace HB := belowT (by first | exact HB | exact HB.drew) kk; obtain ⟨j0, j1, j2, j3, j4, j5, j6, s0, s1, s2, s3, s4, s5⟩ := keep _ HB)
        | (go_at_call 12; (first | refine (S7 _ HB g2 cap2 _ hB2).mono ?_ | refine (S7 _ HB.drew g2 cap2 _ hB2).mono ?_); rintro e wn ⟨rfl, rfl⟩))
      all_goals
        go_wp2_with fail
        go_meet
        case rel => first | exact ⟨rfl, HB⟩ | exact ⟨rfl, HB.drew⟩
    · have j0 := fun n : Later W => Later.cell U7.lt (U7.cell (i := 0) rfl) n
      have s0 := fun n : Later W => Later.cell T7.lt (T7.cell (i := 0) rfl) n
      have s1 := fun n : Later W => Later.cell T7.lt (T7.cell (i := 1) rfl) n
      have s2 := fun n : Later W => Later.cell T7.lt (T7.cell (i := 2) rfl) n
      have s3 := fun n : Later W => Later.cell T7.lt (T7.cell (i := 3) rfl) n
      have s4 := fun n : Later W => Later.cell T7.lt (T7.cell (i := 4) rfl) n
      have s5 := fun n : Later W => Later.cell T7.lt (T7.cell (i := 5) rfl) n
      replace S1 := fun n : Later W => S1 n.at n.bel
      replace S2 := fun n : Later W => S2 n.at n.bel
      replace S3 := fun n : Later W => S3 n.at n.bel
      replace S4 := fun n : Later W => S4 n.at n.bel
      replace S5 := fun n : Later W => S5 n.at n.bel
      refine wp_region_later (by kernel_rfl) (by kernel_rfl) (fun hne => ?_)
      repeat (go_big_quiet_step ((first | (go_at_call 11; exact Later.call (S1 _)) | (go_at_call 13; exact Later.call (S2 _)) | (go_at_call 14; exact Later.call (S3 _)) | (go_at_call 15; exact Later.call (S4 _)) | (go_at_call 16; exact Later.call (S5 _)))))
      refine wpQuiet_nil ?_
      rintro _ ⟨nn, rfl⟩
      have HB := nn.bel
      clear j0 s0 s1 s2 s3 s4 s5 S1 S2 S3 S4 S5 hne
      go_wp2_with fail
      go_meet
      case rel => exact ⟨rfl, HB⟩
  case rest =>
    obtain ⟨rfl, kc⟩ := hcut
    obtain ⟨Cb, HCb⟩ : ∃ Cb, Hid (Cb = w4.heap.size) := ⟨_, rfl⟩
    obtain ⟨Qb, HQb⟩ : ∃ Qb, Hid (Qb = w5.heap.size) := ⟨_, rfl⟩
    rw [← HCb.out] at C7
    rw [← HQb.out] at Q7
    have C8 := C7.below kc
    have Q8 := Q7.below kc
    have P8 := P7.below kc
    have A8 := belowT A7 kc
    rw [← HCb.out, ← HQb.out]
    clear C7 Q7 P7 A7 D7 U7 T7 kc cS HR
    by_cases hF0 : F = 0
    · subst hF0
      have hfl : flt x0 x1 x2 x3 x4 x5 = 0 := HF.out.symm
      obtain ⟨gp, capp, hv, hB⟩ := P8 hfl
      have Hfl : Hid (flt x0 x1 x2 x3 x4 x5 = 0) := hfl
      obtain ⟨n, Hn⟩ : ∃ n, Hid (n = 6 + 3 * pc x2) := ⟨_, rfl⟩
      rw [← Hn.out] at hv
      replace hv := hv.symm
      simp only [Value.slice.injEq] at hv
      obtain ⟨rfl, rfl, rfl⟩ := hv
      have hn6 : 6 ≤ n ∧ n ≤ 15 := by rw [Hn.out]; have := pc_le x2; omega
      have hlenP : (pk x0 x1 x2 x3 x4 x5).length = n := by rw [pk_len, Hn.out]
      have HlenP : Hid ((pk x0 x1 x2 x3 x4 x5).length = n) := hlenP
      have hbyt : Hid (Byt (pk x0 x1 x2 x3 x4 x5)) := pk_bd hfl
      have hat : BAt wc gp 0 (pk x0 x1 x2 x3 x4 x5) := hB.at
      have hcapsP := hB.caps
      have hgp : gp < wc.heap.size := hB.lt.2
      have d6 : decide ((n : Int) < 6) = false := decide_eq_false (by omega)
      have d40 : decide ((40 : Int) < (n : Int)) = false := decide_eq_false (by omega)
      have e0 := Q8.cell (i := 0) rfl
      have e1 := Q8.cell (i := 1) rfl
      have el := Q8.lt
      clear hfl hlenP P8
      go_wp2_with (first | (at_builtin; refine wpList_copy rfl _ _ rfl wc (pk x0 x1 x2 x3 x4 x5) gp n capp HlenP.out hat hgp rfl rfl (by omega) ?_))
      intro v9 w9 R9 k9
      obtain ⟨gt, capt, hv9, hgt, hgt2⟩ := R9.form (by have := HlenP.out; omega)
      rw [HlenP.out] at hv9
      subst hv9
      have A9 := belowT A8 k9
      have C9 := C8.below k9
      have Q9 := Q8.below k9
      have B9 : BRow w9 wc.heap.size (.slice (some ⟨gt, 0, none⟩) n capt) (pk x0 x1 x2 x3 x4 x5) := R9
      have hatP : BAt w9 gp 0 (pk x0 x1 x2 x3 x4 x5) := (hB.below k9).at
      have hcapsT := B9.caps
      have hne : gp ≠ gt := by omega
      clear R9 hat e0 e1 el
      go_wp2_with fail
      refine (lwAt_c w9 w9.heap.size a len cap 2 n (hb.later A9) hl (by omega) (by omega) (by omega) (by omega)).mono ?_
      rintro e w10 ⟨r, rfl, r0, r1, kk, hw10⟩
      have k10 : Below w9.heap.size w9 w10 := by rw [hw10]; exact ⟨rfl, rfl, rfl, Nat.le_refl _, fun _ _ => rfl⟩
      clear hw10
      obtain ⟨i, rfl⟩ : ∃ i : Nat, r = (i : Int) := ⟨r.toNat, by omega⟩
      have hi : (i : Int) < (n : Int) := r1
      obtain ⟨x, hx⟩ : ∃ x, (pk x0 x1 x2 x3 x4 x5)[i]? = some x := ⟨_, List.getElem?_eq_getElem (by have := HlenP.out; omega)⟩
      have Hx : Hid ((pk x0 x1 x2 x3 x4 x5)[i]? = some x) := hx
      have xb := hbyt.out x (List.mem_of_getElem? hx)
      have A10 := belowT A9 k10
      have C10 := C9.below k10
      have Q10 := Q9.below k10
      have B10 := B9.below k10
      have hat10 : BAt w10 gp 0 (pk x0 x1 x2 x3 x4 x5) := fun j y hj => by rw [k10.cell (Nat.lt_of_lt_of_le hgp k9.size)]; exact hatP j y hj
      have tc := B10.cell hx
      have tz := B10.frozen i
      have tl : gt < w10.heap.size := Nat.lt_of_lt_of_le hgt2 k10.size
      clear hx C9 Q9 B9 A9 r0
      go_upto_region 17 with fail
      have cL := fun w (hb : Below w10.heap.size w10 w) (hbb : Bytes w a len w.heap.size) => lwAt_c w w.heap.size a len cap 3 255 hbb hl (by omega) (by omega) (by omega) (by omega)
      have hbb := hb.later A10
      have hturn : ∀ r2 : Int, 0 ≤ r2 → r2 < 255 → Hid (0 ≤ bits .xor .u8 x (IntKind.u8.wrap (IntKind.i64.wrap (1 + r2))) ∧ bits .xor .u8 x (IntKind.u8.wrap (IntKind.i64.wrap (1 + r2))) ≤ 255 ∧ x ≠ bits .xor .u8 x (IntKind.u8.wrap (IntKind.i64.wrap (1 + r2)))) := fun r2 h0 h1 => by
        have e : IntKind.u8.wrap (IntKind.i64.wrap (1 + r2)) = 1 + r2 := wrap8 h0 h1
        show _ ∧ _ ∧ _
        rw [e]
        exact xor_turn xb.1 xb.2 (by omega) (by omega)
      go_cut [126] from 115 to 125 (fun s126 wx => ∃ (z : Int) (kq : Nat), Hid (0 ≤ z ∧ z ≤ 255 ∧ x ≠ z) ∧ s126 = .pointer (some ⟨gt, i, none⟩) ∧ wx = (w10.drewN kq).setCell ⟨gt, i, none⟩ (.int .u8 z))
      case first =>
        go_region_with (go_at_call 19; (first | refine (cL _ (Below.refl _ _) hbb).mono ?_ | refine (cL _ (Below.refl _ _).drew hbb).mono ?_); rintro e wn ⟨r2, rfl, y0, y1, k2, rfl⟩)
        all_goals
          have ht := hturn r2 y0 y1
          go_wp2_with fail
          go_meet
          case rel => exact ⟨_, _, ht, rfl, rfl⟩
      case rest =>
        obtain ⟨z, kq, Hz, rfl, hwx⟩ := hcut
        have hC10 : Cb < w10.heap.size := C10.lt
        have hCg : Cb ≠ gt := by have := C8.lt; omega
        have hQg : Qb ≠ gt := by have := Q8.lt; omega
        have hw1 : w1.heap.size ≤ gt := by have := A8.size; omega
        have dN : Below w10.heap.size w10 (w10.drewN kq) := ⟨rfl, rfl, rfl, Nat.le_refl _, fun _ _ => rfl⟩
        have A11 : Below w1.heap.size w1 wc := by rw [hwx]; exact (belowT A10 dN).setCell hw1 _
        have C11 : Blk wc Cb (cmdV x0 x1 x2 x3 x4 x5) 26 := by rw [hwx]; exact (C10.below dN).setOther hCg _
        have Q11 : Blk wc Qb #[.int .i64 0, .slice (some ⟨gp, 0, none⟩) n capp] 32 := by rw [hwx]; exact (Q10.below dN).setOther hQg _
        have P11 : BAt wc gp 0 (pk x0 x1 x2 x3 x4 x5) := by rw [hwx]; exact BAt.setOther (w := w10.drewN kq) (fun j y hj => hat10 j y hj) hne _
        have T11 : BAt wc gt 0 ((pk x0 x1 x2 x3 x4 x5).set i z) := by rw [hwx]; exact BAt.set (w := w10.drewN kq) (B10.below dN).at tl i x z Hx.out
        have lp : gp < wc.heap.size := by rw [hwx]; show gp < (w10.setCell _ _).heap.size; have := hgp; have := k9.size; have := k10.size; simp [World.setCell]; omega
        have lt' : gt < wc.heap.size := by rw [hwx]; show gt < (w10.setCell _ _).heap.size; simp [World.setCell]; exact tl
        have R1 := fun w (HB : Below wc.heap.size wc w) => implReadCommand gp capp n _ HlenP.out hcapsP.1 hcapsP.2 hbyt.out w (hL.later (belowT A11 HB)).pcs (Nat.lt_of_lt_of_le lp HB.size) (fun j y hj => by rw [HB.cell lp]; exact P11 j y hj)
        have R2 := fun w (HB : Below wc.heap.size wc w) => implReadCommand gt capt n ((pk x0 x1 x2 x3 x4 x5).set i z) (by rw [List.length_set]; exact HlenP.out) hcapsT.1 hcapsT.2 (set_byt hbyt.out Hz.out.1 Hz.out.2.1) w (hL.later (belowT A11 HB)).pcs (Nat.lt_of_lt_of_le lt' HB.size) (fun j y hj => by rw [HB.cell lt']; exact T11 j y hj)
        rw [rdV_back Hfl.out] at R1
        rw [rdV_turned Hfl.out Hx.out Hz.out.1 Hz.out.2.1 Hz.out.2.2] at R2
        have hEq := fun w => eqC x0 x1 x2 x3 x4 x5 w
        have hh0 : ∀ (a b c d e f g : Value) (w : World), (Instr.field 28 (.agg #[a, b, c, d, e, f, g]) 0).run Tryd.prog w = .ok a w := fun _ _ _ _ _ _ _ _ => by kernel_rfl
        have hh1 : ∀ (a b c d e f g : Value) (w : World), (Instr.field 28 (.agg #[a, b, c, d, e, f, g]) 1).run Tryd.prog w = .ok (.agg #[b, c, d, e, f, g]) w := fun _ _ _ _ _ _ _ _ => by kernel_rfl
        have keep : ∀ w', Below wc.heap.size wc w' → w'.cell? ⟨Cb, 0, none⟩ = some (.int .i64 x0) ∧ w'.cell? ⟨Cb, 1, none⟩ = some (.int .i64 x1) ∧ w'.cell? ⟨Cb, 2, none⟩ = some (.int .i64 x2) ∧ w'.cell? ⟨Cb, 3, none⟩ = some (.int .i64 x3) ∧ w'.cell? ⟨Cb, 4, none⟩ = some (.int .i64 x4) ∧ w'.cell? ⟨Cb, 5, none⟩ = some (.int .i64 x5) ∧ w'.cell? ⟨Qb, 1, none⟩ = some (.slice (some ⟨gp, 0, none⟩) n capp) := fun w' hb => ⟨by rw [hb.cell C11.lt]; exact C11.cell (i := 0) rfl, by rw [hb.cell C11.lt]; exact C11.cell (i := 1) rfl, by rw [hb.cell C11.lt]; exact C11.cell (i := 2) rfl, by rw [hb.cell C11.lt]; exact C11.cell (i := 3) rfl, by rw [hb.cell C11.lt]; exact C11.cell (i := 4) rfl, by rw [hb.cell C11.lt]; exact C11.cell (i := 5) rfl, by rw [hb.cell Q11.lt]; exact Q11.cell (i := 1) rfl⟩
        have HB : Below wc.heap.size wc wc := Below.refl _ _
        obtain ⟨j0, j1, j2, j3, j4, j5, j6⟩ := keep _ HB
        clear hwx tc tz C10 Q10 B10 hat10 P11 T11 cL hbb hturn
        go_upto_region 18 with fail
        go_region_held3 (fun w' => w'.cell? ⟨Cb, 0, none⟩ = some (.int .i64 x0) ∧ w'.cell? ⟨Cb, 1, none⟩ = some (.int .i64 x1) ∧ w'.cell? ⟨Cb, 2, none⟩ = some (.int .i64 x2) ∧ w'.cell? ⟨Cb, 3, none⟩ = some (.int .i64 x3) ∧ w'.cell? ⟨Cb, 4, none⟩ = some (.int .i64 x4) ∧ w'.cell? ⟨Cb, 5, none⟩ = some (.int .i64 x5) ∧ w'.cell? ⟨Qb, 1, none⟩ = some (.slice (some ⟨gp, 0, none⟩) n capp)) (go_keep) (first
          | (go_at_call 6; (first | with_reducible refine (R1 _ HB).mono ?_ | with_reducible refine (R1 _ HB.drew).mono ?_ | with_reducible refine (R2 _ HB).mono ?_ | with_reducible refine (R2 _ HB.drew).mono ?_); rintro e wn ⟨rfl, kk'⟩; replace HB := belowT (by first | exact HB | exact HB.drew) kk'; obtain ⟨j0, j1, j2, j3, j4, j5, j6⟩ := keep _ HB))
        all_goals
          go_wp2_with fail
          go_ret
          first | exact ⟨rfl, belowT A11 HB⟩ | exact ⟨rfl, belowT A11 HB.drew⟩
    · have hFb : (F == 0) = false := by simpa using hF0
      have hFn : (F != 0) = true := by simpa using hF0
      have hFF : (F == F) = true := by simp
      have hfne : (flt x0 x1 x2 x3 x4 x5 != 0) = true := by rw [← HF.out]; exact hFn
      have R1 := fun w (HB : Below wc.heap.size wc w) => specPack_no x0 x1 x2 x3 x4 x5 hfne w
      have R2 := fun w (HB : Below wc.heap.size wc w) => implCommandFault x0 x1 x2 x3 x4 x5 w (hL.later (belowT A8 HB)).pcs
      rw [← HF.out] at R1 R2
      have hb0 : ∀ (s u : Value) (w : World), (Instr.field 32 (.agg #[s, u]) 0).run Tryd.prog w = .ok s w := fun _ _ _ => by kernel_rfl
      have keep : ∀ w', Below wc.heap.size wc w' → w'.cell? ⟨Cb, 0, none⟩ = some (.int .i64 x0) ∧ w'.cell? ⟨Cb, 1, none⟩ = some (.int .i64 x1) ∧ w'.cell? ⟨Cb, 2, none⟩ = some (.int .i64 x2) ∧ w'.cell? ⟨Cb, 3, none⟩ = some (.int .i64 x3) ∧ w'.cell? ⟨Cb, 4, none⟩ = some (.int .i64 x4) ∧ w'.cell? ⟨Cb, 5, none⟩ = some (.int .i64 x5) ∧ w'.cell? ⟨Qb, 0, none⟩ = some (.int .i64 F) := fun w' hb => ⟨by rw [hb.cell C8.lt]; exact C8.cell (i := 0) rfl, by rw [hb.cell C8.lt]; exact C8.cell (i := 1) rfl, by rw [hb.cell C8.lt]; exact C8.cell (i := 2) rfl, by rw [hb.cell C8.lt]; exact C8.cell (i := 3) rfl, by rw [hb.cell C8.lt]; exact C8.cell (i := 4) rfl, by rw [hb.cell C8.lt]; exact C8.cell (i := 5) rfl, by rw [hb.cell Q8.lt]; exact Q8.cell (i := 0) rfl⟩
      have HB : Below wc.heap.size wc wc := Below.refl _ _
      obtain ⟨j0, j1, j2, j3, j4, j5, j6⟩ := keep _ HB
      clear hfne P8
      go_upto_region 12 with fail
      go_region_held3 (fun w' => w'.cell? ⟨Cb, 0, none⟩ = some (.int .i64 x0) ∧ w'.cell? ⟨Cb, 1, none⟩ = some (.int .i64 x1) ∧ w'.cell? ⟨Cb, 2, none⟩ = some (.int .i64 x2) ∧ w'.cell? ⟨Cb, 3, none⟩ = some (.int .i64 x3) ∧ w'.cell? ⟨Cb, 4, none⟩ = some (.int .i64 x4) ∧ w'.cell? ⟨Cb, 5, none⟩ = some (.int .i64 x5) ∧ w'.cell? ⟨Qb, 0, none⟩ = some (.int .i64 F)) (go_keep) (first
        | (go_at_call 17; (first | with_reducible refine (R1 _ HB).mono ?_ | with_reducible refine (R1 _ HB.drew).mono ?_); rintro e wn ⟨rfl, kk'⟩; replace HB := belowT (by first | exact HB | exact HB.drew) kk'; obtain ⟨j0, j1, j2, j3, j4, j5, j6⟩ := keep _ HB)
        | (go_at_call 18; (first | with_reducible refine (R2 _ HB).mono ?_ | with_reducible refine (R2 _ HB.drew).mono ?_); rintro e wn ⟨rfl, kk'⟩; replace HB := belowT (by first | exact HB | exact HB.drew) kk'; obtain ⟨j0, j1, j2, j3, j4, j5, j6⟩ := keep _ HB))
      all_goals
        go_wp2_with fail
        go_ret
        first | exact ⟨rfl, belowT A8 HB⟩ | exact ⟨rfl, belowT A8 HB.drew⟩
theorem walk_fnCommands (a0 : Option Addr) (len0 cap0 : Nat) (z0 : List Int) (w : World) (w0 : IsRow .u8 w a0 len0 cap0 z0) (hL : TxAt w) :
    Calls Tryd.prog 3 #[.slice a0 len0 cap0] w fun e w' => e = .returned (.bool true) ∧ Below w.heap.size w w' := by
  by_cases h : len0 ≤ 1048576
  · exact commands_walk w a0 len0 cap0 (Bytes.of_row w0) h hL
  · go_enter Tryd.func3, Tryd.ntmps3
    go_wp2_with fail
    refine (lwBig_yes w a0 len0 cap0 (by omega)).mono ?_
    rintro e w1 ⟨rfl, rfl⟩
    go_wp2
    go_ret
    exact ⟨rfl, Below.refl _ _⟩
end Go.Proofs.YtcpgbhjnhahecaaDoor
