/- The contract of the model's l3Read at bytes whose kind has 2 numbers. No condition. -/
import Derived.Test.YtcpgbhjnhahecaaDoorL3Read
import Derived.Deep.RegionHeld3
namespace Go.Proofs.YtcpgbhjnhahecaaDoor
open Go.ChangeShapes Go.WideShapes Go.ChangeAt Go.RowKit
open Cm
set_option linter.unusedVariables false
set_option maxRecDepth 100000 in
set_option maxHeartbeats 4000000 in
theorem l3Read_2 (g cap m : Nat) (hm0 : m = 12) (hcap : m ≤ cap) (d0 d1 d2 d3 x0 y0 z0 x1 y1 z1 s0 s1 : Int) (bd0 : 0 ≤ d0 ∧ d0 ≤ 255) (bd1 : 0 ≤ d1 ∧ d1 ≤ 255) (bd2 : 0 ≤ d2 ∧ d2 ≤ 255) (bd3 : 0 ≤ d3 ∧ d3 ≤ 255) (bx0 : 0 ≤ x0 ∧ x0 ≤ 255) (by0 : 0 ≤ y0 ∧ y0 ≤ 255) (bz0 : 0 ≤ z0 ∧ z0 ≤ 255) (bx1 : 0 ≤ x1 ∧ x1 ≤ 255) (by1 : 0 ≤ y1 ∧ y1 ≤ 255) (bz1 : 0 ≤ z1 ∧ z1 ≤ 255) (bs0 : 0 ≤ s0 ∧ s0 ≤ 255) (bs1 : 0 ≤ s1 ∧ s1 ≤ 255) (hk : inb d1 1 11 = true) (hn : pc d1 = 2) (l : List Int) (hl : l = [d0, d1, d2, d3, x0, y0, z0, x1, y1, z1, s0, s1]) (hb : Byt l) (w : World) (hg : g < w.heap.size) (hat : BAt w g 0 l) :
    Calls Tryd.prog 31 #[.slice (some ⟨g, 0, none⟩) m cap] w fun e w' => LR ((256 * s0 + s1 == sm (l.take 10)) && (flt d0 (256 * d2 + d3) d1 (x0 * 65536 + y0 * 256 + z0) (x1 * 65536 + y1 * 256 + z1) (0) == 0)) (cmdV d0 (256 * d2 + d3) d1 (x0 * 65536 + y0 * 256 + z0) (x1 * 65536 + y1 * 256 + z1) (0)) e ∧ Below w.heap.size w w' := by
  obtain ⟨B, hB⟩ : ∃ B : Bool, Hid (B = ((256 * s0 + s1 == sm (l.take 10)) && (flt d0 (256 * d2 + d3) d1 (x0 * 65536 + y0 * 256 + z0) (x1 * 65536 + y1 * 256 + z1) (0) == 0))) := ⟨_, rfl⟩
  rw [← hB.out]
  subst hm0
  have hlen : l.length = 12 := by rw [hl]; rfl
  have hkk := inb_i hk
  have c0 : w.cell? ⟨g, 0, none⟩ = some (.int .u8 d0) := by have h := hat 0 d0 (by rw [hl]; rfl); simpa using h
  have c1 : w.cell? ⟨g, 1, none⟩ = some (.int .u8 d1) := by have h := hat 1 d1 (by rw [hl]; rfl); simpa using h
  have c2 : w.cell? ⟨g, 2, none⟩ = some (.int .u8 d2) := by have h := hat 2 d2 (by rw [hl]; rfl); simpa using h
  have c3 : w.cell? ⟨g, 3, none⟩ = some (.int .u8 d3) := by have h := hat 3 d3 (by rw [hl]; rfl); simpa using h
  have c4 : w.cell? ⟨g, 4, none⟩ = some (.int .u8 x0) := by have h := hat 4 x0 (by rw [hl]; rfl); simpa using h
  have c5 : w.cell? ⟨g, 5, none⟩ = some (.int .u8 y0) := by have h := hat 5 y0 (by rw [hl]; rfl); simpa using h
  have c6 : w.cell? ⟨g, 6, none⟩ = some (.int .u8 z0) := by have h := hat 6 z0 (by rw [hl]; rfl); simpa using h
  have c7 : w.cell? ⟨g, 7, none⟩ = some (.int .u8 x1) := by have h := hat 7 x1 (by rw [hl]; rfl); simpa using h
  have c8 : w.cell? ⟨g, 8, none⟩ = some (.int .u8 y1) := by have h := hat 8 y1 (by rw [hl]; rfl); simpa using h
  have c9 : w.cell? ⟨g, 9, none⟩ = some (.int .u8 z1) := by have h := hat 9 z1 (by rw [hl]; rfl); simpa using h
  have c10 : w.cell? ⟨g, 10, none⟩ = some (.int .u8 s0) := by have h := hat 10 s0 (by rw [hl]; rfl); simpa using h
  have c11 : w.cell? ⟨g, 11, none⟩ = some (.int .u8 s1) := by have h := hat 11 s1 (by rw [hl]; rfl); simpa using h
  have A1 : Below w.heap.size w ((w.alloc (.cells (cmdV 0 0 0 0 0 0) 26)).alloc pcO) := ((Below.refl w.heap.size w).alloc (Nat.le_refl _) _).alloc (by rw [size_new]; omega) _
  have hg1 : g < ((w.alloc (.cells (cmdV 0 0 0 0 0 0) 26)).alloc pcO).heap.size := by rw [size_new, size_new]; omega
  have cS := fun (nn : Later ((w.alloc (.cells (cmdV 0 0 0 0 0 0) 26)).alloc pcO)) => l1Sum_c g 0 cap 10 (l.take 10) (by rw [List.length_take, hlen]; rfl) (by omega) (fun x hx => hb x (List.mem_of_mem_take hx)) nn.at (fun i x hi => by rw [nn.bel.cell hg1, A1.cell hg]; exact hat i x (getElem?_of_take hi))
  have hsm := sm_bd (l.take 10)
  have HSM : Hid (sm (l.take 10) = sm (l.take 10)) := rfl
  obtain ⟨S, hS⟩ : ∃ S : Int, Hid (S = sm (l.take 10)) := ⟨_, rfl⟩
  rw [← hS.out] at cS hsm
  have R1 : Blk ((w.alloc (.cells (cmdV 0 0 0 0 0 0) 26)).alloc pcO) w.heap.size (cmdV 0 0 0 0 0 0) 26 := (Blk.new w (cmdV 0 0 0 0 0 0) 26).alloc pcO
  clear hlen hat hb hl HSM
  have hm1 : (1 : Int) < ((12 : Nat) : Int) := by omega
  have hm' : decide (((12 : Nat) : Int) < 6) = false := by decide
  have hk10 : (10 : Int) ≤ (cap : Int) := by omega
  have v0 := fun nn => Later.cell hg1 ((A1.cell (p := ⟨g, 0, none⟩) hg).trans c0) nn
  have v1 := fun nn => Later.cell hg1 ((A1.cell (p := ⟨g, 1, none⟩) hg).trans c1) nn
  have v2 := fun nn => Later.cell hg1 ((A1.cell (p := ⟨g, 2, none⟩) hg).trans c2) nn
  have v3 := fun nn => Later.cell hg1 ((A1.cell (p := ⟨g, 3, none⟩) hg).trans c3) nn
  have v4 := fun nn => Later.cell hg1 ((A1.cell (p := ⟨g, 4, none⟩) hg).trans c4) nn
  have v5 := fun nn => Later.cell hg1 ((A1.cell (p := ⟨g, 5, none⟩) hg).trans c5) nn
  have v6 := fun nn => Later.cell hg1 ((A1.cell (p := ⟨g, 6, none⟩) hg).trans c6) nn
  have v7 := fun nn => Later.cell hg1 ((A1.cell (p := ⟨g, 7, none⟩) hg).trans c7) nn
  have v8 := fun nn => Later.cell hg1 ((A1.cell (p := ⟨g, 8, none⟩) hg).trans c8) nn
  have v9 := fun nn => Later.cell hg1 ((A1.cell (p := ⟨g, 9, none⟩) hg).trans c9) nn
  have v10 := fun nn => Later.cell hg1 ((A1.cell (p := ⟨g, 10, none⟩) hg).trans c10) nn
  have v11 := fun nn => Later.cell hg1 ((A1.cell (p := ⟨g, 11, none⟩) hg).trans c11) nn
  go_enter Tryd.func31, Tryd.ntmps31
  go_wp2_with (first | (go_at_call 33; refine (l3Kind_c _ _).mono ?_; rintro e w' ⟨rfl, rfl⟩) | (go_at_call 34; refine (l3Params_c d1 hkk.1 hkk.2 _).mono ?_; rintro e w' ⟨rfl, rfl⟩; rw [hn]))
  refine wp_region_later (by kernel_rfl) (by kernel_rfl) (fun hne => ?_)
  repeat (go_big_quiet_step (first | (go_at_call 41; exact Later.call0 (cS _))))
  refine wpQuiet_nil ?_
  rintro _ ⟨nn, rfl⟩
  have k2 := nn.bel
  have A2 := A1.trans (k2.mono A1.size)
  have R2 := R1.below k2
  have gl : g < nn.at.heap.size := Nat.lt_of_lt_of_le hg1 k2.size
  replace c0 := v0 nn
  have e0 := fun o => (cell_old nn.at o g 0 gl).trans c0
  replace c1 := v1 nn
  have e1 := fun o => (cell_old nn.at o g 1 gl).trans c1
  replace c2 := v2 nn
  have e2 := fun o => (cell_old nn.at o g 2 gl).trans c2
  replace c3 := v3 nn
  have e3 := fun o => (cell_old nn.at o g 3 gl).trans c3
  replace c4 := v4 nn
  have e4 := fun o => (cell_old nn.at o g 4 gl).trans c4
  replace c5 := v5 nn
  have e5 := fun o => (cell_old nn.at o g 5 gl).trans c5
  replace c6 := v6 nn
  have e6 := fun o => (cell_old nn.at o g 6 gl).trans c6
  replace c7 := v7 nn
  have e7 := fun o => (cell_old nn.at o g 7 gl).trans c7
  replace c8 := v8 nn
  have e8 := fun o => (cell_old nn.at o g 8 gl).trans c8
  replace c9 := v9 nn
  have e9 := fun o => (cell_old nn.at o g 9 gl).trans c9
  clear v0 v1 v2 v3 v4 v5 v6 v7 v8 v9 v10 v11 cS A1 R1 k2 hg1 hne
  generalize nn.at = W at *
  clear nn
  cases hq : (256 * s0 + s1 != S)
  · have HQ : Hid ((256 * s0 + s1 == S) = true) := by show _ = _; simpa using hq
    go_wp2_with fail
    refine wp_loop_rounds 3 ?_
    rw [rounds_succ]
    go_wp2_with fail
    go_region
    go_wp2_with fail
    rw [rounds_succ]
    go_wp2_with fail
    go_region
    go_wp2_with fail
    rw [rounds_succ]
    go_wp2_with fail
    have wr0 := i64_byte bd0
    have wr1 := i64_byte bd1
    have wr2 := i64_byte bd2
    have wr3 := i64_byte bd3
    have wr4 : IntKind.i64.wrap (256 * d2) = 256 * d2 := by rw [IntKind.wrap_i64]; omega
    have wr5 : IntKind.i64.wrap (256 * d2 + d3) = 256 * d2 + d3 := by rw [IntKind.wrap_i64]; omega
    go_region_held3 (fun w' => w'.cell? ⟨g, 0, none⟩ = some (.int .u8 d0) ∧ w'.cell? ⟨g, 1, none⟩ = some (.int .u8 d1) ∧ w'.cell? ⟨g, 2, none⟩ = some (.int .u8 d2) ∧ w'.cell? ⟨g, 3, none⟩ = some (.int .u8 d3) ∧ w'.cell? ⟨W.heap.size, 0, none⟩ = some (.int .i64 (x0 * 65536 + y0 * 256 + z0)) ∧ w'.cell? ⟨W.heap.size, 1, none⟩ = some (.int .i64 (x1 * 65536 + y1 * 256 + z1)) ∧ w'.cell? ⟨W.heap.size, 2, none⟩ = some (.int .i64 (0))) (go_keep) (fail)
    clear wr0 wr1 wr2 wr3 wr4 wr5
    go_wp2_with fail
    have C6 : Blk ((W.alloc (.cells #[.int .i64 (x0 * 65536 + y0 * 256 + z0), .int .i64 (x1 * 65536 + y1 * 256 + z1), .int .i64 (0)] 2)).alloc (.cells (cmdV d0 (256 * d2 + d3) d1 (x0 * 65536 + y0 * 256 + z0) (x1 * 65536 + y1 * 256 + z1) (0)) 26)).drew.drew.drew.drew (W.heap.size + 1) (cmdV d0 (256 * d2 + d3) d1 (x0 * 65536 + y0 * 256 + z0) (x1 * 65536 + y1 * 256 + z1) (0)) 26 := by have h := Blk.new (W.alloc (.cells #[.int .i64 (x0 * 65536 + y0 * 256 + z0), .int .i64 (x1 * 65536 + y1 * 256 + z1), .int .i64 (0)] 2)) (cmdV d0 (256 * d2 + d3) d1 (x0 * 65536 + y0 * 256 + z0) (x1 * 65536 + y1 * 256 + z1) (0)) 26; rw [size_new] at h; exact h.drew.drew.drew.drew
    have R6 : Blk ((W.alloc (.cells #[.int .i64 (x0 * 65536 + y0 * 256 + z0), .int .i64 (x1 * 65536 + y1 * 256 + z1), .int .i64 (0)] 2)).alloc (.cells (cmdV d0 (256 * d2 + d3) d1 (x0 * 65536 + y0 * 256 + z0) (x1 * 65536 + y1 * 256 + z1) (0)) 26)).drew.drew.drew.drew w.heap.size (cmdV 0 0 0 0 0 0) 26 := ((R2.alloc (.cells #[.int .i64 (x0 * 65536 + y0 * 256 + z0), .int .i64 (x1 * 65536 + y1 * 256 + z1), .int .i64 (0)] 2)).alloc (.cells (cmdV d0 (256 * d2 + d3) d1 (x0 * 65536 + y0 * 256 + z0) (x1 * 65536 + y1 * 256 + z1) (0)) 26)).drew.drew.drew.drew
    have A6 : Below w.heap.size w ((W.alloc (.cells #[.int .i64 (x0 * 65536 + y0 * 256 + z0), .int .i64 (x1 * 65536 + y1 * 256 + z1), .int .i64 (0)] 2)).alloc (.cells (cmdV d0 (256 * d2 + d3) d1 (x0 * 65536 + y0 * 256 + z0) (x1 * 65536 + y1 * 256 + z1) (0)) 26)).drew.drew.drew.drew := ((A2.alloc A2.size _).alloc (by have := A2.size; rw [size_new]; omega) _).drew.drew.drew.drew
    have cF := l3Fault_c (W.heap.size + 1) d0 (256 * d2 + d3) d1 (x0 * 65536 + y0 * 256 + z0) (x1 * 65536 + y1 * 256 + z1) (0) _ C6.cmd
    obtain ⟨F, HF⟩ : ∃ F : Int, Hid (F = flt d0 (256 * d2 + d3) d1 (x0 * 65536 + y0 * 256 + z0) (x1 * 65536 + y1 * 256 + z1) (0)) := ⟨_, rfl⟩
    rw [← HF.out] at cF
    go_region_with (go_at_call 36; refine cF.mono ?_; rintro e w7 ⟨rfl, k7⟩; have C7 := C6.below k7; have R7 := R6.below k7; have A7 := A6.trans (k7.mono A6.size); have rl := R7.lt; obtain ⟨q0, q1, q2, q3, q4, q5, ql⟩ := C7.cmd; obtain ⟨r0, r1, r2, r3, r4, r5, _⟩ := R7.cmd; have fz0 := R7.frozen 0; have fz1 := R7.frozen 1; have fz2 := R7.frozen 2; have fz3 := R7.frozen 3; have fz4 := R7.frozen 4; have fz5 := R7.frozen 5)
    all_goals
      go_wp2_with fail
      refine bodyPost_ret (v := .tuple #[.agg (cmdV d0 (256 * d2 + d3) d1 (x0 * 65536 + y0 * 256 + z0) (x1 * 65536 + y1 * 256 + z1) (0)), .bool (F == 0)]) ?_ rfl ⟨?_, ?_⟩
      · simp [results, Tryd.results31, go_sem, r0, r1, r2, r3, r4, r5]
        done
      · cases hF : (F == 0)
        · exact LR.no (by rw [hB.out, ← HF.out, hF, Bool.and_false])
        · exact LR.yes (by rw [hB.out, ← HF.out, hF, ← hS.out, HQ.out]; rfl)
      · exact ((((((A7.setCell (Nat.le_refl _) _).setCell (Nat.le_refl _) _).setCell (Nat.le_refl _) _).setCell (Nat.le_refl _) _).setCell (Nat.le_refl _) _).setCell (Nat.le_refl _) _)
  · have HQ : Hid ((256 * s0 + s1 == S) = false) := by show _ = _; simpa using hq
    obtain ⟨r0, r1, r2, r3, r4, r5, rl⟩ := R2.cmd
    have fz0 := R2.frozen 0
    have fz1 := R2.frozen 1
    have fz2 := R2.frozen 2
    have fz3 := R2.frozen 3
    have fz4 := R2.frozen 4
    have fz5 := R2.frozen 5
    go_wp2_with fail
    refine bodyPost_ret (v := .tuple #[.agg (cmdV 0 0 0 0 0 0), .bool false]) ?_ rfl ⟨?_, ?_⟩
    · simp [results, Tryd.results31, go_sem, r0, r1, r2, r3, r4, r5]
      done
    · exact LR.no (by rw [hB.out, ← hS.out, HQ.out]; rfl)
    · exact ((((((A2.setCell (Nat.le_refl _) _).setCell (Nat.le_refl _) _).setCell (Nat.le_refl _) _).setCell (Nat.le_refl _) _).setCell (Nat.le_refl _) _).setCell (Nat.le_refl _) _)
end Go.Proofs.YtcpgbhjnhahecaaDoor
