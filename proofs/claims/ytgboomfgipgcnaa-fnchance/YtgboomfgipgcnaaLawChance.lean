/- The walk of the law FnChance: its Go text returns true at every code. No condition. -/
import Derived.Test.YtgboomfgipgcnaaNumWalks
import Derived.Test.YtgboomfgipgcnaaNumDraws
import Derived.Test.YtgboomfgipgcnaaLater
namespace Go.Proofs.Ytgboomfgipgcnaa
open Go.ChangeShapes Go.WideShapes Go.ChangeAt Go.RowKit
set_option linter.unusedVariables false

set_option maxHeartbeats 2000000 in
theorem chance_walk (w : World) (a : Option Addr) (len cap : Nat) (hb : Bytes w a len w.heap.size) (hl : len ≤ 1048576) :
    Calls Try.prog 4 #[.slice a len cap] w fun e w' => e = .returned (.bool true) ∧ Below w.heap.size w w' := by
  have hf0 : ∀ (s u : Value) (w : World), (Instr.field 27 (.agg #[s, u]) 0).run Try.prog w = .ok s w := fun _ _ _ => by kernel_rfl
  have hf1 : ∀ (s u : Value) (w : World), (Instr.field 27 (.agg #[s, u]) 1).run Try.prog w = .ok u w := fun _ _ _ => by kernel_rfl
  go_enter Try.func4, Try.ntmps4
  go_wp2_with fail
  refine (lwBig_no w a len cap hl).mono ?_
  rintro e w1 ⟨rfl, rfl⟩
  go_wp2_with fail
  refine (drawNextSeed _ a len cap hb hl).mono ?_
  rintro e w2 ⟨s, rfl, hs, hb2⟩
  obtain ⟨c, r, hc, hr⟩ : ∃ c r, Hid (Nums.nsC s = c) ∧ Hid (Nums.nsV s = r) := ⟨_, _, rfl, rfl⟩
  have hseed : (c ≠ 0 ∧ True) ∨ (c = 0 ∧ 1 ≤ r ∧ r ≤ 2147483646) := by
    have g1 := hc.out
    have g2 := hr.out
    subst g1 g2
    rcases Nums.ns_cases s with ⟨_, e, _⟩ | ⟨_, _, e, _⟩ | ⟨q1, q2, e, e2⟩
    · exact .inl ⟨by rw [e]; decide, trivial⟩
    · exact .inl ⟨by rw [e]; decide, trivial⟩
    · exact .inr ⟨e, by rw [e2]; exact Nums.ns_pos s q1 q2⟩
  go_wp2_with fail
  refine (implNextSeed_as s c r hc.out hr.out _).mono ?_
  rintro e w3 ⟨rfl, rfl⟩
  go_wp2_with fail
  have hbA := (hb2.alloc (hb2.size) (Obj.cells #[Value.int IntKind.i64 c, Value.int IntKind.i64 r] 27)).alloc (by simp; have := hb2.size; omega) (Obj.cells #[Value.int IntKind.i64 c, Value.int IntKind.i64 r] 27)
  refine (drawRollOf _ a len cap (hb.later hbA) hl).mono ?_
  rintro e w4 ⟨x, n, rfl, hx, hn, hb4⟩
  have hA0 : w4.cell? ⟨w2.heap.size + 1, 0, none⟩ = some (.int .i64 c) := by rw [hb4.cell (by simp)]; simp
  have hA1 : w4.cell? ⟨w2.heap.size + 1, 1, none⟩ = some (.int .i64 r) := by rw [hb4.cell (by simp)]; simp
  have hsz : w2.heap.size + 1 < w4.heap.size := by have := hb4.size; simp at this; omega
  have hbB : Below w1.heap.size w1 w4 := hbA.trans (hb4.mono (by have := hb2.size; simp; omega))
  clear hb4 hbA
  have hroll : (Hid (Nums.roC x n = 3) ∧ Hid (Nums.roV x n = 0)) ∨ ∃ q z : Int, Hid (Nums.roC x n = 0) ∧ Hid (Nums.roV x n = q) ∧ 0 ≤ q ∧ q < n ∧ 1 ≤ n ∧ n ≤ 1000 ∧ Hid (Nums.nsC x = 0) ∧ Hid (Nums.nsV x = z) ∧ 0 ≤ z ∧ z ≤ 2147483646 ∧ Hid (z % n = q) := by
    rcases Nums.ro_cases x n with ⟨_, e1, e2⟩ | ⟨_, _, e1, e2⟩ | ⟨_, _, _, e1, e2⟩ | ⟨_, _, _, _, e1, e2⟩ | ⟨g1, g2, g3, g4, e1, e2⟩
    · exact .inl ⟨e1, e2⟩
    · exact .inl ⟨e1, e2⟩
    · exact .inl ⟨e1, e2⟩
    · exact .inl ⟨e1, e2⟩
    · rcases Nums.ns_cases x with ⟨f, _, _⟩ | ⟨_, f, _, _⟩ | ⟨_, _, f1, f2⟩
      · omega
      · omega
      · have hp := Nums.ns_pos x g1 g2
        refine .inr ⟨_, _, e1, e2, Int.emod_nonneg _ (by omega), Int.emod_lt_of_pos _ (by omega), g3, g4, f1, f2, by omega, by omega, rfl⟩
  rcases hroll with ⟨hc2, hr2⟩ | ⟨q, z, hc2, hr2, hq0, hq1, hn0, hn1, hz1, hz2, hz3, hz4, hzq⟩
  · go_wp2_with fail
    refine (implRollOf_as x n 3 0 hc2.out hr2.out _).mono ?_
    rintro e w5 ⟨rfl, rfl⟩
    go_wp2_with fail
    have k0 := fun n => Later.cell (w := (w4.alloc (.cells #[.int .i64 3, .int .i64 0] 27)).alloc (.cells #[.int .i64 3, .int .i64 0] 27)) (b := w4.heap.size + 1) (o := 0) (v := .int .i64 3) (by simp) (by simp) n
    refine wp_region_later (by kernel_rfl) (by kernel_rfl) (fun hne => ?_)
    repeat (go_big_quiet_step (((go_at_call 20; exact Later.call1 (specRollOf_as x n 3 0 hc2.out hr2.out _)))))
    refine wpQuiet_nil ?_
    rintro _ ⟨nq, rfl⟩
    have hN : Below w4.heap.size w4 nq.at := (((Below.refl w4.heap.size w4).alloc (Nat.le_refl _) _).alloc (by simp) _).trans (nq.bel.mono (by simp; omega))
    have j0 : nq.at.cell? ⟨w2.heap.size + 1, 0, none⟩ = some (.int .i64 c) := by rw [hN.cell (p := ⟨w2.heap.size + 1, 0, none⟩) hsz]; exact hA0
    have j1 : nq.at.cell? ⟨w2.heap.size + 1, 1, none⟩ = some (.int .i64 r) := by rw [hN.cell (p := ⟨w2.heap.size + 1, 1, none⟩) hsz]; exact hA1
    have hlt : w2.heap.size + 1 < nq.at.heap.size := Nat.lt_of_lt_of_le hsz hN.size
    have hbC : Below w1.heap.size w1 nq.at := hbB.trans (hN.mono hbB.size)
    rcases hseed with ⟨hc0, hrr⟩ | ⟨hc0, hr0, hr1⟩
    · have hc0' : (c != 0) = true := by simpa using hc0
      go_wp2_with fail
      have m0 := fun n' => Later.cell (w := nq.at) hlt j0 n'
      refine wp_region_later (by kernel_rfl) (by kernel_rfl) (fun hne => ?_)
      repeat (go_big_quiet_step (((go_at_call 21; exact Later.call1 (specNextSeed_as s c r hc.out hr.out _)))))
      refine wpQuiet_nil ?_
      rintro _ ⟨n2, rfl⟩
      go_wp2
      go_ret
      exact ⟨rfl, hbC.trans (n2.bel.mono hbC.size)⟩
    · obtain rfl := hc0
      go_wp2_with fail
      have m1 := fun n' => Later.cell (w := nq.at) hlt j1 n'
      refine wp_region_later (by kernel_rfl) (by kernel_rfl) (fun hne => ?_)
      repeat (go_big_quiet_step (((go_at_call 21; exact Later.call1 (specNextSeed_as s 0 r hc.out hr.out _)))))
      refine wpQuiet_nil ?_
      rintro _ ⟨n2, rfl⟩
      go_wp2
      go_ret
      exact ⟨rfl, hbC.trans (n2.bel.mono hbC.size)⟩
  · have d1 : decide (q < 0) = false := decide_eq_false (by omega)
    have d2 : decide (n ≤ q) = false := decide_eq_false (by omega)
    have hzq' : z % n = q := hzq.out
    go_wp2_with fail
    refine (implRollOf_as x n 0 q hc2.out hr2.out _).mono ?_
    rintro e w5 ⟨rfl, rfl⟩
    go_wp2_with fail
    have k0 := fun n => Later.cell (w := (w4.alloc (.cells #[.int .i64 0, .int .i64 q] 27)).alloc (.cells #[.int .i64 0, .int .i64 q] 27)) (b := w4.heap.size + 1) (o := 0) (v := .int .i64 0) (by simp) (by simp) n
    have k1 := fun n => Later.cell (w := (w4.alloc (.cells #[.int .i64 0, .int .i64 q] 27)).alloc (.cells #[.int .i64 0, .int .i64 q] 27)) (b := w4.heap.size + 1) (o := 1) (v := .int .i64 q) (by simp) (by simp) n
    refine wp_region_later (by kernel_rfl) (by kernel_rfl) (fun hne => ?_)
    repeat (go_big_quiet_step ((first | (go_at_call 20; exact Later.call1 (specRollOf_as x n 0 q hc2.out hr2.out _)) | (go_at_call 17; exact Later.call1 (implNextSeed_as x 0 z hz1.out hz2.out _)))))
    refine wpQuiet_nil ?_
    rintro _ ⟨nq, rfl⟩
    have hN : Below w4.heap.size w4 nq.at := (((Below.refl w4.heap.size w4).alloc (Nat.le_refl _) _).alloc (by simp) _).trans (nq.bel.mono (by simp; omega))
    have j0 : nq.at.cell? ⟨w2.heap.size + 1, 0, none⟩ = some (.int .i64 c) := by rw [hN.cell (p := ⟨w2.heap.size + 1, 0, none⟩) hsz]; exact hA0
    have j1 : nq.at.cell? ⟨w2.heap.size + 1, 1, none⟩ = some (.int .i64 r) := by rw [hN.cell (p := ⟨w2.heap.size + 1, 1, none⟩) hsz]; exact hA1
    have hlt : w2.heap.size + 1 < nq.at.heap.size := Nat.lt_of_lt_of_le hsz hN.size
    have hbC : Below w1.heap.size w1 nq.at := hbB.trans (hN.mono hbB.size)
    rcases hseed with ⟨hc0, hrr⟩ | ⟨hc0, hr0, hr1⟩
    · have hc0' : (c != 0) = true := by simpa using hc0
      go_wp2_with fail
      have m0 := fun n' => Later.cell (w := nq.at) hlt j0 n'
      refine wp_region_later (by kernel_rfl) (by kernel_rfl) (fun hne => ?_)
      repeat (go_big_quiet_step (((go_at_call 21; exact Later.call1 (specNextSeed_as s c r hc.out hr.out _)))))
      refine wpQuiet_nil ?_
      rintro _ ⟨n2, rfl⟩
      go_wp2
      go_ret
      exact ⟨rfl, hbC.trans (n2.bel.mono hbC.size)⟩
    · obtain rfl := hc0
      go_wp2_with fail
      have m1 := fun n' => Later.cell (w := nq.at) hlt j1 n'
      refine wp_region_later (by kernel_rfl) (by kernel_rfl) (fun hne => ?_)
      repeat (go_big_quiet_step (((go_at_call 21; exact Later.call1 (specNextSeed_as s 0 r hc.out hr.out _)))))
      refine wpQuiet_nil ?_
      rintro _ ⟨n2, rfl⟩
      go_wp2
      go_ret
      exact ⟨rfl, hbC.trans (n2.bel.mono hbC.size)⟩

theorem walk_fnChance (a0 : Option Addr) (len0 cap0 : Nat) (z0 : List Int) (w : World) (w0 : IsRow .u8 w a0 len0 cap0 z0) :
    Calls Try.prog 4 #[.slice a0 len0 cap0] w fun e w' => e = .returned (.bool true) ∧ Below w.heap.size w w' := by
  by_cases hbig : len0 ≤ 1048576
  · exact chance_walk w a0 len0 cap0 (Bytes.of_row w0) hbig
  · go_enter Try.func4, Try.ntmps4
    go_wp2_with fail
    refine (lwBig_yes w a0 len0 cap0 (by omega)).mono ?_
    rintro e w1 ⟨rfl, rfl⟩
    go_wp2
    go_ret
    exact ⟨rfl, Below.refl _ _⟩
end Go.Proofs.Ytgboomfgipgcnaa
