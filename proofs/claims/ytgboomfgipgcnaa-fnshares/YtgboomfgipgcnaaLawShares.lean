/- The walk of the law FnShares: its Go text returns true at every code. No condition. -/
import Derived.Test.YtgboomfgipgcnaaShareWalks
import Derived.Test.YtgboomfgipgcnaaNumDraws
import Derived.Test.YtgboomfgipgcnaaLater
namespace Go.Proofs.Ytgboomfgipgcnaa
open Go.ChangeShapes Go.WideShapes Go.ChangeAt Go.RowKit
set_option linter.unusedVariables false

set_option maxHeartbeats 2000000 in
theorem shares_walk (w : World) (a : Option Addr) (len cap : Nat) (hb : Bytes w a len w.heap.size) (hl : len ≤ 1048576) :
    Calls Try.prog 6 #[.slice a len cap] w fun e w' => e = .returned (.bool true) ∧ Below w.heap.size w w' := by
  have hf0 : ∀ (s u : Value) (w : World), (Instr.field 39 (.agg #[s, u]) 0).run Try.prog w = .ok s w := fun _ _ _ => by kernel_rfl
  go_enter Try.func6, Try.ntmps6
  go_wp2_with fail
  refine (lwBig_no w a len cap hl).mono ?_
  rintro e w1 ⟨rfl, rfl⟩
  go_wp2_with fail
  refine (drawShareOf _ a len cap hb hl).mono ?_
  rintro e w2 ⟨n, p, rfl, hx, hy, hb2⟩
  have hsz := hb2.size
  by_cases h : n < 0 ∨ 1000000 < n ∨ p < 1 ∨ 8 < p
  · have H : Hid (n < 0 ∨ 1000000 < n ∨ p < 1 ∨ 8 < p) := h
    clear h
    go_wp2_with fail
    refine (implShareOf_no n p _ H.out).mono ?_
    rintro e w3 ⟨rfl, rfl⟩
    go_wp2_with fail
    have hL : Below w1.heap.size w1 ((w2.alloc (.cells #[.int .i64 3, .slice none 0 0] 39)).alloc (.cells #[.int .i64 3, .slice none 0 0] 39)) := (hb2.alloc hsz _).alloc (by simp; omega) _
    have k0 := fun n => Later.cell (w := (w2.alloc (.cells #[.int .i64 3, .slice none 0 0] 39)).alloc (.cells #[.int .i64 3, .slice none 0 0] 39)) (b := w2.heap.size + 1) (o := 0) (v := .int .i64 3) (by simp) (by go_simp) n
    refine wp_region_later (by kernel_rfl) (by kernel_rfl) (fun hne => ?_)
    repeat (go_big_quiet_step (((go_at_call 28; exact Later.call1 (specShareOf_no n p _ H.out)))))
    refine wpQuiet_nil ?_
    rintro _ ⟨nq, rfl⟩
    go_wp2
    go_ret
    exact ⟨rfl, hL.trans (nq.bel.mono hL.size)⟩
  · obtain ⟨q, rfl⟩ := Int.eq_ofNat_of_zero_le (show 0 ≤ p by omega)
    have hn : 0 ≤ n := by omega
    have hn2 : n ≤ 1000000 := by omega
    have hp : 1 ≤ q := by omega
    have hp2 : q ≤ 8 := by omega
    clear h hx hy
    go_wp2_with fail
    refine (implShareOf_yes n q _ hn hn2 hp hp2).mono ?_
    rintro e w3 ⟨g, cp, rfl, hg, hL, hb3⟩
    have hB : Below w1.heap.size w1 (w3.alloc (.cells #[.int .i64 0, .slice (some ⟨g, 0, none⟩) q cp] 39)) := (hb2.trans (hb3.mono hsz)).alloc (Nat.le_trans hsz hb3.size) _
    have hL1 : Lst (w3.alloc (.cells #[.int .i64 0, .slice (some ⟨g, 0, none⟩) q cp] 39)) g cp (Nums.shTo n q q) := hL.alloc _
    have hc0 : (w3.alloc (.cells #[.int .i64 0, .slice (some ⟨g, 0, none⟩) q cp] 39)).cell? ⟨w3.heap.size, 0, none⟩ = some (.int .i64 0) := by go_simp
    have hc1 : (w3.alloc (.cells #[.int .i64 0, .slice (some ⟨g, 0, none⟩) q cp] 39)).cell? ⟨w3.heap.size, 1, none⟩ = some (.slice (some ⟨g, 0, none⟩) q cp) := by go_simp
    have hlt : w3.heap.size < (w3.alloc (.cells #[.int .i64 0, .slice (some ⟨g, 0, none⟩) q cp] 39)).heap.size := by simp
    go_wp2
    generalize w3.alloc (.cells #[.int .i64 0, .slice (some ⟨g, 0, none⟩) q cp] 39) = W at hB hL1 hc0 hc1 hlt ⊢
    have hgl := hL1.lt
    have r0 := Int.emod_nonneg n (b := (q : Int)) (by omega)
    clear hL hb3 hb2
    go_loopw [6, 7] (fun sm i wr => ∃ (k : Nat) (S : Int), k ≤ q ∧ i = .int .i64 k ∧ sm = .int .i64 S ∧ 0 ≤ S ∧ S ≤ 1000001 * (k : Int) ∧ Hid (S = Nums.sumTo n q k) ∧ Below W.heap.size W wr) (fun _ i _ => q - (intOf i).toNat)
    case atStart => exact ⟨0, 0, Nat.zero_le _, rfl, rfl, by omega, by omega, rfl, Below.refl _ _⟩
    case round =>
      obtain ⟨k, S, hk, rfl, rfl, hS0, hS1, hS, hbel⟩ := hrel
      have e1 : wr.cell? ⟨w3.heap.size, 1, none⟩ = some (.slice (some ⟨g, 0, none⟩) q cp) := by rw [hbel.cell hlt]; exact hc1
      have hLr := hL1.of_block (hbel.block g hgl)
      have hwl : w3.heap.size < wr.heap.size := Nat.lt_of_lt_of_le hlt hbel.size
      by_cases hlk : k < q
      · obtain ⟨x0, X0⟩ : ∃ x, Hid (x = Nums.shAt n q 0) := ⟨_, rfl⟩
        obtain ⟨xk, Xk⟩ : ∃ x, Hid (x = Nums.shAt n q k) := ⟨_, rfl⟩
        have u0 : wr.cell? ⟨g, 0, none⟩ = some (.int .i64 x0) := by rw [X0.out]; exact hLr.cell (Nums.shTo_get n q q 0 (by omega))
        have uk : wr.cell? ⟨g, k, none⟩ = some (.int .i64 xk) := by rw [Xk.out]; exact hLr.cell (Nums.shTo_get n q q k hlk)
        have b0 : 0 ≤ x0 ∧ x0 ≤ 1000001 := by rw [X0.out]; exact Nums.shAt_bd n q 0 hp hn hn2
        have bk : 0 ≤ xk ∧ xk ≤ 1000001 := by rw [Xk.out]; exact Nums.shAt_bd n q k hp hn hn2
        have bz : 0 ≤ x0 - xk ∧ x0 - xk ≤ 1 := by rw [X0.out, Xk.out]; exact Nums.shAt_zero n q k r0
        obtain ⟨b01, b02⟩ := b0
        obtain ⟨bk1, bk2⟩ := bk
        obtain ⟨bz1, bz2⟩ := bz
        have hS' : Hid (S + xk = Nums.sumTo n q (k + 1)) := by
          show S + xk = Nums.sumTo n q k + Nums.shAt n q k
          rw [hS.out, Xk.out]
        have d1 : decide (x0 - xk < 0) = false := decide_eq_false (by omega)
        have d2 : decide (1 < x0 - xk) = false := decide_eq_false (by omega)
        have v1 := fun m => Later.cell (w := wr) hwl e1 m
        have v2 := fun m => Later.cell (w := wr) hLr.lt u0 m
        have v3 := fun m => Later.cell (w := wr) hLr.lt uk m
        cases k with
        | zero =>
          have ex : xk = x0 := by rw [X0.out, Xk.out]
          subst ex
          go_wp2
          refine wp_region_later (by kernel_rfl) (by kernel_rfl) (fun hne => ?_)
          repeat (go_big_quiet_step (fail))
          refine wpQuiet_nil ?_
          rintro _ ⟨nq, rfl⟩
          go_wp2
          go_roundw
          case rel => exact ⟨1, _, by omega, by go_num, rfl, by omega, by omega, hS', hbel.trans (nq.bel.mono hbel.size)⟩
          case measure => simp [intOf]; omega
        | succ m =>
          obtain ⟨xm, Xm⟩ : ∃ x, Hid (x = Nums.shAt n q m) := ⟨_, rfl⟩
          have um : wr.cell? ⟨g, m, none⟩ = some (.int .i64 xm) := by rw [Xm.out]; exact hLr.cell (Nums.shTo_get n q q m (by omega))
          have bm : xk ≤ xm := by rw [Xk.out, Xm.out]; exact Nums.shAt_step n q m
          have d3 : decide (xm < xk) = false := decide_eq_false (by omega)
          have v4 := fun m => Later.cell (w := wr) hLr.lt um m
          go_wp2
          refine wp_region_later (by kernel_rfl) (by kernel_rfl) (fun hne => ?_)
          repeat (go_big_quiet_step (fail))
          refine wpQuiet_nil ?_
          rintro _ ⟨nq, rfl⟩
          go_wp2
          go_roundw
          case rel => exact ⟨m + 2, _, by omega, by go_num, rfl, by omega, by omega, hS', hbel.trans (nq.bel.mono hbel.size)⟩
          case measure => simp [intOf]; omega
      · obtain rfl : k = q := by omega
        have hSn : S = n := by rw [hS.out]; exact Nums.sumTo_all n k hp hn
        subst hSn
        go_wp2
        go_ret
        exact ⟨rfl, hB.trans (hbel.mono hB.size)⟩
theorem walk_fnShares (a0 : Option Addr) (len0 cap0 : Nat) (z0 : List Int) (w : World) (w0 : IsRow .u8 w a0 len0 cap0 z0) :
    Calls Try.prog 6 #[.slice a0 len0 cap0] w fun e w' => e = .returned (.bool true) ∧ Below w.heap.size w w' := by
  by_cases hbig : len0 ≤ 1048576
  · exact shares_walk w a0 len0 cap0 (Bytes.of_row w0) hbig
  · go_enter Try.func6, Try.ntmps6
    go_wp2_with fail
    refine (lwBig_yes w a0 len0 cap0 (by omega)).mono ?_
    rintro e w1 ⟨rfl, rfl⟩
    go_wp2
    go_ret
    exact ⟨rfl, Below.refl _ _⟩
end Go.Proofs.Ytgboomfgipgcnaa
