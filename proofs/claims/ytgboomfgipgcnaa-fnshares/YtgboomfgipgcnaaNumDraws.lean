/- Contracts of the draws of chapter 1: each hands back numbers of the kind int64, and nothing that was there turns. Condition: the code has at most 1048576 bytes, which can be read. -/
import Derived.Test.YtgboomfgipgcnaaDraws
namespace Go.Proofs.Ytgboomfgipgcnaa
open Go.ChangeShapes Go.WideShapes Go.ChangeAt Go.RowKit
set_option linter.unusedVariables false
set_option maxHeartbeats 1000000 in
theorem drawAddPurse (w : World) (a : Option Addr) (len cap : Nat) (hb : Bytes w a len w.heap.size) (hl : len ≤ 1048576) :
    Calls Try.prog 10 #[.slice a len cap] w fun e w' => ∃ x y : Int, e = .returned (.tuple #[.int .i64 x, .int .i64 y]) ∧ I64 x ∧ I64 y ∧ Below w.heap.size w w' := by
  go_enter Try.func10, Try.ntmps10
  go_wp2_with fail
  refine (source w a len cap).mono ?_
  rintro e w1 ⟨rfl, st1⟩
  go_wp2_with fail
  refine (pickSt I64 (st1.alloc _) hb hl (by omega) (by omega) (by omega) (by omega) st1.src.lt (by exact row_new (by simp [IntRow, I64]) _ _ _ rfl)).mono ?_
  rintro e w2 ⟨x, rfl, hx, st2⟩
  go_wp2_with fail
  refine (pickSt I64 (st2.alloc _) hb hl (by omega) (by omega) (by omega) (by omega) st2.src.lt (by exact row_new (by simp [IntRow, I64]) _ _ _ rfl)).mono ?_
  rintro e w3 ⟨y, rfl, hy, st3⟩
  go_wp2
  go_ret2
  exact ⟨x, y, rfl, hx, hy, st3.bel⟩
set_option maxHeartbeats 1000000 in
theorem drawRootOf (w : World) (a : Option Addr) (len cap : Nat) (hb : Bytes w a len w.heap.size) (hl : len ≤ 1048576) :
    Calls Try.prog 12 #[.slice a len cap] w fun e w' => ∃ x : Int, e = .returned (.int .i64 x) ∧ I64 x ∧ Below w.heap.size w w' := by
  go_enter Try.func12, Try.ntmps12
  go_wp2_with fail
  refine (source w a len cap).mono ?_
  rintro e w1 ⟨rfl, st1⟩
  go_wp2_with fail
  refine (drawsSt st1 hb hl (by omega) (by omega) (by omega) (by omega)).mono ?_
  rintro e w2 ⟨x, rfl, hx0, hx1, st2⟩
  go_wp2_with fail
  refine (pickSt I64 (st2.alloc _) hb hl (by omega) (by omega) (by omega) (by omega) st2.src.lt (by exact row_new (by simp [IntRow, I64]; omega) _ _ _ rfl)).mono ?_
  rintro e w3 ⟨y, rfl, hy, st3⟩
  go_wp2
  go_ret
  exact ⟨y, rfl, hy, st3.bel⟩
set_option maxHeartbeats 1000000 in
theorem drawSeed {w0 w : World} {a : Option Addr} {len cap : Nat} {t : Int} (st : St w0 w a len cap t) (hb : Bytes w0 a len w0.heap.size) (hl : len ≤ 1048576) (h0 : 0 ≤ t) (h1 : t ≤ 999000) :
    Calls Try.prog 36 #[.pointer (some ⟨w0.heap.size, 0, none⟩)] w fun e w' => ∃ x : Int, e = .returned (.int .i64 x) ∧ I64 x ∧ St w0 w' a len cap (t + 1 + 1 + 1) := by
  go_enter Try.func36, Try.ntmps36
  go_wp2_with fail
  refine (drawsSt st hb hl (by omega) (by omega) (by omega) (by omega)).mono ?_
  rintro e w2 ⟨x, rfl, hx0, hx1, st2⟩
  go_wp2_with fail
  refine (drawsSt st2 hb hl (by omega) (by omega) (by omega) (by omega)).mono ?_
  rintro e w3 ⟨y, rfl, hy0, hy1, st3⟩
  go_wp2_with fail
  refine (pickSt I64 (st3.alloc _) hb hl (by omega) (by omega) (by omega) (by omega) st3.src.lt (by exact row_new (by simp [IntRow, I64]; omega) _ _ _ rfl)).mono ?_
  rintro e w4 ⟨z, rfl, hz, st4⟩
  go_wp2
  go_ret
  exact ⟨z, rfl, hz, st4⟩
set_option maxHeartbeats 1000000 in
theorem drawNextSeed (w : World) (a : Option Addr) (len cap : Nat) (hb : Bytes w a len w.heap.size) (hl : len ≤ 1048576) :
    Calls Try.prog 16 #[.slice a len cap] w fun e w' => ∃ x : Int, e = .returned (.int .i64 x) ∧ I64 x ∧ Below w.heap.size w w' := by
  go_enter Try.func16, Try.ntmps16
  go_wp2_with fail
  refine (source w a len cap).mono ?_
  rintro e w1 ⟨rfl, st1⟩
  go_wp2_with fail
  refine (drawSeed st1 hb hl (by omega) (by omega)).mono ?_
  rintro e w2 ⟨x, rfl, hx, st2⟩
  obtain ⟨hx0, hx1⟩ := hx
  go_wp2_with fail
  refine (pickSt I64 (st2.alloc _) hb hl (by omega) (by omega) (by omega) (by omega) st2.src.lt (by exact row_new (by simp [IntRow, I64]; omega) _ _ _ rfl)).mono ?_
  rintro e w3 ⟨y, rfl, hy, st3⟩
  go_wp2
  go_ret
  exact ⟨y, rfl, hy, st3.bel⟩
set_option maxHeartbeats 1000000 in
theorem drawRollOf (w : World) (a : Option Addr) (len cap : Nat) (hb : Bytes w a len w.heap.size) (hl : len ≤ 1048576) :
    Calls Try.prog 18 #[.slice a len cap] w fun e w' => ∃ x y : Int, e = .returned (.tuple #[.int .i64 x, .int .i64 y]) ∧ I64 x ∧ I64 y ∧ Below w.heap.size w w' := by
  go_enter Try.func18, Try.ntmps18
  go_wp2_with fail
  refine (source w a len cap).mono ?_
  rintro e w1 ⟨rfl, st1⟩
  go_wp2_with fail
  refine (drawSeed st1 hb hl (by omega) (by omega)).mono ?_
  rintro e w2 ⟨x, rfl, hx, st2⟩
  obtain ⟨hx0, hx1⟩ := hx
  go_wp2_with fail
  refine (drawSeed st2 hb hl (by omega) (by omega)).mono ?_
  rintro e w3 ⟨y, rfl, hy, st3⟩
  obtain ⟨hy0, hy1⟩ := hy
  go_wp2_with fail
  refine (pickSt I64 (st3.alloc _) hb hl (by omega) (by omega) (by omega) (by omega) st3.src.lt (by exact row_new (by simp [IntRow, I64]; omega) _ _ _ rfl)).mono ?_
  rintro e w4 ⟨z, rfl, hz, st4⟩
  go_wp2_with fail
  refine (pickSt I64 (st4.alloc _) hb hl (by omega) (by omega) (by omega) (by omega) st4.src.lt (by exact row_new (by simp [IntRow, I64]) _ _ _ rfl)).mono ?_
  rintro e w5 ⟨u, rfl, hu, st5⟩
  go_wp2
  go_ret2
  exact ⟨z, u, rfl, hz, hu, st5.bel⟩
set_option maxHeartbeats 1000000 in
theorem drawShareOf (w : World) (a : Option Addr) (len cap : Nat) (hb : Bytes w a len w.heap.size) (hl : len ≤ 1048576) :
    Calls Try.prog 26 #[.slice a len cap] w fun e w' => ∃ x y : Int, e = .returned (.tuple #[.int .i64 x, .int .i64 y]) ∧ I64 x ∧ I64 y ∧ Below w.heap.size w w' := by
  go_enter Try.func26, Try.ntmps26
  go_wp2_with fail
  refine (source w a len cap).mono ?_
  rintro e w1 ⟨rfl, st1⟩
  go_wp2_with fail
  refine (pickSt I64 (st1.alloc _) hb hl (by omega) (by omega) (by omega) (by omega) st1.src.lt (by exact row_new (by simp [IntRow, I64]) _ _ _ rfl)).mono ?_
  rintro e w2 ⟨x, rfl, hx, st2⟩
  go_wp2_with fail
  refine (pickSt I64 (st2.alloc _) hb hl (by omega) (by omega) (by omega) (by omega) st2.src.lt (by exact row_new (by simp [IntRow, I64]) _ _ _ rfl)).mono ?_
  rintro e w3 ⟨y, rfl, hy, st3⟩
  go_wp2
  go_ret2
  exact ⟨x, y, rfl, hx, hy, st3.bel⟩
set_option maxHeartbeats 1000000 in
theorem drawTile {w0 w : World} {a : Option Addr} {len cap : Nat} {t : Int} (st : St w0 w a len cap t) (hb : Bytes w0 a len w0.heap.size) (hl : len ≤ 1048576) (h0 : 0 ≤ t) (h1 : t ≤ 999000) :
    Calls Try.prog 48 #[.pointer (some ⟨w0.heap.size, 0, none⟩)] w fun e w' => ∃ x : Int, e = .returned (.int .i64 x) ∧ I64 x ∧ St w0 w' a len cap (t + 1) := by
  go_enter Try.func48, Try.ntmps48
  go_wp2_with fail
  refine (pickSt I64 (st.alloc _) hb hl (by omega) (by omega) (by omega) (by omega) st.src.lt (by exact row_new (by simp [IntRow, I64]) _ _ _ rfl)).mono ?_
  rintro e w4 ⟨z, rfl, hz, st4⟩
  go_wp2
  go_ret
  exact ⟨z, rfl, hz, st4⟩
set_option maxHeartbeats 1000000 in
theorem drawFarOf (w : World) (a : Option Addr) (len cap : Nat) (hb : Bytes w a len w.heap.size) (hl : len ≤ 1048576) :
    Calls Try.prog 41 #[.slice a len cap] w fun e w' => ∃ x y u v : Int, e = .returned (.tuple #[.int .i64 x, .int .i64 y, .int .i64 u, .int .i64 v]) ∧ Below w.heap.size w w' := by
  go_enter Try.func41, Try.ntmps41
  go_wp2_with fail
  refine (source w a len cap).mono ?_
  rintro e w1 ⟨rfl, st1⟩
  go_wp2_with fail
  refine (drawTile st1 hb hl (by omega) (by omega)).mono ?_
  rintro e w2 ⟨x, rfl, hx, st2⟩
  obtain ⟨hx0, hx1⟩ := hx
  go_wp2_with fail
  refine (drawTile st2 hb hl (by omega) (by omega)).mono ?_
  rintro e w3 ⟨y, rfl, hy, st3⟩
  obtain ⟨hy0, hy1⟩ := hy
  go_wp2_with fail
  refine (pickSt I64 (st3.alloc _) hb hl (by omega) (by omega) (by omega) (by omega) st3.src.lt (by exact row_new (by simp [IntRow, I64]; omega) _ _ _ rfl)).mono ?_
  rintro e w4 ⟨z, rfl, hz, st4⟩
  go_wp2_with fail
  refine (drawTile st4 hb hl (by omega) (by omega)).mono ?_
  rintro e w5 ⟨u, rfl, hu, st5⟩
  go_wp2_with fail
  refine (drawTile st5 hb hl (by omega) (by omega)).mono ?_
  rintro e w6 ⟨v, rfl, hv, st6⟩
  go_wp2_with fail
  refine (drawTile st6 hb hl (by omega) (by omega)).mono ?_
  rintro e w7 ⟨q, rfl, hq, st7⟩
  go_wp2
  exact bodyPost_ret (v := .tuple #[.int .i64 z, .int .i64 u, .int .i64 v, .int .i64 q]) (by simp [results, Try.results41, go_sem]) rfl ⟨z, u, v, q, rfl, st7.bel⟩
end Go.Proofs.Ytgboomfgipgcnaa
