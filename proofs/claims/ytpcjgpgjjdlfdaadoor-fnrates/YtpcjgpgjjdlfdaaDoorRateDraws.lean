/- Contracts of the draws of chapter 2 on numbers: each hands back numbers of the kind int64, and nothing that was there turns. Condition: the code has at most 1048576 bytes, which can be read. -/
import Derived.Test.YtpcjgpgjjdlfdaaDoorDraws
import Derived.Test.YtpcjgpgjjdlfdaaDoorRateBits
namespace Go.Proofs.YtpcjgpgjjdlfdaaDoor
open Go.ChangeShapes Go.WideShapes Go.ChangeAt Go.RowKit
set_option linter.unusedVariables false
theorem chanceSt {w0 w : World} {n : Int} {a : Option Addr} {len cap : Nat} {t : Int} (st : St w0 w a len cap t) (hb : Bytes w0 a len w0.heap.size)
    (hl : len ≤ 1048576) (h0 : 0 ≤ t) (h1 : t ≤ 1000000) (hm : 1 ≤ n) (hm2 : n ≤ 1000000000) :
    Calls Tryd.prog 34 #[.pointer (some ⟨w0.heap.size, 0, none⟩), .int .i64 n] w fun e w' => ∃ r : Bool, e = .returned (.bool r) ∧ St w0 w' a len cap (t + 1) := by
  go_enter Tryd.func34, Tryd.ntmps34
  go_wp2_with fail
  refine (drawsSt st hb hl h0 h1 hm hm2).mono ?_
  rintro e w1 ⟨x, rfl, hx0, hx1, st1⟩
  go_wp2
  go_ret
  exact ⟨_, rfl, st1⟩
def P63 (x : Int) : Prop := 0 ≤ x ∧ x < 9223372036854775808
theorem sgn_bd {r : Nat} (m : Bool) (hr : r < 9223372036854775808) : -9223372036854775808 ≤ sgn m r ∧ sgn m r < 9223372036854775808 := by
  unfold sgn; split <;> omega
set_option maxHeartbeats 1000000 in
theorem l2DrawSt {w0 w : World} {a : Option Addr} {len cap : Nat} {t : Int} (st : St w0 w a len cap t) (hb : Bytes w0 a len w0.heap.size)
    (hl : len ≤ 1048576) (h0 : 0 ≤ t) (h1 : t ≤ 999000) :
    Calls Tryd.prog 27 #[.pointer (some ⟨w0.heap.size, 0, none⟩)] w fun e w' => ∃ x : Int, e = .returned (.int .i64 x) ∧ -9223372036854775808 ≤ x ∧ x < 9223372036854775808 ∧ St w0 w' a len cap (t + 1 + 1 + 1) := by
  have c2 := fun w => l2Bits_c 39999 w (by omega)
  have hl2 := Rts.lb_lt (q := 39999) (by omega)
  generalize Rts.lb 39999 = B2 at c2 hl2
  go_enter Tryd.func27, Tryd.ntmps27
  go_wp2_with fail
  refine (drawsSt st hb hl (by omega) (by omega) (by omega) (by omega)).mono ?_
  rintro e w1 ⟨x, rfl, hx0, hx1, st1⟩
  obtain ⟨N, hN⟩ : ∃ N : Nat, 1 + x = (N : Int) := ⟨(1 + x).toNat, by omega⟩
  have hN2 : N ≤ 60 := by omega
  have c1 := fun w => l2Bits_c N w (by omega)
  have hl1 := Rts.lb_lt (q := N) (by omega)
  generalize Rts.lb N = B1 at c1 hl1
  go_wp2_with fail
  refine (c1 _).mono ?_
  rintro e w' ⟨rfl, rfl⟩
  go_wp2_with fail
  refine (c2 _).mono ?_
  rintro e w' ⟨rfl, rfl⟩
  go_wp2_with fail
  refine (c2 _).mono ?_
  rintro e w' ⟨rfl, rfl⟩
  go_wp2_with fail
  refine (pickSt P63 (st1.alloc _) hb hl (by omega) (by omega) (by omega) (by omega) st1.src.lt (by exact row_new (by simp [IntRow, P63]; omega) _ _ _ rfl)).mono ?_
  rintro e w3 ⟨y, rfl, hy, st3⟩
  obtain ⟨M, rfl⟩ : ∃ M : Nat, y = (M : Int) := ⟨y.toNat, by have := hy.1; omega⟩
  have hM : M < 9223372036854775808 := by have := hy.2; omega
  go_wp2_with fail
  refine (chanceSt st3 hb hl (by omega) (by omega) (by omega) (by omega)).mono ?_
  rintro e w4 ⟨m, rfl, st4⟩
  go_wp2_with fail
  refine (l2Sign_c M m _ hM).mono ?_
  rintro e w' ⟨rfl, rfl⟩
  go_wp2
  go_ret
  exact ⟨_, rfl, (sgn_bd m hM).1, (sgn_bd m hM).2, st4⟩
theorem drawRateText (w : World) (a : Option Addr) (len cap : Nat) (hb : Bytes w a len w.heap.size) (hl : len ≤ 1048576) :
    Calls Tryd.prog 9 #[.slice a len cap] w fun e w' => ∃ x : Int, e = .returned (.int .i64 x) ∧ -9223372036854775808 ≤ x ∧ x < 9223372036854775808 ∧ Below w.heap.size w w' := by
  go_enter Tryd.func9, Tryd.ntmps9
  go_wp2_with fail
  refine (source w a len cap).mono ?_
  rintro e w1 ⟨rfl, st1⟩
  go_wp2_with fail
  refine (l2DrawSt st1 hb hl (by omega) (by omega)).mono ?_
  rintro e w2 ⟨x, rfl, hx0, hx1, st2⟩
  go_wp2
  go_ret
  exact ⟨x, rfl, hx0, hx1, st2.bel⟩
theorem drawRateBits (w : World) (a : Option Addr) (len cap : Nat) (hb : Bytes w a len w.heap.size) (hl : len ≤ 1048576) :
    Calls Tryd.prog 11 #[.slice a len cap] w fun e w' => ∃ (m : Bool) (x y : Int), e = .returned (.tuple #[.bool m, .int .i64 x, .int .i64 y]) ∧ I64 x ∧ I64 y ∧ Below w.heap.size w w' := by
  go_enter Tryd.func11, Tryd.ntmps11
  go_wp2_with fail
  refine (source w a len cap).mono ?_
  rintro e w1 ⟨rfl, st1⟩
  go_wp2_with fail
  refine (chanceSt st1 hb hl (by omega) (by omega) (by omega) (by omega)).mono ?_
  rintro e w2 ⟨m, rfl, st2⟩
  go_wp2_with fail
  refine (pickSt I64 (st2.alloc _) hb hl (by omega) (by omega) (by omega) (by omega) st2.src.lt (by exact row_new (by simp [IntRow, I64]) _ _ _ rfl)).mono ?_
  rintro e w3 ⟨y, rfl, hy, st3⟩
  go_wp2_with fail
  refine (pickSt I64 (st3.alloc _) hb hl (by omega) (by omega) (by omega) (by omega) st3.src.lt (by exact row_new (by simp [IntRow, I64]) _ _ _ rfl)).mono ?_
  rintro e w4 ⟨z, rfl, hz, st4⟩
  go_wp2
  go_ret3
  exact ⟨m, y, z, rfl, hy, hz, st4.bel⟩
end Go.Proofs.YtpcjgpgjjdlfdaaDoor
