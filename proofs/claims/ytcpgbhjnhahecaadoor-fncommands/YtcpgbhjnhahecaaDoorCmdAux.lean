/- What FnCommands calls beside the program: lwAt (its bounds), lwBytes. -/
import Derived.Test.YtcpgbhjnhahecaaDoorDraws
import Derived.Test.YtcpgbhjnhahecaaDoorReadNum
namespace Go.Proofs.YtcpgbhjnhahecaaDoor
open Go.ChangeShapes Go.WideShapes Go.ChangeAt Go.RowKit
open Cm
set_option linter.unusedVariables false

theorem lwBytes_c (v1 v2 : Value) (S T : ByteArray) (w : World) (h1 : (convert 22 9 v1).run Tryd.prog w = .ok (.string S) w) (h2 : (convert 22 9 v2).run Tryd.prog w = .ok (.string T) w) :
    Calls Tryd.prog 12 #[v1, v2] w fun e w' => e = .returned (.bool (S.toList == T.toList)) ∧ w' = w := by
  go_enter Tryd.func12, Tryd.ntmps12
  go_wp2
  go_ret
  exact ⟨rfl, rfl⟩
set_option maxHeartbeats 2000000 in
theorem lwAt_c (w : World) (p : Nat) (a : Option Addr) (len cap : Nat) (t n : Int) (hb : Bytes w a len p)
    (hl : len ≤ 1048576) (h0 : 0 ≤ t) (h1 : t ≤ 1000000) (hn : 2 ≤ n) (hn2 : n ≤ 1000000000) :
    Calls Tryd.prog 19 #[.slice a len cap, .int .i64 t, .int .i64 n] w fun e w' => ∃ r : Int, e = .returned (.int .i64 r) ∧ 0 ≤ r ∧ r < n ∧ ∃ k, w' = w.drewN k := by
  have hn1 : decide (n ≤ 1) = false := decide_eq_false (by omega)
  by_cases hz : len = 0
  · subst hz
    go_enter Tryd.func19, Tryd.ntmps19
    go_wp2
    go_ret
    exact ⟨_, rfl, Int.emod_nonneg _ (by omega), Int.emod_lt_of_pos _ (by omega), 0, rfl⟩
  · rcases hb with hb | ⟨b, off, rfl, hlt, hc⟩
    · exact absurd hb hz
    have hp : (0 : Int) < (len : Int) := by omega
    have hz' : ((len : Int) == 0) = false := by simp; omega
    have m0 := Int.emod_nonneg t (b := (len : Int)) (by omega)
    have m1 := Int.emod_lt_of_pos t (b := (len : Int)) (by omega)
    have n0 := Int.emod_nonneg (t + 1) (b := (len : Int)) (by omega)
    have n1 := Int.emod_lt_of_pos (t + 1) (b := (len : Int)) (by omega)
    have d0 := Int.ediv_nonneg (a := t) (b := (len : Int)) h0 (by omega)
    have d1 := Int.ediv_le_self (a := t) (len : Int) h0
    obtain ⟨z, z0, z1, hz1⟩ := hc (t % (len : Int)).toNat (by omega)
    obtain ⟨y, y0, y1, hy1⟩ := hc ((t + 1) % (len : Int)).toNat (by omega)
    by_cases hbig : 200 < n
    · go_enter Tryd.func19, Tryd.ntmps19
      go_wp2
      go_quiet (fail)
      go_wp2
      go_ret
      exact ⟨_, rfl, Int.emod_nonneg _ (by omega), Int.emod_lt_of_pos _ (by omega), _, rfl⟩
    · have hbig' : decide (200 < n) = false := decide_eq_false hbig
      go_enter Tryd.func19, Tryd.ntmps19
      go_wp2
      go_quiet (fail)
      go_wp2
      go_ret
      exact ⟨_, rfl, Int.emod_nonneg _ (by omega), Int.emod_lt_of_pos _ (by omega), _, rfl⟩
end Go.Proofs.YtcpgbhjnhahecaaDoor
