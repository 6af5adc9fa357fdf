/- Contracts of RootOf and of its model: both return the root as the plain function of Roots says, and lay one new block. No condition. -/
import Derived.Test.YtgboomfgipgcnaaNumWalks
import Derived.Test.YtgboomfgipgcnaaRoots
namespace Go.Proofs.Ytgboomfgipgcnaa
open Go.ChangeShapes Go.WideShapes Go.ChangeAt Go.RowKit
set_option linter.unusedVariables false
set_option maxHeartbeats 1000000 in
theorem specRootOf (v : Int) (w : World) :
    Calls Try.prog 14 #[.int .i64 v] w fun e w' => e = .returned (.agg #[.int .i64 (Nums.rtC v), .int .i64 (Nums.rtV v)]) ∧ w' = w.alloc (.cells #[.int .i64 (Nums.rtC v), .int .i64 (Nums.rtV v)] 27) := by
  rcases Nums.rt_cases v with ⟨h1, e1, e2⟩ | ⟨h1, h2, e1, e2⟩ | ⟨h1, h2, e1, e2, hr⟩
  · rw [e1, e2]
    clear e1 e2
    have d1 : decide (0 ≤ v) = false := decide_eq_false (by omega)
    go_enter Try.func14, Try.ntmps14
    go_wp2
    refine bodyPost_ret ?_ rfl ⟨rfl, rfl⟩
    simp [results, Try.results14, go_sem]
  · rw [e1, e2]
    clear e1 e2
    have d1 : decide (v ≤ 1000000000000) = false := decide_eq_false (by omega)
    go_enter Try.func14, Try.ntmps14
    go_wp2
    refine bodyPost_ret ?_ rfl ⟨rfl, rfl⟩
    simp [results, Try.results14, go_sem]
  · rw [e1]
    have HR : Hid (Nums.IsRoot v (Nums.rtV v)) := hr
    clear e1 e2 hr
    generalize Nums.rtV v = rt at *
    go_enter Try.func14, Try.ntmps14
    go_wp2
    go_loop [3, 4] (fun l h => ∃ a b : Int, l = .int .i64 a ∧ h = .int .i64 b ∧ 0 ≤ a ∧ a ≤ b ∧ b ≤ 1000000 ∧ a * a ≤ v ∧ v < (b + 1) * (b + 1)) (fun l h => (intOf h - intOf l).toNat)
    case atStart => exact ⟨0, 1000000, rfl, rfl, by omega, by omega, by omega, by omega, by omega⟩
    case round =>
      obtain ⟨a, b, rfl, rfl, ha, hab, hb, hlo, hhi⟩ := hrel
      by_cases hlt : a < b
      · have hm1 : a < (a + b + 1) / 2 := by omega
        have hm2 : (a + b + 1) / 2 ≤ b := by omega
        obtain ⟨q0, q1⟩ := Nums.sq_bd (x := (a + b + 1) / 2) (by omega) (by omega)
        by_cases hle : (a + b + 1) / 2 * ((a + b + 1) / 2) ≤ v
        · go_wp2
          go_round
          case rel => exact ⟨_, b, rfl, rfl, by omega, by omega, hb, hle, hhi⟩
          case measure => simp [intOf]; omega
        · have hle' : decide ((a + b + 1) / 2 * ((a + b + 1) / 2) ≤ v) = false := decide_eq_false hle
          go_wp2
          go_round
          case rel => exact ⟨a, _, rfl, rfl, ha, by omega, by omega, hlo, by rw [Int.sub_add_cancel]; omega⟩
          case measure => simp [intOf]; omega
      · obtain rfl : a = b := by omega
        have e : rt = a := Nums.root_unique HR.out ⟨ha, hlo, hhi⟩
        go_wp2
        refine bodyPost_ret ?_ rfl ⟨rfl, rfl⟩
        simp [results, Try.results14, go_sem]
set_option maxHeartbeats 1000000 in
theorem implRootOf (v : Int) (w : World) :
    Calls Try.prog 13 #[.int .i64 v] w fun e w' => e = .returned (.agg #[.int .i64 (Nums.rtC v), .int .i64 (Nums.rtV v)]) ∧ w' = w.alloc (.cells #[.int .i64 (Nums.rtC v), .int .i64 (Nums.rtV v)] 27) := by
  rcases Nums.rt_cases v with ⟨h1, e1, e2⟩ | ⟨h1, h2, e1, e2⟩ | ⟨h1, h2, e1, e2, hr⟩
  · rw [e1, e2]
    clear e1 e2
    go_enter Try.func13, Try.ntmps13
    go_wp2
    refine bodyPost_ret ?_ rfl ⟨rfl, rfl⟩
    simp [results, Try.results13, go_sem]
  · rw [e1, e2]
    clear e1 e2
    have d1 : decide (v < 0) = false := decide_eq_false (by omega)
    go_enter Try.func13, Try.ntmps13
    go_wp2
    refine bodyPost_ret ?_ rfl ⟨rfl, rfl⟩
    simp [results, Try.results13, go_sem]
  · rw [e1]
    have HV : Hid (Nums.rtV v = Nums.rtBits v 20 0) := e2
    clear e1 e2 hr
    generalize Nums.rtV v = rt at *
    have d1 : decide (v < 0) = false := decide_eq_false (by omega)
    have d2 : decide (1000000000000 < v) = false := decide_eq_false (by omega)
    go_enter Try.func13, Try.ntmps13
    go_wp2
    go_loop [3, 4] (fun l h => ∃ (r : Int) (k : Nat), l = .int .i64 r ∧ h = .int .i64 (Nums.bitAt k) ∧ 0 ≤ r ∧ r + Nums.p2 k ≤ 1048576 ∧ k ≤ 20 ∧ Hid (rt = Nums.rtBits v k r)) (fun l h => (intOf h).toNat)
    case atStart => exact ⟨0, 20, rfl, rfl, by omega, by rw [Nums.p2_20]; omega, by omega, HV⟩
    case round =>
      obtain ⟨r, k, rfl, rfl, hr, hrk, hk, HI⟩ := hrel
      cases k with
      | zero =>
        have e : rt = r := HI.out
        rw [Nums.bitAt_zero]
        go_wp2
        refine bodyPost_ret ?_ rfl ⟨rfl, rfl⟩
        simp [results, Try.results13, go_sem]
      | succ k =>
        have hp := Nums.p2_pos k
        have hc : Nums.p2 (k + 1) = 2 * Nums.p2 k := rfl
        rw [Nums.bitAt_succ]
        have hhit := Nums.rtBits_hit v k r
        have hmiss := Nums.rtBits_miss v k r
        have hbit : Hid (Nums.bitAt k = Nums.p2 k / 2) := rfl
        have hpk : Nums.p2 k ≤ 1048576 := by omega
        have hrk' : r + 2 * Nums.p2 k ≤ 1048576 := by omega
        clear hrk hc
        obtain ⟨q0, q1⟩ := Nums.sq_bd (x := r + Nums.p2 k) (by omega) (by omega)
        have HH : Hid ((r + Nums.p2 k) * (r + Nums.p2 k) ≤ v → rt = Nums.rtBits v k (r + Nums.p2 k)) := fun h => by rw [← hhit h]; exact HI.out
        have HM : Hid (¬ (r + Nums.p2 k) * (r + Nums.p2 k) ≤ v → rt = Nums.rtBits v k r) := fun h => by rw [← hmiss h]; exact HI.out
        clear hhit hmiss HI HV
        by_cases hle : (r + Nums.p2 k) * (r + Nums.p2 k) ≤ v
        · have H1 : Hid (rt = Nums.rtBits v k (r + Nums.p2 k)) := HH.out hle
          clear HH HM
          go_wp2
          go_round
          case rel => exact ⟨_, k, rfl, rfl, by omega, by omega, by omega, H1⟩
          case measure => simp [intOf]; omega
        · have H1 : Hid (rt = Nums.rtBits v k r) := HM.out hle
          have hle' : decide ((r + Nums.p2 k) * (r + Nums.p2 k) ≤ v) = false := decide_eq_false hle
          clear HH HM
          go_wp2
          go_round
          case rel => exact ⟨r, k, rfl, rfl, by omega, by omega, by omega, H1⟩
          case measure => simp [intOf]; omega
set_option maxHeartbeats 1000000 in
theorem walk_fnExactRootOf (a0 : Int) (w0 : (Lit.int .i64 a0).wf = true) (w : World) :
    Calls Try.prog 8 #[.int .i64 a0] w fun e w' => e = .returned (.bool true) ∧ Grown w w' := by
  go_enter Try.func8, Try.ntmps8
  go_wp2_with (first | (go_at_call 14; refine (specRootOf _ _).mono ?_; rintro e w' ⟨rfl, rfl⟩) | (go_at_call 13; refine (implRootOf _ _).mono ?_; rintro e w' ⟨rfl, rfl⟩) | (go_at_call 29; refine (eqIntResult_same _ _ _).mono ?_; rintro e w' ⟨rfl, rfl⟩))
  go_ret
  exact ⟨rfl, by repeat (first | exact Grown.refl _ | apply Grown.drew | apply Grown.alloc)⟩
end Go.Proofs.Ytgboomfgipgcnaa
