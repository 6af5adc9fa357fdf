/- Contracts of the library's functions on floats that chapter 2 calls, and of impl's own three (floatOf, signedBits, quartersOf). Conditions: those that each theorem names (the bits fit 64 bits). -/
import Derived.Test.YtpcjgpgjjdlfdaaRows
import Derived.WalkKit
import Derived.ProofKit
import Derived.OpenShut
import Derived.ShutString
import Derived.WalkLawsBesides
import Derived.Outline
import Derived.Laws.Externs
import Derived.Laws.FloatArith
import Derived.Laws.BitsAllLaws
import Derived.Test.YtpcjgpgjjdlfdaaRateLb
namespace Go.Proofs.Ytpcjgpgjjdlfdaa
open Go.ChangeShapes Go.WideShapes Go.ChangeAt Go.RowKit
set_option linter.unusedVariables false

theorem andNot_sign (u : Nat) (h : u < 18446744073709551616) : bits .andNot .u64 (u : Int) 9223372036854775808 = ((u % 9223372036854775808 : Nat) : Int) := by
  have e := u64_andNot_nat u 9223372036854775808 h (by decide)
  rw [show ((9223372036854775808 : Nat) : Int) = 9223372036854775808 from rfl] at e
  rw [e]
  congr 1
  exact Nat.and_two_pow_sub_one_eq_mod u 63

theorem and_sign (u : Nat) (h : u < 18446744073709551616) : bits .and .u64 (u : Int) 9223372036854775808 = ((u / 9223372036854775808 * 9223372036854775808 : Nat) : Int) := by
  have e := u64_and_nat u 9223372036854775808 h (by decide)
  rw [show ((9223372036854775808 : Nat) : Int) = 9223372036854775808 from rfl] at e
  rw [e]
  congr 1
  have := nat_bit 63 u
  rw [show (2 : Nat) ^ 63 = 9223372036854775808 from by decide] at this
  rw [this]
  omega

theorem or_sign (m : Nat) (s : Nat) (h : m < 9223372036854775808) (hs : s ≤ 1) : bits .or .u64 (m : Int) ((s * 9223372036854775808 : Nat) : Int) = ((s * 9223372036854775808 + m : Nat) : Int) := by
  rw [u64_or_nat m (s * 9223372036854775808) (by omega) (by omega), Nat.or_comm]
  congr 1
  exact nat_join 63 _ _ (by omega) h

theorem fromBits_x (b : Int) (w : World) : (callFunc 48 #[.int .u64 b]).run Try.prog w = .ok (.value (.float .f64 b.toNat)) w := by
  rw [run_callFunc_extern Try.func48 (by kernel_rfl) (by kernel_rfl) (by kernel_rfl) (show Extern.find _ = some Extern.MathFloatBits.float64frombits by kernel_rfl)]
  rfl
theorem toBits_x (b : Nat) (w : World) : (callFunc 51 #[.float .f64 b]).run Try.prog w = .ok (.value (.int .u64 b)) w := by
  rw [run_callFunc_extern Try.func51 (by kernel_rfl) (by kernel_rfl) (by kernel_rfl) (show Extern.find _ = some Extern.MathFloatBits.float64bits by kernel_rfl)]
  rfl
theorem toIntegral_num (name : String) (x : Nat) (s : Bool) (m : Nat) (p : Int) (h : FloatKind.f64.decode x = .number s m p) (w : World) (P : Program) :
    (Extern.MathFloor.toIntegral name .zero #[.float .f64 x]).run P w = .ok (.float .f64 (Flt.tr x)) w := by
  have e2 : Flt.tr x = FloatKind.f64.encode (Ieee.Datum.integral .zero (FloatKind.f64.decode x)) := rfl
  rw [e2]
  show Sem.run P (Extern.MathFloor.toIntegral.match_1 (fun _ => Sem Value) (FloatKind.f64.decode x) _ _) w = _
  rw [h]
  rfl
theorem toIntegral_inf (name : String) (x : Nat) (s : Bool) (h : FloatKind.f64.decode x = .infinity s) (w : World) (P : Program) :
    (Extern.MathFloor.toIntegral name .zero #[.float .f64 x]).run P w = .ok (.float .f64 (Flt.tr x)) w := by
  have e2 : Flt.tr x = FloatKind.f64.encode (Ieee.Datum.integral .zero (FloatKind.f64.decode x)) := rfl
  rw [e2]
  show Sem.run P (Extern.MathFloor.toIntegral.match_1 (fun _ => Sem Value) (FloatKind.f64.decode x) _ _) w = _
  rw [h]
  rfl
theorem trunc_x (x : Nat) (w : World) (hx : x ≤ 9218868437227405312) : (callFunc 57 #[.float .f64 x]).run Try.prog w = .ok (.value (.float .f64 (Flt.tr x))) w := by
  rw [run_callFunc_extern Try.func57 (by kernel_rfl) (by kernel_rfl) (by kernel_rfl) (show Extern.find _ = some (Extern.MathFloor.toIntegral "math.archTrunc" .zero) by kernel_rfl)]
  by_cases h : x = 9218868437227405312
  · rw [toIntegral_inf _ x _ (Flt.read_inf (by omega) (by omega))]
    rfl
  · rw [toIntegral_num _ x _ _ _ (Flt.read_num (by omega) (by omega))]
    rfl
theorem abs_c (u : Nat) (w : World) (hu : u < 18446744073709551616) :
    Calls Try.prog 49 #[.float .f64 u] w fun e w' => e = .returned (.float .f64 (u % 9223372036854775808)) ∧ w' = w := by
  have x1 := fromBits_x
  have x2 := toBits_x
  have x3 := andNot_sign u hu
  go_enter Try.func49, Try.ntmps49
  go_wp2
  go_ret
  exact ⟨rfl, rfl⟩
theorem isNaN_c (u : Nat) (w : World) (hu : u < 18446744073709551616) :
    Calls Try.prog 28 #[.float .f64 u] w fun e w' => e = .returned (.bool (decide (9218868437227405312 < u % 9223372036854775808))) ∧ w' = w := by
  have e : (FloatKind.f64.format.order u u != some Ordering.eq) = decide (9218868437227405312 < u % 9223372036854775808) := by
    show (Ieee.double.order u u != some Ordering.eq) = _
    by_cases h : 9218868437227405312 < u % 9223372036854775808
    · rw [Flt.order_nan h, decide_eq_true h]; rfl
    · rw [Flt.order_self hu (by omega), decide_eq_false h]; rfl
  go_enter Try.func28, Try.ntmps28
  go_wp2
  go_ret
  exact ⟨rfl, rfl⟩
theorem gt_max (r : Nat) (hr : r < 9223372036854775808) : (FloatKind.f64.format.order r 9218868437227405311 == some Ordering.gt) = decide (r = 9218868437227405312) := by
  show (Ieee.double.order r 9218868437227405311 == some Ordering.gt) = _
  by_cases h : 9218868437227405312 < r
  · rw [Flt.order_nan (by omega), decide_eq_false (by omega)]; rfl
  · by_cases h2 : r = 9218868437227405312
    · subst h2; rw [(Flt.order_lt (r := 9218868437227405311) (s := 9218868437227405312) (by omega) (by omega)).2]; rfl
    · by_cases h3 : r = 9218868437227405311
      · subst h3; rw [Flt.order_self (by omega) (by omega)]; rfl
      · rw [(Flt.order_lt (r := r) (s := 9218868437227405311) (by omega) (by omega)).1, decide_eq_false h2]; rfl
theorem isInf0_c (u : Nat) (w : World) (hu : u < 18446744073709551616) :
    Calls Try.prog 29 #[.float .f64 u, .int .i64 0] w fun e w' => e = .returned (.bool (decide (u % 9223372036854775808 = 9218868437227405312))) ∧ w' = w := by
  have e := gt_max (u % 9223372036854775808) (by omega)
  go_enter Try.func29, Try.ntmps29
  go_wp2_with (go_at_call 49; refine (abs_c _ _ hu).mono ?_; rintro e w' ⟨rfl, rfl⟩)
  go_ret
  exact ⟨rfl, rfl⟩
theorem isInf1_c (u : Nat) (w : World) (hu : u ≤ 9223372036854775808) :
    Calls Try.prog 29 #[.float .f64 u, .int .i64 1] w fun e w' => e = .returned (.bool (decide (u = 9218868437227405312))) ∧ w' = w := by
  have e : (FloatKind.f64.format.order u 9218868437227405311 == some Ordering.gt) = decide (u = 9218868437227405312) := by
    by_cases h : u = 9223372036854775808
    · subst h; decide
    · exact gt_max u (by omega)
  go_enter Try.func29, Try.ntmps29
  go_wp2
  go_ret
  exact ⟨rfl, rfl⟩
theorem signbit_c (u : Nat) (w : World) (hu : u < 18446744073709551616) :
    Calls Try.prog 31 #[.float .f64 u] w fun e w' => e = .returned (.bool (decide (9223372036854775808 ≤ u))) ∧ w' = w := by
  have x2 := toBits_x
  have e : decide (wrap64 (u : Int) < 0) = decide (9223372036854775808 ≤ u) := by
    rw [decide_eq_decide]; unfold wrap64; omega
  go_enter Try.func31, Try.ntmps31
  go_wp2
  go_ret
  exact ⟨rfl, rfl⟩
theorem trunc_c (x : Nat) (w : World) (hx : x ≤ 9218868437227405312) :
    Calls Try.prog 50 #[.float .f64 x] w fun e w' => e = .returned (.float .f64 (Flt.tr x)) ∧ w' = w := by
  have x2 := fun w => trunc_x x w hx
  go_enter Try.func50, Try.ntmps50
  go_wp2
  go_ret
  exact ⟨rfl, rfl⟩
theorem copysign_c (u v : Nat) (w : World) (hu : u < 18446744073709551616) (hv : v < 18446744073709551616) :
    Calls Try.prog 52 #[.float .f64 u, .float .f64 v] w fun e w' => e = .returned (.float .f64 (v / 9223372036854775808 * 9223372036854775808 + u % 9223372036854775808)) ∧ w' = w := by
  have x1 := fromBits_x
  have x2 := toBits_x
  go_enter Try.func52, Try.ntmps52
  go_wp2
  go_ret
  refine ⟨?_, rfl⟩
  show Ending.returned (.float .f64 (bits .or .u64 (bits .andNot .u64 (u : Int) 9223372036854775808) (bits .and .u64 (v : Int) 9223372036854775808)).toNat) = _
  rw [andNot_sign u hu, and_sign v hv, or_sign _ _ (by omega) (by omega)]
  rfl
theorem inf_c (w : World) :
    Calls Try.prog 41 #[.int .i64 1] w fun e w' => e = .returned (.float .f64 9218868437227405312) ∧ w' = w := by
  have x1 := fromBits_x
  go_enter Try.func41, Try.ntmps41
  go_wp2
  go_ret
  exact ⟨rfl, rfl⟩
theorem floatOf_c (b : Int) (w : World) :
    Calls Try.prog 27 #[.int .i64 b] w fun e w' => e = .returned (.float .f64 (b % 18446744073709551616).toNat) ∧ w' = w := by
  have x1 := fromBits_x
  go_enter Try.func27, Try.ntmps27
  go_wp2
  go_ret
  exact ⟨rfl, rfl⟩
/-- Bits without a sign, and a sign. -/
def sgn (m : Bool) (r : Nat) : Int := if m then (r : Int) - 9223372036854775808 else (r : Int)
theorem signedBits_c (r : Nat) (m : Bool) (w : World) (hr : r < 9223372036854775808) :
    Calls Try.prog 38 #[.float .f64 r, .bool m] w fun e w' => e = .returned (.int .i64 (sgn m r)) ∧ w' = w := by
  have x2 := toBits_x
  have hm : r % 9223372036854775808 = r := by omega
  cases m
  · go_enter Try.func38, Try.ntmps38
    go_wp2_with (go_at_call 52; refine (copysign_c _ _ _ (by omega) (by omega)).mono ?_; rintro e w' ⟨rfl, rfl⟩)
    go_ret
    exact ⟨rfl, rfl⟩
  · have e : wrap64 (9223372036854775808 + (r : Int)) = sgn true r := by unfold wrap64 sgn; simp; omega
    go_enter Try.func38, Try.ntmps38
    go_wp2_with (go_at_call 52; refine (copysign_c _ _ _ (by omega) (by omega)).mono ?_; rintro e w' ⟨rfl, rfl⟩)
    go_ret
    exact ⟨congrArg (fun x => Ending.returned (Value.int .i64 x)) e, rfl⟩
/-- What quartersOf answers of the quarters that the bits tell. -/
def qoV (q : Int) : Value := .tuple #[.int .i64 (if q < 0 then 0 else q), .bool (decide (0 ≤ q))]
theorem quartersOf_c (u : Nat) (w : World) (hu : u < 18446744073709551616) (hr : u % 9223372036854775808 ≤ 9218868437227405312) :
    Calls Try.prog 30 #[.float .f64 u] w fun e w' => e = .returned (qoV (Rts.qt ((u % 9223372036854775808 : Nat) : Int))) ∧ w' = w := by
  obtain ⟨X, hX, hX2, hc⟩ := Rts.quarters_fact hr
  generalize Rts.qt ((u % 9223372036854775808 : Nat) : Int) = q at hc ⊢
  have hmul := fun w => run_float_arith (P := Try.prog) w .mul 44 .f64 4616189618054758400 (u % 9223372036854775808) X hX
  rcases hc with ⟨hq, h1, h2, h3⟩ | ⟨hq, h1⟩
  · have hle : (FloatKind.f64.format.order X 4675730234283130880 == some Ordering.lt || FloatKind.f64.format.order X 4675730234283130880 == some Ordering.eq) = true := by
      show (Ieee.double.order X 4675730234283130880 == some Ordering.lt || Ieee.double.order X 4675730234283130880 == some Ordering.eq) = true
      rcases h1 with e | e <;> rw [e] <;> rfl
    have heq : (FloatKind.f64.format.order X (Flt.tr X) == some Ordering.eq) = true := by
      show (Ieee.double.order X (Flt.tr X) == some Ordering.eq) = true
      rw [h2]; rfl
    have hcv := fun w => run_convert_float_int (P := Try.prog) w 44 2 .f64 .i64 X q (by kernel_rfl) (by kernel_rfl) h3
    have e1 : qoV q = .tuple #[.int .i64 q, .bool true] := by unfold qoV; rw [if_neg (by omega), decide_eq_true hq]
    rw [e1]
    clear h1 h2 h3 hX e1
    go_enter Try.func30, Try.ntmps30
    go_wp2_with (first | (go_at_call 49; refine (abs_c _ _ hu).mono ?_; rintro e w' ⟨rfl, rfl⟩) | (go_at_call 50; refine (trunc_c _ _ hX2).mono ?_; rintro e w' ⟨rfl, rfl⟩))
    go_ret2
    exact ⟨rfl, rfl⟩
  · subst hq
    have e1 : qoV (-1) = .tuple #[.int .i64 0, .bool false] := rfl
    rw [e1]
    clear e1
    rcases h1 with h1 | ⟨h1, h2⟩
    · have hle : (FloatKind.f64.format.order X 4675730234283130880 == some Ordering.lt || FloatKind.f64.format.order X 4675730234283130880 == some Ordering.eq) = false := by
        show (Ieee.double.order X 4675730234283130880 == some Ordering.lt || Ieee.double.order X 4675730234283130880 == some Ordering.eq) = false
        rw [h1]; rfl
      clear h1 hX
      go_enter Try.func30, Try.ntmps30
      go_wp2_with (first | (go_at_call 49; refine (abs_c _ _ hu).mono ?_; rintro e w' ⟨rfl, rfl⟩) | (go_at_call 50; refine (trunc_c _ _ hX2).mono ?_; rintro e w' ⟨rfl, rfl⟩))
      go_ret2
      exact ⟨rfl, rfl⟩
    · have hle : (FloatKind.f64.format.order X 4675730234283130880 == some Ordering.lt || FloatKind.f64.format.order X 4675730234283130880 == some Ordering.eq) = true := by
        show (Ieee.double.order X 4675730234283130880 == some Ordering.lt || Ieee.double.order X 4675730234283130880 == some Ordering.eq) = true
        rcases h1 with e | e <;> rw [e] <;> rfl
      have heq : (FloatKind.f64.format.order X (Flt.tr X) == some Ordering.eq) = false := by
        show (Ieee.double.order X (Flt.tr X) == some Ordering.eq) = false
        rw [h2]; rfl
      clear h1 h2 hX
      go_enter Try.func30, Try.ntmps30
      go_wp2_with (first | (go_at_call 49; refine (abs_c _ _ hu).mono ?_; rintro e w' ⟨rfl, rfl⟩) | (go_at_call 50; refine (trunc_c _ _ hX2).mono ?_; rintro e w' ⟨rfl, rfl⟩))
      go_ret2
      exact ⟨rfl, rfl⟩
/-- Of a nan the product is some nan, drawn. -/
theorem mul_nan_run (P : Program) (t : TypeId) (a b : Nat) (w : World) (h : Ieee.double.mul a b = none) : ∃ c, 9218868437227405312 < c % 9223372036854775808 ∧ c < 18446744073709551616 ∧ (binOp .mul t (.float .f64 a) (.float .f64 b)).run P w = .ok (.float .f64 c) w.drew := by
  refine ⟨Question.cut (.nanBits .f64 a b) (w.tape w.drawn (.nanBits .f64 a b)), ?_, ?_, ?_⟩
  · generalize w.tape w.drawn (.nanBits .f64 a b) = T
    simp only [Question.cut]
    have hT : T % 2 = 0 ∨ T % 2 = 1 := by omega
    generalize hz : T / 2 % (2 ^ 52 - 1) = Z
    have hZ : Z < 4503599627370495 := by rw [← hz]; exact Nat.mod_lt _ (by decide)
    rcases hT with e | e <;> rw [e] <;> omega
  · generalize w.tape w.drawn (.nanBits .f64 a b) = T
    simp only [Question.cut]
    have hT : T % 2 = 0 ∨ T % 2 = 1 := by omega
    generalize hz : T / 2 % (2 ^ 52 - 1) = Z
    have hZ : Z < 4503599627370495 := by rw [← hz]; exact Nat.mod_lt _ (by decide)
    rcases hT with e | e <;> rw [e] <;> omega
  · have h' : FloatKind.f64.format.mul a b = none := h
    simp [binOp, Op.floatArith, h']
    intro hf
    simp [Question.forced] at hf
theorem quartersOf_nan (u : Nat) (w : World) (hu : u < 18446744073709551616) (hr : 9218868437227405312 < u % 9223372036854775808) :
    Calls Try.prog 30 #[.float .f64 u] w fun e w' => e = .returned (qoV (-1)) ∧ w' = w.drew := by
  obtain ⟨c, hc1, hc2, hmul⟩ := mul_nan_run Try.prog 44 4616189618054758400 (u % 9223372036854775808) w (Flt.mul_nan (by omega))
  have hle : (FloatKind.f64.format.order c 4675730234283130880 == some Ordering.lt || FloatKind.f64.format.order c 4675730234283130880 == some Ordering.eq) = false := by
    show (Ieee.double.order c 4675730234283130880 == some Ordering.lt || Ieee.double.order c 4675730234283130880 == some Ordering.eq) = false
    rw [Flt.order_nan hc1]; rfl
  have e1 : qoV (-1) = .tuple #[.int .i64 0, .bool false] := rfl
  rw [e1]
  clear e1
  go_enter Try.func30, Try.ntmps30
  go_wp2_with (first | (go_at_call 49; refine (abs_c _ _ hu).mono ?_; rintro e w' ⟨rfl, rfl⟩))
  go_ret2
  exact ⟨rfl, rfl⟩
end Go.Proofs.Ytpcjgpgjjdlfdaa
