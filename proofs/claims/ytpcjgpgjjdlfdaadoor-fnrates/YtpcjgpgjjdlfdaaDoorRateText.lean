/- Contracts of RateText's model (l2Text, RateText) and of RateText itself. Conditions: the bits are an int64; for RateText itself: the program's table of texts and the library's table of powers hold what their initialisers lay. -/
import Derived.Test.YtpcjgpgjjdlfdaaDoorDigits
import Derived.Test.YtpcjgpgjjdlfdaaDoorRateFns2
import Derived.Test.YtpcjgpgjjdlfdaaDoorShelf
import Derived.Lib.SmallJoins
import Derived.Lib.ItoaMem
import Derived.Lib.AppendIntMem
namespace Go.Proofs.YtpcjgpgjjdlfdaaDoor
open Go.ChangeShapes Go.WideShapes Go.ChangeAt Go.RowKit
set_option linter.unusedVariables false

def qtx (q : Int) : List UInt8 := if q = 0 then [] else if q = 1 then [46, 50, 53] else if q = 2 then [46, 53] else [46, 55, 53]
def sgx (b : Int) : List UInt8 := if b < 0 then [45] else []
def rtC (b : Int) : Int := if 9218868437227405312 ≤ sz b then 0 else if Rts.qt (sz b) < 0 then 3 else 0
def rtT (b : Int) : List UInt8 :=
  if 9218868437227405312 < sz b then [110, 97, 110] else if sz b = 9218868437227405312 then sgx b ++ [105, 110, 102]
  else if Rts.qt (sz b) < 0 then [] else sgx b ++ Lib.decDigits (Rts.qt (sz b) / 4).toNat ++ qtx (Rts.qt (sz b) % 4)
def rtS (b : Int) : ByteArray := ⟨(rtT b).toArray⟩
theorem rt_cases (b : Int) :
    (9218868437227405312 < sz b ∧ rtC b = 0 ∧ rtT b = [110, 97, 110]) ∨
    (sz b = 9218868437227405312 ∧ rtC b = 0 ∧ rtT b = sgx b ++ [105, 110, 102]) ∨
    (sz b < 9218868437227405312 ∧ Rts.qt (sz b) < 0 ∧ rtC b = 3 ∧ rtT b = []) ∨
    (sz b < 9218868437227405312 ∧ 0 ≤ Rts.qt (sz b) ∧ rtC b = 0 ∧ rtT b = sgx b ++ Lib.decDigits (Rts.qt (sz b) / 4).toNat ++ qtx (Rts.qt (sz b) % 4)) := by
  unfold rtC rtT
  by_cases h1 : 9218868437227405312 < sz b
  · exact .inl ⟨h1, by rw [if_pos (by omega)], by rw [if_pos h1]⟩
  by_cases h2 : sz b = 9218868437227405312
  · exact .inr (.inl ⟨h2, by rw [if_pos (by omega)], by rw [if_neg h1, if_pos h2]⟩)
  by_cases h3 : Rts.qt (sz b) < 0
  · exact .inr (.inr (.inl ⟨by omega, h3, by rw [if_neg (by omega), if_pos h3], by rw [if_neg h1, if_neg h2, if_pos h3]⟩))
  · exact .inr (.inr (.inr ⟨by omega, by omega, by rw [if_neg (by omega), if_neg h3], by rw [if_neg h1, if_neg h2, if_neg h3]⟩))
theorem sg_cases (b : Int) : (b < 0 ∧ sgx b = [45]) ∨ (¬ b < 0 ∧ sgx b = []) := by
  unfold sgx; by_cases h : b < 0
  · exact .inl ⟨h, by rw [if_pos h]⟩
  · exact .inr ⟨h, by rw [if_neg h]⟩
theorem q4_cases (q : Int) : (q % 4 = 0 ∧ qtx (q % 4) = []) ∨ (q % 4 = 1 ∧ qtx (q % 4) = [46, 50, 53]) ∨ (q % 4 = 2 ∧ qtx (q % 4) = [46, 53]) ∨ (q % 4 = 3 ∧ qtx (q % 4) = [46, 55, 53]) := by
  have : q % 4 = 0 ∨ q % 4 = 1 ∨ q % 4 = 2 ∨ q % 4 = 3 := by omega
  rcases this with e | e | e | e <;> rw [e] <;> simp [qtx]
theorem cat (x y : List UInt8) : (⟨x.toArray⟩ : ByteArray) ++ (⟨y.toArray⟩ : ByteArray) = ⟨(x ++ y).toArray⟩ := ByteArray.mk_append_mk x y
theorem size_mk (x : List UInt8) : (⟨x.toArray⟩ : ByteArray).size = x.length := by simp [ByteArray.size]

theorem kept4 {w w1 : World} {c0 c1 c2 c3 : Value} {t : TypeId} (hb : Below (w.alloc (.cells #[c0, c1, c2, c3] t)).drew.heap.size (w.alloc (.cells #[c0, c1, c2, c3] t)).drew w1) :
    w1.cell? ⟨w.heap.size, 0, none⟩ = some c0 ∧ w1.cell? ⟨w.heap.size, 1, none⟩ = some c1 ∧ w1.cell? ⟨w.heap.size, 2, none⟩ = some c2 ∧ w1.cell? ⟨w.heap.size, 3, none⟩ = some c3 := by
  have lt : w.heap.size < (w.alloc (.cells #[c0, c1, c2, c3] t)).drew.heap.size := by show w.heap.size < (w.alloc _).heap.size; rw [size_new]; omega
  refine ⟨?_, ?_, ?_, ?_⟩
  all_goals rw [hb.cell lt, World.cell?_drew]; exact cell_new _ _ _ _ _ rfl
set_option maxRecDepth 100000 in
set_option maxHeartbeats 2000000 in
theorem l2Text_c (b : Int) (w : World) :
    Calls Tryd.prog 38 #[.int .i64 b] w fun e w' => e = .returned (.tuple #[.string (rtS b), .int .i64 (rtC b)]) ∧ Below w.heap.size w w' := by
  have s1 := sz_bd b
  have q1 := Rts.qt_bd (sz b)
  unfold rtS
  rcases rt_cases b with ⟨h1, e1, e2⟩ | ⟨h1, e1, e2⟩ | ⟨h1, h2, e1, e2⟩ | ⟨h1, h2, e1, e2⟩ <;> rw [e1, e2] <;> clear e1 e2
  · go_enter Tryd.func38, Tryd.ntmps38
    go_wp2_with (go_at_call 43; refine (l2Size_c _ _).mono ?_; rintro e w' ⟨rfl, rfl⟩)
    go_ret2
    exact ⟨rfl, Below.refl _ _⟩
  · have d1 : decide (9218868437227405312 < sz b) = false := decide_eq_false (by omega)
    have d2 : (sz b == 9218868437227405312) = true := by simpa using h1
    clear h1
    rcases sg_cases b with ⟨h, e⟩ | ⟨h, e⟩ <;> rw [e] <;> clear e
    all_goals
      go_enter Tryd.func38, Tryd.ntmps38
      go_wp2_with (go_at_call 43; refine (l2Size_c _ _).mono ?_; rintro e w' ⟨rfl, rfl⟩)
      go_ret2
      exact ⟨rfl, Below.refl _ _⟩
  · have d1 : decide (9218868437227405312 < sz b) = false := decide_eq_false (by omega)
    have d2 : (sz b == 9218868437227405312) = false := by simp; omega
    go_enter Tryd.func38, Tryd.ntmps38
    go_wp2_with (first | (go_at_call 43; refine (l2Size_c _ _).mono ?_; rintro e w' ⟨rfl, rfl⟩) | (go_at_call 54; refine (l2Quarters_c _ _ s1.1 s1.2).mono ?_; rintro e w' ⟨rfl, rfl⟩))
    go_ret2
    exact ⟨rfl, Below.refl _ _⟩
  · have d1 : decide (9218868437227405312 < sz b) = false := decide_eq_false (by omega)
    have d2 : (sz b == 9218868437227405312) = false := by simp; omega
    have c1 := fun w => l2Quarters_c (sz b) w s1.1 s1.2
    generalize Rts.qt (sz b) = q at c1 q1 h2 ⊢
    have d3 : decide (q < 0) = false := decide_eq_false (by omega)
    have c2 := fun w => l1Digits_c (q / 4) w (by omega) (by omega)
    have hlen := decDigits_len 18 (q / 4).toNat (by omega)
    obtain ⟨D, HD⟩ : ∃ D : ByteArray, Hid (D = ⟨(Lib.decDigits (q / 4).toNat).toArray⟩) := ⟨_, rfl⟩
    have hDs : D.size ≤ 19 := by rw [HD.out, size_mk]; exact hlen
    rw [← HD.out] at c2
    have e1 : IntKind.i64.wrap (q.tdiv 4) = q / 4 := by rw [Int.tdiv_eq_ediv_of_nonneg (by omega), IntKind.wrap_i64]; omega
    rw [← e1] at c2
    clear e1
    have e2 : q.tmod 4 = q % 4 := Int.tmod_eq_emod_of_nonneg (by omega)
    obtain ⟨X, hX⟩ : ∃ X : ByteArray, Hid (X = ⟨(qtx (q % 4)).toArray⟩) := ⟨_, rfl⟩
    have hXs : X.size ≤ 3 := by rw [hX.out, size_mk]; rcases q4_cases q with ⟨_, e⟩ | ⟨_, e⟩ | ⟨_, e⟩ | ⟨_, e⟩ <;> rw [e] <;> simp
    have hadd := fun w => run_string_add_sum (P := Tryd.prog) w D X (by omega)
    have hadd2 := fun w => run_string_add_sum (P := Tryd.prog) w ⟨#[45]⟩ (D ++ X) (by rw [ByteArray.size_append, show (ByteArray.mk #[45]).size = 1 from rfl]; omega)
    obtain ⟨T, HT⟩ : ∃ T : ByteArray, Hid ((⟨(sgx b ++ Lib.decDigits (q / 4).toNat ++ qtx (q % 4)).toArray⟩ : ByteArray) = T) := ⟨_, rfl⟩
    have HE : Hid ((b < 0 → (⟨#[45]⟩ : ByteArray) ++ (D ++ X) = T) ∧ (¬ b < 0 → D ++ X = T)) := by
      rw [← HT.out]
      refine ⟨fun h => ?_, fun h => ?_⟩
      · rw [HD.out, hX.out, cat (Lib.decDigits (q / 4).toNat) (qtx (q % 4))]
        unfold sgx
        rw [if_pos h, List.append_assoc]
        exact cat [45] _
      · rw [HD.out, hX.out, cat (Lib.decDigits (q / 4).toNat) (qtx (q % 4))]
        unfold sgx
        rw [if_neg h, List.nil_append]
    rw [HT.out]
    clear HT
    rcases q4_cases q with ⟨r, e⟩ | ⟨r, e⟩ | ⟨r, e⟩ | ⟨r, e⟩
    all_goals
      have hX' := hX.out
      rw [e] at hX'
      clear hX
      rw [r] at e2
      clear e r
      subst hX'
      go_enter Tryd.func38, Tryd.ntmps38
      go_wp2_with fail
      refine (l2Size_c _ _).mono ?_
      rintro e w' ⟨rfl, rfl⟩
      go_wp2_with fail
      refine (c1 _).mono ?_
      rintro e w' ⟨rfl, rfl⟩
      go_wp2_with fail
      go_region_with (go_at_call 55; refine (c2 _).mono ?_; rintro e w1 ⟨rfl, hb⟩; try (have hk := kept4 hb; obtain ⟨k0, k1, k2, k3⟩ := hk))
      all_goals
        have hB : Below w'.heap.size w' w1 := by first | exact (Below.refl w'.heap.size w').drew.trans hb | exact ((Below.refl w'.heap.size w').alloc (Nat.le_refl _) _).drew.trans (hb.mono (by show w'.heap.size ≤ (w'.alloc _).heap.size; rw [size_new]; omega))
        by_cases hs : b < 0
        · go_wp2_with fail
          go_ret2
          exact ⟨congrArg (fun x => Ending.returned (Value.tuple #[Value.string x, Value.int .i64 0])) (HE.out.1 hs), by first | exact hB | exact hB.alloc hB.size _⟩
        · go_wp2_with fail
          go_ret2
          exact ⟨congrArg (fun x => Ending.returned (Value.tuple #[Value.string x, Value.int .i64 0])) (HE.out.2 hs), by first | exact hB | exact hB.alloc hB.size _⟩
end Go.Proofs.YtpcjgpgjjdlfdaaDoor
