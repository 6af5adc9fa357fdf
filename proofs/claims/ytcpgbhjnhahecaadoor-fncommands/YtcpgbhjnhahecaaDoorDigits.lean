/- The contract of the model's l1Digits: a number from 0 on, in decimal. Condition: the number is at most 9223372036854775807. -/
import Derived.Test.YtcpgbhjnhahecaaDoorRows
import Derived.WalkKit
import Derived.ProofKit
import Derived.OpenShut
import Derived.ShutString
import Derived.WalkLawsBesides
import Derived.Below
import Derived.Laws.IdiomStrings
import Derived.Laws.Concat
import Derived.Laws.BitsAllLaws
import Derived.Deep.RegionWith
import Derived.Lib.ItoaNum
import Derived.Test.YtcpgbhjnhahecaaDoorCells
namespace Go.Proofs.YtcpgbhjnhahecaaDoor
open Go.ChangeShapes Go.WideShapes Go.ChangeAt Go.RowKit
set_option linter.unusedVariables false

theorem conv1 (w : World) (g : Nat) (x : Int) (h0 : 0 ≤ x) (h1 : x < 256) (hc : w.cell? ⟨g, 0, none⟩ = some (.int .u8 x)) :
    (convert 22 9 (.slice (some ⟨g, 0, none⟩) 1 1)).run Tryd.prog w = .ok (.string ⟨#[UInt8.ofNat x.toNat]⟩) w := by
  refine run_convert_bytes_back w 22 9 5 ⟨g, 0, none⟩ 1 [UInt8.ofNat x.toNat] (by kernel_rfl) (by kernel_rfl) (by kernel_rfl) ?_
  intro j hj
  have : j = 0 := by simp at hj; omega
  subst this
  have e : ((UInt8.ofNat x.toNat).toNat : Int) = x := by
    rw [UInt8.toNat_ofNat']
    omega
  show w.cell? (Addr.add ⟨g, 0, none⟩ 0) = some (.int .u8 ((UInt8.ofNat x.toNat).toNat : Int))
  rw [e]
  simpa [Addr.add] using hc
theorem conv1_new (x : Int) (h0 : 0 ≤ x) (h1 : x < 256) (w : World) :
    (convert 22 9 (.slice (some ⟨w.heap.size, 0, none⟩) 1 1)).run Tryd.prog (w.alloc (.cells #[.int .u8 x] 5)) = .ok (.string ⟨#[UInt8.ofNat x.toNat]⟩) (w.alloc (.cells #[.int .u8 x] 5)) :=
  conv1 _ _ x h0 h1 (cell_new _ _ _ _ _ rfl)

theorem conv1_drew (x : Int) (h0 : 0 ≤ x) (h1 : x < 256) (w : World) :
    (convert 22 9 (.slice (some ⟨w.heap.size, 0, none⟩) 1 1)).run Tryd.prog (w.alloc (.cells #[.int .u8 x] 5)).drew = .ok (.string ⟨#[UInt8.ofNat x.toNat]⟩) (w.alloc (.cells #[.int .u8 x] 5)).drew :=
  conv1 _ _ x h0 h1 (by rw [World.cell?_drew]; exact cell_new _ _ _ _ _ rfl)
theorem conv1_kept {w w1 : World} {x : Int} (h0 : 0 ≤ x) (h1 : x < 256) (hb : Below (w.alloc (.cells #[.int .u8 x] 5)).drew.heap.size (w.alloc (.cells #[.int .u8 x] 5)).drew w1) :
    (convert 22 9 (.slice (some ⟨w.heap.size, 0, none⟩) 1 1)).run Tryd.prog w1 = .ok (.string ⟨#[UInt8.ofNat x.toNat]⟩) w1 :=
  conv1 _ _ x h0 h1 (by rw [hb.cell (by show w.heap.size < (w.alloc _).heap.size; rw [size_new]; omega), World.cell?_drew]; exact cell_new _ _ _ _ _ rfl)

set_option maxRecDepth 100000 in
theorem l1Digits_small (n : Int) (w : World) (h0 : 0 ≤ n) (h : n < 10) :
    Calls Tryd.prog 39 #[.int .i64 n] w fun e w' => e = .returned (.string ⟨(Lib.decDigits n.toNat).toArray⟩) ∧ Below w.heap.size w w' := by
  have hc := conv1_new (48 + n) (by omega) (by omega)
  have e : Lib.decDigits n.toNat = [UInt8.ofNat (48 + n).toNat] := by
    rw [Lib.decDigits, dif_pos (by omega), show 48 + n.toNat = (48 + n).toNat from by omega]
  rw [e]
  clear e
  go_enter Tryd.func39, Tryd.ntmps39
  go_wp2_with fail
  go_ret
  exact ⟨rfl, (Below.refl _ _).alloc (Nat.le_refl _) _⟩
set_option maxRecDepth 100000 in
set_option maxHeartbeats 1000000 in
theorem l1Digits_step (n : Int) (l : List UInt8) (x : ByteArray) (hx : x = ⟨l.toArray⟩) (hl20 : l.length ≤ 20) (w : World) (h0 : 10 ≤ n) (h : n ≤ 9223372036854775807) (hl : l = Lib.decDigits (n / 10).toNat) (c : ∀ w, Calls Tryd.prog 39 #[.int .i64 (n / 10)] w fun e w' => e = .returned (.string x) ∧ Below w.heap.size w w') :
    Calls Tryd.prog 39 #[.int .i64 n] w fun e w' => e = .returned (.string ⟨(Lib.decDigits n.toNat).toArray⟩) ∧ Below w.heap.size w w' := by
  have e1 : IntKind.i64.wrap (n.tdiv 10) = n / 10 := by rw [Int.tdiv_eq_ediv_of_nonneg (by omega), IntKind.wrap_i64]; omega
  have e2 : IntKind.u8.wrap (IntKind.i64.wrap (48 + n.tmod 10)) = 48 + n % 10 := by rw [Int.tmod_eq_emod_of_nonneg (by omega), IntKind.wrap_i64, IntKind.wrap_u8']; omega
  have hc := conv1_new (48 + n % 10) (by omega) (by omega)
  have hc2 := conv1_drew (48 + n % 10) (by omega) (by omega)
  rw [← e2] at hc hc2
  rw [← e1] at c
  have hd : decide (n < 10) = false := decide_eq_false (by omega)
  have hadd := fun w => run_string_add_sum (P := Tryd.prog) w x ⟨#[UInt8.ofNat (IntKind.u8.wrap (IntKind.i64.wrap (48 + n.tmod 10))).toNat]⟩ (by rw [hx]; simp [ByteArray.size]; omega)
  have HE : Hid (x ++ ⟨#[UInt8.ofNat (IntKind.u8.wrap (IntKind.i64.wrap (48 + n.tmod 10))).toNat]⟩ = ⟨(Lib.decDigits n.toNat).toArray⟩) := by
    show _ = _
    rw [e2, Lib.decDigits, dif_neg (by omega), show n.toNat / 10 = (n / 10).toNat from by omega, ← hl, show 48 + n.toNat % 10 = (48 + n % 10).toNat from by omega]
    rw [hx]
    exact ByteArray.mk_append_mk l [UInt8.ofNat (48 + n % 10).toNat]
  have x0 : 0 ≤ IntKind.u8.wrap (IntKind.i64.wrap (48 + n.tmod 10)) := by rw [e2]; omega
  have x1 : IntKind.u8.wrap (IntKind.i64.wrap (48 + n.tmod 10)) < 256 := by rw [e2]; omega
  clear hl e1 e2 hx
  go_enter Tryd.func39, Tryd.ntmps39
  go_wp2_with fail
  go_region_with (go_at_call 39; refine (c _).mono ?_; rintro e w1 ⟨rfl, hb⟩; try (have hx := conv1_kept x0 x1 hb))
  · have hB : Below w.heap.size w w1 := (Below.refl w.heap.size w).drew.trans hb
    go_wp2_with fail
    go_ret
    exact ⟨congrArg (fun x => Ending.returned (Value.string x)) HE.out, hB.alloc hB.size _⟩
  all_goals
    have hB : Below w.heap.size w w1 := ((Below.refl w.heap.size w).alloc (Nat.le_refl _) _).drew.trans (hb.mono (by show w.heap.size ≤ (w.alloc _).heap.size; rw [size_new]; omega))
    go_wp2_with fail
    go_ret
    exact ⟨congrArg (fun x => Ending.returned (Value.string x)) HE.out, hB⟩

theorem decDigits_len : ∀ (k u : Nat), u < 10 ^ (k + 1) → (Lib.decDigits u).length ≤ k + 1
  | 0, u, h => by rw [Lib.decDigits, dif_pos (by omega)]; simp
  | k + 1, u, h => by
    rw [Lib.decDigits]
    split
    · simp
    · have := decDigits_len k (u / 10) (by rw [Nat.pow_succ] at h; omega)
      simp only [List.length_append, List.length_singleton]
      omega

theorem l1Digits_all : ∀ (k : Nat) (n : Int) (w : World), 0 ≤ n → n ≤ 9223372036854775807 → n.toNat < 10 ^ (k + 1) → k ≤ 19 →
    Calls Tryd.prog 39 #[.int .i64 n] w fun e w' => e = .returned (.string ⟨(Lib.decDigits n.toNat).toArray⟩) ∧ Below w.heap.size w w'
  | 0, n, w, h0, _, h1, _ => l1Digits_small n w h0 (by omega)
  | k + 1, n, w, h0, hm, h1, hk => by
    by_cases hs : n < 10
    · exact l1Digits_small n w h0 hs
    · have hlt : (n / 10).toNat < 10 ^ (k + 1) := by rw [Nat.pow_succ] at h1; omega
      exact l1Digits_step n _ _ rfl (by have := decDigits_len k (n / 10).toNat hlt; omega) w (by omega) hm rfl (fun w => l1Digits_all k (n / 10) w (by omega) (by omega) hlt (by omega))
theorem l1Digits_c (n : Int) (w : World) (h0 : 0 ≤ n) (h1 : n ≤ 9223372036854775807) :
    Calls Tryd.prog 39 #[.int .i64 n] w fun e w' => e = .returned (.string ⟨(Lib.decDigits n.toNat).toArray⟩) ∧ Below w.heap.size w w' :=
  l1Digits_all 18 n w h0 h1 (by omega) (by omega)
end Go.Proofs.YtcpgbhjnhahecaaDoor
