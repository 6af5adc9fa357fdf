/- Contracts of numberIn on two and three bytes, and of bytes.Equal. No condition. -/
import Derived.Test.YtcpgbhjnhahecaaDoorSpecPack2
import Derived.Laws.BitsAllLaws
import Derived.Laws.IdiomStrings
namespace Go.Proofs.YtcpgbhjnhahecaaDoor
open Go.ChangeShapes Go.WideShapes Go.ChangeAt Go.RowKit
open Cm
set_option linter.unusedVariables false

theorem i64_or8 (x y : Int) (h0 : 0 ≤ x) (h1 : x % 256 = 0) (h2 : x < 1099511627776) (h3 : 0 ≤ y) (h4 : y < 256) : bits .or .i64 x y = x + y :=
  bits_join .i64 40 (by decide) (fun n h0 h1 => by rw [IntKind.wrap_i64]; omega) 8 x y h0 h1 h2 h3 h4 (by omega)
theorem or2 {x y : Int} (x0 : 0 ≤ x) (x1 : x ≤ 255) (y0 : 0 ≤ y) (y1 : y ≤ 255) : bits .or .i64 (wrap64 (bits .or .i64 0 x * 256)) y = 256 * x + y := by
  rw [i64_or8 0 x (by omega) (by omega) (by omega) x0 (by omega), show wrap64 ((0 + x) * 256) = x * 256 from by unfold wrap64; omega, i64_or8 _ y (by omega) (by omega) (by omega) y0 (by omega)]
  omega
theorem or3 {x y z : Int} (x0 : 0 ≤ x) (x1 : x ≤ 255) (y0 : 0 ≤ y) (y1 : y ≤ 255) (z0 : 0 ≤ z) (z1 : z ≤ 255) : bits .or .i64 (wrap64 (bits .or .i64 (wrap64 (bits .or .i64 0 x * 256)) y * 256)) z = 65536 * x + 256 * y + z := by
  rw [or2 x0 x1 y0 y1, show wrap64 ((256 * x + y) * 256) = (256 * x + y) * 256 from by unfold wrap64; omega, i64_or8 _ z (by omega) (by omega) (by omega) z0 (by omega)]
  omega
set_option maxHeartbeats 1000000 in
theorem numberIn_2 (g o c : Nat) (x y : Int) (x0 : 0 ≤ x) (x1 : x ≤ 255) (y0 : 0 ≤ y) (y1 : y ≤ 255) (w : World) (h0 : w.cell? ⟨g, o, none⟩ = some (.int .u8 x)) (h1 : w.cell? ⟨g, o + 1, none⟩ = some (.int .u8 y)) :
    Calls Tryd.prog 42 #[.slice (some ⟨g, o, none⟩) 2 c] w fun e w' => e = .returned (.int .i64 (256 * x + y)) ∧ w' = w := by
  rw [← or2 x0 x1 y0 y1]
  go_enter Tryd.func42, Tryd.ntmps42
  go_wp2
  refine wp_loop_rounds 3 ?_
  rw [rounds_succ]
  go_wp2
  rw [rounds_succ]
  go_wp2
  rw [rounds_succ]
  go_wp2
  go_ret
  exact ⟨rfl, rfl⟩
set_option maxHeartbeats 1000000 in
theorem numberIn_3 (g o c : Nat) (x y z : Int) (x0 : 0 ≤ x) (x1 : x ≤ 255) (y0 : 0 ≤ y) (y1 : y ≤ 255) (z0 : 0 ≤ z) (z1 : z ≤ 255) (w : World) (h0 : w.cell? ⟨g, o, none⟩ = some (.int .u8 x)) (h1 : w.cell? ⟨g, o + 1, none⟩ = some (.int .u8 y)) (h2 : w.cell? ⟨g, o + 2, none⟩ = some (.int .u8 z)) :
    Calls Tryd.prog 42 #[.slice (some ⟨g, o, none⟩) 3 c] w fun e w' => e = .returned (.int .i64 (65536 * x + 256 * y + z)) ∧ w' = w := by
  rw [← or3 x0 x1 y0 y1 z0 z1]
  go_enter Tryd.func42, Tryd.ntmps42
  go_wp2
  refine wp_loop_rounds 4 ?_
  rw [rounds_succ]
  go_wp2
  rw [rounds_succ]
  go_wp2
  rw [rounds_succ]
  go_wp2
  rw [rounds_succ]
  go_wp2
  go_ret
  exact ⟨rfl, rfl⟩

/- numbers as a string of bytes -/
def ub (l : List Int) : List UInt8 := l.map fun x => UInt8.ofNat x.toNat
def bs (l : List Int) : ByteArray := ⟨(ub l).toArray⟩
theorem ub_inj : ∀ {l l' : List Int} (_ : ∀ x ∈ l, 0 ≤ x ∧ x ≤ 255) (_ : ∀ x ∈ l', 0 ≤ x ∧ x ≤ 255) (_ : ub l = ub l'), l = l'
  | [], [], _, _, _ => rfl
  | [], _ :: _, _, _, h => by cases h
  | _ :: _, [], _, _, h => by cases h
  | x :: l, y :: l', h1, h2, h => by
    simp only [ub, List.map_cons, List.cons.injEq] at h
    have hx := h1 x (by simp)
    have hy := h2 y (by simp)
    have e := congrArg UInt8.toNat h.1
    rw [UInt8.toNat_ofNat', UInt8.toNat_ofNat'] at e
    rw [show x = y from by omega, ub_inj (fun z hz => h1 z (by simp [hz])) (fun z hz => h2 z (by simp [hz])) h.2]
theorem bs_eq {l l' : List Int} (h1 : ∀ x ∈ l, 0 ≤ x ∧ x ≤ 255) (h2 : ∀ x ∈ l', 0 ≤ x ∧ x ≤ 255) : ((bs l).toList == (bs l').toList) = decide (l = l') := by
  have e : ∀ l, (bs l).toList = ub l := fun l => by rw [ByteArray.toList_eq]; simp [bs]
  rw [e, e]
  by_cases h : l = l'
  · subst h; simp
  · rw [decide_eq_false h]
    exact beq_false_of_ne fun e => h (ub_inj h1 h2 e)
theorem convB (w : World) (g c m : Nat) (l : List Int) (hm : l.length = m) (hb : ∀ x ∈ l, 0 ≤ x ∧ x ≤ 255) (h : BAt w g 0 l) :
    (convert 22 9 (.slice (some ⟨g, 0, none⟩) m c)).run Tryd.prog w = .ok (.string (bs l)) w := by
  have hl : (ub l).length = m := by rw [← hm]; simp [ub]
  have := run_convert_bytes_back (P := Tryd.prog) w 22 9 5 ⟨g, 0, none⟩ c (ub l) (by kernel_rfl) (by kernel_rfl) (by kernel_rfl) (fun j hj => by
    have hj' : j < l.length := by simpa [ub] using hj
    have e : (⟨g, 0, none⟩ : Addr).add j = ⟨g, 0 + j, none⟩ := by unfold Addr.add; split <;> simp_all
    rw [e, h j l[j] (List.getElem?_eq_getElem hj')]
    have hx := hb l[j] (List.getElem_mem _)
    simp only [ub, List.getElem_map, UInt8.toNat_ofNat']
    congr 2
    omega)
  rw [hl] at this
  exact this
theorem convN (w : World) : (convert 22 9 (.slice none 0 0)).run Tryd.prog w = .ok (.string (bs [])) w := by
  rw [run_convert_bytes_string w 22 9 5 none 0 0 (by kernel_rfl) (by kernel_rfl) (by kernel_rfl)]
  rfl
theorem bytesEqual_c (v1 v2 : Value) (S T : ByteArray) (w : World) (h1 : (convert 22 9 v1).run Tryd.prog w = .ok (.string S) w) (h2 : (convert 22 9 v2).run Tryd.prog w = .ok (.string T) w) :
    Calls Tryd.prog 43 #[v1, v2] w fun e w' => e = .returned (.bool (S.toList == T.toList)) ∧ w' = w := by
  go_enter Tryd.func43, Tryd.ntmps43
  go_wp2
  go_ret
  exact ⟨rfl, rfl⟩
end Go.Proofs.YtcpgbhjnhahecaaDoor
