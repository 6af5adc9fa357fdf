/- Contracts of the model of PutUnit's parts. Condition: the board's lists rise and lie in memory as they were laid there. -/
import Derived.Test.YtibkdkjcncfmgaaInRows
import Derived.Test.YtibkdkjcncfmgaaMapU
import Derived.Deep.RegionHeld3
import Derived.Deep.Cut
import Derived.Deep.CutRange
import Derived.Outline
import Derived.Test.YtibkdkjcncfmgaaUnitWalks2
namespace Go.Proofs.Ytibkdkjcncfmgaa
open Go.ChangeShapes Go.WideShapes Go.ChangeAt Go.RowKit
open Bd
set_option linter.unusedVariables false

theorem putU_lt {u x : K10} {l : List K10} (h : ∀ y ∈ l, y.c0 < u.c0) (hx : u.c0 < x.c0) : putU u (l ++ [x]) = l ++ [u] ++ [x] := by
  induction l with
  | nil => show (if u.c0 < x.c0 then _ else _) = _; rw [if_pos hx]; rfl
  | cons y l ih =>
    have h1 := h y (by simp)
    show (if u.c0 < y.c0 then _ else if u.c0 = y.c0 then _ else y :: putU u (l ++ [x])) = _
    rw [if_neg (by omega), if_neg (by omega), ih (fun z hz => h z (by simp [hz]))]; rfl
theorem putU_eq {u x : K10} {l : List K10} (h : ∀ y ∈ l, y.c0 < u.c0) (hx : u.c0 = x.c0) : putU u (l ++ [x]) = l ++ [u] := by
  induction l with
  | nil => show (if u.c0 < x.c0 then _ else if u.c0 = x.c0 then _ else _) = _; rw [if_neg (by omega), if_pos hx]; rfl
  | cons y l ih =>
    have h1 := h y (by simp)
    show (if u.c0 < y.c0 then _ else if u.c0 = y.c0 then _ else y :: putU u (l ++ [x])) = _
    rw [if_neg (by omega), if_neg (by omega), ih (fun z hz => h z (by simp [hz]))]; rfl
theorem putU_snoc {u x : K10} {l : List K10} (h : ∃ y ∈ l, u.c0 ≤ y.c0) : putU u (l ++ [x]) = putU u l ++ [x] := by
  induction l with
  | nil => obtain ⟨y, hy, _⟩ := h; cases hy
  | cons y l ih =>
    show (if u.c0 < y.c0 then u :: y :: (l ++ [x]) else if u.c0 = y.c0 then u :: (l ++ [x]) else y :: putU u (l ++ [x])) = (if u.c0 < y.c0 then u :: y :: l else if u.c0 = y.c0 then u :: l else y :: putU u l) ++ [x]
    by_cases h1 : u.c0 < y.c0
    · rw [if_pos h1, if_pos h1]; rfl
    rw [if_neg h1, if_neg h1]
    by_cases h2 : u.c0 = y.c0
    · rw [if_pos h2, if_pos h2]; rfl
    rw [if_neg h2, if_neg h2, ih]
    · rfl
    · obtain ⟨z, hz, hle⟩ := h
      rcases List.mem_cons.1 hz with rfl | hz
      · omega
      · exact ⟨z, hz, hle⟩
theorem SlU.mono {w : World} {base base' : Nat} {v : Value} {l : List K10} (h : SlU w base v l) (hb : base' ≤ base) : SlU w base' v l := by
  rcases h with ⟨h1, h2⟩
  refine ⟨h1, ?_⟩
  rcases h2 with h2 | ⟨g, cap, cur, hv, hbb, r⟩
  · exact .inl h2
  · exact .inr ⟨g, cap, cur, hv, Nat.le_trans hb hbb, r⟩
theorem SlF.mono {w : World} {base base' : Nat} {v : Value} {l : List K3} (h : SlF w base v l) (hb : base' ≤ base) : SlF w base' v l := by
  rcases h with ⟨h1, h2⟩
  refine ⟨h1, ?_⟩
  rcases h2 with h2 | ⟨g, cap, cur, hv, hbb, r⟩
  · exact .inl h2
  · exact .inr ⟨g, cap, cur, hv, Nat.le_trans hb hbb, r⟩
/- what is out behind k units: d: u is among them -/
def lp (u : K10) (us : List K10) (d : Bool) (k : Nat) : List K10 := if d = true then putU u (us.take k) else us.take k
def lc (u : K10) (us : List K10) (d : Bool) (k : Nat) : Prop := (d = false ∧ ∀ x ∈ us.take k, x.c0 < u.c0) ∨ (d = true ∧ ∃ x ∈ us.take k, u.c0 ≤ x.c0)
theorem putU_len (u : K10) : ∀ l : List K10, (putU u l).length ≤ l.length + 1
  | [] => by simp [putU]
  | x :: l => by
    unfold putU
    split
    · simp
    · split
      · simp
      · have := putU_len u l; simp; exact this
theorem take_next {us : List K10} {k : Nat} {x : K10} (h : us[k]? = some x) : us.take (k + 1) = us.take k ++ [x] := by rw [List.take_add_one, h]; rfl
theorem mem_next {us : List K10} {k : Nat} {x : K10} (h : us[k]? = some x) : x ∈ us.take (k + 1) := by rw [take_next h]; simp
theorem lp_len (u : K10) (us : List K10) (d : Bool) (k : Nat) (h : us.length ≤ 8) : (lp u us d k).length ≤ 9 := by
  unfold lp
  split
  · have := putU_len u (us.take k); rw [List.length_take] at this; omega
  · rw [List.length_take]; omega
set_option maxRecDepth 20000 in
set_option maxHeartbeats 8000000 in
theorem l4Put_i (p : Option Addr) (c m : Nat) (us : List K10) (u : K10) (hl : us.length = m) (hm : m ≤ 8) (hr : Rise us) (w : World) (hat : InU w p m c us) :
    Calls Try.prog 77 #[.slice p m c, .agg u.v] w fun e w' => ∃ v, e = .returned v ∧ SlU w' w.heap.size v (putU u us) ∧ Below w.heap.size w w' := by
  obtain ⟨W1, HW1⟩ : ∃ W1, Hid (W1 = w.alloc (.cells u.v 29)) := ⟨_, rfl⟩
  have k0 : Below w.heap.size w W1 := by rw [HW1.out]; exact (Below.refl _ _).alloc (Nat.le_refl _) _
  have HB : Hid (U1 W1 w.heap.size 0 u) := by show U1 _ _ _ _; rw [HW1.out]; exact U1.new w u 29
  have HI : Hid (InU W1 p m c us) := hat.later k0
  have Hl : Hid (us.length = m) := hl
  have Hr : Hid (Rise us) := hr
  obtain ⟨B, HBq⟩ : ∃ B, Hid (B = w.heap.size) := ⟨_, rfl⟩
  have hBW : B < W1.heap.size := by rw [HBq.out]; exact HB.out.lt
  have HB' : Hid (U1 W1 B 0 u) := by show U1 _ _ _ _; rw [HBq.out]; exact HB.out
  have hwB : w.heap.size ≤ W1.heap.size := k0.size
  clear hat hl hr HB
  go_enter Try.func77, Try.ntmps77
  go_upto_region 1 with fail
  rw [← HW1.out, ← HBq.out]
  go_wp2_with fail
  go_loopw [5, 6, 7] (fun v dd i wr => ∃ (k : Nat) (d : Bool), k ≤ m ∧ i = .int .i64 k ∧ dd = .bool d ∧ Hid (lc u us d k) ∧ SlU wr W1.heap.size v (lp u us d k) ∧ Below W1.heap.size W1 wr) (fun _ _ i _ => m - (intOf i).toNat)
  case atStart => exact ⟨0, false, Nat.zero_le _, rfl, rfl, .inl ⟨rfl, fun x hx => by simp at hx⟩, World.ownsRow_made W1 #[] 0 (Nat.le_refl _) (by unfold maxLen; omega) rfl, (Below.refl _ _).alloc (Nat.le_refl _) _⟩
  case round =>
    obtain ⟨k, d, hk, rfl, rfl, Hc, hS, hbel⟩ := hrel
    obtain ⟨b0, b1, b2, b3, b4, b5, b6, b7, b8, b9, bl⟩ := HB'.out.later hbel
    by_cases hlt : k < m
    · have hlt' : (k : Int) < (m : Int) := by omega
      obtain ⟨x, hx⟩ : ∃ x, us[k]? = some x := ⟨_, List.getElem?_eq_getElem (by have := Hl.out; omega)⟩
      obtain ⟨g, off, rfl, hg1, hat1⟩ := HI.out.at hx
      have Hat : Hid (UAt W1 g off us) := hat1
      clear hat1
      obtain ⟨x0, x1, x2, x3, x4, x5, x6, x7, x8, x9, xl⟩ := (Hat.out.later hg1 hbel).one (Nat.lt_of_lt_of_le hg1 hbel.size) hx
      have Hx : Hid (us[k]? = some x) := hx
      have hlen := lp_len u us d k (by have := Hl.out; omega)
      clear hx
      rcases Hc.out with ⟨rfl, hlo⟩ | ⟨rfl, hhi⟩
      · have Hlo : Hid (∀ x ∈ us.take k, x.c0 < u.c0) := hlo
        clear hlo Hc
        by_cases hge : u.c0 ≤ x.c0
        · have dge : decide (u.c0 ≤ x.c0) = true := decide_eq_true hge
          go_wp2_with fail
          go_quiet (fail)
          go_wp2_with (first | (at_builtin; refine wpList_pushU rfl _ _ rfl _ u W1.heap.size _ (lp u us false k) rfl (hS.below (below_drewN _ _)) rfl (by omega) (by exact hbel.size) ?_))
          intro v2 w2 hS2 hb2
          have hbel2 := (hbel.trans ((below_drewN _ _).mono hbel.size)).trans hb2
          have HC : Hid (lc u us true (k + 1)) := .inr ⟨rfl, x, mem_next Hx.out, hge⟩
          have hlen2 : (lp u us false k ++ [u]).length ≤ 10 := by rw [List.length_append]; simp; omega
          clear b0 b1 b2 b3 b4 b5 b6 b7 b8 b9 bl x0 x1 x2 x3 x4 x5 x6 x7 x8 x9 xl hS hb2
          obtain ⟨b0, b1, b2, b3, b4, b5, b6, b7, b8, b9, bl⟩ := HB'.out.later hbel2
          obtain ⟨x0, x1, x2, x3, x4, x5, x6, x7, x8, x9, xl⟩ := (Hat.out.later hg1 hbel2).one (Nat.lt_of_lt_of_le hg1 (hbel2).size) Hx.out
          by_cases heq : u.c0 = x.c0
          · have dne : (x.c0 != u.c0) = false := by simp; omega
            have HE : Hid (lp u us true (k + 1) = lp u us false k ++ [u]) := by show putU u (us.take (k + 1)) = us.take k ++ [u]; rw [take_next Hx.out, putU_eq Hlo.out heq]
            go_wp2_with fail
            go_quiet (fail)
            go_wp2_with fail
            go_roundw
            case rel => exact ⟨k + 1, true, by omega, by go_num, rfl, HC, by rw [HE.out]; exact hS2.below (below_drewN _ _), hbel2.trans ((below_drewN _ _).mono hbel2.size)⟩
            case measure => simp [intOf]; omega
          · have dne : (x.c0 != u.c0) = true := by simp; omega
            have HE : Hid (lp u us true (k + 1) = lp u us false k ++ [u] ++ [x]) := by show putU u (us.take (k + 1)) = us.take k ++ [u] ++ [x]; rw [take_next Hx.out, putU_lt Hlo.out (by omega)]
            go_wp2_with fail
            go_quiet (fail)
            go_wp2_with (first | (at_builtin; refine wpList_pushU rfl _ _ rfl _ x W1.heap.size _ (lp u us false k ++ [u]) rfl (hS2.below (below_drewN _ _)) rfl (by omega) (by exact hbel2.size) ?_))
            intro v3 w3 hS3 hb3
            have hbel3 := (hbel2.trans ((below_drewN _ _).mono hbel2.size)).trans hb3
            go_wp2_with fail
            go_roundw
            case rel => exact ⟨k + 1, true, by omega, by go_num, rfl, HC, by rw [HE.out, List.append_assoc]; exact hS3, hbel3⟩
            case measure => simp [intOf]; omega
        · have dge : decide (u.c0 ≤ x.c0) = false := decide_eq_false hge
          have dne : (x.c0 != u.c0) = true := by simp; omega
          have HE : Hid (lp u us false (k + 1) = lp u us false k ++ [x]) := take_next Hx.out
          have HC : Hid (lc u us false (k + 1)) := .inl ⟨rfl, fun y hy => by
            rw [take_next Hx.out] at hy
            rcases List.mem_append.1 hy with hy | hy
            · exact Hlo.out y hy
            · have : y = x := by simpa using hy
              rw [this]; omega⟩
          go_wp2_with fail
          go_quiet (fail)
          go_wp2_with fail
          go_quiet (fail)
          go_wp2_with (first | (at_builtin; refine wpList_pushU rfl _ _ rfl _ x W1.heap.size _ (lp u us false k) rfl (hS.below (below_drewN _ _)) rfl (by omega) (by exact hbel.size) ?_))
          intro v2 w2 hS2 hb2
          have hbel2 := (hbel.trans ((below_drewN _ _).mono hbel.size)).trans hb2
          go_wp2_with fail
          go_roundw
          case rel => exact ⟨k + 1, false, by omega, by go_num, rfl, HC, by rw [HE.out]; exact hS2, hbel2⟩
          case measure => simp [intOf]; omega
      · obtain ⟨y, hy, hle⟩ := hhi
        have hxy : y.c0 < x.c0 := by
          obtain ⟨i, hi, rfl⟩ := List.getElem_of_mem hy
          have hi' : i < k := by rw [List.length_take] at hi; omega
          have hx' := List.getElem?_eq_some_iff.1 Hx.out
          rw [List.getElem_take, ← hx'.2]
          exact List.pairwise_iff_getElem.1 Hr.out i k (by have := hx'.1; omega) hx'.1 hi'
        have dne : (x.c0 != u.c0) = true := by simp; omega
        have HE : Hid (lp u us true (k + 1) = lp u us true k ++ [x]) := by show putU u (us.take (k + 1)) = putU u (us.take k) ++ [x]; rw [take_next Hx.out, putU_snoc ⟨y, hy, hle⟩]
        have HC : Hid (lc u us true (k + 1)) := .inr ⟨rfl, y, by rw [take_next Hx.out]; exact List.mem_append_left _ hy, hle⟩
        clear hy hle hxy Hc
        go_wp2_with fail
        go_quiet (fail)
        go_wp2_with fail
        go_quiet (fail)
        go_wp2_with (first | (at_builtin; refine wpList_pushU rfl _ _ rfl _ x W1.heap.size _ (lp u us true k) rfl (hS.below (below_drewN _ _)) rfl (by omega) (by exact hbel.size) ?_))
        intro v2 w2 hS2 hb2
        have hbel2 := (hbel.trans ((below_drewN _ _).mono hbel.size)).trans hb2
        go_wp2_with fail
        go_roundw
        case rel => exact ⟨k + 1, true, by omega, by go_num, rfl, HC, by rw [HE.out]; exact hS2, hbel2⟩
        case measure => simp [intOf]; omega
    · obtain rfl : k = m := by omega
      have htk : us.take k = us := List.take_of_length_le (by have := Hl.out; omega)
      have hlen := lp_len u us d k (by have := Hl.out; omega)
      rcases Hc.out with ⟨rfl, hlo⟩ | ⟨rfl, hhi⟩
      · have HE : Hid (putU u us = lp u us false k ++ [u]) := by show _ = us.take k ++ [u]; rw [htk] at hlo ⊢; exact putU_end hlo
        clear Hc hlo htk
        go_wp2_with (first | (at_builtin; refine wpList_pushU rfl _ _ rfl _ u W1.heap.size _ (lp u us false k) rfl (by exact hS) rfl (by omega) (by exact hbel.size) ?_))
        intro v2 w2 hS2 hb2
        have hF : SlU w2 w.heap.size v2 (putU u us) := by rw [HE.out]; exact hS2.mono hwB
        have hbF := k0.trans ((hbel.trans hb2).mono k0.size)
        go_wp2_with fail
        go_ret
        exact ⟨_, rfl, hF, hbF⟩
      · have hF := hS.mono hwB
        have HE : Hid (lp u us true k = putU u us) := by show putU u (us.take k) = _; rw [htk]
        rw [HE.out] at hF
        have hbF := k0.trans (hbel.mono k0.size)
        clear Hc hhi htk hS
        go_wp2_with fail
        go_ret
        exact ⟨_, rfl, hF, hbF⟩
theorem l4Put_c (g off c m : Nat) (us : List K10) (u : K10) (hl : us.length = m) (hm : m ≤ 8) (hr : Rise us) (w : World) (hg : g < w.heap.size) (hat : UAt w g off us) :
    Calls Try.prog 77 #[.slice (some ⟨g, off, none⟩) m c, .agg u.v] w fun e w' => ∃ v, e = .returned v ∧ SlU w' w.heap.size v (putU u us) ∧ Below w.heap.size w w' :=
  l4Put_i (some ⟨g, off, none⟩) c m us u hl hm hr w (.mk hg hat)
end Go.Proofs.Ytibkdkjcncfmgaa
