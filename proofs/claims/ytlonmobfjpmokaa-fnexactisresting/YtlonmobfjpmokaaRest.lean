/- Contracts of IsResting, the model's and the program's, and the walk of its exact law. Condition: the board's lists lie in memory as they were laid there. -/
import Derived.Test.YtlonmobfjpmokaaExactB1
namespace Go.Proofs.Ytlonmobfjpmokaa
open Go.ChangeShapes Go.WideShapes Go.ChangeAt Go.RowKit
open Bd
set_option linter.unusedVariables false

def rests (u : K10) : Bool := u.c6 == 0 || u.c1 == 9
def allRest : List K10 → Bool
  | [] => true
  | u :: l => rests u && allRest l
def rsB (us : List K10) (fs : List K3) : Bool := (bf us fs == 0) && allRest us
theorem allRest_step {l : List K10} {k : Nat} {u : K10} (h : l[k]? = some u) : allRest (l.drop k) = (rests u && allRest (l.drop (k + 1))) := by
  have h' := List.getElem?_eq_some_iff.1 h
  rw [List.drop_eq_getElem_cons h'.1, h'.2]; rfl
theorem rests_cases (u : K10) : ((u.c6 != 0) = false ∧ rests u = true) ∨ ((u.c6 != 0) = true ∧ (u.c1 != 9) = false ∧ rests u = true) ∨ ((u.c6 != 0) = true ∧ (u.c1 != 9) = true ∧ rests u = false) := by
  unfold rests
  by_cases h : u.c6 = 0 <;> by_cases h2 : u.c1 = 9 <;> simp [h, h2]
theorem row_brd' {w : World} {p : Nat} {s f : Value} {t : TypeId} (h : w.rowIs p t 2 (fun i => if i = 0 then s else f)) : BrdAt w p s f :=
  ⟨h.cell (i := 0) (by omega), h.cell (i := 1) (by omega), h.lt⟩
set_option maxRecDepth 20000 in
set_option maxHeartbeats 4000000 in
theorem specIsResting (a : Option Addr) (m c : Nat) (a' : Option Addr) (m' c' : Nat) (us : List K10) (fs : List K3) (hl : us.length = m) (hl' : fs.length = m') (w : World) (hU : ArgU w a us) (hF : ArgF w a' fs) :
    Calls Try.prog 24 #[.agg #[.slice a m c, .slice a' m' c']] w fun e w' => e = .returned (.bool (rsB us fs)) ∧ Below w.heap.size w w' := by
  have B1 : Below w.heap.size w (w.alloc (.cells #[.slice a m c, .slice a' m' c'] 27)) := (Below.refl _ _).alloc (Nat.le_refl _) _
  have rb := BrdAt.new w (.slice a m c) (.slice a' m' c') 27
  have cF := l4Fault_c w.heap.size a m c a' m' c' us fs hl hl' _ rb (hU.later B1) (hF.later B1)
  cases hq : bf us fs == 0
  · have hv : rsB us fs = false := by unfold rsB; rw [hq]; rfl
    rw [hv]
    have hq' := bne_of hq
    generalize bf us fs = R at hq hq' cF
    go_enter Try.func24, Try.ntmps24
    go_wp2_with fail
    refine cF.mono ?_
    rintro e w1 ⟨rfl, k1⟩
    have B2 := B1.trans (k1.mono B1.size)
    go_wp2
    go_ret
    exact ⟨rfl, B2⟩
  · have hz : bf us fs = 0 := by simpa using hq
    obtain ⟨n8, _, _, _, _⟩ := bf_ok hz
    rw [hz] at cF
    obtain ⟨R, HR⟩ : ∃ R : Bool, Hid (R = allRest us) := ⟨_, rfl⟩
    have hv : rsB us fs = R := by unfold rsB; rw [hq, HR.out]; rfl
    rw [hv]
    have Hl : Hid (us.length = m) := hl
    have HU : Hid (ArgU w a us) := hU
    have hm : m ≤ 8 := by omega
    go_enter Try.func24, Try.ntmps24
    go_wp2_with fail
    refine cF.mono ?_
    rintro e w1 ⟨rfl, k1⟩
    have B2 := B1.trans (k1.mono B1.size)
    have HB : Hid (BrdAt w1 w.heap.size (.slice a m c) (.slice a' m' c')) := rb.later k1
    have HB2 : Hid (Below w.heap.size w w1) := B2
    clear rb k1 B1 B2 cF hU hF hl hl' hz hq hv n8
    go_wp2_with fail
    go_loopw [3] (fun i wr => ∃ k : Nat, k ≤ m ∧ i = .int .i64 k ∧ Hid (R = allRest (us.drop k)) ∧ Below w1.heap.size w1 wr) (fun i _ => m - (intOf i).toNat)
    case atStart => exact ⟨0, Nat.zero_le _, rfl, HR, Below.refl _ _⟩
    case round =>
      obtain ⟨k, hk, rfl, Hk, hbel⟩ := hrel
      have hb3 := HB2.out.trans (hbel.mono HB2.out.size)
      obtain ⟨b0, b1, blt⟩ := HB.out.later hbel
      by_cases hlt : k < m
      · have hlt' : (k : Int) < (m : Int) := by omega
        obtain ⟨x, hx⟩ : ∃ x, us[k]? = some x := ⟨_, List.getElem?_eq_getElem (by have := Hl.out; omega)⟩
        obtain ⟨b, off, rfl, hb, hat⟩ := HU.out.at hx
        obtain ⟨x0, x1, x2, x3, x4, x5, x6, x7, x8, x9, xl⟩ := (hat.later hb hb3).one (Nat.lt_of_lt_of_le hb hb3.size) hx
        have hs := allRest_step hx
        rcases rests_cases x with ⟨e1, e2⟩ | ⟨e1, e1', e2⟩ | ⟨e1, e1', e2⟩
        · have HE : Hid (R = allRest (us.drop (k + 1))) := by show _ = _; rw [Hk.out, hs, e2]; rfl
          clear hx hat hs e2
          go_wp2
          go_roundw
          case rel => exact ⟨k + 1, by omega, by go_num, HE, hbel⟩
          case measure => simp [intOf]; omega
        · have HE : Hid (R = allRest (us.drop (k + 1))) := by show _ = _; rw [Hk.out, hs, e2]; rfl
          clear hx hat hs e2
          go_wp2
          go_roundw
          case rel => exact ⟨k + 1, by omega, by go_num, HE, hbel⟩
          case measure => simp [intOf]; omega
        · have HE : Hid (R = false) := by show _ = _; rw [Hk.out, hs, e2]; rfl
          clear hx hat hs e2
          go_wp2
          go_ret
          exact ⟨by rw [HE.out]; rfl, hb3⟩
      · obtain rfl : k = m := by omega
        have HE : Hid (R = true) := by show _ = _; rw [Hk.out, List.drop_of_length_le (by have := Hl.out; omega)]; rfl
        go_wp2
        go_ret
        exact ⟨by rw [HE.out]; rfl, hb3⟩
set_option maxRecDepth 20000 in
set_option maxHeartbeats 4000000 in
theorem implIsResting (a : Option Addr) (m c : Nat) (a' : Option Addr) (m' c' : Nat) (us : List K10) (fs : List K3) (hl : us.length = m) (hl' : fs.length = m') (w : World) (hU : ArgU w a us) (hF : ArgF w a' fs) :
    Calls Try.prog 26 #[.agg #[.slice a m c, .slice a' m' c']] w fun e w' => e = .returned (.bool (rsB us fs)) ∧ Below w.heap.size w w' := by
  have B1 : Below w.heap.size w (w.alloc (.cells #[.slice a m c, .slice a' m' c'] 27)) := (Below.refl _ _).alloc (Nat.le_refl _) _
  have rb := BrdAt.new w (.slice a m c) (.slice a' m' c') 27
  have cF := implBoardFault a m c a' m' c' us fs hl hl' _ (hU.later B1) (hF.later B1)
  cases hq : bf us fs == 0
  · have hv : rsB us fs = false := by unfold rsB; rw [hq]; rfl
    rw [hv]
    have hq' := bne_of hq
    generalize bf us fs = R at hq hq' cF
    go_enter Try.func26, Try.ntmps26
    go_wp2_with fail
    refine cF.mono ?_
    rintro e w1 ⟨rfl, k1⟩
    have B2 := B1.trans (k1.mono B1.size)
    go_wp2
    go_ret
    exact ⟨rfl, B2⟩
  · have hz : bf us fs = 0 := by simpa using hq
    obtain ⟨n8, _, _, _, _⟩ := bf_ok hz
    rw [hz] at cF
    obtain ⟨R, HR⟩ : ∃ R : Bool, Hid (R = allRest us) := ⟨_, rfl⟩
    have hv : rsB us fs = R := by unfold rsB; rw [hq, HR.out]; rfl
    rw [hv]
    have Hl : Hid (us.length = m) := hl
    have HU : Hid (ArgU w a us) := hU
    have hm : m ≤ 8 := by omega
    go_enter Try.func26, Try.ntmps26
    go_wp2_with fail
    refine cF.mono ?_
    rintro e w1 ⟨rfl, k1⟩
    have B2 := B1.trans (k1.mono B1.size)
    obtain ⟨b0, b1, blt⟩ := rb.later k1
    have HB2 : Hid (Below w.heap.size w w1) := B2
    clear rb k1 B1 B2 cF hU hF hl hl' hz hq hv n8
    go_wp2_with fail
    go_loopw [11] (fun i wr => ∃ k : Nat, k ≤ m ∧ i = .int .i64 k ∧ Hid (R = allRest (us.drop k)) ∧ Below w1.heap.size w1 wr) (fun i _ => m - (intOf i).toNat)
    case atStart => exact ⟨0, Nat.zero_le _, rfl, HR, Below.refl _ _⟩
    case round =>
      obtain ⟨k, hk, rfl, Hk, hbel⟩ := hrel
      have hb3 := HB2.out.trans (hbel.mono HB2.out.size)
      by_cases hlt : k < m
      · have hlt' : (k : Int) < (m : Int) := by omega
        obtain ⟨x, hx⟩ : ∃ x, us[k]? = some x := ⟨_, List.getElem?_eq_getElem (by have := Hl.out; omega)⟩
        obtain ⟨b, off, rfl, hb, hat⟩ := HU.out.at hx
        obtain ⟨x0, x1, x2, x3, x4, x5, x6, x7, x8, x9, xl⟩ := (hat.later hb hb3).one (Nat.lt_of_lt_of_le hb hb3.size) hx
        have hs := allRest_step hx
        have hb4 := hbel.trans (((Below.refl _ _).alloc (Nat.le_refl _) (.cells x.v 29)).mono hbel.size)
        have hb5 := hb3.trans (((Below.refl _ _).alloc (Nat.le_refl _) (.cells x.v 29)).mono hb3.size)
        rcases rests_cases x with ⟨e1, e2⟩ | ⟨e1, e1', e2⟩ | ⟨e1, e1', e2⟩
        · have HE : Hid (R = allRest (us.drop (k + 1))) := by show _ = _; rw [Hk.out, hs, e2]; rfl
          clear hx hat hs e2
          go_wp2
          go_roundw
          case rel => exact ⟨k + 1, by omega, by go_num, HE, hb4⟩
          case measure => simp [intOf]; omega
        · have HE : Hid (R = allRest (us.drop (k + 1))) := by show _ = _; rw [Hk.out, hs, e2]; rfl
          clear hx hat hs e2
          go_wp2
          go_roundw
          case rel => exact ⟨k + 1, by omega, by go_num, HE, hb4⟩
          case measure => simp [intOf]; omega
        · have HE : Hid (R = false) := by show _ = _; rw [Hk.out, hs, e2]; rfl
          clear hx hat hs e2
          go_wp2
          go_ret
          exact ⟨by rw [HE.out]; rfl, hb5⟩
      · obtain rfl : k = m := by omega
        have HE : Hid (R = true) := by show _ = _; rw [Hk.out, List.drop_of_length_le (by have := Hl.out; omega)]; rfl
        go_wp2
        go_ret
        exact ⟨by rw [HE.out]; rfl, hb3⟩
end Go.Proofs.Ytlonmobfjpmokaa
