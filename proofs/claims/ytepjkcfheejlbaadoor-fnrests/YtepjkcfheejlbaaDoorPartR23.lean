/- Texts of mine put together (a claim holds at most 60 files): SameBI, Rest, RestSum, LawRests0. -/
import Derived.Test.YtepjkcfheejlbaaDoorPartR07
import Derived.Test.YtepjkcfheejlbaaDoorPartR04
import Derived.Test.YtepjkcfheejlbaaDoorPartR08
import Derived.Test.YtepjkcfheejlbaaDoorPartR18
import Derived.Test.YtepjkcfheejlbaaDoorPartR22
import Derived.Test.YtepjkcfheejlbaaDoorPartR11
import Derived.Deep.CutRange

/- SameBI -/
/- The contract of SameBoards at two boards that have the same, whose lists may be nil. Condition: the lists are short. -/
section
namespace Go.Proofs.YtepjkcfheejlbaaDoor
open Go.ChangeShapes Go.WideShapes Go.ChangeAt Go.RowKit
open Bd
set_option linter.unusedVariables false

theorem ArgU.drewN' {w : World} {a : Option Addr} {l : List K10} (h : ArgU w a l) (n : Nat) : ArgU (w.drewN n) a l := h.later (below_drewN _ _)
theorem ArgF.drewN' {w : World} {a : Option Addr} {l : List K3} (h : ArgF w a l) (n : Nat) : ArgF (w.drewN n) a l := h.later (below_drewN _ _)
set_option maxHeartbeats 2000000 in
theorem eqU_same (w : World) (a1 a2 : Option Addr) (m c1 c2 : Nat) (l : List K10) (hl : l.length = m) (hm : m ≤ 1000) (h1 : ArgU w a1 l) (h2 : ArgU w a2 l) :
    Calls Tryd.prog 17 #[.slice a1 m c1, .slice a2 m c2] w fun e w' => e = .returned (.bool true) ∧ ∃ nq, w' = w.drewN nq := by
  have H1 : Hid (ArgU w a1 l) := h1
  have H2 : Hid (ArgU w a2 l) := h2
  have Hl : Hid (l.length = m) := hl
  clear h1 h2 hl
  go_enter Tryd.func17, Tryd.ntmps17
  go_wp2
  go_loopw [13] (fun i wr => ∃ k : Nat, k ≤ m ∧ i = .int .i64 k ∧ ∃ nq, wr = w.drewN nq) (fun i _ => m - (intOf i).toNat)
  case atStart => exact ⟨0, Nat.zero_le _, rfl, 0, rfl⟩
  case round =>
    obtain ⟨k, hk, rfl, nq0, rfl⟩ := hrel
    by_cases hlt : k < m
    · have hlt' : (k : Int) < (m : Int) := by omega
      obtain ⟨x, hx⟩ : ∃ x, l[k]? = some x := ⟨_, List.getElem?_eq_getElem (by have := Hl.out; omega)⟩
      obtain ⟨b, off, rfl, hb, hat⟩ := H1.out.at hx
      obtain ⟨b', off', rfl, hb', hat'⟩ := H2.out.at hx
      obtain ⟨a0, a1, a2, a3, a4, a5, a6, a7, a8, a9⟩ := hat.all hx
      obtain ⟨b0, b1, b2, b3, b4, b5, b6, b7, b8, b9⟩ := hat'.all hx
      have hne := neqU x x
      rw [K10.b_self] at hne
      clear hx hat hat'
      go_wp2
      go_quiet (fail)
      go_wp2
      go_roundw
      case rel => first | exact ⟨k + 1, by omega, by go_num, _, rfl⟩ | exact ⟨k + 1, by omega, by go_num, _, drewN_trans _ _ _⟩
      case measure => simp [intOf]; omega
    · obtain rfl : k = m := by omega
      go_wp2
      go_ret
      exact ⟨rfl, nq0, rfl⟩
set_option maxHeartbeats 2000000 in
theorem eqF_same (w : World) (a1 a2 : Option Addr) (m c1 c2 : Nat) (l : List K3) (hl : l.length = m) (hm : m ≤ 1000) (h1 : ArgF w a1 l) (h2 : ArgF w a2 l) :
    Calls Tryd.prog 18 #[.slice a1 m c1, .slice a2 m c2] w fun e w' => e = .returned (.bool true) ∧ ∃ nq, w' = w.drewN nq := by
  have H1 : Hid (ArgF w a1 l) := h1
  have H2 : Hid (ArgF w a2 l) := h2
  have Hl : Hid (l.length = m) := hl
  clear h1 h2 hl
  go_enter Tryd.func18, Tryd.ntmps18
  go_wp2
  go_loopw [13] (fun i wr => ∃ k : Nat, k ≤ m ∧ i = .int .i64 k ∧ ∃ nq, wr = w.drewN nq) (fun i _ => m - (intOf i).toNat)
  case atStart => exact ⟨0, Nat.zero_le _, rfl, 0, rfl⟩
  case round =>
    obtain ⟨k, hk, rfl, nq0, rfl⟩ := hrel
    by_cases hlt : k < m
    · have hlt' : (k : Int) < (m : Int) := by omega
      obtain ⟨x, hx⟩ : ∃ x, l[k]? = some x := ⟨_, List.getElem?_eq_getElem (by have := Hl.out; omega)⟩
      obtain ⟨b, off, rfl, hb, hat⟩ := H1.out.at hx
      obtain ⟨b', off', rfl, hb', hat'⟩ := H2.out.at hx
      obtain ⟨a0, a1, a2⟩ := hat.all hx
      obtain ⟨b0, b1, b2⟩ := hat'.all hx
      have hne := neqF x x
      rw [K3.b_self] at hne
      clear hx hat hat'
      go_wp2
      go_quiet (fail)
      go_wp2
      go_roundw
      case rel => first | exact ⟨k + 1, by omega, by go_num, _, rfl⟩ | exact ⟨k + 1, by omega, by go_num, _, drewN_trans _ _ _⟩
      case measure => simp [intOf]; omega
    · obtain rfl : k = m := by omega
      go_wp2
      go_ret
      exact ⟨rfl, nq0, rfl⟩
set_option maxHeartbeats 4000000 in
theorem sameB_in (w : World) (a1 a1' a2 a2' : Option Addr) (m m' c1 c1' c2 c2' : Nat) (us : List K10) (fs : List K3) (hl : us.length = m) (hl' : fs.length = m') (hm : m ≤ 1000) (hm' : m' ≤ 1000) (u1 : ArgU w a1 us) (f1 : ArgF w a1' fs) (u2 : ArgU w a2 us) (f2 : ArgF w a2' fs) :
    Calls Tryd.prog 8 #[.agg (brdV a1 m c1 a1' m' c1'), .agg (brdV a2 m c2 a2' m' c2')] w fun e w' => e = .returned (.bool true) ∧ Below w.heap.size w w' := by
  have B1 : Below w.heap.size w (w.alloc (.cells (brdV a1 m c1 a1' m' c1') 27)) := (Below.refl _ _).alloc (Nat.le_refl _) _
  obtain ⟨W2, HW2⟩ : ∃ W2, Hid (W2 = (w.alloc (.cells (brdV a1 m c1 a1' m' c1') 27)).alloc (.cells (brdV a2 m c2 a2' m' c2') 27)) := ⟨_, rfl⟩
  have B2 : Below w.heap.size w W2 := by rw [HW2.out]; exact B1.alloc (by rw [size_new]; omega) _
  have r0 : W2.rowIs w.heap.size 27 2 (fun i => if i = 0 then .slice a1 m c1 else .slice a1' m' c1') := by
    rw [HW2.out]
    have r := rowTwo w (.slice a1 m c1) (.slice a1' m' c1') 27
    exact r.of_block (((Below.refl _ _).alloc (Nat.le_refl _) _).block _ r.lt)
  have r1 : W2.rowIs (w.heap.size + 1) 27 2 (fun i => if i = 0 then .slice a2 m c2 else .slice a2' m' c2') := by
    rw [HW2.out]
    have r := rowTwo (w.alloc (.cells (brdV a1 m c1 a1' m' c1') 27)) (.slice a2 m c2) (.slice a2' m' c2') 27
    rw [size_new] at r
    exact r
  have cU := eqU_same W2 a1 a2 m c1 c2 us hl hm (u1.later B2) (u2.later B2)
  have cF := fun nq => eqF_same (W2.drewN nq) a1' a2' m' c1' c2' fs hl' hm' ((f1.later B2).drewN' nq) ((f2.later B2).drewN' nq)
  obtain ⟨p0, p1, pl⟩ := row_brd r0
  obtain ⟨q0, q1, ql⟩ := row_brd r1
  clear u1 f1 u2 f2 B1
  go_enter Tryd.func8, Tryd.ntmps8
  go_upto_region 1 with fail
  rw [← HW2.out]
  go_wp2_with fail
  refine cU.mono ?_
  rintro e w1 ⟨rfl, nq, rfl⟩
  go_wp2_with fail
  refine (cF nq).mono ?_
  rintro e w1 ⟨rfl, nq2, rfl⟩
  go_wp2
  go_ret
  exact ⟨rfl, B2.trans ((below_drewN _ (nq + nq2)).mono B2.size)⟩
end Go.Proofs.YtepjkcfheejlbaaDoor
end

/- Rest -/
/- Contracts of IsResting, the model's and the program's, and the walk of its exact law. Condition: the board's lists lie in memory as they were laid there. -/
section
namespace Go.Proofs.YtepjkcfheejlbaaDoor
open Go.ChangeShapes Go.WideShapes Go.ChangeAt Go.RowKit
open Bd
set_option linter.unusedVariables false

def rests (u : K10) : Bool := u.c6 == 0 || u.c1 == 9
def allRest : List K10 → Bool
  | [] => true
  | u :: l => rests u && allRest l
def rsB (us : List K10) (fs : List K3) : Bool := (bf us fs == 0) && allRest us
theorem allRest_step {l : List K10} {k : Nat} {u : K10} (h : l[k]? = some u) : allRest (l.drop k) = (rests u && allRest (l.drop (k + 1))) := by
  have h' := List.getElem?_eq_some_iff.1 h
  rw [List.drop_eq_getElem_cons h'.1, h'.2]; rfl
theorem rests_cases (u : K10) : ((u.c6 != 0) = false ∧ rests u = true) ∨ ((u.c6 != 0) = true ∧ (u.c1 != 9) = false ∧ rests u = true) ∨ ((u.c6 != 0) = true ∧ (u.c1 != 9) = true ∧ rests u = false) := by
  unfold rests
  by_cases h : u.c6 = 0 <;> by_cases h2 : u.c1 = 9 <;> simp [h, h2]
theorem row_brd' {w : World} {p : Nat} {s f : Value} {t : TypeId} (h : w.rowIs p t 2 (fun i => if i = 0 then s else f)) : BrdAt w p s f :=
  ⟨h.cell (i := 0) (by omega), h.cell (i := 1) (by omega), h.lt⟩
set_option maxRecDepth 20000 in
set_option maxHeartbeats 4000000 in
theorem specIsResting (a : Option Addr) (m c : Nat) (a' : Option Addr) (m' c' : Nat) (us : List K10) (fs : List K3) (hl : us.length = m) (hl' : fs.length = m') (w : World) (hU : ArgU w a us) (hF : ArgF w a' fs) :
    Calls Tryd.prog 7 #[.agg #[.slice a m c, .slice a' m' c']] w fun e w' => e = .returned (.bool (rsB us fs)) ∧ Below w.heap.size w w' := by
  have B1 : Below w.heap.size w (w.alloc (.cells #[.slice a m c, .slice a' m' c'] 27)) := (Below.refl _ _).alloc (Nat.le_refl _) _
  have rb := BrdAt.new w (.slice a m c) (.slice a' m' c') 27
  have cF := l4Fault_c w.heap.size a m c a' m' c' us fs hl hl' _ rb (hU.later B1) (hF.later B1)
  cases hq : bf us fs == 0
  · have hv : rsB us fs = false := by unfold rsB; rw [hq]; rfl
    rw [hv]
    have hq' := bne_of hq
    generalize bf us fs = R at hq hq' cF
    go_enter Tryd.func7, Tryd.ntmps7
    go_wp2_with fail
    refine cF.mono ?_
    rintro e w1 ⟨rfl, k1⟩
    have B2 := B1.trans (k1.mono B1.size)
    go_wp2
    go_ret
    exact ⟨rfl, B2⟩
  · have hz : bf us fs = 0 := by simpa using hq
    obtain ⟨n8, _, _, _, _⟩ := bf_ok hz
    rw [hz] at cF
    obtain ⟨R, HR⟩ : ∃ R : Bool, Hid (R = allRest us) := ⟨_, rfl⟩
    have hv : rsB us fs = R := by unfold rsB; rw [hq, HR.out]; rfl
    rw [hv]
    have Hl : Hid (us.length = m) := hl
    have HU : Hid (ArgU w a us) := hU
    have hm : m ≤ 8 := by omega
    go_enter Tryd.func7, Tryd.ntmps7
    go_wp2_with fail
    refine cF.mono ?_
    rintro e w1 ⟨rfl, k1⟩
    have B2 := B1.trans (k1.mono B1.size)
    have HB : Hid (BrdAt w1 w.heap.size (.slice a m c) (.slice a' m' c')) := rb.later k1
    have HB2 : Hid (Below w.heap.size w w1) := B2
    clear rb k1 B1 B2 cF hU hF hl hl' hz hq hv n8
    go_wp2_with fail
    go_loopw [3] (fun i wr => ∃ k : Nat, k ≤ m ∧ i = .int .i64 k ∧ Hid (R = allRest (us.drop k)) ∧ Below w1.heap.size w1 wr) (fun i _ => m - (intOf i).toNat)
    case atStart => exact ⟨0, Nat.zero_le _, rfl, HR, Below.refl _ _⟩
    case round =>
      obtain ⟨k, hk, rfl, Hk, hbel⟩ := hrel
      have hb3 := HB2.out.trans (hbel.mono HB2.out.size)
      obtain ⟨b0, b1, blt⟩ := HB.out.later hbel
      by_cases hlt : k < m
      · have hlt' : (k : Int) < (m : Int) := by omega
        obtain ⟨x, hx⟩ : ∃ x, us[k]? = some x := ⟨_, List.getElem?_eq_getElem (by have := Hl.out; omega)⟩
        obtain ⟨b, off, rfl, hb, hat⟩ := HU.out.at hx
        obtain ⟨x0, x1, x2, x3, x4, x5, x6, x7, x8, x9, xl⟩ := (hat.later hb hb3).one (Nat.lt_of_lt_of_le hb hb3.size) hx
        have hs := allRest_step hx
        rcases rests_cases x with ⟨e1, e2⟩ | ⟨e1, e1', e2⟩ | ⟨e1, e1', e2⟩
        · have HE : Hid (R = allRest (us.drop (k + 1))) := by show _ = _; rw [Hk.out, hs, e2]; rfl
          clear hx hat hs e2
          go_wp2
          go_roundw
          case rel => exact ⟨k + 1, by omega, by go_num, HE, hbel⟩
          case measure => simp [intOf]; omega
        · have HE : Hid (R = allRest (us.drop (k + 1))) := by show _ = _; rw [Hk.out, hs, e2]; rfl
          clear hx hat hs e2
          go_wp2
          go_roundw
          case rel => exact ⟨k + 1, by omega, by go_num, HE, hbel⟩
          case measure => simp [intOf]; omega
        · have HE : Hid (R = false) := by show _ = _; rw [Hk.out, hs, e2]; rfl
          clear hx hat hs e2
          go_wp2
          go_ret
          exact ⟨by rw [HE.out]; rfl, hb3⟩
      · obtain rfl : k = m := by omega
        have HE : Hid (R = true) := by show _ = _; rw [Hk.out, List.drop_of_length_le (by have := Hl.out; omega)]; rfl
        go_wp2
        go_ret
        exact ⟨by rw [HE.out]; rfl, hb3⟩
set_option maxRecDepth 20000 in
set_option maxHeartbeats 4000000 in
theorem implIsResting (a : Option Addr) (m c : Nat) (a' : Option Addr) (m' c' : Nat) (us : List K10) (fs : List K3) (hl : us.length = m) (hl' : fs.length = m') (w : World) (hU : ArgU w a us) (hF : ArgF w a' fs) :
    Calls Tryd.prog 6 #[.agg #[.slice a m c, .slice a' m' c']] w fun e w' => e = .returned (.bool (rsB us fs)) ∧ Below w.heap.size w w' := by
  have B1 : Below w.heap.size w (w.alloc (.cells #[.slice a m c, .slice a' m' c'] 27)) := (Below.refl _ _).alloc (Nat.le_refl _) _
  have rb := BrdAt.new w (.slice a m c) (.slice a' m' c') 27
  have cF := implBoardFault a m c a' m' c' us fs hl hl' _ (hU.later B1) (hF.later B1)
  cases hq : bf us fs == 0
  · have hv : rsB us fs = false := by unfold rsB; rw [hq]; rfl
    rw [hv]
    have hq' := bne_of hq
    generalize bf us fs = R at hq hq' cF
    go_enter Tryd.func6, Tryd.ntmps6
    go_wp2_with fail
    refine cF.mono ?_
    rintro e w1 ⟨rfl, k1⟩
    have B2 := B1.trans (k1.mono B1.size)
    go_wp2
    go_ret
    exact ⟨rfl, B2⟩
  · have hz : bf us fs = 0 := by simpa using hq
    obtain ⟨n8, _, _, _, _⟩ := bf_ok hz
    rw [hz] at cF
    obtain ⟨R, HR⟩ : ∃ R : Bool, Hid (R = allRest us) := ⟨_, rfl⟩
    have hv : rsB us fs = R := by unfold rsB; rw [hq, HR.out]; rfl
    rw [hv]
    have Hl : Hid (us.length = m) := hl
    have HU : Hid (ArgU w a us) := hU
    have hm : m ≤ 8 := by omega
    go_enter Tryd.func6, Tryd.ntmps6
    go_wp2_with fail
    refine cF.mono ?_
    rintro e w1 ⟨rfl, k1⟩
    have B2 := B1.trans (k1.mono B1.size)
    obtain ⟨b0, b1, blt⟩ := rb.later k1
    have HB2 : Hid (Below w.heap.size w w1) := B2
    clear rb k1 B1 B2 cF hU hF hl hl' hz hq hv n8
    go_wp2_with fail
    go_loopw [11] (fun i wr => ∃ k : Nat, k ≤ m ∧ i = .int .i64 k ∧ Hid (R = allRest (us.drop k)) ∧ Below w1.heap.size w1 wr) (fun i _ => m - (intOf i).toNat)
    case atStart => exact ⟨0, Nat.zero_le _, rfl, HR, Below.refl _ _⟩
    case round =>
      obtain ⟨k, hk, rfl, Hk, hbel⟩ := hrel
      have hb3 := HB2.out.trans (hbel.mono HB2.out.size)
      by_cases hlt : k < m
      · have hlt' : (k : Int) < (m : Int) := by omega
        obtain ⟨x, hx⟩ : ∃ x, us[k]? = some x := ⟨_, List.getElem?_eq_getElem (by have := Hl.out; omega)⟩
        obtain ⟨b, off, rfl, hb, hat⟩ := HU.out.at hx
        obtain ⟨x0, x1, x2, x3, x4, x5, x6, x7, x8, x9, xl⟩ := (hat.later hb hb3).one (Nat.lt_of_lt_of_le hb hb3.size) hx
        have hs := allRest_step hx
        have hb4 := hbel.trans (((Below.refl _ _).alloc (Nat.le_refl _) (.cells x.v 37)).mono hbel.size)
        have hb5 := hb3.trans (((Below.refl _ _).alloc (Nat.le_refl _) (.cells x.v 37)).mono hb3.size)
        rcases rests_cases x with ⟨e1, e2⟩ | ⟨e1, e1', e2⟩ | ⟨e1, e1', e2⟩
        · have HE : Hid (R = allRest (us.drop (k + 1))) := by show _ = _; rw [Hk.out, hs, e2]; rfl
          clear hx hat hs e2
          go_wp2
          go_roundw
          case rel => exact ⟨k + 1, by omega, by go_num, HE, hb4⟩
          case measure => simp [intOf]; omega
        · have HE : Hid (R = allRest (us.drop (k + 1))) := by show _ = _; rw [Hk.out, hs, e2]; rfl
          clear hx hat hs e2
          go_wp2
          go_roundw
          case rel => exact ⟨k + 1, by omega, by go_num, HE, hb4⟩
          case measure => simp [intOf]; omega
        · have HE : Hid (R = false) := by show _ = _; rw [Hk.out, hs, e2]; rfl
          clear hx hat hs e2
          go_wp2
          go_ret
          exact ⟨by rw [HE.out]; rfl, hb5⟩
      · obtain rfl : k = m := by omega
        have HE : Hid (R = true) := by show _ = _; rw [Hk.out, List.drop_of_length_le (by have := Hl.out; omega)]; rfl
        go_wp2
        go_ret
        exact ⟨by rw [HE.out]; rfl, hb3⟩
end Go.Proofs.YtepjkcfheejlbaaDoor
end

/- RestSum -/
/- Plain facts of chapter 5: where all rest nothing turns; who is only told to go comes there and rests. No condition. -/
section
namespace Go.Proofs.YtepjkcfheejlbaaDoor
open Bd
set_option linter.unusedVariables false

theorem allRest_mem {l : List K10} (h : allRest l = true) {u : K10} (hu : u ∈ l) : rests u = true := by
  induction l with
  | nil => cases hu
  | cons x l ih =>
    have h' : (rests x && allRest l) = true := h
    rw [Bool.and_eq_true] at h'
    rcases List.mem_cons.1 hu with rfl | hu
    · exact h'.1
    · exact ih h'.2 hu
theorem tk1_rests {us : List K10} {fs : List K3} {u : K10} {room : Int} (h : rests u = true) : tk1 us fs u room = ⟨us, fs, 0, 0⟩ := by
  unfold rests at h
  by_cases h9 : u.c1 = 9
  · exact tk1_nobody h9
  · have h6 : u.c6 = 0 := by
      rw [Bool.or_eq_true] at h
      rcases h with a | a
      · simpa using a
      · exact absurd (by simpa using a) h9
    unfold tk1
    rw [if_neg h9, if_neg (by omega), if_neg (by omega), if_neg (by omega)]
theorem rest_step {s : TS} (h : allRest s.us = true) (i : Int) : tkS s i = s := by
  unfold tkS
  cases hf : findU s.us i with
  | none => rfl
  | some u =>
    dsimp only
    rw [tk1_rests (allRest_mem h (find_mem' hf))]
    simp only [Int.neg_zero, addAt_zero, Int.add_zero]
theorem rest_list {s : TS} (h : allRest s.us = true) (ids : List Int) : tkL s ids = s := by
  unfold tkL
  induction ids with
  | nil => rfl
  | cons i l ih => rw [List.foldl_cons, rest_step h]; exact ih
theorem rest_ticks {s : TS} (h : allRest s.us = true) (n : Nat) : tkN n s = s := by
  induction n with
  | zero => rfl
  | succ n ih =>
    show tkN n (tkB s) = s
    have e : tkB s = s := rest_list h _
    rw [e]; exact ih
def mvU (u : K10) : K10 := if at2 u.c2 u.c3 u.c7 u.c8 = true then idle u else goTo u u.c7 u.c8
theorem mv_tick {s : TS} {u : K10} (hs : s.us = [u]) (h9 : u.c1 ≠ 9) (h6 : u.c6 = 1) : tkB s = ⟨[mvU u], s.fs, s.rm, s.gn, s.lost⟩ := by
  have hf : findU [u] u.c0 = some u := by simp [findU]
  have put : ∀ v : K10, v.c0 = u.c0 → putU v [u] = [v] := fun v hv => by
    show (if v.c0 < u.c0 then _ else if v.c0 = u.c0 then _ else _) = _
    rw [if_neg (by omega), if_pos hv]
  have e : ∀ room, tk1 [u] s.fs u room = ⟨[mvU u], s.fs, 0, 0⟩ := fun room => by
    unfold tk1 tkMove mvU
    rw [if_neg h9, if_pos h6]
    split
    · rw [put (idle u) rfl]
    · rw [put (goTo u u.c7 u.c8) rfl]
  unfold tkB tkL
  rw [hs]
  show tkS s u.c0 = _
  unfold tkS
  rw [hs, hf]
  dsimp only
  rw [e]
  simp only [Int.neg_zero, addAt_zero, Int.add_zero]
theorem go_there (n : Nat) : ∀ (u : K10) (s : TS), s.us = [u] → u.c1 ≠ 9 → u.c6 = 1 → Nums.mx (Nums.gap u.c2 u.c7) (Nums.gap u.c3 u.c8) = (n : Int) → ∃ v, (tkN (n + 1) s).us = [v] ∧ (tkN (n + 1) s).fs = s.fs ∧ v.c0 = u.c0 ∧ v.c2 = u.c7 ∧ v.c3 = u.c8 ∧ v.c6 = 0 := by
  induction n with
  | zero =>
    intro u s hs h9 h6 hm
    have e2 : u.c2 = u.c7 ∧ u.c3 = u.c8 := by
      unfold Nums.mx Nums.gap at hm
      constructor <;> (repeat' split at hm) <;> omega
    have ha : at2 u.c2 u.c3 u.c7 u.c8 = true := by unfold at2; rw [e2.1, e2.2]; simp
    have em : mvU u = idle u := by unfold mvU; rw [if_pos ha]
    refine ⟨idle u, ?_, ?_, rfl, e2.1, e2.2, rfl⟩
    · show (tkB s).us = _; rw [mv_tick hs h9 h6, em]
    · show (tkB s).fs = _; rw [mv_tick hs h9 h6]
  | succ n ih =>
    intro u s hs h9 h6 hm
    have ha : ¬ (at2 u.c2 u.c3 u.c7 u.c8 = true) := by
      intro h
      unfold at2 at h
      rw [Bool.and_eq_true] at h
      have a : u.c2 = u.c7 := by simpa using h.1
      have b : u.c3 = u.c8 := by simpa using h.2
      unfold Nums.mx Nums.gap at hm
      rw [a, b] at hm
      (repeat' split at hm) <;> omega
    have em : mvU u = goTo u u.c7 u.c8 := by unfold mvU; rw [if_neg ha]
    have hn : Nums.mx (Nums.gap (Nums.near u.c2 u.c7) u.c7) (Nums.gap (Nums.near u.c3 u.c8) u.c8) = (n : Int) := by
      unfold Nums.mx Nums.gap Nums.near at *
      repeat' split at hm
      all_goals (repeat' split)
      all_goals omega
    obtain ⟨v, h1, h2, h3, h4, h5, h7⟩ := ih (goTo u u.c7 u.c8) (tkB s) (by rw [mv_tick hs h9 h6, em]) h9 h6 hn
    refine ⟨v, h1, ?_, h3, h4, h5, h7⟩
    show (tkN (n + 1) (tkB s)).fs = s.fs
    rw [h2, mv_tick hs h9 h6]
end Go.Proofs.YtepjkcfheejlbaaDoor
end

/- LawRests0 -/
/- What the walk of the law FnRests wants: lists by name, the draw of IsResting. Condition: the code has at most 1048576 bytes, which can be read. -/
section
namespace Go.Proofs.YtepjkcfheejlbaaDoor
open Go.ChangeShapes Go.WideShapes Go.ChangeAt Go.RowKit
open Bd
set_option linter.unusedVariables false

theorem SlU.nm {w : World} {base : Nat} {v : Value} {l : List K10} (h : SlU w base v l) : ∃ p c m, v = .slice p m c ∧ Hid (l.length = m) ∧ InU w p m c l := by
  obtain ⟨p, c, e, i⟩ := h.in
  exact ⟨p, c, _, e, rfl, i⟩
theorem SlF.nm {w : World} {base : Nat} {v : Value} {l : List K3} (h : SlF w base v l) : ∃ p c m, v = .slice p m c ∧ Hid (l.length = m) ∧ InF w p m c l := by
  obtain ⟨p, c, e, i⟩ := h.in
  exact ⟨p, c, _, e, rfl, i⟩
theorem RIs.nm {w : World} {base : Nat} {s : TS} {g v f : Value} (h : RIs w base (TR.of s) g v f) (tg : TG s) : ∃ gq cq p c m p' c' m', g = .slice (some ⟨gq, 0, none⟩) 4 cq ∧ v = .slice p m c ∧ f = .slice p' m' c' ∧ Hid (s.us.length = m) ∧ Hid (s.fs.length = m') ∧ Lst w gq cq s.gn ∧ InU w p m c s.us ∧ InF w p' m' c' s.fs := by
  rcases h.g.cases with ⟨h0, _⟩ | ⟨_, qv, cv, hq, _, Lv⟩
  · have := tg.gl; have e0 : s.gn = [] := h0; rw [e0] at this; cases this
  · obtain ⟨p, c, m, hv, Hm, U⟩ := h.u.nm
    obtain ⟨p', c', m', hf, Hm', F⟩ := h.f.nm
    have e4 : (TR.of s).g.length = 4 := tg.gl
    rw [e4] at hq
    exact ⟨qv, cv, p, c, m, p', c', m', hq, hv, hf, Hm, Hm', Lv, U, F⟩
theorem InU.arg' {w w' : World} {p : Option Addr} {m c : Nat} {l : List K10} (h : InU w p m c l) (hb : Below w.heap.size w w') : ArgU w' p l := (h.later hb).arg
theorem InF.arg' {w w' : World} {p : Option Addr} {m c : Nat} {l : List K3} (h : InF w p m c l) (hb : Below w.heap.size w w') : ArgF w' p l := (h.later hb).arg
theorem iat4' {w : World} {g : Nat} {a b c d : Int} {t : TypeId} (h : Blk w g #[.int .i64 a, .int .i64 b, .int .i64 c, .int .i64 d] t) : IAt w g 0 [a, b, c, d] := by
  intro i x hi
  rw [Nat.zero_add]
  rcases i with _ | _ | _ | _ | i
  · simp at hi; subst hi; exact h.cell rfl
  · simp at hi; subst hi; exact h.cell rfl
  · simp at hi; subst hi; exact h.cell rfl
  · simp at hi; subst hi; exact h.cell rfl
  · simp at hi
set_option maxRecDepth 20000 in
set_option maxHeartbeats 4000000 in
theorem drawIsResting_c (w : World) (a : Option Addr) (len cap : Nat) (hb : Bytes w a len w.heap.size) (hl : len ≤ 1048576) :
    Calls Tryd.prog 5 #[.slice a len cap] w fun e w' => ∃ v f us fs, e = .returned (.agg #[v, f]) ∧ SlU w' w.heap.size v us ∧ SlF w' w.heap.size f fs ∧ us.length ≤ 8 ∧ fs.length ≤ 5 ∧ Below w.heap.size w w' := by
  have A0 : Below w.heap.size w (w.alloc Z2) := (Below.refl _ _).alloc (Nat.le_refl _) _
  have R0 := Blk.new w #[.slice none 0 0, .slice none 0 0] 27
  have hb1 := hb.later A0
  obtain ⟨W0, hW⟩ : ∃ W0, Hid (W0 = w.alloc Z2) := ⟨_, rfl⟩
  have hW' : W0 = w.alloc Z2 := hW
  rw [← hW'] at A0 R0 hb1
  clear hW'
  have cx : Cx W0 a len := ⟨hb1, hl⟩
  go_enter Tryd.func5, Tryd.ntmps5
  go_wp2_with fail
  show Calls _ _ _ (w.alloc Z2) _
  have hW' : W0 = w.alloc Z2 := hW
  rw [← hW']
  clear hW hW'
  refine (source W0 a len cap).mono ?_
  rintro e w1 ⟨rfl, st1⟩
  have d1 := Dn.start st1
  go_wp2_with fail
  refine (l4Bent_c cx d1 (by omega)).mono ?_
  rintro e w2 ⟨v, f, us, fs, rfl, S2, F2, hus, hfs, d2⟩
  have R3 := R0.old d2
  have hw1 : w.heap.size ≤ w1.heap.size := Nat.le_of_lt (Nat.lt_of_le_of_lt A0.size d1.lt)
  have B3 := A0.trans (d2.below.mono A0.size)
  have S3 := S2.mono hw1
  have F3 := F2.mono hw1
  clear S2 F2 d2 R0 A0 hb1 st1
  obtain ⟨pv, cv, nv, rfl⟩ := S3.frm
  obtain ⟨pf, cf, nf, rfl⟩ := F3.frm
  have r0 := R3.cell (i := 0) rfl
  have r1 := R3.cell (i := 1) rfl
  have z0 := R3.frozen 0
  have z1 := R3.frozen 1
  have rl := R3.lt
  go_wp2_with fail
  have R4 : Blk ((w2.setCell ⟨w.heap.size, 0, none⟩ (.slice pv nv cv)).setCell ⟨w.heap.size, 1, none⟩ (.slice pf nf cf)) w.heap.size #[.slice pv nv cv, .slice pf nf cf] 27 := (R3.set 0 (.slice pv nv cv)).set 1 (.slice pf nf cf)
  have R3' := R3.set 0 (.slice pv nv cv)
  have S4 := (S3.setB (o := 0) R3 (by decide) (.slice pv nv cv)).setB (o := 1) R3' (by decide) (.slice pf nf cf)
  have F4 := (F3.setB (o := 0) R3 (by decide) (.slice pv nv cv)).setB (o := 1) R3' (by decide) (.slice pf nf cf)
  have B4 := bel_set (bel_set B3 w.heap.size 0 (Nat.le_refl _) (.slice pv nv cv)) w.heap.size 1 (Nat.le_refl _) (.slice pf nf cf)
  exact bodyPost_ret (v := .agg #[.slice pv nv cv, .slice pf nf cf]) (resultB Tryd.results5 R4 ⟨_, _, _, rfl⟩ ⟨_, _, _, rfl⟩ _ rfl) rfl ⟨_, _, us, fs, rfl, S4, F4, hus, hfs, B4⟩
abbrev mvK (x y p q : Int) : K10 := ⟨1, 2, p, q, 5, 0, 1, x, y, 0⟩
theorem mv_gd {x y p q : Int} (x0 : 0 ≤ x) (x1 : x < 12) (y0 : 0 ≤ y) (y1 : y < 12) (p0 : 0 ≤ p) (p1 : p < 12) (q0 : 0 ≤ q) (q1 : q < 12) : Gd [mvK x y p q] [] := by
  refine ⟨by simp, by simp, fun u hu => ?_, (fun f hf => by cases hf), List.pairwise_singleton _ _⟩
  simp at hu
  subst hu
  refine (uf_iff _).2 ⟨?_, ?_, ?_, p0, ?_, q0, ?_, ?_, ?_, ?_, ?_, .inr (.inl ⟨rfl, rfl, x0, ?_, y0, ?_⟩)⟩
  all_goals first | (show (_ : Int) ≤ _; simp only; omega) | (show _ ∨ _; simp only; omega)
theorem rsB_one {v : K10} (h : Gd [v] []) (h6 : v.c6 = 0) : rsB [v] [] = true := by
  unfold rsB
  rw [h.bf]
  show (true && (rests v && true)) = true
  unfold rests
  rw [h6]; rfl
theorem uoU_one {v : K10} (h : Gd [v] []) (h0 : v.c0 = 1) : uoU [v] [] 1 = v := by
  unfold uoU
  rw [h.bf, if_pos (show ((0 : Int) == 0) = true from rfl)]
  have e : findU [v] 1 = some v := by simp [findU, h0]
  rw [e]; rfl
theorem rsB_ok {us : List K10} {fs : List K3} (h : rsB us fs = true) : Bd.bf us fs = 0 ∧ allRest us = true := by
  unfold rsB at h
  rw [Bool.and_eq_true] at h
  exact ⟨by simpa using h.1, h.2⟩
end Go.Proofs.YtepjkcfheejlbaaDoor
end
