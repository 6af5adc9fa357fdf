/- Texts of mine put together (a claim holds at most 60 files): TickFault. -/
import Derived.Test.YtlonmobfjpmokaaGreatDoorPartU39
import Derived.Test.YtlonmobfjpmokaaGreatDoorPartU40
import Derived.Test.YtlonmobfjpmokaaGreatDoorPartU14

/- TickFault -/
/- Contracts of the codes of rooms, the model's and the program's. Condition: the lists lie in memory as they were laid there. -/
section
namespace Go.Proofs.YtlonmobfjpmokaaGreatDoor
open Go.ChangeShapes Go.WideShapes Go.ChangeAt Go.RowKit
open Bd
set_option linter.unusedVariables false

def purs : List Int → Int
  | [] => 0
  | x :: l => if inb x 0 1000000 = true then purs l else 3
def rmF (rm : List Int) : Int := if rm.length = 4 then purs rm else 2
def tkF (us : List K10) (fs : List K3) (rm : List Int) : Int := if (bf us fs == 0) = true then rmF rm else bf us fs
theorem purs_step {l : List Int} {k : Nat} {x : Int} (h : l[k]? = some x) : purs (l.drop k) = if inb x 0 1000000 = true then purs (l.drop (k + 1)) else 3 := by
  have h' := List.getElem?_eq_some_iff.1 h
  rw [List.drop_eq_getElem_cons h'.1, h'.2]; rfl
theorem purs_ok {l : List Int} (h : purs l = 0) : ∀ x ∈ l, 0 ≤ x ∧ x ≤ 1000000 := by
  induction l with
  | nil => intro x hx; cases hx
  | cons a l ih =>
    unfold purs at h
    split at h
    · rename_i q
      intro x hx
      rcases List.mem_cons.1 hx with rfl | hx
      · exact inb_i q
      · exact ih h x hx
    · cases h
theorem purs_bd (l : List Int) : purs l = 0 ∨ purs l = 3 := by
  induction l with
  | nil => exact .inl rfl
  | cons a l ih =>
    unfold purs
    split
    · exact ih
    · exact .inr rfl
theorem tkF_ok {us : List K10} {fs : List K3} {rm : List Int} (h : tkF us fs rm = 0) : bf us fs = 0 ∧ rm.length = 4 ∧ ∀ x ∈ rm, 0 ≤ x ∧ x ≤ 1000000 := by
  unfold tkF at h
  cases hq : bf us fs == 0
  · rw [hq] at h
    simp at h
    rw [h] at hq
    simp at hq
  · rw [hq] at h
    have hz : bf us fs = 0 := by simpa using hq
    unfold rmF at h
    simp only [if_true] at h
    split at h
    · rename_i q
      exact ⟨hz, q, purs_ok h⟩
    · cases h
/- a list of numbers that came in -/
def ArgI (w : World) (a : Option Addr) (l : List Int) : Prop := l = [] ∨ ∃ b off, a = some ⟨b, off, none⟩ ∧ b < w.heap.size ∧ IAt w b off l
theorem ArgI.later {w w' : World} {a : Option Addr} {l : List Int} (h : ArgI w a l) (hb : Below w.heap.size w w') : ArgI w' a l := by
  rcases h with h | ⟨b, off, h1, h2, h3⟩
  · exact .inl h
  · exact .inr ⟨b, off, h1, Nat.lt_of_lt_of_le h2 hb.size, h3.later h2 hb⟩
theorem ArgI.at {w : World} {a : Option Addr} {l : List Int} (h : ArgI w a l) {i : Nat} {x : Int} (hi : l[i]? = some x) : ∃ b off, a = some ⟨b, off, none⟩ ∧ b < w.heap.size ∧ IAt w b off l := by
  rcases h with h | h
  · rw [h] at hi; simp at hi
  · exact h
theorem l1Purse_c (v : Int) (w : World) : Calls Tryz.prog 110 #[.int .i64 v] w fun e w' => e = .returned (.bool (inb v 0 1000000)) ∧ w' = w := by
  have c := fun W => l1In_c v 0 1000000 W
  go_enter Tryz.func110, Tryz.ntmps110
  go_wp2_with fail
  refine (c _).mono ?_
  rintro e w1 ⟨rfl, rfl⟩
  go_wp2_with fail
  go_ret
  exact ⟨rfl, rfl⟩
theorem isPurse_c (v : Int) (w : World) :
    Calls Tryz.prog 70 #[.int .i64 v] w fun e w' => e = .returned (.bool (inb v 0 1000000)) ∧ w' = w := by
  by_cases h1 : 0 ≤ v
  · by_cases h2 : v ≤ 1000000
    · rw [inb_t h1 h2]
      go_enter Tryz.func70, Tryz.ntmps70
      go_wp2
      go_ret
      exact ⟨rfl, rfl⟩
    · rw [inb_f (by omega)]
      have d2 : decide (v ≤ 1000000) = false := decide_eq_false h2
      go_enter Tryz.func70, Tryz.ntmps70
      go_wp2
      go_ret
      exact ⟨rfl, rfl⟩
  · rw [inb_f (by omega)]
    have d2 : decide (0 ≤ v) = false := decide_eq_false h1
    go_enter Tryz.func70, Tryz.ntmps70
    go_wp2
    go_ret
    exact ⟨rfl, rfl⟩
set_option maxRecDepth 20000 in
set_option maxHeartbeats 4000000 in
theorem l5Rooms_c (a : Option Addr) (m c : Nat) (rm : List Int) (hl : rm.length = m) (hmx : (m : Int) ≤ 9223372036854775807) (w : World) (hR : ArgI w a rm) :
    Calls Tryz.prog 80 #[.slice a m c] w fun e w' => e = .returned (.int .i64 (rmF rm)) ∧ w' = w := by
  by_cases h4 : m = 4
  · subst h4
    have e : rmF rm = purs rm := by unfold rmF; rw [if_pos hl]
    obtain ⟨R, HR⟩ : ∃ R, Hid (R = purs rm) := ⟨_, rfl⟩
    rw [e, ← HR.out]
    have Hl : Hid (rm.length = 4) := hl
    have HA : Hid (ArgI w a rm) := hR
    have cP := fun v W => l1Purse_c v W
    clear hl hR e
    go_enter Tryz.func80, Tryz.ntmps80
    go_wp2_with fail
    go_loopw [3] (fun i wr => ∃ k : Nat, k ≤ 4 ∧ i = .int .i64 k ∧ Hid (R = purs (rm.drop k)) ∧ wr = w) (fun i _ => 4 - (intOf i).toNat)
    case atStart => exact ⟨0, by omega, rfl, HR, rfl⟩
    case round =>
      obtain ⟨k, hk, rfl, Hk, rfl⟩ := hrel
      by_cases hlt : k < 4
      · have hlt' : (k : Int) < 4 := by omega
        obtain ⟨x, hx⟩ : ∃ x, rm[k]? = some x := ⟨_, List.getElem?_eq_getElem (by have := Hl.out; omega)⟩
        obtain ⟨b, off, rfl, hb, hat⟩ := HA.out.at hx
        have x0 := hat k x hx
        have hs := purs_step hx
        have cx := fun W => cP x W
        clear cP hx hat
        cases hq : inb x 0 1000000
        · have HE : Hid (R = 3) := by show _ = _; rw [Hk.out, hs, hq]; rfl
          rw [hq] at cx
          clear hs hq
          go_wp2_with (first | (go_at_call 110; refine (cx _).mono ?_; rintro e w1 ⟨rfl, rfl⟩))
          go_ret
          exact ⟨by rw [HE.out]; rfl, rfl⟩
        · have HE : Hid (R = purs (rm.drop (k + 1))) := by show _ = _; rw [Hk.out, hs, hq]; rfl
          rw [hq] at cx
          clear hs hq
          go_wp2_with (first | (go_at_call 110; refine (cx _).mono ?_; rintro e w1 ⟨rfl, rfl⟩))
          go_roundw
          case rel => exact ⟨k + 1, by omega, by go_num, HE, trivial⟩
          case measure => simp [intOf]; omega
      · obtain rfl : k = 4 := by omega
        have HE : Hid (R = 0) := by show _ = _; rw [Hk.out, List.drop_of_length_le (by have := Hl.out; omega)]; rfl
        go_wp2_with fail
        go_ret
        exact ⟨by rw [HE.out]; rfl, rfl⟩
  · have e : rmF rm = 2 := by unfold rmF; rw [if_neg (by omega)]
    rw [e]
    have hd : ((m : Int) != 4) = true := by simp; omega
    clear hl hR e h4
    go_enter Tryz.func80, Tryz.ntmps80
    go_wp2_with fail
    go_ret
    exact ⟨rfl, rfl⟩
set_option maxRecDepth 20000 in
set_option maxHeartbeats 4000000 in
theorem l5Asked_c (p : Nat) (a : Option Addr) (m c : Nat) (a' : Option Addr) (m' c' : Nat) (ar : Option Addr) (mr cr : Nat) (us : List K10) (fs : List K3) (rm : List Int) (hl : us.length = m) (hl' : fs.length = m') (hr : rm.length = mr) (hmx : (mr : Int) ≤ 9223372036854775807) (w : World) (hB : BrdAt w p (.slice a m c) (.slice a' m' c')) (hU : ArgU w a us) (hF : ArgF w a' fs) (hR : ArgI w ar rm) :
    Calls Tryz.prog 45 #[.pointer (some ⟨p, 0, none⟩), .slice ar mr cr] w fun e w' => e = .returned (.int .i64 (tkF us fs rm)) ∧ Below w.heap.size w w' := by
  have cF := l4Fault_c p a m c a' m' c' us fs hl hl' w hB hU hF
  have cR := fun W h => l5Rooms_c ar mr cr rm hr hmx W h
  have HR : Hid (ArgI w ar rm) := hR
  unfold tkF
  cases hq : bf us fs == 0
  · rw [if_neg (by simp)]
    have hq' := bne_of hq
    generalize bf us fs = R at hq hq' cF
    clear hR hU hF hB hl hl' hr
    go_enter Tryz.func45, Tryz.ntmps45
    go_wp2_with fail
    refine cF.mono ?_
    rintro e w1 ⟨rfl, k1⟩
    go_wp2_with fail
    go_ret
    exact ⟨rfl, k1⟩
  · rw [if_pos rfl]
    have hz : bf us fs = 0 := by simpa using hq
    rw [hz] at cF
    generalize rmF rm = R at cR
    clear hR hU hF hB hl hl' hr hq hz
    go_enter Tryz.func45, Tryz.ntmps45
    go_wp2_with fail
    refine cF.mono ?_
    rintro e w1 ⟨rfl, k1⟩
    go_wp2_with fail
    refine (cR _ (HR.out.later k1)).mono ?_
    rintro e w2 ⟨rfl, rfl⟩
    go_wp2_with fail
    go_ret
    exact ⟨rfl, k1⟩
set_option maxRecDepth 20000 in
set_option maxHeartbeats 4000000 in
theorem tickFault_c (a : Option Addr) (m c : Nat) (a' : Option Addr) (m' c' : Nat) (ar : Option Addr) (mr cr : Nat) (us : List K10) (fs : List K3) (rm : List Int) (hl : us.length = m) (hl' : fs.length = m') (hr : rm.length = mr) (hmx : (mr : Int) ≤ 9223372036854775807) (w : World) (hU : ArgU w a us) (hF : ArgF w a' fs) (hR : ArgI w ar rm) :
    Calls Tryz.prog 39 #[.agg #[.slice a m c, .slice a' m' c'], .slice ar mr cr] w fun e w' => e = .returned (.int .i64 (tkF us fs rm)) ∧ Below w.heap.size w w' := by
  have B1 : Below w.heap.size w (w.alloc (.cells #[.slice a m c, .slice a' m' c'] 27)) := (Below.refl _ _).alloc (Nat.le_refl _) _
  have cF := implBoardFault a m c a' m' c' us fs hl hl' _ (hU.later B1) (hF.later B1)
  have HR : Hid (ArgI w ar rm) := hR
  unfold tkF
  cases hq : bf us fs == 0
  · rw [if_neg (by simp)]
    have hq' := bne_of hq
    generalize bf us fs = R at hq hq' cF
    clear hR hU hF hl hl' hr
    go_enter Tryz.func39, Tryz.ntmps39
    go_wp2_with fail
    refine cF.mono ?_
    rintro e w1 ⟨rfl, k1⟩
    have B2 := B1.trans (k1.mono B1.size)
    go_wp2_with fail
    go_ret
    exact ⟨rfl, B2⟩
  · rw [if_pos rfl]
    have hz : bf us fs = 0 := by simpa using hq
    rw [hz] at cF
    by_cases h4 : mr = 4
    · subst h4
      have e : rmF rm = purs rm := by unfold rmF; rw [if_pos hr]
      obtain ⟨R, HRR⟩ : ∃ R, Hid (R = purs rm) := ⟨_, rfl⟩
      rw [e, ← HRR.out]
      have Hl : Hid (rm.length = 4) := hr
      have cP := fun v W => isPurse_c v W
      clear hR hU hF hl hl' hr hq hz e
      go_enter Tryz.func39, Tryz.ntmps39
      go_wp2_with fail
      refine cF.mono ?_
      rintro e w1 ⟨rfl, k1⟩
      have B2 := B1.trans (k1.mono B1.size)
      have HB2 : Hid (Below w.heap.size w w1) := B2
      clear cF k1 B2 B1
      go_wp2_with fail
      go_loopw [18] (fun i wr => ∃ k : Nat, k ≤ 4 ∧ i = .int .i64 k ∧ Hid (R = purs (rm.drop k)) ∧ wr = w1) (fun i _ => 4 - (intOf i).toNat)
      case atStart => exact ⟨0, by omega, rfl, HRR, rfl⟩
      case round =>
        obtain ⟨k, hk, rfl, Hk, rfl⟩ := hrel
        have hB2 := HB2.out
        by_cases hlt : k < 4
        · have hlt' : (k : Int) < 4 := by omega
          obtain ⟨x, hx⟩ : ∃ x, rm[k]? = some x := ⟨_, List.getElem?_eq_getElem (by have := Hl.out; omega)⟩
          obtain ⟨b, off, rfl, hb, hat⟩ := (HR.out.later HB2.out).at hx
          have x0 := hat k x hx
          have hs := purs_step hx
          have cx := fun W => cP x W
          clear cP hx hat
          cases hq : inb x 0 1000000
          · have HE : Hid (R = 3) := by show _ = _; rw [Hk.out, hs, hq]; rfl
            rw [hq] at cx
            clear hs hq
            go_wp2_with (first | (go_at_call 70; refine (cx _).mono ?_; rintro e w2 ⟨rfl, rfl⟩))
            go_ret
            exact ⟨by rw [HE.out]; rfl, hB2⟩
          · have HE : Hid (R = purs (rm.drop (k + 1))) := by show _ = _; rw [Hk.out, hs, hq]; rfl
            rw [hq] at cx
            clear hs hq
            go_wp2_with (first | (go_at_call 70; refine (cx _).mono ?_; rintro e w2 ⟨rfl, rfl⟩))
            go_roundw
            case rel => exact ⟨k + 1, by omega, by go_num, HE, trivial⟩
            case measure => simp [intOf]; omega
        · obtain rfl : k = 4 := by omega
          have HE : Hid (R = 0) := by show _ = _; rw [Hk.out, List.drop_of_length_le (by have := Hl.out; omega)]; rfl
          go_wp2_with fail
          go_ret
          exact ⟨by rw [HE.out]; rfl, hB2⟩
    · have e : rmF rm = 2 := by unfold rmF; rw [if_neg (by omega)]
      rw [e]
      have hd : ((mr : Int) != 4) = true := by simp; omega
      clear hR hU hF hl hl' hr hq hz e h4
      go_enter Tryz.func39, Tryz.ntmps39
      go_wp2_with fail
      refine cF.mono ?_
      rintro e w1 ⟨rfl, k1⟩
      have B2 := B1.trans (k1.mono B1.size)
      go_wp2_with fail
      go_ret
      exact ⟨rfl, B2⟩
end Go.Proofs.YtlonmobfjpmokaaGreatDoor
end
