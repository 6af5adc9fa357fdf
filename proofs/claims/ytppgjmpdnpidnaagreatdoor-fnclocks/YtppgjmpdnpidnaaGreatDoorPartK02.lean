/- Texts of mine put together (a claim holds at most 60 files): WfImpl, WfImpl2. -/
import Derived.Test.YtppgjmpdnpidnaaGreatDoorPartK01

/- WfImpl -/
/- Contracts of the program's parts of WorldFault: factions. Condition: the list lies in memory as it was laid there. -/
section
namespace Go.Proofs.YtppgjmpdnpidnaaGreatDoor
open Go.ChangeShapes Go.WideShapes Go.ChangeAt Go.RowKit
open Bd
set_option linter.unusedVariables false

theorem isPurse_w (v : Int) (w : World) :
    Calls Tryz.prog 54 #[.int .i64 v] w fun e w' => e = .returned (.bool (inb v 0 1000000)) ∧ w' = w := by
  by_cases h1 : 0 ≤ v
  · by_cases h2 : v ≤ 1000000
    · rw [inb_t h1 h2]
      go_enter Tryz.func54, Tryz.ntmps54
      go_wp2
      go_ret
      exact ⟨rfl, rfl⟩
    · rw [inb_f (by omega)]
      have d2 : decide (v ≤ 1000000) = false := decide_eq_false h2
      go_enter Tryz.func54, Tryz.ntmps54
      go_wp2
      go_ret
      exact ⟨rfl, rfl⟩
  · rw [inb_f (by omega)]
    have d2 : decide (0 ≤ v) = false := decide_eq_false h1
    go_enter Tryz.func54, Tryz.ntmps54
    go_wp2
    go_ret
    exact ⟨rfl, rfl⟩
theorem isClient_w (v : Int) (w : World) :
    Calls Tryz.prog 56 #[.int .i64 v] w fun e w' => e = .returned (.bool (inb v 0 5)) ∧ w' = w := by
  by_cases h1 : 0 ≤ v
  · by_cases h2 : v ≤ 5
    · rw [inb_t h1 h2]
      go_enter Tryz.func56, Tryz.ntmps56
      go_wp2
      go_ret
      exact ⟨rfl, rfl⟩
    · rw [inb_f (by omega)]
      have d2 : decide (v ≤ 5) = false := decide_eq_false h2
      go_enter Tryz.func56, Tryz.ntmps56
      go_wp2
      go_ret
      exact ⟨rfl, rfl⟩
  · rw [inb_f (by omega)]
    have d2 : decide (0 ≤ v) = false := decide_eq_false h1
    go_enter Tryz.func56, Tryz.ntmps56
    go_wp2
    go_ret
    exact ⟨rfl, rfl⟩
theorem isSpent_w (v : Int) (w : World) :
    Calls Tryz.prog 19 #[.int .i64 v] w fun e w' => e = .returned (.bool (inb v 0 100000000)) ∧ w' = w := by
  by_cases h1 : 0 ≤ v
  · by_cases h2 : v ≤ 100000000
    · rw [inb_t h1 h2]
      go_enter Tryz.func19, Tryz.ntmps19
      go_wp2
      go_ret
      exact ⟨rfl, rfl⟩
    · rw [inb_f (by omega)]
      have d2 : decide (v ≤ 100000000) = false := decide_eq_false h2
      go_enter Tryz.func19, Tryz.ntmps19
      go_wp2
      go_ret
      exact ⟨rfl, rfl⟩
  · rw [inb_f (by omega)]
    have d2 : decide (0 ≤ v) = false := decide_eq_false h1
    go_enter Tryz.func19, Tryz.ntmps19
    go_wp2
    go_ret
    exact ⟨rfl, rfl⟩
theorem ArgA.at {w : World} {a : Option Addr} {l : List KA} (h : ArgA w a l) {i : Nat} {x : KA} (hi : l[i]? = some x) : ∃ b off, a = some ⟨b, off, none⟩ ∧ b < w.heap.size ∧ AAt w b off l := by
  rcases h with h | h
  · rw [h] at hi; simp at hi
  · exact h
theorem ArgS.at {w : World} {a : Option Addr} {l : List K4} (h : ArgS w a l) {i : Nat} {x : K4} (hi : l[i]? = some x) : ∃ b off, a = some ⟨b, off, none⟩ ∧ b < w.heap.size ∧ SAt w b off l := by
  rcases h with h | h
  · rw [h] at hi; simp at hi
  · exact h
theorem ArgO.at {w : World} {a : Option Addr} {l : List K2} (h : ArgO w a l) {i : Nat} {x : K2} (hi : l[i]? = some x) : ∃ b off, a = some ⟨b, off, none⟩ ∧ b < w.heap.size ∧ OAt w b off l := by
  rcases h with h | h
  · rw [h] at hi; simp at hi
  · exact h
set_option maxHeartbeats 4000000 in
theorem isAllied_c (a : Option Addr) (m c : Nat) (fa : List KA) (i : Nat) (fi : KA) (hi : fa[i]? = some fi) (hl : fa.length = m) (hm : m ≤ 4) (w : World) (hA : ArgA w a fa) :
    Calls Tryz.prog 55 #[.slice a m c, .int .i64 (i : Int)] w fun e w' => e = .returned (.bool (alB hasI fi.c2 i 0 fa)) ∧ Below w.heap.size w w' := by
  obtain ⟨b, off, rfl, hb, hat⟩ := hA.at hi
  have Hat : Hid (AAt w b off fa) := hat
  have Hi : Hid (fa[i]? = some fi) := hi
  have Hl : Hid (fa.length = m) := hl
  have him : i < m := by rw [← hl]; exact (List.getElem?_eq_some_iff.1 hi).1
  have him' : (i : Int) < (m : Int) := by omega
  have hi0 : (0 : Int) ≤ (i : Int) := by omega
  obtain ⟨R, HR⟩ : ∃ R : Bool, Hid (R = alB hasI fi.c2 i 0 fa) := ⟨_, rfl⟩
  rw [← HR.out]
  have HR0 : Hid (R = alB hasI fi.c2 i ((0 : Nat) : Int) (fa.drop 0)) := HR
  clear hat hi hl hA HR
  go_enter Tryz.func55, Tryz.ntmps55
  go_wp2
  go_loopw [9] (fun j wr => ∃ k : Nat, k ≤ m ∧ j = .int .i64 k ∧ Hid (R = alB hasI fi.c2 i (k : Int) (fa.drop k)) ∧ Below w.heap.size w wr) (fun j _ => m - (intOf j).toNat)
  case atStart => exact ⟨0, Nat.zero_le _, rfl, HR0, Below.refl _ _⟩
  case round =>
    obtain ⟨k, hk, rfl, Hk, hbel⟩ := hrel
    by_cases hlt : k < m
    · have hlt' : (k : Int) < (m : Int) := by omega
      obtain ⟨x, hx⟩ : ∃ x, fa[k]? = some x := ⟨_, List.getElem?_eq_getElem (by have := Hl.out; omega)⟩
      obtain ⟨x0, x1, x2, xl⟩ := (Hat.out.later hb hbel).one (Nat.lt_of_lt_of_le hb hbel.size) hx
      obtain ⟨y0, y1, y2, yl⟩ := (Hat.out.later hb hbel).one (Nat.lt_of_lt_of_le hb hbel.size) Hi.out
      have hb4 := hbel.alloc hbel.size (.cells x.v 61)
      have q1 := fun w => hasBit_c fi.c2 (k : Int) (by omega) (by omega) w
      have q2 := fun w => hasBit_c x.c2 (i : Int) (by omega) (by omega) w
      have HS : Hid (R = ((!(hasI fi.c2 k) || (!((k : Int) == (i : Int)) && hasI x.c2 i)) && alB hasI fi.c2 i ((k + 1 : Nat) : Int) (fa.drop (k + 1)))) := by show _ = _; rw [Hk.out, alB_step hx]
      clear hx
      cases e1 : hasI fi.c2 k
      · rw [e1] at q1
        have HE : Hid (R = alB hasI fi.c2 i ((k + 1 : Nat) : Int) (fa.drop (k + 1))) := by show _ = _; rw [HS.out, e1]; rfl
        go_wp2_with (first | (go_at_call 59; refine (q1 _).mono ?_; rintro e w1 ⟨rfl, hw1⟩; obtain rfl := hw1.symm))
        go_roundw
        case rel => exact ⟨k + 1, by omega, by go_num, HE, hb4⟩
        case measure => simp [intOf]; omega
      · rw [e1] at q1
        cases e2 : ((k : Int) == (i : Int))
        · cases e3 : hasI x.c2 i
          · rw [e3] at q2
            have HE : Hid (R = false) := by show _ = _; rw [HS.out, e1, e2, e3]; rfl
            go_wp2_with (first | (go_at_call 59; with_reducible refine (q1 _).mono ?_; rintro e w1 ⟨rfl, hw1⟩; obtain rfl := hw1.symm) | (go_at_call 59; with_reducible refine (q2 _).mono ?_; rintro e w1 ⟨rfl, hw1⟩; obtain rfl := hw1.symm))
            go_ret
            exact ⟨by rw [HE.out]; rfl, hb4⟩
          · rw [e3] at q2
            have HE : Hid (R = alB hasI fi.c2 i ((k + 1 : Nat) : Int) (fa.drop (k + 1))) := by show _ = _; rw [HS.out, e1, e2, e3]; rfl
            go_wp2_with (first | (go_at_call 59; with_reducible refine (q1 _).mono ?_; rintro e w1 ⟨rfl, hw1⟩; obtain rfl := hw1.symm) | (go_at_call 59; with_reducible refine (q2 _).mono ?_; rintro e w1 ⟨rfl, hw1⟩; obtain rfl := hw1.symm))
            go_roundw
            case rel => exact ⟨k + 1, by omega, by go_num, HE, hb4⟩
            case measure => simp [intOf]; omega
        · have HE : Hid (R = false) := by show _ = _; rw [HS.out, e1, e2]; rfl
          go_wp2_with (first | (go_at_call 59; with_reducible refine (q1 _).mono ?_; rintro e w1 ⟨rfl, hw1⟩; obtain rfl := hw1.symm))
          go_ret
          exact ⟨by rw [HE.out]; rfl, hb4⟩
    · obtain rfl : m = k := by omega
      have HE : Hid (R = true) := by show _ = _; rw [Hk.out, List.drop_of_length_le (by have := Hl.out; omega)]; rfl
      go_wp2
      go_ret
      exact ⟨by rw [HE.out]; rfl, hbel⟩
theorem faC_cases (h : Int → Int → Bool) (fa : List KA) (i : Int) (f : KA) : (inb f.c0 0 1000000 = false ∧ faC h fa i f = 3) ∨ (inb f.c0 0 1000000 = true ∧ f.c2 < 0 ∧ faC h fa i f = 3) ∨ (inb f.c0 0 1000000 = true ∧ 0 ≤ f.c2 ∧ 15 < f.c2 ∧ faC h fa i f = 3) ∨
    (inb f.c0 0 1000000 = true ∧ 0 ≤ f.c2 ∧ f.c2 ≤ 15 ∧ f.c1 = true ∧ (f.c2 == 0) = false ∧ faC h fa i f = 1) ∨ (inb f.c0 0 1000000 = true ∧ 0 ≤ f.c2 ∧ f.c2 ≤ 15 ∧ f.c1 = true ∧ (f.c2 == 0) = true ∧ faC h fa i f = if alB h f.c2 i 0 fa = false then 1 else 0) ∨
    (inb f.c0 0 1000000 = true ∧ 0 ≤ f.c2 ∧ f.c2 ≤ 15 ∧ f.c1 = false ∧ faC h fa i f = if alB h f.c2 i 0 fa = false then 1 else 0) := by
  unfold faC faR faG
  cases e0 : inb f.c0 0 1000000
  · exact .inl ⟨rfl, by simp⟩
  by_cases h1 : f.c2 < 0
  · exact .inr (.inl ⟨rfl, h1, by rw [inb_f (v := f.c2) (by omega)]; simp⟩)
  by_cases h2 : 15 < f.c2
  · exact .inr (.inr (.inl ⟨rfl, by omega, h2, by rw [inb_f (v := f.c2) (by omega)]; simp⟩))
  have e2 : inb f.c2 0 15 = true := inb_t (by omega) (by omega)
  cases e1 : f.c1
  · exact .inr (.inr (.inr (.inr (.inr ⟨rfl, by omega, by omega, rfl, by rw [e2]; simp⟩))))
  · cases e3 : f.c2 == 0
    · exact .inr (.inr (.inr (.inl ⟨rfl, by omega, by omega, rfl, rfl, by rw [e2]; simp [bne, e3]⟩)))
    · exact .inr (.inr (.inr (.inr (.inl ⟨rfl, by omega, by omega, rfl, rfl, by rw [e2]; simp [bne, e3]⟩))))
set_option maxHeartbeats 4000000 in
theorem factionsFault_c (a : Option Addr) (m c : Nat) (fa : List KA) (hl : fa.length = m) (hm : m ≤ 4) (w : World) (hA : ArgA w a fa) :
    Calls Tryz.prog 28 #[.slice a m c] w fun e w' => e = .returned (.int .i64 (faF hasI fa 0 fa)) ∧ Below w.heap.size w w' := by
  have HA : Hid (ArgA w a fa) := hA
  have Hl : Hid (fa.length = m) := hl
  obtain ⟨R, HR⟩ : ∃ R : Int, Hid (R = faF hasI fa 0 fa) := ⟨_, rfl⟩
  rw [← HR.out]
  have HR0 : Hid (R = faF hasI fa ((0 : Nat) : Int) (fa.drop 0)) := HR
  clear hA hl HR
  go_enter Tryz.func28, Tryz.ntmps28
  go_wp2
  go_loopw [7] (fun j wr => ∃ k : Nat, k ≤ m ∧ j = .int .i64 k ∧ Hid (R = faF hasI fa (k : Int) (fa.drop k)) ∧ Below w.heap.size w wr) (fun j _ => m - (intOf j).toNat)
  case atStart => exact ⟨0, Nat.zero_le _, rfl, HR0, Below.refl _ _⟩
  case round =>
    obtain ⟨k, hk, rfl, Hk, hbel⟩ := hrel
    by_cases hlt : k < m
    · have hlt' : (k : Int) < (m : Int) := by omega
      obtain ⟨x, hx⟩ : ∃ x, fa[k]? = some x := ⟨_, List.getElem?_eq_getElem (by have := Hl.out; omega)⟩
      obtain ⟨b, off, rfl, hb, hat⟩ := HA.out.at hx
      obtain ⟨x0, x1, x2, xl⟩ := (hat.later hb hbel).one (Nat.lt_of_lt_of_le hb hbel.size) hx
      have qP := fun w => isPurse_w x.c0 w
      have qA := fun W h => isAllied_c (some ⟨b, off, none⟩) m c fa k x hx Hl.out hm W h
      have HS : Hid (R = if (faC hasI fa k x == 0) = false then faC hasI fa k x else faF hasI fa ((k + 1 : Nat) : Int) (fa.drop (k + 1))) := by show _ = _; rw [Hk.out, faF_step hx]
      have hc := faC_cases hasI fa k x
      clear hx hat
      generalize faC hasI fa k x = FC at HS hc
      generalize alB hasI x.c2 k 0 fa = AB at qA hc
      rcases hc with ⟨e0, e⟩ | ⟨e0, e1, e⟩ | ⟨e0, e1, e2, e⟩ | ⟨e0, e1, e2, e3, e4, e⟩ | ⟨e0, e1, e2, e3, e4, e⟩ | ⟨e0, e1, e2, e3, e⟩
      · subst e
        rw [e0] at qP
        have HE : Hid (R = 3) := HS
        go_wp2_with (first | (go_at_call 54; refine (qP _).mono ?_; rintro e w1 ⟨rfl, hw1⟩; obtain rfl := hw1.symm) | (go_at_call 55; refine (qA _ (HA.out.later (hbel.alloc hbel.size _))).mono ?_; rintro e w1 ⟨rfl, kA⟩))
        go_ret
        exact ⟨by rw [HE.out]; rfl, hbel.alloc hbel.size _⟩
      · subst e
        rw [e0] at qP
        have HE : Hid (R = 3) := HS
        go_wp2_with (first | (go_at_call 54; refine (qP _).mono ?_; rintro e w1 ⟨rfl, hw1⟩; obtain rfl := hw1.symm) | (go_at_call 55; refine (qA _ (HA.out.later (hbel.alloc hbel.size _))).mono ?_; rintro e w1 ⟨rfl, kA⟩))
        go_ret
        exact ⟨by rw [HE.out]; rfl, hbel.alloc hbel.size _⟩
      · subst e
        rw [e0] at qP
        have HE : Hid (R = 3) := HS
        have d1 : decide (x.c2 < 0) = false := decide_eq_false (by omega)
        go_wp2_with (first | (go_at_call 54; refine (qP _).mono ?_; rintro e w1 ⟨rfl, hw1⟩; obtain rfl := hw1.symm) | (go_at_call 55; refine (qA _ (HA.out.later (hbel.alloc hbel.size _))).mono ?_; rintro e w1 ⟨rfl, kA⟩))
        go_ret
        exact ⟨by rw [HE.out]; rfl, hbel.alloc hbel.size _⟩
      · subst e
        rw [e0] at qP
        have HE : Hid (R = 1) := HS
        have d1 : decide (x.c2 < 0) = false := decide_eq_false (by omega)
        have d2 : decide (15 < x.c2) = false := decide_eq_false (by omega)
        have d4 : (x.c2 != 0) = true := by simp only [bne, e4]; rfl
        rw [e3] at x1
        go_wp2_with (first | (go_at_call 54; refine (qP _).mono ?_; rintro e w1 ⟨rfl, hw1⟩; obtain rfl := hw1.symm) | (go_at_call 55; refine (qA _ (HA.out.later (hbel.alloc hbel.size _))).mono ?_; rintro e w1 ⟨rfl, kA⟩))
        go_ret
        exact ⟨by rw [HE.out]; rfl, hbel.alloc hbel.size _⟩
      · subst e
        rw [e0] at qP
        have d1 : decide (x.c2 < 0) = false := decide_eq_false (by omega)
        have d2 : decide (15 < x.c2) = false := decide_eq_false (by omega)
        have d4 : (x.c2 != 0) = false := by simp only [bne, e4]; rfl
        rw [e3] at x1
        cases AB
        · have HE : Hid (R = 1) := HS
          go_wp2_with (first | (go_at_call 54; refine (qP _).mono ?_; rintro e w1 ⟨rfl, hw1⟩; obtain rfl := hw1.symm) | (go_at_call 55; refine (qA _ (HA.out.later (hbel.alloc hbel.size _))).mono ?_; rintro e w1 ⟨rfl, kA⟩))
          go_ret
          exact ⟨by rw [HE.out]; rfl, (hbel.alloc hbel.size _).trans (kA.mono (hbel.alloc hbel.size _).size)⟩
        · have HE : Hid (R = faF hasI fa ((k + 1 : Nat) : Int) (fa.drop (k + 1))) := HS
          go_wp2_with (first | (go_at_call 54; refine (qP _).mono ?_; rintro e w1 ⟨rfl, hw1⟩; obtain rfl := hw1.symm) | (go_at_call 55; refine (qA _ (HA.out.later (hbel.alloc hbel.size _))).mono ?_; rintro e w1 ⟨rfl, kA⟩))
          go_roundw
          case rel => exact ⟨k + 1, by omega, by go_num, HE, (hbel.alloc hbel.size _).trans (kA.mono (hbel.alloc hbel.size _).size)⟩
          case measure => simp [intOf]; omega
      · subst e
        rw [e0] at qP
        have d1 : decide (x.c2 < 0) = false := decide_eq_false (by omega)
        have d2 : decide (15 < x.c2) = false := decide_eq_false (by omega)
        rw [e3] at x1
        cases AB
        · have HE : Hid (R = 1) := HS
          go_wp2_with (first | (go_at_call 54; refine (qP _).mono ?_; rintro e w1 ⟨rfl, hw1⟩; obtain rfl := hw1.symm) | (go_at_call 55; refine (qA _ (HA.out.later (hbel.alloc hbel.size _))).mono ?_; rintro e w1 ⟨rfl, kA⟩))
          go_ret
          exact ⟨by rw [HE.out]; rfl, (hbel.alloc hbel.size _).trans (kA.mono (hbel.alloc hbel.size _).size)⟩
        · have HE : Hid (R = faF hasI fa ((k + 1 : Nat) : Int) (fa.drop (k + 1))) := HS
          go_wp2_with (first | (go_at_call 54; refine (qP _).mono ?_; rintro e w1 ⟨rfl, hw1⟩; obtain rfl := hw1.symm) | (go_at_call 55; refine (qA _ (HA.out.later (hbel.alloc hbel.size _))).mono ?_; rintro e w1 ⟨rfl, kA⟩))
          go_roundw
          case rel => exact ⟨k + 1, by omega, by go_num, HE, (hbel.alloc hbel.size _).trans (kA.mono (hbel.alloc hbel.size _).size)⟩
          case measure => simp [intOf]; omega
    · obtain rfl : m = k := by omega
      have HE : Hid (R = 0) := by show _ = _; rw [Hk.out, List.drop_of_length_le (by have := Hl.out; omega)]; rfl
      go_wp2
      go_ret
      exact ⟨by rw [HE.out]; rfl, hbel⟩
end Go.Proofs.YtppgjmpdnpidnaaGreatDoor
end

/- WfImpl2 -/
/- Contracts of the program's parts of WorldFault: seats and owners. Condition: there are four factions, and the lists lie in memory as they were laid there. -/
section
namespace Go.Proofs.YtppgjmpdnpidnaaGreatDoor
open Go.ChangeShapes Go.WideShapes Go.ChangeAt Go.RowKit
open Bd
set_option linter.unusedVariables false

theorem seR_cases (s : K4) : (inb s.c0 0 5 = false ∧ seR s = false) ∨ (inb s.c0 0 5 = true ∧ inb s.c1 0 3 = false ∧ seR s = false) ∨ (inb s.c0 0 5 = true ∧ inb s.c1 0 3 = true ∧ inb s.c2 0 2047 = false ∧ seR s = false) ∨
    (inb s.c0 0 5 = true ∧ inb s.c1 0 3 = true ∧ inb s.c2 0 2047 = true ∧ s.c3 < 0 ∧ seR s = false) ∨ (inb s.c0 0 5 = true ∧ inb s.c1 0 3 = true ∧ inb s.c2 0 2047 = true ∧ 0 ≤ s.c3 ∧ 999 < s.c3 ∧ seR s = false) ∨
    (inb s.c0 0 5 = true ∧ inb s.c1 0 3 = true ∧ inb s.c2 0 2047 = true ∧ 0 ≤ s.c3 ∧ s.c3 ≤ 999 ∧ seR s = true) := by
  unfold seR
  cases inb s.c0 0 5
  · exact .inl ⟨rfl, rfl⟩
  cases inb s.c1 0 3
  · exact .inr (.inl ⟨rfl, rfl, rfl⟩)
  cases inb s.c2 0 2047
  · exact .inr (.inr (.inl ⟨rfl, rfl, rfl, rfl⟩))
  by_cases h1 : s.c3 < 0
  · exact .inr (.inr (.inr (.inl ⟨rfl, rfl, rfl, h1, by rw [inb_f (by omega)]; rfl⟩)))
  by_cases h2 : 999 < s.c3
  · exact .inr (.inr (.inr (.inr (.inl ⟨rfl, rfl, rfl, by omega, h2, by rw [inb_f (by omega)]; rfl⟩))))
  · exact .inr (.inr (.inr (.inr (.inr ⟨rfl, rfl, rfl, by omega, by omega, by rw [inb_t (by omega) (by omega)]; rfl⟩))))
theorem side_at {fa : List KA} (h4 : fa.length = 4) {i : Int} (h0 : 0 ≤ i) (h1 : i ≤ 3) : ∃ g, fa[i.toNat]? = some g ∧ goneA fa i = g.c1 ∧ allyA fa i = g.c2 := by
  have hi : i.toNat < fa.length := by omega
  refine ⟨fa[i.toNat], List.getElem?_eq_getElem hi, ?_, ?_⟩
  · unfold goneA; rw [List.getD_eq_getElem?_getD, List.getElem?_eq_getElem hi]; rfl
  · unfold allyA; rw [List.getD_eq_getElem?_getD, List.getElem?_eq_getElem hi]; rfl
/- the four factions' place -/
theorem ArgA.four {w : World} {a : Option Addr} {fa : List KA} (h : ArgA w a fa) (h4 : fa.length = 4) : ∃ b off, a = some ⟨b, off, none⟩ ∧ b < w.heap.size ∧ AAt w b off fa :=
  h.at (i := 0) (x := fa[0]'(by omega)) (List.getElem?_eq_getElem (by omega))
set_option maxHeartbeats 8000000 in
theorem seatsFault_c (t s : Int) (u : Option Addr) (mu uc : Nat) (f : Option Addr) (mf fc : Nat) (a : Option Addr) (ac : Nat) (q : Option Addr) (ms qc : Nat) (r : Option Addr) (mo rc : Nat) (fa : List KA) (se : List K4) (h4 : fa.length = 4) (hl : se.length = ms) (hm : ms ≤ 6) (w : World) (hA : ArgA w a fa) (hS : ArgS w q se) :
    Calls Tryz.prog 29 #[.agg (wv t s u mu uc f mf fc a 4 ac q ms qc r mo rc)] w fun e w' => e = .returned (.int .i64 (seF fa none se)) ∧ Below w.heap.size w w' := by
  obtain ⟨ba, oa, rfl, hba, hat⟩ := hA.four h4
  have B0 : Below w.heap.size w (w.alloc (.cells (wv t s u mu uc f mf fc (some ⟨ba, oa, none⟩) 4 ac q ms qc r mo rc) 32)) := (Below.refl _ _).alloc (Nat.le_refl _) _
  have P0 := Bk.new w (wv t s u mu uc f mf fc (some ⟨ba, oa, none⟩) 4 ac q ms qc r mo rc) 32
  have Hat : Hid (AAt w ba oa fa) := hat
  have HS : Hid (ArgS w q se) := hS
  have Hl : Hid (se.length = ms) := hl
  have H4 : Hid (fa.length = 4) := h4
  obtain ⟨R, HR⟩ : ∃ R : Int, Hid (R = seF fa none se) := ⟨_, rfl⟩
  rw [← HR.out]
  have HR0 : Hid (R = seF fa (prevC se 0) (se.drop 0)) := HR
  clear hat hS hl h4 hA HR
  obtain ⟨W, HW⟩ : ∃ W, Hid (W = w.alloc (.cells (wv t s u mu uc f mf fc (some ⟨ba, oa, none⟩) 4 ac q ms qc r mo rc) 32)) := ⟨_, rfl⟩
  rw [← HW.out] at B0 P0
  have HP : Hid (Bk W w.heap.size (wv t s u mu uc f mf fc (some ⟨ba, oa, none⟩) 4 ac q ms qc r mo rc) 32) := P0
  have p5 := P0.cell (i := 5) rfl
  have pl := P0.lt
  go_enter Tryz.func29, Tryz.ntmps29
  go_upto_region 1 with fail
  rw [← HW.out]
  clear HW P0
  go_wp2_with fail
  go_loopw [8] (fun j wr => ∃ k : Nat, k ≤ ms ∧ j = .int .i64 k ∧ Hid (R = seF fa (prevC se k) (se.drop k)) ∧ Below W.heap.size W wr) (fun j _ => ms - (intOf j).toNat)
  case atStart => exact ⟨0, Nat.zero_le _, rfl, HR0, Below.refl _ _⟩
  case round =>
    clear p5 pl
    obtain ⟨k, hk, rfl, Hk, kbel⟩ := hrel
    have hbel := B0.trans (kbel.mono B0.size)
    by_cases hlt : k < ms
    · have hlt' : (k : Int) < (ms : Int) := by omega
      obtain ⟨x, hx⟩ : ∃ x, se[k]? = some x := ⟨_, List.getElem?_eq_getElem (by have := Hl.out; omega)⟩
      obtain ⟨b, off, rfl, hb, hat⟩ := HS.out.at hx
      obtain ⟨x0, x1, x2, x3, xl⟩ := (hat.later hb hbel).one (Nat.lt_of_lt_of_le hb hbel.size) hx
      have hS2 : Hid (R = if seR x = false then 3 else if leP (prevC se k) x.c0 = true then 1 else if goneA fa x.c1 = true then 1 else seF fa (some x.c0) (se.drop (k + 1))) := by show _ = _; rw [Hk.out, seF_step hx]
      have HN : Hid (prevC se (k + 1) = some x.c0) := prevC_next hx
      have Hx : Hid (se[k]? = some x) := hx
      have Hsat : Hid (SAt w b off se) := hat
      have q0 := fun w => isClient_w x.c0 w
      have q1 := fun w => isSide_c x.c1 w
      have q2 := fun w => isMask_c x.c2 w
      clear hx hat Hk
      rcases seR_cases x with ⟨e0, e⟩ | ⟨e0, e1, e⟩ | ⟨e0, e1, e2, e⟩ | ⟨e0, e1, e2, e3, e⟩ | ⟨e0, e1, e2, e3, e4, e⟩ | ⟨e0, e1, e2, e3, e4, e⟩
      · have HE : Hid (R = 3) := by show _ = _; rw [hS2.out, if_pos e]
        rw [e0] at q0
        go_wp2_with (first | (go_at_call 56; refine (q0 _).mono ?_; rintro e w1 ⟨rfl, hw1⟩; obtain rfl := hw1.symm) | (go_at_call 57; refine (q1 _).mono ?_; rintro e w1 ⟨rfl, hw1⟩; obtain rfl := hw1.symm) | (go_at_call 58; refine (q2 _).mono ?_; rintro e w1 ⟨rfl, hw1⟩; obtain rfl := hw1.symm))
        go_ret
        exact ⟨by rw [HE.out]; rfl, hbel.alloc hbel.size _⟩
      · have HE : Hid (R = 3) := by show _ = _; rw [hS2.out, if_pos e]
        rw [e0] at q0
        rw [e1] at q1
        go_wp2_with (first | (go_at_call 56; refine (q0 _).mono ?_; rintro e w1 ⟨rfl, hw1⟩; obtain rfl := hw1.symm) | (go_at_call 57; refine (q1 _).mono ?_; rintro e w1 ⟨rfl, hw1⟩; obtain rfl := hw1.symm) | (go_at_call 58; refine (q2 _).mono ?_; rintro e w1 ⟨rfl, hw1⟩; obtain rfl := hw1.symm))
        go_ret
        exact ⟨by rw [HE.out]; rfl, hbel.alloc hbel.size _⟩
      · have HE : Hid (R = 3) := by show _ = _; rw [hS2.out, if_pos e]
        rw [e0] at q0
        rw [e1] at q1
        rw [e2] at q2
        go_wp2_with (first | (go_at_call 56; refine (q0 _).mono ?_; rintro e w1 ⟨rfl, hw1⟩; obtain rfl := hw1.symm) | (go_at_call 57; refine (q1 _).mono ?_; rintro e w1 ⟨rfl, hw1⟩; obtain rfl := hw1.symm) | (go_at_call 58; refine (q2 _).mono ?_; rintro e w1 ⟨rfl, hw1⟩; obtain rfl := hw1.symm))
        go_ret
        exact ⟨by rw [HE.out]; rfl, hbel.alloc hbel.size _⟩
      · have HE : Hid (R = 3) := by show _ = _; rw [hS2.out, if_pos e]
        rw [e0] at q0
        rw [e1] at q1
        rw [e2] at q2
        go_wp2_with (first | (go_at_call 56; refine (q0 _).mono ?_; rintro e w1 ⟨rfl, hw1⟩; obtain rfl := hw1.symm) | (go_at_call 57; refine (q1 _).mono ?_; rintro e w1 ⟨rfl, hw1⟩; obtain rfl := hw1.symm) | (go_at_call 58; refine (q2 _).mono ?_; rintro e w1 ⟨rfl, hw1⟩; obtain rfl := hw1.symm))
        go_ret
        exact ⟨by rw [HE.out]; rfl, hbel.alloc hbel.size _⟩
      · have HE : Hid (R = 3) := by show _ = _; rw [hS2.out, if_pos e]
        rw [e0] at q0
        rw [e1] at q1
        rw [e2] at q2
        have d3 : decide (x.c3 < 0) = false := decide_eq_false (by omega)
        go_wp2_with (first | (go_at_call 56; refine (q0 _).mono ?_; rintro e w1 ⟨rfl, hw1⟩; obtain rfl := hw1.symm) | (go_at_call 57; refine (q1 _).mono ?_; rintro e w1 ⟨rfl, hw1⟩; obtain rfl := hw1.symm) | (go_at_call 58; refine (q2 _).mono ?_; rintro e w1 ⟨rfl, hw1⟩; obtain rfl := hw1.symm))
        go_ret
        exact ⟨by rw [HE.out]; rfl, hbel.alloc hbel.size _⟩
      · have d3 : decide (x.c3 < 0) = false := decide_eq_false (by omega)
        have d4 : decide (999 < x.c3) = false := decide_eq_false (by omega)
        obtain ⟨i0, i1⟩ := inb_i e1
        obtain ⟨g, hg, hgo, _⟩ := side_at H4.out i0 i1
        have hi4 : x.c1 < 4 := by omega
        have hS3 : Hid (R = if leP (prevC se k) x.c0 = true then 1 else if g.c1 = true then 1 else seF fa (some x.c0) (se.drop (k + 1))) := by show _ = _; rw [hS2.out, if_neg (by rw [e]; simp), hgo]
        rw [e0] at q0
        rw [e1] at q1
        rw [e2] at q2
        have k4 := hbel.alloc hbel.size (.cells x.v 87)
        have kk4 := kbel.alloc kbel.size (.cells x.v 87)
        obtain ⟨y0, y1, y2, yl⟩ := (Hat.out.later hba k4).one (Nat.lt_of_lt_of_le hba k4.size) hg
        have p4 := (HP.out.below kk4).cell (i := 4) rfl
        have p5 := (HP.out.below kk4).cell (i := 5) rfl
        have pl := (HP.out.below kk4).lt
        have z1 := S1.new wr x 87
        obtain ⟨z0, z1, z2, z3, zl⟩ := z1
        clear hg hgo hS2 e
        go_upto_region 6 with (first | (go_at_call 56; refine (q0 _).mono ?_; rintro e w1 ⟨rfl, hw1⟩; obtain rfl := hw1.symm) | (go_at_call 57; refine (q1 _).mono ?_; rintro e w1 ⟨rfl, hw1⟩; obtain rfl := hw1.symm) | (go_at_call 58; refine (q2 _).mono ?_; rintro e w1 ⟨rfl, hw1⟩; obtain rfl := hw1.symm))
        cases eg : g.c1
        · rw [eg] at y1
          rcases k with _ | k
          · have HE : Hid (R = seF fa (prevC se (0 + 1)) (se.drop (0 + 1))) := by show _ = _; rw [hS3.out, HN.out, eg]; rfl
            go_quiet (fail)
            go_wp2
            go_roundw
            case rel => exact ⟨0 + 1, by omega, by go_num, HE, kk4.trans ((below_drewN _ _).mono kk4.size)⟩
            case measure => simp [intOf]; omega
          · obtain ⟨y, hy⟩ : ∃ y, se[k]? = some y := ⟨_, List.getElem?_eq_getElem (by have := Hl.out; omega)⟩
            have HPv : Hid (prevC se (k + 1) = some y.c0) := prevC_next hy
            obtain ⟨v0, v1, v2, v3, vl⟩ := (Hsat.out.later hb k4).one (Nat.lt_of_lt_of_le hb k4.size) hy
            clear hy
            cases hd : decide (x.c0 ≤ y.c0)
            · have HE : Hid (R = seF fa (prevC se (k + 1 + 1)) (se.drop (k + 1 + 1))) := by show _ = _; rw [hS3.out, HN.out, HPv.out, eg, if_neg (by show ¬ decide (x.c0 ≤ y.c0) = true; rw [hd]; simp)]; rfl
              go_quiet (fail)
              go_wp2
              go_roundw
              case rel => exact ⟨k + 1 + 1, by omega, by go_num, HE, kk4.trans ((below_drewN _ _).mono kk4.size)⟩
              case measure => simp [intOf]; omega
            · have HE : Hid (R = 1) := by show _ = _; rw [hS3.out, HPv.out, if_pos (show leP (some y.c0) x.c0 = true from hd)]
              go_quiet (fail)
              go_wp2
              go_ret
              exact ⟨by rw [HE.out]; rfl, k4.trans ((below_drewN _ _).mono k4.size)⟩
        · rw [eg] at y1
          rcases k with _ | k
          · have HE : Hid (R = 1) := by show _ = _; rw [hS3.out, eg]; rfl
            go_quiet (fail)
            go_wp2
            go_ret
            exact ⟨by rw [HE.out]; rfl, k4.trans ((below_drewN _ _).mono k4.size)⟩
          · obtain ⟨y, hy⟩ : ∃ y, se[k]? = some y := ⟨_, List.getElem?_eq_getElem (by have := Hl.out; omega)⟩
            have HPv : Hid (prevC se (k + 1) = some y.c0) := prevC_next hy
            obtain ⟨v0, v1, v2, v3, vl⟩ := (Hsat.out.later hb k4).one (Nat.lt_of_lt_of_le hb k4.size) hy
            have HE : Hid (R = 1) := by show _ = _; rw [hS3.out, eg, if_pos rfl]; split <;> rfl
            clear hy
            cases hd : decide (x.c0 ≤ y.c0)
            · go_quiet (fail)
              go_wp2
              go_ret
              exact ⟨by rw [HE.out]; rfl, k4.trans ((below_drewN _ _).mono k4.size)⟩
            · go_quiet (fail)
              go_wp2
              go_ret
              exact ⟨by rw [HE.out]; rfl, k4.trans ((below_drewN _ _).mono k4.size)⟩
    · obtain rfl : ms = k := by omega
      have HE : Hid (R = 0) := by show _ = _; rw [Hk.out, List.drop_of_length_le (by have := Hl.out; omega)]; rfl
      go_wp2
      go_ret
      exact ⟨by rw [HE.out]; rfl, hbel⟩
end Go.Proofs.YtppgjmpdnpidnaaGreatDoor
end
