/- Texts of mine put together (a claim holds at most 60 files): WfImpl. -/
import Derived.Test.YtgfdfpaimlcgaaaPartS13

/- WfImpl -/
/- Contracts of the program's parts of WorldFault: factions. Condition: the list lies in memory as it was laid there. -/
section
namespace Go.Proofs.Ytgfdfpaimlcgaaa
open Go.ChangeShapes Go.WideShapes Go.ChangeAt Go.RowKit
open Bd
set_option linter.unusedVariables false

theorem isPurse_w (v : Int) (w : World) :
    Calls Try.prog 68 #[.int .i64 v] w fun e w' => e = .returned (.bool (inb v 0 1000000)) ∧ w' = w := by
  by_cases h1 : 0 ≤ v
  · by_cases h2 : v ≤ 1000000
    · rw [inb_t h1 h2]
      go_enter Try.func68, Try.ntmps68
      go_wp2
      go_ret
      exact ⟨rfl, rfl⟩
    · rw [inb_f (by omega)]
      have d2 : decide (v ≤ 1000000) = false := decide_eq_false h2
      go_enter Try.func68, Try.ntmps68
      go_wp2
      go_ret
      exact ⟨rfl, rfl⟩
  · rw [inb_f (by omega)]
    have d2 : decide (0 ≤ v) = false := decide_eq_false h1
    go_enter Try.func68, Try.ntmps68
    go_wp2
    go_ret
    exact ⟨rfl, rfl⟩
theorem isClient_w (v : Int) (w : World) :
    Calls Try.prog 24 #[.int .i64 v] w fun e w' => e = .returned (.bool (inb v 0 5)) ∧ w' = w := by
  by_cases h1 : 0 ≤ v
  · by_cases h2 : v ≤ 5
    · rw [inb_t h1 h2]
      go_enter Try.func24, Try.ntmps24
      go_wp2
      go_ret
      exact ⟨rfl, rfl⟩
    · rw [inb_f (by omega)]
      have d2 : decide (v ≤ 5) = false := decide_eq_false h2
      go_enter Try.func24, Try.ntmps24
      go_wp2
      go_ret
      exact ⟨rfl, rfl⟩
  · rw [inb_f (by omega)]
    have d2 : decide (0 ≤ v) = false := decide_eq_false h1
    go_enter Try.func24, Try.ntmps24
    go_wp2
    go_ret
    exact ⟨rfl, rfl⟩
theorem isSpent_w (v : Int) (w : World) :
    Calls Try.prog 42 #[.int .i64 v] w fun e w' => e = .returned (.bool (inb v 0 100000000)) ∧ w' = w := by
  by_cases h1 : 0 ≤ v
  · by_cases h2 : v ≤ 100000000
    · rw [inb_t h1 h2]
      go_enter Try.func42, Try.ntmps42
      go_wp2
      go_ret
      exact ⟨rfl, rfl⟩
    · rw [inb_f (by omega)]
      have d2 : decide (v ≤ 100000000) = false := decide_eq_false h2
      go_enter Try.func42, Try.ntmps42
      go_wp2
      go_ret
      exact ⟨rfl, rfl⟩
  · rw [inb_f (by omega)]
    have d2 : decide (0 ≤ v) = false := decide_eq_false h1
    go_enter Try.func42, Try.ntmps42
    go_wp2
    go_ret
    exact ⟨rfl, rfl⟩
theorem ArgA.at {w : World} {a : Option Addr} {l : List KA} (h : ArgA w a l) {i : Nat} {x : KA} (hi : l[i]? = some x) : ∃ b off, a = some ⟨b, off, none⟩ ∧ b < w.heap.size ∧ AAt w b off l := by
  rcases h with h | h
  · rw [h] at hi; simp at hi
  · exact h
theorem ArgS.at {w : World} {a : Option Addr} {l : List K4} (h : ArgS w a l) {i : Nat} {x : K4} (hi : l[i]? = some x) : ∃ b off, a = some ⟨b, off, none⟩ ∧ b < w.heap.size ∧ SAt w b off l := by
  rcases h with h | h
  · rw [h] at hi; simp at hi
  · exact h
theorem ArgO.at {w : World} {a : Option Addr} {l : List K2} (h : ArgO w a l) {i : Nat} {x : K2} (hi : l[i]? = some x) : ∃ b off, a = some ⟨b, off, none⟩ ∧ b < w.heap.size ∧ OAt w b off l := by
  rcases h with h | h
  · rw [h] at hi; simp at hi
  · exact h
set_option maxHeartbeats 4000000 in
theorem isAllied_c (a : Option Addr) (m c : Nat) (fa : List KA) (i : Nat) (fi : KA) (hi : fa[i]? = some fi) (hl : fa.length = m) (hm : m ≤ 4) (w : World) (hA : ArgA w a fa) :
    Calls Try.prog 69 #[.slice a m c, .int .i64 (i : Int)] w fun e w' => e = .returned (.bool (alB hasI fi.c2 i 0 fa)) ∧ Below w.heap.size w w' := by
  obtain ⟨b, off, rfl, hb, hat⟩ := hA.at hi
  have Hat : Hid (AAt w b off fa) := hat
  have Hi : Hid (fa[i]? = some fi) := hi
  have Hl : Hid (fa.length = m) := hl
  have him : i < m := by rw [← hl]; exact (List.getElem?_eq_some_iff.1 hi).1
  have him' : (i : Int) < (m : Int) := by omega
  have hi0 : (0 : Int) ≤ (i : Int) := by omega
  obtain ⟨R, HR⟩ : ∃ R : Bool, Hid (R = alB hasI fi.c2 i 0 fa) := ⟨_, rfl⟩
  rw [← HR.out]
  have HR0 : Hid (R = alB hasI fi.c2 i ((0 : Nat) : Int) (fa.drop 0)) := HR
  clear hat hi hl hA HR
  go_enter Try.func69, Try.ntmps69
  go_wp2
  go_loopw [9] (fun j wr => ∃ k : Nat, k ≤ m ∧ j = .int .i64 k ∧ Hid (R = alB hasI fi.c2 i (k : Int) (fa.drop k)) ∧ Below w.heap.size w wr) (fun j _ => m - (intOf j).toNat)
  case atStart => exact ⟨0, Nat.zero_le _, rfl, HR0, Below.refl _ _⟩
  case round =>
    obtain ⟨k, hk, rfl, Hk, hbel⟩ := hrel
    by_cases hlt : k < m
    · have hlt' : (k : Int) < (m : Int) := by omega
      obtain ⟨x, hx⟩ : ∃ x, fa[k]? = some x := ⟨_, List.getElem?_eq_getElem (by have := Hl.out; omega)⟩
      obtain ⟨x0, x1, x2, xl⟩ := (Hat.out.later hb hbel).one (Nat.lt_of_lt_of_le hb hbel.size) hx
      obtain ⟨y0, y1, y2, yl⟩ := (Hat.out.later hb hbel).one (Nat.lt_of_lt_of_le hb hbel.size) Hi.out
      have hb4 := hbel.alloc hbel.size (.cells x.v 63)
      have q1 := fun w => hasBit_c fi.c2 (k : Int) (by omega) (by omega) w
      have q2 := fun w => hasBit_c x.c2 (i : Int) (by omega) (by omega) w
      have HS : Hid (R = ((!(hasI fi.c2 k) || (!((k : Int) == (i : Int)) && hasI x.c2 i)) && alB hasI fi.c2 i ((k + 1 : Nat) : Int) (fa.drop (k + 1)))) := by show _ = _; rw [Hk.out, alB_step hx]
      clear hx
      cases e1 : hasI fi.c2 k
      · rw [e1] at q1
        have HE : Hid (R = alB hasI fi.c2 i ((k + 1 : Nat) : Int) (fa.drop (k + 1))) := by show _ = _; rw [HS.out, e1]; rfl
        go_wp2_with (first | (go_at_call 35; refine (q1 _).mono ?_; rintro e w1 ⟨rfl, hw1⟩; obtain rfl := hw1.symm))
        go_roundw
        case rel => exact ⟨k + 1, by omega, by go_num, HE, hb4⟩
        case measure => simp [intOf]; omega
      · rw [e1] at q1
        cases e2 : ((k : Int) == (i : Int))
        · cases e3 : hasI x.c2 i
          · rw [e3] at q2
            have HE : Hid (R = false) := by show _ = _; rw [HS.out, e1, e2, e3]; rfl
            go_wp2_with (first | (go_at_call 35; with_reducible refine (q1 _).mono ?_; rintro e w1 ⟨rfl, hw1⟩; obtain rfl := hw1.symm) | (go_at_call 35; with_reducible refine (q2 _).mono ?_; rintro e w1 ⟨rfl, hw1⟩; obtain rfl := hw1.symm))
            go_ret
            exact ⟨by rw [HE.out]; rfl, hb4⟩
          · rw [e3] at q2
            have HE : Hid (R = alB hasI fi.c2 i ((k + 1 : Nat) : Int) (fa.drop (k + 1))) := by show _ = _; rw [HS.out, e1, e2, e3]; rfl
            go_wp2_with (first | (go_at_call 35; with_reducible refine (q1 _).mono ?_; rintro e w1 ⟨rfl, hw1⟩; obtain rfl := hw1.symm) | (go_at_call 35; with_reducible refine (q2 _).mono ?_; rintro e w1 ⟨rfl, hw1⟩; obtain rfl := hw1.symm))
            go_roundw
            case rel => exact ⟨k + 1, by omega, by go_num, HE, hb4⟩
            case measure => simp [intOf]; omega
        · have HE : Hid (R = false) := by show _ = _; rw [HS.out, e1, e2]; rfl
          go_wp2_with (first | (go_at_call 35; with_reducible refine (q1 _).mono ?_; rintro e w1 ⟨rfl, hw1⟩; obtain rfl := hw1.symm))
          go_ret
          exact ⟨by rw [HE.out]; rfl, hb4⟩
    · obtain rfl : m = k := by omega
      have HE : Hid (R = true) := by show _ = _; rw [Hk.out, List.drop_of_length_le (by have := Hl.out; omega)]; rfl
      go_wp2
      go_ret
      exact ⟨by rw [HE.out]; rfl, hbel⟩
theorem faC_cases (h : Int → Int → Bool) (fa : List KA) (i : Int) (f : KA) : (inb f.c0 0 1000000 = false ∧ faC h fa i f = 3) ∨ (inb f.c0 0 1000000 = true ∧ f.c2 < 0 ∧ faC h fa i f = 3) ∨ (inb f.c0 0 1000000 = true ∧ 0 ≤ f.c2 ∧ 15 < f.c2 ∧ faC h fa i f = 3) ∨
    (inb f.c0 0 1000000 = true ∧ 0 ≤ f.c2 ∧ f.c2 ≤ 15 ∧ f.c1 = true ∧ (f.c2 == 0) = false ∧ faC h fa i f = 1) ∨ (inb f.c0 0 1000000 = true ∧ 0 ≤ f.c2 ∧ f.c2 ≤ 15 ∧ f.c1 = true ∧ (f.c2 == 0) = true ∧ faC h fa i f = if alB h f.c2 i 0 fa = false then 1 else 0) ∨
    (inb f.c0 0 1000000 = true ∧ 0 ≤ f.c2 ∧ f.c2 ≤ 15 ∧ f.c1 = false ∧ faC h fa i f = if alB h f.c2 i 0 fa = false then 1 else 0) := by
  unfold faC faR faG
  cases e0 : inb f.c0 0 1000000
  · exact .inl ⟨rfl, by simp⟩
  by_cases h1 : f.c2 < 0
  · exact .inr (.inl ⟨rfl, h1, by rw [inb_f (v := f.c2) (by omega)]; simp⟩)
  by_cases h2 : 15 < f.c2
  · exact .inr (.inr (.inl ⟨rfl, by omega, h2, by rw [inb_f (v := f.c2) (by omega)]; simp⟩))
  have e2 : inb f.c2 0 15 = true := inb_t (by omega) (by omega)
  cases e1 : f.c1
  · exact .inr (.inr (.inr (.inr (.inr ⟨rfl, by omega, by omega, rfl, by rw [e2]; simp⟩))))
  · cases e3 : f.c2 == 0
    · exact .inr (.inr (.inr (.inl ⟨rfl, by omega, by omega, rfl, rfl, by rw [e2]; simp [bne, e3]⟩)))
    · exact .inr (.inr (.inr (.inr (.inl ⟨rfl, by omega, by omega, rfl, rfl, by rw [e2]; simp [bne, e3]⟩))))
set_option maxHeartbeats 4000000 in
theorem factionsFault_c (a : Option Addr) (m c : Nat) (fa : List KA) (hl : fa.length = m) (hm : m ≤ 4) (w : World) (hA : ArgA w a fa) :
    Calls Try.prog 45 #[.slice a m c] w fun e w' => e = .returned (.int .i64 (faF hasI fa 0 fa)) ∧ Below w.heap.size w w' := by
  have HA : Hid (ArgA w a fa) := hA
  have Hl : Hid (fa.length = m) := hl
  obtain ⟨R, HR⟩ : ∃ R : Int, Hid (R = faF hasI fa 0 fa) := ⟨_, rfl⟩
  rw [← HR.out]
  have HR0 : Hid (R = faF hasI fa ((0 : Nat) : Int) (fa.drop 0)) := HR
  clear hA hl HR
  go_enter Try.func45, Try.ntmps45
  go_wp2
  go_loopw [7] (fun j wr => ∃ k : Nat, k ≤ m ∧ j = .int .i64 k ∧ Hid (R = faF hasI fa (k : Int) (fa.drop k)) ∧ Below w.heap.size w wr) (fun j _ => m - (intOf j).toNat)
  case atStart => exact ⟨0, Nat.zero_le _, rfl, HR0, Below.refl _ _⟩
  case round =>
    obtain ⟨k, hk, rfl, Hk, hbel⟩ := hrel
    by_cases hlt : k < m
    · have hlt' : (k : Int) < (m : Int) := by omega
      obtain ⟨x, hx⟩ : ∃ x, fa[k]? = some x := ⟨_, List.getElem?_eq_getElem (by have := Hl.out; omega)⟩
      obtain ⟨b, off, rfl, hb, hat⟩ := HA.out.at hx
      obtain ⟨x0, x1, x2, xl⟩ := (hat.later hb hbel).one (Nat.lt_of_lt_of_le hb hbel.size) hx
      have qP := fun w => isPurse_w x.c0 w
      have qA := fun W h => isAllied_c (some ⟨b, off, none⟩) m c fa k x hx Hl.out hm W h
      have HS : Hid (R = if (faC hasI fa k x == 0) = false then faC hasI fa k x else faF hasI fa ((k + 1 : Nat) : Int) (fa.drop (k + 1))) := by show _ = _; rw [Hk.out, faF_step hx]
      have hc := faC_cases hasI fa k x
      clear hx hat
      generalize faC hasI fa k x = FC at HS hc
      generalize alB hasI x.c2 k 0 fa = AB at qA hc
      rcases hc with ⟨e0, e⟩ | ⟨e0, e1, e⟩ | ⟨e0, e1, e2, e⟩ | ⟨e0, e1, e2, e3, e4, e⟩ | ⟨e0, e1, e2, e3, e4, e⟩ | ⟨e0, e1, e2, e3, e⟩
      · subst e
        rw [e0] at qP
        have HE : Hid (R = 3) := HS
        go_wp2_with (first | (go_at_call 68; refine (qP _).mono ?_; rintro e w1 ⟨rfl, hw1⟩; obtain rfl := hw1.symm) | (go_at_call 69; refine (qA _ (HA.out.later (hbel.alloc hbel.size _))).mono ?_; rintro e w1 ⟨rfl, kA⟩))
        go_ret
        exact ⟨by rw [HE.out]; rfl, hbel.alloc hbel.size _⟩
      · subst e
        rw [e0] at qP
        have HE : Hid (R = 3) := HS
        go_wp2_with (first | (go_at_call 68; refine (qP _).mono ?_; rintro e w1 ⟨rfl, hw1⟩; obtain rfl := hw1.symm) | (go_at_call 69; refine (qA _ (HA.out.later (hbel.alloc hbel.size _))).mono ?_; rintro e w1 ⟨rfl, kA⟩))
        go_ret
        exact ⟨by rw [HE.out]; rfl, hbel.alloc hbel.size _⟩
      · subst e
        rw [e0] at qP
        have HE : Hid (R = 3) := HS
        have d1 : decide (x.c2 < 0) = false := decide_eq_false (by omega)
        go_wp2_with (first | (go_at_call 68; refine (qP _).mono ?_; rintro e w1 ⟨rfl, hw1⟩; obtain rfl := hw1.symm) | (go_at_call 69; refine (qA _ (HA.out.later (hbel.alloc hbel.size _))).mono ?_; rintro e w1 ⟨rfl, kA⟩))
        go_ret
        exact ⟨by rw [HE.out]; rfl, hbel.alloc hbel.size _⟩
      · subst e
        rw [e0] at qP
        have HE : Hid (R = 1) := HS
        have d1 : decide (x.c2 < 0) = false := decide_eq_false (by omega)
        have d2 : decide (15 < x.c2) = false := decide_eq_false (by omega)
        have d4 : (x.c2 != 0) = true := by simp only [bne, e4]; rfl
        rw [e3] at x1
        go_wp2_with (first | (go_at_call 68; refine (qP _).mono ?_; rintro e w1 ⟨rfl, hw1⟩; obtain rfl := hw1.symm) | (go_at_call 69; refine (qA _ (HA.out.later (hbel.alloc hbel.size _))).mono ?_; rintro e w1 ⟨rfl, kA⟩))
        go_ret
        exact ⟨by rw [HE.out]; rfl, hbel.alloc hbel.size _⟩
      · subst e
        rw [e0] at qP
        have d1 : decide (x.c2 < 0) = false := decide_eq_false (by omega)
        have d2 : decide (15 < x.c2) = false := decide_eq_false (by omega)
        have d4 : (x.c2 != 0) = false := by simp only [bne, e4]; rfl
        rw [e3] at x1
        cases AB
        · have HE : Hid (R = 1) := HS
          go_wp2_with (first | (go_at_call 68; refine (qP _).mono ?_; rintro e w1 ⟨rfl, hw1⟩; obtain rfl := hw1.symm) | (go_at_call 69; refine (qA _ (HA.out.later (hbel.alloc hbel.size _))).mono ?_; rintro e w1 ⟨rfl, kA⟩))
          go_ret
          exact ⟨by rw [HE.out]; rfl, (hbel.alloc hbel.size _).trans (kA.mono (hbel.alloc hbel.size _).size)⟩
        · have HE : Hid (R = faF hasI fa ((k + 1 : Nat) : Int) (fa.drop (k + 1))) := HS
          go_wp2_with (first | (go_at_call 68; refine (qP _).mono ?_; rintro e w1 ⟨rfl, hw1⟩; obtain rfl := hw1.symm) | (go_at_call 69; refine (qA _ (HA.out.later (hbel.alloc hbel.size _))).mono ?_; rintro e w1 ⟨rfl, kA⟩))
          go_roundw
          case rel => exact ⟨k + 1, by omega, by go_num, HE, (hbel.alloc hbel.size _).trans (kA.mono (hbel.alloc hbel.size _).size)⟩
          case measure => simp [intOf]; omega
      · subst e
        rw [e0] at qP
        have d1 : decide (x.c2 < 0) = false := decide_eq_false (by omega)
        have d2 : decide (15 < x.c2) = false := decide_eq_false (by omega)
        rw [e3] at x1
        cases AB
        · have HE : Hid (R = 1) := HS
          go_wp2_with (first | (go_at_call 68; refine (qP _).mono ?_; rintro e w1 ⟨rfl, hw1⟩; obtain rfl := hw1.symm) | (go_at_call 69; refine (qA _ (HA.out.later (hbel.alloc hbel.size _))).mono ?_; rintro e w1 ⟨rfl, kA⟩))
          go_ret
          exact ⟨by rw [HE.out]; rfl, (hbel.alloc hbel.size _).trans (kA.mono (hbel.alloc hbel.size _).size)⟩
        · have HE : Hid (R = faF hasI fa ((k + 1 : Nat) : Int) (fa.drop (k + 1))) := HS
          go_wp2_with (first | (go_at_call 68; refine (qP _).mono ?_; rintro e w1 ⟨rfl, hw1⟩; obtain rfl := hw1.symm) | (go_at_call 69; refine (qA _ (HA.out.later (hbel.alloc hbel.size _))).mono ?_; rintro e w1 ⟨rfl, kA⟩))
          go_roundw
          case rel => exact ⟨k + 1, by omega, by go_num, HE, (hbel.alloc hbel.size _).trans (kA.mono (hbel.alloc hbel.size _).size)⟩
          case measure => simp [intOf]; omega
    · obtain rfl : m = k := by omega
      have HE : Hid (R = 0) := by show _ = _; rw [Hk.out, List.drop_of_length_le (by have := Hl.out; omega)]; rfl
      go_wp2
      go_ret
      exact ⟨by rw [HE.out]; rfl, hbel⟩
end Go.Proofs.Ytgfdfpaimlcgaaa
end
