/- Contracts of the model's parts of WorldFault: factions. Condition: there are four factions, which lie in memory as they were laid there. -/
import Derived.Test.YtibkdkjcncfmgaaWfImpl5
namespace Go.Proofs.Ytibkdkjcncfmgaa
open Go.ChangeShapes Go.WideShapes Go.ChangeAt Go.RowKit
open Bd
set_option linter.unusedVariables false

theorem l1Purse_s (v : Int) (w : World) : Calls Try.prog 162 #[.int .i64 v] w fun e w' => e = .returned (.bool (inb v 0 1000000)) ∧ w' = w := by
  go_enter Try.func162, Try.ntmps162
  go_wp2_with (go_at_call 109; refine (l1In_c v 0 1000000 _).mono ?_; rintro e w1 ⟨rfl, rfl⟩)
  go_ret
  exact ⟨rfl, rfl⟩
theorem l6Side_s (v : Int) (w : World) : Calls Try.prog 114 #[.int .i64 v] w fun e w' => e = .returned (.bool (inb v 0 3)) ∧ w' = w := by
  go_enter Try.func114, Try.ntmps114
  go_wp2_with (go_at_call 109; refine (l1In_c v 0 3 _).mono ?_; rintro e w1 ⟨rfl, rfl⟩)
  go_ret
  exact ⟨rfl, rfl⟩
theorem faS_cases (fa : List KA) (h4 : fa.length = 4) (i : Nat) (hi : i < 4) (f : KA) : (inb f.c0 0 1000000 = false ∧ faC hasS fa i f = 3) ∨ (inb f.c0 0 1000000 = true ∧ inb f.c2 0 15 = false ∧ faC hasS fa i f = 3) ∨
    (inb f.c0 0 1000000 = true ∧ inb f.c2 0 15 = true ∧ hasS f.c2 i = true ∧ faC hasS fa i f = 1) ∨
    (inb f.c0 0 1000000 = true ∧ inb f.c2 0 15 = true ∧ hasS f.c2 i = false ∧ f.c1 = true ∧ (f.c2 == 0) = false ∧ faC hasS fa i f = 1) ∨
    (inb f.c0 0 1000000 = true ∧ inb f.c2 0 15 = true ∧ hasS f.c2 i = false ∧ f.c1 = true ∧ (f.c2 == 0) = true ∧ faC hasS fa i f = if alS hasS f.c2 i 0 fa = false then 1 else 0) ∨
    (inb f.c0 0 1000000 = true ∧ inb f.c2 0 15 = true ∧ hasS f.c2 i = false ∧ f.c1 = false ∧ faC hasS fa i f = if alS hasS f.c2 i 0 fa = false then 1 else 0) := by
  have hb : alB hasS f.c2 i 0 fa = (!(hasS f.c2 i) && alS hasS f.c2 i 0 fa) := by
    match fa, h4 with
    | [a, b, c, d], _ => exact alB_four hasS f.c2 a b c d i hi
  unfold faC faR faG
  rw [hb]
  cases e0 : inb f.c0 0 1000000
  · exact .inl ⟨rfl, by simp⟩
  cases e2 : inb f.c2 0 15
  · exact .inr (.inl ⟨rfl, rfl, by simp⟩)
  cases eo : hasS f.c2 i
  · cases e1 : f.c1
    · exact .inr (.inr (.inr (.inr (.inr ⟨rfl, rfl, rfl, rfl, by simp⟩))))
    · cases e3 : f.c2 == 0
      · exact .inr (.inr (.inr (.inl ⟨rfl, rfl, rfl, rfl, rfl, by simp [bne, e3]⟩)))
      · exact .inr (.inr (.inr (.inr (.inl ⟨rfl, rfl, rfl, rfl, rfl, by simp [bne, e3]⟩))))
  · exact .inr (.inr (.inl ⟨rfl, rfl, rfl, by simp⟩))
set_option maxHeartbeats 8000000 in
theorem l6Factions_c (a : Option Addr) (c : Nat) (fa : List KA) (h4 : fa.length = 4) (w : World) (hA : ArgA w a fa) :
    Calls Try.prog 129 #[.slice a 4 c] w fun e w' => e = .returned (.int .i64 (faF hasS fa 0 fa)) ∧ Below w.heap.size w w' := by
  obtain ⟨b, off, rfl, hb, hat⟩ := hA.four h4
  have Hat : Hid (AAt w b off fa) := hat
  have H4 : Hid (fa.length = 4) := h4
  obtain ⟨R, HR⟩ : ∃ R : Int, Hid (R = faF hasS fa 0 fa) := ⟨_, rfl⟩
  rw [← HR.out]
  have HR0 : Hid (R = faF hasS fa ((0 : Nat) : Int) (fa.drop 0)) := HR
  clear hat h4 hA HR
  go_enter Try.func129, Try.ntmps129
  go_wp2
  go_loopw [3] (fun j wr => ∃ k : Nat, k ≤ 4 ∧ j = .int .i64 k ∧ Hid (R = faF hasS fa (k : Int) (fa.drop k)) ∧ Below w.heap.size w wr) (fun j _ => 4 - (intOf j).toNat)
  case atStart => exact ⟨0, Nat.zero_le _, rfl, HR0, Below.refl _ _⟩
  case round =>
    obtain ⟨k, hk, rfl, Hk, hbel⟩ := hrel
    by_cases hlt : k < 4
    · have hlt' : (k : Int) < 4 := by omega
      have Hlt : Hid (k < 4) := hlt
      obtain ⟨x, hx⟩ : ∃ x, fa[k]? = some x := ⟨_, List.getElem?_eq_getElem (by have := H4.out; omega)⟩
      obtain ⟨x0, x1, x2, xl⟩ := (Hat.out.later hb hbel).one (Nat.lt_of_lt_of_le hb hbel.size) hx
      have Hx : Hid (fa[k]? = some x) := hx
      have qP := fun w => l1Purse_s x.c0 w
      have qI := fun w => l1In_c x.c2 0 15 w
      have qH := fun w => l6Has_c x.c2 (k : Int) (by omega) (by omega) w
      have HS : Hid (R = if (faC hasS fa k x == 0) = false then faC hasS fa k x else faF hasS fa ((k + 1 : Nat) : Int) (fa.drop (k + 1))) := by show _ = _; rw [Hk.out, faF_step hx]
      have hc := faS_cases fa H4.out k hlt x
      clear hx Hk
      generalize faC hasS fa k x = FC at HS hc
      rcases hc with ⟨e0, e⟩ | ⟨e0, e1, e⟩ | ⟨e0, e1, e2, e⟩ | ⟨e0, e1, e2, e3, e4, e⟩ | ⟨e0, e1, e2, e3, e4, e⟩ | ⟨e0, e1, e2, e3, e⟩
      · subst e
        rw [e0] at qP
        have HE : Hid (R = 3) := HS
        go_wp2_with (first | (go_at_call 162; with_reducible refine (qP _).mono ?_; rintro e w1 ⟨rfl, hw1⟩; obtain rfl := hw1.symm) | (go_at_call 109; with_reducible refine (qI _).mono ?_; rintro e w1 ⟨rfl, hw1⟩; obtain rfl := hw1.symm) | (go_at_call 110; with_reducible refine (qH _).mono ?_; rintro e w1 ⟨rfl, hw1⟩; obtain rfl := hw1.symm))
        go_ret
        exact ⟨by rw [HE.out]; rfl, hbel⟩
      · subst e
        rw [e0] at qP
        rw [e1] at qI
        have HE : Hid (R = 3) := HS
        go_wp2_with (first | (go_at_call 162; with_reducible refine (qP _).mono ?_; rintro e w1 ⟨rfl, hw1⟩; obtain rfl := hw1.symm) | (go_at_call 109; with_reducible refine (qI _).mono ?_; rintro e w1 ⟨rfl, hw1⟩; obtain rfl := hw1.symm) | (go_at_call 110; with_reducible refine (qH _).mono ?_; rintro e w1 ⟨rfl, hw1⟩; obtain rfl := hw1.symm))
        go_ret
        exact ⟨by rw [HE.out]; rfl, hbel⟩
      · subst e
        rw [e0] at qP
        rw [e1] at qI
        rw [e2] at qH
        have HE : Hid (R = 1) := HS
        go_wp2_with (first | (go_at_call 162; with_reducible refine (qP _).mono ?_; rintro e w1 ⟨rfl, hw1⟩; obtain rfl := hw1.symm) | (go_at_call 109; with_reducible refine (qI _).mono ?_; rintro e w1 ⟨rfl, hw1⟩; obtain rfl := hw1.symm) | (go_at_call 110; with_reducible refine (qH _).mono ?_; rintro e w1 ⟨rfl, hw1⟩; obtain rfl := hw1.symm))
        go_ret
        exact ⟨by rw [HE.out]; rfl, hbel⟩
      · subst e
        rw [e0] at qP
        rw [e1] at qI
        rw [e2] at qH
        rw [e3] at x1
        have d4 : (x.c2 != 0) = true := by simp only [bne, e4]; rfl
        have HE : Hid (R = 1) := HS
        go_wp2_with (first | (go_at_call 162; with_reducible refine (qP _).mono ?_; rintro e w1 ⟨rfl, hw1⟩; obtain rfl := hw1.symm) | (go_at_call 109; with_reducible refine (qI _).mono ?_; rintro e w1 ⟨rfl, hw1⟩; obtain rfl := hw1.symm) | (go_at_call 110; with_reducible refine (qH _).mono ?_; rintro e w1 ⟨rfl, hw1⟩; obtain rfl := hw1.symm))
        go_ret
        exact ⟨by rw [HE.out]; rfl, hbel⟩
      all_goals
        subst e
        rw [e0] at qP
        rw [e1] at qI
        rw [e2] at qH
        rw [e3] at x1
        try (have d4 : (x.c2 != 0) = false := by simp only [bne, e4]; rfl)
        have HS2 : Hid (R = if alS hasS x.c2 k ((0 : Nat) : Int) (fa.drop 0) = false then 1 else faF hasS fa ((k + 1 : Nat) : Int) (fa.drop (k + 1))) := by
          show _ = _
          rw [HS.out]
          show (if ((if alS hasS x.c2 k 0 fa = false then (1 : Int) else 0) == 0) = false then (if alS hasS x.c2 k 0 fa = false then (1 : Int) else 0) else _) = (if alS hasS x.c2 k 0 fa = false then (1 : Int) else _)
          cases alS hasS x.c2 k 0 fa <;> rfl
        clear HS
        go_wp2_with (first | (go_at_call 162; with_reducible refine (qP _).mono ?_; rintro e w1 ⟨rfl, hw1⟩; obtain rfl := hw1.symm) | (go_at_call 109; with_reducible refine (qI _).mono ?_; rintro e w1 ⟨rfl, hw1⟩; obtain rfl := hw1.symm) | (go_at_call 110; with_reducible refine (qH _).mono ?_; rintro e w1 ⟨rfl, hw1⟩; obtain rfl := hw1.symm))
        go_loopw [5] (fun j wr => ∃ i : Nat, i ≤ 4 ∧ j = .int .i64 i ∧ Hid (R = if alS hasS x.c2 k (i : Int) (fa.drop i) = false then 1 else faF hasS fa ((k + 1 : Nat) : Int) (fa.drop (k + 1))) ∧ Below w.heap.size w wr) (fun j _ => 4 - (intOf j).toNat)
        case atStart => exact ⟨0, Nat.zero_le _, rfl, HS2, hbel⟩
        case round =>
          obtain ⟨i, hi, rfl, Hi, hbel⟩ := hrel
          obtain ⟨x0, x1, x2, xl⟩ := (Hat.out.later hb hbel).one (Nat.lt_of_lt_of_le hb hbel.size) Hx.out
          by_cases hlti : i < 4
          · have hlti' : (i : Int) < 4 := by omega
            obtain ⟨y, hy⟩ : ∃ y, fa[i]? = some y := ⟨_, List.getElem?_eq_getElem (by have := H4.out; omega)⟩
            obtain ⟨y0, y1, y2, yl⟩ := (Hat.out.later hb hbel).one (Nat.lt_of_lt_of_le hb hbel.size) hy
            have r1 := fun w => l6Has_c x.c2 (i : Int) (by omega) (by omega) w
            have r2 := fun w => l6Has_c y.c2 (k : Int) (by omega) (by have := Hlt.out; omega) w
            have HT : Hid (R = if ((!(hasS x.c2 i) || hasS y.c2 k) && alS hasS x.c2 k ((i + 1 : Nat) : Int) (fa.drop (i + 1))) = false then 1 else faF hasS fa ((k + 1 : Nat) : Int) (fa.drop (k + 1))) := by show _ = _; rw [Hi.out, alS_step hy]
            clear hy Hi
            cases f1 : hasS x.c2 i
            · rw [f1] at r1 HT
              have HE : Hid (R = if alS hasS x.c2 k ((i + 1 : Nat) : Int) (fa.drop (i + 1)) = false then 1 else faF hasS fa ((k + 1 : Nat) : Int) (fa.drop (k + 1))) := HT
              go_wp2_with (first | (go_at_call 110; with_reducible refine (r1 _).mono ?_; rintro e w1 ⟨rfl, hw1⟩; obtain rfl := hw1.symm) | (go_at_call 110; with_reducible refine (r2 _).mono ?_; rintro e w1 ⟨rfl, hw1⟩; obtain rfl := hw1.symm))
              go_roundw
              case rel => exact ⟨i + 1, by omega, by go_num, HE, hbel⟩
              case measure => simp [intOf]; omega
            · rw [f1] at r1 HT
              cases f2 : hasS y.c2 k
              · rw [f2] at r2 HT
                have HE : Hid (R = 1) := HT
                go_wp2_with (first | (go_at_call 110; with_reducible refine (r1 _).mono ?_; rintro e w1 ⟨rfl, hw1⟩; obtain rfl := hw1.symm) | (go_at_call 110; with_reducible refine (r2 _).mono ?_; rintro e w1 ⟨rfl, hw1⟩; obtain rfl := hw1.symm))
                go_ret
                exact ⟨by rw [HE.out]; rfl, hbel⟩
              · rw [f2] at r2 HT
                have HE : Hid (R = if alS hasS x.c2 k ((i + 1 : Nat) : Int) (fa.drop (i + 1)) = false then 1 else faF hasS fa ((k + 1 : Nat) : Int) (fa.drop (k + 1))) := HT
                go_wp2_with (first | (go_at_call 110; with_reducible refine (r1 _).mono ?_; rintro e w1 ⟨rfl, hw1⟩; obtain rfl := hw1.symm) | (go_at_call 110; with_reducible refine (r2 _).mono ?_; rintro e w1 ⟨rfl, hw1⟩; obtain rfl := hw1.symm))
                go_roundw
                case rel => exact ⟨i + 1, by omega, by go_num, HE, hbel⟩
                case measure => simp [intOf]; omega
          · obtain rfl : i = 4 := by omega
            have HE : Hid (R = faF hasS fa ((k + 1 : Nat) : Int) (fa.drop (k + 1))) := by show _ = _; rw [Hi.out, List.drop_of_length_le (l := fa) (i := 4) (by have := H4.out; omega)]; rfl
            go_wp2
            go_roundw
            case rel => exact ⟨k + 1, by have := Hlt.out; omega, by go_num, HE, hbel⟩
            case measure => have := Hlt.out; simp [intOf]; omega
    · obtain rfl : k = 4 := by omega
      have HE : Hid (R = 0) := by show _ = _; rw [Hk.out, List.drop_of_length_le (by have := H4.out; omega)]; rfl
      go_wp2
      go_ret
      exact ⟨by rw [HE.out]; rfl, hbel⟩
end Go.Proofs.Ytibkdkjcncfmgaa
