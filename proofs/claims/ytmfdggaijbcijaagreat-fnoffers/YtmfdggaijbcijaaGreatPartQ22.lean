/- Texts of mine put together (a claim holds at most 60 files): WfSpec, WfSpec2. -/
import Derived.Test.YtmfdggaijbcijaaGreatPartQ21

/- WfSpec -/
/- Contracts of the model's parts of WorldFault: factions. Condition: there are four factions, which lie in memory as they were laid there. -/
section
namespace Go.Proofs.YtmfdggaijbcijaaGreat
open Go.ChangeShapes Go.WideShapes Go.ChangeAt Go.RowKit
open Bd
set_option linter.unusedVariables false

theorem l1Purse_s (v : Int) (w : World) : Calls Tryz.prog 109 #[.int .i64 v] w fun e w' => e = .returned (.bool (inb v 0 1000000)) ∧ w' = w := by
  go_enter Tryz.func109, Tryz.ntmps109
  go_wp2_with (go_at_call 78; refine (l1In_c v 0 1000000 _).mono ?_; rintro e w1 ⟨rfl, rfl⟩)
  go_ret
  exact ⟨rfl, rfl⟩
theorem l6Side_s (v : Int) (w : World) : Calls Tryz.prog 43 #[.int .i64 v] w fun e w' => e = .returned (.bool (inb v 0 3)) ∧ w' = w := by
  go_enter Tryz.func43, Tryz.ntmps43
  go_wp2_with (go_at_call 78; refine (l1In_c v 0 3 _).mono ?_; rintro e w1 ⟨rfl, rfl⟩)
  go_ret
  exact ⟨rfl, rfl⟩
theorem faS_cases (fa : List KA) (h4 : fa.length = 4) (i : Nat) (hi : i < 4) (f : KA) : (inb f.c0 0 1000000 = false ∧ faC hasS fa i f = 3) ∨ (inb f.c0 0 1000000 = true ∧ inb f.c2 0 15 = false ∧ faC hasS fa i f = 3) ∨
    (inb f.c0 0 1000000 = true ∧ inb f.c2 0 15 = true ∧ hasS f.c2 i = true ∧ faC hasS fa i f = 1) ∨
    (inb f.c0 0 1000000 = true ∧ inb f.c2 0 15 = true ∧ hasS f.c2 i = false ∧ f.c1 = true ∧ (f.c2 == 0) = false ∧ faC hasS fa i f = 1) ∨
    (inb f.c0 0 1000000 = true ∧ inb f.c2 0 15 = true ∧ hasS f.c2 i = false ∧ f.c1 = true ∧ (f.c2 == 0) = true ∧ faC hasS fa i f = if alS hasS f.c2 i 0 fa = false then 1 else 0) ∨
    (inb f.c0 0 1000000 = true ∧ inb f.c2 0 15 = true ∧ hasS f.c2 i = false ∧ f.c1 = false ∧ faC hasS fa i f = if alS hasS f.c2 i 0 fa = false then 1 else 0) := by
  have hb : alB hasS f.c2 i 0 fa = (!(hasS f.c2 i) && alS hasS f.c2 i 0 fa) := by
    match fa, h4 with
    | [a, b, c, d], _ => exact alB_four hasS f.c2 a b c d i hi
  unfold faC faR faG
  rw [hb]
  cases e0 : inb f.c0 0 1000000
  · exact .inl ⟨rfl, by simp⟩
  cases e2 : inb f.c2 0 15
  · exact .inr (.inl ⟨rfl, rfl, by simp⟩)
  cases eo : hasS f.c2 i
  · cases e1 : f.c1
    · exact .inr (.inr (.inr (.inr (.inr ⟨rfl, rfl, rfl, rfl, by simp⟩))))
    · cases e3 : f.c2 == 0
      · exact .inr (.inr (.inr (.inl ⟨rfl, rfl, rfl, rfl, rfl, by simp [bne, e3]⟩)))
      · exact .inr (.inr (.inr (.inr (.inl ⟨rfl, rfl, rfl, rfl, rfl, by simp [bne, e3]⟩))))
  · exact .inr (.inr (.inl ⟨rfl, rfl, rfl, by simp⟩))
set_option maxHeartbeats 8000000 in
theorem l6Factions_c (a : Option Addr) (c : Nat) (fa : List KA) (h4 : fa.length = 4) (w : World) (hA : ArgA w a fa) :
    Calls Tryz.prog 80 #[.slice a 4 c] w fun e w' => e = .returned (.int .i64 (faF hasS fa 0 fa)) ∧ Below w.heap.size w w' := by
  obtain ⟨b, off, rfl, hb, hat⟩ := hA.four h4
  have Hat : Hid (AAt w b off fa) := hat
  have H4 : Hid (fa.length = 4) := h4
  obtain ⟨R, HR⟩ : ∃ R : Int, Hid (R = faF hasS fa 0 fa) := ⟨_, rfl⟩
  rw [← HR.out]
  have HR0 : Hid (R = faF hasS fa ((0 : Nat) : Int) (fa.drop 0)) := HR
  clear hat h4 hA HR
  go_enter Tryz.func80, Tryz.ntmps80
  go_wp2
  go_loopw [3] (fun j wr => ∃ k : Nat, k ≤ 4 ∧ j = .int .i64 k ∧ Hid (R = faF hasS fa (k : Int) (fa.drop k)) ∧ Below w.heap.size w wr) (fun j _ => 4 - (intOf j).toNat)
  case atStart => exact ⟨0, Nat.zero_le _, rfl, HR0, Below.refl _ _⟩
  case round =>
    obtain ⟨k, hk, rfl, Hk, hbel⟩ := hrel
    by_cases hlt : k < 4
    · have hlt' : (k : Int) < 4 := by omega
      have Hlt : Hid (k < 4) := hlt
      obtain ⟨x, hx⟩ : ∃ x, fa[k]? = some x := ⟨_, List.getElem?_eq_getElem (by have := H4.out; omega)⟩
      obtain ⟨x0, x1, x2, xl⟩ := (Hat.out.later hb hbel).one (Nat.lt_of_lt_of_le hb hbel.size) hx
      have Hx : Hid (fa[k]? = some x) := hx
      have qP := fun w => l1Purse_s x.c0 w
      have qI := fun w => l1In_c x.c2 0 15 w
      have qH := fun w => l6Has_c x.c2 (k : Int) (by omega) (by omega) w
      have HS : Hid (R = if (faC hasS fa k x == 0) = false then faC hasS fa k x else faF hasS fa ((k + 1 : Nat) : Int) (fa.drop (k + 1))) := by show _ = _; rw [Hk.out, faF_step hx]
      have hc := faS_cases fa H4.out k hlt x
      clear hx Hk
      generalize faC hasS fa k x = FC at HS hc
      rcases hc with ⟨e0, e⟩ | ⟨e0, e1, e⟩ | ⟨e0, e1, e2, e⟩ | ⟨e0, e1, e2, e3, e4, e⟩ | ⟨e0, e1, e2, e3, e4, e⟩ | ⟨e0, e1, e2, e3, e⟩
      · subst e
        rw [e0] at qP
        have HE : Hid (R = 3) := HS
        go_wp2_with (first | (go_at_call 109; with_reducible refine (qP _).mono ?_; rintro e w1 ⟨rfl, hw1⟩; obtain rfl := hw1.symm) | (go_at_call 78; with_reducible refine (qI _).mono ?_; rintro e w1 ⟨rfl, hw1⟩; obtain rfl := hw1.symm) | (go_at_call 45; with_reducible refine (qH _).mono ?_; rintro e w1 ⟨rfl, hw1⟩; obtain rfl := hw1.symm))
        go_ret
        exact ⟨by rw [HE.out]; rfl, hbel⟩
      · subst e
        rw [e0] at qP
        rw [e1] at qI
        have HE : Hid (R = 3) := HS
        go_wp2_with (first | (go_at_call 109; with_reducible refine (qP _).mono ?_; rintro e w1 ⟨rfl, hw1⟩; obtain rfl := hw1.symm) | (go_at_call 78; with_reducible refine (qI _).mono ?_; rintro e w1 ⟨rfl, hw1⟩; obtain rfl := hw1.symm) | (go_at_call 45; with_reducible refine (qH _).mono ?_; rintro e w1 ⟨rfl, hw1⟩; obtain rfl := hw1.symm))
        go_ret
        exact ⟨by rw [HE.out]; rfl, hbel⟩
      · subst e
        rw [e0] at qP
        rw [e1] at qI
        rw [e2] at qH
        have HE : Hid (R = 1) := HS
        go_wp2_with (first | (go_at_call 109; with_reducible refine (qP _).mono ?_; rintro e w1 ⟨rfl, hw1⟩; obtain rfl := hw1.symm) | (go_at_call 78; with_reducible refine (qI _).mono ?_; rintro e w1 ⟨rfl, hw1⟩; obtain rfl := hw1.symm) | (go_at_call 45; with_reducible refine (qH _).mono ?_; rintro e w1 ⟨rfl, hw1⟩; obtain rfl := hw1.symm))
        go_ret
        exact ⟨by rw [HE.out]; rfl, hbel⟩
      · subst e
        rw [e0] at qP
        rw [e1] at qI
        rw [e2] at qH
        rw [e3] at x1
        have d4 : (x.c2 != 0) = true := by simp only [bne, e4]; rfl
        have HE : Hid (R = 1) := HS
        go_wp2_with (first | (go_at_call 109; with_reducible refine (qP _).mono ?_; rintro e w1 ⟨rfl, hw1⟩; obtain rfl := hw1.symm) | (go_at_call 78; with_reducible refine (qI _).mono ?_; rintro e w1 ⟨rfl, hw1⟩; obtain rfl := hw1.symm) | (go_at_call 45; with_reducible refine (qH _).mono ?_; rintro e w1 ⟨rfl, hw1⟩; obtain rfl := hw1.symm))
        go_ret
        exact ⟨by rw [HE.out]; rfl, hbel⟩
      all_goals
        subst e
        rw [e0] at qP
        rw [e1] at qI
        rw [e2] at qH
        rw [e3] at x1
        try (have d4 : (x.c2 != 0) = false := by simp only [bne, e4]; rfl)
        have HS2 : Hid (R = if alS hasS x.c2 k ((0 : Nat) : Int) (fa.drop 0) = false then 1 else faF hasS fa ((k + 1 : Nat) : Int) (fa.drop (k + 1))) := by
          show _ = _
          rw [HS.out]
          show (if ((if alS hasS x.c2 k 0 fa = false then (1 : Int) else 0) == 0) = false then (if alS hasS x.c2 k 0 fa = false then (1 : Int) else 0) else _) = (if alS hasS x.c2 k 0 fa = false then (1 : Int) else _)
          cases alS hasS x.c2 k 0 fa <;> rfl
        clear HS
        go_wp2_with (first | (go_at_call 109; with_reducible refine (qP _).mono ?_; rintro e w1 ⟨rfl, hw1⟩; obtain rfl := hw1.symm) | (go_at_call 78; with_reducible refine (qI _).mono ?_; rintro e w1 ⟨rfl, hw1⟩; obtain rfl := hw1.symm) | (go_at_call 45; with_reducible refine (qH _).mono ?_; rintro e w1 ⟨rfl, hw1⟩; obtain rfl := hw1.symm))
        go_loopw [5] (fun j wr => ∃ i : Nat, i ≤ 4 ∧ j = .int .i64 i ∧ Hid (R = if alS hasS x.c2 k (i : Int) (fa.drop i) = false then 1 else faF hasS fa ((k + 1 : Nat) : Int) (fa.drop (k + 1))) ∧ Below w.heap.size w wr) (fun j _ => 4 - (intOf j).toNat)
        case atStart => exact ⟨0, Nat.zero_le _, rfl, HS2, hbel⟩
        case round =>
          obtain ⟨i, hi, rfl, Hi, hbel⟩ := hrel
          obtain ⟨x0, x1, x2, xl⟩ := (Hat.out.later hb hbel).one (Nat.lt_of_lt_of_le hb hbel.size) Hx.out
          by_cases hlti : i < 4
          · have hlti' : (i : Int) < 4 := by omega
            obtain ⟨y, hy⟩ : ∃ y, fa[i]? = some y := ⟨_, List.getElem?_eq_getElem (by have := H4.out; omega)⟩
            obtain ⟨y0, y1, y2, yl⟩ := (Hat.out.later hb hbel).one (Nat.lt_of_lt_of_le hb hbel.size) hy
            have r1 := fun w => l6Has_c x.c2 (i : Int) (by omega) (by omega) w
            have r2 := fun w => l6Has_c y.c2 (k : Int) (by omega) (by have := Hlt.out; omega) w
            have HT : Hid (R = if ((!(hasS x.c2 i) || hasS y.c2 k) && alS hasS x.c2 k ((i + 1 : Nat) : Int) (fa.drop (i + 1))) = false then 1 else faF hasS fa ((k + 1 : Nat) : Int) (fa.drop (k + 1))) := by show _ = _; rw [Hi.out, alS_step hy]
            clear hy Hi
            cases f1 : hasS x.c2 i
            · rw [f1] at r1 HT
              have HE : Hid (R = if alS hasS x.c2 k ((i + 1 : Nat) : Int) (fa.drop (i + 1)) = false then 1 else faF hasS fa ((k + 1 : Nat) : Int) (fa.drop (k + 1))) := HT
              go_wp2_with (first | (go_at_call 45; with_reducible refine (r1 _).mono ?_; rintro e w1 ⟨rfl, hw1⟩; obtain rfl := hw1.symm) | (go_at_call 45; with_reducible refine (r2 _).mono ?_; rintro e w1 ⟨rfl, hw1⟩; obtain rfl := hw1.symm))
              go_roundw
              case rel => exact ⟨i + 1, by omega, by go_num, HE, hbel⟩
              case measure => simp [intOf]; omega
            · rw [f1] at r1 HT
              cases f2 : hasS y.c2 k
              · rw [f2] at r2 HT
                have HE : Hid (R = 1) := HT
                go_wp2_with (first | (go_at_call 45; with_reducible refine (r1 _).mono ?_; rintro e w1 ⟨rfl, hw1⟩; obtain rfl := hw1.symm) | (go_at_call 45; with_reducible refine (r2 _).mono ?_; rintro e w1 ⟨rfl, hw1⟩; obtain rfl := hw1.symm))
                go_ret
                exact ⟨by rw [HE.out]; rfl, hbel⟩
              · rw [f2] at r2 HT
                have HE : Hid (R = if alS hasS x.c2 k ((i + 1 : Nat) : Int) (fa.drop (i + 1)) = false then 1 else faF hasS fa ((k + 1 : Nat) : Int) (fa.drop (k + 1))) := HT
                go_wp2_with (first | (go_at_call 45; with_reducible refine (r1 _).mono ?_; rintro e w1 ⟨rfl, hw1⟩; obtain rfl := hw1.symm) | (go_at_call 45; with_reducible refine (r2 _).mono ?_; rintro e w1 ⟨rfl, hw1⟩; obtain rfl := hw1.symm))
                go_roundw
                case rel => exact ⟨i + 1, by omega, by go_num, HE, hbel⟩
                case measure => simp [intOf]; omega
          · obtain rfl : i = 4 := by omega
            have HE : Hid (R = faF hasS fa ((k + 1 : Nat) : Int) (fa.drop (k + 1))) := by show _ = _; rw [Hi.out, List.drop_of_length_le (l := fa) (i := 4) (by have := H4.out; omega)]; rfl
            go_wp2
            go_roundw
            case rel => exact ⟨k + 1, by have := Hlt.out; omega, by go_num, HE, hbel⟩
            case measure => have := Hlt.out; simp [intOf]; omega
    · obtain rfl : k = 4 := by omega
      have HE : Hid (R = 0) := by show _ = _; rw [Hk.out, List.drop_of_length_le (by have := H4.out; omega)]; rfl
      go_wp2
      go_ret
      exact ⟨by rw [HE.out]; rfl, hbel⟩
end Go.Proofs.YtmfdggaijbcijaaGreat
end

/- WfSpec2 -/
/- Contracts of the model's parts of WorldFault: seats. Condition: there are four factions, and the lists lie in memory as they were laid there. -/
section
namespace Go.Proofs.YtmfdggaijbcijaaGreat
open Go.ChangeShapes Go.WideShapes Go.ChangeAt Go.RowKit
open Bd
set_option linter.unusedVariables false

structure At7 (w : World) (g : Nat) (t s : Int) (vu vf va vs vo : Value) : Prop where
  c0 : w.cell? ⟨g, 0, none⟩ = some (.int .i64 t)
  c1 : w.cell? ⟨g, 1, none⟩ = some (.int .i64 s)
  c2 : w.cell? ⟨g, 2, none⟩ = some vu
  c3 : w.cell? ⟨g, 3, none⟩ = some vf
  c4 : w.cell? ⟨g, 4, none⟩ = some va
  c5 : w.cell? ⟨g, 5, none⟩ = some vs
  c6 : w.cell? ⟨g, 6, none⟩ = some vo
  lt : g < w.heap.size
theorem At7.later {w w' : World} {g : Nat} {t s : Int} {vu vf va vs vo : Value} (h : At7 w g t s vu vf va vs vo) (hb : Below w.heap.size w w') : At7 w' g t s vu vf va vs vo :=
  ⟨by rw [hb.cell h.lt]; exact h.c0, by rw [hb.cell h.lt]; exact h.c1, by rw [hb.cell h.lt]; exact h.c2, by rw [hb.cell h.lt]; exact h.c3, by rw [hb.cell h.lt]; exact h.c4, by rw [hb.cell h.lt]; exact h.c5, by rw [hb.cell h.lt]; exact h.c6, Nat.lt_of_lt_of_le h.lt hb.size⟩
theorem At7.new (w : World) (t s : Int) (vu vf va vs vo : Value) (ty : TypeId) : At7 (w.alloc (.cells #[.int .i64 t, .int .i64 s, vu, vf, va, vs, vo] ty)) w.heap.size t s vu vf va vs vo :=
  ⟨cell_new _ _ _ _ _ rfl, cell_new _ _ _ _ _ rfl, cell_new _ _ _ _ _ rfl, cell_new _ _ _ _ _ rfl, cell_new _ _ _ _ _ rfl, cell_new _ _ _ _ _ rfl, cell_new _ _ _ _ _ rfl, by rw [size_new]; omega⟩
theorem seS_cases (s : K4) : (inb s.c0 0 5 = false ∧ seR s = false) ∨ (inb s.c0 0 5 = true ∧ inb s.c1 0 3 = false ∧ seR s = false) ∨ (inb s.c0 0 5 = true ∧ inb s.c1 0 3 = true ∧ inb s.c2 0 2047 = false ∧ seR s = false) ∨
    (inb s.c0 0 5 = true ∧ inb s.c1 0 3 = true ∧ inb s.c2 0 2047 = true ∧ inb s.c3 0 999 = false ∧ seR s = false) ∨ (inb s.c0 0 5 = true ∧ inb s.c1 0 3 = true ∧ inb s.c2 0 2047 = true ∧ inb s.c3 0 999 = true ∧ seR s = true) := by
  unfold seR
  cases inb s.c0 0 5 <;> cases inb s.c1 0 3 <;> cases inb s.c2 0 2047 <;> cases inb s.c3 0 999 <;> simp
set_option maxRecDepth 20000 in
set_option maxHeartbeats 8000000 in
theorem l6Seats_c (p : Nat) (t s : Int) (u : Option Addr) (mu uc : Nat) (f : Option Addr) (mf fc : Nat) (a : Option Addr) (ac : Nat) (q : Option Addr) (ms qc : Nat) (r : Option Addr) (mo rc : Nat) (fa : List KA) (se : List K4) (h4 : fa.length = 4) (hl : se.length = ms) (hm : ms ≤ 6) (w : World) (hP : At7 w p t s (.slice u mu uc) (.slice f mf fc) (.slice a 4 ac) (.slice q ms qc) (.slice r mo rc)) (hA : ArgA w a fa) (hS : ArgS w q se) :
    Calls Tryz.prog 81 #[.pointer (some ⟨p, 0, none⟩)] w fun e w' => e = .returned (.int .i64 (seF fa none se)) ∧ Below w.heap.size w w' := by
  obtain ⟨ba, oa, rfl, hba, hat⟩ := hA.four h4
  have Hat : Hid (AAt w ba oa fa) := hat
  have HS : Hid (ArgS w q se) := hS
  have Hl : Hid (se.length = ms) := hl
  have H4 : Hid (fa.length = 4) := h4
  have HP : Hid (At7 w p t s (.slice u mu uc) (.slice f mf fc) (.slice (some ⟨ba, oa, none⟩) 4 ac) (.slice q ms qc) (.slice r mo rc)) := hP
  obtain ⟨R, HR⟩ : ∃ R : Int, Hid (R = seF fa none se) := ⟨_, rfl⟩
  rw [← HR.out]
  have HR0 : Hid (R = seF fa (prevC se 0) (se.drop 0)) := HR
  clear hat hS hl h4 hA HR hP
  go_enter Tryz.func81, Tryz.ntmps81
  go_wp2_with fail
  go_loopw [3] (fun j wr => ∃ k : Nat, k ≤ ms ∧ j = .int .i64 k ∧ Hid (R = seF fa (prevC se k) (se.drop k)) ∧ Below w.heap.size w wr) (fun j _ => ms - (intOf j).toNat)
  case atStart => exact ⟨0, Nat.zero_le _, rfl, HR0, Below.refl _ _⟩
  case round =>
    obtain ⟨k, hk, rfl, Hk, hbel⟩ := hrel
    obtain ⟨_, _, _, _, p4, p5, _, pl⟩ := HP.out.later hbel
    by_cases hlt : k < ms
    · have hlt' : (k : Int) < (ms : Int) := by omega
      obtain ⟨x, hx⟩ : ∃ x, se[k]? = some x := ⟨_, List.getElem?_eq_getElem (by have := Hl.out; omega)⟩
      obtain ⟨b, off, rfl, hb, hat⟩ := HS.out.at hx
      obtain ⟨x0, x1, x2, x3, xl⟩ := (hat.later hb hbel).one (Nat.lt_of_lt_of_le hb hbel.size) hx
      have hS2 : Hid (R = if seR x = false then 3 else if leP (prevC se k) x.c0 = true then 1 else if goneA fa x.c1 = true then 1 else seF fa (some x.c0) (se.drop (k + 1))) := by show _ = _; rw [Hk.out, seF_step hx]
      have HN : Hid (prevC se (k + 1) = some x.c0) := prevC_next hx
      have Hsat : Hid (SAt w b off se) := hat
      have q0 := fun w => l1In_c x.c0 0 5 w
      have q1 := fun w => l6Side_s x.c1 w
      have q2 := fun w => l1In_c x.c2 0 2047 w
      have q3 := fun w => l1In_c x.c3 0 999 w
      clear hx hat Hk
      rcases seS_cases x with ⟨e0, e⟩ | ⟨e0, e1, e⟩ | ⟨e0, e1, e2, e⟩ | ⟨e0, e1, e2, e3, e⟩ | ⟨e0, e1, e2, e3, e⟩
      · have HE : Hid (R = 3) := by show _ = _; rw [hS2.out, if_pos e]
        rw [e0] at q0
        go_wp2_with (first | (go_at_call 78; with_reducible refine (q0 _).mono ?_; rintro e w1 ⟨rfl, hw1⟩; obtain rfl := hw1.symm) | (go_at_call 43; with_reducible refine (q1 _).mono ?_; rintro e w1 ⟨rfl, hw1⟩; obtain rfl := hw1.symm) | (go_at_call 78; with_reducible refine (q2 _).mono ?_; rintro e w1 ⟨rfl, hw1⟩; obtain rfl := hw1.symm) | (go_at_call 78; with_reducible refine (q3 _).mono ?_; rintro e w1 ⟨rfl, hw1⟩; obtain rfl := hw1.symm))
        go_ret
        exact ⟨by rw [HE.out]; rfl, hbel⟩
      · have HE : Hid (R = 3) := by show _ = _; rw [hS2.out, if_pos e]
        rw [e0] at q0
        rw [e1] at q1
        go_wp2_with (first | (go_at_call 78; with_reducible refine (q0 _).mono ?_; rintro e w1 ⟨rfl, hw1⟩; obtain rfl := hw1.symm) | (go_at_call 43; with_reducible refine (q1 _).mono ?_; rintro e w1 ⟨rfl, hw1⟩; obtain rfl := hw1.symm) | (go_at_call 78; with_reducible refine (q2 _).mono ?_; rintro e w1 ⟨rfl, hw1⟩; obtain rfl := hw1.symm) | (go_at_call 78; with_reducible refine (q3 _).mono ?_; rintro e w1 ⟨rfl, hw1⟩; obtain rfl := hw1.symm))
        go_ret
        exact ⟨by rw [HE.out]; rfl, hbel⟩
      · have HE : Hid (R = 3) := by show _ = _; rw [hS2.out, if_pos e]
        rw [e0] at q0
        rw [e1] at q1
        rw [e2] at q2
        go_wp2_with (first | (go_at_call 78; with_reducible refine (q0 _).mono ?_; rintro e w1 ⟨rfl, hw1⟩; obtain rfl := hw1.symm) | (go_at_call 43; with_reducible refine (q1 _).mono ?_; rintro e w1 ⟨rfl, hw1⟩; obtain rfl := hw1.symm) | (go_at_call 78; with_reducible refine (q2 _).mono ?_; rintro e w1 ⟨rfl, hw1⟩; obtain rfl := hw1.symm) | (go_at_call 78; with_reducible refine (q3 _).mono ?_; rintro e w1 ⟨rfl, hw1⟩; obtain rfl := hw1.symm))
        go_ret
        exact ⟨by rw [HE.out]; rfl, hbel⟩
      · have HE : Hid (R = 3) := by show _ = _; rw [hS2.out, if_pos e]
        rw [e0] at q0
        rw [e1] at q1
        rw [e2] at q2
        rw [e3] at q3
        go_wp2_with (first | (go_at_call 78; with_reducible refine (q0 _).mono ?_; rintro e w1 ⟨rfl, hw1⟩; obtain rfl := hw1.symm) | (go_at_call 43; with_reducible refine (q1 _).mono ?_; rintro e w1 ⟨rfl, hw1⟩; obtain rfl := hw1.symm) | (go_at_call 78; with_reducible refine (q2 _).mono ?_; rintro e w1 ⟨rfl, hw1⟩; obtain rfl := hw1.symm) | (go_at_call 78; with_reducible refine (q3 _).mono ?_; rintro e w1 ⟨rfl, hw1⟩; obtain rfl := hw1.symm))
        go_ret
        exact ⟨by rw [HE.out]; rfl, hbel⟩
      · obtain ⟨i0, i1⟩ := inb_i e1
        obtain ⟨g, hg, hgo, _⟩ := side_at H4.out i0 i1
        have hi4 : x.c1 < 4 := by omega
        have hS3 : Hid (R = if leP (prevC se k) x.c0 = true then 1 else if g.c1 = true then 1 else seF fa (some x.c0) (se.drop (k + 1))) := by show _ = _; rw [hS2.out, if_neg (by rw [e]; simp), hgo]
        rw [e0] at q0
        rw [e1] at q1
        rw [e2] at q2
        rw [e3] at q3
        obtain ⟨y0, y1, y2, yl⟩ := (Hat.out.later hba hbel).one (Nat.lt_of_lt_of_le hba hbel.size) hg
        clear hg hgo hS2 e
        go_upto_region 7 with (first | (go_at_call 78; with_reducible refine (q0 _).mono ?_; rintro e w1 ⟨rfl, hw1⟩; obtain rfl := hw1.symm) | (go_at_call 43; with_reducible refine (q1 _).mono ?_; rintro e w1 ⟨rfl, hw1⟩; obtain rfl := hw1.symm) | (go_at_call 78; with_reducible refine (q2 _).mono ?_; rintro e w1 ⟨rfl, hw1⟩; obtain rfl := hw1.symm) | (go_at_call 78; with_reducible refine (q3 _).mono ?_; rintro e w1 ⟨rfl, hw1⟩; obtain rfl := hw1.symm))
        cases eg : g.c1
        · rw [eg] at y1
          rcases k with _ | k
          · have HE : Hid (R = seF fa (prevC se (0 + 1)) (se.drop (0 + 1))) := by show _ = _; rw [hS3.out, HN.out, eg]; rfl
            have x1' : wr.cell? ⟨b, off + 1, none⟩ = some (.int .i64 x.c1) := by have h := x1; simp only [Nat.zero_mul, Nat.add_zero] at h; exact h
            go_quiet (fail)
            go_wp2
            go_roundw
            case rel => exact ⟨0 + 1, by omega, by go_num, HE, hbel.trans ((below_drewN _ _).mono hbel.size)⟩
            case measure => simp [intOf]; omega
          · obtain ⟨y, hy⟩ : ∃ y, se[k]? = some y := ⟨_, List.getElem?_eq_getElem (by have := Hl.out; omega)⟩
            have HPv : Hid (prevC se (k + 1) = some y.c0) := prevC_next hy
            obtain ⟨v0, v1, v2, v3, vl⟩ := (Hsat.out.later hb hbel).one (Nat.lt_of_lt_of_le hb hbel.size) hy
            clear hy
            cases hd : decide (x.c0 ≤ y.c0)
            · have HE : Hid (R = seF fa (prevC se (k + 1 + 1)) (se.drop (k + 1 + 1))) := by show _ = _; rw [hS3.out, HN.out, HPv.out, eg, if_neg (by show ¬ decide (x.c0 ≤ y.c0) = true; rw [hd]; simp)]; rfl
              go_quiet (fail)
              go_wp2
              go_roundw
              case rel => exact ⟨k + 1 + 1, by omega, by go_num, HE, hbel.trans ((below_drewN _ _).mono hbel.size)⟩
              case measure => simp [intOf]; omega
            · have HE : Hid (R = 1) := by show _ = _; rw [hS3.out, HPv.out, if_pos (show leP (some y.c0) x.c0 = true from hd)]
              go_quiet (fail)
              go_wp2
              go_ret
              exact ⟨by rw [HE.out]; rfl, hbel.trans ((below_drewN _ _).mono hbel.size)⟩
        · rw [eg] at y1
          rcases k with _ | k
          · have HE : Hid (R = 1) := by show _ = _; rw [hS3.out, eg]; rfl
            have x1' : wr.cell? ⟨b, off + 1, none⟩ = some (.int .i64 x.c1) := by have h := x1; simp only [Nat.zero_mul, Nat.add_zero] at h; exact h
            go_quiet (fail)
            go_wp2
            go_ret
            exact ⟨by rw [HE.out]; rfl, hbel.trans ((below_drewN _ _).mono hbel.size)⟩
          · obtain ⟨y, hy⟩ : ∃ y, se[k]? = some y := ⟨_, List.getElem?_eq_getElem (by have := Hl.out; omega)⟩
            obtain ⟨v0, v1, v2, v3, vl⟩ := (Hsat.out.later hb hbel).one (Nat.lt_of_lt_of_le hb hbel.size) hy
            have HE : Hid (R = 1) := by show _ = _; rw [hS3.out, eg, if_pos rfl]; split <;> rfl
            clear hy
            cases hd : decide (x.c0 ≤ y.c0)
            · go_quiet (fail)
              go_wp2
              go_ret
              exact ⟨by rw [HE.out]; rfl, hbel.trans ((below_drewN _ _).mono hbel.size)⟩
            · go_quiet (fail)
              go_wp2
              go_ret
              exact ⟨by rw [HE.out]; rfl, hbel.trans ((below_drewN _ _).mono hbel.size)⟩
    · obtain rfl : ms = k := by omega
      have HE : Hid (R = 0) := by show _ = _; rw [Hk.out, List.drop_of_length_le (by have := Hl.out; omega)]; rfl
      go_wp2
      go_ret
      exact ⟨by rw [HE.out]; rfl, hbel⟩
end Go.Proofs.YtmfdggaijbcijaaGreat
end
