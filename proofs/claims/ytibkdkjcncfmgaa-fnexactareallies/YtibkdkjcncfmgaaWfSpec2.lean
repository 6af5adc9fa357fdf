/- Contracts of the model's parts of WorldFault: seats. Condition: there are four factions, and the lists lie in memory as they were laid there. -/
import Derived.Test.YtibkdkjcncfmgaaWfSpec
namespace Go.Proofs.Ytibkdkjcncfmgaa
open Go.ChangeShapes Go.WideShapes Go.ChangeAt Go.RowKit
open Bd
set_option linter.unusedVariables false

structure At7 (w : World) (g : Nat) (t s : Int) (vu vf va vs vo : Value) : Prop where
  c0 : w.cell? ⟨g, 0, none⟩ = some (.int .i64 t)
  c1 : w.cell? ⟨g, 1, none⟩ = some (.int .i64 s)
  c2 : w.cell? ⟨g, 2, none⟩ = some vu
  c3 : w.cell? ⟨g, 3, none⟩ = some vf
  c4 : w.cell? ⟨g, 4, none⟩ = some va
  c5 : w.cell? ⟨g, 5, none⟩ = some vs
  c6 : w.cell? ⟨g, 6, none⟩ = some vo
  lt : g < w.heap.size
theorem At7.later {w w' : World} {g : Nat} {t s : Int} {vu vf va vs vo : Value} (h : At7 w g t s vu vf va vs vo) (hb : Below w.heap.size w w') : At7 w' g t s vu vf va vs vo :=
  ⟨by rw [hb.cell h.lt]; exact h.c0, by rw [hb.cell h.lt]; exact h.c1, by rw [hb.cell h.lt]; exact h.c2, by rw [hb.cell h.lt]; exact h.c3, by rw [hb.cell h.lt]; exact h.c4, by rw [hb.cell h.lt]; exact h.c5, by rw [hb.cell h.lt]; exact h.c6, Nat.lt_of_lt_of_le h.lt hb.size⟩
theorem At7.new (w : World) (t s : Int) (vu vf va vs vo : Value) (ty : TypeId) : At7 (w.alloc (.cells #[.int .i64 t, .int .i64 s, vu, vf, va, vs, vo] ty)) w.heap.size t s vu vf va vs vo :=
  ⟨cell_new _ _ _ _ _ rfl, cell_new _ _ _ _ _ rfl, cell_new _ _ _ _ _ rfl, cell_new _ _ _ _ _ rfl, cell_new _ _ _ _ _ rfl, cell_new _ _ _ _ _ rfl, cell_new _ _ _ _ _ rfl, by rw [size_new]; omega⟩
theorem seS_cases (s : K4) : (inb s.c0 0 5 = false ∧ seR s = false) ∨ (inb s.c0 0 5 = true ∧ inb s.c1 0 3 = false ∧ seR s = false) ∨ (inb s.c0 0 5 = true ∧ inb s.c1 0 3 = true ∧ inb s.c2 0 2047 = false ∧ seR s = false) ∨
    (inb s.c0 0 5 = true ∧ inb s.c1 0 3 = true ∧ inb s.c2 0 2047 = true ∧ inb s.c3 0 999 = false ∧ seR s = false) ∨ (inb s.c0 0 5 = true ∧ inb s.c1 0 3 = true ∧ inb s.c2 0 2047 = true ∧ inb s.c3 0 999 = true ∧ seR s = true) := by
  unfold seR
  cases inb s.c0 0 5 <;> cases inb s.c1 0 3 <;> cases inb s.c2 0 2047 <;> cases inb s.c3 0 999 <;> simp
set_option maxRecDepth 20000 in
set_option maxHeartbeats 8000000 in
theorem l6Seats_c (p : Nat) (t s : Int) (u : Option Addr) (mu uc : Nat) (f : Option Addr) (mf fc : Nat) (a : Option Addr) (ac : Nat) (q : Option Addr) (ms qc : Nat) (r : Option Addr) (mo rc : Nat) (fa : List KA) (se : List K4) (h4 : fa.length = 4) (hl : se.length = ms) (hm : ms ≤ 6) (w : World) (hP : At7 w p t s (.slice u mu uc) (.slice f mf fc) (.slice a 4 ac) (.slice q ms qc) (.slice r mo rc)) (hA : ArgA w a fa) (hS : ArgS w q se) :
    Calls Try.prog 130 #[.pointer (some ⟨p, 0, none⟩)] w fun e w' => e = .returned (.int .i64 (seF fa none se)) ∧ Below w.heap.size w w' := by
  obtain ⟨ba, oa, rfl, hba, hat⟩ := hA.four h4
  have Hat : Hid (AAt w ba oa fa) := hat
  have HS : Hid (ArgS w q se) := hS
  have Hl : Hid (se.length = ms) := hl
  have H4 : Hid (fa.length = 4) := h4
  have HP : Hid (At7 w p t s (.slice u mu uc) (.slice f mf fc) (.slice (some ⟨ba, oa, none⟩) 4 ac) (.slice q ms qc) (.slice r mo rc)) := hP
  obtain ⟨R, HR⟩ : ∃ R : Int, Hid (R = seF fa none se) := ⟨_, rfl⟩
  rw [← HR.out]
  have HR0 : Hid (R = seF fa (prevC se 0) (se.drop 0)) := HR
  clear hat hS hl h4 hA HR hP
  go_enter Try.func130, Try.ntmps130
  go_wp2_with fail
  go_loopw [3] (fun j wr => ∃ k : Nat, k ≤ ms ∧ j = .int .i64 k ∧ Hid (R = seF fa (prevC se k) (se.drop k)) ∧ Below w.heap.size w wr) (fun j _ => ms - (intOf j).toNat)
  case atStart => exact ⟨0, Nat.zero_le _, rfl, HR0, Below.refl _ _⟩
  case round =>
    obtain ⟨k, hk, rfl, Hk, hbel⟩ := hrel
    obtain ⟨_, _, _, _, p4, p5, _, pl⟩ := HP.out.later hbel
    by_cases hlt : k < ms
    · have hlt' : (k : Int) < (ms : Int) := by omega
      obtain ⟨x, hx⟩ : ∃ x, se[k]? = some x := ⟨_, List.getElem?_eq_getElem (by have := Hl.out; omega)⟩
      obtain ⟨b, off, rfl, hb, hat⟩ := HS.out.at hx
      obtain ⟨x0, x1, x2, x3, xl⟩ := (hat.later hb hbel).one (Nat.lt_of_lt_of_le hb hbel.size) hx
      have hS2 : Hid (R = if seR x = false then 3 else if leP (prevC se k) x.c0 = true then 1 else if goneA fa x.c1 = true then 1 else seF fa (some x.c0) (se.drop (k + 1))) := by show _ = _; rw [Hk.out, seF_step hx]
      have HN : Hid (prevC se (k + 1) = some x.c0) := prevC_next hx
      have Hsat : Hid (SAt w b off se) := hat
      have q0 := fun w => l1In_c x.c0 0 5 w
      have q1 := fun w => l6Side_s x.c1 w
      have q2 := fun w => l1In_c x.c2 0 2047 w
      have q3 := fun w => l1In_c x.c3 0 999 w
      clear hx hat Hk
      rcases seS_cases x with ⟨e0, e⟩ | ⟨e0, e1, e⟩ | ⟨e0, e1, e2, e⟩ | ⟨e0, e1, e2, e3, e⟩ | ⟨e0, e1, e2, e3, e⟩
      · have HE : Hid (R = 3) := by show _ = _; rw [hS2.out, if_pos e]
        rw [e0] at q0
        go_wp2_with (first | (go_at_call 109; with_reducible refine (q0 _).mono ?_; rintro e w1 ⟨rfl, hw1⟩; obtain rfl := hw1.symm) | (go_at_call 114; with_reducible refine (q1 _).mono ?_; rintro e w1 ⟨rfl, hw1⟩; obtain rfl := hw1.symm) | (go_at_call 109; with_reducible refine (q2 _).mono ?_; rintro e w1 ⟨rfl, hw1⟩; obtain rfl := hw1.symm) | (go_at_call 109; with_reducible refine (q3 _).mono ?_; rintro e w1 ⟨rfl, hw1⟩; obtain rfl := hw1.symm))
        go_ret
        exact ⟨by rw [HE.out]; rfl, hbel⟩
      · have HE : Hid (R = 3) := by show _ = _; rw [hS2.out, if_pos e]
        rw [e0] at q0
        rw [e1] at q1
        go_wp2_with (first | (go_at_call 109; with_reducible refine (q0 _).mono ?_; rintro e w1 ⟨rfl, hw1⟩; obtain rfl := hw1.symm) | (go_at_call 114; with_reducible refine (q1 _).mono ?_; rintro e w1 ⟨rfl, hw1⟩; obtain rfl := hw1.symm) | (go_at_call 109; with_reducible refine (q2 _).mono ?_; rintro e w1 ⟨rfl, hw1⟩; obtain rfl := hw1.symm) | (go_at_call 109; with_reducible refine (q3 _).mono ?_; rintro e w1 ⟨rfl, hw1⟩; obtain rfl := hw1.symm))
        go_ret
        exact ⟨by rw [HE.out]; rfl, hbel⟩
      · have HE : Hid (R = 3) := by show _ = _; rw [hS2.out, if_pos e]
        rw [e0] at q0
        rw [e1] at q1
        rw [e2] at q2
        go_wp2_with (first | (go_at_call 109; with_reducible refine (q0 _).mono ?_; rintro e w1 ⟨rfl, hw1⟩; obtain rfl := hw1.symm) | (go_at_call 114; with_reducible refine (q1 _).mono ?_; rintro e w1 ⟨rfl, hw1⟩; obtain rfl := hw1.symm) | (go_at_call 109; with_reducible refine (q2 _).mono ?_; rintro e w1 ⟨rfl, hw1⟩; obtain rfl := hw1.symm) | (go_at_call 109; with_reducible refine (q3 _).mono ?_; rintro e w1 ⟨rfl, hw1⟩; obtain rfl := hw1.symm))
        go_ret
        exact ⟨by rw [HE.out]; rfl, hbel⟩
      · have HE : Hid (R = 3) := by show _ = _; rw [hS2.out, if_pos e]
        rw [e0] at q0
        rw [e1] at q1
        rw [e2] at q2
        rw [e3] at q3
        go_wp2_with (first | (go_at_call 109; with_reducible refine (q0 _).mono ?_; rintro e w1 ⟨rfl, hw1⟩; obtain rfl := hw1.symm) | (go_at_call 114; with_reducible refine (q1 _).mono ?_; rintro e w1 ⟨rfl, hw1⟩; obtain rfl := hw1.symm) | (go_at_call 109; with_reducible refine (q2 _).mono ?_; rintro e w1 ⟨rfl, hw1⟩; obtain rfl := hw1.symm) | (go_at_call 109; with_reducible refine (q3 _).mono ?_; rintro e w1 ⟨rfl, hw1⟩; obtain rfl := hw1.symm))
        go_ret
        exact ⟨by rw [HE.out]; rfl, hbel⟩
      · obtain ⟨i0, i1⟩ := inb_i e1
        obtain ⟨g, hg, hgo, _⟩ := side_at H4.out i0 i1
        have hi4 : x.c1 < 4 := by omega
        have hS3 : Hid (R = if leP (prevC se k) x.c0 = true then 1 else if g.c1 = true then 1 else seF fa (some x.c0) (se.drop (k + 1))) := by show _ = _; rw [hS2.out, if_neg (by rw [e]; simp), hgo]
        rw [e0] at q0
        rw [e1] at q1
        rw [e2] at q2
        rw [e3] at q3
        obtain ⟨y0, y1, y2, yl⟩ := (Hat.out.later hba hbel).one (Nat.lt_of_lt_of_le hba hbel.size) hg
        clear hg hgo hS2 e
        go_upto_region 7 with (first | (go_at_call 109; with_reducible refine (q0 _).mono ?_; rintro e w1 ⟨rfl, hw1⟩; obtain rfl := hw1.symm) | (go_at_call 114; with_reducible refine (q1 _).mono ?_; rintro e w1 ⟨rfl, hw1⟩; obtain rfl := hw1.symm) | (go_at_call 109; with_reducible refine (q2 _).mono ?_; rintro e w1 ⟨rfl, hw1⟩; obtain rfl := hw1.symm) | (go_at_call 109; with_reducible refine (q3 _).mono ?_; rintro e w1 ⟨rfl, hw1⟩; obtain rfl := hw1.symm))
        cases eg : g.c1
        · rw [eg] at y1
          rcases k with _ | k
          · have HE : Hid (R = seF fa (prevC se (0 + 1)) (se.drop (0 + 1))) := by show _ = _; rw [hS3.out, HN.out, eg]; rfl
            have x1' : wr.cell? ⟨b, off + 1, none⟩ = some (.int .i64 x.c1) := by have h := x1; simp only [Nat.zero_mul, Nat.add_zero] at h; exact h
            go_quiet (fail)
            go_wp2
            go_roundw
            case rel => exact ⟨0 + 1, by omega, by go_num, HE, hbel.trans ((below_drewN _ _).mono hbel.size)⟩
            case measure => simp [intOf]; omega
          · obtain ⟨y, hy⟩ : ∃ y, se[k]? = some y := ⟨_, List.getElem?_eq_getElem (by have := Hl.out; omega)⟩
            have HPv : Hid (prevC se (k + 1) = some y.c0) := prevC_next hy
            obtain ⟨v0, v1, v2, v3, vl⟩ := (Hsat.out.later hb hbel).one (Nat.lt_of_lt_of_le hb hbel.size) hy
            clear hy
            cases hd : decide (x.c0 ≤ y.c0)
            · have HE : Hid (R = seF fa (prevC se (k + 1 + 1)) (se.drop (k + 1 + 1))) := by show _ = _; rw [hS3.out, HN.out, HPv.out, eg, if_neg (by show ¬ decide (x.c0 ≤ y.c0) = true; rw [hd]; simp)]; rfl
              go_quiet (fail)
              go_wp2
              go_roundw
              case rel => exact ⟨k + 1 + 1, by omega, by go_num, HE, hbel.trans ((below_drewN _ _).mono hbel.size)⟩
              case measure => simp [intOf]; omega
            · have HE : Hid (R = 1) := by show _ = _; rw [hS3.out, HPv.out, if_pos (show leP (some y.c0) x.c0 = true from hd)]
              go_quiet (fail)
              go_wp2
              go_ret
              exact ⟨by rw [HE.out]; rfl, hbel.trans ((below_drewN _ _).mono hbel.size)⟩
        · rw [eg] at y1
          rcases k with _ | k
          · have HE : Hid (R = 1) := by show _ = _; rw [hS3.out, eg]; rfl
            have x1' : wr.cell? ⟨b, off + 1, none⟩ = some (.int .i64 x.c1) := by have h := x1; simp only [Nat.zero_mul, Nat.add_zero] at h; exact h
            go_quiet (fail)
            go_wp2
            go_ret
            exact ⟨by rw [HE.out]; rfl, hbel.trans ((below_drewN _ _).mono hbel.size)⟩
          · obtain ⟨y, hy⟩ : ∃ y, se[k]? = some y := ⟨_, List.getElem?_eq_getElem (by have := Hl.out; omega)⟩
            obtain ⟨v0, v1, v2, v3, vl⟩ := (Hsat.out.later hb hbel).one (Nat.lt_of_lt_of_le hb hbel.size) hy
            have HE : Hid (R = 1) := by show _ = _; rw [hS3.out, eg, if_pos rfl]; split <;> rfl
            clear hy
            cases hd : decide (x.c0 ≤ y.c0)
            · go_quiet (fail)
              go_wp2
              go_ret
              exact ⟨by rw [HE.out]; rfl, hbel.trans ((below_drewN _ _).mono hbel.size)⟩
            · go_quiet (fail)
              go_wp2
              go_ret
              exact ⟨by rw [HE.out]; rfl, hbel.trans ((below_drewN _ _).mono hbel.size)⟩
    · obtain rfl : ms = k := by omega
      have HE : Hid (R = 0) := by show _ = _; rw [Hk.out, List.drop_of_length_le (by have := Hl.out; omega)]; rfl
      go_wp2
      go_ret
      exact ⟨by rw [HE.out]; rfl, hbel⟩
end Go.Proofs.Ytibkdkjcncfmgaa
