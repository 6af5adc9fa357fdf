/- Texts of mine put together (a claim holds at most 60 files): WfSpec2, WfSpec3. -/
import Derived.Test.YtaeeahgibifkjaaPartT08
import Derived.Deep.QuietTactic
import Derived.BigQuiet

/- WfSpec2 -/
/- Contracts of the model's parts of WorldFault: seats. Condition: there are four factions, and the lists lie in memory as they were laid there. -/
section
namespace Go.Proofs.Ytaeeahgibifkjaa
open Go.ChangeShapes Go.WideShapes Go.ChangeAt Go.RowKit
open Bd
set_option linter.unusedVariables false

structure At7 (w : World) (g : Nat) (t s : Int) (vu vf va vs vo : Value) : Prop where
  c0 : w.cell? ⟨g, 0, none⟩ = some (.int .i64 t)
  c1 : w.cell? ⟨g, 1, none⟩ = some (.int .i64 s)
  c2 : w.cell? ⟨g, 2, none⟩ = some vu
  c3 : w.cell? ⟨g, 3, none⟩ = some vf
  c4 : w.cell? ⟨g, 4, none⟩ = some va
  c5 : w.cell? ⟨g, 5, none⟩ = some vs
  c6 : w.cell? ⟨g, 6, none⟩ = some vo
  lt : g < w.heap.size
theorem At7.later {w w' : World} {g : Nat} {t s : Int} {vu vf va vs vo : Value} (h : At7 w g t s vu vf va vs vo) (hb : Below w.heap.size w w') : At7 w' g t s vu vf va vs vo :=
  ⟨by rw [hb.cell h.lt]; exact h.c0, by rw [hb.cell h.lt]; exact h.c1, by rw [hb.cell h.lt]; exact h.c2, by rw [hb.cell h.lt]; exact h.c3, by rw [hb.cell h.lt]; exact h.c4, by rw [hb.cell h.lt]; exact h.c5, by rw [hb.cell h.lt]; exact h.c6, Nat.lt_of_lt_of_le h.lt hb.size⟩
theorem At7.new (w : World) (t s : Int) (vu vf va vs vo : Value) (ty : TypeId) : At7 (w.alloc (.cells #[.int .i64 t, .int .i64 s, vu, vf, va, vs, vo] ty)) w.heap.size t s vu vf va vs vo :=
  ⟨cell_new _ _ _ _ _ rfl, cell_new _ _ _ _ _ rfl, cell_new _ _ _ _ _ rfl, cell_new _ _ _ _ _ rfl, cell_new _ _ _ _ _ rfl, cell_new _ _ _ _ _ rfl, cell_new _ _ _ _ _ rfl, by rw [size_new]; omega⟩
theorem seS_cases (s : K4) : (inb s.c0 0 5 = false ∧ seR s = false) ∨ (inb s.c0 0 5 = true ∧ inb s.c1 0 3 = false ∧ seR s = false) ∨ (inb s.c0 0 5 = true ∧ inb s.c1 0 3 = true ∧ inb s.c2 0 2047 = false ∧ seR s = false) ∨
    (inb s.c0 0 5 = true ∧ inb s.c1 0 3 = true ∧ inb s.c2 0 2047 = true ∧ inb s.c3 0 999 = false ∧ seR s = false) ∨ (inb s.c0 0 5 = true ∧ inb s.c1 0 3 = true ∧ inb s.c2 0 2047 = true ∧ inb s.c3 0 999 = true ∧ seR s = true) := by
  unfold seR
  cases inb s.c0 0 5 <;> cases inb s.c1 0 3 <;> cases inb s.c2 0 2047 <;> cases inb s.c3 0 999 <;> simp
set_option maxRecDepth 20000 in
set_option maxHeartbeats 8000000 in
theorem l6Seats_c (p : Nat) (t s : Int) (u : Option Addr) (mu uc : Nat) (f : Option Addr) (mf fc : Nat) (a : Option Addr) (ac : Nat) (q : Option Addr) (ms qc : Nat) (r : Option Addr) (mo rc : Nat) (fa : List KA) (se : List K4) (h4 : fa.length = 4) (hl : se.length = ms) (hm : ms ≤ 6) (w : World) (hP : At7 w p t s (.slice u mu uc) (.slice f mf fc) (.slice a 4 ac) (.slice q ms qc) (.slice r mo rc)) (hA : ArgA w a fa) (hS : ArgS w q se) :
    Calls Try.prog 48 #[.pointer (some ⟨p, 0, none⟩)] w fun e w' => e = .returned (.int .i64 (seF fa none se)) ∧ Below w.heap.size w w' := by
  obtain ⟨ba, oa, rfl, hba, hat⟩ := hA.four h4
  have Hat : Hid (AAt w ba oa fa) := hat
  have HS : Hid (ArgS w q se) := hS
  have Hl : Hid (se.length = ms) := hl
  have H4 : Hid (fa.length = 4) := h4
  have HP : Hid (At7 w p t s (.slice u mu uc) (.slice f mf fc) (.slice (some ⟨ba, oa, none⟩) 4 ac) (.slice q ms qc) (.slice r mo rc)) := hP
  obtain ⟨R, HR⟩ : ∃ R : Int, Hid (R = seF fa none se) := ⟨_, rfl⟩
  rw [← HR.out]
  have HR0 : Hid (R = seF fa (prevC se 0) (se.drop 0)) := HR
  clear hat hS hl h4 hA HR hP
  go_enter Try.func48, Try.ntmps48
  go_wp2_with fail
  go_loopw [3] (fun j wr => ∃ k : Nat, k ≤ ms ∧ j = .int .i64 k ∧ Hid (R = seF fa (prevC se k) (se.drop k)) ∧ Below w.heap.size w wr) (fun j _ => ms - (intOf j).toNat)
  case atStart => exact ⟨0, Nat.zero_le _, rfl, HR0, Below.refl _ _⟩
  case round =>
    obtain ⟨k, hk, rfl, Hk, hbel⟩ := hrel
    obtain ⟨_, _, _, _, p4, p5, _, pl⟩ := HP.out.later hbel
    by_cases hlt : k < ms
    · have hlt' : (k : Int) < (ms : Int) := by omega
      obtain ⟨x, hx⟩ : ∃ x, se[k]? = some x := ⟨_, List.getElem?_eq_getElem (by have := Hl.out; omega)⟩
      obtain ⟨b, off, rfl, hb, hat⟩ := HS.out.at hx
      obtain ⟨x0, x1, x2, x3, xl⟩ := (hat.later hb hbel).one (Nat.lt_of_lt_of_le hb hbel.size) hx
      have hS2 : Hid (R = if seR x = false then 3 else if leP (prevC se k) x.c0 = true then 1 else if goneA fa x.c1 = true then 1 else seF fa (some x.c0) (se.drop (k + 1))) := by show _ = _; rw [Hk.out, seF_step hx]
      have HN : Hid (prevC se (k + 1) = some x.c0) := prevC_next hx
      have Hsat : Hid (SAt w b off se) := hat
      have q0 := fun w => l1In_c x.c0 0 5 w
      have q1 := fun w => l6Side_s x.c1 w
      have q2 := fun w => l1In_c x.c2 0 2047 w
      have q3 := fun w => l1In_c x.c3 0 999 w
      clear hx hat Hk
      rcases seS_cases x with ⟨e0, e⟩ | ⟨e0, e1, e⟩ | ⟨e0, e1, e2, e⟩ | ⟨e0, e1, e2, e3, e⟩ | ⟨e0, e1, e2, e3, e⟩
      · have HE : Hid (R = 3) := by show _ = _; rw [hS2.out, if_pos e]
        rw [e0] at q0
        go_wp2_with (first | (go_at_call 45; with_reducible refine (q0 _).mono ?_; rintro e w1 ⟨rfl, hw1⟩; obtain rfl := hw1.symm) | (go_at_call 69; with_reducible refine (q1 _).mono ?_; rintro e w1 ⟨rfl, hw1⟩; obtain rfl := hw1.symm) | (go_at_call 45; with_reducible refine (q2 _).mono ?_; rintro e w1 ⟨rfl, hw1⟩; obtain rfl := hw1.symm) | (go_at_call 45; with_reducible refine (q3 _).mono ?_; rintro e w1 ⟨rfl, hw1⟩; obtain rfl := hw1.symm))
        go_ret
        exact ⟨by rw [HE.out]; rfl, hbel⟩
      · have HE : Hid (R = 3) := by show _ = _; rw [hS2.out, if_pos e]
        rw [e0] at q0
        rw [e1] at q1
        go_wp2_with (first | (go_at_call 45; with_reducible refine (q0 _).mono ?_; rintro e w1 ⟨rfl, hw1⟩; obtain rfl := hw1.symm) | (go_at_call 69; with_reducible refine (q1 _).mono ?_; rintro e w1 ⟨rfl, hw1⟩; obtain rfl := hw1.symm) | (go_at_call 45; with_reducible refine (q2 _).mono ?_; rintro e w1 ⟨rfl, hw1⟩; obtain rfl := hw1.symm) | (go_at_call 45; with_reducible refine (q3 _).mono ?_; rintro e w1 ⟨rfl, hw1⟩; obtain rfl := hw1.symm))
        go_ret
        exact ⟨by rw [HE.out]; rfl, hbel⟩
      · have HE : Hid (R = 3) := by show _ = _; rw [hS2.out, if_pos e]
        rw [e0] at q0
        rw [e1] at q1
        rw [e2] at q2
        go_wp2_with (first | (go_at_call 45; with_reducible refine (q0 _).mono ?_; rintro e w1 ⟨rfl, hw1⟩; obtain rfl := hw1.symm) | (go_at_call 69; with_reducible refine (q1 _).mono ?_; rintro e w1 ⟨rfl, hw1⟩; obtain rfl := hw1.symm) | (go_at_call 45; with_reducible refine (q2 _).mono ?_; rintro e w1 ⟨rfl, hw1⟩; obtain rfl := hw1.symm) | (go_at_call 45; with_reducible refine (q3 _).mono ?_; rintro e w1 ⟨rfl, hw1⟩; obtain rfl := hw1.symm))
        go_ret
        exact ⟨by rw [HE.out]; rfl, hbel⟩
      · have HE : Hid (R = 3) := by show _ = _; rw [hS2.out, if_pos e]
        rw [e0] at q0
        rw [e1] at q1
        rw [e2] at q2
        rw [e3] at q3
        go_wp2_with (first | (go_at_call 45; with_reducible refine (q0 _).mono ?_; rintro e w1 ⟨rfl, hw1⟩; obtain rfl := hw1.symm) | (go_at_call 69; with_reducible refine (q1 _).mono ?_; rintro e w1 ⟨rfl, hw1⟩; obtain rfl := hw1.symm) | (go_at_call 45; with_reducible refine (q2 _).mono ?_; rintro e w1 ⟨rfl, hw1⟩; obtain rfl := hw1.symm) | (go_at_call 45; with_reducible refine (q3 _).mono ?_; rintro e w1 ⟨rfl, hw1⟩; obtain rfl := hw1.symm))
        go_ret
        exact ⟨by rw [HE.out]; rfl, hbel⟩
      · obtain ⟨i0, i1⟩ := inb_i e1
        obtain ⟨g, hg, hgo, _⟩ := side_at H4.out i0 i1
        have hi4 : x.c1 < 4 := by omega
        have hS3 : Hid (R = if leP (prevC se k) x.c0 = true then 1 else if g.c1 = true then 1 else seF fa (some x.c0) (se.drop (k + 1))) := by show _ = _; rw [hS2.out, if_neg (by rw [e]; simp), hgo]
        rw [e0] at q0
        rw [e1] at q1
        rw [e2] at q2
        rw [e3] at q3
        obtain ⟨y0, y1, y2, yl⟩ := (Hat.out.later hba hbel).one (Nat.lt_of_lt_of_le hba hbel.size) hg
        clear hg hgo hS2 e
        go_upto_region 7 with (first | (go_at_call 45; with_reducible refine (q0 _).mono ?_; rintro e w1 ⟨rfl, hw1⟩; obtain rfl := hw1.symm) | (go_at_call 69; with_reducible refine (q1 _).mono ?_; rintro e w1 ⟨rfl, hw1⟩; obtain rfl := hw1.symm) | (go_at_call 45; with_reducible refine (q2 _).mono ?_; rintro e w1 ⟨rfl, hw1⟩; obtain rfl := hw1.symm) | (go_at_call 45; with_reducible refine (q3 _).mono ?_; rintro e w1 ⟨rfl, hw1⟩; obtain rfl := hw1.symm))
        cases eg : g.c1
        · rw [eg] at y1
          rcases k with _ | k
          · have HE : Hid (R = seF fa (prevC se (0 + 1)) (se.drop (0 + 1))) := by show _ = _; rw [hS3.out, HN.out, eg]; rfl
            have x1' : wr.cell? ⟨b, off + 1, none⟩ = some (.int .i64 x.c1) := by have h := x1; simp only [Nat.zero_mul, Nat.add_zero] at h; exact h
            go_quiet (fail)
            go_wp2
            go_roundw
            case rel => exact ⟨0 + 1, by omega, by go_num, HE, hbel.trans ((below_drewN _ _).mono hbel.size)⟩
            case measure => simp [intOf]; omega
          · obtain ⟨y, hy⟩ : ∃ y, se[k]? = some y := ⟨_, List.getElem?_eq_getElem (by have := Hl.out; omega)⟩
            have HPv : Hid (prevC se (k + 1) = some y.c0) := prevC_next hy
            obtain ⟨v0, v1, v2, v3, vl⟩ := (Hsat.out.later hb hbel).one (Nat.lt_of_lt_of_le hb hbel.size) hy
            clear hy
            cases hd : decide (x.c0 ≤ y.c0)
            · have HE : Hid (R = seF fa (prevC se (k + 1 + 1)) (se.drop (k + 1 + 1))) := by show _ = _; rw [hS3.out, HN.out, HPv.out, eg, if_neg (by show ¬ decide (x.c0 ≤ y.c0) = true; rw [hd]; simp)]; rfl
              go_quiet (fail)
              go_wp2
              go_roundw
              case rel => exact ⟨k + 1 + 1, by omega, by go_num, HE, hbel.trans ((below_drewN _ _).mono hbel.size)⟩
              case measure => simp [intOf]; omega
            · have HE : Hid (R = 1) := by show _ = _; rw [hS3.out, HPv.out, if_pos (show leP (some y.c0) x.c0 = true from hd)]
              go_quiet (fail)
              go_wp2
              go_ret
              exact ⟨by rw [HE.out]; rfl, hbel.trans ((below_drewN _ _).mono hbel.size)⟩
        · rw [eg] at y1
          rcases k with _ | k
          · have HE : Hid (R = 1) := by show _ = _; rw [hS3.out, eg]; rfl
            have x1' : wr.cell? ⟨b, off + 1, none⟩ = some (.int .i64 x.c1) := by have h := x1; simp only [Nat.zero_mul, Nat.add_zero] at h; exact h
            go_quiet (fail)
            go_wp2
            go_ret
            exact ⟨by rw [HE.out]; rfl, hbel.trans ((below_drewN _ _).mono hbel.size)⟩
          · obtain ⟨y, hy⟩ : ∃ y, se[k]? = some y := ⟨_, List.getElem?_eq_getElem (by have := Hl.out; omega)⟩
            obtain ⟨v0, v1, v2, v3, vl⟩ := (Hsat.out.later hb hbel).one (Nat.lt_of_lt_of_le hb hbel.size) hy
            have HE : Hid (R = 1) := by show _ = _; rw [hS3.out, eg, if_pos rfl]; split <;> rfl
            clear hy
            cases hd : decide (x.c0 ≤ y.c0)
            · go_quiet (fail)
              go_wp2
              go_ret
              exact ⟨by rw [HE.out]; rfl, hbel.trans ((below_drewN _ _).mono hbel.size)⟩
            · go_quiet (fail)
              go_wp2
              go_ret
              exact ⟨by rw [HE.out]; rfl, hbel.trans ((below_drewN _ _).mono hbel.size)⟩
    · obtain rfl : ms = k := by omega
      have HE : Hid (R = 0) := by show _ = _; rw [Hk.out, List.drop_of_length_le (by have := Hl.out; omega)]; rfl
      go_wp2
      go_ret
      exact ⟨by rw [HE.out]; rfl, hbel⟩
end Go.Proofs.Ytaeeahgibifkjaa
end

/- WfSpec3 -/
/- Contracts of the model's parts of WorldFault: offers. Condition: there are four factions, and the lists lie in memory as they were laid there. -/
section
namespace Go.Proofs.Ytaeeahgibifkjaa
open Go.ChangeShapes Go.WideShapes Go.ChangeAt Go.RowKit
open Bd
set_option linter.unusedVariables false

theorem atO_t {r : Int} (h : atO true r) : 0 ≤ r := by
  rcases h with ⟨_, h⟩ | ⟨h, _⟩
  · exact h
  · cases h
theorem atO_f {r : Int} (h : atO false r) : r = -1 := by
  rcases h with ⟨h, _⟩ | ⟨_, h⟩
  · cases h
  · exact h
set_option maxRecDepth 20000 in
set_option maxHeartbeats 16000000 in
theorem l6Offers_c (p : Nat) (t s : Int) (u : Option Addr) (mu uc : Nat) (f : Option Addr) (mf fc : Nat) (a : Option Addr) (ac : Nat) (q : Option Addr) (ms qc : Nat) (r : Option Addr) (mo rc : Nat) (fa : List KA) (oo : List K2) (h4 : fa.length = 4) (hl : oo.length = mo) (hm : mo ≤ 6) (hc : mo ≤ rc) (hrc : rc ≤ maxLen) (w : World) (hP : At7 w p t s (.slice u mu uc) (.slice f mf fc) (.slice a 4 ac) (.slice q ms qc) (.slice r mo rc)) (hA : ArgA w a fa) (hO : ArgO w r oo) :
    Calls Try.prog 49 #[.pointer (some ⟨p, 0, none⟩)] w fun e w' => e = .returned (.int .i64 (ofF hasS fa [] oo)) ∧ Below w.heap.size w w' := by
  obtain ⟨ba, oa, rfl, hba, hat⟩ := hA.four h4
  have Hat : Hid (AAt w ba oa fa) := hat
  have HO : Hid (ArgO w r oo) := hO
  have Hl : Hid (oo.length = mo) := hl
  have H4 : Hid (fa.length = 4) := h4
  have HP : Hid (At7 w p t s (.slice u mu uc) (.slice f mf fc) (.slice (some ⟨ba, oa, none⟩) 4 ac) (.slice q ms qc) (.slice r mo rc)) := hP
  obtain ⟨R, HR⟩ : ∃ R : Int, Hid (R = ofF hasS fa [] oo) := ⟨_, rfl⟩
  rw [← HR.out]
  have HR0 : Hid (R = ofF hasS fa (oo.take 0) (oo.drop 0)) := HR
  unfold maxLen at hrc
  clear hat hO hl h4 hA HR hP
  go_enter Try.func49, Try.ntmps49
  go_wp2_with fail
  go_loopw [3] (fun j wr => ∃ k : Nat, k ≤ mo ∧ j = .int .i64 k ∧ Hid (R = ofF hasS fa (oo.take k) (oo.drop k)) ∧ Below w.heap.size w wr) (fun j _ => mo - (intOf j).toNat)
  case atStart => exact ⟨0, Nat.zero_le _, rfl, HR0, Below.refl _ _⟩
  case round =>
    obtain ⟨k, hk, rfl, Hk, hbel⟩ := hrel
    obtain ⟨_, _, _, _, p4, _, p6, pl⟩ := HP.out.later hbel
    by_cases hlt : k < mo
    · have hlt' : (k : Int) < (mo : Int) := by omega
      have Hlt : Hid (k < mo) := hlt
      obtain ⟨x, hx⟩ : ∃ x, oo[k]? = some x := ⟨_, List.getElem?_eq_getElem (by have := Hl.out; omega)⟩
      obtain ⟨b, off, rfl, hb, hat⟩ := HO.out.at hx
      obtain ⟨x0, x1, xl⟩ := (hat.later hb hbel).one (Nat.lt_of_lt_of_le hb hbel.size) hx
      have hS2 : Hid (R = if ofR x = false then 3 else if ofB hasS fa (oo.take k) x = true then 1 else ofF hasS fa (oo.take (k + 1)) (oo.drop (k + 1))) := by show _ = _; rw [Hk.out, ofF_step hx]
      have q0 := fun w => l6Side_s x.c0 w
      have q1 := fun w => l6Side_s x.c1 w
      have k4 := hbel.alloc hbel.size (.cells x.v 73)
      have HZ : Hid (O1 (wr.alloc (.cells x.v 73)) wr.heap.size 0 x) := O1.new wr x _
      have Hoat : Hid (OAt w b off oo) := hat
      clear hx hat Hk
      cases e0 : inb x.c0 0 3
      · rw [e0] at q0
        have HE : Hid (R = 3) := by show _ = _; rw [hS2.out, if_pos (by unfold ofR; rw [e0]; rfl)]
        go_wp2_with (first | (go_at_call 69; with_reducible refine (q0 _).mono ?_; rintro e w1 ⟨rfl, hw1⟩; obtain rfl := hw1.symm) | (go_at_call 69; with_reducible refine (q1 _).mono ?_; rintro e w1 ⟨rfl, hw1⟩; obtain rfl := hw1.symm))
        go_ret
        exact ⟨by rw [HE.out]; rfl, k4⟩
      cases e1 : inb x.c1 0 3
      · rw [e0] at q0
        rw [e1] at q1
        have HE : Hid (R = 3) := by show _ = _; rw [hS2.out, if_pos (by unfold ofR; rw [e0, e1]; rfl)]
        go_wp2_with (first | (go_at_call 69; with_reducible refine (q0 _).mono ?_; rintro e w1 ⟨rfl, hw1⟩; obtain rfl := hw1.symm) | (go_at_call 69; with_reducible refine (q1 _).mono ?_; rintro e w1 ⟨rfl, hw1⟩; obtain rfl := hw1.symm))
        go_ret
        exact ⟨by rw [HE.out]; rfl, k4⟩
      have hS3 : Hid (R = if ofB hasS fa (oo.take k) x = true then 1 else ofF hasS fa (oo.take (k + 1)) (oo.drop (k + 1))) := by show _ = _; rw [hS2.out, if_neg (by unfold ofR; rw [e0, e1]; simp)]
      obtain ⟨i0, i1⟩ := inb_i e0
      obtain ⟨j0, j1⟩ := inb_i e1
      obtain ⟨g, hg, hgo, hga⟩ := side_at H4.out i0 i1
      obtain ⟨h, hh, hho, hha⟩ := side_at H4.out j0 j1
      have hi4 : x.c0 < 4 := by omega
      have hj4 : x.c1 < 4 := by omega
      rw [e0] at q0
      rw [e1] at q1
      unfold ofB at hS3
      rw [hga, hgo, hho] at hS3
      have Hg : Hid (fa[x.c0.toNat]? = some g) := hg
      have Hh : Hid (fa[x.c1.toNat]? = some h) := hh
      obtain ⟨W4, HW4⟩ : ∃ W4, Hid (W4 = wr.alloc (.cells x.v 73)) := ⟨_, rfl⟩
      rw [← HW4.out] at k4 HZ
      have hkc : (k : Int) ≤ (rc : Int) := by have := Hlt.out; omega
      have hk0 : (0 : Int) ≤ (k : Int) := by omega
      have qB := fun w => l6Has_c g.c2 x.c1 (by omega) (by omega) w
      have cC := fun W' (h : Below W4.heap.size W4 W') => l6Offer_c (some ⟨b, off, none⟩) k rc (oo.take k) x (by rw [List.length_take]; have := Hl.out; have := Hlt.out; omega) (by have := Hlt.out; omega) W' (.inr ⟨b, off, rfl, Nat.lt_of_lt_of_le hb (k4.trans (h.mono k4.size)).size, (Hoat.out.later hb (k4.trans (h.mono k4.size))).take⟩)
      have Bc : Below W4.heap.size W4 W4.drew := (Below.refl _ _).drew
      have keep : ∀ w', Below W4.heap.size W4 w' → w'.cell? ⟨p, 4, none⟩ = some (.slice (some ⟨ba, oa, none⟩) 4 ac) ∧ w'.cell? ⟨p, 6, none⟩ = some (.slice (some ⟨b, off, none⟩) mo rc) ∧ w'.cell? ⟨wr.heap.size, 0, none⟩ = some (.int .i64 x.c0) ∧ w'.cell? ⟨wr.heap.size, 1, none⟩ = some (.int .i64 x.c1) ∧ w'.cell? ⟨ba, oa + x.c0.toNat * 3 + 1, none⟩ = some (.bool g.c1) ∧ w'.cell? ⟨ba, oa + x.c0.toNat * 3 + 2, none⟩ = some (.int .i64 g.c2) ∧ w'.cell? ⟨ba, oa + x.c1.toNat * 3 + 1, none⟩ = some (.bool h.c1) := fun w' hb' => by
        have kk := k4.trans (hb'.mono k4.size)
        obtain ⟨_, _, _, _, p4, _, p6, pl⟩ := HP.out.later kk
        obtain ⟨y0, y1, y2, yl⟩ := (Hat.out.later hba kk).one (Nat.lt_of_lt_of_le hba kk.size) Hg.out
        obtain ⟨v0, v1, v2, vl⟩ := (Hat.out.later hba kk).one (Nat.lt_of_lt_of_le hba kk.size) Hh.out
        obtain ⟨z0, z1, zl⟩ := HZ.out.later hb'
        exact ⟨p4, p6, z0, z1, y1, y2, v1⟩
      clear hg hgo hga hh hho hha hS2
      have Hpl : Hid (p < w.heap.size) := HP.out.lt
      obtain ⟨c1, c2, c3, c4, c5, c6, c7⟩ := keep _ (Below.refl _ _)
      have lp : p < W4.heap.size := Nat.lt_of_lt_of_le Hpl.out k4.size
      have lb : ba < W4.heap.size := Nat.lt_of_lt_of_le hba k4.size
      have lw : wr.heap.size < W4.heap.size := HZ.out.lt
      go_upto_region 7 with (first | (go_at_call 69; with_reducible refine (q0 _).mono ?_; rintro e w1 ⟨rfl, hw1⟩; obtain rfl := hw1.symm) | (go_at_call 69; with_reducible refine (q1 _).mono ?_; rintro e w1 ⟨rfl, hw1⟩; obtain rfl := hw1.symm))
      rw [← HW4.out]
      try simp only [List.append]
      cases d1 : x.c0 == x.c1
      · rw [d1] at hS3
        cases d2 : hasS g.c2 x.c1
        · rw [d2] at qB hS3
          cases d3 : g.c1
          · rw [d3] at hS3 c5
            rw [d3] at keep
            cases d4 : h.c1
            · rw [d4] at hS3 c7
              rw [d4] at keep
              have hS4 : Hid (R = if memO (oo.take k) x = true then 1 else ofF hasS fa (oo.take (k + 1)) (oo.drop (k + 1))) := hS3
              generalize memO (oo.take k) x = M at cC hS4
              clear hS3
              cases M
              · have HE : Hid (R = ofF hasS fa (oo.take (k + 1)) (oo.drop (k + 1))) := hS4
                go_region_held3 (fun w' => w'.cell? ⟨p, 4, none⟩ = some (.slice (some ⟨ba, oa, none⟩) 4 ac) ∧ w'.cell? ⟨p, 6, none⟩ = some (.slice (some ⟨b, off, none⟩) mo rc) ∧ w'.cell? ⟨wr.heap.size, 0, none⟩ = some (.int .i64 x.c0) ∧ w'.cell? ⟨wr.heap.size, 1, none⟩ = some (.int .i64 x.c1) ∧ w'.cell? ⟨ba, oa + x.c0.toNat * 3 + 1, none⟩ = some (.bool false) ∧ w'.cell? ⟨ba, oa + x.c0.toNat * 3 + 2, none⟩ = some (.int .i64 g.c2) ∧ w'.cell? ⟨ba, oa + x.c1.toNat * 3 + 1, none⟩ = some (.bool false)) (first | exact keep _ Bc | go_keep) (first
                  | (go_at_call 68; refine (qB _).mono ?_; rintro e wn ⟨rfl, hwn⟩; obtain rfl := hwn.symm)
                  | (go_at_call 70; refine (cC _ Bc).mono ?_; rintro e wn ⟨ro, rfl, hro, kn⟩; have Bc := Bc.trans (kn.mono Bc.size); obtain ⟨c1, c2, c3, c4, c5, c6, c7⟩ := keep _ Bc; first | (have hr0 := atO_t hro) | (obtain rfl := atO_f hro)))
                all_goals
                  go_wp2_with fail
                  go_roundw
                  case rel => exact ⟨k + 1, by have := Hlt.out; omega, by go_num, HE, k4.trans (Bc.mono k4.size)⟩
                  case measure => have := Hlt.out; simp [intOf]; omega
              · have HE : Hid (R = 1) := hS4
                go_region_held3 (fun w' => w'.cell? ⟨p, 4, none⟩ = some (.slice (some ⟨ba, oa, none⟩) 4 ac) ∧ w'.cell? ⟨p, 6, none⟩ = some (.slice (some ⟨b, off, none⟩) mo rc) ∧ w'.cell? ⟨wr.heap.size, 0, none⟩ = some (.int .i64 x.c0) ∧ w'.cell? ⟨wr.heap.size, 1, none⟩ = some (.int .i64 x.c1) ∧ w'.cell? ⟨ba, oa + x.c0.toNat * 3 + 1, none⟩ = some (.bool false) ∧ w'.cell? ⟨ba, oa + x.c0.toNat * 3 + 2, none⟩ = some (.int .i64 g.c2) ∧ w'.cell? ⟨ba, oa + x.c1.toNat * 3 + 1, none⟩ = some (.bool false)) (first | exact keep _ Bc | go_keep) (first
                  | (go_at_call 68; refine (qB _).mono ?_; rintro e wn ⟨rfl, hwn⟩; obtain rfl := hwn.symm)
                  | (go_at_call 70; refine (cC _ Bc).mono ?_; rintro e wn ⟨ro, rfl, hro, kn⟩; have Bc := Bc.trans (kn.mono Bc.size); obtain ⟨c1, c2, c3, c4, c5, c6, c7⟩ := keep _ Bc; first | (have hr0 := atO_t hro) | (obtain rfl := atO_f hro)))
                all_goals
                  go_wp2_with fail
                  go_ret
                  exact ⟨by rw [HE.out]; rfl, k4.trans (Bc.mono k4.size)⟩
            · rw [d4] at hS3 c7
              rw [d4] at keep
              have HE : Hid (R = 1) := hS3
              go_quiet (first | (go_at_call 68; exact Calls.quiet_of_same (qB _)))
              go_wp2_with fail
              go_ret
              exact ⟨by rw [HE.out]; rfl, k4.trans ((below_drewN _ _).mono k4.size)⟩
          · rw [d3] at hS3 c5
            rw [d3] at keep
            have HE : Hid (R = 1) := hS3
            go_quiet (first | (go_at_call 68; exact Calls.quiet_of_same (qB _)))
            go_wp2_with fail
            go_ret
            exact ⟨by rw [HE.out]; rfl, k4.trans ((below_drewN _ _).mono k4.size)⟩
        · rw [d2] at qB hS3
          have HE : Hid (R = 1) := hS3
          go_quiet (first | (go_at_call 68; exact Calls.quiet_of_same (qB _)))
          go_wp2_with fail
          go_ret
          exact ⟨by rw [HE.out]; rfl, k4.trans ((below_drewN _ _).mono k4.size)⟩
      · rw [d1] at hS3
        have HE : Hid (R = 1) := hS3
        go_quiet (first | (go_at_call 68; exact Calls.quiet_of_same (qB _)))
        go_wp2_with fail
        go_ret
        exact ⟨by rw [HE.out]; rfl, k4.trans ((below_drewN _ _).mono k4.size)⟩
    · obtain rfl : mo = k := by omega
      have HE : Hid (R = 0) := by show _ = _; rw [Hk.out, List.drop_of_length_le (by have := Hl.out; omega)]; rfl
      go_wp2
      go_ret
      exact ⟨by rw [HE.out]; rfl, hbel⟩
end Go.Proofs.Ytaeeahgibifkjaa
end
