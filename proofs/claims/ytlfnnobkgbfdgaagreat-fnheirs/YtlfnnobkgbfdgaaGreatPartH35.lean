/- Texts of mine put together (a claim holds at most 60 files): LeaveUnits2, SeatImpl, PfSpec, SeatWalk. -/
import Derived.Test.YtlfnnobkgbfdgaaGreatPartH34
import Derived.Test.YtlfnnobkgbfdgaaGreatPartH10
import Derived.Test.YtlfnnobkgbfdgaaGreatPartH11
import Derived.Test.YtlfnnobkgbfdgaaGreatPartH18
import Derived.Test.YtlfnnobkgbfdgaaGreatPartH24
import Derived.Test.YtlfnnobkgbfdgaaGreatPartH20

/- LeaveUnits2 -/
/- The contract of leaveUnits: the pointers to a side's units, handed on in turn. Condition: the world that is worked on lies in memory. -/
section
namespace Go.Proofs.YtlfnnobkgbfdgaaGreat
open Go.ChangeShapes Go.WideShapes Go.ChangeAt Go.RowKit
open Bd
set_option linter.unusedVariables false

theorem infoPU : (Tryz.prog.info? 122).map (fun i => (i.zero, i.size, i.bytes)) = some (some (.pointer none), 1, 8) := by kernel_rfl
theorem one_ptr (a : Option Addr) : ∀ u ∈ [Value.pointer a], u.oneCell' = true := by
  intro u hu
  have : u = .pointer a := by simpa using hu
  rw [this]; rfl
theorem ptU_app (gu : Nat) (a b : List Nat) : ptU gu (a ++ b) = ptU gu a ++ ptU gu b := by unfold ptU; rw [List.map_append]
/- an own list of pointers, read -/
theorem own_ptr {w : World} {base gu : Nat} {v : Value} {js : List Nat} (h : w.ownsRow base 122 1 v js.length (ptU gu js)) : (v = .slice none 0 0 ∧ js = []) ∨ ∃ q cap cs, v = .slice (some ⟨q, 0, none⟩) js.length cap ∧ Blk w q cs 122 ∧ ∀ (i j : Nat), js[i]? = some j → cs[i]? = some (Value.pointer (some ⟨gu, j * 10, none⟩)) := by
  rcases h.2 with ⟨h1, h2⟩ | ⟨g, cap, cur, hv, hb, hg, h4, h5, h6, h7⟩
  · exact .inl ⟨h1, List.eq_nil_of_length_eq_zero h2⟩
  · refine .inr ⟨g, cap, cur, hv, hg, fun i j hi => ?_⟩
    have hil : i < js.length := (List.getElem?_eq_some_iff.1 hi).1
    have e : (ptU gu js)[i]? = some (.pointer (some ⟨gu, j * 10, none⟩)) := by unfold ptU; rw [List.getElem?_map, hi]; rfl
    rw [← h7, List.getElem?_take, if_pos (by omega)] at e
    simpa using e
theorem finU_c (g base nb : Nat) (p : WP) (t s : Int) (us : List K10) (fs : List K3) (fa : List KA) (se : List K4) (oo : List K2) (a : Int) (qh mh ch : Nat) (csH : Array Value) (hs : List Int) (w : World) (hw : WS w base g p ⟨t, s, us, fs, fa, se, oo⟩) (hb : base ≤ w.heap.size) (e1 : hs.length = mh) (e2 : 1 ≤ mh) (e3 : mh ≤ 4) (hB : Blk w qh csH 2) (hC : ∀ (i : Nat) (k : Int), hs[i]? = some k → csH[i]? = some (Value.int .i64 k))
    (gu : Nat) (v : Value) (hp : us = [] ∨ p.u = some ⟨gu, 0, none⟩) (hu8 : us.length ≤ 8) (hown : w.ownsRow nb 122 1 v (ixU a us 0).length (ptU gu (ixU a us 0))) :
    Calls Tryz.prog 88 #[.slice (some ⟨qh, 0, none⟩) mh ch, v, .func (.func 89) #[] #[]] w fun e w' => e = .returned (.tuple #[]) ∧ WS w' base g p ⟨t, s, shU a hs 0 us, fs, fa, se, oo⟩ ∧ KT TU base w w' := by
  have hlt : ∀ j ∈ ixU a us 0, j < us.length := fun j hj => by have := ixU_lt hj; omega
  have hle := ixU_le (a := a) us 0
  have hw2 : ∀ w', SlU w' base (.slice p.u us.length p.uc) (shU a hs 0 us) → KT TU base w w' → WS w' base g p ⟨t, s, shU a hs 0 us, fs, fa, se, oo⟩ := fun w' h k => hw.ofU (gu := 0) (shU a hs 0 us) shU_len h k
  rw [← apU_all] at hw2 ⊢
  generalize ixU a us 0 = js at hown hlt hle hw2 ⊢
  by_cases h0 : js.length = 0
  · have he : js = [] := List.eq_nil_of_length_eq_zero h0
    subst he
    rcases own_ptr hown with ⟨rfl, _⟩ | ⟨q, cap, cs, rfl, _, _⟩
    · refine (shareU_zero _ none mh ch 0 _ w).mono ?_
      rintro e w' ⟨rfl, rfl⟩
      exact ⟨rfl, hw, KT.refl _ _ _⟩
    · refine (shareU_zero _ (some ⟨q, 0, none⟩) mh ch cap _ w).mono ?_
      rintro e w' ⟨rfl, rfl⟩
      exact ⟨rfl, hw, KT.refl _ _ _⟩
  · rcases own_ptr hown with ⟨_, he⟩ | ⟨q, cap, cs, rfl, hPB, hPC⟩
    · rw [he] at h0; exact absurd rfl h0
    rcases hp with he | hpu
    · rw [he] at hle; exact absurd (Nat.le_zero.1 hle) h0
    rcases hw.o.u.rowU with ⟨_, he⟩ | ⟨gu', cap', cur, h1, h2, h3⟩
    · have he : us = [] := he
      rw [he] at hle; exact absurd (Nat.le_zero.1 hle) h0
    injection h1 with e4 e5 e6
    have e4 : p.u = some ⟨gu', 0, none⟩ := e4
    have e7 : gu = gu' := by rw [hpu] at e4; have := Option.some.inj e4; injection this
    subst e7
    have e6 : p.uc = cap' := e6
    subst e6
    refine (shareU_c gu base qh q ch cap p.uc csH cs cur us hs mh js js.length w hb h3 h2 e1 e2 rfl (by omega) hB hC hPB hPC hlt e3).mono ?_
    rintro e w' ⟨rfl, ⟨cur', hR⟩, hK⟩
    refine ⟨rfl, hw2 w' ?_ hK, hK⟩
    have := hR.sl h2
    have hl : (apU hs 0 js us).length = us.length := by
      have : ∀ (js : List Nat) (n : Nat) (us : List K10), (apU hs n js us).length = us.length := fun js => by
        induction js with
        | nil => intro n us; rfl
        | cons j js ih => intro n us; show (apU hs (n + 1) js _).length = _; rw [ih, List.length_set]
      exact this js 0 us
    rw [hl] at this
    rw [hpu]
    exact this
set_option maxRecDepth 20000 in
set_option maxHeartbeats 8000000 in
theorem leaveUnits_c (g base b0 : Nat) (p : WP) (t s : Int) (us : List K10) (fs : List K3) (fa : List KA) (se : List K4) (oo : List K2) (a : Int) (hs : List Int) (v : Value) (w : World) (hw : WS w base g p ⟨t, s, us, fs, fa, se, oo⟩) (hI : SlI w b0 v hs) (hb : base ≤ w.heap.size)
    (hu8 : us.length ≤ 8) (hl : hs.length ≤ 4) :
    Calls Tryz.prog 50 #[.pointer (some ⟨g, 0, none⟩), .int .i64 a, v] w fun e w' => e = .returned (.tuple #[]) ∧ WS w' base g p ⟨t, s, shU a hs 0 us, fs, fa, se, oo⟩ ∧ KT TU base w w' := by
  obtain ⟨i0, hi, hz0, hz1, hz2⟩ := info_parts infoPU
  obtain ⟨vq, vc, rfl⟩ := SlI.form hI
  obtain ⟨gu, hat⟩ : ∃ gu, us = [] ∨ (p.u = some ⟨gu, 0, none⟩ ∧ gu < w.heap.size ∧ UAt w gu 0 us) := by
    rcases hw.o.u.rowU with ⟨_, h2⟩ | ⟨gu, cap, cur, h1, h2, h3⟩
    · exact ⟨0, .inl h2⟩
    · injection h1 with e1 e2 e3
      exact ⟨gu, .inr ⟨e1, h3.b.lt, h3.at⟩⟩
  have hp : us = [] ∨ p.u = some ⟨gu, 0, none⟩ := hat.imp id (fun h => h.1)
  by_cases hne : hs.length = 0
  · have he : hs = [] := List.eq_nil_of_length_eq_zero hne
    subst he
    have HF : Hid (shU a [9] 0 us = shU a [] 0 us) := shU_nine a us 0
    rw [← HF.out]
    obtain ⟨W1, HW1⟩ : ∃ W1, Hid (W1 = w.alloc (.cells #[.int .i64 9] 2)) := ⟨_, rfl⟩
    have b1 : Below w.heap.size w W1 := by rw [HW1.out]; exact (Below.refl _ _).alloc (Nat.le_refl _) _
    have hB : Blk W1 w.heap.size #[.int .i64 9] 2 := by rw [HW1.out]; exact Blk.new w _ _
    have cF := fun w1 v' (b2 : Below W1.heap.size W1 w1) (ho : w1.ownsRow W1.heap.size 122 1 v' (ixU a us 0).length (ptU gu (ixU a us 0))) => finU_c g base W1.heap.size p t s us fs fa se oo a w.heap.size 1 1 #[.int .i64 9] [9] w1 ((hw.later b1).later b2) (Nat.le_trans hb (Nat.le_trans b1.size b2.size)) rfl (Nat.le_refl _) (by omega) (hB.below b2) (fun i k h => by
      match i, h with
      | 0, h => have h2 : (9 : Int) = k := by simpa using h
                rw [← h2]; rfl
      | i + 1, h => simp at h) gu v' hp hu8 ho
    simp only [List.length_nil] at *
    have HMs : Hid (∀ W', Below w.heap.size w W' → W'.cell? ⟨g, 0, none⟩ = some (.slice p.u us.length p.uc) ∧ g < W'.heap.size) := fun W' h => ⟨(hw.later h).b.cell (i := 0) rfl, (hw.later h).b.lt⟩
    have HUa : Hid (us = [] ∨ (p.u = some ⟨gu, 0, none⟩ ∧ gu < w.heap.size ∧ UAt w gu 0 us)) := hat
    obtain ⟨mu, Hmu⟩ : ∃ m, Hid (us.length = m) := ⟨_, rfl⟩
    rw [Hmu.out] at HMs hu8
    obtain ⟨pu, Hpu⟩ : ∃ q, Hid (p.u = q) := ⟨_, rfl⟩
    rw [Hpu.out] at HMs HUa
    clear hw hI hp hat hne hl hB
    obtain ⟨p0, pl⟩ := HMs.out W1 b1
    go_enter Tryz.func50, Tryz.ntmps50
    go_upto_region 2 with fail
    rw [← HW1.out]
    go_wp2_with fail
    go_loopw [6, 18] (fun v x wr => ∃ k : Nat, k ≤ mu ∧ x = .int .i64 k ∧ Hid (wr.ownsRow W1.heap.size 122 1 v (ixU a (us.take k) 0).length (ptU gu (ixU a (us.take k) 0))) ∧ Below W1.heap.size W1 wr) (fun _ x _ => mu - (intOf x).toNat)
    case atStart => exact ⟨0, Nat.zero_le _, rfl, ⟨rfl, .inl ⟨rfl, rfl⟩⟩, Below.refl _ _⟩
    case round =>
      clear p0 pl
      obtain ⟨k, hk, rfl, Hown, kb⟩ := hrel
      have kw := b1.trans (kb.mono b1.size)
      by_cases hlt : k < mu
      · have hlt' : (k : Int) < (mu : Int) := by omega
        obtain ⟨u, hu⟩ : ∃ u, us[k]? = some u := ⟨_, List.getElem?_eq_getElem (by have := Hmu.out; omega)⟩
        rcases HUa.out with he | ⟨rfl, hgl, hat⟩
        · rw [he] at hu; simp at hu
        obtain ⟨x0, x1, x2, x3, x4, x5, x6, x7, x8, x9, xl⟩ := (hat.later hgl kw).one (Nat.lt_of_lt_of_le hgl kw.size) hu
        rw [Nat.zero_add] at x1
        obtain ⟨p0, pl⟩ := HMs.out wr kw
        have HS : Hid (ixU a (us.take (k + 1)) 0 = ixU a (us.take k) 0 ++ (if (u.c1 == a) = true then [k] else [])) := ixU_take hu
        have hlen : (ixU a (us.take k) 0).length ≤ 8 := Nat.le_trans (ixU_le _ _) (by rw [List.length_take]; omega)
        clear hu hat x0 x2 x3 x4 x5 x6 x7 x8 x9
        cases hq : u.c1 == a
        · have ho1 : Hid (wr.ownsRow W1.heap.size 122 1 u6 (ixU a (us.take (k + 1)) 0).length (ptU gu (ixU a (us.take (k + 1)) 0))) := by
            show World.ownsRow _ _ _ _ _ _ _
            rw [HS.out, if_neg (by rw [hq]; simp), List.append_nil]; exact Hown.out
          go_wp2_with fail
          go_roundw
          case rel => exact ⟨k + 1, by omega, by go_num, ho1, kb⟩
          case measure => simp [intOf]; omega
        · have hown := Hown.out
          go_wp2_with (first | (at_builtin; refine wpList_append_own _ rfl _ _ 121 rfl W1.heap.size 122 i0 (.pointer none) 1 8 Tryz.underlying121 hi hz0 hz1 hz2 rfl (by decide) _ _ _ rfl (hown.alloc _) ⟨wr.heap.size, 0, none⟩ 1 1 [.pointer (some ⟨gu, k * 10, none⟩)] rfl rfl (one_new _ _ _) (one_ptr _) (by unfold maxLen; omega) (by omega) (by have := kb.size; simp; omega) ?_))
          intro v' w1 hown' hgrow _
          have hb1 : Below W1.heap.size W1 w1 := (kb.alloc kb.size _).grown hgrow (by have := kb.size; simp; omega) (fun k' hk' => (hown.lt k' hk').1)
          have ho1 : Hid (w1.ownsRow W1.heap.size 122 1 v' (ixU a (us.take (k + 1)) 0).length (ptU gu (ixU a (us.take (k + 1)) 0))) := by
            show World.ownsRow _ _ _ _ _ _ _
            rw [HS.out, if_pos hq, ptU_app, List.length_append]; exact hown'
          clear hown' hgrow hown
          go_wp2_with fail
          go_roundw
          case rel => exact ⟨k + 1, by omega, by go_num, ho1, hb1⟩
          case measure => simp [intOf]; omega
      · obtain rfl : k = mu := by omega
        have hlt' : ¬ (k : Int) < (k : Int) := by omega
        have ho := Hown.out
        rw [List.take_of_length_le (by have := Hmu.out; omega)] at ho
        have cF := cF _ _ kb ho
        clear ho Hown
        go_wp2_with fail
        refine cF.mono ?_
        rintro e w5 ⟨rfl, h1, h2⟩
        go_wp2_with fail
        go_end0
        exact ⟨rfl, h1, (KT.of_below hb kw).trans h2⟩
  · rcases hI.read with ⟨_, he⟩ | ⟨qh, cap, hv, hqb, hql, hcell⟩
    · rw [he] at hne; exact absurd rfl hne
    injection hv with v1 v2 v3
    subst v1
    obtain ⟨csH, hB⟩ := hI.blkI (q := qh) rfl
    obtain ⟨W1, HW1⟩ : ∃ W1, Hid (W1 = w) := ⟨_, rfl⟩
    have b1 : Below w.heap.size w W1 := by rw [HW1.out]; exact Below.refl _ _
    have hC : ∀ (i : Nat) (k : Int), hs[i]? = some k → csH[i]? = some (Value.int .i64 k) := fun i k h => by
      have h2 := hcell i k h
      have hB2 := hB
      unfold Blk at hB2
      simpa [World.cell?, hB2] using h2
    have cF := fun w1 v' (b2 : Below W1.heap.size W1 w1) (ho : w1.ownsRow W1.heap.size 122 1 v' (ixU a us 0).length (ptU gu (ixU a us 0))) => finU_c g base W1.heap.size p t s us fs fa se oo a qh hs.length vc csH hs w1 ((hw.later b1).later b2) (Nat.le_trans hb (Nat.le_trans b1.size b2.size)) rfl (by omega) hl ((hB.below b1).below b2) hC gu v' hp hu8 ho
    have hmh0 : ((hs.length : Int) == 0) = false := by simpa using hne
    have HMs : Hid (∀ W', Below w.heap.size w W' → W'.cell? ⟨g, 0, none⟩ = some (.slice p.u us.length p.uc) ∧ g < W'.heap.size) := fun W' h => ⟨(hw.later h).b.cell (i := 0) rfl, (hw.later h).b.lt⟩
    have HUa : Hid (us = [] ∨ (p.u = some ⟨gu, 0, none⟩ ∧ gu < w.heap.size ∧ UAt w gu 0 us)) := hat
    obtain ⟨mu, Hmu⟩ : ∃ m, Hid (us.length = m) := ⟨_, rfl⟩
    rw [Hmu.out] at HMs hu8
    obtain ⟨pu, Hpu⟩ : ∃ q, Hid (p.u = q) := ⟨_, rfl⟩
    rw [Hpu.out] at HMs HUa
    obtain ⟨mh, Hmh⟩ : ∃ m, Hid (hs.length = m) := ⟨_, rfl⟩
    rw [Hmh.out] at hmh0 cF ⊢
    clear hw hI hp hat hne hl hB hcell hC v2 v3
    obtain ⟨p0, pl⟩ := HMs.out W1 b1
    go_enter Tryz.func50, Tryz.ntmps50
    go_upto_region 2 with fail
    rw [← HW1.out]
    go_wp2_with fail
    go_loopw [6, 18] (fun v x wr => ∃ k : Nat, k ≤ mu ∧ x = .int .i64 k ∧ Hid (wr.ownsRow W1.heap.size 122 1 v (ixU a (us.take k) 0).length (ptU gu (ixU a (us.take k) 0))) ∧ Below W1.heap.size W1 wr) (fun _ x _ => mu - (intOf x).toNat)
    case atStart => exact ⟨0, Nat.zero_le _, rfl, ⟨rfl, .inl ⟨rfl, rfl⟩⟩, Below.refl _ _⟩
    case round =>
      clear p0 pl
      obtain ⟨k, hk, rfl, Hown, kb⟩ := hrel
      have kw := b1.trans (kb.mono b1.size)
      by_cases hlt : k < mu
      · have hlt' : (k : Int) < (mu : Int) := by omega
        obtain ⟨u, hu⟩ : ∃ u, us[k]? = some u := ⟨_, List.getElem?_eq_getElem (by have := Hmu.out; omega)⟩
        rcases HUa.out with he | ⟨rfl, hgl, hat⟩
        · rw [he] at hu; simp at hu
        obtain ⟨x0, x1, x2, x3, x4, x5, x6, x7, x8, x9, xl⟩ := (hat.later hgl kw).one (Nat.lt_of_lt_of_le hgl kw.size) hu
        rw [Nat.zero_add] at x1
        obtain ⟨p0, pl⟩ := HMs.out wr kw
        have HS : Hid (ixU a (us.take (k + 1)) 0 = ixU a (us.take k) 0 ++ (if (u.c1 == a) = true then [k] else [])) := ixU_take hu
        have hlen : (ixU a (us.take k) 0).length ≤ 8 := Nat.le_trans (ixU_le _ _) (by rw [List.length_take]; omega)
        clear hu hat x0 x2 x3 x4 x5 x6 x7 x8 x9
        cases hq : u.c1 == a
        · have ho1 : Hid (wr.ownsRow W1.heap.size 122 1 u6 (ixU a (us.take (k + 1)) 0).length (ptU gu (ixU a (us.take (k + 1)) 0))) := by
            show World.ownsRow _ _ _ _ _ _ _
            rw [HS.out, if_neg (by rw [hq]; simp), List.append_nil]; exact Hown.out
          go_wp2_with fail
          go_roundw
          case rel => exact ⟨k + 1, by omega, by go_num, ho1, kb⟩
          case measure => simp [intOf]; omega
        · have hown := Hown.out
          go_wp2_with (first | (at_builtin; refine wpList_append_own _ rfl _ _ 121 rfl W1.heap.size 122 i0 (.pointer none) 1 8 Tryz.underlying121 hi hz0 hz1 hz2 rfl (by decide) _ _ _ rfl (hown.alloc _) ⟨wr.heap.size, 0, none⟩ 1 1 [.pointer (some ⟨gu, k * 10, none⟩)] rfl rfl (one_new _ _ _) (one_ptr _) (by unfold maxLen; omega) (by omega) (by have := kb.size; simp; omega) ?_))
          intro v' w1 hown' hgrow _
          have hb1 : Below W1.heap.size W1 w1 := (kb.alloc kb.size _).grown hgrow (by have := kb.size; simp; omega) (fun k' hk' => (hown.lt k' hk').1)
          have ho1 : Hid (w1.ownsRow W1.heap.size 122 1 v' (ixU a (us.take (k + 1)) 0).length (ptU gu (ixU a (us.take (k + 1)) 0))) := by
            show World.ownsRow _ _ _ _ _ _ _
            rw [HS.out, if_pos hq, ptU_app, List.length_append]; exact hown'
          clear hown' hgrow hown
          go_wp2_with fail
          go_roundw
          case rel => exact ⟨k + 1, by omega, by go_num, ho1, hb1⟩
          case measure => simp [intOf]; omega
      · obtain rfl : k = mu := by omega
        have hlt' : ¬ (k : Int) < (k : Int) := by omega
        have ho := Hown.out
        rw [List.take_of_length_le (by have := Hmu.out; omega)] at ho
        have cF := cF _ _ kb ho
        clear ho Hown
        go_wp2_with fail
        refine cF.mono ?_
        rintro e w5 ⟨rfl, h1, h2⟩
        go_wp2_with fail
        go_end0
        exact ⟨rfl, h1, (KT.of_below hb kw).trans h2⟩
end Go.Proofs.YtlfnnobkgbfdgaaGreat
end

/- SeatImpl -/
/- The contracts of SeatOf and of its model, and of their parts. Condition: the lists lie in memory as they were laid there, and seats rise. -/
section
namespace Go.Proofs.YtlfnnobkgbfdgaaGreat
open Go.ChangeShapes Go.WideShapes Go.ChangeAt Go.RowKit
open Bd
set_option linter.unusedVariables false

def cmpI (x y : Int) : Int := if x < y then -1 else if y < x then 1 else 0
end Go.Proofs.YtlfnnobkgbfdgaaGreat
end

/- PfSpec -/
/- The contracts of the model's faults of two sides. Condition: the world lies in memory, its lists as they were laid there. -/
section
namespace Go.Proofs.YtlfnnobkgbfdgaaGreat
open Go.ChangeShapes Go.WideShapes Go.ChangeAt Go.RowKit
open Bd
set_option linter.unusedVariables false

theorem l7Bad_c (c : Int) (w : World) : Calls Tryz.prog 24 #[.int .i64 c] w fun e w' => e = .returned (.agg (r8 c wpz kz)) ∧ Below w.heap.size w w' := by
  have R := Blk.new w z8 36
  obtain ⟨W, HW⟩ : ∃ W, Hid (W = w.alloc (.cells z8 36)) := ⟨_, rfl⟩
  have B1 : Below w.heap.size w W := by rw [HW.out]; exact (Below.refl _ _).alloc (Nat.le_refl _) _
  rw [← HW.out] at R
  obtain ⟨r0, r1, r2, r3, r4, r5, r6, r7, y0, y1, y2, y3, y4, y5, y6, y7, rl⟩ := R.z8
  have F : Blk _ w.heap.size (r8 c wpz kz) 36 := set8_blk R (.int .i64 c) (.int .i64 0) (.int .i64 0) (.slice none 0 0) (.slice none 0 0) (.slice none 0 0) (.slice none 0 0) (.slice none 0 0)
  have B2 := set8_below B1 (Nat.le_refl _) (.int .i64 c) (.int .i64 0) (.int .i64 0) (.slice none 0 0) (.slice none 0 0) (.slice none 0 0) (.slice none 0 0) (.slice none 0 0)
  go_enter Tryz.func24, Tryz.ntmps24
  go_upto_region 1 with fail
  rw [← HW.out]
  go_wp2_with fail
  exact bodyPost_ret (v := .agg (r8 c wpz kz)) (result8 Tryz.results24 F _ rfl) rfl ⟨rfl, B2⟩
end Go.Proofs.YtlfnnobkgbfdgaaGreat
end

/- SeatWalk -/
/- The contracts of SeatOf and of its model. Condition: the world's lists lie in memory as they were laid there. -/
section
namespace Go.Proofs.YtlfnnobkgbfdgaaGreat
open Go.ChangeShapes Go.WideShapes Go.ChangeAt Go.RowKit
open Bd
set_option linter.unusedVariables false

abbrev z5 : Array Value := #[.int .i64 0, .int .i64 0, .int .i64 0, .int .i64 0, .int .i64 0]
abbrev set5 (W : World) (g : Nat) (v0 v1 v2 v3 v4 : Value) : World := ((((W.setCell ⟨g, 0, none⟩ v0).setCell ⟨g, 1, none⟩ v1).setCell ⟨g, 2, none⟩ v2).setCell ⟨g, 3, none⟩ v3).setCell ⟨g, 4, none⟩ v4
structure Z5 (w : World) (g : Nat) : Prop where
  c0 : w.cell? ⟨g, 0, none⟩ = some (.int .i64 0)
  c1 : w.cell? ⟨g, 1, none⟩ = some (.int .i64 0)
  c2 : w.cell? ⟨g, 2, none⟩ = some (.int .i64 0)
  c3 : w.cell? ⟨g, 3, none⟩ = some (.int .i64 0)
  c4 : w.cell? ⟨g, 4, none⟩ = some (.int .i64 0)
  f0 : w.frozen? ⟨g, 0, none⟩ = false
  f1 : w.frozen? ⟨g, 1, none⟩ = false
  f2 : w.frozen? ⟨g, 2, none⟩ = false
  f3 : w.frozen? ⟨g, 3, none⟩ = false
  f4 : w.frozen? ⟨g, 4, none⟩ = false
  lt : g < w.heap.size
theorem Blk.z5 {w : World} {g : Nat} {t : TypeId} (h : Blk w g z5 t) : Z5 w g :=
  ⟨h.cell rfl, h.cell rfl, h.cell rfl, h.cell rfl, h.cell rfl, h.frozen _, h.frozen _, h.frozen _, h.frozen _, h.frozen _, h.lt⟩
abbrev r5 (c : Int) (s : K4) : Array Value := #[.int .i64 c, .int .i64 s.c0, .int .i64 s.c1, .int .i64 s.c2, .int .i64 s.c3]
/- the place of a seat, or -1 -/
def atS (l : List K4) (c r : Int) : Prop := (sTh l c = true ∧ 0 ≤ r ∧ l[r.toNat]? = some (sGet l c)) ∨ (sTh l c = false ∧ r = -1)
end Go.Proofs.YtlfnnobkgbfdgaaGreat
end
