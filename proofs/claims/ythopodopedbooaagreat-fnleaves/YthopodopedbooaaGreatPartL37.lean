/- Texts of mine put together (a claim holds at most 60 files): LeaveUnits2, GfSeat. -/
import Derived.Test.YthopodopedbooaaGreatPartL36
import Derived.Test.YthopodopedbooaaGreatPartL12

/- LeaveUnits2 -/
/- The contract of leaveUnits: the pointers to a side's units, handed on in turn. Condition: the world that is worked on lies in memory. -/
section
namespace Go.Proofs.YthopodopedbooaaGreat
open Go.ChangeShapes Go.WideShapes Go.ChangeAt Go.RowKit
open Bd
set_option linter.unusedVariables false

theorem infoPU : (Tryz.prog.info? 161).map (fun i => (i.zero, i.size, i.bytes)) = some (some (.pointer none), 1, 8) := by kernel_rfl
theorem one_ptr (a : Option Addr) : ∀ u ∈ [Value.pointer a], u.oneCell' = true := by
  intro u hu
  have : u = .pointer a := by simpa using hu
  rw [this]; rfl
theorem ptU_app (gu : Nat) (a b : List Nat) : ptU gu (a ++ b) = ptU gu a ++ ptU gu b := by unfold ptU; rw [List.map_append]
theorem ptU_len (gu : Nat) (a : List Nat) : (ptU gu a).length = a.length := by unfold ptU; rw [List.length_map]
/- an own list of pointers, read -/
theorem own_ptr {w : World} {base gu : Nat} {v : Value} {js : List Nat} (h : w.ownsRow base 161 1 v js.length (ptU gu js)) : (v = .slice none 0 0 ∧ js = []) ∨ ∃ q cap cs, v = .slice (some ⟨q, 0, none⟩) js.length cap ∧ Blk w q cs 161 ∧ ∀ (i j : Nat), js[i]? = some j → cs[i]? = some (Value.pointer (some ⟨gu, j * 10, none⟩)) := by
  rcases h.2 with ⟨h1, h2⟩ | ⟨g, cap, cur, hv, hb, hg, h4, h5, h6, h7⟩
  · exact .inl ⟨h1, List.eq_nil_of_length_eq_zero h2⟩
  · refine .inr ⟨g, cap, cur, hv, hg, fun i j hi => ?_⟩
    have hil : i < js.length := (List.getElem?_eq_some_iff.1 hi).1
    have e : (ptU gu js)[i]? = some (.pointer (some ⟨gu, j * 10, none⟩)) := by unfold ptU; rw [List.getElem?_map, hi]; rfl
    rw [← h7, List.getElem?_take, if_pos (by omega)] at e
    simpa using e
theorem finU_c (g base nb : Nat) (p : WP) (t s : Int) (us : List K10) (fs : List K3) (fa : List KA) (se : List K4) (oo : List K2) (a : Int) (qh mh ch : Nat) (csH : Array Value) (hs : List Int) (w : World) (hw : WS w base g p ⟨t, s, us, fs, fa, se, oo⟩) (hb : base ≤ w.heap.size) (e1 : hs.length = mh) (e2 : 1 ≤ mh) (e3 : mh ≤ 4) (hB : Blk w qh csH 2) (hC : ∀ (i : Nat) (k : Int), hs[i]? = some k → csH[i]? = some (Value.int .i64 k))
    (gu : Nat) (v : Value) (hp : us = [] ∨ p.u = some ⟨gu, 0, none⟩) (hu8 : us.length ≤ 8) (hown : w.ownsRow nb 161 1 v (ixU a us 0).length (ptU gu (ixU a us 0))) :
    Calls Tryz.prog 161 #[.slice (some ⟨qh, 0, none⟩) mh ch, v, .func (.func 162) #[] #[]] w fun e w' => e = .returned (.tuple #[]) ∧ WS w' base g p ⟨t, s, shU a hs 0 us, fs, fa, se, oo⟩ ∧ KT TU base w w' := by
  have hlt : ∀ j ∈ ixU a us 0, j < us.length := fun j hj => by have := ixU_lt hj; omega
  have hle := ixU_le (a := a) us 0
  have hw2 : ∀ w', SlU w' base (.slice p.u us.length p.uc) (shU a hs 0 us) → KT TU base w w' → WS w' base g p ⟨t, s, shU a hs 0 us, fs, fa, se, oo⟩ := fun w' h k => hw.ofU (gu := 0) (shU a hs 0 us) shU_len h k
  rw [← apU_all] at hw2 ⊢
  generalize ixU a us 0 = js at hown hlt hle hw2 ⊢
  by_cases h0 : js.length = 0
  · have he : js = [] := List.eq_nil_of_length_eq_zero h0
    subst he
    rcases own_ptr hown with ⟨rfl, _⟩ | ⟨q, cap, cs, rfl, _, _⟩
    · refine (shareU_zero _ none mh ch 0 _ w).mono ?_
      rintro e w' ⟨rfl, rfl⟩
      exact ⟨rfl, hw, KT.refl _ _ _⟩
    · refine (shareU_zero _ (some ⟨q, 0, none⟩) mh ch cap _ w).mono ?_
      rintro e w' ⟨rfl, rfl⟩
      exact ⟨rfl, hw, KT.refl _ _ _⟩
  · rcases own_ptr hown with ⟨_, he⟩ | ⟨q, cap, cs, rfl, hPB, hPC⟩
    · rw [he] at h0; exact absurd rfl h0
    rcases hp with he | hpu
    · rw [he] at hle; exact absurd (Nat.le_zero.1 hle) h0
    rcases hw.o.u.rowU with ⟨_, he⟩ | ⟨gu', cap', cur, h1, h2, h3⟩
    · have he : us = [] := he
      rw [he] at hle; exact absurd (Nat.le_zero.1 hle) h0
    injection h1 with e4 e5 e6
    have e4 : p.u = some ⟨gu', 0, none⟩ := e4
    have e7 : gu = gu' := by rw [hpu] at e4; have := Option.some.inj e4; injection this
    subst e7
    have e6 : p.uc = cap' := e6
    subst e6
    refine (shareU_c gu base qh q ch cap p.uc csH cs cur us hs mh js js.length w hb h3 h2 e1 e2 rfl (by omega) hB hC hPB hPC hlt e3).mono ?_
    rintro e w' ⟨rfl, ⟨cur', hR⟩, hK⟩
    refine ⟨rfl, hw2 w' ?_ hK, hK⟩
    have := hR.sl h2
    have hl : (apU hs 0 js us).length = us.length := by
      have : ∀ (js : List Nat) (n : Nat) (us : List K10), (apU hs n js us).length = us.length := fun js => by
        induction js with
        | nil => intro n us; rfl
        | cons j js ih => intro n us; show (apU hs (n + 1) js _).length = _; rw [ih, List.length_set]
      exact this js 0 us
    rw [hl] at this
    rw [hpu]
    exact this
set_option maxRecDepth 20000 in
set_option maxHeartbeats 8000000 in
theorem leaveUnits_c (g base b0 : Nat) (p : WP) (t s : Int) (us : List K10) (fs : List K3) (fa : List KA) (se : List K4) (oo : List K2) (a : Int) (hs : List Int) (v : Value) (w : World) (hw : WS w base g p ⟨t, s, us, fs, fa, se, oo⟩) (hI : SlI w b0 v hs) (hb : base ≤ w.heap.size)
    (hu8 : us.length ≤ 8) (hl : hs.length ≤ 4) :
    Calls Tryz.prog 119 #[.pointer (some ⟨g, 0, none⟩), .int .i64 a, v] w fun e w' => e = .returned (.tuple #[]) ∧ WS w' base g p ⟨t, s, shU a hs 0 us, fs, fa, se, oo⟩ ∧ KT TU base w w' := by
  obtain ⟨i0, hi, hz0, hz1, hz2⟩ := info_parts infoPU
  obtain ⟨vq, vc, rfl⟩ := SlI.form hI
  obtain ⟨gu, hat⟩ : ∃ gu, us = [] ∨ (p.u = some ⟨gu, 0, none⟩ ∧ gu < w.heap.size ∧ UAt w gu 0 us) := by
    rcases hw.o.u.rowU with ⟨_, h2⟩ | ⟨gu, cap, cur, h1, h2, h3⟩
    · exact ⟨0, .inl h2⟩
    · injection h1 with e1 e2 e3
      exact ⟨gu, .inr ⟨e1, h3.b.lt, h3.at⟩⟩
  have hp : us = [] ∨ p.u = some ⟨gu, 0, none⟩ := hat.imp id (fun h => h.1)
  by_cases hne : hs.length = 0
  · have he : hs = [] := List.eq_nil_of_length_eq_zero hne
    subst he
    have HF : Hid (shU a [9] 0 us = shU a [] 0 us) := shU_nine a us 0
    rw [← HF.out]
    obtain ⟨W1, HW1⟩ : ∃ W1, Hid (W1 = w.alloc (.cells #[.int .i64 9] 2)) := ⟨_, rfl⟩
    have b1 : Below w.heap.size w W1 := by rw [HW1.out]; exact (Below.refl _ _).alloc (Nat.le_refl _) _
    have hB : Blk W1 w.heap.size #[.int .i64 9] 2 := by rw [HW1.out]; exact Blk.new w _ _
    have cF := fun w1 v' (b2 : Below W1.heap.size W1 w1) (ho : w1.ownsRow W1.heap.size 161 1 v' (ixU a us 0).length (ptU gu (ixU a us 0))) => finU_c g base W1.heap.size p t s us fs fa se oo a w.heap.size 1 1 #[.int .i64 9] [9] w1 ((hw.later b1).later b2) (Nat.le_trans hb (Nat.le_trans b1.size b2.size)) rfl (Nat.le_refl _) (by omega) (hB.below b2) (fun i k h => by
      match i, h with
      | 0, h => have h2 : (9 : Int) = k := by simpa using h
                rw [← h2]; rfl
      | i + 1, h => simp at h) gu v' hp hu8 ho
    simp only [List.length_nil] at *
    have HMs : Hid (∀ W', Below w.heap.size w W' → W'.cell? ⟨g, 0, none⟩ = some (.slice p.u us.length p.uc) ∧ g < W'.heap.size) := fun W' h => ⟨(hw.later h).b.cell (i := 0) rfl, (hw.later h).b.lt⟩
    have HUa : Hid (us = [] ∨ (p.u = some ⟨gu, 0, none⟩ ∧ gu < w.heap.size ∧ UAt w gu 0 us)) := hat
    obtain ⟨mu, Hmu⟩ : ∃ m, Hid (us.length = m) := ⟨_, rfl⟩
    rw [Hmu.out] at HMs hu8
    obtain ⟨pu, Hpu⟩ : ∃ q, Hid (p.u = q) := ⟨_, rfl⟩
    rw [Hpu.out] at HMs HUa
    clear hw hI hp hat hne hl hB
    obtain ⟨p0, pl⟩ := HMs.out W1 b1
    go_enter Tryz.func119, Tryz.ntmps119
    go_upto_region 2 with fail
    rw [← HW1.out]
    go_wp2_with fail
    go_loopw [6, 18] (fun v x wr => ∃ k : Nat, k ≤ mu ∧ x = .int .i64 k ∧ Hid (wr.ownsRow W1.heap.size 161 1 v (ixU a (us.take k) 0).length (ptU gu (ixU a (us.take k) 0))) ∧ Below W1.heap.size W1 wr) (fun _ x _ => mu - (intOf x).toNat)
    case atStart => exact ⟨0, Nat.zero_le _, rfl, ⟨rfl, .inl ⟨rfl, rfl⟩⟩, Below.refl _ _⟩
    case round =>
      clear p0 pl
      obtain ⟨k, hk, rfl, Hown, kb⟩ := hrel
      have kw := b1.trans (kb.mono b1.size)
      by_cases hlt : k < mu
      · have hlt' : (k : Int) < (mu : Int) := by omega
        obtain ⟨u, hu⟩ : ∃ u, us[k]? = some u := ⟨_, List.getElem?_eq_getElem (by have := Hmu.out; omega)⟩
        rcases HUa.out with he | ⟨rfl, hgl, hat⟩
        · rw [he] at hu; simp at hu
        obtain ⟨x0, x1, x2, x3, x4, x5, x6, x7, x8, x9, xl⟩ := (hat.later hgl kw).one (Nat.lt_of_lt_of_le hgl kw.size) hu
        rw [Nat.zero_add] at x1
        obtain ⟨p0, pl⟩ := HMs.out wr kw
        have HS : Hid (ixU a (us.take (k + 1)) 0 = ixU a (us.take k) 0 ++ (if (u.c1 == a) = true then [k] else [])) := ixU_take hu
        have hlen : (ixU a (us.take k) 0).length ≤ 8 := Nat.le_trans (ixU_le _ _) (by rw [List.length_take]; omega)
        clear hu hat x0 x2 x3 x4 x5 x6 x7 x8 x9
        cases hq : u.c1 == a
        · have ho1 : Hid (wr.ownsRow W1.heap.size 161 1 u6 (ixU a (us.take (k + 1)) 0).length (ptU gu (ixU a (us.take (k + 1)) 0))) := by
            show World.ownsRow _ _ _ _ _ _ _
            rw [HS.out, if_neg (by rw [hq]; simp), List.append_nil]; exact Hown.out
          go_wp2_with fail
          go_roundw
          case rel => exact ⟨k + 1, by omega, by go_num, ho1, kb⟩
          case measure => simp [intOf]; omega
        · have hown := Hown.out
          go_wp2_with (first | (at_builtin; refine wpList_append_own _ rfl _ _ 169 rfl W1.heap.size 161 i0 (.pointer none) 1 8 Tryz.underlying169 hi hz0 hz1 hz2 rfl (by decide) _ _ _ rfl (hown.alloc _) ⟨wr.heap.size, 0, none⟩ 1 1 [.pointer (some ⟨gu, k * 10, none⟩)] rfl rfl (one_new _ _ _) (one_ptr _) (by unfold maxLen; omega) (by omega) (by have := kb.size; simp; omega) ?_))
          intro v' w1 hown' hgrow _
          have hb1 : Below W1.heap.size W1 w1 := (kb.alloc kb.size _).grown hgrow (by have := kb.size; simp; omega) (fun k' hk' => (hown.lt k' hk').1)
          have ho1 : Hid (w1.ownsRow W1.heap.size 161 1 v' (ixU a (us.take (k + 1)) 0).length (ptU gu (ixU a (us.take (k + 1)) 0))) := by
            show World.ownsRow _ _ _ _ _ _ _
            rw [HS.out, if_pos hq, ptU_app, List.length_append]; exact hown'
          clear hown' hgrow hown
          go_wp2_with fail
          go_roundw
          case rel => exact ⟨k + 1, by omega, by go_num, ho1, hb1⟩
          case measure => simp [intOf]; omega
      · obtain rfl : k = mu := by omega
        have hlt' : ¬ (k : Int) < (k : Int) := by omega
        have ho := Hown.out
        rw [List.take_of_length_le (by have := Hmu.out; omega)] at ho
        have cF := cF _ _ kb ho
        clear ho Hown
        go_wp2_with fail
        refine cF.mono ?_
        rintro e w5 ⟨rfl, h1, h2⟩
        go_wp2_with fail
        go_end0
        exact ⟨rfl, h1, (KT.of_below hb kw).trans h2⟩
  · rcases hI.read with ⟨_, he⟩ | ⟨qh, cap, hv, hqb, hql, hcell⟩
    · rw [he] at hne; exact absurd rfl hne
    injection hv with v1 v2 v3
    subst v1
    obtain ⟨csH, hB⟩ := hI.blkI (q := qh) rfl
    obtain ⟨W1, HW1⟩ : ∃ W1, Hid (W1 = w) := ⟨_, rfl⟩
    have b1 : Below w.heap.size w W1 := by rw [HW1.out]; exact Below.refl _ _
    have hC : ∀ (i : Nat) (k : Int), hs[i]? = some k → csH[i]? = some (Value.int .i64 k) := fun i k h => by
      have h2 := hcell i k h
      have hB2 := hB
      unfold Blk at hB2
      simpa [World.cell?, hB2] using h2
    have cF := fun w1 v' (b2 : Below W1.heap.size W1 w1) (ho : w1.ownsRow W1.heap.size 161 1 v' (ixU a us 0).length (ptU gu (ixU a us 0))) => finU_c g base W1.heap.size p t s us fs fa se oo a qh hs.length vc csH hs w1 ((hw.later b1).later b2) (Nat.le_trans hb (Nat.le_trans b1.size b2.size)) rfl (by omega) hl ((hB.below b1).below b2) hC gu v' hp hu8 ho
    have hmh0 : ((hs.length : Int) == 0) = false := by simpa using hne
    have HMs : Hid (∀ W', Below w.heap.size w W' → W'.cell? ⟨g, 0, none⟩ = some (.slice p.u us.length p.uc) ∧ g < W'.heap.size) := fun W' h => ⟨(hw.later h).b.cell (i := 0) rfl, (hw.later h).b.lt⟩
    have HUa : Hid (us = [] ∨ (p.u = some ⟨gu, 0, none⟩ ∧ gu < w.heap.size ∧ UAt w gu 0 us)) := hat
    obtain ⟨mu, Hmu⟩ : ∃ m, Hid (us.length = m) := ⟨_, rfl⟩
    rw [Hmu.out] at HMs hu8
    obtain ⟨pu, Hpu⟩ : ∃ q, Hid (p.u = q) := ⟨_, rfl⟩
    rw [Hpu.out] at HMs HUa
    obtain ⟨mh, Hmh⟩ : ∃ m, Hid (hs.length = m) := ⟨_, rfl⟩
    rw [Hmh.out] at hmh0 cF ⊢
    clear hw hI hp hat hne hl hB hcell hC v2 v3
    obtain ⟨p0, pl⟩ := HMs.out W1 b1
    go_enter Tryz.func119, Tryz.ntmps119
    go_upto_region 2 with fail
    rw [← HW1.out]
    go_wp2_with fail
    go_loopw [6, 18] (fun v x wr => ∃ k : Nat, k ≤ mu ∧ x = .int .i64 k ∧ Hid (wr.ownsRow W1.heap.size 161 1 v (ixU a (us.take k) 0).length (ptU gu (ixU a (us.take k) 0))) ∧ Below W1.heap.size W1 wr) (fun _ x _ => mu - (intOf x).toNat)
    case atStart => exact ⟨0, Nat.zero_le _, rfl, ⟨rfl, .inl ⟨rfl, rfl⟩⟩, Below.refl _ _⟩
    case round =>
      clear p0 pl
      obtain ⟨k, hk, rfl, Hown, kb⟩ := hrel
      have kw := b1.trans (kb.mono b1.size)
      by_cases hlt : k < mu
      · have hlt' : (k : Int) < (mu : Int) := by omega
        obtain ⟨u, hu⟩ : ∃ u, us[k]? = some u := ⟨_, List.getElem?_eq_getElem (by have := Hmu.out; omega)⟩
        rcases HUa.out with he | ⟨rfl, hgl, hat⟩
        · rw [he] at hu; simp at hu
        obtain ⟨x0, x1, x2, x3, x4, x5, x6, x7, x8, x9, xl⟩ := (hat.later hgl kw).one (Nat.lt_of_lt_of_le hgl kw.size) hu
        rw [Nat.zero_add] at x1
        obtain ⟨p0, pl⟩ := HMs.out wr kw
        have HS : Hid (ixU a (us.take (k + 1)) 0 = ixU a (us.take k) 0 ++ (if (u.c1 == a) = true then [k] else [])) := ixU_take hu
        have hlen : (ixU a (us.take k) 0).length ≤ 8 := Nat.le_trans (ixU_le _ _) (by rw [List.length_take]; omega)
        clear hu hat x0 x2 x3 x4 x5 x6 x7 x8 x9
        cases hq : u.c1 == a
        · have ho1 : Hid (wr.ownsRow W1.heap.size 161 1 u6 (ixU a (us.take (k + 1)) 0).length (ptU gu (ixU a (us.take (k + 1)) 0))) := by
            show World.ownsRow _ _ _ _ _ _ _
            rw [HS.out, if_neg (by rw [hq]; simp), List.append_nil]; exact Hown.out
          go_wp2_with fail
          go_roundw
          case rel => exact ⟨k + 1, by omega, by go_num, ho1, kb⟩
          case measure => simp [intOf]; omega
        · have hown := Hown.out
          go_wp2_with (first | (at_builtin; refine wpList_append_own _ rfl _ _ 169 rfl W1.heap.size 161 i0 (.pointer none) 1 8 Tryz.underlying169 hi hz0 hz1 hz2 rfl (by decide) _ _ _ rfl (hown.alloc _) ⟨wr.heap.size, 0, none⟩ 1 1 [.pointer (some ⟨gu, k * 10, none⟩)] rfl rfl (one_new _ _ _) (one_ptr _) (by unfold maxLen; omega) (by omega) (by have := kb.size; simp; omega) ?_))
          intro v' w1 hown' hgrow _
          have hb1 : Below W1.heap.size W1 w1 := (kb.alloc kb.size _).grown hgrow (by have := kb.size; simp; omega) (fun k' hk' => (hown.lt k' hk').1)
          have ho1 : Hid (w1.ownsRow W1.heap.size 161 1 v' (ixU a (us.take (k + 1)) 0).length (ptU gu (ixU a (us.take (k + 1)) 0))) := by
            show World.ownsRow _ _ _ _ _ _ _
            rw [HS.out, if_pos hq, ptU_app, List.length_append]; exact hown'
          clear hown' hgrow hown
          go_wp2_with fail
          go_roundw
          case rel => exact ⟨k + 1, by omega, by go_num, ho1, hb1⟩
          case measure => simp [intOf]; omega
      · obtain rfl : k = mu := by omega
        have hlt' : ¬ (k : Int) < (k : Int) := by omega
        have ho := Hown.out
        rw [List.take_of_length_le (by have := Hmu.out; omega)] at ho
        have cF := cF _ _ kb ho
        clear ho Hown
        go_wp2_with fail
        refine cF.mono ?_
        rintro e w5 ⟨rfl, h1, h2⟩
        go_wp2_with fail
        go_end0
        exact ⟨rfl, h1, (KT.of_below hb kw).trans h2⟩
end Go.Proofs.YthopodopedbooaaGreat
end

/- GfSeat -/
/- Plain facts of seats: the place of a client's seat, a seat that is taken. No condition. -/
section
namespace Go.Proofs.YthopodopedbooaaGreat
open Bd
set_option linter.unusedVariables false

/- how many seats are of clients below c; is there one of c; that -/
def sPl : List K4 → Int → Nat
  | [], _ => 0
  | s :: l, c => if s.c0 < c then sPl l c + 1 else 0
def sTh (l : List K4) (c : Int) : Bool := l.any (fun s => s.c0 == c)
def sGet : List K4 → Int → K4
  | [], _ => K4.z
  | s :: l, c => if (s.c0 == c) = true then s else sGet l c
abbrev RsP (l : List K4) : Prop := l.Pairwise (fun a b => a.c0 < b.c0)
theorem rs_cons {s : K4} {l : List K4} : RsP (s :: l) ↔ (∀ x ∈ l, s.c0 < x.c0) ∧ RsP l := List.pairwise_cons
theorem rs_some : ∀ {l : List K4} {p : Int}, rsF (some p) l = true ↔ (∀ s ∈ l, p < s.c0) ∧ RsP l
  | [], p => by simp [rsF]
  | s :: l, p => by
    unfold rsF
    rw [Bool.and_eq_true, rs_some (l := l), rs_cons]
    have e : (!(leP (some p) s.c0)) = true ↔ p < s.c0 := by
      show (!(decide (s.c0 ≤ p))) = true ↔ _
      simp
    rw [e]
    constructor
    · rintro ⟨h1, h2, h3⟩
      refine ⟨fun x hx => ?_, h2, h3⟩
      rcases List.mem_cons.1 hx with rfl | hx
      · exact h1
      · have := h2 x hx; omega
    · rintro ⟨h1, h2, h3⟩
      exact ⟨h1 s (by simp), h2, h3⟩
theorem rs_iff {l : List K4} : rsF none l = true ↔ RsP l := by
  cases l with
  | nil => simp [rsF]
  | cons s l =>
    unfold rsF
    rw [Bool.and_eq_true, rs_some, rs_cons]
    constructor
    · rintro ⟨_, h⟩; exact h
    · intro h; exact ⟨rfl, h⟩
theorem sPl_le (c : Int) : ∀ l : List K4, sPl l c ≤ l.length
  | [] => by simp [sPl]
  | s :: l => by
    have := sPl_le c l
    unfold sPl
    split <;> simp <;> omega
theorem sPl_iff {c : Int} : ∀ {l : List K4}, RsP l → ∀ {k : Nat} {x : K4}, l[k]? = some x → (x.c0 < c ↔ k < sPl l c)
  | [], _, k, x, h => by simp at h
  | s :: l, hp, k, x, h => by
    obtain ⟨h1, h2⟩ := List.pairwise_cons.1 hp
    unfold sPl
    by_cases hs : s.c0 < c
    · rw [if_pos hs]
      cases k with
      | zero =>
        have : s = x := by simpa using h
        subst this
        simp [hs]
      | succ k =>
        rw [sPl_iff h2 (by simpa using h)]
        omega
    · rw [if_neg hs]
      cases k with
      | zero =>
        have : s = x := by simpa using h
        subst this
        simp [hs]
      | succ k =>
        have hx : x ∈ l := List.mem_of_getElem? (by simpa using h)
        have := h1 x hx
        constructor <;> intro <;> omega
theorem sTh_step {l : List K4} {c : Int} {k : Nat} {x : K4} (h : l[k]? = some x) : sTh (l.drop k) c = (x.c0 == c || sTh (l.drop (k + 1)) c) := by
  have h' := List.getElem?_eq_some_iff.1 h
  rw [List.drop_eq_getElem_cons h'.1, h'.2]; rfl
theorem sGet_step {l : List K4} {c : Int} {k : Nat} {x : K4} (h : l[k]? = some x) : sGet (l.drop k) c = if (x.c0 == c) = true then x else sGet (l.drop (k + 1)) c := by
  have h' := List.getElem?_eq_some_iff.1 h
  rw [List.drop_eq_getElem_cons h'.1, h'.2]; rfl
theorem sTh_no {l : List K4} {c : Int} (h : sTh l c = false) : sGet l c = K4.z := by
  induction l with
  | nil => rfl
  | cons s l ih =>
    have h' : (s.c0 == c || sTh l c) = false := h
    rw [Bool.or_eq_false_iff] at h'
    show (if (s.c0 == c) = true then s else sGet l c) = _
    rw [h'.1, if_neg (by simp)]
    exact ih h'.2
theorem sTh_iff {l : List K4} {c : Int} : sTh l c = true ↔ ∃ s ∈ l, s.c0 = c := by
  unfold sTh
  rw [List.any_eq_true]
  constructor
  · rintro ⟨s, h1, h2⟩; exact ⟨s, h1, by simpa using h2⟩
  · rintro ⟨s, h1, h2⟩; exact ⟨s, h1, by simpa using h2⟩
/- in rising seats who is there is found -/
theorem sGet_mem {l : List K4} (hp : RsP l) {y : K4} (hy : y ∈ l) : sTh l y.c0 = true ∧ sGet l y.c0 = y := by
  refine ⟨sTh_iff.2 ⟨y, hy, rfl⟩, ?_⟩
  induction l with
  | nil => simp at hy
  | cons s l ih =>
    obtain ⟨h1, h2⟩ := List.pairwise_cons.1 hp
    show (if (s.c0 == y.c0) = true then s else sGet l y.c0) = _
    rcases List.mem_cons.1 hy with rfl | hy
    · rw [if_pos (by simp)]
    · have := h1 y hy
      rw [if_neg (by simp; omega)]
      exact ih h2 hy
theorem sTh_at {l : List K4} {c : Int} (hp : RsP l) {y : K4} (h : l[sPl l c]? = some y) : (y.c0 == c) = sTh l c ∧ (sTh l c = true → sGet l c = y) := by
  have hy : y ∈ l := List.mem_of_getElem? h
  have e1 : ¬ y.c0 < c := by rw [sPl_iff hp h]; omega
  cases ec : y.c0 == c
  · have hn : sTh l c = false := by
      rw [Bool.eq_false_iff]
      intro ht
      obtain ⟨s, hs, hsc⟩ := sTh_iff.1 ht
      obtain ⟨k, hk, hks⟩ := List.getElem_of_mem hs
      have hk' : l[k]? = some s := by rw [List.getElem?_eq_getElem hk, hks]
      have h2 : ¬ k < sPl l c := by rw [← sPl_iff hp hk']; omega
      have hne : y.c0 ≠ c := by simpa using ec
      by_cases hkp : k = sPl l c
      · subst hkp; rw [h] at hk'; cases hk'; exact hne hsc
      · have hlt : sPl l c < l.length := (List.getElem?_eq_some_iff.1 h).1
        have := List.pairwise_iff_getElem.1 hp (sPl l c) k hlt hk (by omega)
        rw [hks, (List.getElem?_eq_some_iff.1 h).2] at this
        omega
    exact ⟨hn.symm, fun h => by rw [hn] at h; cases h⟩
  · have e : y.c0 = c := by simpa using ec
    subst e
    obtain ⟨h1, h2⟩ := sGet_mem hp hy
    exact ⟨h1.symm, fun _ => h2⟩
theorem sTh_end {l : List K4} {c : Int} (hp : RsP l) (h : sPl l c = l.length) : sTh l c = false := by
  rw [Bool.eq_false_iff]
  intro ht
  obtain ⟨s, hs, hsc⟩ := sTh_iff.1 ht
  obtain ⟨k, hk, hks⟩ := List.getElem_of_mem hs
  have hk' : l[k]? = some s := by rw [List.getElem?_eq_getElem hk, hks]
  have := (sPl_iff (c := c) hp hk').2 (by omega)
  omega
/- SeatOf -/
def soC (h : Int → Int → Bool) (x : KW) (c : Int) : Int := if (wf h x == 0) = false then wf h x else if sTh x.se c = false then 4 else 0
def soS (h : Int → Int → Bool) (x : KW) (c : Int) : K4 := if (soC h x c == 0) = true then sGet x.se c else K4.z
theorem soC_zero {h : Int → Int → Bool} {x : KW} {c : Int} : soC h x c = 0 ↔ wf h x = 0 ∧ sTh x.se c = true := by
  unfold soC
  by_cases e : wf h x = 0
  · cases e2 : sTh x.se c <;> simp [e]
  · simp [e]
theorem gd_rs {h : Int → Int → Bool} {x : KW} (g : GdW h x) : RsP x.se := rs_iff.1 (seF_iff.1 g.se).1
/- TakeSeat -/
def tsC (h : Int → Int → Bool) (x : KW) (c f m : Int) : Int := if (wf h x == 0) = false then wf h x else if (inb c 0 5 && (inb f 0 3 && inb m 0 2047)) = false then 3 else if goneA x.fa f = true then 8 else if sTh x.se c = false ∧ 6 ≤ x.se.length then 7 else 0
def tsL (l : List K4) (c f m : Int) : List K4 := if sTh l c = true then l.set (sPl l c) ⟨c, f, m, (sGet l c).c3⟩ else l.take (sPl l c) ++ ⟨c, f, m, 0⟩ :: l.drop (sPl l c)
def tsX (h : Int → Int → Bool) (x : KW) (c f m : Int) : KW := if (tsC h x c f m == 0) = true then ⟨x.t, x.s, x.us, x.fs, x.fa, tsL x.se c f m, x.oo⟩ else kz
theorem tsC_zero {h : Int → Int → Bool} {x : KW} {c f m : Int} : tsC h x c f m = 0 ↔ wf h x = 0 ∧ inb c 0 5 = true ∧ inb f 0 3 = true ∧ inb m 0 2047 = true ∧ goneA x.fa f = false ∧ (sTh x.se c = true ∨ x.se.length < 6) := by
  unfold tsC
  by_cases e : wf h x = 0
  · cases e1 : inb c 0 5 <;> cases e2 : inb f 0 3 <;> cases e3 : inb m 0 2047 <;> cases e4 : goneA x.fa f <;> cases e5 : sTh x.se c <;> simp [e]
    all_goals try omega
  · simp [e]
theorem sPl_found {l : List K4} {c : Int} (hp : RsP l) (h : sTh l c = true) : l[sPl l c]? = some (sGet l c) ∧ (sGet l c).c0 = c := by
  have hlt : sPl l c < l.length := by
    have := sPl_le c l
    by_cases e : sPl l c = l.length
    · rw [sTh_end hp e] at h; cases h
    · omega
  have hg : l[sPl l c]? = some l[sPl l c] := List.getElem?_eq_getElem hlt
  obtain ⟨h1, h2⟩ := sTh_at hp hg
  rw [h2 h]
  refine ⟨hg, ?_⟩
  rw [h] at h1
  simpa using h1
theorem tsL_mem {l : List K4} {c f m : Int} (hp : RsP l) : (∀ y ∈ tsL l c f m, y ∈ l ∨ y = ⟨c, f, m, (if sTh l c = true then (sGet l c).c3 else 0)⟩) ∧ (⟨c, f, m, (if sTh l c = true then (sGet l c).c3 else 0)⟩ : K4) ∈ tsL l c f m ∧ (∀ y ∈ l, y.c0 ≠ c → y ∈ tsL l c f m) ∧ RsP (tsL l c f m) ∧ (tsL l c f m).length ≤ (if sTh l c = true then l.length else l.length + 1) := by
  have hle := sPl_le c l
  unfold tsL
  by_cases h : sTh l c = true
  · obtain ⟨hg, hc⟩ := sPl_found hp h
    have hlt := (List.getElem?_eq_some_iff.1 hg).1
    simp only [if_pos h]
    refine ⟨fun y hy => ?_, List.mem_set hlt _, fun y hy hne => ?_, ?_, ?_⟩
    · rcases List.mem_or_eq_of_mem_set hy with hy | hy
      · exact .inl hy
      · exact .inr hy
    · obtain ⟨k, hk, hky⟩ := List.getElem_of_mem hy
      have hne' : sPl l c ≠ k := by
        rintro rfl
        rw [List.getElem?_eq_getElem hk, hky] at hg
        cases hg
        exact hne hc
      refine List.mem_of_getElem? (i := k) ?_
      rw [List.getElem?_set, if_neg hne', List.getElem?_eq_getElem hk, hky]
    · have e : (l.set (sPl l c) ⟨c, f, m, (sGet l c).c3⟩).map K4.c0 = l.map K4.c0 := by
        rw [List.map_set]
        show (l.map K4.c0).set (sPl l c) c = l.map K4.c0
        have : (l.map K4.c0)[sPl l c]? = some c := by rw [List.getElem?_map, hg]; simp [hc]
        obtain ⟨h1, h2⟩ := List.getElem?_eq_some_iff.1 this
        have h3 := List.set_getElem_self h1
        rw [h2] at h3
        exact h3
      have hq : ∀ q : List K4, RsP q ↔ (q.map K4.c0).Pairwise (· < ·) := fun q => by rw [List.pairwise_map]
      rw [hq, e, ← hq]; exact hp
    · simp
  · have h' : sTh l c = false := by simpa using h
    simp only [if_neg h]
    have hT : ∀ y ∈ l.take (sPl l c), y.c0 < c := by
      intro y hy
      obtain ⟨k, hk, hky⟩ := List.getElem_of_mem hy
      have hk2 : k < sPl l c := by rw [List.length_take] at hk; omega
      have : l[k]? = some y := by
        have h3 := List.getElem?_eq_getElem hk
        rw [hky, List.getElem?_take_of_lt hk2] at h3
        exact h3
      exact (sPl_iff hp this).2 hk2
    have hD : ∀ y ∈ l.drop (sPl l c), c < y.c0 := by
      intro y hy
      obtain ⟨k, hk, hky⟩ := List.getElem_of_mem hy
      have : l[sPl l c + k]? = some y := by
        have h3 := List.getElem?_eq_getElem hk
        rw [hky, List.getElem?_drop] at h3
        exact h3
      have h1 : ¬ y.c0 < c := by rw [sPl_iff hp this]; omega
      have h2 : y.c0 ≠ c := fun e => by rw [sTh_iff.2 ⟨y, List.mem_of_getElem? this, e⟩] at h'; cases h'
      omega
    refine ⟨fun y hy => ?_, by simp, fun y hy hne => ?_, ?_, ?_⟩
    · rcases List.mem_append.1 hy with hy | hy
      · exact .inl (List.mem_of_mem_take hy)
      · rcases List.mem_cons.1 hy with rfl | hy
        · exact .inr rfl
        · exact .inl (List.mem_of_mem_drop hy)
    · rw [← List.take_append_drop (sPl l c) l] at hy
      rcases List.mem_append.1 hy with hy | hy
      · exact List.mem_append_left _ hy
      · exact List.mem_append_right _ (List.mem_cons_of_mem _ hy)
    · show List.Pairwise _ _
      rw [List.pairwise_append, List.pairwise_cons]
      refine ⟨List.Pairwise.sublist (List.take_sublist _ _) hp, ⟨hD, List.Pairwise.sublist (List.drop_sublist _ _) hp⟩, fun a ha b hb => ?_⟩
      have h1 := hT a ha
      rcases List.mem_cons.1 hb with rfl | hb
      · exact h1
      · have := hD b hb; omega
    · simp
      omega
/- a seat that was taken -/
structure TsG (h : Int → Int → Bool) (x : KW) (c f m : Int) : Prop where
  wf0 : wf h (tsX h x c f m) = 0
  mine : soC h (tsX h x c f m) c = 0 ∧ (soS h (tsX h x c f m) c).c1 = f ∧ (soS h (tsX h x c f m) c).c2 = m
  others : ∀ y ∈ x.se, y.c0 ≠ c → soC h (tsX h x c f m) y.c0 = 0 ∧ soS h (tsX h x c f m) y.c0 = y
theorem tsX_eq {h : Int → Int → Bool} {x : KW} {c f m : Int} (e : tsC h x c f m = 0) : tsX h x c f m = ⟨x.t, x.s, x.us, x.fs, x.fa, tsL x.se c f m, x.oo⟩ := by unfold tsX; rw [e]; rfl
theorem so_mem {h : Int → Int → Bool} {x : KW} (w0 : wf h x = 0) {y : K4} (hy : y ∈ x.se) : soC h x y.c0 = 0 ∧ soS h x y.c0 = y := by
  obtain ⟨h1, h2⟩ := sGet_mem (gd_rs ((gdW_iff h x).1 w0)) hy
  have e := soC_zero.2 ⟨w0, h1⟩
  refine ⟨e, ?_⟩
  unfold soS
  rw [e, if_pos (by rfl)]
  exact h2
theorem ts_good {h : Int → Int → Bool} {x : KW} {c f m : Int} (e : tsC h x c f m = 0) : TsG h x c f m := by
  obtain ⟨w0, ic, jf, im, gf, hroom⟩ := tsC_zero.1 e
  have g := (gdW_iff h x).1 w0
  have hx := tsX_eq e
  obtain ⟨m1, m2, m3, m4, m5⟩ := tsL_mem (c := c) (f := f) (m := m) (gd_rs g)
  have hsR := (seF_iff.1 g.se).2
  have w2 : wf h (tsX h x c f m) = 0 := by
    rw [hx]
    refine (gdW_iff h _).2 ⟨g.t, g.s, g.b, g.a4, ?_, g.o6, g.a, seF_iff.2 ⟨rs_iff.2 m4, fun s hs => ?_⟩, g.oo, g.ow⟩
    · show (tsL x.se c f m).length ≤ 6
      have := g.s6
      by_cases h5 : sTh x.se c = true
      · rw [if_pos h5] at m5; omega
      · rw [if_neg h5] at m5
        rcases hroom with h6 | h6
        · exact absurd h6 h5
        · omega
    · rcases m1 s hs with h1 | rfl
      · exact hsR s h1
      · refine ⟨?_, gf⟩
        unfold seR
        have h3 : inb (if sTh x.se c = true then (sGet x.se c).c3 else 0) 0 999 = true := by
          by_cases h5 : sTh x.se c = true
          · rw [if_pos h5]
            have := (hsR _ (List.mem_of_getElem? (sPl_found (gd_rs g) h5).1)).1
            unfold seR at this
            simp only [Bool.and_eq_true] at this
            exact this.2.2.2
          · rw [if_neg h5]; rfl
        simp only [ic, jf, im, h3, Bool.and_self]
  refine ⟨w2, ?_, fun y hy hne => so_mem w2 (by rw [hx]; exact m3 y hy hne)⟩
  have hm : (⟨c, f, m, (if sTh x.se c = true then (sGet x.se c).c3 else 0)⟩ : K4) ∈ (tsX h x c f m).se := by rw [hx]; exact m2
  obtain ⟨h1, h2⟩ := so_mem w2 hm
  refine ⟨h1, ?_, ?_⟩
  · show (soS h (tsX h x c f m) c).c1 = f
    exact (congrArg K4.c1 h2)
  · exact (congrArg K4.c2 h2)
end Go.Proofs.YthopodopedbooaaGreat
end
