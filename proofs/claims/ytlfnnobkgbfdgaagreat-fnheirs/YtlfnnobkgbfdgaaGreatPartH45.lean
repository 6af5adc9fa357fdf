/- Texts of mine put together (a claim holds at most 60 files): LeaveSpec3. -/
import Derived.Test.YtlfnnobkgbfdgaaGreatPartH35
import Derived.Test.YtlfnnobkgbfdgaaGreatPartH42
import Derived.Test.YtlfnnobkgbfdgaaGreatPartH43
import Derived.Test.YtlfnnobkgbfdgaaGreatPartH44

/- LeaveSpec3 -/
/- The contract of l8Units of the model; a copied world in memory. Condition: the world that is worked on lies in memory. -/
section
namespace Go.Proofs.YtlfnnobkgbfdgaaGreat
open Go.ChangeShapes Go.WideShapes Go.ChangeAt Go.RowKit
open Bd
set_option linter.unusedVariables false

/- a copied world in memory -/
structure VS (w : World) (base g : Nat) (p : WP) (x : KW) : Prop where
  b : Blk w g (p.v x) 32
  o : OwW w base p x
  bg : base ≤ g
theorem VS.later {w w' : World} {base g : Nat} {p : WP} {x : KW} (h : VS w base g p x) (hb : Below w.heap.size w w') : VS w' base g p x := ⟨h.b.below hb, h.o.later hb, h.bg⟩
theorem KT.ofKept {T : TypeId → Bool} {base g : Nat} {w w' : World} {cs : Array Value} {t : TypeId} (k : KeptS (fun b => b = g) w w') (hB : Blk w g cs t) (hT : T t = true) (hg : base ≤ g) (hb : base ≤ w.heap.size) : KT T base w w' := by
  refine ⟨k.os, k.tape, k.output, k.size, fun i hi => k.block i (by omega) (by show ¬ i = g; omega), fun i cs' t' fr e ht => ?_⟩
  refine (k.block i (Array.getElem?_eq_some_iff.1 e).1 ?_).trans e
  rintro rfl
  unfold Blk at hB
  rw [hB] at e
  injection e with e
  injection e with _ e _
  rw [e, ht] at hT; cases hT
theorem VS.ofU {w w' : World} {base g : Nat} {p : WP} {x : KW} (h : VS w base g p x) (us' : List K10) (hl : us'.length = x.us.length) (hs : SlU w' base (.slice p.u x.us.length p.uc) us') (k : KT TU base w w') : VS w' base g p ⟨x.t, x.s, us', x.fs, x.fa, x.se, x.oo⟩ := by
  refine ⟨?_, ⟨by show SlU w' base (.slice p.u us'.length p.uc) us'; rw [hl]; exact hs, k.slF h.o.f (by decide), k.slA h.o.a (by decide), k.slS h.o.s (by decide), k.slO h.o.o (by decide)⟩, h.bg⟩
  have := k.blk h.b (by decide)
  show Blk w' g #[.int .i64 x.t, .int .i64 x.s, .slice p.u us'.length p.uc, .slice p.f x.fs.length p.fc, .slice p.a x.fa.length p.ac, .slice p.s x.se.length p.sc, .slice p.o x.oo.length p.oc] _
  rw [hl]; exact this
theorem shU_step {a : Int} {hs : List Int} {n k : Nat} {us ui : List K10} {u : K10} (hd : ui.drop k = us.drop k) (hu : ui[k]? = some u) (x : K10) (n' : Nat) (hx : shU a hs n (u :: us.drop (k + 1)) = x :: shU a hs n' (us.drop (k + 1))) :
    ui.take k ++ shU a hs n (us.drop k) = (ui.set k x).take (k + 1) ++ shU a hs n' (us.drop (k + 1)) ∧ (ui.set k x).drop (k + 1) = us.drop (k + 1) := by
  have hk := (List.getElem?_eq_some_iff.1 hu).1
  have e : ui.drop k = u :: ui.drop (k + 1) := by rw [List.drop_eq_getElem_cons hk]; congr 1; exact (List.getElem?_eq_some_iff.1 hu).2
  have e2 : ui.drop (k + 1) = us.drop (k + 1) := by
    have := congrArg (List.drop 1) hd
    simpa [List.drop_drop, Nat.add_comm] using this
  refine ⟨?_, ?_⟩
  · rw [← hd, e, e2, hx]
    have h1 : (ui.set k x).take (k + 1) = ui.take k ++ [x] := by
      rw [List.take_add_one, List.getElem?_set, if_pos rfl, if_pos hk, List.take_set_of_le (Nat.le_refl k)]; rfl
    rw [h1, List.append_assoc]; rfl
  · rw [List.drop_set_of_lt (by omega), e2]
set_option maxRecDepth 20000 in
set_option maxHeartbeats 8000000 in
theorem l8Units_c (g base b0 : Nat) (p : WP) (t s : Int) (us : List K10) (fs : List K3) (fa : List KA) (se : List K4) (oo : List K2) (a : Int) (hs : List Int) (v : Value) (w : World) (hw : VS w base g p ⟨t, s, us, fs, fa, se, oo⟩) (hI : SlI w b0 v hs) (hb : base ≤ w.heap.size)
    (hu8 : us.length ≤ 8) (hl : hs.length ≤ 4) :
    Calls Tryz.prog 63 #[.pointer (some ⟨g, 0, none⟩), .int .i64 a, v] w fun e w' => e = .returned (.tuple #[]) ∧ VS w' base g p ⟨t, s, shU a hs 0 us, fs, fa, se, oo⟩ ∧ KT TU base w w' := by
  obtain ⟨vq, vc, rfl⟩ := SlI.form hI
  obtain ⟨pu, uc, f, fc, pa, ac, q, qc, r, rc⟩ := p
  have Hw : Hid (VS w base g ⟨pu, uc, f, fc, pa, ac, q, qc, r, rc⟩ ⟨t, s, us, fs, fa, se, oo⟩) := hw
  have HI : Hid (SlI w b0 (.slice vq hs.length vc) hs) := hI
  obtain ⟨mu, Hmu⟩ : ∃ m, Hid (us.length = m) := ⟨_, rfl⟩
  have HU0 : Hid (SlU w base (.slice pu mu uc) us) := by show SlU _ _ _ _; rw [← Hmu.out]; exact hw.o.u
  have keep : ∀ wr, KT TU base w wr → wr.cell? ⟨g, 2, none⟩ = some (.slice pu mu uc) ∧ g < wr.heap.size := fun wr k => by
    have q := k.blk hw.b (by decide)
    have c : wr.cell? ⟨g, 2, none⟩ = some (.slice pu us.length uc) := q.cell (i := 2) rfl
    rw [Hmu.out] at c
    exact ⟨c, q.lt⟩
  have keepI : ∀ wr, KT TU base w wr → SlI wr b0 (.slice vq hs.length vc) hs := fun wr k => k.slI HI.out (by decide)
  have HF : Hid (∀ w' ui, ui.length = us.length → SlU w' base (.slice pu mu uc) ui → KT TU base w w' → VS w' base g ⟨pu, uc, f, fc, pa, ac, q, qc, r, rc⟩ ⟨t, s, ui, fs, fa, se, oo⟩) := fun w' ui hl hs k => hw.ofU ui hl (by show SlU _ _ (.slice pu us.length uc) _; rw [Hmu.out]; exact hs) k
  rw [Hmu.out] at hu8
  obtain ⟨RU, HRU⟩ : ∃ R, Hid (shU a hs 0 us = R) := ⟨_, rfl⟩
  rw [HRU.out]
  obtain ⟨mh, Hmh⟩ : ∃ m, Hid (hs.length = m) := ⟨_, rfl⟩
  rw [Hmh.out] at keepI hl ⊢
  clear hw hI
  obtain ⟨p2, pl⟩ := keep w (KT.refl _ _ _)
  go_enter Tryz.func63, Tryz.ntmps63
  go_wp2_with fail
  go_loopw [6, 7] (fun nv iv wr => ∃ (k n : Nat) (ui : List K10), iv = .int .i64 k ∧ nv = .int .i64 n ∧ k ≤ mu ∧ n ≤ k ∧ Hid (RU = ui.take k ++ shU a hs n (us.drop k)) ∧ Hid (ui.drop k = us.drop k) ∧ Hid (ui.length = mu) ∧ Hid (SlU wr base (.slice pu mu uc) ui) ∧ KT TU base w wr) (fun _ iv _ => mu - (intOf iv).toNat)
  case atStart => exact ⟨0, 0, us, rfl, rfl, Nat.zero_le _, Nat.le_refl _, HRU.out.symm, (show us.drop 0 = us.drop 0 from rfl), Hmu, HU0, KT.refl _ _ _⟩
  case round =>
    clear p2 pl
    obtain ⟨k, n, ui, rfl, rfl, hk, hn, HA, HD, Hl, HU, KK⟩ := hrel
    obtain ⟨p2, pl⟩ := keep _ KK
    by_cases hlt : k < mu
    · have hlt' : (k : Int) < (mu : Int) := by omega
      obtain ⟨u, hu⟩ : ∃ u, ui[k]? = some u := ⟨_, List.getElem?_eq_getElem (by have := Hl.out; omega)⟩
      have huk : us.drop k = u :: us.drop (k + 1) := by
        have hk2 := (List.getElem?_eq_some_iff.1 hu).1
        have e : ui.drop k = u :: ui.drop (k + 1) := by rw [List.drop_eq_getElem_cons hk2]; congr 1; exact (List.getElem?_eq_some_iff.1 hu).2
        have e2 : ui.drop (k + 1) = us.drop (k + 1) := by
          have := congrArg (List.drop 1) HD.out
          simpa [List.drop_drop, Nat.add_comm] using this
        rw [← HD.out, e, e2]
      obtain ⟨gu, cap, hv, hat⟩ := HU.out.at hu
      injection hv with v1 v2 v3
      subst v1 v3
      have x1 := hat.one.c1
      have z1 := hat.frozen (k * 10 + 1)
      have gl := hat.lt
      have hgb := hat.b
      obtain ⟨cur, hcur, _⟩ := hat.blk
      have HB : Hid (Blk wr gu cur 68) := hcur
      have Hat : Hid (AtU wr base gu uc k ui u) := hat
      have hST := fun x n' hx => shU_step (a := a) (hs := hs) (n := n) HD.out hu x n' hx
      rw [← HA.out] at hST
      have Hfin : Hid (∀ x w5, AtU w5 base gu uc k (ui.set k x) x → SlU w5 base (.slice (some ⟨gu, 0, none⟩) mu uc) (ui.set k x)) := fun x w5 h => by
        have := h.s
        rw [List.length_set, Hl.out] at this
        exact this
      have Hln : Hid (∀ x : K10, (ui.set k x).length = mu) := fun x => by rw [List.length_set]; exact Hl.out
      clear hat hcur v2
      cases e1 : u.c1 == a
      · have hq' : (u.c1 != a) = true := by simp only [bne, e1]; rfl
        have hset : ui.set k u = ui := by
          apply List.ext_getElem?
          intro j
          rw [List.getElem?_set]
          split
          · rename_i h; subst h
            split
            · exact hu.symm
            · rename_i h2; rw [List.getElem?_eq_none (by omega)]
          · rfl
        obtain ⟨h1, h2⟩ := hST u n (by show (if (u.c1 == a) = true then _ else _) = _; rw [e1]; rfl)
        rw [hset] at h1 h2
        have H1 : Hid (RU = ui.take (k + 1) ++ shU a hs n (us.drop (k + 1))) := h1
        have H2 : Hid (ui.drop (k + 1) = us.drop (k + 1)) := h2
        clear hST h1 h2 hset hu huk
        go_wp2_with fail
        go_roundw
        case rel => exact ⟨k + 1, n, ui, by go_num, rfl, by omega, by omega, H1, H2, Hl, HU, KK⟩
        case measure => simp [intOf]; omega
      · have hq' : (u.c1 != a) = false := by simp only [bne, e1]; rfl
        obtain ⟨h1, h2⟩ := hST (handed u (hs.getD (n % hs.length) 9)) (n + 1) (by show (if (u.c1 == a) = true then _ else _) = _; rw [e1]; rfl)
        have T1 : AtU (wr.setCell ⟨gu, k * 10 + 1, none⟩ (.int .i64 9)) base gu uc k (ui.set k (u.upd 1 9)) (u.upd 1 9) := Hat.out.set 1 (by omega) 9
        have K1 : KT TU base w (wr.setCell ⟨gu, k * 10 + 1, none⟩ (.int .i64 9)) := KK.set HB.out (by decide) hgb (k * 10 + 1) (.int .i64 9)
        by_cases hne : mh = 0
        · subst hne
          have hg0 : ¬ (0 : Int) < ((0 : Nat) : Int) := by decide
          have he : hs = [] := List.eq_nil_of_length_eq_zero Hmh.out
          have eg : hs.getD (n % hs.length) 9 = 9 := by rw [he]; rfl
          rw [eg] at h1 h2
          have H1 : Hid (RU = (ui.set k (handed u 9)).take (k + 1) ++ shU a hs (n + 1) (us.drop (k + 1))) := h1
          have H2 : Hid ((ui.set k (handed u 9)).drop (k + 1) = us.drop (k + 1)) := h2
          have cI := l5Idle_c base gu uc k (ui.set k (u.upd 1 9)) (u.upd 1 9) _ T1
          have HK1 : Hid _ := K1
          have HT1 : Hid _ := T1
          clear hST h1 h2 hu huk T1 K1 eg
          go_wp2_with fail
          refine cI.mono ?_
          rintro e w5 ⟨rfl, T5, K5⟩
          rw [List.set_set] at T5
          have S5 : Hid (SlU w5 base (.slice (some ⟨gu, 0, none⟩) mu uc) (ui.set k (handed u 9))) := Hfin.out _ _ T5
          have K5' : KT TU base w w5 := HK1.out.trans (KT.ofKept K5 (show Blk _ gu _ _ from HT1.out.blk.choose_spec.1) (by decide) hgb (Nat.le_trans hb HK1.out.size))
          clear T5 K5 cI
          go_wp2_with fail
          go_roundw
          case rel => exact ⟨k + 1, n + 1, _, by go_num, by go_num, by omega, by omega, H1, H2, Hln.out _, S5, K5'⟩
          case measure => simp [intOf]; omega
        · have m1 : 1 ≤ mh := by omega
          have hg0 : (0 : Int) < (mh : Int) := by omega
          have hm0 : ((mh : Int) == 0) = false := by simp; omega
          have hmm : n % mh < mh := Nat.mod_lt _ (by omega)
          obtain ⟨y, hy⟩ : ∃ y, hs[n % mh]? = some y := ⟨_, List.getElem?_eq_getElem (by have := Hmh.out; omega)⟩
          have eg : hs.getD (n % hs.length) 9 = y := by rw [Hmh.out, List.getD_eq_getElem?_getD, hy]; rfl
          rw [eg] at h1 h2
          have hIK := keepI _ K1
          rw [← Hmh.out] at hIK
          rcases hIK.read with ⟨_, he⟩ | ⟨qh, cap2, hv, _, hql, hcell⟩
          · have := Hmh.out; rw [he] at this; exact absurd this.symm (by simpa using hne)
          injection hv with v4 v5 v6
          subst v4
          have hc := hcell _ _ hy
          have hrem : ((n : Int).tmod (mh : Int)) = ((n % mh : Nat) : Int) := by rw [Int.tmod_eq_emod_of_nonneg (by omega)]; rfl
          have hrem2 : ((n : Int) % (mh : Int)) = ((n % mh : Nat) : Int) := rfl
          have hremlt : ((n % mh : Nat) : Int) < (mh : Int) := by omega
          have z2 := T1.frozen (k * 10 + 1)
          have gl2 := T1.lt
          have T2 : AtU ((wr.setCell ⟨gu, k * 10 + 1, none⟩ (.int .i64 9)).setCell ⟨gu, k * 10 + 1, none⟩ (.int .i64 y)) base gu uc k (ui.set k ((u.upd 1 9).upd 1 y)) ((u.upd 1 9).upd 1 y) := by
            have := T1.set 1 (by omega) y
            rw [List.set_set] at this; exact this
          have K2 : KT TU base w ((wr.setCell ⟨gu, k * 10 + 1, none⟩ (.int .i64 9)).setCell ⟨gu, k * 10 + 1, none⟩ (.int .i64 y)) := K1.set (show Blk _ gu _ _ from T1.blk.choose_spec.1) (by decide) hgb (k * 10 + 1) (.int .i64 y)
          have H1 : Hid (RU = (ui.set k (handed u y)).take (k + 1) ++ shU a hs (n + 1) (us.drop (k + 1))) := h1
          have H2 : Hid ((ui.set k (handed u y)).drop (k + 1) = us.drop (k + 1)) := h2
          have cI := l5Idle_c base gu uc k (ui.set k ((u.upd 1 9).upd 1 y)) ((u.upd 1 9).upd 1 y) _ T2
          have HK1 : Hid _ := K2
          have HT1 : Hid _ := T2
          generalize n % mh = im at hc hrem hrem2 hremlt hmm
          clear hST h1 h2 hu huk T1 K1 T2 K2 eg hcell hy hIK v5 v6
          go_wp2_with fail
          refine cI.mono ?_
          rintro e w5 ⟨rfl, T5, K5⟩
          rw [List.set_set] at T5
          have S5 : Hid (SlU w5 base (.slice (some ⟨gu, 0, none⟩) mu uc) (ui.set k (handed u y))) := Hfin.out _ _ T5
          have K5' : KT TU base w w5 := HK1.out.trans (KT.ofKept K5 (show Blk _ gu _ _ from HT1.out.blk.choose_spec.1) (by decide) hgb (Nat.le_trans hb HK1.out.size))
          clear T5 K5 cI
          go_wp2_with fail
          go_roundw
          case rel => exact ⟨k + 1, n + 1, _, by go_num, by go_num, by omega, by omega, H1, H2, Hln.out _, S5, K5'⟩
          case measure => simp [intOf]; omega
    · obtain rfl : k = mu := by omega
      have hlt' : ¬ (k : Int) < (k : Int) := by omega
      have hR : RU = ui := by
        rw [HA.out, List.drop_of_length_le (by rw [Hmu.out]; exact Nat.le_refl _), List.take_of_length_le (by rw [Hl.out]; exact Nat.le_refl _)]
        show ui ++ [] = ui
        rw [List.append_nil]
      have hV := HF.out wr ui (by rw [Hl.out, Hmu.out]) HU.out KK
      rw [← hR] at hV
      have HV : Hid _ := hV
      clear hV hR
      go_wp2_with fail
      go_end0
      exact ⟨rfl, HV.out, KK⟩
end Go.Proofs.YtlfnnobkgbfdgaaGreat
end
