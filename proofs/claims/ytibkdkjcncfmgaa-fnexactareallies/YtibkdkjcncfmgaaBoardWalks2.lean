/- The contract of the program's BoardFault. Condition: the board's two lists lie in memory as they were laid there. -/
import Derived.Test.YtibkdkjcncfmgaaBoardWalks
namespace Go.Proofs.Ytibkdkjcncfmgaa
open Go.ChangeShapes Go.WideShapes Go.ChangeAt Go.RowKit
open Bd
set_option linter.unusedVariables false

set_option maxHeartbeats 4000000 in
theorem implBoardFault (a : Option Addr) (m c : Nat) (a' : Option Addr) (m' c' : Nat) (us : List K10) (fs : List K3) (hl : us.length = m) (hl' : fs.length = m') (w0 : World) (hU0 : ArgU w0 a us) (hF0 : ArgF w0 a' fs) :
    Calls Try.prog 26 #[.agg #[.slice a m c, .slice a' m' c']] w0 fun e w' => e = .returned (.int .i64 (bf us fs)) ∧ Below w0.heap.size w0 w' := by
  obtain ⟨w, Hw⟩ : ∃ w, Hid (w = w0.alloc (.cells #[.slice a m c, .slice a' m' c'] 27)) := ⟨_, rfl⟩
  have hB0 : Below w0.heap.size w0 w := by rw [Hw.out]; exact (Below.refl _ _).alloc (Nat.le_refl _) _
  have hB : BrdAt w w0.heap.size (.slice a m c) (.slice a' m' c') := by rw [Hw.out]; exact BrdAt.new w0 _ _ _
  have HB : Hid (BrdAt w w0.heap.size (.slice a m c) (.slice a' m' c')) := hB
  have HU : Hid (ArgU w a us) := hU0.later hB0
  have HF : Hid (ArgF w a' fs) := hF0.later hB0
  have Hl : Hid (us.length = m) := hl
  have Hl' : Hid (fs.length = m') := hl'
  obtain ⟨b0, b1, blt⟩ := hB
  clear hU0 hF0
  by_cases h8 : 8 < m
  · have e : bf us fs = 2 := by unfold bf; rw [if_pos (by omega)]
    rw [e]
    clear e hl hl'
    have d : (8 : Int) < (m : Int) := by omega
    go_enter Try.func26, Try.ntmps26
    go_wp2
    go_ret
    exact ⟨rfl, (Below.refl _ _).alloc (Nat.le_refl _) _⟩
  by_cases h4 : 4 < m'
  · have e : bf us fs = 2 := by unfold bf; rw [if_pos (by omega)]
    rw [e]
    clear e hl hl'
    have d0 : decide ((8 : Int) < (m : Int)) = false := decide_eq_false (by omega)
    have d : (4 : Int) < (m' : Int) := by omega
    go_enter Try.func26, Try.ntmps26
    go_wp2
    go_ret
    exact ⟨rfl, (Below.refl _ _).alloc (Nat.le_refl _) _⟩
  have e : bf us fs = ufs (prevId us 0) (ffs fs) (us.drop 0) := by unfold bf prevId; rw [if_neg (by omega), if_pos rfl]; rfl
  obtain ⟨R, HR⟩ : ∃ R : Int, Hid (R = bf us fs) := ⟨_, rfl⟩
  rw [← HR.out]
  have HR0 : Hid (R = ufs (prevId us 0) (ffs fs) (us.drop 0)) := by show _ = _; rw [HR.out, e]
  clear e hl hl' HR
  have d8 : decide ((8 : Int) < (m : Int)) = false := decide_eq_false (by omega)
  have d4 : decide ((4 : Int) < (m' : Int)) = false := decide_eq_false (by omega)
  obtain ⟨G, HG⟩ : ∃ G : Nat, Hid (G = w0.heap.size) := ⟨_, rfl⟩
  go_enter Try.func26, Try.ntmps26
  go_wp2
  rw [← Hw.out, ← HG.out]
  replace HB : Hid (BrdAt w G (.slice a m c) (.slice a' m' c')) := by rw [HG.out]; exact HB
  clear b0 b1 blt
  go_loopw [21] (fun i wr => ∃ k : Nat, k ≤ m ∧ i = .int .i64 k ∧ Hid (R = ufs (prevId us k) (ffs fs) (us.drop k)) ∧ Below w.heap.size w wr) (fun i _ => m - (intOf i).toNat)
  case atStart => exact ⟨0, Nat.zero_le _, rfl, HR0, Below.refl _ _⟩
  case round =>
    obtain ⟨k, hk, rfl, Hk, hbel⟩ := hrel
    obtain ⟨b0, b1, blt⟩ := HB.out.later hbel
    by_cases hlt : k < m
    · have hlt' : (k : Int) < (m : Int) := by omega
      obtain ⟨x, hx⟩ : ∃ x, us[k]? = some x := ⟨_, List.getElem?_eq_getElem (by have := Hl.out; omega)⟩
      obtain ⟨b, off, rfl, hb, hat⟩ := HU.out.at hx
      obtain ⟨x0, x1, x2, x3, x4, x5, x6, x7, x8, x9, xl⟩ := (hat.later hb hbel).one (Nat.lt_of_lt_of_le hb hbel.size) hx
      have cU := fun w => implUnitFault x w
      have HS : Hid (R = if (uf x == 0) = false then uf x else if leP (prevId us k) x.c0 = true then 1 else ufs (some x.c0) (ffs fs) (us.drop (k + 1))) := by show _ = _; rw [Hk.out, ufs_step hx]
      have Hx : Hid (us[k]? = some x) := hx
      have Hat : Hid (UAt w b off us) := hat
      have B1 : Below wr.heap.size wr (wr.alloc (.cells x.v 29)) := (Below.refl _ _).alloc (Nat.le_refl _) _
      have S1 := (U1.new wr x 29)
      clear hx hat
      go_wp2_with fail
      refine (cU _).mono ?_
      rintro e w1 ⟨rfl, k1⟩
      obtain ⟨v0, v1, v2, v3, v4, v5, v6, v7, v8, v9, vl⟩ := S1.later k1
      have hbel1 := hbel.trans ((B1.trans (k1.mono B1.size)).mono hbel.size)
      obtain ⟨b0, b1, blt⟩ := HB.out.later hbel1
      clear cU k1 B1 S1 x0 x1 x2 x3 x4 x5 x6 x7 x8 x9 v1 v2 v3 v4 v5 v6 v7 v8 v9
      cases hq : uf x == 0
      · have HE : Hid (R = uf x) := by show _ = _; rw [HS.out, if_pos hq]
        have hq' := bne_of hq
        go_wp2
        go_ret
        exact ⟨by rw [HE.out]; rfl, hB0.trans (hbel1.mono hB0.size)⟩
      · have hz : uf x = 0 := by simpa using hq
        have hq' : (uf x != 0) = false := by simp only [bne, hq]; rfl
        have HN : Hid (prevId us (k + 1) = some x.c0) := prevId_next Hx.out
        rcases k with _ | k
        · have HE : Hid (R = ufs (prevId us (0 + 1)) (ffs fs) (us.drop (0 + 1))) := by show _ = _; rw [HS.out, if_neg (by rw [hq]; simp), HN.out]; rfl
          go_wp2
          go_quiet (fail)
          go_wp2
          go_roundw
          case rel => exact ⟨0 + 1, by omega, by go_num, HE, hbel1.trans ((below_drewN _ _).mono hbel1.size)⟩
          case measure => simp [intOf]; omega
        · obtain ⟨y, hy⟩ : ∃ y, us[k]? = some y := ⟨_, List.getElem?_eq_getElem (by have := Hl.out; omega)⟩
          have HP : Hid (prevId us (k + 1) = some y.c0) := prevId_next hy
          have a1 := (Hat.out.later hb hbel1).all hy |>.1
          clear hy
          cases hd : decide (x.c0 ≤ y.c0)
          · have HE : Hid (R = ufs (prevId us (k + 1 + 1)) (ffs fs) (us.drop (k + 1 + 1))) := by
              show _ = _
              rw [HS.out, if_neg (by rw [hq]; simp), HN.out, HP.out, if_neg (by show ¬ decide (x.c0 ≤ y.c0) = true; rw [hd]; simp)]
            go_wp2
            go_quiet (fail)
            go_wp2
            go_roundw
            case rel => exact ⟨k + 1 + 1, by omega, by go_num, HE, hbel1.trans ((below_drewN _ _).mono hbel1.size)⟩
            case measure => simp [intOf]; omega
          · have HE : Hid (R = 1) := by
              show _ = _
              rw [HS.out, if_neg (by rw [hq]; simp), HP.out, if_pos (show leP (some y.c0) x.c0 = true from hd)]
            go_wp2
            go_quiet (fail)
            go_wp2
            go_ret
            exact ⟨by rw [HE.out]; rfl, hB0.trans ((hbel1.trans ((below_drewN _ _).mono hbel1.size)).mono hB0.size)⟩
    · obtain rfl : k = m := by omega
      have HE : Hid (R = ffs (fs.drop 0)) := by show _ = _; rw [Hk.out, List.drop_of_length_le (by have := Hl.out; omega)]; rfl
      clear Hk
      go_wp2
      go_loopw [49] (fun i wr => ∃ k : Nat, k ≤ m' ∧ i = .int .i64 k ∧ Hid (R = ffs (fs.drop k)) ∧ Below w.heap.size w wr) (fun i _ => m' - (intOf i).toNat)
      case atStart => exact ⟨0, Nat.zero_le _, rfl, HE, hbel⟩
      case round =>
        obtain ⟨j, hj, rfl, Hj, hbel⟩ := hrel
        obtain ⟨b0, b1, blt⟩ := HB.out.later hbel
        by_cases hlt : j < m'
        · have hlt' : (j : Int) < (m' : Int) := by omega
          obtain ⟨x, hx⟩ : ∃ x, fs[j]? = some x := ⟨_, List.getElem?_eq_getElem (by have := Hl'.out; omega)⟩
          obtain ⟨b, off, rfl, hb, hat⟩ := HF.out.at hx
          have HS : Hid (R = if ff x = false then 3 else ffs (fs.drop (j + 1))) := by show _ = _; rw [Hj.out, ffs_step hx]
          obtain ⟨x0, x1, x2, xl⟩ := (hat.later hb hbel).one (Nat.lt_of_lt_of_le hb hbel.size) hx
          have q1 := fun w => isTile_c x.c0 x.c1 w
          have hb2 := hbel.trans (((Below.refl _ _).alloc (Nat.le_refl _) (.cells x.v 105)).mono hbel.size)
          clear hx hat
          have hff : (tile x.c0 x.c1 = false ∧ ff x = false) ∨ (tile x.c0 x.c1 = true ∧ x.c2 < 0 ∧ ff x = false) ∨ (tile x.c0 x.c1 = true ∧ decide (x.c2 < 0) = false ∧ 10000 < x.c2 ∧ ff x = false) ∨ (tile x.c0 x.c1 = true ∧ decide (x.c2 < 0) = false ∧ decide (10000 < x.c2) = false ∧ ff x = true) := by
            unfold ff inb
            cases tile x.c0 x.c1
            · exact .inl ⟨rfl, rfl⟩
            · by_cases h1 : x.c2 < 0
              · exact .inr (.inl ⟨rfl, h1, by simp; omega⟩)
              · by_cases h2 : 10000 < x.c2
                · exact .inr (.inr (.inl ⟨rfl, by simp; omega, h2, by simp; omega⟩))
                · exact .inr (.inr (.inr ⟨rfl, by simp; omega, by simp; omega, by simp; omega⟩))
          rcases hff with ⟨e1, ef⟩ | ⟨e1, e2, ef⟩ | ⟨e1, e2, e3, ef⟩ | ⟨e1, e2, e3, ef⟩
          · have HE : Hid (R = 3) := by show _ = _; rw [HS.out, if_pos ef]
            rw [e1] at q1
            go_wp2_with (go_at_call 70; refine (q1 _).mono ?_; rintro e w1 ⟨rfl, rfl⟩)
            go_ret
            exact ⟨by rw [HE.out]; rfl, hB0.trans (hb2.mono hB0.size)⟩
          · have HE : Hid (R = 3) := by show _ = _; rw [HS.out, if_pos ef]
            rw [e1] at q1
            go_wp2_with (go_at_call 70; refine (q1 _).mono ?_; rintro e w1 ⟨rfl, rfl⟩)
            go_ret
            exact ⟨by rw [HE.out]; rfl, hB0.trans (hb2.mono hB0.size)⟩
          · have HE : Hid (R = 3) := by show _ = _; rw [HS.out, if_pos ef]
            rw [e1] at q1
            go_wp2_with (go_at_call 70; refine (q1 _).mono ?_; rintro e w1 ⟨rfl, rfl⟩)
            go_ret
            exact ⟨by rw [HE.out]; rfl, hB0.trans (hb2.mono hB0.size)⟩
          · have HE : Hid (R = ffs (fs.drop (j + 1))) := by show _ = _; rw [HS.out, if_neg (by rw [ef]; simp)]
            rw [e1] at q1
            go_wp2_with (go_at_call 70; refine (q1 _).mono ?_; rintro e w1 ⟨rfl, rfl⟩)
            go_roundw
            case rel => exact ⟨j + 1, by omega, by go_num, HE, hb2⟩
            case measure => simp [intOf]; omega
        · obtain rfl : j = m' := by omega
          have HE : Hid (R = 0) := by show _ = _; rw [Hj.out, List.drop_of_length_le (by have := Hl'.out; omega)]; rfl
          go_wp2
          go_ret
          exact ⟨by rw [HE.out]; rfl, hB0.trans (hbel.mono hB0.size)⟩
end Go.Proofs.Ytibkdkjcncfmgaa
