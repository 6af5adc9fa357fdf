/- Contracts of CarriedBy and of its model. Condition: the board's two lists lie in memory as they were laid there. -/
import Derived.Test.YtibkdkjcncfmgaaSumWalks
namespace Go.Proofs.Ytibkdkjcncfmgaa
open Go.ChangeShapes Go.WideShapes Go.ChangeAt Go.RowKit
open Bd
set_option linter.unusedVariables false

theorem owC_cases (us : List K10) (fs : List K3) (o : Int) : ((bf us fs == 0) = false ∧ owC us fs o = bf us fs) ∨ (bf us fs = 0 ∧ own o = false ∧ owC us fs o = 3) ∨ (bf us fs = 0 ∧ own o = true ∧ owC us fs o = 0) := by
  unfold owC
  cases h : bf us fs == 0
  · exact .inl ⟨rfl, rfl⟩
  · have h0 : bf us fs = 0 := by simpa using h
    cases h2 : own o
    · exact .inr (.inl ⟨h0, rfl, rfl⟩)
    · exact .inr (.inr ⟨h0, rfl, rfl⟩)
set_option maxHeartbeats 4000000 in
theorem ownerFault_c (a : Option Addr) (m c : Nat) (a' : Option Addr) (m' c' : Nat) (us : List K10) (fs : List K3) (o : Int) (hl : us.length = m) (hl' : fs.length = m') (w : World) (hU : ArgU w a us) (hF : ArgF w a' fs) :
    Calls Try.prog 61 #[.agg #[.slice a m c, .slice a' m' c'], .int .i64 o] w fun e w' => e = .returned (.int .i64 (owC us fs o)) ∧ Below w.heap.size w w' := by
  have B1 : Below w.heap.size w (w.alloc (.cells #[.slice a m c, .slice a' m' c'] 27)) := (Below.refl _ _).alloc (Nat.le_refl _) _
  have cF := implBoardFault a m c a' m' c' us fs hl hl' _ (hU.later B1) (hF.later B1)
  have cO := fun w => isOwner_c o w
  rcases owC_cases us fs o with ⟨h1, e⟩ | ⟨h1, h2, e⟩ | ⟨h1, h2, e⟩
  · rw [e]
    have h1' := bne_of h1
    generalize bf us fs = R at h1 h1' cF ⊢
    go_enter Try.func61, Try.ntmps61
    go_wp2_with fail
    refine cF.mono ?_
    rintro e w1 ⟨rfl, k1⟩
    have B2 := B1.trans (k1.mono B1.size)
    go_wp2
    go_ret
    exact ⟨rfl, B2⟩
  · rw [e]
    rw [h1] at cF
    rw [h2] at cO
    go_enter Try.func61, Try.ntmps61
    go_wp2_with fail
    refine cF.mono ?_
    rintro e w1 ⟨rfl, k1⟩
    have B2 := B1.trans (k1.mono B1.size)
    go_wp2_with (go_at_call 69; refine (cO _).mono ?_; rintro e w2 ⟨rfl, rfl⟩)
    go_ret
    exact ⟨rfl, B2⟩
  · rw [e]
    rw [h1] at cF
    rw [h2] at cO
    go_enter Try.func61, Try.ntmps61
    go_wp2_with fail
    refine cF.mono ?_
    rintro e w1 ⟨rfl, k1⟩
    have B2 := B1.trans (k1.mono B1.size)
    go_wp2_with (go_at_call 69; refine (cO _).mono ?_; rintro e w2 ⟨rfl, rfl⟩)
    go_ret
    exact ⟨rfl, B2⟩
set_option maxHeartbeats 4000000 in
theorem specCarriedBy (a : Option Addr) (m c : Nat) (a' : Option Addr) (m' c' : Nat) (us : List K10) (fs : List K3) (o : Int) (hl : us.length = m) (hl' : fs.length = m') (w : World) (hU : ArgU w a us) (hF : ArgF w a' fs) :
    Calls Try.prog 20 #[.agg #[.slice a m c, .slice a' m' c'], .int .i64 o] w fun e w' => e = .returned (.agg #[.int .i64 (owC us fs o), .int .i64 (cbV us fs o)]) ∧ Below w.heap.size w w' := by
  obtain ⟨rb, rr, B2, S2⟩ := two_two w (.slice a m c) (.slice a' m' c') (.int .i64 0) (.int .i64 0) 27 43
  have cF := l4Fault_c w.heap.size a m c a' m' c' us fs hl hl' _ (row_brd rb) (hU.later B2) (hF.later B2)
  have cO := fun w => l4Owner_c o w
  rcases owC_cases us fs o with ⟨h1, e⟩ | ⟨h1, h2, e⟩ | ⟨h1, h2, e⟩
  · have hv : cbV us fs o = 0 := by unfold cbV; rw [h1]; rfl
    rw [e, hv]
    have h1' := bne_of h1
    generalize bf us fs = R at h1 h1' cF ⊢
    go_enter Try.func20, Try.ntmps20
    go_wp2_with fail
    refine cF.mono ?_
    rintro e w1 ⟨rfl, k1⟩
    have B3 := B2.trans (k1.mono B2.size)
    replace rb := row_later rb k1
    replace rr := row_later rr k1
    have e0 : w1.cell? ⟨w.heap.size + 1, 0, none⟩ = some (.int .i64 0) := rr.cell (i := 0) (by omega)
    have e1 : w1.cell? ⟨w.heap.size + 1, 1, none⟩ = some (.int .i64 0) := rr.cell (i := 1) (by omega)
    have z0 := rr.frozen 0
    have z1 := rr.frozen 1
    have rl := rr.lt
    have t := (rr.set 0 (.int .i64 R)).set 1 (.int .i64 0)
    have c0 := t.cell (i := 0) (by omega)
    have c1 := t.cell (i := 1) (by omega)
    have B4 := bel_set (bel_set B3 (w.heap.size + 1) 0 (by omega) (.int .i64 R)) (w.heap.size + 1) 1 (by omega) (.int .i64 0)
    go_wp2_with fail
    refine bodyPost_ret ?_ rfl ⟨rfl, B4⟩
    simp [results, Try.results20, go_sem, c0, c1]
    done
  · have hv : cbV us fs o = 0 := by unfold cbV; rw [h1, h2]; rfl
    rw [e, hv]
    rw [h1] at cF
    rw [h2] at cO
    go_enter Try.func20, Try.ntmps20
    go_wp2_with fail
    refine cF.mono ?_
    rintro e w1 ⟨rfl, k1⟩
    have B3 := B2.trans (k1.mono B2.size)
    replace rb := row_later rb k1
    replace rr := row_later rr k1
    have e0 : w1.cell? ⟨w.heap.size + 1, 0, none⟩ = some (.int .i64 0) := rr.cell (i := 0) (by omega)
    have e1 : w1.cell? ⟨w.heap.size + 1, 1, none⟩ = some (.int .i64 0) := rr.cell (i := 1) (by omega)
    have z0 := rr.frozen 0
    have z1 := rr.frozen 1
    have rl := rr.lt
    have t := (rr.set 0 (.int .i64 3)).set 1 (.int .i64 0)
    have c0 := t.cell (i := 0) (by omega)
    have c1 := t.cell (i := 1) (by omega)
    have B4 := bel_set (bel_set B3 (w.heap.size + 1) 0 (by omega) (.int .i64 3)) (w.heap.size + 1) 1 (by omega) (.int .i64 0)
    go_wp2_with (go_at_call 64; refine (cO _).mono ?_; rintro e w1 ⟨rfl, rfl⟩)
    refine bodyPost_ret ?_ rfl ⟨rfl, B4⟩
    simp [results, Try.results20, go_sem, c0, c1]
    done
  · have hv : cbV us fs o = carry o us := by unfold cbV; rw [h1, h2]; rfl
    rw [e, hv]
    obtain ⟨n8, _, huf, _, _⟩ := bf_ok h1
    rw [h1] at cF
    rw [h2] at cO
    have Hf : Hid (∀ u ∈ us, uf u = 0) := huf
    have Hl : Hid (us.length = m) := hl
    have HU : Hid (ArgU w a us) := hU
    have hm : m ≤ 8 := by omega
    obtain ⟨R, HR⟩ : ∃ R : Int, Hid (R = carry o us) := ⟨_, rfl⟩
    rw [← HR.out]
    go_enter Try.func20, Try.ntmps20
    go_wp2_with fail
    refine cF.mono ?_
    rintro e w1 ⟨rfl, k1⟩
    have B3 := B2.trans (k1.mono B2.size)
    replace rb := row_later rb k1
    replace rr := row_later rr k1
    have e0 : w1.cell? ⟨w.heap.size + 1, 0, none⟩ = some (.int .i64 0) := rr.cell (i := 0) (by omega)
    have e1 : w1.cell? ⟨w.heap.size + 1, 1, none⟩ = some (.int .i64 0) := rr.cell (i := 1) (by omega)
    have z0 := rr.frozen 0
    have z1 := rr.frozen 1
    have rl := rr.lt
    have HB3 : Hid (Below w.heap.size w w1) := B3
    have Hrr : Hid (w1.rowIs (w.heap.size + 1) 43 2 (fun i => if i = 0 then .int .i64 0 else .int .i64 0)) := rr
    have HB : Hid (BrdAt w1 w.heap.size (.slice a m c) (.slice a' m' c')) := row_brd rb
    obtain ⟨p1, p2, pl⟩ := row_brd rb
    clear huf hl hl' hU hF rb rr B2 B3 k1 hv n8 cF
    go_wp2_with (go_at_call 64; refine (cO _).mono ?_; rintro e w1 ⟨rfl, rfl⟩)
    go_loopw [6, 7] (fun n i wr => ∃ (k : Nat) (v : Int), k ≤ m ∧ i = .int .i64 k ∧ n = .int .i64 v ∧ Hid (v + carry o (us.drop k) = R) ∧ 0 ≤ v ∧ v ≤ 20 * (k : Int) ∧ Below w1.heap.size w1 wr) (fun _ i _ => m - (intOf i).toNat)
    case atStart => exact ⟨0, 0, Nat.zero_le _, rfl, rfl, by show _ = _; rw [HR.out, Int.zero_add]; rfl, Int.le_refl _, by omega, Below.refl _ _⟩
    case round =>
      obtain ⟨k, v, hk, rfl, rfl, Hk, v0, v1, hbel⟩ := hrel
      have hb3 := HB3.out.trans (hbel.mono HB3.out.size)
      obtain ⟨p1, p2, pl⟩ := HB.out.later hbel
      by_cases hlt : k < m
      · have hlt' : (k : Int) < (m : Int) := by omega
        obtain ⟨x, hx⟩ : ∃ x, us[k]? = some x := ⟨_, List.getElem?_eq_getElem (by have := Hl.out; omega)⟩
        obtain ⟨b, off, rfl, hb, hat⟩ := HU.out.at hx
        obtain ⟨x0, x1, x2, x3, x4, x5, x6, x7, x8, x9, xl⟩ := (hat.later hb hb3).one (Nat.lt_of_lt_of_le hb hb3.size) hx
        obtain ⟨f0, f1⟩ := uf_carry (Hf.out x (List.mem_of_getElem? hx))
        have hb4 := hbel.trans (((Below.refl _ _).alloc (Nat.le_refl _) (.cells x.v 29)).mono hbel.size)
        have HS : Hid (carry o (us.drop k) = if (x.c1 == o) = true then x.c5 + carry o (us.drop (k + 1)) else carry o (us.drop (k + 1))) := carry_step hx
        clear hx hat
        cases hq : x.c1 == o
        · have HE : Hid (v + carry o (us.drop (k + 1)) = R) := by show _ = _; rw [← Hk.out, HS.out, if_neg (by rw [hq]; simp)]
          go_wp2
          go_roundw
          case rel => exact ⟨k + 1, v, by omega, by go_num, rfl, HE, by omega, by omega, hbel⟩
          case measure => simp [intOf]; omega
        · have HE : Hid (v + x.c5 + carry o (us.drop (k + 1)) = R) := by show _ = _; rw [← Hk.out, HS.out, if_pos hq]; omega
          go_wp2
          go_roundw
          case rel => exact ⟨k + 1, v + x.c5, by omega, by go_num, by go_num, HE, by omega, by omega, hbel⟩
          case measure => simp [intOf]; omega
      · obtain rfl : k = m := by omega
        have HE : Hid (v = R) := by show _ = _; rw [← Hk.out, List.drop_of_length_le (by have := Hl.out; omega)]; unfold carry; omega
        have rr := row_later Hrr.out hbel
        have e0 : wr.cell? ⟨w.heap.size + 1, 0, none⟩ = some (.int .i64 0) := rr.cell (i := 0) (by omega)
        have e1 : wr.cell? ⟨w.heap.size + 1, 1, none⟩ = some (.int .i64 0) := rr.cell (i := 1) (by omega)
        have z0 := rr.frozen 0
        have z1 := rr.frozen 1
        have rl := rr.lt
        have t := (rr.set 0 (.int .i64 0)).set 1 (.int .i64 v)
        have c0 := t.cell (i := 0) (by omega)
        have c1 := t.cell (i := 1) (by omega)
        have B5 := bel_set (bel_set hb3 (w.heap.size + 1) 0 (by omega) (.int .i64 0)) (w.heap.size + 1) 1 (by omega) (.int .i64 v)
        go_wp2_with fail
        refine bodyPost_ret ?_ rfl ⟨by rw [← HE.out], B5⟩
        simp [results, Try.results20, go_sem, c0, c1]
        done
set_option maxHeartbeats 4000000 in
theorem implCarriedBy (a : Option Addr) (m c : Nat) (a' : Option Addr) (m' c' : Nat) (us : List K10) (fs : List K3) (o : Int) (hl : us.length = m) (hl' : fs.length = m') (w : World) (hU : ArgU w a us) (hF : ArgF w a' fs) :
    Calls Try.prog 19 #[.agg #[.slice a m c, .slice a' m' c'], .int .i64 o] w fun e w' => e = .returned (.agg #[.int .i64 (owC us fs o), .int .i64 (cbV us fs o)]) ∧ Below w.heap.size w w' := by
  obtain ⟨rb, rr, B2, S2⟩ := two_two w (.slice a m c) (.slice a' m' c') (.int .i64 0) (.int .i64 0) 27 43
  have cF := ownerFault_c a m c a' m' c' us fs o hl hl' _ (hU.later B2) (hF.later B2)
  rcases owC_cases us fs o with ⟨h1, e⟩ | ⟨h1, h2, e⟩ | ⟨h1, h2, e⟩
  · have hv : cbV us fs o = 0 := by unfold cbV; rw [h1]; rfl
    rw [e, hv]
    have h1' := bne_of h1
    rw [e] at cF
    generalize bf us fs = R at h1 h1' cF ⊢
    go_enter Try.func19, Try.ntmps19
    go_wp2_with fail
    refine cF.mono ?_
    rintro e w1 ⟨rfl, k1⟩
    have B3 := B2.trans (k1.mono B2.size)
    replace rb := row_later rb k1
    replace rr := row_later rr k1
    have e0 : w1.cell? ⟨w.heap.size + 1, 0, none⟩ = some (.int .i64 0) := rr.cell (i := 0) (by omega)
    have e1 : w1.cell? ⟨w.heap.size + 1, 1, none⟩ = some (.int .i64 0) := rr.cell (i := 1) (by omega)
    have z0 := rr.frozen 0
    have z1 := rr.frozen 1
    have rl := rr.lt
    have t := (rr.set 0 (.int .i64 R)).set 1 (.int .i64 0)
    have c0 := t.cell (i := 0) (by omega)
    have c1 := t.cell (i := 1) (by omega)
    have B4 := bel_set (bel_set B3 (w.heap.size + 1) 0 (by omega) (.int .i64 R)) (w.heap.size + 1) 1 (by omega) (.int .i64 0)
    go_wp2_with fail
    refine bodyPost_ret ?_ rfl ⟨rfl, B4⟩
    simp [results, Try.results19, go_sem, c0, c1]
    done
  · have hv : cbV us fs o = 0 := by unfold cbV; rw [h1, h2]; rfl
    rw [e, hv]
    rw [e] at cF
    go_enter Try.func19, Try.ntmps19
    go_wp2_with fail
    refine cF.mono ?_
    rintro e w1 ⟨rfl, k1⟩
    have B3 := B2.trans (k1.mono B2.size)
    replace rb := row_later rb k1
    replace rr := row_later rr k1
    have e0 : w1.cell? ⟨w.heap.size + 1, 0, none⟩ = some (.int .i64 0) := rr.cell (i := 0) (by omega)
    have e1 : w1.cell? ⟨w.heap.size + 1, 1, none⟩ = some (.int .i64 0) := rr.cell (i := 1) (by omega)
    have z0 := rr.frozen 0
    have z1 := rr.frozen 1
    have rl := rr.lt
    have t := (rr.set 0 (.int .i64 3)).set 1 (.int .i64 0)
    have c0 := t.cell (i := 0) (by omega)
    have c1 := t.cell (i := 1) (by omega)
    have B4 := bel_set (bel_set B3 (w.heap.size + 1) 0 (by omega) (.int .i64 3)) (w.heap.size + 1) 1 (by omega) (.int .i64 0)
    go_wp2_with fail
    refine bodyPost_ret ?_ rfl ⟨rfl, B4⟩
    simp [results, Try.results19, go_sem, c0, c1]
    done
  · have hv : cbV us fs o = carry o us := by unfold cbV; rw [h1, h2]; rfl
    rw [e, hv]
    obtain ⟨n8, _, huf, _, _⟩ := bf_ok h1
    rw [e] at cF
    have Hf : Hid (∀ u ∈ us, uf u = 0) := huf
    have Hl : Hid (us.length = m) := hl
    have HU : Hid (ArgU w a us) := hU
    have hm : m ≤ 8 := by omega
    obtain ⟨R, HR⟩ : ∃ R : Int, Hid (R = carry o us) := ⟨_, rfl⟩
    rw [← HR.out]
    go_enter Try.func19, Try.ntmps19
    go_wp2_with fail
    refine cF.mono ?_
    rintro e w1 ⟨rfl, k1⟩
    have B3 := B2.trans (k1.mono B2.size)
    replace rb := row_later rb k1
    replace rr := row_later rr k1
    have e0 : w1.cell? ⟨w.heap.size + 1, 0, none⟩ = some (.int .i64 0) := rr.cell (i := 0) (by omega)
    have e1 : w1.cell? ⟨w.heap.size + 1, 1, none⟩ = some (.int .i64 0) := rr.cell (i := 1) (by omega)
    have z0 := rr.frozen 0
    have z1 := rr.frozen 1
    have rl := rr.lt
    have HB3 : Hid (Below w.heap.size w w1) := B3
    have Hrr : Hid (w1.rowIs (w.heap.size + 1) 43 2 (fun i => if i = 0 then .int .i64 0 else .int .i64 0)) := rr
    have HB : Hid (BrdAt w1 w.heap.size (.slice a m c) (.slice a' m' c')) := row_brd rb
    obtain ⟨p1, p2, pl⟩ := row_brd rb
    clear huf hl hl' hU hF rb rr B2 B3 k1 hv n8 cF
    go_wp2_with fail
    go_loopw [6, 19] (fun n i wr => ∃ (k : Nat) (v : Int), k ≤ m ∧ i = .int .i64 k ∧ n = .int .i64 v ∧ Hid (v + carry o (us.drop k) = R) ∧ 0 ≤ v ∧ v ≤ 20 * (k : Int) ∧ Below w1.heap.size w1 wr) (fun _ i _ => m - (intOf i).toNat)
    case atStart => exact ⟨0, 0, Nat.zero_le _, rfl, rfl, by show _ = _; rw [HR.out, Int.zero_add]; rfl, Int.le_refl _, by omega, Below.refl _ _⟩
    case round =>
      obtain ⟨k, v, hk, rfl, rfl, Hk, v0, v1, hbel⟩ := hrel
      have hb3 := HB3.out.trans (hbel.mono HB3.out.size)
      obtain ⟨p1, p2, pl⟩ := HB.out.later hbel
      by_cases hlt : k < m
      · have hlt' : (k : Int) < (m : Int) := by omega
        obtain ⟨x, hx⟩ : ∃ x, us[k]? = some x := ⟨_, List.getElem?_eq_getElem (by have := Hl.out; omega)⟩
        obtain ⟨b, off, rfl, hb, hat⟩ := HU.out.at hx
        obtain ⟨x0, x1, x2, x3, x4, x5, x6, x7, x8, x9, xl⟩ := (hat.later hb hb3).one (Nat.lt_of_lt_of_le hb hb3.size) hx
        obtain ⟨f0, f1⟩ := uf_carry (Hf.out x (List.mem_of_getElem? hx))
        have hb4 := hbel.trans (((Below.refl _ _).alloc (Nat.le_refl _) (.cells x.v 29)).mono hbel.size)
        have HS : Hid (carry o (us.drop k) = if (x.c1 == o) = true then x.c5 + carry o (us.drop (k + 1)) else carry o (us.drop (k + 1))) := carry_step hx
        clear hx hat
        cases hq : x.c1 == o
        · have HE : Hid (v + carry o (us.drop (k + 1)) = R) := by show _ = _; rw [← Hk.out, HS.out, if_neg (by rw [hq]; simp)]
          go_wp2
          go_roundw
          case rel => exact ⟨k + 1, v, by omega, by go_num, rfl, HE, by omega, by omega, hb4⟩
          case measure => simp [intOf]; omega
        · have HE : Hid (v + x.c5 + carry o (us.drop (k + 1)) = R) := by show _ = _; rw [← Hk.out, HS.out, if_pos hq]; omega
          go_wp2
          go_roundw
          case rel => exact ⟨k + 1, v + x.c5, by omega, by go_num, by go_num, HE, by omega, by omega, hb4⟩
          case measure => simp [intOf]; omega
      · obtain rfl : k = m := by omega
        have HE : Hid (v = R) := by show _ = _; rw [← Hk.out, List.drop_of_length_le (by have := Hl.out; omega)]; unfold carry; omega
        have rr := row_later Hrr.out hbel
        have e0 : wr.cell? ⟨w.heap.size + 1, 0, none⟩ = some (.int .i64 0) := rr.cell (i := 0) (by omega)
        have e1 : wr.cell? ⟨w.heap.size + 1, 1, none⟩ = some (.int .i64 0) := rr.cell (i := 1) (by omega)
        have z0 := rr.frozen 0
        have z1 := rr.frozen 1
        have rl := rr.lt
        have t := (rr.set 0 (.int .i64 0)).set 1 (.int .i64 v)
        have c0 := t.cell (i := 0) (by omega)
        have c1 := t.cell (i := 1) (by omega)
        have B5 := bel_set (bel_set hb3 (w.heap.size + 1) 0 (by omega) (.int .i64 0)) (w.heap.size + 1) 1 (by omega) (.int .i64 v)
        go_wp2_with fail
        refine bodyPost_ret ?_ rfl ⟨by rw [← HE.out], B5⟩
        simp [results, Try.results19, go_sem, c0, c1]
        done
end Go.Proofs.Ytibkdkjcncfmgaa
