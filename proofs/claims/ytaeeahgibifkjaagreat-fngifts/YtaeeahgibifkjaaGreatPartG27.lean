/- Texts of mine put together (a claim holds at most 60 files): PutImpl2. -/
import Derived.Test.YtaeeahgibifkjaaGreatPartG26

/- PutImpl2 -/
/- The contract of the program's PutUnit. Condition: the board's lists lie in memory as they were laid there. -/
section
namespace Go.Proofs.YtaeeahgibifkjaaGreat
open Go.ChangeShapes Go.WideShapes Go.ChangeAt Go.RowKit
open Bd
set_option linter.unusedVariables false

theorem putU_uf {u : K10} {l : List K10} (h : ∀ x ∈ l, uf x = 0) (hu : uf u = 0) : ∀ x ∈ putU u l, uf x = 0 := by
  intro x hx
  rcases putU_mem hx with rfl | hx
  · exact hu
  · exact h x hx
set_option maxRecDepth 20000 in
set_option maxHeartbeats 8000000 in
theorem implPutUnit_i (p : Option Addr) (c : Nat) (p' : Option Addr) (c' : Nat) (us : List K10) (fs : List K3) (u : K10) (w : World) (hat : InU w p us.length c us) (hat' : InF w p' fs.length c' fs) :
    Calls Tryz.prog 86 #[.agg (brdV p us.length c p' fs.length c'), .agg u.v] w fun e w' => ∃ v f, e = .returned (.agg #[.int .i64 (puC us fs u), v, f]) ∧ SlU w' w.heap.size v (puU us fs u) ∧ SlF w' w.heap.size f (puF us fs u) ∧ Below w.heap.size w w' := by
  obtain ⟨rb, ru, rr, B0, S0⟩ := three_put w (.slice p us.length c) (.slice p' fs.length c') u 27 54 112
  have cF := implBoardFault p us.length c p' fs.length c' us fs rfl rfl _ (hat.later B0).arg (hat'.later B0).arg
  have cU := fun W => implUnitFault u W
  have cR := fun W (h5 : us.length ≤ 8) (hu : ∀ u ∈ us, uf u = 0) (hr : Rise us) h => rowsById_c p us.length c us rfl h5 hu hr W h
  have cC := fun W (h6 : fs.length ≤ 4) h1 => clone_i p' c' fs.length fs rfl h6 W h1
  obtain ⟨m, Hm⟩ : ∃ m, Hid (us.length = m) := ⟨_, rfl⟩
  obtain ⟨m', Hm'⟩ : ∃ m', Hid (fs.length = m') := ⟨_, rfl⟩
  have HA : Hid (InU w p m c us) := by show InU _ _ _ _ _; rw [← Hm.out]; exact hat
  have HA' : Hid (InF w p' m' c' fs) := by show InF _ _ _ _ _; rw [← Hm'.out]; exact hat'
  clear hat hat'
  have hm := Hm.out
  have hm' := Hm'.out
  clear S0
  rcases pu_cases us fs u with ⟨h1, e, eu, ef⟩ | ⟨h1, h2, e, eu, ef⟩ | ⟨h1, h2, h3, e, eu, ef⟩ | ⟨h1, h2, h3, e, eu, ef⟩
  · rw [e, eu, ef]
    have h1' := bne_of h1
    generalize bf us fs = R at h1 h1' cF ⊢
    rw [hm] at cF rb ru rr B0 ⊢
    rw [hm'] at cF rb ru rr B0 ⊢
    clear cC cR hm hm'
    go_enter Tryz.func86, Tryz.ntmps86
    go_wp2_with fail
    refine cF.mono ?_
    rintro e w1 ⟨rfl, k1⟩
    have B1 := B0.trans (k1.mono B0.size)
    replace rb := row_later rb k1
    replace rr := row_later rr k1
    replace ru := ru.later k1
    have e0 : w1.cell? ⟨w.heap.size + 1 + 1, 0, none⟩ = some (.int .i64 0) := rr.cell (i := 0) (by omega)
    have e1 : w1.cell? ⟨w.heap.size + 1 + 1, 1, none⟩ = some (.slice none 0 0) := rr.cell (i := 1) (by omega)
    have e2 : w1.cell? ⟨w.heap.size + 1 + 1, 2, none⟩ = some (.slice none 0 0) := rr.cell (i := 2) (by omega)
    have z0 := rr.frozen 0
    have z1 := rr.frozen 1
    have z2 := rr.frozen 2
    have rl := rr.lt
    have t := ((rr.set 0 (.int .i64 R)).set 1 (.slice none 0 0)).set 2 (.slice none 0 0)
    have c0 := t.cell (i := 0) (by omega)
    have c1 := t.cell (i := 1) (by omega)
    have c2 := t.cell (i := 2) (by omega)
    have BZ := bel_set (bel_set (bel_set B1 (w.heap.size + 1 + 1) 0 (by omega) (.int .i64 R)) (w.heap.size + 1 + 1) 1 (by omega) (.slice none 0 0)) (w.heap.size + 1 + 1) 2 (by omega) (.slice none 0 0)
    go_wp2_with fail
    refine bodyPost_ret (v := .agg #[.int .i64 R, .slice none 0 0, .slice none 0 0]) ?_ rfl ⟨_, _, rfl, SlU.nil _ _, SlF.nil _ _, BZ⟩
    simp [results, Tryz.results86, go_sem, c0, c1, c2]
    done
  · rw [e, eu, ef]
    have h2' := bne_of h2
    rw [h1] at cF
    generalize uf u = R at h2 h2' cU ⊢
    rw [hm] at cF rb ru rr B0 ⊢
    rw [hm'] at cF rb ru rr B0 ⊢
    clear cC cR hm hm'
    go_enter Tryz.func86, Tryz.ntmps86
    go_wp2_with fail
    refine cF.mono ?_
    rintro e w1 ⟨rfl, k1⟩
    have B1 := B0.trans (k1.mono B0.size)
    replace rb := row_later rb k1
    replace rr := row_later rr k1
    replace ru := ru.later k1
    obtain ⟨u0, u1, u2, u3, u4, u5, u6, u7, u8, u9, ul⟩ := ru
    go_wp2_with fail
    refine (cU _).mono ?_
    rintro e w2 ⟨rfl, k2⟩
    have B2 := B1.trans (k2.mono B1.size)
    replace rr := row_later rr k2
    have e0 : w2.cell? ⟨w.heap.size + 1 + 1, 0, none⟩ = some (.int .i64 0) := rr.cell (i := 0) (by omega)
    have e1 : w2.cell? ⟨w.heap.size + 1 + 1, 1, none⟩ = some (.slice none 0 0) := rr.cell (i := 1) (by omega)
    have e2 : w2.cell? ⟨w.heap.size + 1 + 1, 2, none⟩ = some (.slice none 0 0) := rr.cell (i := 2) (by omega)
    have z0 := rr.frozen 0
    have z1 := rr.frozen 1
    have z2 := rr.frozen 2
    have rl := rr.lt
    have t := ((rr.set 0 (.int .i64 R)).set 1 (.slice none 0 0)).set 2 (.slice none 0 0)
    have c0 := t.cell (i := 0) (by omega)
    have c1 := t.cell (i := 1) (by omega)
    have c2 := t.cell (i := 2) (by omega)
    have BZ := bel_set (bel_set (bel_set B2 (w.heap.size + 1 + 1) 0 (by omega) (.int .i64 R)) (w.heap.size + 1 + 1) 1 (by omega) (.slice none 0 0)) (w.heap.size + 1 + 1) 2 (by omega) (.slice none 0 0)
    go_wp2_with fail
    refine bodyPost_ret (v := .agg #[.int .i64 R, .slice none 0 0, .slice none 0 0]) ?_ rfl ⟨_, _, rfl, SlU.nil _ _, SlF.nil _ _, BZ⟩
    simp [results, Tryz.results86, go_sem, c0, c1, c2]
    done
  · rw [e, eu, ef]
    obtain ⟨hfn, hm8⟩ : findU us u.c0 = none ∧ us.length = 8 := by
      rcases putU_count (bf_ok h1).2.2.2.2 (u := u) with ⟨a, b⟩ | ⟨a, b⟩
      · exact ⟨a, by have := (bf_ok h1).1; omega⟩
      · have := (bf_ok h1).1; omega
    rw [hm] at hm8
    have Hm8 : Hid (m = 8) := hm8
    clear hm8
    rw [h1] at cF
    obtain ⟨n8, n4, huf, hff, hris⟩ := bf_ok h1
    have Hris : Hid (Rise us) := hris
    have Huf : Hid (∀ x ∈ us, uf x = 0) := huf
    have Hu0 : Hid (uf u = 0) := h2
    rw [h2] at cU
    replace cR := fun W h => cR W n8 huf hris h
    replace cC := fun W h1 => cC W n4 h1
    rw [hm] at cF rb ru rr B0 cR n8 ⊢
    rw [hm'] at cF rb ru rr B0 cC n4 ⊢
    clear hm hm' huf hff hris h2
    go_enter Tryz.func86, Tryz.ntmps86
    go_wp2_with fail
    refine cF.mono ?_
    rintro e w1 ⟨rfl, k1⟩
    have B1 := B0.trans (k1.mono B0.size)
    replace rb := row_later rb k1
    replace rr := row_later rr k1
    replace ru := ru.later k1
    have Hru : Hid (U1 w1 (w.heap.size + 1) 0 u) := ru
    obtain ⟨u0, u1, u2, u3, u4, u5, u6, u7, u8, u9, ul⟩ := ru
    go_wp2_with fail
    refine (cU _).mono ?_
    rintro e w2 ⟨rfl, k2⟩
    have B2 := B1.trans (k2.mono B1.size)
    replace rr := row_later rr k2
    have ru := Hru.out.later k2
    replace rb := row_later rb k2
    obtain ⟨p0, p1, pl⟩ := row_brd rb
    go_wp2_with fail
    refine (cR _ (HA.out.later B2).arg).mono ?_
    rintro e w3 ⟨rfl, M3, k3⟩
    have B3 := B2.trans (k3.mono B2.size)
    have hmb : w.heap.size + 1 + 1 < w2.heap.size := rr.lt
    replace rb := row_later rb k3
    replace rr := row_later rr k3
    replace ru := ru.later k3
    obtain ⟨mb, Hmb⟩ : ∃ mb, Hid (mb = w2.heap.size) := ⟨_, rfl⟩
    rw [← Hmb.out] at M3 hmb ⊢
    clear u0 u1 u2 u3 u4 u5 u6 u7 u8 u9 ul p0 p1 pl
    obtain ⟨u0, u1, u2, u3, u4, u5, u6, u7, u8, u9, ul⟩ := ru
    have hid := uf_id Hu0.out
    have hlook := M3.look u.c0 (wf_int (by omega) (by omega))
    rw [hfn] at hlook
    dsimp only at hlook
    obtain ⟨w4, H4⟩ : ∃ w4, Hid (w4 = w3.alloc (.cells K10.z.v 117)) := ⟨_, rfl⟩
    have k4 : Below w3.heap.size w3 w4 := by rw [H4.out]; exact (Below.refl _ _).alloc (Nat.le_refl _) _
    have B4 := B3.trans (k4.mono B3.size)
    have M4 := M3.later k4
    have hlen4 := fun ty => M4.len Hm.out ty
    replace rb := row_later rb k4
    replace rr := row_later rr k4
    go_upto_region 9 with fail
    rw [← H4.out]
    clear hlook u0 u1 u2 u3 u4 u5 u6 u7 u8 u9 ul
    have d8 : ((m : Int) == 8) = true := by have := Hm8.out; simp; omega
    have e0 : w4.cell? ⟨w.heap.size + 1 + 1, 0, none⟩ = some (.int .i64 0) := rr.cell (i := 0) (by omega)
    have e1 : w4.cell? ⟨w.heap.size + 1 + 1, 1, none⟩ = some (.slice none 0 0) := rr.cell (i := 1) (by omega)
    have e2 : w4.cell? ⟨w.heap.size + 1 + 1, 2, none⟩ = some (.slice none 0 0) := rr.cell (i := 2) (by omega)
    have z0 := rr.frozen 0
    have z1 := rr.frozen 1
    have z2 := rr.frozen 2
    have rl := rr.lt
    have t := ((rr.set 0 (.int .i64 7)).set 1 (.slice none 0 0)).set 2 (.slice none 0 0)
    have c0 := t.cell (i := 0) (by omega)
    have c1 := t.cell (i := 1) (by omega)
    have c2 := t.cell (i := 2) (by omega)
    have BZ := bel_set (bel_set (bel_set B4 (w.heap.size + 1 + 1) 0 (by omega) (.int .i64 7)) (w.heap.size + 1 + 1) 1 (by omega) (.slice none 0 0)) (w.heap.size + 1 + 1) 2 (by omega) (.slice none 0 0)
    go_wp2_with fail
    refine bodyPost_ret (v := .agg #[.int .i64 7, .slice none 0 0, .slice none 0 0]) ?_ rfl ⟨_, _, rfl, SlU.nil _ _, SlF.nil _ _, BZ⟩
    simp [results, Tryz.results86, go_sem, c0, c1, c2]
    done
  · rw [e, eu, ef]
    rcases putU_count (bf_ok h1).2.2.2.2 (u := u) with ⟨hfn, hcnt⟩ | ⟨⟨x, hfx⟩, hcnt⟩
    · have hm8 : us.length < 8 := by omega
      rw [hm] at hm8
      rw [h1] at cF
      obtain ⟨n8, n4, huf, hff, hris⟩ := bf_ok h1
      have Hris : Hid (Rise us) := hris
      have Huf : Hid (∀ x ∈ us, uf x = 0) := huf
      have Hu0 : Hid (uf u = 0) := h2
      rw [h2] at cU
      replace cR := fun W h => cR W n8 huf hris h
      replace cC := fun W h1 => cC W n4 h1
      rw [hm] at cF rb ru rr B0 cR n8 ⊢
      rw [hm'] at cF rb ru rr B0 cC n4 ⊢
      clear hm hm' huf hff hris h2
      go_enter Tryz.func86, Tryz.ntmps86
      go_wp2_with fail
      refine cF.mono ?_
      rintro e w1 ⟨rfl, k1⟩
      have B1 := B0.trans (k1.mono B0.size)
      replace rb := row_later rb k1
      replace rr := row_later rr k1
      replace ru := ru.later k1
      have Hru : Hid (U1 w1 (w.heap.size + 1) 0 u) := ru
      obtain ⟨u0, u1, u2, u3, u4, u5, u6, u7, u8, u9, ul⟩ := ru
      go_wp2_with fail
      refine (cU _).mono ?_
      rintro e w2 ⟨rfl, k2⟩
      have B2 := B1.trans (k2.mono B1.size)
      replace rr := row_later rr k2
      have ru := Hru.out.later k2
      replace rb := row_later rb k2
      obtain ⟨p0, p1, pl⟩ := row_brd rb
      go_wp2_with fail
      refine (cR _ (HA.out.later B2).arg).mono ?_
      rintro e w3 ⟨rfl, M3, k3⟩
      have B3 := B2.trans (k3.mono B2.size)
      have hmb : w.heap.size + 1 + 1 < w2.heap.size := rr.lt
      replace rb := row_later rb k3
      replace rr := row_later rr k3
      replace ru := ru.later k3
      obtain ⟨mb, Hmb⟩ : ∃ mb, Hid (mb = w2.heap.size) := ⟨_, rfl⟩
      rw [← Hmb.out] at M3 hmb ⊢
      clear u0 u1 u2 u3 u4 u5 u6 u7 u8 u9 ul p0 p1 pl
      obtain ⟨u0, u1, u2, u3, u4, u5, u6, u7, u8, u9, ul⟩ := ru
      have hid := uf_id Hu0.out
      have hlook := M3.look u.c0 (wf_int (by omega) (by omega))
      rw [hfn] at hlook
      dsimp only at hlook
      obtain ⟨w4, H4⟩ : ∃ w4, Hid (w4 = w3.alloc (.cells K10.z.v 117)) := ⟨_, rfl⟩
      have k4 : Below w3.heap.size w3 w4 := by rw [H4.out]; exact (Below.refl _ _).alloc (Nat.le_refl _) _
      have B4 := B3.trans (k4.mono B3.size)
      have M4 := M3.later k4
      have hlen4 := fun ty => M4.len Hm.out ty
      replace rb := row_later rb k4
      replace rr := row_later rr k4
      go_upto_region 9 with fail
      rw [← H4.out]
      clear hlook u0 u1 u2 u3 u4 u5 u6 u7 u8 u9 ul
      have d8 : ((m : Int) == 8) = false := by simp; omega
      clear hm8
      have Hru4 : U1 w4 (w.heap.size + 1) 0 u := (Hru.out.later k2).later (k3.trans (k4.mono k3.size))
      obtain ⟨W6, HW6⟩ : ∃ W6, Hid (W6 = ((w4.alloc (.cells u.v 54)).alloc (.cells u.v 117)).drew) := ⟨_, rfl⟩
      have k6 : Below w4.heap.size w4 W6 := by rw [HW6.out]; exact (((Below.refl _ _).alloc (Nat.le_refl _) _).alloc (by rw [size_new]; exact Nat.le_succ _) _).drew
      have M6 := M4.later k6
      obtain ⟨w7, hrun, M7, hg7⟩ := M6.update Hris.out (by have := Hm.out; omega) u (wf_int (by omega) (by omega))
      have B6 := B4.trans (k6.mono B4.size)
      have B7 : Below w.heap.size w w7 := B6.grown hg7 B6.size (fun q hq => by cases hq; omega)
      have ru7 : U1 w7 (w.heap.size + 1) 0 u := (Hru4.later k6).of_block (hg7.block _ (Hru4.later k6).lt (by intro e; have := Option.some.inj e; omega)) (by have := (Hru4.later k6).lt; have := hg7.size; omega)
      have rb7 := (row_later rb k6).of_block (hg7.block _ (row_later rb k6).lt (by intro e; have := Option.some.inj e; omega))
      have rr7 := (row_later rr k6).of_block (hg7.block _ (row_later rr k6).lt (by intro e; have := Option.some.inj e; omega))
      rw [HW6.out] at hrun
      have cO := fun w => rowOf_c u w
      obtain ⟨s0, s1, s2, s3, s4, s5, s6, s7, s8, s9, sl⟩ := Hru4
      obtain ⟨r0, r1, r2, r3, r4, r5, r6, r7, r8, r9, rl7⟩ := ru7
      go_upto_region 11 with fail
      go_region_held3 (fun w' => w'.cell? ⟨w.heap.size + 1, 0, none⟩ = some (.int .i64 u.c0) ∧ w'.cell? ⟨w.heap.size + 1, 1, none⟩ = some (.int .i64 u.c1) ∧ w'.cell? ⟨w.heap.size + 1, 2, none⟩ = some (.int .i64 u.c2) ∧ w'.cell? ⟨w.heap.size + 1, 3, none⟩ = some (.int .i64 u.c3) ∧ w'.cell? ⟨w.heap.size + 1, 4, none⟩ = some (.int .i64 u.c4) ∧ w'.cell? ⟨w.heap.size + 1, 5, none⟩ = some (.int .i64 u.c5) ∧ w'.cell? ⟨w.heap.size + 1, 6, none⟩ = some (.int .i64 u.c6) ∧ w'.cell? ⟨w.heap.size + 1, 7, none⟩ = some (.int .i64 u.c7) ∧ w'.cell? ⟨w.heap.size + 1, 8, none⟩ = some (.int .i64 u.c8) ∧ w'.cell? ⟨w.heap.size + 1, 9, none⟩ = some (.int .i64 u.c9)) (go_keep) (first | (go_at_call 129; refine (cO _).mono ?_; rintro e w1 ⟨rfl, rfl⟩))
      all_goals
        go_upto_region 12 with fail
        clear s0 s1 s2 s3 s4 s5 s6 s7 s8 s9 sl r0 r1 r2 r3 r4 r5 r6 r7 r8 r9 rl7
        have rl7 : w.heap.size + 1 + 1 < w7.heap.size := rr7.lt
        have keep : ∀ w', Below w7.heap.size w7 w' → w'.cell? ⟨w.heap.size, 1, none⟩ = some (.slice p' m' c') ∧ w'.cell? ⟨w.heap.size + 1 + 1, 0, none⟩ = some (.int .i64 0) ∧ w'.cell? ⟨w.heap.size + 1 + 1, 1, none⟩ = some (.slice none 0 0) ∧ w'.cell? ⟨w.heap.size + 1 + 1, 2, none⟩ = some (.slice none 0 0) ∧ w'.frozen? ⟨w.heap.size + 1 + 1, 0, none⟩ = false ∧ w'.frozen? ⟨w.heap.size + 1 + 1, 1, none⟩ = false ∧ w'.frozen? ⟨w.heap.size + 1 + 1, 2, none⟩ = false := fun w' hb => by
          have r1 := row_later rb7 hb
          have r2 := row_later rr7 hb
          exact ⟨r1.cell (i := 1) (by omega), r2.cell (i := 0) (by omega), r2.cell (i := 1) (by omega), r2.cell (i := 2) (by omega), r2.frozen 0, r2.frozen 1, r2.frozen 2⟩
        obtain ⟨p1, e0, e1, e2, z0, z1, z2⟩ := keep _ (Below.refl _ _)
        obtain ⟨m1, Hm1⟩ : ∃ m1, Hid ((putU u us).length = m1) := ⟨_, rfl⟩
        have cI := fun W h => risingUnits_c mb m1 (putU u us) Hm1.out (by have := Hm1.out; omega) (putU_rise Hris.out) (putU_uf Huf.out Hu0.out) W h
        have D7 : Below w7.heap.size w7 w7.drew := (Below.refl _ _).drew
        clear hrun
        go_region_held3 (fun w' => w'.cell? ⟨w.heap.size, 1, none⟩ = some (.slice p' m' c')) (first | (rw [World.cell?_setCell_far _ _ _ _ (by show w.heap.size + 1 + 1 ≠ w.heap.size; omega), World.cell?_setCell_far _ _ _ _ (by show w.heap.size + 1 + 1 ≠ w.heap.size; omega), World.cell?_setCell_far _ _ _ _ (by show w.heap.size + 1 + 1 ≠ w.heap.size; omega)]; exact p1) | go_keep) (first
          | (go_at_call 130; refine (cI _ (M7.later D7)).mono ?_; rintro e w8 ⟨v8, rfl, S8, k8⟩; have K8 := D7.trans (k8.mono D7.size); obtain ⟨p1, e0, e1, e2, z0, z1, z2⟩ := keep _ K8; obtain ⟨a8, c8, hv8, _⟩ := S8.form; rw [Hm1.out] at hv8; subst hv8)
          | (go_at_call 131; refine (cC _ (HA'.out.later (B7.trans (K8.mono B7.size)))).mono ?_; rintro e w9 ⟨v9, rfl, S9, k9⟩; have K9 := K8.trans (k9.mono K8.size); obtain ⟨p1, e0, e1, e2, z0, z1, z2⟩ := keep _ K9; obtain ⟨a9, c9, hv9, _⟩ := S9.form; rw [Hm'.out] at hv9; subst hv9))
      all_goals
        have rr9 := row_later rr7 K9
        have t := ((rr9.set 0 (.int .i64 0)).set 1 (.slice a8 m1 c8)).set 2 (.slice a9 m' c9)
        have c0 := t.cell (i := 0) (by omega)
        have c1 := t.cell (i := 1) (by omega)
        have c2 := t.cell (i := 2) (by omega)
        have hs8 : w.heap.size + 1 + 1 < w8.heap.size := by have := K8.size; omega
        have BZ := bel_set (bel_set (bel_set (B7.trans (K9.mono B7.size)) (w.heap.size + 1 + 1) 0 (by omega) (.int .i64 0)) (w.heap.size + 1 + 1) 1 (by omega) (.slice a8 m1 c8)) (w.heap.size + 1 + 1) 2 (by omega) (.slice a9 m' c9)
        have T8 := ((((S8.below k9).set (b := w.heap.size + 1 + 1) (o := 0) (by have := D7.size; omega) (.int .i64 0)).set (b := w.heap.size + 1 + 1) (o := 1) (by have := D7.size; omega) (.slice a8 m1 c8)).set (b := w.heap.size + 1 + 1) (o := 2) (by have := D7.size; omega) (.slice a9 m' c9)).mono (Nat.le_trans B7.size D7.size)
        have T9 := (((S9.set (b := w.heap.size + 1 + 1) (o := 0) hs8 (.int .i64 0)).set (b := w.heap.size + 1 + 1) (o := 1) hs8 (.slice a8 m1 c8)).set (b := w.heap.size + 1 + 1) (o := 2) hs8 (.slice a9 m' c9)).mono (Nat.le_trans B7.size K8.size)
        go_wp2_with fail
        refine bodyPost_ret (v := .agg #[.int .i64 0, .slice a8 m1 c8, .slice a9 m' c9]) ?_ rfl ⟨_, _, rfl, T8, T9, BZ⟩
        simp [results, Tryz.results86, go_sem, c0, c1, c2]
        done
    · have Hfx : Hid (findU us u.c0 = some x) := hfx
      rw [h1] at cF
      obtain ⟨n8, n4, huf, hff, hris⟩ := bf_ok h1
      have Hris : Hid (Rise us) := hris
      have Huf : Hid (∀ x ∈ us, uf x = 0) := huf
      have Hu0 : Hid (uf u = 0) := h2
      rw [h2] at cU
      replace cR := fun W h => cR W n8 huf hris h
      replace cC := fun W h1 => cC W n4 h1
      rw [hm] at cF rb ru rr B0 cR n8 ⊢
      rw [hm'] at cF rb ru rr B0 cC n4 ⊢
      clear hm hm' huf hff hris h2 hfx
      go_enter Tryz.func86, Tryz.ntmps86
      go_wp2_with fail
      refine cF.mono ?_
      rintro e w1 ⟨rfl, k1⟩
      have B1 := B0.trans (k1.mono B0.size)
      replace rb := row_later rb k1
      replace rr := row_later rr k1
      replace ru := ru.later k1
      have Hru : Hid (U1 w1 (w.heap.size + 1) 0 u) := ru
      obtain ⟨u0, u1, u2, u3, u4, u5, u6, u7, u8, u9, ul⟩ := ru
      go_wp2_with fail
      refine (cU _).mono ?_
      rintro e w2 ⟨rfl, k2⟩
      have B2 := B1.trans (k2.mono B1.size)
      replace rr := row_later rr k2
      have ru := Hru.out.later k2
      replace rb := row_later rb k2
      obtain ⟨p0, p1, pl⟩ := row_brd rb
      go_wp2_with fail
      refine (cR _ (HA.out.later B2).arg).mono ?_
      rintro e w3 ⟨rfl, M3, k3⟩
      have B3 := B2.trans (k3.mono B2.size)
      have hmb : w.heap.size + 1 + 1 < w2.heap.size := rr.lt
      replace rb := row_later rb k3
      replace rr := row_later rr k3
      replace ru := ru.later k3
      obtain ⟨mb, Hmb⟩ : ∃ mb, Hid (mb = w2.heap.size) := ⟨_, rfl⟩
      rw [← Hmb.out] at M3 hmb ⊢
      clear u0 u1 u2 u3 u4 u5 u6 u7 u8 u9 ul p0 p1 pl
      obtain ⟨u0, u1, u2, u3, u4, u5, u6, u7, u8, u9, ul⟩ := ru
      have hid := uf_id Hu0.out
      have hlook := M3.look u.c0 (wf_int (by omega) (by omega))
      rw [Hfx.out] at hlook
      dsimp only at hlook
      obtain ⟨w4, H4⟩ : ∃ w4, Hid (w4 = w3.alloc (.cells x.v 117)) := ⟨_, rfl⟩
      have k4 : Below w3.heap.size w3 w4 := by rw [H4.out]; exact (Below.refl _ _).alloc (Nat.le_refl _) _
      have B4 := B3.trans (k4.mono B3.size)
      have M4 := M3.later k4
      have hlen4 := fun ty => M4.len Hm.out ty
      replace rb := row_later rb k4
      replace rr := row_later rr k4
      go_upto_region 9 with fail
      rw [← H4.out]
      clear hlook u0 u1 u2 u3 u4 u5 u6 u7 u8 u9 ul
      have Hru4 : U1 w4 (w.heap.size + 1) 0 u := (Hru.out.later k2).later (k3.trans (k4.mono k3.size))
      obtain ⟨W6, HW6⟩ : ∃ W6, Hid (W6 = ((w4.alloc (.cells u.v 54)).alloc (.cells u.v 117)).drew) := ⟨_, rfl⟩
      have k6 : Below w4.heap.size w4 W6 := by rw [HW6.out]; exact (((Below.refl _ _).alloc (Nat.le_refl _) _).alloc (by rw [size_new]; exact Nat.le_succ _) _).drew
      have M6 := M4.later k6
      obtain ⟨w7, hrun, M7, hg7⟩ := M6.update Hris.out (by have := Hm.out; omega) u (wf_int (by omega) (by omega))
      have B6 := B4.trans (k6.mono B4.size)
      have B7 : Below w.heap.size w w7 := B6.grown hg7 B6.size (fun q hq => by cases hq; omega)
      have ru7 : U1 w7 (w.heap.size + 1) 0 u := (Hru4.later k6).of_block (hg7.block _ (Hru4.later k6).lt (by intro e; have := Option.some.inj e; omega)) (by have := (Hru4.later k6).lt; have := hg7.size; omega)
      have rb7 := (row_later rb k6).of_block (hg7.block _ (row_later rb k6).lt (by intro e; have := Option.some.inj e; omega))
      have rr7 := (row_later rr k6).of_block (hg7.block _ (row_later rr k6).lt (by intro e; have := Option.some.inj e; omega))
      rw [HW6.out] at hrun
      have cO := fun w => rowOf_c u w
      obtain ⟨s0, s1, s2, s3, s4, s5, s6, s7, s8, s9, sl⟩ := Hru4
      obtain ⟨r0, r1, r2, r3, r4, r5, r6, r7, r8, r9, rl7⟩ := ru7
      go_upto_region 11 with fail
      go_region_held3 (fun w' => w'.cell? ⟨w.heap.size + 1, 0, none⟩ = some (.int .i64 u.c0) ∧ w'.cell? ⟨w.heap.size + 1, 1, none⟩ = some (.int .i64 u.c1) ∧ w'.cell? ⟨w.heap.size + 1, 2, none⟩ = some (.int .i64 u.c2) ∧ w'.cell? ⟨w.heap.size + 1, 3, none⟩ = some (.int .i64 u.c3) ∧ w'.cell? ⟨w.heap.size + 1, 4, none⟩ = some (.int .i64 u.c4) ∧ w'.cell? ⟨w.heap.size + 1, 5, none⟩ = some (.int .i64 u.c5) ∧ w'.cell? ⟨w.heap.size + 1, 6, none⟩ = some (.int .i64 u.c6) ∧ w'.cell? ⟨w.heap.size + 1, 7, none⟩ = some (.int .i64 u.c7) ∧ w'.cell? ⟨w.heap.size + 1, 8, none⟩ = some (.int .i64 u.c8) ∧ w'.cell? ⟨w.heap.size + 1, 9, none⟩ = some (.int .i64 u.c9)) (go_keep) (first | (go_at_call 129; refine (cO _).mono ?_; rintro e w1 ⟨rfl, rfl⟩))
      all_goals
        go_upto_region 12 with fail
        clear s0 s1 s2 s3 s4 s5 s6 s7 s8 s9 sl r0 r1 r2 r3 r4 r5 r6 r7 r8 r9 rl7
        have rl7 : w.heap.size + 1 + 1 < w7.heap.size := rr7.lt
        have keep : ∀ w', Below w7.heap.size w7 w' → w'.cell? ⟨w.heap.size, 1, none⟩ = some (.slice p' m' c') ∧ w'.cell? ⟨w.heap.size + 1 + 1, 0, none⟩ = some (.int .i64 0) ∧ w'.cell? ⟨w.heap.size + 1 + 1, 1, none⟩ = some (.slice none 0 0) ∧ w'.cell? ⟨w.heap.size + 1 + 1, 2, none⟩ = some (.slice none 0 0) ∧ w'.frozen? ⟨w.heap.size + 1 + 1, 0, none⟩ = false ∧ w'.frozen? ⟨w.heap.size + 1 + 1, 1, none⟩ = false ∧ w'.frozen? ⟨w.heap.size + 1 + 1, 2, none⟩ = false := fun w' hb => by
          have r1 := row_later rb7 hb
          have r2 := row_later rr7 hb
          exact ⟨r1.cell (i := 1) (by omega), r2.cell (i := 0) (by omega), r2.cell (i := 1) (by omega), r2.cell (i := 2) (by omega), r2.frozen 0, r2.frozen 1, r2.frozen 2⟩
        obtain ⟨p1, e0, e1, e2, z0, z1, z2⟩ := keep _ (Below.refl _ _)
        obtain ⟨m1, Hm1⟩ : ∃ m1, Hid ((putU u us).length = m1) := ⟨_, rfl⟩
        have cI := fun W h => risingUnits_c mb m1 (putU u us) Hm1.out (by have := Hm1.out; omega) (putU_rise Hris.out) (putU_uf Huf.out Hu0.out) W h
        have D7 : Below w7.heap.size w7 w7.drew := (Below.refl _ _).drew
        clear hrun
        go_region_held3 (fun w' => w'.cell? ⟨w.heap.size, 1, none⟩ = some (.slice p' m' c')) (first | (rw [World.cell?_setCell_far _ _ _ _ (by show w.heap.size + 1 + 1 ≠ w.heap.size; omega), World.cell?_setCell_far _ _ _ _ (by show w.heap.size + 1 + 1 ≠ w.heap.size; omega), World.cell?_setCell_far _ _ _ _ (by show w.heap.size + 1 + 1 ≠ w.heap.size; omega)]; exact p1) | go_keep) (first
          | (go_at_call 130; refine (cI _ (M7.later D7)).mono ?_; rintro e w8 ⟨v8, rfl, S8, k8⟩; have K8 := D7.trans (k8.mono D7.size); obtain ⟨p1, e0, e1, e2, z0, z1, z2⟩ := keep _ K8; obtain ⟨a8, c8, hv8, _⟩ := S8.form; rw [Hm1.out] at hv8; subst hv8)
          | (go_at_call 131; refine (cC _ (HA'.out.later (B7.trans (K8.mono B7.size)))).mono ?_; rintro e w9 ⟨v9, rfl, S9, k9⟩; have K9 := K8.trans (k9.mono K8.size); obtain ⟨p1, e0, e1, e2, z0, z1, z2⟩ := keep _ K9; obtain ⟨a9, c9, hv9, _⟩ := S9.form; rw [Hm'.out] at hv9; subst hv9))
      all_goals
        have rr9 := row_later rr7 K9
        have t := ((rr9.set 0 (.int .i64 0)).set 1 (.slice a8 m1 c8)).set 2 (.slice a9 m' c9)
        have c0 := t.cell (i := 0) (by omega)
        have c1 := t.cell (i := 1) (by omega)
        have c2 := t.cell (i := 2) (by omega)
        have hs8 : w.heap.size + 1 + 1 < w8.heap.size := by have := K8.size; omega
        have BZ := bel_set (bel_set (bel_set (B7.trans (K9.mono B7.size)) (w.heap.size + 1 + 1) 0 (by omega) (.int .i64 0)) (w.heap.size + 1 + 1) 1 (by omega) (.slice a8 m1 c8)) (w.heap.size + 1 + 1) 2 (by omega) (.slice a9 m' c9)
        have T8 := ((((S8.below k9).set (b := w.heap.size + 1 + 1) (o := 0) (by have := D7.size; omega) (.int .i64 0)).set (b := w.heap.size + 1 + 1) (o := 1) (by have := D7.size; omega) (.slice a8 m1 c8)).set (b := w.heap.size + 1 + 1) (o := 2) (by have := D7.size; omega) (.slice a9 m' c9)).mono (Nat.le_trans B7.size D7.size)
        have T9 := (((S9.set (b := w.heap.size + 1 + 1) (o := 0) hs8 (.int .i64 0)).set (b := w.heap.size + 1 + 1) (o := 1) hs8 (.slice a8 m1 c8)).set (b := w.heap.size + 1 + 1) (o := 2) hs8 (.slice a9 m' c9)).mono (Nat.le_trans B7.size K8.size)
        go_wp2_with fail
        refine bodyPost_ret (v := .agg #[.int .i64 0, .slice a8 m1 c8, .slice a9 m' c9]) ?_ rfl ⟨_, _, rfl, T8, T9, BZ⟩
        simp [results, Tryz.results86, go_sem, c0, c1, c2]
        done
theorem implPutUnit (g off c g' off' c' : Nat) (us : List K10) (fs : List K3) (u : K10) (w : World) (hg : g < w.heap.size) (hg' : g' < w.heap.size) (hat : UAt w g off us) (hat' : FAt w g' off' fs) :
    Calls Tryz.prog 86 #[.agg (brdV (some ⟨g, off, none⟩) us.length c (some ⟨g', off', none⟩) fs.length c'), .agg u.v] w fun e w' => ∃ v f, e = .returned (.agg #[.int .i64 (puC us fs u), v, f]) ∧ SlU w' w.heap.size v (puU us fs u) ∧ SlF w' w.heap.size f (puF us fs u) ∧ Below w.heap.size w w' :=
  implPutUnit_i (some ⟨g, off, none⟩) c (some ⟨g', off', none⟩) c' us fs u w (.mk hg hat) (.mk hg' hat')
end Go.Proofs.YtaeeahgibifkjaaGreat
end
