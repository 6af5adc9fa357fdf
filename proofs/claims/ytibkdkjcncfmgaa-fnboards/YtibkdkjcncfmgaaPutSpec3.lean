/- The contract of the model of PutUnit. Condition: the board's lists lie in memory as they were laid there. -/
import Derived.Test.YtibkdkjcncfmgaaPutSpec2
import Derived.Test.YtibkdkjcncfmgaaExactB2
namespace Go.Proofs.Ytibkdkjcncfmgaa
open Go.ChangeShapes Go.WideShapes Go.ChangeAt Go.RowKit
open Bd
set_option linter.unusedVariables false

def puC (us : List K10) (fs : List K3) (u : K10) : Int := if (bf us fs == 0) = true then (if (uf u == 0) = true then (if 8 < (putU u us).length then 7 else 0) else uf u) else bf us fs
def puB (us : List K10) (fs : List K3) (u : K10) : Bool := bf us fs == 0 && (uf u == 0 && decide ((putU u us).length ≤ 8))
def puU (us : List K10) (fs : List K3) (u : K10) : List K10 := if puB us fs u = true then putU u us else []
def puF (us : List K10) (fs : List K3) (u : K10) : List K3 := if puB us fs u = true then fs else []
theorem pu_cases (us : List K10) (fs : List K3) (u : K10) :
    ((bf us fs == 0) = false ∧ puC us fs u = bf us fs ∧ puU us fs u = [] ∧ puF us fs u = []) ∨
    (bf us fs = 0 ∧ (uf u == 0) = false ∧ puC us fs u = uf u ∧ puU us fs u = [] ∧ puF us fs u = []) ∨
    (bf us fs = 0 ∧ uf u = 0 ∧ 8 < (putU u us).length ∧ puC us fs u = 7 ∧ puU us fs u = [] ∧ puF us fs u = []) ∨
    (bf us fs = 0 ∧ uf u = 0 ∧ (putU u us).length ≤ 8 ∧ puC us fs u = 0 ∧ puU us fs u = putU u us ∧ puF us fs u = fs) := by
  unfold puU puF puC puB
  cases h1 : bf us fs == 0
  · exact .inl ⟨rfl, rfl, rfl, rfl⟩
  · have e1 : bf us fs = 0 := by simpa using h1
    cases h2 : uf u == 0
    · exact .inr (.inl ⟨e1, rfl, rfl, rfl, rfl⟩)
    · have e2 : uf u = 0 := by simpa using h2
      by_cases h3 : 8 < (putU u us).length
      · exact .inr (.inr (.inl ⟨e1, e2, h3, by rw [if_pos rfl, if_pos rfl, if_pos h3], by rw [decide_eq_false (by omega)]; rfl, by rw [decide_eq_false (by omega)]; rfl⟩))
      · exact .inr (.inr (.inr ⟨e1, e2, by omega, by rw [if_pos rfl, if_pos rfl, if_neg h3], by rw [decide_eq_true (by omega)]; rfl, by rw [decide_eq_true (by omega)]; rfl⟩))
theorem SlU.nil (w : World) (base : Nat) : SlU w base (.slice none 0 0) [] := ⟨rfl, .inl ⟨rfl, rfl⟩⟩
theorem SlF.nil (w : World) (base : Nat) : SlF w base (.slice none 0 0) [] := ⟨rfl, .inl ⟨rfl, rfl⟩⟩
abbrev res3 (C : Int) (s f : Value) : Array Value := #[.int .i64 C, s, f]
theorem three_put (w : World) (s f : Value) (u : K10) (t t2 t3 : TypeId) : let W := ((w.alloc (.cells #[s, f] t)).alloc (.cells u.v t2)).alloc (.cells (res3 0 (.slice none 0 0) (.slice none 0 0)) t3)
    W.rowIs w.heap.size t 2 (fun i => if i = 0 then s else f) ∧ U1 W (w.heap.size + 1) 0 u ∧ W.rowIs (w.heap.size + 1 + 1) t3 3 (fun i => (res3 0 (.slice none 0 0) (.slice none 0 0))[i]!) ∧ Below w.heap.size w W ∧ W.heap.size = w.heap.size + 1 + 1 + 1 := by
  intro W
  have s1 : (w.alloc (.cells #[s, f] t)).heap.size = w.heap.size + 1 := size_new _ _
  have s2 : ((w.alloc (.cells #[s, f] t)).alloc (.cells u.v t2)).heap.size = w.heap.size + 1 + 1 := by rw [size_new, s1]
  have s3 : W.heap.size = w.heap.size + 1 + 1 + 1 := by show (World.alloc _ _).heap.size = _; rw [size_new, s2]
  have b1 : Below (w.alloc (.cells #[s, f] t)).heap.size (w.alloc (.cells #[s, f] t)) W := ((Below.refl _ _).alloc (Nat.le_refl _) _).alloc (by rw [s2, s1]; omega) _
  have b2 : Below ((w.alloc (.cells #[s, f] t)).alloc (.cells u.v t2)).heap.size ((w.alloc (.cells #[s, f] t)).alloc (.cells u.v t2)) W := (Below.refl _ _).alloc (Nat.le_refl _) _
  have r0 := rowTwo w s f t
  have r1 := U1.new (w.alloc (.cells #[s, f] t)) u t2
  have r2 := rowAll ((w.alloc (.cells #[s, f] t)).alloc (.cells u.v t2)) (res3 0 (.slice none 0 0) (.slice none 0 0)) t3
  rw [s1] at r1
  rw [s2] at r2
  exact ⟨r0.of_block (b1.block _ r0.lt), r1.later b2, r2, (((Below.refl _ _).alloc (Nat.le_refl _) _).alloc (by rw [s1]; omega) _).alloc (by rw [s2]; omega) _, s3⟩
set_option maxRecDepth 20000 in
set_option maxHeartbeats 8000000 in
theorem specPutUnit_i (p : Option Addr) (c : Nat) (p' : Option Addr) (c' : Nat) (us : List K10) (fs : List K3) (u : K10) (w : World) (hat : InU w p us.length c us) (hat' : InF w p' fs.length c' fs) :
    Calls Try.prog 25 #[.agg (brdV p us.length c p' fs.length c'), .agg u.v] w fun e w' => ∃ v f, e = .returned (.agg #[.int .i64 (puC us fs u), v, f]) ∧ SlU w' w.heap.size v (puU us fs u) ∧ SlF w' w.heap.size f (puF us fs u) ∧ Below w.heap.size w w' := by
  obtain ⟨rb, ru, rr, B0, S0⟩ := three_put w (.slice p us.length c) (.slice p' fs.length c') u 27 29 33
  have cF := l4Fault_c w.heap.size p us.length c p' fs.length c' us fs rfl rfl _ (row_brd rb) (hat.later B0).arg (hat'.later B0).arg
  have cU := fun W h => l4Unit_c (w.heap.size + 1) 0 u W h
  have cC := fun W h1 h2 (h5 : us.length ≤ 8) (h6 : fs.length ≤ 4) => l4Copy_i p c us.length p' c' fs.length us fs rfl h5 rfl h6 W h1 h2
  have cP := fun W (h5 : us.length ≤ 8) (hr : Rise us) h1 => l4Put_i p c us.length us u rfl h5 hr W h1
  obtain ⟨m, Hm⟩ : ∃ m, Hid (us.length = m) := ⟨_, rfl⟩
  obtain ⟨m', Hm'⟩ : ∃ m', Hid (fs.length = m') := ⟨_, rfl⟩
  have HA : Hid (InU w p m c us) := by show InU _ _ _ _ _; rw [← Hm.out]; exact hat
  have HA' : Hid (InF w p' m' c' fs) := by show InF _ _ _ _ _; rw [← Hm'.out]; exact hat'
  clear hat hat'
  have hm := Hm.out
  have hm' := Hm'.out
  clear S0
  rcases pu_cases us fs u with ⟨h1, e, eu, ef⟩ | ⟨h1, h2, e, eu, ef⟩ | ⟨h1, h2, h3, e, eu, ef⟩ | ⟨h1, h2, h3, e, eu, ef⟩
  · rw [e, eu, ef]
    have h1' := bne_of h1
    generalize bf us fs = R at h1 h1' cF ⊢
    rw [hm] at cF rb ru rr B0 ⊢
    rw [hm'] at cF rb ru rr B0 ⊢
    clear cC cP hm hm'
    go_enter Try.func25, Try.ntmps25
    go_wp2_with fail
    refine cF.mono ?_
    rintro e w1 ⟨rfl, k1⟩
    have B1 := B0.trans (k1.mono B0.size)
    replace rb := row_later rb k1
    replace rr := row_later rr k1
    replace ru := ru.later k1
    have e0 : w1.cell? ⟨w.heap.size + 1 + 1, 0, none⟩ = some (.int .i64 0) := rr.cell (i := 0) (by omega)
    have e1 : w1.cell? ⟨w.heap.size + 1 + 1, 1, none⟩ = some (.slice none 0 0) := rr.cell (i := 1) (by omega)
    have e2 : w1.cell? ⟨w.heap.size + 1 + 1, 2, none⟩ = some (.slice none 0 0) := rr.cell (i := 2) (by omega)
    have z0 := rr.frozen 0
    have z1 := rr.frozen 1
    have z2 := rr.frozen 2
    have rl := rr.lt
    have t := ((rr.set 0 (.int .i64 R)).set 1 (.slice none 0 0)).set 2 (.slice none 0 0)
    have c0 := t.cell (i := 0) (by omega)
    have c1 := t.cell (i := 1) (by omega)
    have c2 := t.cell (i := 2) (by omega)
    have BZ := bel_set (bel_set (bel_set B1 (w.heap.size + 1 + 1) 0 (by omega) (.int .i64 R)) (w.heap.size + 1 + 1) 1 (by omega) (.slice none 0 0)) (w.heap.size + 1 + 1) 2 (by omega) (.slice none 0 0)
    go_wp2_with fail
    refine bodyPost_ret (v := .agg #[.int .i64 R, .slice none 0 0, .slice none 0 0]) ?_ rfl ⟨_, _, rfl, SlU.nil _ _, SlF.nil _ _, BZ⟩
    simp [results, Try.results25, go_sem, c0, c1, c2]
    done
  · rw [e, eu, ef]
    have h2' := bne_of h2
    rw [h1] at cF
    generalize uf u = R at h2 h2' cU ⊢
    rw [hm] at cF rb ru rr B0 ⊢
    rw [hm'] at cF rb ru rr B0 ⊢
    clear cC cP hm hm'
    go_enter Try.func25, Try.ntmps25
    go_wp2_with fail
    refine cF.mono ?_
    rintro e w1 ⟨rfl, k1⟩
    have B1 := B0.trans (k1.mono B0.size)
    replace rb := row_later rb k1
    replace rr := row_later rr k1
    replace ru := ru.later k1
    go_wp2_with fail
    refine (cU _ ru).mono ?_
    rintro e w2 ⟨rfl, k2⟩
    have B2 := B1.trans (k2.mono B1.size)
    replace rr := row_later rr k2
    have e0 : w2.cell? ⟨w.heap.size + 1 + 1, 0, none⟩ = some (.int .i64 0) := rr.cell (i := 0) (by omega)
    have e1 : w2.cell? ⟨w.heap.size + 1 + 1, 1, none⟩ = some (.slice none 0 0) := rr.cell (i := 1) (by omega)
    have e2 : w2.cell? ⟨w.heap.size + 1 + 1, 2, none⟩ = some (.slice none 0 0) := rr.cell (i := 2) (by omega)
    have z0 := rr.frozen 0
    have z1 := rr.frozen 1
    have z2 := rr.frozen 2
    have rl := rr.lt
    have t := ((rr.set 0 (.int .i64 R)).set 1 (.slice none 0 0)).set 2 (.slice none 0 0)
    have c0 := t.cell (i := 0) (by omega)
    have c1 := t.cell (i := 1) (by omega)
    have c2 := t.cell (i := 2) (by omega)
    have BZ := bel_set (bel_set (bel_set B2 (w.heap.size + 1 + 1) 0 (by omega) (.int .i64 R)) (w.heap.size + 1 + 1) 1 (by omega) (.slice none 0 0)) (w.heap.size + 1 + 1) 2 (by omega) (.slice none 0 0)
    go_wp2_with fail
    refine bodyPost_ret (v := .agg #[.int .i64 R, .slice none 0 0, .slice none 0 0]) ?_ rfl ⟨_, _, rfl, SlU.nil _ _, SlF.nil _ _, BZ⟩
    simp [results, Try.results25, go_sem, c0, c1, c2]
    done
  · rw [e, eu, ef]
    rw [h1] at cF
    rw [h2] at cU
    obtain ⟨n8, n4, huf, hff, hris⟩ := bf_ok h1
    obtain ⟨L, HL⟩ : ∃ L, Hid ((putU u us).length = L) := ⟨_, rfl⟩
    rw [HL.out] at h3
    replace cC := fun W h1 h2 => cC W h1 h2 n8 n4
    replace cP := fun W h1 => cP W n8 hris h1
    rw [hm] at cF rb ru rr B0 cC cP n8 ⊢
    rw [hm'] at cF rb ru rr B0 cC n4 ⊢
    clear hm hm' huf hff hris
    go_enter Try.func25, Try.ntmps25
    go_wp2_with fail
    refine cF.mono ?_
    rintro e w1 ⟨rfl, k1⟩
    have B1 := B0.trans (k1.mono B0.size)
    replace rb := row_later rb k1
    replace rr := row_later rr k1
    replace ru := ru.later k1
    go_wp2_with fail
    refine (cU _ ru).mono ?_
    rintro e w2 ⟨rfl, k2⟩
    have B2 := B1.trans (k2.mono B1.size)
    replace rb := row_later rb k2
    replace rr := row_later rr k2
    replace ru := ru.later k2
    have hB2r := rr.lt
    obtain ⟨p0, p1, pl⟩ := row_brd rb
    go_wp2_with fail
    refine (cC _ (HA.out.later B2) (HA'.out.later B2)).mono ?_
    rintro e w3 ⟨_, fv, rfl, ⟨av, cv, rfl⟩, S3, k3⟩
    obtain ⟨af, cf, hfv, _⟩ := S3.form
    rw [Hm'.out] at hfv
    subst hfv
    have B3 := B2.trans (k3.mono B2.size)
    replace rb := row_later rb k3
    replace rr := row_later rr k3
    replace ru := ru.later k3
    obtain ⟨w4, H4⟩ : ∃ w4, Hid (w4 = w3.alloc (.cells #[.slice av m cv, .slice af m' cf] 27)) := ⟨_, rfl⟩
    obtain ⟨X, HX⟩ : ∃ X, Hid (X = w3.heap.size) := ⟨_, rfl⟩
    have k4 : Below w3.heap.size w3 w4 := by rw [H4.out]; exact (Below.refl _ _).alloc (Nat.le_refl _) _
    have rx : w4.rowIs X 27 2 (fun i => if i = 0 then .slice av m cv else .slice af m' cf) := by rw [H4.out, HX.out]; exact rowTwo w3 (.slice av m cv) (.slice af m' cf) 27
    have B4 := B3.trans (k4.mono B3.size)
    have hXr : w.heap.size + 1 + 1 < X := by rw [HX.out]; exact rr.lt
    have hX4 : X < w4.heap.size := rx.lt
    have S3lt : ∀ q, (Value.slice af m' cf).ownBlock = some q → q < X := fun q hq => by rw [HX.out]; exact (S3.lt q hq).2
    replace rb := row_later rb k4
    replace rr := row_later rr k4
    replace ru := ru.later k4
    have S4 := S3.below k4
    clear p0 p1 pl
    go_upto_region 8 with fail
    rw [← H4.out, ← HX.out]
    obtain ⟨p0, p1, pl⟩ := row_brd rb
    obtain ⟨u0, u1, u2, u3, u4, u5, u6, u7, u8, u9, ul⟩ := ru
    go_wp2_with fail
    refine (cP _ (HA.out.later B4)).mono ?_
    rintro e w5 ⟨v5, rfl, S5, k5⟩
    obtain ⟨a5, c5, hv5, _⟩ := S5.form
    rw [HL.out] at hv5
    subst hv5
    have B5 := B4.trans (k5.mono B4.size)
    replace rr := row_later rr k5
    replace rx := row_later rx k5
    have S6 := S4.below k5
    have x0 : w5.cell? ⟨X, 0, none⟩ = some (.slice av m cv) := rx.cell (i := 0) (by omega)
    have x1 : w5.cell? ⟨X, 1, none⟩ = some (.slice af m' cf) := rx.cell (i := 1) (by omega)
    have y0 := rx.frozen 0
    have xl := rx.lt
    clear p0 p1 pl u0 u1 u2 u3 u4 u5 u6 u7 u8 u9 ul cC cP cU cF
    obtain ⟨w6, H6⟩ : ∃ w6, Hid (w6 = w5.setCell ⟨X, 0, none⟩ (.slice a5 L c5)) := ⟨_, rfl⟩
    have B6 : Below w.heap.size w w6 := by rw [H6.out]; exact bel_set B5 X 0 (by omega) _
    have rr6 := row_other rr (a := ⟨X, 0, none⟩) (by show _ ≠ X; omega) (.slice a5 L c5)
    rw [← H6.out] at rr6
    have rx6 := rx.set 0 (.slice a5 L c5)
    rw [← H6.out] at rx6
    have SU6 : SlU w6 w4.heap.size (.slice a5 L c5) (putU u us) := by rw [H6.out]; exact S5.set hX4 _
    have SF6 : SlF w6 w2.heap.size (.slice af m' cf) fs := by rw [H6.out]; exact S6.of_block (fun q hq => Below.heap_setCell _ ⟨X, 0, none⟩ _ q (by have := S3lt q hq; show q ≠ X; omega))
    go_upto_region 9 with fail
    rw [← H6.out]
    clear x0 x1 y0 xl
    have x0 : w6.cell? ⟨X, 0, none⟩ = some (.slice a5 L c5) := rx6.cell (i := 0) (by omega)
    have x1 : w6.cell? ⟨X, 1, none⟩ = some (.slice af m' cf) := rx6.cell (i := 1) (by omega)
    clear rr
    have rr := rr6
    have d8 : (8 : Int) < (L : Int) := by omega
    have e0 : w6.cell? ⟨w.heap.size + 1 + 1, 0, none⟩ = some (.int .i64 0) := rr.cell (i := 0) (by omega)
    have e1 : w6.cell? ⟨w.heap.size + 1 + 1, 1, none⟩ = some (.slice none 0 0) := rr.cell (i := 1) (by omega)
    have e2 : w6.cell? ⟨w.heap.size + 1 + 1, 2, none⟩ = some (.slice none 0 0) := rr.cell (i := 2) (by omega)
    have z0 := rr.frozen 0
    have z1 := rr.frozen 1
    have z2 := rr.frozen 2
    have rl := rr.lt
    have t := ((rr.set 0 (.int .i64 7)).set 1 (.slice none 0 0)).set 2 (.slice none 0 0)
    have c0 := t.cell (i := 0) (by omega)
    have c1 := t.cell (i := 1) (by omega)
    have c2 := t.cell (i := 2) (by omega)
    have BZ := bel_set (bel_set (bel_set B6 (w.heap.size + 1 + 1) 0 (by omega) (.int .i64 7)) (w.heap.size + 1 + 1) 1 (by omega) (.slice none 0 0)) (w.heap.size + 1 + 1) 2 (by omega) (.slice none 0 0)
    go_wp2_with fail
    refine bodyPost_ret (v := .agg #[.int .i64 7, .slice none 0 0, .slice none 0 0]) ?_ rfl ⟨_, _, rfl, SlU.nil _ _, SlF.nil _ _, BZ⟩
    simp [results, Try.results25, go_sem, c0, c1, c2]
    done
  · rw [e, eu, ef]
    rw [h1] at cF
    rw [h2] at cU
    obtain ⟨n8, n4, huf, hff, hris⟩ := bf_ok h1
    obtain ⟨L, HL⟩ : ∃ L, Hid ((putU u us).length = L) := ⟨_, rfl⟩
    rw [HL.out] at h3
    replace cC := fun W h1 h2 => cC W h1 h2 n8 n4
    replace cP := fun W h1 => cP W n8 hris h1
    rw [hm] at cF rb ru rr B0 cC cP n8 ⊢
    rw [hm'] at cF rb ru rr B0 cC n4 ⊢
    clear hm hm' huf hff hris
    go_enter Try.func25, Try.ntmps25
    go_wp2_with fail
    refine cF.mono ?_
    rintro e w1 ⟨rfl, k1⟩
    have B1 := B0.trans (k1.mono B0.size)
    replace rb := row_later rb k1
    replace rr := row_later rr k1
    replace ru := ru.later k1
    go_wp2_with fail
    refine (cU _ ru).mono ?_
    rintro e w2 ⟨rfl, k2⟩
    have B2 := B1.trans (k2.mono B1.size)
    replace rb := row_later rb k2
    replace rr := row_later rr k2
    replace ru := ru.later k2
    have hB2r := rr.lt
    obtain ⟨p0, p1, pl⟩ := row_brd rb
    go_wp2_with fail
    refine (cC _ (HA.out.later B2) (HA'.out.later B2)).mono ?_
    rintro e w3 ⟨_, fv, rfl, ⟨av, cv, rfl⟩, S3, k3⟩
    obtain ⟨af, cf, hfv, _⟩ := S3.form
    rw [Hm'.out] at hfv
    subst hfv
    have B3 := B2.trans (k3.mono B2.size)
    replace rb := row_later rb k3
    replace rr := row_later rr k3
    replace ru := ru.later k3
    obtain ⟨w4, H4⟩ : ∃ w4, Hid (w4 = w3.alloc (.cells #[.slice av m cv, .slice af m' cf] 27)) := ⟨_, rfl⟩
    obtain ⟨X, HX⟩ : ∃ X, Hid (X = w3.heap.size) := ⟨_, rfl⟩
    have k4 : Below w3.heap.size w3 w4 := by rw [H4.out]; exact (Below.refl _ _).alloc (Nat.le_refl _) _
    have rx : w4.rowIs X 27 2 (fun i => if i = 0 then .slice av m cv else .slice af m' cf) := by rw [H4.out, HX.out]; exact rowTwo w3 (.slice av m cv) (.slice af m' cf) 27
    have B4 := B3.trans (k4.mono B3.size)
    have hXr : w.heap.size + 1 + 1 < X := by rw [HX.out]; exact rr.lt
    have hX4 : X < w4.heap.size := rx.lt
    have S3lt : ∀ q, (Value.slice af m' cf).ownBlock = some q → q < X := fun q hq => by rw [HX.out]; exact (S3.lt q hq).2
    replace rb := row_later rb k4
    replace rr := row_later rr k4
    replace ru := ru.later k4
    have S4 := S3.below k4
    clear p0 p1 pl
    go_upto_region 8 with fail
    rw [← H4.out, ← HX.out]
    obtain ⟨p0, p1, pl⟩ := row_brd rb
    obtain ⟨u0, u1, u2, u3, u4, u5, u6, u7, u8, u9, ul⟩ := ru
    go_wp2_with fail
    refine (cP _ (HA.out.later B4)).mono ?_
    rintro e w5 ⟨v5, rfl, S5, k5⟩
    obtain ⟨a5, c5, hv5, _⟩ := S5.form
    rw [HL.out] at hv5
    subst hv5
    have B5 := B4.trans (k5.mono B4.size)
    replace rr := row_later rr k5
    replace rx := row_later rx k5
    have S6 := S4.below k5
    have x0 : w5.cell? ⟨X, 0, none⟩ = some (.slice av m cv) := rx.cell (i := 0) (by omega)
    have x1 : w5.cell? ⟨X, 1, none⟩ = some (.slice af m' cf) := rx.cell (i := 1) (by omega)
    have y0 := rx.frozen 0
    have xl := rx.lt
    clear p0 p1 pl u0 u1 u2 u3 u4 u5 u6 u7 u8 u9 ul cC cP cU cF
    obtain ⟨w6, H6⟩ : ∃ w6, Hid (w6 = w5.setCell ⟨X, 0, none⟩ (.slice a5 L c5)) := ⟨_, rfl⟩
    have B6 : Below w.heap.size w w6 := by rw [H6.out]; exact bel_set B5 X 0 (by omega) _
    have rr6 := row_other rr (a := ⟨X, 0, none⟩) (by show _ ≠ X; omega) (.slice a5 L c5)
    rw [← H6.out] at rr6
    have rx6 := rx.set 0 (.slice a5 L c5)
    rw [← H6.out] at rx6
    have SU6 : SlU w6 w4.heap.size (.slice a5 L c5) (putU u us) := by rw [H6.out]; exact S5.set hX4 _
    have SF6 : SlF w6 w2.heap.size (.slice af m' cf) fs := by rw [H6.out]; exact S6.of_block (fun q hq => Below.heap_setCell _ ⟨X, 0, none⟩ _ q (by have := S3lt q hq; show q ≠ X; omega))
    go_upto_region 9 with fail
    rw [← H6.out]
    clear x0 x1 y0 xl
    have x0 : w6.cell? ⟨X, 0, none⟩ = some (.slice a5 L c5) := rx6.cell (i := 0) (by omega)
    have x1 : w6.cell? ⟨X, 1, none⟩ = some (.slice af m' cf) := rx6.cell (i := 1) (by omega)
    clear rr
    have rr := rr6
    have d8 : decide ((8 : Int) < (L : Int)) = false := decide_eq_false (by omega)
    have hr4 : w.heap.size + 1 + 1 < w4.heap.size := by omega
    have hr2 : w.heap.size + 1 + 1 < w2.heap.size := hB2r
    have SUz := (((SU6.set (b := w.heap.size + 1 + 1) (o := 0) hr4 (.int .i64 0)).set (b := w.heap.size + 1 + 1) (o := 1) hr4 (.slice a5 L c5)).set (b := w.heap.size + 1 + 1) (o := 2) hr4 (.slice af m' cf)).mono B4.size
    have SFz := (((SF6.set (b := w.heap.size + 1 + 1) (o := 0) hr2 (.int .i64 0)).set (b := w.heap.size + 1 + 1) (o := 1) hr2 (.slice a5 L c5)).set (b := w.heap.size + 1 + 1) (o := 2) hr2 (.slice af m' cf)).mono B2.size
    have e0 : w6.cell? ⟨w.heap.size + 1 + 1, 0, none⟩ = some (.int .i64 0) := rr.cell (i := 0) (by omega)
    have e1 : w6.cell? ⟨w.heap.size + 1 + 1, 1, none⟩ = some (.slice none 0 0) := rr.cell (i := 1) (by omega)
    have e2 : w6.cell? ⟨w.heap.size + 1 + 1, 2, none⟩ = some (.slice none 0 0) := rr.cell (i := 2) (by omega)
    have z0 := rr.frozen 0
    have z1 := rr.frozen 1
    have z2 := rr.frozen 2
    have rl := rr.lt
    have t := ((rr.set 0 (.int .i64 0)).set 1 (.slice a5 L c5)).set 2 (.slice af m' cf)
    have c0 := t.cell (i := 0) (by omega)
    have c1 := t.cell (i := 1) (by omega)
    have c2 := t.cell (i := 2) (by omega)
    have BZ := bel_set (bel_set (bel_set B6 (w.heap.size + 1 + 1) 0 (by omega) (.int .i64 0)) (w.heap.size + 1 + 1) 1 (by omega) (.slice a5 L c5)) (w.heap.size + 1 + 1) 2 (by omega) (.slice af m' cf)
    go_wp2_with fail
    refine bodyPost_ret (v := .agg #[.int .i64 0, .slice a5 L c5, .slice af m' cf]) ?_ rfl ⟨_, _, rfl, SUz, SFz, BZ⟩
    simp [results, Try.results25, go_sem, c0, c1, c2]
    done
theorem specPutUnit (g off c g' off' c' : Nat) (us : List K10) (fs : List K3) (u : K10) (w : World) (hg : g < w.heap.size) (hg' : g' < w.heap.size) (hat : UAt w g off us) (hat' : FAt w g' off' fs) :
    Calls Try.prog 25 #[.agg (brdV (some ⟨g, off, none⟩) us.length c (some ⟨g', off', none⟩) fs.length c'), .agg u.v] w fun e w' => ∃ v f, e = .returned (.agg #[.int .i64 (puC us fs u), v, f]) ∧ SlU w' w.heap.size v (puU us fs u) ∧ SlF w' w.heap.size f (puF us fs u) ∧ Below w.heap.size w w' :=
  specPutUnit_i (some ⟨g, off, none⟩) c (some ⟨g', off', none⟩) c' us fs u w (.mk hg hat) (.mk hg' hat')
end Go.Proofs.Ytibkdkjcncfmgaa
