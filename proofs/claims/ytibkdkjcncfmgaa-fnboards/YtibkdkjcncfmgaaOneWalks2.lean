/- Contracts of UnitOf and of its model. Condition: the board's two lists lie in memory as they were laid there; the Id is a number of its kind. -/
import Derived.Test.YtibkdkjcncfmgaaOneWalks
namespace Go.Proofs.Ytibkdkjcncfmgaa
open Go.ChangeShapes Go.WideShapes Go.ChangeAt Go.RowKit
open Bd
set_option linter.unusedVariables false

def uoC (us : List K10) (fs : List K3) (i : Int) : Int := if (bf us fs == 0) = true then (if (findU us i).isSome = true then 0 else 4) else bf us fs
def uoU (us : List K10) (fs : List K3) (i : Int) : K10 := if (bf us fs == 0) = true then (findU us i).getD K10.z else K10.z
theorem uo_cases (us : List K10) (fs : List K3) (i : Int) : ((bf us fs == 0) = false ∧ uoC us fs i = bf us fs ∧ uoU us fs i = K10.z) ∨ (bf us fs = 0 ∧ atI us i = -1 ∧ findU us i = none ∧ uoC us fs i = 4 ∧ uoU us fs i = K10.z) ∨ (∃ (k : Nat) (x : K10), bf us fs = 0 ∧ atI us i = (k : Int) ∧ us[k]? = some x ∧ findU us i = some x ∧ uoC us fs i = 0 ∧ uoU us fs i = x) := by
  unfold uoC uoU
  cases h : bf us fs == 0
  · exact .inl ⟨rfl, rfl, rfl⟩
  · have h0 : bf us fs = 0 := by simpa using h
    rcases atU_find us i with ⟨h1, h2⟩ | ⟨k, x, h1, h2, h3⟩
    · exact .inr (.inl ⟨h0, by unfold atI; rw [h1], h2, by rw [h2]; rfl, by rw [h2]; rfl⟩)
    · exact .inr (.inr ⟨k, x, h0, by unfold atI; rw [h1], h2, h3, by rw [h3]; rfl, by rw [h3]; rfl⟩)
abbrev elevenV (C : Int) (x : K10) : Array Value := #[.int .i64 C, .int .i64 x.c0, .int .i64 x.c1, .int .i64 x.c2, .int .i64 x.c3, .int .i64 x.c4, .int .i64 x.c5, .int .i64 x.c6, .int .i64 x.c7, .int .i64 x.c8, .int .i64 x.c9]
theorem heap_push (w : World) (o : Obj) : (w.alloc o).heap[w.heap.size]? = some o := by
  show (w.heap.push _)[w.heap.size]? = _
  simp
theorem two_el (w : World) (s f : Value) (t t2 : TypeId) : let W := (w.alloc (.cells #[s, f] t)).alloc (.cells (elevenV 0 K10.z) t2)
    W.rowIs w.heap.size t 2 (fun i => if i = 0 then s else f) ∧ W.rowIs (w.heap.size + 1) t2 11 (fun _ => .int .i64 0) ∧ Below w.heap.size w W ∧ W.heap.size = w.heap.size + 1 + 1 := by
  intro W
  have s1 : (w.alloc (.cells #[s, f] t)).heap.size = w.heap.size + 1 := size_new _ _
  have s2 : W.heap.size = w.heap.size + 1 + 1 := by show (World.alloc _ _).heap.size = _; rw [size_new, s1]
  have b1 : Below (w.alloc (.cells #[s, f] t)).heap.size (w.alloc (.cells #[s, f] t)) W := (Below.refl _ _).alloc (Nat.le_refl _) _
  have r0 := rowTwo w s f t
  have r1 : W.rowIs (w.heap.size + 1) t2 11 (fun _ => .int .i64 0) := by
    refine ⟨elevenV 0 K10.z, ?_, rfl, fun i hi => ?_⟩
    · have h := heap_push (w.alloc (.cells #[s, f] t)) (.cells (elevenV 0 K10.z) t2)
      rw [s1] at h; exact h
    · have h : i = 0 ∨ i = 1 ∨ i = 2 ∨ i = 3 ∨ i = 4 ∨ i = 5 ∨ i = 6 ∨ i = 7 ∨ i = 8 ∨ i = 9 ∨ i = 10 := by omega
      rcases h with rfl | rfl | rfl | rfl | rfl | rfl | rfl | rfl | rfl | rfl | rfl <;> rfl
  exact ⟨r0.of_block (b1.block _ r0.lt), r1, ((Below.refl _ _).alloc (Nat.le_refl _) _).alloc (by rw [s1]; omega) _, s2⟩
set_option maxRecDepth 20000 in
set_option maxHeartbeats 8000000 in
theorem specUnitOf (a : Option Addr) (m c : Nat) (a' : Option Addr) (m' c' : Nat) (us : List K10) (fs : List K3) (i : Int) (hl : us.length = m) (hl' : fs.length = m') (w : World) (hU : ArgU w a us) (hF : ArgF w a' fs) :
    Calls Try.prog 22 #[.agg #[.slice a m c, .slice a' m' c'], .int .i64 i] w fun e w' => e = .returned (.agg (elevenV (uoC us fs i) (uoU us fs i))) ∧ Below w.heap.size w w' := by
  obtain ⟨rb, rr, B2, S2⟩ := two_el w (.slice a m c) (.slice a' m' c') 27 46
  have cF := l4Fault_c w.heap.size a m c a' m' c' us fs hl hl' _ (row_brd rb) (hU.later B2) (hF.later B2)
  rcases uo_cases us fs i with ⟨h1, e, eu⟩ | ⟨h1, h2, h3, e, eu⟩ | ⟨k, x, h1, h2, h3, h4, e, eu⟩
  · rw [e, eu]
    have h1' := bne_of h1
    generalize bf us fs = R at h1 h1' cF ⊢
    go_enter Try.func22, Try.ntmps22
    go_wp2_with fail
    refine cF.mono ?_
    rintro e w1 ⟨rfl, k1⟩
    have B3 := B2.trans (k1.mono B2.size)
    replace rb := row_later rb k1
    replace rr := row_later rr k1
    have e0 : w1.cell? ⟨w.heap.size + 1, 0, none⟩ = some (.int .i64 0) := rr.cell (i := 0) (by omega)
    have z0 := rr.frozen 0
    have e1 : w1.cell? ⟨w.heap.size + 1, 1, none⟩ = some (.int .i64 0) := rr.cell (i := 1) (by omega)
    have z1 := rr.frozen 1
    have e2 : w1.cell? ⟨w.heap.size + 1, 2, none⟩ = some (.int .i64 0) := rr.cell (i := 2) (by omega)
    have z2 := rr.frozen 2
    have e3 : w1.cell? ⟨w.heap.size + 1, 3, none⟩ = some (.int .i64 0) := rr.cell (i := 3) (by omega)
    have z3 := rr.frozen 3
    have e4 : w1.cell? ⟨w.heap.size + 1, 4, none⟩ = some (.int .i64 0) := rr.cell (i := 4) (by omega)
    have z4 := rr.frozen 4
    have e5 : w1.cell? ⟨w.heap.size + 1, 5, none⟩ = some (.int .i64 0) := rr.cell (i := 5) (by omega)
    have z5 := rr.frozen 5
    have e6 : w1.cell? ⟨w.heap.size + 1, 6, none⟩ = some (.int .i64 0) := rr.cell (i := 6) (by omega)
    have z6 := rr.frozen 6
    have e7 : w1.cell? ⟨w.heap.size + 1, 7, none⟩ = some (.int .i64 0) := rr.cell (i := 7) (by omega)
    have z7 := rr.frozen 7
    have e8 : w1.cell? ⟨w.heap.size + 1, 8, none⟩ = some (.int .i64 0) := rr.cell (i := 8) (by omega)
    have z8 := rr.frozen 8
    have e9 : w1.cell? ⟨w.heap.size + 1, 9, none⟩ = some (.int .i64 0) := rr.cell (i := 9) (by omega)
    have z9 := rr.frozen 9
    have e10 : w1.cell? ⟨w.heap.size + 1, 10, none⟩ = some (.int .i64 0) := rr.cell (i := 10) (by omega)
    have z10 := rr.frozen 10
    have rl := rr.lt
    have t := (((((((((((rr.set 0 (.int .i64 R)).set 1 (.int .i64 0)).set 2 (.int .i64 0)).set 3 (.int .i64 0)).set 4 (.int .i64 0)).set 5 (.int .i64 0)).set 6 (.int .i64 0)).set 7 (.int .i64 0)).set 8 (.int .i64 0)).set 9 (.int .i64 0)).set 10 (.int .i64 0))
    have c0 := t.cell (i := 0) (by omega)
    have c1 := t.cell (i := 1) (by omega)
    have c2 := t.cell (i := 2) (by omega)
    have c3 := t.cell (i := 3) (by omega)
    have c4 := t.cell (i := 4) (by omega)
    have c5 := t.cell (i := 5) (by omega)
    have c6 := t.cell (i := 6) (by omega)
    have c7 := t.cell (i := 7) (by omega)
    have c8 := t.cell (i := 8) (by omega)
    have c9 := t.cell (i := 9) (by omega)
    have c10 := t.cell (i := 10) (by omega)
    have BZ := (bel_set (bel_set (bel_set (bel_set (bel_set (bel_set (bel_set (bel_set (bel_set (bel_set (bel_set B3 (w.heap.size + 1) 0 (by omega) (.int .i64 R)) (w.heap.size + 1) 1 (by omega) (.int .i64 0)) (w.heap.size + 1) 2 (by omega) (.int .i64 0)) (w.heap.size + 1) 3 (by omega) (.int .i64 0)) (w.heap.size + 1) 4 (by omega) (.int .i64 0)) (w.heap.size + 1) 5 (by omega) (.int .i64 0)) (w.heap.size + 1) 6 (by omega) (.int .i64 0)) (w.heap.size + 1) 7 (by omega) (.int .i64 0)) (w.heap.size + 1) 8 (by omega) (.int .i64 0)) (w.heap.size + 1) 9 (by omega) (.int .i64 0)) (w.heap.size + 1) 10 (by omega) (.int .i64 0))
    go_wp2_with fail
    refine bodyPost_ret (v := .agg (elevenV R K10.z)) ?_ rfl ⟨rfl, BZ⟩
    simp [results, Try.results22, go_sem, K10.z, c0, c1, c2, c3, c4, c5, c6, c7, c8, c9, c10]
    done
  · rw [e, eu]
    rw [h1] at cF
    obtain ⟨n8, _, _, _, _⟩ := bf_ok h1
    have cA := fun w hU => l4At_c a m c us i hl (by omega) w hU
    rw [h2] at cA
    go_enter Try.func22, Try.ntmps22
    go_wp2_with fail
    refine cF.mono ?_
    rintro e w1 ⟨rfl, k1⟩
    have B3 := B2.trans (k1.mono B2.size)
    replace rb := row_later rb k1
    replace rr := row_later rr k1
    obtain ⟨p1, p2, pl⟩ := row_brd rb
    have hU1 := hU.later B3
    go_wp2_with fail
    refine (cA _ hU1).mono ?_
    rintro e w1 ⟨rfl, rfl⟩
    have e0 : w1.cell? ⟨w.heap.size + 1, 0, none⟩ = some (.int .i64 0) := rr.cell (i := 0) (by omega)
    have z0 := rr.frozen 0
    have e1 : w1.cell? ⟨w.heap.size + 1, 1, none⟩ = some (.int .i64 0) := rr.cell (i := 1) (by omega)
    have z1 := rr.frozen 1
    have e2 : w1.cell? ⟨w.heap.size + 1, 2, none⟩ = some (.int .i64 0) := rr.cell (i := 2) (by omega)
    have z2 := rr.frozen 2
    have e3 : w1.cell? ⟨w.heap.size + 1, 3, none⟩ = some (.int .i64 0) := rr.cell (i := 3) (by omega)
    have z3 := rr.frozen 3
    have e4 : w1.cell? ⟨w.heap.size + 1, 4, none⟩ = some (.int .i64 0) := rr.cell (i := 4) (by omega)
    have z4 := rr.frozen 4
    have e5 : w1.cell? ⟨w.heap.size + 1, 5, none⟩ = some (.int .i64 0) := rr.cell (i := 5) (by omega)
    have z5 := rr.frozen 5
    have e6 : w1.cell? ⟨w.heap.size + 1, 6, none⟩ = some (.int .i64 0) := rr.cell (i := 6) (by omega)
    have z6 := rr.frozen 6
    have e7 : w1.cell? ⟨w.heap.size + 1, 7, none⟩ = some (.int .i64 0) := rr.cell (i := 7) (by omega)
    have z7 := rr.frozen 7
    have e8 : w1.cell? ⟨w.heap.size + 1, 8, none⟩ = some (.int .i64 0) := rr.cell (i := 8) (by omega)
    have z8 := rr.frozen 8
    have e9 : w1.cell? ⟨w.heap.size + 1, 9, none⟩ = some (.int .i64 0) := rr.cell (i := 9) (by omega)
    have z9 := rr.frozen 9
    have e10 : w1.cell? ⟨w.heap.size + 1, 10, none⟩ = some (.int .i64 0) := rr.cell (i := 10) (by omega)
    have z10 := rr.frozen 10
    have rl := rr.lt
    have t := (((((((((((rr.set 0 (.int .i64 4)).set 1 (.int .i64 0)).set 2 (.int .i64 0)).set 3 (.int .i64 0)).set 4 (.int .i64 0)).set 5 (.int .i64 0)).set 6 (.int .i64 0)).set 7 (.int .i64 0)).set 8 (.int .i64 0)).set 9 (.int .i64 0)).set 10 (.int .i64 0))
    have c0 := t.cell (i := 0) (by omega)
    have c1 := t.cell (i := 1) (by omega)
    have c2 := t.cell (i := 2) (by omega)
    have c3 := t.cell (i := 3) (by omega)
    have c4 := t.cell (i := 4) (by omega)
    have c5 := t.cell (i := 5) (by omega)
    have c6 := t.cell (i := 6) (by omega)
    have c7 := t.cell (i := 7) (by omega)
    have c8 := t.cell (i := 8) (by omega)
    have c9 := t.cell (i := 9) (by omega)
    have c10 := t.cell (i := 10) (by omega)
    have BZ := (bel_set (bel_set (bel_set (bel_set (bel_set (bel_set (bel_set (bel_set (bel_set (bel_set (bel_set B3 (w.heap.size + 1) 0 (by omega) (.int .i64 4)) (w.heap.size + 1) 1 (by omega) (.int .i64 0)) (w.heap.size + 1) 2 (by omega) (.int .i64 0)) (w.heap.size + 1) 3 (by omega) (.int .i64 0)) (w.heap.size + 1) 4 (by omega) (.int .i64 0)) (w.heap.size + 1) 5 (by omega) (.int .i64 0)) (w.heap.size + 1) 6 (by omega) (.int .i64 0)) (w.heap.size + 1) 7 (by omega) (.int .i64 0)) (w.heap.size + 1) 8 (by omega) (.int .i64 0)) (w.heap.size + 1) 9 (by omega) (.int .i64 0)) (w.heap.size + 1) 10 (by omega) (.int .i64 0))
    go_wp2_with fail
    refine bodyPost_ret (v := .agg (elevenV 4 K10.z)) ?_ rfl ⟨rfl, BZ⟩
    simp [results, Try.results22, go_sem, K10.z, c0, c1, c2, c3, c4, c5, c6, c7, c8, c9, c10]
    done
  · rw [e, eu]
    rw [h1] at cF
    obtain ⟨n8, _, _, _, _⟩ := bf_ok h1
    have cA := fun w hU => l4At_c a m c us i hl (by omega) w hU
    rw [h2] at cA
    have hkm : k < m := by rw [← hl]; exact (List.getElem?_eq_some_iff.1 h3).1
    have hkm' : (k : Int) < (m : Int) := by omega
    have hk0 : decide ((k : Int) < 0) = false := decide_eq_false (by omega)
    go_enter Try.func22, Try.ntmps22
    go_wp2_with fail
    refine cF.mono ?_
    rintro e w1 ⟨rfl, k1⟩
    have B3 := B2.trans (k1.mono B2.size)
    replace rb := row_later rb k1
    replace rr := row_later rr k1
    obtain ⟨p1, p2, pl⟩ := row_brd rb
    have hU1 := hU.later B3
    go_wp2_with fail
    refine (cA _ hU1).mono ?_
    rintro e w1 ⟨rfl, rfl⟩
    obtain ⟨b, off, rfl, hb, hat⟩ := hU1.at h3
    obtain ⟨x0, x1, x2, x3, x4, x5, x6, x7, x8, x9, xl⟩ := hat.one hb h3
    clear h3 h4 hat hU hU1
    have e0 : w1.cell? ⟨w.heap.size + 1, 0, none⟩ = some (.int .i64 0) := rr.cell (i := 0) (by omega)
    have z0 := rr.frozen 0
    have e1 : w1.cell? ⟨w.heap.size + 1, 1, none⟩ = some (.int .i64 0) := rr.cell (i := 1) (by omega)
    have z1 := rr.frozen 1
    have e2 : w1.cell? ⟨w.heap.size + 1, 2, none⟩ = some (.int .i64 0) := rr.cell (i := 2) (by omega)
    have z2 := rr.frozen 2
    have e3 : w1.cell? ⟨w.heap.size + 1, 3, none⟩ = some (.int .i64 0) := rr.cell (i := 3) (by omega)
    have z3 := rr.frozen 3
    have e4 : w1.cell? ⟨w.heap.size + 1, 4, none⟩ = some (.int .i64 0) := rr.cell (i := 4) (by omega)
    have z4 := rr.frozen 4
    have e5 : w1.cell? ⟨w.heap.size + 1, 5, none⟩ = some (.int .i64 0) := rr.cell (i := 5) (by omega)
    have z5 := rr.frozen 5
    have e6 : w1.cell? ⟨w.heap.size + 1, 6, none⟩ = some (.int .i64 0) := rr.cell (i := 6) (by omega)
    have z6 := rr.frozen 6
    have e7 : w1.cell? ⟨w.heap.size + 1, 7, none⟩ = some (.int .i64 0) := rr.cell (i := 7) (by omega)
    have z7 := rr.frozen 7
    have e8 : w1.cell? ⟨w.heap.size + 1, 8, none⟩ = some (.int .i64 0) := rr.cell (i := 8) (by omega)
    have z8 := rr.frozen 8
    have e9 : w1.cell? ⟨w.heap.size + 1, 9, none⟩ = some (.int .i64 0) := rr.cell (i := 9) (by omega)
    have z9 := rr.frozen 9
    have e10 : w1.cell? ⟨w.heap.size + 1, 10, none⟩ = some (.int .i64 0) := rr.cell (i := 10) (by omega)
    have z10 := rr.frozen 10
    have rl := rr.lt
    have t := (((((((((((rr.set 0 (.int .i64 0)).set 1 (.int .i64 x.c0)).set 2 (.int .i64 x.c1)).set 3 (.int .i64 x.c2)).set 4 (.int .i64 x.c3)).set 5 (.int .i64 x.c4)).set 6 (.int .i64 x.c5)).set 7 (.int .i64 x.c6)).set 8 (.int .i64 x.c7)).set 9 (.int .i64 x.c8)).set 10 (.int .i64 x.c9))
    have c0 := t.cell (i := 0) (by omega)
    have c1 := t.cell (i := 1) (by omega)
    have c2 := t.cell (i := 2) (by omega)
    have c3 := t.cell (i := 3) (by omega)
    have c4 := t.cell (i := 4) (by omega)
    have c5 := t.cell (i := 5) (by omega)
    have c6 := t.cell (i := 6) (by omega)
    have c7 := t.cell (i := 7) (by omega)
    have c8 := t.cell (i := 8) (by omega)
    have c9 := t.cell (i := 9) (by omega)
    have c10 := t.cell (i := 10) (by omega)
    have BZ := (bel_set (bel_set (bel_set (bel_set (bel_set (bel_set (bel_set (bel_set (bel_set (bel_set (bel_set B3 (w.heap.size + 1) 0 (by omega) (.int .i64 0)) (w.heap.size + 1) 1 (by omega) (.int .i64 x.c0)) (w.heap.size + 1) 2 (by omega) (.int .i64 x.c1)) (w.heap.size + 1) 3 (by omega) (.int .i64 x.c2)) (w.heap.size + 1) 4 (by omega) (.int .i64 x.c3)) (w.heap.size + 1) 5 (by omega) (.int .i64 x.c4)) (w.heap.size + 1) 6 (by omega) (.int .i64 x.c5)) (w.heap.size + 1) 7 (by omega) (.int .i64 x.c6)) (w.heap.size + 1) 8 (by omega) (.int .i64 x.c7)) (w.heap.size + 1) 9 (by omega) (.int .i64 x.c8)) (w.heap.size + 1) 10 (by omega) (.int .i64 x.c9))
    go_wp2_with fail
    refine bodyPost_ret (v := .agg (elevenV 0 x)) ?_ rfl ⟨rfl, BZ⟩
    simp [results, Try.results22, go_sem, c0, c1, c2, c3, c4, c5, c6, c7, c8, c9, c10]
    done
set_option maxRecDepth 20000 in
set_option maxHeartbeats 8000000 in
theorem implUnitOf (a : Option Addr) (m c : Nat) (a' : Option Addr) (m' c' : Nat) (us : List K10) (fs : List K3) (i : Int) (hw : (Lit.int .i64 i).wf = true) (hl : us.length = m) (hl' : fs.length = m') (w : World) (hU : ArgU w a us) (hF : ArgF w a' fs) :
    Calls Try.prog 21 #[.agg #[.slice a m c, .slice a' m' c'], .int .i64 i] w fun e w' => e = .returned (.agg (elevenV (uoC us fs i) (uoU us fs i))) ∧ Below w.heap.size w w' := by
  obtain ⟨rb, rr, B2, S2⟩ := two_el w (.slice a m c) (.slice a' m' c') 27 46
  have cF := implBoardFault a m c a' m' c' us fs hl hl' _ (hU.later B2) (hF.later B2)
  rcases uo_cases us fs i with ⟨h1, e, eu⟩ | ⟨h1, h2, h3, e, eu⟩ | ⟨k, x, h1, h2, h3, h4, e, eu⟩
  · rw [e, eu]
    have h1' := bne_of h1
    generalize bf us fs = R at h1 h1' cF ⊢
    go_enter Try.func21, Try.ntmps21
    go_wp2_with fail
    refine cF.mono ?_
    rintro e w1 ⟨rfl, k1⟩
    have B3 := B2.trans (k1.mono B2.size)
    replace rb := row_later rb k1
    replace rr := row_later rr k1
    have e0 : w1.cell? ⟨w.heap.size + 1, 0, none⟩ = some (.int .i64 0) := rr.cell (i := 0) (by omega)
    have z0 := rr.frozen 0
    have e1 : w1.cell? ⟨w.heap.size + 1, 1, none⟩ = some (.int .i64 0) := rr.cell (i := 1) (by omega)
    have z1 := rr.frozen 1
    have e2 : w1.cell? ⟨w.heap.size + 1, 2, none⟩ = some (.int .i64 0) := rr.cell (i := 2) (by omega)
    have z2 := rr.frozen 2
    have e3 : w1.cell? ⟨w.heap.size + 1, 3, none⟩ = some (.int .i64 0) := rr.cell (i := 3) (by omega)
    have z3 := rr.frozen 3
    have e4 : w1.cell? ⟨w.heap.size + 1, 4, none⟩ = some (.int .i64 0) := rr.cell (i := 4) (by omega)
    have z4 := rr.frozen 4
    have e5 : w1.cell? ⟨w.heap.size + 1, 5, none⟩ = some (.int .i64 0) := rr.cell (i := 5) (by omega)
    have z5 := rr.frozen 5
    have e6 : w1.cell? ⟨w.heap.size + 1, 6, none⟩ = some (.int .i64 0) := rr.cell (i := 6) (by omega)
    have z6 := rr.frozen 6
    have e7 : w1.cell? ⟨w.heap.size + 1, 7, none⟩ = some (.int .i64 0) := rr.cell (i := 7) (by omega)
    have z7 := rr.frozen 7
    have e8 : w1.cell? ⟨w.heap.size + 1, 8, none⟩ = some (.int .i64 0) := rr.cell (i := 8) (by omega)
    have z8 := rr.frozen 8
    have e9 : w1.cell? ⟨w.heap.size + 1, 9, none⟩ = some (.int .i64 0) := rr.cell (i := 9) (by omega)
    have z9 := rr.frozen 9
    have e10 : w1.cell? ⟨w.heap.size + 1, 10, none⟩ = some (.int .i64 0) := rr.cell (i := 10) (by omega)
    have z10 := rr.frozen 10
    have rl := rr.lt
    have t := (((((((((((rr.set 0 (.int .i64 R)).set 1 (.int .i64 0)).set 2 (.int .i64 0)).set 3 (.int .i64 0)).set 4 (.int .i64 0)).set 5 (.int .i64 0)).set 6 (.int .i64 0)).set 7 (.int .i64 0)).set 8 (.int .i64 0)).set 9 (.int .i64 0)).set 10 (.int .i64 0))
    have c0 := t.cell (i := 0) (by omega)
    have c1 := t.cell (i := 1) (by omega)
    have c2 := t.cell (i := 2) (by omega)
    have c3 := t.cell (i := 3) (by omega)
    have c4 := t.cell (i := 4) (by omega)
    have c5 := t.cell (i := 5) (by omega)
    have c6 := t.cell (i := 6) (by omega)
    have c7 := t.cell (i := 7) (by omega)
    have c8 := t.cell (i := 8) (by omega)
    have c9 := t.cell (i := 9) (by omega)
    have c10 := t.cell (i := 10) (by omega)
    have BZ := (bel_set (bel_set (bel_set (bel_set (bel_set (bel_set (bel_set (bel_set (bel_set (bel_set (bel_set B3 (w.heap.size + 1) 0 (by omega) (.int .i64 R)) (w.heap.size + 1) 1 (by omega) (.int .i64 0)) (w.heap.size + 1) 2 (by omega) (.int .i64 0)) (w.heap.size + 1) 3 (by omega) (.int .i64 0)) (w.heap.size + 1) 4 (by omega) (.int .i64 0)) (w.heap.size + 1) 5 (by omega) (.int .i64 0)) (w.heap.size + 1) 6 (by omega) (.int .i64 0)) (w.heap.size + 1) 7 (by omega) (.int .i64 0)) (w.heap.size + 1) 8 (by omega) (.int .i64 0)) (w.heap.size + 1) 9 (by omega) (.int .i64 0)) (w.heap.size + 1) 10 (by omega) (.int .i64 0))
    go_wp2_with fail
    refine bodyPost_ret (v := .agg (elevenV R K10.z)) ?_ rfl ⟨rfl, BZ⟩
    simp [results, Try.results21, go_sem, K10.z, c0, c1, c2, c3, c4, c5, c6, c7, c8, c9, c10]
    done
  · rw [e, eu]
    rw [h1] at cF
    obtain ⟨n8, _, huf, _, hris⟩ := bf_ok h1
    have cM := fun w hU => rowsById_c a m c us hl (by omega) huf hris w hU
    go_enter Try.func21, Try.ntmps21
    go_wp2_with fail
    refine cF.mono ?_
    rintro e w1 ⟨rfl, k1⟩
    have B3 := B2.trans (k1.mono B2.size)
    replace rb := row_later rb k1
    replace rr := row_later rr k1
    obtain ⟨p1, p2, pl⟩ := row_brd rb
    have hU1 := hU.later B3
    go_wp2_with fail
    refine (cM _ hU1).mono ?_
    rintro e w2 ⟨rfl, hM, k2⟩
    have B4 := B3.trans (k2.mono B3.size)
    replace rr := row_later rr k2
    have hlook := hM.look i hw
    rw [h3] at hlook
    dsimp only at hlook
    obtain ⟨w3, Hw3⟩ : ∃ w3, Hid (w3 = w2.alloc (.cells K10.z.v 99)) := ⟨_, rfl⟩
    have k3 : Below w2.heap.size w2 w3 := by rw [Hw3.out]; exact (Below.refl _ _).alloc (Nat.le_refl _) _
    have B5 := B4.trans (k3.mono B4.size)
    replace rr := row_later rr k3
    go_upto_region 6 with fail
    rw [← Hw3.out]
    clear hlook
    have e0 : w3.cell? ⟨w.heap.size + 1, 0, none⟩ = some (.int .i64 0) := rr.cell (i := 0) (by omega)
    have z0 := rr.frozen 0
    have e1 : w3.cell? ⟨w.heap.size + 1, 1, none⟩ = some (.int .i64 0) := rr.cell (i := 1) (by omega)
    have z1 := rr.frozen 1
    have e2 : w3.cell? ⟨w.heap.size + 1, 2, none⟩ = some (.int .i64 0) := rr.cell (i := 2) (by omega)
    have z2 := rr.frozen 2
    have e3 : w3.cell? ⟨w.heap.size + 1, 3, none⟩ = some (.int .i64 0) := rr.cell (i := 3) (by omega)
    have z3 := rr.frozen 3
    have e4 : w3.cell? ⟨w.heap.size + 1, 4, none⟩ = some (.int .i64 0) := rr.cell (i := 4) (by omega)
    have z4 := rr.frozen 4
    have e5 : w3.cell? ⟨w.heap.size + 1, 5, none⟩ = some (.int .i64 0) := rr.cell (i := 5) (by omega)
    have z5 := rr.frozen 5
    have e6 : w3.cell? ⟨w.heap.size + 1, 6, none⟩ = some (.int .i64 0) := rr.cell (i := 6) (by omega)
    have z6 := rr.frozen 6
    have e7 : w3.cell? ⟨w.heap.size + 1, 7, none⟩ = some (.int .i64 0) := rr.cell (i := 7) (by omega)
    have z7 := rr.frozen 7
    have e8 : w3.cell? ⟨w.heap.size + 1, 8, none⟩ = some (.int .i64 0) := rr.cell (i := 8) (by omega)
    have z8 := rr.frozen 8
    have e9 : w3.cell? ⟨w.heap.size + 1, 9, none⟩ = some (.int .i64 0) := rr.cell (i := 9) (by omega)
    have z9 := rr.frozen 9
    have e10 : w3.cell? ⟨w.heap.size + 1, 10, none⟩ = some (.int .i64 0) := rr.cell (i := 10) (by omega)
    have z10 := rr.frozen 10
    have rl := rr.lt
    have t := (((((((((((rr.set 0 (.int .i64 4)).set 1 (.int .i64 0)).set 2 (.int .i64 0)).set 3 (.int .i64 0)).set 4 (.int .i64 0)).set 5 (.int .i64 0)).set 6 (.int .i64 0)).set 7 (.int .i64 0)).set 8 (.int .i64 0)).set 9 (.int .i64 0)).set 10 (.int .i64 0))
    have c0 := t.cell (i := 0) (by omega)
    have c1 := t.cell (i := 1) (by omega)
    have c2 := t.cell (i := 2) (by omega)
    have c3 := t.cell (i := 3) (by omega)
    have c4 := t.cell (i := 4) (by omega)
    have c5 := t.cell (i := 5) (by omega)
    have c6 := t.cell (i := 6) (by omega)
    have c7 := t.cell (i := 7) (by omega)
    have c8 := t.cell (i := 8) (by omega)
    have c9 := t.cell (i := 9) (by omega)
    have c10 := t.cell (i := 10) (by omega)
    have BZ := (bel_set (bel_set (bel_set (bel_set (bel_set (bel_set (bel_set (bel_set (bel_set (bel_set (bel_set B5 (w.heap.size + 1) 0 (by omega) (.int .i64 4)) (w.heap.size + 1) 1 (by omega) (.int .i64 0)) (w.heap.size + 1) 2 (by omega) (.int .i64 0)) (w.heap.size + 1) 3 (by omega) (.int .i64 0)) (w.heap.size + 1) 4 (by omega) (.int .i64 0)) (w.heap.size + 1) 5 (by omega) (.int .i64 0)) (w.heap.size + 1) 6 (by omega) (.int .i64 0)) (w.heap.size + 1) 7 (by omega) (.int .i64 0)) (w.heap.size + 1) 8 (by omega) (.int .i64 0)) (w.heap.size + 1) 9 (by omega) (.int .i64 0)) (w.heap.size + 1) 10 (by omega) (.int .i64 0))
    go_wp2_with fail
    refine bodyPost_ret (v := .agg (elevenV 4 K10.z)) ?_ rfl ⟨rfl, BZ⟩
    simp [results, Try.results21, go_sem, K10.z, c0, c1, c2, c3, c4, c5, c6, c7, c8, c9, c10]
    done
  · rw [e, eu]
    have cI := fun w => unitIn_c x w
    rw [h1] at cF
    obtain ⟨n8, _, huf, _, hris⟩ := bf_ok h1
    have cM := fun w hU => rowsById_c a m c us hl (by omega) huf hris w hU
    go_enter Try.func21, Try.ntmps21
    go_wp2_with fail
    refine cF.mono ?_
    rintro e w1 ⟨rfl, k1⟩
    have B3 := B2.trans (k1.mono B2.size)
    replace rb := row_later rb k1
    replace rr := row_later rr k1
    obtain ⟨p1, p2, pl⟩ := row_brd rb
    have hU1 := hU.later B3
    go_wp2_with fail
    refine (cM _ hU1).mono ?_
    rintro e w2 ⟨rfl, hM, k2⟩
    have B4 := B3.trans (k2.mono B3.size)
    replace rr := row_later rr k2
    have hlook := hM.look i hw
    rw [h4] at hlook
    dsimp only at hlook
    have k3 : Below w2.heap.size w2 (w2.alloc (.cells x.v 99)) := (Below.refl _ _).alloc (Nat.le_refl _) _
    have B5 := B4.trans (k3.mono B4.size)
    replace rr := row_later rr k3
    go_wp2_with fail
    refine (cI _).mono ?_
    rintro e w3 ⟨rfl, hw3⟩
    have k4 : Below (w2.alloc (.cells x.v 99)).heap.size (w2.alloc (.cells x.v 99)) w3 := by rw [hw3]; exact ((Below.refl _ _).alloc (Nat.le_refl _) _).alloc (by simp only [size_new]; omega) _
    have B6 := B5.trans (k4.mono B5.size)
    replace rr := row_later rr k4
    clear hw3
    have e0 : w3.cell? ⟨w.heap.size + 1, 0, none⟩ = some (.int .i64 0) := rr.cell (i := 0) (by omega)
    have z0 := rr.frozen 0
    have e1 : w3.cell? ⟨w.heap.size + 1, 1, none⟩ = some (.int .i64 0) := rr.cell (i := 1) (by omega)
    have z1 := rr.frozen 1
    have e2 : w3.cell? ⟨w.heap.size + 1, 2, none⟩ = some (.int .i64 0) := rr.cell (i := 2) (by omega)
    have z2 := rr.frozen 2
    have e3 : w3.cell? ⟨w.heap.size + 1, 3, none⟩ = some (.int .i64 0) := rr.cell (i := 3) (by omega)
    have z3 := rr.frozen 3
    have e4 : w3.cell? ⟨w.heap.size + 1, 4, none⟩ = some (.int .i64 0) := rr.cell (i := 4) (by omega)
    have z4 := rr.frozen 4
    have e5 : w3.cell? ⟨w.heap.size + 1, 5, none⟩ = some (.int .i64 0) := rr.cell (i := 5) (by omega)
    have z5 := rr.frozen 5
    have e6 : w3.cell? ⟨w.heap.size + 1, 6, none⟩ = some (.int .i64 0) := rr.cell (i := 6) (by omega)
    have z6 := rr.frozen 6
    have e7 : w3.cell? ⟨w.heap.size + 1, 7, none⟩ = some (.int .i64 0) := rr.cell (i := 7) (by omega)
    have z7 := rr.frozen 7
    have e8 : w3.cell? ⟨w.heap.size + 1, 8, none⟩ = some (.int .i64 0) := rr.cell (i := 8) (by omega)
    have z8 := rr.frozen 8
    have e9 : w3.cell? ⟨w.heap.size + 1, 9, none⟩ = some (.int .i64 0) := rr.cell (i := 9) (by omega)
    have z9 := rr.frozen 9
    have e10 : w3.cell? ⟨w.heap.size + 1, 10, none⟩ = some (.int .i64 0) := rr.cell (i := 10) (by omega)
    have z10 := rr.frozen 10
    have rl := rr.lt
    have t := (((((((((((rr.set 0 (.int .i64 0)).set 1 (.int .i64 x.c0)).set 2 (.int .i64 x.c1)).set 3 (.int .i64 x.c2)).set 4 (.int .i64 x.c3)).set 5 (.int .i64 x.c4)).set 6 (.int .i64 x.c5)).set 7 (.int .i64 x.c6)).set 8 (.int .i64 x.c7)).set 9 (.int .i64 x.c8)).set 10 (.int .i64 x.c9))
    have c0 := t.cell (i := 0) (by omega)
    have c1 := t.cell (i := 1) (by omega)
    have c2 := t.cell (i := 2) (by omega)
    have c3 := t.cell (i := 3) (by omega)
    have c4 := t.cell (i := 4) (by omega)
    have c5 := t.cell (i := 5) (by omega)
    have c6 := t.cell (i := 6) (by omega)
    have c7 := t.cell (i := 7) (by omega)
    have c8 := t.cell (i := 8) (by omega)
    have c9 := t.cell (i := 9) (by omega)
    have c10 := t.cell (i := 10) (by omega)
    have BZ := (bel_set (bel_set (bel_set (bel_set (bel_set (bel_set (bel_set (bel_set (bel_set (bel_set (bel_set B6 (w.heap.size + 1) 0 (by omega) (.int .i64 0)) (w.heap.size + 1) 1 (by omega) (.int .i64 x.c0)) (w.heap.size + 1) 2 (by omega) (.int .i64 x.c1)) (w.heap.size + 1) 3 (by omega) (.int .i64 x.c2)) (w.heap.size + 1) 4 (by omega) (.int .i64 x.c3)) (w.heap.size + 1) 5 (by omega) (.int .i64 x.c4)) (w.heap.size + 1) 6 (by omega) (.int .i64 x.c5)) (w.heap.size + 1) 7 (by omega) (.int .i64 x.c6)) (w.heap.size + 1) 8 (by omega) (.int .i64 x.c7)) (w.heap.size + 1) 9 (by omega) (.int .i64 x.c8)) (w.heap.size + 1) 10 (by omega) (.int .i64 x.c9))
    go_wp2_with fail
    refine bodyPost_ret (v := .agg (elevenV 0 x)) ?_ rfl ⟨rfl, BZ⟩
    simp [results, Try.results21, go_sem, c0, c1, c2, c3, c4, c5, c6, c7, c8, c9, c10]
    done
end Go.Proofs.Ytibkdkjcncfmgaa
