/- The walks of the exact laws of LeftIn and CarriedBy. No condition. -/
import Derived.Test.YtibkdkjcncfmgaaExactB1
import Derived.Test.YtibkdkjcncfmgaaSumWalks2
namespace Go.Proofs.Ytibkdkjcncfmgaa
open Go.ChangeShapes Go.WideShapes Go.ChangeAt Go.RowKit
open Bd
set_option linter.unusedVariables false

theorem rowAll (w : World) (cs : Array Value) (t : TypeId) : (w.alloc (.cells cs t)).rowIs w.heap.size t cs.size (fun i => cs[i]!) := by
  refine ⟨cs, ?_, rfl, fun i hi => ?_⟩
  · show (w.heap.push _)[w.heap.size]? = _
    simp
  · show cs[i]? = some cs[i]!
    rw [getElem!_pos cs i hi]; exact Array.getElem?_eq_getElem hi
theorem eqIntResult_same (c v : Int) (w : World) :
    Calls Try.prog 32 #[.agg #[.int .i64 c, .int .i64 v], .agg #[.int .i64 c, .int .i64 v]] w fun e w' => e = .returned (.bool true) ∧ Below w.heap.size w w' := by
  go_enter Try.func32, Try.ntmps32
  go_wp2
  go_ret
  exact ⟨rfl, ((Below.refl _ _).alloc (Nat.le_refl _) _).alloc (by simp only [size_new]; omega) _⟩
set_option maxHeartbeats 8000000 in
theorem walk_fnExactLeftIn (a : Option Addr) (m c : Nat) (a' : Option Addr) (m' c' : Nat) (us : List K10) (fs : List K3) (hx : m ≤ maxLen) (hx' : m' ≤ maxLen) (hl : us.length = m) (hl' : fs.length = m') (W : World) (hU : ArgU W a us) (hF : ArgF W a' fs) :
    Calls Try.prog 4 #[.agg (brdV a m c a' m' c')] W fun e w' => e = .returned (.bool true) ∧ Below W.heap.size W w' := by
  unfold maxLen at hx hx'
  subst hl hl'
  have q0 := fun w => szBoard_c a us.length c a' fs.length c' (by omega) (by omega) w
  have B0 : Below W.heap.size W (W.alloc (.cells (brdV a us.length c a' fs.length c') 54)) := (Below.refl _ _).alloc (Nat.le_refl _) _
  have rb := rowTwo W (.slice a us.length c) (.slice a' fs.length c') 54
  by_cases hs : us.length + fs.length ≤ 1048576
  · rw [if_pos hs] at q0
    have d : decide ((1048576 : Int) - (us.length : Int) - (fs.length : Int) < 0) = false := decide_eq_false (by omega)
    have cT := fun W hU hF => toBoard_c a c a' c' us fs (by omega) (by omega) W hU hF
    have s1 := fun g g' W hU hF => specLeftIn (some ⟨g, 0, none⟩) us.length us.length (some ⟨g', 0, none⟩) fs.length fs.length us fs rfl rfl W hU hF
    have s2 := fun g g' W hU hF => implLeftIn (some ⟨g, 0, none⟩) us.length us.length (some ⟨g', 0, none⟩) fs.length fs.length us fs rfl rfl W hU hF
    generalize bf us fs = C at s1 s2
    generalize lfV us fs = V at s1 s2
    go_enter Try.func4, Try.ntmps4
    go_wp2_with fail
    refine (q0 _).mono ?_
    rintro e w1 ⟨rfl, k1⟩
    have B1 := B0.trans (k1.mono B0.size)
    replace rb := rb.of_block (k1.block _ rb.lt)
    have p0 : w1.cell? ⟨W.heap.size, 0, none⟩ = some (.slice a us.length c) := rb.cell (i := 0) (by omega)
    have p1 : w1.cell? ⟨W.heap.size, 1, none⟩ = some (.slice a' fs.length c') := rb.cell (i := 1) (by omega)
    go_wp2_with fail
    refine (cT _ (hU.later B1) (hF.later B1)).mono ?_
    rintro e w2 ⟨g, g', rfl, N2, k2⟩
    have B2 := B1.trans (k2.mono B1.size)
    replace rb := rb.of_block (k2.block _ rb.lt)
    clear p0 p1
    go_wp2_with fail
    refine (s1 g g' _ N2.argU N2.argF).mono ?_
    rintro e w3 ⟨rfl, k3⟩
    have k3' : Below w3.heap.size w3 (w3.alloc (.cells #[.int .i64 C, .int .i64 V] 43)) := (Below.refl _ _).alloc (Nat.le_refl _) _
    have B3 := B2.trans (k3.mono B2.size)
    have B3' := B3.trans (k3'.mono B3.size)
    replace rb := (rb.of_block (k3.block _ rb.lt))
    replace rb := (rb.of_block (k3'.block _ rb.lt))
    have rs := rowAll w3 #[.int .i64 C, .int .i64 V] 43
    have p0 := rb.cell (i := 0) (by omega)
    have p1 := rb.cell (i := 1) (by omega)
    have p2 := (rb.lt)
    clear N2
    go_wp2_with fail
    refine (cT _ (hU.later B3') (hF.later B3')).mono ?_
    rintro e w4 ⟨g2, g2', rfl, N4, k4⟩
    have B4 := B3'.trans (k4.mono B3'.size)
    replace rb := rb.of_block (k4.block _ rb.lt)
    replace rs := rs.of_block (k4.block _ rs.lt)
    clear p0 p1 p2
    have k5 : Below w4.heap.size w4 (w4.alloc (.cells (brdV (some ⟨g2, 0, none⟩) us.length us.length (some ⟨g2', 0, none⟩) fs.length fs.length) 27)) := (Below.refl _ _).alloc (Nat.le_refl _) _
    have B5 := B4.trans (k5.mono B4.size)
    have rx := rowTwo w4 (.slice (some ⟨g2, 0, none⟩) us.length us.length) (.slice (some ⟨g2', 0, none⟩) fs.length fs.length) 27
    replace rb := rb.of_block (k5.block _ rb.lt)
    replace rs := rs.of_block (k5.block _ rs.lt)
    go_wp2_with fail
    refine (s2 g2 g2' _ (N4.later k5).argU (N4.later k5).argF).mono ?_
    rintro e w6' ⟨rfl, k6⟩
    have B6 := B5.trans (k6.mono B5.size)
    have N6 := (N4.later k5).later k6
    replace rb := rb.of_block (k6.block _ rb.lt)
    replace rx := rx.of_block (k6.block _ rx.lt)
    replace rs := rs.of_block (k6.block _ rs.lt)
    clear N4 k5 k4 k3 k2 k1 s1 s2
    have s0 : w6'.cell? ⟨w3.heap.size, 0, none⟩ = some (.int .i64 C) := rs.cell (i := 0) (by show 0 < 2; omega)
    have s1 : w6'.cell? ⟨w3.heap.size, 1, none⟩ = some (.int .i64 V) := rs.cell (i := 1) (by show 1 < 2; omega)
    have rsl := rs.lt
    have k7 : Below w6'.heap.size w6' (w6'.alloc (.cells #[.int .i64 C, .int .i64 V] 43)) := (Below.refl _ _).alloc (Nat.le_refl _) _
    go_wp2_with fail
    refine (eqIntResult_same C V _).mono ?_
    rintro e w6 ⟨rfl, k8⟩
    have k9 := k7.trans (k8.mono k7.size)
    replace B6 := B6.trans (k9.mono B6.size)
    replace N6 := N6.later k9
    replace rb := rb.of_block (k9.block _ rb.lt)
    replace rx := rx.of_block (k9.block _ rx.lt)
    have p0 : w6.cell? ⟨W.heap.size, 0, none⟩ = some (.slice a us.length c) := rb.cell (i := 0) (by omega)
    have p1 : w6.cell? ⟨W.heap.size, 1, none⟩ = some (.slice a' fs.length c') := rb.cell (i := 1) (by omega)
    have x0 : w6.cell? ⟨w4.heap.size, 0, none⟩ = some (.slice (some ⟨g2, 0, none⟩) us.length us.length) := rx.cell (i := 0) (by omega)
    have x1 : w6.cell? ⟨w4.heap.size, 1, none⟩ = some (.slice (some ⟨g2', 0, none⟩) fs.length fs.length) := rx.cell (i := 1) (by omega)
    have rbl := rb.lt
    have rxl := rx.lt
    go_wp2_with fail
    go_region_with (first
      | (go_at_call 31; refine (cT _ (hU.later B6.drew) (hF.later B6.drew)).mono ?_; rintro e w7 ⟨g3, g3', rfl, N7, k7⟩; have B7 := B6.trans ((bel_drew k7).mono B6.size); have N7b := N6.later (bel_drew k7); have x0 := (rx.of_block ((bel_drew k7).block _ rxl)).cell (i := 0) (by omega); have x1 := (rx.of_block ((bel_drew k7).block _ rxl)).cell (i := 1) (by omega))
      | (go_at_call 33; refine (N7b.eq N7 (by omega) (by omega)).mono ?_; rintro e w8 ⟨rfl, k8⟩; have B8 := B7.trans (k8.mono B7.size)))
    all_goals
      go_wp2
      go_ret
      exact ⟨rfl, B8⟩
  · rw [if_neg hs] at q0
    go_enter Try.func4, Try.ntmps4
    go_wp2_with fail
    refine (q0 _).mono ?_
    rintro e w1 ⟨rfl, k1⟩
    have B1 := B0.trans (k1.mono B0.size)
    go_wp2
    go_ret
    exact ⟨rfl, B1⟩
end Go.Proofs.Ytibkdkjcncfmgaa
