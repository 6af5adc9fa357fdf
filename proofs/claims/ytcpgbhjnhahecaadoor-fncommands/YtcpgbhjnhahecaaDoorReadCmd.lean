/- The contracts of mustRead and of ReadCommand, at whatever bytes. Condition: the table of counts holds what its initialiser lays. -/
import Derived.Test.YtcpgbhjnhahecaaDoorMustRead0
import Derived.Test.YtcpgbhjnhahecaaDoorMustRead1
import Derived.Test.YtcpgbhjnhahecaaDoorMustRead2
import Derived.Test.YtcpgbhjnhahecaaDoorMustRead3
import Derived.Recover
import Derived.Defers
namespace Go.Proofs.YtcpgbhjnhahecaaDoor
open Go.ChangeShapes Go.WideShapes Go.ChangeAt Go.RowKit
open Cm
set_option linter.unusedVariables false

abbrev rdCmd (l : List Int) : Array Value := cmdV (rcl l) (rsq l) (kd l) (rpa l 0) (rpa l 1) (rpa l 2)
theorem at_some {l : List Int} {i : Nat} (h : i < l.length) : l[i]? = some (l.getD i 0) := by simp [List.getElem?_eq_getElem h]
theorem mustRead_c (g cap m : Nat) (l : List Int) (hm : l.length = m) (hcap : m ≤ cap) (hcm : cap ≤ maxLen) (hb : Byt l) (w : World) (hL : PcAt w) (hg : g < w.heap.size) (hat : BAt w g 0 l) :
    Calls Tryd.prog 26 #[.slice (some ⟨g, 0, none⟩) m cap] w fun e w' => MR (rdB l) (rdCmd l) e ∧ Below w.heap.size w w' := by
  cases hr : rlen l
  · have hR : rdB l = false := by unfold rdB; rw [hr]; rfl
    rw [hR]
    have cc : ∀ i, i < l.length → w.cell? ⟨g, i, none⟩ = some (.int .u8 (l.getD i 0)) := fun i hi => by have h := hat i _ (at_some hi); simpa using h
    rcases rlen_n hr with h | ⟨h1, h2⟩ | ⟨h1, h2, h3⟩
    · exact (mustRead_short g cap m (by omega) w).mono fun e w' ⟨h1, h2⟩ => ⟨MR.no rfl h1, h2⟩
    · exact (mustRead_bad g cap m (by omega) hcap hcm _ (kd l) _ _ (getD_bd hb 0) (getD_bd hb 1) (getD_bd hb 2) (getD_bd hb 3) (.inl h2) w hL hg (cc 0 (by omega)) (cc 1 (by omega)) (cc 2 (by omega)) (cc 3 (by omega))).mono fun e w' ⟨h1, h2⟩ => ⟨MR.no rfl h1, h2⟩
    · exact (mustRead_bad g cap m (by omega) hcap hcm _ (kd l) _ _ (getD_bd hb 0) (getD_bd hb 1) (getD_bd hb 2) (getD_bd hb 3) (.inr ⟨h2, by omega⟩) w hL hg (cc 0 (by omega)) (cc 1 (by omega)) (cc 2 (by omega)) (cc 3 (by omega))).mono fun e w' ⟨h1, h2⟩ => ⟨MR.no rfl h1, h2⟩
  obtain ⟨q1, q2, q3, q4⟩ := rlen_i hr
  have hk : inb (kd l) 1 11 = true := inb_t q2 q3
  unfold rdCmd
  rcases pc_cases (kd l) with hn | hn | hn | hn <;> rw [hn] at q4
  · obtain ⟨d0, d1, d2, d3, s0, s1, rfl⟩ : ∃ d0 d1 d2 d3 s0 s1 : Int, l = [d0, d1, d2, d3, s0, s1] := by
      match l, (show l.length = 6 by omega) with
      | [d0, d1, d2, d3, s0, s1], _ => exact ⟨d0, d1, d2, d3, s0, s1, rfl⟩
    have hn' : pc d1 = 0 := hn
    have e0 : rpa [d0, d1, d2, d3, s0, s1] 0 = 0 := by unfold rpa; rw [hn]; rfl
    have e1 : rpa [d0, d1, d2, d3, s0, s1] 1 = 0 := by unfold rpa; rw [hn]; rfl
    have e2 : rpa [d0, d1, d2, d3, s0, s1] 2 = 0 := by unfold rpa; rw [hn]; rfl
    have hR : rdB [d0, d1, d2, d3, s0, s1] = ((rflt [d0, d1, d2, d3, s0, s1] == 0) && decide (rpk [d0, d1, d2, d3, s0, s1] = [d0, d1, d2, d3, s0, s1])) := by unfold rdB; rw [hr]; rfl
    rw [hR]
    unfold rflt rpk
    rw [e0, e1, e2]
    exact mustRead_0 g cap m (by rw [← hm]; rfl) hcap hcm d0 d1 d2 d3 (hb d0 (by simp)) (hb d1 (by simp)) (hb d2 (by simp)) (hb d3 (by simp)) s0 s1 (hb s0 (by simp)) (hb s1 (by simp)) hk hn' _ rfl hb w hL hg hat
  · obtain ⟨d0, d1, d2, d3, x0, y0, z0, s0, s1, rfl⟩ : ∃ d0 d1 d2 d3 x0 y0 z0 s0 s1 : Int, l = [d0, d1, d2, d3, x0, y0, z0, s0, s1] := by
      match l, (show l.length = 9 by omega) with
      | [d0, d1, d2, d3, x0, y0, z0, s0, s1], _ => exact ⟨d0, d1, d2, d3, x0, y0, z0, s0, s1, rfl⟩
    have hn' : pc d1 = 1 := hn
    have e0 : rpa [d0, d1, d2, d3, x0, y0, z0, s0, s1] 0 = 65536 * x0 + 256 * y0 + z0 := by unfold rpa; rw [hn]; rfl
    have e1 : rpa [d0, d1, d2, d3, x0, y0, z0, s0, s1] 1 = 0 := by unfold rpa; rw [hn]; rfl
    have e2 : rpa [d0, d1, d2, d3, x0, y0, z0, s0, s1] 2 = 0 := by unfold rpa; rw [hn]; rfl
    have hR : rdB [d0, d1, d2, d3, x0, y0, z0, s0, s1] = ((rflt [d0, d1, d2, d3, x0, y0, z0, s0, s1] == 0) && decide (rpk [d0, d1, d2, d3, x0, y0, z0, s0, s1] = [d0, d1, d2, d3, x0, y0, z0, s0, s1])) := by unfold rdB; rw [hr]; rfl
    rw [hR]
    unfold rflt rpk
    rw [e0, e1, e2]
    exact mustRead_1 g cap m (by rw [← hm]; rfl) hcap hcm d0 d1 d2 d3 (hb d0 (by simp)) (hb d1 (by simp)) (hb d2 (by simp)) (hb d3 (by simp)) x0 y0 z0 s0 s1 (hb x0 (by simp)) (hb y0 (by simp)) (hb z0 (by simp)) (hb s0 (by simp)) (hb s1 (by simp)) hk hn' _ rfl hb w hL hg hat
  · obtain ⟨d0, d1, d2, d3, x0, y0, z0, x1, y1, z1, s0, s1, rfl⟩ : ∃ d0 d1 d2 d3 x0 y0 z0 x1 y1 z1 s0 s1 : Int, l = [d0, d1, d2, d3, x0, y0, z0, x1, y1, z1, s0, s1] := by
      match l, (show l.length = 12 by omega) with
      | [d0, d1, d2, d3, x0, y0, z0, x1, y1, z1, s0, s1], _ => exact ⟨d0, d1, d2, d3, x0, y0, z0, x1, y1, z1, s0, s1, rfl⟩
    have hn' : pc d1 = 2 := hn
    have e0 : rpa [d0, d1, d2, d3, x0, y0, z0, x1, y1, z1, s0, s1] 0 = 65536 * x0 + 256 * y0 + z0 := by unfold rpa; rw [hn]; rfl
    have e1 : rpa [d0, d1, d2, d3, x0, y0, z0, x1, y1, z1, s0, s1] 1 = 65536 * x1 + 256 * y1 + z1 := by unfold rpa; rw [hn]; rfl
    have e2 : rpa [d0, d1, d2, d3, x0, y0, z0, x1, y1, z1, s0, s1] 2 = 0 := by unfold rpa; rw [hn]; rfl
    have hR : rdB [d0, d1, d2, d3, x0, y0, z0, x1, y1, z1, s0, s1] = ((rflt [d0, d1, d2, d3, x0, y0, z0, x1, y1, z1, s0, s1] == 0) && decide (rpk [d0, d1, d2, d3, x0, y0, z0, x1, y1, z1, s0, s1] = [d0, d1, d2, d3, x0, y0, z0, x1, y1, z1, s0, s1])) := by unfold rdB; rw [hr]; rfl
    rw [hR]
    unfold rflt rpk
    rw [e0, e1, e2]
    exact mustRead_2 g cap m (by rw [← hm]; rfl) hcap hcm d0 d1 d2 d3 (hb d0 (by simp)) (hb d1 (by simp)) (hb d2 (by simp)) (hb d3 (by simp)) x0 y0 z0 x1 y1 z1 s0 s1 (hb x0 (by simp)) (hb y0 (by simp)) (hb z0 (by simp)) (hb x1 (by simp)) (hb y1 (by simp)) (hb z1 (by simp)) (hb s0 (by simp)) (hb s1 (by simp)) hk hn' _ rfl hb w hL hg hat
  · obtain ⟨d0, d1, d2, d3, x0, y0, z0, x1, y1, z1, x2, y2, z2, s0, s1, rfl⟩ : ∃ d0 d1 d2 d3 x0 y0 z0 x1 y1 z1 x2 y2 z2 s0 s1 : Int, l = [d0, d1, d2, d3, x0, y0, z0, x1, y1, z1, x2, y2, z2, s0, s1] := by
      match l, (show l.length = 15 by omega) with
      | [d0, d1, d2, d3, x0, y0, z0, x1, y1, z1, x2, y2, z2, s0, s1], _ => exact ⟨d0, d1, d2, d3, x0, y0, z0, x1, y1, z1, x2, y2, z2, s0, s1, rfl⟩
    have hn' : pc d1 = 3 := hn
    have e0 : rpa [d0, d1, d2, d3, x0, y0, z0, x1, y1, z1, x2, y2, z2, s0, s1] 0 = 65536 * x0 + 256 * y0 + z0 := by unfold rpa; rw [hn]; rfl
    have e1 : rpa [d0, d1, d2, d3, x0, y0, z0, x1, y1, z1, x2, y2, z2, s0, s1] 1 = 65536 * x1 + 256 * y1 + z1 := by unfold rpa; rw [hn]; rfl
    have e2 : rpa [d0, d1, d2, d3, x0, y0, z0, x1, y1, z1, x2, y2, z2, s0, s1] 2 = 65536 * x2 + 256 * y2 + z2 := by unfold rpa; rw [hn]; rfl
    have hR : rdB [d0, d1, d2, d3, x0, y0, z0, x1, y1, z1, x2, y2, z2, s0, s1] = ((rflt [d0, d1, d2, d3, x0, y0, z0, x1, y1, z1, x2, y2, z2, s0, s1] == 0) && decide (rpk [d0, d1, d2, d3, x0, y0, z0, x1, y1, z1, x2, y2, z2, s0, s1] = [d0, d1, d2, d3, x0, y0, z0, x1, y1, z1, x2, y2, z2, s0, s1])) := by unfold rdB; rw [hr]; rfl
    rw [hR]
    unfold rflt rpk
    rw [e0, e1, e2]
    exact mustRead_3 g cap m (by rw [← hm]; rfl) hcap hcm d0 d1 d2 d3 (hb d0 (by simp)) (hb d1 (by simp)) (hb d2 (by simp)) (hb d3 (by simp)) x0 y0 z0 x1 y1 z1 x2 y2 z2 s0 s1 (hb x0 (by simp)) (hb y0 (by simp)) (hb z0 (by simp)) (hb x1 (by simp)) (hb y1 (by simp)) (hb z1 (by simp)) (hb x2 (by simp)) (hb y2 (by simp)) (hb z2 (by simp)) (hb s0 (by simp)) (hb s1 (by simp)) hk hn' _ rfl hb w hL hg hat

/- what ReadCommand answers -/
def rdV (l : List Int) : Array Value := if rdB l = true then #[.int .i64 0, .int .i64 (rcl l), .int .i64 (rsq l), .int .i64 (kd l), .int .i64 (rpa l 0), .int .i64 (rpa l 1), .int .i64 (rpa l 2)] else #[.int .i64 5, .int .i64 0, .int .i64 0, .int .i64 0, .int .i64 0, .int .i64 0, .int .i64 0]
abbrev Z7 : Array Value := #[.int .i64 0, .int .i64 0, .int .i64 0, .int .i64 0, .int .i64 0, .int .i64 0, .int .i64 0]
theorem catch_panicking (p : Nat) (u : TypeId) (pv : Value) (older : List PanicEntry) (w : World) (h : Blk w p Z7 28) :
    CallsD Tryd.prog 25 #[.pointer (some ⟨p, 0, none⟩)] (.panicking ({ v := .iface u pv, recovered := false } :: older)) w fun e u' w' =>
      e = .returned (.tuple #[]) ∧ u' = .panicking ({ v := .iface u pv, recovered := true } :: older) ∧ Blk w' p #[.int .i64 5, .int .i64 0, .int .i64 0, .int .i64 0, .int .i64 0, .int .i64 0, .int .i64 0] 28 ∧ Below p w w' := by
  have c0 := h.cell (i := 0) rfl
  have c1 := h.cell (i := 1) rfl
  have c2 := h.cell (i := 2) rfl
  have c3 := h.cell (i := 3) rfl
  have c4 := h.cell (i := 4) rfl
  have c5 := h.cell (i := 5) rfl
  have c6 := h.cell (i := 6) rfl
  have z0 := h.frozen 0
  have z1 := h.frozen 1
  have z2 := h.frozen 2
  have z3 := h.frozen 3
  have z4 := h.frozen 4
  have z5 := h.frozen 5
  have z6 := h.frozen 6
  refine callsD_of_wpS Tryd.func25 rfl fun c₀ cs hu => ?_
  apply wpS_seq
  apply wpS_region
  simp [wpOpsS, go_sem, recoverD, hu, Tryd.ntmps25, Exit.thenS]
  refine wpS_cond (t := true) (by simp [Act.eval, Array.replicate]) ?_
  simp only [if_true]
  apply wpS_region
  simp [wpOpsS, go_sem, c0, c1, c2, c3, c4, c5, c6, z0, z1, z2, z3, z4, z5, z6, bodyPostS, results, Tryd.results25]
  refine ⟨((((((h.set 0 _).set 1 _).set 2 _).set 3 _).set 4 _).set 5 _).set 6 _, ?_⟩
  exact (((((((Below.refl p w).setCell (Nat.le_refl _) _).setCell (Nat.le_refl _) _).setCell (Nat.le_refl _) _).setCell (Nat.le_refl _) _).setCell (Nat.le_refl _) _).setCell (Nat.le_refl _) _).setCell (Nat.le_refl _) _
theorem catch_idle (p : Nat) (w : World) :
    CallsD Tryd.prog 25 #[.pointer (some ⟨p, 0, none⟩)] .returning w fun e u' w' => e = .returned (.tuple #[]) ∧ u' = .returning ∧ w' = w := by
  refine callsD_of_wpS Tryd.func25 rfl fun c₀ cs hu => ?_
  apply wpS_seq
  apply wpS_region
  simp [wpOpsS, go_sem, recoverD, hu, Tryd.ntmps25, Exit.thenS]
  refine wpS_cond (t := false) (by simp [Act.eval, Array.replicate]) ?_
  simp only [Bool.false_eq_true, if_false]
  refine wpS_of_wp (wp_skip ?_)
  cases c₀
  simp_all [bodyPostS, results, Tryd.results25]

theorem result7 {w : World} {p : Nat} {x0 x1 x2 x3 x4 x5 x6 : Int} (h : Blk w p #[.int .i64 x0, .int .i64 x1, .int .i64 x2, .int .i64 x3, .int .i64 x4, .int .i64 x5, .int .i64 x6] 28) (T : Array Value) (hT : T[2]?.getD undef = .pointer (some ⟨p, 0, none⟩)) :
    (results Tryd.f6 T).run Tryd.prog w = .ok (.agg #[.int .i64 x0, .int .i64 x1, .int .i64 x2, .int .i64 x3, .int .i64 x4, .int .i64 x5, .int .i64 x6]) w := by
  have c0 := h.cell (i := 0) rfl
  have c1 := h.cell (i := 1) rfl
  have c2 := h.cell (i := 2) rfl
  have c3 := h.cell (i := 3) rfl
  have c4 := h.cell (i := 4) rfl
  have c5 := h.cell (i := 5) rfl
  have c6 := h.cell (i := 6) rfl
  simp [results, Tryd.results6, go_sem, hT, c0, c1, c2, c3, c4, c5, c6]
set_option maxHeartbeats 2000000 in
theorem implReadCommand (g cap m : Nat) (l : List Int) (hm : l.length = m) (hcap : m ≤ cap) (hcm : cap ≤ maxLen) (hb : Byt l) (w : World) (hL : PcAt w) (hg : g < w.heap.size) (hat : BAt w g 0 l) :
    Calls Tryd.prog 6 #[.slice (some ⟨g, 0, none⟩) m cap] w fun e w' => e = .returned (.agg (rdV l)) ∧ Below w.heap.size w w' := by
  have A0 := (Below.refl w.heap.size w).alloc (Nat.le_refl _) (.cells Z7 28)
  have R0 := Blk.new w Z7 28
  have cM := mustRead_c g cap m l hm hcap hcm hb _ (hL.later A0) (by rw [size_new]; omega) (fun i x hi => by rw [A0.cell hg]; exact hat i x hi)
  have hmf : ∀ (fn : Fn) (first cap : Array Value) (w : World), (Instr.makeFunc fn first cap).run Tryd.prog w = .ok (.func fn first cap) w := fun _ _ _ _ => rfl
  unfold rdV
  cases hr : rdB l
  · rw [hr] at cM
    rw [if_neg (by decide)]
    have cM' := cM.mono (R' := fun e w' => (∃ u pv, e = .panicked [{ v := .iface u pv, recovered := false }]) ∧ Below (w.alloc (.cells Z7 28)).heap.size (w.alloc (.cells Z7 28)) w') (fun e w' ⟨h1, h2⟩ => ⟨by unfold MR at h1; rw [if_neg (by decide)] at h1; exact h1, h2⟩)
    clear cM hm hb hat hr hL
    go_enter_defers Tryd.func6, Tryd.ntmps6
    go_wp2_with fail
    refine cM'.mono ?_
    rintro e w1 ⟨⟨u, pv, rfl⟩, k1⟩
    have R1 := R0.below k1
    have A1 := A0.trans (k1.mono A0.size)
    go_wp2_with fail
    refine leaves_cons (f := 25) (args := #[.pointer (some ⟨w.heap.size, 0, none⟩)]) (by simp) (by simp [go_sem]) ?_
    refine (catch_panicking w.heap.size u pv [] w1 R1).mono ?_
    rintro e u' w2 ⟨rfl, rfl, R2, k2⟩
    simp only [settle]
    exact ⟨_, result7 R2 _ rfl, rfl, A1.trans k2⟩
  · rw [hr] at cM
    rw [if_pos rfl]
    have cM' := cM.mono (R' := fun e w' => e = .returned (.agg (cmdV (rcl l) (rsq l) (kd l) (rpa l 0) (rpa l 1) (rpa l 2))) ∧ Below (w.alloc (.cells Z7 28)).heap.size (w.alloc (.cells Z7 28)) w') (fun e w' ⟨h1, h2⟩ => ⟨by unfold MR at h1; rw [if_pos rfl] at h1; exact h1, h2⟩)
    clear cM hm hb hat hr hL
    generalize rcl l = y0 at cM' ⊢
    generalize rsq l = y1 at cM' ⊢
    generalize kd l = y2 at cM' ⊢
    generalize rpa l 0 = y3 at cM' ⊢
    generalize rpa l 1 = y4 at cM' ⊢
    generalize rpa l 2 = y5 at cM' ⊢
    go_enter_defers Tryd.func6, Tryd.ntmps6
    go_wp2_with fail
    refine cM'.mono ?_
    rintro e w1 ⟨rfl, k1⟩
    have R1 := R0.below k1
    have A1 := A0.trans (k1.mono A0.size)
    have c0 := R1.cell (i := 0) rfl
    have c1 := R1.cell (i := 1) rfl
    have c2 := R1.cell (i := 2) rfl
    have c3 := R1.cell (i := 3) rfl
    have c4 := R1.cell (i := 4) rfl
    have c5 := R1.cell (i := 5) rfl
    have c6 := R1.cell (i := 6) rfl
    have z0 := R1.frozen 0
    have z1 := R1.frozen 1
    have z2 := R1.frozen 2
    have z3 := R1.frozen 3
    have z4 := R1.frozen 4
    have z5 := R1.frozen 5
    have z6 := R1.frozen 6
    have rl := R1.lt
    go_wp2_with fail
    refine leaves_cons (f := 25) (args := #[.pointer (some ⟨w.heap.size, 0, none⟩)]) (by simp) (by simp [go_sem]) ?_
    refine (catch_idle w.heap.size _).mono ?_
    rintro e u' w2 ⟨rfl, rfl, rfl⟩
    have R2 : Blk (((((((w1.setCell ⟨w.heap.size, 0, none⟩ (.int .i64 0)).setCell ⟨w.heap.size, 1, none⟩ (.int .i64 y0)).setCell ⟨w.heap.size, 2, none⟩ (.int .i64 y1)).setCell ⟨w.heap.size, 3, none⟩ (.int .i64 y2)).setCell ⟨w.heap.size, 4, none⟩ (.int .i64 y3)).setCell ⟨w.heap.size, 5, none⟩ (.int .i64 y4)).setCell ⟨w.heap.size, 6, none⟩ (.int .i64 y5)) w.heap.size #[.int .i64 0, .int .i64 y0, .int .i64 y1, .int .i64 y2, .int .i64 y3, .int .i64 y4, .int .i64 y5] 28 := ((((((R1.set 0 _).set 1 _).set 2 _).set 3 _).set 4 _).set 5 _).set 6 _
    have A2 : Below w.heap.size w (((((((w1.setCell ⟨w.heap.size, 0, none⟩ (.int .i64 0)).setCell ⟨w.heap.size, 1, none⟩ (.int .i64 y0)).setCell ⟨w.heap.size, 2, none⟩ (.int .i64 y1)).setCell ⟨w.heap.size, 3, none⟩ (.int .i64 y2)).setCell ⟨w.heap.size, 4, none⟩ (.int .i64 y3)).setCell ⟨w.heap.size, 5, none⟩ (.int .i64 y4)).setCell ⟨w.heap.size, 6, none⟩ (.int .i64 y5)) := ((((((A1.setCell (Nat.le_refl _) _).setCell (Nat.le_refl _) _).setCell (Nat.le_refl _) _).setCell (Nat.le_refl _) _).setCell (Nat.le_refl _) _).setCell (Nat.le_refl _) _).setCell (Nat.le_refl _) _
    exact ⟨_, result7 R2 _ rfl, rfl, A2⟩
end Go.Proofs.YtcpgbhjnhahecaaDoor
