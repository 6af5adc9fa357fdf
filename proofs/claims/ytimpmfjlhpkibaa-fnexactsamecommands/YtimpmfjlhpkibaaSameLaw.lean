/- The walk of the exact law of SameCommands, and what a list of commands that came in is. No condition. -/
import Derived.Test.YtimpmfjlhpkibaaSameC2
namespace Go.Proofs.Ytimpmfjlhpkibaa
open Go.ChangeShapes Go.WideShapes Go.ChangeAt Go.RowKit
set_option linter.unusedVariables false

theorem add_plain' (b off n : Nat) : (⟨b, off, none⟩ : Addr).add n = ⟨b, off + n, none⟩ := by unfold Addr.add; split <;> simp_all
theorem cell_lt2 {w : World} {a : Addr} {v : Value} (h : w.cell? a = some v) : a.block < w.heap.size := by
  unfold World.cell? at h
  by_cases hb : a.block < w.heap.size
  · exact hb
  · rw [Array.getElem?_eq_none (by omega)] at h
    cases h
theorem argC_open {H : Type} {enc : TypeId × Value → H} {w : World} {sp : Nat → Bool} {held : Bool} {a : Option Addr} {len cap : Nat} {d : DataW H} {p : List MemPlace}
    (h : DataW.Trod enc Try.prog w 0 sp held 22 (.slice a len cap) d p) : len ≤ maxLen ∧ ∃ l : List K6, l.length = len ∧ ArgC w a l := by
  obtain ⟨fuel, hf⟩ := h
  have c6 : Try.prog.cellsOf 31 = 6 := by kernel_rfl
  rcases Go.Deep.open_slice Try.underlying22 hf with ⟨hcs, _⟩ | ⟨x, l0, c0, m, n, D, Pl, hcs, _, hl, hm, hmm, _, hel⟩
  · simp [Value.cells] at hcs
    obtain ⟨rfl, rfl, rfl⟩ := hcs
    exact ⟨Nat.zero_le _, [], rfl, .inl rfl⟩
  · simp [Value.cells] at hcs
    obtain ⟨rfl, rfl, rfl⟩ := hcs
    refine ⟨by omega, ?_⟩
    have hlm : len ≤ m := by rw [hmm]; split <;> omega
    have key : ∀ i, i < len → ∃ y : K6, ∀ f, f < 6 → w.cell? ((x.add (i * 6)).add f) = some (.int .i64 (y.f f)) := by
      intro i hi
      obtain ⟨cs', h1, h2⟩ := hel i (by omega)
      rw [c6] at h1
      obtain ⟨_, hlen, hc⟩ := World.cells?_some h1
      obtain ⟨zs, hz, hzl, _⟩ := cells_i64 (e := 2) Try.underlying31 Try.underlying2 (by kernel_rfl) (by kernel_rfl) (by kernel_rfl) h2
      have hz6 : zs.length = 6 := by rw [← List.length_map (f := Value.int .i64), ← hz]; exact hlen
      match zs, hz6 with
      | [y0, y1, y2, y3, y4, y5], _ =>
        refine ⟨⟨y0, y1, y2, y3, y4, y5⟩, fun f hf => ?_⟩
        rw [hc f hf, hz]
        have h6 : f = 0 ∨ f = 1 ∨ f = 2 ∨ f = 3 ∨ f = 4 ∨ f = 5 := by omega
        rcases h6 with rfl | rfl | rfl | rfl | rfl | rfl <;> rfl
    refine ⟨(List.range len).map fun i => if h : i < len then Classical.choose (key i h) else K6.z, by simp, ?_⟩
    by_cases h0 : len = 0
    · subst h0; exact .inl rfl
    · obtain ⟨b, off, spot⟩ := x
      obtain ⟨y, hy⟩ := key 0 (by omega)
      have hc := hy 0 (by omega)
      have hspot : spot = none := by simpa [Addr.add] using World.cell?_spot hc
      subst hspot
      refine .inr ⟨b, off, rfl, by have := cell_lt2 hc; simpa [Addr.add] using this, fun i z hi f hf => ?_⟩
      have hlt : i < len := by simpa using (List.getElem?_eq_some_iff.1 hi).1
      have hz : z = Classical.choose (key i hlt) := by
        rw [List.getElem?_map, List.getElem?_range hlt] at hi
        simp [hlt] at hi
        exact hi.symm
      have := Classical.choose_spec (key i hlt) f hf
      rw [← hz, add_plain', add_plain'] at this
      exact this
theorem below_drewN (w : World) (n : Nat) : Below w.heap.size w (w.drewN n) := ⟨rfl, rfl, rfl, Nat.le_refl _, fun _ _ => rfl⟩

set_option maxHeartbeats 4000000 in
theorem exactSame (a : Option Addr) (m cap : Nat) (a' : Option Addr) (m' cap' : Nat) (l l' : List K6) (hl : l.length = m) (hl' : l'.length = m') (hm : m + m' ≤ 1048576) (w : World) (h : ArgC w a l) (h' : ArgC w a' l') :
    Calls Try.prog 3 #[.slice a m cap, .slice a' m' cap'] w fun e w' => e = .returned (.bool true) ∧ Below w.heap.size w w' := by
  have z1 := fun w => sz_c a m cap 1048576 (by omega) (by omega) (by omega) w
  have z2 := fun w => sz_c a' m' cap' (1048576 - (m : Int)) (by omega) (by omega) (by omega) w
  rw [if_pos (by omega)] at z1 z2
  have d1 : decide ((1048576 : Int) - (m : Int) < 0) = false := decide_eq_false (by omega)
  have d2 : decide ((1048576 : Int) - (m : Int) - (m' : Int) < 0) = false := decide_eq_false (by omega)
  have cA := fun W h => toCommandS_c a m cap l hl (by omega) W h
  have cB := fun W h => toCommandS_c a' m' cap' l' hl' (by omega) W h
  have s1 := fun (w : World) (g1 g2 : Nat) (h1 : CAt w g1 0 l) (h2 : CAt w g2 0 l') => (specSame w g1 0 m m g2 0 m' m' l l' hl hl' (by omega) (by omega) h1 h2).mono (R' := fun e w' => e = .returned (.bool (all6 l l')) ∧ Below w.heap.size w w') (fun e w' ⟨he, nq, hw⟩ => ⟨he, by rw [hw]; exact below_drewN w nq⟩)
  have s2 := fun (w : World) (g1 g2 : Nat) (h1 : CAt w g1 0 l) (h2 : CAt w g2 0 l') => (implSame w g1 0 m m g2 0 m' m' l l' hl hl' (by omega) (by omega) h1 h2).mono (R' := fun e w' => e = .returned (.bool (all6 l l')) ∧ Below w.heap.size w w') (fun e w' ⟨he, nq, hw⟩ => ⟨he, by rw [hw]; exact below_drewN w nq⟩)
  have q1 := fun (w : World) (g1 g2 : Nat) h1 h2 k1 k2 => eqCommandS_same w g1 g2 m m m l hl (by omega) h1 h2 k1 k2
  have q2 := fun (w : World) (g1 g2 : Nat) h1 h2 k1 k2 => eqCommandS_same w g1 g2 m' m' m' l' hl' (by omega) h1 h2 k1 k2
  generalize all6 l l' = R at s1 s2
  clear hl hl'
  go_enter Try.func3, Try.ntmps3
  go_wp2_with fail
  refine (z1 _).mono ?_
  rintro e wA ⟨rfl, rfl⟩
  go_wp2_with fail
  refine (z2 _).mono ?_
  rintro e W ⟨rfl, rfl⟩
  go_wp2_with fail
  refine (cA _ h).mono ?_
  rintro e w1 ⟨rfl, C1, l1, b1⟩
  go_wp2_with fail
  refine (cB _ (h'.later b1)).mono ?_
  rintro e w2 ⟨rfl, C2, l2, b2⟩
  have A2 := b1.trans (b2.mono b1.size)
  have C1' := C1.later l1 b2
  go_wp2_with fail
  refine (s1 _ _ _ C1' C2).mono ?_
  rintro e w3 ⟨rfl, b3⟩
  have A3 := A2.trans (b3.mono A2.size)
  clear C1 C2 C1' l1 l2
  go_wp2_with fail
  refine (cA _ (h.later A3)).mono ?_
  rintro e w4 ⟨rfl, C4, l4, b4⟩
  have A4 := A3.trans (b4.mono A3.size)
  go_wp2_with fail
  refine (cB _ (h'.later A4)).mono ?_
  rintro e w5 ⟨rfl, C5, l5, b5⟩
  have A5 := A4.trans (b5.mono A4.size)
  replace C4 := C4.later l4 b5
  replace l4 := Nat.lt_of_lt_of_le l4 b5.size
  go_wp2_with fail
  refine (s2 _ _ _ C4 C5).mono ?_
  rintro e w6 ⟨rfl, b6⟩
  have A6 := A5.trans (b6.mono A5.size)
  replace C4 := C4.later l4 b6
  replace l4 := Nat.lt_of_lt_of_le l4 b6.size
  replace C5 := C5.later l5 b6
  replace l5 := Nat.lt_of_lt_of_le l5 b6.size
  have hRR : (R != R) = false := by cases R <;> rfl
  go_wp2_with fail
  refine (cA _ (h.later A6)).mono ?_
  rintro e w7 ⟨rfl, C7, l7, b7⟩
  have A7 := A6.trans (b7.mono A6.size)
  replace C4 := C4.later l4 b7
  replace l4 := Nat.lt_of_lt_of_le l4 b7.size
  replace C5 := C5.later l5 b7
  replace l5 := Nat.lt_of_lt_of_le l5 b7.size
  go_wp2_with fail
  refine (q1 _ _ _ l4 l7 C4 C7).mono ?_
  rintro e w8 ⟨rfl, b8⟩
  have A8 := A7.trans (b8.mono A7.size)
  replace C5 := C5.later l5 b8
  replace l5 := Nat.lt_of_lt_of_le l5 b8.size
  clear C4 l4 C7 l7
  go_wp2_with fail
  refine (cB _ (h'.later A8)).mono ?_
  rintro e w9 ⟨rfl, C9, l9, b9⟩
  have A9 := A8.trans (b9.mono A8.size)
  replace C5 := C5.later l5 b9
  replace l5 := Nat.lt_of_lt_of_le l5 b9.size
  go_wp2_with fail
  refine (q2 _ _ _ l5 l9 C5 C9).mono ?_
  rintro e w10 ⟨rfl, b10⟩
  have A10 := A9.trans (b10.mono A9.size)
  go_wp2
  go_ret
  exact ⟨rfl, A10⟩
theorem walk_fnExactSameCommands (a : Option Addr) (m cap : Nat) (a' : Option Addr) (m' cap' : Nat) (l l' : List K6) (hx : m ≤ maxLen) (hx' : m' ≤ maxLen) (hl : l.length = m) (hl' : l'.length = m') (w : World) (h : ArgC w a l) (h' : ArgC w a' l') :
    Calls Try.prog 3 #[.slice a m cap, .slice a' m' cap'] w fun e w' => e = .returned (.bool true) ∧ Below w.heap.size w w' := by
  unfold maxLen at hx hx'
  by_cases h1 : m ≤ 1048576
  · by_cases h2 : m + m' ≤ 1048576
    · exact exactSame a m cap a' m' cap' l l' hl hl' h2 w h h'
    · have z1 := fun w => sz_c a m cap 1048576 (by omega) (by omega) (by omega) w
      have z2 := fun w => sz_c a' m' cap' (1048576 - (m : Int)) (by omega) (by omega) (by omega) w
      rw [if_pos (by omega)] at z1
      rw [if_neg (by omega)] at z2
      have d1 : decide ((1048576 : Int) - (m : Int) < 0) = false := decide_eq_false (by omega)
      clear h h'
      go_enter Try.func3, Try.ntmps3
      go_wp2_with fail
      refine (z1 _).mono ?_
      rintro e wA ⟨rfl, rfl⟩
      go_wp2_with fail
      refine (z2 _).mono ?_
      rintro e W ⟨rfl, rfl⟩
      go_wp2
      go_ret
      exact ⟨rfl, Below.refl _ _⟩
  · have z1 := fun w => sz_c a m cap 1048576 (by omega) (by omega) (by omega) w
    rw [if_neg (by omega)] at z1
    clear h h'
    go_enter Try.func3, Try.ntmps3
    go_wp2_with fail
    refine (z1 _).mono ?_
    rintro e wA ⟨rfl, rfl⟩
    go_wp2
    go_ret
    exact ⟨rfl, Below.refl _ _⟩
end Go.Proofs.Ytimpmfjlhpkibaa
