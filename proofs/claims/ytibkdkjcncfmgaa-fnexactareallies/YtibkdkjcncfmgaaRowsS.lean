/- Contracts of the exact laws' own helpers on seat and lists of them, and what such a list that came in is. Condition: the lists have at most 1048576 members. -/
import Derived.Test.YtibkdkjcncfmgaaRowS
import Derived.Test.YtibkdkjcncfmgaaOpenCmd
import Derived.Test.YtibkdkjcncfmgaaLater
import Derived.Test.YtibkdkjcncfmgaaOne
import Derived.Deep.Strs
namespace Go.Proofs.Ytibkdkjcncfmgaa
open Go.ChangeShapes Go.WideShapes Go.ChangeAt Go.RowKit
set_option linter.unusedVariables false

theorem toSeat_c (x : K4) (w : World) :
    Calls Try.prog 133 #[.agg x.v] w fun e w' => e = .returned (.agg x.v) ∧ Below w.heap.size w w' := by
  go_enter Try.func133, Try.ntmps133
  go_wp2
  refine bodyPost_ret (v := .agg x.v) ?_ rfl ⟨rfl, ?_⟩
  · simp [results, Try.results133, go_sem]
    done
  · first | exact Below.refl _ _ | exact (Below.refl _ _).alloc (Nat.le_refl _) _ | exact ((Below.refl _ _).alloc (Nat.le_refl _) _).alloc (by simp only [size_new]; omega) _ | exact (((Below.refl _ _).alloc (Nat.le_refl _) _).alloc (by simp only [size_new]; omega) _).alloc (by simp only [size_new]; omega) _ | exact ((((Below.refl _ _).alloc (Nat.le_refl _) _).alloc (by simp only [size_new]; omega) _).alloc (by simp only [size_new]; omega) _).alloc (by simp only [size_new]; omega) _
theorem eqSeat_same (x : K4) (w : World) :
    Calls Try.prog 107 #[.agg x.v, .agg x.v] w fun e w' => e = .returned (.bool true) ∧ Below w.heap.size w w' := by
  go_enter Try.func107, Try.ntmps107
  go_wp2
  go_ret
  first | exact ⟨rfl, Below.refl _ _⟩ | exact ⟨rfl, (Below.refl _ _).alloc (Nat.le_refl _) _⟩ | exact ⟨rfl, ((Below.refl _ _).alloc (Nat.le_refl _) _).alloc (by simp only [size_new]; omega) _⟩ | exact ⟨rfl, (((Below.refl _ _).alloc (Nat.le_refl _) _).alloc (by simp only [size_new]; omega) _).alloc (by simp only [size_new]; omega) _⟩ | exact ⟨rfl, ((((Below.refl _ _).alloc (Nat.le_refl _) _).alloc (by simp only [size_new]; omega) _).alloc (by simp only [size_new]; omega) _).alloc (by simp only [size_new]; omega) _⟩
theorem szS_c (a : Option Addr) (m cap : Nat) (L : Int) (h0 : 0 ≤ L) (h1 : L ≤ 1048576) (hb : (m : Int) ≤ 9223372036854775807) (w : World) :
    Calls Try.prog 87 #[.slice a m cap, .int .i64 L] w fun e w' => e = .returned (.int .i64 (if (m : Int) ≤ L then L - m else -1)) ∧ w' = w := by
  by_cases h : (m : Int) ≤ L
  · rw [if_pos h]
    have hd : decide (L - (m : Int) < 0) = false := decide_eq_false (by omega)
    go_enter Try.func87, Try.ntmps87
    go_wp2
    go_ret
    exact ⟨rfl, rfl⟩
  · rw [if_neg h]
    have hd : L - (m : Int) < 0 := by omega
    go_enter Try.func87, Try.ntmps87
    go_wp2
    go_ret
    exact ⟨rfl, rfl⟩
set_option maxHeartbeats 4000000 in
theorem toSeatS_c (a : Option Addr) (m cap : Nat) (l : List K4) (hl : l.length = m) (hm : m ≤ 1048576) (w : World) (h : ArgS w a l) :
    Calls Try.prog 91 #[.slice a m cap] w fun e w' => e = .returned (.slice (some ⟨w.heap.size, 0, none⟩) m m) ∧ w'.rowIs w.heap.size 82 (m * 4) (rowS l m) ∧ Below w.heap.size w w' := by
  have Hl : Hid (l.length = m) := hl
  have H : Hid (ArgS w a l) := h
  clear hl h
  have hmk := fun (W : World) => makeS m hm W
  go_enter Try.func91, Try.ntmps91
  go_wp2
  go_loopw [4] (fun i wr => ∃ k : Nat, k ≤ m ∧ i = .int .i64 k ∧ wr.rowIs w.heap.size 82 (m * 4) (rowS l k) ∧ Below w.heap.size w wr) (fun i _ => m - (intOf i).toNat)
  case atStart =>
    refine ⟨0, Nat.zero_le _, rfl, ?_, (Below.refl _ _).alloc (Nat.le_refl _) _⟩
    exact (row0S w (m * 4) 82).congr (fun i _ => by unfold rowS; rw [if_neg (by omega)])
  case round =>
    obtain ⟨k, hk, rfl, hrow, hbel⟩ := hrel
    by_cases hlt : k < m
    · have hlt' : (k : Int) < (m : Int) := by omega
      obtain ⟨x, hx⟩ : ∃ x, l[k]? = some x := ⟨_, List.getElem?_eq_getElem (by have := Hl.out; omega)⟩
      have HG : Hid (l.getD k K4.z = x) := by show _ = _; rw [List.getD_eq_getElem?_getD, hx]; rfl
      rcases H.out with h0 | ⟨b, off, rfl, hbl, hat⟩
      · have := Hl.out; rw [h0] at this; simp at this; omega
      · obtain ⟨a0, a1, a2, a3⟩ := hat.all hx
        replace a0 := (hbel.cell (p := ⟨b, off + k * 4, none⟩) hbl).trans a0
        replace a1 := (hbel.cell (p := ⟨b, off + k * 4 + 1, none⟩) hbl).trans a1
        replace a2 := (hbel.cell (p := ⟨b, off + k * 4 + 2, none⟩) hbl).trans a2
        replace a3 := (hbel.cell (p := ⟨b, off + k * 4 + 3, none⟩) hbl).trans a3
        clear hx hat
        go_wp2_with fail
        refine (toSeat_c x _).mono ?_
        rintro e w1 ⟨rfl, k1⟩
        have hrow1 := hrow.of_block (k1.block w.heap.size hrow.lt)
        have hbel1 := hbel.trans (k1.mono hbel.size)
        have d0 : w1.cell? ⟨w.heap.size, k * 4, none⟩ = some (.int .i64 0) := by rw [hrow1.cell (by omega)]; exact congrArg some (rowS_at l k 0 (by omega))
        have d1 : w1.cell? ⟨w.heap.size, k * 4 + 1, none⟩ = some (.int .i64 0) := by rw [hrow1.cell (by omega), rowS_at _ _ _ (by omega)]; rfl
        have d2 : w1.cell? ⟨w.heap.size, k * 4 + 2, none⟩ = some (.int .i64 0) := by rw [hrow1.cell (by omega), rowS_at _ _ _ (by omega)]; rfl
        have d3 : w1.cell? ⟨w.heap.size, k * 4 + 3, none⟩ = some (.int .i64 0) := by rw [hrow1.cell (by omega), rowS_at _ _ _ (by omega)]; rfl
        have z0 := hrow1.frozen (k * 4)
        have z1 := hrow1.frozen (k * 4 + 1)
        have z2 := hrow1.frozen (k * 4 + 2)
        have z3 := hrow1.frozen (k * 4 + 3)
        have rl := hrow1.lt
        clear a0 a1 a2 a3 hrow
        go_wp2_with fail
        go_roundw
        case rel => exact ⟨k + 1, by omega, by go_num, ((((hrow1.set (k * 4) (.int .i64 x.c0)).set (k * 4 + 1) (.int .i64 x.c1)).set (k * 4 + 2) (.int .i64 x.c2)).set (k * 4 + 3) (.int .i64 x.c3)).congr (fun j _ => rowS_set l k _ HG.out j), ((((hbel1.setCell (Nat.le_refl _) _).setCell (Nat.le_refl _) _).setCell (Nat.le_refl _) _).setCell (Nat.le_refl _) _)⟩
        case measure => simp [intOf]; omega
    · obtain rfl : k = m := by omega
      go_wp2
      go_ret
      exact ⟨rfl, hrow, hbel⟩
theorem rowS_is {w : World} {g : Nat} {l : List K4} {m : Nat} {t : TypeId} (hl : l.length = m) (hrow : w.rowIs g t (m * 4) (rowS l m)) : SAt w g 0 l := fun i x hi f hf => by
  have hlt : i < m := by rw [← hl]; exact (List.getElem?_eq_some_iff.1 hi).1
  have hg : l.getD i K4.z = x := by rw [List.getD_eq_getElem?_getD, hi]; rfl
  rw [hrow.cell (by omega)]
  unfold rowS
  rw [if_pos (by omega), show (0 + i * 4 + f) / 4 = i from by omega, show (0 + i * 4 + f) % 4 = f from by omega, hg]
set_option maxHeartbeats 4000000 in
theorem eqSeatS_same (w : World) (g1 o1 g2 o2 k1 k2 m : Nat) (l : List K4) (hl : l.length = m) (hm : m ≤ 1048576) (hg1 : g1 < w.heap.size) (hg2 : g2 < w.heap.size) (h1 : SAt w g1 o1 l) (h2 : SAt w g2 o2 l) :
    Calls Try.prog 100 #[.slice (some ⟨g1, o1, none⟩) m k1, .slice (some ⟨g2, o2, none⟩) m k2] w fun e w' => e = .returned (.bool true) ∧ Below w.heap.size w w' := by
  have H1 : Hid (SAt w g1 o1 l) := h1
  have H2 : Hid (SAt w g2 o2 l) := h2
  have Hl : Hid (l.length = m) := hl
  clear h1 h2 hl
  go_enter Try.func100, Try.ntmps100
  go_wp2
  go_loopw [5] (fun i wr => ∃ k : Nat, k ≤ m ∧ i = .int .i64 k ∧ Below w.heap.size w wr) (fun i _ => m - (intOf i).toNat)
  case atStart => exact ⟨0, Nat.zero_le _, rfl, Below.refl _ _⟩
  case round =>
    obtain ⟨k, hk, rfl, hbel⟩ := hrel
    by_cases hlt : k < m
    · have hlt' : (k : Int) < (m : Int) := by omega
      obtain ⟨x, hx⟩ : ∃ x, l[k]? = some x := ⟨_, List.getElem?_eq_getElem (by have := Hl.out; omega)⟩
      obtain ⟨a0, a1, a2, a3⟩ := (H1.out.later hg1 hbel).all hx
      obtain ⟨b0, b1, b2, b3⟩ := (H2.out.later hg2 hbel).all hx
      have hl1 : g1 < wr.heap.size := Nat.lt_of_lt_of_le hg1 hbel.size
      have hl2 : g2 < wr.heap.size := Nat.lt_of_lt_of_le hg2 hbel.size
      have A0 := fun n => Later.cell hl1 a0 n
      have A1 := fun n => Later.cell hl1 a1 n
      have A2 := fun n => Later.cell hl1 a2 n
      have A3 := fun n => Later.cell hl1 a3 n
      have B0 := fun n => Later.cell hl2 b0 n
      have B1 := fun n => Later.cell hl2 b1 n
      have B2 := fun n => Later.cell hl2 b2 n
      have B3 := fun n => Later.cell hl2 b3 n
      have cE := fun w => eqSeat_same x w
      clear hx
      go_wp2_with fail
      refine wp_region_later (by kernel_rfl) (by kernel_rfl) (fun hne => ?_)
      repeat (go_big_quiet_step (first | (go_at_call 107; exact Later.call (cE _))))
      refine wpQuiet_nil ?_
      rintro _ ⟨nn, rfl⟩
      have hb2 := hbel.trans (nn.bel.mono hbel.size)
      clear A0 B0 a0 b0 A1 B1 a1 b1 A2 B2 a2 b2 A3 B3 a3 b3 hne
      go_wp2_with fail
      go_roundw
      case rel => exact ⟨k + 1, by omega, by go_num, hb2⟩
      case measure => simp [intOf]; omega
    · go_wp2
      go_ret
      exact ⟨rfl, hbel⟩
set_option maxRecDepth 20000 in
theorem argS_open {H : Type} {enc : TypeId × Value → H} {w : World} {sp : Nat → Bool} {held : Bool} {cs : List Value} {fuel : Nat} {x : DataW H × List MemPlace}
    (hf : DataW.trod enc Try.prog w 0 sp held fuel 61 cs = some x) : ∃ (a : Option Addr) (len cap : Nat) (l : List K4), cs = [.slice a len cap] ∧ len ≤ maxLen ∧ l.length = len ∧ ArgS w a l := by
  have c6 : Try.prog.cellsOf 167 = 4 := by kernel_rfl
  rcases Go.Deep.open_slice Try.underlying61 hf with ⟨hcs, _⟩ | ⟨x, l0, c0, m, n, D, Pl, hcs, _, hl, hm, hmm, _, hel⟩
  · exact ⟨none, 0, 0, [], hcs, Nat.zero_le _, rfl, .inl rfl⟩
  · have hlm : l0 ≤ m := by rw [hmm]; split <;> omega
    suffices h : ∃ l : List K4, l.length = l0 ∧ ArgS w (some x) l from ⟨some x, l0, c0, h.choose, hcs, by omega, h.choose_spec.1, h.choose_spec.2⟩
    obtain ⟨len, rfl⟩ : ∃ len, len = l0 := ⟨_, rfl⟩
    have key : ∀ i, i < len → ∃ y : K4, ∀ f, f < 4 → w.cell? ((x.add (i * 4)).add f) = some (y.f f) := by
      intro i hi
      obtain ⟨cs', h1, h2⟩ := hel i (by omega)
      rw [c6] at h1
      obtain ⟨_, hlen, hc⟩ := World.cells?_some h1
      obtain ⟨zs, hz, hzl, _⟩ := cells_i64 (e := 2) Try.underlying167 Try.underlying2 (by kernel_rfl) (by kernel_rfl) (by kernel_rfl) h2
      have hz6 : zs.length = 4 := by rw [← List.length_map (f := Value.int .i64), ← hz]; exact hlen
      match zs, hz6 with
      | [y0, y1, y2, y3], _ =>
        refine ⟨⟨y0, y1, y2, y3⟩, fun f hf => ?_⟩
        rw [hc f hf, hz]
        have h6 : f = 0 ∨ f = 1 ∨ f = 2 ∨ f = 3 := by omega
        rcases h6 with rfl | rfl | rfl | rfl <;> rfl
    refine ⟨(List.range len).map fun i => if h : i < len then Classical.choose (key i h) else K4.z, by simp, ?_⟩
    by_cases h0 : len = 0
    · subst h0; exact .inl rfl
    · obtain ⟨b, off, spot⟩ := x
      obtain ⟨y, hy⟩ := key 0 (by omega)
      have hc := hy 0 (by omega)
      have hspot : spot = none := by simpa [Addr.add] using World.cell?_spot hc
      subst hspot
      refine .inr ⟨b, off, rfl, by have := cell_lt2 hc; simpa [Addr.add] using this, fun i z hi f hf => ?_⟩
      have hlt : i < len := by simpa using (List.getElem?_eq_some_iff.1 hi).1
      have hz : z = Classical.choose (key i hlt) := by
        rw [List.getElem?_map, List.getElem?_range hlt] at hi
        simp [hlt] at hi
        exact hi.symm
      have := Classical.choose_spec (key i hlt) f hf
      rw [← hz, add_plain', add_plain'] at this
      exact this
end Go.Proofs.Ytibkdkjcncfmgaa
