/- Texts of mine put together (a claim holds at most 60 files): RowsF. -/
import Derived.Test.YtepjkcfheejlbaaGreatDoorPartT01
import Derived.Test.YtepjkcfheejlbaaGreatDoorPartT00

/- RowsF -/
/- Contracts of the exact laws' own helpers on field and lists of them, and what such a list that came in is. Condition: the lists have at most 1048576 members. -/
section
namespace Go.Proofs.YtepjkcfheejlbaaGreatDoor
open Go.ChangeShapes Go.WideShapes Go.ChangeAt Go.RowKit
set_option linter.unusedVariables false

theorem toField_c (x : K3) (w : World) :
    Calls Tryz.prog 92 #[.agg x.v] w fun e w' => e = .returned (.agg x.v) ∧ Below w.heap.size w w' := by
  go_enter Tryz.func92, Tryz.ntmps92
  go_wp2
  refine bodyPost_ret (v := .agg x.v) ?_ rfl ⟨rfl, ?_⟩
  · simp [results, Tryz.results92, go_sem]
    done
  · first | exact Below.refl _ _ | exact (Below.refl _ _).alloc (Nat.le_refl _) _ | exact ((Below.refl _ _).alloc (Nat.le_refl _) _).alloc (by simp only [size_new]; omega) _ | exact (((Below.refl _ _).alloc (Nat.le_refl _) _).alloc (by simp only [size_new]; omega) _).alloc (by simp only [size_new]; omega) _ | exact ((((Below.refl _ _).alloc (Nat.le_refl _) _).alloc (by simp only [size_new]; omega) _).alloc (by simp only [size_new]; omega) _).alloc (by simp only [size_new]; omega) _
theorem eqField_same (x : K3) (w : World) :
    Calls Tryz.prog 94 #[.agg x.v, .agg x.v] w fun e w' => e = .returned (.bool true) ∧ Below w.heap.size w w' := by
  go_enter Tryz.func94, Tryz.ntmps94
  go_wp2
  go_ret
  first | exact ⟨rfl, Below.refl _ _⟩ | exact ⟨rfl, (Below.refl _ _).alloc (Nat.le_refl _) _⟩ | exact ⟨rfl, ((Below.refl _ _).alloc (Nat.le_refl _) _).alloc (by simp only [size_new]; omega) _⟩ | exact ⟨rfl, (((Below.refl _ _).alloc (Nat.le_refl _) _).alloc (by simp only [size_new]; omega) _).alloc (by simp only [size_new]; omega) _⟩ | exact ⟨rfl, ((((Below.refl _ _).alloc (Nat.le_refl _) _).alloc (by simp only [size_new]; omega) _).alloc (by simp only [size_new]; omega) _).alloc (by simp only [size_new]; omega) _⟩
theorem szF_c (a : Option Addr) (m cap : Nat) (L : Int) (h0 : 0 ≤ L) (h1 : L ≤ 1048576) (hb : (m : Int) ≤ 9223372036854775807) (w : World) :
    Calls Tryz.prog 59 #[.slice a m cap, .int .i64 L] w fun e w' => e = .returned (.int .i64 (if (m : Int) ≤ L then L - m else -1)) ∧ w' = w := by
  by_cases h : (m : Int) ≤ L
  · rw [if_pos h]
    have hd : decide (L - (m : Int) < 0) = false := decide_eq_false (by omega)
    go_enter Tryz.func59, Tryz.ntmps59
    go_wp2
    go_ret
    exact ⟨rfl, rfl⟩
  · rw [if_neg h]
    have hd : L - (m : Int) < 0 := by omega
    go_enter Tryz.func59, Tryz.ntmps59
    go_wp2
    go_ret
    exact ⟨rfl, rfl⟩
set_option maxHeartbeats 4000000 in
theorem toFieldS_c (a : Option Addr) (m cap : Nat) (l : List K3) (hl : l.length = m) (hm : m ≤ 1048576) (w : World) (h : ArgF w a l) :
    Calls Tryz.prog 61 #[.slice a m cap] w fun e w' => e = .returned (.slice (some ⟨w.heap.size, 0, none⟩) m m) ∧ w'.rowIs w.heap.size 90 (m * 3) (rowF l m) ∧ Below w.heap.size w w' := by
  have Hl : Hid (l.length = m) := hl
  have H : Hid (ArgF w a l) := h
  clear hl h
  have hmk := fun (W : World) => makeF m hm W
  go_enter Tryz.func61, Tryz.ntmps61
  go_wp2
  go_loopw [4] (fun i wr => ∃ k : Nat, k ≤ m ∧ i = .int .i64 k ∧ wr.rowIs w.heap.size 90 (m * 3) (rowF l k) ∧ Below w.heap.size w wr) (fun i _ => m - (intOf i).toNat)
  case atStart =>
    refine ⟨0, Nat.zero_le _, rfl, ?_, (Below.refl _ _).alloc (Nat.le_refl _) _⟩
    exact (row0F w (m * 3) 90).congr (fun i _ => by unfold rowF; rw [if_neg (by omega)])
  case round =>
    obtain ⟨k, hk, rfl, hrow, hbel⟩ := hrel
    by_cases hlt : k < m
    · have hlt' : (k : Int) < (m : Int) := by omega
      obtain ⟨x, hx⟩ : ∃ x, l[k]? = some x := ⟨_, List.getElem?_eq_getElem (by have := Hl.out; omega)⟩
      have HG : Hid (l.getD k K3.z = x) := by show _ = _; rw [List.getD_eq_getElem?_getD, hx]; rfl
      rcases H.out with h0 | ⟨b, off, rfl, hbl, hat⟩
      · have := Hl.out; rw [h0] at this; simp at this; omega
      · obtain ⟨a0, a1, a2⟩ := hat.all hx
        replace a0 := (hbel.cell (p := ⟨b, off + k * 3, none⟩) hbl).trans a0
        replace a1 := (hbel.cell (p := ⟨b, off + k * 3 + 1, none⟩) hbl).trans a1
        replace a2 := (hbel.cell (p := ⟨b, off + k * 3 + 2, none⟩) hbl).trans a2
        clear hx hat
        go_wp2_with fail
        refine (toField_c x _).mono ?_
        rintro e w1 ⟨rfl, k1⟩
        have hrow1 := hrow.of_block (k1.block w.heap.size hrow.lt)
        have hbel1 := hbel.trans (k1.mono hbel.size)
        have d0 : w1.cell? ⟨w.heap.size, k * 3, none⟩ = some (.int .i64 0) := by rw [hrow1.cell (by omega)]; exact congrArg some (rowF_at l k 0)
        have d1 : w1.cell? ⟨w.heap.size, k * 3 + 1, none⟩ = some (.int .i64 0) := by rw [hrow1.cell (by omega), rowF_at]
        have d2 : w1.cell? ⟨w.heap.size, k * 3 + 2, none⟩ = some (.int .i64 0) := by rw [hrow1.cell (by omega), rowF_at]
        have z0 := hrow1.frozen (k * 3)
        have z1 := hrow1.frozen (k * 3 + 1)
        have z2 := hrow1.frozen (k * 3 + 2)
        have rl := hrow1.lt
        clear a0 a1 a2 hrow
        go_wp2_with fail
        go_roundw
        case rel => exact ⟨k + 1, by omega, by go_num, (((hrow1.set (k * 3) (.int .i64 x.c0)).set (k * 3 + 1) (.int .i64 x.c1)).set (k * 3 + 2) (.int .i64 x.c2)).congr (fun j _ => rowF_set l k _ HG.out j), (((hbel1.setCell (Nat.le_refl _) _).setCell (Nat.le_refl _) _).setCell (Nat.le_refl _) _)⟩
        case measure => simp [intOf]; omega
    · obtain rfl : k = m := by omega
      go_wp2
      go_ret
      exact ⟨rfl, hrow, hbel⟩
theorem rowF_is {w : World} {g : Nat} {l : List K3} {m : Nat} {t : TypeId} (hl : l.length = m) (hrow : w.rowIs g t (m * 3) (rowF l m)) : FAt w g 0 l := fun i x hi f hf => by
  have hlt : i < m := by rw [← hl]; exact (List.getElem?_eq_some_iff.1 hi).1
  have hg : l.getD i K3.z = x := by rw [List.getD_eq_getElem?_getD, hi]; rfl
  rw [hrow.cell (by omega)]
  unfold rowF
  rw [if_pos (by omega), show (0 + i * 3 + f) / 3 = i from by omega, show (0 + i * 3 + f) % 3 = f from by omega, hg]
set_option maxHeartbeats 4000000 in
theorem eqFieldS_same (w : World) (g1 o1 g2 o2 k1 k2 m : Nat) (l : List K3) (hl : l.length = m) (hm : m ≤ 1048576) (hg1 : g1 < w.heap.size) (hg2 : g2 < w.heap.size) (h1 : FAt w g1 o1 l) (h2 : FAt w g2 o2 l) :
    Calls Tryz.prog 63 #[.slice (some ⟨g1, o1, none⟩) m k1, .slice (some ⟨g2, o2, none⟩) m k2] w fun e w' => e = .returned (.bool true) ∧ Below w.heap.size w w' := by
  have H1 : Hid (FAt w g1 o1 l) := h1
  have H2 : Hid (FAt w g2 o2 l) := h2
  have Hl : Hid (l.length = m) := hl
  clear h1 h2 hl
  go_enter Tryz.func63, Tryz.ntmps63
  go_wp2
  go_loopw [5] (fun i wr => ∃ k : Nat, k ≤ m ∧ i = .int .i64 k ∧ Below w.heap.size w wr) (fun i _ => m - (intOf i).toNat)
  case atStart => exact ⟨0, Nat.zero_le _, rfl, Below.refl _ _⟩
  case round =>
    obtain ⟨k, hk, rfl, hbel⟩ := hrel
    by_cases hlt : k < m
    · have hlt' : (k : Int) < (m : Int) := by omega
      obtain ⟨x, hx⟩ : ∃ x, l[k]? = some x := ⟨_, List.getElem?_eq_getElem (by have := Hl.out; omega)⟩
      obtain ⟨a0, a1, a2⟩ := (H1.out.later hg1 hbel).all hx
      obtain ⟨b0, b1, b2⟩ := (H2.out.later hg2 hbel).all hx
      have hl1 : g1 < wr.heap.size := Nat.lt_of_lt_of_le hg1 hbel.size
      have hl2 : g2 < wr.heap.size := Nat.lt_of_lt_of_le hg2 hbel.size
      have A0 := fun n => Later.cell hl1 a0 n
      have A1 := fun n => Later.cell hl1 a1 n
      have A2 := fun n => Later.cell hl1 a2 n
      have B0 := fun n => Later.cell hl2 b0 n
      have B1 := fun n => Later.cell hl2 b1 n
      have B2 := fun n => Later.cell hl2 b2 n
      have cE := fun w => eqField_same x w
      clear hx
      go_wp2_with fail
      refine wp_region_later (by kernel_rfl) (by kernel_rfl) (fun hne => ?_)
      repeat (go_big_quiet_step (first | (go_at_call 94; exact Later.call (cE _))))
      refine wpQuiet_nil ?_
      rintro _ ⟨nn, rfl⟩
      have hb2 := hbel.trans (nn.bel.mono hbel.size)
      clear A0 B0 a0 b0 A1 B1 a1 b1 A2 B2 a2 b2 hne
      go_wp2_with fail
      go_roundw
      case rel => exact ⟨k + 1, by omega, by go_num, hb2⟩
      case measure => simp [intOf]; omega
    · go_wp2
      go_ret
      exact ⟨rfl, hbel⟩
theorem argF_open {H : Type} {enc : TypeId × Value → H} {w : World} {sp : Nat → Bool} {held : Bool} {cs : List Value} {fuel : Nat} {x : DataW H × List MemPlace}
    (hf : DataW.trod enc Tryz.prog w 0 sp held fuel 48 cs = some x) : ∃ (a : Option Addr) (len cap : Nat) (l : List K3), cs = [.slice a len cap] ∧ len ≤ maxLen ∧ l.length = len ∧ ArgF w a l := by
  have c6 : Tryz.prog.cellsOf 130 = 3 := by kernel_rfl
  rcases Go.Deep.open_slice Tryz.underlying48 hf with ⟨hcs, _⟩ | ⟨x, l0, c0, m, n, D, Pl, hcs, _, hl, hm, hmm, _, hel⟩
  · exact ⟨none, 0, 0, [], hcs, Nat.zero_le _, rfl, .inl rfl⟩
  · have hlm : l0 ≤ m := by rw [hmm]; split <;> omega
    suffices h : ∃ l : List K3, l.length = l0 ∧ ArgF w (some x) l from ⟨some x, l0, c0, h.choose, hcs, by omega, h.choose_spec.1, h.choose_spec.2⟩
    obtain ⟨len, rfl⟩ : ∃ len, len = l0 := ⟨_, rfl⟩
    have key : ∀ i, i < len → ∃ y : K3, ∀ f, f < 3 → w.cell? ((x.add (i * 3)).add f) = some (.int .i64 (y.f f)) := by
      intro i hi
      obtain ⟨cs', h1, h2⟩ := hel i (by omega)
      rw [c6] at h1
      obtain ⟨_, hlen, hc⟩ := World.cells?_some h1
      obtain ⟨zs, hz, hzl, _⟩ := cells_i64 (e := 2) Tryz.underlying130 Tryz.underlying2 (by kernel_rfl) (by kernel_rfl) (by kernel_rfl) h2
      have hz6 : zs.length = 3 := by rw [← List.length_map (f := Value.int .i64), ← hz]; exact hlen
      match zs, hz6 with
      | [y0, y1, y2], _ =>
        refine ⟨⟨y0, y1, y2⟩, fun f hf => ?_⟩
        rw [hc f hf, hz]
        have h6 : f = 0 ∨ f = 1 ∨ f = 2 := by omega
        rcases h6 with rfl | rfl | rfl <;> rfl
    refine ⟨(List.range len).map fun i => if h : i < len then Classical.choose (key i h) else K3.z, by simp, ?_⟩
    by_cases h0 : len = 0
    · subst h0; exact .inl rfl
    · obtain ⟨b, off, spot⟩ := x
      obtain ⟨y, hy⟩ := key 0 (by omega)
      have hc := hy 0 (by omega)
      have hspot : spot = none := by simpa [Addr.add] using World.cell?_spot hc
      subst hspot
      refine .inr ⟨b, off, rfl, by have := cell_lt2 hc; simpa [Addr.add] using this, fun i z hi f hf => ?_⟩
      have hlt : i < len := by simpa using (List.getElem?_eq_some_iff.1 hi).1
      have hz : z = Classical.choose (key i hlt) := by
        rw [List.getElem?_map, List.getElem?_range hlt] at hi
        simp [hlt] at hi
        exact hi.symm
      have := Classical.choose_spec (key i hlt) f hf
      rw [← hz, add_plain', add_plain'] at this
      exact this
end Go.Proofs.YtepjkcfheejlbaaGreatDoor
end
