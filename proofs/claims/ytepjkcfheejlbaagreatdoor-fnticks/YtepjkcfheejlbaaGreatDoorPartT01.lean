/- Texts of mine put together (a claim holds at most 60 files): RowsU, RowF. -/
import Derived.Test.YtepjkcfheejlbaaGreatDoorPartT00
import Derived.Test.YtepjkcfheejlbaaGreatDoorRows
import Derived.WalkKit
import Derived.ProofKit
import Derived.OpenShut
import Derived.ShutString
import Derived.WalkLawsBesides
import Derived.ChangeOld
import Derived.Below
import Derived.OwnWalk
import Derived.Deep.OwnRows
import Derived.Deep.QuietTactic
import Derived.BigQuiet
import Derived.Deep.Light
import Derived.Laws.StructEq
import Derived.Laws.MakeOwn
import Derived.Deep.Slices

/- RowsU -/
/- Contracts of the exact laws' own helpers on unit and lists of them, and what such a list that came in is. Condition: the lists have at most 1048576 members. -/
section
namespace Go.Proofs.YtepjkcfheejlbaaGreatDoor
open Go.ChangeShapes Go.WideShapes Go.ChangeAt Go.RowKit
set_option linter.unusedVariables false

theorem toUnit_c (x : K10) (w : World) :
    Calls Tryz.prog 91 #[.agg x.v] w fun e w' => e = .returned (.agg x.v) ∧ Below w.heap.size w w' := by
  go_enter Tryz.func91, Tryz.ntmps91
  go_wp2
  refine bodyPost_ret (v := .agg x.v) ?_ rfl ⟨rfl, ?_⟩
  · simp [results, Tryz.results91, go_sem]
    done
  · first | exact Below.refl _ _ | exact (Below.refl _ _).alloc (Nat.le_refl _) _ | exact ((Below.refl _ _).alloc (Nat.le_refl _) _).alloc (by simp only [size_new]; omega) _ | exact (((Below.refl _ _).alloc (Nat.le_refl _) _).alloc (by simp only [size_new]; omega) _).alloc (by simp only [size_new]; omega) _ | exact ((((Below.refl _ _).alloc (Nat.le_refl _) _).alloc (by simp only [size_new]; omega) _).alloc (by simp only [size_new]; omega) _).alloc (by simp only [size_new]; omega) _
theorem eqUnit_same (x : K10) (w : World) :
    Calls Tryz.prog 93 #[.agg x.v, .agg x.v] w fun e w' => e = .returned (.bool true) ∧ Below w.heap.size w w' := by
  go_enter Tryz.func93, Tryz.ntmps93
  go_wp2
  go_ret
  first | exact ⟨rfl, Below.refl _ _⟩ | exact ⟨rfl, (Below.refl _ _).alloc (Nat.le_refl _) _⟩ | exact ⟨rfl, ((Below.refl _ _).alloc (Nat.le_refl _) _).alloc (by simp only [size_new]; omega) _⟩ | exact ⟨rfl, (((Below.refl _ _).alloc (Nat.le_refl _) _).alloc (by simp only [size_new]; omega) _).alloc (by simp only [size_new]; omega) _⟩ | exact ⟨rfl, ((((Below.refl _ _).alloc (Nat.le_refl _) _).alloc (by simp only [size_new]; omega) _).alloc (by simp only [size_new]; omega) _).alloc (by simp only [size_new]; omega) _⟩
theorem szU_c (a : Option Addr) (m cap : Nat) (L : Int) (h0 : 0 ≤ L) (h1 : L ≤ 1048576) (hb : (m : Int) ≤ 9223372036854775807) (w : World) :
    Calls Tryz.prog 58 #[.slice a m cap, .int .i64 L] w fun e w' => e = .returned (.int .i64 (if (m : Int) ≤ L then L - m else -1)) ∧ w' = w := by
  by_cases h : (m : Int) ≤ L
  · rw [if_pos h]
    have hd : decide (L - (m : Int) < 0) = false := decide_eq_false (by omega)
    go_enter Tryz.func58, Tryz.ntmps58
    go_wp2
    go_ret
    exact ⟨rfl, rfl⟩
  · rw [if_neg h]
    have hd : L - (m : Int) < 0 := by omega
    go_enter Tryz.func58, Tryz.ntmps58
    go_wp2
    go_ret
    exact ⟨rfl, rfl⟩
set_option maxHeartbeats 4000000 in
theorem toUnitS_c (a : Option Addr) (m cap : Nat) (l : List K10) (hl : l.length = m) (hm : m ≤ 1048576) (w : World) (h : ArgU w a l) :
    Calls Tryz.prog 60 #[.slice a m cap] w fun e w' => e = .returned (.slice (some ⟨w.heap.size, 0, none⟩) m m) ∧ w'.rowIs w.heap.size 87 (m * 10) (rowU l m) ∧ Below w.heap.size w w' := by
  have Hl : Hid (l.length = m) := hl
  have H : Hid (ArgU w a l) := h
  clear hl h
  have hmk := fun (W : World) => makeU m hm W
  go_enter Tryz.func60, Tryz.ntmps60
  go_wp2
  go_loopw [4] (fun i wr => ∃ k : Nat, k ≤ m ∧ i = .int .i64 k ∧ wr.rowIs w.heap.size 87 (m * 10) (rowU l k) ∧ Below w.heap.size w wr) (fun i _ => m - (intOf i).toNat)
  case atStart =>
    refine ⟨0, Nat.zero_le _, rfl, ?_, (Below.refl _ _).alloc (Nat.le_refl _) _⟩
    exact (row0U w (m * 10) 87).congr (fun i _ => by unfold rowU; rw [if_neg (by omega)])
  case round =>
    obtain ⟨k, hk, rfl, hrow, hbel⟩ := hrel
    by_cases hlt : k < m
    · have hlt' : (k : Int) < (m : Int) := by omega
      obtain ⟨x, hx⟩ : ∃ x, l[k]? = some x := ⟨_, List.getElem?_eq_getElem (by have := Hl.out; omega)⟩
      have HG : Hid (l.getD k K10.z = x) := by show _ = _; rw [List.getD_eq_getElem?_getD, hx]; rfl
      rcases H.out with h0 | ⟨b, off, rfl, hbl, hat⟩
      · have := Hl.out; rw [h0] at this; simp at this; omega
      · obtain ⟨a0, a1, a2, a3, a4, a5, a6, a7, a8, a9⟩ := hat.all hx
        replace a0 := (hbel.cell (p := ⟨b, off + k * 10, none⟩) hbl).trans a0
        replace a1 := (hbel.cell (p := ⟨b, off + k * 10 + 1, none⟩) hbl).trans a1
        replace a2 := (hbel.cell (p := ⟨b, off + k * 10 + 2, none⟩) hbl).trans a2
        replace a3 := (hbel.cell (p := ⟨b, off + k * 10 + 3, none⟩) hbl).trans a3
        replace a4 := (hbel.cell (p := ⟨b, off + k * 10 + 4, none⟩) hbl).trans a4
        replace a5 := (hbel.cell (p := ⟨b, off + k * 10 + 5, none⟩) hbl).trans a5
        replace a6 := (hbel.cell (p := ⟨b, off + k * 10 + 6, none⟩) hbl).trans a6
        replace a7 := (hbel.cell (p := ⟨b, off + k * 10 + 7, none⟩) hbl).trans a7
        replace a8 := (hbel.cell (p := ⟨b, off + k * 10 + 8, none⟩) hbl).trans a8
        replace a9 := (hbel.cell (p := ⟨b, off + k * 10 + 9, none⟩) hbl).trans a9
        clear hx hat
        go_wp2_with fail
        refine (toUnit_c x _).mono ?_
        rintro e w1 ⟨rfl, k1⟩
        have hrow1 := hrow.of_block (k1.block w.heap.size hrow.lt)
        have hbel1 := hbel.trans (k1.mono hbel.size)
        have d0 : w1.cell? ⟨w.heap.size, k * 10, none⟩ = some (.int .i64 0) := by rw [hrow1.cell (by omega)]; exact congrArg some (rowU_at l k 0)
        have d1 : w1.cell? ⟨w.heap.size, k * 10 + 1, none⟩ = some (.int .i64 0) := by rw [hrow1.cell (by omega), rowU_at]
        have d2 : w1.cell? ⟨w.heap.size, k * 10 + 2, none⟩ = some (.int .i64 0) := by rw [hrow1.cell (by omega), rowU_at]
        have d3 : w1.cell? ⟨w.heap.size, k * 10 + 3, none⟩ = some (.int .i64 0) := by rw [hrow1.cell (by omega), rowU_at]
        have d4 : w1.cell? ⟨w.heap.size, k * 10 + 4, none⟩ = some (.int .i64 0) := by rw [hrow1.cell (by omega), rowU_at]
        have d5 : w1.cell? ⟨w.heap.size, k * 10 + 5, none⟩ = some (.int .i64 0) := by rw [hrow1.cell (by omega), rowU_at]
        have d6 : w1.cell? ⟨w.heap.size, k * 10 + 6, none⟩ = some (.int .i64 0) := by rw [hrow1.cell (by omega), rowU_at]
        have d7 : w1.cell? ⟨w.heap.size, k * 10 + 7, none⟩ = some (.int .i64 0) := by rw [hrow1.cell (by omega), rowU_at]
        have d8 : w1.cell? ⟨w.heap.size, k * 10 + 8, none⟩ = some (.int .i64 0) := by rw [hrow1.cell (by omega), rowU_at]
        have d9 : w1.cell? ⟨w.heap.size, k * 10 + 9, none⟩ = some (.int .i64 0) := by rw [hrow1.cell (by omega), rowU_at]
        have z0 := hrow1.frozen (k * 10)
        have z1 := hrow1.frozen (k * 10 + 1)
        have z2 := hrow1.frozen (k * 10 + 2)
        have z3 := hrow1.frozen (k * 10 + 3)
        have z4 := hrow1.frozen (k * 10 + 4)
        have z5 := hrow1.frozen (k * 10 + 5)
        have z6 := hrow1.frozen (k * 10 + 6)
        have z7 := hrow1.frozen (k * 10 + 7)
        have z8 := hrow1.frozen (k * 10 + 8)
        have z9 := hrow1.frozen (k * 10 + 9)
        have rl := hrow1.lt
        clear a0 a1 a2 a3 a4 a5 a6 a7 a8 a9 hrow
        go_wp2_with fail
        go_roundw
        case rel => exact ⟨k + 1, by omega, by go_num, ((((((((((hrow1.set (k * 10) (.int .i64 x.c0)).set (k * 10 + 1) (.int .i64 x.c1)).set (k * 10 + 2) (.int .i64 x.c2)).set (k * 10 + 3) (.int .i64 x.c3)).set (k * 10 + 4) (.int .i64 x.c4)).set (k * 10 + 5) (.int .i64 x.c5)).set (k * 10 + 6) (.int .i64 x.c6)).set (k * 10 + 7) (.int .i64 x.c7)).set (k * 10 + 8) (.int .i64 x.c8)).set (k * 10 + 9) (.int .i64 x.c9)).congr (fun j _ => rowU_set l k _ HG.out j), ((((((((((hbel1.setCell (Nat.le_refl _) _).setCell (Nat.le_refl _) _).setCell (Nat.le_refl _) _).setCell (Nat.le_refl _) _).setCell (Nat.le_refl _) _).setCell (Nat.le_refl _) _).setCell (Nat.le_refl _) _).setCell (Nat.le_refl _) _).setCell (Nat.le_refl _) _).setCell (Nat.le_refl _) _)⟩
        case measure => simp [intOf]; omega
    · obtain rfl : k = m := by omega
      go_wp2
      go_ret
      exact ⟨rfl, hrow, hbel⟩
theorem rowU_is {w : World} {g : Nat} {l : List K10} {m : Nat} {t : TypeId} (hl : l.length = m) (hrow : w.rowIs g t (m * 10) (rowU l m)) : UAt w g 0 l := fun i x hi f hf => by
  have hlt : i < m := by rw [← hl]; exact (List.getElem?_eq_some_iff.1 hi).1
  have hg : l.getD i K10.z = x := by rw [List.getD_eq_getElem?_getD, hi]; rfl
  rw [hrow.cell (by omega)]
  unfold rowU
  rw [if_pos (by omega), show (0 + i * 10 + f) / 10 = i from by omega, show (0 + i * 10 + f) % 10 = f from by omega, hg]
set_option maxHeartbeats 4000000 in
theorem eqUnitS_same (w : World) (g1 o1 g2 o2 k1 k2 m : Nat) (l : List K10) (hl : l.length = m) (hm : m ≤ 1048576) (hg1 : g1 < w.heap.size) (hg2 : g2 < w.heap.size) (h1 : UAt w g1 o1 l) (h2 : UAt w g2 o2 l) :
    Calls Tryz.prog 62 #[.slice (some ⟨g1, o1, none⟩) m k1, .slice (some ⟨g2, o2, none⟩) m k2] w fun e w' => e = .returned (.bool true) ∧ Below w.heap.size w w' := by
  have H1 : Hid (UAt w g1 o1 l) := h1
  have H2 : Hid (UAt w g2 o2 l) := h2
  have Hl : Hid (l.length = m) := hl
  clear h1 h2 hl
  go_enter Tryz.func62, Tryz.ntmps62
  go_wp2
  go_loopw [5] (fun i wr => ∃ k : Nat, k ≤ m ∧ i = .int .i64 k ∧ Below w.heap.size w wr) (fun i _ => m - (intOf i).toNat)
  case atStart => exact ⟨0, Nat.zero_le _, rfl, Below.refl _ _⟩
  case round =>
    obtain ⟨k, hk, rfl, hbel⟩ := hrel
    by_cases hlt : k < m
    · have hlt' : (k : Int) < (m : Int) := by omega
      obtain ⟨x, hx⟩ : ∃ x, l[k]? = some x := ⟨_, List.getElem?_eq_getElem (by have := Hl.out; omega)⟩
      obtain ⟨a0, a1, a2, a3, a4, a5, a6, a7, a8, a9⟩ := (H1.out.later hg1 hbel).all hx
      obtain ⟨b0, b1, b2, b3, b4, b5, b6, b7, b8, b9⟩ := (H2.out.later hg2 hbel).all hx
      have hl1 : g1 < wr.heap.size := Nat.lt_of_lt_of_le hg1 hbel.size
      have hl2 : g2 < wr.heap.size := Nat.lt_of_lt_of_le hg2 hbel.size
      have A0 := fun n => Later.cell hl1 a0 n
      have A1 := fun n => Later.cell hl1 a1 n
      have A2 := fun n => Later.cell hl1 a2 n
      have A3 := fun n => Later.cell hl1 a3 n
      have A4 := fun n => Later.cell hl1 a4 n
      have A5 := fun n => Later.cell hl1 a5 n
      have A6 := fun n => Later.cell hl1 a6 n
      have A7 := fun n => Later.cell hl1 a7 n
      have A8 := fun n => Later.cell hl1 a8 n
      have A9 := fun n => Later.cell hl1 a9 n
      have B0 := fun n => Later.cell hl2 b0 n
      have B1 := fun n => Later.cell hl2 b1 n
      have B2 := fun n => Later.cell hl2 b2 n
      have B3 := fun n => Later.cell hl2 b3 n
      have B4 := fun n => Later.cell hl2 b4 n
      have B5 := fun n => Later.cell hl2 b5 n
      have B6 := fun n => Later.cell hl2 b6 n
      have B7 := fun n => Later.cell hl2 b7 n
      have B8 := fun n => Later.cell hl2 b8 n
      have B9 := fun n => Later.cell hl2 b9 n
      have cE := fun w => eqUnit_same x w
      clear hx
      go_wp2_with fail
      refine wp_region_later (by kernel_rfl) (by kernel_rfl) (fun hne => ?_)
      repeat (go_big_quiet_step (first | (go_at_call 93; exact Later.call (cE _))))
      refine wpQuiet_nil ?_
      rintro _ ⟨nn, rfl⟩
      have hb2 := hbel.trans (nn.bel.mono hbel.size)
      clear A0 B0 a0 b0 A1 B1 a1 b1 A2 B2 a2 b2 A3 B3 a3 b3 A4 B4 a4 b4 A5 B5 a5 b5 A6 B6 a6 b6 A7 B7 a7 b7 A8 B8 a8 b8 A9 B9 a9 b9 hne
      go_wp2_with fail
      go_roundw
      case rel => exact ⟨k + 1, by omega, by go_num, hb2⟩
      case measure => simp [intOf]; omega
    · go_wp2
      go_ret
      exact ⟨rfl, hbel⟩
theorem argU_open {H : Type} {enc : TypeId × Value → H} {w : World} {sp : Nat → Bool} {held : Bool} {cs : List Value} {fuel : Nat} {x : DataW H × List MemPlace}
    (hf : DataW.trod enc Tryz.prog w 0 sp held fuel 47 cs = some x) : ∃ (a : Option Addr) (len cap : Nat) (l : List K10), cs = [.slice a len cap] ∧ len ≤ maxLen ∧ l.length = len ∧ ArgU w a l := by
  have c6 : Tryz.prog.cellsOf 128 = 10 := by kernel_rfl
  rcases Go.Deep.open_slice Tryz.underlying47 hf with ⟨hcs, _⟩ | ⟨x, l0, c0, m, n, D, Pl, hcs, _, hl, hm, hmm, _, hel⟩
  · exact ⟨none, 0, 0, [], hcs, Nat.zero_le _, rfl, .inl rfl⟩
  · have hlm : l0 ≤ m := by rw [hmm]; split <;> omega
    suffices h : ∃ l : List K10, l.length = l0 ∧ ArgU w (some x) l from ⟨some x, l0, c0, h.choose, hcs, by omega, h.choose_spec.1, h.choose_spec.2⟩
    obtain ⟨len, rfl⟩ : ∃ len, len = l0 := ⟨_, rfl⟩
    have key : ∀ i, i < len → ∃ y : K10, ∀ f, f < 10 → w.cell? ((x.add (i * 10)).add f) = some (.int .i64 (y.f f)) := by
      intro i hi
      obtain ⟨cs', h1, h2⟩ := hel i (by omega)
      rw [c6] at h1
      obtain ⟨_, hlen, hc⟩ := World.cells?_some h1
      obtain ⟨zs, hz, hzl, _⟩ := cells_i64 (e := 2) Tryz.underlying128 Tryz.underlying2 (by kernel_rfl) (by kernel_rfl) (by kernel_rfl) h2
      have hz6 : zs.length = 10 := by rw [← List.length_map (f := Value.int .i64), ← hz]; exact hlen
      match zs, hz6 with
      | [y0, y1, y2, y3, y4, y5, y6, y7, y8, y9], _ =>
        refine ⟨⟨y0, y1, y2, y3, y4, y5, y6, y7, y8, y9⟩, fun f hf => ?_⟩
        rw [hc f hf, hz]
        have h6 : f = 0 ∨ f = 1 ∨ f = 2 ∨ f = 3 ∨ f = 4 ∨ f = 5 ∨ f = 6 ∨ f = 7 ∨ f = 8 ∨ f = 9 := by omega
        rcases h6 with rfl | rfl | rfl | rfl | rfl | rfl | rfl | rfl | rfl | rfl <;> rfl
    refine ⟨(List.range len).map fun i => if h : i < len then Classical.choose (key i h) else K10.z, by simp, ?_⟩
    by_cases h0 : len = 0
    · subst h0; exact .inl rfl
    · obtain ⟨b, off, spot⟩ := x
      obtain ⟨y, hy⟩ := key 0 (by omega)
      have hc := hy 0 (by omega)
      have hspot : spot = none := by simpa [Addr.add] using World.cell?_spot hc
      subst hspot
      refine .inr ⟨b, off, rfl, by have := cell_lt2 hc; simpa [Addr.add] using this, fun i z hi f hf => ?_⟩
      have hlt : i < len := by simpa using (List.getElem?_eq_some_iff.1 hi).1
      have hz : z = Classical.choose (key i hlt) := by
        rw [List.getElem?_map, List.getElem?_range hlt] at hi
        simp [hlt] at hi
        exact hi.symm
      have := Classical.choose_spec (key i hlt) f hf
      rw [← hz, add_plain', add_plain'] at this
      exact this
end Go.Proofs.YtepjkcfheejlbaaGreatDoor
end

/- RowF -/
/- Lists of field in memory. No condition. -/
section
namespace Go.Proofs.YtepjkcfheejlbaaGreatDoor
open Go.ChangeShapes Go.WideShapes Go.ChangeAt Go.RowKit
set_option linter.unusedVariables false

structure K3 where
  c0 : Int
  c1 : Int
  c2 : Int
def K3.z : K3 := ⟨0, 0, 0⟩
def K3.f (x : K3) (i : Nat) : Int := if i = 0 then x.c0 else if i = 1 then x.c1 else x.c2
abbrev K3.v (x : K3) : Array Value := #[.int .i64 x.c0, .int .i64 x.c1, .int .i64 x.c2]
def K3.b (x y : K3) : Bool := x.c0 == y.c0 && (x.c1 == y.c1 && (x.c2 == y.c2))
theorem K3.b_self (x : K3) : x.b x = true := by unfold K3.b; simp
theorem K3.b_eq {x y : K3} (h : x.b y = true) : x = y := by
  unfold K3.b at h
  simp at h
  cases x; cases y
  simp_all
/- such structs in memory, from place off of block g on -/
def FAt (w : World) (g off : Nat) (l : List K3) : Prop := ∀ i x, l[i]? = some x → ∀ f, f < 3 → w.cell? ⟨g, off + i * 3 + f, none⟩ = some (.int .i64 (x.f f))
theorem FAt.all {w : World} {g off : Nat} {l : List K3} (h : FAt w g off l) {i : Nat} {x : K3} (hi : l[i]? = some x) :
    w.cell? ⟨g, off + i * 3, none⟩ = some (.int .i64 x.c0) ∧ w.cell? ⟨g, off + i * 3 + 1, none⟩ = some (.int .i64 x.c1) ∧ w.cell? ⟨g, off + i * 3 + 2, none⟩ = some (.int .i64 x.c2) :=
  ⟨h i x hi 0 (by omega), h i x hi 1 (by omega), h i x hi 2 (by omega)⟩
theorem FAt.later {w w' : World} {g off : Nat} {l : List K3} (h : FAt w g off l) (hg : g < w.heap.size) (hb : Below w.heap.size w w') : FAt w' g off l := fun i x hi f hf => by rw [hb.cell hg]; exact h i x hi f hf
/- one such struct in memory, at place off of block g -/
structure F1 (w : World) (g off : Nat) (x : K3) : Prop where
  c0 : w.cell? ⟨g, off, none⟩ = some (.int .i64 x.c0)
  c1 : w.cell? ⟨g, off + 1, none⟩ = some (.int .i64 x.c1)
  c2 : w.cell? ⟨g, off + 2, none⟩ = some (.int .i64 x.c2)
  lt : g < w.heap.size
theorem FAt.one {w : World} {g off : Nat} {l : List K3} (h : FAt w g off l) (hg : g < w.heap.size) {i : Nat} {x : K3} (hi : l[i]? = some x) : F1 w g (off + i * 3) x :=
  ⟨h i x hi 0 (by omega), h i x hi 1 (by omega), h i x hi 2 (by omega), hg⟩
theorem F1.later {w w' : World} {g off : Nat} {x : K3} (h : F1 w g off x) (hb : Below w.heap.size w w') : F1 w' g off x :=
  ⟨by rw [hb.cell h.lt]; exact h.c0, by rw [hb.cell h.lt]; exact h.c1, by rw [hb.cell h.lt]; exact h.c2, Nat.lt_of_lt_of_le h.lt hb.size⟩
theorem F1.new (w : World) (x : K3) (t : TypeId) : F1 (w.alloc (.cells x.v t)) w.heap.size 0 x :=
  ⟨cell_new _ _ _ _ _ rfl, cell_new _ _ _ _ _ rfl, cell_new _ _ _ _ _ rfl, by rw [size_new]; omega⟩
set_option maxHeartbeats 1000000 in
theorem neqF (x y : K3) (w : World) : (binOp .neq 90 (.agg x.v) (.agg y.v)).run Tryz.prog w = .ok (.bool (!x.b y)) w := by
  rw [run_neq_struct, show (10000 : Nat) = 9999 + 1 from rfl, run_equalIn_agg w 9999 90 _ _ (by kernel_rfl) (by kernel_rfl)]
  simp only [Program.fieldsOf, Tryz.underlying90]
  unfold K3.b
  cases h0 : x.c0 == y.c0
  · go_simp; try rfl
  cases h1 : x.c1 == y.c1
  · go_simp; try rfl
  cases h2 : x.c2 == y.c2
  · go_simp; try rfl
  go_simp
  try rfl
/- are both lists the same -/
def allF : List K3 → List K3 → Bool
  | [], [] => true
  | x :: l, y :: l' => x.b y && allF l l'
  | _, _ => false
theorem allF_ne : ∀ (l l' : List K3), l.length ≠ l'.length → allF l l' = false
  | [], [], h => absurd rfl h
  | [], _ :: _, _ => rfl
  | _ :: _, [], _ => rfl
  | x :: l, y :: l', h => by unfold allF; rw [allF_ne l l' (by simpa using h), Bool.and_false]
theorem allF_step {l l' : List K3} {k : Nat} {x y : K3} (hx : l[k]? = some x) (hy : l'[k]? = some y) : allF (l.drop k) (l'.drop k) = (x.b y && allF (l.drop (k + 1)) (l'.drop (k + 1))) := by
  have e1 : l.drop k = x :: l.drop (k + 1) := by
    have h := (List.getElem?_eq_some_iff.1 hx)
    rw [List.drop_eq_getElem_cons h.1, h.2]
  have e2 : l'.drop k = y :: l'.drop (k + 1) := by
    have h := (List.getElem?_eq_some_iff.1 hy)
    rw [List.drop_eq_getElem_cons h.1, h.2]
  rw [e1, e2]; rfl
theorem infoF : (Tryz.prog.info? 90).map (fun i => (i.zero, i.size, i.bytes)) = some (some (.agg K3.z.v), 3, 24) := by kernel_rfl
theorem makeF (m : Nat) (hm : m ≤ 1048576) (w : World) : (Instr.makeSlice 25 (.int .i64 (m : Int)) (.int .i64 (m : Int))).run Tryz.prog w = .ok (.slice (some ⟨w.heap.size, 0, none⟩) m m) (w.alloc (.cells (madeCells K3.z.v (m * 3)) 90)) := by
  obtain ⟨i0, hi, hz0, hz1, hz2⟩ := info_parts infoF
  have h := run_make (P := Tryz.prog) w 25 90 i0 (.agg K3.z.v) Tryz.underlying25 hi hz0 .i64 .i64 (m : Int) (m : Int) (by omega) (Int.le_refl _) (by rw [hz2]; omega) (by omega)
  rw [hz1, Int.toNat_natCast] at h
  exact h
theorem row0F (w : World) (n : Nat) (t : TypeId) : (w.alloc (.cells (madeCells K3.z.v n) t)).rowIs w.heap.size t n (fun _ => .int .i64 0) := by
  refine ⟨madeCells K3.z.v n, ?_, size_madeCells _ _, fun i hi => ?_⟩
  · show (w.heap.push _)[w.heap.size]? = _
    simp
  · have h6 : i % 3 = 0 ∨ i % 3 = 1 ∨ i % 3 = 2 := by omega
    simp only [madeCells]
    rw [Array.getElem?_map, Array.getElem?_range, if_pos hi]
    simp only [Option.map_some]
    congr 1
    show (K3.z.v)[i % 3]! = _
    rcases h6 with h | h | h <;> rw [h] <;> rfl
def rowF (l : List K3) (k : Nat) (j : Nat) : Value := if j < k * 3 then .int .i64 ((l.getD (j / 3) K3.z).f (j % 3)) else .int .i64 0
theorem rowF_at (l : List K3) (k i : Nat) : rowF l k (k * 3 + i) = .int .i64 0 := by unfold rowF; rw [if_neg (by omega)]
theorem rowF_set (l : List K3) (k : Nat) (x : K3) (h : l.getD k K3.z = x) (j : Nat) :
    (if j = k * 3 + 2 then Value.int .i64 x.c2 else if j = k * 3 + 1 then Value.int .i64 x.c1 else if j = k * 3 then Value.int .i64 x.c0 else rowF l k j) = rowF l (k + 1) j := by
  have key : ∀ i, i < 3 → rowF l (k + 1) (k * 3 + i) = .int .i64 (x.f i) := fun i hi => by
    unfold rowF
    rw [if_pos (by omega), show (k * 3 + i) / 3 = k from by omega, show (k * 3 + i) % 3 = i from by omega, h]
  by_cases e2 : j = k * 3 + 2
  · rw [if_pos e2, e2, key 2 (by omega)]; rfl
  rw [if_neg e2]
  by_cases e1 : j = k * 3 + 1
  · rw [if_pos e1, e1, key 1 (by omega)]; rfl
  rw [if_neg e1]
  by_cases e0 : j = k * 3
  · rw [if_pos e0, e0]; exact (key 0 (by omega)).symm
  rw [if_neg e0]
  unfold rowF
  by_cases hj : j < k * 3
  · rw [if_pos hj, if_pos (by omega)]
  · rw [if_neg hj, if_neg (by omega)]
/- a list that came in -/
def ArgF (w : World) (a : Option Addr) (l : List K3) : Prop := l = [] ∨ ∃ b off, a = some ⟨b, off, none⟩ ∧ b < w.heap.size ∧ FAt w b off l
theorem ArgF.later {w w' : World} {a : Option Addr} {l : List K3} (h : ArgF w a l) (hb : Below w.heap.size w w') : ArgF w' a l := by
  rcases h with h | ⟨b, off, h1, h2, h3⟩
  · exact .inl h
  · exact .inr ⟨b, off, h1, Nat.lt_of_lt_of_le h2 hb.size, h3.later h2 hb⟩
end Go.Proofs.YtepjkcfheejlbaaGreatDoor
end
