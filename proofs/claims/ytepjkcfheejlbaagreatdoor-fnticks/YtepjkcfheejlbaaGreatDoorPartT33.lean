/- Texts of mine put together (a claim holds at most 60 files): TickMarks. -/
import Derived.Test.YtepjkcfheejlbaaGreatDoorPartT32
import Derived.Test.YtepjkcfheejlbaaGreatDoorPartT26

/- TickMarks -/
/- Marks and comparison of what ticks answer, and numbers laid anew. Condition: the lists are short. -/
section
namespace Go.Proofs.YtepjkcfheejlbaaGreatDoor
open Go.ChangeShapes Go.WideShapes Go.ChangeAt Go.RowKit
open Bd
set_option linter.unusedVariables false

theorem markBrdK (k0 : Int) (hk0 : 0 ≤ k0) (hk1 : k0 ≤ 100000) (v f : Value) (l : List K10) (fl : List K3) (bu bf : Nat) (hm : l.length ≤ 1000) (hm' : fl.length ≤ 1000) (w : World) (h : SlU w bu v l) (h' : SlF w bf f fl) :
    Calls Tryz.prog 31 #[.agg #[v, f], .int .i64 k0] w fun e w' => e = .returned (.int .i64 (k0 + 10 * (l.length : Int) + 3 * (fl.length : Int))) ∧ MkdU w' v l.length k0 ∧ MkdF w' f fl.length (k0 + 10 * (l.length : Int)) ∧ KeptV w w' v f := by
  have k1 : Below w.heap.size w (w.alloc (.cells #[v, f] 27)) := (Below.refl _ _).alloc (Nat.le_refl _) _
  have S1 := h.below k1
  have S1' := h'.below k1
  have hne := own_ne S1 S1'
  have rb := rowTwo w v f 27
  have hlt := h.lt
  have hlt' := S1'.lt
  have cU := markUnitS_own v l bu k0 hm (by omega) (by omega) _ S1
  have cF := fun w k h0 h1 h => markFieldS_own f fl bf k hm' h0 h1 w h
  obtain ⟨a1, c1, ex, _⟩ := h.form
  obtain ⟨a2, c2, ey, _⟩ := h'.form
  obtain ⟨m, Hm⟩ : ∃ m, Hid (m = l.length) := ⟨_, rfl⟩
  obtain ⟨m', Hm'⟩ : ∃ m', Hid (m' = fl.length) := ⟨_, rfl⟩
  rw [← Hm.out] at ex cU hm ⊢
  rw [← Hm'.out] at ey cF hm' ⊢
  subst ex ey
  clear h h' S1
  go_enter Tryz.func31, Tryz.ntmps31
  go_wp2_with fail
  refine cU.mono ?_
  rintro e w2 ⟨rfl, M2, g2⟩
  have rb2 := rb.of_block (g2.block w.heap.size rb.lt (fun e => by have := (hlt _ e.symm).2; omega))
  have p1 : w2.cell? ⟨w.heap.size, 1, none⟩ = some (.slice a2 m' c2) := rb2.cell (i := 1) (by omega)
  have S2' := S1'.of_block (w' := w2) (fun b hb => g2.block b (hlt' b hb).2 (fun e => hne b e.symm hb))
  clear cU S1'
  go_wp2_with fail
  refine (cF _ _ (by omega) (by omega) S2').mono ?_
  rintro e w3 ⟨rfl, M3, g3⟩
  have M3u := M2.of_block (w' := w3) (fun b hb hl => g3.block b hl (fun e => hne b hb e.symm))
  go_wp2
  go_ret
  exact ⟨rfl, M3u, M3, ⟨g3.os.trans (g2.os.trans k1.os), g3.tape.trans (g2.tape.trans k1.tape), g3.output.trans (g2.output.trans k1.output), Nat.le_trans k1.size (Nat.le_trans g2.size g3.size), fun i hi x1 x2 => (g3.block i (Nat.lt_of_lt_of_le hi (Nat.le_trans k1.size g2.size)) (fun e => x2 e.symm)).trans ((g2.block i (Nat.lt_of_lt_of_le hi k1.size) (fun e => x1 e.symm)).trans (k1.block i hi))⟩⟩
theorem heldBrdK (k0 : Int) (hk0 : 0 ≤ k0) (hk1 : k0 ≤ 100000) (v f : Value) (m m' : Nat) (hm : m ≤ 1000) (hm' : m' ≤ 1000) (w : World) (h : MkdU w v m k0) (h' : MkdF w f m' (k0 + 10 * (m : Int))) :
    Calls Tryz.prog 67 #[.agg #[v, f], .int .i64 k0] w fun e w' => e = .returned (.int .i64 (k0 + 10 * (m : Int) + 3 * (m' : Int))) ∧ Below w.heap.size w w' := by
  have k1 : Below w.heap.size w (w.alloc (.cells #[v, f] 27)) := (Below.refl _ _).alloc (Nat.le_refl _) _
  have cU := heldUnitS_own v m k0 hm (by omega) (by omega) _ (h.later k1)
  have cF := heldFieldS_own f m' (k0 + 10 * (m : Int)) hm' (by omega) (by omega) _ (h'.later k1)
  have d1 : decide (k0 + 10 * (m : Int) < 0) = false := decide_eq_false (by omega)
  have d2 : decide (k0 + 10 * (m : Int) + 3 * (m' : Int) < 0) = false := decide_eq_false (by omega)
  obtain ⟨a1, c1, ex⟩ := h.form
  obtain ⟨a2, c2, ey⟩ := h'.form
  subst ex ey
  clear h h'
  go_enter Tryz.func67, Tryz.ntmps67
  go_wp2_with fail
  refine cU.mono ?_
  rintro e w2 ⟨rfl, rfl⟩
  go_wp2_with fail
  refine cF.mono ?_
  rintro e w3 ⟨rfl, rfl⟩
  go_wp2
  go_ret
  exact ⟨rfl, k1⟩
theorem makeI (m : Nat) (hm : m ≤ 1048576) (w : World) : (Instr.makeSlice 28 (.int .i64 (m : Int)) (.int .i64 (m : Int))).run Tryz.prog w = .ok (.slice (some ⟨w.heap.size, 0, none⟩) m m) (w.alloc (.cells (madeCells (Value.int .i64 0).cells (m * 1)) 2)) := by
  obtain ⟨i0, hi, hz0, hz1, hz2⟩ := info_parts info64
  have h := run_make (P := Tryz.prog) w 28 2 i0 (.int .i64 0) Tryz.underlying28 hi hz0 .i64 .i64 (m : Int) (m : Int) (by omega) (Int.le_refl _) (by rw [hz2]; omega) (by omega)
  rw [hz1, Int.toNat_natCast] at h
  exact h
def rowI (l : List Int) (k : Nat) (j : Nat) : Value := if j < k then .int .i64 (l.getD j 0) else .int .i64 0
theorem row0I (w : World) (n : Nat) (t : TypeId) : (w.alloc (.cells (madeCells (Value.int .i64 0).cells (n * 1)) t)).rowIs w.heap.size t n (fun _ => .int .i64 0) := by
  refine ⟨madeCells (Value.int .i64 0).cells (n * 1), ?_, by rw [size_madeCells, Nat.mul_one], fun i hi => ?_⟩
  · show (w.heap.push _)[w.heap.size]? = _
    simp
  · simp only [madeCells, Nat.mul_one]
    rw [Array.getElem?_map, Array.getElem?_range, if_pos hi]
    simp only [Option.map_some]
    congr 1
    show ((Value.int .i64 0).cells)[i % 1]! = _
    rw [Nat.mod_one]; rfl
set_option maxRecDepth 20000 in
set_option maxHeartbeats 4000000 in
theorem toInt64S_c (a : Option Addr) (m cap : Nat) (l : List Int) (hl : l.length = m) (hm : m ≤ 1048576) (w : World) (h : ArgI w a l) :
    Calls Tryz.prog 27 #[.slice a m cap] w fun e w' => e = .returned (.slice (some ⟨w.heap.size, 0, none⟩) m m) ∧ Lst w' w.heap.size m l ∧ Below w.heap.size w w' := by
  have Hl : Hid (l.length = m) := hl
  have H : Hid (ArgI w a l) := h
  clear hl h
  have hmk := fun (W : World) => makeI m hm W
  go_enter Tryz.func27, Tryz.ntmps27
  go_wp2
  go_loopw [4] (fun i wr => ∃ k : Nat, k ≤ m ∧ i = .int .i64 k ∧ wr.rowIs w.heap.size 2 m (rowI l k) ∧ Below w.heap.size w wr) (fun i _ => m - (intOf i).toNat)
  case atStart =>
    refine ⟨0, Nat.zero_le _, rfl, ?_, (Below.refl _ _).alloc (Nat.le_refl _) _⟩
    have h0 := row0I w m 2
    rw [Nat.mul_one] at h0
    exact h0.congr (g := rowI l 0) (fun i _ => by unfold rowI; rw [if_neg (by omega)])
  case round =>
    obtain ⟨k, hk, rfl, hrow, hbel⟩ := hrel
    by_cases hlt : k < m
    · have hlt' : (k : Int) < (m : Int) := by omega
      obtain ⟨x, hx⟩ : ∃ x, l[k]? = some x := ⟨_, List.getElem?_eq_getElem (by have := Hl.out; omega)⟩
      obtain ⟨b, off, rfl, hb, hat⟩ := H.out.at hx
      have x0 := (hat.later hb hbel) k x hx
      have xl : b < wr.heap.size := Nat.lt_of_lt_of_le hb hbel.size
      have y0 : wr.cell? ⟨w.heap.size, k, none⟩ = some (.int .i64 0) := by rw [hrow.cell hlt]; unfold rowI; rw [if_neg (by omega)]
      have yz := hrow.frozen k
      have yl := hrow.lt
      have row2 : (wr.setCell ⟨w.heap.size, k, none⟩ (.int .i64 x)).rowIs w.heap.size 2 m (rowI l (k + 1)) := (hrow.set k (.int .i64 x)).congr (fun i hi => by
        by_cases e : i = k
        · subst e
          show (if i = i then Value.int .i64 x else rowI l i i) = rowI l (i + 1) i
          unfold rowI
          rw [if_pos rfl, if_pos (by omega), List.getD_eq_getElem?_getD, hx]; rfl
        · show (if i = k then Value.int .i64 x else rowI l k i) = rowI l (k + 1) i
          unfold rowI
          rw [if_neg e]
          by_cases h2 : i < k
          · rw [if_pos h2, if_pos (by omega)]
          · rw [if_neg h2, if_neg (by omega)])
      have B2 := bel_set hbel w.heap.size k (Nat.le_refl _) (.int .i64 x)
      clear hx hat
      go_wp2
      go_roundw
      case rel => exact ⟨k + 1, by omega, by go_num, row2, B2⟩
      case measure => simp [intOf]; omega
    · obtain rfl : k = m := by omega
      have L : Lst wr w.heap.size k l := Lst.of_row (hrow.congr (fun i hi => by unfold rowI; rw [if_pos hi])) Hl.out (by unfold maxLen; omega)
      go_wp2
      go_ret
      exact ⟨rfl, L, hbel⟩
/- numbers of one's own: are they the same, marked, held -/
theorem eqInt64S_own (v1 v2 : Value) (l : List Int) (b1 b2 : Nat) (hm : l.length ≤ 1000) (w : World) (h1 : SlI w b1 v1 l) (h2 : SlI w b2 v2 l) :
    Calls Tryz.prog 30 #[v1, v2] w fun e w' => e = .returned (.bool true) ∧ ∃ nq, w' = w.drewN nq := by
  rcases h1.cases with ⟨hn, a1, c1, rfl⟩ | ⟨hn, g1, c1, rfl, _, L1⟩
  · rcases h2.cases with ⟨_, a2, c2, rfl⟩ | ⟨hn2, _⟩
    · exact eqInt64S_zero a1 a2 c1 c2 w
    · exact absurd hn hn2
  · rcases h2.cases with ⟨hn2, _⟩ | ⟨_, g2, c2, rfl, _, L2⟩
    · exact absurd hn2 hn
    · exact eqInt64S_same w g1 c1 g2 c2 l.length l rfl (by omega) L1 L2
def MkdI (w : World) (v : Value) (m : Nat) (k0 : Int) : Prop := (m = 0 ∧ ∃ a c, v = .slice a 0 c) ∨ (∃ g cap, v = .slice (some ⟨g, 0, none⟩) m cap ∧ Lst w g cap (marks k0 m))
theorem MkdI.form {w : World} {v : Value} {m : Nat} {k0 : Int} (h : MkdI w v m k0) : ∃ a c, v = .slice a m c := by
  rcases h with ⟨rfl, a, c, rfl⟩ | ⟨g, cap, rfl, _⟩
  · exact ⟨_, _, rfl⟩
  · exact ⟨_, _, rfl⟩
theorem MkdI.of_block {w w' : World} {v : Value} {m : Nat} {k0 : Int} (h : MkdI w v m k0) (he : ∀ b, v.ownBlock = some b → b < w.heap.size → w'.heap[b]? = w.heap[b]?) : MkdI w' v m k0 := by
  rcases h with h | ⟨g, cap, rfl, L⟩
  · exact .inl h
  · exact .inr ⟨g, cap, rfl, L.of_block (he g rfl L.lt)⟩
theorem MkdI.later {w w' : World} {v : Value} {m : Nat} {k0 : Int} (h : MkdI w v m k0) (hb : Below w.heap.size w w') : MkdI w' v m k0 := h.of_block (fun b _ hl => hb.block b hl)
theorem markInt64S_own (v : Value) (l : List Int) (base : Nat) (k0 : Int) (hm : l.length ≤ 1000) (hk0 : 0 ≤ k0) (hk1 : k0 ≤ 1000000) (w : World) (h : SlI w base v l) :
    Calls Tryz.prog 32 #[v, .int .i64 k0] w fun e w' => e = .returned (.int .i64 (k0 + (l.length : Int))) ∧ MkdI w' v l.length k0 ∧ w.grownBy w' v.ownBlock := by
  rcases h.cases with ⟨hn, a1, c1, rfl⟩ | ⟨hn, g1, c1, rfl, _, L1⟩
  · refine (markInt64S_zero a1 c1 k0 w).mono ?_
    rintro e w' ⟨rfl, rfl⟩
    subst hn
    exact ⟨by simp, .inl ⟨rfl, a1, c1, rfl⟩, World.grownBy.refl _ _⟩
  · refine (markInt64S_any w g1 c1 l.length k0 l rfl (by omega) hk0 (by omega) L1).mono ?_
    rintro e w' ⟨rfl, L2, gr⟩
    exact ⟨rfl, .inr ⟨g1, c1, rfl, L2⟩, gr⟩
theorem heldInt64S_own (v : Value) (m : Nat) (k0 : Int) (hm : m ≤ 1000) (hk0 : 0 ≤ k0) (hk1 : k0 ≤ 1000000) (w : World) (h : MkdI w v m k0) :
    Calls Tryz.prog 66 #[v, .int .i64 k0] w fun e w' => e = .returned (.int .i64 (k0 + (m : Int))) ∧ w' = w := by
  rcases h with ⟨rfl, a, c, rfl⟩ | ⟨g, cap, rfl, L⟩
  · refine (heldInt64S_zero a c k0 w).mono ?_
    rintro e w' ⟨rfl, rfl⟩
    exact ⟨by simp, rfl⟩
  · exact heldInt64S_any w g cap m k0 (by omega) hk0 (by omega) L
/- a result's lists: their lengths, short -/
structure RLen (r : TR) (ng nu nf : Nat) : Prop where
  g : r.g.length = ng
  u : r.us.length = nu
  f : r.fs.length = nf
  lg : ng ≤ 1000
  lu : nu ≤ 1000
  lf : nf ≤ 1000
set_option maxRecDepth 20000 in
set_option maxHeartbeats 4000000 in
theorem eqTR (r : TR) (ng nu nf : Nat) (hn : RLen r ng nu nf) (a1 a2 a3 b1 b2 b3 : Option Addr) (p1 p2 p3 q1 q2 q3 : Nat) (x y : Nat) (w : World) (h1 : RIs w x r (.slice a1 ng p1) (.slice a2 nu p2) (.slice a3 nf p3)) (h2 : RIs w y r (.slice b1 ng q1) (.slice b2 nu q2) (.slice b3 nf q3)) :
    Calls Tryz.prog 28 #[.agg (resV r.c (.slice a1 ng p1) r.l (.slice a2 nu p2) (.slice a3 nf p3)), .agg (resV r.c (.slice b1 ng q1) r.l (.slice b2 nu q2) (.slice b3 nf q3))] w fun e w' => e = .returned (.bool true) ∧ Below w.heap.size w w' := by
  generalize r.c = C
  generalize r.l = L
  obtain ⟨W, HW⟩ : ∃ W, Hid (W = (w.alloc (.cells (resV C (.slice a1 ng p1) L (.slice a2 nu p2) (.slice a3 nf p3)) 32)).alloc (.cells (resV C (.slice b1 ng q1) L (.slice b2 nu q2) (.slice b3 nf q3)) 32)) := ⟨_, rfl⟩
  have B2 : Below w.heap.size w W := by rw [HW.out]; exact ((Below.refl _ _).alloc (Nat.le_refl _) _).alloc (by rw [size_new]; omega) _
  have c1 := eqInt64S_own _ _ r.g x y (by rw [hn.g]; exact hn.lg) W (h1.later B2).g (h2.later B2).g
  have c2 := fun nq => eqBrd _ _ _ _ r.us r.fs x x y y (by rw [hn.u]; exact hn.lu) (by rw [hn.f]; exact hn.lf) (W.drewN nq) ((h1.later B2).later (below_drewN W nq)).u ((h1.later B2).later (below_drewN W nq)).f ((h2.later B2).later (below_drewN W nq)).u ((h2.later B2).later (below_drewN W nq)).f
  have hc : (C != C) = false := by simp
  have hl : (L != L) = false := by simp
  have s0 := rowAll w (resV C (.slice a1 ng p1) L (.slice a2 nu p2) (.slice a3 nf p3)) 32
  have s1 := rowAll (w.alloc (.cells (resV C (.slice a1 ng p1) L (.slice a2 nu p2) (.slice a3 nf p3)) 32)) (resV C (.slice b1 ng q1) L (.slice b2 nu q2) (.slice b3 nf q3)) 32
  replace s0 := s0.of_block (((Below.refl _ _).alloc (Nat.le_refl _) (.cells (resV C (.slice b1 ng q1) L (.slice b2 nu q2) (.slice b3 nf q3)) 32)).block _ s0.lt)
  rw [size_new] at s1
  rw [← HW.out] at s0 s1
  have x0 : W.cell? ⟨w.heap.size, 0, none⟩ = some (.int .i64 C) := s0.cell (i := 0) (by show (0 : Nat) < 5; decide)
  have x1 : W.cell? ⟨w.heap.size, 1, none⟩ = some (.slice a1 ng p1) := s0.cell (i := 1) (by show (1 : Nat) < 5; decide)
  have x2 : W.cell? ⟨w.heap.size, 2, none⟩ = some (.int .i64 L) := s0.cell (i := 2) (by show (2 : Nat) < 5; decide)
  have x3 : W.cell? ⟨w.heap.size, 3, none⟩ = some (.slice a2 nu p2) := s0.cell (i := 3) (by show (3 : Nat) < 5; decide)
  have x4 : W.cell? ⟨w.heap.size, 4, none⟩ = some (.slice a3 nf p3) := s0.cell (i := 4) (by show (4 : Nat) < 5; decide)
  have y0 : W.cell? ⟨w.heap.size + 1, 0, none⟩ = some (.int .i64 C) := s1.cell (i := 0) (by show (0 : Nat) < 5; decide)
  have y1 : W.cell? ⟨w.heap.size + 1, 1, none⟩ = some (.slice b1 ng q1) := s1.cell (i := 1) (by show (1 : Nat) < 5; decide)
  have y2 : W.cell? ⟨w.heap.size + 1, 2, none⟩ = some (.int .i64 L) := s1.cell (i := 2) (by show (2 : Nat) < 5; decide)
  have y3 : W.cell? ⟨w.heap.size + 1, 3, none⟩ = some (.slice b2 nu q2) := s1.cell (i := 3) (by show (3 : Nat) < 5; decide)
  have y4 : W.cell? ⟨w.heap.size + 1, 4, none⟩ = some (.slice b3 nf q3) := s1.cell (i := 4) (by show (4 : Nat) < 5; decide)
  have l0 := s0.lt
  have l1 := s1.lt
  clear h1 h2 s0 s1 hn
  go_enter Tryz.func28, Tryz.ntmps28
  go_upto_region 1 with fail
  rw [← HW.out]
  go_wp2_with fail
  refine c1.mono ?_
  rintro e w2 ⟨rfl, nq, rfl⟩
  go_wp2_with fail
  refine (c2 nq).mono ?_
  rintro e w3 ⟨rfl, k3⟩
  have B3 := B2.trans ((below_drewN W nq).mono B2.size)
  go_wp2_with fail
  go_ret
  exact ⟨rfl, B3.trans (k3.mono B3.size)⟩
/- all three lists marked -/
structure RMk (w : World) (ng nu nf : Nat) (g v f : Value) : Prop where
  g : MkdI w g ng 1
  u : MkdU w v nu (1 + (ng : Int))
  f : MkdF w f nf (1 + (ng : Int) + 10 * (nu : Int))
theorem RMk.later {w w' : World} {ng nu nf : Nat} {g v f : Value} (h : RMk w ng nu nf g v f) (hb : Below w.heap.size w w') : RMk w' ng nu nf g v f := ⟨h.g.later hb, h.u.later hb, h.f.later hb⟩
theorem apartIU {w : World} {b1 b2 : Nat} {v v' : Value} {l : List Int} {l' : List K10} (h : SlI w b1 v l) (h' : SlU w b2 v' l') : ∀ q, v.ownBlock = some q → v'.ownBlock ≠ some q := by
  intro q hq e
  rcases h.2 with ⟨rfl, _⟩ | ⟨g, cap, cur, rfl, _, hg, _⟩
  · cases hq
  · rcases h'.2 with ⟨rfl, _⟩ | ⟨g', cap', cur', rfl, _, hg', _⟩
    · cases e
    · cases hq; cases e; exact blk_ne hg hg' (by decide) rfl
theorem apartIF {w : World} {b1 b2 : Nat} {v v' : Value} {l : List Int} {l' : List K3} (h : SlI w b1 v l) (h' : SlF w b2 v' l') : ∀ q, v.ownBlock = some q → v'.ownBlock ≠ some q := by
  intro q hq e
  rcases h.2 with ⟨rfl, _⟩ | ⟨g, cap, cur, rfl, _, hg, _⟩
  · cases hq
  · rcases h'.2 with ⟨rfl, _⟩ | ⟨g', cap', cur', rfl, _, hg', _⟩
    · cases e
    · cases hq; cases e; exact blk_ne hg hg' (by decide) rfl
def RBlk (g v f : Value) (b : Nat) : Prop := g.ownBlock = some b ∨ v.ownBlock = some b ∨ f.ownBlock = some b
theorem RIs.lt {w : World} {base : Nat} {r : TR} {g v f : Value} (h : RIs w base r g v f) (b : Nat) (hb : RBlk g v f b) : base ≤ b ∧ b < w.heap.size := by
  rcases hb with hb | hb | hb
  · exact h.g.lt b hb
  · exact h.u.lt b hb
  · exact h.f.lt b hb
theorem RIs.of_kept {S : Nat → Prop} {w w' : World} {base : Nat} {r : TR} {g v f : Value} (h : RIs w base r g v f) (k : KeptS S w w') (hs : ∀ b, RBlk g v f b → ¬ S b) : RIs w' base r g v f :=
  ⟨h.g.of_blk (fun b hb => k.block b (h.g.lt b hb).2 (hs b (.inl hb))), h.u.of_block (fun b hb => k.block b (h.u.lt b hb).2 (hs b (.inr (.inl hb)))), h.f.of_block (fun b hb => k.block b (h.f.lt b hb).2 (hs b (.inr (.inr hb))))⟩
set_option maxRecDepth 20000 in
set_option maxHeartbeats 4000000 in
theorem markTR (r : TR) (ng nu nf : Nat) (hn : RLen r ng nu nf) (a1 a2 a3 : Option Addr) (p1 p2 p3 : Nat) (x : Nat) (w : World) (h : RIs w x r (.slice a1 ng p1) (.slice a2 nu p2) (.slice a3 nf p3)) :
    Calls Tryz.prog 33 #[.agg (resV r.c (.slice a1 ng p1) r.l (.slice a2 nu p2) (.slice a3 nf p3)), .int .i64 1] w fun e w' => e = .returned (.int .i64 (1 + (ng : Int) + 10 * (nu : Int) + 3 * (nf : Int))) ∧ RMk w' ng nu nf (.slice a1 ng p1) (.slice a2 nu p2) (.slice a3 nf p3) ∧ KeptS (RBlk (.slice a1 ng p1) (.slice a2 nu p2) (.slice a3 nf p3)) w w' := by
  generalize r.c = C
  generalize r.l = L
  have k1 : Below w.heap.size w (w.alloc (.cells (resV C (.slice a1 ng p1) L (.slice a2 nu p2) (.slice a3 nf p3)) 32)) := (Below.refl _ _).alloc (Nat.le_refl _) _
  have h1 := h.later k1
  have c1 := markInt64S_own _ r.g x 1 (by rw [hn.g]; exact hn.lg) (by omega) (by omega) _ h1.g
  rw [hn.g] at c1
  have ia := apartIU h1.g h1.u
  have ib := apartIF h1.g h1.f
  have ic := apartUF h1.u h1.f
  have c2 := fun W hu hf => markBrdK (1 + (ng : Int)) (by omega) (by have := hn.lg; omega) (.slice a2 nu p2) (.slice a3 nf p3) r.us r.fs x x (by rw [hn.u]; exact hn.lu) (by rw [hn.f]; exact hn.lf) W hu hf
  rw [hn.u, hn.f] at c2
  have rr := rowAll w (resV C (.slice a1 ng p1) L (.slice a2 nu p2) (.slice a3 nf p3)) 32
  have H1 : Hid (RIs (w.alloc (.cells (resV C (.slice a1 ng p1) L (.slice a2 nu p2) (.slice a3 nf p3)) 32)) x r (.slice a1 ng p1) (.slice a2 nu p2) (.slice a3 nf p3)) := h1
  have hlt := h.lt
  have lg := hn.lg
  have lu := hn.lu
  have lf := hn.lf
  clear h h1 hn
  go_enter Tryz.func33, Tryz.ntmps33
  go_wp2_with fail
  refine c1.mono ?_
  rintro e w2 ⟨rfl, M2, g2⟩
  have rr2 := rr.of_block (g2.block w.heap.size rr.lt (fun e => by have := (hlt _ (.inl e.symm)).2; omega))
  have p3' : w2.cell? ⟨w.heap.size, 3, none⟩ = some (.slice a2 nu p2) := rr2.cell (i := 3) (by show (3 : Nat) < 5; decide)
  have p4' : w2.cell? ⟨w.heap.size, 4, none⟩ = some (.slice a3 nf p3) := rr2.cell (i := 4) (by show (4 : Nat) < 5; decide)
  have pl := rr2.lt
  have SU := H1.out.u.of_block (w' := w2) (fun b hb => g2.block b (H1.out.u.lt b hb).2 (fun e => ia b e.symm hb))
  have SF := H1.out.f.of_block (w' := w2) (fun b hb => g2.block b (H1.out.f.lt b hb).2 (fun e => ib b e.symm hb))
  go_wp2_with fail
  refine (c2 _ SU SF).mono ?_
  rintro e w3 ⟨rfl, M3, M4, k3⟩
  have M2' := M2.of_block (w' := w3) (fun b hb hl => k3.block b hl (fun e => ia b hb e) (fun e => ib b hb e))
  have K : KeptS (RBlk (.slice a1 ng p1) (.slice a2 nu p2) (.slice a3 nf p3)) w w3 :=
    (((KeptS.of_below k1).grown g2 (fun q hq _ => .inl hq)).trans ⟨k3.os, k3.tape, k3.output, k3.size, fun i hi hns => k3.block i hi (fun e => hns (.inr (.inl e))) (fun e => hns (.inr (.inr e)))⟩)
  go_wp2_with fail
  go_ret
  exact ⟨rfl, ⟨M2', M3, M4⟩, K⟩
set_option maxRecDepth 20000 in
set_option maxHeartbeats 4000000 in
theorem heldTR (C L : Int) (ng nu nf : Nat) (lg : ng ≤ 1000) (lu : nu ≤ 1000) (lf : nf ≤ 1000) (a1 a2 a3 : Option Addr) (p1 p2 p3 : Nat) (w : World) (h : RMk w ng nu nf (.slice a1 ng p1) (.slice a2 nu p2) (.slice a3 nf p3)) :
    Calls Tryz.prog 34 #[.agg (resV C (.slice a1 ng p1) L (.slice a2 nu p2) (.slice a3 nf p3)), .int .i64 1] w fun e w' => e = .returned (.int .i64 (1 + (ng : Int) + 10 * (nu : Int) + 3 * (nf : Int))) ∧ Below w.heap.size w w' := by
  have k1 : Below w.heap.size w (w.alloc (.cells (resV C (.slice a1 ng p1) L (.slice a2 nu p2) (.slice a3 nf p3)) 32)) := (Below.refl _ _).alloc (Nat.le_refl _) _
  have h1 := h.later k1
  have c1 := heldInt64S_own _ ng 1 lg (by omega) (by omega) _ h1.g
  have c2 := heldBrdK (1 + (ng : Int)) (by omega) (by omega) _ _ nu nf lu lf _ h1.u h1.f
  have d1 : decide ((1 : Int) + (ng : Int) < 0) = false := decide_eq_false (by omega)
  have d2 : decide ((1 : Int) + (ng : Int) + 10 * (nu : Int) + 3 * (nf : Int) < 0) = false := decide_eq_false (by omega)
  clear h h1
  go_enter Tryz.func34, Tryz.ntmps34
  go_wp2_with fail
  refine c1.mono ?_
  rintro e w2 ⟨rfl, rfl⟩
  go_wp2_with fail
  refine c2.mono ?_
  rintro e w3 ⟨rfl, k3⟩
  go_wp2_with fail
  go_ret
  exact ⟨rfl, k1.trans (k3.mono k1.size)⟩
end Go.Proofs.YtepjkcfheejlbaaGreatDoor
end
