/- Texts of mine put together (a claim holds at most 60 files): ExactBoard, Brd. -/
import Derived.Test.YtepjkcfheejlbaaGreatDoorPartT01
import Derived.Test.YtepjkcfheejlbaaGreatDoorPartT02
import Derived.Test.YtepjkcfheejlbaaGreatDoorPartT00

/- ExactBoard -/
/- Contracts of the exact laws' own helpers on boards. Condition: the lists have at most 1048576 members. -/
section
namespace Go.Proofs.YtepjkcfheejlbaaGreatDoor
open Go.ChangeShapes Go.WideShapes Go.ChangeAt Go.RowKit
set_option linter.unusedVariables false

theorem rowTwo (w : World) (s f : Value) (t : TypeId) : (w.alloc (.cells #[s, f] t)).rowIs w.heap.size t 2 (fun i => if i = 0 then s else f) := by
  refine ⟨#[s, f], ?_, rfl, fun i hi => ?_⟩
  · show (w.heap.push _)[w.heap.size]? = _
    simp
  · have h : i = 0 ∨ i = 1 := by omega
    rcases h with rfl | rfl <;> rfl
abbrev brdV (a : Option Addr) (m c : Nat) (a' : Option Addr) (m' c' : Nat) : Array Value := #[.slice a m c, .slice a' m' c']
theorem szBoard_c (a : Option Addr) (m c : Nat) (a' : Option Addr) (m' c' : Nat) (hb : (m : Int) ≤ 9223372036854775807) (hb' : (m' : Int) ≤ 9223372036854775807) (w : World) :
    Calls Tryz.prog 25 #[.agg (brdV a m c a' m' c'), .int .i64 1048576] w fun e w' => e = .returned (.int .i64 (if m + m' ≤ 1048576 then 1048576 - (m : Int) - (m' : Int) else -1)) ∧ Below w.heap.size w w' := by
  have B1 : Below w.heap.size w (w.alloc (.cells (brdV a m c a' m' c') 50)) := (Below.refl _ _).alloc (Nat.le_refl _) _
  have z1 := fun w => szU_c a m c 1048576 (by omega) (by omega) hb w
  by_cases h1 : m ≤ 1048576
  · rw [if_pos (by omega)] at z1
    have z2 := fun w => szF_c a' m' c' (1048576 - (m : Int)) (by omega) (by omega) hb' w
    have d1 : decide ((1048576 : Int) - (m : Int) < 0) = false := decide_eq_false (by omega)
    by_cases h2 : m + m' ≤ 1048576
    · rw [if_pos (by omega)] at z2
      rw [if_pos h2]
      have d2 : decide ((1048576 : Int) - (m : Int) - (m' : Int) < 0) = false := decide_eq_false (by omega)
      go_enter Tryz.func25, Tryz.ntmps25
      go_wp2_with (first | (go_at_call 58; refine (z1 _).mono ?_; rintro e w1 ⟨rfl, rfl⟩) | (go_at_call 59; refine (z2 _).mono ?_; rintro e w1 ⟨rfl, rfl⟩))
      go_ret
      exact ⟨rfl, B1⟩
    · rw [if_neg (by omega)] at z2
      rw [if_neg h2]
      go_enter Tryz.func25, Tryz.ntmps25
      go_wp2_with (first | (go_at_call 58; refine (z1 _).mono ?_; rintro e w1 ⟨rfl, rfl⟩) | (go_at_call 59; refine (z2 _).mono ?_; rintro e w1 ⟨rfl, rfl⟩))
      go_ret
      exact ⟨rfl, B1⟩
  · rw [if_neg (by omega)] at z1
    rw [if_neg (by omega)]
    go_enter Tryz.func25, Tryz.ntmps25
    go_wp2_with (first | (go_at_call 58; refine (z1 _).mono ?_; rintro e w1 ⟨rfl, rfl⟩))
    go_ret
    exact ⟨rfl, B1⟩
/- two new lists of a board -/
structure NewB (w : World) (base g g' : Nat) (us : List K10) (fs : List K3) : Prop where
  u : w.rowIs g 87 (us.length * 10) (rowU us us.length)
  f : w.rowIs g' 90 (fs.length * 3) (rowF fs fs.length)
  le : base ≤ g
  lt : g < g'
theorem NewB.later {w w' : World} {base g g' : Nat} {us : List K10} {fs : List K3} (h : NewB w base g g' us fs) (hb : Below w.heap.size w w') : NewB w' base g g' us fs :=
  ⟨h.u.of_block (hb.block g h.u.lt), h.f.of_block (hb.block g' h.f.lt), h.le, h.lt⟩
theorem NewB.argU {w : World} {base g g' : Nat} {us : List K10} {fs : List K3} (h : NewB w base g g' us fs) : ArgU w (some ⟨g, 0, none⟩) us := .inr ⟨g, 0, rfl, h.u.lt, rowU_is rfl h.u⟩
theorem NewB.argF {w : World} {base g g' : Nat} {us : List K10} {fs : List K3} (h : NewB w base g g' us fs) : ArgF w (some ⟨g', 0, none⟩) fs := .inr ⟨g', 0, rfl, h.f.lt, rowF_is rfl h.f⟩
theorem row_other {w : World} {g : Nat} {t : TypeId} {n : Nat} {f : Nat → Value} (h : w.rowIs g t n f) {a : Addr} (ha : g ≠ a.block) (v : Value) : (w.setCell a v).rowIs g t n f := h.of_block (Below.heap_setCell _ a v g ha)
theorem bel_set {n : Nat} {w w' : World} (h : Below n w w') (b o : Nat) (hb : n ≤ b) (v : Value) : Below n w (w'.setCell ⟨b, o, none⟩ v) := h.setCell hb v
theorem three_two (w : World) (s f z : Value) (t t2 : TypeId) : let W := ((w.alloc (.cells #[s, f] t)).alloc (.cells #[z, z] t2)).alloc (.cells #[z, z] t2)
    W.rowIs w.heap.size t 2 (fun i => if i = 0 then s else f) ∧ W.rowIs (w.heap.size + 1) t2 2 (fun i => if i = 0 then z else z) ∧ W.rowIs (w.heap.size + 1 + 1) t2 2 (fun i => if i = 0 then z else z) ∧ Below w.heap.size w W ∧ W.heap.size = w.heap.size + 1 + 1 + 1 := by
  intro W
  have s1 : (w.alloc (.cells #[s, f] t)).heap.size = w.heap.size + 1 := size_new _ _
  have s2 : ((w.alloc (.cells #[s, f] t)).alloc (.cells #[z, z] t2)).heap.size = w.heap.size + 1 + 1 := by rw [size_new, s1]
  have s3 : W.heap.size = w.heap.size + 1 + 1 + 1 := by show (World.alloc _ _).heap.size = _; rw [size_new, s2]
  have b1 : Below (w.alloc (.cells #[s, f] t)).heap.size (w.alloc (.cells #[s, f] t)) W := ((Below.refl _ _).alloc (Nat.le_refl _) _).alloc (by rw [s2, s1]; omega) _
  have b2 : Below ((w.alloc (.cells #[s, f] t)).alloc (.cells #[z, z] t2)).heap.size ((w.alloc (.cells #[s, f] t)).alloc (.cells #[z, z] t2)) W := (Below.refl _ _).alloc (Nat.le_refl _) _
  have r0 := rowTwo w s f t
  have r1 := rowTwo (w.alloc (.cells #[s, f] t)) z z t2
  have r2 := rowTwo ((w.alloc (.cells #[s, f] t)).alloc (.cells #[z, z] t2)) z z t2
  rw [s1] at r1
  rw [s2] at r2
  exact ⟨r0.of_block (b1.block _ r0.lt), r1.of_block (b2.block _ r1.lt), r2, (((Below.refl _ _).alloc (Nat.le_refl _) _).alloc (by rw [s1]; omega) _).alloc (by rw [s2]; omega) _, s3⟩
set_option maxHeartbeats 4000000 in
theorem toBoard_c (a : Option Addr) (c : Nat) (a' : Option Addr) (c' : Nat) (us : List K10) (fs : List K3) (hm : us.length ≤ 1048576) (hm' : fs.length ≤ 1048576) (w : World) (hU : ArgU w a us) (hF : ArgF w a' fs) :
    Calls Tryz.prog 26 #[.agg (brdV a us.length c a' fs.length c')] w fun e w' => ∃ g g', e = .returned (.agg (brdV (some ⟨g, 0, none⟩) us.length us.length (some ⟨g', 0, none⟩) fs.length fs.length)) ∧ NewB w' w.heap.size g g' us fs ∧ Below w.heap.size w w' := by
  have HU : Hid (ArgU w a us) := hU
  have HF : Hid (ArgF w a' fs) := hF
  have cU := fun W h => toUnitS_c a us.length c us rfl hm W h
  have cF := fun W h => toFieldS_c a' fs.length c' fs rfl hm' W h
  clear hU hF
  obtain ⟨m, Hm⟩ : ∃ m, Hid (m = us.length) := ⟨_, rfl⟩
  obtain ⟨m', Hm'⟩ : ∃ m', Hid (m' = fs.length) := ⟨_, rfl⟩
  rw [← Hm.out] at cU hm ⊢
  rw [← Hm'.out] at cF hm' ⊢
  go_enter Tryz.func26, Tryz.ntmps26
  go_wp2_with fail
  obtain ⟨r0, r1, r2, B3, S3⟩ := three_two w (.slice a m c) (.slice a' m' c') (.slice none 0 0) 50 27
  refine (cU _ (HU.out.later B3)).mono ?_
  rintro e w1 ⟨rfl, q1, k1⟩
  rw [S3] at q1 k1 ⊢
  replace r0 := r0.of_block (k1.block _ (by omega))
  replace r1 := r1.of_block (k1.block _ (by omega))
  replace r2 := r2.of_block (k1.block _ (by omega))
  have B4 := B3.trans (k1.mono (by omega))
  have ql := q1.lt
  have p1 : w1.cell? ⟨w.heap.size, 1, none⟩ = some (.slice a' m' c') := r0.cell (i := 1) (by omega)
  have e0 : w1.cell? ⟨w.heap.size + 1 + 1, 0, none⟩ = some (.slice none 0 0) := r2.cell (i := 0) (by omega)
  have z0 := r2.frozen 0
  have x0 := r0.lt
  have x2 := r2.lt
  go_wp2_with fail
  have B5 : Below w.heap.size w (w1.setCell ⟨w.heap.size + 1 + 1, 0, none⟩ (.slice (some ⟨w.heap.size + 1 + 1 + 1, 0, none⟩) m m)) := B4.setCell (by show _ ≤ w.heap.size + 1 + 1; omega) _
  refine (cF _ (HF.out.later B5)).mono ?_
  rintro e w2 ⟨rfl, q2, k2⟩
  replace r1 := (row_other r1 (a := ⟨w.heap.size + 1 + 1, 0, none⟩) (by show _ ≠ w.heap.size + 1 + 1; omega) (.slice (some ⟨w.heap.size + 1 + 1 + 1, 0, none⟩) m m))
  replace q1 := (row_other q1 (a := ⟨w.heap.size + 1 + 1, 0, none⟩) (by show _ ≠ w.heap.size + 1 + 1; omega) (.slice (some ⟨w.heap.size + 1 + 1 + 1, 0, none⟩) m m))
  replace r2 := r2.set 0 (.slice (some ⟨w.heap.size + 1 + 1 + 1, 0, none⟩) m m)
  have ql2 := q1.lt
  replace r1 := r1.of_block (k2.block _ r1.lt)
  replace r2 := r2.of_block (k2.block _ r2.lt)
  replace q1 := q1.of_block (k2.block _ q1.lt)
  have B6 := B5.trans (k2.mono B5.size)
  obtain ⟨G, HG⟩ : ∃ G, Hid (G = (w1.setCell ⟨w.heap.size + 1 + 1, 0, none⟩ (.slice (some ⟨w.heap.size + 1 + 1 + 1, 0, none⟩) m m)).heap.size) := ⟨_, rfl⟩
  rw [← HG.out] at q2 ql2 ⊢
  clear k1 k2 p1 e0 z0
  have f0 : w2.cell? ⟨w.heap.size + 1 + 1, 0, none⟩ = some (.slice (some ⟨w.heap.size + 1 + 1 + 1, 0, none⟩) m m) := r2.cell (i := 0) (by omega)
  have f1 : w2.cell? ⟨w.heap.size + 1 + 1, 1, none⟩ = some (.slice none 0 0) := r2.cell (i := 1) (by omega)
  have g0 : w2.cell? ⟨w.heap.size + 1, 0, none⟩ = some (.slice none 0 0) := r1.cell (i := 0) (by omega)
  have g1 : w2.cell? ⟨w.heap.size + 1, 1, none⟩ = some (.slice none 0 0) := r1.cell (i := 1) (by omega)
  have y0 := r2.frozen 0
  have y1 := r2.frozen 1
  have v0 := r1.frozen 0
  have v1 := r1.frozen 1
  have x3 := r2.lt
  have x4 := r1.lt
  go_wp2_with fail
  have O2 : ∀ {g : Nat} {t : TypeId} {n : Nat} {f : Nat → Value}, w2.rowIs g t n f → g ≠ w.heap.size + 1 + 1 → (w2.setCell ⟨w.heap.size + 1 + 1, 1, none⟩ (.slice (some ⟨G, 0, none⟩) m' m')).rowIs g t n f := fun h hn => row_other h hn _
  have t1 := ((O2 r1 (by omega)).set 0 (.slice (some ⟨w.heap.size + 1 + 1 + 1, 0, none⟩) m m)).set 1 (.slice (some ⟨G, 0, none⟩) m' m')
  have t2 := row_other (row_other (O2 q1 (by omega)) (a := ⟨w.heap.size + 1, 0, none⟩) (by show _ ≠ w.heap.size + 1; omega) (.slice (some ⟨w.heap.size + 1 + 1 + 1, 0, none⟩) m m)) (a := ⟨w.heap.size + 1, 1, none⟩) (by show _ ≠ w.heap.size + 1; omega) (.slice (some ⟨G, 0, none⟩) m' m')
  have t3 := row_other (row_other (O2 q2 (by omega)) (a := ⟨w.heap.size + 1, 0, none⟩) (by show _ ≠ w.heap.size + 1; omega) (.slice (some ⟨w.heap.size + 1 + 1 + 1, 0, none⟩) m m)) (a := ⟨w.heap.size + 1, 1, none⟩) (by show _ ≠ w.heap.size + 1; omega) (.slice (some ⟨G, 0, none⟩) m' m')
  have B7 := bel_set (bel_set (bel_set B6 (w.heap.size + 1 + 1) 1 (by omega) (.slice (some ⟨G, 0, none⟩) m' m')) (w.heap.size + 1) 0 (by omega) (.slice (some ⟨w.heap.size + 1 + 1 + 1, 0, none⟩) m m)) (w.heap.size + 1) 1 (by omega) (.slice (some ⟨G, 0, none⟩) m' m')
  have c0 := t1.cell (i := 0) (by omega)
  have c1 := t1.cell (i := 1) (by omega)
  refine bodyPost_ret (v := .agg #[.slice (some ⟨w.heap.size + 1 + 1 + 1, 0, none⟩) m m, .slice (some ⟨G, 0, none⟩) m' m']) ?_ rfl ⟨w.heap.size + 1 + 1 + 1, G, rfl, ⟨by rw [← Hm.out]; exact t2, by rw [← Hm'.out]; exact t3, by omega, ql2⟩, B7⟩
  simp [results, Tryz.results26, go_sem, c0, c1]
  done
set_option maxHeartbeats 4000000 in
theorem eqBoard_same (g o c g' o' c' h p d h' p' d' : Nat) (us : List K10) (fs : List K3) (hm : us.length ≤ 1048576) (hm' : fs.length ≤ 1048576) (w : World) (hg : g < w.heap.size) (hg' : g' < w.heap.size) (hh : h < w.heap.size) (hh' : h' < w.heap.size)
    (u1 : UAt w g o us) (f1 : FAt w g' o' fs) (u2 : UAt w h p us) (f2 : FAt w h' p' fs) :
    Calls Tryz.prog 29 #[.agg (brdV (some ⟨g, o, none⟩) us.length c (some ⟨g', o', none⟩) fs.length c'), .agg (brdV (some ⟨h, p, none⟩) us.length d (some ⟨h', p', none⟩) fs.length d')] w fun e w' => e = .returned (.bool true) ∧ Below w.heap.size w w' := by
  have cU := fun W h1 h2 k1 k2 => eqUnitS_same W g o h p c d us.length us rfl hm h1 h2 k1 k2
  have cF := fun W h1 h2 k1 k2 => eqFieldS_same W g' o' h' p' c' d' fs.length fs rfl hm' h1 h2 k1 k2
  obtain ⟨m, Hm⟩ : ∃ m, Hid (m = us.length) := ⟨_, rfl⟩
  obtain ⟨m', Hm'⟩ : ∃ m', Hid (m' = fs.length) := ⟨_, rfl⟩
  rw [← Hm.out] at cU ⊢
  rw [← Hm'.out] at cF ⊢
  obtain ⟨W, HW⟩ : ∃ W, Hid (W = (w.alloc (.cells (brdV (some ⟨g, o, none⟩) m c (some ⟨g', o', none⟩) m' c') 27)).alloc (.cells (brdV (some ⟨h, p, none⟩) m d (some ⟨h', p', none⟩) m' d') 27)) := ⟨_, rfl⟩
  have B2 : Below w.heap.size w W := by rw [HW.out]; exact ((Below.refl _ _).alloc (Nat.le_refl _) _).alloc (by rw [size_new]; omega) _
  have s0 := rowTwo w (.slice (some ⟨g, o, none⟩) m c) (.slice (some ⟨g', o', none⟩) m' c') 27
  have s1 := rowTwo (w.alloc (.cells (brdV (some ⟨g, o, none⟩) m c (some ⟨g', o', none⟩) m' c') 27)) (.slice (some ⟨h, p, none⟩) m d) (.slice (some ⟨h', p', none⟩) m' d') 27
  replace s0 := s0.of_block (((Below.refl _ _).alloc (Nat.le_refl _) (.cells (brdV (some ⟨h, p, none⟩) m d (some ⟨h', p', none⟩) m' d') 27)).block _ s0.lt)
  rw [size_new] at s1
  rw [← HW.out] at s0 s1
  go_enter Tryz.func29, Tryz.ntmps29
  go_wp2_with fail
  rw [← HW.out]
  refine (cU _ (Nat.lt_of_lt_of_le hg B2.size) (Nat.lt_of_lt_of_le hh B2.size) (u1.later hg B2) (u2.later hh B2)).mono ?_
  rintro e w1 ⟨rfl, k1⟩
  have B3 := B2.trans (k1.mono B2.size)
  replace s0 := s0.of_block (k1.block _ s0.lt)
  replace s1 := s1.of_block (k1.block _ s1.lt)
  have c0 : w1.cell? ⟨w.heap.size, 1, none⟩ = some (.slice (some ⟨g', o', none⟩) m' c') := s0.cell (i := 1) (by omega)
  have c1 : w1.cell? ⟨w.heap.size + 1, 1, none⟩ = some (.slice (some ⟨h', p', none⟩) m' d') := s1.cell (i := 1) (by omega)
  go_wp2_with fail
  refine (cF _ (Nat.lt_of_lt_of_le hg' B3.size) (Nat.lt_of_lt_of_le hh' B3.size) (f1.later hg' B3) (f2.later hh' B3)).mono ?_
  rintro e w2 ⟨rfl, k2⟩
  go_wp2
  go_ret
  exact ⟨rfl, B3.trans (k2.mono B3.size)⟩
theorem NewB.eq {w : World} {base base2 g g' h h' : Nat} {us : List K10} {fs : List K3} (N1 : NewB w base g g' us fs) (N2 : NewB w base2 h h' us fs) (hm : us.length ≤ 1048576) (hm' : fs.length ≤ 1048576) :
    Calls Tryz.prog 29 #[.agg (brdV (some ⟨g, 0, none⟩) us.length us.length (some ⟨g', 0, none⟩) fs.length fs.length), .agg (brdV (some ⟨h, 0, none⟩) us.length us.length (some ⟨h', 0, none⟩) fs.length fs.length)] w fun e w' => e = .returned (.bool true) ∧ Below w.heap.size w w' :=
  eqBoard_same g 0 us.length g' 0 fs.length h 0 us.length h' 0 fs.length us fs hm hm' w N1.u.lt N1.f.lt N2.u.lt N2.f.lt (rowU_is rfl N1.u) (rowF_is rfl N1.f) (rowU_is rfl N2.u) (rowF_is rfl N2.f)
end Go.Proofs.YtepjkcfheejlbaaGreatDoor
end

/- Brd -/
/- Plain functions of chapter 4 (the board): the fault of a unit and of a board, and what is asked of a board. No condition. -/
section
namespace Go.Proofs.YtepjkcfheejlbaaGreatDoor.Bd

/- is v from lo to hi -/
def inb (v lo hi : Int) : Bool := decide (lo ≤ v ∧ v ≤ hi)
theorem inb_t {v lo hi : Int} (h1 : lo ≤ v) (h2 : v ≤ hi) : inb v lo hi = true := decide_eq_true ⟨h1, h2⟩
theorem inb_f {v lo hi : Int} (h : v < lo ∨ hi < v) : inb v lo hi = false := decide_eq_false (by omega)
theorem inb_i {v lo hi : Int} (h : inb v lo hi = true) : lo ≤ v ∧ v ≤ hi := of_decide_eq_true h
theorem inb_n {v lo hi : Int} (h : inb v lo hi = false) : v < lo ∨ hi < v := by have := of_decide_eq_false h; omega
/- an owner; a tile -/
def own (v : Int) : Bool := inb v 0 3 || v == 9
def tile (x y : Int) : Bool := inb x 0 11 && inb y 0 11
def head (i o x y l c : Int) : Bool := inb i 1 99 && (own o && (tile x y && (inb l 1 50 && inb c 0 20)))
def form (j tx ty p : Int) : Bool := if j = 0 then (tx == 0 && ty == 0) && p == 0 else if j = 1 then p == 0 else if j = 2 ∨ j = 3 then tx == 0 && ty == 0 else false
def rng (i j tx ty p : Int) : Bool := if j = 1 then tile tx ty else if j = 2 then inb p 0 3 else if j = 3 then inb p 1 99 && (p != i) else true
def jf (i j tx ty p : Int) : Int := if form j tx ty p = false then 1 else if rng i j tx ty p = false then 3 else 0
/- UnitFault -/
def uf (u : K10) : Int := if head u.c0 u.c1 u.c2 u.c3 u.c4 u.c5 = false then 3 else jf u.c0 u.c6 u.c7 u.c8 u.c9
theorem jf_bd (i j tx ty p : Int) : jf i j tx ty p = 0 ∨ jf i j tx ty p = 1 ∨ jf i j tx ty p = 3 := by
  unfold jf
  split
  · exact .inr (.inl rfl)
  · split
    · exact .inr (.inr rfl)
    · exact .inl rfl
theorem uf_bd (u : K10) : uf u = 0 ∨ uf u = 1 ∨ uf u = 3 := by
  unfold uf
  split
  · exact .inr (.inr rfl)
  · exact jf_bd _ _ _ _ _
theorem uf_id {u : K10} (h : uf u = 0) : 1 ≤ u.c0 ∧ u.c0 ≤ 99 := by
  unfold uf at h
  split at h
  · cases h
  · rename_i hh
    have e : head u.c0 u.c1 u.c2 u.c3 u.c4 u.c5 = true := by revert hh; cases head u.c0 u.c1 u.c2 u.c3 u.c4 u.c5 <;> simp
    unfold head at e
    rw [Bool.and_eq_true] at e
    exact inb_i e.1
theorem uf_carry {u : K10} (h : uf u = 0) : 0 ≤ u.c5 ∧ u.c5 ≤ 20 := by
  unfold uf at h
  split at h
  · cases h
  · rename_i hh
    have e : head u.c0 u.c1 u.c2 u.c3 u.c4 u.c5 = true := by revert hh; cases head u.c0 u.c1 u.c2 u.c3 u.c4 u.c5 <;> simp
    unfold head at e
    rw [Bool.and_eq_true, Bool.and_eq_true, Bool.and_eq_true, Bool.and_eq_true] at e
    exact inb_i e.2.2.2.2
/- the places where a job can stand -/
theorem job_cases (j : Int) : j = 0 ∨ j = 1 ∨ j = 2 ∨ j = 3 ∨ ((j == 0) = false ∧ (j == 1) = false ∧ (j == 2) = false ∧ (j == 3) = false) := by
  by_cases h0 : j = 0
  · exact .inl h0
  by_cases h1 : j = 1
  · exact .inr (.inl h1)
  by_cases h2 : j = 2
  · exact .inr (.inr (.inl h2))
  by_cases h3 : j = 3
  · exact .inr (.inr (.inr (.inl h3)))
  · exact .inr (.inr (.inr (.inr ⟨by simpa using h0, by simpa using h1, by simpa using h2, by simpa using h3⟩)))
/- a field -/
def ff (f : K3) : Bool := tile f.c0 f.c1 && inb f.c2 0 10000
theorem ff_left {f : K3} (h : ff f = true) : 0 ≤ f.c2 ∧ f.c2 ≤ 10000 := by
  unfold ff at h
  rw [Bool.and_eq_true] at h
  exact inb_i h.2
def ffs : List K3 → Int
  | [] => 0
  | f :: l => if ff f = false then 3 else ffs l
/- is x no more than the Id ahead of it -/
def leP (p : Option Int) (x : Int) : Bool := match p with | some q => decide (x ≤ q) | none => false
/- the units' fault, behind the unit with the Id p; F: what comes behind the units -/
def ufs (p : Option Int) (F : Int) : List K10 → Int
  | [] => F
  | u :: l => if (uf u == 0) = false then uf u else if leP p u.c0 = true then 1 else ufs (some u.c0) F l
/- BoardFault -/
def bf (us : List K10) (fs : List K3) : Int := if us.length > 8 ∨ fs.length > 4 then 2 else ufs none (ffs fs) us
/- the Id ahead of place k -/
def prevId (l : List K10) (k : Nat) : Option Int := if k = 0 then none else (l[k - 1]?).map K10.c0
theorem prevId_next {l : List K10} {k : Nat} {u : K10} (h : l[k]? = some u) : prevId l (k + 1) = some u.c0 := by
  unfold prevId
  rw [if_neg (by omega), Nat.add_sub_cancel, h]; rfl
theorem ufs_step {l : List K10} {k : Nat} {u : K10} {p : Option Int} {F : Int} (h : l[k]? = some u) :
    ufs p F (l.drop k) = if (uf u == 0) = false then uf u else if leP p u.c0 = true then 1 else ufs (some u.c0) F (l.drop (k + 1)) := by
  have h' := List.getElem?_eq_some_iff.1 h
  rw [List.drop_eq_getElem_cons h'.1, h'.2]; rfl
theorem ffs_step {l : List K3} {k : Nat} {f : K3} (h : l[k]? = some f) : ffs (l.drop k) = if ff f = false then 3 else ffs (l.drop (k + 1)) := by
  have h' := List.getElem?_eq_some_iff.1 h
  rw [List.drop_eq_getElem_cons h'.1, h'.2]; rfl
/- what a board without a fault is -/
theorem ffs_ok {l : List K3} (h : ffs l = 0) : ∀ f ∈ l, ff f = true := by
  induction l with
  | nil => intro f hf; cases hf
  | cons a l ih =>
    unfold ffs at h
    split at h
    · cases h
    · rename_i hh
      intro f hf
      rcases List.mem_cons.1 hf with rfl | hf
      · revert hh; cases ff f <;> simp
      · exact ih h f hf
theorem ufs_ok {F : Int} : ∀ {l : List K10} {p : Option Int}, ufs p F l = 0 → F = 0 ∧ (∀ u ∈ l, uf u = 0) ∧ (∀ q u, p = some q → u ∈ l → q < u.c0) ∧ l.Pairwise (fun a b => a.c0 < b.c0)
  | [], p, h => ⟨h, (fun _ hu => by cases hu), (fun _ _ _ hu => by cases hu), List.Pairwise.nil⟩
  | a :: l, p, h => by
    unfold ufs at h
    split at h
    · rename_i h1
      rw [h] at h1
      cases h1
    · rename_i h1
      have e1 : uf a = 0 := by revert h1; cases e : uf a == 0 <;> simp; simpa using e
      split at h
      · cases h
      · rename_i h2
        obtain ⟨i1, i2, i3, i4⟩ := ufs_ok h
        refine ⟨i1, ?_, ?_, ?_⟩
        · intro u hu
          rcases List.mem_cons.1 hu with rfl | hu
          · exact e1
          · exact i2 u hu
        · rintro q u rfl hu
          have hq : q < a.c0 := by simpa [leP] using h2
          rcases List.mem_cons.1 hu with rfl | hu
          · exact hq
          · have := i3 a.c0 u rfl hu; omega
        · exact List.Pairwise.cons (fun u hu => i3 a.c0 u rfl hu) i4
theorem bf_ok {us : List K10} {fs : List K3} (h : bf us fs = 0) : us.length ≤ 8 ∧ fs.length ≤ 4 ∧ (∀ u ∈ us, uf u = 0) ∧ (∀ f ∈ fs, ff f = true) ∧ us.Pairwise (fun a b => a.c0 < b.c0) := by
  unfold bf at h
  split at h
  · cases h
  · rename_i h1
    obtain ⟨i1, i2, _, i4⟩ := ufs_ok h
    exact ⟨by omega, by omega, i2, ffs_ok i1, i4⟩
theorem ffs_bd (l : List K3) : ffs l = 0 ∨ ffs l = 3 := by
  induction l with
  | nil => exact .inl rfl
  | cons a l ih =>
    unfold ffs
    split
    · exact .inr rfl
    · exact ih
theorem ufs_bd {F : Int} (hF : F = 0 ∨ F = 3) : ∀ (l : List K10) (p : Option Int), ufs p F l = 0 ∨ ufs p F l = 1 ∨ ufs p F l = 3
  | [], p => by rcases hF with h | h <;> simp [ufs, h]
  | a :: l, p => by
    unfold ufs
    split
    · exact uf_bd a
    · split
      · exact .inr (.inl rfl)
      · exact ufs_bd hF l _
theorem bf_bd (us : List K10) (fs : List K3) : bf us fs = 0 ∨ bf us fs = 1 ∨ bf us fs = 2 ∨ bf us fs = 3 := by
  unfold bf
  split
  · exact .inr (.inr (.inl rfl))
  · rcases ufs_bd (ffs_bd fs) us none with h | h | h <;> simp [h]
end Go.Proofs.YtepjkcfheejlbaaGreatDoor.Bd
end
