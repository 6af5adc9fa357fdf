/- Texts of mine put together (a claim holds at most 60 files): ExactBoard, Brd, BrdNums. -/
import Derived.Test.YtepjkcfheejlbaaDoorPartR00

/- ExactBoard -/
/- Contracts of the exact laws' own helpers on boards. Condition: the lists have at most 1048576 members. -/
section
namespace Go.Proofs.YtepjkcfheejlbaaDoor
open Go.ChangeShapes Go.WideShapes Go.ChangeAt Go.RowKit
set_option linter.unusedVariables false

theorem rowTwo (w : World) (s f : Value) (t : TypeId) : (w.alloc (.cells #[s, f] t)).rowIs w.heap.size t 2 (fun i => if i = 0 then s else f) := by
  refine ⟨#[s, f], ?_, rfl, fun i hi => ?_⟩
  · show (w.heap.push _)[w.heap.size]? = _
    simp
  · have h : i = 0 ∨ i = 1 := by omega
    rcases h with rfl | rfl <;> rfl
abbrev brdV (a : Option Addr) (m c : Nat) (a' : Option Addr) (m' c' : Nat) : Array Value := #[.slice a m c, .slice a' m' c']
/- two new lists of a board -/
structure NewB (w : World) (base g g' : Nat) (us : List K10) (fs : List K3) : Prop where
  u : w.rowIs g 37 (us.length * 10) (rowU us us.length)
  f : w.rowIs g' 53 (fs.length * 3) (rowF fs fs.length)
  le : base ≤ g
  lt : g < g'
theorem NewB.later {w w' : World} {base g g' : Nat} {us : List K10} {fs : List K3} (h : NewB w base g g' us fs) (hb : Below w.heap.size w w') : NewB w' base g g' us fs :=
  ⟨h.u.of_block (hb.block g h.u.lt), h.f.of_block (hb.block g' h.f.lt), h.le, h.lt⟩
theorem NewB.argU {w : World} {base g g' : Nat} {us : List K10} {fs : List K3} (h : NewB w base g g' us fs) : ArgU w (some ⟨g, 0, none⟩) us := .inr ⟨g, 0, rfl, h.u.lt, rowU_is rfl h.u⟩
theorem NewB.argF {w : World} {base g g' : Nat} {us : List K10} {fs : List K3} (h : NewB w base g g' us fs) : ArgF w (some ⟨g', 0, none⟩) fs := .inr ⟨g', 0, rfl, h.f.lt, rowF_is rfl h.f⟩
theorem row_other {w : World} {g : Nat} {t : TypeId} {n : Nat} {f : Nat → Value} (h : w.rowIs g t n f) {a : Addr} (ha : g ≠ a.block) (v : Value) : (w.setCell a v).rowIs g t n f := h.of_block (Below.heap_setCell _ a v g ha)
theorem bel_set {n : Nat} {w w' : World} (h : Below n w w') (b o : Nat) (hb : n ≤ b) (v : Value) : Below n w (w'.setCell ⟨b, o, none⟩ v) := h.setCell hb v
theorem three_two (w : World) (s f z : Value) (t t2 : TypeId) : let W := ((w.alloc (.cells #[s, f] t)).alloc (.cells #[z, z] t2)).alloc (.cells #[z, z] t2)
    W.rowIs w.heap.size t 2 (fun i => if i = 0 then s else f) ∧ W.rowIs (w.heap.size + 1) t2 2 (fun i => if i = 0 then z else z) ∧ W.rowIs (w.heap.size + 1 + 1) t2 2 (fun i => if i = 0 then z else z) ∧ Below w.heap.size w W ∧ W.heap.size = w.heap.size + 1 + 1 + 1 := by
  intro W
  have s1 : (w.alloc (.cells #[s, f] t)).heap.size = w.heap.size + 1 := size_new _ _
  have s2 : ((w.alloc (.cells #[s, f] t)).alloc (.cells #[z, z] t2)).heap.size = w.heap.size + 1 + 1 := by rw [size_new, s1]
  have s3 : W.heap.size = w.heap.size + 1 + 1 + 1 := by show (World.alloc _ _).heap.size = _; rw [size_new, s2]
  have b1 : Below (w.alloc (.cells #[s, f] t)).heap.size (w.alloc (.cells #[s, f] t)) W := ((Below.refl _ _).alloc (Nat.le_refl _) _).alloc (by rw [s2, s1]; omega) _
  have b2 : Below ((w.alloc (.cells #[s, f] t)).alloc (.cells #[z, z] t2)).heap.size ((w.alloc (.cells #[s, f] t)).alloc (.cells #[z, z] t2)) W := (Below.refl _ _).alloc (Nat.le_refl _) _
  have r0 := rowTwo w s f t
  have r1 := rowTwo (w.alloc (.cells #[s, f] t)) z z t2
  have r2 := rowTwo ((w.alloc (.cells #[s, f] t)).alloc (.cells #[z, z] t2)) z z t2
  rw [s1] at r1
  rw [s2] at r2
  exact ⟨r0.of_block (b1.block _ r0.lt), r1.of_block (b2.block _ r1.lt), r2, (((Below.refl _ _).alloc (Nat.le_refl _) _).alloc (by rw [s1]; omega) _).alloc (by rw [s2]; omega) _, s3⟩
end Go.Proofs.YtepjkcfheejlbaaDoor
end

/- Brd -/
/- Plain functions of chapter 4 (the board): the fault of a unit and of a board, and what is asked of a board. No condition. -/
section
namespace Go.Proofs.YtepjkcfheejlbaaDoor.Bd

/- is v from lo to hi -/
def inb (v lo hi : Int) : Bool := decide (lo ≤ v ∧ v ≤ hi)
theorem inb_t {v lo hi : Int} (h1 : lo ≤ v) (h2 : v ≤ hi) : inb v lo hi = true := decide_eq_true ⟨h1, h2⟩
theorem inb_f {v lo hi : Int} (h : v < lo ∨ hi < v) : inb v lo hi = false := decide_eq_false (by omega)
theorem inb_i {v lo hi : Int} (h : inb v lo hi = true) : lo ≤ v ∧ v ≤ hi := of_decide_eq_true h
theorem inb_n {v lo hi : Int} (h : inb v lo hi = false) : v < lo ∨ hi < v := by have := of_decide_eq_false h; omega
/- an owner; a tile -/
def own (v : Int) : Bool := inb v 0 3 || v == 9
def tile (x y : Int) : Bool := inb x 0 11 && inb y 0 11
def head (i o x y l c : Int) : Bool := inb i 1 99 && (own o && (tile x y && (inb l 1 50 && inb c 0 20)))
def form (j tx ty p : Int) : Bool := if j = 0 then (tx == 0 && ty == 0) && p == 0 else if j = 1 then p == 0 else if j = 2 ∨ j = 3 then tx == 0 && ty == 0 else false
def rng (i j tx ty p : Int) : Bool := if j = 1 then tile tx ty else if j = 2 then inb p 0 3 else if j = 3 then inb p 1 99 && (p != i) else true
def jf (i j tx ty p : Int) : Int := if form j tx ty p = false then 1 else if rng i j tx ty p = false then 3 else 0
/- UnitFault -/
def uf (u : K10) : Int := if head u.c0 u.c1 u.c2 u.c3 u.c4 u.c5 = false then 3 else jf u.c0 u.c6 u.c7 u.c8 u.c9
theorem jf_bd (i j tx ty p : Int) : jf i j tx ty p = 0 ∨ jf i j tx ty p = 1 ∨ jf i j tx ty p = 3 := by
  unfold jf
  split
  · exact .inr (.inl rfl)
  · split
    · exact .inr (.inr rfl)
    · exact .inl rfl
theorem uf_bd (u : K10) : uf u = 0 ∨ uf u = 1 ∨ uf u = 3 := by
  unfold uf
  split
  · exact .inr (.inr rfl)
  · exact jf_bd _ _ _ _ _
theorem uf_id {u : K10} (h : uf u = 0) : 1 ≤ u.c0 ∧ u.c0 ≤ 99 := by
  unfold uf at h
  split at h
  · cases h
  · rename_i hh
    have e : head u.c0 u.c1 u.c2 u.c3 u.c4 u.c5 = true := by revert hh; cases head u.c0 u.c1 u.c2 u.c3 u.c4 u.c5 <;> simp
    unfold head at e
    rw [Bool.and_eq_true] at e
    exact inb_i e.1
theorem uf_carry {u : K10} (h : uf u = 0) : 0 ≤ u.c5 ∧ u.c5 ≤ 20 := by
  unfold uf at h
  split at h
  · cases h
  · rename_i hh
    have e : head u.c0 u.c1 u.c2 u.c3 u.c4 u.c5 = true := by revert hh; cases head u.c0 u.c1 u.c2 u.c3 u.c4 u.c5 <;> simp
    unfold head at e
    rw [Bool.and_eq_true, Bool.and_eq_true, Bool.and_eq_true, Bool.and_eq_true] at e
    exact inb_i e.2.2.2.2
/- the places where a job can stand -/
theorem job_cases (j : Int) : j = 0 ∨ j = 1 ∨ j = 2 ∨ j = 3 ∨ ((j == 0) = false ∧ (j == 1) = false ∧ (j == 2) = false ∧ (j == 3) = false) := by
  by_cases h0 : j = 0
  · exact .inl h0
  by_cases h1 : j = 1
  · exact .inr (.inl h1)
  by_cases h2 : j = 2
  · exact .inr (.inr (.inl h2))
  by_cases h3 : j = 3
  · exact .inr (.inr (.inr (.inl h3)))
  · exact .inr (.inr (.inr (.inr ⟨by simpa using h0, by simpa using h1, by simpa using h2, by simpa using h3⟩)))
/- a field -/
def ff (f : K3) : Bool := tile f.c0 f.c1 && inb f.c2 0 10000
theorem ff_left {f : K3} (h : ff f = true) : 0 ≤ f.c2 ∧ f.c2 ≤ 10000 := by
  unfold ff at h
  rw [Bool.and_eq_true] at h
  exact inb_i h.2
def ffs : List K3 → Int
  | [] => 0
  | f :: l => if ff f = false then 3 else ffs l
/- is x no more than the Id ahead of it -/
def leP (p : Option Int) (x : Int) : Bool := match p with | some q => decide (x ≤ q) | none => false
/- the units' fault, behind the unit with the Id p; F: what comes behind the units -/
def ufs (p : Option Int) (F : Int) : List K10 → Int
  | [] => F
  | u :: l => if (uf u == 0) = false then uf u else if leP p u.c0 = true then 1 else ufs (some u.c0) F l
/- BoardFault -/
def bf (us : List K10) (fs : List K3) : Int := if us.length > 8 ∨ fs.length > 4 then 2 else ufs none (ffs fs) us
/- the Id ahead of place k -/
def prevId (l : List K10) (k : Nat) : Option Int := if k = 0 then none else (l[k - 1]?).map K10.c0
theorem prevId_next {l : List K10} {k : Nat} {u : K10} (h : l[k]? = some u) : prevId l (k + 1) = some u.c0 := by
  unfold prevId
  rw [if_neg (by omega), Nat.add_sub_cancel, h]; rfl
theorem ufs_step {l : List K10} {k : Nat} {u : K10} {p : Option Int} {F : Int} (h : l[k]? = some u) :
    ufs p F (l.drop k) = if (uf u == 0) = false then uf u else if leP p u.c0 = true then 1 else ufs (some u.c0) F (l.drop (k + 1)) := by
  have h' := List.getElem?_eq_some_iff.1 h
  rw [List.drop_eq_getElem_cons h'.1, h'.2]; rfl
theorem ffs_step {l : List K3} {k : Nat} {f : K3} (h : l[k]? = some f) : ffs (l.drop k) = if ff f = false then 3 else ffs (l.drop (k + 1)) := by
  have h' := List.getElem?_eq_some_iff.1 h
  rw [List.drop_eq_getElem_cons h'.1, h'.2]; rfl
/- what a board without a fault is -/
theorem ffs_ok {l : List K3} (h : ffs l = 0) : ∀ f ∈ l, ff f = true := by
  induction l with
  | nil => intro f hf; cases hf
  | cons a l ih =>
    unfold ffs at h
    split at h
    · cases h
    · rename_i hh
      intro f hf
      rcases List.mem_cons.1 hf with rfl | hf
      · revert hh; cases ff f <;> simp
      · exact ih h f hf
theorem ufs_ok {F : Int} : ∀ {l : List K10} {p : Option Int}, ufs p F l = 0 → F = 0 ∧ (∀ u ∈ l, uf u = 0) ∧ (∀ q u, p = some q → u ∈ l → q < u.c0) ∧ l.Pairwise (fun a b => a.c0 < b.c0)
  | [], p, h => ⟨h, (fun _ hu => by cases hu), (fun _ _ _ hu => by cases hu), List.Pairwise.nil⟩
  | a :: l, p, h => by
    unfold ufs at h
    split at h
    · rename_i h1
      rw [h] at h1
      cases h1
    · rename_i h1
      have e1 : uf a = 0 := by revert h1; cases e : uf a == 0 <;> simp; simpa using e
      split at h
      · cases h
      · rename_i h2
        obtain ⟨i1, i2, i3, i4⟩ := ufs_ok h
        refine ⟨i1, ?_, ?_, ?_⟩
        · intro u hu
          rcases List.mem_cons.1 hu with rfl | hu
          · exact e1
          · exact i2 u hu
        · rintro q u rfl hu
          have hq : q < a.c0 := by simpa [leP] using h2
          rcases List.mem_cons.1 hu with rfl | hu
          · exact hq
          · have := i3 a.c0 u rfl hu; omega
        · exact List.Pairwise.cons (fun u hu => i3 a.c0 u rfl hu) i4
theorem bf_ok {us : List K10} {fs : List K3} (h : bf us fs = 0) : us.length ≤ 8 ∧ fs.length ≤ 4 ∧ (∀ u ∈ us, uf u = 0) ∧ (∀ f ∈ fs, ff f = true) ∧ us.Pairwise (fun a b => a.c0 < b.c0) := by
  unfold bf at h
  split at h
  · cases h
  · rename_i h1
    obtain ⟨i1, i2, _, i4⟩ := ufs_ok h
    exact ⟨by omega, by omega, i2, ffs_ok i1, i4⟩
theorem ffs_bd (l : List K3) : ffs l = 0 ∨ ffs l = 3 := by
  induction l with
  | nil => exact .inl rfl
  | cons a l ih =>
    unfold ffs
    split
    · exact .inr rfl
    · exact ih
theorem ufs_bd {F : Int} (hF : F = 0 ∨ F = 3) : ∀ (l : List K10) (p : Option Int), ufs p F l = 0 ∨ ufs p F l = 1 ∨ ufs p F l = 3
  | [], p => by rcases hF with h | h <;> simp [ufs, h]
  | a :: l, p => by
    unfold ufs
    split
    · exact uf_bd a
    · split
      · exact .inr (.inl rfl)
      · exact ufs_bd hF l _
theorem bf_bd (us : List K10) (fs : List K3) : bf us fs = 0 ∨ bf us fs = 1 ∨ bf us fs = 2 ∨ bf us fs = 3 := by
  unfold bf
  split
  · exact .inr (.inr (.inl rfl))
  · rcases ufs_bd (ffs_bd fs) us none with h | h | h <;> simp [h]
end Go.Proofs.YtepjkcfheejlbaaDoor.Bd
end

/- BrdNums -/
/- Contracts of the tests of numbers that a board is held against. No condition. -/
section
namespace Go.Proofs.YtepjkcfheejlbaaDoor
open Go.ChangeShapes Go.WideShapes Go.ChangeAt Go.RowKit
open Bd
set_option linter.unusedVariables false

theorem l1In_c (v lo hi : Int) (w : World) :
    Calls Tryd.prog 35 #[.int .i64 v, .int .i64 lo, .int .i64 hi] w fun e w' => e = .returned (.bool (inb v lo hi)) ∧ w' = w := by
  by_cases h1 : lo ≤ v
  · by_cases h2 : v ≤ hi
    · rw [inb_t h1 h2]
      go_enter Tryd.func35, Tryd.ntmps35
      go_wp2
      go_ret
      exact ⟨rfl, rfl⟩
    · rw [inb_f (by omega)]
      have d2 : decide (v ≤ hi) = false := decide_eq_false h2
      go_enter Tryd.func35, Tryd.ntmps35
      go_wp2
      go_ret
      exact ⟨rfl, rfl⟩
  · rw [inb_f (by omega)]
    have d2 : decide (lo ≤ v) = false := decide_eq_false h1
    go_enter Tryd.func35, Tryd.ntmps35
    go_wp2
    go_ret
    exact ⟨rfl, rfl⟩
theorem isId_c (v : Int) (w : World) :
    Calls Tryd.prog 46 #[.int .i64 v] w fun e w' => e = .returned (.bool (inb v 1 99)) ∧ w' = w := by
  by_cases h1 : 1 ≤ v
  · by_cases h2 : v ≤ 99
    · rw [inb_t h1 h2]
      go_enter Tryd.func46, Tryd.ntmps46
      go_wp2
      go_ret
      exact ⟨rfl, rfl⟩
    · rw [inb_f (by omega)]
      have d2 : decide (v ≤ 99) = false := decide_eq_false h2
      go_enter Tryd.func46, Tryd.ntmps46
      go_wp2
      go_ret
      exact ⟨rfl, rfl⟩
  · rw [inb_f (by omega)]
    have d2 : decide (1 ≤ v) = false := decide_eq_false h1
    go_enter Tryd.func46, Tryd.ntmps46
    go_wp2
    go_ret
    exact ⟨rfl, rfl⟩
theorem isSide_c (v : Int) (w : World) :
    Calls Tryd.prog 58 #[.int .i64 v] w fun e w' => e = .returned (.bool (inb v 0 3)) ∧ w' = w := by
  by_cases h1 : 0 ≤ v
  · by_cases h2 : v ≤ 3
    · rw [inb_t h1 h2]
      go_enter Tryd.func58, Tryd.ntmps58
      go_wp2
      go_ret
      exact ⟨rfl, rfl⟩
    · rw [inb_f (by omega)]
      have d2 : decide (v ≤ 3) = false := decide_eq_false h2
      go_enter Tryd.func58, Tryd.ntmps58
      go_wp2
      go_ret
      exact ⟨rfl, rfl⟩
  · rw [inb_f (by omega)]
    have d2 : decide (0 ≤ v) = false := decide_eq_false h1
    go_enter Tryd.func58, Tryd.ntmps58
    go_wp2
    go_ret
    exact ⟨rfl, rfl⟩
theorem isLife_c (v : Int) (w : World) :
    Calls Tryd.prog 48 #[.int .i64 v] w fun e w' => e = .returned (.bool (inb v 1 50)) ∧ w' = w := by
  by_cases h1 : 1 ≤ v
  · by_cases h2 : v ≤ 50
    · rw [inb_t h1 h2]
      go_enter Tryd.func48, Tryd.ntmps48
      go_wp2
      go_ret
      exact ⟨rfl, rfl⟩
    · rw [inb_f (by omega)]
      have d2 : decide (v ≤ 50) = false := decide_eq_false h2
      go_enter Tryd.func48, Tryd.ntmps48
      go_wp2
      go_ret
      exact ⟨rfl, rfl⟩
  · rw [inb_f (by omega)]
    have d2 : decide (1 ≤ v) = false := decide_eq_false h1
    go_enter Tryd.func48, Tryd.ntmps48
    go_wp2
    go_ret
    exact ⟨rfl, rfl⟩
theorem isCarry_c (v : Int) (w : World) :
    Calls Tryd.prog 49 #[.int .i64 v] w fun e w' => e = .returned (.bool (inb v 0 20)) ∧ w' = w := by
  by_cases h1 : 0 ≤ v
  · by_cases h2 : v ≤ 20
    · rw [inb_t h1 h2]
      go_enter Tryd.func49, Tryd.ntmps49
      go_wp2
      go_ret
      exact ⟨rfl, rfl⟩
    · rw [inb_f (by omega)]
      have d2 : decide (v ≤ 20) = false := decide_eq_false h2
      go_enter Tryd.func49, Tryd.ntmps49
      go_wp2
      go_ret
      exact ⟨rfl, rfl⟩
  · rw [inb_f (by omega)]
    have d2 : decide (0 ≤ v) = false := decide_eq_false h1
    go_enter Tryd.func49, Tryd.ntmps49
    go_wp2
    go_ret
    exact ⟨rfl, rfl⟩
theorem isOwner_c (v : Int) (w : World) :
    Calls Tryd.prog 47 #[.int .i64 v] w fun e w' => e = .returned (.bool (own v)) ∧ w' = w := by
  unfold own
  cases h : inb v 0 3
  · cases h9 : v == 9
    all_goals
      go_enter Tryd.func47, Tryd.ntmps47
      go_wp2_with (go_at_call 58; refine (isSide_c _ _).mono ?_; rintro e w' ⟨rfl, rfl⟩)
      go_ret
      exact ⟨rfl, rfl⟩
  · go_enter Tryd.func47, Tryd.ntmps47
    go_wp2_with (go_at_call 58; refine (isSide_c _ _).mono ?_; rintro e w' ⟨rfl, rfl⟩)
    go_ret
    exact ⟨rfl, rfl⟩
theorem l4Owner_c (v : Int) (w : World) :
    Calls Tryd.prog 52 #[.int .i64 v] w fun e w' => e = .returned (.bool (own v)) ∧ w' = w := by
  unfold own
  cases h : inb v 0 3
  · cases h9 : v == 9
    all_goals
      go_enter Tryd.func52, Tryd.ntmps52
      go_wp2_with (go_at_call 35; refine (l1In_c _ _ _ _).mono ?_; rintro e w' ⟨rfl, rfl⟩)
      go_ret
      exact ⟨rfl, rfl⟩
  · go_enter Tryd.func52, Tryd.ntmps52
    go_wp2_with (go_at_call 35; refine (l1In_c _ _ _ _).mono ?_; rintro e w' ⟨rfl, rfl⟩)
    go_ret
    exact ⟨rfl, rfl⟩
theorem l1Tile_c (x y : Int) (w : World) :
    Calls Tryd.prog 34 #[.int .i64 x, .int .i64 y] w fun e w' => e = .returned (.bool (tile x y)) ∧ w' = w := by
  unfold tile
  cases h : inb x 0 11
  all_goals
    go_enter Tryd.func34, Tryd.ntmps34
    go_wp2_with (go_at_call 35; refine (l1In_c _ _ _ _).mono ?_; rintro e w' ⟨rfl, rfl⟩)
    go_ret
    exact ⟨rfl, rfl⟩
theorem isTile_c (x y : Int) (w : World) :
    Calls Tryd.prog 23 #[.int .i64 x, .int .i64 y] w fun e w' => e = .returned (.bool (tile x y)) ∧ w' = w := by
  unfold tile inb
  by_cases h1 : 0 ≤ x
  · by_cases h2 : x ≤ 11
    · by_cases h3 : 0 ≤ y
      · by_cases h4 : y ≤ 11
        · rw [decide_eq_true (And.intro h1 h2), decide_eq_true (And.intro h3 h4)]
          go_enter Tryd.func23, Tryd.ntmps23
          go_wp2
          go_ret
          exact ⟨rfl, rfl⟩
        · rw [decide_eq_true (And.intro h1 h2), decide_eq_false (p := 0 ≤ y ∧ y ≤ 11) (by omega)]
          have d : decide (y ≤ 11) = false := decide_eq_false h4
          go_enter Tryd.func23, Tryd.ntmps23
          go_wp2
          go_ret
          exact ⟨rfl, rfl⟩
      · rw [decide_eq_true (And.intro h1 h2), decide_eq_false (p := 0 ≤ y ∧ y ≤ 11) (by omega)]
        have d : decide (0 ≤ y) = false := decide_eq_false h3
        go_enter Tryd.func23, Tryd.ntmps23
        go_wp2
        go_ret
        exact ⟨rfl, rfl⟩
    · rw [decide_eq_false (p := 0 ≤ x ∧ x ≤ 11) (by omega), Bool.false_and]
      have d : decide (x ≤ 11) = false := decide_eq_false h2
      go_enter Tryd.func23, Tryd.ntmps23
      go_wp2
      go_ret
      exact ⟨rfl, rfl⟩
  · rw [decide_eq_false (p := 0 ≤ x ∧ x ≤ 11) (by omega), Bool.false_and]
    have d : decide (0 ≤ x) = false := decide_eq_false h1
    go_enter Tryd.func23, Tryd.ntmps23
    go_wp2
    go_ret
    exact ⟨rfl, rfl⟩
end Go.Proofs.YtepjkcfheejlbaaDoor
end
