/- Texts of mine put together (a claim holds at most 60 files): Draws, Brd, BrdNums. -/
import Derived.Test.YtmfdggaijbcijaaGreatRows
import Derived.WalkKit
import Derived.ProofKit
import Derived.OpenShut
import Derived.ShutString
import Derived.WalkLawsBesides
import Derived.ChangeOld
import Derived.Below
import Derived.OwnWalk
import Derived.Deep.QuietTactic
import Derived.BigQuiet
import Derived.Test.YtmfdggaijbcijaaGreatPartQ00

/- Draws -/
/- Contracts of the draws: a number out of the bytes of a code is within its bounds, and a pick out of a list is one of that list; nothing turns but the source's own block. Conditions: the code's bytes can be read, and the source's place is small. -/
section
namespace Go.Proofs.YtmfdggaijbcijaaGreat
open Go.ChangeShapes Go.WideShapes Go.ChangeAt Go.RowKit
set_option linter.unusedVariables false

def IsRow (k : IntKind) (w : World) (a : Option Addr) (len cap : Nat) (zs : List Int) : Prop :=
  (a = none ∧ len = 0 ∧ cap = 0 ∧ zs = []) ∨
  ∃ x, a = some x ∧ len ≤ cap ∧ cap ≤ maxLen ∧ zs.length = cap ∧ (∀ i, i < zs.length → w.cell? (x.add i) = some (.int k (zs.getD i 0))) ∧ ∀ n ∈ zs, (Lit.int k n).wf = true

/- a slice of bytes below block p: each of its elements can be read -/
def Bytes (w : World) (a : Option Addr) (len : Nat) (p : Nat) : Prop :=
  len = 0 ∨ ∃ b off, a = some ⟨b, off, none⟩ ∧ b < p ∧ ∀ i, i < len → ∃ z : Int, 0 ≤ z ∧ z ≤ 255 ∧ w.cell? ⟨b, off + i, none⟩ = some (.int .u8 z)

theorem cell_lt {w : World} {a : Addr} {v : Value} (h : w.cell? a = some v) : a.block < w.heap.size := by
  unfold World.cell? at h
  by_cases hb : a.block < w.heap.size
  · exact hb
  · rw [Array.getElem?_eq_none (by omega)] at h
    cases h

theorem Bytes.of_row {w : World} {a : Option Addr} {len cap : Nat} {zs : List Int} (h : IsRow .u8 w a len cap zs) : Bytes w a len w.heap.size := by
  rcases h with ⟨rfl, rfl, rfl, rfl⟩ | ⟨x, rfl, hl, hm, hz, hcell, hwz⟩
  · exact .inl rfl
  · by_cases h0 : len = 0
    · exact .inl h0
    · obtain ⟨b, off, spot⟩ := x
      have hc := hcell 0 (by omega)
      have hspot : spot = none := by simpa [Addr.add] using World.cell?_spot hc
      subst hspot
      refine .inr ⟨b, off, rfl, ?_, ?_⟩
      · have := cell_lt hc
        simpa [Addr.add] using this
      · intro i hi
        have hci := hcell i (by omega)
        have hmem : zs.getD i 0 ∈ zs := by
          have hi' : i < zs.length := by omega
          have e : zs.getD i 0 = zs[i] := by simp [List.getD_eq_getElem?_getD, List.getElem?_eq_getElem hi']
          rw [e]
          exact List.getElem_mem _
        have hw := hwz _ hmem
        have hbd := bounds_u8 hw
        refine ⟨zs.getD i 0, hbd.1, hbd.2, ?_⟩
        by_cases hi0 : i = 0
        · subst hi0; simpa [Addr.add] using hci
        · simpa [Addr.add, hi0] using hci

theorem Bytes.kept {w w' : World} {a : Option Addr} {len p : Nat} (h : Bytes w a len p) (hb : Below p w w') : Bytes w' a len p := by
  rcases h with h | ⟨b, off, rfl, hlt, hc⟩
  · exact .inl h
  · refine .inr ⟨b, off, rfl, hlt, fun i hi => ?_⟩
    obtain ⟨z, h0, h1, h2⟩ := hc i hi
    exact ⟨z, h0, h1, by rw [hb.cell (p := ⟨b, off + i, none⟩) hlt]; exact h2⟩

/- the source: a block of its own, the code and the place -/
def Src (w : World) (p : Nat) (c : Value) (n : Int) : Prop := w.heap[p]? = some (.cells #[c, .int .i64 n] 107)

theorem Src.lt {w : World} {p : Nat} {c : Value} {n : Int} (h : Src w p c n) : p < w.heap.size := by
  by_cases hb : p < w.heap.size
  · exact hb
  · unfold Src at h
    rw [Array.getElem?_eq_none (by omega)] at h
    cases h
theorem Src.cell0 {w : World} {p : Nat} {c : Value} {n : Int} (h : Src w p c n) : w.cell? ⟨p, 0, none⟩ = some c := by
  unfold Src at h
  simp [World.cell?, h]
theorem Src.cell1 {w : World} {p : Nat} {c : Value} {n : Int} (h : Src w p c n) : w.cell? ⟨p, 1, none⟩ = some (.int .i64 n) := by
  unfold Src at h
  simp [World.cell?, h]
theorem Src.frozen {w : World} {p : Nat} {c : Value} {n : Int} (h : Src w p c n) : w.frozen? ⟨p, 1, none⟩ = false := by
  unfold Src at h
  simp [World.frozen?, h]
theorem Src.set {w : World} {p : Nat} {c : Value} {n : Int} (h : Src w p c n) (m : Int) (k : Nat) : Src ((w.setCell ⟨p, 1, none⟩ (.int .i64 m)).drewN k) p c m := by
  unfold Src at *
  simp [World.setCell, World.drewN, Array.getElem?_modify, h]
theorem Src.kept {w w' : World} {p : Nat} {c : Value} {n : Int} {row : Option Nat} (h : Src w p c n) (hg : w.grownBy w' row) (hne : some p ≠ row) : Src w' p c n := by
  unfold Src at *
  rw [hg.block p (Src.lt h) hne]; exact h
theorem grown_set (w : World) (p : Nat) (v : Value) (k : Nat) : w.grownBy ((w.setCell ⟨p, 1, none⟩ v).drewN k) (some p) :=
  ⟨rfl, rfl, rfl, by simp [World.setCell, World.drewN], fun i _ hi => Below.heap_setCell _ _ _ _ (fun e => hi (by rw [e]))⟩
theorem grown_trans {a b c : World} {row : Option Nat} (h : a.grownBy b row) (k : b.grownBy c row) : a.grownBy c row :=
  ⟨k.os.trans h.os, k.tape.trans h.tape, k.output.trans h.output, Nat.le_trans h.size k.size, fun i hi hne => (k.block i (Nat.lt_of_lt_of_le hi h.size) hne).trans (h.block i hi hne)⟩
theorem grown_below {w w' : World} {p : Nat} (h : w.grownBy w' (some p)) (hp : p ≤ w.heap.size) : Below p w w' :=
  ⟨h.os, h.tape, h.output, h.size, fun k hk => h.block k (by omega) (fun e => by cases e; omega)⟩

set_option maxHeartbeats 2000000 in
theorem draws (w : World) (p : Nat) (a : Option Addr) (len cap : Nat) (t n : Int) (hs : Src w p (.slice a len cap) t) (hb : Bytes w a len p)
    (hl : len ≤ 1048576) (h0 : 0 ≤ t) (h1 : t ≤ 1000000) (hn : 1 ≤ n) (hn2 : n ≤ 1000000000) :
    Calls Tryz.prog 41 #[.pointer (some ⟨p, 0, none⟩), .int .i64 n] w fun e w' => ∃ r : Int, e = .returned (.int .i64 r) ∧ 0 ≤ r ∧ r < n ∧ Src w' p (.slice a len cap) (t + 1) ∧ w.grownBy w' (some p) := by
  have c0 := hs.cell0
  have c1 := hs.cell1
  have fz := hs.frozen
  by_cases hz : len = 0
  · subst hz
    go_enter Tryz.func41, Tryz.ntmps41
    go_wp2
    go_ret
    exact ⟨_, rfl, Int.emod_nonneg _ (by omega), Int.emod_lt_of_pos _ (by omega), hs.set _ 0, grown_set _ _ _ 0⟩
  · rcases hb with hb | ⟨b, off, rfl, hlt, hc⟩
    · exact absurd hb hz
    have hne : b ≠ p := by omega
    have hp : (0 : Int) < (len : Int) := by omega
    have hz' : ((len : Int) == 0) = false := by simp; omega
    have m0 := Int.emod_nonneg t (b := (len : Int)) (by omega)
    have m1 := Int.emod_lt_of_pos t (b := (len : Int)) (by omega)
    have n0 := Int.emod_nonneg (t + 1) (b := (len : Int)) (by omega)
    have n1 := Int.emod_lt_of_pos (t + 1) (b := (len : Int)) (by omega)
    have d0 := Int.ediv_nonneg (a := t) (b := (len : Int)) h0 (by omega)
    have d1 := Int.ediv_le_self (a := t) (len : Int) h0
    obtain ⟨z, z0, z1, hz1⟩ := hc (t % (len : Int)).toNat (by omega)
    obtain ⟨y, y0, y1, hy1⟩ := hc ((t + 1) % (len : Int)).toNat (by omega)
    by_cases hbig : 200 < n
    · go_enter Tryz.func41, Tryz.ntmps41
      go_wp2
      go_quiet (fail)
      go_wp2
      go_quiet (fail)
      go_wp2
      go_ret
      exact ⟨_, rfl, Int.emod_nonneg _ (by omega), Int.emod_lt_of_pos _ (by omega), hs.set _ _, grown_set _ _ _ _⟩
    · have hbig' : decide (200 < n) = false := decide_eq_false hbig
      go_enter Tryz.func41, Tryz.ntmps41
      go_wp2
      go_quiet (fail)
      go_wp2
      go_ret
      exact ⟨_, rfl, Int.emod_nonneg _ (by omega), Int.emod_lt_of_pos _ (by omega), hs.set _ _, grown_set _ _ _ _⟩

/- a list of numbers, each of which meets P -/
def IntRow (P : Int → Prop) : List Value → Prop
  | [] => True
  | v :: r => (∃ x, v = .int .i64 x ∧ P x) ∧ IntRow P r
theorem IntRow.at {P : Int → Prop} : ∀ {l : List Value} (_ : IntRow P l) (i : Nat) (_ : i < l.length), ∃ x, P x ∧ l[i]? = some (.int .i64 x)
  | v :: r, h, 0, _ => by obtain ⟨⟨x, rfl, hx⟩, _⟩ := h; exact ⟨x, hx, rfl⟩
  | v :: r, h, i + 1, hi => by obtain ⟨_, h2⟩ := h; exact IntRow.at h2 i (by simpa using hi)
theorem heap_new (w : World) (o : Obj) : (w.alloc o).heap[w.heap.size]? = some o := by
  show (w.heap.push o)[w.heap.size]? = _
  simp
def Row (P : Int → Prop) (w : World) (q m : Nat) : Prop := ∀ i, i < m → ∃ x : Int, P x ∧ w.cell? ⟨q, i, none⟩ = some (.int .i64 x)
theorem row_new {P : Int → Prop} {l : List Value} (h : IntRow P l) (w : World) (t : TypeId) (m : Nat) (hm : m = l.length) : Row P (w.alloc (.cells l.toArray t)) w.heap.size m := by
  intro i hi
  obtain ⟨x, hx, e⟩ := h.at i (by omega)
  refine ⟨x, hx, ?_⟩
  unfold World.cell?
  rw [heap_new]
  simp [e]
theorem src_new (w : World) (c : Value) : Src (w.alloc (.cells #[c, .int .i64 0] 107)) w.heap.size c 0 := by
  unfold Src
  exact heap_new _ _
theorem Src.alloc {w : World} {p : Nat} {c : Value} {n : Int} (h : Src w p c n) (o : Obj) : Src (w.alloc o) p c n := h.kept (World.grownBy_alloc w o none) (by simp)

def I64 (x : Int) : Prop := -9223372036854775808 ≤ x ∧ x ≤ 9223372036854775807

set_option maxHeartbeats 1000000 in
theorem pick (P : Int → Prop) (w : World) (p q m m' : Nat) (a : Option Addr) (len cap : Nat) (t : Int) (hs : Src w p (.slice a len cap) t) (hb : Bytes w a len p)
    (hl : len ≤ 1048576) (h0 : 0 ≤ t) (h1 : t ≤ 1000000) (hm : 1 ≤ m) (hm2 : m ≤ 1000000) (hq : p ≠ q) (hr : Row P w q m) :
    Calls Tryz.prog 66 #[.pointer (some ⟨p, 0, none⟩), .slice (some ⟨q, 0, none⟩) m m'] w fun e w' => ∃ r : Int, e = .returned (.int .i64 r) ∧ P r ∧ Src w' p (.slice a len cap) (t + 1) ∧ w.grownBy w' (some p) := by
  go_enter Tryz.func66, Tryz.ntmps66
  go_wp2_with fail
  refine (draws w p a len cap t _ hs hb hl h0 h1 (by omega) (by omega)).mono ?_
  rintro e w1 ⟨r, rfl, hr0, hr1, hs1, hg⟩
  obtain ⟨x, hx, hc⟩ := hr r.toNat (by omega)
  have hc1 : w1.cell? ⟨q, r.toNat, none⟩ = some (.int .i64 x) := hg.cell hc (by simp; omega)
  clear hc
  go_wp2
  go_ret
  exact ⟨x, rfl, hx, hs1, hg⟩

/- behind the start w0 of a draw: the source lies in the first new block, what was there is as it was -/
structure St (w0 w : World) (a : Option Addr) (len cap : Nat) (t : Int) : Prop where
  src : Src w w0.heap.size (.slice a len cap) t
  bel : Below w0.heap.size w0 w

theorem St.alloc {w0 w : World} {a : Option Addr} {len cap : Nat} {t : Int} (h : St w0 w a len cap t) (o : Obj) : St w0 (w.alloc o) a len cap t :=
  ⟨h.src.alloc o, h.bel.alloc (Nat.le_of_lt h.src.lt) o⟩

theorem source (w : World) (a : Option Addr) (len cap : Nat) :
    Calls Tryz.prog 39 #[.slice a len cap] w fun e w' => e = .returned (.pointer (some ⟨w.heap.size, 0, none⟩)) ∧ St w w' a len cap 0 := by
  go_enter Tryz.func39, Tryz.ntmps39
  go_wp2
  go_ret
  exact ⟨rfl, src_new _ _, (Below.refl _ _).alloc (Nat.le_refl _) _⟩

theorem Bytes.mono {w : World} {a : Option Addr} {len p p' : Nat} (h : Bytes w a len p) (hp : p ≤ p') : Bytes w a len p' := by
  rcases h with h | ⟨b, off, rfl, hlt, hc⟩
  · exact .inl h
  · exact .inr ⟨b, off, rfl, by omega, hc⟩

/- the same bytes in a later world -/
theorem Bytes.later {w w' : World} {a : Option Addr} {len : Nat} (h : Bytes w a len w.heap.size) (hb : Below w.heap.size w w') : Bytes w' a len w'.heap.size :=
  (h.kept hb).mono hb.size

theorem lwBig_no (w : World) (a : Option Addr) (len cap : Nat) (h : len ≤ 1048576) :
    Calls Tryz.prog 5 #[.slice a len cap] w fun e w' => e = .returned (.bool false) ∧ w' = w := by
  have h2 : decide (1048576 < (len : Int)) = false := decide_eq_false (by omega)
  go_enter Tryz.func5, Tryz.ntmps5
  go_wp2
  go_ret
  exact ⟨rfl, rfl⟩
theorem lwBig_yes (w : World) (a : Option Addr) (len cap : Nat) (h : 1048576 < len) :
    Calls Tryz.prog 5 #[.slice a len cap] w fun e w' => e = .returned (.bool true) ∧ w' = w := by
  have h2 : (1048576 : Int) < (len : Int) := by omega
  go_enter Tryz.func5, Tryz.ntmps5
  go_wp2
  go_ret
  exact ⟨rfl, rfl⟩

end Go.Proofs.YtmfdggaijbcijaaGreat
end

/- Brd -/
/- Plain functions of chapter 4 (the board): the fault of a unit and of a board, and what is asked of a board. No condition. -/
section
namespace Go.Proofs.YtmfdggaijbcijaaGreat.Bd

/- is v from lo to hi -/
def inb (v lo hi : Int) : Bool := decide (lo ≤ v ∧ v ≤ hi)
theorem inb_t {v lo hi : Int} (h1 : lo ≤ v) (h2 : v ≤ hi) : inb v lo hi = true := decide_eq_true ⟨h1, h2⟩
theorem inb_f {v lo hi : Int} (h : v < lo ∨ hi < v) : inb v lo hi = false := decide_eq_false (by omega)
theorem inb_i {v lo hi : Int} (h : inb v lo hi = true) : lo ≤ v ∧ v ≤ hi := of_decide_eq_true h
/- an owner; a tile -/
def own (v : Int) : Bool := inb v 0 3 || v == 9
def tile (x y : Int) : Bool := inb x 0 11 && inb y 0 11
def head (i o x y l c : Int) : Bool := inb i 1 99 && (own o && (tile x y && (inb l 1 50 && inb c 0 20)))
def form (j tx ty p : Int) : Bool := if j = 0 then (tx == 0 && ty == 0) && p == 0 else if j = 1 then p == 0 else if j = 2 ∨ j = 3 then tx == 0 && ty == 0 else false
def rng (i j tx ty p : Int) : Bool := if j = 1 then tile tx ty else if j = 2 then inb p 0 3 else if j = 3 then inb p 1 99 && (p != i) else true
def jf (i j tx ty p : Int) : Int := if form j tx ty p = false then 1 else if rng i j tx ty p = false then 3 else 0
/- UnitFault -/
def uf (u : K10) : Int := if head u.c0 u.c1 u.c2 u.c3 u.c4 u.c5 = false then 3 else jf u.c0 u.c6 u.c7 u.c8 u.c9
/- the places where a job can stand -/
theorem job_cases (j : Int) : j = 0 ∨ j = 1 ∨ j = 2 ∨ j = 3 ∨ ((j == 0) = false ∧ (j == 1) = false ∧ (j == 2) = false ∧ (j == 3) = false) := by
  by_cases h0 : j = 0
  · exact .inl h0
  by_cases h1 : j = 1
  · exact .inr (.inl h1)
  by_cases h2 : j = 2
  · exact .inr (.inr (.inl h2))
  by_cases h3 : j = 3
  · exact .inr (.inr (.inr (.inl h3)))
  · exact .inr (.inr (.inr (.inr ⟨by simpa using h0, by simpa using h1, by simpa using h2, by simpa using h3⟩)))
/- a field -/
def ff (f : K3) : Bool := tile f.c0 f.c1 && inb f.c2 0 10000
def ffs : List K3 → Int
  | [] => 0
  | f :: l => if ff f = false then 3 else ffs l
/- is x no more than the Id ahead of it -/
def leP (p : Option Int) (x : Int) : Bool := match p with | some q => decide (x ≤ q) | none => false
/- the units' fault, behind the unit with the Id p; F: what comes behind the units -/
def ufs (p : Option Int) (F : Int) : List K10 → Int
  | [] => F
  | u :: l => if (uf u == 0) = false then uf u else if leP p u.c0 = true then 1 else ufs (some u.c0) F l
/- BoardFault -/
def bf (us : List K10) (fs : List K3) : Int := if us.length > 8 ∨ fs.length > 4 then 2 else ufs none (ffs fs) us
/- the Id ahead of place k -/
def prevId (l : List K10) (k : Nat) : Option Int := if k = 0 then none else (l[k - 1]?).map K10.c0
theorem prevId_next {l : List K10} {k : Nat} {u : K10} (h : l[k]? = some u) : prevId l (k + 1) = some u.c0 := by
  unfold prevId
  rw [if_neg (by omega), Nat.add_sub_cancel, h]; rfl
theorem ufs_step {l : List K10} {k : Nat} {u : K10} {p : Option Int} {F : Int} (h : l[k]? = some u) :
    ufs p F (l.drop k) = if (uf u == 0) = false then uf u else if leP p u.c0 = true then 1 else ufs (some u.c0) F (l.drop (k + 1)) := by
  have h' := List.getElem?_eq_some_iff.1 h
  rw [List.drop_eq_getElem_cons h'.1, h'.2]; rfl
theorem ffs_step {l : List K3} {k : Nat} {f : K3} (h : l[k]? = some f) : ffs (l.drop k) = if ff f = false then 3 else ffs (l.drop (k + 1)) := by
  have h' := List.getElem?_eq_some_iff.1 h
  rw [List.drop_eq_getElem_cons h'.1, h'.2]; rfl
/- what a board without a fault is -/
theorem ffs_ok {l : List K3} (h : ffs l = 0) : ∀ f ∈ l, ff f = true := by
  induction l with
  | nil => intro f hf; cases hf
  | cons a l ih =>
    unfold ffs at h
    split at h
    · cases h
    · rename_i hh
      intro f hf
      rcases List.mem_cons.1 hf with rfl | hf
      · revert hh; cases ff f <;> simp
      · exact ih h f hf
theorem ufs_ok {F : Int} : ∀ {l : List K10} {p : Option Int}, ufs p F l = 0 → F = 0 ∧ (∀ u ∈ l, uf u = 0) ∧ (∀ q u, p = some q → u ∈ l → q < u.c0) ∧ l.Pairwise (fun a b => a.c0 < b.c0)
  | [], p, h => ⟨h, (fun _ hu => by cases hu), (fun _ _ _ hu => by cases hu), List.Pairwise.nil⟩
  | a :: l, p, h => by
    unfold ufs at h
    split at h
    · rename_i h1
      rw [h] at h1
      cases h1
    · rename_i h1
      have e1 : uf a = 0 := by revert h1; cases e : uf a == 0 <;> simp; simpa using e
      split at h
      · cases h
      · rename_i h2
        obtain ⟨i1, i2, i3, i4⟩ := ufs_ok h
        refine ⟨i1, ?_, ?_, ?_⟩
        · intro u hu
          rcases List.mem_cons.1 hu with rfl | hu
          · exact e1
          · exact i2 u hu
        · rintro q u rfl hu
          have hq : q < a.c0 := by simpa [leP] using h2
          rcases List.mem_cons.1 hu with rfl | hu
          · exact hq
          · have := i3 a.c0 u rfl hu; omega
        · exact List.Pairwise.cons (fun u hu => i3 a.c0 u rfl hu) i4
theorem bf_ok {us : List K10} {fs : List K3} (h : bf us fs = 0) : us.length ≤ 8 ∧ fs.length ≤ 4 ∧ (∀ u ∈ us, uf u = 0) ∧ (∀ f ∈ fs, ff f = true) ∧ us.Pairwise (fun a b => a.c0 < b.c0) := by
  unfold bf at h
  split at h
  · cases h
  · rename_i h1
    obtain ⟨i1, i2, _, i4⟩ := ufs_ok h
    exact ⟨by omega, by omega, i2, ffs_ok i1, i4⟩
end Go.Proofs.YtmfdggaijbcijaaGreat.Bd
end

/- BrdNums -/
/- Contracts of the tests of numbers that a board is held against. No condition. -/
section
namespace Go.Proofs.YtmfdggaijbcijaaGreat
open Go.ChangeShapes Go.WideShapes Go.ChangeAt Go.RowKit
open Bd
set_option linter.unusedVariables false

theorem l1In_c (v lo hi : Int) (w : World) :
    Calls Tryz.prog 78 #[.int .i64 v, .int .i64 lo, .int .i64 hi] w fun e w' => e = .returned (.bool (inb v lo hi)) ∧ w' = w := by
  by_cases h1 : lo ≤ v
  · by_cases h2 : v ≤ hi
    · rw [inb_t h1 h2]
      go_enter Tryz.func78, Tryz.ntmps78
      go_wp2
      go_ret
      exact ⟨rfl, rfl⟩
    · rw [inb_f (by omega)]
      have d2 : decide (v ≤ hi) = false := decide_eq_false h2
      go_enter Tryz.func78, Tryz.ntmps78
      go_wp2
      go_ret
      exact ⟨rfl, rfl⟩
  · rw [inb_f (by omega)]
    have d2 : decide (lo ≤ v) = false := decide_eq_false h1
    go_enter Tryz.func78, Tryz.ntmps78
    go_wp2
    go_ret
    exact ⟨rfl, rfl⟩
theorem isId_c (v : Int) (w : World) :
    Calls Tryz.prog 111 #[.int .i64 v] w fun e w' => e = .returned (.bool (inb v 1 99)) ∧ w' = w := by
  by_cases h1 : 1 ≤ v
  · by_cases h2 : v ≤ 99
    · rw [inb_t h1 h2]
      go_enter Tryz.func111, Tryz.ntmps111
      go_wp2
      go_ret
      exact ⟨rfl, rfl⟩
    · rw [inb_f (by omega)]
      have d2 : decide (v ≤ 99) = false := decide_eq_false h2
      go_enter Tryz.func111, Tryz.ntmps111
      go_wp2
      go_ret
      exact ⟨rfl, rfl⟩
  · rw [inb_f (by omega)]
    have d2 : decide (1 ≤ v) = false := decide_eq_false h1
    go_enter Tryz.func111, Tryz.ntmps111
    go_wp2
    go_ret
    exact ⟨rfl, rfl⟩
theorem isSide_c (v : Int) (w : World) :
    Calls Tryz.prog 42 #[.int .i64 v] w fun e w' => e = .returned (.bool (inb v 0 3)) ∧ w' = w := by
  by_cases h1 : 0 ≤ v
  · by_cases h2 : v ≤ 3
    · rw [inb_t h1 h2]
      go_enter Tryz.func42, Tryz.ntmps42
      go_wp2
      go_ret
      exact ⟨rfl, rfl⟩
    · rw [inb_f (by omega)]
      have d2 : decide (v ≤ 3) = false := decide_eq_false h2
      go_enter Tryz.func42, Tryz.ntmps42
      go_wp2
      go_ret
      exact ⟨rfl, rfl⟩
  · rw [inb_f (by omega)]
    have d2 : decide (0 ≤ v) = false := decide_eq_false h1
    go_enter Tryz.func42, Tryz.ntmps42
    go_wp2
    go_ret
    exact ⟨rfl, rfl⟩
theorem isLife_c (v : Int) (w : World) :
    Calls Tryz.prog 113 #[.int .i64 v] w fun e w' => e = .returned (.bool (inb v 1 50)) ∧ w' = w := by
  by_cases h1 : 1 ≤ v
  · by_cases h2 : v ≤ 50
    · rw [inb_t h1 h2]
      go_enter Tryz.func113, Tryz.ntmps113
      go_wp2
      go_ret
      exact ⟨rfl, rfl⟩
    · rw [inb_f (by omega)]
      have d2 : decide (v ≤ 50) = false := decide_eq_false h2
      go_enter Tryz.func113, Tryz.ntmps113
      go_wp2
      go_ret
      exact ⟨rfl, rfl⟩
  · rw [inb_f (by omega)]
    have d2 : decide (1 ≤ v) = false := decide_eq_false h1
    go_enter Tryz.func113, Tryz.ntmps113
    go_wp2
    go_ret
    exact ⟨rfl, rfl⟩
theorem isCarry_c (v : Int) (w : World) :
    Calls Tryz.prog 114 #[.int .i64 v] w fun e w' => e = .returned (.bool (inb v 0 20)) ∧ w' = w := by
  by_cases h1 : 0 ≤ v
  · by_cases h2 : v ≤ 20
    · rw [inb_t h1 h2]
      go_enter Tryz.func114, Tryz.ntmps114
      go_wp2
      go_ret
      exact ⟨rfl, rfl⟩
    · rw [inb_f (by omega)]
      have d2 : decide (v ≤ 20) = false := decide_eq_false h2
      go_enter Tryz.func114, Tryz.ntmps114
      go_wp2
      go_ret
      exact ⟨rfl, rfl⟩
  · rw [inb_f (by omega)]
    have d2 : decide (0 ≤ v) = false := decide_eq_false h1
    go_enter Tryz.func114, Tryz.ntmps114
    go_wp2
    go_ret
    exact ⟨rfl, rfl⟩
theorem isOwner_c (v : Int) (w : World) :
    Calls Tryz.prog 112 #[.int .i64 v] w fun e w' => e = .returned (.bool (own v)) ∧ w' = w := by
  unfold own
  cases h : inb v 0 3
  · cases h9 : v == 9
    all_goals
      go_enter Tryz.func112, Tryz.ntmps112
      go_wp2_with (go_at_call 42; refine (isSide_c _ _).mono ?_; rintro e w' ⟨rfl, rfl⟩)
      go_ret
      exact ⟨rfl, rfl⟩
  · go_enter Tryz.func112, Tryz.ntmps112
    go_wp2_with (go_at_call 42; refine (isSide_c _ _).mono ?_; rintro e w' ⟨rfl, rfl⟩)
    go_ret
    exact ⟨rfl, rfl⟩
theorem l4Owner_c (v : Int) (w : World) :
    Calls Tryz.prog 122 #[.int .i64 v] w fun e w' => e = .returned (.bool (own v)) ∧ w' = w := by
  unfold own
  cases h : inb v 0 3
  · cases h9 : v == 9
    all_goals
      go_enter Tryz.func122, Tryz.ntmps122
      go_wp2_with (go_at_call 78; refine (l1In_c _ _ _ _).mono ?_; rintro e w' ⟨rfl, rfl⟩)
      go_ret
      exact ⟨rfl, rfl⟩
  · go_enter Tryz.func122, Tryz.ntmps122
    go_wp2_with (go_at_call 78; refine (l1In_c _ _ _ _).mono ?_; rintro e w' ⟨rfl, rfl⟩)
    go_ret
    exact ⟨rfl, rfl⟩
theorem l1Tile_c (x y : Int) (w : World) :
    Calls Tryz.prog 108 #[.int .i64 x, .int .i64 y] w fun e w' => e = .returned (.bool (tile x y)) ∧ w' = w := by
  unfold tile
  cases h : inb x 0 11
  all_goals
    go_enter Tryz.func108, Tryz.ntmps108
    go_wp2_with (go_at_call 78; refine (l1In_c _ _ _ _).mono ?_; rintro e w' ⟨rfl, rfl⟩)
    go_ret
    exact ⟨rfl, rfl⟩
theorem isTile_c (x y : Int) (w : World) :
    Calls Tryz.prog 86 #[.int .i64 x, .int .i64 y] w fun e w' => e = .returned (.bool (tile x y)) ∧ w' = w := by
  unfold tile inb
  by_cases h1 : 0 ≤ x
  · by_cases h2 : x ≤ 11
    · by_cases h3 : 0 ≤ y
      · by_cases h4 : y ≤ 11
        · rw [decide_eq_true (And.intro h1 h2), decide_eq_true (And.intro h3 h4)]
          go_enter Tryz.func86, Tryz.ntmps86
          go_wp2
          go_ret
          exact ⟨rfl, rfl⟩
        · rw [decide_eq_true (And.intro h1 h2), decide_eq_false (p := 0 ≤ y ∧ y ≤ 11) (by omega)]
          have d : decide (y ≤ 11) = false := decide_eq_false h4
          go_enter Tryz.func86, Tryz.ntmps86
          go_wp2
          go_ret
          exact ⟨rfl, rfl⟩
      · rw [decide_eq_true (And.intro h1 h2), decide_eq_false (p := 0 ≤ y ∧ y ≤ 11) (by omega)]
        have d : decide (0 ≤ y) = false := decide_eq_false h3
        go_enter Tryz.func86, Tryz.ntmps86
        go_wp2
        go_ret
        exact ⟨rfl, rfl⟩
    · rw [decide_eq_false (p := 0 ≤ x ∧ x ≤ 11) (by omega), Bool.false_and]
      have d : decide (x ≤ 11) = false := decide_eq_false h2
      go_enter Tryz.func86, Tryz.ntmps86
      go_wp2
      go_ret
      exact ⟨rfl, rfl⟩
  · rw [decide_eq_false (p := 0 ≤ x ∧ x ≤ 11) (by omega), Bool.false_and]
    have d : decide (0 ≤ x) = false := decide_eq_false h1
    go_enter Tryz.func86, Tryz.ntmps86
    go_wp2
    go_ret
    exact ⟨rfl, rfl⟩
end Go.Proofs.YtmfdggaijbcijaaGreat
end
