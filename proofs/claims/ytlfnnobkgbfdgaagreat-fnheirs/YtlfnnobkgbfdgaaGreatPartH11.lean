/- Texts of mine put together (a claim holds at most 60 files): PfImpl, Draws, OwnRows. -/
import Derived.Test.YtlfnnobkgbfdgaaGreatPartH10
import Derived.Test.YtlfnnobkgbfdgaaGreatPartH07
import Derived.Test.YtlfnnobkgbfdgaaGreatPartH01
import Derived.Test.YtlfnnobkgbfdgaaGreatRows
import Derived.WalkKit
import Derived.ProofKit
import Derived.OpenShut
import Derived.ShutString
import Derived.WalkLawsBesides
import Derived.ChangeOld
import Derived.Below
import Derived.OwnWalk
import Derived.Deep.QuietTactic
import Derived.BigQuiet
import Derived.Test.YtlfnnobkgbfdgaaGreatPartH00
import Derived.Test.YtlfnnobkgbfdgaaGreatPartH05

/- PfImpl -/
/- The contracts of the program's faults of two sides and of one. Condition: the world is a copy that lies in memory as it was laid there. -/
section
namespace Go.Proofs.YtlfnnobkgbfdgaaGreat
open Go.ChangeShapes Go.WideShapes Go.ChangeAt Go.RowKit
open Bd
set_option linter.unusedVariables false

/- one side -/
def sfF (h : Int → Int → Bool) (x : KW) (i : Int) : Int := if (wf h x == 0) = false then wf h x else if inb i 0 3 = false then 3 else 0
set_option maxRecDepth 20000 in
set_option maxHeartbeats 16000000 in
theorem implSideFault (p : WP) (x : KW) (hc : x.oo.length ≤ p.oc) (hrc : p.oc ≤ maxLen) (w : World) (h : ArgW w p x) (i : Int) :
    Calls Tryz.prog 16 #[.agg (p.v x), .int .i64 i] w fun e w' => e = .returned (.int .i64 (sfF hasI x i)) ∧ Below w.heap.size w w' := by
  obtain ⟨t, s, us, fs, fa, se, oo⟩ := x
  obtain ⟨u, uc, f, fc, a, ac, q, qc, r, rc⟩ := p
  dsimp only at hc hrc
  have q0 := fun w => isSide_c i w
  have Hlen : Hid (wf hasI ⟨t, s, us, fs, fa, se, oo⟩ = 0 → fa.length = 4) := fun e => wf_len e
  show Calls Tryz.prog 16 #[.agg (wv t s u us.length uc f fs.length fc a fa.length ac q se.length qc r oo.length rc), .int .i64 i] w _
  obtain ⟨W, HW⟩ : ∃ W, Hid (W = w.alloc (.cells (wv t s u us.length uc f fs.length fc a fa.length ac q se.length qc r oo.length rc) 32)) := ⟨_, rfl⟩
  have B1 : Below w.heap.size w W := by rw [HW.out]; exact (Below.refl _ _).alloc (Nat.le_refl _) _
  have P : Bk W w.heap.size (wv t s u us.length uc f fs.length fc a fa.length ac q se.length qc r oo.length rc) 32 := by rw [HW.out]; exact Bk.new w _ _
  have HN : Hid (ArgW W ⟨u, uc, f, fc, a, ac, q, qc, r, rc⟩ ⟨t, s, us, fs, fa, se, oo⟩) := h.later B1
  have cF := fun W' (h : Below W.heap.size W W') => implWorldFault ⟨u, uc, f, fc, a, ac, q, qc, r, rc⟩ ⟨t, s, us, fs, fa, se, oo⟩ hc hrc W' (HN.out.later h)
  have HE : Hid (sfF hasI ⟨t, s, us, fs, fa, se, oo⟩ i = if (wf hasI ⟨t, s, us, fs, fa, se, oo⟩ == 0) = false then wf hasI ⟨t, s, us, fs, fa, se, oo⟩ else if inb i 0 3 = false then 3 else 0) := rfl
  generalize sfF hasI ⟨t, s, us, fs, fa, se, oo⟩ i = R at HE ⊢
  have HA : Hid (ArgA W a fa) := HN.out.a
  generalize wf hasI ⟨t, s, us, fs, fa, se, oo⟩ = F at cF HE Hlen
  replace cF : ∀ W', Below W.heap.size W W' → Calls Tryz.prog 11 #[.agg (wv t s u us.length uc f fs.length fc a fa.length ac q se.length qc r oo.length rc)] W' fun e w' => e = .returned (.int .i64 F) ∧ Below W'.heap.size W' w' := cF
  generalize us.length = mu at P HW cF ⊢
  generalize fs.length = mf at P HW cF ⊢
  obtain ⟨ma, Hma⟩ : ∃ m, Hid (fa.length = m) := ⟨_, rfl⟩
  rw [Hma.out] at P HW Hlen cF ⊢
  generalize se.length = ms at P HW cF ⊢
  generalize oo.length = mo at P HW cF ⊢
  clear hc hrc h HN
  have keep : ∀ w', Below W.heap.size W w' → w'.cell? ⟨w.heap.size, 0, none⟩ = some (.int .i64 t) ∧ w'.cell? ⟨w.heap.size, 1, none⟩ = some (.int .i64 s) ∧ w'.cell? ⟨w.heap.size, 2, none⟩ = some (.slice u mu uc) ∧ w'.cell? ⟨w.heap.size, 3, none⟩ = some (.slice f mf fc) ∧ w'.cell? ⟨w.heap.size, 4, none⟩ = some (.slice a ma ac) ∧ w'.cell? ⟨w.heap.size, 5, none⟩ = some (.slice q ms qc) ∧ w'.cell? ⟨w.heap.size, 6, none⟩ = some (.slice r mo rc) ∧ w.heap.size < w'.heap.size := fun w' hb => by
    have q := P.below hb
    exact ⟨q.cell rfl, q.cell rfl, q.cell rfl, q.cell rfl, q.cell rfl, q.cell rfl, q.cell rfl, q.lt⟩
  have Bc : Below W.heap.size W W := Below.refl _ _
  cases e2 : F == 0
  · have n7 : (F != 0) = true := by simp only [bne, e2]; rfl
    have HR : Hid (R = F) := by show _ = _; rw [HE.out, e2]; rfl
    clear HE Hlen e2
    obtain ⟨p0, p1, p2, p3, p4, p5, p6, pl⟩ := keep _ Bc
    go_enter Tryz.func16, Tryz.ntmps16
    go_upto_region 1 with fail
    rw [← HW.out]
    go_wp2_with fail
    refine (cF _ Bc).mono ?_
    rintro e wn ⟨rfl, kn⟩
    have Bc := Bc.trans (kn.mono Bc.size)
    go_wp2_with (first | (go_at_call 43; with_reducible refine (q0 _).mono ?_; rintro e w1 ⟨rfl, hw1⟩; obtain rfl := hw1.symm))
    go_ret
    exact ⟨by rw [HR.out] <;> rfl, B1.trans (Bc.mono B1.size)⟩
  obtain rfl : F = 0 := by simpa using e2
  have HE : Hid (R = if inb i 0 3 = false then 3 else 0) := HE
  clear e2
  cases e0 : inb i 0 3
  · rw [e0] at q0
    have HR : Hid (R = 3) := by show _ = _; rw [HE.out];  rw [e0]; rfl
    clear HE Hlen
    obtain ⟨p0, p1, p2, p3, p4, p5, p6, pl⟩ := keep _ Bc
    go_enter Tryz.func16, Tryz.ntmps16
    go_upto_region 1 with fail
    rw [← HW.out]
    go_wp2_with fail
    refine (cF _ Bc).mono ?_
    rintro e wn ⟨rfl, kn⟩
    have Bc := Bc.trans (kn.mono Bc.size)
    clear p0 p1 p2 p3 p4 p5 p6 pl
    obtain ⟨p0, p1, p2, p3, p4, p5, p6, pl⟩ := keep _ Bc
    go_wp2_with (first | (go_at_call 43; with_reducible refine (q0 _).mono ?_; rintro e w1 ⟨rfl, hw1⟩; obtain rfl := hw1.symm))
    go_ret
    exact ⟨by rw [HR.out] <;> rfl, B1.trans (Bc.mono B1.size)⟩
  · rw [e0] at q0
    have HR : Hid (R = 0) := by show _ = _; rw [HE.out];  rw [e0]; rfl
    clear HE Hlen
    obtain ⟨p0, p1, p2, p3, p4, p5, p6, pl⟩ := keep _ Bc
    go_enter Tryz.func16, Tryz.ntmps16
    go_upto_region 1 with fail
    rw [← HW.out]
    go_wp2_with fail
    refine (cF _ Bc).mono ?_
    rintro e wn ⟨rfl, kn⟩
    have Bc := Bc.trans (kn.mono Bc.size)
    clear p0 p1 p2 p3 p4 p5 p6 pl
    obtain ⟨p0, p1, p2, p3, p4, p5, p6, pl⟩ := keep _ Bc
    go_wp2_with (first | (go_at_call 43; with_reducible refine (q0 _).mono ?_; rintro e w1 ⟨rfl, hw1⟩; obtain rfl := hw1.symm))
    go_ret
    exact ⟨by rw [HR.out] <;> rfl, B1.trans (Bc.mono B1.size)⟩
end Go.Proofs.YtlfnnobkgbfdgaaGreat
end

/- Draws -/
/- Contracts of the draws: a number out of the bytes of a code is within its bounds, and a pick out of a list is one of that list; nothing turns but the source's own block. Conditions: the code's bytes can be read, and the source's place is small. -/
section
namespace Go.Proofs.YtlfnnobkgbfdgaaGreat
open Go.ChangeShapes Go.WideShapes Go.ChangeAt Go.RowKit
set_option linter.unusedVariables false

def IsRow (k : IntKind) (w : World) (a : Option Addr) (len cap : Nat) (zs : List Int) : Prop :=
  (a = none ∧ len = 0 ∧ cap = 0 ∧ zs = []) ∨
  ∃ x, a = some x ∧ len ≤ cap ∧ cap ≤ maxLen ∧ zs.length = cap ∧ (∀ i, i < zs.length → w.cell? (x.add i) = some (.int k (zs.getD i 0))) ∧ ∀ n ∈ zs, (Lit.int k n).wf = true

/- a slice of bytes below block p: each of its elements can be read -/
def Bytes (w : World) (a : Option Addr) (len : Nat) (p : Nat) : Prop :=
  len = 0 ∨ ∃ b off, a = some ⟨b, off, none⟩ ∧ b < p ∧ ∀ i, i < len → ∃ z : Int, 0 ≤ z ∧ z ≤ 255 ∧ w.cell? ⟨b, off + i, none⟩ = some (.int .u8 z)

theorem cell_lt {w : World} {a : Addr} {v : Value} (h : w.cell? a = some v) : a.block < w.heap.size := by
  unfold World.cell? at h
  by_cases hb : a.block < w.heap.size
  · exact hb
  · rw [Array.getElem?_eq_none (by omega)] at h
    cases h

theorem Bytes.of_row {w : World} {a : Option Addr} {len cap : Nat} {zs : List Int} (h : IsRow .u8 w a len cap zs) : Bytes w a len w.heap.size := by
  rcases h with ⟨rfl, rfl, rfl, rfl⟩ | ⟨x, rfl, hl, hm, hz, hcell, hwz⟩
  · exact .inl rfl
  · by_cases h0 : len = 0
    · exact .inl h0
    · obtain ⟨b, off, spot⟩ := x
      have hc := hcell 0 (by omega)
      have hspot : spot = none := by simpa [Addr.add] using World.cell?_spot hc
      subst hspot
      refine .inr ⟨b, off, rfl, ?_, ?_⟩
      · have := cell_lt hc
        simpa [Addr.add] using this
      · intro i hi
        have hci := hcell i (by omega)
        have hmem : zs.getD i 0 ∈ zs := by
          have hi' : i < zs.length := by omega
          have e : zs.getD i 0 = zs[i] := by simp [List.getD_eq_getElem?_getD, List.getElem?_eq_getElem hi']
          rw [e]
          exact List.getElem_mem _
        have hw := hwz _ hmem
        have hbd := bounds_u8 hw
        refine ⟨zs.getD i 0, hbd.1, hbd.2, ?_⟩
        by_cases hi0 : i = 0
        · subst hi0; simpa [Addr.add] using hci
        · simpa [Addr.add, hi0] using hci

theorem Bytes.kept {w w' : World} {a : Option Addr} {len p : Nat} (h : Bytes w a len p) (hb : Below p w w') : Bytes w' a len p := by
  rcases h with h | ⟨b, off, rfl, hlt, hc⟩
  · exact .inl h
  · refine .inr ⟨b, off, rfl, hlt, fun i hi => ?_⟩
    obtain ⟨z, h0, h1, h2⟩ := hc i hi
    exact ⟨z, h0, h1, by rw [hb.cell (p := ⟨b, off + i, none⟩) hlt]; exact h2⟩

/- the source: a block of its own, the code and the place -/
def Src (w : World) (p : Nat) (c : Value) (n : Int) : Prop := w.heap[p]? = some (.cells #[c, .int .i64 n] 113)

theorem Src.lt {w : World} {p : Nat} {c : Value} {n : Int} (h : Src w p c n) : p < w.heap.size := by
  by_cases hb : p < w.heap.size
  · exact hb
  · unfold Src at h
    rw [Array.getElem?_eq_none (by omega)] at h
    cases h
theorem Src.cell0 {w : World} {p : Nat} {c : Value} {n : Int} (h : Src w p c n) : w.cell? ⟨p, 0, none⟩ = some c := by
  unfold Src at h
  simp [World.cell?, h]
theorem Src.cell1 {w : World} {p : Nat} {c : Value} {n : Int} (h : Src w p c n) : w.cell? ⟨p, 1, none⟩ = some (.int .i64 n) := by
  unfold Src at h
  simp [World.cell?, h]
theorem Src.frozen {w : World} {p : Nat} {c : Value} {n : Int} (h : Src w p c n) : w.frozen? ⟨p, 1, none⟩ = false := by
  unfold Src at h
  simp [World.frozen?, h]
theorem Src.set {w : World} {p : Nat} {c : Value} {n : Int} (h : Src w p c n) (m : Int) (k : Nat) : Src ((w.setCell ⟨p, 1, none⟩ (.int .i64 m)).drewN k) p c m := by
  unfold Src at *
  simp [World.setCell, World.drewN, Array.getElem?_modify, h]
theorem Src.kept {w w' : World} {p : Nat} {c : Value} {n : Int} {row : Option Nat} (h : Src w p c n) (hg : w.grownBy w' row) (hne : some p ≠ row) : Src w' p c n := by
  unfold Src at *
  rw [hg.block p (Src.lt h) hne]; exact h
theorem grown_set (w : World) (p : Nat) (v : Value) (k : Nat) : w.grownBy ((w.setCell ⟨p, 1, none⟩ v).drewN k) (some p) :=
  ⟨rfl, rfl, rfl, by simp [World.setCell, World.drewN], fun i _ hi => Below.heap_setCell _ _ _ _ (fun e => hi (by rw [e]))⟩
theorem grown_trans {a b c : World} {row : Option Nat} (h : a.grownBy b row) (k : b.grownBy c row) : a.grownBy c row :=
  ⟨k.os.trans h.os, k.tape.trans h.tape, k.output.trans h.output, Nat.le_trans h.size k.size, fun i hi hne => (k.block i (Nat.lt_of_lt_of_le hi h.size) hne).trans (h.block i hi hne)⟩
theorem grown_below {w w' : World} {p : Nat} (h : w.grownBy w' (some p)) (hp : p ≤ w.heap.size) : Below p w w' :=
  ⟨h.os, h.tape, h.output, h.size, fun k hk => h.block k (by omega) (fun e => by cases e; omega)⟩

set_option maxHeartbeats 2000000 in
theorem draws (w : World) (p : Nat) (a : Option Addr) (len cap : Nat) (t n : Int) (hs : Src w p (.slice a len cap) t) (hb : Bytes w a len p)
    (hl : len ≤ 1048576) (h0 : 0 ≤ t) (h1 : t ≤ 1000000) (hn : 1 ≤ n) (hn2 : n ≤ 1000000000) :
    Calls Tryz.prog 81 #[.pointer (some ⟨p, 0, none⟩), .int .i64 n] w fun e w' => ∃ r : Int, e = .returned (.int .i64 r) ∧ 0 ≤ r ∧ r < n ∧ Src w' p (.slice a len cap) (t + 1) ∧ w.grownBy w' (some p) := by
  have c0 := hs.cell0
  have c1 := hs.cell1
  have fz := hs.frozen
  by_cases hz : len = 0
  · subst hz
    go_enter Tryz.func81, Tryz.ntmps81
    go_wp2
    go_ret
    exact ⟨_, rfl, Int.emod_nonneg _ (by omega), Int.emod_lt_of_pos _ (by omega), hs.set _ 0, grown_set _ _ _ 0⟩
  · rcases hb with hb | ⟨b, off, rfl, hlt, hc⟩
    · exact absurd hb hz
    have hne : b ≠ p := by omega
    have hp : (0 : Int) < (len : Int) := by omega
    have hz' : ((len : Int) == 0) = false := by simp; omega
    have m0 := Int.emod_nonneg t (b := (len : Int)) (by omega)
    have m1 := Int.emod_lt_of_pos t (b := (len : Int)) (by omega)
    have n0 := Int.emod_nonneg (t + 1) (b := (len : Int)) (by omega)
    have n1 := Int.emod_lt_of_pos (t + 1) (b := (len : Int)) (by omega)
    have d0 := Int.ediv_nonneg (a := t) (b := (len : Int)) h0 (by omega)
    have d1 := Int.ediv_le_self (a := t) (len : Int) h0
    obtain ⟨z, z0, z1, hz1⟩ := hc (t % (len : Int)).toNat (by omega)
    obtain ⟨y, y0, y1, hy1⟩ := hc ((t + 1) % (len : Int)).toNat (by omega)
    by_cases hbig : 200 < n
    · go_enter Tryz.func81, Tryz.ntmps81
      go_wp2
      go_quiet (fail)
      go_wp2
      go_quiet (fail)
      go_wp2
      go_ret
      exact ⟨_, rfl, Int.emod_nonneg _ (by omega), Int.emod_lt_of_pos _ (by omega), hs.set _ _, grown_set _ _ _ _⟩
    · have hbig' : decide (200 < n) = false := decide_eq_false hbig
      go_enter Tryz.func81, Tryz.ntmps81
      go_wp2
      go_quiet (fail)
      go_wp2
      go_ret
      exact ⟨_, rfl, Int.emod_nonneg _ (by omega), Int.emod_lt_of_pos _ (by omega), hs.set _ _, grown_set _ _ _ _⟩

/- a list of numbers, each of which meets P -/
def IntRow (P : Int → Prop) : List Value → Prop
  | [] => True
  | v :: r => (∃ x, v = .int .i64 x ∧ P x) ∧ IntRow P r
theorem IntRow.at {P : Int → Prop} : ∀ {l : List Value} (_ : IntRow P l) (i : Nat) (_ : i < l.length), ∃ x, P x ∧ l[i]? = some (.int .i64 x)
  | v :: r, h, 0, _ => by obtain ⟨⟨x, rfl, hx⟩, _⟩ := h; exact ⟨x, hx, rfl⟩
  | v :: r, h, i + 1, hi => by obtain ⟨_, h2⟩ := h; exact IntRow.at h2 i (by simpa using hi)
theorem heap_new (w : World) (o : Obj) : (w.alloc o).heap[w.heap.size]? = some o := by
  show (w.heap.push o)[w.heap.size]? = _
  simp
def Row (P : Int → Prop) (w : World) (q m : Nat) : Prop := ∀ i, i < m → ∃ x : Int, P x ∧ w.cell? ⟨q, i, none⟩ = some (.int .i64 x)
theorem row_new {P : Int → Prop} {l : List Value} (h : IntRow P l) (w : World) (t : TypeId) (m : Nat) (hm : m = l.length) : Row P (w.alloc (.cells l.toArray t)) w.heap.size m := by
  intro i hi
  obtain ⟨x, hx, e⟩ := h.at i (by omega)
  refine ⟨x, hx, ?_⟩
  unfold World.cell?
  rw [heap_new]
  simp [e]
theorem src_new (w : World) (c : Value) : Src (w.alloc (.cells #[c, .int .i64 0] 113)) w.heap.size c 0 := by
  unfold Src
  exact heap_new _ _
theorem Src.alloc {w : World} {p : Nat} {c : Value} {n : Int} (h : Src w p c n) (o : Obj) : Src (w.alloc o) p c n := h.kept (World.grownBy_alloc w o none) (by simp)

def I64 (x : Int) : Prop := -9223372036854775808 ≤ x ∧ x ≤ 9223372036854775807

set_option maxHeartbeats 1000000 in
theorem pick (P : Int → Prop) (w : World) (p q m m' : Nat) (a : Option Addr) (len cap : Nat) (t : Int) (hs : Src w p (.slice a len cap) t) (hb : Bytes w a len p)
    (hl : len ≤ 1048576) (h0 : 0 ≤ t) (h1 : t ≤ 1000000) (hm : 1 ≤ m) (hm2 : m ≤ 1000000) (hq : p ≠ q) (hr : Row P w q m) :
    Calls Tryz.prog 41 #[.pointer (some ⟨p, 0, none⟩), .slice (some ⟨q, 0, none⟩) m m'] w fun e w' => ∃ r : Int, e = .returned (.int .i64 r) ∧ P r ∧ Src w' p (.slice a len cap) (t + 1) ∧ w.grownBy w' (some p) := by
  go_enter Tryz.func41, Tryz.ntmps41
  go_wp2_with fail
  refine (draws w p a len cap t _ hs hb hl h0 h1 (by omega) (by omega)).mono ?_
  rintro e w1 ⟨r, rfl, hr0, hr1, hs1, hg⟩
  obtain ⟨x, hx, hc⟩ := hr r.toNat (by omega)
  have hc1 : w1.cell? ⟨q, r.toNat, none⟩ = some (.int .i64 x) := hg.cell hc (by simp; omega)
  clear hc
  go_wp2
  go_ret
  exact ⟨x, rfl, hx, hs1, hg⟩

/- behind the start w0 of a draw: the source lies in the first new block, what was there is as it was -/
structure St (w0 w : World) (a : Option Addr) (len cap : Nat) (t : Int) : Prop where
  src : Src w w0.heap.size (.slice a len cap) t
  bel : Below w0.heap.size w0 w

theorem St.alloc {w0 w : World} {a : Option Addr} {len cap : Nat} {t : Int} (h : St w0 w a len cap t) (o : Obj) : St w0 (w.alloc o) a len cap t :=
  ⟨h.src.alloc o, h.bel.alloc (Nat.le_of_lt h.src.lt) o⟩

theorem source (w : World) (a : Option Addr) (len cap : Nat) :
    Calls Tryz.prog 39 #[.slice a len cap] w fun e w' => e = .returned (.pointer (some ⟨w.heap.size, 0, none⟩)) ∧ St w w' a len cap 0 := by
  go_enter Tryz.func39, Tryz.ntmps39
  go_wp2
  go_ret
  exact ⟨rfl, src_new _ _, (Below.refl _ _).alloc (Nat.le_refl _) _⟩

theorem Bytes.mono {w : World} {a : Option Addr} {len p p' : Nat} (h : Bytes w a len p) (hp : p ≤ p') : Bytes w a len p' := by
  rcases h with h | ⟨b, off, rfl, hlt, hc⟩
  · exact .inl h
  · exact .inr ⟨b, off, rfl, by omega, hc⟩

/- the same bytes in a later world -/
theorem Bytes.later {w w' : World} {a : Option Addr} {len : Nat} (h : Bytes w a len w.heap.size) (hb : Below w.heap.size w w') : Bytes w' a len w'.heap.size :=
  (h.kept hb).mono hb.size

theorem lwBig_no (w : World) (a : Option Addr) (len cap : Nat) (h : len ≤ 1048576) :
    Calls Tryz.prog 4 #[.slice a len cap] w fun e w' => e = .returned (.bool false) ∧ w' = w := by
  have h2 : decide (1048576 < (len : Int)) = false := decide_eq_false (by omega)
  go_enter Tryz.func4, Tryz.ntmps4
  go_wp2
  go_ret
  exact ⟨rfl, rfl⟩
theorem lwBig_yes (w : World) (a : Option Addr) (len cap : Nat) (h : 1048576 < len) :
    Calls Tryz.prog 4 #[.slice a len cap] w fun e w' => e = .returned (.bool true) ∧ w' = w := by
  have h2 : (1048576 : Int) < (len : Int) := by omega
  go_enter Tryz.func4, Tryz.ntmps4
  go_wp2
  go_ret
  exact ⟨rfl, rfl⟩

end Go.Proofs.YtlfnnobkgbfdgaaGreat
end

/- OwnRows -/
/- Slices of units and of fields in memory of a call's own. No condition. -/
section
namespace Go.Proofs.YtlfnnobkgbfdgaaGreat
open Go.ChangeShapes Go.WideShapes Go.ChangeAt Go.RowKit
set_option linter.unusedVariables false

def flatU : List K10 → List Value
  | [] => []
  | x :: l => x.v.toList ++ flatU l
theorem flatU_len : ∀ l : List K10, (flatU l).length = l.length * 10
  | [] => rfl
  | x :: l => by unfold flatU; rw [List.length_append, flatU_len l]; show 10 + _ = (l.length + 1) * 10; omega
theorem flatU_app : ∀ l l' : List K10, flatU (l ++ l') = flatU l ++ flatU l'
  | [], _ => rfl
  | x :: l, l' => by show x.v.toList ++ flatU (l ++ l') = (x.v.toList ++ flatU l) ++ flatU l'; rw [flatU_app l l', List.append_assoc]
theorem flatU_get : ∀ (l : List K10) (i : Nat) (x : K10) (f : Nat), l[i]? = some x → f < 10 → (flatU l)[i * 10 + f]? = some (.int .i64 (x.f f))
  | [], i, x, f, h, _ => by simp at h
  | y :: l, 0, x, f, h, hf => by
    have e : y = x := by simpa using h
    subst e
    unfold flatU
    rw [Nat.zero_mul, Nat.zero_add, List.getElem?_append_left (by show f < 10; exact hf)]
    have h6 : f = 0 ∨ f = 1 ∨ f = 2 ∨ f = 3 ∨ f = 4 ∨ f = 5 ∨ f = 6 ∨ f = 7 ∨ f = 8 ∨ f = 9 := by omega
    rcases h6 with rfl | rfl | rfl | rfl | rfl | rfl | rfl | rfl | rfl | rfl <;> rfl
  | y :: l, i + 1, x, f, h, hf => by
    unfold flatU
    have e : (y.v.toList).length = 10 := rfl
    rw [List.getElem?_append_right (by rw [e]; omega), e, show (i + 1) * 10 + f - 10 = i * 10 + f from by omega]
    exact flatU_get l i x f (by simpa using h) hf
theorem flatU_one : ∀ (l : List K10), ∀ u ∈ flatU l, u.oneCell' = true
  | [], u, h => by cases h
  | x :: l, u, h => by
    unfold flatU at h
    rcases List.mem_append.1 h with h | h
    · simp at h
      rcases h with rfl | rfl | rfl | rfl | rfl | rfl | rfl | rfl | rfl | rfl <;> rfl
    · exact flatU_one l u h
/- a slice of such structs, made behind base -/
def SlU (w : World) (base : Nat) (v : Value) (l : List K10) : Prop := w.ownsRow base 68 10 v l.length (flatU l)
theorem SlU.of {w : World} {base : Nat} {v : Value} {l : List K10} (h : w.ownsRow base 68 10 v l.length (flatU l)) : SlU w base v l := h
theorem SlU.below {w w' : World} {base : Nat} {v : Value} {l : List K10} (h : SlU w base v l) (hb : Below w.heap.size w w') : SlU w' base v l := by
  rcases h with ⟨h1, h2⟩
  refine ⟨h1, ?_⟩
  rcases h2 with h2 | ⟨g, cap, cur, hv, hbb, hg, r⟩
  · exact .inl h2
  · exact .inr ⟨g, cap, cur, hv, hbb, (hb.block g (Array.getElem?_eq_some_iff.1 hg).1).trans hg, r⟩
theorem SlU.of_block {w w' : World} {base : Nat} {v : Value} {l : List K10} (h : SlU w base v l) (he : ∀ b, v.ownBlock = some b → w'.heap[b]? = w.heap[b]?) : SlU w' base v l := by
  rcases h with ⟨h1, h2⟩
  refine ⟨h1, ?_⟩
  rcases h2 with h2 | ⟨g, cap, cur, hv, hbb, hg, r⟩
  · exact .inl h2
  · exact .inr ⟨g, cap, cur, hv, hbb, (he g (by rw [hv]; rfl)).trans hg, r⟩
theorem SlU.lt {w : World} {base : Nat} {v : Value} {l : List K10} (s : SlU w base v l) : ∀ b, v.ownBlock = some b → base ≤ b ∧ b < w.heap.size := by
  intro b hb
  rcases s.2 with ⟨h1, h2⟩ | ⟨g, cap, cur, hv, hbb, hg, r⟩
  · rw [h1] at hb; cases hb
  · rw [hv] at hb
    have : g = b := Option.some.inj hb
    subst this
    exact ⟨hbb, (Array.getElem?_eq_some_iff.1 hg).1⟩
theorem SlU.form {w : World} {base : Nat} {v : Value} {l : List K10} (h : SlU w base v l) : ∃ a cap, v = .slice a l.length cap ∧ ArgU w a l := by
  rcases h.2 with ⟨h1, h2⟩ | ⟨g, cap, cur, hv, hbb, hg, h4, h5, h6, h7⟩
  · exact ⟨none, 0, by rw [h1, h2], .inl (List.eq_nil_of_length_eq_zero h2)⟩
  · refine ⟨_, cap, hv, .inr ⟨g, 0, rfl, (Array.getElem?_eq_some_iff.1 hg).1, fun i x hi f hf => ?_⟩⟩
    have e := flatU_get l i x f hi hf
    have hil : i < l.length := (List.getElem?_eq_some_iff.1 hi).1
    rw [← h7, List.getElem?_take, if_pos (by omega)] at e
    simp [World.cell?, hg]
    simpa using e
/- the whole block of such a slice as a row -/
theorem SlU.row {w : World} {base : Nat} {v : Value} {l : List K10} (h : SlU w base v l) (hne : l ≠ []) : ∃ g cap N f, v = .slice (some ⟨g, 0, none⟩) l.length cap ∧ base ≤ g ∧ l.length * 10 ≤ N ∧ w.rowIs g 68 N f ∧ cap ≤ maxLen ∧ l.length ≤ cap ∧ N = cap * 10 := by
  rcases h.2 with ⟨h1, h2⟩ | ⟨g, cap, cur, hv, hbb, hg, h4, h5, h6, h7⟩
  · exact absurd (List.eq_nil_of_length_eq_zero h2) hne
  · exact ⟨g, cap, cap * 10, fun i => cur[i]!, hv, hbb, Nat.mul_le_mul_right _ h4, ⟨cur, hg, h6, fun i hi => by show cur[i]? = some cur[i]!; rw [getElem!_pos cur i (by omega)]; exact Array.getElem?_eq_getElem (by omega)⟩, h5, h4, rfl⟩
def flatF : List K3 → List Value
  | [] => []
  | x :: l => x.v.toList ++ flatF l
theorem flatF_len : ∀ l : List K3, (flatF l).length = l.length * 3
  | [] => rfl
  | x :: l => by unfold flatF; rw [List.length_append, flatF_len l]; show 3 + _ = (l.length + 1) * 3; omega
theorem flatF_app : ∀ l l' : List K3, flatF (l ++ l') = flatF l ++ flatF l'
  | [], _ => rfl
  | x :: l, l' => by show x.v.toList ++ flatF (l ++ l') = (x.v.toList ++ flatF l) ++ flatF l'; rw [flatF_app l l', List.append_assoc]
theorem flatF_get : ∀ (l : List K3) (i : Nat) (x : K3) (f : Nat), l[i]? = some x → f < 3 → (flatF l)[i * 3 + f]? = some (.int .i64 (x.f f))
  | [], i, x, f, h, _ => by simp at h
  | y :: l, 0, x, f, h, hf => by
    have e : y = x := by simpa using h
    subst e
    unfold flatF
    rw [Nat.zero_mul, Nat.zero_add, List.getElem?_append_left (by show f < 3; exact hf)]
    have h6 : f = 0 ∨ f = 1 ∨ f = 2 := by omega
    rcases h6 with rfl | rfl | rfl <;> rfl
  | y :: l, i + 1, x, f, h, hf => by
    unfold flatF
    have e : (y.v.toList).length = 3 := rfl
    rw [List.getElem?_append_right (by rw [e]; omega), e, show (i + 1) * 3 + f - 3 = i * 3 + f from by omega]
    exact flatF_get l i x f (by simpa using h) hf
theorem flatF_one : ∀ (l : List K3), ∀ u ∈ flatF l, u.oneCell' = true
  | [], u, h => by cases h
  | x :: l, u, h => by
    unfold flatF at h
    rcases List.mem_append.1 h with h | h
    · simp at h
      rcases h with rfl | rfl | rfl <;> rfl
    · exact flatF_one l u h
/- a slice of such structs, made behind base -/
def SlF (w : World) (base : Nat) (v : Value) (l : List K3) : Prop := w.ownsRow base 106 3 v l.length (flatF l)
theorem SlF.of {w : World} {base : Nat} {v : Value} {l : List K3} (h : w.ownsRow base 106 3 v l.length (flatF l)) : SlF w base v l := h
theorem SlF.below {w w' : World} {base : Nat} {v : Value} {l : List K3} (h : SlF w base v l) (hb : Below w.heap.size w w') : SlF w' base v l := by
  rcases h with ⟨h1, h2⟩
  refine ⟨h1, ?_⟩
  rcases h2 with h2 | ⟨g, cap, cur, hv, hbb, hg, r⟩
  · exact .inl h2
  · exact .inr ⟨g, cap, cur, hv, hbb, (hb.block g (Array.getElem?_eq_some_iff.1 hg).1).trans hg, r⟩
theorem SlF.of_block {w w' : World} {base : Nat} {v : Value} {l : List K3} (h : SlF w base v l) (he : ∀ b, v.ownBlock = some b → w'.heap[b]? = w.heap[b]?) : SlF w' base v l := by
  rcases h with ⟨h1, h2⟩
  refine ⟨h1, ?_⟩
  rcases h2 with h2 | ⟨g, cap, cur, hv, hbb, hg, r⟩
  · exact .inl h2
  · exact .inr ⟨g, cap, cur, hv, hbb, (he g (by rw [hv]; rfl)).trans hg, r⟩
theorem SlF.lt {w : World} {base : Nat} {v : Value} {l : List K3} (s : SlF w base v l) : ∀ b, v.ownBlock = some b → base ≤ b ∧ b < w.heap.size := by
  intro b hb
  rcases s.2 with ⟨h1, h2⟩ | ⟨g, cap, cur, hv, hbb, hg, r⟩
  · rw [h1] at hb; cases hb
  · rw [hv] at hb
    have : g = b := Option.some.inj hb
    subst this
    exact ⟨hbb, (Array.getElem?_eq_some_iff.1 hg).1⟩
theorem SlF.form {w : World} {base : Nat} {v : Value} {l : List K3} (h : SlF w base v l) : ∃ a cap, v = .slice a l.length cap ∧ ArgF w a l := by
  rcases h.2 with ⟨h1, h2⟩ | ⟨g, cap, cur, hv, hbb, hg, h4, h5, h6, h7⟩
  · exact ⟨none, 0, by rw [h1, h2], .inl (List.eq_nil_of_length_eq_zero h2)⟩
  · refine ⟨_, cap, hv, .inr ⟨g, 0, rfl, (Array.getElem?_eq_some_iff.1 hg).1, fun i x hi f hf => ?_⟩⟩
    have e := flatF_get l i x f hi hf
    have hil : i < l.length := (List.getElem?_eq_some_iff.1 hi).1
    rw [← h7, List.getElem?_take, if_pos (by omega)] at e
    simp [World.cell?, hg]
    simpa using e
/- the whole block of such a slice as a row -/
theorem SlF.row {w : World} {base : Nat} {v : Value} {l : List K3} (h : SlF w base v l) (hne : l ≠ []) : ∃ g cap N f, v = .slice (some ⟨g, 0, none⟩) l.length cap ∧ base ≤ g ∧ l.length * 3 ≤ N ∧ w.rowIs g 106 N f ∧ cap ≤ maxLen ∧ l.length ≤ cap ∧ N = cap * 3 := by
  rcases h.2 with ⟨h1, h2⟩ | ⟨g, cap, cur, hv, hbb, hg, h4, h5, h6, h7⟩
  · exact absurd (List.eq_nil_of_length_eq_zero h2) hne
  · exact ⟨g, cap, cap * 3, fun i => cur[i]!, hv, hbb, Nat.mul_le_mul_right _ h4, ⟨cur, hg, h6, fun i hi => by show cur[i]? = some cur[i]!; rw [getElem!_pos cur i (by omega)]; exact Array.getElem?_eq_getElem (by omega)⟩, h5, h4, rfl⟩
end Go.Proofs.YtlfnnobkgbfdgaaGreat
end
