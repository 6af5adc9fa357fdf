/- Texts of mine put together (a claim holds at most 60 files): GfClock, AlSpec, PfImpl, Draws. -/
import Derived.Test.YtppgjmpdnpidnaaGreatDoorPartK13
import Derived.Test.YtppgjmpdnpidnaaGreatDoorPartK23
import Derived.Test.YtppgjmpdnpidnaaGreatDoorPartK08
import Derived.Test.YtppgjmpdnpidnaaGreatDoorPartK05
import Derived.Test.YtppgjmpdnpidnaaGreatDoorPartK01
import Derived.Test.YtppgjmpdnpidnaaGreatDoorRows
import Derived.WalkKit
import Derived.ProofKit
import Derived.OpenShut
import Derived.ShutString
import Derived.WalkLawsBesides
import Derived.ChangeOld
import Derived.Below
import Derived.OwnWalk
import Derived.Deep.QuietTactic
import Derived.BigQuiet

/- GfClock -/
/- Plain facts of time: a world that is ticked, what there is together, that it has no fault. No condition. -/
section
namespace Go.Proofs.YtppgjmpdnpidnaaGreatDoor
open Bd
set_option linter.unusedVariables false

/- the rooms of purses -/
def rmL (fa : List KA) : List Int := fa.map (fun y => 1000000 - y.c0)
/- purses with what was gained -/
def gnA (fa : List KA) (gn : List Int) : List KA := List.zipWith (fun y g => ⟨y.c0 + g, y.c1, y.c2⟩) fa gn
def ckS (x : KW) : TS := tkB (ts0 x.us x.fs (rmL x.fa))
def rmV (h : Int → Int → Bool) (x : KW) : List Int := if (wf h x == 0) = true then rmL x.fa else []
def ckC (h : Int → Int → Bool) (x : KW) : Int := if (wf h x == 0) = false then wf h x else if x.t = 9999 then 7 else if 100000000 < x.s + (ckS x).lost then 7 else 0
def ckX (h : Int → Int → Bool) (x : KW) : KW := if (ckC h x == 0) = true then ⟨x.t + 1, x.s + (ckS x).lost, (ckS x).us, (ckS x).fs, gnA x.fa (ckS x).gn, x.se, x.oo⟩ else kz
/- a turn leaves nobody who was not there: each owner is an owner of before -/
theorem tk1_own {us : List K10} {fs : List K3} {u : K10} {room : Int} (hu : u ∈ us) : ∀ x ∈ (tk1 us fs u room).us, ∃ v ∈ us, x.c1 = v.c1 := by
  have put : ∀ u', u'.c1 = u.c1 → ∀ x ∈ putU u' us, ∃ v ∈ us, x.c1 = v.c1 := fun u' e x hx => by
    rcases putU_mem hx with rfl | hx
    · exact ⟨u, hu, e⟩
    · exact ⟨x, hx, rfl⟩
  have self : ∀ x ∈ us, ∃ v ∈ us, x.c1 = v.c1 := fun x hx => ⟨x, hx, rfl⟩
  unfold tk1
  split
  · exact self
  split
  · unfold tkMove
    split
    · exact put (idle u) rfl
    · exact put (goTo u _ _) rfl
  split
  · unfold tkHarv
    cases hf : fs[u.c9.toNat]? with
    | none => exact put (idle u) rfl
    | some f =>
      dsimp only
      split
      · unfold tkBring
        split
        · exact put (carr u _) rfl
        · exact put (goTo u _ _) rfl
      · split
        · exact put (idle u) rfl
        · unfold tkTake
          split
          · exact put (carr u _) rfl
          · exact put (goTo u _ _) rfl
  split
  · unfold tkAtk
    cases hp : findU us u.c9 with
    | none => exact put (idle u) rfl
    | some p =>
      have hpm := find_mem' hp
      dsimp only
      split
      · exact put (idle u) rfl
      · split
        · exact put (goTo u _ _) rfl
        · unfold tkHit
          split
          · intro x hx
            exact ⟨x, (List.mem_filter.1 hx).1, rfl⟩
          · intro x hx
            rcases putU_mem hx with rfl | hx
            · exact ⟨p, hpm, rfl⟩
            · exact ⟨x, hx, rfl⟩
  · exact self
theorem tkS_own (s : TS) (i : Int) : ∀ x ∈ (tkS s i).us, ∃ v ∈ s.us, x.c1 = v.c1 := by
  unfold tkS
  cases hf : findU s.us i with
  | none => exact fun x hx => ⟨x, hx, rfl⟩
  | some u => exact tk1_own (find_mem' hf)
theorem tkL_own : ∀ (ids : List Int) (s : TS), ∀ x ∈ (tkL s ids).us, ∃ v ∈ s.us, x.c1 = v.c1
  | [], s, x, hx => ⟨x, hx, rfl⟩
  | i :: l, s, x, hx => by
    obtain ⟨v, hv, e⟩ := tkL_own l (tkS s i) x hx
    obtain ⟨v', hv', e'⟩ := tkS_own s i v hv
    exact ⟨v', hv', e.trans e'⟩
theorem crU_hld : ∀ us : List K10, crU us = hldU us
  | [] => rfl
  | u :: l => by show u.c5 + crU l = u.c5 + hldU l; rw [crU_hld l]
theorem sumF_hld : ∀ fs : List K3, sumF fs = hldF fs
  | [] => rfl
  | u :: l => by show u.c2 + sumF l = u.c2 + hldF l; rw [sumF_hld l]
theorem four' {α : Type} {l : List α} (h : l.length = 4) : ∃ a b c d, l = [a, b, c, d] := by
  match l, h with
  | [a, b, c, d], _ => exact ⟨a, b, c, d, rfl⟩
theorem purS_gn {fa : List KA} {gn : List Int} (h : fa.length = 4) (h' : gn.length = 4) : purS (gnA fa gn) = purS fa + hldI gn := by
  obtain ⟨a, b, c, d, rfl⟩ := four' h
  obtain ⟨p, q, r, s, rfl⟩ := four h'
  show a.c0 + p + (b.c0 + q + (c.c0 + r + (d.c0 + s + 0))) = a.c0 + (b.c0 + (c.c0 + (d.c0 + 0))) + (p + (q + (r + (s + 0))))
  omega
theorem gnA_eq {fa : List KA} {gn : List Int} (h : fa.length = 4) (h' : gn.length = 4) : eqGA fa (gnA fa gn) := by
  obtain ⟨a, b, c, d, rfl⟩ := four' h
  obtain ⟨p, q, r, s, rfl⟩ := four h'
  refine ⟨rfl, fun j f f' hf hf' => ?_⟩
  rcases j with _ | _ | _ | _ | j
  · cases hf; cases hf'; exact ⟨rfl, rfl⟩
  · cases hf; cases hf'; exact ⟨rfl, rfl⟩
  · cases hf; cases hf'; exact ⟨rfl, rfl⟩
  · cases hf; cases hf'; exact ⟨rfl, rfl⟩
  · simp at hf
theorem rmL_len (fa : List KA) : (rmL fa).length = fa.length := by unfold rmL; simp
theorem rmL_at {fa : List KA} {k : Nat} {y : KA} (h : fa[k]? = some y) : (rmL fa).getD k 0 = 1000000 - y.c0 := by
  unfold rmL
  rw [List.getD_eq_getElem?_getD, List.getElem?_map, h]; rfl
theorem rmL_in {fa : List KA} (h : ∀ f ∈ fa, inb f.c0 0 1000000 = true) : ∀ x ∈ rmL fa, 0 ≤ x ∧ x ≤ 1000000 := by
  intro x hx
  unfold rmL at hx
  obtain ⟨y, hy, rfl⟩ := List.mem_map.1 hx
  have := inb_i (h y hy)
  omega
theorem ck_tkF {h : Int → Int → Bool} {x : KW} (w0 : wf h x = 0) : tkF x.us x.fs (rmL x.fa) = 0 := by
  have g := (gdW_iff h x).1 w0
  exact tkF_of (Gd.of g.b) (by rw [rmL_len]; exact g.a4) (rmL_in (purse_in g))
theorem ck_tm {h : Int → Int → Bool} {x : KW} (w0 : wf h x = 0) : tmR x.us x.fs (rmL x.fa) 1 = .of (ckS x) := by
  have := tmR_of (ck_tkF w0) (n := 1) (by omega)
  exact this
theorem ckC_zero {h : Int → Int → Bool} {x : KW} : ckC h x = 0 ↔ wf h x = 0 ∧ x.t ≠ 9999 ∧ x.s + (ckS x).lost ≤ 100000000 := by
  unfold ckC
  by_cases e : wf h x = 0
  · by_cases e1 : x.t = 9999
    · simp [e, e1]
    · by_cases e2 : 100000000 < x.s + (ckS x).lost
      · simp [e, e1, e2]
      · simp [e, e1, e2]; omega
  · simp [e]
/- what is so of a world's tick -/
structure CkG (h : Int → Int → Bool) (x : KW) : Prop where
  wf0 : wf h (ckX h x) = 0
  tot : totF (ckX h x) = totF x
  tk : (ckX h x).t = x.t + 1
  us : (ckX h x).us = (ckS x).us
  fs : (ckX h x).fs = (ckS x).fs
  w0 : wf h x = 0
  tb : inb x.t 0 9999 = true
theorem ck_purse {h : Int → Int → Bool} {x : KW} (w0 : wf h x = 0) : ∀ f ∈ gnA x.fa (ckS x).gn, inb f.c0 0 1000000 = true := by
  have g := (gdW_iff h x).1 w0
  have gl := ((tg0 (ck_tkF w0)).ticks 1).gl
  have bd := fun (k : Nat) (hk : k < 4) => gain_le (ck_tkF w0) 1 hk
  have pi := purse_in g
  change (ckS x).gn.length = 4 at gl
  change ∀ k, k < 4 → 0 ≤ (ckS x).gn.getD k 0 ∧ (ckS x).gn.getD k 0 ≤ (rmL x.fa).getD k 0 ∧ _ at bd
  intro f hf
  obtain ⟨k, hk, rfl⟩ := List.getElem_of_mem hf
  have hk' := hk
  unfold gnA at hk'
  rw [List.length_zipWith] at hk'
  have hk4 : k < 4 := by omega
  have hka : k < x.fa.length := by omega
  have hkg : k < (ckS x).gn.length := by omega
  obtain ⟨b0, b1, _⟩ := bd k hk4
  have e1 : (ckS x).gn.getD k 0 = (ckS x).gn[k] := by rw [List.getD_eq_getElem?_getD, List.getElem?_eq_getElem hkg]; rfl
  rw [rmL_at (List.getElem?_eq_getElem hka)] at b1
  rw [e1] at b0 b1
  have p := inb_i (pi _ (List.getElem_mem hka))
  have e2 : (gnA x.fa (ckS x).gn)[k] = ⟨x.fa[k].c0 + (ckS x).gn[k], x.fa[k].c1, x.fa[k].c2⟩ := List.getElem_zipWith ..
  rw [e2]
  exact inb_t (by show 0 ≤ x.fa[k].c0 + (ckS x).gn[k]; omega) (by show x.fa[k].c0 + (ckS x).gn[k] ≤ 1000000; omega)
theorem ck_good {h : Int → Int → Bool} {x : KW} (e : ckC h x = 0) : CkG h x := by
  obtain ⟨w0, ht, hs⟩ := ckC_zero.1 e
  have g := (gdW_iff h x).1 w0
  have ex : ckX h x = ⟨x.t + 1, x.s + (ckS x).lost, (ckS x).us, (ckS x).fs, gnA x.fa (ckS x).gn, x.se, x.oo⟩ := by unfold ckX; rw [e]; rfl
  have tg0' := tg0 (ck_tkF w0)
  have tg := tg0'.ticks 1
  have tot := tot_ticks tg0' 1
  change TG (ckS x) at tg
  change Go.Proofs.YtppgjmpdnpidnaaGreatDoor.tot (ckS x) = hldU x.us + hldF x.fs + hldI z4 + 0 at tot
  have tot' : hldU (ckS x).us + hldF (ckS x).fs + hldI (ckS x).gn + (ckS x).lost = hldU x.us + hldF x.fs := by
    have : hldI z4 = 0 := rfl
    unfold Go.Proofs.YtppgjmpdnpidnaaGreatDoor.tot at tot
    omega
  obtain ⟨t0, t1⟩ := inb_i g.t
  obtain ⟨s0, s1⟩ := inb_i g.s
  have l0 := tg.l0
  have gp := gd_purses g (gnA_eq g.a4 tg.gl) (ck_purse w0)
  refine ⟨?_, ?_, by rw [ex], by rw [ex], by rw [ex], w0, g.t⟩
  · rw [ex]
    refine (gdW_iff h _).2 ⟨inb_t (by show 0 ≤ x.t + 1; omega) (by show x.t + 1 ≤ 9999; omega), inb_t (by show 0 ≤ x.s + (ckS x).lost; omega) hs, tg.gd.bf, gp.a4, gp.s6, gp.o6, gp.a, gp.se, gp.oo, ?_⟩
    refine owF_iff.2 fun u hu h9 => ?_
    obtain ⟨v, hv, ev⟩ := tkL_own _ _ u hu
    rw [ev] at h9 ⊢
    exact owF_iff.1 gp.ow v hv h9
  · rw [ex]
    show x.s + (ckS x).lost + crU (ckS x).us + sumF (ckS x).fs + purS (gnA x.fa (ckS x).gn) = x.s + crU x.us + sumF x.fs + purS x.fa
    rw [purS_gn g.a4 tg.gl, crU_hld, crU_hld, sumF_hld, sumF_hld]
    omega
end Go.Proofs.YtppgjmpdnpidnaaGreatDoor
end

/- AlSpec -/
/- The contracts of AreAllies, the program's and the model's. Condition: the world is a copy that lies in memory as it was laid there, with no more than 1048576 parts. -/
section
namespace Go.Proofs.YtppgjmpdnpidnaaGreatDoor
open Go.ChangeShapes Go.WideShapes Go.ChangeAt Go.RowKit
open Bd
set_option linter.unusedVariables false

def areA (h : Int → Int → Bool) (x : KW) (a b : Int) : Bool := inb a 0 3 && inb b 0 3 && (wf h x == 0) && h (allyA x.fa a) b
end Go.Proofs.YtppgjmpdnpidnaaGreatDoor
end

/- PfImpl -/
/- The contracts of the program's faults of two sides and of one. Condition: the world is a copy that lies in memory as it was laid there. -/
section
namespace Go.Proofs.YtppgjmpdnpidnaaGreatDoor
open Go.ChangeShapes Go.WideShapes Go.ChangeAt Go.RowKit
open Bd
set_option linter.unusedVariables false

/- one side -/
def sfF (h : Int → Int → Bool) (x : KW) (i : Int) : Int := if (wf h x == 0) = false then wf h x else if inb i 0 3 = false then 3 else 0
end Go.Proofs.YtppgjmpdnpidnaaGreatDoor
end

/- Draws -/
/- Contracts of the draws: a number out of the bytes of a code is within its bounds, and a pick out of a list is one of that list; nothing turns but the source's own block. Conditions: the code's bytes can be read, and the source's place is small. -/
section
namespace Go.Proofs.YtppgjmpdnpidnaaGreatDoor
open Go.ChangeShapes Go.WideShapes Go.ChangeAt Go.RowKit
set_option linter.unusedVariables false

def IsRow (k : IntKind) (w : World) (a : Option Addr) (len cap : Nat) (zs : List Int) : Prop :=
  (a = none ∧ len = 0 ∧ cap = 0 ∧ zs = []) ∨
  ∃ x, a = some x ∧ len ≤ cap ∧ cap ≤ maxLen ∧ zs.length = cap ∧ (∀ i, i < zs.length → w.cell? (x.add i) = some (.int k (zs.getD i 0))) ∧ ∀ n ∈ zs, (Lit.int k n).wf = true

/- a slice of bytes below block p: each of its elements can be read -/
def Bytes (w : World) (a : Option Addr) (len : Nat) (p : Nat) : Prop :=
  len = 0 ∨ ∃ b off, a = some ⟨b, off, none⟩ ∧ b < p ∧ ∀ i, i < len → ∃ z : Int, 0 ≤ z ∧ z ≤ 255 ∧ w.cell? ⟨b, off + i, none⟩ = some (.int .u8 z)

theorem cell_lt {w : World} {a : Addr} {v : Value} (h : w.cell? a = some v) : a.block < w.heap.size := by
  unfold World.cell? at h
  by_cases hb : a.block < w.heap.size
  · exact hb
  · rw [Array.getElem?_eq_none (by omega)] at h
    cases h

theorem Bytes.of_row {w : World} {a : Option Addr} {len cap : Nat} {zs : List Int} (h : IsRow .u8 w a len cap zs) : Bytes w a len w.heap.size := by
  rcases h with ⟨rfl, rfl, rfl, rfl⟩ | ⟨x, rfl, hl, hm, hz, hcell, hwz⟩
  · exact .inl rfl
  · by_cases h0 : len = 0
    · exact .inl h0
    · obtain ⟨b, off, spot⟩ := x
      have hc := hcell 0 (by omega)
      have hspot : spot = none := by simpa [Addr.add] using World.cell?_spot hc
      subst hspot
      refine .inr ⟨b, off, rfl, ?_, ?_⟩
      · have := cell_lt hc
        simpa [Addr.add] using this
      · intro i hi
        have hci := hcell i (by omega)
        have hmem : zs.getD i 0 ∈ zs := by
          have hi' : i < zs.length := by omega
          have e : zs.getD i 0 = zs[i] := by simp [List.getD_eq_getElem?_getD, List.getElem?_eq_getElem hi']
          rw [e]
          exact List.getElem_mem _
        have hw := hwz _ hmem
        have hbd := bounds_u8 hw
        refine ⟨zs.getD i 0, hbd.1, hbd.2, ?_⟩
        by_cases hi0 : i = 0
        · subst hi0; simpa [Addr.add] using hci
        · simpa [Addr.add, hi0] using hci

theorem Bytes.kept {w w' : World} {a : Option Addr} {len p : Nat} (h : Bytes w a len p) (hb : Below p w w') : Bytes w' a len p := by
  rcases h with h | ⟨b, off, rfl, hlt, hc⟩
  · exact .inl h
  · refine .inr ⟨b, off, rfl, hlt, fun i hi => ?_⟩
    obtain ⟨z, h0, h1, h2⟩ := hc i hi
    exact ⟨z, h0, h1, by rw [hb.cell (p := ⟨b, off + i, none⟩) hlt]; exact h2⟩

/- the source: a block of its own, the code and the place -/
def Src (w : World) (p : Nat) (c : Value) (n : Int) : Prop := w.heap[p]? = some (.cells #[c, .int .i64 n] 81)

theorem Src.lt {w : World} {p : Nat} {c : Value} {n : Int} (h : Src w p c n) : p < w.heap.size := by
  by_cases hb : p < w.heap.size
  · exact hb
  · unfold Src at h
    rw [Array.getElem?_eq_none (by omega)] at h
    cases h
theorem Src.cell0 {w : World} {p : Nat} {c : Value} {n : Int} (h : Src w p c n) : w.cell? ⟨p, 0, none⟩ = some c := by
  unfold Src at h
  simp [World.cell?, h]
theorem Src.cell1 {w : World} {p : Nat} {c : Value} {n : Int} (h : Src w p c n) : w.cell? ⟨p, 1, none⟩ = some (.int .i64 n) := by
  unfold Src at h
  simp [World.cell?, h]
theorem Src.frozen {w : World} {p : Nat} {c : Value} {n : Int} (h : Src w p c n) : w.frozen? ⟨p, 1, none⟩ = false := by
  unfold Src at h
  simp [World.frozen?, h]
theorem Src.set {w : World} {p : Nat} {c : Value} {n : Int} (h : Src w p c n) (m : Int) (k : Nat) : Src ((w.setCell ⟨p, 1, none⟩ (.int .i64 m)).drewN k) p c m := by
  unfold Src at *
  simp [World.setCell, World.drewN, Array.getElem?_modify, h]
theorem Src.kept {w w' : World} {p : Nat} {c : Value} {n : Int} {row : Option Nat} (h : Src w p c n) (hg : w.grownBy w' row) (hne : some p ≠ row) : Src w' p c n := by
  unfold Src at *
  rw [hg.block p (Src.lt h) hne]; exact h
theorem grown_set (w : World) (p : Nat) (v : Value) (k : Nat) : w.grownBy ((w.setCell ⟨p, 1, none⟩ v).drewN k) (some p) :=
  ⟨rfl, rfl, rfl, by simp [World.setCell, World.drewN], fun i _ hi => Below.heap_setCell _ _ _ _ (fun e => hi (by rw [e]))⟩
theorem grown_trans {a b c : World} {row : Option Nat} (h : a.grownBy b row) (k : b.grownBy c row) : a.grownBy c row :=
  ⟨k.os.trans h.os, k.tape.trans h.tape, k.output.trans h.output, Nat.le_trans h.size k.size, fun i hi hne => (k.block i (Nat.lt_of_lt_of_le hi h.size) hne).trans (h.block i hi hne)⟩
theorem grown_below {w w' : World} {p : Nat} (h : w.grownBy w' (some p)) (hp : p ≤ w.heap.size) : Below p w w' :=
  ⟨h.os, h.tape, h.output, h.size, fun k hk => h.block k (by omega) (fun e => by cases e; omega)⟩

set_option maxHeartbeats 2000000 in
theorem draws (w : World) (p : Nat) (a : Option Addr) (len cap : Nat) (t n : Int) (hs : Src w p (.slice a len cap) t) (hb : Bytes w a len p)
    (hl : len ≤ 1048576) (h0 : 0 ≤ t) (h1 : t ≤ 1000000) (hn : 1 ≤ n) (hn2 : n ≤ 1000000000) :
    Calls Tryz.prog 37 #[.pointer (some ⟨p, 0, none⟩), .int .i64 n] w fun e w' => ∃ r : Int, e = .returned (.int .i64 r) ∧ 0 ≤ r ∧ r < n ∧ Src w' p (.slice a len cap) (t + 1) ∧ w.grownBy w' (some p) := by
  have c0 := hs.cell0
  have c1 := hs.cell1
  have fz := hs.frozen
  by_cases hz : len = 0
  · subst hz
    go_enter Tryz.func37, Tryz.ntmps37
    go_wp2
    go_ret
    exact ⟨_, rfl, Int.emod_nonneg _ (by omega), Int.emod_lt_of_pos _ (by omega), hs.set _ 0, grown_set _ _ _ 0⟩
  · rcases hb with hb | ⟨b, off, rfl, hlt, hc⟩
    · exact absurd hb hz
    have hne : b ≠ p := by omega
    have hp : (0 : Int) < (len : Int) := by omega
    have hz' : ((len : Int) == 0) = false := by simp; omega
    have m0 := Int.emod_nonneg t (b := (len : Int)) (by omega)
    have m1 := Int.emod_lt_of_pos t (b := (len : Int)) (by omega)
    have n0 := Int.emod_nonneg (t + 1) (b := (len : Int)) (by omega)
    have n1 := Int.emod_lt_of_pos (t + 1) (b := (len : Int)) (by omega)
    have d0 := Int.ediv_nonneg (a := t) (b := (len : Int)) h0 (by omega)
    have d1 := Int.ediv_le_self (a := t) (len : Int) h0
    obtain ⟨z, z0, z1, hz1⟩ := hc (t % (len : Int)).toNat (by omega)
    obtain ⟨y, y0, y1, hy1⟩ := hc ((t + 1) % (len : Int)).toNat (by omega)
    by_cases hbig : 200 < n
    · go_enter Tryz.func37, Tryz.ntmps37
      go_wp2
      go_quiet (fail)
      go_wp2
      go_quiet (fail)
      go_wp2
      go_ret
      exact ⟨_, rfl, Int.emod_nonneg _ (by omega), Int.emod_lt_of_pos _ (by omega), hs.set _ _, grown_set _ _ _ _⟩
    · have hbig' : decide (200 < n) = false := decide_eq_false hbig
      go_enter Tryz.func37, Tryz.ntmps37
      go_wp2
      go_quiet (fail)
      go_wp2
      go_ret
      exact ⟨_, rfl, Int.emod_nonneg _ (by omega), Int.emod_lt_of_pos _ (by omega), hs.set _ _, grown_set _ _ _ _⟩

/- a list of numbers, each of which meets P -/
def IntRow (P : Int → Prop) : List Value → Prop
  | [] => True
  | v :: r => (∃ x, v = .int .i64 x ∧ P x) ∧ IntRow P r
theorem IntRow.at {P : Int → Prop} : ∀ {l : List Value} (_ : IntRow P l) (i : Nat) (_ : i < l.length), ∃ x, P x ∧ l[i]? = some (.int .i64 x)
  | v :: r, h, 0, _ => by obtain ⟨⟨x, rfl, hx⟩, _⟩ := h; exact ⟨x, hx, rfl⟩
  | v :: r, h, i + 1, hi => by obtain ⟨_, h2⟩ := h; exact IntRow.at h2 i (by simpa using hi)
theorem heap_new (w : World) (o : Obj) : (w.alloc o).heap[w.heap.size]? = some o := by
  show (w.heap.push o)[w.heap.size]? = _
  simp
def Row (P : Int → Prop) (w : World) (q m : Nat) : Prop := ∀ i, i < m → ∃ x : Int, P x ∧ w.cell? ⟨q, i, none⟩ = some (.int .i64 x)
theorem row_new {P : Int → Prop} {l : List Value} (h : IntRow P l) (w : World) (t : TypeId) (m : Nat) (hm : m = l.length) : Row P (w.alloc (.cells l.toArray t)) w.heap.size m := by
  intro i hi
  obtain ⟨x, hx, e⟩ := h.at i (by omega)
  refine ⟨x, hx, ?_⟩
  unfold World.cell?
  rw [heap_new]
  simp [e]
theorem src_new (w : World) (c : Value) : Src (w.alloc (.cells #[c, .int .i64 0] 81)) w.heap.size c 0 := by
  unfold Src
  exact heap_new _ _
theorem Src.alloc {w : World} {p : Nat} {c : Value} {n : Int} (h : Src w p c n) (o : Obj) : Src (w.alloc o) p c n := h.kept (World.grownBy_alloc w o none) (by simp)

def I64 (x : Int) : Prop := -9223372036854775808 ≤ x ∧ x ≤ 9223372036854775807

set_option maxHeartbeats 1000000 in
theorem pick (P : Int → Prop) (w : World) (p q m m' : Nat) (a : Option Addr) (len cap : Nat) (t : Int) (hs : Src w p (.slice a len cap) t) (hb : Bytes w a len p)
    (hl : len ≤ 1048576) (h0 : 0 ≤ t) (h1 : t ≤ 1000000) (hm : 1 ≤ m) (hm2 : m ≤ 1000000) (hq : p ≠ q) (hr : Row P w q m) :
    Calls Tryz.prog 39 #[.pointer (some ⟨p, 0, none⟩), .slice (some ⟨q, 0, none⟩) m m'] w fun e w' => ∃ r : Int, e = .returned (.int .i64 r) ∧ P r ∧ Src w' p (.slice a len cap) (t + 1) ∧ w.grownBy w' (some p) := by
  go_enter Tryz.func39, Tryz.ntmps39
  go_wp2_with fail
  refine (draws w p a len cap t _ hs hb hl h0 h1 (by omega) (by omega)).mono ?_
  rintro e w1 ⟨r, rfl, hr0, hr1, hs1, hg⟩
  obtain ⟨x, hx, hc⟩ := hr r.toNat (by omega)
  have hc1 : w1.cell? ⟨q, r.toNat, none⟩ = some (.int .i64 x) := hg.cell hc (by simp; omega)
  clear hc
  go_wp2
  go_ret
  exact ⟨x, rfl, hx, hs1, hg⟩

/- behind the start w0 of a draw: the source lies in the first new block, what was there is as it was -/
structure St (w0 w : World) (a : Option Addr) (len cap : Nat) (t : Int) : Prop where
  src : Src w w0.heap.size (.slice a len cap) t
  bel : Below w0.heap.size w0 w

theorem St.alloc {w0 w : World} {a : Option Addr} {len cap : Nat} {t : Int} (h : St w0 w a len cap t) (o : Obj) : St w0 (w.alloc o) a len cap t :=
  ⟨h.src.alloc o, h.bel.alloc (Nat.le_of_lt h.src.lt) o⟩

theorem source (w : World) (a : Option Addr) (len cap : Nat) :
    Calls Tryz.prog 15 #[.slice a len cap] w fun e w' => e = .returned (.pointer (some ⟨w.heap.size, 0, none⟩)) ∧ St w w' a len cap 0 := by
  go_enter Tryz.func15, Tryz.ntmps15
  go_wp2
  go_ret
  exact ⟨rfl, src_new _ _, (Below.refl _ _).alloc (Nat.le_refl _) _⟩

theorem Bytes.mono {w : World} {a : Option Addr} {len p p' : Nat} (h : Bytes w a len p) (hp : p ≤ p') : Bytes w a len p' := by
  rcases h with h | ⟨b, off, rfl, hlt, hc⟩
  · exact .inl h
  · exact .inr ⟨b, off, rfl, by omega, hc⟩

/- the same bytes in a later world -/
theorem Bytes.later {w w' : World} {a : Option Addr} {len : Nat} (h : Bytes w a len w.heap.size) (hb : Below w.heap.size w w') : Bytes w' a len w'.heap.size :=
  (h.kept hb).mono hb.size

theorem lwBig_no (w : World) (a : Option Addr) (len cap : Nat) (h : len ≤ 1048576) :
    Calls Tryz.prog 4 #[.slice a len cap] w fun e w' => e = .returned (.bool false) ∧ w' = w := by
  have h2 : decide (1048576 < (len : Int)) = false := decide_eq_false (by omega)
  go_enter Tryz.func4, Tryz.ntmps4
  go_wp2
  go_ret
  exact ⟨rfl, rfl⟩
theorem lwBig_yes (w : World) (a : Option Addr) (len cap : Nat) (h : 1048576 < len) :
    Calls Tryz.prog 4 #[.slice a len cap] w fun e w' => e = .returned (.bool true) ∧ w' = w := by
  have h2 : (1048576 : Int) < (len : Int) := by omega
  go_enter Tryz.func4, Tryz.ntmps4
  go_wp2
  go_ret
  exact ⟨rfl, rfl⟩

end Go.Proofs.YtppgjmpdnpidnaaGreatDoor
end
