/- Texts of mine put together (a claim holds at most 60 files): MapU, PutSpec, OneWalks, PutSpec2. -/
import Derived.Test.YtlfnnobkgbfdgaaGreatPartH13
import Derived.Maps.Own
import Derived.Maps.Views
import Derived.Test.YtlfnnobkgbfdgaaGreatPartH12
import Derived.Deep.RegionHeld3
import Derived.Deep.Cut
import Derived.Deep.CutRange
import Derived.Outline
import Derived.Test.YtlfnnobkgbfdgaaGreatPartH05

/- MapU -/
/- Maps from numbers to rows of ten numbers: what they hold, as a rising list of units. No condition. -/
section
namespace Go.Proofs.YtlfnnobkgbfdgaaGreat
open Go.ChangeShapes Go.WideShapes Go.ChangeAt Go.RowKit
open Bd
set_option linter.unusedVariables false

open Classical in
/- how such a row reads -/
def rdU (v : Value) : Option (DataW K10 × List MemPlace) :=
  match v with
  | .agg a =>
    match a.toList with
    | [.int .i64 c0, .int .i64 c1, .int .i64 c2, .int .i64 c3, .int .i64 c4, .int .i64 c5, .int .i64 c6, .int .i64 c7, .int .i64 c8, .int .i64 c9] => some (.held ⟨c0, c1, c2, c3, c4, c5, c6, c7, c8, c9⟩, [])
    | _ => none
  | _ => none
def ent (u : K10) : Lit × DataW K10 := (.int .i64 u.c0, .held u)
/- a unit put among others that rise -/
def putU (u : K10) : List K10 → List K10
  | [] => [u]
  | x :: l => if u.c0 < x.c0 then u :: x :: l else if u.c0 = x.c0 then u :: l else x :: putU u l
abbrev Rise (l : List K10) : Prop := l.Pairwise (fun a b => a.c0 < b.c0)
theorem putU_mem {u y : K10} : ∀ {l : List K10}, y ∈ putU u l → y = u ∨ y ∈ l
  | [], h => by simp [putU] at h; exact .inl h
  | x :: l, h => by
    unfold putU at h
    split at h
    · rcases List.mem_cons.1 h with h | h
      · exact .inl h
      · exact .inr h
    · split at h
      · rcases List.mem_cons.1 h with h | h
        · exact .inl h
        · exact .inr (List.mem_cons_of_mem _ h)
      · rcases List.mem_cons.1 h with h | h
        · exact .inr (by rw [h]; exact List.mem_cons_self)
        · rcases putU_mem h with h | h
          · exact .inl h
          · exact .inr (List.mem_cons_of_mem _ h)
theorem putU_rise {u : K10} : ∀ {l : List K10}, Rise l → Rise (putU u l)
  | [], _ => by simp [putU, Rise]
  | x :: l, h => by
    obtain ⟨h1, h2⟩ := List.pairwise_cons.1 h
    unfold putU
    split
    · rename_i hlt
      refine List.pairwise_cons.2 ⟨fun y hy => ?_, h⟩
      rcases List.mem_cons.1 hy with rfl | hy
      · exact hlt
      · have := h1 y hy; omega
    · split
      · rename_i he
        exact List.pairwise_cons.2 ⟨fun y hy => by have := h1 y hy; omega, h2⟩
      · rename_i h3 h4
        refine List.pairwise_cons.2 ⟨fun y hy => ?_, putU_rise h2⟩
        rcases putU_mem hy with rfl | hy
        · omega
        · exact h1 y hy
/- the unit with an Id -/
def findU (l : List K10) (i : Int) : Option K10 := l.find? (fun x => x.c0 == i)
/- the map in memory -/
def MapAt (w : World) (b : Nat) (l : List K10) : Prop := w.ownsMap Tryz.prog 2 rdU b l.length (.map (l.map ent))
theorem MapAt.lt {w : World} {b : Nat} {l : List K10} (h : MapAt w b l) : b < w.heap.size := World.ownsMap.lt h
theorem MapAt.later {w w' : World} {b : Nat} {l : List K10} (h : MapAt w b l) (hb : Below w.heap.size w w') : MapAt w' b l := by
  have hlt := h.lt
  obtain ⟨es, clock, h1, F, hs, hD⟩ := h
  exact ⟨es, clock, (hb.block b hlt).trans h1, F, hs, hD⟩
theorem MapAt.of_block {w w' : World} {b : Nat} {l : List K10} (h : MapAt w b l) (e : w'.heap[b]? = w.heap[b]?) : MapAt w' b l := by
  obtain ⟨es, clock, h1, F, hs, hD⟩ := h
  exact ⟨es, clock, e.trans h1, F, hs, hD⟩
theorem MapAt.new (w : World) : MapAt (w.alloc (.map #[] 0)) w.heap.size [] := World.ownsMap_made w Tryz.prog 2 rdU
theorem find_id {l : List K10} {i : Int} {x : K10} (h : findU l i = some x) : x ∈ l ∧ x.c0 = i := by
  unfold findU at h
  exact ⟨List.mem_of_find?_eq_some h, by simpa using List.find?_some h⟩
end Go.Proofs.YtlfnnobkgbfdgaaGreat
end

/- PutSpec -/
/- Contracts of the model of PutUnit's parts. Condition: the board's lists rise and lie in memory as they were laid there. -/
section
namespace Go.Proofs.YtlfnnobkgbfdgaaGreat
open Go.ChangeShapes Go.WideShapes Go.ChangeAt Go.RowKit
open Bd
set_option linter.unusedVariables false

theorem SlU.mono {w : World} {base base' : Nat} {v : Value} {l : List K10} (h : SlU w base v l) (hb : base' ≤ base) : SlU w base' v l := by
  rcases h with ⟨h1, h2⟩
  refine ⟨h1, ?_⟩
  rcases h2 with h2 | ⟨g, cap, cur, hv, hbb, r⟩
  · exact .inl h2
  · exact .inr ⟨g, cap, cur, hv, Nat.le_trans hb hbb, r⟩
theorem SlF.mono {w : World} {base base' : Nat} {v : Value} {l : List K3} (h : SlF w base v l) (hb : base' ≤ base) : SlF w base' v l := by
  rcases h with ⟨h1, h2⟩
  refine ⟨h1, ?_⟩
  rcases h2 with h2 | ⟨g, cap, cur, hv, hbb, r⟩
  · exact .inl h2
  · exact .inr ⟨g, cap, cur, hv, Nat.le_trans hb hbb, r⟩
/- what is out behind k units: d: u is among them -/
def lp (u : K10) (us : List K10) (d : Bool) (k : Nat) : List K10 := if d = true then putU u (us.take k) else us.take k
def lc (u : K10) (us : List K10) (d : Bool) (k : Nat) : Prop := (d = false ∧ ∀ x ∈ us.take k, x.c0 < u.c0) ∨ (d = true ∧ ∃ x ∈ us.take k, u.c0 ≤ x.c0)
end Go.Proofs.YtlfnnobkgbfdgaaGreat
end

/- OneWalks -/
/- Contracts of UnitOf and of its model, and of the program's map of rows by Id. Condition: the board's two lists lie in memory as they were laid there. -/
section
namespace Go.Proofs.YtlfnnobkgbfdgaaGreat
open Go.ChangeShapes Go.WideShapes Go.ChangeAt Go.RowKit
open Bd
set_option linter.unusedVariables false

theorem cell_of_block {w w' : World} {g : Nat} (e : w'.heap[g]? = w.heap[g]?) (o : Nat) : w'.cell? ⟨g, o, none⟩ = w.cell? ⟨g, o, none⟩ := by
  unfold World.cell?
  rw [e]
theorem U1.of_block {w w' : World} {g off : Nat} {x : K10} (h : U1 w g off x) (e : w'.heap[g]? = w.heap[g]?) (hl : g < w'.heap.size) : U1 w' g off x :=
  ⟨(cell_of_block e _).trans h.c0, (cell_of_block e _).trans h.c1, (cell_of_block e _).trans h.c2, (cell_of_block e _).trans h.c3, (cell_of_block e _).trans h.c4, (cell_of_block e _).trans h.c5, (cell_of_block e _).trans h.c6, (cell_of_block e _).trans h.c7, (cell_of_block e _).trans h.c8, (cell_of_block e _).trans h.c9, hl⟩
/- where a unit with an Id lies -/
def atU (l : List K10) (i : Int) : Option Nat := l.findIdx? (fun x => x.c0 == i)
def atI (l : List K10) (i : Int) : Int := match atU l i with | some k => (k : Int) | none => -1
end Go.Proofs.YtlfnnobkgbfdgaaGreat
end

/- PutSpec2 -/
/- Contracts of the model of PutUnit. Condition: the board's lists lie in memory as they were laid there. -/
section
namespace Go.Proofs.YtlfnnobkgbfdgaaGreat
open Go.ChangeShapes Go.WideShapes Go.ChangeAt Go.RowKit
open Bd
set_option linter.unusedVariables false

theorem step_copyU {ops : Array Oper} {o : Oper} {a : Act} {W : World} {K : Act → World → Prop} {Q : Exit → Act → World → Prop} {E : Prop} (hgd : o.guard = none) (s x : Operand)
    (ho : o.op = .call { callee := .builtin .append, args := #[s, x], argTypes := #[24, 24] }) (base b : Nat) (l : List K10) (g off n c : Nat) (hn : l.length = n) (hat : UAt W g off l)
    (hs : a.eval s = .slice (some ⟨b, 0, none⟩) 0 0) (hb : W.heap[b]? = some (.cells #[] 68)) (hbase : base ≤ b) (hx : a.eval x = .slice (some ⟨g, off, none⟩) n c) (hlen : n ≤ 100)
    (h : ∀ v' w', SlU w' base v' l → W.grownBy w' (some b) → v' ≠ .slice none 0 0 → K (a.put o.dst v') w') :
    if Region.wanted o (yielded ops a.tmps) = true then Oper.wp Tryz.prog o a W K Q else E := by
  have hw : Region.wanted o (yielded ops a.tmps) = true := by simp [Region.wanted, hgd]
  rw [if_pos hw]
  obtain ⟨i0, hi, hz0, hz1, hz2⟩ := info_parts infoU
  have hbl : b < W.heap.size := (Array.getElem?_eq_some_iff.1 hb).1
  have hown : W.ownsRow base 68 10 (.slice (some ⟨b, 0, none⟩) 0 0) 0 [] := ⟨rfl, .inr ⟨b, 0, #[], rfl, hbase, hb, Nat.le_refl _, by unfold maxLen; omega, rfl, rfl⟩⟩
  refine wp_append_own _ s x 24 ho base 68 i0 (.agg K10.z.v) 10 80 Tryz.underlying24 hi hz0 hz1 hz2 rfl (by decide) _ 0 _ hs hown ⟨g, off, none⟩ n c (flatU l) hx (by rw [flatU_len, hn]) ?_ (flatU_one l) (by unfold maxLen; omega) (by omega) (by omega) ?_
  · intro j y hj
    rw [add_plain']
    have hjl : j < l.length * 10 := by rw [← flatU_len]; exact (List.getElem?_eq_some_iff.1 hj).1
    obtain ⟨z, hz⟩ : ∃ z, l[j / 10]? = some z := ⟨_, List.getElem?_eq_getElem (by omega)⟩
    have e := flatU_get l (j / 10) z (j % 10) hz (by omega)
    have hj2 : j / 10 * 10 + j % 10 = j := by omega
    rw [hj2, hj] at e
    have := hat (j / 10) z hz (j % 10) (by omega)
    rw [show off + j / 10 * 10 + j % 10 = off + j from by omega] at this
    rw [this, e]
  · intro v' w' h1 h2 h3
    refine h v' w' ?_ h2 (fun e => by have := (h3.1 e).1; simp at this)
    unfold SlU
    rw [hn]
    simpa using h1
theorem step_copyF {ops : Array Oper} {o : Oper} {a : Act} {W : World} {K : Act → World → Prop} {Q : Exit → Act → World → Prop} {E : Prop} (hgd : o.guard = none) (s x : Operand)
    (ho : o.op = .call { callee := .builtin .append, args := #[s, x], argTypes := #[25, 25] }) (base b : Nat) (l : List K3) (g off n c : Nat) (hn : l.length = n) (hat : FAt W g off l)
    (hs : a.eval s = .slice (some ⟨b, 0, none⟩) 0 0) (hb : W.heap[b]? = some (.cells #[] 106)) (hbase : base ≤ b) (hx : a.eval x = .slice (some ⟨g, off, none⟩) n c) (hlen : n ≤ 100)
    (h : ∀ v' w', SlF w' base v' l → W.grownBy w' (some b) → v' ≠ .slice none 0 0 → K (a.put o.dst v') w') :
    if Region.wanted o (yielded ops a.tmps) = true then Oper.wp Tryz.prog o a W K Q else E := by
  have hw : Region.wanted o (yielded ops a.tmps) = true := by simp [Region.wanted, hgd]
  rw [if_pos hw]
  obtain ⟨i0, hi, hz0, hz1, hz2⟩ := info_parts infoF
  have hbl : b < W.heap.size := (Array.getElem?_eq_some_iff.1 hb).1
  have hown : W.ownsRow base 106 3 (.slice (some ⟨b, 0, none⟩) 0 0) 0 [] := ⟨rfl, .inr ⟨b, 0, #[], rfl, hbase, hb, Nat.le_refl _, by unfold maxLen; omega, rfl, rfl⟩⟩
  refine wp_append_own _ s x 25 ho base 106 i0 (.agg K3.z.v) 3 24 Tryz.underlying25 hi hz0 hz1 hz2 rfl (by decide) _ 0 _ hs hown ⟨g, off, none⟩ n c (flatF l) hx (by rw [flatF_len, hn]) ?_ (flatF_one l) (by unfold maxLen; omega) (by omega) (by omega) ?_
  · intro j y hj
    rw [add_plain']
    have hjl : j < l.length * 3 := by rw [← flatF_len]; exact (List.getElem?_eq_some_iff.1 hj).1
    obtain ⟨z, hz⟩ : ∃ z, l[j / 3]? = some z := ⟨_, List.getElem?_eq_getElem (by omega)⟩
    have e := flatF_get l (j / 3) z (j % 3) hz (by omega)
    have hj2 : j / 3 * 3 + j % 3 = j := by omega
    rw [hj2, hj] at e
    have := hat (j / 3) z hz (j % 3) (by omega)
    rw [show off + j / 3 * 3 + j % 3 = off + j from by omega] at this
    rw [this, e]
  · intro v' w' h1 h2 h3
    refine h v' w' ?_ h2 (fun e => by have := (h3.1 e).1; simp at this)
    unfold SlF
    rw [hn]
    simpa using h1
theorem SlF.set {w : World} {base : Nat} {v : Value} {l : List K3} (h : SlF w base v l) {b o : Nat} (hb : b < base) (x : Value) : SlF (w.setCell ⟨b, o, none⟩ x) base v l := h.of_block (fun q hq => Below.heap_setCell _ ⟨b, o, none⟩ x q (by have := (h.lt q hq).1; show q ≠ b; omega))
theorem SlU.set {w : World} {base : Nat} {v : Value} {l : List K10} (h : SlU w base v l) {b o : Nat} (hb : b < base) (x : Value) : SlU (w.setCell ⟨b, o, none⟩ x) base v l := h.of_block (fun q hq => Below.heap_setCell _ ⟨b, o, none⟩ x q (by have := (h.lt q hq).1; show q ≠ b; omega))
theorem heap_at (w : World) (o : Obj) : (w.alloc o).heap[w.heap.size]? = some o := by
  show (w.heap.push _)[w.heap.size]? = _
  simp
theorem grown_bel {W w w' : World} {n b : Nat} (hb : Below n W w) (hn : n ≤ W.heap.size) (k : w.grownBy w' (some b)) (h : n ≤ b) : Below n W w' := hb.grown k (Nat.le_trans hn hb.size) (fun j hj => by cases hj; exact h)
theorem SlU.grownF {W w' : World} {base bF : Nat} {v : Value} {l : List K10} {c : Array Value} (h : SlU W base v l) (hb : W.heap[bF]? = some (.cells c 106)) (k : W.grownBy w' (some bF)) : SlU w' base v l := by
  refine h.of_block (fun q hq => k.block q (h.lt q hq).2 (fun e => ?_))
  have e' : q = bF := Option.some.inj e
  subst e'
  rcases h.2 with ⟨rfl, _⟩ | ⟨g, cap, cur, rfl, _, hg, _⟩
  · cases hq
  · have : g = q := Option.some.inj hq
    subst this
    rw [hg] at hb
    simp at hb
/- a copy of a board, in memory of its own -/
theorem step_copyUI {ops : Array Oper} {o : Oper} {a : Act} {W : World} {K : Act → World → Prop} {Q : Exit → Act → World → Prop} {E : Prop} (hgd : o.guard = none) (s x : Operand)
    (ho : o.op = .call { callee := .builtin .append, args := #[s, x], argTypes := #[24, 24] }) (base b : Nat) (l : List K10) (p : Option Addr) (n c : Nat) (hn : l.length = n) (hat : InU W p n c l)
    (hs : a.eval s = .slice (some ⟨b, 0, none⟩) 0 0) (hb : W.heap[b]? = some (.cells #[] 68)) (hbase : base ≤ b) (hx : a.eval x = .slice p n c) (hlen : n ≤ 100)
    (h : ∀ v' w', SlU w' base v' l → W.grownBy w' (some b) → v' ≠ .slice none 0 0 → K (a.put o.dst v') w') :
    if Region.wanted o (yielded ops a.tmps) = true then Oper.wp Tryz.prog o a W K Q else E := by
  rcases hat with ⟨rfl, rfl, rfl, rfl⟩ | ⟨g, off, rfl, hg, hat⟩
  · have hw : Region.wanted o (yielded ops a.tmps) = true := by simp [Region.wanted, hgd]
    rw [if_pos hw]
    obtain ⟨i0, hi, hz0, hz1, hz2⟩ := info_parts infoU
    have hown : W.ownsRow base 68 10 (.slice (some ⟨b, 0, none⟩) 0 0) 0 [] := ⟨rfl, .inr ⟨b, 0, #[], rfl, hbase, hb, Nat.le_refl _, by unfold maxLen; omega, rfl, rfl⟩⟩
    have hrun := run_append_owned_none (P := Tryz.prog) (w := W) base 24 o.type 68 i0 10 Tryz.underlying24 hi _ 0 [] hown
    unfold Oper.wp
    simp [execOp, ho, resolve, invoke, builtin, hs, hx, hrun, Result.andThen]
    exact h _ _ hown (grown_refl _ _) (by simp)
  · exact step_copyU hgd s x ho base b l g off n c hn hat hs hb hbase hx hlen h
theorem step_copyFI {ops : Array Oper} {o : Oper} {a : Act} {W : World} {K : Act → World → Prop} {Q : Exit → Act → World → Prop} {E : Prop} (hgd : o.guard = none) (s x : Operand)
    (ho : o.op = .call { callee := .builtin .append, args := #[s, x], argTypes := #[25, 25] }) (base b : Nat) (l : List K3) (p : Option Addr) (n c : Nat) (hn : l.length = n) (hat : InF W p n c l)
    (hs : a.eval s = .slice (some ⟨b, 0, none⟩) 0 0) (hb : W.heap[b]? = some (.cells #[] 106)) (hbase : base ≤ b) (hx : a.eval x = .slice p n c) (hlen : n ≤ 100)
    (h : ∀ v' w', SlF w' base v' l → W.grownBy w' (some b) → v' ≠ .slice none 0 0 → K (a.put o.dst v') w') :
    if Region.wanted o (yielded ops a.tmps) = true then Oper.wp Tryz.prog o a W K Q else E := by
  rcases hat with ⟨rfl, rfl, rfl, rfl⟩ | ⟨g, off, rfl, hg, hat⟩
  · have hw : Region.wanted o (yielded ops a.tmps) = true := by simp [Region.wanted, hgd]
    rw [if_pos hw]
    obtain ⟨i0, hi, hz0, hz1, hz2⟩ := info_parts infoF
    have hown : W.ownsRow base 106 3 (.slice (some ⟨b, 0, none⟩) 0 0) 0 [] := ⟨rfl, .inr ⟨b, 0, #[], rfl, hbase, hb, Nat.le_refl _, by unfold maxLen; omega, rfl, rfl⟩⟩
    have hrun := run_append_owned_none (P := Tryz.prog) (w := W) base 25 o.type 106 i0 3 Tryz.underlying25 hi _ 0 [] hown
    unfold Oper.wp
    simp [execOp, ho, resolve, invoke, builtin, hs, hx, hrun, Result.andThen]
    exact h _ _ hown (grown_refl _ _) (by simp)
  · exact step_copyF hgd s x ho base b l g off n c hn hat hs hb hbase hx hlen h
set_option maxRecDepth 20000 in
set_option maxHeartbeats 4000000 in
theorem l4Copy2_i (p : Option Addr) (c m : Nat) (p' : Option Addr) (c' m' : Nat) (us : List K10) (fs : List K3) (hl : us.length = m) (hm : m ≤ 8) (hl' : fs.length = m') (hm' : m' ≤ 4) (w : World) (hat : InU w p m c us) (hat' : InF w p' m' c' fs) :
    Calls Tryz.prog 98 #[.agg (brdV p m c p' m' c')] w fun e w' => ∃ v f, e = .returned (.agg #[v, f]) ∧ SlU w' w.heap.size v us ∧ SlF w' w.heap.size f fs ∧ v ≠ .slice none 0 0 ∧ f ≠ .slice none 0 0 ∧ Below w.heap.size w w' := by
  obtain ⟨W1, HW1⟩ : ∃ W1, Hid (W1 = (w.alloc (.cells (brdV p m c p' m' c') 27)).alloc (.cells #[.slice none 0 0, .slice none 0 0] 27)) := ⟨_, rfl⟩
  obtain ⟨rb, rr, k0, S0⟩ := two_two w (.slice p m c) (.slice p' m' c') (.slice none 0 0) (.slice none 0 0) 27 27
  rw [← HW1.out] at rb rr k0 S0
  have Hat : Hid (InU W1 p m c us) := hat.later k0
  have Hat' : Hid (InF W1 p' m' c' fs) := hat'.later k0
  have keep : ∀ w', Below W1.heap.size W1 w' → w'.cell? ⟨w.heap.size, 0, none⟩ = some (.slice p m c) ∧ w'.cell? ⟨w.heap.size, 1, none⟩ = some (.slice p' m' c') ∧ w'.cell? ⟨w.heap.size + 1, 0, none⟩ = some (.slice none 0 0) ∧ w'.cell? ⟨w.heap.size + 1, 1, none⟩ = some (.slice none 0 0) ∧ w'.frozen? ⟨w.heap.size + 1, 0, none⟩ = false ∧ w'.frozen? ⟨w.heap.size + 1, 1, none⟩ = false := fun w' hb => by
    have r1 := row_later rb hb
    have r2 := row_later rr hb
    exact ⟨r1.cell (i := 0) (by omega), r1.cell (i := 1) (by omega), r2.cell (i := 0) (by omega), r2.cell (i := 1) (by omega), r2.frozen 0, r2.frozen 1⟩
  clear hat hat'
  obtain ⟨p0, p1, e0, e1, z0, z1⟩ := keep _ (Below.refl _ _)
  have rl := rr.lt
  have bU : Below W1.heap.size W1 (W1.alloc (.cells #[] 68)) := (Below.refl _ _).alloc (Nat.le_refl _) _
  have bF : Below W1.heap.size W1 (W1.alloc (.cells #[] 106)) := (Below.refl _ _).alloc (Nat.le_refl _) _
  have bUF : Below W1.heap.size W1 ((W1.alloc (.cells #[] 68)).alloc (.cells #[] 106)) := bU.alloc bU.size _
  have bFU : Below W1.heap.size W1 ((W1.alloc (.cells #[] 106)).alloc (.cells #[] 68)) := bF.alloc bF.size _
  have hU2 : ((W1.alloc (.cells #[] 68)).alloc (.cells #[] 106)).heap[W1.heap.size]? = some (.cells #[] 68) := (((Below.refl _ _).alloc (Nat.le_refl _) (.cells #[] 106)).block W1.heap.size (by rw [size_new]; omega)).trans (heap_at W1 (.cells #[] 68))
  have hF2 : ((W1.alloc (.cells #[] 68)).alloc (.cells #[] 106)).heap[W1.heap.size + 1]? = some (.cells #[] 106) := by have h := heap_at (W1.alloc (.cells #[] 68)) (.cells #[] 106); rw [size_new] at h; exact h
  have hF3 : ((W1.alloc (.cells #[] 106)).alloc (.cells #[] 68)).heap[W1.heap.size]? = some (.cells #[] 106) := (((Below.refl _ _).alloc (Nat.le_refl _) (.cells #[] 68)).block W1.heap.size (by rw [size_new]; omega)).trans (heap_at W1 (.cells #[] 106))
  have hU3 : ((W1.alloc (.cells #[] 106)).alloc (.cells #[] 68)).heap[W1.heap.size + 1]? = some (.cells #[] 68) := by have h := heap_at (W1.alloc (.cells #[] 106)) (.cells #[] 68); rw [size_new] at h; exact h
  have sU : W1.heap.size + 1 < ((W1.alloc (.cells #[] 68)).alloc (.cells #[] 106)).heap.size := by simp only [size_new]; omega
  have sF : W1.heap.size < ((W1.alloc (.cells #[] 106)).alloc (.cells #[] 68)).heap.size := by simp only [size_new]; omega
  clear S0 rb
  go_enter Tryz.func98, Tryz.ntmps98
  go_upto_region 1 with fail
  rw [← HW1.out]
  go_region_held3 (fun w' => w'.cell? ⟨w.heap.size, 0, none⟩ = some (.slice p m c) ∧ w'.cell? ⟨w.heap.size, 1, none⟩ = some (.slice p' m' c')) (go_keep) (first
    | (refine step_copyUI rfl (.tmp 3) (.tmp 5) rfl W1.heap.size W1.heap.size us p m c hl (Hat.out.later bU.drew) (by simp [Act.eval]; done) (heap_at W1 _) (Nat.le_refl _) (by simp [Act.eval]; done) (by omega) ?_; intro v2 w2 hS2 hg2 nn2; have HB2 := grown_bel bU.drew (Nat.le_refl _) hg2 (by omega); obtain ⟨p0, p1, e0, e1, z0, z1⟩ := keep _ HB2; obtain ⟨a2, cc2, hv2, _⟩ := hS2.form; rw [hl] at hv2; subst hv2)
    | (refine step_copyUI rfl (.tmp 3) (.tmp 5) rfl W1.heap.size W1.heap.size us p m c hl (Hat.out.later bUF.drew) (by simp [Act.eval]; done) hU2 (Nat.le_refl _) (by simp [Act.eval]; done) (by omega) ?_; intro v2 w2 hS2 hg2 nn2; have HB2 := grown_bel bUF.drew (Nat.le_refl _) hg2 (by omega); obtain ⟨p0, p1, e0, e1, z0, z1⟩ := keep _ HB2; obtain ⟨a2, cc2, hv2, _⟩ := hS2.form; rw [hl] at hv2; subst hv2; have hFb := (hg2.block (W1.heap.size + 1) sU (by simp)).trans hF2)
    | (refine step_copyUI rfl (.tmp 3) (.tmp 5) rfl W1.heap.size (W1.heap.size + 1) us p m c hl (Hat.out.later bFU.drew) (by simp [Act.eval]; done) hU3 (by omega) (by simp [Act.eval]; done) (by omega) ?_; intro v2 w2 hS2 hg2 nn2; have HB2 := grown_bel bFU.drew (Nat.le_refl _) hg2 (by omega); obtain ⟨p0, p1, e0, e1, z0, z1⟩ := keep _ HB2; obtain ⟨a2, cc2, hv2, _⟩ := hS2.form; rw [hl] at hv2; subst hv2; have hFb := (hg2.block W1.heap.size sF (by simp)).trans hF3)
    | (refine step_copyFI rfl (.tmp 7) (.tmp 9) rfl W1.heap.size w2.heap.size fs p' m' c' hl' (Hat'.out.later (HB2.alloc HB2.size _)) (by simp [Act.eval]; done) (heap_at w2 _) HB2.size (by simp [Act.eval]; done) (by omega) ?_; intro v3 w3 hS3 hg3 nn3; have hU3' : SlU w3 W1.heap.size _ us := (by first | exact (hS2.below ((Below.refl _ _).alloc (Nat.le_refl _) (.cells #[] 106))).grownF (heap_at w2 _) hg3 | exact hS2.grownF hFb hg3); have HB3 := grown_bel (HB2.alloc HB2.size (.cells #[] 106)) (Nat.le_refl _) hg3 HB2.size; obtain ⟨p0, p1, e0, e1, z0, z1⟩ := keep _ HB3; obtain ⟨a3, cc3, hv3, _⟩ := hS3.form; rw [hl'] at hv3; subst hv3)
    | (refine step_copyFI rfl (.tmp 7) (.tmp 9) rfl W1.heap.size (W1.heap.size + 1) fs p' m' c' hl' (Hat'.out.later HB2) (by simp [Act.eval]; done) hFb (by omega) (by simp [Act.eval]; done) (by omega) ?_; intro v3 w3 hS3 hg3 nn3; have hU3' : SlU w3 W1.heap.size _ us := (by first | exact (hS2.below ((Below.refl _ _).alloc (Nat.le_refl _) (.cells #[] 106))).grownF (heap_at w2 _) hg3 | exact hS2.grownF hFb hg3); have HB3 := grown_bel HB2 (Nat.le_refl _) hg3 (by omega); obtain ⟨p0, p1, e0, e1, z0, z1⟩ := keep _ HB3; obtain ⟨a3, cc3, hv3, _⟩ := hS3.form; rw [hl'] at hv3; subst hv3)
    | (refine step_copyFI rfl (.tmp 7) (.tmp 9) rfl W1.heap.size W1.heap.size fs p' m' c' hl' (Hat'.out.later HB2) (by simp [Act.eval]; done) hFb (Nat.le_refl _) (by simp [Act.eval]; done) (by omega) ?_; intro v3 w3 hS3 hg3 nn3; have hU3' : SlU w3 W1.heap.size _ us := (by first | exact (hS2.below ((Below.refl _ _).alloc (Nat.le_refl _) (.cells #[] 106))).grownF (heap_at w2 _) hg3 | exact hS2.grownF hFb hg3); have HB3 := grown_bel HB2 (Nat.le_refl _) hg3 (by omega); obtain ⟨p0, p1, e0, e1, z0, z1⟩ := keep _ HB3; obtain ⟨a3, cc3, hv3, _⟩ := hS3.form; rw [hl'] at hv3; subst hv3))
  all_goals
    have rr3 := row_later rr HB3
    have t := (rr3.set 0 (.slice a2 m cc2)).set 1 (.slice a3 m' cc3)
    have c0 := t.cell (i := 0) (by omega)
    have c1 := t.cell (i := 1) (by omega)
    have B4 := bel_set (bel_set (k0.trans (HB3.mono k0.size)) (w.heap.size + 1) 0 (by omega) (.slice a2 m cc2)) (w.heap.size + 1) 1 (by omega) (.slice a3 m' cc3)
    have S4 := (SlF.set (SlF.set hS3 (b := w.heap.size + 1) (o := 0) rl (.slice a2 m cc2)) (b := w.heap.size + 1) (o := 1) rl (.slice a3 m' cc3)).mono k0.size
    have U4 := (SlU.set (SlU.set hU3' (b := w.heap.size + 1) (o := 0) rl (.slice a2 m cc2)) (b := w.heap.size + 1) (o := 1) rl (.slice a3 m' cc3)).mono k0.size
    go_wp2_with fail
    refine bodyPost_ret (v := .agg #[.slice a2 m cc2, .slice a3 m' cc3]) ?_ rfl ⟨_, _, rfl, U4, S4, nn2, nn3, B4⟩
    simp [results, Tryz.results98, go_sem, c0, c1]
    done
end Go.Proofs.YtlfnnobkgbfdgaaGreat
end
