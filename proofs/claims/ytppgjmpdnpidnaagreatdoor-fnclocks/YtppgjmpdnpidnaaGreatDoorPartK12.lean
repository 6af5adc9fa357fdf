/- Texts of mine put together (a claim holds at most 60 files): OneWalks, PutSpec2, ExactB1, ExactB2, PutSpec3, OneWalks2, IntLists, Marks. -/
import Derived.Test.YtppgjmpdnpidnaaGreatDoorPartK09
import Derived.Deep.RegionHeld3
import Derived.Outline
import Derived.Test.YtppgjmpdnpidnaaGreatDoorPartK11
import Derived.Test.YtppgjmpdnpidnaaGreatDoorPartK00
import Derived.Test.YtppgjmpdnpidnaaGreatDoorPartK05
import Derived.Deep.RegionWith
import Derived.Test.YtppgjmpdnpidnaaGreatDoorPartK10
import Derived.Deep.QuietTactic
import Derived.BigQuiet

/- OneWalks -/
/- Contracts of UnitOf and of its model, and of the program's map of rows by Id. Condition: the board's two lists lie in memory as they were laid there. -/
section
namespace Go.Proofs.YtppgjmpdnpidnaaGreatDoor
open Go.ChangeShapes Go.WideShapes Go.ChangeAt Go.RowKit
open Bd
set_option linter.unusedVariables false

theorem rowOf_c (x : K10) (w : World) :
    Calls Tryz.prog 105 #[.agg x.v] w fun e w' => e = .returned (.agg x.v) ∧ w' = (w.alloc (.cells x.v 75)).alloc (.cells x.v 133) := by
  go_enter Tryz.func105, Tryz.ntmps105
  go_wp2
  refine bodyPost_ret (v := .agg x.v) ?_ rfl ⟨rfl, rfl⟩
  simp [results, Tryz.results105, go_sem]
  done
theorem unitIn_c (x : K10) (w : World) :
    Calls Tryz.prog 109 #[.agg x.v] w fun e w' => e = .returned (.agg x.v) ∧ w' = (w.alloc (.cells x.v 133)).alloc (.cells x.v 75) := by
  go_enter Tryz.func109, Tryz.ntmps109
  go_wp2
  refine bodyPost_ret (v := .agg x.v) ?_ rfl ⟨rfl, rfl⟩
  simp [results, Tryz.results109, go_sem]
  done
theorem cell_of_block {w w' : World} {g : Nat} (e : w'.heap[g]? = w.heap[g]?) (o : Nat) : w'.cell? ⟨g, o, none⟩ = w.cell? ⟨g, o, none⟩ := by
  unfold World.cell?
  rw [e]
theorem U1.of_block {w w' : World} {g off : Nat} {x : K10} (h : U1 w g off x) (e : w'.heap[g]? = w.heap[g]?) (hl : g < w'.heap.size) : U1 w' g off x :=
  ⟨(cell_of_block e _).trans h.c0, (cell_of_block e _).trans h.c1, (cell_of_block e _).trans h.c2, (cell_of_block e _).trans h.c3, (cell_of_block e _).trans h.c4, (cell_of_block e _).trans h.c5, (cell_of_block e _).trans h.c6, (cell_of_block e _).trans h.c7, (cell_of_block e _).trans h.c8, (cell_of_block e _).trans h.c9, hl⟩
set_option maxRecDepth 20000 in
set_option maxHeartbeats 4000000 in
theorem rowsById_c (a : Option Addr) (m c : Nat) (us : List K10) (hl : us.length = m) (hm : m ≤ 8) (hu : ∀ u ∈ us, uf u = 0) (hr : Rise us) (w : World) (hU : ArgU w a us) :
    Calls Tryz.prog 92 #[.slice a m c] w fun e w' => e = .returned (.map (some w.heap.size)) ∧ MapAt w' w.heap.size us ∧ Below w.heap.size w w' := by
  have Hl : Hid (us.length = m) := hl
  have HU : Hid (ArgU w a us) := hU
  have Hu : Hid (∀ u ∈ us, uf u = 0) := hu
  have Hr : Hid (Rise us) := hr
  clear hl hU hu hr
  obtain ⟨B, HB⟩ : ∃ B : Nat, Hid (B = w.heap.size) := ⟨_, rfl⟩
  have hmm := @run_makeMap Tryz.prog
  go_enter Tryz.func92, Tryz.ntmps92
  go_wp2
  rw [← HB.out]
  go_loopw [9] (fun i wr => ∃ k : Nat, k ≤ m ∧ i = .int .i64 k ∧ MapAt wr B (us.take k) ∧ Below w.heap.size w wr) (fun i _ => m - (intOf i).toNat)
  case atStart => exact ⟨0, Nat.zero_le _, rfl, by rw [HB.out]; exact MapAt.new w, (Below.refl _ _).alloc (Nat.le_refl _) _⟩
  case round =>
    obtain ⟨k, hk, rfl, hM, hbel⟩ := hrel
    by_cases hlt : k < m
    · have hlt' : (k : Int) < (m : Int) := by omega
      obtain ⟨x, hx⟩ : ∃ x, us[k]? = some x := ⟨_, List.getElem?_eq_getElem (by have := Hl.out; omega)⟩
      obtain ⟨b, off, rfl, hb, hat⟩ := HU.out.at hx
      obtain ⟨x0, x1, x2, x3, x4, x5, x6, x7, x8, x9, xl⟩ := (hat.later hb hbel).one (Nat.lt_of_lt_of_le hb hbel.size) hx
      obtain ⟨i0, i1⟩ := uf_id (Hu.out x (List.mem_of_getElem? hx))
      obtain ⟨W1, HW1⟩ : ∃ W1, Hid (W1 = wr.alloc (.cells x.v 75)) := ⟨_, rfl⟩
      obtain ⟨W, HW⟩ : ∃ W, Hid (W = ((W1.alloc (.cells x.v 75)).alloc (.cells x.v 133)).drew) := ⟨_, rfl⟩
      have b0 : Below wr.heap.size wr W1 := by rw [HW1.out]; exact (Below.refl _ _).alloc (Nat.le_refl _) _
      have b1 : Below W1.heap.size W1 W := by rw [HW.out]; exact (((Below.refl _ _).alloc (Nat.le_refl _) _).alloc (by rw [size_new]; exact Nat.le_succ _) _).drew
      have S1 : U1 W1 wr.heap.size 0 x := by rw [HW1.out]; exact U1.new wr x 75
      obtain ⟨w2, hrun, hM2, hg2⟩ := ((hM.later b0).later b1).update (Hr.out.take (i := k)) (by rw [List.length_take]; omega) x (wf_int (by omega) (by omega))
      rw [take_put Hr.out hx] at hM2
      have B2 : Below w.heap.size w w2 := by
        have h1 := hbel.trans (b0.mono hbel.size)
        replace h1 := h1.trans (b1.mono h1.size)
        refine h1.trans ?_
        obtain ⟨g1, g2, g3, g4, g5⟩ := hg2
        exact ⟨g1, g2, g3, g4, fun j hj => g5 j (Nat.lt_of_lt_of_le hj h1.size) (by rw [HB.out]; intro e; have := Option.some.inj e; omega)⟩
      have S2 : U1 w2 wr.heap.size 0 x := (S1.later b1).of_block (hg2.block _ (S1.later b1).lt (by intro e; have := Option.some.inj e; have := hM.lt; omega)) (by have := (S1.later b1).lt; have := hg2.size; omega)
      rw [HW.out] at hrun
      have cR := fun w => rowOf_c x w
      obtain ⟨G, HG⟩ : ∃ G, Hid (G = wr.heap.size) := ⟨_, rfl⟩
      rw [← HG.out] at S1 S2
      obtain ⟨r0, r1, r2, r3, r4, r5, r6, r7, r8, r9, rl⟩ := S2
      obtain ⟨s0, s1, s2, s3, s4, s5, s6, s7, s8, s9, sl⟩ := S1
      clear hx hat hM b1 hg2 b0
      go_upto_region 5 with fail
      rw [← HW1.out, ← HG.out]
      clear x0 x1 x2 x3 x4 x5 x6 x7 x8 x9 xl
      go_region_held3 (fun w' => w'.cell? ⟨G, 0, none⟩ = some (.int .i64 x.c0) ∧ w'.cell? ⟨G, 1, none⟩ = some (.int .i64 x.c1) ∧ w'.cell? ⟨G, 2, none⟩ = some (.int .i64 x.c2) ∧ w'.cell? ⟨G, 3, none⟩ = some (.int .i64 x.c3) ∧ w'.cell? ⟨G, 4, none⟩ = some (.int .i64 x.c4) ∧ w'.cell? ⟨G, 5, none⟩ = some (.int .i64 x.c5) ∧ w'.cell? ⟨G, 6, none⟩ = some (.int .i64 x.c6) ∧ w'.cell? ⟨G, 7, none⟩ = some (.int .i64 x.c7) ∧ w'.cell? ⟨G, 8, none⟩ = some (.int .i64 x.c8) ∧ w'.cell? ⟨G, 9, none⟩ = some (.int .i64 x.c9)) (go_keep) (first | (go_at_call 105; refine (cR _).mono ?_; rintro e w1 ⟨rfl, rfl⟩))
      all_goals
        go_wp2_with fail
        go_roundw
        case rel => exact ⟨k + 1, by omega, by go_num, hM2, B2⟩
        case measure => simp [intOf]; omega
    · obtain rfl : k = m := by omega
      have hM' : MapAt wr B us := by rw [List.take_of_length_le (by have := Hl.out; omega)] at hM; exact hM
      go_wp2
      go_ret
      exact ⟨by rw [← HB.out]; rfl, by rw [← HB.out]; exact hM', hbel⟩
/- where a unit with an Id lies -/
def atU (l : List K10) (i : Int) : Option Nat := l.findIdx? (fun x => x.c0 == i)
def atI (l : List K10) (i : Int) : Int := match atU l i with | some k => (k : Int) | none => -1
theorem atU_find (l : List K10) (i : Int) : (atU l i = none ∧ findU l i = none) ∨ ∃ k x, atU l i = some k ∧ l[k]? = some x ∧ findU l i = some x := by
  unfold atU findU
  induction l with
  | nil => exact .inl ⟨rfl, rfl⟩
  | cons a l ih =>
    rw [List.findIdx?_cons]
    cases h : a.c0 == i
    · rw [List.find?_cons_of_neg (by rw [h]; simp)]
      rcases ih with ⟨h1, h2⟩ | ⟨k, x, h1, h2, h3⟩
      · exact .inl ⟨by rw [h1]; rfl, h2⟩
      · exact .inr ⟨k + 1, x, by rw [h1]; rfl, h2, h3⟩
    · rw [List.find?_cons_of_pos (p := fun x : K10 => x.c0 == i) h]
      exact .inr ⟨0, a, by simp, rfl, rfl⟩
theorem atI_step {l : List K10} {i : Int} {k : Nat} (hp : ∀ j y, j < k → l[j]? = some y → (y.c0 == i) = false) {x : K10} (hx : l[k]? = some x) (h : (x.c0 == i) = true) : atI l i = (k : Int) := by
  have e : atU l i = some k := by
    unfold atU
    rw [List.findIdx?_eq_some_iff_getElem]
    obtain ⟨h1, h2⟩ := List.getElem?_eq_some_iff.1 hx
    refine ⟨h1, by rw [h2]; exact h, fun j hj => ?_⟩
    have := hp j _ hj (List.getElem?_eq_getElem (by omega))
    rw [this]; simp
  unfold atI; rw [e]
theorem atI_none {l : List K10} {i : Int} (hp : ∀ j y, j < l.length → l[j]? = some y → (y.c0 == i) = false) : atI l i = -1 := by
  have e : atU l i = none := by
    unfold atU
    rw [List.findIdx?_eq_none_iff]
    intro y hy
    obtain ⟨j, hj, rfl⟩ := List.getElem_of_mem hy
    exact hp j _ hj (List.getElem?_eq_getElem hj)
  unfold atI; rw [e]
set_option maxHeartbeats 4000000 in
theorem l4At_c (a : Option Addr) (m c : Nat) (us : List K10) (i : Int) (hl : us.length = m) (hm : m ≤ 8) (w : World) (hU : ArgU w a us) :
    Calls Tryz.prog 83 #[.slice a m c, .int .i64 i] w fun e w' => e = .returned (.int .i64 (atI us i)) ∧ w' = w := by
  have Hl : Hid (us.length = m) := hl
  have HU : Hid (ArgU w a us) := hU
  obtain ⟨R, HR⟩ : ∃ R : Int, Hid (R = atI us i) := ⟨_, rfl⟩
  rw [← HR.out]
  clear hl hU
  go_enter Tryz.func83, Tryz.ntmps83
  go_wp2
  go_loopw [5] (fun j wr => ∃ k : Nat, k ≤ m ∧ j = .int .i64 k ∧ Hid (∀ j y, j < k → us[j]? = some y → (y.c0 == i) = false) ∧ wr = w) (fun j _ => m - (intOf j).toNat)
  case atStart => exact ⟨0, Nat.zero_le _, rfl, (fun j y hj _ => absurd hj (Nat.not_lt_zero _) : ∀ j y, j < 0 → us[j]? = some y → (y.c0 == i) = false), rfl⟩
  case round =>
    obtain ⟨k, hk, rfl, Hk, rfl⟩ := hrel
    by_cases hlt : k < m
    · have hlt' : (k : Int) < (m : Int) := by omega
      obtain ⟨x, hx⟩ : ∃ x, us[k]? = some x := ⟨_, List.getElem?_eq_getElem (by have := Hl.out; omega)⟩
      obtain ⟨b, off, rfl, hb, hat⟩ := HU.out.at hx
      have x0 := (hat.all hx).1
      have Hx : Hid (us[k]? = some x) := hx
      clear hx hat
      cases hq : x.c0 == i
      · have HN : Hid (∀ j y, j < k + 1 → us[j]? = some y → (y.c0 == i) = false) := fun j y hj hy => by
          by_cases hjk : j < k
          · exact Hk.out j y hjk hy
          · have ejk : j = k := by omega
            subst ejk
            have := Hx.out.symm.trans hy
            rw [← Option.some.inj this]; exact hq
        go_wp2
        go_roundw
        case rel => exact ⟨k + 1, by omega, by go_num, HN, trivial⟩
        case measure => simp [intOf]; omega
      · have HE : Hid (R = (k : Int)) := by show _ = _; rw [HR.out, atI_step Hk.out Hx.out hq]
        go_wp2
        go_ret
        exact ⟨by rw [HE.out]; rfl, rfl⟩
    · obtain rfl : k = m := by omega
      have HE : Hid (R = -1) := by show _ = _; rw [HR.out, atI_none (by rw [Hl.out]; exact Hk.out)]
      go_wp2
      go_ret
      exact ⟨by rw [HE.out]; rfl, rfl⟩
end Go.Proofs.YtppgjmpdnpidnaaGreatDoor
end

/- PutSpec2 -/
/- Contracts of the model of PutUnit. Condition: the board's lists lie in memory as they were laid there. -/
section
namespace Go.Proofs.YtppgjmpdnpidnaaGreatDoor
open Go.ChangeShapes Go.WideShapes Go.ChangeAt Go.RowKit
open Bd
set_option linter.unusedVariables false

theorem step_copyU {ops : Array Oper} {o : Oper} {a : Act} {W : World} {K : Act → World → Prop} {Q : Exit → Act → World → Prop} {E : Prop} (hgd : o.guard = none) (s x : Operand)
    (ho : o.op = .call { callee := .builtin .append, args := #[s, x], argTypes := #[24, 24] }) (base b : Nat) (l : List K10) (g off n c : Nat) (hn : l.length = n) (hat : UAt W g off l)
    (hs : a.eval s = .slice (some ⟨b, 0, none⟩) 0 0) (hb : W.heap[b]? = some (.cells #[] 75)) (hbase : base ≤ b) (hx : a.eval x = .slice (some ⟨g, off, none⟩) n c) (hlen : n ≤ 100)
    (h : ∀ v' w', SlU w' base v' l → W.grownBy w' (some b) → v' ≠ .slice none 0 0 → K (a.put o.dst v') w') :
    if Region.wanted o (yielded ops a.tmps) = true then Oper.wp Tryz.prog o a W K Q else E := by
  have hw : Region.wanted o (yielded ops a.tmps) = true := by simp [Region.wanted, hgd]
  rw [if_pos hw]
  obtain ⟨i0, hi, hz0, hz1, hz2⟩ := info_parts infoU
  have hbl : b < W.heap.size := (Array.getElem?_eq_some_iff.1 hb).1
  have hown : W.ownsRow base 75 10 (.slice (some ⟨b, 0, none⟩) 0 0) 0 [] := ⟨rfl, .inr ⟨b, 0, #[], rfl, hbase, hb, Nat.le_refl _, by unfold maxLen; omega, rfl, rfl⟩⟩
  refine wp_append_own _ s x 24 ho base 75 i0 (.agg K10.z.v) 10 80 Tryz.underlying24 hi hz0 hz1 hz2 rfl (by decide) _ 0 _ hs hown ⟨g, off, none⟩ n c (flatU l) hx (by rw [flatU_len, hn]) ?_ (flatU_one l) (by unfold maxLen; omega) (by omega) (by omega) ?_
  · intro j y hj
    rw [add_plain']
    have hjl : j < l.length * 10 := by rw [← flatU_len]; exact (List.getElem?_eq_some_iff.1 hj).1
    obtain ⟨z, hz⟩ : ∃ z, l[j / 10]? = some z := ⟨_, List.getElem?_eq_getElem (by omega)⟩
    have e := flatU_get l (j / 10) z (j % 10) hz (by omega)
    have hj2 : j / 10 * 10 + j % 10 = j := by omega
    rw [hj2, hj] at e
    have := hat (j / 10) z hz (j % 10) (by omega)
    rw [show off + j / 10 * 10 + j % 10 = off + j from by omega] at this
    rw [this, e]
  · intro v' w' h1 h2 h3
    refine h v' w' ?_ h2 (fun e => by have := (h3.1 e).1; simp at this)
    unfold SlU
    rw [hn]
    simpa using h1
theorem step_copyF {ops : Array Oper} {o : Oper} {a : Act} {W : World} {K : Act → World → Prop} {Q : Exit → Act → World → Prop} {E : Prop} (hgd : o.guard = none) (s x : Operand)
    (ho : o.op = .call { callee := .builtin .append, args := #[s, x], argTypes := #[25, 25] }) (base b : Nat) (l : List K3) (g off n c : Nat) (hn : l.length = n) (hat : FAt W g off l)
    (hs : a.eval s = .slice (some ⟨b, 0, none⟩) 0 0) (hb : W.heap[b]? = some (.cells #[] 78)) (hbase : base ≤ b) (hx : a.eval x = .slice (some ⟨g, off, none⟩) n c) (hlen : n ≤ 100)
    (h : ∀ v' w', SlF w' base v' l → W.grownBy w' (some b) → v' ≠ .slice none 0 0 → K (a.put o.dst v') w') :
    if Region.wanted o (yielded ops a.tmps) = true then Oper.wp Tryz.prog o a W K Q else E := by
  have hw : Region.wanted o (yielded ops a.tmps) = true := by simp [Region.wanted, hgd]
  rw [if_pos hw]
  obtain ⟨i0, hi, hz0, hz1, hz2⟩ := info_parts infoF
  have hbl : b < W.heap.size := (Array.getElem?_eq_some_iff.1 hb).1
  have hown : W.ownsRow base 78 3 (.slice (some ⟨b, 0, none⟩) 0 0) 0 [] := ⟨rfl, .inr ⟨b, 0, #[], rfl, hbase, hb, Nat.le_refl _, by unfold maxLen; omega, rfl, rfl⟩⟩
  refine wp_append_own _ s x 25 ho base 78 i0 (.agg K3.z.v) 3 24 Tryz.underlying25 hi hz0 hz1 hz2 rfl (by decide) _ 0 _ hs hown ⟨g, off, none⟩ n c (flatF l) hx (by rw [flatF_len, hn]) ?_ (flatF_one l) (by unfold maxLen; omega) (by omega) (by omega) ?_
  · intro j y hj
    rw [add_plain']
    have hjl : j < l.length * 3 := by rw [← flatF_len]; exact (List.getElem?_eq_some_iff.1 hj).1
    obtain ⟨z, hz⟩ : ∃ z, l[j / 3]? = some z := ⟨_, List.getElem?_eq_getElem (by omega)⟩
    have e := flatF_get l (j / 3) z (j % 3) hz (by omega)
    have hj2 : j / 3 * 3 + j % 3 = j := by omega
    rw [hj2, hj] at e
    have := hat (j / 3) z hz (j % 3) (by omega)
    rw [show off + j / 3 * 3 + j % 3 = off + j from by omega] at this
    rw [this, e]
  · intro v' w' h1 h2 h3
    refine h v' w' ?_ h2 (fun e => by have := (h3.1 e).1; simp at this)
    unfold SlF
    rw [hn]
    simpa using h1
theorem SlF.set {w : World} {base : Nat} {v : Value} {l : List K3} (h : SlF w base v l) {b o : Nat} (hb : b < base) (x : Value) : SlF (w.setCell ⟨b, o, none⟩ x) base v l := h.of_block (fun q hq => Below.heap_setCell _ ⟨b, o, none⟩ x q (by have := (h.lt q hq).1; show q ≠ b; omega))
theorem SlU.set {w : World} {base : Nat} {v : Value} {l : List K10} (h : SlU w base v l) {b o : Nat} (hb : b < base) (x : Value) : SlU (w.setCell ⟨b, o, none⟩ x) base v l := h.of_block (fun q hq => Below.heap_setCell _ ⟨b, o, none⟩ x q (by have := (h.lt q hq).1; show q ≠ b; omega))
theorem heap_at (w : World) (o : Obj) : (w.alloc o).heap[w.heap.size]? = some o := by
  show (w.heap.push _)[w.heap.size]? = _
  simp
theorem grown_bel {W w w' : World} {n b : Nat} (hb : Below n W w) (hn : n ≤ W.heap.size) (k : w.grownBy w' (some b)) (h : n ≤ b) : Below n W w' := hb.grown k (Nat.le_trans hn hb.size) (fun j hj => by cases hj; exact h)
theorem SlU.grownF {W w' : World} {base bF : Nat} {v : Value} {l : List K10} {c : Array Value} (h : SlU W base v l) (hb : W.heap[bF]? = some (.cells c 78)) (k : W.grownBy w' (some bF)) : SlU w' base v l := by
  refine h.of_block (fun q hq => k.block q (h.lt q hq).2 (fun e => ?_))
  have e' : q = bF := Option.some.inj e
  subst e'
  rcases h.2 with ⟨rfl, _⟩ | ⟨g, cap, cur, rfl, _, hg, _⟩
  · cases hq
  · have : g = q := Option.some.inj hq
    subst this
    rw [hg] at hb
    simp at hb
/- a copy of a board, in memory of its own -/
theorem step_copyUI {ops : Array Oper} {o : Oper} {a : Act} {W : World} {K : Act → World → Prop} {Q : Exit → Act → World → Prop} {E : Prop} (hgd : o.guard = none) (s x : Operand)
    (ho : o.op = .call { callee := .builtin .append, args := #[s, x], argTypes := #[24, 24] }) (base b : Nat) (l : List K10) (p : Option Addr) (n c : Nat) (hn : l.length = n) (hat : InU W p n c l)
    (hs : a.eval s = .slice (some ⟨b, 0, none⟩) 0 0) (hb : W.heap[b]? = some (.cells #[] 75)) (hbase : base ≤ b) (hx : a.eval x = .slice p n c) (hlen : n ≤ 100)
    (h : ∀ v' w', SlU w' base v' l → W.grownBy w' (some b) → v' ≠ .slice none 0 0 → K (a.put o.dst v') w') :
    if Region.wanted o (yielded ops a.tmps) = true then Oper.wp Tryz.prog o a W K Q else E := by
  rcases hat with ⟨rfl, rfl, rfl, rfl⟩ | ⟨g, off, rfl, hg, hat⟩
  · have hw : Region.wanted o (yielded ops a.tmps) = true := by simp [Region.wanted, hgd]
    rw [if_pos hw]
    obtain ⟨i0, hi, hz0, hz1, hz2⟩ := info_parts infoU
    have hown : W.ownsRow base 75 10 (.slice (some ⟨b, 0, none⟩) 0 0) 0 [] := ⟨rfl, .inr ⟨b, 0, #[], rfl, hbase, hb, Nat.le_refl _, by unfold maxLen; omega, rfl, rfl⟩⟩
    have hrun := run_append_owned_none (P := Tryz.prog) (w := W) base 24 o.type 75 i0 10 Tryz.underlying24 hi _ 0 [] hown
    unfold Oper.wp
    simp [execOp, ho, resolve, invoke, builtin, hs, hx, hrun, Result.andThen]
    exact h _ _ hown (grown_refl _ _) (by simp)
  · exact step_copyU hgd s x ho base b l g off n c hn hat hs hb hbase hx hlen h
theorem step_copyFI {ops : Array Oper} {o : Oper} {a : Act} {W : World} {K : Act → World → Prop} {Q : Exit → Act → World → Prop} {E : Prop} (hgd : o.guard = none) (s x : Operand)
    (ho : o.op = .call { callee := .builtin .append, args := #[s, x], argTypes := #[25, 25] }) (base b : Nat) (l : List K3) (p : Option Addr) (n c : Nat) (hn : l.length = n) (hat : InF W p n c l)
    (hs : a.eval s = .slice (some ⟨b, 0, none⟩) 0 0) (hb : W.heap[b]? = some (.cells #[] 78)) (hbase : base ≤ b) (hx : a.eval x = .slice p n c) (hlen : n ≤ 100)
    (h : ∀ v' w', SlF w' base v' l → W.grownBy w' (some b) → v' ≠ .slice none 0 0 → K (a.put o.dst v') w') :
    if Region.wanted o (yielded ops a.tmps) = true then Oper.wp Tryz.prog o a W K Q else E := by
  rcases hat with ⟨rfl, rfl, rfl, rfl⟩ | ⟨g, off, rfl, hg, hat⟩
  · have hw : Region.wanted o (yielded ops a.tmps) = true := by simp [Region.wanted, hgd]
    rw [if_pos hw]
    obtain ⟨i0, hi, hz0, hz1, hz2⟩ := info_parts infoF
    have hown : W.ownsRow base 78 3 (.slice (some ⟨b, 0, none⟩) 0 0) 0 [] := ⟨rfl, .inr ⟨b, 0, #[], rfl, hbase, hb, Nat.le_refl _, by unfold maxLen; omega, rfl, rfl⟩⟩
    have hrun := run_append_owned_none (P := Tryz.prog) (w := W) base 25 o.type 78 i0 3 Tryz.underlying25 hi _ 0 [] hown
    unfold Oper.wp
    simp [execOp, ho, resolve, invoke, builtin, hs, hx, hrun, Result.andThen]
    exact h _ _ hown (grown_refl _ _) (by simp)
  · exact step_copyF hgd s x ho base b l g off n c hn hat hs hb hbase hx hlen h
set_option maxRecDepth 20000 in
set_option maxHeartbeats 4000000 in
theorem l4Copy2_i (p : Option Addr) (c m : Nat) (p' : Option Addr) (c' m' : Nat) (us : List K10) (fs : List K3) (hl : us.length = m) (hm : m ≤ 8) (hl' : fs.length = m') (hm' : m' ≤ 4) (w : World) (hat : InU w p m c us) (hat' : InF w p' m' c' fs) :
    Calls Tryz.prog 81 #[.agg (brdV p m c p' m' c')] w fun e w' => ∃ v f, e = .returned (.agg #[v, f]) ∧ SlU w' w.heap.size v us ∧ SlF w' w.heap.size f fs ∧ v ≠ .slice none 0 0 ∧ f ≠ .slice none 0 0 ∧ Below w.heap.size w w' := by
  obtain ⟨W1, HW1⟩ : ∃ W1, Hid (W1 = (w.alloc (.cells (brdV p m c p' m' c') 27)).alloc (.cells #[.slice none 0 0, .slice none 0 0] 27)) := ⟨_, rfl⟩
  obtain ⟨rb, rr, k0, S0⟩ := two_two w (.slice p m c) (.slice p' m' c') (.slice none 0 0) (.slice none 0 0) 27 27
  rw [← HW1.out] at rb rr k0 S0
  have Hat : Hid (InU W1 p m c us) := hat.later k0
  have Hat' : Hid (InF W1 p' m' c' fs) := hat'.later k0
  have keep : ∀ w', Below W1.heap.size W1 w' → w'.cell? ⟨w.heap.size, 0, none⟩ = some (.slice p m c) ∧ w'.cell? ⟨w.heap.size, 1, none⟩ = some (.slice p' m' c') ∧ w'.cell? ⟨w.heap.size + 1, 0, none⟩ = some (.slice none 0 0) ∧ w'.cell? ⟨w.heap.size + 1, 1, none⟩ = some (.slice none 0 0) ∧ w'.frozen? ⟨w.heap.size + 1, 0, none⟩ = false ∧ w'.frozen? ⟨w.heap.size + 1, 1, none⟩ = false := fun w' hb => by
    have r1 := row_later rb hb
    have r2 := row_later rr hb
    exact ⟨r1.cell (i := 0) (by omega), r1.cell (i := 1) (by omega), r2.cell (i := 0) (by omega), r2.cell (i := 1) (by omega), r2.frozen 0, r2.frozen 1⟩
  clear hat hat'
  obtain ⟨p0, p1, e0, e1, z0, z1⟩ := keep _ (Below.refl _ _)
  have rl := rr.lt
  have bU : Below W1.heap.size W1 (W1.alloc (.cells #[] 75)) := (Below.refl _ _).alloc (Nat.le_refl _) _
  have bF : Below W1.heap.size W1 (W1.alloc (.cells #[] 78)) := (Below.refl _ _).alloc (Nat.le_refl _) _
  have bUF : Below W1.heap.size W1 ((W1.alloc (.cells #[] 75)).alloc (.cells #[] 78)) := bU.alloc bU.size _
  have bFU : Below W1.heap.size W1 ((W1.alloc (.cells #[] 78)).alloc (.cells #[] 75)) := bF.alloc bF.size _
  have hU2 : ((W1.alloc (.cells #[] 75)).alloc (.cells #[] 78)).heap[W1.heap.size]? = some (.cells #[] 75) := (((Below.refl _ _).alloc (Nat.le_refl _) (.cells #[] 78)).block W1.heap.size (by rw [size_new]; omega)).trans (heap_at W1 (.cells #[] 75))
  have hF2 : ((W1.alloc (.cells #[] 75)).alloc (.cells #[] 78)).heap[W1.heap.size + 1]? = some (.cells #[] 78) := by have h := heap_at (W1.alloc (.cells #[] 75)) (.cells #[] 78); rw [size_new] at h; exact h
  have hF3 : ((W1.alloc (.cells #[] 78)).alloc (.cells #[] 75)).heap[W1.heap.size]? = some (.cells #[] 78) := (((Below.refl _ _).alloc (Nat.le_refl _) (.cells #[] 75)).block W1.heap.size (by rw [size_new]; omega)).trans (heap_at W1 (.cells #[] 78))
  have hU3 : ((W1.alloc (.cells #[] 78)).alloc (.cells #[] 75)).heap[W1.heap.size + 1]? = some (.cells #[] 75) := by have h := heap_at (W1.alloc (.cells #[] 78)) (.cells #[] 75); rw [size_new] at h; exact h
  have sU : W1.heap.size + 1 < ((W1.alloc (.cells #[] 75)).alloc (.cells #[] 78)).heap.size := by simp only [size_new]; omega
  have sF : W1.heap.size < ((W1.alloc (.cells #[] 78)).alloc (.cells #[] 75)).heap.size := by simp only [size_new]; omega
  clear S0 rb
  go_enter Tryz.func81, Tryz.ntmps81
  go_upto_region 1 with fail
  rw [← HW1.out]
  go_region_held3 (fun w' => w'.cell? ⟨w.heap.size, 0, none⟩ = some (.slice p m c) ∧ w'.cell? ⟨w.heap.size, 1, none⟩ = some (.slice p' m' c')) (go_keep) (first
    | (refine step_copyUI rfl (.tmp 3) (.tmp 5) rfl W1.heap.size W1.heap.size us p m c hl (Hat.out.later bU.drew) (by simp [Act.eval]; done) (heap_at W1 _) (Nat.le_refl _) (by simp [Act.eval]; done) (by omega) ?_; intro v2 w2 hS2 hg2 nn2; have HB2 := grown_bel bU.drew (Nat.le_refl _) hg2 (by omega); obtain ⟨p0, p1, e0, e1, z0, z1⟩ := keep _ HB2; obtain ⟨a2, cc2, hv2, _⟩ := hS2.form; rw [hl] at hv2; subst hv2)
    | (refine step_copyUI rfl (.tmp 3) (.tmp 5) rfl W1.heap.size W1.heap.size us p m c hl (Hat.out.later bUF.drew) (by simp [Act.eval]; done) hU2 (Nat.le_refl _) (by simp [Act.eval]; done) (by omega) ?_; intro v2 w2 hS2 hg2 nn2; have HB2 := grown_bel bUF.drew (Nat.le_refl _) hg2 (by omega); obtain ⟨p0, p1, e0, e1, z0, z1⟩ := keep _ HB2; obtain ⟨a2, cc2, hv2, _⟩ := hS2.form; rw [hl] at hv2; subst hv2; have hFb := (hg2.block (W1.heap.size + 1) sU (by simp)).trans hF2)
    | (refine step_copyUI rfl (.tmp 3) (.tmp 5) rfl W1.heap.size (W1.heap.size + 1) us p m c hl (Hat.out.later bFU.drew) (by simp [Act.eval]; done) hU3 (by omega) (by simp [Act.eval]; done) (by omega) ?_; intro v2 w2 hS2 hg2 nn2; have HB2 := grown_bel bFU.drew (Nat.le_refl _) hg2 (by omega); obtain ⟨p0, p1, e0, e1, z0, z1⟩ := keep _ HB2; obtain ⟨a2, cc2, hv2, _⟩ := hS2.form; rw [hl] at hv2; subst hv2; have hFb := (hg2.block W1.heap.size sF (by simp)).trans hF3)
    | (refine step_copyFI rfl (.tmp 7) (.tmp 9) rfl W1.heap.size w2.heap.size fs p' m' c' hl' (Hat'.out.later (HB2.alloc HB2.size _)) (by simp [Act.eval]; done) (heap_at w2 _) HB2.size (by simp [Act.eval]; done) (by omega) ?_; intro v3 w3 hS3 hg3 nn3; have hU3' : SlU w3 W1.heap.size _ us := (by first | exact (hS2.below ((Below.refl _ _).alloc (Nat.le_refl _) (.cells #[] 78))).grownF (heap_at w2 _) hg3 | exact hS2.grownF hFb hg3); have HB3 := grown_bel (HB2.alloc HB2.size (.cells #[] 78)) (Nat.le_refl _) hg3 HB2.size; obtain ⟨p0, p1, e0, e1, z0, z1⟩ := keep _ HB3; obtain ⟨a3, cc3, hv3, _⟩ := hS3.form; rw [hl'] at hv3; subst hv3)
    | (refine step_copyFI rfl (.tmp 7) (.tmp 9) rfl W1.heap.size (W1.heap.size + 1) fs p' m' c' hl' (Hat'.out.later HB2) (by simp [Act.eval]; done) hFb (by omega) (by simp [Act.eval]; done) (by omega) ?_; intro v3 w3 hS3 hg3 nn3; have hU3' : SlU w3 W1.heap.size _ us := (by first | exact (hS2.below ((Below.refl _ _).alloc (Nat.le_refl _) (.cells #[] 78))).grownF (heap_at w2 _) hg3 | exact hS2.grownF hFb hg3); have HB3 := grown_bel HB2 (Nat.le_refl _) hg3 (by omega); obtain ⟨p0, p1, e0, e1, z0, z1⟩ := keep _ HB3; obtain ⟨a3, cc3, hv3, _⟩ := hS3.form; rw [hl'] at hv3; subst hv3)
    | (refine step_copyFI rfl (.tmp 7) (.tmp 9) rfl W1.heap.size W1.heap.size fs p' m' c' hl' (Hat'.out.later HB2) (by simp [Act.eval]; done) hFb (Nat.le_refl _) (by simp [Act.eval]; done) (by omega) ?_; intro v3 w3 hS3 hg3 nn3; have hU3' : SlU w3 W1.heap.size _ us := (by first | exact (hS2.below ((Below.refl _ _).alloc (Nat.le_refl _) (.cells #[] 78))).grownF (heap_at w2 _) hg3 | exact hS2.grownF hFb hg3); have HB3 := grown_bel HB2 (Nat.le_refl _) hg3 (by omega); obtain ⟨p0, p1, e0, e1, z0, z1⟩ := keep _ HB3; obtain ⟨a3, cc3, hv3, _⟩ := hS3.form; rw [hl'] at hv3; subst hv3))
  all_goals
    have rr3 := row_later rr HB3
    have t := (rr3.set 0 (.slice a2 m cc2)).set 1 (.slice a3 m' cc3)
    have c0 := t.cell (i := 0) (by omega)
    have c1 := t.cell (i := 1) (by omega)
    have B4 := bel_set (bel_set (k0.trans (HB3.mono k0.size)) (w.heap.size + 1) 0 (by omega) (.slice a2 m cc2)) (w.heap.size + 1) 1 (by omega) (.slice a3 m' cc3)
    have S4 := (SlF.set (SlF.set hS3 (b := w.heap.size + 1) (o := 0) rl (.slice a2 m cc2)) (b := w.heap.size + 1) (o := 1) rl (.slice a3 m' cc3)).mono k0.size
    have U4 := (SlU.set (SlU.set hU3' (b := w.heap.size + 1) (o := 0) rl (.slice a2 m cc2)) (b := w.heap.size + 1) (o := 1) rl (.slice a3 m' cc3)).mono k0.size
    go_wp2_with fail
    refine bodyPost_ret (v := .agg #[.slice a2 m cc2, .slice a3 m' cc3]) ?_ rfl ⟨_, _, rfl, U4, S4, nn2, nn3, B4⟩
    simp [results, Tryz.results81, go_sem, c0, c1]
    done
end Go.Proofs.YtppgjmpdnpidnaaGreatDoor
end

/- ExactB1 -/
/- The walks of the exact laws of UnitFault and BoardFault. No condition. -/
section
namespace Go.Proofs.YtppgjmpdnpidnaaGreatDoor
open Go.ChangeShapes Go.WideShapes Go.ChangeAt Go.RowKit
open Bd
set_option linter.unusedVariables false

end Go.Proofs.YtppgjmpdnpidnaaGreatDoor
end

/- ExactB2 -/
/- The walks of the exact laws of LeftIn and CarriedBy. No condition. -/
section
namespace Go.Proofs.YtppgjmpdnpidnaaGreatDoor
open Go.ChangeShapes Go.WideShapes Go.ChangeAt Go.RowKit
open Bd
set_option linter.unusedVariables false

theorem rowAll (w : World) (cs : Array Value) (t : TypeId) : (w.alloc (.cells cs t)).rowIs w.heap.size t cs.size (fun i => cs[i]!) := by
  refine ⟨cs, ?_, rfl, fun i hi => ?_⟩
  · show (w.heap.push _)[w.heap.size]? = _
    simp
  · show cs[i]? = some cs[i]!
    rw [getElem!_pos cs i hi]; exact Array.getElem?_eq_getElem hi
end Go.Proofs.YtppgjmpdnpidnaaGreatDoor
end

/- PutSpec3 -/
/- The contract of the model of PutUnit. Condition: the board's lists lie in memory as they were laid there. -/
section
namespace Go.Proofs.YtppgjmpdnpidnaaGreatDoor
open Go.ChangeShapes Go.WideShapes Go.ChangeAt Go.RowKit
open Bd
set_option linter.unusedVariables false

def puC (us : List K10) (fs : List K3) (u : K10) : Int := if (bf us fs == 0) = true then (if (uf u == 0) = true then (if 8 < (putU u us).length then 7 else 0) else uf u) else bf us fs
def puB (us : List K10) (fs : List K3) (u : K10) : Bool := bf us fs == 0 && (uf u == 0 && decide ((putU u us).length ≤ 8))
def puU (us : List K10) (fs : List K3) (u : K10) : List K10 := if puB us fs u = true then putU u us else []
def puF (us : List K10) (fs : List K3) (u : K10) : List K3 := if puB us fs u = true then fs else []
theorem SlU.nil (w : World) (base : Nat) : SlU w base (.slice Option.none 0 0) [] := ⟨rfl, .inl ⟨rfl, rfl⟩⟩
theorem SlF.nil (w : World) (base : Nat) : SlF w base (.slice Option.none 0 0) [] := ⟨rfl, .inl ⟨rfl, rfl⟩⟩
abbrev res3 (C : Int) (s f : Value) : Array Value := #[.int .i64 C, s, f]
end Go.Proofs.YtppgjmpdnpidnaaGreatDoor
end

/- OneWalks2 -/
/- Contracts of UnitOf and of its model. Condition: the board's two lists lie in memory as they were laid there; the Id is a number of its kind. -/
section
namespace Go.Proofs.YtppgjmpdnpidnaaGreatDoor
open Go.ChangeShapes Go.WideShapes Go.ChangeAt Go.RowKit
open Bd
set_option linter.unusedVariables false

def uoC (us : List K10) (fs : List K3) (i : Int) : Int := if (bf us fs == 0) = true then (if (findU us i).isSome = true then 0 else 4) else bf us fs
def uoU (us : List K10) (fs : List K3) (i : Int) : K10 := if (bf us fs == 0) = true then (findU us i).getD K10.z else K10.z
abbrev elevenV (C : Int) (x : K10) : Array Value := #[.int .i64 C, .int .i64 x.c0, .int .i64 x.c1, .int .i64 x.c2, .int .i64 x.c3, .int .i64 x.c4, .int .i64 x.c5, .int .i64 x.c6, .int .i64 x.c7, .int .i64 x.c8, .int .i64 x.c9]
end Go.Proofs.YtppgjmpdnpidnaaGreatDoor
end

/- IntLists -/
/- Contracts of the exact laws' own helpers on lists of int64: equal lists are equal, marks that were laid are held. Conditions: the lists lie in memory of their own, at most 1000000 numbers. -/
section
namespace Go.Proofs.YtppgjmpdnpidnaaGreatDoor
open Go.ChangeShapes Go.WideShapes Go.ChangeAt Go.RowKit
set_option linter.unusedVariables false

def marks (k : Int) (m : Nat) : List Int := (List.range m).map (fun (i : Nat) => k + (i : Int))
end Go.Proofs.YtppgjmpdnpidnaaGreatDoor
end

/- Marks -/
/- Contracts of the exact laws' own marks on lists of units and of fields, and on boards. Condition: the lists lie in blocks of their own and have at most 1048576 members. -/
section
namespace Go.Proofs.YtppgjmpdnpidnaaGreatDoor
open Go.ChangeShapes Go.WideShapes Go.ChangeAt Go.RowKit
set_option linter.unusedVariables false

/- the first j cells bear the marks from k0 on -/
def mkd (k0 : Int) (f : Nat → Value) (j : Nat) (i : Nat) : Value := if i < j then .int .i64 (k0 + (i : Int)) else f i
end Go.Proofs.YtppgjmpdnpidnaaGreatDoor
end
