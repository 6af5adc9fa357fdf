/- Texts of mine put together (a claim holds at most 60 files): PutSpec, OneWalks. -/
import Derived.Test.YtepjkcfheejlbaaGreatDoorPartT10
import Derived.Test.YtepjkcfheejlbaaGreatDoorPartT07
import Derived.Deep.RegionHeld3
import Derived.Deep.Cut
import Derived.Deep.CutRange
import Derived.Outline
import Derived.Test.YtepjkcfheejlbaaGreatDoorPartT05

/- PutSpec -/
/- Contracts of the model of PutUnit's parts. Condition: the board's lists rise and lie in memory as they were laid there. -/
section
namespace Go.Proofs.YtepjkcfheejlbaaGreatDoor
open Go.ChangeShapes Go.WideShapes Go.ChangeAt Go.RowKit
open Bd
set_option linter.unusedVariables false

theorem putU_lt {u x : K10} {l : List K10} (h : ∀ y ∈ l, y.c0 < u.c0) (hx : u.c0 < x.c0) : putU u (l ++ [x]) = l ++ [u] ++ [x] := by
  induction l with
  | nil => show (if u.c0 < x.c0 then _ else _) = _; rw [if_pos hx]; rfl
  | cons y l ih =>
    have h1 := h y (by simp)
    show (if u.c0 < y.c0 then _ else if u.c0 = y.c0 then _ else y :: putU u (l ++ [x])) = _
    rw [if_neg (by omega), if_neg (by omega), ih (fun z hz => h z (by simp [hz]))]; rfl
theorem putU_eq {u x : K10} {l : List K10} (h : ∀ y ∈ l, y.c0 < u.c0) (hx : u.c0 = x.c0) : putU u (l ++ [x]) = l ++ [u] := by
  induction l with
  | nil => show (if u.c0 < x.c0 then _ else if u.c0 = x.c0 then _ else _) = _; rw [if_neg (by omega), if_pos hx]; rfl
  | cons y l ih =>
    have h1 := h y (by simp)
    show (if u.c0 < y.c0 then _ else if u.c0 = y.c0 then _ else y :: putU u (l ++ [x])) = _
    rw [if_neg (by omega), if_neg (by omega), ih (fun z hz => h z (by simp [hz]))]; rfl
theorem putU_snoc {u x : K10} {l : List K10} (h : ∃ y ∈ l, u.c0 ≤ y.c0) : putU u (l ++ [x]) = putU u l ++ [x] := by
  induction l with
  | nil => obtain ⟨y, hy, _⟩ := h; cases hy
  | cons y l ih =>
    show (if u.c0 < y.c0 then u :: y :: (l ++ [x]) else if u.c0 = y.c0 then u :: (l ++ [x]) else y :: putU u (l ++ [x])) = (if u.c0 < y.c0 then u :: y :: l else if u.c0 = y.c0 then u :: l else y :: putU u l) ++ [x]
    by_cases h1 : u.c0 < y.c0
    · rw [if_pos h1, if_pos h1]; rfl
    rw [if_neg h1, if_neg h1]
    by_cases h2 : u.c0 = y.c0
    · rw [if_pos h2, if_pos h2]; rfl
    rw [if_neg h2, if_neg h2, ih]
    · rfl
    · obtain ⟨z, hz, hle⟩ := h
      rcases List.mem_cons.1 hz with rfl | hz
      · omega
      · exact ⟨z, hz, hle⟩
theorem SlU.mono {w : World} {base base' : Nat} {v : Value} {l : List K10} (h : SlU w base v l) (hb : base' ≤ base) : SlU w base' v l := by
  rcases h with ⟨h1, h2⟩
  refine ⟨h1, ?_⟩
  rcases h2 with h2 | ⟨g, cap, cur, hv, hbb, r⟩
  · exact .inl h2
  · exact .inr ⟨g, cap, cur, hv, Nat.le_trans hb hbb, r⟩
theorem SlF.mono {w : World} {base base' : Nat} {v : Value} {l : List K3} (h : SlF w base v l) (hb : base' ≤ base) : SlF w base' v l := by
  rcases h with ⟨h1, h2⟩
  refine ⟨h1, ?_⟩
  rcases h2 with h2 | ⟨g, cap, cur, hv, hbb, r⟩
  · exact .inl h2
  · exact .inr ⟨g, cap, cur, hv, Nat.le_trans hb hbb, r⟩
/- what is out behind k units: d: u is among them -/
def lp (u : K10) (us : List K10) (d : Bool) (k : Nat) : List K10 := if d = true then putU u (us.take k) else us.take k
def lc (u : K10) (us : List K10) (d : Bool) (k : Nat) : Prop := (d = false ∧ ∀ x ∈ us.take k, x.c0 < u.c0) ∨ (d = true ∧ ∃ x ∈ us.take k, u.c0 ≤ x.c0)
theorem putU_len (u : K10) : ∀ l : List K10, (putU u l).length ≤ l.length + 1
  | [] => by simp [putU]
  | x :: l => by
    unfold putU
    split
    · simp
    · split
      · simp
      · have := putU_len u l; simp; exact this
theorem take_next {us : List K10} {k : Nat} {x : K10} (h : us[k]? = some x) : us.take (k + 1) = us.take k ++ [x] := by rw [List.take_add_one, h]; rfl
theorem mem_next {us : List K10} {k : Nat} {x : K10} (h : us[k]? = some x) : x ∈ us.take (k + 1) := by rw [take_next h]; simp
theorem lp_len (u : K10) (us : List K10) (d : Bool) (k : Nat) (h : us.length ≤ 8) : (lp u us d k).length ≤ 9 := by
  unfold lp
  split
  · have := putU_len u (us.take k); rw [List.length_take] at this; omega
  · rw [List.length_take]; omega
end Go.Proofs.YtepjkcfheejlbaaGreatDoor
end

/- OneWalks -/
/- Contracts of UnitOf and of its model, and of the program's map of rows by Id. Condition: the board's two lists lie in memory as they were laid there. -/
section
namespace Go.Proofs.YtepjkcfheejlbaaGreatDoor
open Go.ChangeShapes Go.WideShapes Go.ChangeAt Go.RowKit
open Bd
set_option linter.unusedVariables false

theorem rowOf_c (x : K10) (w : World) :
    Calls Tryz.prog 100 #[.agg x.v] w fun e w' => e = .returned (.agg x.v) ∧ w' = (w.alloc (.cells x.v 87)).alloc (.cells x.v 73) := by
  go_enter Tryz.func100, Tryz.ntmps100
  go_wp2
  refine bodyPost_ret (v := .agg x.v) ?_ rfl ⟨rfl, rfl⟩
  simp [results, Tryz.results100, go_sem]
  done
theorem unitIn_c (x : K10) (w : World) :
    Calls Tryz.prog 77 #[.agg x.v] w fun e w' => e = .returned (.agg x.v) ∧ w' = (w.alloc (.cells x.v 73)).alloc (.cells x.v 87) := by
  go_enter Tryz.func77, Tryz.ntmps77
  go_wp2
  refine bodyPost_ret (v := .agg x.v) ?_ rfl ⟨rfl, rfl⟩
  simp [results, Tryz.results77, go_sem]
  done
theorem cell_of_block {w w' : World} {g : Nat} (e : w'.heap[g]? = w.heap[g]?) (o : Nat) : w'.cell? ⟨g, o, none⟩ = w.cell? ⟨g, o, none⟩ := by
  unfold World.cell?
  rw [e]
theorem U1.of_block {w w' : World} {g off : Nat} {x : K10} (h : U1 w g off x) (e : w'.heap[g]? = w.heap[g]?) (hl : g < w'.heap.size) : U1 w' g off x :=
  ⟨(cell_of_block e _).trans h.c0, (cell_of_block e _).trans h.c1, (cell_of_block e _).trans h.c2, (cell_of_block e _).trans h.c3, (cell_of_block e _).trans h.c4, (cell_of_block e _).trans h.c5, (cell_of_block e _).trans h.c6, (cell_of_block e _).trans h.c7, (cell_of_block e _).trans h.c8, (cell_of_block e _).trans h.c9, hl⟩
set_option maxRecDepth 20000 in
set_option maxHeartbeats 4000000 in
theorem rowsById_c (a : Option Addr) (m c : Nat) (us : List K10) (hl : us.length = m) (hm : m ≤ 8) (hu : ∀ u ∈ us, uf u = 0) (hr : Rise us) (w : World) (hU : ArgU w a us) :
    Calls Tryz.prog 71 #[.slice a m c] w fun e w' => e = .returned (.map (some w.heap.size)) ∧ MapAt w' w.heap.size us ∧ Below w.heap.size w w' := by
  have Hl : Hid (us.length = m) := hl
  have HU : Hid (ArgU w a us) := hU
  have Hu : Hid (∀ u ∈ us, uf u = 0) := hu
  have Hr : Hid (Rise us) := hr
  clear hl hU hu hr
  obtain ⟨B, HB⟩ : ∃ B : Nat, Hid (B = w.heap.size) := ⟨_, rfl⟩
  have hmm := @run_makeMap Tryz.prog
  go_enter Tryz.func71, Tryz.ntmps71
  go_wp2
  rw [← HB.out]
  go_loopw [9] (fun i wr => ∃ k : Nat, k ≤ m ∧ i = .int .i64 k ∧ MapAt wr B (us.take k) ∧ Below w.heap.size w wr) (fun i _ => m - (intOf i).toNat)
  case atStart => exact ⟨0, Nat.zero_le _, rfl, by rw [HB.out]; exact MapAt.new w, (Below.refl _ _).alloc (Nat.le_refl _) _⟩
  case round =>
    obtain ⟨k, hk, rfl, hM, hbel⟩ := hrel
    by_cases hlt : k < m
    · have hlt' : (k : Int) < (m : Int) := by omega
      obtain ⟨x, hx⟩ : ∃ x, us[k]? = some x := ⟨_, List.getElem?_eq_getElem (by have := Hl.out; omega)⟩
      obtain ⟨b, off, rfl, hb, hat⟩ := HU.out.at hx
      obtain ⟨x0, x1, x2, x3, x4, x5, x6, x7, x8, x9, xl⟩ := (hat.later hb hbel).one (Nat.lt_of_lt_of_le hb hbel.size) hx
      obtain ⟨i0, i1⟩ := uf_id (Hu.out x (List.mem_of_getElem? hx))
      obtain ⟨W1, HW1⟩ : ∃ W1, Hid (W1 = wr.alloc (.cells x.v 87)) := ⟨_, rfl⟩
      obtain ⟨W, HW⟩ : ∃ W, Hid (W = ((W1.alloc (.cells x.v 87)).alloc (.cells x.v 73)).drew) := ⟨_, rfl⟩
      have b0 : Below wr.heap.size wr W1 := by rw [HW1.out]; exact (Below.refl _ _).alloc (Nat.le_refl _) _
      have b1 : Below W1.heap.size W1 W := by rw [HW.out]; exact (((Below.refl _ _).alloc (Nat.le_refl _) _).alloc (by rw [size_new]; exact Nat.le_succ _) _).drew
      have S1 : U1 W1 wr.heap.size 0 x := by rw [HW1.out]; exact U1.new wr x 87
      obtain ⟨w2, hrun, hM2, hg2⟩ := ((hM.later b0).later b1).update (Hr.out.take (i := k)) (by rw [List.length_take]; omega) x (wf_int (by omega) (by omega))
      rw [take_put Hr.out hx] at hM2
      have B2 : Below w.heap.size w w2 := by
        have h1 := hbel.trans (b0.mono hbel.size)
        replace h1 := h1.trans (b1.mono h1.size)
        refine h1.trans ?_
        obtain ⟨g1, g2, g3, g4, g5⟩ := hg2
        exact ⟨g1, g2, g3, g4, fun j hj => g5 j (Nat.lt_of_lt_of_le hj h1.size) (by rw [HB.out]; intro e; have := Option.some.inj e; omega)⟩
      have S2 : U1 w2 wr.heap.size 0 x := (S1.later b1).of_block (hg2.block _ (S1.later b1).lt (by intro e; have := Option.some.inj e; have := hM.lt; omega)) (by have := (S1.later b1).lt; have := hg2.size; omega)
      rw [HW.out] at hrun
      have cR := fun w => rowOf_c x w
      obtain ⟨G, HG⟩ : ∃ G, Hid (G = wr.heap.size) := ⟨_, rfl⟩
      rw [← HG.out] at S1 S2
      obtain ⟨r0, r1, r2, r3, r4, r5, r6, r7, r8, r9, rl⟩ := S2
      obtain ⟨s0, s1, s2, s3, s4, s5, s6, s7, s8, s9, sl⟩ := S1
      clear hx hat hM b1 hg2 b0
      go_upto_region 5 with fail
      rw [← HW1.out, ← HG.out]
      clear x0 x1 x2 x3 x4 x5 x6 x7 x8 x9 xl
      go_region_held3 (fun w' => w'.cell? ⟨G, 0, none⟩ = some (.int .i64 x.c0) ∧ w'.cell? ⟨G, 1, none⟩ = some (.int .i64 x.c1) ∧ w'.cell? ⟨G, 2, none⟩ = some (.int .i64 x.c2) ∧ w'.cell? ⟨G, 3, none⟩ = some (.int .i64 x.c3) ∧ w'.cell? ⟨G, 4, none⟩ = some (.int .i64 x.c4) ∧ w'.cell? ⟨G, 5, none⟩ = some (.int .i64 x.c5) ∧ w'.cell? ⟨G, 6, none⟩ = some (.int .i64 x.c6) ∧ w'.cell? ⟨G, 7, none⟩ = some (.int .i64 x.c7) ∧ w'.cell? ⟨G, 8, none⟩ = some (.int .i64 x.c8) ∧ w'.cell? ⟨G, 9, none⟩ = some (.int .i64 x.c9)) (go_keep) (first | (go_at_call 100; refine (cR _).mono ?_; rintro e w1 ⟨rfl, rfl⟩))
      all_goals
        go_wp2_with fail
        go_roundw
        case rel => exact ⟨k + 1, by omega, by go_num, hM2, B2⟩
        case measure => simp [intOf]; omega
    · obtain rfl : k = m := by omega
      have hM' : MapAt wr B us := by rw [List.take_of_length_le (by have := Hl.out; omega)] at hM; exact hM
      go_wp2
      go_ret
      exact ⟨by rw [← HB.out]; rfl, by rw [← HB.out]; exact hM', hbel⟩
/- where a unit with an Id lies -/
def atU (l : List K10) (i : Int) : Option Nat := l.findIdx? (fun x => x.c0 == i)
def atI (l : List K10) (i : Int) : Int := match atU l i with | some k => (k : Int) | none => -1
theorem atU_find (l : List K10) (i : Int) : (atU l i = none ∧ findU l i = none) ∨ ∃ k x, atU l i = some k ∧ l[k]? = some x ∧ findU l i = some x := by
  unfold atU findU
  induction l with
  | nil => exact .inl ⟨rfl, rfl⟩
  | cons a l ih =>
    rw [List.findIdx?_cons]
    cases h : a.c0 == i
    · rw [List.find?_cons_of_neg (by rw [h]; simp)]
      rcases ih with ⟨h1, h2⟩ | ⟨k, x, h1, h2, h3⟩
      · exact .inl ⟨by rw [h1]; rfl, h2⟩
      · exact .inr ⟨k + 1, x, by rw [h1]; rfl, h2, h3⟩
    · rw [List.find?_cons_of_pos (p := fun x : K10 => x.c0 == i) h]
      exact .inr ⟨0, a, by simp, rfl, rfl⟩
theorem atI_step {l : List K10} {i : Int} {k : Nat} (hp : ∀ j y, j < k → l[j]? = some y → (y.c0 == i) = false) {x : K10} (hx : l[k]? = some x) (h : (x.c0 == i) = true) : atI l i = (k : Int) := by
  have e : atU l i = some k := by
    unfold atU
    rw [List.findIdx?_eq_some_iff_getElem]
    obtain ⟨h1, h2⟩ := List.getElem?_eq_some_iff.1 hx
    refine ⟨h1, by rw [h2]; exact h, fun j hj => ?_⟩
    have := hp j _ hj (List.getElem?_eq_getElem (by omega))
    rw [this]; simp
  unfold atI; rw [e]
theorem atI_none {l : List K10} {i : Int} (hp : ∀ j y, j < l.length → l[j]? = some y → (y.c0 == i) = false) : atI l i = -1 := by
  have e : atU l i = none := by
    unfold atU
    rw [List.findIdx?_eq_none_iff]
    intro y hy
    obtain ⟨j, hj, rfl⟩ := List.getElem_of_mem hy
    exact hp j _ hj (List.getElem?_eq_getElem hj)
  unfold atI; rw [e]
set_option maxHeartbeats 4000000 in
theorem l4At_c (a : Option Addr) (m c : Nat) (us : List K10) (i : Int) (hl : us.length = m) (hm : m ≤ 8) (w : World) (hU : ArgU w a us) :
    Calls Tryz.prog 46 #[.slice a m c, .int .i64 i] w fun e w' => e = .returned (.int .i64 (atI us i)) ∧ w' = w := by
  have Hl : Hid (us.length = m) := hl
  have HU : Hid (ArgU w a us) := hU
  obtain ⟨R, HR⟩ : ∃ R : Int, Hid (R = atI us i) := ⟨_, rfl⟩
  rw [← HR.out]
  clear hl hU
  go_enter Tryz.func46, Tryz.ntmps46
  go_wp2
  go_loopw [5] (fun j wr => ∃ k : Nat, k ≤ m ∧ j = .int .i64 k ∧ Hid (∀ j y, j < k → us[j]? = some y → (y.c0 == i) = false) ∧ wr = w) (fun j _ => m - (intOf j).toNat)
  case atStart => exact ⟨0, Nat.zero_le _, rfl, (fun j y hj _ => absurd hj (Nat.not_lt_zero _) : ∀ j y, j < 0 → us[j]? = some y → (y.c0 == i) = false), rfl⟩
  case round =>
    obtain ⟨k, hk, rfl, Hk, rfl⟩ := hrel
    by_cases hlt : k < m
    · have hlt' : (k : Int) < (m : Int) := by omega
      obtain ⟨x, hx⟩ : ∃ x, us[k]? = some x := ⟨_, List.getElem?_eq_getElem (by have := Hl.out; omega)⟩
      obtain ⟨b, off, rfl, hb, hat⟩ := HU.out.at hx
      have x0 := (hat.all hx).1
      have Hx : Hid (us[k]? = some x) := hx
      clear hx hat
      cases hq : x.c0 == i
      · have HN : Hid (∀ j y, j < k + 1 → us[j]? = some y → (y.c0 == i) = false) := fun j y hj hy => by
          by_cases hjk : j < k
          · exact Hk.out j y hjk hy
          · have ejk : j = k := by omega
            subst ejk
            have := Hx.out.symm.trans hy
            rw [← Option.some.inj this]; exact hq
        go_wp2
        go_roundw
        case rel => exact ⟨k + 1, by omega, by go_num, HN, trivial⟩
        case measure => simp [intOf]; omega
      · have HE : Hid (R = (k : Int)) := by show _ = _; rw [HR.out, atI_step Hk.out Hx.out hq]
        go_wp2
        go_ret
        exact ⟨by rw [HE.out]; rfl, rfl⟩
    · obtain rfl : k = m := by omega
      have HE : Hid (R = -1) := by show _ = _; rw [HR.out, atI_none (by rw [Hl.out]; exact Hk.out)]
      go_wp2
      go_ret
      exact ⟨by rw [HE.out]; rfl, rfl⟩
end Go.Proofs.YtepjkcfheejlbaaGreatDoor
end
