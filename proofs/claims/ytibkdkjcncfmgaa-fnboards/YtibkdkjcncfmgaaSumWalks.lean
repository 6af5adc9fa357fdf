/- Contracts of LeftIn and CarriedBy and of their models. Condition: the board's two lists lie in memory as they were laid there. -/
import Derived.Test.YtibkdkjcncfmgaaBoardWalks2
import Derived.Test.YtibkdkjcncfmgaaExactBoard
namespace Go.Proofs.Ytibkdkjcncfmgaa
open Go.ChangeShapes Go.WideShapes Go.ChangeAt Go.RowKit
open Bd
set_option linter.unusedVariables false

/- what the fields hold together; what an owner's units carry together -/
def sumF : List K3 → Int
  | [] => 0
  | f :: l => f.c2 + sumF l
def carry (o : Int) : List K10 → Int
  | [] => 0
  | u :: l => if (u.c1 == o) = true then u.c5 + carry o l else carry o l
theorem sumF_step {l : List K3} {k : Nat} {f : K3} (h : l[k]? = some f) : sumF (l.drop k) = f.c2 + sumF (l.drop (k + 1)) := by
  have h' := List.getElem?_eq_some_iff.1 h
  rw [List.drop_eq_getElem_cons h'.1, h'.2]; rfl
theorem carry_step {l : List K10} {o : Int} {k : Nat} {u : K10} (h : l[k]? = some u) : carry o (l.drop k) = if (u.c1 == o) = true then u.c5 + carry o (l.drop (k + 1)) else carry o (l.drop (k + 1)) := by
  have h' := List.getElem?_eq_some_iff.1 h
  rw [List.drop_eq_getElem_cons h'.1, h'.2]; rfl
/- the codes and the values -/
def lfV (us : List K10) (fs : List K3) : Int := if (bf us fs == 0) = true then sumF fs else 0
def owC (us : List K10) (fs : List K3) (o : Int) : Int := if (bf us fs == 0) = true then (if own o = true then 0 else 3) else bf us fs
def cbV (us : List K10) (fs : List K3) (o : Int) : Int := if (bf us fs == 0 && own o) = true then carry o us else 0
theorem bne_no {x y : Int} (h : (x == y) = true) : (x != y) = false := by simp only [bne, h]; rfl
theorem two_two (w : World) (s f z z' : Value) (t t2 : TypeId) : let W := (w.alloc (.cells #[s, f] t)).alloc (.cells #[z, z'] t2)
    W.rowIs w.heap.size t 2 (fun i => if i = 0 then s else f) ∧ W.rowIs (w.heap.size + 1) t2 2 (fun i => if i = 0 then z else z') ∧ Below w.heap.size w W ∧ W.heap.size = w.heap.size + 1 + 1 := by
  intro W
  have s1 : (w.alloc (.cells #[s, f] t)).heap.size = w.heap.size + 1 := size_new _ _
  have s2 : W.heap.size = w.heap.size + 1 + 1 := by show (World.alloc _ _).heap.size = _; rw [size_new, s1]
  have b1 : Below (w.alloc (.cells #[s, f] t)).heap.size (w.alloc (.cells #[s, f] t)) W := (Below.refl _ _).alloc (Nat.le_refl _) _
  have r0 := rowTwo w s f t
  have r1 := rowTwo (w.alloc (.cells #[s, f] t)) z z' t2
  rw [s1] at r1
  exact ⟨r0.of_block (b1.block _ r0.lt), r1, ((Below.refl _ _).alloc (Nat.le_refl _) _).alloc (by rw [s1]; omega) _, s2⟩
theorem row_brd {w : World} {p : Nat} {s f : Value} {t : TypeId} (h : w.rowIs p t 2 (fun i => if i = 0 then s else f)) : BrdAt w p s f :=
  ⟨h.cell (i := 0) (by omega), h.cell (i := 1) (by omega), h.lt⟩
theorem row_later {w w' : World} {g n : Nat} {t : TypeId} {f : Nat → Value} (h : w.rowIs g t n f) (hb : Below w.heap.size w w') : w'.rowIs g t n f := h.of_block (hb.block g h.lt)

set_option maxHeartbeats 4000000 in
theorem l4Left_c (p : Nat) (s : Value) (a' : Option Addr) (m' c' : Nat) (fs : List K3) (hl' : fs.length = m') (hm : m' ≤ 4) (hf : ∀ f ∈ fs, ff f = true) (w : World) (hB : BrdAt w p s (.slice a' m' c')) (hF : ArgF w a' fs) :
    Calls Try.prog 81 #[.pointer (some ⟨p, 0, none⟩)] w fun e w' => e = .returned (.int .i64 (sumF fs)) ∧ Below w.heap.size w w' := by
  have HB : Hid (BrdAt w p s (.slice a' m' c')) := hB
  have HF : Hid (ArgF w a' fs) := hF
  have Hf : Hid (∀ f ∈ fs, ff f = true) := hf
  have Hl' : Hid (fs.length = m') := hl'
  obtain ⟨R, HR⟩ : ∃ R : Int, Hid (R = sumF fs) := ⟨_, rfl⟩
  rw [← HR.out]
  obtain ⟨b0, b1, blt⟩ := hB
  clear hF hf hl'
  go_enter Try.func81, Try.ntmps81
  go_wp2
  go_loopw [3, 4] (fun n i wr => ∃ (k : Nat) (v : Int), k ≤ m' ∧ i = .int .i64 k ∧ n = .int .i64 v ∧ Hid (v + sumF (fs.drop k) = R) ∧ 0 ≤ v ∧ v ≤ 10000 * (k : Int) ∧ Below w.heap.size w wr) (fun _ i _ => m' - (intOf i).toNat)
  case atStart => exact ⟨0, 0, Nat.zero_le _, rfl, rfl, by show _ = _; rw [HR.out, Int.zero_add]; rfl, Int.le_refl _, by omega, Below.refl _ _⟩
  case round =>
    obtain ⟨k, v, hk, rfl, rfl, Hk, v0, v1, hbel⟩ := hrel
    obtain ⟨b0, b1, blt⟩ := HB.out.later hbel
    by_cases hlt : k < m'
    · have hlt' : (k : Int) < (m' : Int) := by omega
      obtain ⟨x, hx⟩ : ∃ x, fs[k]? = some x := ⟨_, List.getElem?_eq_getElem (by have := Hl'.out; omega)⟩
      obtain ⟨b, off, rfl, hb, hat⟩ := HF.out.at hx
      obtain ⟨x0, x1, x2, xl⟩ := (hat.later hb hbel).one (Nat.lt_of_lt_of_le hb hbel.size) hx
      obtain ⟨f0, f1⟩ := ff_left (Hf.out x (List.mem_of_getElem? hx))
      have HS : Hid (v + x.c2 + sumF (fs.drop (k + 1)) = R) := by show _ = _; rw [← Hk.out, sumF_step hx]; omega
      clear hx hat
      go_wp2
      go_roundw
      case rel => exact ⟨k + 1, v + x.c2, by omega, by go_num, by go_num, HS, by omega, by omega, hbel⟩
      case measure => simp [intOf]; omega
    · obtain rfl : k = m' := by omega
      have HE : Hid (R = v) := by show _ = _; rw [← Hk.out, List.drop_of_length_le (by have := Hl'.out; omega)]; unfold sumF; omega
      go_wp2
      go_ret
      exact ⟨by rw [HE.out]; rfl, hbel⟩
set_option maxHeartbeats 4000000 in
theorem specLeftIn (a : Option Addr) (m c : Nat) (a' : Option Addr) (m' c' : Nat) (us : List K10) (fs : List K3) (hl : us.length = m) (hl' : fs.length = m') (w : World) (hU : ArgU w a us) (hF : ArgF w a' fs) :
    Calls Try.prog 30 #[.agg #[.slice a m c, .slice a' m' c']] w fun e w' => e = .returned (.agg #[.int .i64 (bf us fs), .int .i64 (lfV us fs)]) ∧ Below w.heap.size w w' := by
  obtain ⟨rb, rr, B2, S2⟩ := two_two w (.slice a m c) (.slice a' m' c') (.int .i64 0) (.int .i64 0) 27 43
  have cF := l4Fault_c w.heap.size a m c a' m' c' us fs hl hl' _ (row_brd rb) (hU.later B2) (hF.later B2)
  cases hq : bf us fs == 0
  · have hv : lfV us fs = 0 := by unfold lfV; rw [hq]; rfl
    rw [hv]
    have hq' := bne_of hq
    generalize bf us fs = R at hq hq' cF ⊢
    go_enter Try.func30, Try.ntmps30
    go_wp2_with fail
    refine cF.mono ?_
    rintro e w1 ⟨rfl, k1⟩
    have B3 := B2.trans (k1.mono B2.size)
    replace rb := row_later rb k1
    replace rr := row_later rr k1
    have e0 : w1.cell? ⟨w.heap.size + 1, 0, none⟩ = some (.int .i64 0) := rr.cell (i := 0) (by omega)
    have e1 : w1.cell? ⟨w.heap.size + 1, 1, none⟩ = some (.int .i64 0) := rr.cell (i := 1) (by omega)
    have z0 := rr.frozen 0
    have z1 := rr.frozen 1
    have rl := rr.lt
    have t := (rr.set 0 (.int .i64 R)).set 1 (.int .i64 0)
    have c0 := t.cell (i := 0) (by omega)
    have c1 := t.cell (i := 1) (by omega)
    have B4 := bel_set (bel_set B3 (w.heap.size + 1) 0 (by omega) (.int .i64 R)) (w.heap.size + 1) 1 (by omega) (.int .i64 0)
    go_wp2_with fail
    refine bodyPost_ret ?_ rfl ⟨rfl, B4⟩
    simp [results, Try.results30, go_sem, c0, c1]
    done
  · have hz : bf us fs = 0 := by simpa using hq
    obtain ⟨_, n4, _, hff, _⟩ := bf_ok hz
    have cL := fun w1 hb hF => l4Left_c w.heap.size (.slice a m c) a' m' c' fs hl' (by omega) hff w1 hb hF
    have hv : lfV us fs = sumF fs := by unfold lfV; rw [hq]; rfl
    rw [hv]
    rw [hz] at cF ⊢
    generalize sumF fs = R at cL ⊢
    go_enter Try.func30, Try.ntmps30
    go_wp2_with fail
    refine cF.mono ?_
    rintro e w1 ⟨rfl, k1⟩
    have B3 := B2.trans (k1.mono B2.size)
    replace rb := row_later rb k1
    replace rr := row_later rr k1
    have e0 : w1.cell? ⟨w.heap.size + 1, 0, none⟩ = some (.int .i64 0) := rr.cell (i := 0) (by omega)
    have e1 : w1.cell? ⟨w.heap.size + 1, 1, none⟩ = some (.int .i64 0) := rr.cell (i := 1) (by omega)
    have z0 := rr.frozen 0
    have z1 := rr.frozen 1
    have rl := rr.lt
    go_wp2_with fail
    refine (cL w1 (row_brd rb) (hF.later B3)).mono ?_
    rintro e w2 ⟨rfl, k2⟩
    have B4 := B3.trans (k2.mono B3.size)
    replace rr := row_later rr k2
    have e0 : w2.cell? ⟨w.heap.size + 1, 0, none⟩ = some (.int .i64 0) := rr.cell (i := 0) (by omega)
    have e1 : w2.cell? ⟨w.heap.size + 1, 1, none⟩ = some (.int .i64 0) := rr.cell (i := 1) (by omega)
    have z0 := rr.frozen 0
    have z1 := rr.frozen 1
    have rl := rr.lt
    have t := (rr.set 0 (.int .i64 0)).set 1 (.int .i64 R)
    have c0 := t.cell (i := 0) (by omega)
    have c1 := t.cell (i := 1) (by omega)
    have B5 := bel_set (bel_set B4 (w.heap.size + 1) 0 (by omega) (.int .i64 0)) (w.heap.size + 1) 1 (by omega) (.int .i64 R)
    go_wp2_with fail
    refine bodyPost_ret ?_ rfl ⟨rfl, B5⟩
    simp [results, Try.results30, go_sem, c0, c1]
    done
set_option maxHeartbeats 4000000 in
theorem left_c (a : Option Addr) (m c : Nat) (a' : Option Addr) (m' c' : Nat) (fs : List K3) (hl' : fs.length = m') (hm : m' ≤ 4) (hf : ∀ f ∈ fs, ff f = true) (w : World) (hF : ArgF w a' fs) :
    Calls Try.prog 78 #[.agg #[.slice a m c, .slice a' m' c']] w fun e w' => e = .returned (.int .i64 (sumF fs)) ∧ Below w.heap.size w w' := by
  have Hf : Hid (∀ f ∈ fs, ff f = true) := hf
  have Hl' : Hid (fs.length = m') := hl'
  have HF : Hid (ArgF w a' fs) := hF
  obtain ⟨R, HR⟩ : ∃ R : Int, Hid (R = sumF fs) := ⟨_, rfl⟩
  rw [← HR.out]
  clear hf hl' hF
  go_enter Try.func78, Try.ntmps78
  go_wp2_with fail
  go_loopw [3, 9] (fun n i wr => ∃ (k : Nat) (v : Int), k ≤ m' ∧ i = .int .i64 k ∧ n = .int .i64 v ∧ Hid (v + sumF (fs.drop k) = R) ∧ 0 ≤ v ∧ v ≤ 10000 * (k : Int) ∧ Below w.heap.size w wr) (fun _ i _ => m' - (intOf i).toNat)
  case atStart => exact ⟨0, 0, Nat.zero_le _, rfl, rfl, by show _ = _; rw [HR.out, Int.zero_add]; rfl, Int.le_refl _, by omega, (Below.refl _ _).alloc (Nat.le_refl _) _⟩
  case round =>
    obtain ⟨k, v, hk, rfl, rfl, Hk, v0, v1, hbel⟩ := hrel
    by_cases hlt : k < m'
    · have hlt' : (k : Int) < (m' : Int) := by omega
      obtain ⟨x, hx⟩ : ∃ x, fs[k]? = some x := ⟨_, List.getElem?_eq_getElem (by have := Hl'.out; omega)⟩
      obtain ⟨b, off, rfl, hb, hat⟩ := HF.out.at hx
      obtain ⟨x0, x1, x2, xl⟩ := (hat.later hb hbel).one (Nat.lt_of_lt_of_le hb hbel.size) hx
      obtain ⟨f0, f1⟩ := ff_left (Hf.out x (List.mem_of_getElem? hx))
      have HS : Hid (v + x.c2 + sumF (fs.drop (k + 1)) = R) := by show _ = _; rw [← Hk.out, sumF_step hx]; omega
      have hb4 := hbel.alloc hbel.size (.cells x.v 105)
      clear hx hat
      go_wp2
      go_roundw
      case rel => exact ⟨k + 1, v + x.c2, by omega, by go_num, by go_num, HS, by omega, by omega, hb4⟩
      case measure => simp [intOf]; omega
    · obtain rfl : k = m' := by omega
      have HE : Hid (v = R) := by show _ = _; rw [← Hk.out, List.drop_of_length_le (by have := Hl'.out; omega)]; unfold sumF; omega
      go_wp2_with fail
      go_ret
      exact ⟨by rw [← HE.out]; rfl, hbel⟩
set_option maxHeartbeats 4000000 in
theorem implLeftIn (a : Option Addr) (m c : Nat) (a' : Option Addr) (m' c' : Nat) (us : List K10) (fs : List K3) (hl : us.length = m) (hl' : fs.length = m') (w : World) (hU : ArgU w a us) (hF : ArgF w a' fs) :
    Calls Try.prog 28 #[.agg #[.slice a m c, .slice a' m' c']] w fun e w' => e = .returned (.agg #[.int .i64 (bf us fs), .int .i64 (lfV us fs)]) ∧ Below w.heap.size w w' := by
  obtain ⟨rb, rr, B2, S2⟩ := two_two w (.slice a m c) (.slice a' m' c') (.int .i64 0) (.int .i64 0) 27 43
  have cF := implBoardFault a m c a' m' c' us fs hl hl' _ (hU.later B2) (hF.later B2)
  cases hq : bf us fs == 0
  · have hv : lfV us fs = 0 := by unfold lfV; rw [hq]; rfl
    rw [hv]
    have hq' := bne_of hq
    generalize bf us fs = R at hq hq' cF ⊢
    go_enter Try.func28, Try.ntmps28
    go_wp2_with fail
    refine cF.mono ?_
    rintro e w1 ⟨rfl, k1⟩
    have B3 := B2.trans (k1.mono B2.size)
    replace rb := row_later rb k1
    replace rr := row_later rr k1
    have e0 : w1.cell? ⟨w.heap.size + 1, 0, none⟩ = some (.int .i64 0) := rr.cell (i := 0) (by omega)
    have e1 : w1.cell? ⟨w.heap.size + 1, 1, none⟩ = some (.int .i64 0) := rr.cell (i := 1) (by omega)
    have z0 := rr.frozen 0
    have z1 := rr.frozen 1
    have rl := rr.lt
    have t := (rr.set 0 (.int .i64 R)).set 1 (.int .i64 0)
    have c0 := t.cell (i := 0) (by omega)
    have c1 := t.cell (i := 1) (by omega)
    have B4 := bel_set (bel_set B3 (w.heap.size + 1) 0 (by omega) (.int .i64 R)) (w.heap.size + 1) 1 (by omega) (.int .i64 0)
    go_wp2_with fail
    refine bodyPost_ret ?_ rfl ⟨rfl, B4⟩
    simp [results, Try.results28, go_sem, c0, c1]
    done
  · have hz : bf us fs = 0 := by simpa using hq
    obtain ⟨_, n4, _, hff, _⟩ := bf_ok hz
    have hv : lfV us fs = sumF fs := by unfold lfV; rw [hq]; rfl
    rw [hv]
    rw [hz] at cF ⊢
    have Hf : Hid (∀ f ∈ fs, ff f = true) := hff
    have Hl' : Hid (fs.length = m') := hl'
    have HF : Hid (ArgF w a' fs) := hF
    have hm : m' ≤ 4 := by omega
    have cL := fun W h => left_c a m c a' m' c' fs hl' hm hff W h
    obtain ⟨R, HR⟩ : ∃ R : Int, Hid (R = sumF fs) := ⟨_, rfl⟩
    rw [← HR.out] at cL ⊢
    go_enter Try.func28, Try.ntmps28
    go_wp2_with fail
    refine cF.mono ?_
    rintro e w1 ⟨rfl, k1⟩
    have B3 := B2.trans (k1.mono B2.size)
    replace rb := row_later rb k1
    replace rr := row_later rr k1
    obtain ⟨p1, p2, pl⟩ := row_brd rb
    go_wp2_with fail
    refine (cL _ (hF.later B3)).mono ?_
    rintro e w2 ⟨rfl, k2⟩
    have B4 := B3.trans (k2.mono B3.size)
    replace rr := row_later rr k2
    have e0 : w2.cell? ⟨w.heap.size + 1, 0, none⟩ = some (.int .i64 0) := rr.cell (i := 0) (by omega)
    have e1 : w2.cell? ⟨w.heap.size + 1, 1, none⟩ = some (.int .i64 0) := rr.cell (i := 1) (by omega)
    have z0 := rr.frozen 0
    have z1 := rr.frozen 1
    have rl := rr.lt
    have t := (rr.set 0 (.int .i64 0)).set 1 (.int .i64 R)
    have c0 := t.cell (i := 0) (by omega)
    have c1 := t.cell (i := 1) (by omega)
    have B5 := bel_set (bel_set B4 (w.heap.size + 1) 0 (by omega) (.int .i64 0)) (w.heap.size + 1) 1 (by omega) (.int .i64 R)
    go_wp2_with fail
    refine bodyPost_ret ?_ rfl ⟨rfl, B5⟩
    simp [results, Try.results28, go_sem, c0, c1]
    done
end Go.Proofs.Ytibkdkjcncfmgaa
