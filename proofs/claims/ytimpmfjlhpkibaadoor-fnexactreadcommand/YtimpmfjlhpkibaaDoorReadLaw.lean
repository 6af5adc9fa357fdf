/- The walk of the exact law of ReadCommand. Condition: the table of counts holds what its initialiser lays. -/
import Derived.Test.YtimpmfjlhpkibaaDoorSpecRead
import Derived.Test.YtimpmfjlhpkibaaDoorDraws
namespace Go.Proofs.YtimpmfjlhpkibaaDoor
open Go.ChangeShapes Go.WideShapes Go.ChangeAt Go.RowKit
open Cm
set_option linter.unusedVariables false

/- bytes that came in -/
def ArgB (w : World) (a : Option Addr) (l : List Int) : Prop := l = [] ∨ ∃ b off, a = some ⟨b, off, none⟩ ∧ b < w.heap.size ∧ BAt w b off l
theorem ArgB.later {w w' : World} {a : Option Addr} {l : List Int} (h : ArgB w a l) (hb : Below w.heap.size w w') : ArgB w' a l := by
  rcases h with h | ⟨b, off, h1, h2, h3⟩
  · exact .inl h
  · exact .inr ⟨b, off, h1, Nat.lt_of_lt_of_le h2 hb.size, fun i x hi => by rw [hb.cell h2]; exact h3 i x hi⟩
theorem argB_of_row {w : World} {a : Option Addr} {len cap : Nat} {zs : List Int} (h : IsRow .u8 w a len cap zs) : ∃ l, l.length = len ∧ Byt l ∧ ArgB w a l := by
  rcases h with ⟨rfl, rfl, rfl, rfl⟩ | ⟨x, rfl, hl, hm, hz, hcell, hwz⟩
  · exact ⟨[], rfl, (fun _ h => by cases h), .inl rfl⟩
  · refine ⟨zs.take len, by rw [List.length_take]; omega, fun y hy => bounds_u8 (hwz y (List.mem_of_mem_take hy)), ?_⟩
    by_cases h0 : len = 0
    · subst h0; exact .inl rfl
    · obtain ⟨b, off, spot⟩ := x
      have hc := hcell 0 (by omega)
      have hspot : spot = none := by simpa [Addr.add] using World.cell?_spot hc
      subst hspot
      refine .inr ⟨b, off, rfl, by have := cell_lt hc; simpa [Addr.add] using this, fun i y hi => ?_⟩
      have hi' := getElem?_of_take hi
      have hlt : i < zs.length := (List.getElem?_eq_some_iff.1 hi').1
      have h := hcell i hlt
      have e : (⟨b, off, none⟩ : Addr).add i = ⟨b, off + i, none⟩ := by unfold Addr.add; split <;> simp_all
      rw [e, List.getD_eq_getElem?_getD, hi'] at h
      exact h

theorem BRow.of_row {w : World} {base g n : Nat} {l : List Int} (h : w.rowIs g 5 n (fun i => .int .u8 (l.getD i 0))) (hn : l.length = n) (hm : n ≤ maxLen) (hb : base ≤ g) : BRow w base (.slice (some ⟨g, 0, none⟩) n n) l := by
  obtain ⟨cur, hg, hs, hf⟩ := h
  refine ⟨by simp, .inr ⟨g, n, cur, by rw [hn], hb, hg, by omega, hm, by simpa using hs, ?_⟩⟩
  apply List.ext_getElem?
  intro i
  rw [List.getElem?_take]
  by_cases hi : i < l.length
  · rw [if_pos (by omega)]
    have := hf i (by omega)
    simp [List.getElem?_eq_getElem hi] at this ⊢
    simpa using this
  · rw [if_neg (by omega), List.getElem?_eq_none (by simpa using Nat.le_of_not_lt hi)]
def bRow (l : List Int) (k : Nat) (j : Nat) : Value := if j < k then .int .u8 (l.getD j 0) else .int .u8 0
theorem bRow_at (l : List Int) (k : Nat) : bRow l k k = .int .u8 0 := by unfold bRow; rw [if_neg (by omega)]
theorem bRow_set (l : List Int) (k : Nat) (x : Int) (h : l.getD k 0 = x) (j : Nat) : (if j = k then Value.int .u8 x else bRow l k j) = bRow l (k + 1) j := by
  unfold bRow
  by_cases e : j = k
  · subst e; rw [if_pos rfl, if_pos (by omega), h]
  · rw [if_neg e]
    by_cases e2 : j < k
    · rw [if_pos e2, if_pos (by omega)]
    · rw [if_neg e2, if_neg (by omega)]
set_option maxHeartbeats 1000000 in
theorem toByteS_c (a : Option Addr) (m cap : Nat) (l : List Int) (hl : l.length = m) (hm : m ≤ 1048576) (hb : Byt l) (w : World) (h : ArgB w a l) :
    Calls Tryd.prog 30 #[.slice a m cap] w fun e w' => e = .returned (.slice (some ⟨w.heap.size, 0, none⟩) m m) ∧ BRow w' w.heap.size (.slice (some ⟨w.heap.size, 0, none⟩) m m) l ∧ Below w.heap.size w w' := by
  have Hl : Hid (l.length = m) := hl
  have Hb : Hid (Byt l) := hb
  have H : Hid (ArgB w a l) := h
  clear hl hb h
  have hmk := fun (W : World) => run_make_row' (P := Tryd.prog) 22 5 (.int .u8 0) 1 Tryd.underlying22 info8 rfl .i64 .i64 m (by omega) (by omega) W
  go_enter Tryd.func30, Tryd.ntmps30
  go_wp2
  go_loopw [4] (fun i wr => ∃ k : Nat, k ≤ m ∧ i = .int .i64 k ∧ wr.rowIs w.heap.size 5 m (bRow l k) ∧ Below w.heap.size w wr) (fun i _ => m - (intOf i).toNat)
  case atStart =>
    refine ⟨0, Nat.zero_le _, rfl, ?_, (Below.refl _ _).alloc (Nat.le_refl _) _⟩
    exact (World.rowIs_made w (.int .u8 0) m 5).congr (fun i _ => by unfold bRow; rw [if_neg (by omega)])
  case round =>
    obtain ⟨k, hk, rfl, hrow, hbel⟩ := hrel
    by_cases hlt : k < m
    · have hlt' : (k : Int) < (m : Int) := by omega
      obtain ⟨x, hx⟩ : ∃ x, l[k]? = some x := ⟨_, List.getElem?_eq_getElem (by have := Hl.out; omega)⟩
      have HG : Hid (l.getD k 0 = x) := by show _ = _; rw [List.getD_eq_getElem?_getD, hx]; rfl
      obtain ⟨x0, x1⟩ := Hb.out x (List.mem_of_getElem? hx)
      rcases H.out with h0 | ⟨b, off, rfl, hbl, hat⟩
      · have := Hl.out; rw [h0] at this; simp at this; omega
      · have u1 := (hbel.cell (p := ⟨b, off + k, none⟩) hbl).trans (hat k x hx)
        have hcell : wr.cell? ⟨w.heap.size, k, none⟩ = some (.int .u8 0) := by rw [hrow.cell hlt, bRow_at]
        have hfz := hrow.frozen k
        clear hx hat
        go_wp2
        go_roundw
        case rel => exact ⟨k + 1, by omega, by go_num, (hrow.set k (.int .u8 x)).congr (fun j _ => bRow_set l k _ HG.out j), hbel.setCell (Nat.le_refl _) _⟩
        case measure => simp [intOf]; omega
    · obtain rfl : k = m := by omega
      have hR : BRow wr w.heap.size (.slice (some ⟨w.heap.size, 0, none⟩) k k) l := BRow.of_row (hrow.congr (fun i hi => by unfold bRow; rw [if_pos hi])) Hl.out (by unfold maxLen; omega) (Nat.le_refl _)
      go_wp2
      go_ret
      exact ⟨rfl, hR, hbel⟩
set_option maxHeartbeats 1000000 in
theorem eqCommandResult_same (w : World) (x0 x1 x2 x3 x4 x5 x6 : Int) :
    Calls Tryd.prog 31 #[.agg #[.int .i64 x0, .int .i64 x1, .int .i64 x2, .int .i64 x3, .int .i64 x4, .int .i64 x5, .int .i64 x6], .agg #[.int .i64 x0, .int .i64 x1, .int .i64 x2, .int .i64 x3, .int .i64 x4, .int .i64 x5, .int .i64 x6]] w fun e w' => e = .returned (.bool true) ∧ Below w.heap.size w w' := by
  go_enter Tryd.func31, Tryd.ntmps31
  go_wp2
  go_ret
  exact ⟨rfl, ((((Below.refl w.heap.size w).alloc (Nat.le_refl _) _).alloc (by simp only [size_new]; omega) _).alloc (by simp only [size_new]; omega) _).alloc (by simp only [size_new]; omega) _⟩
theorem rdV_seven (l : List Int) : ∃ v0 v1 v2 v3 v4 v5 v6 : Int, rdV l = #[.int .i64 v0, .int .i64 v1, .int .i64 v2, .int .i64 v3, .int .i64 v4, .int .i64 v5, .int .i64 v6] := by
  unfold rdV; split
  · exact ⟨_, _, _, _, _, _, _, rfl⟩
  · exact ⟨_, _, _, _, _, _, _, rfl⟩
set_option maxHeartbeats 4000000 in
theorem exactRead (a : Option Addr) (m cap : Nat) (l : List Int) (hl : l.length = m) (hm : m ≤ 1048576) (hb : Byt l) (w : World) (h : ArgB w a l) (hL : PcAt w) :
    Calls Tryd.prog 6 #[.slice a m cap] w fun e w' => e = .returned (.bool true) ∧ Below w.heap.size w w' := by
  have hbig : decide (1048576 < (m : Int)) = false := decide_eq_false (by omega)
  have cT := fun W h => toByteS_c a m cap l hl hm hb W h
  have c1 := fun g w hg hat => specReadCommand g m m l hl (Nat.le_refl _) hb w hg hat
  have c2 := fun g w hL hg hat => implReadCommand g m m l hl (Nat.le_refl _) (by unfold maxLen; omega) hb w hL hg hat
  obtain ⟨v0, v1, v2, v3, v4, v5, v6, hv⟩ := rdV_seven l
  rw [hv] at c1 c2
  clear hv hl hb
  go_enter Tryd.func6, Tryd.ntmps6
  go_wp2_with fail
  refine (cT _ h).mono ?_
  rintro e w1 ⟨rfl, O1, b1⟩
  go_wp2_with fail
  refine (c1 _ _ O1.lt.2 O1.at).mono ?_
  rintro e w2 ⟨rfl, k2⟩
  have A2 := b1.trans (k2.mono b1.size)
  have B2 := A2.alloc A2.size (.cells #[.int .i64 v0, .int .i64 v1, .int .i64 v2, .int .i64 v3, .int .i64 v4, .int .i64 v5, .int .i64 v6] 28)
  have T1 := Blk.new w2 #[.int .i64 v0, .int .i64 v1, .int .i64 v2, .int .i64 v3, .int .i64 v4, .int .i64 v5, .int .i64 v6] 28
  clear O1
  go_wp2_with fail
  refine (cT _ (h.later B2)).mono ?_
  rintro e w3 ⟨rfl, O3, k3⟩
  have A3 := B2.trans (k3.mono B2.size)
  replace T1 := T1.below k3
  generalize (w2.alloc (.cells #[.int .i64 v0, .int .i64 v1, .int .i64 v2, .int .i64 v3, .int .i64 v4, .int .i64 v5, .int .i64 v6] 28)).heap.size = G at O3 ⊢
  go_wp2_with fail
  refine (c2 _ _ (hL.later A3) O3.lt.2 O3.at).mono ?_
  rintro e w4 ⟨rfl, k4⟩
  have A4 := A3.trans (k4.mono A3.size)
  have B4 := A4.alloc A4.size (.cells #[.int .i64 v0, .int .i64 v1, .int .i64 v2, .int .i64 v3, .int .i64 v4, .int .i64 v5, .int .i64 v6] 28)
  replace T1 := T1.below k4
  have t0 := T1.cell (i := 0) rfl
  have t1 := T1.cell (i := 1) rfl
  have t2 := T1.cell (i := 2) rfl
  have t3 := T1.cell (i := 3) rfl
  have t4 := T1.cell (i := 4) rfl
  have t5 := T1.cell (i := 5) rfl
  have t6 := T1.cell (i := 6) rfl
  have tl := T1.lt
  replace O3 := (O3.below k4).alloc (.cells #[.int .i64 v0, .int .i64 v1, .int .i64 v2, .int .i64 v3, .int .i64 v4, .int .i64 v5, .int .i64 v6] 28)
  go_wp2_with fail
  refine (eqCommandResult_same _ v0 v1 v2 v3 v4 v5 v6).mono ?_
  rintro e w5 ⟨rfl, k5⟩
  have A5 := B4.trans (k5.mono B4.size)
  replace O3 := O3.below k5
  clear t0 t1 t2 t3 t4 t5 t6 tl T1
  go_wp2_with fail
  refine (cT _ (h.later A5)).mono ?_
  rintro e w6 ⟨rfl, O6, k6⟩
  have A6 := A5.trans (k6.mono A5.size)
  replace O3 := O3.below k6
  go_wp2_with fail
  refine (eqByteS_same w6 _ _ _ m _ m m l hm O3 O6).mono ?_
  rintro e w7 ⟨rfl, nq, rfl⟩
  go_wp2
  go_ret
  exact ⟨rfl, A6.trans ((below_drewN w6 nq).mono A6.size)⟩
theorem walk_fnExactReadCommand (a0 : Option Addr) (len0 cap0 : Nat) (z0 : List Int) (w : World) (w0 : IsRow .u8 w a0 len0 cap0 z0) (hL : PcAt w) :
    Calls Tryd.prog 6 #[.slice a0 len0 cap0] w fun e w' => e = .returned (.bool true) ∧ Below w.heap.size w w' := by
  by_cases hm : len0 ≤ 1048576
  · obtain ⟨l, hl, hb, h⟩ := argB_of_row w0
    exact exactRead a0 len0 cap0 l hl hm hb w h hL
  · have hbig : (1048576 : Int) < (len0 : Int) := by omega
    go_enter Tryd.func6, Tryd.ntmps6
    go_wp2
    go_ret
    exact ⟨rfl, Below.refl _ _⟩
end Go.Proofs.YtimpmfjlhpkibaaDoor
