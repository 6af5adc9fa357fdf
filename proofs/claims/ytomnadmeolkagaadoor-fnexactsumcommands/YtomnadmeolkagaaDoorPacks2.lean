/- The contract of PackCommand where the command has no fault: its bytes, in memory of the call's own. Condition: the table of counts holds what its initialiser lays. -/
import Derived.Test.YtomnadmeolkagaaDoorPacks
namespace Go.Proofs.YtomnadmeolkagaaDoor
open Go.ChangeShapes Go.WideShapes Go.ChangeAt Go.RowKit
open Cm
set_option linter.unusedVariables false

theorem param_at {n : Nat} {a b c : Int} (hn : n < 3) : ∃ x, ([a, b, c] : List Int).getD n 0 = x ∧ (#[Value.int .i64 a, .int .i64 b, .int .i64 c] : Array Value)[n]? = some (.int .i64 x) ∧ (x = a ∨ x = b ∨ x = c) := by
  match n, hn with
  | 0, _ => exact ⟨a, rfl, rfl, .inl rfl⟩
  | 1, _ => exact ⟨b, rfl, rfl, .inr (.inl rfl)⟩
  | 2, _ => exact ⟨c, rfl, rfl, .inr (.inr rfl)⟩
theorem hd_ps_len (cl sq k : Int) (j : Nat) (hj : j ≤ 3) (a b c : Int) : (hd cl sq k ++ ps j a b c).length = 4 + 3 * j := by
  rw [List.length_append, ps_len j hj]; rfl
theorem body_bd {cl sq k a b c : Int} (h : flt cl sq k a b c = 0) : ∀ z ∈ body cl sq k a b c, 0 ≤ z ∧ z ≤ 255 := fun z hz => pk_bd h z (List.mem_append_left _ hz)

theorem BRow.setOther {w : World} {base g n cap : Nat} {l : List Int} (h : BRow w base (.slice (some ⟨g, 0, none⟩) n cap) l) {a : Addr} (hne : g ≠ a.block) (v : Value) : BRow (w.setCell a v) base (.slice (some ⟨g, 0, none⟩) n cap) l := by
  refine ⟨h.1, ?_⟩
  rcases h.2 with h0 | ⟨g', cap', cur, hv, hb', hg, r⟩
  · exact .inl h0
  · refine .inr ⟨g', cap', cur, hv, hb', ?_, r⟩
    simp only [Value.slice.injEq, Option.some.injEq, Addr.mk.injEq, and_true] at hv
    rw [Below.heap_setCell _ _ _ _ (by rw [← hv.1]; exact hne)]; exact hg
set_option maxRecDepth 100000 in
set_option maxHeartbeats 4000000 in
theorem implPack_yes (cl sq k a b c : Int) (h : flt cl sq k a b c = 0) (w : World) (hL : PcAt w) :
    Calls Tryd.prog 14 #[.agg (cmdV cl sq k a b c)] w fun e w' => ∃ g cap, e = .returned (.agg #[.int .i64 0, .slice (some ⟨g, 0, none⟩) (6 + 3 * pc k) cap]) ∧ BRow w' w.heap.size (.slice (some ⟨g, 0, none⟩) (6 + 3 * pc k) cap) (pk cl sq k a b c) ∧ Below w.heap.size w w' := by
  have c1 := fun w hL => implCommandFault cl sq k a b c w hL
  rw [h] at c1
  obtain ⟨h1, h2, h3, h4, h5, h6, a1, a2, b1, b2, z1, z2, _⟩ := flt_zero h
  have Hbd : Hid (∀ z ∈ body cl sq k a b c, 0 ≤ z ∧ z ≤ 255) := body_bd h
  have c2 := fun w hL => paramsIn_c cl sq k a b c h5 h6 w hL
  have hpl := pc_le k
  have A0 : Below w.heap.size w ((w.alloc (.cells (cmdV cl sq k a b c) 36)).alloc (.cells #[.int .i64 0, .slice none 0 0] 42)) := ((Below.refl w.heap.size w).alloc (Nat.le_refl _) _).alloc (by simp only [size_new]; omega) _
  have R0 := Blk.new (w.alloc (.cells (cmdV cl sq k a b c) 36)) #[.int .i64 0, .slice none 0 0] 42
  rw [size_new] at R0
  have C0 := (Blk.new w (cmdV cl sq k a b c) 36).alloc (.cells #[.int .i64 0, .slice none 0 0] 42)
  clear h
  go_enter Tryd.func14, Tryd.ntmps14
  go_wp2_with fail
  refine (c1 _ (hL.later A0)).mono ?_
  rintro e w1 ⟨rfl, q1⟩
  have A1 := A0.trans (q1.mono A0.size)
  have R1 := R0.below q1
  have C1 := C0.below q1
  obtain ⟨e0, e1, e2, e3, e4, e5, el⟩ := C1.cmd
  go_wp2_with fail
  have O1 : BRow (w1.alloc (.cells #[.int .u8 cl, .int .u8 k] 5)) w.heap.size (.slice (some ⟨w1.heap.size, 0, none⟩) 2 2) [cl, k] := World.ownsRow_lit w1 #[.int .u8 cl, .int .u8 k] 2 A1.size (by unfold maxLen; omega) rfl
  refine (appendNumber_2 sq (by omega) (by omega) w.heap.size _ [cl, k] (by simp) _ (by have := A1.size; rw [size_new]; omega) O1).mono ?_
  rintro e w2 ⟨v2, rfl, O2, q2, k2⟩
  replace k2 := (Keeps.alloc w1 _).trans k2
  have A2 := (A1.alloc A1.size (.cells #[.int .u8 cl, .int .u8 k] 5)).trans q2
  have R2 := R1.keeps k2 (by decide)
  have C2 := C1.keeps k2 (by decide)
  clear e0 e1 e2 e3 e4 e5 el O1 q2 k2
  obtain ⟨e0, e1, e2, e3, e4, e5, el⟩ := C2.cmd
  go_wp2_with fail
  refine (c2 _ (hL.later A2)).mono ?_
  rintro e w3 ⟨rfl, rfl⟩
  have A3 := (A2.alloc A2.size (.cells (cmdV cl sq k a b c) 36)).alloc (by have := A2.size; rw [size_new]; omega) (.cells #[.int .i64 a, .int .i64 b, .int .i64 c] 54)
  have R3 := (R2.alloc (.cells (cmdV cl sq k a b c) 36)).alloc (.cells #[.int .i64 a, .int .i64 b, .int .i64 c] 54)
  have P3 := Blk.new (w2.alloc (.cells (cmdV cl sq k a b c) 36)) #[.int .i64 a, .int .i64 b, .int .i64 c] 54
  rw [size_new] at P3
  have O3 := (O2.alloc (.cells (cmdV cl sq k a b c) 36)).alloc (.cells #[.int .i64 a, .int .i64 b, .int .i64 c] 54)
  clear e0 e1 e2 e3 e4 e5 el O2 R2 C2 A2 c1 c2
  have HN : Hid (body cl sq k a b c = hd cl sq k ++ ps (pc k) a b c) := rfl
  have HP : Hid (pk cl sq k a b c = body cl sq k a b c ++ p2 (sm (body cl sq k a b c))) := rfl
  have HL : Hid ((body cl sq k a b c).length = 4 + 3 * pc k) := body_len cl sq k a b c
  have HK : Hid ((pk cl sq k a b c).length = 6 + 3 * pc k) := pk_len cl sq k a b c
  obtain ⟨n, hn⟩ : ∃ n, n = pc k := ⟨_, rfl⟩
  rw [← hn] at hpl HN HL HK ⊢
  have Hn : Hid (n = pc k) := hn
  clear hn
  go_wp2_with fail
  go_loopw [4, 27] (fun v i wr => ∃ j : Nat, j ≤ n ∧ i = .int .i64 j ∧ BRow wr w.heap.size v (hd cl sq k ++ ps j a b c) ∧ Below w.heap.size w wr ∧ Blk wr (w.heap.size + 1) #[.int .i64 0, .slice none 0 0] 42 ∧ Blk wr (w2.heap.size + 1) #[.int .i64 a, .int .i64 b, .int .i64 c] 54) (fun _ i _ => n - (intOf i).toNat)
  case atStart => exact ⟨0, Nat.zero_le _, rfl, O3, A3, R3, P3⟩
  case round =>
    obtain ⟨j, hj, rfl, O4, A4, R4, P4⟩ := hrel
    by_cases hlt : j < n
    · have hlt' : (j : Int) < (n : Int) := by omega
      obtain ⟨x, hx1, hx2, hx3⟩ := param_at (n := j) (a := a) (b := b) (c := c) (by omega)
      have x0 : 0 ≤ x ∧ x ≤ 1000000 := by rcases hx3 with rfl | rfl | rfl <;> omega
      have u1 := P4.cell hx2
      have HX : Hid (ps (j + 1) a b c = ps j a b c ++ p3 x) := by show _ = _; rw [ps_succ j (by omega), hx1]
      have hlen := hd_ps_len cl sq k j (by omega) a b c
      have cA := appendNumber_3 x x0.1 x0.2 w.heap.size _ _ (by omega) _ A4.size O4
      clear hx1 hx2 hx3 hlen
      go_wp2_with fail
      refine cA.mono ?_
      rintro e w5 ⟨v5, rfl, O5, q5, k5⟩
      have A5 := A4.trans q5
      have R5 := R4.keeps k5 (by decide)
      have P5 := P4.keeps k5 (by decide)
      have O5' : Hid (BRow w5 w.heap.size v5 (hd cl sq k ++ ps (j + 1) a b c)) := by show BRow _ _ _ _; rw [HX.out, ← List.append_assoc]; exact O5
      clear O5 u1
      go_wp2_with fail
      go_roundw
      case rel => exact ⟨j + 1, by omega, by go_num, O5'.out, A5, R5, P5⟩
      case measure => simp [intOf]; omega
    · obtain rfl : j = n := by omega
      rw [← HN.out] at O4
      have hlen := HL.out
      obtain ⟨g, cap, hv, hg, hgl⟩ := O4.form (by omega)
      rw [hlen] at hv
      subst hv
      have c5 := sumOf_c g 0 cap (4 + 3 * j) (body cl sq k a b c) hlen (by omega) Hbd.out wr O4.at
      have hsm := sm_bd (body cl sq k a b c)
      have c6 := appendNumber_2 (sm (body cl sq k a b c)) hsm.1 (by omega) w.heap.size _ _ (by omega) wr A4.size O4
      rw [← HP.out] at c6
      generalize sm (body cl sq k a b c) = S at c5 c6 hsm
      clear hlen O4
      go_wp2_with fail
      refine c5.mono ?_
      rintro e w' ⟨rfl, rfl⟩
      go_wp2_with fail
      refine c6.mono ?_
      rintro e w6 ⟨v6, rfl, O6, q6, k6⟩
      have A6 := A4.trans q6
      have R6 := R4.keeps k6 (by decide)
      obtain ⟨g6, cap6, hv6, hg6, hgl6⟩ := O6.form (by have := HK.out; omega)
      rw [HK.out] at hv6
      rw [hv6] at O6 ⊢
      have hne : g6 ≠ w.heap.size + 1 := by
        intro e
        rcases O6.2 with ⟨h0, _⟩ | ⟨g', cap', cur, hv, _, hgg, _⟩
        · cases h0
        · simp only [Value.slice.injEq, Option.some.injEq, Addr.mk.injEq, and_true] at hv
          rw [← hv.1, e] at hgg
          have := R6.symm.trans hgg
          simp at this
      have r0 := R6.cell (i := 0) rfl
      have r1 := R6.cell (i := 1) rfl
      have f0 := R6.frozen 0
      have f1 := R6.frozen 1
      have rl := R6.lt
      clear hv6 c5 c6
      go_wp2
      refine bodyPost_ret (v := .agg #[.int .i64 0, .slice (some ⟨g6, 0, none⟩) (6 + 3 * j) cap6]) ?_ rfl ⟨g6, cap6, by rw [← Hn.out], ?_, ?_⟩
      · simp [results, Tryd.results14, go_sem, r0, r1]
        done
      · rw [← Hn.out]; exact (O6.setOther (by exact hne) _).setOther (by exact hne) _
      · exact (A6.setCell (by show w.heap.size ≤ w.heap.size + 1; omega) _).setCell (by show w.heap.size ≤ w.heap.size + 1; omega) _
end Go.Proofs.YtomnadmeolkagaaDoor
