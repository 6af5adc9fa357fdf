/- The model's fault and bytes of a command that lies in a list. No condition. -/
import Derived.Test.YtomnadmeolkagaaDoorSpecPack
import Derived.Test.YtomnadmeolkagaaDoorSameC2
namespace Go.Proofs.YtomnadmeolkagaaDoor
open Go.ChangeShapes Go.WideShapes Go.ChangeAt Go.RowKit
open Cm
set_option linter.unusedVariables false

/- A command at a place of a block of memory. -/
structure CmdO (w : World) (p o : Nat) (cl sq k a b c : Int) : Prop where
  c0 : w.cell? ⟨p, o, none⟩ = some (.int .i64 cl)
  c1 : w.cell? ⟨p, o + 1, none⟩ = some (.int .i64 sq)
  c2 : w.cell? ⟨p, o + 2, none⟩ = some (.int .i64 k)
  c3 : w.cell? ⟨p, o + 3, none⟩ = some (.int .i64 a)
  c4 : w.cell? ⟨p, o + 4, none⟩ = some (.int .i64 b)
  c5 : w.cell? ⟨p, o + 5, none⟩ = some (.int .i64 c)
  lt : p < w.heap.size
theorem CmdO.later {w w' : World} {p o : Nat} {cl sq k a b c : Int} (h : CmdO w p o cl sq k a b c) (hb : Below w.heap.size w w') : CmdO w' p o cl sq k a b c :=
  ⟨by rw [hb.cell h.lt]; exact h.c0, by rw [hb.cell h.lt]; exact h.c1, by rw [hb.cell h.lt]; exact h.c2, by rw [hb.cell h.lt]; exact h.c3, by rw [hb.cell h.lt]; exact h.c4, by rw [hb.cell h.lt]; exact h.c5, Nat.lt_of_lt_of_le h.lt hb.size⟩
theorem CAt.cmdO {w : World} {g off : Nat} {l : List K6} (h : CAt w g off l) (hg : g < w.heap.size) {i : Nat} {x : K6} (hi : l[i]? = some x) : CmdO w g (off + i * 6) x.c0 x.c1 x.c2 x.c3 x.c4 x.c5 :=
  let h' := h.six hi
  ⟨h'.1, h'.2.1, h'.2.2.1, h'.2.2.2.1, h'.2.2.2.2.1, h'.2.2.2.2.2, hg⟩
theorem l3ListO_c (p o : Nat) (cl sq k a b c : Int) (w : World) (h : CmdO w p o cl sq k a b c) :
    Calls Tryd.prog 19 #[.pointer (some ⟨p, o, none⟩)] w fun e w' => e = .returned (.slice (some ⟨w.heap.size, 0, none⟩) 3 3) ∧ w' = (w.alloc (.cells #[.int .i64 a, .int .i64 b, .int .i64 c] 2)).drew := by
  obtain ⟨c0, c1, c2, c3, c4, c5, lt⟩ := h
  go_enter Tryd.func19, Tryd.ntmps19
  go_wp2
  go_region
  all_goals
    go_wp2
    go_ret
    exact ⟨rfl, rfl⟩
set_option maxHeartbeats 4000000 in
theorem l3FaultO_c (p o : Nat) (cl sq k a b c : Int) (w : World) (h : CmdO w p o cl sq k a b c) :
    Calls Tryd.prog 10 #[.pointer (some ⟨p, o, none⟩)] w fun e w' => e = .returned (.int .i64 (flt cl sq k a b c)) ∧ Below w.heap.size w w' := by
  have hC := fun w h => l3ListO_c p o cl sq k a b c w h
  have h' := h
  obtain ⟨c0, c1, c2, c3, c4, c5, lt⟩ := h
  by_cases hh : (inb cl 0 5 && inb sq 1 999 && inb k 1 11) = false
  · rw [flt_head hh]
    have hx : inb cl 0 5 = false ∨ (inb cl 0 5 = true ∧ inb sq 1 999 = false) ∨ (inb cl 0 5 = true ∧ inb sq 1 999 = true ∧ inb k 1 11 = false) := by
      revert hh; cases inb cl 0 5 <;> cases inb sq 1 999 <;> cases inb k 1 11 <;> simp
    clear hh
    rcases hx with h1 | ⟨h1, h2⟩ | ⟨h1, h2, h3⟩
    all_goals
      go_enter Tryd.func10, Tryd.ntmps10
      go_wp2_with (first | (go_at_call 17; refine (l1In_c _ _ _ _).mono ?_; rintro e w' ⟨rfl, rfl⟩) | (go_at_call 18; refine (l3Kind_c _ _).mono ?_; rintro e w' ⟨rfl, rfl⟩))
      go_ret
      exact ⟨rfl, Below.refl _ _⟩
  · obtain ⟨h1, h2, h3⟩ : inb cl 0 5 = true ∧ inb sq 1 999 = true ∧ inb k 1 11 = true := by
      revert hh; cases inb cl 0 5 <;> cases inb sq 1 999 <;> cases inb k 1 11 <;> simp
    have hk := inb_i h3
    have hp : p ≠ w.heap.size := by omega
    rcases pc_cases k with hn | hn | hn | hn
    all_goals
      obtain ⟨N0, eN⟩ : ∃ N0, N0 = pc k := ⟨_, rfl⟩
      rw [flt_fl h1 h2 h3 eN.symm]
      rw [hn] at eN
      go_enter Tryd.func10, Tryd.ntmps10
      go_wp2_with (first | (go_at_call 17; refine (l1In_c _ _ _ _).mono ?_; rintro e w' ⟨rfl, rfl⟩) | (go_at_call 18; refine (l3Kind_c _ _).mono ?_; rintro e w' ⟨rfl, rfl⟩) | (go_at_call 19; refine (hC _ h').mono ?_; rintro e w' ⟨rfl, rfl⟩) | (go_at_call 20; refine (l3Params_c k hk.1 hk.2 _).mono ?_; rintro e w' ⟨rfl, rfl⟩; rw [hn]))
    all_goals
      repeat' (first | (refine wp_loop_rounds 4 ?_; rw [rounds_succ]; go_wp2_with (go_at_call 17; refine (l1In_c _ _ _ _).mono ?_; rintro e w' ⟨rfl, rfl⟩)) | (rw [rounds_succ]; go_wp2_with (go_at_call 17; refine (l1In_c _ _ _ _).mono ?_; rintro e w' ⟨rfl, rfl⟩)))
    all_goals
      go_ret
      refine ⟨?_, (((Below.refl _ _).alloc (Nat.le_refl _) _).alloc (by simp only [size_new]; omega) _).drew⟩
      go_light
      first
      | (have e : fl N0 a b c = 1 := by simp [fl, *]
         exact congrArg (fun x => Ending.returned (Value.int .i64 x)) e.symm)
      | (have e : fl N0 a b c = 3 := by simp [fl, *]
         exact congrArg (fun x => Ending.returned (Value.int .i64 x)) e.symm)
      | (have e : fl N0 a b c = 0 := by simp [fl, *]
         exact congrArg (fun x => Ending.returned (Value.int .i64 x)) e.symm)
theorem l3ListO_b (p o : Nat) (cl sq k a b c : Int) (w : World) (h : CmdO w p o cl sq k a b c) :
    Calls Tryd.prog 19 #[.pointer (some ⟨p, o, none⟩)] w fun e w' => e = .returned (.slice (some ⟨w.heap.size, 0, none⟩) 3 3) ∧ Blk w' w.heap.size #[.int .i64 a, .int .i64 b, .int .i64 c] 2 ∧ Below w.heap.size w w' :=
  (l3ListO_c p o cl sq k a b c w h).mono fun e w' ⟨he, hw⟩ => ⟨he, by rw [hw]; exact Blk.new w _ _, by rw [hw]; exact ((Below.refl _ _).alloc (Nat.le_refl _) _).drew⟩

set_option maxRecDepth 100000 in
set_option maxHeartbeats 4000000 in
theorem l3PackO_c (p o : Nat) (cl sq k a b c : Int) (h : flt cl sq k a b c = 0) (w : World) (hC : CmdO w p o cl sq k a b c) :
    Calls Tryd.prog 11 #[.pointer (some ⟨p, o, none⟩)] w fun e w' => ∃ g cap, e = .returned (.slice (some ⟨g, 0, none⟩) (6 + 3 * pc k) cap) ∧ BRow w' w.heap.size (.slice (some ⟨g, 0, none⟩) (6 + 3 * pc k) cap) (pk cl sq k a b c) ∧ Below w.heap.size w w' := by
  obtain ⟨h1, h2, h3, h4, h5, h6, a1, a2, b1, b2, z1, z2, _⟩ := flt_zero h
  have Hbd : Hid (∀ z ∈ body cl sq k a b c, 0 ≤ z ∧ z ≤ 255) := body_bd h
  have hpl := pc_le k
  have hC0 := hC
  obtain ⟨e0, e1, e2, e3, e4, e5, el⟩ := hC0
  clear h
  go_enter Tryd.func11, Tryd.ntmps11
  go_wp2
  go_region
  go_wp2_with fail
  have A1 : Below w.heap.size w (w.alloc (.cells #[.int .u8 cl, .int .u8 k, .int .u8 (sq / 256), .int .u8 (sq % 256)] 5)).drew := ((Below.refl _ _).alloc (Nat.le_refl _) _).drew
  have O1 : BRow (w.alloc (.cells #[.int .u8 cl, .int .u8 k, .int .u8 (sq / 256), .int .u8 (sq % 256)] 5)).drew w.heap.size (.slice (some ⟨w.heap.size, 0, none⟩) 4 4) (hd cl sq k) := World.ownsRow_lit w #[.int .u8 cl, .int .u8 k, .int .u8 (sq / 256), .int .u8 (sq % 256)] 4 (Nat.le_refl _) (by unfold maxLen; omega) rfl
  have cL := l3ListO_b p o cl sq k a b c _ (hC.later A1)
  refine cL.mono ?_
  clear cL
  rintro e w2 ⟨rfl, P2, q2⟩
  have A2 := A1.trans (q2.mono A1.size)
  have O2 := O1.below q2
  generalize (w.alloc (.cells #[.int .u8 cl, .int .u8 k, .int .u8 (sq / 256), .int .u8 (sq % 256)] 5)).drew.heap.size = G at P2 ⊢
  clear O1 A1 q2 e0 e1 e2 e3 e4 e5
  have HN : Hid (body cl sq k a b c = hd cl sq k ++ ps (pc k) a b c) := rfl
  have HP : Hid (pk cl sq k a b c = body cl sq k a b c ++ p2 (sm (body cl sq k a b c))) := rfl
  have HL : Hid ((body cl sq k a b c).length = 4 + 3 * pc k) := body_len cl sq k a b c
  have HK : Hid ((pk cl sq k a b c).length = 6 + 3 * pc k) := pk_len cl sq k a b c
  have cP := fun w => l3Params_c k h5 h6 w
  obtain ⟨n, hn⟩ : ∃ n, n = pc k := ⟨_, rfl⟩
  have Hn : Hid (n = pc k) := hn
  rw [← hn] at hpl HN HL HK cP
  clear hn
  go_wp2_with fail
  go_loopw [3, 5] (fun v i wr => ∃ j : Nat, j ≤ n ∧ i = .int .i64 j ∧ BRow wr w.heap.size v (hd cl sq k ++ ps j a b c) ∧ Below w.heap.size w wr ∧ Blk wr G #[.int .i64 a, .int .i64 b, .int .i64 c] 2) (fun _ i _ => n - (intOf i).toNat)
  case atStart => exact ⟨0, Nat.zero_le _, rfl, by rw [ps_0, List.append_nil]; exact O2, A2, P2⟩
  case round =>
    obtain ⟨j, hj, rfl, O4, A4, P4⟩ := hrel
    obtain ⟨e0, e1, e2, e3, e4, e5, el4⟩ := hC.later A4
    by_cases hlt : j < n
    · have hlt' : (j : Int) < (n : Int) := by omega
      have hj3 : (j : Int) < 3 := by omega
      obtain ⟨x, hx1, hx2, hx3⟩ := param_at (n := j) (a := a) (b := b) (c := c) (by omega)
      have x0 : 0 ≤ x ∧ x ≤ 1000000 := by rcases hx3 with rfl | rfl | rfl <;> omega
      have u1 := P4.cell hx2
      have HX : Hid (ps (j + 1) a b c = ps j a b c ++ p3 x) := by show _ = _; rw [ps_succ j (by omega), hx1]
      have hlen := hd_ps_len cl sq k j (by omega) a b c
      have gl := P4.lt
      clear hx1 hx2 hx3
      go_wp2_with fail
      refine (cP _).mono ?_
      rintro e w' ⟨rfl, rfl⟩
      go_wp2_with fail
      have hz2 : (wr.alloc pcO).heap.size = wr.heap.size + 1 := size_new _ _
      have W3 : Hid (IntKind.u8.wrap (IntKind.i64.wrap (x.tdiv 65536)) = x / 65536 ∧ IntKind.u8.wrap ((IntKind.i64.wrap (x.tdiv 256)).tmod 256) = x / 256 % 256 ∧ IntKind.u8.wrap (x.tmod 256) = x % 256) := wr3 x0.1 x0.2
      have hsz : w.heap.size ≤ wr.heap.size := A4.size
      go_region_law (refine step_push rfl (.tmp 41) (.tmp 61) rfl (wr.heap.size + 1) 3 [_, _, _] w.heap.size _ (hd cl sq k ++ ps j a b c) (by simp [Act.eval]) ((O4.alloc pcO).alloc _).drew (by simp [Act.eval]) rfl (three_new hz2) (by omega) (by show w.heap.size ≤ ((wr.alloc pcO).alloc _).heap.size; rw [size_new, size_new]; omega) ?_; intro v5 w5 O5 q5 k5)
      all_goals
        obtain ⟨W3a, W3b, W3c⟩ := W3.out
        have A5 : Below w.heap.size w w5 := (((A4.alloc A4.size pcO).alloc (by have := A4.size; rw [size_new]; omega) _).drew).trans q5
        have P5 := ((((P4.alloc pcO).alloc _).keeps (Keeps.drew _) (by decide)).keeps k5 (by decide))
        rw [W3a, W3b, W3c] at O5
        have O5' : Hid (BRow w5 w.heap.size v5 (hd cl sq k ++ ps (j + 1) a b c)) := by show BRow _ _ _ _; rw [HX.out, ← List.append_assoc]; exact O5
        clear O5 u1 W3a W3b W3c q5 k5
        go_wp2_with fail
        go_roundw
        case rel => exact ⟨j + 1, by omega, by go_num, O5'.out, A5, P5⟩
        case measure => simp [intOf]; omega
    · obtain rfl : j = n := by omega
      rw [← HN.out] at O4
      have hlen := HL.out
      obtain ⟨g, cap, hv, hg, hgl⟩ := O4.form (by omega)
      rw [hlen] at hv
      subst hv
      have c5 := l1Sum_c g 0 cap (4 + 3 * j) (body cl sq k a b c) hlen (by omega) Hbd.out _ (O4.alloc pcO).at
      have hsm := sm_bd (body cl sq k a b c)
      have HP2 : Hid (body cl sq k a b c ++ [sm (body cl sq k a b c) / 256, sm (body cl sq k a b c) % 256] = pk cl sq k a b c) := rfl
      have hlen' : Hid ((body cl sq k a b c).length = 4 + 3 * j) := hlen
      generalize sm (body cl sq k a b c) = S at c5 hsm HP2
      clear hlen
      go_wp2_with fail
      refine (cP _).mono ?_
      rintro e w' ⟨rfl, rfl⟩
      go_wp2_with fail
      refine c5.mono ?_
      rintro e w' ⟨rfl, rfl⟩
      go_wp2_with (at_builtin; refine wpList_pushG rfl _ _ rfl (wr.alloc pcO) (wr.heap.size + 1) (size_new _ _) [S / 256, S % 256] w.heap.size (.slice (some ⟨g, 0, none⟩) (4 + 3 * j) cap) (body cl sq k a b c) rfl (O4.alloc pcO) rfl (by have := hlen'.out; simp only [List.length_cons, List.length_nil]; omega) (by have := A4.size; rw [size_new]; omega) ?_)
      intro v6 w6 O6 q6 k6
      rw [HP2.out] at O6
      have A6 := (A4.alloc A4.size pcO).trans q6
      obtain ⟨g6, cap6, hv6, hg6, hgl6⟩ := O6.form (by have := HK.out; omega)
      rw [HK.out] at hv6
      rw [hv6] at O6 ⊢
      clear hv6 c5
      go_wp2
      go_ret
      exact ⟨g6, cap6, by rw [← Hn.out]; rfl, by rw [← Hn.out]; exact O6, A6⟩
end Go.Proofs.YtomnadmeolkagaaDoor
