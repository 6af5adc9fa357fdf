/- The contract of the model's l3Pack, and of the model of PackCommand where the command has no fault. No condition. -/
import Derived.Test.YtomnadmeolkagaaDoorPacks2
import Derived.BigRegion
import Derived.Deep.RegionLaw
namespace Go.Proofs.YtomnadmeolkagaaDoor
open Go.ChangeShapes Go.WideShapes Go.ChangeAt Go.RowKit
open Cm
set_option linter.unusedVariables false

/- append of bytes to a row of one's own, as one step of a region that draws its order -/
theorem step_push {ops : Array Oper} {o : Oper} {a : Act} {W : World} {K : Act → World → Prop} {Q : Exit → Act → World → Prop} {E : Prop} (hgd : o.guard = none) (s x : Operand)
    (ho : o.op = .call { callee := .builtin .append, args := #[s, x], argTypes := #[32, 32] }) (G m : Nat) (b : List Int) (base : Nat) (v : Value) (l : List Int) (hs : a.eval s = v) (hown : BRow W base v l)
    (hx : a.eval x = .slice (some ⟨G, 0, none⟩) m m) (hm : b.length = m) (hc : ∀ i z, b[i]? = some z → W.cell? ⟨G, i, none⟩ = some (.int .u8 z)) (hlen : l.length + m ≤ 1000) (hbase : base ≤ W.heap.size)
    (h : ∀ v' w', BRow w' base v' (l ++ b) → Below base W w' → Keeps W w' → K (a.put o.dst v') w') :
    if Region.wanted o (yielded ops a.tmps) = true then Oper.wp Tryd.prog o a W K Q else E := by
  have hw : Region.wanted o (yielded ops a.tmps) = true := by simp [Region.wanted, hgd]
  rw [if_pos hw]
  obtain ⟨i0, hi, hz0, hz1, hz2⟩ := info_parts info8
  subst hm
  refine wp_append_own _ s x 32 ho base 5 i0 (.int .u8 0) 1 1 Tryd.underlying32 hi hz0 hz1 hz2 rfl (by decide) v l.length _ hs hown ⟨G, 0, none⟩ b.length b.length (b.map (Value.int .u8)) hx (by simp) ?_ ?_ (by unfold maxLen; omega) (by omega) hbase ?_
  · intro j u hj
    have e : (⟨G, 0, none⟩ : Addr).add j = ⟨G, j, none⟩ := by unfold Addr.add; split <;> simp_all
    rw [e]
    rw [List.getElem?_map] at hj
    cases hb : b[j]? with
    | none => rw [hb] at hj; cases hj
    | some z => rw [hb] at hj; cases hj; exact hc j z hb
  · intro u hu
    obtain ⟨z, _, rfl⟩ := List.mem_map.1 hu
    rfl
  · intro v' w' h1 h2 _
    exact h v' w' (BRow.push h1) ((Below.refl base W).grown h2 hbase (fun k' hk' => (hown.lt k' hk').1)) (Keeps.of_grown hown h2)

theorem wpList_pushG {ops : Array Oper} {rest : List Oper} {o : Oper} {a : Act} {Q : Exit → Act → World → Prop} (hgd : o.guard = none) (s x : Operand)
    (ho : o.op = .call { callee := .builtin .append, args := #[s, x], argTypes := #[32, 32] }) (w0 : World) (G : Nat) (hG : w0.heap.size = G) (b : List Int) (base : Nat) (v : Value) (l : List Int) (hs : a.eval s = v) (hown : BRow w0 base v l)
    (hx : a.eval x = .slice (some ⟨G, 0, none⟩) b.length b.length) (hlen : l.length + b.length ≤ 1000) (hbase : base ≤ w0.heap.size)
    (h : ∀ v' w', BRow w' base v' (l ++ b) → Below base w0 w' → Keeps w0 w' → wpList Tryd.prog ops Q rest (a.put o.dst v') w') :
    wpList Tryd.prog ops Q (o :: rest) a (w0.alloc (.cells (b.map (Value.int .u8)).toArray 5)) := by
  subst hG
  exact wpList_push hgd s x ho w0 b base v l hs hown hx hlen hbase h
theorem three_new {w : World} {G : Nat} {z0 z1 z2 : Int} (hG : w.heap.size = G) : ∀ (i : Nat) (z : Int), [z0, z1, z2][i]? = some z → (w.alloc (.cells #[.int .u8 z0, .int .u8 z1, .int .u8 z2] 5)).drew.cell? ⟨G, i, none⟩ = some (.int .u8 z) := by
  subst hG
  intro i z hi
  rw [World.cell?_drew]
  match i, hi with
  | 0, hi => cases hi; exact cell_new _ _ _ _ _ rfl
  | 1, hi => cases hi; exact cell_new _ _ _ _ _ rfl
  | 2, hi => cases hi; exact cell_new _ _ _ _ _ rfl
theorem wr3 {x : Int} (h0 : 0 ≤ x) (h1 : x ≤ 1000000) : IntKind.u8.wrap (IntKind.i64.wrap (x.tdiv 65536)) = x / 65536 ∧ IntKind.u8.wrap ((IntKind.i64.wrap (x.tdiv 256)).tmod 256) = x / 256 % 256 ∧ IntKind.u8.wrap (x.tmod 256) = x % 256 := by
  have e : IntKind.i64.wrap (x.tdiv 256) = x / 256 := by rw [Int.tdiv_eq_ediv_of_nonneg h0, IntKind.wrap_i64]; omega
  refine ⟨?_, ?_, ?_⟩
  · rw [Int.tdiv_eq_ediv_of_nonneg h0, IntKind.wrap_i64, IntKind.wrap_u8']; omega
  · rw [e, Int.tmod_eq_emod_of_nonneg (by omega), IntKind.wrap_u8']; omega
  · rw [Int.tmod_eq_emod_of_nonneg h0, IntKind.wrap_u8']; omega
theorem BRow.drew {w : World} {base : Nat} {v : Value} {l : List Int} (h : BRow w base v l) : BRow w.drew base v l := h
theorem l3List_b (p : Nat) (cl sq k a b c : Int) (w : World) (h : Cmd w p cl sq k a b c) :
    Calls Tryd.prog 19 #[.pointer (some ⟨p, 0, none⟩)] w fun e w' => e = .returned (.slice (some ⟨w.heap.size, 0, none⟩) 3 3) ∧ Blk w' w.heap.size #[.int .i64 a, .int .i64 b, .int .i64 c] 2 ∧ Below w.heap.size w w' :=
  (l3List_c p cl sq k a b c w h).mono fun e w' ⟨he, hw⟩ => ⟨he, by rw [hw]; exact Blk.new w _ _, by rw [hw]; exact ((Below.refl _ _).alloc (Nat.le_refl _) _).drew⟩

set_option maxRecDepth 100000 in
set_option maxHeartbeats 4000000 in
theorem l3Pack_c (p : Nat) (cl sq k a b c : Int) (t : TypeId) (h : flt cl sq k a b c = 0) (w : World) (hC : Blk w p (cmdV cl sq k a b c) t) (ht : t ≠ 5) :
    Calls Tryd.prog 11 #[.pointer (some ⟨p, 0, none⟩)] w fun e w' => ∃ g cap, e = .returned (.slice (some ⟨g, 0, none⟩) (6 + 3 * pc k) cap) ∧ BRow w' w.heap.size (.slice (some ⟨g, 0, none⟩) (6 + 3 * pc k) cap) (pk cl sq k a b c) ∧ Below w.heap.size w w' := by
  obtain ⟨h1, h2, h3, h4, h5, h6, a1, a2, b1, b2, z1, z2, _⟩ := flt_zero h
  have Hbd : Hid (∀ z ∈ body cl sq k a b c, 0 ≤ z ∧ z ≤ 255) := body_bd h
  have hpl := pc_le k
  obtain ⟨e0, e1, e2, e3, e4, e5, el⟩ := hC.cmd
  clear h
  go_enter Tryd.func11, Tryd.ntmps11
  go_wp2
  go_region
  go_wp2_with fail
  have A1 : Below w.heap.size w (w.alloc (.cells #[.int .u8 cl, .int .u8 k, .int .u8 (sq / 256), .int .u8 (sq % 256)] 5)).drew := ((Below.refl _ _).alloc (Nat.le_refl _) _).drew
  have O1 : BRow (w.alloc (.cells #[.int .u8 cl, .int .u8 k, .int .u8 (sq / 256), .int .u8 (sq % 256)] 5)).drew w.heap.size (.slice (some ⟨w.heap.size, 0, none⟩) 4 4) (hd cl sq k) := World.ownsRow_lit w #[.int .u8 cl, .int .u8 k, .int .u8 (sq / 256), .int .u8 (sq % 256)] 4 (Nat.le_refl _) (by unfold maxLen; omega) rfl
  have cL := l3List_b p cl sq k a b c _ (hC.below A1).cmd
  refine cL.mono ?_
  clear cL
  rintro e w2 ⟨rfl, P2, q2⟩
  have A2 := A1.trans (q2.mono A1.size)
  have O2 := O1.below q2
  generalize (w.alloc (.cells #[.int .u8 cl, .int .u8 k, .int .u8 (sq / 256), .int .u8 (sq % 256)] 5)).drew.heap.size = G at P2 ⊢
  clear O1 A1 q2 e0 e1 e2 e3 e4 e5
  have HN : Hid (body cl sq k a b c = hd cl sq k ++ ps (pc k) a b c) := rfl
  have HP : Hid (pk cl sq k a b c = body cl sq k a b c ++ p2 (sm (body cl sq k a b c))) := rfl
  have HL : Hid ((body cl sq k a b c).length = 4 + 3 * pc k) := body_len cl sq k a b c
  have HK : Hid ((pk cl sq k a b c).length = 6 + 3 * pc k) := pk_len cl sq k a b c
  have cP := fun w => l3Params_c k h5 h6 w
  obtain ⟨n, hn⟩ : ∃ n, n = pc k := ⟨_, rfl⟩
  have Hn : Hid (n = pc k) := hn
  rw [← hn] at hpl HN HL HK cP
  clear hn
  go_wp2_with fail
  go_loopw [3, 5] (fun v i wr => ∃ j : Nat, j ≤ n ∧ i = .int .i64 j ∧ BRow wr w.heap.size v (hd cl sq k ++ ps j a b c) ∧ Below w.heap.size w wr ∧ Blk wr G #[.int .i64 a, .int .i64 b, .int .i64 c] 2) (fun _ i _ => n - (intOf i).toNat)
  case atStart => exact ⟨0, Nat.zero_le _, rfl, by rw [ps_0, List.append_nil]; exact O2, A2, P2⟩
  case round =>
    obtain ⟨j, hj, rfl, O4, A4, P4⟩ := hrel
    obtain ⟨e0, e1, e2, e3, e4, e5, el4⟩ := (hC.below A4).cmd
    by_cases hlt : j < n
    · have hlt' : (j : Int) < (n : Int) := by omega
      have hj3 : (j : Int) < 3 := by omega
      obtain ⟨x, hx1, hx2, hx3⟩ := param_at (n := j) (a := a) (b := b) (c := c) (by omega)
      have x0 : 0 ≤ x ∧ x ≤ 1000000 := by rcases hx3 with rfl | rfl | rfl <;> omega
      have u1 := P4.cell hx2
      have HX : Hid (ps (j + 1) a b c = ps j a b c ++ p3 x) := by show _ = _; rw [ps_succ j (by omega), hx1]
      have hlen := hd_ps_len cl sq k j (by omega) a b c
      have gl := P4.lt
      clear hx1 hx2 hx3
      go_wp2_with fail
      refine (cP _).mono ?_
      rintro e w' ⟨rfl, rfl⟩
      go_wp2_with fail
      have hz2 : (wr.alloc pcO).heap.size = wr.heap.size + 1 := size_new _ _
      have W3 : Hid (IntKind.u8.wrap (IntKind.i64.wrap (x.tdiv 65536)) = x / 65536 ∧ IntKind.u8.wrap ((IntKind.i64.wrap (x.tdiv 256)).tmod 256) = x / 256 % 256 ∧ IntKind.u8.wrap (x.tmod 256) = x % 256) := wr3 x0.1 x0.2
      have hsz : w.heap.size ≤ wr.heap.size := A4.size
      go_region_law (refine step_push rfl (.tmp 41) (.tmp 61) rfl (wr.heap.size + 1) 3 [_, _, _] w.heap.size _ (hd cl sq k ++ ps j a b c) (by simp [Act.eval]) ((O4.alloc pcO).alloc _).drew (by simp [Act.eval]) rfl (three_new hz2) (by omega) (by show w.heap.size ≤ ((wr.alloc pcO).alloc _).heap.size; rw [size_new, size_new]; omega) ?_; intro v5 w5 O5 q5 k5)
      all_goals
        obtain ⟨W3a, W3b, W3c⟩ := W3.out
        have A5 : Below w.heap.size w w5 := (((A4.alloc A4.size pcO).alloc (by have := A4.size; rw [size_new]; omega) _).drew).trans q5
        have P5 := ((((P4.alloc pcO).alloc _).keeps (Keeps.drew _) (by decide)).keeps k5 (by decide))
        rw [W3a, W3b, W3c] at O5
        have O5' : Hid (BRow w5 w.heap.size v5 (hd cl sq k ++ ps (j + 1) a b c)) := by show BRow _ _ _ _; rw [HX.out, ← List.append_assoc]; exact O5
        clear O5 u1 W3a W3b W3c q5 k5
        go_wp2_with fail
        go_roundw
        case rel => exact ⟨j + 1, by omega, by go_num, O5'.out, A5, P5⟩
        case measure => simp [intOf]; omega
    · obtain rfl : j = n := by omega
      rw [← HN.out] at O4
      have hlen := HL.out
      obtain ⟨g, cap, hv, hg, hgl⟩ := O4.form (by omega)
      rw [hlen] at hv
      subst hv
      have c5 := l1Sum_c g 0 cap (4 + 3 * j) (body cl sq k a b c) hlen (by omega) Hbd.out _ (O4.alloc pcO).at
      have hsm := sm_bd (body cl sq k a b c)
      have HP2 : Hid (body cl sq k a b c ++ [sm (body cl sq k a b c) / 256, sm (body cl sq k a b c) % 256] = pk cl sq k a b c) := rfl
      have hlen' : Hid ((body cl sq k a b c).length = 4 + 3 * j) := hlen
      generalize sm (body cl sq k a b c) = S at c5 hsm HP2
      clear hlen
      go_wp2_with fail
      refine (cP _).mono ?_
      rintro e w' ⟨rfl, rfl⟩
      go_wp2_with fail
      refine c5.mono ?_
      rintro e w' ⟨rfl, rfl⟩
      go_wp2_with (at_builtin; refine wpList_pushG rfl _ _ rfl (wr.alloc pcO) (wr.heap.size + 1) (size_new _ _) [S / 256, S % 256] w.heap.size (.slice (some ⟨g, 0, none⟩) (4 + 3 * j) cap) (body cl sq k a b c) rfl (O4.alloc pcO) rfl (by have := hlen'.out; simp only [List.length_cons, List.length_nil]; omega) (by have := A4.size; rw [size_new]; omega) ?_)
      intro v6 w6 O6 q6 k6
      rw [HP2.out] at O6
      have A6 := (A4.alloc A4.size pcO).trans q6
      obtain ⟨g6, cap6, hv6, hg6, hgl6⟩ := O6.form (by have := HK.out; omega)
      rw [HK.out] at hv6
      rw [hv6] at O6 ⊢
      clear hv6 c5
      go_wp2
      go_ret
      exact ⟨g6, cap6, by rw [← Hn.out]; rfl, by rw [← Hn.out]; exact O6, A6⟩
end Go.Proofs.YtomnadmeolkagaaDoor
