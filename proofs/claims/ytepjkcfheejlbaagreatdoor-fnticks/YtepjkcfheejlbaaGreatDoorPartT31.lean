/- Texts of mine put together (a claim holds at most 60 files): Marks2. -/
import Derived.Test.YtepjkcfheejlbaaGreatDoorPartT13
import Derived.Test.YtepjkcfheejlbaaGreatDoorPartT12

/- Marks2 -/
/- Contracts of the exact laws' marks, and of their comparison, on lists that a call has made (with spare room behind them). Condition: the lists have at most 1000 members. -/
section
namespace Go.Proofs.YtepjkcfheejlbaaGreatDoor
open Go.ChangeShapes Go.WideShapes Go.ChangeAt Go.RowKit
set_option linter.unusedVariables false

/- a list that bears the marks from k0 on -/
def MkdU (w : World) (v : Value) (m : Nat) (k0 : Int) : Prop := (m = 0 ∧ ∃ a c, v = .slice a 0 c) ∨ (∃ g cap N f, v = .slice (some ⟨g, 0, none⟩) m cap ∧ m * 10 ≤ N ∧ w.rowIs g 87 N f ∧ ∀ i, i < m * 10 → f i = .int .i64 (k0 + (i : Int)))
theorem MkdU.form {w : World} {v : Value} {m : Nat} {k0 : Int} (h : MkdU w v m k0) : ∃ a c, v = .slice a m c := by
  rcases h with ⟨rfl, a, c, h⟩ | ⟨g, cap, N, f, h, _⟩
  · exact ⟨a, c, h⟩
  · exact ⟨_, _, h⟩
theorem MkdU.of_block {w w' : World} {v : Value} {m : Nat} {k0 : Int} (h : MkdU w v m k0) (he : ∀ b, v.ownBlock = some b → b < w.heap.size → w'.heap[b]? = w.heap[b]?) : MkdU w' v m k0 := by
  rcases h with h | ⟨g, cap, N, f, h, hN, r, hf⟩
  · exact .inl h
  · exact .inr ⟨g, cap, N, f, h, hN, r.of_block (he g (by rw [h]; rfl) r.lt), hf⟩
theorem MkdU.later {w w' : World} {v : Value} {m : Nat} {k0 : Int} (h : MkdU w v m k0) (hb : Below w.heap.size w w') : MkdU w' v m k0 := h.of_block (fun b _ hl => hb.block b hl)
theorem SlU.cases {w : World} {base : Nat} {v : Value} {l : List K10} (s : SlU w base v l) : (l = [] ∧ ∃ a cap, v = .slice a 0 cap) ∨ (l ≠ [] ∧ ∃ g cap N f, v = .slice (some ⟨g, 0, none⟩) l.length cap ∧ base ≤ g ∧ l.length * 10 ≤ N ∧ w.rowIs g 87 N f ∧ UAt w g 0 l ∧ ∀ i, i < l.length * 10 → ∃ z : Int, f i = .int .i64 z) := by
  by_cases h : l = []
  · subst h
    obtain ⟨a, cap, hv, _⟩ := s.form
    exact .inl ⟨rfl, a, cap, hv⟩
  · obtain ⟨g, cap, N, f, hv, hb, hN, r, _⟩ := s.row h
    obtain ⟨a, cap', hv', hA⟩ := s.form
    rcases hA with h0 | ⟨b, off, rfl, hlt, hat⟩
    · exact absurd h0 h
    rw [hv] at hv'
    simp only [Value.slice.injEq, Option.some.injEq, Addr.mk.injEq] at hv'
    obtain ⟨⟨rfl, rfl, _⟩, _, _⟩ := hv'
    refine .inr ⟨h, g, cap, N, f, hv, hb, hN, r, hat, fun i hi => ?_⟩
    have hq : i / 10 < l.length := by omega
    have e := hat (i / 10) l[i / 10] (List.getElem?_eq_getElem hq) (i % 10) (Nat.mod_lt _ (by omega))
    have e2 : 0 + i / 10 * 10 + i % 10 = i := by omega
    rw [e2, r.cell (by omega)] at e
    exact ⟨_, Option.some.inj e⟩
theorem eqUnitS_zero (a1 a2 : Option Addr) (c1 c2 : Nat) (w : World) :
    Calls Tryz.prog 62 #[.slice a1 0 c1, .slice a2 0 c2] w fun e w' => e = .returned (.bool true) ∧ Below w.heap.size w w' := by
  go_enter Tryz.func62, Tryz.ntmps62
  go_wp2
  refine wp_loop_rounds 1 ?_
  rw [rounds_succ]
  go_wp2
  go_ret
  exact ⟨rfl, Below.refl _ _⟩
theorem markUnitS_zero (a : Option Addr) (c : Nat) (k0 : Int) (w : World) :
    Calls Tryz.prog 64 #[.slice a 0 c, .int .i64 k0] w fun e w' => e = .returned (.int .i64 k0) ∧ w' = w := by
  go_enter Tryz.func64, Tryz.ntmps64
  go_wp2
  refine wp_loop_rounds 1 ?_
  rw [rounds_succ]
  go_wp2
  go_ret
  exact ⟨rfl, rfl⟩
theorem heldUnitS_zero (a : Option Addr) (c : Nat) (k0 : Int) (w : World) :
    Calls Tryz.prog 95 #[.slice a 0 c, .int .i64 k0] w fun e w' => e = .returned (.int .i64 k0) ∧ w' = w := by
  go_enter Tryz.func95, Tryz.ntmps95
  go_wp2
  refine wp_loop_rounds 1 ?_
  rw [rounds_succ]
  go_wp2
  go_ret
  exact ⟨rfl, rfl⟩
theorem eqUnitS_own (v1 v2 : Value) (l : List K10) (b1 b2 : Nat) (hm : l.length ≤ 1000) (w : World) (h1 : SlU w b1 v1 l) (h2 : SlU w b2 v2 l) :
    Calls Tryz.prog 62 #[v1, v2] w fun e w' => e = .returned (.bool true) ∧ Below w.heap.size w w' := by
  rcases h1.cases with ⟨rfl, a1, c1, rfl⟩ | ⟨hne, g1, c1, N1, f1, rfl, _, _, r1, u1, _⟩
  · obtain ⟨a2, c2, rfl, _⟩ := h2.form
    exact eqUnitS_zero a1 a2 c1 c2 w
  · rcases h2.cases with ⟨h0, _⟩ | ⟨_, g2, c2, N2, f2, rfl, _, _, r2, u2, _⟩
    · exact absurd h0 hne
    exact eqUnitS_same w g1 0 g2 0 c1 c2 l.length l rfl (by omega) r1.lt r2.lt u1 u2
set_option maxRecDepth 20000 in
set_option maxHeartbeats 4000000 in
theorem heldUnitS_c (w : World) (g cap m N : Nat) (k0 : Int) (f : Nat → Value) (hN : m * 10 ≤ N) (hm : m ≤ 1000) (hk0 : 0 ≤ k0) (hk1 : k0 ≤ 1000000) (h : w.rowIs g 87 N f) (hf : ∀ i, i < m * 10 → f i = .int .i64 (k0 + (i : Int))) :
    Calls Tryz.prog 95 #[.slice (some ⟨g, 0, none⟩) m cap, .int .i64 k0] w fun e w' => e = .returned (.int .i64 (k0 + 10 * (m : Int))) ∧ w' = w := by
  have H : Hid (w.rowIs g 87 N f) := h
  have Hf : Hid (∀ i, i < m * 10 → f i = .int .i64 (k0 + (i : Int))) := hf
  clear h hf
  go_enter Tryz.func95, Tryz.ntmps95
  go_wp2
  go_loop [1, 5] (fun kk i => ∃ k : Nat, k ≤ m ∧ i = .int .i64 k ∧ kk = .int .i64 (k0 + 10 * (k : Int))) (fun _ i => m - (intOf i).toNat)
  case atStart => exact ⟨0, Nat.zero_le _, rfl, by simp⟩
  case round =>
    obtain ⟨k, hk, rfl, rfl⟩ := hrel
    by_cases hlt : k < m
    · have hlt' : (k : Int) < (m : Int) := by omega
      obtain ⟨KK, HK⟩ : ∃ KK : Int, Hid (KK = k0 + 10 * (k : Int)) := ⟨_, rfl⟩
      rw [← HK.out]
      have K0 : 0 ≤ KK := by rw [HK.out]; omega
      have K1 : KK ≤ 1100000 := by rw [HK.out]; omega
      have d0 : w.cell? ⟨g, k * 10, none⟩ = some (.int .i64 (KK)) := by rw [H.out.cell (by omega), Hf.out _ (by omega), HK.out]; congr 2; omega
      have d1 : w.cell? ⟨g, k * 10 + 1, none⟩ = some (.int .i64 (KK + 1)) := by rw [H.out.cell (by omega), Hf.out _ (by omega), HK.out]; congr 2; omega
      have d2 : w.cell? ⟨g, k * 10 + 2, none⟩ = some (.int .i64 (KK + 1 + 1)) := by rw [H.out.cell (by omega), Hf.out _ (by omega), HK.out]; congr 2; omega
      have d3 : w.cell? ⟨g, k * 10 + 3, none⟩ = some (.int .i64 (KK + 1 + 1 + 1)) := by rw [H.out.cell (by omega), Hf.out _ (by omega), HK.out]; congr 2; omega
      have d4 : w.cell? ⟨g, k * 10 + 4, none⟩ = some (.int .i64 (KK + 1 + 1 + 1 + 1)) := by rw [H.out.cell (by omega), Hf.out _ (by omega), HK.out]; congr 2; omega
      have d5 : w.cell? ⟨g, k * 10 + 5, none⟩ = some (.int .i64 (KK + 1 + 1 + 1 + 1 + 1)) := by rw [H.out.cell (by omega), Hf.out _ (by omega), HK.out]; congr 2; omega
      have d6 : w.cell? ⟨g, k * 10 + 6, none⟩ = some (.int .i64 (KK + 1 + 1 + 1 + 1 + 1 + 1)) := by rw [H.out.cell (by omega), Hf.out _ (by omega), HK.out]; congr 2; omega
      have d7 : w.cell? ⟨g, k * 10 + 7, none⟩ = some (.int .i64 (KK + 1 + 1 + 1 + 1 + 1 + 1 + 1)) := by rw [H.out.cell (by omega), Hf.out _ (by omega), HK.out]; congr 2; omega
      have d8 : w.cell? ⟨g, k * 10 + 8, none⟩ = some (.int .i64 (KK + 1 + 1 + 1 + 1 + 1 + 1 + 1 + 1)) := by rw [H.out.cell (by omega), Hf.out _ (by omega), HK.out]; congr 2; omega
      have d9 : w.cell? ⟨g, k * 10 + 9, none⟩ = some (.int .i64 (KK + 1 + 1 + 1 + 1 + 1 + 1 + 1 + 1 + 1)) := by rw [H.out.cell (by omega), Hf.out _ (by omega), HK.out]; congr 2; omega
      go_wp2
      go_round
      case rel => exact ⟨k + 1, by omega, by go_num, by rw [HK.out]; congr 1; push_cast; omega⟩
      case measure => simp [intOf]; omega
    · obtain rfl : k = m := by omega
      go_wp2
      go_ret
      exact ⟨rfl, rfl⟩
theorem heldUnitS_own (v : Value) (m : Nat) (k0 : Int) (hm : m ≤ 1000) (hk0 : 0 ≤ k0) (hk1 : k0 ≤ 1000000) (w : World) (h : MkdU w v m k0) :
    Calls Tryz.prog 95 #[v, .int .i64 k0] w fun e w' => e = .returned (.int .i64 (k0 + 10 * (m : Int))) ∧ w' = w := by
  rcases h with ⟨rfl, a, c, rfl⟩ | ⟨g, cap, N, f, rfl, hN, r, hf⟩
  · have := heldUnitS_zero a c k0 w
    simpa using this
  · exact heldUnitS_c w g cap m N k0 f hN hm hk0 hk1 r hf
set_option maxRecDepth 20000 in
set_option maxHeartbeats 4000000 in
theorem markUnitS_row (w : World) (g cap m N : Nat) (k0 : Int) (f : Nat → Value) (hN : m * 10 ≤ N) (hm : m ≤ 1048576) (hk0 : 0 ≤ k0) (hk1 : k0 ≤ 1000000000) (h : w.rowIs g 87 N f) (hf : ∀ i, i < m * 10 → ∃ z : Int, f i = .int .i64 z) :
    Calls Tryz.prog 64 #[.slice (some ⟨g, 0, none⟩) m cap, .int .i64 k0] w fun e w' => e = .returned (.int .i64 (k0 + 10 * (m : Int))) ∧ w'.rowIs g 87 N (mkd k0 f (m * 10)) ∧ w.grownBy w' (some g) := by
  have H : Hid (w.rowIs g 87 N f) := h
  have Hf : Hid (∀ i, i < m * 10 → ∃ z : Int, f i = .int .i64 z) := hf
  clear h hf
  go_enter Tryz.func64, Tryz.ntmps64
  go_wp2
  go_loopw [1, 5] (fun kk i wr => ∃ k : Nat, k ≤ m ∧ i = .int .i64 k ∧ kk = .int .i64 (k0 + 10 * (k : Int)) ∧ wr.rowIs g 87 N (mkd k0 f (k * 10)) ∧ w.grownBy wr (some g)) (fun _ i _ => m - (intOf i).toNat)
  case atStart => exact ⟨0, Nat.zero_le _, rfl, by simp, H.out.congr (fun i _ => by unfold mkd; rw [if_neg (by omega)]), grown_refl _ _⟩
  case round =>
    obtain ⟨k, hk, rfl, rfl, hrow, hg⟩ := hrel
    by_cases hlt : k < m
    · have hlt' : (k : Int) < (m : Int) := by omega
      obtain ⟨KK, HK⟩ : ∃ KK : Int, Hid (KK = k0 + 10 * (k : Int)) := ⟨_, rfl⟩
      rw [← HK.out]
      have K0 : 0 ≤ KK := by rw [HK.out]; omega
      have K1 : KK ≤ 1100000000 := by rw [HK.out]; omega
      obtain ⟨y0, hy0⟩ := Hf.out (k * 10) (by omega)
      have d0 : wr.cell? ⟨g, k * 10, none⟩ = some (.int .i64 y0) := by rw [hrow.cell (by omega)]; unfold mkd; rw [if_neg (by omega), hy0]
      have z0 := hrow.frozen (k * 10)
      obtain ⟨y1, hy1⟩ := Hf.out (k * 10 + 1) (by omega)
      have d1 : wr.cell? ⟨g, k * 10 + 1, none⟩ = some (.int .i64 y1) := by rw [hrow.cell (by omega)]; unfold mkd; rw [if_neg (by omega), hy1]
      have z1 := hrow.frozen (k * 10 + 1)
      obtain ⟨y2, hy2⟩ := Hf.out (k * 10 + 2) (by omega)
      have d2 : wr.cell? ⟨g, k * 10 + 2, none⟩ = some (.int .i64 y2) := by rw [hrow.cell (by omega)]; unfold mkd; rw [if_neg (by omega), hy2]
      have z2 := hrow.frozen (k * 10 + 2)
      obtain ⟨y3, hy3⟩ := Hf.out (k * 10 + 3) (by omega)
      have d3 : wr.cell? ⟨g, k * 10 + 3, none⟩ = some (.int .i64 y3) := by rw [hrow.cell (by omega)]; unfold mkd; rw [if_neg (by omega), hy3]
      have z3 := hrow.frozen (k * 10 + 3)
      obtain ⟨y4, hy4⟩ := Hf.out (k * 10 + 4) (by omega)
      have d4 : wr.cell? ⟨g, k * 10 + 4, none⟩ = some (.int .i64 y4) := by rw [hrow.cell (by omega)]; unfold mkd; rw [if_neg (by omega), hy4]
      have z4 := hrow.frozen (k * 10 + 4)
      obtain ⟨y5, hy5⟩ := Hf.out (k * 10 + 5) (by omega)
      have d5 : wr.cell? ⟨g, k * 10 + 5, none⟩ = some (.int .i64 y5) := by rw [hrow.cell (by omega)]; unfold mkd; rw [if_neg (by omega), hy5]
      have z5 := hrow.frozen (k * 10 + 5)
      obtain ⟨y6, hy6⟩ := Hf.out (k * 10 + 6) (by omega)
      have d6 : wr.cell? ⟨g, k * 10 + 6, none⟩ = some (.int .i64 y6) := by rw [hrow.cell (by omega)]; unfold mkd; rw [if_neg (by omega), hy6]
      have z6 := hrow.frozen (k * 10 + 6)
      obtain ⟨y7, hy7⟩ := Hf.out (k * 10 + 7) (by omega)
      have d7 : wr.cell? ⟨g, k * 10 + 7, none⟩ = some (.int .i64 y7) := by rw [hrow.cell (by omega)]; unfold mkd; rw [if_neg (by omega), hy7]
      have z7 := hrow.frozen (k * 10 + 7)
      obtain ⟨y8, hy8⟩ := Hf.out (k * 10 + 8) (by omega)
      have d8 : wr.cell? ⟨g, k * 10 + 8, none⟩ = some (.int .i64 y8) := by rw [hrow.cell (by omega)]; unfold mkd; rw [if_neg (by omega), hy8]
      have z8 := hrow.frozen (k * 10 + 8)
      obtain ⟨y9, hy9⟩ := Hf.out (k * 10 + 9) (by omega)
      have d9 : wr.cell? ⟨g, k * 10 + 9, none⟩ = some (.int .i64 y9) := by rw [hrow.cell (by omega)]; unfold mkd; rw [if_neg (by omega), hy9]
      have z9 := hrow.frozen (k * 10 + 9)
      have rl := hrow.lt
      clear hy0 hy1 hy2 hy3 hy4 hy5 hy6 hy7 hy8 hy9
      go_wp2
      go_roundw
      case rel => exact ⟨k + 1, by omega, by go_num, by rw [HK.out]; congr 1; push_cast; omega, ((((((((((hrow.set (k * 10) (.int .i64 (KK))).set (k * 10 + 1) (.int .i64 (KK + 1))).set (k * 10 + 2) (.int .i64 (KK + 1 + 1))).set (k * 10 + 3) (.int .i64 (KK + 1 + 1 + 1))).set (k * 10 + 4) (.int .i64 (KK + 1 + 1 + 1 + 1))).set (k * 10 + 5) (.int .i64 (KK + 1 + 1 + 1 + 1 + 1))).set (k * 10 + 6) (.int .i64 (KK + 1 + 1 + 1 + 1 + 1 + 1))).set (k * 10 + 7) (.int .i64 (KK + 1 + 1 + 1 + 1 + 1 + 1 + 1))).set (k * 10 + 8) (.int .i64 (KK + 1 + 1 + 1 + 1 + 1 + 1 + 1 + 1))).set (k * 10 + 9) (.int .i64 (KK + 1 + 1 + 1 + 1 + 1 + 1 + 1 + 1 + 1))).congr (fun j _ => mkd_set10 k0 f k KK HK.out j), (grown_tr (grown_tr (grown_tr (grown_tr (grown_tr (grown_tr (grown_tr (grown_tr (grown_tr (grown_tr hg (grown_set0 _ g (k * 10) _)) (grown_set0 _ g (k * 10 + 1) _)) (grown_set0 _ g (k * 10 + 2) _)) (grown_set0 _ g (k * 10 + 3) _)) (grown_set0 _ g (k * 10 + 4) _)) (grown_set0 _ g (k * 10 + 5) _)) (grown_set0 _ g (k * 10 + 6) _)) (grown_set0 _ g (k * 10 + 7) _)) (grown_set0 _ g (k * 10 + 8) _)) (grown_set0 _ g (k * 10 + 9) _))⟩
      case measure => simp [intOf]; omega
    · obtain rfl : k = m := by omega
      go_wp2
      go_ret
      exact ⟨rfl, hrow, hg⟩
theorem markUnitS_own (v : Value) (l : List K10) (base : Nat) (k0 : Int) (hm : l.length ≤ 1000) (hk0 : 0 ≤ k0) (hk1 : k0 ≤ 1000000) (w : World) (h : SlU w base v l) :
    Calls Tryz.prog 64 #[v, .int .i64 k0] w fun e w' => e = .returned (.int .i64 (k0 + 10 * (l.length : Int))) ∧ MkdU w' v l.length k0 ∧ w.grownBy w' v.ownBlock := by
  rcases h.cases with ⟨rfl, a, c, rfl⟩ | ⟨hne, g, cap, N, f, rfl, hb, hN, r, u, hf⟩
  · refine (markUnitS_zero a c k0 w).mono ?_
    rintro e w' ⟨rfl, rfl⟩
    exact ⟨by simp, .inl ⟨rfl, a, c, rfl⟩, grown_refl _ _⟩
  · refine (markUnitS_row w g cap l.length N k0 f hN (by omega) hk0 (by omega) r hf).mono ?_
    rintro e w' ⟨rfl, r', k⟩
    exact ⟨rfl, .inr ⟨g, cap, N, _, rfl, hN, r', fun i hi => by unfold mkd; rw [if_pos hi]⟩, k⟩
/- a list that bears the marks from k0 on -/
def MkdF (w : World) (v : Value) (m : Nat) (k0 : Int) : Prop := (m = 0 ∧ ∃ a c, v = .slice a 0 c) ∨ (∃ g cap N f, v = .slice (some ⟨g, 0, none⟩) m cap ∧ m * 3 ≤ N ∧ w.rowIs g 90 N f ∧ ∀ i, i < m * 3 → f i = .int .i64 (k0 + (i : Int)))
theorem MkdF.form {w : World} {v : Value} {m : Nat} {k0 : Int} (h : MkdF w v m k0) : ∃ a c, v = .slice a m c := by
  rcases h with ⟨rfl, a, c, h⟩ | ⟨g, cap, N, f, h, _⟩
  · exact ⟨a, c, h⟩
  · exact ⟨_, _, h⟩
theorem MkdF.of_block {w w' : World} {v : Value} {m : Nat} {k0 : Int} (h : MkdF w v m k0) (he : ∀ b, v.ownBlock = some b → b < w.heap.size → w'.heap[b]? = w.heap[b]?) : MkdF w' v m k0 := by
  rcases h with h | ⟨g, cap, N, f, h, hN, r, hf⟩
  · exact .inl h
  · exact .inr ⟨g, cap, N, f, h, hN, r.of_block (he g (by rw [h]; rfl) r.lt), hf⟩
theorem MkdF.later {w w' : World} {v : Value} {m : Nat} {k0 : Int} (h : MkdF w v m k0) (hb : Below w.heap.size w w') : MkdF w' v m k0 := h.of_block (fun b _ hl => hb.block b hl)
theorem SlF.cases {w : World} {base : Nat} {v : Value} {l : List K3} (s : SlF w base v l) : (l = [] ∧ ∃ a cap, v = .slice a 0 cap) ∨ (l ≠ [] ∧ ∃ g cap N f, v = .slice (some ⟨g, 0, none⟩) l.length cap ∧ base ≤ g ∧ l.length * 3 ≤ N ∧ w.rowIs g 90 N f ∧ FAt w g 0 l ∧ ∀ i, i < l.length * 3 → ∃ z : Int, f i = .int .i64 z) := by
  by_cases h : l = []
  · subst h
    obtain ⟨a, cap, hv, _⟩ := s.form
    exact .inl ⟨rfl, a, cap, hv⟩
  · obtain ⟨g, cap, N, f, hv, hb, hN, r, _⟩ := s.row h
    obtain ⟨a, cap', hv', hA⟩ := s.form
    rcases hA with h0 | ⟨b, off, rfl, hlt, hat⟩
    · exact absurd h0 h
    rw [hv] at hv'
    simp only [Value.slice.injEq, Option.some.injEq, Addr.mk.injEq] at hv'
    obtain ⟨⟨rfl, rfl, _⟩, _, _⟩ := hv'
    refine .inr ⟨h, g, cap, N, f, hv, hb, hN, r, hat, fun i hi => ?_⟩
    have hq : i / 3 < l.length := by omega
    have e := hat (i / 3) l[i / 3] (List.getElem?_eq_getElem hq) (i % 3) (Nat.mod_lt _ (by omega))
    have e2 : 0 + i / 3 * 3 + i % 3 = i := by omega
    rw [e2, r.cell (by omega)] at e
    exact ⟨_, Option.some.inj e⟩
theorem eqFieldS_zero (a1 a2 : Option Addr) (c1 c2 : Nat) (w : World) :
    Calls Tryz.prog 63 #[.slice a1 0 c1, .slice a2 0 c2] w fun e w' => e = .returned (.bool true) ∧ Below w.heap.size w w' := by
  go_enter Tryz.func63, Tryz.ntmps63
  go_wp2
  refine wp_loop_rounds 1 ?_
  rw [rounds_succ]
  go_wp2
  go_ret
  exact ⟨rfl, Below.refl _ _⟩
theorem markFieldS_zero (a : Option Addr) (c : Nat) (k0 : Int) (w : World) :
    Calls Tryz.prog 65 #[.slice a 0 c, .int .i64 k0] w fun e w' => e = .returned (.int .i64 k0) ∧ w' = w := by
  go_enter Tryz.func65, Tryz.ntmps65
  go_wp2
  refine wp_loop_rounds 1 ?_
  rw [rounds_succ]
  go_wp2
  go_ret
  exact ⟨rfl, rfl⟩
theorem heldFieldS_zero (a : Option Addr) (c : Nat) (k0 : Int) (w : World) :
    Calls Tryz.prog 96 #[.slice a 0 c, .int .i64 k0] w fun e w' => e = .returned (.int .i64 k0) ∧ w' = w := by
  go_enter Tryz.func96, Tryz.ntmps96
  go_wp2
  refine wp_loop_rounds 1 ?_
  rw [rounds_succ]
  go_wp2
  go_ret
  exact ⟨rfl, rfl⟩
theorem eqFieldS_own (v1 v2 : Value) (l : List K3) (b1 b2 : Nat) (hm : l.length ≤ 1000) (w : World) (h1 : SlF w b1 v1 l) (h2 : SlF w b2 v2 l) :
    Calls Tryz.prog 63 #[v1, v2] w fun e w' => e = .returned (.bool true) ∧ Below w.heap.size w w' := by
  rcases h1.cases with ⟨rfl, a1, c1, rfl⟩ | ⟨hne, g1, c1, N1, f1, rfl, _, _, r1, u1, _⟩
  · obtain ⟨a2, c2, rfl, _⟩ := h2.form
    exact eqFieldS_zero a1 a2 c1 c2 w
  · rcases h2.cases with ⟨h0, _⟩ | ⟨_, g2, c2, N2, f2, rfl, _, _, r2, u2, _⟩
    · exact absurd h0 hne
    exact eqFieldS_same w g1 0 g2 0 c1 c2 l.length l rfl (by omega) r1.lt r2.lt u1 u2
set_option maxRecDepth 20000 in
set_option maxHeartbeats 4000000 in
theorem heldFieldS_c (w : World) (g cap m N : Nat) (k0 : Int) (f : Nat → Value) (hN : m * 3 ≤ N) (hm : m ≤ 1000) (hk0 : 0 ≤ k0) (hk1 : k0 ≤ 1000000) (h : w.rowIs g 90 N f) (hf : ∀ i, i < m * 3 → f i = .int .i64 (k0 + (i : Int))) :
    Calls Tryz.prog 96 #[.slice (some ⟨g, 0, none⟩) m cap, .int .i64 k0] w fun e w' => e = .returned (.int .i64 (k0 + 3 * (m : Int))) ∧ w' = w := by
  have H : Hid (w.rowIs g 90 N f) := h
  have Hf : Hid (∀ i, i < m * 3 → f i = .int .i64 (k0 + (i : Int))) := hf
  clear h hf
  go_enter Tryz.func96, Tryz.ntmps96
  go_wp2
  go_loop [1, 5] (fun kk i => ∃ k : Nat, k ≤ m ∧ i = .int .i64 k ∧ kk = .int .i64 (k0 + 3 * (k : Int))) (fun _ i => m - (intOf i).toNat)
  case atStart => exact ⟨0, Nat.zero_le _, rfl, by simp⟩
  case round =>
    obtain ⟨k, hk, rfl, rfl⟩ := hrel
    by_cases hlt : k < m
    · have hlt' : (k : Int) < (m : Int) := by omega
      obtain ⟨KK, HK⟩ : ∃ KK : Int, Hid (KK = k0 + 3 * (k : Int)) := ⟨_, rfl⟩
      rw [← HK.out]
      have K0 : 0 ≤ KK := by rw [HK.out]; omega
      have K1 : KK ≤ 1100000 := by rw [HK.out]; omega
      have d0 : w.cell? ⟨g, k * 3, none⟩ = some (.int .i64 (KK)) := by rw [H.out.cell (by omega), Hf.out _ (by omega), HK.out]; congr 2; omega
      have d1 : w.cell? ⟨g, k * 3 + 1, none⟩ = some (.int .i64 (KK + 1)) := by rw [H.out.cell (by omega), Hf.out _ (by omega), HK.out]; congr 2; omega
      have d2 : w.cell? ⟨g, k * 3 + 2, none⟩ = some (.int .i64 (KK + 1 + 1)) := by rw [H.out.cell (by omega), Hf.out _ (by omega), HK.out]; congr 2; omega
      go_wp2
      go_round
      case rel => exact ⟨k + 1, by omega, by go_num, by rw [HK.out]; congr 1; push_cast; omega⟩
      case measure => simp [intOf]; omega
    · obtain rfl : k = m := by omega
      go_wp2
      go_ret
      exact ⟨rfl, rfl⟩
theorem heldFieldS_own (v : Value) (m : Nat) (k0 : Int) (hm : m ≤ 1000) (hk0 : 0 ≤ k0) (hk1 : k0 ≤ 1000000) (w : World) (h : MkdF w v m k0) :
    Calls Tryz.prog 96 #[v, .int .i64 k0] w fun e w' => e = .returned (.int .i64 (k0 + 3 * (m : Int))) ∧ w' = w := by
  rcases h with ⟨rfl, a, c, rfl⟩ | ⟨g, cap, N, f, rfl, hN, r, hf⟩
  · have := heldFieldS_zero a c k0 w
    simpa using this
  · exact heldFieldS_c w g cap m N k0 f hN hm hk0 hk1 r hf
set_option maxRecDepth 20000 in
set_option maxHeartbeats 4000000 in
theorem markFieldS_row (w : World) (g cap m N : Nat) (k0 : Int) (f : Nat → Value) (hN : m * 3 ≤ N) (hm : m ≤ 1048576) (hk0 : 0 ≤ k0) (hk1 : k0 ≤ 1000000000) (h : w.rowIs g 90 N f) (hf : ∀ i, i < m * 3 → ∃ z : Int, f i = .int .i64 z) :
    Calls Tryz.prog 65 #[.slice (some ⟨g, 0, none⟩) m cap, .int .i64 k0] w fun e w' => e = .returned (.int .i64 (k0 + 3 * (m : Int))) ∧ w'.rowIs g 90 N (mkd k0 f (m * 3)) ∧ w.grownBy w' (some g) := by
  have H : Hid (w.rowIs g 90 N f) := h
  have Hf : Hid (∀ i, i < m * 3 → ∃ z : Int, f i = .int .i64 z) := hf
  clear h hf
  go_enter Tryz.func65, Tryz.ntmps65
  go_wp2
  go_loopw [1, 5] (fun kk i wr => ∃ k : Nat, k ≤ m ∧ i = .int .i64 k ∧ kk = .int .i64 (k0 + 3 * (k : Int)) ∧ wr.rowIs g 90 N (mkd k0 f (k * 3)) ∧ w.grownBy wr (some g)) (fun _ i _ => m - (intOf i).toNat)
  case atStart => exact ⟨0, Nat.zero_le _, rfl, by simp, H.out.congr (fun i _ => by unfold mkd; rw [if_neg (by omega)]), grown_refl _ _⟩
  case round =>
    obtain ⟨k, hk, rfl, rfl, hrow, hg⟩ := hrel
    by_cases hlt : k < m
    · have hlt' : (k : Int) < (m : Int) := by omega
      obtain ⟨KK, HK⟩ : ∃ KK : Int, Hid (KK = k0 + 3 * (k : Int)) := ⟨_, rfl⟩
      rw [← HK.out]
      have K0 : 0 ≤ KK := by rw [HK.out]; omega
      have K1 : KK ≤ 1100000000 := by rw [HK.out]; omega
      obtain ⟨y0, hy0⟩ := Hf.out (k * 3) (by omega)
      have d0 : wr.cell? ⟨g, k * 3, none⟩ = some (.int .i64 y0) := by rw [hrow.cell (by omega)]; unfold mkd; rw [if_neg (by omega), hy0]
      have z0 := hrow.frozen (k * 3)
      obtain ⟨y1, hy1⟩ := Hf.out (k * 3 + 1) (by omega)
      have d1 : wr.cell? ⟨g, k * 3 + 1, none⟩ = some (.int .i64 y1) := by rw [hrow.cell (by omega)]; unfold mkd; rw [if_neg (by omega), hy1]
      have z1 := hrow.frozen (k * 3 + 1)
      obtain ⟨y2, hy2⟩ := Hf.out (k * 3 + 2) (by omega)
      have d2 : wr.cell? ⟨g, k * 3 + 2, none⟩ = some (.int .i64 y2) := by rw [hrow.cell (by omega)]; unfold mkd; rw [if_neg (by omega), hy2]
      have z2 := hrow.frozen (k * 3 + 2)
      have rl := hrow.lt
      clear hy0 hy1 hy2
      go_wp2
      go_roundw
      case rel => exact ⟨k + 1, by omega, by go_num, by rw [HK.out]; congr 1; push_cast; omega, (((hrow.set (k * 3) (.int .i64 (KK))).set (k * 3 + 1) (.int .i64 (KK + 1))).set (k * 3 + 2) (.int .i64 (KK + 1 + 1))).congr (fun j _ => mkd_set3 k0 f k KK HK.out j), (grown_tr (grown_tr (grown_tr hg (grown_set0 _ g (k * 3) _)) (grown_set0 _ g (k * 3 + 1) _)) (grown_set0 _ g (k * 3 + 2) _))⟩
      case measure => simp [intOf]; omega
    · obtain rfl : k = m := by omega
      go_wp2
      go_ret
      exact ⟨rfl, hrow, hg⟩
theorem markFieldS_own (v : Value) (l : List K3) (base : Nat) (k0 : Int) (hm : l.length ≤ 1000) (hk0 : 0 ≤ k0) (hk1 : k0 ≤ 1000000) (w : World) (h : SlF w base v l) :
    Calls Tryz.prog 65 #[v, .int .i64 k0] w fun e w' => e = .returned (.int .i64 (k0 + 3 * (l.length : Int))) ∧ MkdF w' v l.length k0 ∧ w.grownBy w' v.ownBlock := by
  rcases h.cases with ⟨rfl, a, c, rfl⟩ | ⟨hne, g, cap, N, f, rfl, hb, hN, r, u, hf⟩
  · refine (markFieldS_zero a c k0 w).mono ?_
    rintro e w' ⟨rfl, rfl⟩
    exact ⟨by simp, .inl ⟨rfl, a, c, rfl⟩, grown_refl _ _⟩
  · refine (markFieldS_row w g cap l.length N k0 f hN (by omega) hk0 (by omega) r hf).mono ?_
    rintro e w' ⟨rfl, r', k⟩
    exact ⟨rfl, .inr ⟨g, cap, N, _, rfl, hN, r', fun i hi => by unfold mkd; rw [if_pos hi]⟩, k⟩
end Go.Proofs.YtepjkcfheejlbaaGreatDoor
end
