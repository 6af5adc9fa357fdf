/- The walk of the exact law of OwnedBy. No condition. -/
import Derived.Test.YtcpgbhjnhahecaaOwnWalks
import Derived.Test.YtcpgbhjnhahecaaIntLists
import Derived.Test.YtcpgbhjnhahecaaMarks
import Derived.Test.YtcpgbhjnhahecaaExactB2
import Derived.Deep.Cut
import Derived.Deep.CutRange
namespace Go.Proofs.Ytcpgbhjnhahecaa
open Go.ChangeShapes Go.WideShapes Go.ChangeAt Go.RowKit
open Bd
set_option linter.unusedVariables false

/- all blocks below n are as they were, and so are those at n or above that are not g or h -/
structure Kept2 (w w' : World) (g h : Nat) : Prop where
  os : w'.os = w.os
  tape : w'.tape = w.tape
  output : w'.output = w.output
  size : w.heap.size ≤ w'.heap.size
  block : ∀ i, i < w.heap.size → i ≠ g → i ≠ h → w'.heap[i]? = w.heap[i]?
theorem Kept2.row {w w' : World} {g h b n : Nat} {t : TypeId} {f : Nat → Value} (k : Kept2 w w' g h) (r : w.rowIs b t n f) (h1 : b ≠ g) (h2 : b ≠ h) : w'.rowIs b t n f := r.of_block (k.block b r.lt h1 h2)
theorem Kept2.below {W w w' : World} {n g h : Nat} (k : Kept2 w w' g h) (hb : Below n W w) (hn : n ≤ W.heap.size) (h1 : n ≤ g) (h2 : n ≤ h) : Below n W w' :=
  hb.trans ⟨k.os, k.tape, k.output, k.size, fun i hi => k.block i (Nat.lt_of_lt_of_le hi (Nat.le_trans hn hb.size)) (by omega) (by omega)⟩
theorem Kept2.sl {w w' : World} {g h base : Nat} {v : Value} {l : List Int} (k : Kept2 w w' g h) (s : SlI w base v l) (hx : ∀ b, v.ownBlock = some b → b ≠ g ∧ b ≠ h) : SlI w' base v l := by
  rcases s with ⟨h1, h2⟩
  refine ⟨h1, ?_⟩
  rcases h2 with h2 | ⟨b, cap, cur, hv, hbb, hg, r⟩
  · exact .inl h2
  · obtain ⟨x1, x2⟩ := hx b (by rw [hv]; rfl)
    exact .inr ⟨b, cap, cur, hv, hbb, (k.block b (Array.getElem?_eq_some_iff.1 hg).1 x1 x2).trans hg, r⟩
theorem SlI.lt {w : World} {base : Nat} {v : Value} {l : List Int} (s : SlI w base v l) : ∀ b, v.ownBlock = some b → base ≤ b ∧ b < w.heap.size := by
  intro b hb
  rcases s.2 with ⟨h1, h2⟩ | ⟨g, cap, cur, hv, hbb, hg, r⟩
  · rw [h1] at hb; cases hb
  · rw [hv] at hb
    have : g = b := Option.some.inj hb
    subst this
    exact ⟨hbb, (Array.getElem?_eq_some_iff.1 hg).1⟩
theorem SlI.cases {w : World} {base : Nat} {v : Value} {l : List Int} (s : SlI w base v l) : (l = [] ∧ ∃ a cap, v = .slice a 0 cap) ∨ (l ≠ [] ∧ ∃ g cap, v = .slice (some ⟨g, 0, none⟩) l.length cap ∧ base ≤ g ∧ Lst w g cap l) := by
  by_cases h : l = []
  · subst h
    obtain ⟨a, cap, hv⟩ := s.form
    exact .inl ⟨rfl, a, cap, hv⟩
  · have h0 : 0 < l.length := by cases l with | nil => exact absurd rfl h | cons _ _ => simp
    exact .inr ⟨h, Lst.of_owns s h0⟩
theorem SlI.of_lst {w : World} {base g cap : Nat} {l : List Int} (h : Lst w g cap l) (hb : base ≤ g) : SlI w base (.slice (some ⟨g, 0, none⟩) l.length cap) l := by
  obtain ⟨cur, h1, h2, h3, h4, h5⟩ := h
  exact ⟨by simp, .inr ⟨g, cap, cur, rfl, hb, h1, h2, h3, by simpa using h4, by simpa using h5⟩⟩
theorem SlI.grown {w w' : World} {base : Nat} {v : Value} {l : List Int} {r : Option Nat} (s : SlI w base v l) (k : w.grownBy w' r) (hx : ∀ b, v.ownBlock = some b → some b ≠ r) : SlI w' base v l := by
  rcases s with ⟨h1, h2⟩
  refine ⟨h1, ?_⟩
  rcases h2 with h2 | ⟨b, cap, cur, hv, hbb, hg, q⟩
  · exact .inl h2
  · exact .inr ⟨b, cap, cur, hv, hbb, (k.block b (Array.getElem?_eq_some_iff.1 hg).1 (hx b (by rw [hv]; rfl))).trans hg, q⟩
theorem row_grown {w w' : World} {g n : Nat} {t : TypeId} {f : Nat → Value} {r : Option Nat} (h : w.rowIs g t n f) (k : w.grownBy w' r) (hx : some g ≠ r) : w'.rowIs g t n f := h.of_block (k.block g h.lt hx)
theorem eqInt64S_zero (a1 a2 : Option Addr) (c1 c2 : Nat) (w : World) :
    Calls Try.prog 78 #[.slice a1 0 c1, .slice a2 0 c2] w fun e w' => e = .returned (.bool true) ∧ ∃ nq, w' = w.drewN nq := by
  go_enter Try.func78, Try.ntmps78
  go_wp2
  refine wp_loop_rounds 1 ?_
  rw [rounds_succ]
  go_wp2
  go_ret
  exact ⟨rfl, 0, rfl⟩
theorem eqI (C : Int) (v1 v2 : Value) (l : List Int) (b1 b2 : Nat) (hm : l.length ≤ 8) (w : World) (h1 : SlI w b1 v1 l) (h2 : SlI w b2 v2 l) :
    Calls Try.prog 38 #[.agg #[.int .i64 C, v1], .agg #[.int .i64 C, v2]] w fun e w' => e = .returned (.bool true) ∧ Below w.heap.size w w' := by
  have B2 : ∀ nq, Below w.heap.size w (((w.alloc (.cells #[.int .i64 C, v1] 39)).alloc (.cells #[.int .i64 C, v2] 39)).drewN nq) := fun nq => (((Below.refl _ _).alloc (Nat.le_refl _) _).alloc (by simp only [size_new]; omega) _).trans ((below_drewN _ nq).mono (by simp only [size_new]; omega))
  rcases h1.cases with ⟨rfl, a1, c1, rfl⟩ | ⟨hne, g1, c1, rfl, _, L1⟩
  · obtain ⟨a2, c2, rfl⟩ := h2.form
    have c := fun w => eqInt64S_zero a1 a2 c1 c2 w
    have hn : ([] : List Int).length = 0 := rfl
    rw [hn] at *
    go_enter Try.func38, Try.ntmps38
    go_wp2_with fail
    refine (c _).mono ?_
    rintro e w' ⟨rfl, nq, rfl⟩
    go_wp2
    go_ret
    exact ⟨rfl, B2 nq⟩
  · rcases h2.cases with ⟨h0, _⟩ | ⟨_, g2, c2, rfl, _, L2⟩
    · exact absurd h0 hne
    obtain ⟨n, Hn⟩ : ∃ n, Hid (l.length = n) := ⟨_, rfl⟩
    have hn := Hn.out
    rw [hn] at hm B2 ⊢
    have c := fun w h1 h2 => eqInt64S_same w g1 c1 g2 c2 n l hn (by omega) h1 h2
    clear hn
    go_enter Try.func38, Try.ntmps38
    go_wp2_with fail
    refine (c _ ((L1.alloc _).alloc _) ((L2.alloc _).alloc _)).mono ?_
    rintro e w' ⟨rfl, nq, rfl⟩
    go_wp2
    go_ret
    exact ⟨rfl, B2 nq⟩
theorem markInt64S_zero (a : Option Addr) (c : Nat) (k0 : Int) (w : World) :
    Calls Try.prog 79 #[.slice a 0 c, .int .i64 k0] w fun e w' => e = .returned (.int .i64 k0) ∧ w' = w := by
  go_enter Try.func79, Try.ntmps79
  go_wp2
  refine wp_loop_rounds 1 ?_
  rw [rounds_succ]
  go_wp2
  go_ret
  exact ⟨rfl, rfl⟩
theorem heldInt64S_zero (a : Option Addr) (c : Nat) (k0 : Int) (w : World) :
    Calls Try.prog 80 #[.slice a 0 c, .int .i64 k0] w fun e w' => e = .returned (.int .i64 k0) ∧ w' = w := by
  go_enter Try.func80, Try.ntmps80
  go_wp2
  refine wp_loop_rounds 1 ?_
  rw [rounds_succ]
  go_wp2
  go_ret
  exact ⟨rfl, rfl⟩
/- marks on a list that is a result -/
theorem markI (C : Int) (v : Value) (l : List Int) (base : Nat) (hm : l.length ≤ 8) (w : World) (hbase : base ≤ w.heap.size) (h : SlI w base v l) :
    Calls Try.prog 39 #[.agg #[.int .i64 C, v], .int .i64 1] w fun e w' => e = .returned (.int .i64 (1 + (l.length : Int))) ∧ SlI w' base v (marks 1 l.length) ∧ ∃ r, w.grownBy w' r ∧ ∀ b, r = some b → v.ownBlock = some b := by
  rcases h.cases with ⟨rfl, a1, c1, rfl⟩ | ⟨hne, g, cap, rfl, hg, L⟩
  · have hS : SlI (w.alloc (.cells #[.int .i64 C, .slice a1 0 c1] 39)) base (.slice a1 0 c1) [] := h.below ((Below.refl _ _).alloc (Nat.le_refl _) _)
    have hn : ([] : List Int).length = 0 := rfl
    rw [hn]
    clear h
    go_enter Try.func39, Try.ntmps39
    go_wp2_with fail
    refine (markInt64S_zero a1 c1 1 _).mono ?_
    rintro e w' ⟨rfl, rfl⟩
    go_wp2
    go_ret
    exact ⟨rfl, hS, none, World.grownBy_alloc _ _ _, fun b hb => by cases hb⟩
  · obtain ⟨n, Hn⟩ : ∃ n, Hid (l.length = n) := ⟨_, rfl⟩
    have hn := Hn.out
    rw [hn] at hm ⊢
    have c := fun w h => markInt64S_any w g cap n 1 l hn (by omega) (by omega) (by omega) h
    clear hn h
    go_enter Try.func39, Try.ntmps39
    go_wp2_with fail
    refine (c _ (L.alloc _)).mono ?_
    rintro e w' ⟨rfl, hL, hgr⟩
    have hS : SlI w' base (.slice (some ⟨g, 0, none⟩) n cap) (marks 1 n) := by have := SlI.of_lst hL hg; rw [marks_len] at this; exact this
    go_wp2
    go_ret
    exact ⟨rfl, hS, some g, grown_tr (World.grownBy_alloc _ _ _) hgr, fun b hb => by cases hb; rfl⟩
theorem heldI (C : Int) (v : Value) (n : Nat) (base : Nat) (hm : n ≤ 8) (w : World) (h : SlI w base v (marks 1 n)) :
    Calls Try.prog 40 #[.agg #[.int .i64 C, v], .int .i64 1] w fun e w' => e = .returned (.int .i64 (1 + (n : Int))) ∧ Below w.heap.size w w' := by
  have B1 : Below w.heap.size w (w.alloc (.cells #[.int .i64 C, v] 39)) := (Below.refl _ _).alloc (Nat.le_refl _) _
  have hl := marks_len 1 n
  have hd : decide ((1 : Int) + (n : Int) < 0) = false := decide_eq_false (by omega)
  rcases h.cases with ⟨h0, a1, c1, rfl⟩ | ⟨hne, g, cap, rfl, hg, L⟩
  · have hn : n = 0 := by rw [h0] at hl; exact hl.symm
    subst hn
    clear h hl hd h0
    go_enter Try.func40, Try.ntmps40
    go_wp2_with fail
    refine (heldInt64S_zero a1 c1 1 _).mono ?_
    rintro e w' ⟨rfl, rfl⟩
    go_wp2
    go_ret
    exact ⟨rfl, B1⟩
  · rw [hl] at B1 ⊢
    have c := fun w h => heldInt64S_any w g cap n 1 (by omega) (by omega) (by omega) h
    clear h hl
    go_enter Try.func40, Try.ntmps40
    go_wp2_with fail
    refine (c _ (L.alloc _)).mono ?_
    rintro e w' ⟨rfl, rfl⟩
    go_wp2
    go_ret
    exact ⟨rfl, B1⟩
/- marks on the board that came in -/
theorem rowU_int (l : List K10) (k i : Nat) : ∃ z : Int, rowU l k i = .int .i64 z := by unfold rowU; split <;> exact ⟨_, rfl⟩
theorem rowF_int (l : List K3) (k i : Nat) : ∃ z : Int, rowF l k i = .int .i64 z := by unfold rowF; split <;> exact ⟨_, rfl⟩
theorem Kept2.of_grown {w w' : World} {g h : Nat} (k : w.grownBy w' (some g)) : Kept2 w w' g h := ⟨k.os, k.tape, k.output, k.size, fun i hi h1 _ => k.block i hi (fun e => h1 (Option.some.inj e))⟩
theorem Kept2.of_grown' {w w' : World} {g h : Nat} (k : w.grownBy w' (some h)) : Kept2 w w' g h := ⟨k.os, k.tape, k.output, k.size, fun i hi _ h2 => k.block i hi (fun e => h2 (Option.some.inj e))⟩
theorem Kept2.trans {a b c : World} {g h : Nat} (k : Kept2 a b g h) (l : Kept2 b c g h) : Kept2 a c g h := ⟨l.os.trans k.os, l.tape.trans k.tape, l.output.trans k.output, Nat.le_trans k.size l.size, fun i hi h1 h2 => (l.block i (Nat.lt_of_lt_of_le hi k.size) h1 h2).trans (k.block i hi h1 h2)⟩
theorem Kept2.alloc (w : World) (g h : Nat) (o : Obj) : Kept2 w (w.alloc o) g h := Kept2.of_grown (World.grownBy_alloc w o _)
set_option maxHeartbeats 4000000 in
theorem markBoard_c (w : World) {base g g' : Nat} {us : List K10} {fs : List K3} (N : NewB w base g g' us fs) (hm : us.length ≤ 1048576) (hm' : fs.length ≤ 1048576) :
    Calls Try.prog 35 #[.agg (brdV (some ⟨g, 0, none⟩) us.length us.length (some ⟨g', 0, none⟩) fs.length fs.length), .int .i64 1] w fun e w' => e = .returned (.int .i64 (1 + 10 * (us.length : Int) + 3 * (fs.length : Int))) ∧ Kept2 w w' g g' := by
  have k1 : Below w.heap.size w (w.alloc (.cells (brdV (some ⟨g, 0, none⟩) us.length us.length (some ⟨g', 0, none⟩) fs.length fs.length) 27)) := (Below.refl _ _).alloc (Nat.le_refl _) _
  have N1 := N.later k1
  have rb := rowTwo w (.slice (some ⟨g, 0, none⟩) us.length us.length) (.slice (some ⟨g', 0, none⟩) fs.length fs.length) 27
  have cU := markUnitS_c _ g us.length us.length (us.length * 10) 1 _ (Nat.le_refl _) hm (by omega) (by omega) N1.u (fun i _ => rowU_int us us.length i)
  have cF := fun w k h0 h1 h => markFieldS_c w g' fs.length fs.length (fs.length * 3) k _ (Nat.le_refl _) hm' h0 h1 h (fun i _ => rowF_int fs fs.length i)
  obtain ⟨m, Hm⟩ : ∃ m, Hid (m = us.length) := ⟨_, rfl⟩
  obtain ⟨m', Hm'⟩ : ∃ m', Hid (m' = fs.length) := ⟨_, rfl⟩
  have hg := N1.u.lt
  have hg' := N1.f.lt
  have hgl : g < w.heap.size := N.u.lt
  have hgl' : g' < w.heap.size := N.f.lt
  have hne := N.lt
  have Nf := N1.f
  rw [← Hm.out] at cU rb hm Nf ⊢
  rw [← Hm'.out] at cF rb hm' Nf cU ⊢
  go_enter Try.func35, Try.ntmps35
  go_wp2_with fail
  refine cU.mono ?_
  rintro e w2 ⟨rfl, r2, k2⟩
  have rb2 := rb.of_block (k2.block w.heap.size rb.lt (by intro e; have := Option.some.inj e; omega))
  have f2 := Nf.of_block (k2.block g' Nf.lt (by intro e; have := Option.some.inj e; omega))
  have p1 : w2.cell? ⟨w.heap.size, 1, none⟩ = some (.slice (some ⟨g', 0, none⟩) m' m') := rb2.cell (i := 1) (by omega)
  clear cU
  go_wp2_with fail
  refine (cF _ _ (by omega) (by omega) f2).mono ?_
  rintro e w3 ⟨rfl, r3, k3⟩
  go_wp2
  go_ret
  exact ⟨rfl, ((Kept2.alloc w g g' _).trans (Kept2.of_grown k2)).trans (Kept2.of_grown' k3)⟩
set_option maxHeartbeats 8000000 in
theorem walk_fnExactOwnedBy (a : Option Addr) (m c : Nat) (a' : Option Addr) (m' c' : Nat) (us : List K10) (fs : List K3) (hx : m ≤ maxLen) (hx' : m' ≤ maxLen) (hl : us.length = m) (hl' : fs.length = m') (o : Int) (W : World) (hU : ArgU W a us) (hF : ArgF W a' fs) :
    Calls Try.prog 8 #[.agg (brdV a m c a' m' c'), .int .i64 o] W fun e w' => e = .returned (.bool true) ∧ Below W.heap.size W w' := by
  unfold maxLen at hx hx'
  subst hl hl'
  have q0 := fun w => szBoard_c a us.length c a' fs.length c' (by omega) (by omega) w
  have B0 : Below W.heap.size W (W.alloc (.cells (brdV a us.length c a' fs.length c') 57)) := (Below.refl _ _).alloc (Nat.le_refl _) _
  have rb := rowTwo W (.slice a us.length c) (.slice a' fs.length c') 57
  by_cases hs : us.length + fs.length ≤ 1048576
  · rw [if_pos hs] at q0
    have d : decide ((1048576 : Int) - (us.length : Int) - (fs.length : Int) < 0) = false := decide_eq_false (by omega)
    have cT := fun W hU hF => toBoard_c a c a' c' us fs (by omega) (by omega) W hU hF
    have s1 := fun g g' W hU hF => specOwnedBy (some ⟨g, 0, none⟩) us.length us.length (some ⟨g', 0, none⟩) fs.length fs.length us fs o rfl rfl W hU hF
    have s2 := fun g g' W hU hF => implOwnedBy (some ⟨g, 0, none⟩) us.length us.length (some ⟨g', 0, none⟩) fs.length fs.length us fs o rfl rfl W hU hF
    have hlen := obL_le us fs o
    generalize owC us fs o = C at s1 s2
    generalize obL us fs o = L at s1 s2 hlen
    go_enter Try.func8, Try.ntmps8
    go_wp2_with fail
    refine (q0 _).mono ?_
    rintro e w1 ⟨rfl, k1⟩
    have B1 := B0.trans (k1.mono B0.size)
    replace rb := row_later rb k1
    obtain ⟨p0, p1, pl⟩ := row_brd rb
    go_wp2_with fail
    refine (cT _ (hU.later B1) (hF.later B1)).mono ?_
    rintro e w2 ⟨g, g', rfl, N2, k2⟩
    have B2 := B1.trans (k2.mono B1.size)
    replace rb := row_later rb k2
    clear p0 p1 pl
    go_wp2_with fail
    refine (s1 g g' _ N2.argU N2.argF).mono ?_
    rintro e w3 ⟨v1, rfl, L1, k3⟩
    obtain ⟨a1, c1, hv1⟩ := L1.form
    obtain ⟨n, Hn⟩ : ∃ n, Hid (n = L.length) := ⟨_, rfl⟩
    rw [← Hn.out] at hv1 hlen
    subst hv1
    have B3 := B2.trans (k3.mono B2.size)
    replace rb := row_later rb k3
    have hS3 := rb.lt
    obtain ⟨w4, H4⟩ : ∃ w4, Hid (w4 = w3.alloc (.cells #[.int .i64 C, .slice a1 n c1] 39)) := ⟨_, rfl⟩
    obtain ⟨S, HS⟩ : ∃ S, Hid (S = w3.heap.size) := ⟨_, rfl⟩
    have k4 : Below w3.heap.size w3 w4 := by rw [H4.out]; exact (Below.refl _ _).alloc (Nat.le_refl _) _
    have rs : w4.rowIs S 39 2 (fun i => if i = 0 then .int .i64 C else .slice a1 n c1) := by rw [H4.out, HS.out]; exact rowTwo w3 (.int .i64 C) (.slice a1 n c1) 39
    have B4 := B3.trans (k4.mono B3.size)
    replace rb := row_later rb k4
    have hS0 : W.heap.size < S := by rw [HS.out]; exact hS3
    have L4 := L1.below k4
    have L4lt := L1.lt
    rw [← HS.out] at L4lt
    clear N2 L1 s1 k1 k2 k3
    go_upto_region 6 with fail
    rw [← H4.out, ← HS.out]
    obtain ⟨p0, p1, pl⟩ := row_brd rb
    go_wp2_with fail
    refine (cT _ (hU.later B4) (hF.later B4)).mono ?_
    rintro e w5 ⟨h, h', rfl, N5, k5⟩
    have N5l := N5.le
    have B5 := B4.trans (k5.mono B4.size)
    replace rb := row_later rb k5
    replace rs := row_later rs k5
    replace L4 := L4.below k5
    clear p0 p1 pl
    obtain ⟨w6, H6⟩ : ∃ w6, Hid (w6 = w5.alloc (.cells (brdV (some ⟨h, 0, none⟩) us.length us.length (some ⟨h', 0, none⟩) fs.length fs.length) 27)) := ⟨_, rfl⟩
    obtain ⟨X, HX⟩ : ∃ X, Hid (X = w5.heap.size) := ⟨_, rfl⟩
    have k6 : Below w5.heap.size w5 w6 := by rw [H6.out]; exact (Below.refl _ _).alloc (Nat.le_refl _) _
    have rx : w6.rowIs X 27 2 (fun i => if i = 0 then .slice (some ⟨h, 0, none⟩) us.length us.length else .slice (some ⟨h', 0, none⟩) fs.length fs.length) := by rw [H6.out, HX.out]; exact rowTwo w5 (.slice (some ⟨h, 0, none⟩) us.length us.length) (.slice (some ⟨h', 0, none⟩) fs.length fs.length) 27
    have B6 := B5.trans (k6.mono B5.size)
    have hhX : h < X ∧ h' < X ∧ S < h ∧ h < h' := by
      rw [HX.out]
      have h1 := N5.u.lt; have h2 := N5.f.lt; have h4 := N5.lt; have h3 : S < w4.heap.size := by rw [H4.out, HS.out, size_new]; omega
      omega
    have hSX : S < X := by omega
    replace rb := row_later rb k6
    replace rs := row_later rs k6
    replace L4 := L4.below k6
    replace N5 := N5.later k6
    go_upto_region 7 with fail
    rw [← H6.out, ← HX.out]
    obtain ⟨x0, x1, xl⟩ := row_brd rx
    go_wp2_with fail
    refine (s2 h h' _ N5.argU N5.argF).mono ?_
    rintro e w7 ⟨v2, rfl, L7, k7⟩
    obtain ⟨a2, c2, hv2⟩ := L7.form
    rw [← Hn.out] at hv2
    subst hv2
    have B7 := B6.trans (k7.mono B6.size)
    replace rb := row_later rb k7
    replace rs := row_later rs k7
    replace rx := row_later rx k7
    replace L4 := L4.below k7
    replace N5 := N5.later k7
    clear x0 x1 xl
    obtain ⟨w8, H8⟩ : ∃ w8, Hid (w8 = w7.alloc (.cells #[.int .i64 C, .slice a2 n c2] 39)) := ⟨_, rfl⟩
    obtain ⟨Gq, HG⟩ : ∃ Gq, Hid (Gq = w7.heap.size) := ⟨_, rfl⟩
    have k8 : Below w7.heap.size w7 w8 := by rw [H8.out]; exact (Below.refl _ _).alloc (Nat.le_refl _) _
    have rg : w8.rowIs Gq 39 2 (fun i => if i = 0 then .int .i64 C else .slice a2 n c2) := by rw [H8.out, HG.out]; exact rowTwo w7 (.int .i64 C) (.slice a2 n c2) 39
    have B8 := B7.trans (k8.mono B7.size)
    have hX6 : X < w6.heap.size := by rw [H6.out, HX.out, size_new]; omega
    have hGX : w6.heap.size ≤ Gq := by rw [HG.out]; exact k7.size
    have L8lt := L7.lt
    rw [← HG.out] at L8lt
    replace rb := row_later rb k8
    replace rs := row_later rs k8
    replace rx := row_later rx k8
    replace L4 := L4.below k8
    replace L7 := L7.below k8
    replace N5 := N5.later k8
    clear k8 k7 k6 k5 k4
    go_upto_region 8 with fail
    rw [← H8.out, ← HG.out]
    obtain ⟨s0, s1, sl⟩ := row_brd rs
    obtain ⟨g0, g1, gl⟩ := row_brd rg
    go_wp2_with fail
    refine (eqI C _ _ L _ _ (by rw [← Hn.out]; exact hlen) _ L7 L4).mono ?_
    rintro e w9 ⟨rfl, k9⟩
    have B9 := B8.trans (k9.mono B8.size)
    replace rb := row_later rb k9
    replace rs := row_later rs k9
    replace rx := row_later rx k9
    replace rg := row_later rg k9
    replace L4 := L4.below k9
    replace L7 := L7.below k9
    replace N5 := N5.later k9
    clear s0 s1 sl g0 g1 gl k9
    obtain ⟨p0, p1, pl⟩ := row_brd rb
    obtain ⟨x0, x1, xl⟩ := row_brd rx
    go_upto_region 10 with fail
    go_cut [35] from 31 to 34 (fun s35 wx => s35 = .bool false ∧ Below w9.heap.size w9 wx)
    case first =>
      go_region_with (first
        | (go_at_call 31; with_reducible refine (cT _ (hU.later B9.drew) (hF.later B9.drew)).mono ?_; rintro e wa ⟨g3, g3', rfl, Na, ka⟩; have Ba := bel_drew ka; have Nb := N5.later Ba; have x0 := (row_brd (row_later rx Ba)).c0; have x1 := (row_brd (row_later rx Ba)).c1)
        | (go_at_call 32; with_reducible refine (Nb.eq Na (by omega) (by omega)).mono ?_; rintro e wb ⟨rfl, kb⟩; have Bb := Ba.trans (kb.mono Ba.size)))
      all_goals
        go_wp2_with fail
        go_meet
        case rel => exact ⟨rfl, Bb⟩
    case rest =>
      obtain ⟨rfl, kc⟩ := hcut
      have B10 := B9.trans (kc.mono B9.size)
      replace rb := row_later rb kc
      replace rs := row_later rs kc
      replace rx := row_later rx kc
      replace rg := row_later rg kc
      replace L4 := L4.below kc
      replace L7 := L7.below kc
      replace N5 := N5.later kc
      clear p0 p1 pl x0 x1 xl kc
      obtain ⟨x0, x1, xl⟩ := row_brd rx
      go_upto_region 13 with fail
      go_wp2_with fail
      refine (markBoard_c _ N5 (by omega) (by omega)).mono ?_
      rintro e w11 ⟨rfl, k11⟩
      have hrb := rb.lt
      have B11 := k11.below B10 (Nat.le_refl _) (by omega) (by omega)
      replace rb := k11.row rb (by omega) (by omega)
      replace rs := k11.row rs (by omega) (by omega)
      replace rg := k11.row rg (by omega) (by omega)
      replace L4 := k11.sl L4 (fun b hb => by have := L4lt b hb; omega)
      replace L7 := k11.sl L7 (fun b hb => by have := L8lt b hb; omega)
      have d11 : decide ((1 : Int) + 10 * (us.length : Int) + 3 * (fs.length : Int) < 0) = false := decide_eq_false (by omega)
      clear x0 x1 xl rx k11 N5
      obtain ⟨s0, s1, sl⟩ := row_brd rs
      obtain ⟨g0, g1, gl⟩ := row_brd rg
      go_wp2_with fail
      refine (eqI C _ _ L _ _ (by rw [← Hn.out]; exact hlen) _ L7 L4).mono ?_
      rintro e w12 ⟨rfl, k12⟩
      have B12 := B11.trans (k12.mono B11.size)
      replace rb := row_later rb k12
      replace rs := row_later rs k12
      replace rg := row_later rg k12
      replace L4 := L4.below k12
      replace L7 := L7.below k12
      clear s0 s1 sl g0 g1 gl k12
      obtain ⟨g0, g1, gl⟩ := row_brd rg
      have cM := markI C _ L _ (by rw [← Hn.out]; exact hlen) _ (by have := rg.lt; omega) L7
      rw [← Hn.out] at cM
      go_upto_region 17 with fail
      go_wp2_with fail
      refine cM.mono ?_
      rintro e w13 ⟨rfl, M13, r13, k13, hr13⟩
      have hown : ∀ b, r13 = some b → w6.heap.size ≤ b ∧ b < Gq := fun b hb => L8lt b (hr13 b hb)
      have B13 : Below W.heap.size W w13 := B12.grown k13 B12.size (fun b hb => by have := hown b hb; omega)
      replace rb := row_grown rb k13 (fun e => by have := hown _ e.symm; omega)
      replace rs := row_grown rs k13 (fun e => by have := hown _ e.symm; omega)
      replace rg := row_grown rg k13 (fun e => by have := hown _ e.symm; omega)
      replace L4 := L4.grown k13 (fun b hb e => by have := hown _ e.symm; have := L4lt b hb; omega)
      clear g0 g1 gl cM L7 k13 hr13
      obtain ⟨g0, g1, gl⟩ := row_brd rg
      have hd1 : decide ((1 : Int) + (n : Int) < 0) = false := decide_eq_false (by omega)
      have hd2 : (((1 : Int) + (n : Int)) != (1 + (n : Int))) = false := by simp
      go_upto_region 19 with fail
      go_wp2_with fail
      refine (heldI C _ n _ (by omega) _ M13).mono ?_
      rintro e w14 ⟨rfl, k14⟩
      have B14 := B13.trans (k14.mono B13.size)
      replace rb := row_later rb k14
      replace rs := row_later rs k14
      replace rg := row_later rg k14
      replace L4 := L4.below k14
      replace M13 := M13.below k14
      clear g0 g1 gl k14
      obtain ⟨p0, p1, pl⟩ := row_brd rb
      go_upto_region 24 with fail
      go_wp2_with fail
      refine (cT _ (hU.later B14) (hF.later B14)).mono ?_
      rintro e w15 ⟨f, f', rfl, N15, k15⟩
      have B15 := B14.trans (k15.mono B14.size)
      replace rb := row_later rb k15
      replace rs := row_later rs k15
      replace rg := row_later rg k15
      replace L4 := L4.below k15
      replace M13 := M13.below k15
      clear p0 p1 pl k15
      go_wp2_with fail
      refine (s2 f f' _ N15.argU N15.argF).mono ?_
      rintro e w16 ⟨v3, rfl, L16, k16⟩
      obtain ⟨a3, c3, hv3⟩ := L16.form
      rw [← Hn.out] at hv3
      subst hv3
      have B16 := B15.trans (k16.mono B15.size)
      replace rs := row_later rs k16
      replace rg := row_later rg k16
      replace L4 := L4.below k16
      replace M13 := M13.below k16
      clear N15 k16 s2
      obtain ⟨w17, H17⟩ : ∃ w17, Hid (w17 = w16.alloc (.cells #[.int .i64 C, .slice a3 n c3] 39)) := ⟨_, rfl⟩
      obtain ⟨Y, HY⟩ : ∃ Y, Hid (Y = w16.heap.size) := ⟨_, rfl⟩
      have k17 : Below w16.heap.size w16 w17 := by rw [H17.out]; exact (Below.refl _ _).alloc (Nat.le_refl _) _
      have ry : w17.rowIs Y 39 2 (fun i => if i = 0 then .int .i64 C else .slice a3 n c3) := by rw [H17.out, HY.out]; exact rowTwo w16 (.int .i64 C) (.slice a3 n c3) 39
      have B17 := B16.trans (k17.mono B16.size)
      replace rs := row_later rs k17
      replace rg := row_later rg k17
      replace L4 := L4.below k17
      replace L16 := L16.below k17
      replace M13 := M13.below k17
      go_upto_region 25 with fail
      rw [← H17.out, ← HY.out]
      obtain ⟨s0, s1, sl⟩ := row_brd rs
      obtain ⟨y0, y1, yl⟩ := row_brd ry
      go_wp2_with fail
      refine (eqI C _ _ L _ _ (by rw [← Hn.out]; exact hlen) _ L16 L4).mono ?_
      rintro e w18 ⟨rfl, k18⟩
      have B18 := B17.trans (k18.mono B17.size)
      replace rg := row_later rg k18
      replace M13 := M13.below k18
      clear s0 s1 sl y0 y1 yl
      obtain ⟨g0, g1, gl⟩ := row_brd rg
      go_upto_region 28 with fail
      go_wp2_with fail
      refine (heldI C _ n _ (by omega) _ M13).mono ?_
      rintro e w19 ⟨rfl, k19⟩
      have B19 := B18.trans (k19.mono B18.size)
      go_wp2_with fail
      go_ret
      exact ⟨rfl, B19⟩
  · rw [if_neg hs] at q0
    go_enter Try.func8, Try.ntmps8
    go_wp2_with fail
    refine (q0 _).mono ?_
    rintro e w1 ⟨rfl, k1⟩
    have B1 := B0.trans (k1.mono B0.size)
    go_wp2
    go_ret
    exact ⟨rfl, B1⟩
end Go.Proofs.Ytcpgbhjnhahecaa
