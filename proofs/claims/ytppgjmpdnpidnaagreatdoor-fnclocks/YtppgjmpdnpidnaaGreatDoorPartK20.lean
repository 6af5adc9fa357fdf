/- Texts of mine put together (a claim holds at most 60 files): TickSpec6, TickImpl8. -/
import Derived.Test.YtppgjmpdnpidnaaGreatDoorPartK19
import Derived.Test.YtppgjmpdnpidnaaGreatDoorPartK13
import Derived.Test.YtppgjmpdnpidnaaGreatDoorPartK18

/- TickSpec6 -/
/- The contract of what a unit does, in the model. Condition: the board is the call's own copy, without a fault; rooms are four purses. -/
section
namespace Go.Proofs.YtppgjmpdnpidnaaGreatDoor
open Go.ChangeShapes Go.WideShapes Go.ChangeAt Go.RowKit
open Bd
set_option linter.unusedVariables false

theorem l5Attack_c (base B o g cap k n : Nat) (vf : Value) (us : List K10) (fs : List K3) (u : K10) (w : World) (h : AIn w base B o g cap k n vf us fs u) :
    Calls Tryz.prog 104 #[.pointer (some ⟨B, o, none⟩), .int .i64 k] w fun e w' => e = .returned (.int .i64 (tkAtk us fs u).lost) ∧ AOut w w' base B o g cap n vf (tkAtk us fs u).us (tkAtk us fs u).fs := by
  rcases atU_find us u.c9 with ⟨h1, h2⟩ | ⟨k2, p, h1, h2, h3⟩
  · have e : tkAtk us fs u = ⟨putU (idle u) us, fs, 0, 0⟩ := by unfold tkAtk; rw [h2]
    rw [e]
    exact l5Attack_none base B o g cap k n vf us fs u w h (by unfold atI; rw [h1])
  · have hq : atI us u.c9 = (k2 : Int) := by unfold atI; rw [h1]
    have e : tkAtk us fs u = if (p.c1 == u.c1) = true then ⟨putU (idle u) us, fs, 0, 0⟩ else if 1 < far u p then ⟨putU (goTo u p.c2 p.c3) us, fs, 0, 0⟩ else tkHit us fs p := by unfold tkAtk; rw [h3]
    rw [e]
    cases ho : p.c1 == u.c1
    · rw [if_neg (by simp)]
      by_cases hf : 1 < far u p
      · rw [if_pos hf]
        exact l5Attack_far base B o g cap k n k2 vf us fs u p w h hq h2 ho hf
      · rw [if_neg hf]
        unfold tkHit
        by_cases hl : p.c4 - 7 < 1
        · rw [if_pos hl]
          exact l5Attack_dead base B o g cap k n k2 vf us fs u p w h hq h2 ho hf hl
        · rw [if_neg hl]
          exact l5Attack_hit base B o g cap k n k2 vf us fs u p w h hq h2 ho hf hl
    · rw [if_pos rfl]
      exact l5Attack_same base B o g cap k n k2 vf us fs u p w h hq h2 ho
/- numbers in memory -/
def IAt (w : World) (g off : Nat) (l : List Int) : Prop := ∀ i x, l[i]? = some x → w.cell? ⟨g, off + i, none⟩ = some (.int .i64 x)
theorem IAt.later {w w' : World} {g off : Nat} {l : List Int} (h : IAt w g off l) (hg : g < w.heap.size) (hb : Below w.heap.size w w') : IAt w' g off l := fun i x hi => by rw [hb.cell hg]; exact h i x hi
theorem IAt.of_block {w w' : World} {g off : Nat} {l : List Int} (h : IAt w g off l) (e : w'.heap[g]? = w.heap[g]?) : IAt w' g off l := fun i x hi => by rw [cell_blk e]; exact h i x hi
theorem Lst.iat {w : World} {g cap : Nat} {l : List Int} (h : Lst w g cap l) : IAt w g 0 l := fun i x hi => by rw [Nat.zero_add]; exact h.cell hi
/- what a unit's turn is handed, and what it leaves -/
structure UIn (w : World) (base B o g cap k n : Nat) (vf : Value) (us : List K10) (fs : List K3) (u : K10) (gr offr : Nat) (rm : List Int) : Prop where
  sb : SB w base B o (.slice (some ⟨g, 0, none⟩) n cap) vf us fs
  gd : Gd us fs
  hk : us[k]? = some u
  hn : us.length = n
  rl : rm.length = 4
  rb : ∀ x ∈ rm, 0 ≤ x ∧ x ≤ 1000000
  ra : IAt w gr offr rm
  rg : gr < w.heap.size
def UOut (w w' : World) (base B o g cap n : Nat) (vf : Value) (t : Tk) (ow : Nat) (gv : Value) : Prop :=
  ∃ vu', SB w' base B o vu' vf t.us t.fs ∧ SlI w' w.heap.size gv (addAt z4 ow t.give) ∧ KeptS (fun b => b = B ∨ b = g ∨ vf.ownBlock = some b) w w' ∧ vu' ≠ .slice none 0 0 ∧ (vu' = .slice (some ⟨g, 0, none⟩) n cap ∨ ∀ b, vu'.ownBlock = some b → w.heap.size ≤ b) ∧ OneOff B o w w'
theorem UIn.gu {w : World} {base B o g cap k n : Nat} {vf : Value} {us : List K10} {fs : List K3} {u : K10} {gr offr : Nat} {rm : List Int} (h : UIn w base B o g cap k n vf us fs u gr offr rm) : GU u := h.gd.gu (List.mem_of_getElem? h.hk)
theorem UIn.later {w w' : World} {base B o g cap k n : Nat} {vf : Value} {us : List K10} {fs : List K3} {u : K10} {gr offr : Nat} {rm : List Int} (h : UIn w base B o g cap k n vf us fs u gr offr rm) (hb : Below w.heap.size w w') : UIn w' base B o g cap k n vf us fs u gr offr rm :=
  ⟨h.sb.later hb, h.gd, h.hk, h.hn, h.rl, h.rb, h.ra.later h.rg hb, Nat.lt_of_lt_of_le h.rg hb.size⟩
theorem UIn.at {w : World} {base B o g cap k n : Nat} {vf : Value} {us : List K10} {fs : List K3} {u : K10} {gr offr : Nat} {rm : List Int} (h : UIn w base B o g cap k n vf us fs u gr offr rm) : AtU w base g cap k us u := by
  have := h.sb
  rw [← h.hn] at this
  exact this.at h.hk
abbrev G4 : Obj := .cells #[.int .i64 0, .int .i64 0, .int .i64 0, .int .i64 0] 2
theorem g4_new (w : World) : Lst (w.alloc G4) w.heap.size 4 z4 := by
  refine ⟨#[.int .i64 0, .int .i64 0, .int .i64 0, .int .i64 0], ?_, by simp [z4], by unfold maxLen; omega, rfl, rfl⟩
  show (w.heap.push _)[w.heap.size]? = _
  simp
/- the end of a turn: the gains' list lies behind all -/
theorem UOut.mk0 {w w' : World} {base B o g cap k n : Nat} {vf vu' : Value} {us : List K10} {fs : List K3} {u : K10} {gr offr : Nat} {rm : List Int} {t : Tk} {ow : Nat} (h : UIn w base B o g cap k n vf us fs u gr offr rm)
    (sb : SB w' base B o vu' vf t.us t.fs) (K : KeptS (fun b => b = B ∨ b = g ∨ vf.ownBlock = some b) (w.alloc G4) w') (hg : t.give = 0) (nn : vu' ≠ .slice none 0 0) (hv : vu' = .slice (some ⟨g, 0, none⟩) n cap ∨ ∀ b, vu'.ownBlock = some b → w.heap.size ≤ b) (oo : OneOff B o (w.alloc G4) w') :
    UOut w w' base B o g cap n vf t ow (.slice (some ⟨w.heap.size, 0, none⟩) 4 4) := by
  have gl := h.at.lt
  have bl := h.sb.lt
  have hS : ¬ (w.heap.size = B ∨ w.heap.size = g ∨ vf.ownBlock = some w.heap.size) := by
    rintro (e | e | e)
    · omega
    · omega
    · have := (h.sb.f.lt _ e).2; omega
  have L := (g4_new w).of_block (K.block w.heap.size (by rw [size_new]; omega) hS)
  refine ⟨vu', sb, ?_, (KeptS.of_below ((Below.refl _ _).alloc (Nat.le_refl _) _)).trans K, nn, hv, oo.pre (((Below.refl _ _).alloc (Nat.le_refl _) _).block B bl)⟩
  rw [hg, addAt_zero]
  exact SlI.of_lst L (Nat.le_refl _)
theorem tk1_job {us : List K10} {fs : List K3} {u : K10} {room : Int} (h : u.c1 ≠ 9) : tk1 us fs u room = if u.c6 = 1 then tkMove us fs u else if u.c6 = 2 then tkHarv us fs u room else if u.c6 = 3 then tkAtk us fs u else ⟨us, fs, 0, 0⟩ := by unfold tk1; rw [if_neg h]
theorem tkMove_give (us : List K10) (fs : List K3) (u : K10) : (tkMove us fs u).give = 0 ∧ (tkMove us fs u).lost = 0 := by unfold tkMove; split <;> exact ⟨rfl, rfl⟩
theorem tkAtk_give (us : List K10) (fs : List K3) (u : K10) : (tkAtk us fs u).give = 0 := by
  unfold tkAtk
  split
  · rfl
  · split
    · rfl
    · split
      · rfl
      · unfold tkHit; split <;> rfl
theorem tkHarv_lost (us : List K10) (fs : List K3) (u : K10) (room : Int) : (tkHarv us fs u room).lost = 0 := by
  unfold tkHarv
  split
  · rfl
  · split
    · unfold tkBring; split <;> rfl
    · split
      · rfl
      · unfold tkTake; split <;> rfl
set_option maxRecDepth 20000 in
set_option maxHeartbeats 8000000 in
theorem l5Unit_nobody (base B o g cap k n : Nat) (vf : Value) (us : List K10) (fs : List K3) (u : K10) (gr offr cr : Nat) (rm : List Int) (w : World) (h : UIn w base B o g cap k n vf us fs u gr offr rm) (hq : u.c1 = 9) :
    Calls Tryz.prog 84 #[.pointer (some ⟨B, o, none⟩), .int .i64 k, .slice (some ⟨gr, offr, none⟩) 4 cr] w fun e w' => ∃ gv, e = .returned (.tuple #[gv, .int .i64 0]) ∧ UOut w w' base B o g cap n vf ⟨us, fs, 0, 0⟩ u.c1.toNat gv := by
  have hlt : (k : Int) < (n : Int) := by have := (List.getElem?_eq_some_iff.1 h.hk).1; have := h.hn; omega
  have B1 : Below w.heap.size w (w.alloc G4) := (Below.refl _ _).alloc (Nat.le_refl _) _
  have h1 := h.later B1
  have R : UOut w (w.alloc G4) base B o g cap n vf ⟨us, fs, 0, 0⟩ u.c1.toNat (.slice (some ⟨w.heap.size, 0, none⟩) 4 4) := UOut.mk0 h h1.sb (KeptS.refl _ _) rfl (by simp) (.inl rfl) (OneOff.of_block rfl)
  obtain ⟨c0, c1, c2, c3, c4, c5, c6, c7, c8, c9, cl⟩ := h.at.one
  rw [hq] at c1
  have b0 := h.sb.c0
  have bl := h.sb.lt
  clear h h1 hq
  go_enter Tryz.func84, Tryz.ntmps84
  go_wp2_with fail
  go_ret2
  exact ⟨_, rfl, R⟩
set_option maxRecDepth 20000 in
set_option maxHeartbeats 8000000 in
theorem l5Unit_none (base B o g cap k n : Nat) (vf : Value) (us : List K10) (fs : List K3) (u : K10) (gr offr cr : Nat) (rm : List Int) (w : World) (h : UIn w base B o g cap k n vf us fs u gr offr rm) (hq : (u.c1 == 9) = false) (hj : u.c6 = 0) :
    Calls Tryz.prog 84 #[.pointer (some ⟨B, o, none⟩), .int .i64 k, .slice (some ⟨gr, offr, none⟩) 4 cr] w fun e w' => ∃ gv, e = .returned (.tuple #[gv, .int .i64 0]) ∧ UOut w w' base B o g cap n vf ⟨us, fs, 0, 0⟩ u.c1.toNat gv := by
  have hlt : (k : Int) < (n : Int) := by have := (List.getElem?_eq_some_iff.1 h.hk).1; have := h.hn; omega
  have B1 : Below w.heap.size w (w.alloc G4) := (Below.refl _ _).alloc (Nat.le_refl _) _
  have h1 := h.later B1
  have R : UOut w (w.alloc G4) base B o g cap n vf ⟨us, fs, 0, 0⟩ u.c1.toNat (.slice (some ⟨w.heap.size, 0, none⟩) 4 4) := UOut.mk0 h h1.sb (KeptS.refl _ _) rfl (by simp) (.inl rfl) (OneOff.of_block rfl)
  obtain ⟨c0, c1, c2, c3, c4, c5, c6, c7, c8, c9, cl⟩ := h.at.one
  rw [hj] at c6
  have b0 := h.sb.c0
  have bl := h.sb.lt
  clear h h1 hj
  go_enter Tryz.func84, Tryz.ntmps84
  go_wp2_with fail
  go_ret2
  exact ⟨_, rfl, R⟩
theorem Turned.uout {w w' : World} {j base B o g cap k n : Nat} {vf : Value} {us : List K10} {fs : List K3} {u u' : K10} {gr offr : Nat} {rm : List Int} (h : UIn w base B o g cap k n vf us fs u gr offr rm) (t : Turned ((w.alloc G4).drewN j) w' base g cap k us u') (he : u'.c0 = u.c0) (ow : Nat) : UOut w w' base B o g cap n vf ⟨putU u' us, fs, 0, 0⟩ ow (.slice (some ⟨w.heap.size, 0, none⟩) 4 4) := by
  have h1 := h.later (w' := w.alloc G4) ((Below.refl _ _).alloc (Nat.le_refl _) _)
  have sb := h1.sb
  rw [← h.hn] at sb
  have sb' := sb.turn t.drewN
  rw [set_put h.gd.r h.hk he, h.hn] at sb'
  exact UOut.mk0 (t := ⟨putU u' us, fs, 0, 0⟩) h sb' (t.drewN.2.mono (fun b _ e => .inr (.inl e))) rfl (by simp) (.inl rfl) (OneOff.of_block (t.drewN.2.block B h1.sb.lt (fun e => h1.sb.nu (by rw [e]; rfl))))
set_option maxRecDepth 20000 in
set_option maxHeartbeats 8000000 in
theorem l5Unit_move (base B o g cap k n : Nat) (vf : Value) (us : List K10) (fs : List K3) (u : K10) (gr offr cr : Nat) (rm : List Int) (w : World) (h : UIn w base B o g cap k n vf us fs u gr offr rm) (hq : (u.c1 == 9) = false) (hj : u.c6 = 1) :
    Calls Tryz.prog 84 #[.pointer (some ⟨B, o, none⟩), .int .i64 k, .slice (some ⟨gr, offr, none⟩) 4 cr] w fun e w' => ∃ gv, e = .returned (.tuple #[gv, .int .i64 0]) ∧ UOut w w' base B o g cap n vf (tkMove us fs u) u.c1.toNat gv := by
  have hlt : (k : Int) < (n : Int) := by have := (List.getElem?_eq_some_iff.1 h.hk).1; have := h.hn; omega
  have gu := h.gu
  have hto : 0 ≤ u.c7 ∧ u.c7 ≤ 11 ∧ 0 ≤ u.c8 ∧ u.c8 ≤ 11 := by
    rcases gu.j with ⟨a, _⟩ | ⟨_, _, a⟩ | ⟨a, _⟩ | ⟨a, _⟩
    · omega
    · exact a
    · omega
    · omega
  obtain ⟨W1, HW1⟩ : ∃ W1, Hid (W1 = w.alloc G4) := ⟨_, rfl⟩
  have B1 : Below w.heap.size w W1 := by rw [HW1.out]; exact (Below.refl _ _).alloc (Nat.le_refl _) _
  have h1 := h.later B1
  have H : Hid (UIn w base B o g cap k n vf us fs u gr offr rm) := h
  have HT : Hid (∀ j, AtU (W1.drewN j) base g cap k us u) := fun j => h1.at.drewN j
  have cI := fun W hT => l5Idle_c base g cap k us u W hT
  have cW := fun W hT => l5Walk_c base g cap k us u u.c7 u.c8 gu hto.1 hto.2.1 hto.2.2.1 hto.2.2.2 W hT
  obtain ⟨x0, x1, x2, x3, x4, x5, x6, x7, x8, x9, xl⟩ := h.at.one
  obtain ⟨c0, c1, c2, c3, c4, c5, c6, c7, c8, c9, cl⟩ := h1.at.one
  rw [hj] at c6
  have b0 := h.sb.c0
  have bl := h.sb.lt
  clear h hj gu hto
  rcases at2_cases u.c2 u.c3 u.c7 u.c8 with ⟨e, _, _, n1, n2⟩ | ⟨e, hn⟩
  · have eT : tkMove us fs u = ⟨putU (idle u) us, fs, 0, 0⟩ := by unfold tkMove; rw [if_pos e]
    rw [eT]
    clear eT e
    go_enter Tryz.func84, Tryz.ntmps84
    go_upto_region 3 with fail
    rw [← HW1.out]
    clear x0 x1 x2 x3 x4 x5 x6 x7 x8 x9 xl b0 bl
    go_wp2_with fail
    go_quiet (fail)
    go_wp2_with fail
    refine (cI _ (HT.out _)).mono ?_
    rintro e w1 ⟨rfl, T⟩
    rw [HW1.out] at T
    have R := Turned.uout (u' := idle u) H.out T rfl u.c1.toNat
    go_wp2_with fail
    go_ret2
    exact ⟨_, rfl, R⟩
  · have eT : tkMove us fs u = ⟨putU (goTo u u.c7 u.c8) us, fs, 0, 0⟩ := by unfold tkMove; rw [if_neg (by rw [e]; simp)]
    rw [eT]
    clear eT e
    rcases hn with ⟨_, n1⟩ | ⟨_, _, n1, n2⟩
    all_goals
      go_enter Tryz.func84, Tryz.ntmps84
      go_upto_region 3 with fail
      rw [← HW1.out]
      clear x0 x1 x2 x3 x4 x5 x6 x7 x8 x9 xl b0 bl
      go_wp2_with fail
      go_quiet (fail)
      go_wp2_with fail
      go_region_with (go_at_call 102; refine (cW _ (HT.out _)).mono ?_; rintro e w1 ⟨rfl, T⟩)
      all_goals
        rw [HW1.out] at T
        have R := Turned.uout (u' := goTo u u.c7 u.c8) H.out T rfl u.c1.toNat
        go_wp2_with fail
        go_ret2
        exact ⟨_, rfl, R⟩
end Go.Proofs.YtppgjmpdnpidnaaGreatDoor
end

/- TickImpl8 -/
/- Contracts of the program's jobs: harvest, attack. Condition: the state is the call's own; the homes lie in their variable. -/
section
namespace Go.Proofs.YtppgjmpdnpidnaaGreatDoor
open Go.ChangeShapes Go.WideShapes Go.ChangeAt Go.RowKit
open Bd
set_option linter.unusedVariables false

theorem bringHome_c (base T mb : Nat) (vf : Value) (gr cr gg cg : Nat) (s : TS) (u : K10) (w : World) (hL : HmAt w) (h : ST w base T mb vf gr cr gg cg s) (tg : TG s) (gu : GU u) (ho : u.c1 ≠ 9) :
    Calls Tryz.prog 136 #[.pointer (some ⟨T, 0, none⟩), .agg u.v] w fun e w' => e = .returned (.tuple #[]) ∧ ST w' base T mb vf gr cr gg cg (ofTk s u (tkBring s.us s.fs u (s.rm.getD u.c1.toNat 0))) ∧ KB base T mb vf gr gg w w' := by
  have o' : 0 ≤ u.c1 ∧ u.c1 ≤ 3 := by rcases gu.o with h | h; exact h; exact absurd h ho
  have hk : u.c1.toNat < 4 := by omega
  rcases at2_cases u.c2 u.c3 (hmX u.c1) (hmY u.c1) with ⟨e, n1, n2, _, _⟩ | ⟨e, hn⟩
  · unfold tkBring
    rw [if_pos e, ofTk_give]
    have e1 : s.rm[u.c1.toNat]? = some (s.rm.getD u.c1.toNat 0) := by rw [List.getD_eq_getElem?_getD, List.getElem?_eq_getElem (by rw [tg.rl]; exact hk)]; rfl
    have e2 : s.gn[u.c1.toNat]? = some (s.gn.getD u.c1.toNat 0) := by rw [List.getD_eq_getElem?_getD, List.getElem?_eq_getElem (by rw [tg.gl]; exact hk)]; rfl
    have r := tg.r _ (List.mem_of_getElem? e1)
    have g0 := tg.g _ (List.mem_of_getElem? e2)
    have rg := tg.rg _ hk
    exact bring_give base T mb vf gr cr gg cg s u tg.gd.r tg.gd.n8 gu o'.1 o'.2 w hL h n1 n2 _ _ e1 e2 r.1 r.2 g0 (by omega)
  · unfold tkBring
    rw [if_neg (by rw [e]; simp), ofTk_put]
    refine bring_walk base T mb vf gr cr gg cg s u tg.gd.r tg.gd.n8 gu o'.1 o'.2 w hL h ?_
    rcases hn with ⟨a, _⟩ | ⟨a, b, _, _⟩
    · exact .inl a
    · exact .inr ⟨a, b⟩
theorem harvest_c (base T mb : Nat) (vf : Value) (gr cr gg cg : Nat) (s : TS) (u : K10) (w : World) (hL : HmAt w) (h : HI w base T mb vf gr cr gg cg s u) :
    Calls Tryz.prog 120 #[.pointer (some ⟨T, 0, none⟩), .agg u.v] w fun e w' => e = .returned (.tuple #[]) ∧ ST w' base T mb vf gr cr gg cg (ofTk s u (tkHarv s.us s.fs u (s.rm.getD u.c1.toNat 0))) ∧ KB base T mb vf gr gg w w' := by
  have hr := h.tg.gd.r
  have hn := h.tg.gd.n8
  cases hf : s.fs[u.c9.toNat]? with
  | none =>
    have e : tkHarv s.us s.fs u (s.rm.getD u.c1.toNat 0) = ⟨putU (idle u) s.us, s.fs, 0, 0⟩ := by unfold tkHarv; rw [hf]
    rw [e, ofTk_put]
    exact harv_none base T mb vf gr cr gg cg s u w h hf
  | some f =>
    have gf := h.tg.gd.gf (List.mem_of_getElem? hf)
    obtain ⟨gf', cf, rfl, a⟩ := h.st.f.at hf
    have sf : SF w base T mb gf' u.c9.toNat cf s.fs.length gr cr gg cg s u f := ⟨h.st, a, rfl, h.prey, rfl⟩
    have e : tkHarv s.us s.fs u (s.rm.getD u.c1.toNat 0) = if full u f = true then tkBring s.us s.fs u (s.rm.getD u.c1.toNat 0) else if (f.c2 == 0) = true then ⟨putU (idle u) s.us, s.fs, 0, 0⟩ else tkTake s.us s.fs u f := by unfold tkHarv; rw [hf]
    rcases full_cases_i (u := u) (f := f) with ⟨q, q1⟩ | ⟨q, q0, q1, q2⟩ | ⟨q, q0, q1, q2⟩
    · rw [e, if_pos q]
      exact harv_call base T mb gf' _ cf _ gr cr gg cg s _ u f w sf (.inl ⟨q1, fun W hB => bringHome_c base T mb _ gr cr gg cg s u W (hL.later hB) (h.st.later hB) h.tg h.gu h.ho⟩)
    · rw [e, if_neg (by rw [q]; simp), if_pos q0, ofTk_put]
      exact harv_call base T mb gf' _ cf _ gr cr gg cg s _ u f w sf (.inr (.inl ⟨⟨q0, q1, q2⟩, fun W hB => endJob_c base T mb _ gr cr gg cg s u hr hn h.gu.i0 h.gu.i1 W (h.st.later hB)⟩))
    · rw [e, if_neg (by rw [q]; simp), if_neg (by rw [q0]; simp)]
      unfold tkTake
      rcases at2_cases u.c2 u.c3 f.c0 f.c1 with ⟨a, a1, a2, _, _⟩ | ⟨a, a1⟩
      · rw [if_pos a, ofTk_take]
        exact harv_call base T mb gf' _ cf _ gr cr gg cg s _ u f w sf (.inr (.inr ⟨⟨q0, q1, q2⟩, fun W hB => take_take base T mb gf' _ cf _ gr cr gg cg s u f hr hn h.gu gf W (sf.later hB) a1 a2⟩))
      · rw [if_neg (by rw [a]; simp), ofTk_put]
        refine harv_call base T mb gf' _ cf _ gr cr gg cg s _ u f w sf (.inr (.inr ⟨⟨q0, q1, q2⟩, fun W hB => take_walk base T mb gf' _ cf _ gr cr gg cg s u f hr hn h.gu gf W (sf.later hB) ?_⟩))
        rcases a1 with ⟨b, _⟩ | ⟨b, c, _, _⟩
        · exact .inl b
        · exact .inr ⟨b, c⟩
/- the state and the unit that attacks -/
structure AI (w : World) (base T mb : Nat) (vf : Value) (gr cr gg cg : Nat) (s : TS) (u : K10) : Prop where
  st : ST w base T mb vf gr cr gg cg s
  tg : TG s
  gu : GU u
  p0 : 1 ≤ u.c9
  p1 : u.c9 ≤ 99
/- the rows that the attack makes of what it found -/
structure Made3 (W1 W2 W3 : World) (pb : Nat) (x : K10) : Prop where
  k2 : Below W1.heap.size W1 W2
  k3 : Below W1.heap.size W1 W3
  u : U1 W3 pb 0 x
theorem made3 (W1 : World) (x : K10) : ∃ W2 W3 pb, Hid (W2 = (W1.alloc (.cells x.v 133)).drew) ∧ Hid (W3 = ((W2.alloc (.cells x.v 133)).alloc (.cells x.v 75)).alloc (.cells x.v 75)) ∧ Hid (pb = W2.heap.size + 1 + 1) ∧ Made3 W1 W2 W3 pb x := by
  refine ⟨_, _, _, rfl, rfl, rfl, ?_⟩
  have k2 : Below W1.heap.size W1 (W1.alloc (.cells x.v 133)).drew := ((Below.refl _ _).alloc (Nat.le_refl _) _).drew
  obtain ⟨W2, e⟩ : ∃ W2, W2 = (W1.alloc (.cells x.v 133)).drew := ⟨_, rfl⟩
  rw [← e] at k2 ⊢
  have ha := ((Below.refl W2.heap.size W2).alloc (Nat.le_refl _) (.cells x.v 133))
  have hb := ha.alloc ha.size (.cells x.v 75)
  have hc := hb.alloc hb.size (.cells x.v 75)
  refine ⟨k2, k2.trans (hc.mono k2.size), ?_⟩
  have := U1.new ((W2.alloc (.cells x.v 133)).alloc (.cells x.v 75)) x 75
  rw [size_new, size_new] at this
  exact this
set_option maxRecDepth 20000 in
set_option maxHeartbeats 16000000 in
theorem atk_none (base T mb : Nat) (vf : Value) (gr cr gg cg : Nat) (s : TS) (u : K10) (w : World) (h : AI w base T mb vf gr cr gg cg s u) (hf : findU s.us u.c9 = none) :
    Calls Tryz.prog 121 #[.pointer (some ⟨T, 0, none⟩), .agg u.v] w fun e w' => e = .returned (.tuple #[]) ∧ ST w' base T mb vf gr cr gg cg (stPut s (idle u)) ∧ KB base T mb vf gr gg w w' := by
  obtain ⟨W1, HW1, B1, U0, row⟩ := boxU w u
  obtain ⟨W2, W3, pb, HW2, HW3, Hpb, md⟩ := made3 W1 K10.z
  have hb := h.st.base
  have S1 := h.st.later B1
  have hwf := wf_int (i := u.c9) (by have := h.p0; omega) (by have := h.p1; omega)
  have L1 := S1.m.look u.c9 hwf
  have L2 := (S1.later (w' := W1.drew) ((Below.refl _ _).drew)).m.look u.c9 hwf
  have L3 := (S1.later (w' := (W1.alloc (.cells K10.z.v 133)).drew) (((Below.refl _ _).alloc (Nat.le_refl _) _).drew)).m.look u.c9 hwf
  rw [hf] at L1 L2 L3
  have cU := fun W => unitIn_c K10.z W
  dsimp only [K10.z, K10.v] at L1 L2 L3 HW2 HW3 cU
  have B3 := B1.trans (md.k3.mono B1.size)
  have cE := endJob_c base T mb vf gr cr gg cg s u h.tg.gd.r h.tg.gd.n8 h.gu.i0 h.gu.i1 W3 (h.st.later B3)
  have HU : Hid (U1 W3 w.heap.size 0 u) := U0.later md.k3
  obtain ⟨s0, s1, s2, s3, s4, s5, s6, s7, s8, s9, sl⟩ := U0
  obtain ⟨t0, t1, t2, t3, t4, tl⟩ := S1.cells
  have HP : Hid (U1 W3 pb 0 K10.z) := md.u
  clear h row S1 hf t1 t2 t3 t4 hwf md
  go_enter Tryz.func121, Tryz.ntmps121
  go_upto_region 1 with fail
  rw [← HW1.out]
  go_region
  all_goals
    rw [← HW2.out]
    clear s0 s1 s2 s3 s4 s5 s6 s7 s8 s9 sl t0 tl L1 L2 L3
    have n0 : W2.cell? ⟨W1.heap.size, 0, none⟩ = some (.int .i64 0) := by rw [HW2.out]; exact cell_new _ _ _ _ _ rfl
    have n1 : W2.cell? ⟨W1.heap.size, 1, none⟩ = some (.int .i64 0) := by rw [HW2.out]; exact cell_new _ _ _ _ _ rfl
    have n2 : W2.cell? ⟨W1.heap.size, 2, none⟩ = some (.int .i64 0) := by rw [HW2.out]; exact cell_new _ _ _ _ _ rfl
    have n3 : W2.cell? ⟨W1.heap.size, 3, none⟩ = some (.int .i64 0) := by rw [HW2.out]; exact cell_new _ _ _ _ _ rfl
    have n4 : W2.cell? ⟨W1.heap.size, 4, none⟩ = some (.int .i64 0) := by rw [HW2.out]; exact cell_new _ _ _ _ _ rfl
    have n5 : W2.cell? ⟨W1.heap.size, 5, none⟩ = some (.int .i64 0) := by rw [HW2.out]; exact cell_new _ _ _ _ _ rfl
    have n6 : W2.cell? ⟨W1.heap.size, 6, none⟩ = some (.int .i64 0) := by rw [HW2.out]; exact cell_new _ _ _ _ _ rfl
    have n7 : W2.cell? ⟨W1.heap.size, 7, none⟩ = some (.int .i64 0) := by rw [HW2.out]; exact cell_new _ _ _ _ _ rfl
    have n8 : W2.cell? ⟨W1.heap.size, 8, none⟩ = some (.int .i64 0) := by rw [HW2.out]; exact cell_new _ _ _ _ _ rfl
    have n9 : W2.cell? ⟨W1.heap.size, 9, none⟩ = some (.int .i64 0) := by rw [HW2.out]; exact cell_new _ _ _ _ _ rfl
    go_upto_region 3 with (first | (go_at_call 109; refine (cU _).mono ?_; rintro e w1 ⟨rfl, rfl⟩))
    rw [← HW3.out, ← Hpb.out]
    clear n0 n1 n2 n3 n4 n5 n6 n7 n8 n9
    obtain ⟨s0, s1, s2, s3, s4, s5, s6, s7, s8, s9, sl⟩ := HU.out
    go_wp2_with fail
    refine cE.mono ?_
    rintro e w8 ⟨rfl, S8, B8⟩
    go_wp2_with fail
    try simp only [Exit.inBlock, Exit.then]
    refine bodyPost_ret (results_none rfl _ _ _) rfl ?_
    exact ⟨rfl, S8, (KB.of B3 hb).trans B8⟩
end Go.Proofs.YtppgjmpdnpidnaaGreatDoor
end
