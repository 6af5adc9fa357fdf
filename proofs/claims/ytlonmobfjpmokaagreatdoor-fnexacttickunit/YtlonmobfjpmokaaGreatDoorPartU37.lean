/- Texts of mine put together (a claim holds at most 60 files): TickSpec6. -/
import Derived.Test.YtlonmobfjpmokaaGreatDoorPartU36
import Derived.Test.YtlonmobfjpmokaaGreatDoorPartU26

/- TickSpec6 -/
/- The contract of what a unit does, in the model. Condition: the board is the call's own copy, without a fault; rooms are four purses. -/
section
namespace Go.Proofs.YtlonmobfjpmokaaGreatDoor
open Go.ChangeShapes Go.WideShapes Go.ChangeAt Go.RowKit
open Bd
set_option linter.unusedVariables false

theorem l5Attack_c (base B o g cap k n : Nat) (vf : Value) (us : List K10) (fs : List K3) (u : K10) (w : World) (h : AIn w base B o g cap k n vf us fs u) :
    Calls Tryz.prog 84 #[.pointer (some ⟨B, o, none⟩), .int .i64 k] w fun e w' => e = .returned (.int .i64 (tkAtk us fs u).lost) ∧ AOut w w' base B o g cap n vf (tkAtk us fs u).us (tkAtk us fs u).fs := by
  rcases atU_find us u.c9 with ⟨h1, h2⟩ | ⟨k2, p, h1, h2, h3⟩
  · have e : tkAtk us fs u = ⟨putU (idle u) us, fs, 0, 0⟩ := by unfold tkAtk; rw [h2]
    rw [e]
    exact l5Attack_none base B o g cap k n vf us fs u w h (by unfold atI; rw [h1])
  · have hq : atI us u.c9 = (k2 : Int) := by unfold atI; rw [h1]
    have e : tkAtk us fs u = if (p.c1 == u.c1) = true then ⟨putU (idle u) us, fs, 0, 0⟩ else if 1 < far u p then ⟨putU (goTo u p.c2 p.c3) us, fs, 0, 0⟩ else tkHit us fs p := by unfold tkAtk; rw [h3]
    rw [e]
    cases ho : p.c1 == u.c1
    · rw [if_neg (by simp)]
      by_cases hf : 1 < far u p
      · rw [if_pos hf]
        exact l5Attack_far base B o g cap k n k2 vf us fs u p w h hq h2 ho hf
      · rw [if_neg hf]
        unfold tkHit
        by_cases hl : p.c4 - 7 < 1
        · rw [if_pos hl]
          exact l5Attack_dead base B o g cap k n k2 vf us fs u p w h hq h2 ho hf hl
        · rw [if_neg hl]
          exact l5Attack_hit base B o g cap k n k2 vf us fs u p w h hq h2 ho hf hl
    · rw [if_pos rfl]
      exact l5Attack_same base B o g cap k n k2 vf us fs u p w h hq h2 ho
/- numbers in memory -/
def IAt (w : World) (g off : Nat) (l : List Int) : Prop := ∀ i x, l[i]? = some x → w.cell? ⟨g, off + i, none⟩ = some (.int .i64 x)
theorem IAt.later {w w' : World} {g off : Nat} {l : List Int} (h : IAt w g off l) (hg : g < w.heap.size) (hb : Below w.heap.size w w') : IAt w' g off l := fun i x hi => by rw [hb.cell hg]; exact h i x hi
theorem IAt.of_block {w w' : World} {g off : Nat} {l : List Int} (h : IAt w g off l) (e : w'.heap[g]? = w.heap[g]?) : IAt w' g off l := fun i x hi => by rw [cell_blk e]; exact h i x hi
theorem Lst.iat {w : World} {g cap : Nat} {l : List Int} (h : Lst w g cap l) : IAt w g 0 l := fun i x hi => by rw [Nat.zero_add]; exact h.cell hi
/- what a unit's turn is handed, and what it leaves -/
structure UIn (w : World) (base B o g cap k n : Nat) (vf : Value) (us : List K10) (fs : List K3) (u : K10) (gr offr : Nat) (rm : List Int) : Prop where
  sb : SB w base B o (.slice (some ⟨g, 0, none⟩) n cap) vf us fs
  gd : Gd us fs
  hk : us[k]? = some u
  hn : us.length = n
  rl : rm.length = 4
  rb : ∀ x ∈ rm, 0 ≤ x ∧ x ≤ 1000000
  ra : IAt w gr offr rm
  rg : gr < w.heap.size
def UOut (w w' : World) (base B o g cap n : Nat) (vf : Value) (t : Tk) (ow : Nat) (gv : Value) : Prop :=
  ∃ vu', SB w' base B o vu' vf t.us t.fs ∧ SlI w' w.heap.size gv (addAt z4 ow t.give) ∧ KeptS (fun b => b = B ∨ b = g ∨ vf.ownBlock = some b) w w' ∧ vu' ≠ .slice none 0 0 ∧ (vu' = .slice (some ⟨g, 0, none⟩) n cap ∨ ∀ b, vu'.ownBlock = some b → w.heap.size ≤ b)
theorem UIn.gu {w : World} {base B o g cap k n : Nat} {vf : Value} {us : List K10} {fs : List K3} {u : K10} {gr offr : Nat} {rm : List Int} (h : UIn w base B o g cap k n vf us fs u gr offr rm) : GU u := h.gd.gu (List.mem_of_getElem? h.hk)
theorem UIn.later {w w' : World} {base B o g cap k n : Nat} {vf : Value} {us : List K10} {fs : List K3} {u : K10} {gr offr : Nat} {rm : List Int} (h : UIn w base B o g cap k n vf us fs u gr offr rm) (hb : Below w.heap.size w w') : UIn w' base B o g cap k n vf us fs u gr offr rm :=
  ⟨h.sb.later hb, h.gd, h.hk, h.hn, h.rl, h.rb, h.ra.later h.rg hb, Nat.lt_of_lt_of_le h.rg hb.size⟩
theorem UIn.at {w : World} {base B o g cap k n : Nat} {vf : Value} {us : List K10} {fs : List K3} {u : K10} {gr offr : Nat} {rm : List Int} (h : UIn w base B o g cap k n vf us fs u gr offr rm) : AtU w base g cap k us u := by
  have := h.sb
  rw [← h.hn] at this
  exact this.at h.hk
abbrev G4 : Obj := .cells #[.int .i64 0, .int .i64 0, .int .i64 0, .int .i64 0] 2
theorem g4_new (w : World) : Lst (w.alloc G4) w.heap.size 4 z4 := by
  refine ⟨#[.int .i64 0, .int .i64 0, .int .i64 0, .int .i64 0], ?_, by simp [z4], by unfold maxLen; omega, rfl, rfl⟩
  show (w.heap.push _)[w.heap.size]? = _
  simp
/- the end of a turn: the gains' list lies behind all -/
theorem UOut.mk0 {w w' : World} {base B o g cap k n : Nat} {vf vu' : Value} {us : List K10} {fs : List K3} {u : K10} {gr offr : Nat} {rm : List Int} {t : Tk} {ow : Nat} (h : UIn w base B o g cap k n vf us fs u gr offr rm)
    (sb : SB w' base B o vu' vf t.us t.fs) (K : KeptS (fun b => b = B ∨ b = g ∨ vf.ownBlock = some b) (w.alloc G4) w') (hg : t.give = 0) (nn : vu' ≠ .slice none 0 0) (hv : vu' = .slice (some ⟨g, 0, none⟩) n cap ∨ ∀ b, vu'.ownBlock = some b → w.heap.size ≤ b) :
    UOut w w' base B o g cap n vf t ow (.slice (some ⟨w.heap.size, 0, none⟩) 4 4) := by
  have gl := h.at.lt
  have bl := h.sb.lt
  have hS : ¬ (w.heap.size = B ∨ w.heap.size = g ∨ vf.ownBlock = some w.heap.size) := by
    rintro (e | e | e)
    · omega
    · omega
    · have := (h.sb.f.lt _ e).2; omega
  have L := (g4_new w).of_block (K.block w.heap.size (by rw [size_new]; omega) hS)
  refine ⟨vu', sb, ?_, (KeptS.of_below ((Below.refl _ _).alloc (Nat.le_refl _) _)).trans K, nn, hv⟩
  rw [hg, addAt_zero]
  exact SlI.of_lst L (Nat.le_refl _)
theorem tk1_job {us : List K10} {fs : List K3} {u : K10} {room : Int} (h : u.c1 ≠ 9) : tk1 us fs u room = if u.c6 = 1 then tkMove us fs u else if u.c6 = 2 then tkHarv us fs u room else if u.c6 = 3 then tkAtk us fs u else ⟨us, fs, 0, 0⟩ := by unfold tk1; rw [if_neg h]
theorem tkMove_give (us : List K10) (fs : List K3) (u : K10) : (tkMove us fs u).give = 0 ∧ (tkMove us fs u).lost = 0 := by unfold tkMove; split <;> exact ⟨rfl, rfl⟩
theorem tkAtk_give (us : List K10) (fs : List K3) (u : K10) : (tkAtk us fs u).give = 0 := by
  unfold tkAtk
  split
  · rfl
  · split
    · rfl
    · split
      · rfl
      · unfold tkHit; split <;> rfl
theorem tkHarv_lost (us : List K10) (fs : List K3) (u : K10) (room : Int) : (tkHarv us fs u room).lost = 0 := by
  unfold tkHarv
  split
  · rfl
  · split
    · unfold tkBring; split <;> rfl
    · split
      · rfl
      · unfold tkTake; split <;> rfl
set_option maxRecDepth 20000 in
set_option maxHeartbeats 8000000 in
theorem l5Unit_nobody (base B o g cap k n : Nat) (vf : Value) (us : List K10) (fs : List K3) (u : K10) (gr offr cr : Nat) (rm : List Int) (w : World) (h : UIn w base B o g cap k n vf us fs u gr offr rm) (hq : u.c1 = 9) :
    Calls Tryz.prog 48 #[.pointer (some ⟨B, o, none⟩), .int .i64 k, .slice (some ⟨gr, offr, none⟩) 4 cr] w fun e w' => ∃ gv, e = .returned (.tuple #[gv, .int .i64 0]) ∧ UOut w w' base B o g cap n vf ⟨us, fs, 0, 0⟩ u.c1.toNat gv := by
  have hlt : (k : Int) < (n : Int) := by have := (List.getElem?_eq_some_iff.1 h.hk).1; have := h.hn; omega
  have B1 : Below w.heap.size w (w.alloc G4) := (Below.refl _ _).alloc (Nat.le_refl _) _
  have h1 := h.later B1
  have R : UOut w (w.alloc G4) base B o g cap n vf ⟨us, fs, 0, 0⟩ u.c1.toNat (.slice (some ⟨w.heap.size, 0, none⟩) 4 4) := UOut.mk0 h h1.sb (KeptS.refl _ _) rfl (by simp) (.inl rfl)
  obtain ⟨c0, c1, c2, c3, c4, c5, c6, c7, c8, c9, cl⟩ := h.at.one
  rw [hq] at c1
  have b0 := h.sb.c0
  have bl := h.sb.lt
  clear h h1 hq
  go_enter Tryz.func48, Tryz.ntmps48
  go_wp2_with fail
  go_ret2
  exact ⟨_, rfl, R⟩
set_option maxRecDepth 20000 in
set_option maxHeartbeats 8000000 in
theorem l5Unit_none (base B o g cap k n : Nat) (vf : Value) (us : List K10) (fs : List K3) (u : K10) (gr offr cr : Nat) (rm : List Int) (w : World) (h : UIn w base B o g cap k n vf us fs u gr offr rm) (hq : (u.c1 == 9) = false) (hj : u.c6 = 0) :
    Calls Tryz.prog 48 #[.pointer (some ⟨B, o, none⟩), .int .i64 k, .slice (some ⟨gr, offr, none⟩) 4 cr] w fun e w' => ∃ gv, e = .returned (.tuple #[gv, .int .i64 0]) ∧ UOut w w' base B o g cap n vf ⟨us, fs, 0, 0⟩ u.c1.toNat gv := by
  have hlt : (k : Int) < (n : Int) := by have := (List.getElem?_eq_some_iff.1 h.hk).1; have := h.hn; omega
  have B1 : Below w.heap.size w (w.alloc G4) := (Below.refl _ _).alloc (Nat.le_refl _) _
  have h1 := h.later B1
  have R : UOut w (w.alloc G4) base B o g cap n vf ⟨us, fs, 0, 0⟩ u.c1.toNat (.slice (some ⟨w.heap.size, 0, none⟩) 4 4) := UOut.mk0 h h1.sb (KeptS.refl _ _) rfl (by simp) (.inl rfl)
  obtain ⟨c0, c1, c2, c3, c4, c5, c6, c7, c8, c9, cl⟩ := h.at.one
  rw [hj] at c6
  have b0 := h.sb.c0
  have bl := h.sb.lt
  clear h h1 hj
  go_enter Tryz.func48, Tryz.ntmps48
  go_wp2_with fail
  go_ret2
  exact ⟨_, rfl, R⟩
theorem Turned.uout {w w' : World} {j base B o g cap k n : Nat} {vf : Value} {us : List K10} {fs : List K3} {u u' : K10} {gr offr : Nat} {rm : List Int} (h : UIn w base B o g cap k n vf us fs u gr offr rm) (t : Turned ((w.alloc G4).drewN j) w' base g cap k us u') (he : u'.c0 = u.c0) (ow : Nat) : UOut w w' base B o g cap n vf ⟨putU u' us, fs, 0, 0⟩ ow (.slice (some ⟨w.heap.size, 0, none⟩) 4 4) := by
  have h1 := h.later (w' := w.alloc G4) ((Below.refl _ _).alloc (Nat.le_refl _) _)
  have sb := h1.sb
  rw [← h.hn] at sb
  have sb' := sb.turn t.drewN
  rw [set_put h.gd.r h.hk he, h.hn] at sb'
  exact UOut.mk0 (t := ⟨putU u' us, fs, 0, 0⟩) h sb' (t.drewN.2.mono (fun b _ e => .inr (.inl e))) rfl (by simp) (.inl rfl)
set_option maxRecDepth 20000 in
set_option maxHeartbeats 8000000 in
theorem l5Unit_move (base B o g cap k n : Nat) (vf : Value) (us : List K10) (fs : List K3) (u : K10) (gr offr cr : Nat) (rm : List Int) (w : World) (h : UIn w base B o g cap k n vf us fs u gr offr rm) (hq : (u.c1 == 9) = false) (hj : u.c6 = 1) :
    Calls Tryz.prog 48 #[.pointer (some ⟨B, o, none⟩), .int .i64 k, .slice (some ⟨gr, offr, none⟩) 4 cr] w fun e w' => ∃ gv, e = .returned (.tuple #[gv, .int .i64 0]) ∧ UOut w w' base B o g cap n vf (tkMove us fs u) u.c1.toNat gv := by
  have hlt : (k : Int) < (n : Int) := by have := (List.getElem?_eq_some_iff.1 h.hk).1; have := h.hn; omega
  have gu := h.gu
  have hto : 0 ≤ u.c7 ∧ u.c7 ≤ 11 ∧ 0 ≤ u.c8 ∧ u.c8 ≤ 11 := by
    rcases gu.j with ⟨a, _⟩ | ⟨_, _, a⟩ | ⟨a, _⟩ | ⟨a, _⟩
    · omega
    · exact a
    · omega
    · omega
  obtain ⟨W1, HW1⟩ : ∃ W1, Hid (W1 = w.alloc G4) := ⟨_, rfl⟩
  have B1 : Below w.heap.size w W1 := by rw [HW1.out]; exact (Below.refl _ _).alloc (Nat.le_refl _) _
  have h1 := h.later B1
  have H : Hid (UIn w base B o g cap k n vf us fs u gr offr rm) := h
  have HT : Hid (∀ j, AtU (W1.drewN j) base g cap k us u) := fun j => h1.at.drewN j
  have cI := fun W hT => l5Idle_c base g cap k us u W hT
  have cW := fun W hT => l5Walk_c base g cap k us u u.c7 u.c8 gu hto.1 hto.2.1 hto.2.2.1 hto.2.2.2 W hT
  obtain ⟨x0, x1, x2, x3, x4, x5, x6, x7, x8, x9, xl⟩ := h.at.one
  obtain ⟨c0, c1, c2, c3, c4, c5, c6, c7, c8, c9, cl⟩ := h1.at.one
  rw [hj] at c6
  have b0 := h.sb.c0
  have bl := h.sb.lt
  clear h hj gu hto
  rcases at2_cases u.c2 u.c3 u.c7 u.c8 with ⟨e, _, _, n1, n2⟩ | ⟨e, hn⟩
  · have eT : tkMove us fs u = ⟨putU (idle u) us, fs, 0, 0⟩ := by unfold tkMove; rw [if_pos e]
    rw [eT]
    clear eT e
    go_enter Tryz.func48, Tryz.ntmps48
    go_upto_region 3 with fail
    rw [← HW1.out]
    clear x0 x1 x2 x3 x4 x5 x6 x7 x8 x9 xl b0 bl
    go_wp2_with fail
    go_quiet (fail)
    go_wp2_with fail
    refine (cI _ (HT.out _)).mono ?_
    rintro e w1 ⟨rfl, T⟩
    rw [HW1.out] at T
    have R := Turned.uout (u' := idle u) H.out T rfl u.c1.toNat
    go_wp2_with fail
    go_ret2
    exact ⟨_, rfl, R⟩
  · have eT : tkMove us fs u = ⟨putU (goTo u u.c7 u.c8) us, fs, 0, 0⟩ := by unfold tkMove; rw [if_neg (by rw [e]; simp)]
    rw [eT]
    clear eT e
    rcases hn with ⟨_, n1⟩ | ⟨_, _, n1, n2⟩
    all_goals
      go_enter Tryz.func48, Tryz.ntmps48
      go_upto_region 3 with fail
      rw [← HW1.out]
      clear x0 x1 x2 x3 x4 x5 x6 x7 x8 x9 xl b0 bl
      go_wp2_with fail
      go_quiet (fail)
      go_wp2_with fail
      go_region_with (go_at_call 82; refine (cW _ (HT.out _)).mono ?_; rintro e w1 ⟨rfl, T⟩)
      all_goals
        rw [HW1.out] at T
        have R := Turned.uout (u' := goTo u u.c7 u.c8) H.out T rfl u.c1.toNat
        go_wp2_with fail
        go_ret2
        exact ⟨_, rfl, R⟩
end Go.Proofs.YtlonmobfjpmokaaGreatDoor
end
