/- Texts of mine put together (a claim holds at most 60 files): TickSpec5, TickSpec6. -/
import Derived.Test.YtepjkcfheejlbaaGreatDoorPartT21
import Derived.Test.YtepjkcfheejlbaaGreatDoorPartT14

/- TickSpec5 -/
/- The contract of the model's attack, of what a unit does. Condition: the board is the call's own copy, without a fault. -/
section
namespace Go.Proofs.YtepjkcfheejlbaaGreatDoor
open Go.ChangeShapes Go.WideShapes Go.ChangeAt Go.RowKit
open Bd
set_option linter.unusedVariables false

set_option maxRecDepth 20000 in
set_option maxHeartbeats 8000000 in
theorem l5Attack_hit (base B o g cap k n k2 : Nat) (vf : Value) (us : List K10) (fs : List K3) (u p : K10) (w : World) (h : AIn w base B o g cap k n vf us fs u) (hq : atI us u.c9 = (k2 : Int)) (hp : us[k2]? = some p) (ho : (p.c1 == u.c1) = false) (hf : ¬ 1 < far u p) (hl : ¬ p.c4 - 7 < 1) :
    Calls Tryz.prog 84 #[.pointer (some ⟨B, o, none⟩), .int .i64 k] w fun e w' => e = .returned (.int .i64 0) ∧ AOut w w' base B o g cap n vf (putU (life p (p.c4 - 7)) us) fs := by
  have hm : n ≤ 8 := by have := h.gd.n8; have := h.hn; omega
  have hlt : (k : Int) < (n : Int) := by have := (List.getElem?_eq_some_iff.1 h.hk).1; have := h.hn; omega
  have hlt2 : (k2 : Int) < (n : Int) := by have := (List.getElem?_eq_some_iff.1 hp).1; have := h.hn; omega
  have hd : decide ((k2 : Int) < 0) = false := decide_eq_false (by omega)
  have gu := h.gu
  have gp := h.gd.gu (List.mem_of_getElem? hp)
  have hl' : (1 : Int) ≤ p.c4 - 7 := by omega
  have hl1 := gp.l1
  have H : Hid (AIn w base B o g cap k n vf us fs u) := h
  have Hp : Hid (us[k2]? = some p) := hp
  have cA := fun W hU => l4At_c (some ⟨g, 0, none⟩) n cap us u.c9 h.hn hm W hU
  rw [hq] at cA
  have HA : Hid (∀ j, ArgU (w.drewN j) (some ⟨g, 0, none⟩) us) := fun j => h.arg.drewN j
  have HT : Hid (∀ j, Turned (w.drewN j) ((w.drewN j).setCell ⟨g, k2 * 10 + 4, none⟩ (.int .i64 (p.c4 - 7))) base g cap k2 us (life p (p.c4 - 7))) := fun j => ⟨((h.at hp).drewN j).set 4 (by omega) (p.c4 - 7), (KeptS.refl _ _).set (S := fun b => b = g) (g := g) rfl _⟩
  have cF := fun W => specFar u.c2 u.c3 p.c2 p.c3 W gu.x0 gu.x1 gu.y0 gu.y1 gp.x0 gp.x1 gp.y0 gp.y1
  have hf' : decide (1 < far u p) = false := decide_eq_false hf
  unfold far at hf'
  generalize Nums.mx (Nums.gap u.c2 p.c2) (Nums.gap u.c3 p.c3) = F at cF hf'
  obtain ⟨c0, c1, c2, c3, c4, c5, c6, c7, c8, c9, cl⟩ := (h.at h.hk).one
  obtain ⟨d0, d1, d2, d3, d4, d5, d6, d7, d8, d9, dl⟩ := (h.at hp).one
  have uz := (h.at hp).frozen (k2 * 10 + 4)
  have b0 := h.sb.c0
  have b1 := h.sb.c1
  have bl := h.sb.lt
  clear h hq hp gu gp hf hl
  go_enter Tryz.func84, Tryz.ntmps84
  go_wp2_with fail
  go_quiet (first | (go_at_call 46; refine (cA _ (HA.out _)).mono (fun _ _ h => ⟨h.1, _, h.2⟩)))
  go_wp2_with fail
  go_quiet (fail)
  go_wp2_with fail
  go_quiet (first | (go_at_call 114; refine (cF _).mono (fun _ _ h => ⟨h.1, _, h.2⟩)))
  go_wp2_with fail
  go_ret
  exact ⟨rfl, Turned.aout (u' := life p (p.c4 - 7)) H.out Hp.out (HT.out _) rfl⟩
set_option maxRecDepth 20000 in
set_option maxHeartbeats 16000000 in
theorem l5Attack_dead (base B o g cap k n k2 : Nat) (vf : Value) (us : List K10) (fs : List K3) (u p : K10) (w : World) (h : AIn w base B o g cap k n vf us fs u) (hq : atI us u.c9 = (k2 : Int)) (hp : us[k2]? = some p) (ho : (p.c1 == u.c1) = false) (hf : ¬ 1 < far u p) (hl : p.c4 - 7 < 1) :
    Calls Tryz.prog 84 #[.pointer (some ⟨B, o, none⟩), .int .i64 k] w fun e w' => e = .returned (.int .i64 p.c5) ∧ AOut w w' base B o g cap n vf (delU us p.c0) fs := by
  have hm : n ≤ 8 := by have := h.gd.n8; have := h.hn; omega
  have hlt : (k : Int) < (n : Int) := by have := (List.getElem?_eq_some_iff.1 h.hk).1; have := h.hn; omega
  have hlt2 : (k2 : Int) < (n : Int) := by have := (List.getElem?_eq_some_iff.1 hp).1; have := h.hn; omega
  have hd : decide ((k2 : Int) < 0) = false := decide_eq_false (by omega)
  have gu := h.gu
  have gp := h.gd.gu (List.mem_of_getElem? hp)
  have hl' : decide ((1 : Int) ≤ p.c4 - 7) = false := decide_eq_false (by omega)
  have hl0 := gp.l0
  have hl1 := gp.l1
  have H : Hid (AIn w base B o g cap k n vf us fs u) := h
  have Hp : Hid (us[k2]? = some p) := hp
  have cA := fun W hU => l4At_c (some ⟨g, 0, none⟩) n cap us u.c9 h.hn hm W hU
  rw [hq] at cA
  have HA : Hid (∀ j, ArgU (w.drewN j) (some ⟨g, 0, none⟩) us) := fun j => h.arg.drewN j
  have HT : Hid (∀ j, Turned (w.drewN j) ((w.drewN j).setCell ⟨g, k2 * 10 + 4, none⟩ (.int .i64 (p.c4 - 7))) base g cap k2 us (life p (p.c4 - 7))) := fun j => ⟨((h.at hp).drewN j).set 4 (by omega) (p.c4 - 7), (KeptS.refl _ _).set (S := fun b => b = g) (g := g) rfl _⟩
  have cF := fun W => specFar u.c2 u.c3 p.c2 p.c3 W gu.x0 gu.x1 gu.y0 gu.y1 gp.x0 gp.x1 gp.y0 gp.y1
  have hf' : decide (1 < far u p) = false := decide_eq_false hf
  unfold far at hf'
  generalize Nums.mx (Nums.gap u.c2 p.c2) (Nums.gap u.c3 p.c3) = F at cF hf'
  obtain ⟨c0, c1, c2, c3, c4, c5, c6, c7, c8, c9, cl⟩ := (h.at h.hk).one
  obtain ⟨d0, d1, d2, d3, d4, d5, d6, d7, d8, d9, dl⟩ := (h.at hp).one
  have uz := (h.at hp).frozen (k2 * 10 + 4)
  have b0 := h.sb.c0
  have b1 := h.sb.c1
  have bl := h.sb.lt
  have hcap : (n : Int) ≤ (cap : Int) := by obtain ⟨_, _, hc, _⟩ := (h.at hp).blk; have := h.hn; omega
  have hcap2 : (k2 : Int) ≤ (cap : Int) := by omega
  have hk21 : (k2 : Int) + 1 ≤ (n : Int) := by omega
  have hBg : B ≠ g := fun e => h.sb.nu (by rw [e]; rfl)
  have e1 : Hid (us.take k2 ++ us.drop (k2 + 1) = delU us p.c0) := cut_del h.gd.r hp
  have hbase : base ≤ w.heap.size := Nat.le_of_lt (Nat.lt_of_le_of_lt (h.at hp).b (h.at hp).lt)
  clear h hq hp gu gp hf hl
  go_enter Tryz.func84, Tryz.ntmps84
  go_wp2_with fail
  go_quiet (first | (go_at_call 46; refine (cA _ (HA.out _)).mono (fun _ _ h => ⟨h.1, _, h.2⟩)))
  revert nq
  intro j1
  go_wp2_with fail
  go_quiet (fail)
  revert nq
  intro j2
  go_wp2_with fail
  go_quiet (first | (go_at_call 114; refine (cF _).mono (fun _ _ h => ⟨h.1, _, h.2⟩)))
  revert nq
  intro j3
  obtain ⟨J, HJ⟩ : ∃ J, J = j1 + j2 + j3 := ⟨_, rfl⟩
  rw [drewN_trans, ← HJ]
  clear HJ
  obtain ⟨W0, HW0⟩ : ∃ W0, Hid (W0 = (w.drewN J).setCell ⟨g, k2 * 10 + 4, none⟩ (.int .i64 (p.c4 - 7))) := ⟨_, rfl⟩
  have T := HT.out J
  rw [← HW0.out] at T
  have sb0 : SB W0 base B o (.slice (some ⟨g, 0, none⟩) n cap) vf (us.set k2 (life p (p.c4 - 7))) fs := by
    have sb := H.out.sb
    rw [← H.out.hn] at sb
    have := sb.turn T.drewN
    rwa [H.out.hn] at this
  have K0 : KeptS (fun b => b = B ∨ b = g) w W0 := T.drewN.2.mono (fun b _ e => .inr e)
  have HB0 : Hid (W0.heap[B]? = w.heap[B]?) := T.drewN.2.block B H.out.sb.lt (fun e => H.out.sb.nu (by rw [e]; rfl))
  have hat0 : UAt W0 g 0 (us.set k2 (life p (p.c4 - 7))) := by
    rcases (show ArgU W0 (some ⟨g, 0, none⟩) (us.set k2 (life p (p.c4 - 7))) by obtain ⟨a, c, e, hA⟩ := sb0.u.form; simp only [Value.slice.injEq] at e; rw [e.1]; exact hA) with h0 | ⟨b, off, e, hb, hat⟩
    · have hz := congrArg List.length h0
      rw [List.length_set, List.length_nil] at hz
      have hz2 := (List.getElem?_eq_some_iff.1 Hp.out).1
      omega
    · simp only [Option.some.injEq, Addr.mk.injEq] at e
      obtain ⟨rfl, rfl, _⟩ := e
      exact hat
  have hg0 : g < W0.heap.size := Nat.lt_of_lt_of_le cl K0.size
  have hat1 : Hid (UAt W0 g 0 (us.take k2)) := by have := hat0.take k2; rwa [List.take_set_of_le (by omega)] at this
  have hat2 : Hid (UAt W0 g ((k2 + 1) * 10) (us.drop (k2 + 1))) := by have := hat0.drop (k2 + 1); rwa [List.drop_set_of_lt (by omega)] at this
  have l1 : Hid ((us.take k2).length = k2) := by show _ = _; rw [List.length_take]; have := (List.getElem?_eq_some_iff.1 Hp.out).1; omega
  have l2 : Hid ((us.drop (k2 + 1)).length = n - (k2 + 1)) := by show _ = _; rw [List.length_drop, H.out.hn]
  have hwW : w.heap.size ≤ W0.heap.size := K0.size
  go_upto_region 14 with fail
  rw [← HW0.out]
  have b0' := sb0.c0
  have bl' := sb0.lt
  clear c0 c1 c2 c3 c4 c5 c6 c7 c8 c9 d0 d1 d2 d3 d4 d5 d6 d7 d8 d9 dl uz b0 b1 HT HA cA cF hat0 T
  go_wp2_with (first | (at_builtin; refine wpList_copyU3 rfl _ _ rfl W0 (us.take k2) g 0 k2 _ l1.out hat1.out hg0 rfl rfl (by omega) ?_))
  intro v2 w2 S2 kb2 nn2
  have sb2 := sb0.later kb2
  have b2 := sb2.c0
  have bz2 := sb2.fz
  have bl2 := sb2.lt
  have hat3 : Hid (UAt w2 g (if cap = k2 + 1 then 0 else (k2 + 1) * 10) (us.drop (k2 + 1))) := by
    show UAt _ _ _ _
    split
    · intro i x hi
      have := (List.getElem?_eq_some_iff.1 hi).1
      have := l2.out
      omega
    · exact hat2.out.later hg0 kb2
  have hsel : Hid (Value.slice (if cap = k2 + 1 then some ⟨g, 0, none⟩ else some ⟨g, (k2 + 1) * 10, none⟩) (n - (k2 + 1)) (cap - (k2 + 1)) = .slice (some ⟨g, if cap = k2 + 1 then 0 else (k2 + 1) * 10, none⟩) (n - (k2 + 1)) (cap - (k2 + 1))) := by show _ = _; split <;> rfl
  have hg2 : g < w2.heap.size := Nat.lt_of_lt_of_le hg0 kb2.size
  clear b0' bl'
  have l0 : (us.take k2).length ≤ 100 := by have := l1.out; omega
  go_wp2_with (first | (at_builtin; refine wpList_joinU rfl _ _ rfl w2 W0.heap.size v2 (us.take k2) (us.drop (k2 + 1)) S2 kb2.size l0 nn2 g _ (n - (k2 + 1)) (cap - (k2 + 1)) l2.out hat3.out hg2 rfl hsel.out (by omega) ?_))
  all_goals
    intro v3 w3 S3 kb3 nn3
    have kb := kb2.trans kb3
    rw [e1.out] at S3
    obtain ⟨a3, c3, hv3, _⟩ := S3.form
    obtain ⟨m3, Hm3⟩ : ∃ m3, Hid ((delU us p.c0).length = m3) := ⟨_, rfl⟩
    rw [Hm3.out] at hv3
    subst hv3
    have sb3 := sb0.later kb
    have b3 := sb3.c0
    have bz3 := sb3.fz
    have bl3 := sb3.lt
    have K4 : KeptS (fun b => b = B ∨ b = g) w (w3.setCell ⟨B, o, none⟩ (.slice a3 m3 c3)) := (K0.trans (KeptS.of_below kb)).set (.inl rfl) _
    have hB3 : ∀ q, (Value.slice a3 m3 c3).ownBlock = some q → W0.heap.size ≤ q := fun q hq => (S3.lt q hq).1
    have nB : (Value.slice a3 m3 c3).ownBlock ≠ some B := fun e => by have := hB3 B e; have := sb0.lt; omega
    have SF : SlF (w3.setCell ⟨B, o, none⟩ (.slice a3 m3 c3)) base vf fs := sb3.f.of_block (fun q hq => Below.heap_setCell _ _ _ _ (fun e : q = B => sb0.nf (by rw [← e]; exact hq)))
    have SU : SlU (w3.setCell ⟨B, o, none⟩ (.slice a3 m3 c3)) base (.slice a3 m3 c3) (delU us p.c0) := (S3.of_block (fun q hq => Below.heap_setCell _ _ _ _ (fun e : q = B => nB (by rw [← e]; exact hq)))).mono (by omega)
    have hset : (w3.setCell ⟨B, o, none⟩ (.slice a3 m3 c3)).cell? ⟨B, o, none⟩ = some (.slice a3 m3 c3) := World.cell?_setCell_same' _ _ _ (by rw [b3]; rfl)
    have hssz := K4.size
    have R : AOut w (w3.setCell ⟨B, o, none⟩ (.slice a3 m3 c3)) base B o g cap n vf (delU us p.c0) fs := by
      refine ⟨_, hset, ⟨hset, ?_, ?_, Nat.lt_of_lt_of_le bl hssz, SU, SF, nB, sb0.nf⟩, K4, nn3, .inr (fun b hb => Nat.le_trans hwW (hB3 b hb)), OneOff.set ((kb.block B sb0.lt).trans HB0.out) _⟩
      · rw [World.cell?_setCell_other _ _ _ _ (by simp)]
        exact sb3.c1
      · rw [World.frozen?_setCell]; exact sb3.fz
    clear S2 hsel hat3
    go_wp2_with fail
    go_ret
    exact ⟨rfl, R⟩
end Go.Proofs.YtepjkcfheejlbaaGreatDoor
end

/- TickSpec6 -/
/- The contract of what a unit does, in the model. Condition: the board is the call's own copy, without a fault; rooms are four purses. -/
section
namespace Go.Proofs.YtepjkcfheejlbaaGreatDoor
open Go.ChangeShapes Go.WideShapes Go.ChangeAt Go.RowKit
open Bd
set_option linter.unusedVariables false

theorem l5Attack_c (base B o g cap k n : Nat) (vf : Value) (us : List K10) (fs : List K3) (u : K10) (w : World) (h : AIn w base B o g cap k n vf us fs u) :
    Calls Tryz.prog 84 #[.pointer (some ⟨B, o, none⟩), .int .i64 k] w fun e w' => e = .returned (.int .i64 (tkAtk us fs u).lost) ∧ AOut w w' base B o g cap n vf (tkAtk us fs u).us (tkAtk us fs u).fs := by
  rcases atU_find us u.c9 with ⟨h1, h2⟩ | ⟨k2, p, h1, h2, h3⟩
  · have e : tkAtk us fs u = ⟨putU (idle u) us, fs, 0, 0⟩ := by unfold tkAtk; rw [h2]
    rw [e]
    exact l5Attack_none base B o g cap k n vf us fs u w h (by unfold atI; rw [h1])
  · have hq : atI us u.c9 = (k2 : Int) := by unfold atI; rw [h1]
    have e : tkAtk us fs u = if (p.c1 == u.c1) = true then ⟨putU (idle u) us, fs, 0, 0⟩ else if 1 < far u p then ⟨putU (goTo u p.c2 p.c3) us, fs, 0, 0⟩ else tkHit us fs p := by unfold tkAtk; rw [h3]
    rw [e]
    cases ho : p.c1 == u.c1
    · rw [if_neg (by simp)]
      by_cases hf : 1 < far u p
      · rw [if_pos hf]
        exact l5Attack_far base B o g cap k n k2 vf us fs u p w h hq h2 ho hf
      · rw [if_neg hf]
        unfold tkHit
        by_cases hl : p.c4 - 7 < 1
        · rw [if_pos hl]
          exact l5Attack_dead base B o g cap k n k2 vf us fs u p w h hq h2 ho hf hl
        · rw [if_neg hl]
          exact l5Attack_hit base B o g cap k n k2 vf us fs u p w h hq h2 ho hf hl
    · rw [if_pos rfl]
      exact l5Attack_same base B o g cap k n k2 vf us fs u p w h hq h2 ho
/- numbers in memory -/
def IAt (w : World) (g off : Nat) (l : List Int) : Prop := ∀ i x, l[i]? = some x → w.cell? ⟨g, off + i, none⟩ = some (.int .i64 x)
theorem IAt.later {w w' : World} {g off : Nat} {l : List Int} (h : IAt w g off l) (hg : g < w.heap.size) (hb : Below w.heap.size w w') : IAt w' g off l := fun i x hi => by rw [hb.cell hg]; exact h i x hi
theorem IAt.of_block {w w' : World} {g off : Nat} {l : List Int} (h : IAt w g off l) (e : w'.heap[g]? = w.heap[g]?) : IAt w' g off l := fun i x hi => by rw [cell_blk e]; exact h i x hi
theorem Lst.iat {w : World} {g cap : Nat} {l : List Int} (h : Lst w g cap l) : IAt w g 0 l := fun i x hi => by rw [Nat.zero_add]; exact h.cell hi
/- what a unit's turn is handed, and what it leaves -/
structure UIn (w : World) (base B o g cap k n : Nat) (vf : Value) (us : List K10) (fs : List K3) (u : K10) (gr offr : Nat) (rm : List Int) : Prop where
  sb : SB w base B o (.slice (some ⟨g, 0, none⟩) n cap) vf us fs
  gd : Gd us fs
  hk : us[k]? = some u
  hn : us.length = n
  rl : rm.length = 4
  rb : ∀ x ∈ rm, 0 ≤ x ∧ x ≤ 1000000
  ra : IAt w gr offr rm
  rg : gr < w.heap.size
def UOut (w w' : World) (base B o g cap n : Nat) (vf : Value) (t : Tk) (ow : Nat) (gv : Value) : Prop :=
  ∃ vu', SB w' base B o vu' vf t.us t.fs ∧ SlI w' w.heap.size gv (addAt z4 ow t.give) ∧ KeptS (fun b => b = B ∨ b = g ∨ vf.ownBlock = some b) w w' ∧ vu' ≠ .slice none 0 0 ∧ (vu' = .slice (some ⟨g, 0, none⟩) n cap ∨ ∀ b, vu'.ownBlock = some b → w.heap.size ≤ b) ∧ OneOff B o w w'
theorem UIn.gu {w : World} {base B o g cap k n : Nat} {vf : Value} {us : List K10} {fs : List K3} {u : K10} {gr offr : Nat} {rm : List Int} (h : UIn w base B o g cap k n vf us fs u gr offr rm) : GU u := h.gd.gu (List.mem_of_getElem? h.hk)
theorem UIn.later {w w' : World} {base B o g cap k n : Nat} {vf : Value} {us : List K10} {fs : List K3} {u : K10} {gr offr : Nat} {rm : List Int} (h : UIn w base B o g cap k n vf us fs u gr offr rm) (hb : Below w.heap.size w w') : UIn w' base B o g cap k n vf us fs u gr offr rm :=
  ⟨h.sb.later hb, h.gd, h.hk, h.hn, h.rl, h.rb, h.ra.later h.rg hb, Nat.lt_of_lt_of_le h.rg hb.size⟩
theorem UIn.at {w : World} {base B o g cap k n : Nat} {vf : Value} {us : List K10} {fs : List K3} {u : K10} {gr offr : Nat} {rm : List Int} (h : UIn w base B o g cap k n vf us fs u gr offr rm) : AtU w base g cap k us u := by
  have := h.sb
  rw [← h.hn] at this
  exact this.at h.hk
abbrev G4 : Obj := .cells #[.int .i64 0, .int .i64 0, .int .i64 0, .int .i64 0] 2
theorem g4_new (w : World) : Lst (w.alloc G4) w.heap.size 4 z4 := by
  refine ⟨#[.int .i64 0, .int .i64 0, .int .i64 0, .int .i64 0], ?_, by simp [z4], by unfold maxLen; omega, rfl, rfl⟩
  show (w.heap.push _)[w.heap.size]? = _
  simp
/- the end of a turn: the gains' list lies behind all -/
theorem UOut.mk0 {w w' : World} {base B o g cap k n : Nat} {vf vu' : Value} {us : List K10} {fs : List K3} {u : K10} {gr offr : Nat} {rm : List Int} {t : Tk} {ow : Nat} (h : UIn w base B o g cap k n vf us fs u gr offr rm)
    (sb : SB w' base B o vu' vf t.us t.fs) (K : KeptS (fun b => b = B ∨ b = g ∨ vf.ownBlock = some b) (w.alloc G4) w') (hg : t.give = 0) (nn : vu' ≠ .slice none 0 0) (hv : vu' = .slice (some ⟨g, 0, none⟩) n cap ∨ ∀ b, vu'.ownBlock = some b → w.heap.size ≤ b) (oo : OneOff B o (w.alloc G4) w') :
    UOut w w' base B o g cap n vf t ow (.slice (some ⟨w.heap.size, 0, none⟩) 4 4) := by
  have gl := h.at.lt
  have bl := h.sb.lt
  have hS : ¬ (w.heap.size = B ∨ w.heap.size = g ∨ vf.ownBlock = some w.heap.size) := by
    rintro (e | e | e)
    · omega
    · omega
    · have := (h.sb.f.lt _ e).2; omega
  have L := (g4_new w).of_block (K.block w.heap.size (by rw [size_new]; omega) hS)
  refine ⟨vu', sb, ?_, (KeptS.of_below ((Below.refl _ _).alloc (Nat.le_refl _) _)).trans K, nn, hv, oo.pre (((Below.refl _ _).alloc (Nat.le_refl _) _).block B bl)⟩
  rw [hg, addAt_zero]
  exact SlI.of_lst L (Nat.le_refl _)
theorem tk1_job {us : List K10} {fs : List K3} {u : K10} {room : Int} (h : u.c1 ≠ 9) : tk1 us fs u room = if u.c6 = 1 then tkMove us fs u else if u.c6 = 2 then tkHarv us fs u room else if u.c6 = 3 then tkAtk us fs u else ⟨us, fs, 0, 0⟩ := by unfold tk1; rw [if_neg h]
theorem tkMove_give (us : List K10) (fs : List K3) (u : K10) : (tkMove us fs u).give = 0 ∧ (tkMove us fs u).lost = 0 := by unfold tkMove; split <;> exact ⟨rfl, rfl⟩
theorem tkAtk_give (us : List K10) (fs : List K3) (u : K10) : (tkAtk us fs u).give = 0 := by
  unfold tkAtk
  split
  · rfl
  · split
    · rfl
    · split
      · rfl
      · unfold tkHit; split <;> rfl
theorem tkHarv_lost (us : List K10) (fs : List K3) (u : K10) (room : Int) : (tkHarv us fs u room).lost = 0 := by
  unfold tkHarv
  split
  · rfl
  · split
    · unfold tkBring; split <;> rfl
    · split
      · rfl
      · unfold tkTake; split <;> rfl
set_option maxRecDepth 20000 in
set_option maxHeartbeats 8000000 in
theorem l5Unit_nobody (base B o g cap k n : Nat) (vf : Value) (us : List K10) (fs : List K3) (u : K10) (gr offr cr : Nat) (rm : List Int) (w : World) (h : UIn w base B o g cap k n vf us fs u gr offr rm) (hq : u.c1 = 9) :
    Calls Tryz.prog 48 #[.pointer (some ⟨B, o, none⟩), .int .i64 k, .slice (some ⟨gr, offr, none⟩) 4 cr] w fun e w' => ∃ gv, e = .returned (.tuple #[gv, .int .i64 0]) ∧ UOut w w' base B o g cap n vf ⟨us, fs, 0, 0⟩ u.c1.toNat gv := by
  have hlt : (k : Int) < (n : Int) := by have := (List.getElem?_eq_some_iff.1 h.hk).1; have := h.hn; omega
  have B1 : Below w.heap.size w (w.alloc G4) := (Below.refl _ _).alloc (Nat.le_refl _) _
  have h1 := h.later B1
  have R : UOut w (w.alloc G4) base B o g cap n vf ⟨us, fs, 0, 0⟩ u.c1.toNat (.slice (some ⟨w.heap.size, 0, none⟩) 4 4) := UOut.mk0 h h1.sb (KeptS.refl _ _) rfl (by simp) (.inl rfl) (OneOff.of_block rfl)
  obtain ⟨c0, c1, c2, c3, c4, c5, c6, c7, c8, c9, cl⟩ := h.at.one
  rw [hq] at c1
  have b0 := h.sb.c0
  have bl := h.sb.lt
  clear h h1 hq
  go_enter Tryz.func48, Tryz.ntmps48
  go_wp2_with fail
  go_ret2
  exact ⟨_, rfl, R⟩
set_option maxRecDepth 20000 in
set_option maxHeartbeats 8000000 in
theorem l5Unit_none (base B o g cap k n : Nat) (vf : Value) (us : List K10) (fs : List K3) (u : K10) (gr offr cr : Nat) (rm : List Int) (w : World) (h : UIn w base B o g cap k n vf us fs u gr offr rm) (hq : (u.c1 == 9) = false) (hj : u.c6 = 0) :
    Calls Tryz.prog 48 #[.pointer (some ⟨B, o, none⟩), .int .i64 k, .slice (some ⟨gr, offr, none⟩) 4 cr] w fun e w' => ∃ gv, e = .returned (.tuple #[gv, .int .i64 0]) ∧ UOut w w' base B o g cap n vf ⟨us, fs, 0, 0⟩ u.c1.toNat gv := by
  have hlt : (k : Int) < (n : Int) := by have := (List.getElem?_eq_some_iff.1 h.hk).1; have := h.hn; omega
  have B1 : Below w.heap.size w (w.alloc G4) := (Below.refl _ _).alloc (Nat.le_refl _) _
  have h1 := h.later B1
  have R : UOut w (w.alloc G4) base B o g cap n vf ⟨us, fs, 0, 0⟩ u.c1.toNat (.slice (some ⟨w.heap.size, 0, none⟩) 4 4) := UOut.mk0 h h1.sb (KeptS.refl _ _) rfl (by simp) (.inl rfl) (OneOff.of_block rfl)
  obtain ⟨c0, c1, c2, c3, c4, c5, c6, c7, c8, c9, cl⟩ := h.at.one
  rw [hj] at c6
  have b0 := h.sb.c0
  have bl := h.sb.lt
  clear h h1 hj
  go_enter Tryz.func48, Tryz.ntmps48
  go_wp2_with fail
  go_ret2
  exact ⟨_, rfl, R⟩
theorem Turned.uout {w w' : World} {j base B o g cap k n : Nat} {vf : Value} {us : List K10} {fs : List K3} {u u' : K10} {gr offr : Nat} {rm : List Int} (h : UIn w base B o g cap k n vf us fs u gr offr rm) (t : Turned ((w.alloc G4).drewN j) w' base g cap k us u') (he : u'.c0 = u.c0) (ow : Nat) : UOut w w' base B o g cap n vf ⟨putU u' us, fs, 0, 0⟩ ow (.slice (some ⟨w.heap.size, 0, none⟩) 4 4) := by
  have h1 := h.later (w' := w.alloc G4) ((Below.refl _ _).alloc (Nat.le_refl _) _)
  have sb := h1.sb
  rw [← h.hn] at sb
  have sb' := sb.turn t.drewN
  rw [set_put h.gd.r h.hk he, h.hn] at sb'
  exact UOut.mk0 (t := ⟨putU u' us, fs, 0, 0⟩) h sb' (t.drewN.2.mono (fun b _ e => .inr (.inl e))) rfl (by simp) (.inl rfl) (OneOff.of_block (t.drewN.2.block B h1.sb.lt (fun e => h1.sb.nu (by rw [e]; rfl))))
set_option maxRecDepth 20000 in
set_option maxHeartbeats 8000000 in
theorem l5Unit_move (base B o g cap k n : Nat) (vf : Value) (us : List K10) (fs : List K3) (u : K10) (gr offr cr : Nat) (rm : List Int) (w : World) (h : UIn w base B o g cap k n vf us fs u gr offr rm) (hq : (u.c1 == 9) = false) (hj : u.c6 = 1) :
    Calls Tryz.prog 48 #[.pointer (some ⟨B, o, none⟩), .int .i64 k, .slice (some ⟨gr, offr, none⟩) 4 cr] w fun e w' => ∃ gv, e = .returned (.tuple #[gv, .int .i64 0]) ∧ UOut w w' base B o g cap n vf (tkMove us fs u) u.c1.toNat gv := by
  have hlt : (k : Int) < (n : Int) := by have := (List.getElem?_eq_some_iff.1 h.hk).1; have := h.hn; omega
  have gu := h.gu
  have hto : 0 ≤ u.c7 ∧ u.c7 ≤ 11 ∧ 0 ≤ u.c8 ∧ u.c8 ≤ 11 := by
    rcases gu.j with ⟨a, _⟩ | ⟨_, _, a⟩ | ⟨a, _⟩ | ⟨a, _⟩
    · omega
    · exact a
    · omega
    · omega
  obtain ⟨W1, HW1⟩ : ∃ W1, Hid (W1 = w.alloc G4) := ⟨_, rfl⟩
  have B1 : Below w.heap.size w W1 := by rw [HW1.out]; exact (Below.refl _ _).alloc (Nat.le_refl _) _
  have h1 := h.later B1
  have H : Hid (UIn w base B o g cap k n vf us fs u gr offr rm) := h
  have HT : Hid (∀ j, AtU (W1.drewN j) base g cap k us u) := fun j => h1.at.drewN j
  have cI := fun W hT => l5Idle_c base g cap k us u W hT
  have cW := fun W hT => l5Walk_c base g cap k us u u.c7 u.c8 gu hto.1 hto.2.1 hto.2.2.1 hto.2.2.2 W hT
  obtain ⟨x0, x1, x2, x3, x4, x5, x6, x7, x8, x9, xl⟩ := h.at.one
  obtain ⟨c0, c1, c2, c3, c4, c5, c6, c7, c8, c9, cl⟩ := h1.at.one
  rw [hj] at c6
  have b0 := h.sb.c0
  have bl := h.sb.lt
  clear h hj gu hto
  rcases at2_cases u.c2 u.c3 u.c7 u.c8 with ⟨e, _, _, n1, n2⟩ | ⟨e, hn⟩
  · have eT : tkMove us fs u = ⟨putU (idle u) us, fs, 0, 0⟩ := by unfold tkMove; rw [if_pos e]
    rw [eT]
    clear eT e
    go_enter Tryz.func48, Tryz.ntmps48
    go_upto_region 3 with fail
    rw [← HW1.out]
    clear x0 x1 x2 x3 x4 x5 x6 x7 x8 x9 xl b0 bl
    go_wp2_with fail
    go_quiet (fail)
    go_wp2_with fail
    refine (cI _ (HT.out _)).mono ?_
    rintro e w1 ⟨rfl, T⟩
    rw [HW1.out] at T
    have R := Turned.uout (u' := idle u) H.out T rfl u.c1.toNat
    go_wp2_with fail
    go_ret2
    exact ⟨_, rfl, R⟩
  · have eT : tkMove us fs u = ⟨putU (goTo u u.c7 u.c8) us, fs, 0, 0⟩ := by unfold tkMove; rw [if_neg (by rw [e]; simp)]
    rw [eT]
    clear eT e
    rcases hn with ⟨_, n1⟩ | ⟨_, _, n1, n2⟩
    all_goals
      go_enter Tryz.func48, Tryz.ntmps48
      go_upto_region 3 with fail
      rw [← HW1.out]
      clear x0 x1 x2 x3 x4 x5 x6 x7 x8 x9 xl b0 bl
      go_wp2_with fail
      go_quiet (fail)
      go_wp2_with fail
      go_region_with (go_at_call 82; refine (cW _ (HT.out _)).mono ?_; rintro e w1 ⟨rfl, T⟩)
      all_goals
        rw [HW1.out] at T
        have R := Turned.uout (u' := goTo u u.c7 u.c8) H.out T rfl u.c1.toNat
        go_wp2_with fail
        go_ret2
        exact ⟨_, rfl, R⟩
end Go.Proofs.YtepjkcfheejlbaaGreatDoor
end
