/- Texts of mine put together (a claim holds at most 60 files): TickSpec4. -/
import Derived.Test.YtepjkcfheejlbaaGreatDoorPartT20
import Derived.Test.YtepjkcfheejlbaaGreatDoorPartT11
import Derived.Test.YtepjkcfheejlbaaGreatDoorPartT12

/- TickSpec4 -/
/- The contract of the model's attack. Condition: the board is the call's own copy, without a fault. -/
section
namespace Go.Proofs.YtepjkcfheejlbaaGreatDoor
open Go.ChangeShapes Go.WideShapes Go.ChangeAt Go.RowKit
open Bd
set_option linter.unusedVariables false

theorem l5Harvest_c (base B o g cap k : Nat) (vf : Value) (us : List K10) (fs : List K3) (u : K10) (room : Int) (w : World) (h : HIn w base B o g cap k vf us fs u room) :
    Calls Tryz.prog 83 #[.pointer (some ⟨B, o, none⟩), .pointer (some ⟨g, k * 10, none⟩), .int .i64 room] w fun e w' => e = .returned (.int .i64 (tkHarv us fs u room).give) ∧ HOut w w' base B o g cap vf us.length (tkHarv us fs u room).us (tkHarv us fs u room).fs := by
  cases hf : fs[u.c9.toNat]? with
  | none =>
    have e : tkHarv us fs u room = ⟨putU (idle u) us, fs, 0, 0⟩ := by unfold tkHarv; rw [hf]
    rw [e]
    exact l5Harvest_none base B o g cap k vf us fs u room w h hf
  | some f =>
    obtain ⟨m', p, gf, cf, rfl, H⟩ := h.field hf
    have e : tkHarv us fs u room = if full u f = true then tkBring us fs u room else if (f.c2 == 0) = true then ⟨putU (idle u) us, fs, 0, 0⟩ else tkTake us fs u f := by unfold tkHarv; rw [hf]
    rcases full_cases (f := f) H.gu with ⟨q, q1⟩ | ⟨q, q0, q1, q2⟩ | ⟨q, q0, q1, q2⟩
    · rw [e, if_pos q, tkBring_eq]
      exact l5Harvest_full base B o g cap k m' p gf cf us fs u f room w H q1
    · rw [e, if_neg (by rw [q]; simp), if_pos q0]
      exact l5Harvest_bare base B o g cap k m' p gf cf us fs u f room w H q0 q1 q2
    · rw [e, if_neg (by rw [q]; simp), if_neg (by rw [q0]; simp)]
      unfold tkTake
      rcases at2_cases u.c2 u.c3 f.c0 f.c1 with ⟨a, _, _, a1, a2⟩ | ⟨a, a1⟩
      · rw [if_pos a, H.hp, Int.toNat_natCast]
        exact l5Harvest_take base B o g cap k m' p gf cf us fs u f room w H q0 q1 q2 a1 a2
      · rw [if_neg (by rw [a]; simp)]
        refine l5Harvest_walk base B o g cap k m' p gf cf us fs u f room w H q0 q1 q2 ?_
        rcases a1 with ⟨_, b⟩ | ⟨_, _, b, c⟩
        · exact .inl b
        · exact .inr ⟨b, c⟩
/- append: a copy, and more behind a slice of one's own -/
theorem UAt.take {w : World} {g off : Nat} {l : List K10} (h : UAt w g off l) (k : Nat) : UAt w g off (l.take k) := fun i x hi f hf => by
  rw [List.getElem?_take] at hi
  split at hi
  · exact h i x hi f hf
  · cases hi
theorem UAt.drop {w : World} {g : Nat} {l : List K10} (h : UAt w g 0 l) (k : Nat) : UAt w g (k * 10) (l.drop k) := fun i x hi f hf => by
  rw [List.getElem?_drop] at hi
  have := h (k + i) x hi f hf
  rwa [show 0 + (k + i) * 10 + f = k * 10 + i * 10 + f from by omega] at this
theorem wpList_copyU3 {ops : Array Oper} {rest : List Oper} {o : Oper} {a : Act} {Q : Exit → Act → World → Prop} (hgd : o.guard = none) (s x : Operand)
    (ho : o.op = .call { callee := .builtin .append, args := #[s, x], argTypes := #[24, 24] }) (w0 : World) (l : List K10) (g off n c : Nat) (hn : l.length = n) (hat : UAt w0 g off l) (hg : g < w0.heap.size)
    (hs : a.eval s = .slice (some ⟨w0.heap.size, 0, none⟩) 0 0) (hx : a.eval x = .slice (some ⟨g, off, none⟩) n c) (hlen : n ≤ 100)
    (h : ∀ v' w', SlU w' w0.heap.size v' l → Below w0.heap.size w0 w' → v' ≠ .slice none 0 0 → wpList Tryz.prog ops Q rest (a.put o.dst v') w') :
    wpList Tryz.prog ops Q (o :: rest) a (w0.alloc (.cells #[] 87)) := by
  obtain ⟨i0, hi, hz0, hz1, hz2⟩ := info_parts infoU
  have hown : (w0.alloc (.cells #[] 87)).ownsRow w0.heap.size 87 10 (.slice (some ⟨w0.heap.size, 0, none⟩) 0 0) 0 [] := World.ownsRow_made w0 #[] 0 (Nat.le_refl _) (by unfold maxLen; omega) rfl
  refine wpList_append_own _ hgd s x 24 ho w0.heap.size 87 i0 (.agg K10.z.v) 10 80 Tryz.underlying24 hi hz0 hz1 hz2 rfl (by decide) _ 0 _ hs hown ⟨g, off, none⟩ n c (flatU l) hx (by rw [flatU_len, hn]) ?_ (flatU_one l) (by unfold maxLen; omega) (by omega) (by rw [size_new]; omega) ?_
  · intro j y hj
    rw [add_plain', cell_old _ _ _ _ hg]
    have hjl : j < l.length * 10 := by rw [← flatU_len]; exact (List.getElem?_eq_some_iff.1 hj).1
    obtain ⟨z, hz⟩ : ∃ z, l[j / 10]? = some z := ⟨_, List.getElem?_eq_getElem (by omega)⟩
    have e := flatU_get l (j / 10) z (j % 10) hz (by omega)
    have hj2 : j / 10 * 10 + j % 10 = j := by omega
    rw [hj2, hj] at e
    have := hat (j / 10) z hz (j % 10) (by omega)
    rw [show off + j / 10 * 10 + j % 10 = off + j from by omega] at this
    rw [this, e]
  · intro v' w' h1 h2 h3
    refine h v' w' ?_ (((Below.refl _ w0).alloc (Nat.le_refl _) _).grown h2 (by rw [size_new]; omega) (fun k' hk' => by cases hk'; exact Nat.le_refl _)) (fun e => by have := (h3.1 e).1; simp at this)
    unfold SlU
    rw [hn]
    simpa using h1
theorem wpList_joinU {ops : Array Oper} {rest : List Oper} {o : Oper} {a : Act} {Q : Exit → Act → World → Prop} (hgd : o.guard = none) (s x : Operand)
    (ho : o.op = .call { callee := .builtin .append, args := #[s, x], argTypes := #[24, 24] }) (w0 : World) (base : Nat) (v : Value) (l0 l : List K10) (hown : SlU w0 base v l0) (hbase : base ≤ w0.heap.size) (h0 : l0.length ≤ 100) (hnn : v ≠ .slice none 0 0) (g off n c : Nat) (hn : l.length = n) (hat : UAt w0 g off l) (hg : g < w0.heap.size)
    (hs : a.eval s = v) (hx : a.eval x = .slice (some ⟨g, off, none⟩) n c) (hlen : n ≤ 100)
    (h : ∀ v' w', SlU w' base v' (l0 ++ l) → Below base w0 w' → v' ≠ .slice none 0 0 → wpList Tryz.prog ops Q rest (a.put o.dst v') w') :
    wpList Tryz.prog ops Q (o :: rest) a w0 := by
  obtain ⟨i0, hi, hz0, hz1, hz2⟩ := info_parts infoU
  refine wpList_append_own _ hgd s x 24 ho base 87 i0 (.agg K10.z.v) 10 80 Tryz.underlying24 hi hz0 hz1 hz2 rfl (by decide) v l0.length _ hs hown ⟨g, off, none⟩ n c (flatU l) hx (by rw [flatU_len, hn]) ?_ (flatU_one l) (by unfold maxLen; omega) (by omega) hbase ?_
  · intro j y hj
    rw [add_plain']
    have hjl : j < l.length * 10 := by rw [← flatU_len]; exact (List.getElem?_eq_some_iff.1 hj).1
    obtain ⟨z, hz⟩ : ∃ z, l[j / 10]? = some z := ⟨_, List.getElem?_eq_getElem (by omega)⟩
    have e := flatU_get l (j / 10) z (j % 10) hz (by omega)
    have hj2 : j / 10 * 10 + j % 10 = j := by omega
    rw [hj2, hj] at e
    have := hat (j / 10) z hz (j % 10) (by omega)
    rw [show off + j / 10 * 10 + j % 10 = off + j from by omega] at this
    rw [this, e]
  · intro v' w' h1 h2 h3
    refine h v' w' ?_ ((Below.refl base w0).grown h2 hbase (fun k' hk' => (hown.lt k' hk').1)) (fun e => hnn (h3.1 e).1)
    unfold SlU
    rw [flatU_app, List.length_append, hn]
    exact h1
/- what an attack is handed, and what it leaves -/
structure AIn (w : World) (base B o g cap k n : Nat) (vf : Value) (us : List K10) (fs : List K3) (u : K10) : Prop where
  sb : SB w base B o (.slice (some ⟨g, 0, none⟩) n cap) vf us fs
  gd : Gd us fs
  hk : us[k]? = some u
  hj : u.c6 = 3
  hn : us.length = n
def AOut (w w' : World) (base B o g cap n : Nat) (vf : Value) (us' : List K10) (fs' : List K3) : Prop :=
  ∃ vu', w'.cell? ⟨B, o, none⟩ = some vu' ∧ SB w' base B o vu' vf us' fs' ∧ KeptS (fun b => b = B ∨ b = g) w w' ∧ vu' ≠ .slice none 0 0 ∧ (vu' = .slice (some ⟨g, 0, none⟩) n cap ∨ ∀ b, vu'.ownBlock = some b → w.heap.size ≤ b) ∧ OneOff B o w w'
theorem AIn.drewN {w : World} {base B o g cap k n : Nat} {vf : Value} {us : List K10} {fs : List K3} {u : K10} (h : AIn w base B o g cap k n vf us fs u) (j : Nat) : AIn (w.drewN j) base B o g cap k n vf us fs u := ⟨h.sb.drewN j, h.gd, h.hk, h.hj, h.hn⟩
theorem AIn.at {w : World} {base B o g cap k n : Nat} {vf : Value} {us : List K10} {fs : List K3} {u : K10} (h : AIn w base B o g cap k n vf us fs u) {k2 : Nat} {x : K10} (hx : us[k2]? = some x) : AtU w base g cap k2 us x := by
  have := h.sb
  rw [← h.hn] at this
  exact this.at hx
theorem Turned.aout {w w' : World} {j base B o g cap k k2 n : Nat} {vf : Value} {us : List K10} {fs : List K3} {u x u' : K10} (h : AIn w base B o g cap k n vf us fs u) (hx : us[k2]? = some x) (t : Turned (w.drewN j) w' base g cap k2 us u') (he : u'.c0 = x.c0) : AOut w w' base B o g cap n vf (putU u' us) fs := by
  have sb := h.sb
  rw [← h.hn] at sb
  have := sb.turn t.drewN
  rw [set_put h.gd.r hx he, h.hn] at this
  exact ⟨_, this.c0, this, t.drewN.2.mono (fun b _ e => .inr e), by simp, .inl rfl, OneOff.of_block (t.drewN.2.block B h.sb.lt (fun e => h.sb.nu (by rw [e]; rfl)))⟩
theorem AIn.arg {w : World} {base B o g cap k n : Nat} {vf : Value} {us : List K10} {fs : List K3} {u : K10} (h : AIn w base B o g cap k n vf us fs u) : ArgU w (some ⟨g, 0, none⟩) us := by
  obtain ⟨a, c, e, hA⟩ := h.sb.u.form
  simp only [Value.slice.injEq] at e
  rw [e.1]; exact hA
theorem ArgU.drewN {w : World} {a : Option Addr} {us : List K10} (h : ArgU w a us) (j : Nat) : ArgU (w.drewN j) a us := h.later (below_drewN w j)
theorem AIn.gu {w : World} {base B o g cap k n : Nat} {vf : Value} {us : List K10} {fs : List K3} {u : K10} (h : AIn w base B o g cap k n vf us fs u) : GU u := h.gd.gu (List.mem_of_getElem? h.hk)
set_option maxRecDepth 20000 in
set_option maxHeartbeats 8000000 in
theorem l5Attack_none (base B o g cap k n : Nat) (vf : Value) (us : List K10) (fs : List K3) (u : K10) (w : World) (h : AIn w base B o g cap k n vf us fs u) (hq : atI us u.c9 = -1) :
    Calls Tryz.prog 84 #[.pointer (some ⟨B, o, none⟩), .int .i64 k] w fun e w' => e = .returned (.int .i64 0) ∧ AOut w w' base B o g cap n vf (putU (idle u) us) fs := by
  have hm : n ≤ 8 := by have := h.gd.n8; have := h.hn; omega
  have hlt : (k : Int) < (n : Int) := by have := (List.getElem?_eq_some_iff.1 h.hk).1; have := h.hn; omega
  have H : Hid (AIn w base B o g cap k n vf us fs u) := h
  have cA := fun W hU => l4At_c (some ⟨g, 0, none⟩) n cap us u.c9 h.hn hm W hU
  rw [hq] at cA
  have HA : Hid (∀ j, ArgU (w.drewN j) (some ⟨g, 0, none⟩) us) := fun j => h.arg.drewN j
  have HT : Hid (∀ j, AtU (w.drewN j) base g cap k us u) := fun j => (h.at h.hk).drewN j
  have cI := fun W hT => l5Idle_c base g cap k us u W hT
  obtain ⟨c0, c1, c2, c3, c4, c5, c6, c7, c8, c9, cl⟩ := (h.at h.hk).one
  have b0 := h.sb.c0
  have b1 := h.sb.c1
  have bl := h.sb.lt
  clear h hq
  go_enter Tryz.func84, Tryz.ntmps84
  go_wp2_with fail
  go_quiet (first | (go_at_call 46; refine (cA _ (HA.out _)).mono (fun _ _ h => ⟨h.1, _, h.2⟩)))
  go_wp2_with fail
  go_quiet (fail)
  go_wp2_with fail
  refine (cI _ (HT.out _)).mono ?_
  rintro e w1 ⟨rfl, T⟩
  have R := Turned.aout (u' := idle u) H.out H.out.hk T rfl
  go_wp2_with fail
  go_ret
  exact ⟨rfl, R⟩
set_option maxRecDepth 20000 in
set_option maxHeartbeats 8000000 in
theorem l5Attack_same (base B o g cap k n k2 : Nat) (vf : Value) (us : List K10) (fs : List K3) (u p : K10) (w : World) (h : AIn w base B o g cap k n vf us fs u) (hq : atI us u.c9 = (k2 : Int)) (hp : us[k2]? = some p) (ho : (p.c1 == u.c1) = true) :
    Calls Tryz.prog 84 #[.pointer (some ⟨B, o, none⟩), .int .i64 k] w fun e w' => e = .returned (.int .i64 0) ∧ AOut w w' base B o g cap n vf (putU (idle u) us) fs := by
  have hm : n ≤ 8 := by have := h.gd.n8; have := h.hn; omega
  have hlt : (k : Int) < (n : Int) := by have := (List.getElem?_eq_some_iff.1 h.hk).1; have := h.hn; omega
  have hlt2 : (k2 : Int) < (n : Int) := by have := (List.getElem?_eq_some_iff.1 hp).1; have := h.hn; omega
  have hd : decide ((k2 : Int) < 0) = false := decide_eq_false (by omega)
  have H : Hid (AIn w base B o g cap k n vf us fs u) := h
  have cA := fun W hU => l4At_c (some ⟨g, 0, none⟩) n cap us u.c9 h.hn hm W hU
  rw [hq] at cA
  have HA : Hid (∀ j, ArgU (w.drewN j) (some ⟨g, 0, none⟩) us) := fun j => h.arg.drewN j
  have HT : Hid (∀ j, AtU (w.drewN j) base g cap k us u) := fun j => (h.at h.hk).drewN j
  have cI := fun W hT => l5Idle_c base g cap k us u W hT
  obtain ⟨c0, c1, c2, c3, c4, c5, c6, c7, c8, c9, cl⟩ := (h.at h.hk).one
  obtain ⟨d0, d1, d2, d3, d4, d5, d6, d7, d8, d9, dl⟩ := (h.at hp).one
  have b0 := h.sb.c0
  have b1 := h.sb.c1
  have bl := h.sb.lt
  clear h hq hp
  go_enter Tryz.func84, Tryz.ntmps84
  go_wp2_with fail
  go_quiet (first | (go_at_call 46; refine (cA _ (HA.out _)).mono (fun _ _ h => ⟨h.1, _, h.2⟩)))
  go_wp2_with fail
  go_quiet (fail)
  go_wp2_with fail
  refine (cI _ (HT.out _)).mono ?_
  rintro e w1 ⟨rfl, T⟩
  have R := Turned.aout (u' := idle u) H.out H.out.hk T rfl
  go_wp2_with fail
  go_ret
  exact ⟨rfl, R⟩
set_option maxRecDepth 20000 in
set_option maxHeartbeats 8000000 in
theorem l5Attack_far (base B o g cap k n k2 : Nat) (vf : Value) (us : List K10) (fs : List K3) (u p : K10) (w : World) (h : AIn w base B o g cap k n vf us fs u) (hq : atI us u.c9 = (k2 : Int)) (hp : us[k2]? = some p) (ho : (p.c1 == u.c1) = false) (hf : 1 < far u p) :
    Calls Tryz.prog 84 #[.pointer (some ⟨B, o, none⟩), .int .i64 k] w fun e w' => e = .returned (.int .i64 0) ∧ AOut w w' base B o g cap n vf (putU (goTo u p.c2 p.c3) us) fs := by
  have hm : n ≤ 8 := by have := h.gd.n8; have := h.hn; omega
  have hlt : (k : Int) < (n : Int) := by have := (List.getElem?_eq_some_iff.1 h.hk).1; have := h.hn; omega
  have hlt2 : (k2 : Int) < (n : Int) := by have := (List.getElem?_eq_some_iff.1 hp).1; have := h.hn; omega
  have hd : decide ((k2 : Int) < 0) = false := decide_eq_false (by omega)
  have gu := h.gu
  have gp := h.gd.gu (List.mem_of_getElem? hp)
  have H : Hid (AIn w base B o g cap k n vf us fs u) := h
  have cA := fun W hU => l4At_c (some ⟨g, 0, none⟩) n cap us u.c9 h.hn hm W hU
  rw [hq] at cA
  have HA : Hid (∀ j, ArgU (w.drewN j) (some ⟨g, 0, none⟩) us) := fun j => h.arg.drewN j
  have HT : Hid (∀ j, AtU (w.drewN j) base g cap k us u) := fun j => (h.at h.hk).drewN j
  have cW := fun W hT => l5Walk_c base g cap k us u p.c2 p.c3 gu gp.x0 gp.x1 gp.y0 gp.y1 W hT
  have cF := fun W => specFar u.c2 u.c3 p.c2 p.c3 W gu.x0 gu.x1 gu.y0 gu.y1 gp.x0 gp.x1 gp.y0 gp.y1
  unfold far at hf
  generalize Nums.mx (Nums.gap u.c2 p.c2) (Nums.gap u.c3 p.c3) = F at cF hf
  obtain ⟨c0, c1, c2, c3, c4, c5, c6, c7, c8, c9, cl⟩ := (h.at h.hk).one
  obtain ⟨d0, d1, d2, d3, d4, d5, d6, d7, d8, d9, dl⟩ := (h.at hp).one
  have b0 := h.sb.c0
  have b1 := h.sb.c1
  have bl := h.sb.lt
  clear h hq hp gu gp
  go_enter Tryz.func84, Tryz.ntmps84
  go_wp2_with fail
  go_quiet (first | (go_at_call 46; refine (cA _ (HA.out _)).mono (fun _ _ h => ⟨h.1, _, h.2⟩)))
  go_wp2_with fail
  go_quiet (fail)
  go_wp2_with fail
  go_quiet (first | (go_at_call 114; refine (cF _).mono (fun _ _ h => ⟨h.1, _, h.2⟩)))
  go_wp2_with fail
  go_region_with (go_at_call 82; refine (cW _ (HT.out _)).mono ?_; rintro e w1 ⟨rfl, T⟩)
  all_goals
    have R := Turned.aout (u' := goTo u p.c2 p.c3) H.out H.out.hk T rfl
    go_wp2_with fail
    go_ret
    exact ⟨rfl, R⟩
end Go.Proofs.YtepjkcfheejlbaaGreatDoor
end
