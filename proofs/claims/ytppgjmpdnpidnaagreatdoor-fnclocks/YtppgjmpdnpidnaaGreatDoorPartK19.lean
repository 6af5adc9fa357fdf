/- Texts of mine put together (a claim holds at most 60 files): TickSpec4, TickSpec5. -/
import Derived.Test.YtppgjmpdnpidnaaGreatDoorPartK18
import Derived.Test.YtppgjmpdnpidnaaGreatDoorPartK12

/- TickSpec4 -/
/- The contract of the model's attack. Condition: the board is the call's own copy, without a fault. -/
section
namespace Go.Proofs.YtppgjmpdnpidnaaGreatDoor
open Go.ChangeShapes Go.WideShapes Go.ChangeAt Go.RowKit
open Bd
set_option linter.unusedVariables false

theorem l5Harvest_c (base B o g cap k : Nat) (vf : Value) (us : List K10) (fs : List K3) (u : K10) (room : Int) (w : World) (h : HIn w base B o g cap k vf us fs u room) :
    Calls Tryz.prog 103 #[.pointer (some ⟨B, o, none⟩), .pointer (some ⟨g, k * 10, none⟩), .int .i64 room] w fun e w' => e = .returned (.int .i64 (tkHarv us fs u room).give) ∧ HOut w w' base B o g cap vf us.length (tkHarv us fs u room).us (tkHarv us fs u room).fs := by
  cases hf : fs[u.c9.toNat]? with
  | none =>
    have e : tkHarv us fs u room = ⟨putU (idle u) us, fs, 0, 0⟩ := by unfold tkHarv; rw [hf]
    rw [e]
    exact l5Harvest_none base B o g cap k vf us fs u room w h hf
  | some f =>
    obtain ⟨m', p, gf, cf, rfl, H⟩ := h.field hf
    have e : tkHarv us fs u room = if full u f = true then tkBring us fs u room else if (f.c2 == 0) = true then ⟨putU (idle u) us, fs, 0, 0⟩ else tkTake us fs u f := by unfold tkHarv; rw [hf]
    rcases full_cases (f := f) H.gu with ⟨q, q1⟩ | ⟨q, q0, q1, q2⟩ | ⟨q, q0, q1, q2⟩
    · rw [e, if_pos q, tkBring_eq]
      exact l5Harvest_full base B o g cap k m' p gf cf us fs u f room w H q1
    · rw [e, if_neg (by rw [q]; simp), if_pos q0]
      exact l5Harvest_bare base B o g cap k m' p gf cf us fs u f room w H q0 q1 q2
    · rw [e, if_neg (by rw [q]; simp), if_neg (by rw [q0]; simp)]
      unfold tkTake
      rcases at2_cases u.c2 u.c3 f.c0 f.c1 with ⟨a, _, _, a1, a2⟩ | ⟨a, a1⟩
      · rw [if_pos a, H.hp, Int.toNat_natCast]
        exact l5Harvest_take base B o g cap k m' p gf cf us fs u f room w H q0 q1 q2 a1 a2
      · rw [if_neg (by rw [a]; simp)]
        refine l5Harvest_walk base B o g cap k m' p gf cf us fs u f room w H q0 q1 q2 ?_
        rcases a1 with ⟨_, b⟩ | ⟨_, _, b, c⟩
        · exact .inl b
        · exact .inr ⟨b, c⟩
/- append: a copy, and more behind a slice of one's own -/
theorem UAt.take {w : World} {g off : Nat} {l : List K10} (h : UAt w g off l) (k : Nat) : UAt w g off (l.take k) := fun i x hi f hf => by
  rw [List.getElem?_take] at hi
  split at hi
  · exact h i x hi f hf
  · cases hi
theorem UAt.drop {w : World} {g : Nat} {l : List K10} (h : UAt w g 0 l) (k : Nat) : UAt w g (k * 10) (l.drop k) := fun i x hi f hf => by
  rw [List.getElem?_drop] at hi
  have := h (k + i) x hi f hf
  rwa [show 0 + (k + i) * 10 + f = k * 10 + i * 10 + f from by omega] at this
theorem wpList_copyU3 {ops : Array Oper} {rest : List Oper} {o : Oper} {a : Act} {Q : Exit → Act → World → Prop} (hgd : o.guard = none) (s x : Operand)
    (ho : o.op = .call { callee := .builtin .append, args := #[s, x], argTypes := #[24, 24] }) (w0 : World) (l : List K10) (g off n c : Nat) (hn : l.length = n) (hat : UAt w0 g off l) (hg : g < w0.heap.size)
    (hs : a.eval s = .slice (some ⟨w0.heap.size, 0, none⟩) 0 0) (hx : a.eval x = .slice (some ⟨g, off, none⟩) n c) (hlen : n ≤ 100)
    (h : ∀ v' w', SlU w' w0.heap.size v' l → Below w0.heap.size w0 w' → v' ≠ .slice none 0 0 → wpList Tryz.prog ops Q rest (a.put o.dst v') w') :
    wpList Tryz.prog ops Q (o :: rest) a (w0.alloc (.cells #[] 75)) := by
  obtain ⟨i0, hi, hz0, hz1, hz2⟩ := info_parts infoU
  have hown : (w0.alloc (.cells #[] 75)).ownsRow w0.heap.size 75 10 (.slice (some ⟨w0.heap.size, 0, none⟩) 0 0) 0 [] := World.ownsRow_made w0 #[] 0 (Nat.le_refl _) (by unfold maxLen; omega) rfl
  refine wpList_append_own _ hgd s x 24 ho w0.heap.size 75 i0 (.agg K10.z.v) 10 80 Tryz.underlying24 hi hz0 hz1 hz2 rfl (by decide) _ 0 _ hs hown ⟨g, off, none⟩ n c (flatU l) hx (by rw [flatU_len, hn]) ?_ (flatU_one l) (by unfold maxLen; omega) (by omega) (by rw [size_new]; omega) ?_
  · intro j y hj
    rw [add_plain', cell_old _ _ _ _ hg]
    have hjl : j < l.length * 10 := by rw [← flatU_len]; exact (List.getElem?_eq_some_iff.1 hj).1
    obtain ⟨z, hz⟩ : ∃ z, l[j / 10]? = some z := ⟨_, List.getElem?_eq_getElem (by omega)⟩
    have e := flatU_get l (j / 10) z (j % 10) hz (by omega)
    have hj2 : j / 10 * 10 + j % 10 = j := by omega
    rw [hj2, hj] at e
    have := hat (j / 10) z hz (j % 10) (by omega)
    rw [show off + j / 10 * 10 + j % 10 = off + j from by omega] at this
    rw [this, e]
  · intro v' w' h1 h2 h3
    refine h v' w' ?_ (((Below.refl _ w0).alloc (Nat.le_refl _) _).grown h2 (by rw [size_new]; omega) (fun k' hk' => by cases hk'; exact Nat.le_refl _)) (fun e => by have := (h3.1 e).1; simp at this)
    unfold SlU
    rw [hn]
    simpa using h1
theorem wpList_joinU {ops : Array Oper} {rest : List Oper} {o : Oper} {a : Act} {Q : Exit → Act → World → Prop} (hgd : o.guard = none) (s x : Operand)
    (ho : o.op = .call { callee := .builtin .append, args := #[s, x], argTypes := #[24, 24] }) (w0 : World) (base : Nat) (v : Value) (l0 l : List K10) (hown : SlU w0 base v l0) (hbase : base ≤ w0.heap.size) (h0 : l0.length ≤ 100) (hnn : v ≠ .slice none 0 0) (g off n c : Nat) (hn : l.length = n) (hat : UAt w0 g off l) (hg : g < w0.heap.size)
    (hs : a.eval s = v) (hx : a.eval x = .slice (some ⟨g, off, none⟩) n c) (hlen : n ≤ 100)
    (h : ∀ v' w', SlU w' base v' (l0 ++ l) → Below base w0 w' → v' ≠ .slice none 0 0 → wpList Tryz.prog ops Q rest (a.put o.dst v') w') :
    wpList Tryz.prog ops Q (o :: rest) a w0 := by
  obtain ⟨i0, hi, hz0, hz1, hz2⟩ := info_parts infoU
  refine wpList_append_own _ hgd s x 24 ho base 75 i0 (.agg K10.z.v) 10 80 Tryz.underlying24 hi hz0 hz1 hz2 rfl (by decide) v l0.length _ hs hown ⟨g, off, none⟩ n c (flatU l) hx (by rw [flatU_len, hn]) ?_ (flatU_one l) (by unfold maxLen; omega) (by omega) hbase ?_
  · intro j y hj
    rw [add_plain']
    have hjl : j < l.length * 10 := by rw [← flatU_len]; exact (List.getElem?_eq_some_iff.1 hj).1
    obtain ⟨z, hz⟩ : ∃ z, l[j / 10]? = some z := ⟨_, List.getElem?_eq_getElem (by omega)⟩
    have e := flatU_get l (j / 10) z (j % 10) hz (by omega)
    have hj2 : j / 10 * 10 + j % 10 = j := by omega
    rw [hj2, hj] at e
    have := hat (j / 10) z hz (j % 10) (by omega)
    rw [show off + j / 10 * 10 + j % 10 = off + j from by omega] at this
    rw [this, e]
  · intro v' w' h1 h2 h3
    refine h v' w' ?_ ((Below.refl base w0).grown h2 hbase (fun k' hk' => (hown.lt k' hk').1)) (fun e => hnn (h3.1 e).1)
    unfold SlU
    rw [flatU_app, List.length_append, hn]
    exact h1
/- what an attack is handed, and what it leaves -/
structure AIn (w : World) (base B o g cap k n : Nat) (vf : Value) (us : List K10) (fs : List K3) (u : K10) : Prop where
  sb : SB w base B o (.slice (some ⟨g, 0, none⟩) n cap) vf us fs
  gd : Gd us fs
  hk : us[k]? = some u
  hj : u.c6 = 3
  hn : us.length = n
def AOut (w w' : World) (base B o g cap n : Nat) (vf : Value) (us' : List K10) (fs' : List K3) : Prop :=
  ∃ vu', w'.cell? ⟨B, o, none⟩ = some vu' ∧ SB w' base B o vu' vf us' fs' ∧ KeptS (fun b => b = B ∨ b = g) w w' ∧ vu' ≠ .slice none 0 0 ∧ (vu' = .slice (some ⟨g, 0, none⟩) n cap ∨ ∀ b, vu'.ownBlock = some b → w.heap.size ≤ b) ∧ OneOff B o w w'
theorem AIn.drewN {w : World} {base B o g cap k n : Nat} {vf : Value} {us : List K10} {fs : List K3} {u : K10} (h : AIn w base B o g cap k n vf us fs u) (j : Nat) : AIn (w.drewN j) base B o g cap k n vf us fs u := ⟨h.sb.drewN j, h.gd, h.hk, h.hj, h.hn⟩
theorem AIn.at {w : World} {base B o g cap k n : Nat} {vf : Value} {us : List K10} {fs : List K3} {u : K10} (h : AIn w base B o g cap k n vf us fs u) {k2 : Nat} {x : K10} (hx : us[k2]? = some x) : AtU w base g cap k2 us x := by
  have := h.sb
  rw [← h.hn] at this
  exact this.at hx
theorem Turned.aout {w w' : World} {j base B o g cap k k2 n : Nat} {vf : Value} {us : List K10} {fs : List K3} {u x u' : K10} (h : AIn w base B o g cap k n vf us fs u) (hx : us[k2]? = some x) (t : Turned (w.drewN j) w' base g cap k2 us u') (he : u'.c0 = x.c0) : AOut w w' base B o g cap n vf (putU u' us) fs := by
  have sb := h.sb
  rw [← h.hn] at sb
  have := sb.turn t.drewN
  rw [set_put h.gd.r hx he, h.hn] at this
  exact ⟨_, this.c0, this, t.drewN.2.mono (fun b _ e => .inr e), by simp, .inl rfl, OneOff.of_block (t.drewN.2.block B h.sb.lt (fun e => h.sb.nu (by rw [e]; rfl)))⟩
theorem AIn.arg {w : World} {base B o g cap k n : Nat} {vf : Value} {us : List K10} {fs : List K3} {u : K10} (h : AIn w base B o g cap k n vf us fs u) : ArgU w (some ⟨g, 0, none⟩) us := by
  obtain ⟨a, c, e, hA⟩ := h.sb.u.form
  simp only [Value.slice.injEq] at e
  rw [e.1]; exact hA
theorem ArgU.drewN {w : World} {a : Option Addr} {us : List K10} (h : ArgU w a us) (j : Nat) : ArgU (w.drewN j) a us := h.later (below_drewN w j)
theorem AIn.gu {w : World} {base B o g cap k n : Nat} {vf : Value} {us : List K10} {fs : List K3} {u : K10} (h : AIn w base B o g cap k n vf us fs u) : GU u := h.gd.gu (List.mem_of_getElem? h.hk)
set_option maxRecDepth 20000 in
set_option maxHeartbeats 8000000 in
theorem l5Attack_none (base B o g cap k n : Nat) (vf : Value) (us : List K10) (fs : List K3) (u : K10) (w : World) (h : AIn w base B o g cap k n vf us fs u) (hq : atI us u.c9 = -1) :
    Calls Tryz.prog 104 #[.pointer (some ⟨B, o, none⟩), .int .i64 k] w fun e w' => e = .returned (.int .i64 0) ∧ AOut w w' base B o g cap n vf (putU (idle u) us) fs := by
  have hm : n ≤ 8 := by have := h.gd.n8; have := h.hn; omega
  have hlt : (k : Int) < (n : Int) := by have := (List.getElem?_eq_some_iff.1 h.hk).1; have := h.hn; omega
  have H : Hid (AIn w base B o g cap k n vf us fs u) := h
  have cA := fun W hU => l4At_c (some ⟨g, 0, none⟩) n cap us u.c9 h.hn hm W hU
  rw [hq] at cA
  have HA : Hid (∀ j, ArgU (w.drewN j) (some ⟨g, 0, none⟩) us) := fun j => h.arg.drewN j
  have HT : Hid (∀ j, AtU (w.drewN j) base g cap k us u) := fun j => (h.at h.hk).drewN j
  have cI := fun W hT => l5Idle_c base g cap k us u W hT
  obtain ⟨c0, c1, c2, c3, c4, c5, c6, c7, c8, c9, cl⟩ := (h.at h.hk).one
  have b0 := h.sb.c0
  have b1 := h.sb.c1
  have bl := h.sb.lt
  clear h hq
  go_enter Tryz.func104, Tryz.ntmps104
  go_wp2_with fail
  go_quiet (first | (go_at_call 83; refine (cA _ (HA.out _)).mono (fun _ _ h => ⟨h.1, _, h.2⟩)))
  go_wp2_with fail
  go_quiet (fail)
  go_wp2_with fail
  refine (cI _ (HT.out _)).mono ?_
  rintro e w1 ⟨rfl, T⟩
  have R := Turned.aout (u' := idle u) H.out H.out.hk T rfl
  go_wp2_with fail
  go_ret
  exact ⟨rfl, R⟩
set_option maxRecDepth 20000 in
set_option maxHeartbeats 8000000 in
theorem l5Attack_same (base B o g cap k n k2 : Nat) (vf : Value) (us : List K10) (fs : List K3) (u p : K10) (w : World) (h : AIn w base B o g cap k n vf us fs u) (hq : atI us u.c9 = (k2 : Int)) (hp : us[k2]? = some p) (ho : (p.c1 == u.c1) = true) :
    Calls Tryz.prog 104 #[.pointer (some ⟨B, o, none⟩), .int .i64 k] w fun e w' => e = .returned (.int .i64 0) ∧ AOut w w' base B o g cap n vf (putU (idle u) us) fs := by
  have hm : n ≤ 8 := by have := h.gd.n8; have := h.hn; omega
  have hlt : (k : Int) < (n : Int) := by have := (List.getElem?_eq_some_iff.1 h.hk).1; have := h.hn; omega
  have hlt2 : (k2 : Int) < (n : Int) := by have := (List.getElem?_eq_some_iff.1 hp).1; have := h.hn; omega
  have hd : decide ((k2 : Int) < 0) = false := decide_eq_false (by omega)
  have H : Hid (AIn w base B o g cap k n vf us fs u) := h
  have cA := fun W hU => l4At_c (some ⟨g, 0, none⟩) n cap us u.c9 h.hn hm W hU
  rw [hq] at cA
  have HA : Hid (∀ j, ArgU (w.drewN j) (some ⟨g, 0, none⟩) us) := fun j => h.arg.drewN j
  have HT : Hid (∀ j, AtU (w.drewN j) base g cap k us u) := fun j => (h.at h.hk).drewN j
  have cI := fun W hT => l5Idle_c base g cap k us u W hT
  obtain ⟨c0, c1, c2, c3, c4, c5, c6, c7, c8, c9, cl⟩ := (h.at h.hk).one
  obtain ⟨d0, d1, d2, d3, d4, d5, d6, d7, d8, d9, dl⟩ := (h.at hp).one
  have b0 := h.sb.c0
  have b1 := h.sb.c1
  have bl := h.sb.lt
  clear h hq hp
  go_enter Tryz.func104, Tryz.ntmps104
  go_wp2_with fail
  go_quiet (first | (go_at_call 83; refine (cA _ (HA.out _)).mono (fun _ _ h => ⟨h.1, _, h.2⟩)))
  go_wp2_with fail
  go_quiet (fail)
  go_wp2_with fail
  refine (cI _ (HT.out _)).mono ?_
  rintro e w1 ⟨rfl, T⟩
  have R := Turned.aout (u' := idle u) H.out H.out.hk T rfl
  go_wp2_with fail
  go_ret
  exact ⟨rfl, R⟩
set_option maxRecDepth 20000 in
set_option maxHeartbeats 8000000 in
theorem l5Attack_far (base B o g cap k n k2 : Nat) (vf : Value) (us : List K10) (fs : List K3) (u p : K10) (w : World) (h : AIn w base B o g cap k n vf us fs u) (hq : atI us u.c9 = (k2 : Int)) (hp : us[k2]? = some p) (ho : (p.c1 == u.c1) = false) (hf : 1 < far u p) :
    Calls Tryz.prog 104 #[.pointer (some ⟨B, o, none⟩), .int .i64 k] w fun e w' => e = .returned (.int .i64 0) ∧ AOut w w' base B o g cap n vf (putU (goTo u p.c2 p.c3) us) fs := by
  have hm : n ≤ 8 := by have := h.gd.n8; have := h.hn; omega
  have hlt : (k : Int) < (n : Int) := by have := (List.getElem?_eq_some_iff.1 h.hk).1; have := h.hn; omega
  have hlt2 : (k2 : Int) < (n : Int) := by have := (List.getElem?_eq_some_iff.1 hp).1; have := h.hn; omega
  have hd : decide ((k2 : Int) < 0) = false := decide_eq_false (by omega)
  have gu := h.gu
  have gp := h.gd.gu (List.mem_of_getElem? hp)
  have H : Hid (AIn w base B o g cap k n vf us fs u) := h
  have cA := fun W hU => l4At_c (some ⟨g, 0, none⟩) n cap us u.c9 h.hn hm W hU
  rw [hq] at cA
  have HA : Hid (∀ j, ArgU (w.drewN j) (some ⟨g, 0, none⟩) us) := fun j => h.arg.drewN j
  have HT : Hid (∀ j, AtU (w.drewN j) base g cap k us u) := fun j => (h.at h.hk).drewN j
  have cW := fun W hT => l5Walk_c base g cap k us u p.c2 p.c3 gu gp.x0 gp.x1 gp.y0 gp.y1 W hT
  have cF := fun W => specFar u.c2 u.c3 p.c2 p.c3 W gu.x0 gu.x1 gu.y0 gu.y1 gp.x0 gp.x1 gp.y0 gp.y1
  unfold far at hf
  generalize Nums.mx (Nums.gap u.c2 p.c2) (Nums.gap u.c3 p.c3) = F at cF hf
  obtain ⟨c0, c1, c2, c3, c4, c5, c6, c7, c8, c9, cl⟩ := (h.at h.hk).one
  obtain ⟨d0, d1, d2, d3, d4, d5, d6, d7, d8, d9, dl⟩ := (h.at hp).one
  have b0 := h.sb.c0
  have b1 := h.sb.c1
  have bl := h.sb.lt
  clear h hq hp gu gp
  go_enter Tryz.func104, Tryz.ntmps104
  go_wp2_with fail
  go_quiet (first | (go_at_call 83; refine (cA _ (HA.out _)).mono (fun _ _ h => ⟨h.1, _, h.2⟩)))
  go_wp2_with fail
  go_quiet (fail)
  go_wp2_with fail
  go_quiet (first | (go_at_call 114; refine (cF _).mono (fun _ _ h => ⟨h.1, _, h.2⟩)))
  go_wp2_with fail
  go_region_with (go_at_call 102; refine (cW _ (HT.out _)).mono ?_; rintro e w1 ⟨rfl, T⟩)
  all_goals
    have R := Turned.aout (u' := goTo u p.c2 p.c3) H.out H.out.hk T rfl
    go_wp2_with fail
    go_ret
    exact ⟨rfl, R⟩
end Go.Proofs.YtppgjmpdnpidnaaGreatDoor
end

/- TickSpec5 -/
/- The contract of the model's attack, of what a unit does. Condition: the board is the call's own copy, without a fault. -/
section
namespace Go.Proofs.YtppgjmpdnpidnaaGreatDoor
open Go.ChangeShapes Go.WideShapes Go.ChangeAt Go.RowKit
open Bd
set_option linter.unusedVariables false

set_option maxRecDepth 20000 in
set_option maxHeartbeats 8000000 in
theorem l5Attack_hit (base B o g cap k n k2 : Nat) (vf : Value) (us : List K10) (fs : List K3) (u p : K10) (w : World) (h : AIn w base B o g cap k n vf us fs u) (hq : atI us u.c9 = (k2 : Int)) (hp : us[k2]? = some p) (ho : (p.c1 == u.c1) = false) (hf : ¬ 1 < far u p) (hl : ¬ p.c4 - 7 < 1) :
    Calls Tryz.prog 104 #[.pointer (some ⟨B, o, none⟩), .int .i64 k] w fun e w' => e = .returned (.int .i64 0) ∧ AOut w w' base B o g cap n vf (putU (life p (p.c4 - 7)) us) fs := by
  have hm : n ≤ 8 := by have := h.gd.n8; have := h.hn; omega
  have hlt : (k : Int) < (n : Int) := by have := (List.getElem?_eq_some_iff.1 h.hk).1; have := h.hn; omega
  have hlt2 : (k2 : Int) < (n : Int) := by have := (List.getElem?_eq_some_iff.1 hp).1; have := h.hn; omega
  have hd : decide ((k2 : Int) < 0) = false := decide_eq_false (by omega)
  have gu := h.gu
  have gp := h.gd.gu (List.mem_of_getElem? hp)
  have hl' : (1 : Int) ≤ p.c4 - 7 := by omega
  have hl1 := gp.l1
  have H : Hid (AIn w base B o g cap k n vf us fs u) := h
  have Hp : Hid (us[k2]? = some p) := hp
  have cA := fun W hU => l4At_c (some ⟨g, 0, none⟩) n cap us u.c9 h.hn hm W hU
  rw [hq] at cA
  have HA : Hid (∀ j, ArgU (w.drewN j) (some ⟨g, 0, none⟩) us) := fun j => h.arg.drewN j
  have HT : Hid (∀ j, Turned (w.drewN j) ((w.drewN j).setCell ⟨g, k2 * 10 + 4, none⟩ (.int .i64 (p.c4 - 7))) base g cap k2 us (life p (p.c4 - 7))) := fun j => ⟨((h.at hp).drewN j).set 4 (by omega) (p.c4 - 7), (KeptS.refl _ _).set (S := fun b => b = g) (g := g) rfl _⟩
  have cF := fun W => specFar u.c2 u.c3 p.c2 p.c3 W gu.x0 gu.x1 gu.y0 gu.y1 gp.x0 gp.x1 gp.y0 gp.y1
  have hf' : decide (1 < far u p) = false := decide_eq_false hf
  unfold far at hf'
  generalize Nums.mx (Nums.gap u.c2 p.c2) (Nums.gap u.c3 p.c3) = F at cF hf'
  obtain ⟨c0, c1, c2, c3, c4, c5, c6, c7, c8, c9, cl⟩ := (h.at h.hk).one
  obtain ⟨d0, d1, d2, d3, d4, d5, d6, d7, d8, d9, dl⟩ := (h.at hp).one
  have uz := (h.at hp).frozen (k2 * 10 + 4)
  have b0 := h.sb.c0
  have b1 := h.sb.c1
  have bl := h.sb.lt
  clear h hq hp gu gp hf hl
  go_enter Tryz.func104, Tryz.ntmps104
  go_wp2_with fail
  go_quiet (first | (go_at_call 83; refine (cA _ (HA.out _)).mono (fun _ _ h => ⟨h.1, _, h.2⟩)))
  go_wp2_with fail
  go_quiet (fail)
  go_wp2_with fail
  go_quiet (first | (go_at_call 114; refine (cF _).mono (fun _ _ h => ⟨h.1, _, h.2⟩)))
  go_wp2_with fail
  go_ret
  exact ⟨rfl, Turned.aout (u' := life p (p.c4 - 7)) H.out Hp.out (HT.out _) rfl⟩
set_option maxRecDepth 20000 in
set_option maxHeartbeats 16000000 in
theorem l5Attack_dead (base B o g cap k n k2 : Nat) (vf : Value) (us : List K10) (fs : List K3) (u p : K10) (w : World) (h : AIn w base B o g cap k n vf us fs u) (hq : atI us u.c9 = (k2 : Int)) (hp : us[k2]? = some p) (ho : (p.c1 == u.c1) = false) (hf : ¬ 1 < far u p) (hl : p.c4 - 7 < 1) :
    Calls Tryz.prog 104 #[.pointer (some ⟨B, o, none⟩), .int .i64 k] w fun e w' => e = .returned (.int .i64 p.c5) ∧ AOut w w' base B o g cap n vf (delU us p.c0) fs := by
  have hm : n ≤ 8 := by have := h.gd.n8; have := h.hn; omega
  have hlt : (k : Int) < (n : Int) := by have := (List.getElem?_eq_some_iff.1 h.hk).1; have := h.hn; omega
  have hlt2 : (k2 : Int) < (n : Int) := by have := (List.getElem?_eq_some_iff.1 hp).1; have := h.hn; omega
  have hd : decide ((k2 : Int) < 0) = false := decide_eq_false (by omega)
  have gu := h.gu
  have gp := h.gd.gu (List.mem_of_getElem? hp)
  have hl' : decide ((1 : Int) ≤ p.c4 - 7) = false := decide_eq_false (by omega)
  have hl0 := gp.l0
  have hl1 := gp.l1
  have H : Hid (AIn w base B o g cap k n vf us fs u) := h
  have Hp : Hid (us[k2]? = some p) := hp
  have cA := fun W hU => l4At_c (some ⟨g, 0, none⟩) n cap us u.c9 h.hn hm W hU
  rw [hq] at cA
  have HA : Hid (∀ j, ArgU (w.drewN j) (some ⟨g, 0, none⟩) us) := fun j => h.arg.drewN j
  have HT : Hid (∀ j, Turned (w.drewN j) ((w.drewN j).setCell ⟨g, k2 * 10 + 4, none⟩ (.int .i64 (p.c4 - 7))) base g cap k2 us (life p (p.c4 - 7))) := fun j => ⟨((h.at hp).drewN j).set 4 (by omega) (p.c4 - 7), (KeptS.refl _ _).set (S := fun b => b = g) (g := g) rfl _⟩
  have cF := fun W => specFar u.c2 u.c3 p.c2 p.c3 W gu.x0 gu.x1 gu.y0 gu.y1 gp.x0 gp.x1 gp.y0 gp.y1
  have hf' : decide (1 < far u p) = false := decide_eq_false hf
  unfold far at hf'
  generalize Nums.mx (Nums.gap u.c2 p.c2) (Nums.gap u.c3 p.c3) = F at cF hf'
  obtain ⟨c0, c1, c2, c3, c4, c5, c6, c7, c8, c9, cl⟩ := (h.at h.hk).one
  obtain ⟨d0, d1, d2, d3, d4, d5, d6, d7, d8, d9, dl⟩ := (h.at hp).one
  have uz := (h.at hp).frozen (k2 * 10 + 4)
  have b0 := h.sb.c0
  have b1 := h.sb.c1
  have bl := h.sb.lt
  have hcap : (n : Int) ≤ (cap : Int) := by obtain ⟨_, _, hc, _⟩ := (h.at hp).blk; have := h.hn; omega
  have hcap2 : (k2 : Int) ≤ (cap : Int) := by omega
  have hk21 : (k2 : Int) + 1 ≤ (n : Int) := by omega
  have hBg : B ≠ g := fun e => h.sb.nu (by rw [e]; rfl)
  have e1 : Hid (us.take k2 ++ us.drop (k2 + 1) = delU us p.c0) := cut_del h.gd.r hp
  have hbase : base ≤ w.heap.size := Nat.le_of_lt (Nat.lt_of_le_of_lt (h.at hp).b (h.at hp).lt)
  clear h hq hp gu gp hf hl
  go_enter Tryz.func104, Tryz.ntmps104
  go_wp2_with fail
  go_quiet (first | (go_at_call 83; refine (cA _ (HA.out _)).mono (fun _ _ h => ⟨h.1, _, h.2⟩)))
  revert nq
  intro j1
  go_wp2_with fail
  go_quiet (fail)
  revert nq
  intro j2
  go_wp2_with fail
  go_quiet (first | (go_at_call 114; refine (cF _).mono (fun _ _ h => ⟨h.1, _, h.2⟩)))
  revert nq
  intro j3
  obtain ⟨J, HJ⟩ : ∃ J, J = j1 + j2 + j3 := ⟨_, rfl⟩
  rw [drewN_trans, ← HJ]
  clear HJ
  obtain ⟨W0, HW0⟩ : ∃ W0, Hid (W0 = (w.drewN J).setCell ⟨g, k2 * 10 + 4, none⟩ (.int .i64 (p.c4 - 7))) := ⟨_, rfl⟩
  have T := HT.out J
  rw [← HW0.out] at T
  have sb0 : SB W0 base B o (.slice (some ⟨g, 0, none⟩) n cap) vf (us.set k2 (life p (p.c4 - 7))) fs := by
    have sb := H.out.sb
    rw [← H.out.hn] at sb
    have := sb.turn T.drewN
    rwa [H.out.hn] at this
  have K0 : KeptS (fun b => b = B ∨ b = g) w W0 := T.drewN.2.mono (fun b _ e => .inr e)
  have HB0 : Hid (W0.heap[B]? = w.heap[B]?) := T.drewN.2.block B H.out.sb.lt (fun e => H.out.sb.nu (by rw [e]; rfl))
  have hat0 : UAt W0 g 0 (us.set k2 (life p (p.c4 - 7))) := by
    rcases (show ArgU W0 (some ⟨g, 0, none⟩) (us.set k2 (life p (p.c4 - 7))) by obtain ⟨a, c, e, hA⟩ := sb0.u.form; simp only [Value.slice.injEq] at e; rw [e.1]; exact hA) with h0 | ⟨b, off, e, hb, hat⟩
    · have hz := congrArg List.length h0
      rw [List.length_set, List.length_nil] at hz
      have hz2 := (List.getElem?_eq_some_iff.1 Hp.out).1
      omega
    · simp only [Option.some.injEq, Addr.mk.injEq] at e
      obtain ⟨rfl, rfl, _⟩ := e
      exact hat
  have hg0 : g < W0.heap.size := Nat.lt_of_lt_of_le cl K0.size
  have hat1 : Hid (UAt W0 g 0 (us.take k2)) := by have := hat0.take k2; rwa [List.take_set_of_le (by omega)] at this
  have hat2 : Hid (UAt W0 g ((k2 + 1) * 10) (us.drop (k2 + 1))) := by have := hat0.drop (k2 + 1); rwa [List.drop_set_of_lt (by omega)] at this
  have l1 : Hid ((us.take k2).length = k2) := by show _ = _; rw [List.length_take]; have := (List.getElem?_eq_some_iff.1 Hp.out).1; omega
  have l2 : Hid ((us.drop (k2 + 1)).length = n - (k2 + 1)) := by show _ = _; rw [List.length_drop, H.out.hn]
  have hwW : w.heap.size ≤ W0.heap.size := K0.size
  go_upto_region 14 with fail
  rw [← HW0.out]
  have b0' := sb0.c0
  have bl' := sb0.lt
  clear c0 c1 c2 c3 c4 c5 c6 c7 c8 c9 d0 d1 d2 d3 d4 d5 d6 d7 d8 d9 dl uz b0 b1 HT HA cA cF hat0 T
  go_wp2_with (first | (at_builtin; refine wpList_copyU3 rfl _ _ rfl W0 (us.take k2) g 0 k2 _ l1.out hat1.out hg0 rfl rfl (by omega) ?_))
  intro v2 w2 S2 kb2 nn2
  have sb2 := sb0.later kb2
  have b2 := sb2.c0
  have bz2 := sb2.fz
  have bl2 := sb2.lt
  have hat3 : Hid (UAt w2 g (if cap = k2 + 1 then 0 else (k2 + 1) * 10) (us.drop (k2 + 1))) := by
    show UAt _ _ _ _
    split
    · intro i x hi
      have := (List.getElem?_eq_some_iff.1 hi).1
      have := l2.out
      omega
    · exact hat2.out.later hg0 kb2
  have hsel : Hid (Value.slice (if cap = k2 + 1 then some ⟨g, 0, none⟩ else some ⟨g, (k2 + 1) * 10, none⟩) (n - (k2 + 1)) (cap - (k2 + 1)) = .slice (some ⟨g, if cap = k2 + 1 then 0 else (k2 + 1) * 10, none⟩) (n - (k2 + 1)) (cap - (k2 + 1))) := by show _ = _; split <;> rfl
  have hg2 : g < w2.heap.size := Nat.lt_of_lt_of_le hg0 kb2.size
  clear b0' bl'
  have l0 : (us.take k2).length ≤ 100 := by have := l1.out; omega
  go_wp2_with (first | (at_builtin; refine wpList_joinU rfl _ _ rfl w2 W0.heap.size v2 (us.take k2) (us.drop (k2 + 1)) S2 kb2.size l0 nn2 g _ (n - (k2 + 1)) (cap - (k2 + 1)) l2.out hat3.out hg2 rfl hsel.out (by omega) ?_))
  all_goals
    intro v3 w3 S3 kb3 nn3
    have kb := kb2.trans kb3
    rw [e1.out] at S3
    obtain ⟨a3, c3, hv3, _⟩ := S3.form
    obtain ⟨m3, Hm3⟩ : ∃ m3, Hid ((delU us p.c0).length = m3) := ⟨_, rfl⟩
    rw [Hm3.out] at hv3
    subst hv3
    have sb3 := sb0.later kb
    have b3 := sb3.c0
    have bz3 := sb3.fz
    have bl3 := sb3.lt
    have K4 : KeptS (fun b => b = B ∨ b = g) w (w3.setCell ⟨B, o, none⟩ (.slice a3 m3 c3)) := (K0.trans (KeptS.of_below kb)).set (.inl rfl) _
    have hB3 : ∀ q, (Value.slice a3 m3 c3).ownBlock = some q → W0.heap.size ≤ q := fun q hq => (S3.lt q hq).1
    have nB : (Value.slice a3 m3 c3).ownBlock ≠ some B := fun e => by have := hB3 B e; have := sb0.lt; omega
    have SF : SlF (w3.setCell ⟨B, o, none⟩ (.slice a3 m3 c3)) base vf fs := sb3.f.of_block (fun q hq => Below.heap_setCell _ _ _ _ (fun e : q = B => sb0.nf (by rw [← e]; exact hq)))
    have SU : SlU (w3.setCell ⟨B, o, none⟩ (.slice a3 m3 c3)) base (.slice a3 m3 c3) (delU us p.c0) := (S3.of_block (fun q hq => Below.heap_setCell _ _ _ _ (fun e : q = B => nB (by rw [← e]; exact hq)))).mono (by omega)
    have hset : (w3.setCell ⟨B, o, none⟩ (.slice a3 m3 c3)).cell? ⟨B, o, none⟩ = some (.slice a3 m3 c3) := World.cell?_setCell_same' _ _ _ (by rw [b3]; rfl)
    have hssz := K4.size
    have R : AOut w (w3.setCell ⟨B, o, none⟩ (.slice a3 m3 c3)) base B o g cap n vf (delU us p.c0) fs := by
      refine ⟨_, hset, ⟨hset, ?_, ?_, Nat.lt_of_lt_of_le bl hssz, SU, SF, nB, sb0.nf⟩, K4, nn3, .inr (fun b hb => Nat.le_trans hwW (hB3 b hb)), OneOff.set ((kb.block B sb0.lt).trans HB0.out) _⟩
      · rw [World.cell?_setCell_other _ _ _ _ (by simp)]
        exact sb3.c1
      · rw [World.frozen?_setCell]; exact sb3.fz
    clear S2 hsel hat3
    go_wp2_with fail
    go_ret
    exact ⟨rfl, R⟩
end Go.Proofs.YtppgjmpdnpidnaaGreatDoor
end
