/- Texts of mine put together (a claim holds at most 60 files): TickSpec2, TickImpl7, TickSpec3. -/
import Derived.Test.YtppgjmpdnpidnaaGreatDoorPartK16
import Derived.Test.YtppgjmpdnpidnaaGreatDoorPartK11
import Derived.Test.YtppgjmpdnpidnaaGreatDoorPartK17

/- TickSpec2 -/
/- Contracts of the model's harvest. Condition: the board is the call's own copy, without a fault. -/
section
namespace Go.Proofs.YtppgjmpdnpidnaaGreatDoor
open Go.ChangeShapes Go.WideShapes Go.ChangeAt Go.RowKit
open Bd
set_option linter.unusedVariables false

/- the model's board in memory: at place o of block B -/
structure SB (w : World) (base B o : Nat) (vu vf : Value) (us : List K10) (fs : List K3) : Prop where
  c0 : w.cell? ⟨B, o, none⟩ = some vu
  c1 : w.cell? ⟨B, o + 1, none⟩ = some vf
  fz : w.frozen? ⟨B, o, none⟩ = false
  lt : B < w.heap.size
  u : SlU w base vu us
  f : SlF w base vf fs
  nu : vu.ownBlock ≠ some B
  nf : vf.ownBlock ≠ some B
theorem apartUF {w : World} {b1 b2 : Nat} {v v' : Value} {l : List K10} {l' : List K3} (h : SlU w b1 v l) (h' : SlF w b2 v' l') : ∀ q, v.ownBlock = some q → v'.ownBlock ≠ some q := by
  intro q hq e
  rcases h.2 with ⟨rfl, _⟩ | ⟨g, cap, cur, rfl, _, hg, _⟩
  · cases hq
  · rcases h'.2 with ⟨rfl, _⟩ | ⟨g', cap', cur', rfl, _, hg', _⟩
    · cases e
    · have e1 : g' = q := Option.some.inj e
      have e2 : g = q := Option.some.inj hq
      subst e1 e2
      exact blk_ne hg hg' (by decide) rfl
theorem SB.of_kept {S : Nat → Prop} {w w' : World} {base B o : Nat} {vu vf : Value} {us : List K10} {fs : List K3} (h : SB w base B o vu vf us fs) (k : KeptS S w w') (hB : ¬ S B) (hu : ∀ q, vu.ownBlock = some q → ¬ S q) (hf : ∀ q, vf.ownBlock = some q → ¬ S q) : SB w' base B o vu vf us fs :=
  ⟨by rw [cell_blk (k.block B h.lt hB)]; exact h.c0, by rw [cell_blk (k.block B h.lt hB)]; exact h.c1, by rw [frozen_blk (k.block B h.lt hB)]; exact h.fz, Nat.lt_of_lt_of_le h.lt k.size,
   h.u.of_block (fun q hq => k.block q (h.u.lt q hq).2 (hu q hq)), h.f.of_block (fun q hq => k.block q (h.f.lt q hq).2 (hf q hq)), h.nu, h.nf⟩
theorem SB.later {w w' : World} {base B o : Nat} {vu vf : Value} {us : List K10} {fs : List K3} (h : SB w base B o vu vf us fs) (k : Below w.heap.size w w') : SB w' base B o vu vf us fs :=
  h.of_kept (S := fun _ => False) (KeptS.of_below k) (fun x => x) (fun _ _ x => x) (fun _ _ x => x)
/- block B is as it was, but for its cell o -/
def OneOff (B o : Nat) (w w' : World) : Prop := ∀ t n f, w.rowIs B t n f → ∃ v, w'.rowIs B t n (fun i => if i = o then v else f i)
theorem OneOff.of_block {B o : Nat} {w w' : World} (h : w'.heap[B]? = w.heap[B]?) : OneOff B o w w' := fun t n f r => ⟨f o, by
  have e : (fun i => if i = o then f o else f i) = f := by
    funext i
    split
    · rename_i h; rw [h]
    · rfl
  rw [e]; exact r.of_block h⟩
theorem OneOff.set {B o : Nat} {w w' : World} (h : w'.heap[B]? = w.heap[B]?) (v : Value) : OneOff B o w (w'.setCell ⟨B, o, none⟩ v) := fun t n f r => ⟨v, (r.of_block h).set o v⟩
theorem OneOff.pre {B o : Nat} {w w1 w' : World} (h : w1.heap[B]? = w.heap[B]?) (k : OneOff B o w1 w') : OneOff B o w w' := fun t n f r => k t n f (r.of_block h)
theorem SB.turn {w w' : World} {base B o g cap k : Nat} {vf : Value} {us : List K10} {fs : List K3} {u' : K10} (h : SB w base B o (.slice (some ⟨g, 0, none⟩) us.length cap) vf us fs) (t : Turned w w' base g cap k us u') :
    SB w' base B o (.slice (some ⟨g, 0, none⟩) us.length cap) vf (us.set k u') fs := by
  have hB : ¬ (B = g) := fun e => h.nu (by rw [e]; rfl)
  have ek := t.2.block B h.lt hB
  have ts := t.1.s
  rw [List.length_set] at ts
  exact ⟨by rw [cell_blk ek]; exact h.c0, by rw [cell_blk ek]; exact h.c1, by rw [frozen_blk ek]; exact h.fz, Nat.lt_of_lt_of_le h.lt t.2.size, ts,
    h.f.of_block (fun q hq => t.2.block q (h.f.lt q hq).2 (fun e => apartUF h.u h.f g rfl (by rw [← e]; exact hq))), h.nu, h.nf⟩
theorem SB.at {w : World} {base B o g cap k : Nat} {vf : Value} {us : List K10} {fs : List K3} {u : K10} (h : SB w base B o (.slice (some ⟨g, 0, none⟩) us.length cap) vf us fs) (hk : us[k]? = some u) : AtU w base g cap k us u := by
  obtain ⟨g', cap', e, a⟩ := h.u.at hk
  simp only [Value.slice.injEq, Option.some.injEq, Addr.mk.injEq] at e
  obtain ⟨⟨rfl, _⟩, _, rfl⟩ := e
  exact a
theorem AtU.drewN {w : World} {base g cap k : Nat} {l : List K10} {u : K10} (a : AtU w base g cap k l u) (n : Nat) : AtU (w.drewN n) base g cap k l u := a.of_block rfl
theorem SB.drewN {w : World} {base B o : Nat} {vu vf : Value} {us : List K10} {fs : List K3} (h : SB w base B o vu vf us fs) (n : Nat) : SB (w.drewN n) base B o vu vf us fs := h.later (below_drewN w n)
theorem Turned.drewN {w w' : World} {n base g cap k : Nat} {us : List K10} {u' : K10} (t : Turned (w.drewN n) w' base g cap k us u') : Turned w w' base g cap k us u' := ⟨t.1, (KeptS.of_below (below_drewN w n)).trans t.2⟩
theorem full_cases {u : K10} {f : K3} (g : GU u) : (full u f = true ∧ ((20 : Int) ≤ u.c5 ∨ (decide ((20 : Int) ≤ u.c5) = false ∧ (0 : Int) < u.c5 ∧ (f.c2 == 0) = true))) ∨
    (full u f = false ∧ (f.c2 == 0) = true ∧ decide ((20 : Int) ≤ u.c5) = false ∧ decide ((0 : Int) < u.c5) = false) ∨
    (full u f = false ∧ (f.c2 == 0) = false ∧ decide ((20 : Int) ≤ u.c5) = false ∧ (decide ((0 : Int) < u.c5) = false ∨ (0 : Int) < u.c5)) := by
  have h0 := g.c0
  have h1 := g.c1
  unfold full
  by_cases a : u.c5 = 20
  · refine .inl ⟨by simp [a], .inl (by omega)⟩
  have a1 : (u.c5 == 20) = false := by simpa using a
  have a2 : decide ((20 : Int) ≤ u.c5) = false := decide_eq_false (by omega)
  rw [a1, a2]
  by_cases b : 0 < u.c5
  · have b1 : decide ((0 : Int) < u.c5) = true := decide_eq_true b
    rw [b1]
    cases c : f.c2 == 0
    · exact .inr (.inr ⟨rfl, rfl, rfl, .inr b⟩)
    · exact .inl ⟨rfl, .inr ⟨rfl, b, rfl⟩⟩
  · have b1 : decide ((0 : Int) < u.c5) = false := decide_eq_false b
    rw [b1]
    cases c : f.c2 == 0
    · exact .inr (.inr ⟨rfl, rfl, rfl, .inl rfl⟩)
    · exact .inr (.inl ⟨rfl, rfl, rfl, rfl⟩)
/- what a harvest is handed -/
structure HIn (w : World) (base B o g cap k : Nat) (vf : Value) (us : List K10) (fs : List K3) (u : K10) (room : Int) : Prop where
  sb : SB w base B o (.slice (some ⟨g, 0, none⟩) us.length cap) vf us fs
  gd : Gd us fs
  hk : us[k]? = some u
  hj : u.c6 = 2
  ho : u.c1 ≠ 9
  r0 : 0 ≤ room
  r1 : room ≤ 1000000
def HOut (w w' : World) (base B o g cap : Nat) (vf : Value) (n : Nat) (us' : List K10) (fs' : List K3) : Prop := SB w' base B o (.slice (some ⟨g, 0, none⟩) n cap) vf us' fs' ∧ KeptS (fun b => b = g ∨ vf.ownBlock = some b) w w'
theorem HIn.prey {w : World} {base B o g cap k : Nat} {vf : Value} {us : List K10} {fs : List K3} {u : K10} {room : Int} (h : HIn w base B o g cap k vf us fs u room) : ∃ p : Nat, u.c9 = (p : Int) ∧ p ≤ 3 := by
  have g := h.gd.gu (List.mem_of_getElem? h.hk)
  rcases g.j with ⟨a, _⟩ | ⟨a, _⟩ | ⟨_, _, _, b, c⟩ | ⟨a, _⟩
  · have := h.hj; omega
  · have := h.hj; omega
  · exact ⟨u.c9.toNat, by omega, by omega⟩
  · have := h.hj; omega
theorem Turned.out {w w' : World} {base B o g cap k : Nat} {vf : Value} {us : List K10} {fs : List K3} {u u' : K10} {room : Int} (h : HIn w base B o g cap k vf us fs u room) (t : Turned w w' base g cap k us u') (he : u'.c0 = u.c0) : HOut w w' base B o g cap vf us.length (putU u' us) fs := by
  refine ⟨?_, t.2.mono (fun b _ e => .inl e)⟩
  rw [← set_put h.gd.r h.hk he]
  exact h.sb.turn t
set_option maxRecDepth 20000 in
set_option maxHeartbeats 4000000 in
theorem l5Harvest_none (base B o g cap k : Nat) (vf : Value) (us : List K10) (fs : List K3) (u : K10) (room : Int) (w : World) (h : HIn w base B o g cap k vf us fs u room) (hf : fs[u.c9.toNat]? = none) :
    Calls Tryz.prog 103 #[.pointer (some ⟨B, o, none⟩), .pointer (some ⟨g, k * 10, none⟩), .int .i64 room] w fun e w' => e = .returned (.int .i64 0) ∧ HOut w w' base B o g cap vf us.length (putU (idle u) us) fs := by
  obtain ⟨p, hp, hp3⟩ := h.prey
  have hn : fs.length ≤ p := by have := List.getElem?_eq_none_iff.1 hf; omega
  have hge : (fs.length : Int) ≤ (p : Int) := by omega
  obtain ⟨af, cf, rfl, _⟩ := h.sb.f.form
  have a := h.sb.at h.hk
  have H : Hid (HIn w base B o g cap k (.slice af fs.length cf) us fs u room) := h
  have HA : Hid (AtU w base g cap k us u) := a
  have cI := fun w h => l5Idle_c base g cap k us u w h
  obtain ⟨c0, c1, c2, c3, c4, c5, c6, c7, c8, c9, cl⟩ := a.one
  rw [hp] at c9
  have b0 := h.sb.c0
  have b1 := h.sb.c1
  have bl := h.sb.lt
  generalize fs.length = m' at b1 hge H ⊢
  clear h a hf hn hp
  go_enter Tryz.func103, Tryz.ntmps103
  go_wp2_with fail
  go_quiet (fail)
  go_wp2_with fail
  refine (cI _ (HA.out.drewN _)).mono ?_
  rintro e w1 ⟨rfl, T⟩
  have R := Turned.out (u' := idle u) H.out T.drewN rfl
  go_wp2_with fail
  go_ret
  exact ⟨rfl, R⟩
/- the facts of a harvest at a field that there is -/
structure HF (w : World) (base B o g cap k : Nat) (m' p gf cf : Nat) (us : List K10) (fs : List K3) (u : K10) (f : K3) (room : Int) : Prop where
  i : HIn w base B o g cap k (.slice (some ⟨gf, 0, none⟩) m' cf) us fs u room
  a : AtF w base gf cf p fs f
  m : fs.length = m'
  hp : u.c9 = (p : Int)
theorem HIn.field {w : World} {base B o g cap k : Nat} {vf : Value} {us : List K10} {fs : List K3} {u : K10} {room : Int} (h : HIn w base B o g cap k vf us fs u room) {f : K3} (hf : fs[u.c9.toNat]? = some f) : ∃ m' p gf cf, vf = .slice (some ⟨gf, 0, none⟩) m' cf ∧ HF w base B o g cap k m' p gf cf us fs u f room := by
  obtain ⟨p, hp, hp3⟩ := h.prey
  rw [hp, Int.toNat_natCast] at hf
  obtain ⟨gf, cf, e, a⟩ := h.sb.f.at hf
  exact ⟨fs.length, p, gf, cf, e, by rw [← e]; exact h, a, rfl, hp⟩
theorem HF.drewN {w : World} {base B o g cap k m' p gf cf : Nat} {us : List K10} {fs : List K3} {u : K10} {f : K3} {room : Int} (h : HF w base B o g cap k m' p gf cf us fs u f room) (n : Nat) : HF (w.drewN n) base B o g cap k m' p gf cf us fs u f room :=
  ⟨⟨h.i.sb.drewN n, h.i.gd, h.i.hk, h.i.hj, h.i.ho, h.i.r0, h.i.r1⟩, h.a.of_block rfl, h.m, h.hp⟩
theorem HOut.drewN {w w' : World} {base B o g cap : Nat} {vf : Value} {n j : Nat} {us' : List K10} {fs' : List K3} (h : HOut (w.drewN j) w' base B o g cap vf n us' fs') : HOut w w' base B o g cap vf n us' fs' := ⟨h.1, (KeptS.of_below (below_drewN w j)).trans h.2⟩
theorem HF.gu {w : World} {base B o g cap k m' p gf cf : Nat} {us : List K10} {fs : List K3} {u : K10} {f : K3} {room : Int} (h : HF w base B o g cap k m' p gf cf us fs u f room) : GU u := h.i.gd.gu (List.mem_of_getElem? h.i.hk)
theorem HF.gf {w : World} {base B o g cap k m' p gf cf : Nat} {us : List K10} {fs : List K3} {u : K10} {f : K3} {room : Int} (h : HF w base B o g cap k m' p gf cf us fs u f room) : GF f := h.i.gd.gf (List.mem_of_getElem? h.a.h)
set_option maxRecDepth 20000 in
set_option maxHeartbeats 8000000 in
theorem l5Harvest_full (base B o g cap k m' p gf cf : Nat) (us : List K10) (fs : List K3) (u : K10) (f : K3) (room : Int) (w : World) (h : HF w base B o g cap k m' p gf cf us fs u f room) (hq : (20 : Int) ≤ u.c5 ∨ (decide ((20 : Int) ≤ u.c5) = false ∧ (0 : Int) < u.c5 ∧ (f.c2 == 0) = true)) :
    Calls Tryz.prog 103 #[.pointer (some ⟨B, o, none⟩), .pointer (some ⟨g, k * 10, none⟩), .int .i64 room] w fun e w' => e = .returned (.int .i64 (brG u room)) ∧ HOut w w' base B o g cap (.slice (some ⟨gf, 0, none⟩) m' cf) us.length (putU (brU u room) us) fs := by
  have hlt : decide ((m' : Int) ≤ (p : Int)) = false := decide_eq_false (by have := (List.getElem?_eq_some_iff.1 h.a.h).1; have := h.m; omega)
  have hlt' : (p : Int) < (m' : Int) := by have := (List.getElem?_eq_some_iff.1 h.a.h).1; have := h.m; omega
  have a := h.i.sb.at h.i.hk
  have H : Hid (HF w base B o g cap k m' p gf cf us fs u f room) := h
  have cB := fun w hA => l5Bring_c base g cap k us u room h.gu h.i.ho h.i.r0 h.i.r1 w hA
  obtain ⟨c0, c1, c2, c3, c4, c5, c6, c7, c8, c9, cl⟩ := a.one
  rw [h.hp] at c9
  obtain ⟨f0, f1, f2⟩ := h.a.one
  have fl := h.a.lt
  have b0 := h.i.sb.c0
  have b1 := h.i.sb.c1
  have bl := h.i.sb.lt
  obtain ⟨n, Hn⟩ : ∃ n, Hid (us.length = n) := ⟨_, rfl⟩
  rw [Hn.out] at b0
  have HA : Hid (∀ j, AtU ((w.drewN j)) base g cap k us u) := fun j => a.drewN j
  clear h a
  rcases hq with q | ⟨q, q1, q2⟩
  all_goals
    go_enter Tryz.func103, Tryz.ntmps103
    go_wp2_with fail
    go_quiet (fail)
    go_wp2_with fail
    go_quiet (fail)
    go_wp2_with fail
    refine (cB _ (HA.out _)).mono ?_
    rintro e w1 ⟨rfl, T⟩
    have R := Turned.out (u' := brU u room) H.out.i T.drewN (brU_id u room)
    go_wp2_with fail
    go_ret
    exact ⟨rfl, R⟩
set_option maxRecDepth 20000 in
set_option maxHeartbeats 8000000 in
theorem l5Harvest_bare (base B o g cap k m' p gf cf : Nat) (us : List K10) (fs : List K3) (u : K10) (f : K3) (room : Int) (w : World) (h : HF w base B o g cap k m' p gf cf us fs u f room) (q0 : (f.c2 == 0) = true) (q1 : decide ((20 : Int) ≤ u.c5) = false) (q2 : decide ((0 : Int) < u.c5) = false) :
    Calls Tryz.prog 103 #[.pointer (some ⟨B, o, none⟩), .pointer (some ⟨g, k * 10, none⟩), .int .i64 room] w fun e w' => e = .returned (.int .i64 0) ∧ HOut w w' base B o g cap (.slice (some ⟨gf, 0, none⟩) m' cf) us.length (putU (idle u) us) fs := by
  have hlt : decide ((m' : Int) ≤ (p : Int)) = false := decide_eq_false (by have := (List.getElem?_eq_some_iff.1 h.a.h).1; have := h.m; omega)
  have hlt' : (p : Int) < (m' : Int) := by have := (List.getElem?_eq_some_iff.1 h.a.h).1; have := h.m; omega
  have a := h.i.sb.at h.i.hk
  have H : Hid (HF w base B o g cap k m' p gf cf us fs u f room) := h
  have cB := fun w hA => l5Idle_c base g cap k us u w hA
  obtain ⟨c0, c1, c2, c3, c4, c5, c6, c7, c8, c9, cl⟩ := a.one
  rw [h.hp] at c9
  obtain ⟨f0, f1, f2⟩ := h.a.one
  have fl := h.a.lt
  have b0 := h.i.sb.c0
  have b1 := h.i.sb.c1
  have bl := h.i.sb.lt
  obtain ⟨n, Hn⟩ : ∃ n, Hid (us.length = n) := ⟨_, rfl⟩
  rw [Hn.out] at b0
  have HA : Hid (∀ j, AtU ((w.drewN j)) base g cap k us u) := fun j => a.drewN j
  clear h a
  go_enter Tryz.func103, Tryz.ntmps103
  go_wp2_with fail
  go_quiet (fail)
  go_wp2_with fail
  go_quiet (fail)
  go_wp2_with fail
  refine (cB _ (HA.out _)).mono ?_
  rintro e w1 ⟨rfl, T⟩
  have R := Turned.out (u' := idle u) H.out.i T.drewN rfl
  go_wp2_with fail
  go_ret
  exact ⟨rfl, R⟩
set_option maxRecDepth 20000 in
set_option maxHeartbeats 8000000 in
theorem l5Harvest_walk (base B o g cap k m' p gf cf : Nat) (us : List K10) (fs : List K3) (u : K10) (f : K3) (room : Int) (w : World) (h : HF w base B o g cap k m' p gf cf us fs u f room) (q0 : (f.c2 == 0) = false) (q1 : decide ((20 : Int) ≤ u.c5) = false) (q2 : decide ((0 : Int) < u.c5) = false ∨ (0 : Int) < u.c5)
    (q3 : ((u.c2 == f.c0) = false) ∨ ((u.c2 == f.c0) = true ∧ (u.c3 == f.c1) = false)) :
    Calls Tryz.prog 103 #[.pointer (some ⟨B, o, none⟩), .pointer (some ⟨g, k * 10, none⟩), .int .i64 room] w fun e w' => e = .returned (.int .i64 0) ∧ HOut w w' base B o g cap (.slice (some ⟨gf, 0, none⟩) m' cf) us.length (putU (goTo u f.c0 f.c1) us) fs := by
  have hlt : decide ((m' : Int) ≤ (p : Int)) = false := decide_eq_false (by have := (List.getElem?_eq_some_iff.1 h.a.h).1; have := h.m; omega)
  have hlt' : (p : Int) < (m' : Int) := by have := (List.getElem?_eq_some_iff.1 h.a.h).1; have := h.m; omega
  have a := h.i.sb.at h.i.hk
  have H : Hid (HF w base B o g cap k m' p gf cf us fs u f room) := h
  have cB := fun w hA => l5Walk_c base g cap k us u f.c0 f.c1 h.gu h.gf.x0 h.gf.x1 h.gf.y0 h.gf.y1 w hA
  obtain ⟨c0, c1, c2, c3, c4, c5, c6, c7, c8, c9, cl⟩ := a.one
  rw [h.hp] at c9
  obtain ⟨f0, f1, f2⟩ := h.a.one
  have fl := h.a.lt
  have b0 := h.i.sb.c0
  have b1 := h.i.sb.c1
  have bl := h.i.sb.lt
  obtain ⟨n, Hn⟩ : ∃ n, Hid (us.length = n) := ⟨_, rfl⟩
  rw [Hn.out] at b0
  have HA : Hid (AtU w base g cap k us u) := a
  clear h a
  rcases q2 with q2 | q2 <;> rcases q3 with q3 | ⟨q3, q4⟩
  all_goals
    go_enter Tryz.func103, Tryz.ntmps103
    go_wp2_with fail
    go_quiet (fail)
    go_wp2_with fail
    go_quiet (fail)
    go_wp2_with fail
    go_quiet (fail)
    go_wp2_with fail
    go_region_with (go_at_call 102; refine (cB _ (by exact HA.out.of_block rfl)).mono ?_; rintro e w1 ⟨rfl, T⟩)
    all_goals
      have R := Turned.out (w := w) (w' := w1) (u' := goTo u f.c0 f.c1) H.out.i ⟨T.1, (KeptS.of_below (below_drewN w _)).trans T.2⟩ rfl
      go_wp2_with fail
      go_ret
      exact ⟨rfl, R⟩
end Go.Proofs.YtppgjmpdnpidnaaGreatDoor
end

/- TickImpl7 -/
/- Contracts of the program's jobs: to go, to harvest. Condition: the state is the call's own; the homes lie in their variable. -/
section
namespace Go.Proofs.YtppgjmpdnpidnaaGreatDoor
open Go.ChangeShapes Go.WideShapes Go.ChangeAt Go.RowKit
open Bd
set_option linter.unusedVariables false

/- the state behind a unit's turn -/
def ofTk (s : TS) (u : K10) (t : Tk) : TS := ⟨t.us, t.fs, addAt s.rm u.c1.toNat (-t.give), addAt s.gn u.c1.toNat t.give, s.lost + t.lost⟩
theorem ofTk_put (s : TS) (u x : K10) : ofTk s u ⟨putU x s.us, s.fs, 0, 0⟩ = stPut s x := by unfold ofTk stPut; simp only [Int.neg_zero, addAt_zero, Int.add_zero]
theorem ofTk_give (s : TS) (u x : K10) (g : Int) : ofTk s u ⟨putU x s.us, s.fs, g, 0⟩ = stGive s x u.c1.toNat g := by unfold ofTk stGive; simp only [Int.add_zero]
theorem ofTk_take (s : TS) (u : K10) (p : Nat) (f : K3) (n : Int) : ofTk s u ⟨putU (carr u (u.c5 + n)) s.us, s.fs.set p (leftF f (f.c2 - n)), 0, 0⟩ = stTake s u p f n := by unfold ofTk stTake; simp only [Int.neg_zero, addAt_zero, Int.add_zero]
theorem ofTk_hit (s : TS) (u p : K10) : ofTk s u (tkHit s.us s.fs p) = stHit s p := by
  unfold tkHit stHit
  split
  · unfold ofTk; simp only [Int.neg_zero, addAt_zero]
  · exact ofTk_put s u _
theorem ofTk_self (s : TS) (u : K10) : ofTk s u ⟨s.us, s.fs, 0, 0⟩ = s := by unfold ofTk; simp only [Int.neg_zero, addAt_zero, Int.add_zero]
set_option maxRecDepth 20000 in
set_option maxHeartbeats 16000000 in
theorem move_c (base T mb : Nat) (vf : Value) (gr cr gg cg : Nat) (s : TS) (u : K10) (hr : Rise s.us) (hn : s.us.length ≤ 8) (gu : GU u) (hj : u.c6 = 1) (w : World) (h : ST w base T mb vf gr cr gg cg s) :
    Calls Tryz.prog 119 #[.pointer (some ⟨T, 0, none⟩), .agg u.v] w fun e w' => e = .returned (.tuple #[]) ∧ ST w' base T mb vf gr cr gg cg (ofTk s u (tkMove s.us s.fs u)) ∧ KB base T mb vf gr gg w w' := by
  obtain ⟨W1, HW1, B1, U0, row⟩ := boxU w u
  have hto : 0 ≤ u.c7 ∧ u.c7 ≤ 11 ∧ 0 ≤ u.c8 ∧ u.c8 ≤ 11 := by
    rcases gu.j with ⟨a, _⟩ | ⟨_, _, a⟩ | ⟨a, _⟩ | ⟨a, _⟩
    · omega
    · exact a
    · omega
    · omega
  have hb := h.base
  have cE := endJob_c base T mb vf gr cr gg cg s u hr hn gu.i0 gu.i1 W1 (h.later B1)
  have cS := step_c base T mb vf gr cr gg cg s u u.c7 u.c8 hr hn gu hto.1 hto.2.1 hto.2.2.1 hto.2.2.2 W1 (h.later B1)
  have Bb : KB base T mb vf gr gg w W1 := KB.of B1 hb
  obtain ⟨s0, s1, s2, s3, s4, s5, s6, s7, s8, s9, sl⟩ := U0
  clear h row gu hto hj
  rcases at2_cases u.c2 u.c3 u.c7 u.c8 with ⟨e, _, _, n1, n2⟩ | ⟨e, hn⟩
  · have eT : tkMove s.us s.fs u = ⟨putU (idle u) s.us, s.fs, 0, 0⟩ := by unfold tkMove; rw [if_pos e]
    rw [eT, ofTk_put]
    clear eT e
    go_enter Tryz.func119, Tryz.ntmps119
    go_upto_region 1 with fail
    rw [← HW1.out]
    go_wp2_with fail
    refine cE.mono ?_
    rintro e w8 ⟨rfl, S8, B8⟩
    go_wp2_with fail
    try simp only [Exit.inBlock, Exit.then]
    refine bodyPost_ret (results_none rfl _ _ _) rfl ?_
    exact ⟨rfl, S8, Bb.trans B8⟩
  · have eT : tkMove s.us s.fs u = ⟨putU (goTo u u.c7 u.c8) s.us, s.fs, 0, 0⟩ := by unfold tkMove; rw [if_neg (by rw [e]; simp)]
    rw [eT, ofTk_put]
    clear eT e
    rcases hn with ⟨_, n1⟩ | ⟨_, _, n1, n2⟩
    all_goals
      go_enter Tryz.func119, Tryz.ntmps119
      go_upto_region 1 with fail
      rw [← HW1.out]
      go_wp2_with fail
      refine cS.mono ?_
      rintro e w8 ⟨rfl, S8, B8⟩
      go_wp2_with fail
      go_end0
      exact ⟨rfl, S8, Bb.trans B8⟩
theorem full_cases_i {u : K10} {f : K3} : (full u f = true ∧ ((u.c5 == 20) = true ∨ ((u.c5 == 20) = false ∧ (0 : Int) < u.c5 ∧ (f.c2 == 0) = true))) ∨
    (full u f = false ∧ (f.c2 == 0) = true ∧ (u.c5 == 20) = false ∧ decide ((0 : Int) < u.c5) = false) ∨
    (full u f = false ∧ (f.c2 == 0) = false ∧ (u.c5 == 20) = false ∧ (decide ((0 : Int) < u.c5) = false ∨ (0 : Int) < u.c5)) := by
  unfold full
  cases a : u.c5 == 20
  · by_cases b : 0 < u.c5
    · have b1 : decide ((0 : Int) < u.c5) = true := decide_eq_true b
      rw [b1]
      cases c : f.c2 == 0
      · exact .inr (.inr ⟨rfl, rfl, rfl, .inr b⟩)
      · exact .inl ⟨rfl, .inr ⟨rfl, b, rfl⟩⟩
    · have b1 : decide ((0 : Int) < u.c5) = false := decide_eq_false b
      rw [b1]
      cases c : f.c2 == 0
      · exact .inr (.inr ⟨rfl, rfl, rfl, .inl rfl⟩)
      · exact .inr (.inl ⟨rfl, rfl, rfl, rfl⟩)
  · exact .inl ⟨rfl, .inl rfl⟩
/- what the program's harvest is handed -/
structure HI (w : World) (base T mb : Nat) (vf : Value) (gr cr gg cg : Nat) (s : TS) (u : K10) : Prop where
  st : ST w base T mb vf gr cr gg cg s
  tg : TG s
  gu : GU u
  hj : u.c6 = 2
  ho : u.c1 ≠ 9
theorem HI.prey {w : World} {base T mb : Nat} {vf : Value} {gr cr gg cg : Nat} {s : TS} {u : K10} (h : HI w base T mb vf gr cr gg cg s u) : 0 ≤ u.c9 := by
  have := h.hj
  rcases h.gu.j with ⟨a, _⟩ | ⟨a, _⟩ | ⟨_, _, _, b, _⟩ | ⟨a, _⟩ <;> omega
set_option maxRecDepth 20000 in
set_option maxHeartbeats 16000000 in
theorem harv_none (base T mb : Nat) (vf : Value) (gr cr gg cg : Nat) (s : TS) (u : K10) (w : World) (h : HI w base T mb vf gr cr gg cg s u) (hf : s.fs[u.c9.toNat]? = none) :
    Calls Tryz.prog 120 #[.pointer (some ⟨T, 0, none⟩), .agg u.v] w fun e w' => e = .returned (.tuple #[]) ∧ ST w' base T mb vf gr cr gg cg (stPut s (idle u)) ∧ KB base T mb vf gr gg w w' := by
  obtain ⟨W1, HW1, B1, U0, row⟩ := boxU w u
  have hb := h.st.base
  have p0 := h.prey
  have hge : (s.fs.length : Int) ≤ u.c9 := by have := List.getElem?_eq_none_iff.1 hf; omega
  obtain ⟨af, cf, rfl, _⟩ := h.st.f.form
  have S1 := h.st.later B1
  have Hd : Hid (∀ j, ST (W1.drewN j) base T mb (.slice af s.fs.length cf) gr cr gg cg s) := fun j => S1.later (below_drewN _ j)
  have cE := fun W hS => endJob_c base T mb (.slice af s.fs.length cf) gr cr gg cg s u h.tg.gd.r h.tg.gd.n8 h.gu.i0 h.gu.i1 W hS
  have Bb : Hid (∀ j, KB base T mb (.slice af s.fs.length cf) gr gg w (W1.drewN j)) := fun j => KB.of (B1.trans ((below_drewN _ j).mono B1.size)) hb
  obtain ⟨s0, s1, s2, s3, s4, s5, s6, s7, s8, s9, sl⟩ := U0
  obtain ⟨t0, t1, t2, t3, t4, tl⟩ := S1.cells
  generalize s.fs.length = m' at hge t1 Hd cE Bb ⊢
  clear h row S1 hf t0 t2 t3 t4
  go_enter Tryz.func120, Tryz.ntmps120
  go_upto_region 1 with fail
  rw [← HW1.out]
  go_quiet (fail)
  go_wp2_with fail
  refine (cE _ (Hd.out _)).mono ?_
  rintro e w8 ⟨rfl, S8, B8⟩
  go_wp2_with fail
  try simp only [Exit.inBlock, Exit.then]
  refine bodyPost_ret (results_none rfl _ _ _) rfl ?_
  exact ⟨rfl, S8, (Bb.out _).trans B8⟩
set_option maxRecDepth 20000 in
set_option maxHeartbeats 16000000 in
theorem harv_call (base T mb gf p cf m' : Nat) (gr cr gg cg : Nat) (s s' : TS) (u : K10) (f : K3) (w : World) (h : SF w base T mb gf p cf m' gr cr gg cg s u f)
    (hq : (((u.c5 == 20) = true ∨ ((u.c5 == 20) = false ∧ (0 : Int) < u.c5 ∧ (f.c2 == 0) = true)) ∧ (∀ W, Below w.heap.size w W → Calls Tryz.prog 136 #[.pointer (some ⟨T, 0, none⟩), .agg u.v] W fun e w' => e = .returned (.tuple #[]) ∧ ST w' base T mb (.slice (some ⟨gf, 0, none⟩) m' cf) gr cr gg cg s' ∧ KB base T mb (.slice (some ⟨gf, 0, none⟩) m' cf) gr gg W w')) ∨
      (((f.c2 == 0) = true ∧ (u.c5 == 20) = false ∧ decide ((0 : Int) < u.c5) = false) ∧ (∀ W, Below w.heap.size w W → Calls Tryz.prog 134 #[.pointer (some ⟨T, 0, none⟩), .agg u.v] W fun e w' => e = .returned (.tuple #[]) ∧ ST w' base T mb (.slice (some ⟨gf, 0, none⟩) m' cf) gr cr gg cg s' ∧ KB base T mb (.slice (some ⟨gf, 0, none⟩) m' cf) gr gg W w')) ∨
      (((f.c2 == 0) = false ∧ (u.c5 == 20) = false ∧ (decide ((0 : Int) < u.c5) = false ∨ (0 : Int) < u.c5)) ∧ (∀ W, Below w.heap.size w W → Calls Tryz.prog 137 #[.pointer (some ⟨T, 0, none⟩), .agg u.v] W fun e w' => e = .returned (.tuple #[]) ∧ ST w' base T mb (.slice (some ⟨gf, 0, none⟩) m' cf) gr cr gg cg s' ∧ KB base T mb (.slice (some ⟨gf, 0, none⟩) m' cf) gr gg W w'))) :
    Calls Tryz.prog 120 #[.pointer (some ⟨T, 0, none⟩), .agg u.v] w fun e w' => e = .returned (.tuple #[]) ∧ ST w' base T mb (.slice (some ⟨gf, 0, none⟩) m' cf) gr cr gg cg s' ∧ KB base T mb (.slice (some ⟨gf, 0, none⟩) m' cf) gr gg w w' := by
  obtain ⟨W1, HW1, B1, U0, row⟩ := boxU w u
  have hb := h.st.base
  have h1 := h.later B1
  have Bw : Hid (∀ j, Below w.heap.size w (W1.drewN j)) := fun j => B1.trans ((below_drewN _ j).mono B1.size)
  have Bb : Hid (∀ j, KB base T mb (.slice (some ⟨gf, 0, none⟩) m' cf) gr gg w (W1.drewN j)) := fun j => KB.of (B1.trans ((below_drewN _ j).mono B1.size)) hb
  obtain ⟨s0, s1, s2, s3, s4, s5, s6, s7, s8, s9, sl⟩ := U0
  obtain ⟨t0, t1, t2, t3, t4, tl⟩ := h1.st.cells
  obtain ⟨f0, f1, f2⟩ := h1.a.one
  rw [← h.hp] at f0 f1 f2
  have fl := h1.a.lt
  have p0 := h.p0
  have pl := h.lt
  have hlt : decide ((m' : Int) ≤ u.c9) = false := decide_eq_false (by omega)
  clear h row h1 t0 t2 t3 t4
  rcases hq with ⟨q, cB⟩ | ⟨⟨q0, q1, q2⟩, cB⟩ | ⟨⟨q0, q1, q2⟩, cB⟩
  · rcases q with q | ⟨q, q1, q2⟩
    all_goals
      go_enter Tryz.func120, Tryz.ntmps120
      go_upto_region 1 with fail
      rw [← HW1.out]
      go_quiet (fail)
      go_wp2_with fail
      go_quiet (fail)
      go_wp2_with fail
      refine (cB _ (Bw.out _)).mono ?_
      rintro e w8 ⟨rfl, S8, B8⟩
      go_wp2_with fail
      go_end0
      exact ⟨rfl, S8, (Bb.out _).trans B8⟩
  · go_enter Tryz.func120, Tryz.ntmps120
    go_upto_region 1 with fail
    rw [← HW1.out]
    go_quiet (fail)
    go_wp2_with fail
    go_quiet (fail)
    go_wp2_with fail
    refine (cB _ (Bw.out _)).mono ?_
    rintro e w8 ⟨rfl, S8, B8⟩
    go_wp2_with fail
    go_end0
    exact ⟨rfl, S8, (Bb.out _).trans B8⟩
  · rcases q2 with q2 | q2
    all_goals
      go_enter Tryz.func120, Tryz.ntmps120
      go_upto_region 1 with fail
      rw [← HW1.out]
      go_quiet (fail)
      go_wp2_with fail
      go_quiet (fail)
      go_wp2_with fail
      refine (cB _ (Bw.out _)).mono ?_
      rintro e w8 ⟨rfl, S8, B8⟩
      go_wp2_with fail
      go_end0
      exact ⟨rfl, S8, (Bb.out _).trans B8⟩
end Go.Proofs.YtppgjmpdnpidnaaGreatDoor
end

/- TickSpec3 -/
/- The contract of the model's harvest. Condition: the board is the call's own copy, without a fault. -/
section
namespace Go.Proofs.YtppgjmpdnpidnaaGreatDoor
open Go.ChangeShapes Go.WideShapes Go.ChangeAt Go.RowKit
open Bd
set_option linter.unusedVariables false

theorem left_upd (f : K3) (x : Int) : f.upd 2 x = leftF f x := rfl
theorem HF.ne {w : World} {base B o g cap k m' p gf cf : Nat} {us : List K10} {fs : List K3} {u : K10} {f : K3} {room : Int} (h : HF w base B o g cap k m' p gf cf us fs u f room) : g ≠ gf ∧ B ≠ g ∧ B ≠ gf :=
  ⟨fun e => apartUF h.i.sb.u h.i.sb.f g rfl (by rw [e]; rfl), fun e => h.i.sb.nu (by rw [e]; rfl), fun e => h.i.sb.nf (by rw [e]; rfl)⟩
theorem HF.take {w : World} {base B o g cap k m' p gf cf : Nat} {us : List K10} {fs : List K3} {u : K10} {f : K3} {room : Int} (h : HF w base B o g cap k m' p gf cf us fs u f room) (x y : Int) :
    HOut w ((w.setCell ⟨gf, p * 3 + 2, none⟩ (.int .i64 x)).setCell ⟨g, k * 10 + 5, none⟩ (.int .i64 y)) base B o g cap (.slice (some ⟨gf, 0, none⟩) m' cf) us.length (putU (carr u y) us) (fs.set p (leftF f x)) := by
  obtain ⟨n1, n2, n3⟩ := h.ne
  have aU := ((h.i.sb.at h.i.hk).other (b := gf) (o := p * 3 + 2) n1 (.int .i64 x)).set 5 (by omega) y
  have aF := (h.a.set 2 (by omega) x).other (b := g) (o := k * 10 + 5) (Ne.symm n1) (.int .i64 y)
  rw [carr_upd] at aU
  rw [left_upd] at aF
  have eB : ((w.setCell ⟨gf, p * 3 + 2, none⟩ (.int .i64 x)).setCell ⟨g, k * 10 + 5, none⟩ (.int .i64 y)).heap[B]? = w.heap[B]? := (Below.heap_setCell _ _ _ _ n2).trans (Below.heap_setCell _ _ _ _ n3)
  have K : KeptS (fun b => b = g ∨ (Value.slice (some ⟨gf, 0, none⟩) m' cf).ownBlock = some b) w ((w.setCell ⟨gf, p * 3 + 2, none⟩ (.int .i64 x)).setCell ⟨g, k * 10 + 5, none⟩ (.int .i64 y)) :=
    ((KeptS.refl _ w).set (g := gf) (o := p * 3 + 2) (.inr rfl) (.int .i64 x)).set (g := g) (o := k * 10 + 5) (.inl rfl) (.int .i64 y)
  have us' := aU.s
  have fs' := aF.s
  rw [List.length_set] at us' fs'
  rw [h.m] at fs'
  rw [set_put (u' := carr u y) h.i.gd.r h.i.hk rfl] at us'
  exact ⟨⟨by rw [cell_blk eB]; exact h.i.sb.c0, by rw [cell_blk eB]; exact h.i.sb.c1, by rw [frozen_blk eB]; exact h.i.sb.fz, Nat.lt_of_lt_of_le h.i.sb.lt K.size, us', fs', h.i.sb.nu, h.i.sb.nf⟩, K⟩
set_option maxRecDepth 20000 in
set_option maxHeartbeats 8000000 in
theorem l5Harvest_take (base B o g cap k m' p gf cf : Nat) (us : List K10) (fs : List K3) (u : K10) (f : K3) (room : Int) (w : World) (h : HF w base B o g cap k m' p gf cf us fs u f room) (q0 : (f.c2 == 0) = false) (q1 : decide ((20 : Int) ≤ u.c5) = false) (q2 : decide ((0 : Int) < u.c5) = false ∨ (0 : Int) < u.c5)
    (q3 : (u.c2 == f.c0) = true) (q4 : (u.c3 == f.c1) = true) :
    Calls Tryz.prog 103 #[.pointer (some ⟨B, o, none⟩), .pointer (some ⟨g, k * 10, none⟩), .int .i64 room] w fun e w' => e = .returned (.int .i64 0) ∧ HOut w w' base B o g cap (.slice (some ⟨gf, 0, none⟩) m' cf) us.length (putU (carr u (u.c5 + tkn u f)) us) (fs.set p (leftF f (f.c2 - tkn u f))) := by
  have hlt : decide ((m' : Int) ≤ (p : Int)) = false := decide_eq_false (by have := (List.getElem?_eq_some_iff.1 h.a.h).1; have := h.m; omega)
  have hlt' : (p : Int) < (m' : Int) := by have := (List.getElem?_eq_some_iff.1 h.a.h).1; have := h.m; omega
  have a := h.i.sb.at h.i.hk
  have H : Hid (HF w base B o g cap k m' p gf cf us fs u f room) := h
  have hb := tkn_bd h.gu h.gf
  have g0 := h.gu.c0
  have g1 := h.gu.c1
  have l0 := h.gf.l0
  have l1 := h.gf.l1
  have cM := fun (a b : Int) w => specMin a b w
  obtain ⟨N, HN⟩ : ∃ N, Hid (tkn u f = N) := ⟨_, rfl⟩
  have hN : mn 5 (mn f.c2 (20 - u.c5)) = N := HN.out
  rw [HN.out] at hb ⊢
  have hw : IntKind.i64.wrap (20 - u.c5) = 20 - u.c5 := by rw [IntKind.wrap_i64]; omega
  obtain ⟨c0, c1, c2, c3, c4, c5, c6, c7, c8, c9, cl⟩ := a.one
  rw [h.hp] at c9
  obtain ⟨f0, f1, f2⟩ := h.a.one
  have fl := h.a.lt
  have fz := h.a.frozen (p * 3 + 2)
  have uz := a.frozen (k * 10 + 5)
  have b0 := h.i.sb.c0
  have b1 := h.i.sb.c1
  have bl := h.i.sb.lt
  obtain ⟨n, Hn⟩ : ∃ n, Hid (us.length = n) := ⟨_, rfl⟩
  rw [Hn.out] at b0
  obtain ⟨n1, n2, n3⟩ := h.ne
  have hcell : ∀ j, ((w.drewN j).setCell ⟨gf, p * 3 + 2, none⟩ (.int .i64 (f.c2 - N))).cell? ⟨g, k * 10 + 5, none⟩ = some (.int .i64 u.c5) := fun j => by rw [World.cell?_setCell_far _ _ _ _ (Ne.symm n1)]; exact c5
  have hfr : ∀ j, ((w.drewN j).setCell ⟨gf, p * 3 + 2, none⟩ (.int .i64 (f.c2 - N))).frozen? ⟨g, k * 10 + 5, none⟩ = false := fun j => by rw [frozen_blk (Below.heap_setCell _ _ _ _ n1)]; exact uz
  clear h a
  rcases q2 with q2 | q2
  all_goals
    go_enter Tryz.func103, Tryz.ntmps103
    go_wp2_with fail
    go_quiet (fail)
    go_wp2_with fail
    go_quiet (fail)
    go_wp2_with fail
    go_quiet (fail)
    go_wp2_with fail
    go_quiet (first | (go_at_call 113; refine (cM _ _ _).mono (fun _ _ h => ⟨h.1, _, h.2⟩)))
    rw [hN]
    go_wp2_with fail
    go_ret
    exact ⟨rfl, ((H.out.drewN _).take _ _).drewN⟩
end Go.Proofs.YtppgjmpdnpidnaaGreatDoor
end
