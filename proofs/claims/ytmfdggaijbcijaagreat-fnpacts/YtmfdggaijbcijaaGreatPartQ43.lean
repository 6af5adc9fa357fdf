/- Texts of mine put together (a claim holds at most 60 files): Tick, Iter, SumWalks2, Lists. -/
import Derived.Test.YtmfdggaijbcijaaGreatPartQ07
import Derived.Test.YtmfdggaijbcijaaGreatPartQ32
import Derived.Test.YtmfdggaijbcijaaGreatProg
import Derived.Test.YtmfdggaijbcijaaGreatRows
import Derived.WalkKit
import Derived.ProofKit
import Derived.OpenShut
import Derived.ShutString
import Derived.WalkLawsBesides
import Derived.ChangeOld
import Derived.Below
import Derived.OwnWalk
import Derived.Deep.OwnRows

/- Tick -/
/- Plain functions of chapter 5 (ticks): what a unit does, what a tick and ticks leave. No condition. -/
section
namespace Go.Proofs.YtmfdggaijbcijaaGreat
open Bd
set_option linter.unusedVariables false

def idle (u : K10) : K10 := ⟨u.c0, u.c1, u.c2, u.c3, u.c4, u.c5, 0, 0, 0, 0⟩
def goTo (u : K10) (x y : Int) : K10 := ⟨u.c0, u.c1, Nums.near u.c2 x, Nums.near u.c3 y, u.c4, u.c5, u.c6, u.c7, u.c8, u.c9⟩
def carr (u : K10) (c : Int) : K10 := ⟨u.c0, u.c1, u.c2, u.c3, u.c4, c, u.c6, u.c7, u.c8, u.c9⟩
def life (u : K10) (c : Int) : K10 := ⟨u.c0, u.c1, u.c2, u.c3, c, u.c5, u.c6, u.c7, u.c8, u.c9⟩
def leftF (f : K3) (c : Int) : K3 := ⟨f.c0, f.c1, c⟩
def hmX (o : Int) : Int := if o = 1 ∨ o = 3 then 11 else 0
def hmY (o : Int) : Int := if o = 2 ∨ o = 3 then 11 else 0
def mn (a b : Int) : Int := if a < b then a else b
def at2 (a b x y : Int) : Bool := a == x && b == y
/- the units but the one with an Id -/
def delU (us : List K10) (i : Int) : List K10 := us.filter (fun x => !(x.c0 == i))
/- what a unit's turn leaves: units, fields, what its owner gets, what is lost -/
structure Tk where
  us : List K10
  fs : List K3
  give : Int
  lost : Int
def tkBring (us : List K10) (fs : List K3) (u : K10) (room : Int) : Tk :=
  if at2 u.c2 u.c3 (hmX u.c1) (hmY u.c1) = true then ⟨putU (carr u (u.c5 - mn u.c5 room)) us, fs, mn u.c5 room, 0⟩ else ⟨putU (goTo u (hmX u.c1) (hmY u.c1)) us, fs, 0, 0⟩
def tkn (u : K10) (f : K3) : Int := mn 5 (mn f.c2 (20 - u.c5))
def tkTake (us : List K10) (fs : List K3) (u : K10) (f : K3) : Tk :=
  if at2 u.c2 u.c3 f.c0 f.c1 = true then ⟨putU (carr u (u.c5 + tkn u f)) us, fs.set u.c9.toNat (leftF f (f.c2 - tkn u f)), 0, 0⟩ else ⟨putU (goTo u f.c0 f.c1) us, fs, 0, 0⟩
def full (u : K10) (f : K3) : Bool := u.c5 == 20 || (decide (0 < u.c5) && f.c2 == 0)
def tkHarv (us : List K10) (fs : List K3) (u : K10) (room : Int) : Tk :=
  match fs[u.c9.toNat]? with
  | none => ⟨putU (idle u) us, fs, 0, 0⟩
  | some f => if full u f = true then tkBring us fs u room else if (f.c2 == 0) = true then ⟨putU (idle u) us, fs, 0, 0⟩ else tkTake us fs u f
def far (u p : K10) : Int := Nums.mx (Nums.gap u.c2 p.c2) (Nums.gap u.c3 p.c3)
def tkHit (us : List K10) (fs : List K3) (p : K10) : Tk := if p.c4 - 7 < 1 then ⟨delU us p.c0, fs, 0, p.c5⟩ else ⟨putU (life p (p.c4 - 7)) us, fs, 0, 0⟩
def tkAtk (us : List K10) (fs : List K3) (u : K10) : Tk :=
  match findU us u.c9 with
  | none => ⟨putU (idle u) us, fs, 0, 0⟩
  | some p => if (p.c1 == u.c1) = true then ⟨putU (idle u) us, fs, 0, 0⟩ else if 1 < far u p then ⟨putU (goTo u p.c2 p.c3) us, fs, 0, 0⟩ else tkHit us fs p
def tkMove (us : List K10) (fs : List K3) (u : K10) : Tk := if at2 u.c2 u.c3 u.c7 u.c8 = true then ⟨putU (idle u) us, fs, 0, 0⟩ else ⟨putU (goTo u u.c7 u.c8) us, fs, 0, 0⟩
def tk1 (us : List K10) (fs : List K3) (u : K10) (room : Int) : Tk :=
  if u.c1 = 9 then ⟨us, fs, 0, 0⟩ else if u.c6 = 1 then tkMove us fs u else if u.c6 = 2 then tkHarv us fs u room else if u.c6 = 3 then tkAtk us fs u else ⟨us, fs, 0, 0⟩
/- all that ticks turn -/
structure TS where
  us : List K10
  fs : List K3
  rm : List Int
  gn : List Int
  lost : Int
def addAt (l : List Int) (o : Nat) (x : Int) : List Int := l.set o (l.getD o 0 + x)
def tkS (s : TS) (i : Int) : TS :=
  match findU s.us i with
  | none => s
  | some u => let t := tk1 s.us s.fs u (s.rm.getD u.c1.toNat 0); ⟨t.us, t.fs, addAt s.rm u.c1.toNat (-t.give), addAt s.gn u.c1.toNat t.give, s.lost + t.lost⟩
def tkL (s : TS) (ids : List Int) : TS := ids.foldl tkS s
def tkB (s : TS) : TS := tkL s (s.us.map K10.c0)
def tkN : Nat → TS → TS
  | 0, s => s
  | n + 1, s => tkN n (tkB s)

/- a right board -/
structure Gd (us : List K10) (fs : List K3) : Prop where
  n8 : us.length ≤ 8
  n4 : fs.length ≤ 4
  u : ∀ u ∈ us, uf u = 0
  f : ∀ f ∈ fs, ff f = true
  r : Rise us
theorem Gd.of {us : List K10} {fs : List K3} (h : bf us fs = 0) : Gd us fs := by
  obtain ⟨h1, h2, h3, h4, h5⟩ := bf_ok h
  exact ⟨h1, h2, h3, h4, h5⟩
/- what a right unit is -/
structure GU (u : K10) : Prop where
  i0 : 1 ≤ u.c0
  i1 : u.c0 ≤ 99
  o : (0 ≤ u.c1 ∧ u.c1 ≤ 3) ∨ u.c1 = 9
  x0 : 0 ≤ u.c2
  x1 : u.c2 ≤ 11
  y0 : 0 ≤ u.c3
  y1 : u.c3 ≤ 11
  l0 : 1 ≤ u.c4
  l1 : u.c4 ≤ 50
  c0 : 0 ≤ u.c5
  c1 : u.c5 ≤ 20
  j : (u.c6 = 0 ∧ u.c7 = 0 ∧ u.c8 = 0 ∧ u.c9 = 0) ∨ (u.c6 = 1 ∧ u.c9 = 0 ∧ 0 ≤ u.c7 ∧ u.c7 ≤ 11 ∧ 0 ≤ u.c8 ∧ u.c8 ≤ 11) ∨ (u.c6 = 2 ∧ u.c7 = 0 ∧ u.c8 = 0 ∧ 0 ≤ u.c9 ∧ u.c9 ≤ 3) ∨ (u.c6 = 3 ∧ u.c7 = 0 ∧ u.c8 = 0 ∧ 1 ≤ u.c9 ∧ u.c9 ≤ 99 ∧ u.c9 ≠ u.c0)
theorem jf_iff (i j tx ty p : Int) : jf i j tx ty p = 0 ↔ ((j = 0 ∧ tx = 0 ∧ ty = 0 ∧ p = 0) ∨ (j = 1 ∧ p = 0 ∧ 0 ≤ tx ∧ tx ≤ 11 ∧ 0 ≤ ty ∧ ty ≤ 11) ∨ (j = 2 ∧ tx = 0 ∧ ty = 0 ∧ 0 ≤ p ∧ p ≤ 3) ∨ (j = 3 ∧ tx = 0 ∧ ty = 0 ∧ 1 ≤ p ∧ p ≤ 99 ∧ p ≠ i)) := by
  rcases job_cases j with rfl | rfl | rfl | rfl | ⟨h0, h1, h2, h3⟩
  · have e : jf i 0 tx ty p = 0 ↔ (tx = 0 ∧ ty = 0) ∧ p = 0 := by unfold jf form rng; simp [and_assoc]
    rw [e]; simp; omega
  · have e : jf i 1 tx ty p = 0 ↔ p = 0 ∧ tile tx ty = true := by
      unfold jf form rng
      simp only [show ¬ ((1 : Int) = 0) from by omega, if_false, if_true]
      by_cases h : p = 0 <;> cases ht : tile tx ty <;> simp [h]
    have t : tile tx ty = true ↔ (0 ≤ tx ∧ tx ≤ 11 ∧ 0 ≤ ty ∧ ty ≤ 11) := by unfold tile inb; simp [and_assoc]
    rw [e, t]; simp
  · have e : jf i 2 tx ty p = 0 ↔ (tx = 0 ∧ ty = 0) ∧ inb p 0 3 = true := by
      unfold jf form rng
      by_cases h : tx = 0 <;> by_cases h2 : ty = 0 <;> cases ht : inb p 0 3 <;> simp [h, h2]
    have t : inb p 0 3 = true ↔ (0 ≤ p ∧ p ≤ 3) := by unfold inb; simp
    rw [e, t]; simp [and_assoc]
  · have e : jf i 3 tx ty p = 0 ↔ (tx = 0 ∧ ty = 0) ∧ (inb p 1 99 = true ∧ p ≠ i) := by
      unfold jf form rng
      by_cases h : tx = 0 <;> by_cases h2 : ty = 0 <;> cases ht : inb p 1 99 <;> by_cases h3 : p = i <;> simp [h, h2, h3]
    have t : inb p 1 99 = true ↔ (1 ≤ p ∧ p ≤ 99) := by unfold inb; simp
    rw [e, t]; simp [and_assoc]
  · have e0 : j ≠ 0 := by simpa using h0
    have e1 : j ≠ 1 := by simpa using h1
    have e2 : j ≠ 2 := by simpa using h2
    have e3 : j ≠ 3 := by simpa using h3
    have e : jf i j tx ty p = 1 := by unfold jf form; simp [e0, e1, e2, e3]
    rw [e]; simp [e0, e1, e2, e3]
theorem uf_iff (u : K10) : uf u = 0 ↔ GU u := by
  have hd : head u.c0 u.c1 u.c2 u.c3 u.c4 u.c5 = true ↔ (1 ≤ u.c0 ∧ u.c0 ≤ 99 ∧ ((0 ≤ u.c1 ∧ u.c1 ≤ 3) ∨ u.c1 = 9) ∧ 0 ≤ u.c2 ∧ u.c2 ≤ 11 ∧ 0 ≤ u.c3 ∧ u.c3 ≤ 11 ∧ 1 ≤ u.c4 ∧ u.c4 ≤ 50 ∧ 0 ≤ u.c5 ∧ u.c5 ≤ 20) := by
    unfold head own tile inb
    simp [and_assoc]
  have hj := jf_iff u.c0 u.c6 u.c7 u.c8 u.c9
  unfold uf
  cases hh : head u.c0 u.c1 u.c2 u.c3 u.c4 u.c5
  · rw [if_pos rfl]
    constructor
    · intro h; cases h
    · intro g
      exact absurd (hd.2 ⟨g.i0, g.i1, g.o, g.x0, g.x1, g.y0, g.y1, g.l0, g.l1, g.c0, g.c1⟩) (by rw [hh]; simp)
  · rw [if_neg (by simp), hj]
    obtain ⟨a0, a1, a2, a3, a4, a5, a6, a7, a8, a9, a10⟩ := hd.1 hh
    exact ⟨fun h => ⟨a0, a1, a2, a3, a4, a5, a6, a7, a8, a9, a10, h⟩, fun g => g.j⟩
theorem Gd.gu {us : List K10} {fs : List K3} (h : Gd us fs) {u : K10} (hu : u ∈ us) : GU u := (uf_iff u).1 (h.u u hu)
structure GF (f : K3) : Prop where
  x0 : 0 ≤ f.c0
  x1 : f.c0 ≤ 11
  y0 : 0 ≤ f.c1
  y1 : f.c1 ≤ 11
  l0 : 0 ≤ f.c2
  l1 : f.c2 ≤ 10000
theorem ff_iff (f : K3) : ff f = true ↔ GF f := by
  have : ff f = true ↔ (0 ≤ f.c0 ∧ f.c0 ≤ 11 ∧ 0 ≤ f.c1 ∧ f.c1 ≤ 11 ∧ 0 ≤ f.c2 ∧ f.c2 ≤ 10000) := by
    unfold ff tile inb
    simp [and_assoc]
  rw [this]
  exact ⟨fun ⟨a, b, c, d, e, f⟩ => ⟨a, b, c, d, e, f⟩, fun g => ⟨g.x0, g.x1, g.y0, g.y1, g.l0, g.l1⟩⟩
theorem Gd.gf {us : List K10} {fs : List K3} (h : Gd us fs) {f : K3} (hf : f ∈ fs) : GF f := (ff_iff f).1 (h.f f hf)
theorem near_bd {a x : Int} (h0 : 0 ≤ a) (h1 : a ≤ 11) (h2 : 0 ≤ x) (h3 : x ≤ 11) : 0 ≤ Nums.near a x ∧ Nums.near a x ≤ 11 := by unfold Nums.near; omega
theorem GU.idle {u : K10} (g : GU u) : GU (idle u) := ⟨g.i0, g.i1, g.o, g.x0, g.x1, g.y0, g.y1, g.l0, g.l1, g.c0, g.c1, .inl ⟨rfl, rfl, rfl, rfl⟩⟩
theorem GU.goTo {u : K10} (g : GU u) {x y : Int} (h0 : 0 ≤ x) (h1 : x ≤ 11) (h2 : 0 ≤ y) (h3 : y ≤ 11) : GU (goTo u x y) :=
  ⟨g.i0, g.i1, g.o, (near_bd g.x0 g.x1 h0 h1).1, (near_bd g.x0 g.x1 h0 h1).2, (near_bd g.y0 g.y1 h2 h3).1, (near_bd g.y0 g.y1 h2 h3).2, g.l0, g.l1, g.c0, g.c1, g.j⟩
theorem GU.carr {u : K10} (g : GU u) {c : Int} (h0 : 0 ≤ c) (h1 : c ≤ 20) : GU (carr u c) := ⟨g.i0, g.i1, g.o, g.x0, g.x1, g.y0, g.y1, g.l0, g.l1, h0, h1, g.j⟩
theorem GU.life {u : K10} (g : GU u) {c : Int} (h0 : 1 ≤ c) (h1 : c ≤ 50) : GU (life u c) := ⟨g.i0, g.i1, g.o, g.x0, g.x1, g.y0, g.y1, h0, h1, g.c0, g.c1, g.j⟩
theorem hm_bd (o : Int) : 0 ≤ hmX o ∧ hmX o ≤ 11 ∧ 0 ≤ hmY o ∧ hmY o ≤ 11 := by unfold hmX hmY; refine ⟨?_, ?_, ?_, ?_⟩ <;> split <;> omega
/- a unit set in the place of the one of its Id -/
theorem set_put {us : List K10} (hr : Rise us) {k : Nat} {u u' : K10} (hk : us[k]? = some u) (he : u'.c0 = u.c0) : us.set k u' = putU u' us := by
  induction us generalizing k with
  | nil => simp at hk
  | cons x l ih =>
    obtain ⟨h1, h2⟩ := List.pairwise_cons.1 hr
    cases k with
    | zero =>
      have e : x = u := by simpa using hk
      subst e
      show u' :: l = if u'.c0 < x.c0 then _ else if u'.c0 = x.c0 then _ else _
      rw [if_neg (by omega), if_pos he]
    | succ k =>
      have hk' : l[k]? = some u := by simpa using hk
      have := h1 u (List.mem_of_getElem? hk')
      show x :: l.set k u' = if u'.c0 < x.c0 then _ else if u'.c0 = x.c0 then _ else _
      rw [if_neg (by omega), if_neg (by omega), ih h2 hk']
theorem put_len {us : List K10} (hr : Rise us) {u u' : K10} (hu : u ∈ us) (he : u'.c0 = u.c0) : (putU u' us).length = us.length := by
  obtain ⟨k, hk, rfl⟩ := List.getElem_of_mem hu
  rw [← set_put hr (List.getElem?_eq_getElem hk) he, List.length_set]
theorem del_len (us : List K10) (i : Int) : (delU us i).length ≤ us.length := List.length_filter_le _ _
theorem del_rise {us : List K10} (hr : Rise us) (i : Int) : Rise (delU us i) := List.Pairwise.filter _ hr
theorem Gd.put {us : List K10} {fs : List K3} (h : Gd us fs) {u u' : K10} (hu : u ∈ us) (he : u'.c0 = u.c0) (g : GU u') : Gd (putU u' us) fs :=
  ⟨by rw [put_len h.r hu he]; exact h.n8, h.n4, fun x hx => by rcases putU_mem hx with rfl | hx; exact (uf_iff _).2 g; exact h.u x hx, h.f, putU_rise h.r⟩
theorem Gd.del {us : List K10} {fs : List K3} (h : Gd us fs) (i : Int) : Gd (delU us i) fs :=
  ⟨Nat.le_trans (del_len _ _) h.n8, h.n4, fun x hx => h.u x (List.mem_filter.1 hx).1, h.f, del_rise h.r i⟩
theorem Gd.setF {us : List K10} {fs : List K3} (h : Gd us fs) (p : Nat) {f : K3} (g : GF f) : Gd us (fs.set p f) :=
  ⟨h.n8, by rw [List.length_set]; exact h.n4, h.u, fun x hx => by rcases List.mem_or_eq_of_mem_set hx with hx | rfl; exact h.f x hx; exact (ff_iff _).2 g, h.r⟩
theorem find_mem' {l : List K10} {i : Int} {x : K10} (h : findU l i = some x) : x ∈ l := (find_id h).1
theorem mn_bd (a b : Int) : mn a b ≤ a ∧ mn a b ≤ b ∧ (mn a b = a ∨ mn a b = b) := by unfold mn; split <;> omega
theorem tkn_bd {u : K10} {f : K3} (g : GU u) (gf : GF f) : 0 ≤ tkn u f ∧ tkn u f ≤ f.c2 ∧ tkn u f ≤ 20 - u.c5 ∧ tkn u f ≤ 5 := by
  unfold tkn mn
  have := g.c0; have := g.c1; have := gf.l0
  split <;> split <;> omega
/- a turn keeps a right board right; what is given is no more than the room, and what was carried -/
structure TkOk (us : List K10) (fs : List K3) (room : Int) (t : Tk) : Prop where
  gd : Gd t.us t.fs
  g0 : 0 ≤ t.give
  g1 : t.give ≤ room
  l0 : 0 ≤ t.lost
  l1 : t.lost + 20 * (t.us.length : Int) ≤ 20 * (us.length : Int)
theorem TkOk.same {us : List K10} {fs fs' : List K3} {room : Int} {us' : List K10} (h : Gd us' fs') (hl : us'.length = us.length) (h0 : 0 ≤ room) : TkOk us fs room ⟨us', fs', 0, 0⟩ := ⟨h, Int.le_refl _, h0, Int.le_refl _, by simp only; omega⟩
theorem del_lt {us : List K10} {p : K10} (hp : p ∈ us) : (delU us p.c0).length + 1 ≤ us.length := by
  unfold delU
  induction us with
  | nil => cases hp
  | cons x l ih =>
    rcases List.mem_cons.1 hp with rfl | hp
    · rw [List.filter_cons_of_neg (by simp)]
      have := List.length_filter_le (fun x => !(x.c0 == p.c0)) l
      simp; omega
    · have := ih hp
      by_cases e : x.c0 == p.c0
      · rw [List.filter_cons_of_neg (by simp [e])]
        simp; omega
      · rw [List.filter_cons_of_pos (by simp [e])]
        simp; omega
theorem tk1_ok {us : List K10} {fs : List K3} {u : K10} {room : Int} (h : Gd us fs) (hu : u ∈ us) (h0 : 0 ≤ room) : TkOk us fs room (tk1 us fs u room) := by
  have g := h.gu hu
  have keep : ∀ u', u'.c0 = u.c0 → GU u' → TkOk us fs room ⟨putU u' us, fs, 0, 0⟩ := fun u' e g' => .same (h.put hu e g') (put_len h.r hu e) h0
  have hid := keep (idle u) rfl g.idle
  have hself : TkOk us fs room ⟨us, fs, 0, 0⟩ := .same h rfl h0
  unfold tk1
  split
  · exact hself
  rename_i hn9
  have ho : 0 ≤ u.c1 ∧ u.c1 ≤ 3 := by rcases g.o with h | h; exact h; exact absurd h hn9
  split
  · rename_i hj
    unfold tkMove
    split
    · exact hid
    · refine keep _ rfl ?_
      rcases g.j with ⟨a, _⟩ | ⟨_, _, b0, b1, b2, b3⟩ | ⟨a, _⟩ | ⟨a, _⟩
      · omega
      · exact g.goTo b0 b1 b2 b3
      · omega
      · omega
  split
  · unfold tkHarv
    cases hf : fs[u.c9.toNat]? with
    | none => exact hid
    | some f =>
      have hfm := List.mem_of_getElem? hf
      have gf := h.gf hfm
      dsimp only
      split
      · unfold tkBring
        split
        · have m := mn_bd u.c5 room
          have := g.c0; have := g.c1
          exact ⟨h.put hu rfl (g.carr (by omega) (by omega)), by simp only; omega, m.2.1, Int.le_refl _, by simp only; have := put_len h.r (u' := carr u (u.c5 - mn u.c5 room)) hu rfl; omega⟩
        · obtain ⟨a, b, c, d⟩ := hm_bd u.c1
          exact keep _ rfl (g.goTo a b c d)
      · split
        · exact hid
        · unfold tkTake
          split
          · have t := tkn_bd g gf
            have := gf.l0; have := gf.l1; have := g.c0
            have gl : GF (leftF f (f.c2 - tkn u f)) := ⟨gf.x0, gf.x1, gf.y0, gf.y1, by show 0 ≤ f.c2 - tkn u f; omega, by show f.c2 - tkn u f ≤ 10000; omega⟩
            have gc : GU (carr u (u.c5 + tkn u f)) := g.carr (by omega) (by omega)
            exact .same ((h.put (u' := carr u (u.c5 + tkn u f)) hu rfl gc).setF _ gl) (put_len h.r (u' := carr u (u.c5 + tkn u f)) hu rfl) h0
          · exact keep _ rfl (g.goTo gf.x0 gf.x1 gf.y0 gf.y1)
  split
  · unfold tkAtk
    cases hp : findU us u.c9 with
    | none => exact hid
    | some p =>
      have hpm := find_mem' hp
      have gp := h.gu hpm
      dsimp only
      split
      · exact hid
      · split
        · exact keep _ rfl (g.goTo gp.x0 gp.x1 gp.y0 gp.y1)
        · unfold tkHit
          have := gp.l0; have := gp.l1
          split
          · have := del_lt hpm
            have := gp.c0; have := gp.c1
            exact ⟨h.del _, Int.le_refl _, h0, gp.c0, by simp only; omega⟩
          · exact .same (h.put hpm rfl (gp.life (by omega) (by omega))) (put_len h.r hpm rfl) h0
  · exact hself
/- a state of ticks that is right: lo: what may still be lost -/
structure TG (s : TS) : Prop where
  gd : Gd s.us s.fs
  rl : s.rm.length = 4
  gl : s.gn.length = 4
  r : ∀ x ∈ s.rm, 0 ≤ x ∧ x ≤ 1000000
  g : ∀ x ∈ s.gn, 0 ≤ x
  rg : ∀ k, k < 4 → s.rm.getD k 0 + s.gn.getD k 0 ≤ 1000000
  l0 : 0 ≤ s.lost
  l1 : s.lost + 20 * (s.us.length : Int) ≤ 160
theorem getD_mem {l : List Int} {k : Nat} (h : k < l.length) : l.getD k 0 ∈ l := by
  rw [List.getD_eq_getElem?_getD, List.getElem?_eq_getElem h]; exact List.getElem_mem h
theorem addAt_len (l : List Int) (o : Nat) (x : Int) : (addAt l o x).length = l.length := by unfold addAt; rw [List.length_set]
theorem addAt_getD (l : List Int) (o k : Nat) (x : Int) (ho : o < l.length) : (addAt l o x).getD k 0 = if k = o then l.getD o 0 + x else l.getD k 0 := by
  unfold addAt
  rw [List.getD_eq_getElem?_getD, List.getElem?_set]
  by_cases h : o = k
  · subst h; rw [if_pos rfl, if_pos rfl, if_pos ho]; rfl
  · rw [if_neg h, if_neg (by omega), List.getD_eq_getElem?_getD]
theorem addAt_zero (l : List Int) (o : Nat) : addAt l o 0 = l := by
  unfold addAt
  rw [Int.add_zero, List.getD_eq_getElem?_getD]
  apply List.ext_getElem?
  intro i
  rw [List.getElem?_set]
  by_cases h : o = i
  · subst h
    rw [if_pos rfl]
    by_cases h2 : o < l.length
    · rw [if_pos h2, List.getElem?_eq_getElem h2]; rfl
    · rw [if_neg h2, List.getElem?_eq_none (by omega)]
  · rw [if_neg h]
theorem tk1_nobody {us : List K10} {fs : List K3} {u : K10} {room : Int} (h : u.c1 = 9) : tk1 us fs u room = ⟨us, fs, 0, 0⟩ := by unfold tk1; rw [if_pos h]
theorem TG.step {s : TS} (h : TG s) (i : Int) : TG (tkS s i) := by
  unfold tkS
  cases hf : findU s.us i with
  | none => exact h
  | some u =>
    have hu := find_mem' hf
    have g := h.gd.gu hu
    dsimp only
    by_cases h9 : u.c1 = 9
    · rw [tk1_nobody h9]
      simp only [Int.neg_zero, addAt_zero, Int.add_zero]
      exact h
    · have ho : 0 ≤ u.c1 ∧ u.c1 ≤ 3 := by rcases g.o with h | h; exact h; exact absurd h h9
      have hk : u.c1.toNat < 4 := by omega
      obtain ⟨o, hoe⟩ : ∃ o, u.c1.toNat = o := ⟨_, rfl⟩
      rw [hoe] at hk ⊢
      have hr := h.r _ (getD_mem (l := s.rm) (k := o) (by rw [h.rl]; exact hk))
      have hg := h.g _ (getD_mem (l := s.gn) (k := o) (by rw [h.gl]; exact hk))
      have t := tk1_ok h.gd hu hr.1
      generalize tk1 s.us s.fs u (s.rm.getD o 0) = t' at t ⊢
      have t0 := t.g0; have t1 := t.g1; have t2 := t.l0; have t3 := t.l1; have h1 := h.l1; have h0 := h.l0
      have hrg := h.rg o hk
      refine ⟨t.gd, by rw [addAt_len]; exact h.rl, by rw [addAt_len]; exact h.gl, ?_, ?_, ?_, by simp only; omega, by simp only; omega⟩
      · intro x hx
        rcases List.mem_or_eq_of_mem_set hx with hx | rfl
        · exact h.r x hx
        · exact ⟨by omega, by omega⟩
      · intro x hx
        rcases List.mem_or_eq_of_mem_set hx with hx | rfl
        · exact h.g x hx
        · omega
      · intro k hk'
        show (addAt s.rm o (-t'.give)).getD k 0 + (addAt s.gn o t'.give).getD k 0 ≤ _
        rw [addAt_getD _ _ _ _ (by rw [h.rl]; exact hk), addAt_getD _ _ _ _ (by rw [h.gl]; exact hk)]
        split
        · omega
        · exact h.rg k hk'
theorem TG.list {s : TS} (h : TG s) (ids : List Int) : TG (tkL s ids) := by
  unfold tkL
  induction ids generalizing s with
  | nil => exact h
  | cons i l ih => exact ih (h.step i)
theorem TG.tick {s : TS} (h : TG s) : TG (tkB s) := h.list _
theorem TG.ticks {s : TS} (h : TG s) (n : Nat) : TG (tkN n s) := by
  induction n generalizing s with
  | zero => exact h
  | succ n ih => exact ih h.tick
end Go.Proofs.YtmfdggaijbcijaaGreat
end

/- Iter -/
/- Nothing of the library is laid here. -/
section
namespace Go.Proofs.YtmfdggaijbcijaaGreat
end Go.Proofs.YtmfdggaijbcijaaGreat
end

/- SumWalks2 -/
/- Contracts of CarriedBy and of its model. Condition: the board's two lists lie in memory as they were laid there. -/
section
namespace Go.Proofs.YtmfdggaijbcijaaGreat
open Go.ChangeShapes Go.WideShapes Go.ChangeAt Go.RowKit
open Bd
set_option linter.unusedVariables false

end Go.Proofs.YtmfdggaijbcijaaGreat
end

/- Lists -/
/- Lists of numbers in memory of their own: a block whose first cells are the list. No condition. -/
section
namespace Go.Proofs.YtmfdggaijbcijaaGreat
open Go.ChangeShapes Go.WideShapes Go.ChangeAt Go.RowKit
set_option linter.unusedVariables false

/- block g is a row of cap cells whose first ones are the numbers l -/
def Lst (w : World) (g cap : Nat) (l : List Int) : Prop :=
  ∃ cur : Array Value, w.heap[g]? = some (.cells cur 2 (0, 0)) ∧ l.length ≤ cap ∧ cap ≤ maxLen ∧ cur.size = cap ∧ cur.toList.take l.length = l.map (Value.int .i64)

theorem Lst.lt {w : World} {g cap : Nat} {l : List Int} (h : Lst w g cap l) : g < w.heap.size := by
  obtain ⟨cur, hg, _⟩ := h
  exact (Array.getElem?_eq_some_iff.1 hg).1
theorem Lst.cell {w : World} {g cap : Nat} {l : List Int} (h : Lst w g cap l) {i : Nat} {x : Int} (hi : l[i]? = some x) : w.cell? ⟨g, i, none⟩ = some (.int .i64 x) := by
  obtain ⟨cur, hg, hl, _, hs, ht⟩ := h
  have h1 : (l.map (Value.int .i64))[i]? = some (.int .i64 x) := by simp [hi]
  rw [← ht, List.getElem?_take] at h1
  split at h1
  · simp [World.cell?, hg]; simpa using h1
  · cases h1
theorem Lst.frozen {w : World} {g cap : Nat} {l : List Int} (h : Lst w g cap l) (i : Nat) : w.frozen? ⟨g, i, none⟩ = false := by
  obtain ⟨cur, hg, _⟩ := h
  simp [World.frozen?, hg]
theorem Lst.of_block {w w' : World} {g cap : Nat} {l : List Int} (h : Lst w g cap l) (e : w'.heap[g]? = w.heap[g]?) : Lst w' g cap l := by
  obtain ⟨cur, hg, r⟩ := h
  exact ⟨cur, e.trans hg, r⟩
theorem Lst.below {w w' : World} {g cap : Nat} {l : List Int} (h : Lst w g cap l) (hb : Below w.heap.size w w') : Lst w' g cap l := h.of_block (hb.block g h.lt)
theorem Lst.alloc {w : World} {g cap : Nat} {l : List Int} (h : Lst w g cap l) (o : Obj) : Lst (w.alloc o) g cap l := h.below ((Below.refl _ _).alloc (Nat.le_refl _) o)
theorem Lst.setOther {w : World} {g cap : Nat} {l : List Int} (h : Lst w g cap l) {a : Addr} (ha : g ≠ a.block) (v : Value) : Lst (w.setCell a v) g cap l := h.of_block (Below.heap_setCell _ _ _ _ ha)
theorem Lst.drew {w : World} {g cap : Nat} {l : List Int} (h : Lst w g cap l) : Lst w.drew g cap l := h
theorem Lst.set {w : World} {g cap : Nat} {l : List Int} (h : Lst w g cap l) (i : Nat) (x : Int) : Lst (w.setCell ⟨g, i, none⟩ (.int .i64 x)) g cap (l.set i x) := by
  obtain ⟨cur, hg, hl, hm, hs, ht⟩ := h
  refine ⟨cur.setIfInBounds i (.int .i64 x), ?_, by simpa using hl, hm, by simpa using hs, ?_⟩
  · simp [World.setCell, Array.getElem?_modify, hg]
  · rw [List.length_set, List.map_set, ← ht]
    simp [List.take_set]
theorem Lst.of_owns {w : World} {base : Nat} {v : Value} {l : List Int} (h : w.ownsRow base 2 1 v l.length (l.map (Value.int .i64))) (hne : 0 < l.length) :
    ∃ g cap, v = .slice (some ⟨g, 0, none⟩) l.length cap ∧ base ≤ g ∧ Lst w g cap l := by
  rcases h.2 with ⟨_, h0⟩ | ⟨g, cap, cur, hv, hb, hg, hc, hm, hs, ht⟩
  · omega
  · exact ⟨g, cap, hv, hb, cur, hg, hc, hm, by simpa using hs, by simpa using ht⟩
theorem Lst.of_row {w : World} {g n : Nat} {l : List Int} (h : w.rowIs g 2 n (fun i => .int .i64 (l.getD i 0))) (hn : l.length = n) (hm : n ≤ maxLen) : Lst w g n l := by
  obtain ⟨cur, hg, hs, hf⟩ := h
  refine ⟨cur, hg, by omega, hm, hs, ?_⟩
  apply List.ext_getElem?
  intro i
  rw [List.getElem?_take]
  by_cases hi : i < l.length
  · rw [if_pos hi]
    have := hf i (by omega)
    simp [List.getElem?_eq_getElem hi] at this ⊢
    simpa using this
  · rw [if_neg hi, List.getElem?_eq_none (by simpa using Nat.le_of_not_lt hi)]
theorem one_new (w : World) (v : Value) (t : TypeId) : ∀ j u, [v][j]? = some u → (w.alloc (.cells #[v] t)).cell? ((⟨w.heap.size, 0, none⟩ : Addr).add j) = some u := by
  intro j u hj
  match j, hj with
  | 0, hj => simp at hj; subst hj; simp [Addr.add]
theorem one_cell (k : IntKind) (x : Int) : ∀ u ∈ [Value.int k x], u.oneCell' = true := by
  intro u hu; simp at hu; subst hu; rfl
theorem info64 : (Tryz.prog.info? 2).map (fun i => (i.zero, i.size, i.bytes)) = some (some (.int .i64 0), 1, 8) := by kernel_rfl
end Go.Proofs.YtmfdggaijbcijaaGreat
end
