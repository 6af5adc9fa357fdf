/- Texts of mine put together (a claim holds at most 60 files): GfPlain, WRes. -/
import Derived.Test.YtmfdggaijbcijaaGreatPartQ24
import Derived.Test.YtmfdggaijbcijaaGreatPartQ21
import Derived.Test.YtmfdggaijbcijaaGreatPartQ17

/- GfPlain -/
/- Plain facts of worlds and of what is given away: a world without a fault, part by part; a tribute and one that comes back. No condition. -/
section
namespace Go.Proofs.YtmfdggaijbcijaaGreat
open Bd
set_option linter.unusedVariables false

/- what a world without a fault is, part by part -/
structure GdW (h : Int → Int → Bool) (x : KW) : Prop where
  t : inb x.t 0 9999 = true
  s : inb x.s 0 100000000 = true
  b : bf x.us x.fs = 0
  a4 : x.fa.length = 4
  s6 : x.se.length ≤ 6
  o6 : x.oo.length ≤ 6
  a : faF h x.fa 0 x.fa = 0
  se : seF x.fa none x.se = 0
  oo : ofF h x.fa [] x.oo = 0
  ow : owF x.fa x.us = 0
theorem or4_zero {a b c d : Int} : or4 a b c d = 0 ↔ a = 0 ∧ b = 0 ∧ c = 0 ∧ d = 0 := by
  unfold or4
  constructor
  · intro h
    by_cases ha : a = 0
    · subst ha
      by_cases hb : b = 0
      · subst hb
        by_cases hc : c = 0
        · subst hc; simp at h; exact ⟨rfl, rfl, rfl, h⟩
        · simp [hc] at h
      · simp [hb] at h
    · simp [ha] at h
  · rintro ⟨rfl, rfl, rfl, rfl⟩; simp
theorem gdW_iff (h : Int → Int → Bool) (x : KW) : wf h x = 0 ↔ GdW h x := by
  constructor
  · intro e
    rcases wf_cases h x with ⟨_, e'⟩ | ⟨_, _, e'⟩ | ⟨_, _, _, e'⟩ | ⟨_, _, _, e3, e'⟩ | ⟨_, _, _, _, _, e'⟩ | ⟨_, _, _, _, _, _, e'⟩ | ⟨_, _, _, _, _, _, _, e'⟩ | ⟨t0, t1, s1, b1, a4, s6, o6, e'⟩
    · rw [e'] at e; cases e
    · rw [e'] at e; cases e
    · rw [e'] at e; cases e
    · rw [e'] at e; rw [e] at e3; cases e3
    · rw [e'] at e; cases e
    · rw [e'] at e; cases e
    · rw [e'] at e; cases e
    · rw [e'] at e
      obtain ⟨h1, h2, h3, h4⟩ := or4_zero.1 e
      exact ⟨inb_t t0 t1, s1, b1, a4, s6, o6, h1, h2, h3, h4⟩
  · rintro ⟨t, s, b, a4, s6, o6, a, se, oo, ow⟩
    unfold wf
    rw [t, s, b, if_neg (by simp), if_neg (by simp), if_neg (by omega)]
    exact or4_zero.2 ⟨a, se, oo, ow⟩
theorem alB_iff {h : Int → Int → Bool} {m i : Int} : ∀ {l : List KA} {k : Int}, alB h m i k l = true ↔ ∀ (j : Nat) (g : KA), l[j]? = some g → h m (k + j) = true → k + j ≠ i ∧ h g.c2 i = true
  | [], k => by simp [alB]
  | a :: l, k => by
    unfold alB
    rw [Bool.and_eq_true, alB_iff (l := l) (k := k + 1)]
    constructor
    · rintro ⟨h1, h2⟩ j g hg hm
      cases j with
      | zero =>
        have e : a = g := by simpa using hg
        subst e
        rw [show k + ((0 : Nat) : Int) = k from by omega] at hm ⊢
        rw [hm] at h1
        simpa using h1
      | succ j =>
        have := h2 j g (by simpa using hg) (by rw [show k + 1 + (j : Int) = k + ((j + 1 : Nat) : Int) from by omega]; exact hm)
        rw [show k + 1 + (j : Int) = k + ((j + 1 : Nat) : Int) from by omega] at this
        exact this
    · intro H
      refine ⟨?_, fun j g hg hm => ?_⟩
      · have := H 0 a rfl
        rw [show k + ((0 : Nat) : Int) = k from by omega] at this
        cases hk : h m k
        · rfl
        · obtain ⟨h1, h2⟩ := this hk
          simp [h1, h2]
      · have := H (j + 1) g (by simpa using hg) (by rw [show k + ((j + 1 : Nat) : Int) = k + 1 + (j : Int) from by omega]; exact hm)
        rw [show k + ((j + 1 : Nat) : Int) = k + 1 + (j : Int) from by omega] at this
        exact this
theorem faC_iff {h : Int → Int → Bool} {fa : List KA} {i : Int} {f : KA} : faC h fa i f = 0 ↔ inb f.c0 0 1000000 = true ∧ inb f.c2 0 15 = true ∧ (f.c1 = true → f.c2 = 0) ∧ alB h f.c2 i 0 fa = true := by
  unfold faC faR faG
  cases e0 : inb f.c0 0 1000000 <;> cases e2 : inb f.c2 0 15 <;> cases ea : alB h f.c2 i 0 fa <;> cases e1 : f.c1 <;> simp
  all_goals by_cases e3 : f.c2 = 0 <;> simp [e3]
theorem faF_iff {h : Int → Int → Bool} {fa : List KA} : ∀ {l : List KA} {i : Int}, faF h fa i l = 0 ↔ ∀ (j : Nat) (f : KA), l[j]? = some f → faC h fa (i + j) f = 0
  | [], i => by simp [faF]
  | a :: l, i => by
    unfold faF
    have ih := faF_iff (h := h) (fa := fa) (l := l) (i := i + 1)
    constructor
    · intro e j f hf
      have ha : faC h fa i a = 0 := by
        cases ec : faC h fa i a == 0
        · rw [ec] at e; simpa using e
        · simpa using ec
      rw [ha] at e
      have hl := ih.1 (by simpa using e)
      cases j with
      | zero =>
        have e : a = f := by simpa using hf
        subst e
        rw [show i + ((0 : Nat) : Int) = i from by omega]; exact ha
      | succ j =>
        have := hl j f (by simpa using hf)
        rw [show i + ((j + 1 : Nat) : Int) = i + 1 + (j : Int) from by omega]; exact this
    · intro H
      have ha := H 0 a rfl
      rw [show i + ((0 : Nat) : Int) = i from by omega] at ha
      rw [ha, if_neg (by simp)]
      exact ih.2 (fun j f hf => by
        have := H (j + 1) f (by simpa using hf)
        rw [show i + ((j + 1 : Nat) : Int) = i + 1 + (j : Int) from by omega] at this; exact this)
/- seats rise -/
def rsF : Option Int → List K4 → Bool
  | _, [] => true
  | p, s :: l => !(leP p s.c0) && rsF (some s.c0) l
theorem seF_iff {fa : List KA} : ∀ {l : List K4} {p : Option Int}, seF fa p l = 0 ↔ rsF p l = true ∧ ∀ s ∈ l, seR s = true ∧ goneA fa s.c1 = false
  | [], p => by simp [seF, rsF]
  | s :: l, p => by
    have ih := seF_iff (fa := fa) (l := l) (p := some s.c0)
    unfold seF rsF
    cases e1 : seR s
    · simp [e1]
    cases e2 : leP p s.c0
    · cases e3 : goneA fa s.c1
      · simp [ih, e1, e3]
      · simp [e3]
    · simp
/- no offer twice -/
def ndF : List K2 → List K2 → Bool
  | _, [] => true
  | q, x :: l => !(memO q x) && ndF (q ++ [x]) l
theorem ofF_iff {h : Int → Int → Bool} {fa : List KA} : ∀ {l q : List K2}, ofF h fa q l = 0 ↔ ndF q l = true ∧ ∀ x ∈ l, ofR x = true ∧ x.c0 ≠ x.c1 ∧ h (allyA fa x.c0) x.c1 = false ∧ goneA fa x.c0 = false ∧ goneA fa x.c1 = false
  | [], q => by simp [ofF, ndF]
  | x :: l, q => by
    have ih := ofF_iff (h := h) (fa := fa) (l := l) (q := q ++ [x])
    unfold ofF ndF ofB
    cases e1 : ofR x
    · simp [e1]
    by_cases e2 : x.c0 = x.c1
    · simp [e2]
    have e2' : (x.c0 == x.c1) = false := by simpa using e2
    cases e3 : h (allyA fa x.c0) x.c1
    · cases e4 : goneA fa x.c0
      · cases e5 : goneA fa x.c1
        · cases e6 : memO q x
          · simp [ih, e1, e2, e3, e4, e5]
          · simp
        · simp [e5]
      · simp [e4]
    · simp [e3]
theorem owF_iff {fa : List KA} : ∀ {l : List K10}, owF fa l = 0 ↔ ∀ u ∈ l, u.c1 ≠ 9 → goneA fa u.c1 = false
  | [] => by simp [owF]
  | u :: l => by
    have ih := owF_iff (fa := fa) (l := l)
    unfold owF
    by_cases e1 : u.c1 = 9
    · simp [e1, ih]
    · cases e2 : goneA fa u.c1
      · simp [e2, ih]
      · simp [e1, e2]
/- factions with the same Gone and Allies -/
def eqGA (fa fa' : List KA) : Prop := fa.length = fa'.length ∧ ∀ (j : Nat) (f f' : KA), fa[j]? = some f → fa'[j]? = some f' → f.c1 = f'.c1 ∧ f.c2 = f'.c2
theorem getD_z {fa : List KA} {i : Nat} : fa.getD i KA.z = match fa[i]? with | some f => f | none => KA.z := by
  rw [List.getD_eq_getElem?_getD]; cases fa[i]? <;> rfl
theorem eqGA.at {fa fa' : List KA} (e : eqGA fa fa') (i : Nat) : (fa.getD i KA.z).c1 = (fa'.getD i KA.z).c1 ∧ (fa.getD i KA.z).c2 = (fa'.getD i KA.z).c2 := by
  rw [getD_z, getD_z]
  by_cases hi : i < fa.length
  · have h1 : fa[i]? = some fa[i] := List.getElem?_eq_getElem hi
    have h2 : fa'[i]? = some (fa'[i]'(by rw [← e.1]; exact hi)) := List.getElem?_eq_getElem _
    rw [h1, h2]
    exact e.2 i _ _ h1 h2
  · rw [List.getElem?_eq_none (by omega), List.getElem?_eq_none (by rw [← e.1]; omega)]
    exact ⟨rfl, rfl⟩
theorem eqGA.ally {fa fa' : List KA} (e : eqGA fa fa') (i : Int) : allyA fa i = allyA fa' i := (e.at i.toNat).2
/- two sides of a right world -/
def sdF (fa : List KA) (a b : Int) : Int := if (inb a 0 3 && inb b 0 3) = false then 3 else if (a == b) = true then 1 else if (goneA fa a || goneA fa b) = true then 8 else 0
def prF (h : Int → Int → Bool) (x : KW) (a b : Int) : Int := if (wf h x == 0) = false then wf h x else sdF x.fa a b
def purA (fa : List KA) (i : Int) : Int := (fa.getD i.toNat KA.z).c0
def setP (fa : List KA) (i v : Int) : List KA := fa.set i.toNat ⟨v, (fa.getD i.toNat KA.z).c1, (fa.getD i.toNat KA.z).c2⟩
/- a tribute -/
def payC (h : Int → Int → Bool) (x : KW) (a b n : Int) : Int := if (prF h x a b == 0) = false then prF h x a b else if inb n 1 1000000 = false then 3 else if purA x.fa a < n then 10 else if 1000000 < purA x.fa b + n then 7 else 0
def payA (fa : List KA) (a b n : Int) : List KA := setP (setP fa a (purA fa a - n)) b (purA fa b + n)
def kz : KW := ⟨0, 0, [], [], [], [], []⟩
def payX (h : Int → Int → Bool) (x : KW) (a b n : Int) : KW := if (payC h x a b n == 0) = true then ⟨x.t, x.s, x.us, x.fs, payA x.fa a b n, x.se, x.oo⟩ else kz
def purS : List KA → Int
  | [] => 0
  | f :: l => f.c0 + purS l
theorem sdF_zero {fa : List KA} {a b : Int} : sdF fa a b = 0 ↔ inb a 0 3 = true ∧ inb b 0 3 = true ∧ a ≠ b ∧ goneA fa a = false ∧ goneA fa b = false := by
  unfold sdF
  cases inb a 0 3 <;> cases inb b 0 3 <;> cases goneA fa a <;> cases goneA fa b <;> simp
  all_goals by_cases e : a = b <;> simp [e]
theorem prF_zero {h : Int → Int → Bool} {x : KW} {a b : Int} : prF h x a b = 0 ↔ wf h x = 0 ∧ sdF x.fa a b = 0 := by
  unfold prF
  by_cases e : wf h x = 0
  · simp [e]
  · simp [e]
theorem setP_len (fa : List KA) (i v : Int) : (setP fa i v).length = fa.length := by unfold setP; simp
theorem eqGA.refl (fa : List KA) : eqGA fa fa := ⟨rfl, fun j f f' h h' => by rw [h] at h'; cases h'; exact ⟨rfl, rfl⟩⟩
theorem eqGA.symm {fa fa' : List KA} (e : eqGA fa fa') : eqGA fa' fa := ⟨e.1.symm, fun j f f' h h' => ⟨(e.2 j f' f h' h).1.symm, (e.2 j f' f h' h).2.symm⟩⟩
theorem eqGA.setP {fa fa' : List KA} (e : eqGA fa fa') (i v : Int) : eqGA fa (setP fa' i v) := by
  refine ⟨by rw [setP_len]; exact e.1, fun j f f' h h' => ?_⟩
  unfold Go.Proofs.YtmfdggaijbcijaaGreat.setP at h'
  rw [List.getElem?_set] at h'
  by_cases hj : i.toNat = j
  · subst hj
    rw [if_pos rfl] at h'
    by_cases hl : i.toNat < fa'.length
    · rw [if_pos hl] at h'
      have h2 : fa'[i.toNat]? = some fa'[i.toNat] := List.getElem?_eq_getElem hl
      have := e.2 _ _ _ h h2
      cases h'
      rw [getD_z, h2]
      exact this
    · rw [if_neg hl] at h'; cases h'
  · rw [if_neg hj] at h'
    exact e.2 j f f' h h'
/- the law of tributes, in plain words -/
structure PayG (h : Int → Int → Bool) (x : KW) (a b n : Int) : Prop where
  wf0 : wf h (payX h x a b n) = 0
  sum : purS (payX h x a b n).fa = purS x.fa
  back : payC h (payX h x a b n) b a n = 0
  same : payX h (payX h x a b n) b a n = x
end Go.Proofs.YtmfdggaijbcijaaGreat
end

/- WRes -/
/- Worlds of a call's own: what an answer's block holds, and what a store into a block of another type leaves. No condition. -/
section
namespace Go.Proofs.YtmfdggaijbcijaaGreat
open Go.ChangeShapes Go.WideShapes Go.ChangeAt Go.RowKit
set_option linter.unusedVariables false

abbrev r8 (c : Int) (p : WP) (x : KW) : Array Value := #[.int .i64 c, .int .i64 x.t, .int .i64 x.s, .slice p.u x.us.length p.uc, .slice p.f x.fs.length p.fc, .slice p.a x.fa.length p.ac, .slice p.s x.se.length p.sc, .slice p.o x.oo.length p.oc]
def wpz : WP := ⟨none, 0, none, 0, none, 0, none, 0, none, 0⟩
abbrev set8 (W : World) (g : Nat) (v0 v1 v2 v3 v4 v5 v6 v7 : Value) : World := (((((((W.setCell ⟨g, 0, none⟩ v0).setCell ⟨g, 1, none⟩ v1).setCell ⟨g, 2, none⟩ v2).setCell ⟨g, 3, none⟩ v3).setCell ⟨g, 4, none⟩ v4).setCell ⟨g, 5, none⟩ v5).setCell ⟨g, 6, none⟩ v6).setCell ⟨g, 7, none⟩ v7
/- five lists of a call's own -/
structure OwW (w : World) (base : Nat) (p : WP) (x : KW) : Prop where
  u : SlU w base (.slice p.u x.us.length p.uc) x.us
  f : SlF w base (.slice p.f x.fs.length p.fc) x.fs
  a : SlA w base (.slice p.a x.fa.length p.ac) x.fa
  s : SlS w base (.slice p.s x.se.length p.sc) x.se
  o : SlO w base (.slice p.o x.oo.length p.oc) x.oo
theorem OwW.z (w : World) (base : Nat) : OwW w base wpz kz := ⟨⟨rfl, .inl ⟨rfl, rfl⟩⟩, ⟨rfl, .inl ⟨rfl, rfl⟩⟩, ⟨rfl, .inl ⟨rfl, rfl⟩⟩, ⟨rfl, .inl ⟨rfl, rfl⟩⟩, ⟨rfl, .inl ⟨rfl, rfl⟩⟩⟩
theorem OwW.in {w : World} {base : Nat} {p : WP} {x : KW} (h : OwW w base p x) : InW w p x := by
  obtain ⟨pu, cu, e1, U⟩ := h.u.in
  obtain ⟨pf, cf, e2, F⟩ := h.f.in
  obtain ⟨pa, ca, e3, a1, a2, A⟩ := h.a.in
  obtain ⟨ps, cs, e4, s1, s2, S⟩ := h.s.in
  obtain ⟨po, co, e5, o1, o2, O⟩ := h.o.in
  injection e1 with u1 u2 u3
  injection e2 with f1 f2 f3
  injection e3 with b1 b2 b3
  injection e4 with t1 t2 t3
  injection e5 with q1 q2 q3
  exact ⟨by rw [u1, u3]; exact U, by rw [f1, f3]; exact F, by rw [b1, b3]; exact A, by rw [t1, t3]; exact S, by rw [q1, q3]; exact O, by rw [q3]; exact o1, by rw [q3]; exact o2⟩
theorem OwW.later {w w' : World} {base : Nat} {p : WP} {x : KW} (h : OwW w base p x) (hb : Below w.heap.size w w') : OwW w' base p x := ⟨h.u.below hb, h.f.below hb, h.a.below hb, h.s.below hb, h.o.below hb⟩
theorem OwW.mono {w : World} {base base' : Nat} {p : WP} {x : KW} (h : OwW w base p x) (hb : base' ≤ base) : OwW w base' p x := ⟨h.u.mono hb, h.f.mono hb, h.a.mono hb, h.s.mono hb, h.o.mono hb⟩
theorem OwW.setB {w : World} {base b : Nat} {p : WP} {x : KW} (h : OwW w base p x) {cs : Array Value} {t : TypeId} (hb : Blk w b cs t) (h1 : 113 ≠ t) (h2 : 118 ≠ t) (h3 : 64 ≠ t) (h4 : 88 ≠ t) (h5 : 49 ≠ t) (o : Nat) (v : Value) : OwW (w.setCell ⟨b, o, none⟩ v) base p x :=
  ⟨h.u.setB hb h1 v, h.f.setB hb h2 v, h.a.setB hb h3 v, h.s.setB hb h4 v, h.o.setB hb h5 v⟩
theorem OwW.of_block {w w' : World} {base g : Nat} {p : WP} {x : KW} (h : OwW w base p x) {cs : Array Value} {t : TypeId} (hb : Blk w g cs t) (h1 : 113 ≠ t) (h2 : 118 ≠ t) (h3 : 64 ≠ t) (h4 : 88 ≠ t) (h5 : 49 ≠ t) (he : ∀ q, q ≠ g → w'.heap[q]? = w.heap[q]?) : OwW w' base p x :=
  ⟨h.u.of_block (fun q hq => he q (fun e => h.u.ne hb h1 (by rw [hq, e]))), h.f.of_block (fun q hq => he q (fun e => h.f.ne hb h2 (by rw [hq, e]))), h.a.of_block (fun q hq => he q (fun e => h.a.ne hb h3 (by rw [hq, e]))), h.s.of_block (fun q hq => he q (fun e => h.s.ne hb h4 (by rw [hq, e]))), h.o.of_block (fun q hq => he q (fun e => h.o.ne hb h5 (by rw [hq, e])))⟩
/- the answer's block is filled -/
theorem set8_blk {W : World} {g : Nat} {c0 c1 c2 c3 c4 c5 c6 c7 : Value} {t : TypeId} (h : Blk W g #[c0, c1, c2, c3, c4, c5, c6, c7] t) (v0 v1 v2 v3 v4 v5 v6 v7 : Value) : Blk (set8 W g v0 v1 v2 v3 v4 v5 v6 v7) g #[v0, v1, v2, v3, v4, v5, v6, v7] t := by
  have q0 : Blk _ g #[v0, c1, c2, c3, c4, c5, c6, c7] t := h.set 0 v0
  have q1 : Blk _ g #[v0, v1, c2, c3, c4, c5, c6, c7] t := q0.set 1 v1
  have q2 : Blk _ g #[v0, v1, v2, c3, c4, c5, c6, c7] t := q1.set 2 v2
  have q3 : Blk _ g #[v0, v1, v2, v3, c4, c5, c6, c7] t := q2.set 3 v3
  have q4 : Blk _ g #[v0, v1, v2, v3, v4, c5, c6, c7] t := q3.set 4 v4
  have q5 : Blk _ g #[v0, v1, v2, v3, v4, v5, c6, c7] t := q4.set 5 v5
  have q6 : Blk _ g #[v0, v1, v2, v3, v4, v5, v6, c7] t := q5.set 6 v6
  have q7 : Blk _ g #[v0, v1, v2, v3, v4, v5, v6, v7] t := q6.set 7 v7
  exact q7
theorem set8_other {W : World} {g : Nat} (v0 v1 v2 v3 v4 v5 v6 v7 : Value) (q : Nat) (hq : q ≠ g) : (set8 W g v0 v1 v2 v3 v4 v5 v6 v7).heap[q]? = W.heap[q]? :=
  (Below.heap_setCell _ _ _ _ hq).trans ((Below.heap_setCell _ _ _ _ hq).trans ((Below.heap_setCell _ _ _ _ hq).trans ((Below.heap_setCell _ _ _ _ hq).trans ((Below.heap_setCell _ _ _ _ hq).trans ((Below.heap_setCell _ _ _ _ hq).trans ((Below.heap_setCell _ _ _ _ hq).trans (Below.heap_setCell _ _ _ _ hq)))))))
theorem set8_below {n : Nat} {w W : World} {g : Nat} (h : Below n w W) (hg : n ≤ g) (v0 v1 v2 v3 v4 v5 v6 v7 : Value) : Below n w (set8 W g v0 v1 v2 v3 v4 v5 v6 v7) :=
  bel_set (bel_set (bel_set (bel_set (bel_set (bel_set (bel_set (bel_set h g 0 hg v0) g 1 hg v1) g 2 hg v2) g 3 hg v3) g 4 hg v4) g 5 hg v5) g 6 hg v6) g 7 hg v7
theorem result8 {w : World} {p : Nat} {c : Int} {q : WP} {x : KW} {fn : Func} {k : Nat} (hf : fn.results = #[.cell k 36]) (h : Blk w p (r8 c q x) 36) (T : Array Value) (hT : T[k]?.getD undef = .pointer (some ⟨p, 0, none⟩)) :
    (results fn T).run Tryz.prog w = .ok (.agg (r8 c q x)) w := by
  have c0 := h.cell (i := 0) rfl
  have c1 := h.cell (i := 1) rfl
  have c2 := h.cell (i := 2) rfl
  have c3 := h.cell (i := 3) rfl
  have c4 := h.cell (i := 4) rfl
  have c5 := h.cell (i := 5) rfl
  have c6 := h.cell (i := 6) rfl
  have c7 := h.cell (i := 7) rfl
  simp [results, hf, go_sem, hT, c0, c1, c2, c3, c4, c5, c6, c7]
/- what a walk wants of an answer's block that is still as it was made -/
structure Z8 (w : World) (g : Nat) : Prop where
  c0 : w.cell? ⟨g, 0, none⟩ = some (.int .i64 0)
  c1 : w.cell? ⟨g, 1, none⟩ = some (.int .i64 0)
  c2 : w.cell? ⟨g, 2, none⟩ = some (.int .i64 0)
  c3 : w.cell? ⟨g, 3, none⟩ = some (.slice none 0 0)
  c4 : w.cell? ⟨g, 4, none⟩ = some (.slice none 0 0)
  c5 : w.cell? ⟨g, 5, none⟩ = some (.slice none 0 0)
  c6 : w.cell? ⟨g, 6, none⟩ = some (.slice none 0 0)
  c7 : w.cell? ⟨g, 7, none⟩ = some (.slice none 0 0)
  f0 : w.frozen? ⟨g, 0, none⟩ = false
  f1 : w.frozen? ⟨g, 1, none⟩ = false
  f2 : w.frozen? ⟨g, 2, none⟩ = false
  f3 : w.frozen? ⟨g, 3, none⟩ = false
  f4 : w.frozen? ⟨g, 4, none⟩ = false
  f5 : w.frozen? ⟨g, 5, none⟩ = false
  f6 : w.frozen? ⟨g, 6, none⟩ = false
  f7 : w.frozen? ⟨g, 7, none⟩ = false
  lt : g < w.heap.size
abbrev z8 : Array Value := #[.int .i64 0, .int .i64 0, .int .i64 0, .slice none 0 0, .slice none 0 0, .slice none 0 0, .slice none 0 0, .slice none 0 0]
theorem Blk.z8 {w : World} {g : Nat} (h : Blk w g z8 36) : Z8 w g :=
  ⟨h.cell rfl, h.cell rfl, h.cell rfl, h.cell rfl, h.cell rfl, h.cell rfl, h.cell rfl, h.cell rfl, h.frozen _, h.frozen _, h.frozen _, h.frozen _, h.frozen _, h.frozen _, h.frozen _, h.frozen _, h.lt⟩
/- a list of factions of a call's own whose block is told -/
theorem SlA.of_blk {w : World} {g : Nat} {l : List KA} {base : Nat} (h : Blk w g (flatA l).toArray 64) (hb : base ≤ g) (hl : l.length ≤ 100) : SlA w base (.slice (some ⟨g, 0, none⟩) l.length l.length) l :=
  ⟨flatA_len l, .inr ⟨g, l.length, (flatA l).toArray, rfl, hb, h, Nat.le_refl _, by unfold maxLen; omega, by simp [flatA_len], by rw [List.take_of_length_le (by simp [flatA_len])]⟩⟩
/- a store into a cell of such a list -/
theorem take_set {l : List Value} {n i : Nat} {v : Value} (h : i < n) : (l.set i v).take n = (l.take n).set i v := by
  apply List.ext_getElem?
  intro j
  rw [List.getElem?_take, List.getElem?_set, List.getElem?_set, List.getElem?_take]
  by_cases hj : j < n
  · rw [if_pos hj, if_pos hj]
    by_cases e : i = j
    · subst e
      rw [if_pos rfl, if_pos rfl, List.length_take]
      by_cases hl : i < l.length
      · rw [if_pos hl, if_pos (by omega)]
      · rw [if_neg hl, if_neg (by omega)]
    · rw [if_neg e, if_neg e]
  · rw [if_neg hj, if_neg (by omega), if_neg hj]
theorem SlA.setCell {w : World} {base g n c : Nat} {l l' : List KA} (h : SlA w base (.slice (some ⟨g, 0, none⟩) n c) l) (i : Nat) (v : Value) (hi : i < l.length * 3) (hc : (flatA l).set i v = flatA l') : SlA (w.setCell ⟨g, i, none⟩ v) base (.slice (some ⟨g, 0, none⟩) n c) l' := by
  have hl : l'.length = l.length := by
    have h1 := congrArg List.length hc
    rw [List.length_set, flatA_len, flatA_len] at h1
    omega
  obtain ⟨h1, h2 | ⟨g', cap, cur, hv, hb, hg, h4, h5, h6, h7⟩⟩ := h
  · cases h2.1
  · injection hv with e1 e2 e3
    have eg : g = g' := by have := Option.some.inj e1; injection this
    subst eg e2 e3
    refine ⟨flatA_len l', .inr ⟨g, c, cur.setIfInBounds i v, by rw [hl], hb, ?_, by rw [hl]; exact h4, h5, by simpa using h6, ?_⟩⟩
    · simp [World.setCell, Array.getElem?_modify, hg]
    · rw [hl, ← hc, ← h7]
      rw [show (cur.setIfInBounds i v).toList = cur.toList.set i v from by simp]
      exact take_set hi
theorem SlA.blk0 {w : World} {base : Nat} {p : Option Addr} {n c : Nat} {l : List KA} (h : SlA w base (.slice p n c) l) (hl : 0 < l.length) : ∃ g, p = some ⟨g, 0, none⟩ ∧ base ≤ g ∧ g < w.heap.size ∧ AAt w g 0 l ∧ n = l.length ∧ ∀ i, w.frozen? ⟨g, i, none⟩ = false := by
  obtain ⟨h1, h2 | ⟨g, cap, cur, hv, hb, hg, h4, h5, h6, h7⟩⟩ := h
  · omega
  · injection hv with e1 e2 e3
    refine ⟨g, e1, hb, (Array.getElem?_eq_some_iff.1 hg).1, ?_, e2, fun i => by simp [World.frozen?, hg]⟩
    intro i x hi f hf
    have e := flatA_get l i x f hi hf
    have hil : i < l.length := (List.getElem?_eq_some_iff.1 hi).1
    rw [← h7, List.getElem?_take, if_pos (by omega)] at e
    simp [World.cell?, hg]
    simpa using e
end Go.Proofs.YtmfdggaijbcijaaGreat
end
