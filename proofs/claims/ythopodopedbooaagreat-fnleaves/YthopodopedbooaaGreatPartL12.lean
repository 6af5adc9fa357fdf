/- Texts of mine put together (a claim holds at most 60 files): GfPlain. -/
import Derived.Test.YthopodopedbooaaGreatPartL11
import Derived.Test.YthopodopedbooaaGreatPartL08

/- GfPlain -/
/- Plain facts of worlds and of what is given away: a world without a fault, part by part; a tribute and one that comes back. No condition. -/
section
namespace Go.Proofs.YthopodopedbooaaGreat
open Bd
set_option linter.unusedVariables false

/- what a world without a fault is, part by part -/
structure GdW (h : Int → Int → Bool) (x : KW) : Prop where
  t : inb x.t 0 9999 = true
  s : inb x.s 0 100000000 = true
  b : bf x.us x.fs = 0
  a4 : x.fa.length = 4
  s6 : x.se.length ≤ 6
  o6 : x.oo.length ≤ 6
  a : faF h x.fa 0 x.fa = 0
  se : seF x.fa none x.se = 0
  oo : ofF h x.fa [] x.oo = 0
  ow : owF x.fa x.us = 0
theorem or4_zero {a b c d : Int} : or4 a b c d = 0 ↔ a = 0 ∧ b = 0 ∧ c = 0 ∧ d = 0 := by
  unfold or4
  constructor
  · intro h
    by_cases ha : a = 0
    · subst ha
      by_cases hb : b = 0
      · subst hb
        by_cases hc : c = 0
        · subst hc; simp at h; exact ⟨rfl, rfl, rfl, h⟩
        · simp [hc] at h
      · simp [hb] at h
    · simp [ha] at h
  · rintro ⟨rfl, rfl, rfl, rfl⟩; simp
theorem gdW_iff (h : Int → Int → Bool) (x : KW) : wf h x = 0 ↔ GdW h x := by
  constructor
  · intro e
    rcases wf_cases h x with ⟨_, e'⟩ | ⟨_, _, e'⟩ | ⟨_, _, _, e'⟩ | ⟨_, _, _, e3, e'⟩ | ⟨_, _, _, _, _, e'⟩ | ⟨_, _, _, _, _, _, e'⟩ | ⟨_, _, _, _, _, _, _, e'⟩ | ⟨t0, t1, s1, b1, a4, s6, o6, e'⟩
    · rw [e'] at e; cases e
    · rw [e'] at e; cases e
    · rw [e'] at e; cases e
    · rw [e'] at e; rw [e] at e3; cases e3
    · rw [e'] at e; cases e
    · rw [e'] at e; cases e
    · rw [e'] at e; cases e
    · rw [e'] at e
      obtain ⟨h1, h2, h3, h4⟩ := or4_zero.1 e
      exact ⟨inb_t t0 t1, s1, b1, a4, s6, o6, h1, h2, h3, h4⟩
  · rintro ⟨t, s, b, a4, s6, o6, a, se, oo, ow⟩
    unfold wf
    rw [t, s, b, if_neg (by simp), if_neg (by simp), if_neg (by omega)]
    exact or4_zero.2 ⟨a, se, oo, ow⟩
theorem alB_iff {h : Int → Int → Bool} {m i : Int} : ∀ {l : List KA} {k : Int}, alB h m i k l = true ↔ ∀ (j : Nat) (g : KA), l[j]? = some g → h m (k + j) = true → k + j ≠ i ∧ h g.c2 i = true
  | [], k => by simp [alB]
  | a :: l, k => by
    unfold alB
    rw [Bool.and_eq_true, alB_iff (l := l) (k := k + 1)]
    constructor
    · rintro ⟨h1, h2⟩ j g hg hm
      cases j with
      | zero =>
        have e : a = g := by simpa using hg
        subst e
        rw [show k + ((0 : Nat) : Int) = k from by omega] at hm ⊢
        rw [hm] at h1
        simpa using h1
      | succ j =>
        have := h2 j g (by simpa using hg) (by rw [show k + 1 + (j : Int) = k + ((j + 1 : Nat) : Int) from by omega]; exact hm)
        rw [show k + 1 + (j : Int) = k + ((j + 1 : Nat) : Int) from by omega] at this
        exact this
    · intro H
      refine ⟨?_, fun j g hg hm => ?_⟩
      · have := H 0 a rfl
        rw [show k + ((0 : Nat) : Int) = k from by omega] at this
        cases hk : h m k
        · rfl
        · obtain ⟨h1, h2⟩ := this hk
          simp [h1, h2]
      · have := H (j + 1) g (by simpa using hg) (by rw [show k + ((j + 1 : Nat) : Int) = k + 1 + (j : Int) from by omega]; exact hm)
        rw [show k + ((j + 1 : Nat) : Int) = k + 1 + (j : Int) from by omega] at this
        exact this
theorem faC_iff {h : Int → Int → Bool} {fa : List KA} {i : Int} {f : KA} : faC h fa i f = 0 ↔ inb f.c0 0 1000000 = true ∧ inb f.c2 0 15 = true ∧ (f.c1 = true → f.c2 = 0) ∧ alB h f.c2 i 0 fa = true := by
  unfold faC faR faG
  cases e0 : inb f.c0 0 1000000 <;> cases e2 : inb f.c2 0 15 <;> cases ea : alB h f.c2 i 0 fa <;> cases e1 : f.c1 <;> simp
  all_goals by_cases e3 : f.c2 = 0 <;> simp [e3]
theorem faF_iff {h : Int → Int → Bool} {fa : List KA} : ∀ {l : List KA} {i : Int}, faF h fa i l = 0 ↔ ∀ (j : Nat) (f : KA), l[j]? = some f → faC h fa (i + j) f = 0
  | [], i => by simp [faF]
  | a :: l, i => by
    unfold faF
    have ih := faF_iff (h := h) (fa := fa) (l := l) (i := i + 1)
    constructor
    · intro e j f hf
      have ha : faC h fa i a = 0 := by
        cases ec : faC h fa i a == 0
        · rw [ec] at e; simpa using e
        · simpa using ec
      rw [ha] at e
      have hl := ih.1 (by simpa using e)
      cases j with
      | zero =>
        have e : a = f := by simpa using hf
        subst e
        rw [show i + ((0 : Nat) : Int) = i from by omega]; exact ha
      | succ j =>
        have := hl j f (by simpa using hf)
        rw [show i + ((j + 1 : Nat) : Int) = i + 1 + (j : Int) from by omega]; exact this
    · intro H
      have ha := H 0 a rfl
      rw [show i + ((0 : Nat) : Int) = i from by omega] at ha
      rw [ha, if_neg (by simp)]
      exact ih.2 (fun j f hf => by
        have := H (j + 1) f (by simpa using hf)
        rw [show i + ((j + 1 : Nat) : Int) = i + 1 + (j : Int) from by omega] at this; exact this)
/- seats rise -/
def rsF : Option Int → List K4 → Bool
  | _, [] => true
  | p, s :: l => !(leP p s.c0) && rsF (some s.c0) l
theorem seF_iff {fa : List KA} : ∀ {l : List K4} {p : Option Int}, seF fa p l = 0 ↔ rsF p l = true ∧ ∀ s ∈ l, seR s = true ∧ goneA fa s.c1 = false
  | [], p => by simp [seF, rsF]
  | s :: l, p => by
    have ih := seF_iff (fa := fa) (l := l) (p := some s.c0)
    unfold seF rsF
    cases e1 : seR s
    · simp [e1]
    cases e2 : leP p s.c0
    · cases e3 : goneA fa s.c1
      · simp [ih, e1, e3]
      · simp [e3]
    · simp
/- no offer twice -/
def ndF : List K2 → List K2 → Bool
  | _, [] => true
  | q, x :: l => !(memO q x) && ndF (q ++ [x]) l
theorem ofF_iff {h : Int → Int → Bool} {fa : List KA} : ∀ {l q : List K2}, ofF h fa q l = 0 ↔ ndF q l = true ∧ ∀ x ∈ l, ofR x = true ∧ x.c0 ≠ x.c1 ∧ h (allyA fa x.c0) x.c1 = false ∧ goneA fa x.c0 = false ∧ goneA fa x.c1 = false
  | [], q => by simp [ofF, ndF]
  | x :: l, q => by
    have ih := ofF_iff (h := h) (fa := fa) (l := l) (q := q ++ [x])
    unfold ofF ndF ofB
    cases e1 : ofR x
    · simp [e1]
    by_cases e2 : x.c0 = x.c1
    · simp [e2]
    have e2' : (x.c0 == x.c1) = false := by simpa using e2
    cases e3 : h (allyA fa x.c0) x.c1
    · cases e4 : goneA fa x.c0
      · cases e5 : goneA fa x.c1
        · cases e6 : memO q x
          · simp [ih, e1, e2, e3, e4, e5]
          · simp
        · simp [e5]
      · simp [e4]
    · simp [e3]
theorem owF_iff {fa : List KA} : ∀ {l : List K10}, owF fa l = 0 ↔ ∀ u ∈ l, u.c1 ≠ 9 → goneA fa u.c1 = false
  | [] => by simp [owF]
  | u :: l => by
    have ih := owF_iff (fa := fa) (l := l)
    unfold owF
    by_cases e1 : u.c1 = 9
    · simp [e1, ih]
    · cases e2 : goneA fa u.c1
      · simp [e2, ih]
      · simp [e1, e2]
/- factions with the same Gone and Allies -/
def eqGA (fa fa' : List KA) : Prop := fa.length = fa'.length ∧ ∀ (j : Nat) (f f' : KA), fa[j]? = some f → fa'[j]? = some f' → f.c1 = f'.c1 ∧ f.c2 = f'.c2
theorem getD_z {fa : List KA} {i : Nat} : fa.getD i KA.z = match fa[i]? with | some f => f | none => KA.z := by
  rw [List.getD_eq_getElem?_getD]; cases fa[i]? <;> rfl
theorem eqGA.at {fa fa' : List KA} (e : eqGA fa fa') (i : Nat) : (fa.getD i KA.z).c1 = (fa'.getD i KA.z).c1 ∧ (fa.getD i KA.z).c2 = (fa'.getD i KA.z).c2 := by
  rw [getD_z, getD_z]
  by_cases hi : i < fa.length
  · have h1 : fa[i]? = some fa[i] := List.getElem?_eq_getElem hi
    have h2 : fa'[i]? = some (fa'[i]'(by rw [← e.1]; exact hi)) := List.getElem?_eq_getElem _
    rw [h1, h2]
    exact e.2 i _ _ h1 h2
  · rw [List.getElem?_eq_none (by omega), List.getElem?_eq_none (by rw [← e.1]; omega)]
    exact ⟨rfl, rfl⟩
theorem eqGA.gone {fa fa' : List KA} (e : eqGA fa fa') (i : Int) : goneA fa i = goneA fa' i := (e.at i.toNat).1
theorem eqGA.ally {fa fa' : List KA} (e : eqGA fa fa') (i : Int) : allyA fa i = allyA fa' i := (e.at i.toNat).2
theorem gd_purses {h : Int → Int → Bool} {x : KW} {fa' : List KA} (g : GdW h x) (e : eqGA x.fa fa') (hp : ∀ f ∈ fa', inb f.c0 0 1000000 = true) : GdW h ⟨x.t, x.s, x.us, x.fs, fa', x.se, x.oo⟩ := by
  refine ⟨g.t, g.s, g.b, by show fa'.length = 4; rw [← e.1]; exact g.a4, g.s6, g.o6, ?_, ?_, ?_, ?_⟩
  · refine faF_iff.2 (fun j f' hf' => ?_)
    have hf' : fa'[j]? = some f' := hf'
    have hj : j < x.fa.length := by rw [e.1]; exact (List.getElem?_eq_some_iff.1 hf').1
    have hf : x.fa[j]? = some x.fa[j] := List.getElem?_eq_getElem hj
    obtain ⟨e1, e2⟩ := e.2 j _ _ hf hf'
    obtain ⟨_, h2, h3, h4⟩ := faC_iff.1 (faF_iff.1 g.a j _ hf)
    refine faC_iff.2 ⟨hp f' (List.mem_of_getElem? hf'), by rw [← e2]; exact h2, by rw [← e1, ← e2]; exact h3, ?_⟩
    rw [← e2]
    refine alB_iff.2 (fun k q hq hm => ?_)
    have hk : k < x.fa.length := by rw [e.1]; exact (List.getElem?_eq_some_iff.1 hq).1
    have hf2 : x.fa[k]? = some x.fa[k] := List.getElem?_eq_getElem hk
    obtain ⟨d1, d2⟩ := e.2 k _ _ hf2 hq
    obtain ⟨h5, h6⟩ := alB_iff.1 h4 k _ hf2 hm
    exact ⟨h5, by rw [← d2]; exact h6⟩
  · obtain ⟨h1, h2⟩ := seF_iff.1 g.se
    exact seF_iff.2 ⟨h1, fun s hs => by rw [← e.gone]; exact h2 s hs⟩
  · obtain ⟨h1, h2⟩ := ofF_iff.1 g.oo
    exact ofF_iff.2 ⟨h1, fun s hs => by rw [← e.gone, ← e.gone, ← e.ally]; exact h2 s hs⟩
  · exact owF_iff.2 (fun u hu h9 => by rw [← e.gone]; exact owF_iff.1 g.ow u hu h9)
/- two sides of a right world -/
def sdF (fa : List KA) (a b : Int) : Int := if (inb a 0 3 && inb b 0 3) = false then 3 else if (a == b) = true then 1 else if (goneA fa a || goneA fa b) = true then 8 else 0
def prF (h : Int → Int → Bool) (x : KW) (a b : Int) : Int := if (wf h x == 0) = false then wf h x else sdF x.fa a b
def purA (fa : List KA) (i : Int) : Int := (fa.getD i.toNat KA.z).c0
def setP (fa : List KA) (i v : Int) : List KA := fa.set i.toNat ⟨v, (fa.getD i.toNat KA.z).c1, (fa.getD i.toNat KA.z).c2⟩
/- a tribute -/
def payC (h : Int → Int → Bool) (x : KW) (a b n : Int) : Int := if (prF h x a b == 0) = false then prF h x a b else if inb n 1 1000000 = false then 3 else if purA x.fa a < n then 10 else if 1000000 < purA x.fa b + n then 7 else 0
def payA (fa : List KA) (a b n : Int) : List KA := setP (setP fa a (purA fa a - n)) b (purA fa b + n)
def kz : KW := ⟨0, 0, [], [], [], [], []⟩
def payX (h : Int → Int → Bool) (x : KW) (a b n : Int) : KW := if (payC h x a b n == 0) = true then ⟨x.t, x.s, x.us, x.fs, payA x.fa a b n, x.se, x.oo⟩ else kz
def purS : List KA → Int
  | [] => 0
  | f :: l => f.c0 + purS l
theorem sdF_zero {fa : List KA} {a b : Int} : sdF fa a b = 0 ↔ inb a 0 3 = true ∧ inb b 0 3 = true ∧ a ≠ b ∧ goneA fa a = false ∧ goneA fa b = false := by
  unfold sdF
  cases inb a 0 3 <;> cases inb b 0 3 <;> cases goneA fa a <;> cases goneA fa b <;> simp
  all_goals by_cases e : a = b <;> simp [e]
theorem prF_zero {h : Int → Int → Bool} {x : KW} {a b : Int} : prF h x a b = 0 ↔ wf h x = 0 ∧ sdF x.fa a b = 0 := by
  unfold prF
  by_cases e : wf h x = 0
  · simp [e]
  · simp [e]
theorem payC_zero {h : Int → Int → Bool} {x : KW} {a b n : Int} : payC h x a b n = 0 ↔ prF h x a b = 0 ∧ 1 ≤ n ∧ n ≤ 1000000 ∧ n ≤ purA x.fa a ∧ purA x.fa b + n ≤ 1000000 := by
  unfold payC
  by_cases e : prF h x a b = 0
  · cases e1 : inb n 1 1000000
    · have := inb_n e1; simp [e]; omega
    · have := inb_i e1
      simp [e]
      by_cases e2 : purA x.fa a < n
      · rw [if_pos e2]; simp; omega
      · rw [if_neg e2]
        by_cases e3 : 1000000 < purA x.fa b + n
        · rw [if_pos e3]; simp; omega
        · rw [if_neg e3]; simp; omega
  · simp [e]
theorem setP_len (fa : List KA) (i v : Int) : (setP fa i v).length = fa.length := by unfold setP; simp
theorem eqGA.refl (fa : List KA) : eqGA fa fa := ⟨rfl, fun j f f' h h' => by rw [h] at h'; cases h'; exact ⟨rfl, rfl⟩⟩
theorem eqGA.symm {fa fa' : List KA} (e : eqGA fa fa') : eqGA fa' fa := ⟨e.1.symm, fun j f f' h h' => ⟨(e.2 j f' f h' h).1.symm, (e.2 j f' f h' h).2.symm⟩⟩
theorem eqGA.setP {fa fa' : List KA} (e : eqGA fa fa') (i v : Int) : eqGA fa (setP fa' i v) := by
  refine ⟨by rw [setP_len]; exact e.1, fun j f f' h h' => ?_⟩
  unfold Go.Proofs.YthopodopedbooaaGreat.setP at h'
  rw [List.getElem?_set] at h'
  by_cases hj : i.toNat = j
  · subst hj
    rw [if_pos rfl] at h'
    by_cases hl : i.toNat < fa'.length
    · rw [if_pos hl] at h'
      have h2 : fa'[i.toNat]? = some fa'[i.toNat] := List.getElem?_eq_getElem hl
      have := e.2 _ _ _ h h2
      cases h'
      rw [getD_z, h2]
      exact this
    · rw [if_neg hl] at h'; cases h'
  · rw [if_neg hj] at h'
    exact e.2 j f f' h h'
theorem purA_set {fa : List KA} {i j v : Int} (hi : 0 ≤ i) (hj : 0 ≤ j) (hl : i < fa.length) : purA (setP fa i v) j = if j = i then v else purA fa j := by
  unfold purA setP
  rw [getD_z, getD_z, List.getElem?_set]
  by_cases e : j = i
  · subst e
    rw [if_pos rfl, if_pos (by omega), if_pos rfl]
  · rw [if_neg (by omega), if_neg e, getD_z]
theorem purS_set : ∀ (fa : List KA) (i : Nat) (v : Int) (b : Bool) (c : Int), i < fa.length → purS (fa.set i ⟨v, b, c⟩) = purS fa - (fa.getD i KA.z).c0 + v
  | [], i, v, b, c, h => by simp at h
  | f :: l, 0, v, b, c, h => by simp [purS]; omega
  | f :: l, i + 1, v, b, c, h => by
    have := purS_set l i v b c (by simpa using h)
    simp [purS] at this ⊢
    omega
theorem purS_setP {fa : List KA} {i v : Int} (hi : 0 ≤ i) (hl : i < fa.length) : purS (setP fa i v) = purS fa - purA fa i + v := purS_set fa i.toNat v _ _ (by omega)
theorem mem_setP {fa : List KA} {i v : Int} {f : KA} (hf : f ∈ setP fa i v) : f ∈ fa ∨ f.c0 = v := by
  unfold setP at hf
  rcases List.mem_or_eq_of_mem_set hf with h | rfl
  · exact .inl h
  · exact .inr rfl
theorem purse_in {h : Int → Int → Bool} {x : KW} (g : GdW h x) : ∀ f ∈ x.fa, inb f.c0 0 1000000 = true := by
  intro f hf
  obtain ⟨j, hj, rfl⟩ := List.getElem_of_mem hf
  exact (faC_iff.1 (faF_iff.1 g.a j _ (List.getElem?_eq_getElem hj))).1
theorem purA_in {h : Int → Int → Bool} {x : KW} (g : GdW h x) (i : Int) : 0 ≤ purA x.fa i ∧ purA x.fa i ≤ 1000000 := by
  unfold purA
  rw [getD_z]
  cases hh : x.fa[i.toNat]? with
  | none => exact ⟨by decide, by decide⟩
  | some f => exact inb_i (purse_in g f (List.mem_of_getElem? hh))
theorem set_back (fa : List KA) (i : Nat) (v w : KA) (h : fa[i]? = some w) : (fa.set i v).set i w = fa := by
  rw [List.set_set]
  obtain ⟨hl, rfl⟩ := List.getElem?_eq_some_iff.1 h
  exact List.set_getElem_self hl
theorem setP_setP {fa : List KA} {i v w : Int} : setP (setP fa i v) i w = setP fa i w := by
  unfold setP
  rw [List.set_set]
  by_cases hl : i.toNat < fa.length
  · congr 1
    rw [getD_z (fa := fa.set _ _), List.getElem?_set, if_pos rfl, if_pos hl]
  · rw [List.set_eq_of_length_le (by omega), List.set_eq_of_length_le (by omega)]
theorem setP_comm {fa : List KA} {i j v w : Int} (hi : 0 ≤ i) (hj : 0 ≤ j) (hne : i ≠ j) : setP (setP fa i v) j w = setP (setP fa j w) i v := by
  unfold setP
  rw [getD_z (fa := fa.set _ _), getD_z (fa := fa.set _ _), List.getElem?_set, List.getElem?_set, if_neg (by omega), if_neg (by omega), ← getD_z, ← getD_z, List.set_comm _ _ (by omega)]
theorem setP_self {fa : List KA} {i : Int} : setP fa i (purA fa i) = fa := by
  unfold setP purA
  by_cases hl : i.toNat < fa.length
  · have h2 : fa[i.toNat]? = some fa[i.toNat] := List.getElem?_eq_getElem hl
    rw [getD_z, h2]
    exact List.set_getElem_self hl
  · rw [List.set_eq_of_length_le (by omega)]
/- the law of tributes, in plain words -/
structure PayG (h : Int → Int → Bool) (x : KW) (a b n : Int) : Prop where
  wf0 : wf h (payX h x a b n) = 0
  sum : purS (payX h x a b n).fa = purS x.fa
  back : payC h (payX h x a b n) b a n = 0
  same : payX h (payX h x a b n) b a n = x
theorem pay_good {h : Int → Int → Bool} {x : KW} {a b n : Int} (e : payC h x a b n = 0) : PayG h x a b n := by
  obtain ⟨e1, n1, n2, pa, pb⟩ := payC_zero.1 e
  obtain ⟨w0, s0⟩ := prF_zero.1 e1
  obtain ⟨ia, ib, hab, ga, gb⟩ := sdF_zero.1 s0
  have g := (gdW_iff h x).1 w0
  obtain ⟨a0, a3⟩ := inb_i ia
  obtain ⟨b0, b3⟩ := inb_i ib
  have la : a < (x.fa.length : Int) := by rw [g.a4]; omega
  have lb : b < ((setP x.fa a (purA x.fa a - n)).length : Int) := by rw [setP_len, g.a4]; omega
  have lb' : b < (x.fa.length : Int) := by rw [g.a4]; omega
  have ra := purA_in g a
  have rb := purA_in g b
  have ex : payX h x a b n = ⟨x.t, x.s, x.us, x.fs, payA x.fa a b n, x.se, x.oo⟩ := by unfold payX; rw [e]; rfl
  have eg : eqGA x.fa (payA x.fa a b n) := ((eqGA.refl _).setP a _).setP b _
  have hin : ∀ f ∈ payA x.fa a b n, inb f.c0 0 1000000 = true := by
    intro f hf
    rcases mem_setP hf with h1 | h1
    · rcases mem_setP h1 with h2 | h2
      · exact purse_in g f h2
      · rw [h2]; exact inb_t (by omega) (by omega)
    · rw [h1]; exact inb_t (by omega) (by omega)
  have g2 := gd_purses g eg hin
  have w2 : wf h (payX h x a b n) = 0 := by rw [ex]; exact (gdW_iff h _).2 g2
  have pA : purA (payA x.fa a b n) a = purA x.fa a - n := by
    unfold payA
    rw [purA_set b0 a0 lb, if_neg hab, purA_set a0 a0 la, if_pos rfl]
  have pB : purA (payA x.fa a b n) b = purA x.fa b + n := by
    unfold payA
    rw [purA_set b0 b0 lb, if_pos rfl]
  have back : payC h (payX h x a b n) b a n = 0 := by
    refine payC_zero.2 ⟨prF_zero.2 ⟨w2, ?_⟩, n1, n2, ?_, ?_⟩
    · rw [ex]
      exact sdF_zero.2 ⟨ib, ia, fun h => hab h.symm, by rw [← eg.gone]; exact gb, by rw [← eg.gone]; exact ga⟩
    · rw [ex]; show n ≤ purA (payA x.fa a b n) b; rw [pB]; omega
    · rw [ex]; show purA (payA x.fa a b n) a + n ≤ 1000000; rw [pA]; omega
  refine ⟨w2, ?_, back, ?_⟩
  · rw [ex]
    show purS (payA x.fa a b n) = _
    unfold payA
    rw [purS_setP b0 lb, purS_setP a0 la, purA_set a0 b0 la, if_neg (fun h => hab h.symm)]
    omega
  · have e2 : payX h (payX h x a b n) b a n = ⟨x.t, x.s, x.us, x.fs, payA (payA x.fa a b n) b a n, x.se, x.oo⟩ := by
      show (if (payC h (payX h x a b n) b a n == 0) = true then _ else _) = _
      rw [back, if_pos (show ((0 : Int) == 0) = true from rfl), ex]
    rw [e2]
    have : payA (payA x.fa a b n) b a n = x.fa := by
      show setP (setP (payA x.fa a b n) b (purA (payA x.fa a b n) b - n)) a (purA (payA x.fa a b n) a + n) = x.fa
      rw [pA, pB, show purA x.fa b + n - n = purA x.fa b from by omega, show purA x.fa a - n + n = purA x.fa a from by omega]
      unfold payA
      rw [setP_setP, setP_comm b0 a0 (fun h => hab h.symm), setP_setP, setP_self, setP_self]
    rw [this]
end Go.Proofs.YthopodopedbooaaGreat
end
