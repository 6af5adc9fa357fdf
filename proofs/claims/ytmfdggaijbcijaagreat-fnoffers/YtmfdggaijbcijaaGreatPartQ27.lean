/- Texts of mine put together (a claim holds at most 60 files): GfPact. -/
import Derived.Test.YtmfdggaijbcijaaGreatPartQ25

/- GfPact -/
/- Plain facts of pacts: bits of Allies, an offer, a pact accepted and broken again. No condition. -/
section
namespace Go.Proofs.YtmfdggaijbcijaaGreat
open Bd
set_option linter.unusedVariables false

theorem at_get {fa : List KA} (h4 : fa.length = 4) {i : Int} (h0 : 0 ≤ i) (h3 : i ≤ 3) : ∃ f, fa[i.toNat]? = some f ∧ purA fa i = f.c0 ∧ goneA fa i = f.c1 ∧ allyA fa i = f.c2 := by
  have hl : i.toNat < fa.length := by omega
  have h2 : fa[i.toNat]? = some fa[i.toNat] := List.getElem?_eq_getElem hl
  refine ⟨_, h2, ?_, ?_, ?_⟩
  · unfold purA; rw [getD_z, h2]
  · unfold goneA; rw [getD_z, h2]
  · unfold allyA; rw [getD_z, h2]
structure FacG (h : Int → Int → Bool) (fa : List KA) (i : Int) : Prop where
  p : inb (purA fa i) 0 1000000 = true
  m : inb (allyA fa i) 0 15 = true
  g : goneA fa i = true → allyA fa i = 0
  r : ∀ k, 0 ≤ k → k ≤ 3 → h (allyA fa i) k = true → k ≠ i ∧ h (allyA fa k) i = true
theorem facs_iff {h : Int → Int → Bool} {fa : List KA} (h4 : fa.length = 4) : faF h fa 0 fa = 0 ↔ ∀ i : Int, 0 ≤ i → i ≤ 3 → FacG h fa i := by
  constructor
  · intro e i h0 h3
    obtain ⟨f, hf, e0, e1, e2⟩ := at_get h4 h0 h3
    obtain ⟨c1, c2, c3, c4⟩ := faC_iff.1 (faF_iff.1 e i.toNat f hf)
    refine ⟨by rw [e0]; exact c1, by rw [e2]; exact c2, by rw [e1, e2]; exact c3, fun k k0 k3 hk => ?_⟩
    obtain ⟨g, hg, _, _, g2⟩ := at_get h4 k0 k3
    have := alB_iff.1 c4 k.toNat g hg (by rw [show (0 : Int) + (k.toNat : Int) = k from by omega, ← e2]; exact hk)
    rw [show (0 : Int) + (k.toNat : Int) = k from by omega, show (0 : Int) + (i.toNat : Int) = i from by omega] at this
    rw [g2]; exact this
  · intro H
    refine faF_iff.2 (fun j f hf => ?_)
    have hj : j < fa.length := (List.getElem?_eq_some_iff.1 hf).1
    have hi := H (j : Int) (by omega) (by omega)
    obtain ⟨f', hf', e0, e1, e2⟩ := at_get (i := (j : Int)) h4 (by omega) (by omega)
    rw [Int.toNat_natCast, hf] at hf'
    cases hf'
    rw [show (0 : Int) + (j : Int) = j from by omega]
    obtain ⟨p, m, g, r⟩ := hi
    rw [e0] at p; rw [e2] at m r; rw [e1, e2] at g
    refine faC_iff.2 ⟨p, m, g, alB_iff.2 (fun k q hq hk => ?_)⟩
    have hk' : k < fa.length := (List.getElem?_eq_some_iff.1 hq).1
    rw [show (0 : Int) + (k : Int) = k from by omega] at hk ⊢
    obtain ⟨q', hq', _, _, g2⟩ := at_get (i := (k : Int)) h4 (by omega) (by omega)
    rw [Int.toNat_natCast, hq] at hq'
    cases hq'
    have := r k (by omega) (by omega) hk
    rw [g2] at this; exact this
/- bits of a number from 0 to 15 -/
def orB (m k : Int) : Int := if hasS m k = true then m else m + 2 ^ k.toNat
def clB (m k : Int) : Int := if hasS m k = true then m - 2 ^ k.toNat else m
theorem bit_fin : ∀ (m : Fin 16) (k j : Fin 4), hasS (orB (m.val : Int) (k.val : Int)) (j.val : Int) = (hasS (m.val : Int) (j.val : Int) || ((j.val : Int) == (k.val : Int))) ∧ inb (orB (m.val : Int) (k.val : Int)) 0 15 = true ∧ hasS (clB (m.val : Int) (k.val : Int)) (j.val : Int) = (hasS (m.val : Int) (j.val : Int) && !((j.val : Int) == (k.val : Int))) ∧ inb (clB (m.val : Int) (k.val : Int)) 0 15 = true := by decide +kernel
theorem bit_all {m k j : Int} (hm : inb m 0 15 = true) (k0 : 0 ≤ k) (k3 : k ≤ 3) (j0 : 0 ≤ j) (j3 : j ≤ 3) : hasS (orB m k) j = (hasS m j || (j == k)) ∧ inb (orB m k) 0 15 = true ∧ hasS (clB m k) j = (hasS m j && !(j == k)) ∧ inb (clB m k) 0 15 = true := by
  have := inb_i hm
  obtain ⟨m', rfl⟩ : ∃ n : Nat, m = n := ⟨m.toNat, by omega⟩
  obtain ⟨k', rfl⟩ : ∃ n : Nat, k = n := ⟨k.toNat, by omega⟩
  obtain ⟨j', rfl⟩ : ∃ n : Nat, j = n := ⟨j.toNat, by omega⟩
  exact bit_fin ⟨m', by omega⟩ ⟨k', by omega⟩ ⟨j', by omega⟩
theorem clB_fin : ∀ (m : Fin 16) (k : Fin 4), hasS (m.val : Int) (k.val : Int) = false → clB (orB (m.val : Int) (k.val : Int)) (k.val : Int) = (m.val : Int) := by decide +kernel
theorem clB_orB {m k : Int} (hm : inb m 0 15 = true) (k0 : 0 ≤ k) (k3 : k ≤ 3) (h : hasS m k = false) : clB (orB m k) k = m := by
  have := inb_i hm
  obtain ⟨m', rfl⟩ : ∃ n : Nat, m = n := ⟨m.toNat, by omega⟩
  obtain ⟨k', rfl⟩ : ∃ n : Nat, k = n := ⟨k.toNat, by omega⟩
  exact clB_fin ⟨m', by omega⟩ ⟨k', by omega⟩ h
/- another Allies -/
def setC (fa : List KA) (i v : Int) : List KA := fa.set i.toNat ⟨(fa.getD i.toNat KA.z).c0, (fa.getD i.toNat KA.z).c1, v⟩
theorem setC_len (fa : List KA) (i v : Int) : (setC fa i v).length = fa.length := by unfold setC; simp
theorem setC_get {fa : List KA} {i j v : Int} (hi : 0 ≤ i) (hj : 0 ≤ j) (hl : i < fa.length) : purA (setC fa i v) j = purA fa j ∧ goneA (setC fa i v) j = goneA fa j ∧ allyA (setC fa i v) j = if j = i then v else allyA fa j := by
  unfold purA goneA allyA setC
  rw [getD_z (fa := fa.set _ _), List.getElem?_set]
  by_cases e : j = i
  · subst e
    rw [if_pos rfl, if_pos (by omega), if_pos rfl]
    exact ⟨rfl, rfl, rfl⟩
  · rw [if_neg (by omega), if_neg e, ← getD_z]
    exact ⟨rfl, rfl, rfl⟩
theorem setC_setC {fa : List KA} {i v w : Int} : setC (setC fa i v) i w = setC fa i w := by
  unfold setC
  rw [List.set_set]
  by_cases hl : i.toNat < fa.length
  · congr 1
    rw [getD_z (fa := fa.set _ _), List.getElem?_set, if_pos rfl, if_pos hl]
  · rw [List.set_eq_of_length_le (by omega), List.set_eq_of_length_le (by omega)]
theorem setC_comm {fa : List KA} {i j v w : Int} (hi : 0 ≤ i) (hj : 0 ≤ j) (hne : i ≠ j) : setC (setC fa i v) j w = setC (setC fa j w) i v := by
  unfold setC
  rw [getD_z (fa := fa.set _ _), getD_z (fa := fa.set _ _), List.getElem?_set, List.getElem?_set, if_neg (by omega), if_neg (by omega), ← getD_z, ← getD_z, List.set_comm _ _ (by omega)]
theorem setC_self {fa : List KA} {i : Int} : setC fa i (allyA fa i) = fa := by
  unfold setC allyA
  by_cases hl : i.toNat < fa.length
  · have h2 : fa[i.toNat]? = some fa[i.toNat] := List.getElem?_eq_getElem hl
    rw [getD_z, h2]
    exact List.set_getElem_self hl
  · rw [List.set_eq_of_length_le (by omega)]
/- two sides' Allies, both turned by one function -/
def two (o : Int → Int → Int) (fa : List KA) (a b : Int) : List KA := setC (setC fa a (o (allyA fa a) b)) b (o (allyA fa b) a)
theorem two_get {o : Int → Int → Int} {fa : List KA} {a b j : Int} (h4 : fa.length = 4) (a0 : 0 ≤ a) (a3 : a ≤ 3) (b0 : 0 ≤ b) (b3 : b ≤ 3) (hab : a ≠ b) (j0 : 0 ≤ j) : purA (two o fa a b) j = purA fa j ∧ goneA (two o fa a b) j = goneA fa j ∧ allyA (two o fa a b) j = if j = b then o (allyA fa b) a else if j = a then o (allyA fa a) b else allyA fa j := by
  unfold two
  obtain ⟨p1, p2, p3⟩ := setC_get (fa := setC fa a (o (allyA fa a) b)) (v := o (allyA fa b) a) b0 j0 (by rw [setC_len]; omega)
  obtain ⟨q1, q2, q3⟩ := setC_get (fa := fa) (v := o (allyA fa a) b) a0 j0 (by omega)
  exact ⟨p1.trans q1, p2.trans q2, by rw [p3, q3]⟩
/- an offer, a pact accepted, a pact broken -/
def offC (h : Int → Int → Bool) (x : KW) (a b : Int) : Int := if (prF h x a b == 0) = false then prF h x a b else if (h (allyA x.fa a) b || memO x.oo ⟨a, b⟩) = true then 6 else if 6 ≤ x.oo.length then 7 else 0
def offX (h : Int → Int → Bool) (x : KW) (a b : Int) : KW := if (offC h x a b == 0) = true then ⟨x.t, x.s, x.us, x.fs, x.fa, x.se, x.oo ++ [⟨a, b⟩]⟩ else kz
def notP (a b : Int) (o : K2) : Bool := !(o.b ⟨a, b⟩ || o.b ⟨b, a⟩)
def accC (h : Int → Int → Bool) (x : KW) (a b : Int) : Int := if (prF h x a b == 0) = false then prF h x a b else if memO x.oo ⟨b, a⟩ = false then 4 else 0
def accX (h : Int → Int → Bool) (x : KW) (a b : Int) : KW := if (accC h x a b == 0) = true then ⟨x.t, x.s, x.us, x.fs, two orB x.fa a b, x.se, x.oo.filter (notP a b)⟩ else kz
def brkC (h : Int → Int → Bool) (x : KW) (a b : Int) : Int := if (prF h x a b == 0) = false then prF h x a b else if h (allyA x.fa a) b = false then 4 else 0
def brkX (h : Int → Int → Bool) (x : KW) (a b : Int) : KW := if (brkC h x a b == 0) = true then ⟨x.t, x.s, x.us, x.fs, two clB x.fa a b, x.se, x.oo⟩ else kz
theorem offC_zero {h : Int → Int → Bool} {x : KW} {a b : Int} : offC h x a b = 0 ↔ prF h x a b = 0 ∧ h (allyA x.fa a) b = false ∧ memO x.oo ⟨a, b⟩ = false ∧ x.oo.length < 6 := by
  unfold offC
  by_cases e : prF h x a b = 0
  · cases e1 : h (allyA x.fa a) b <;> cases e2 : memO x.oo ⟨a, b⟩ <;> simp [e]
    try omega
  · simp [e]
theorem accC_zero {h : Int → Int → Bool} {x : KW} {a b : Int} : accC h x a b = 0 ↔ prF h x a b = 0 ∧ memO x.oo ⟨b, a⟩ = true := by
  unfold accC
  by_cases e : prF h x a b = 0
  · cases e2 : memO x.oo ⟨b, a⟩ <;> simp [e]
  · simp [e]
theorem brkC_zero {h : Int → Int → Bool} {x : KW} {a b : Int} : brkC h x a b = 0 ↔ prF h x a b = 0 ∧ h (allyA x.fa a) b = true := by
  unfold brkC
  by_cases e : prF h x a b = 0
  · cases e2 : h (allyA x.fa a) b <;> simp [e]
  · simp [e]
theorem K2.b_iff {x y : K2} : x.b y = true ↔ x = y := by
  unfold K2.b
  cases x; cases y
  simp
theorem memO_iff {q : List K2} {x : K2} : memO q x = true ↔ x ∈ q := by
  unfold memO
  rw [List.any_eq_true]
  constructor
  · rintro ⟨y, hy, e⟩; rw [← K2.b_iff.1 e]; exact hy
  · intro h; exact ⟨x, h, K2.b_iff.2 rfl⟩
theorem memO_no {q : List K2} {x : K2} : memO q x = false ↔ x ∉ q := by rw [← memO_iff]; simp
theorem ndF_iff : ∀ {l q : List K2}, ndF q l = true ↔ l.Nodup ∧ ∀ x ∈ l, x ∉ q
  | [], q => by simp [ndF]
  | x :: l, q => by
    unfold ndF
    rw [Bool.and_eq_true, ndF_iff (l := l), List.nodup_cons]
    rw [Bool.not_eq_true', memO_no]
    constructor
    · rintro ⟨h1, h2, h3⟩
      refine ⟨⟨fun hx => h3 x hx (by simp), h2⟩, fun y hy => ?_⟩
      rcases List.mem_cons.1 hy with rfl | hy
      · exact h1
      · exact fun hq => h3 y hy (List.mem_append_left _ hq)
    · rintro ⟨⟨h1, h2⟩, h3⟩
      refine ⟨h3 x (by simp), h2, fun y hy hq => ?_⟩
      rcases List.mem_append.1 hq with hq | hq
      · exact h3 y (List.mem_cons_of_mem _ hy) hq
      · have : y = x := by simpa using hq
        subst this
        exact h1 hy
theorem ofR_iff {x : K2} : ofR x = true ↔ 0 ≤ x.c0 ∧ x.c0 ≤ 3 ∧ 0 ≤ x.c1 ∧ x.c1 ≤ 3 := by
  unfold ofR
  rw [Bool.and_eq_true]
  constructor
  · rintro ⟨h1, h2⟩; have := inb_i h1; have := inb_i h2; omega
  · intro h; exact ⟨inb_t (by omega) (by omega), inb_t (by omega) (by omega)⟩
/- a pact that was accepted -/
structure AccG (h : Int → Int → Bool) (x : KW) (a b : Int) : Prop where
  wf0 : wf h (accX h x a b) = 0
  ab : h (allyA (accX h x a b).fa a) b = true
  ba : h (allyA (accX h x a b).fa b) a = true
  no : h (allyA x.fa a) b = false
theorem gd_fac {h : Int → Int → Bool} {x : KW} (g : GdW h x) {i : Int} (h0 : 0 ≤ i) (h3 : i ≤ 3) : FacG h x.fa i := (facs_iff g.a4).1 g.a i h0 h3
theorem gd_two {h : Int → Int → Bool} (hh : ∀ m b, inb m 0 15 = true → h m b = hasS m b) {x : KW} (g : GdW h x) {a b : Int} (a0 : 0 ≤ a) (a3 : a ≤ 3) (b0 : 0 ≤ b) (b3 : b ≤ 3) (hab : a ≠ b) (ga : goneA x.fa a = false) (gb : goneA x.fa b = false)
    {o : Int → Int → Int} {v : Bool} (ho : ∀ {m k j : Int}, inb m 0 15 = true → 0 ≤ k → k ≤ 3 → 0 ≤ j → j ≤ 3 → hasS (o m k) j = (if (j == k) = true then v else hasS m j) ∧ inb (o m k) 0 15 = true) {oo : List K2} (ho6 : oo.length ≤ 6) (hsub : oo.Nodup ∧ ∀ p ∈ oo, p ∈ x.oo) (hv : v = true → ∀ p ∈ oo, p ≠ ⟨a, b⟩ ∧ p ≠ ⟨b, a⟩) :
    GdW h ⟨x.t, x.s, x.us, x.fs, two o x.fa a b, x.se, oo⟩ ∧ h (allyA (two o x.fa a b) a) b = v ∧ h (allyA (two o x.fa a b) b) a = v := by
  have tg := fun j (j0 : 0 ≤ j) => two_get (o := o) g.a4 a0 a3 b0 b3 hab j0
  have Ga := gd_fac g a0 a3
  have Gb := gd_fac g b0 b3
  have hl : (two o x.fa a b).length = 4 := by unfold two; rw [setC_len, setC_len]; exact g.a4
  have N : ∀ j, 0 ≤ j → j ≤ 3 → inb (allyA (two o x.fa a b) j) 0 15 = true := by
    intro j j0 j3
    rw [(tg j j0).2.2]
    by_cases e1 : j = b
    · rw [if_pos e1]; exact (ho Gb.m a0 a3 a0 a3).2
    · rw [if_neg e1]
      by_cases e2 : j = a
      · rw [if_pos e2]; exact (ho Ga.m b0 b3 b0 b3).2
      · rw [if_neg e2]; exact (gd_fac g j0 j3).m
  have R : ∀ j k, 0 ≤ j → j ≤ 3 → 0 ≤ k → k ≤ 3 → h (allyA (two o x.fa a b) j) k = if (j = a ∧ k = b) ∨ (j = b ∧ k = a) then v else h (allyA x.fa j) k := by
    intro j k j0 j3 k0 k3
    rw [hh _ _ (N j j0 j3), hh _ _ (gd_fac g j0 j3).m, (tg j j0).2.2]
    by_cases e1 : j = b
    · subst e1
      rw [if_pos rfl, (ho Gb.m a0 a3 k0 k3).1]
      by_cases e3 : k = a
      · subst e3; rw [if_pos (by simp), if_pos (.inr ⟨rfl, rfl⟩)]
      · rw [if_neg (by simpa using e3), if_neg (by rintro (⟨h1, h2⟩ | ⟨h1, h2⟩); exact hab h1.symm; exact e3 h2)]
    · rw [if_neg e1]
      by_cases e2 : j = a
      · subst e2
        rw [if_pos rfl, (ho Ga.m b0 b3 k0 k3).1]
        by_cases e3 : k = b
        · subst e3; rw [if_pos (by simp), if_pos (.inl ⟨rfl, rfl⟩)]
        · rw [if_neg (by simpa using e3), if_neg (by rintro (⟨h1, h2⟩ | ⟨h1, h2⟩); exact e3 h2; exact e1 h1)]
      · rw [if_neg e2, if_neg (by rintro (⟨h1, h2⟩ | ⟨h1, h2⟩); exact e2 h1; exact e1 h1)]
  have gn : ∀ j, goneA (two o x.fa a b) j = goneA x.fa j := by
    intro j
    by_cases j0 : 0 ≤ j
    · exact (tg j j0).2.1
    · have e : j.toNat = 0 := by omega
      have := (tg 0 (by omega)).2.1
      unfold goneA at this ⊢
      rw [e]; exact this
  refine ⟨⟨g.t, g.s, g.b, hl, g.s6, ho6, ?_, ?_, ?_, ?_⟩, ?_, ?_⟩
  · refine (facs_iff hl).2 (fun i i0 i3 => ⟨by rw [(tg i i0).1]; exact (gd_fac g i0 i3).p, N i i0 i3, ?_, ?_⟩)
    · intro hg
      rw [gn] at hg
      rw [(tg i i0).2.2, if_neg (by rintro rfl; rw [gb] at hg; cases hg), if_neg (by rintro rfl; rw [ga] at hg; cases hg)]
      exact (gd_fac g i0 i3).g hg
    · intro k k0 k3 hk
      rw [R i k i0 i3 k0 k3] at hk
      rw [R k i k0 k3 i0 i3]
      by_cases e : (i = a ∧ k = b) ∨ (i = b ∧ k = a)
      · rw [if_pos e] at hk
        rw [if_pos (by rcases e with ⟨h1, h2⟩ | ⟨h1, h2⟩; exact .inr ⟨h2, h1⟩; exact .inl ⟨h2, h1⟩)]
        exact ⟨by rcases e with ⟨h1, h2⟩ | ⟨h1, h2⟩; rw [h1, h2]; exact fun h => hab h.symm; rw [h1, h2]; exact hab, hk⟩
      · rw [if_neg e] at hk
        rw [if_neg (by rintro (⟨h1, h2⟩ | ⟨h1, h2⟩); exact e (.inr ⟨h2, h1⟩); exact e (.inl ⟨h2, h1⟩))]
        exact (gd_fac g i0 i3).r k k0 k3 hk
  · obtain ⟨h1, h2⟩ := seF_iff.1 g.se
    exact seF_iff.2 ⟨h1, fun s hs => by rw [gn]; exact h2 s hs⟩
  · obtain ⟨h1, h2⟩ := ofF_iff.1 g.oo
    refine ofF_iff.2 ⟨ndF_iff.2 ⟨hsub.1, fun _ _ => by simp⟩, fun p hp => ?_⟩
    obtain ⟨r, c, al, g1, g2⟩ := h2 p (hsub.2 p hp)
    obtain ⟨r0, r1, r2, r3⟩ := ofR_iff.1 r
    refine ⟨r, c, ?_, by rw [gn]; exact g1, by rw [gn]; exact g2⟩
    rw [R _ _ r0 r1 r2 r3]
    by_cases e : (p.c0 = a ∧ p.c1 = b) ∨ (p.c0 = b ∧ p.c1 = a)
    · rw [if_pos e]
      cases v
      · rfl
      · obtain ⟨n1, n2⟩ := hv rfl p hp
        rcases e with ⟨h1, h2⟩ | ⟨h1, h2⟩
        · exact absurd (by cases p; simp_all) n1
        · exact absurd (by cases p; simp_all) n2
    · rw [if_neg e]; exact al
  · exact owF_iff.2 (fun u hu h9 => by rw [gn]; exact owF_iff.1 g.ow u hu h9)
  · rw [R a b a0 a3 b0 b3, if_pos (.inl ⟨rfl, rfl⟩)]
  · rw [R b a b0 b3 a0 a3, if_pos (.inr ⟨rfl, rfl⟩)]
theorem or_law {m k j : Int} (hm : inb m 0 15 = true) (k0 : 0 ≤ k) (k3 : k ≤ 3) (j0 : 0 ≤ j) (j3 : j ≤ 3) : hasS (orB m k) j = (if (j == k) = true then true else hasS m j) ∧ inb (orB m k) 0 15 = true := by
  obtain ⟨h1, h2, _, _⟩ := bit_all hm k0 k3 j0 j3
  refine ⟨?_, h2⟩
  rw [h1]
  cases j == k <;> simp
theorem cl_law {m k j : Int} (hm : inb m 0 15 = true) (k0 : 0 ≤ k) (k3 : k ≤ 3) (j0 : 0 ≤ j) (j3 : j ≤ 3) : hasS (clB m k) j = (if (j == k) = true then false else hasS m j) ∧ inb (clB m k) 0 15 = true := by
  obtain ⟨_, _, h1, h2⟩ := bit_all hm k0 k3 j0 j3
  refine ⟨?_, h2⟩
  rw [h1]
  cases j == k <;> simp
theorem notP_iff {a b : Int} {o : K2} : notP a b o = true ↔ o ≠ ⟨a, b⟩ ∧ o ≠ ⟨b, a⟩ := by
  unfold notP
  rw [Bool.not_eq_true', Bool.or_eq_false_iff]
  constructor
  · rintro ⟨h1, h2⟩
    exact ⟨fun e => (by rw [K2.b_iff.2 e] at h1; cases h1), fun e => (by rw [K2.b_iff.2 e] at h2; cases h2)⟩
  · rintro ⟨h1, h2⟩
    exact ⟨Bool.eq_false_iff.2 (fun e => h1 (K2.b_iff.1 e)), Bool.eq_false_iff.2 (fun e => h2 (K2.b_iff.1 e))⟩
theorem accX_eq {h : Int → Int → Bool} {x : KW} {a b : Int} (e : accC h x a b = 0) : accX h x a b = ⟨x.t, x.s, x.us, x.fs, two orB x.fa a b, x.se, x.oo.filter (notP a b)⟩ := by unfold accX; rw [e]; rfl
theorem brkX_eq {h : Int → Int → Bool} {x : KW} {a b : Int} (e : brkC h x a b = 0) : brkX h x a b = ⟨x.t, x.s, x.us, x.fs, two clB x.fa a b, x.se, x.oo⟩ := by unfold brkX; rw [e]; rfl
theorem offX_eq {h : Int → Int → Bool} {x : KW} {a b : Int} (e : offC h x a b = 0) : offX h x a b = ⟨x.t, x.s, x.us, x.fs, x.fa, x.se, x.oo ++ [⟨a, b⟩]⟩ := by unfold offX; rw [e]; rfl
theorem acc_good {h : Int → Int → Bool} (hh : ∀ m b, inb m 0 15 = true → h m b = hasS m b) {x : KW} {a b : Int} (e : accC h x a b = 0) : AccG h x a b := by
  obtain ⟨e1, e2⟩ := accC_zero.1 e
  obtain ⟨w0, s0⟩ := prF_zero.1 e1
  obtain ⟨ia, ib, hab, ga, gb⟩ := sdF_zero.1 s0
  have g := (gdW_iff h x).1 w0
  obtain ⟨a0, a3⟩ := inb_i ia
  obtain ⟨b0, b3⟩ := inb_i ib
  obtain ⟨n1, n2⟩ := ofF_iff.1 g.oo
  have hnd := (ndF_iff.1 n1).1
  obtain ⟨G, h1, h2⟩ := gd_two hh g a0 a3 b0 b3 hab ga gb (o := orB) (v := true) or_law (oo := x.oo.filter (notP a b)) (Nat.le_trans (List.length_filter_le _ _) g.o6) ⟨hnd.filter _, fun p hp => (List.mem_filter.1 hp).1⟩ (fun _ p hp => notP_iff.1 (List.mem_filter.1 hp).2)
  have hx := accX_eq e
  refine ⟨by rw [hx]; exact (gdW_iff h _).2 G, by rw [hx]; exact h1, by rw [hx]; exact h2, ?_⟩
  have hba : h (allyA x.fa b) a = false := (n2 ⟨b, a⟩ (memO_iff.1 e2)).2.2.1
  cases hq : h (allyA x.fa a) b
  · rfl
  · have := ((gd_fac g a0 a3).r b b0 b3 hq).2
    rw [hba] at this; cases this
structure BrkG (h : Int → Int → Bool) (x : KW) (a b : Int) : Prop where
  wf0 : wf h (brkX h x a b) = 0
  ab : h (allyA (brkX h x a b).fa a) b = false
  ba : h (allyA (brkX h x a b).fa b) a = false
  yes : h (allyA x.fa a) b = true
theorem brk_good {h : Int → Int → Bool} (hh : ∀ m b, inb m 0 15 = true → h m b = hasS m b) {x : KW} {a b : Int} (e : brkC h x a b = 0) : BrkG h x a b := by
  obtain ⟨e1, e2⟩ := brkC_zero.1 e
  obtain ⟨w0, s0⟩ := prF_zero.1 e1
  obtain ⟨ia, ib, hab, ga, gb⟩ := sdF_zero.1 s0
  have g := (gdW_iff h x).1 w0
  obtain ⟨a0, a3⟩ := inb_i ia
  obtain ⟨b0, b3⟩ := inb_i ib
  obtain ⟨n1, n2⟩ := ofF_iff.1 g.oo
  have hnd := (ndF_iff.1 n1).1
  obtain ⟨G, h1, h2⟩ := gd_two hh g a0 a3 b0 b3 hab ga gb (o := clB) (v := false) cl_law (oo := x.oo) g.o6 ⟨hnd, fun p hp => hp⟩ (fun hv => by cases hv)
  have hx := brkX_eq e
  exact ⟨by rw [hx]; exact (gdW_iff h _).2 G, by rw [hx]; exact h1, by rw [hx]; exact h2, e2⟩
theorem ally_sym {h : Int → Int → Bool} {x : KW} (w0 : wf h x = 0) {a b : Int} (ia : inb a 0 3 = true) (ib : inb b 0 3 = true) : h (allyA x.fa a) b = h (allyA x.fa b) a := by
  have g := (gdW_iff h x).1 w0
  obtain ⟨a0, a3⟩ := inb_i ia
  obtain ⟨b0, b3⟩ := inb_i ib
  cases e1 : h (allyA x.fa a) b <;> cases e2 : h (allyA x.fa b) a
  · rfl
  · have := ((gd_fac g b0 b3).r a a0 a3 e2).2; rw [e1] at this; cases this
  · have := ((gd_fac g a0 a3).r b b0 b3 e1).2; rw [e2] at this; cases this
  · rfl
/- an offer that is accepted and broken again -/
structure OffG (h : Int → Int → Bool) (x : KW) (a b : Int) : Prop where
  wf0 : wf h (offX h x a b) = 0
  taken : offC h (offX h x a b) a b = 6
  acc : accC h (offX h x a b) b a = 0
  brk : brkC h (accX h (offX h x a b) b a) a b = 0
  same : memO x.oo ⟨b, a⟩ = false → brkX h (accX h (offX h x a b) b a) a b = x
theorem off_good {h : Int → Int → Bool} (hh : ∀ m b, inb m 0 15 = true → h m b = hasS m b) {x : KW} {a b : Int} (e : offC h x a b = 0) : OffG h x a b := by
  obtain ⟨e1, e2, e3, e4⟩ := offC_zero.1 e
  obtain ⟨w0, s0⟩ := prF_zero.1 e1
  obtain ⟨ia, ib, hab, ga, gb⟩ := sdF_zero.1 s0
  have g := (gdW_iff h x).1 w0
  obtain ⟨a0, a3⟩ := inb_i ia
  obtain ⟨b0, b3⟩ := inb_i ib
  obtain ⟨n1, n2⟩ := ofF_iff.1 g.oo
  have hnd := (ndF_iff.1 n1).1
  have hx := offX_eq e
  have G2 : GdW h ⟨x.t, x.s, x.us, x.fs, x.fa, x.se, x.oo ++ [⟨a, b⟩]⟩ := by
    refine ⟨g.t, g.s, g.b, g.a4, g.s6, by show (x.oo ++ [(⟨a, b⟩ : K2)]).length ≤ 6; rw [List.length_append]; simp; omega, g.a, g.se, ?_, g.ow⟩
    refine ofF_iff.2 ⟨ndF_iff.2 ⟨?_, fun _ _ => by simp⟩, fun p hp => ?_⟩
    · rw [List.nodup_append]
      refine ⟨hnd, by simp, fun p hp q hq => ?_⟩
      have : q = ⟨a, b⟩ := by simpa using hq
      subst this
      rintro rfl
      exact memO_no.1 e3 hp
    · rcases List.mem_append.1 hp with hp | hp
      · exact n2 p hp
      · have : p = ⟨a, b⟩ := by simpa using hp
        subst this
        exact ⟨ofR_iff.2 ⟨a0, a3, b0, b3⟩, hab, e2, ga, gb⟩
  have w2 : wf h (offX h x a b) = 0 := by rw [hx]; exact (gdW_iff h _).2 G2
  have pr2 : prF h (offX h x a b) a b = 0 := prF_zero.2 ⟨w2, by rw [hx]; exact s0⟩
  have pr3 : prF h (offX h x a b) b a = 0 := prF_zero.2 ⟨w2, by rw [hx]; exact sdF_zero.2 ⟨ib, ia, fun h => hab h.symm, gb, ga⟩⟩
  have acc : accC h (offX h x a b) b a = 0 := accC_zero.2 ⟨pr3, by rw [hx]; exact memO_iff.2 (by simp)⟩
  have A := acc_good hh acc
  have hy := accX_eq acc
  have tg := fun j (j0 : 0 ≤ j) => two_get (o := orB) g.a4 b0 b3 a0 a3 (fun h => hab h.symm) j0
  have brk : brkC h (accX h (offX h x a b) b a) a b = 0 := by
    refine brkC_zero.2 ⟨prF_zero.2 ⟨A.wf0, ?_⟩, A.ba⟩
    rw [hy, hx]
    exact sdF_zero.2 ⟨ia, ib, hab, by rw [(tg a a0).2.1]; exact ga, by rw [(tg b b0).2.1]; exact gb⟩
  refine ⟨w2, ?_, acc, brk, fun hno => ?_⟩
  · unfold offC
    rw [pr2, if_neg (by simp), hx, if_pos (by rw [Bool.or_eq_true]; exact .inr (memO_iff.2 (by simp)))]
  · rw [brkX_eq brk, hy, hx]
    have ho : (x.oo ++ [(⟨a, b⟩ : K2)]).filter (notP b a) = x.oo := by
      rw [List.filter_append]
      have h1 : x.oo.filter (notP b a) = x.oo := by
        rw [List.filter_eq_self]
        intro p hp
        exact notP_iff.2 ⟨fun e => memO_no.1 hno (e ▸ hp), fun e => memO_no.1 e3 (e ▸ hp)⟩
      have h2 : notP b a ⟨a, b⟩ = false := by
        cases hq : notP b a ⟨a, b⟩
        · rfl
        · exact absurd rfl (notP_iff.1 hq).2
      rw [h1]
      simp [h2]
    have Ma := (gd_fac g a0 a3).m
    have Mb := (gd_fac g b0 b3).m
    have hf : two clB (two orB x.fa b a) a b = x.fa := by
      show setC (setC (two orB x.fa b a) a (clB (allyA (two orB x.fa b a) a) b)) b (clB (allyA (two orB x.fa b a) b) a) = x.fa
      rw [(tg a a0).2.2, (tg b b0).2.2, if_pos rfl, if_neg (fun h => hab h.symm), if_pos rfl]
      rw [clB_orB Ma b0 b3 (by rw [← hh _ _ Ma]; exact e2), clB_orB Mb a0 a3 (by rw [← hh _ _ Mb]; rw [ally_sym w0 ib ia]; exact e2)]
      unfold two
      rw [setC_setC, setC_comm a0 b0 hab, setC_setC, setC_self, setC_self]
    show (⟨x.t, x.s, x.us, x.fs, two clB (two orB x.fa b a) a b, x.se, (x.oo ++ [(⟨a, b⟩ : K2)]).filter (notP b a)⟩ : KW) = x
    rw [hf, ho]
end Go.Proofs.YtmfdggaijbcijaaGreat
end
