/- Texts of mine put together (a claim holds at most 60 files): GfPact. -/
import Derived.Test.YtlfnnobkgbfdgaaGreatPartH10

/- GfPact -/
/- Plain facts of pacts: bits of Allies, an offer, a pact accepted and broken again. No condition. -/
section
namespace Go.Proofs.YtlfnnobkgbfdgaaGreat
open Bd
set_option linter.unusedVariables false

theorem at_get {fa : List KA} (h4 : fa.length = 4) {i : Int} (h0 : 0 ≤ i) (h3 : i ≤ 3) : ∃ f, fa[i.toNat]? = some f ∧ purA fa i = f.c0 ∧ goneA fa i = f.c1 ∧ allyA fa i = f.c2 := by
  have hl : i.toNat < fa.length := by omega
  have h2 : fa[i.toNat]? = some fa[i.toNat] := List.getElem?_eq_getElem hl
  refine ⟨_, h2, ?_, ?_, ?_⟩
  · unfold purA; rw [getD_z, h2]
  · unfold goneA; rw [getD_z, h2]
  · unfold allyA; rw [getD_z, h2]
structure FacG (h : Int → Int → Bool) (fa : List KA) (i : Int) : Prop where
  p : inb (purA fa i) 0 1000000 = true
  m : inb (allyA fa i) 0 15 = true
  g : goneA fa i = true → allyA fa i = 0
  r : ∀ k, 0 ≤ k → k ≤ 3 → h (allyA fa i) k = true → k ≠ i ∧ h (allyA fa k) i = true
theorem facs_iff {h : Int → Int → Bool} {fa : List KA} (h4 : fa.length = 4) : faF h fa 0 fa = 0 ↔ ∀ i : Int, 0 ≤ i → i ≤ 3 → FacG h fa i := by
  constructor
  · intro e i h0 h3
    obtain ⟨f, hf, e0, e1, e2⟩ := at_get h4 h0 h3
    obtain ⟨c1, c2, c3, c4⟩ := faC_iff.1 (faF_iff.1 e i.toNat f hf)
    refine ⟨by rw [e0]; exact c1, by rw [e2]; exact c2, by rw [e1, e2]; exact c3, fun k k0 k3 hk => ?_⟩
    obtain ⟨g, hg, _, _, g2⟩ := at_get h4 k0 k3
    have := alB_iff.1 c4 k.toNat g hg (by rw [show (0 : Int) + (k.toNat : Int) = k from by omega, ← e2]; exact hk)
    rw [show (0 : Int) + (k.toNat : Int) = k from by omega, show (0 : Int) + (i.toNat : Int) = i from by omega] at this
    rw [g2]; exact this
  · intro H
    refine faF_iff.2 (fun j f hf => ?_)
    have hj : j < fa.length := (List.getElem?_eq_some_iff.1 hf).1
    have hi := H (j : Int) (by omega) (by omega)
    obtain ⟨f', hf', e0, e1, e2⟩ := at_get (i := (j : Int)) h4 (by omega) (by omega)
    rw [Int.toNat_natCast, hf] at hf'
    cases hf'
    rw [show (0 : Int) + (j : Int) = j from by omega]
    obtain ⟨p, m, g, r⟩ := hi
    rw [e0] at p; rw [e2] at m r; rw [e1, e2] at g
    refine faC_iff.2 ⟨p, m, g, alB_iff.2 (fun k q hq hk => ?_)⟩
    have hk' : k < fa.length := (List.getElem?_eq_some_iff.1 hq).1
    rw [show (0 : Int) + (k : Int) = k from by omega] at hk ⊢
    obtain ⟨q', hq', _, _, g2⟩ := at_get (i := (k : Int)) h4 (by omega) (by omega)
    rw [Int.toNat_natCast, hq] at hq'
    cases hq'
    have := r k (by omega) (by omega) hk
    rw [g2] at this; exact this
/- bits of a number from 0 to 15 -/
def orB (m k : Int) : Int := if hasS m k = true then m else m + 2 ^ k.toNat
def clB (m k : Int) : Int := if hasS m k = true then m - 2 ^ k.toNat else m
theorem bit_fin : ∀ (m : Fin 16) (k j : Fin 4), hasS (orB (m.val : Int) (k.val : Int)) (j.val : Int) = (hasS (m.val : Int) (j.val : Int) || ((j.val : Int) == (k.val : Int))) ∧ inb (orB (m.val : Int) (k.val : Int)) 0 15 = true ∧ hasS (clB (m.val : Int) (k.val : Int)) (j.val : Int) = (hasS (m.val : Int) (j.val : Int) && !((j.val : Int) == (k.val : Int))) ∧ inb (clB (m.val : Int) (k.val : Int)) 0 15 = true := by decide +kernel
theorem bit_all {m k j : Int} (hm : inb m 0 15 = true) (k0 : 0 ≤ k) (k3 : k ≤ 3) (j0 : 0 ≤ j) (j3 : j ≤ 3) : hasS (orB m k) j = (hasS m j || (j == k)) ∧ inb (orB m k) 0 15 = true ∧ hasS (clB m k) j = (hasS m j && !(j == k)) ∧ inb (clB m k) 0 15 = true := by
  have := inb_i hm
  obtain ⟨m', rfl⟩ : ∃ n : Nat, m = n := ⟨m.toNat, by omega⟩
  obtain ⟨k', rfl⟩ : ∃ n : Nat, k = n := ⟨k.toNat, by omega⟩
  obtain ⟨j', rfl⟩ : ∃ n : Nat, j = n := ⟨j.toNat, by omega⟩
  exact bit_fin ⟨m', by omega⟩ ⟨k', by omega⟩ ⟨j', by omega⟩
/- another Allies -/
def setC (fa : List KA) (i v : Int) : List KA := fa.set i.toNat ⟨(fa.getD i.toNat KA.z).c0, (fa.getD i.toNat KA.z).c1, v⟩
theorem setC_len (fa : List KA) (i v : Int) : (setC fa i v).length = fa.length := by unfold setC; simp
theorem setC_get {fa : List KA} {i j v : Int} (hi : 0 ≤ i) (hj : 0 ≤ j) (hl : i < fa.length) : purA (setC fa i v) j = purA fa j ∧ goneA (setC fa i v) j = goneA fa j ∧ allyA (setC fa i v) j = if j = i then v else allyA fa j := by
  unfold purA goneA allyA setC
  rw [getD_z (fa := fa.set _ _), List.getElem?_set]
  by_cases e : j = i
  · subst e
    rw [if_pos rfl, if_pos (by omega), if_pos rfl]
    exact ⟨rfl, rfl, rfl⟩
  · rw [if_neg (by omega), if_neg e, ← getD_z]
    exact ⟨rfl, rfl, rfl⟩
/- two sides' Allies, both turned by one function -/
def two (o : Int → Int → Int) (fa : List KA) (a b : Int) : List KA := setC (setC fa a (o (allyA fa a) b)) b (o (allyA fa b) a)
/- an offer, a pact accepted, a pact broken -/
def offC (h : Int → Int → Bool) (x : KW) (a b : Int) : Int := if (prF h x a b == 0) = false then prF h x a b else if (h (allyA x.fa a) b || memO x.oo ⟨a, b⟩) = true then 6 else if 6 ≤ x.oo.length then 7 else 0
def offX (h : Int → Int → Bool) (x : KW) (a b : Int) : KW := if (offC h x a b == 0) = true then ⟨x.t, x.s, x.us, x.fs, x.fa, x.se, x.oo ++ [⟨a, b⟩]⟩ else kz
def notP (a b : Int) (o : K2) : Bool := !(o.b ⟨a, b⟩ || o.b ⟨b, a⟩)
def accC (h : Int → Int → Bool) (x : KW) (a b : Int) : Int := if (prF h x a b == 0) = false then prF h x a b else if memO x.oo ⟨b, a⟩ = false then 4 else 0
def accX (h : Int → Int → Bool) (x : KW) (a b : Int) : KW := if (accC h x a b == 0) = true then ⟨x.t, x.s, x.us, x.fs, two orB x.fa a b, x.se, x.oo.filter (notP a b)⟩ else kz
def brkC (h : Int → Int → Bool) (x : KW) (a b : Int) : Int := if (prF h x a b == 0) = false then prF h x a b else if h (allyA x.fa a) b = false then 4 else 0
def brkX (h : Int → Int → Bool) (x : KW) (a b : Int) : KW := if (brkC h x a b == 0) = true then ⟨x.t, x.s, x.us, x.fs, two clB x.fa a b, x.se, x.oo⟩ else kz
theorem K2.b_iff {x y : K2} : x.b y = true ↔ x = y := by
  unfold K2.b
  cases x; cases y
  simp
theorem memO_iff {q : List K2} {x : K2} : memO q x = true ↔ x ∈ q := by
  unfold memO
  rw [List.any_eq_true]
  constructor
  · rintro ⟨y, hy, e⟩; rw [← K2.b_iff.1 e]; exact hy
  · intro h; exact ⟨x, h, K2.b_iff.2 rfl⟩
theorem memO_no {q : List K2} {x : K2} : memO q x = false ↔ x ∉ q := by rw [← memO_iff]; simp
theorem ndF_iff : ∀ {l q : List K2}, ndF q l = true ↔ l.Nodup ∧ ∀ x ∈ l, x ∉ q
  | [], q => by simp [ndF]
  | x :: l, q => by
    unfold ndF
    rw [Bool.and_eq_true, ndF_iff (l := l), List.nodup_cons]
    rw [Bool.not_eq_true', memO_no]
    constructor
    · rintro ⟨h1, h2, h3⟩
      refine ⟨⟨fun hx => h3 x hx (by simp), h2⟩, fun y hy => ?_⟩
      rcases List.mem_cons.1 hy with rfl | hy
      · exact h1
      · exact fun hq => h3 y hy (List.mem_append_left _ hq)
    · rintro ⟨⟨h1, h2⟩, h3⟩
      refine ⟨h3 x (by simp), h2, fun y hy hq => ?_⟩
      rcases List.mem_append.1 hq with hq | hq
      · exact h3 y (List.mem_cons_of_mem _ hy) hq
      · have : y = x := by simpa using hq
        subst this
        exact h1 hy
theorem ofR_iff {x : K2} : ofR x = true ↔ 0 ≤ x.c0 ∧ x.c0 ≤ 3 ∧ 0 ≤ x.c1 ∧ x.c1 ≤ 3 := by
  unfold ofR
  rw [Bool.and_eq_true]
  constructor
  · rintro ⟨h1, h2⟩; have := inb_i h1; have := inb_i h2; omega
  · intro h; exact ⟨inb_t (by omega) (by omega), inb_t (by omega) (by omega)⟩
/- a pact that was accepted -/
structure AccG (h : Int → Int → Bool) (x : KW) (a b : Int) : Prop where
  wf0 : wf h (accX h x a b) = 0
  ab : h (allyA (accX h x a b).fa a) b = true
  ba : h (allyA (accX h x a b).fa b) a = true
  no : h (allyA x.fa a) b = false
theorem gd_fac {h : Int → Int → Bool} {x : KW} (g : GdW h x) {i : Int} (h0 : 0 ≤ i) (h3 : i ≤ 3) : FacG h x.fa i := (facs_iff g.a4).1 g.a i h0 h3
theorem cl_law {m k j : Int} (hm : inb m 0 15 = true) (k0 : 0 ≤ k) (k3 : k ≤ 3) (j0 : 0 ≤ j) (j3 : j ≤ 3) : hasS (clB m k) j = (if (j == k) = true then false else hasS m j) ∧ inb (clB m k) 0 15 = true := by
  obtain ⟨_, _, h1, h2⟩ := bit_all hm k0 k3 j0 j3
  refine ⟨?_, h2⟩
  rw [h1]
  cases j == k <;> simp
structure BrkG (h : Int → Int → Bool) (x : KW) (a b : Int) : Prop where
  wf0 : wf h (brkX h x a b) = 0
  ab : h (allyA (brkX h x a b).fa a) b = false
  ba : h (allyA (brkX h x a b).fa b) a = false
  yes : h (allyA x.fa a) b = true
theorem ally_sym {h : Int → Int → Bool} {x : KW} (w0 : wf h x = 0) {a b : Int} (ia : inb a 0 3 = true) (ib : inb b 0 3 = true) : h (allyA x.fa a) b = h (allyA x.fa b) a := by
  have g := (gdW_iff h x).1 w0
  obtain ⟨a0, a3⟩ := inb_i ia
  obtain ⟨b0, b3⟩ := inb_i ib
  cases e1 : h (allyA x.fa a) b <;> cases e2 : h (allyA x.fa b) a
  · rfl
  · have := ((gd_fac g b0 b3).r a a0 a3 e2).2; rw [e1] at this; cases this
  · have := ((gd_fac g a0 a3).r b b0 b3 e1).2; rw [e2] at this; cases this
  · rfl
/- an offer that is accepted and broken again -/
structure OffG (h : Int → Int → Bool) (x : KW) (a b : Int) : Prop where
  wf0 : wf h (offX h x a b) = 0
  taken : offC h (offX h x a b) a b = 6
  acc : accC h (offX h x a b) b a = 0
  brk : brkC h (accX h (offX h x a b) b a) a b = 0
  same : memO x.oo ⟨b, a⟩ = false → brkX h (accX h (offX h x a b) b a) a b = x
end Go.Proofs.YtlfnnobkgbfdgaaGreat
end
