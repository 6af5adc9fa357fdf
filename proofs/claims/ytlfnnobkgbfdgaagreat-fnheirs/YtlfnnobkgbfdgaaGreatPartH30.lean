/- Texts of mine put together (a claim holds at most 60 files): GfLeave. -/
import Derived.Test.YtlfnnobkgbfdgaaGreatPartH27
import Derived.Test.YtlfnnobkgbfdgaaGreatPartH29
import Derived.Test.YtlfnnobkgbfdgaaGreatPartH19

/- GfLeave -/
/- Plain facts of those who leave: heirs, a purse and units that are shared out, the world behind it, what there is together. No condition. -/
section
namespace Go.Proofs.YtlfnnobkgbfdgaaGreat
open Bd
set_option linter.unusedVariables false

/- the sides of a mask, rising -/
def sdL (h : Int → Int → Bool) (m : Int) : List Int := [0, 1, 2, 3].filter (fun k => h m k)
theorem mem_sdL {h : Int → Int → Bool} {m k : Int} : k ∈ sdL h m ↔ 0 ≤ k ∧ k ≤ 3 ∧ h m k = true := by
  unfold sdL
  rw [List.mem_filter]
  constructor
  · rintro ⟨h1, h2⟩
    simp at h1
    exact ⟨by omega, by omega, h2⟩
  · rintro ⟨h1, h2, h3⟩
    refine ⟨?_, h3⟩
    have : k = 0 ∨ k = 1 ∨ k = 2 ∨ k = 3 := by omega
    rcases this with rfl | rfl | rfl | rfl <;> simp
theorem nd_sdL (h : Int → Int → Bool) (m : Int) : (sdL h m).Nodup := List.Pairwise.filter _ (show List.Nodup [0, 1, 2, 3] by decide)
theorem len_sdL (h : Int → Int → Bool) (m : Int) : (sdL h m).length ≤ 4 := List.length_filter_le _ _
/- a purse that is shared out: the factions behind it, and what was taken -/
def tkP (n : Int) (m i : Nat) (fa : List KA) (k : Int) : Int := mn (Nums.shAt n m i) (1000000 - purA fa k)
def shA (n : Int) (m : Nat) : Nat → List Int → List KA → List KA
  | _, [], fa => fa
  | i, k :: hs, fa => shA n m (i + 1) hs (setP fa k (purA fa k + tkP n m i fa k))
def shT (n : Int) (m : Nat) : Nat → List Int → List KA → Int
  | _, [], _ => 0
  | i, k :: hs, fa => tkP n m i fa k + shT n m (i + 1) hs (setP fa k (purA fa k + tkP n m i fa k))
theorem shA_eq {n : Int} {m : Nat} : ∀ {hs : List Int} {i : Nat} {fa fa' : List KA}, eqGA fa fa' → eqGA fa (shA n m i hs fa')
  | [], _, _, _, e => e
  | k :: hs, i, fa, fa', e => by
    show eqGA fa (shA n m (i + 1) hs (setP fa' k _))
    exact shA_eq (e.setP k _)
theorem shA_len {n : Int} {m : Nat} (hs : List Int) (i : Nat) (fa : List KA) : (shA n m i hs fa).length = fa.length := (shA_eq (n := n) (m := m) (hs := hs) (i := i) (eqGA.refl fa)).1.symm
theorem tkP_bd {n : Int} {m i : Nat} {fa : List KA} {k : Int} (h0 : 0 ≤ Nums.shAt n m i) (hp : 0 ≤ purA fa k ∧ purA fa k ≤ 1000000) : 0 ≤ tkP n m i fa k ∧ tkP n m i fa k ≤ Nums.shAt n m i ∧ purA fa k + tkP n m i fa k ≤ 1000000 := by
  unfold tkP
  have := mn_bd (Nums.shAt n m i) (1000000 - purA fa k)
  omega
theorem purA_all {fa : List KA} (h : ∀ f ∈ fa, inb f.c0 0 1000000 = true) (i : Int) : 0 ≤ purA fa i ∧ purA fa i ≤ 1000000 := by
  unfold purA
  rw [getD_z]
  cases hh : fa[i.toNat]? with
  | none => exact ⟨by decide, by decide⟩
  | some f => exact inb_i (h f (List.mem_of_getElem? hh))
theorem setP_in {fa : List KA} (h : ∀ f ∈ fa, inb f.c0 0 1000000 = true) {k v : Int} (h0 : 0 ≤ v) (h1 : v ≤ 1000000) : ∀ f ∈ setP fa k v, inb f.c0 0 1000000 = true := fun f hf => by
  rcases mem_setP hf with h2 | h2
  · exact h f h2
  · rw [h2]; exact inb_t h0 h1
structure ShG (n : Int) (m i : Nat) (hs : List Int) (fa : List KA) : Prop where
  r : ∀ f ∈ shA n m i hs fa, inb f.c0 0 1000000 = true
  s : purS (shA n m i hs fa) = purS fa + shT n m i hs fa
  t0 : 0 ≤ shT n m i hs fa
  t1 : shT n m i hs fa ≤ Nums.sumTo n m (i + hs.length) - Nums.sumTo n m i
  o : ∀ j : Int, 0 ≤ j → j ∉ hs → purA (shA n m i hs fa) j = purA fa j
theorem sh_good {n : Int} {m : Nat} (hn : 0 ≤ n) (hn2 : n ≤ 1000000) (hm : 1 ≤ m) : ∀ {hs : List Int} {i : Nat} {fa : List KA}, fa.length = 4 → (∀ k ∈ hs, 0 ≤ k ∧ k ≤ 3) → (∀ f ∈ fa, inb f.c0 0 1000000 = true) → ShG n m i hs fa
  | [], i, fa, _, _, h => ⟨h, by simp [shA, shT], by simp [shT], by simp [shT], fun j _ _ => rfl⟩
  | k :: hs, i, fa, h4, hk, h => by
    obtain ⟨k0, k3⟩ := hk k (by simp)
    have hp := purA_all h k
    have hb := tkP_bd (i := i) (Nums.shAt_bd n m i hm hn hn2).1 hp
    have hl : k < (fa.length : Int) := by omega
    have G := sh_good hn hn2 hm (hs := hs) (i := i + 1) (fa := setP fa k (purA fa k + tkP n m i fa k)) (by rw [setP_len]; exact h4) (fun j hj => hk j (List.mem_cons_of_mem _ hj)) (setP_in h (by omega) (by omega))
    refine ⟨G.r, ?_, ?_, ?_, ?_⟩
    · show purS (shA n m (i + 1) hs _) = purS fa + (tkP n m i fa k + shT n m (i + 1) hs _)
      rw [G.s, purS_setP k0 hl]; omega
    · show 0 ≤ tkP n m i fa k + shT n m (i + 1) hs _
      have := G.t0; omega
    · show tkP n m i fa k + shT n m (i + 1) hs _ ≤ Nums.sumTo n m (i + (hs.length + 1)) - Nums.sumTo n m i
      have h1 := G.t1
      have e : Nums.sumTo n m (i + 1) = Nums.sumTo n m i + Nums.shAt n m i := rfl
      rw [e, show i + 1 + hs.length = i + (hs.length + 1) from by omega] at h1
      omega
    · intro j j0 hj
      show purA (shA n m (i + 1) hs _) j = purA fa j
      rw [G.o j j0 (fun h => hj (List.mem_cons_of_mem _ h)), purA_set k0 j0 hl, if_neg (fun e => hj (by rw [e]; simp))]
/- units that are shared out -/
def shU (a : Int) (hs : List Int) : Nat → List K10 → List K10
  | _, [] => []
  | n, u :: l => if (u.c1 == a) = true then handed u (hs.getD (n % hs.length) 9) :: shU a hs (n + 1) l else u :: shU a hs n l
theorem shU_len {a : Int} {hs : List Int} : ∀ {l : List K10} {n : Nat}, (shU a hs n l).length = l.length
  | [], _ => rfl
  | u :: l, n => by
    unfold shU
    split
    · simp [shU_len]
    · simp [shU_len]
theorem shU_map {a : Int} {hs : List Int} : ∀ {l : List K10} {n : Nat}, (shU a hs n l).map K10.c0 = l.map K10.c0
  | [], _ => rfl
  | u :: l, n => by
    unfold shU
    split
    · rw [List.map_cons, List.map_cons, shU_map]; rfl
    · rw [List.map_cons, List.map_cons, shU_map]
theorem shU_cr {a : Int} {hs : List Int} : ∀ {l : List K10} {n : Nat}, crU (shU a hs n l) = crU l
  | [], _ => rfl
  | u :: l, n => by
    unfold shU
    split
    · show u.c5 + crU _ = u.c5 + crU l; rw [shU_cr]
    · show u.c5 + crU _ = u.c5 + crU l; rw [shU_cr]
theorem shU_mem {a : Int} {hs : List Int} : ∀ {l : List K10} {n : Nat} {y : K10}, y ∈ shU a hs n l → (y ∈ l ∧ y.c1 ≠ a) ∨ ∃ u ∈ l, u.c1 = a ∧ ∃ i : Nat, y = handed u (hs.getD (i % hs.length) 9)
  | [], _, y, h => by simp [shU] at h
  | u :: l, n, y, h => by
    unfold shU at h
    cases e : u.c1 == a
    · rw [e, if_neg (by simp)] at h
      rcases List.mem_cons.1 h with rfl | h
      · exact .inl ⟨by simp, by simpa using e⟩
      · rcases shU_mem h with ⟨h1, h2⟩ | ⟨v, h1, h2⟩
        · exact .inl ⟨List.mem_cons_of_mem _ h1, h2⟩
        · exact .inr ⟨v, List.mem_cons_of_mem _ h1, h2⟩
    · rw [e, if_pos rfl] at h
      rcases List.mem_cons.1 h with rfl | h
      · exact .inr ⟨u, by simp, by simpa using e, n, rfl⟩
      · rcases shU_mem h with ⟨h1, h2⟩ | ⟨v, h1, h2⟩
        · exact .inl ⟨List.mem_cons_of_mem _ h1, h2⟩
        · exact .inr ⟨v, List.mem_cons_of_mem _ h1, h2⟩
theorem getD_in {hs : List Int} (hne : hs ≠ []) (i : Nat) : hs.getD (i % hs.length) 9 ∈ hs := by
  have hl : 0 < hs.length := by cases hs with | nil => exact absurd rfl hne | cons x l => simp
  have h := Nat.mod_lt i hl
  rw [List.getD_eq_getElem?_getD, List.getElem?_eq_getElem h]
  exact List.getElem_mem _
theorem rise_map {l l' : List K10} (e : l'.map K10.c0 = l.map K10.c0) (h : Rise l) : Rise l' := by
  have h1 : (l.map K10.c0).Pairwise (fun a b => a < b) := List.pairwise_map.2 h
  rw [← e] at h1
  exact List.pairwise_map.1 h1
/- how many of N in turn come to place p of m -/
def cntM (p m : Nat) : Nat → Nat → Nat
  | _, 0 => 0
  | n, N + 1 => (if n % m = p then 1 else 0) + cntM p m (n + 1) N
theorem cnt_fin : ∀ (m : Fin 5) (p : Fin 5) (N : Fin 9), p.val < m.val → N.val / m.val ≤ cntM p.val m.val 0 N.val ∧ cntM p.val m.val 0 N.val ≤ N.val / m.val + 1 := by decide +kernel
theorem nd_at {hs : List Int} (h : hs.Nodup) {p q : Nat} {k : Int} (hp : hs[p]? = some k) (hq : q < hs.length) : (hs.getD q 9 = k) ↔ q = p := by
  rw [List.getD_eq_getElem?_getD, List.getElem?_eq_getElem hq]
  constructor
  · intro e
    exact nd_inj h (x := k) (by rw [List.getElem?_eq_getElem hq]; exact congrArg some e) hp
  · rintro rfl
    rw [List.getElem?_eq_getElem hq] at hp
    exact Option.some.inj hp
theorem shU_cnt {a : Int} {hs : List Int} (hnd : hs.Nodup) {p : Nat} {k : Int} (hp : hs[p]? = some k) (hka : k ≠ a) : ∀ {l : List K10} {n : Nat}, (idsOf k (shU a hs n l)).length = (idsOf k l).length + cntM p hs.length n (idsOf a l).length
  | [], n => rfl
  | u :: l, n => by
    have hl : 0 < hs.length := by have := (List.getElem?_eq_some_iff.1 hp).1; omega
    cases e : u.c1 == a
    · have e1 : idsOf a (u :: l) = idsOf a l := by show (if (u.c1 == a) = true then _ else _) = _; rw [e]; rfl
      have e2 : shU a hs n (u :: l) = u :: shU a hs n l := by show (if (u.c1 == a) = true then _ else _) = _; rw [e]; rfl
      have ih := shU_cnt hnd hp hka (l := l) (n := n)
      rw [e1, e2]
      show (if (u.c1 == k) = true then _ else _ : List Int).length = (if (u.c1 == k) = true then _ else _ : List Int).length + _
      cases u.c1 == k
      · simpa using ih
      · simp at ih ⊢; omega
    · have ea : u.c1 = a := by simpa using e
      have e1 : idsOf a (u :: l) = u.c0 :: idsOf a l := by show (if (u.c1 == a) = true then _ else _) = _; rw [e]; rfl
      have e2 : shU a hs n (u :: l) = handed u (hs.getD (n % hs.length) 9) :: shU a hs (n + 1) l := by show (if (u.c1 == a) = true then _ else _) = _; rw [e]; rfl
      have e3 : idsOf k (u :: l) = idsOf k l := by
        show (if (u.c1 == k) = true then _ else _) = _
        rw [if_neg (by simp; omega)]
      have ih := shU_cnt hnd hp hka (l := l) (n := n + 1)
      have hq := nd_at hnd hp (Nat.mod_lt n hl)
      rw [e1, e2, e3]
      show (if (hs.getD (n % hs.length) 9 == k) = true then _ else _ : List Int).length = _ + ((if n % hs.length = p then 1 else 0) + cntM p hs.length (n + 1) (idsOf a l).length)
      by_cases hc : n % hs.length = p
      · have e4 : (hs.getD (n % hs.length) 9 == k) = true := by simpa using hq.2 hc
        rw [e4, if_pos rfl, if_pos hc]
        simp at ih ⊢; omega
      · have e4 : (hs.getD (n % hs.length) 9 == k) = false := by simpa using fun h => hc (hq.1 h)
        rw [e4, if_neg (by simp), if_neg hc]
        omega
theorem shU_gone {a : Int} {hs : List Int} (hk : a ∉ hs) (hk9 : a ≠ 9) : ∀ {l : List K10} {n : Nat}, idsOf a (shU a hs n l) = []
  | [], n => rfl
  | u :: l, n => by
    cases e : u.c1 == a
    · have e2 : shU a hs n (u :: l) = u :: shU a hs n l := by show (if (u.c1 == a) = true then _ else _) = _; rw [e]; rfl
      rw [e2]
      show (if (u.c1 == a) = true then _ else _) = _
      rw [e, if_neg (by simp), shU_gone hk hk9]
    · have e2 : shU a hs n (u :: l) = handed u (hs.getD (n % hs.length) 9) :: shU a hs (n + 1) l := by show (if (u.c1 == a) = true then _ else _) = _; rw [e]; rfl
      have hne : hs.getD (n % hs.length) 9 ≠ a := by
        intro h
        by_cases hz : hs = []
        · subst hz; exact hk9 h.symm
        · exact hk (h ▸ getD_in hz n)
      rw [e2]
      show (if (hs.getD (n % hs.length) 9 == a) = true then _ else _) = _
      rw [if_neg (by simpa using hne), shU_gone hk hk9]
theorem shU_nobody {a : Int} (ha : a ≠ 9) : ∀ {l : List K10} {n : Nat}, (idsOf 9 (shU a [] n l)).length = (idsOf 9 l).length + (idsOf a l).length
  | [], n => rfl
  | u :: l, n => by
    cases e : u.c1 == a
    · have e1 : idsOf a (u :: l) = idsOf a l := by show (if (u.c1 == a) = true then _ else _) = _; rw [e]; rfl
      have e2 : shU a [] n (u :: l) = u :: shU a [] n l := by show (if (u.c1 == a) = true then _ else _) = _; rw [e]; rfl
      have ih := shU_nobody ha (l := l) (n := n)
      rw [e1, e2]
      show (if (u.c1 == 9) = true then _ else _ : List Int).length = (if (u.c1 == 9) = true then _ else _ : List Int).length + _
      cases u.c1 == 9
      · simpa using ih
      · simp at ih ⊢; omega
    · have ea : u.c1 = a := by simpa using e
      have e1 : idsOf a (u :: l) = u.c0 :: idsOf a l := by show (if (u.c1 == a) = true then _ else _) = _; rw [e]; rfl
      have e2 : shU a [] n (u :: l) = handed u 9 :: shU a [] (n + 1) l := by show (if (u.c1 == a) = true then _ else _) = _; rw [e]; simp
      have e3 : idsOf 9 (u :: l) = idsOf 9 l := by
        show (if (u.c1 == 9) = true then _ else _) = _
        rw [if_neg (by simp; omega)]
      have ih := shU_nobody ha (l := l) (n := n + 1)
      rw [e1, e2, e3]
      show (if ((9 : Int) == 9) = true then _ else _ : List Int).length = _
      simp at ih ⊢; omega
/- nobody's ally any more -/
def clA (a : Int) : List Int → List KA → List KA
  | [], fa => fa
  | k :: hs, fa => clA a hs (setC fa k (clB (allyA fa k) a))
theorem clA_len {a : Int} : ∀ {hs : List Int} {fa : List KA}, (clA a hs fa).length = fa.length
  | [], _ => rfl
  | k :: hs, fa => by show (clA a hs _).length = _; rw [clA_len, setC_len]
theorem clA_get {a : Int} : ∀ {hs : List Int} {fa : List KA}, fa.length = 4 → hs.Nodup → (∀ k ∈ hs, 0 ≤ k ∧ k ≤ 3) → ∀ j : Int, 0 ≤ j → purA (clA a hs fa) j = purA fa j ∧ goneA (clA a hs fa) j = goneA fa j ∧ allyA (clA a hs fa) j = if j ∈ hs then clB (allyA fa j) a else allyA fa j
  | [], fa, _, _, _, j, _ => ⟨rfl, rfl, by simp [clA]⟩
  | k :: hs, fa, h4, hn, hk, j, j0 => by
    obtain ⟨k0, k3⟩ := hk k (by simp)
    obtain ⟨hn1, hn2⟩ := List.nodup_cons.1 hn
    obtain ⟨p1, p2, p3⟩ := clA_get (a := a) (hs := hs) (fa := setC fa k (clB (allyA fa k) a)) (by rw [setC_len]; exact h4) hn2 (fun i hi => hk i (List.mem_cons_of_mem _ hi)) j j0
    obtain ⟨q1, q2, q3⟩ := setC_get (fa := fa) (v := clB (allyA fa k) a) k0 j0 (by omega)
    refine ⟨p1.trans q1, p2.trans q2, ?_⟩
    show allyA (clA a hs _) j = _
    rw [p3, q3]
    by_cases e : j = k
    · subst e
      rw [if_pos rfl, if_neg hn1, if_pos (by simp)]
    · rw [if_neg e]
      by_cases hj : j ∈ hs
      · rw [if_pos hj, if_pos (List.mem_cons_of_mem _ hj)]
      · rw [if_neg hj, if_neg (by simp [e, hj])]
/- a side that leaves -/
def heirs (h : Int → Int → Bool) (x : KW) (a : Int) : List Int := sdL h (allyA x.fa a)
def leaC (h : Int → Int → Bool) (x : KW) (a : Int) : Int := if (wf h x == 0) = false then wf h x else if inb a 0 3 = false then 3 else if goneA x.fa a = true then 8 else if 100000000 < x.s + purA x.fa a then 7 else 0
def leaF (h : Int → Int → Bool) (x : KW) (a : Int) : List KA := (clA a (heirs h x a) (shA (purA x.fa a) (heirs h x a).length 0 (heirs h x a) x.fa)).set a.toNat ⟨0, true, 0⟩
def leaS (h : Int → Int → Bool) (x : KW) (a : Int) : Int := x.s + (purA x.fa a - shT (purA x.fa a) (heirs h x a).length 0 (heirs h x a) x.fa)
def seF' (a : Int) (l : List K4) : List K4 := l.filter (fun s => !(s.c1 == a))
def ooF' (a : Int) (l : List K2) : List K2 := l.filter (fun o => !((o.c0 == a) || (o.c1 == a)))
def leaX (h : Int → Int → Bool) (x : KW) (a : Int) : KW := if (leaC h x a == 0) = true then ⟨x.t, leaS h x a, shU a (heirs h x a) 0 x.us, x.fs, leaF h x a, seF' a x.se, ooF' a x.oo⟩ else kz
theorem leaC_zero {h : Int → Int → Bool} {x : KW} {a : Int} : leaC h x a = 0 ↔ wf h x = 0 ∧ inb a 0 3 = true ∧ goneA x.fa a = false ∧ x.s + purA x.fa a ≤ 100000000 := by
  unfold leaC
  by_cases e : wf h x = 0
  · cases e1 : inb a 0 3 <;> cases e2 : goneA x.fa a <;> simp [e]
  · simp [e]
theorem set_get {fa : List KA} {i j : Int} {f : KA} (hi : 0 ≤ i) (hj : 0 ≤ j) (hl : i < fa.length) : purA (fa.set i.toNat f) j = (if j = i then f.c0 else purA fa j) ∧ goneA (fa.set i.toNat f) j = (if j = i then f.c1 else goneA fa j) ∧ allyA (fa.set i.toNat f) j = if j = i then f.c2 else allyA fa j := by
  unfold purA goneA allyA
  rw [getD_z (fa := fa.set _ _), List.getElem?_set]
  by_cases e : j = i
  · subst e
    rw [if_pos rfl, if_pos (by omega), if_pos rfl, if_pos rfl, if_pos rfl]
    exact ⟨rfl, rfl, rfl⟩
  · rw [if_neg (by omega), if_neg e, if_neg e, if_neg e, ← getD_z]
    exact ⟨rfl, rfl, rfl⟩
theorem clB_no : ∀ (m : Fin 16) (k : Fin 4), hasS (m.val : Int) (k.val : Int) = false → clB (m.val : Int) (k.val : Int) = (m.val : Int) := by decide +kernel
theorem clB_same {m k : Int} (hm : inb m 0 15 = true) (k0 : 0 ≤ k) (k3 : k ≤ 3) (h : hasS m k = false) : clB m k = m := by
  have := inb_i hm
  obtain ⟨m', rfl⟩ : ∃ n : Nat, m = n := ⟨m.toNat, by omega⟩
  obtain ⟨k', rfl⟩ : ∃ n : Nat, k = n := ⟨k.toNat, by omega⟩
  exact clB_no ⟨m', by omega⟩ ⟨k', by omega⟩ h
theorem hasS_zero : ∀ k : Fin 4, hasS 0 (k.val : Int) = false := by decide +kernel
theorem has_zero {k : Int} (k0 : 0 ≤ k) (k3 : k ≤ 3) : hasS 0 k = false := by
  obtain ⟨k', rfl⟩ : ∃ n : Nat, k = n := ⟨k.toNat, by omega⟩
  exact hasS_zero ⟨k', by omega⟩
theorem rsF_filter (q : K4 → Bool) : ∀ {l : List K4} {p : Option Int}, rsF p l = true → rsF p (l.filter q) = true := by
  have weak : ∀ {l : List K4} {p p' : Option Int}, (∀ v, leP p v = false → leP p' v = false) → rsF p l = true → rsF p' l = true := by
    intro l p p' hw h
    cases l with
    | nil => rfl
    | cons s l =>
      unfold rsF at h ⊢
      rw [Bool.and_eq_true, Bool.not_eq_true'] at h ⊢
      exact ⟨hw _ h.1, h.2⟩
  intro l
  induction l with
  | nil => intro p h; rfl
  | cons s l ih =>
    intro p h
    unfold rsF at h
    rw [Bool.and_eq_true, Bool.not_eq_true'] at h
    cases e : q s
    · rw [List.filter_cons_of_neg (by simp [e])]
      refine weak (fun v hv => ?_) (ih h.2)
      have h1 := h.1
      cases p with
      | none => rfl
      | some q0 =>
        unfold leP at h1 hv ⊢
        simp at h1 hv ⊢
        omega
    · rw [List.filter_cons_of_pos e]
      unfold rsF
      rw [Bool.and_eq_true, Bool.not_eq_true']
      exact ⟨h.1, ih h.2⟩
theorem seR_side {s : K4} (h : seR s = true) : 0 ≤ s.c1 ∧ s.c1 ≤ 3 := by
  unfold seR at h
  simp [inb] at h
  omega
structure LeaG (h : Int → Int → Bool) (x : KW) (a : Int) : Prop where
  wf0 : wf h (leaX h x a) = 0
  tot : totF (leaX h x a) = totF x
  f4 : (leaX h x a).fa.length = 4
  len : (leaX h x a).us.length = x.us.length
  fs : (leaX h x a).fs = x.fs
  bx : Bd.bf x.us x.fs = 0
  bg : Bd.bf (leaX h x a).us x.fs = 0
  at' : (leaX h x a).fa[a.toNat]? = some ⟨0, true, 0⟩
  st : leaC h (leaX h x a) a = 8
  ids : idsOf a (leaX h x a).us = []
  cnt : ∃ q : Nat, q ≤ 8 ∧ ∀ k ∈ heirs h x a, (idsOf k x.us).length + q ≤ (idsOf k (leaX h x a).us).length ∧ (idsOf k (leaX h x a).us).length ≤ (idsOf k x.us).length + q + 1
  non : heirs h x a = [] → (leaX h x a).s = x.s + purA x.fa a ∧ (idsOf 9 (leaX h x a).us).length = (idsOf 9 x.us).length + (idsOf a x.us).length
  get : ∀ j : Int, 0 ≤ j → j ≤ 3 → goneA (leaX h x a).fa j = (if j = a then true else goneA x.fa j) ∧ allyA (leaX h x a).fa j = if j = a then 0 else clB (allyA x.fa j) a
  hr : ∀ k ∈ heirs h x a, 0 ≤ k ∧ k ≤ 3 ∧ k ≠ a
set_option maxHeartbeats 4000000 in
theorem lea_good {h : Int → Int → Bool} (hh : ∀ m b, inb m 0 15 = true → h m b = hasS m b) {x : KW} {a : Int} (e : leaC h x a = 0) : LeaG h x a := by
  obtain ⟨w0, ia, ga, hs8⟩ := leaC_zero.1 e
  have g := (gdW_iff h x).1 w0
  obtain ⟨a0, a3⟩ := inb_i ia
  have ex : leaX h x a = ⟨x.t, leaS h x a, shU a (heirs h x a) 0 x.us, x.fs, leaF h x a, seF' a x.se, ooF' a x.oo⟩ := by unfold leaX; rw [e]; rfl
  have FG := fun {i : Int} (h0 : 0 ≤ i) (h3 : i ≤ 3) => gd_fac g h0 h3
  have Gd0 := Gd.of g.b
  have pin := purse_in g
  obtain ⟨pa0, pa1⟩ := purA_in g a
  have hset : heirs h x a = sdL h (allyA x.fa a) := rfl
  have hmem : ∀ k, k ∈ heirs h x a ↔ 0 ≤ k ∧ k ≤ 3 ∧ h (allyA x.fa a) k = true := fun k => mem_sdL
  have hnd : (heirs h x a).Nodup := nd_sdL _ _
  have hl4 : (heirs h x a).length ≤ 4 := len_sdL _ _
  have hna : a ∉ heirs h x a := fun hm => by
    obtain ⟨_, _, h1⟩ := (hmem a).1 hm
    exact ((FG a0 a3).r a a0 a3 h1).1 rfl
  have hr : ∀ k ∈ heirs h x a, 0 ≤ k ∧ k ≤ 3 ∧ k ≠ a := fun k hk => by
    obtain ⟨k0, k3, _⟩ := (hmem k).1 hk
    exact ⟨k0, k3, fun e => hna (e ▸ hk)⟩
  have hrange : ∀ k ∈ heirs h x a, 0 ≤ k ∧ k ≤ 3 := fun k hk => ⟨(hr k hk).1, (hr k hk).2.1⟩
  have hsym : ∀ k, 0 ≤ k → k ≤ 3 → (k ∈ heirs h x a ↔ hasS (allyA x.fa k) a = true) := fun k k0 k3 => by
    rw [hmem, ← hh _ _ (FG k0 k3).m, ally_sym w0 (inb_t k0 k3) ia]
    exact ⟨fun h => h.2.2, fun h => ⟨k0, k3, h⟩⟩
  generalize hhs : heirs h x a = hs at *
  generalize hm : hs.length = m at *
  -- the purses
  have SG : (∀ f ∈ shA (purA x.fa a) m 0 hs x.fa, inb f.c0 0 1000000 = true) ∧ purS (shA (purA x.fa a) m 0 hs x.fa) = purS x.fa + shT (purA x.fa a) m 0 hs x.fa ∧ 0 ≤ shT (purA x.fa a) m 0 hs x.fa ∧ shT (purA x.fa a) m 0 hs x.fa ≤ purA x.fa a ∧ (∀ j : Int, 0 ≤ j → j ∉ hs → purA (shA (purA x.fa a) m 0 hs x.fa) j = purA x.fa j) := by
    by_cases hz : m = 0
    · have : hs = [] := List.eq_nil_of_length_eq_zero (by omega)
      subst this
      exact ⟨pin, by simp [shA, shT], by simp [shT], by simpa [shT] using pa0, fun j _ _ => rfl⟩
    · have G := sh_good (m := m) pa0 pa1 (by omega) (hs := hs) (i := 0) g.a4 hrange pin
      refine ⟨G.r, G.s, G.t0, ?_, G.o⟩
      have h1 := G.t1
      rw [hm, Nat.zero_add, Nums.sumTo_all _ _ (by omega) pa0] at h1
      have : Nums.sumTo (purA x.fa a) m 0 = 0 := rfl
      omega
  obtain ⟨S1, S2, S3, S4, S5⟩ := SG
  have SE := shA_eq (n := purA x.fa a) (m := m) (hs := hs) (i := 0) (eqGA.refl x.fa)
  have hl1 : (shA (purA x.fa a) m 0 hs x.fa).length = 4 := by rw [shA_len]; exact g.a4
  have hF : leaF h x a = (clA a hs (shA (purA x.fa a) m 0 hs x.fa)).set a.toNat ⟨0, true, 0⟩ := by unfold leaF; rw [hhs, hm]
  have hS : leaS h x a = x.s + (purA x.fa a - shT (purA x.fa a) m 0 hs x.fa) := by unfold leaS; rw [hhs, hm]
  have hT0 : hs = [] → shT (purA x.fa a) m 0 hs x.fa = 0 := fun hz => by rw [hz]; rfl
  generalize shA (purA x.fa a) m 0 hs x.fa = fb at *
  generalize shT (purA x.fa a) m 0 hs x.fa = T at *
  have CG := fun (j : Int) (j0 : 0 ≤ j) => clA_get (a := a) hl1 hnd hrange j j0
  have hl2 : (clA a hs fb).length = 4 := by rw [clA_len]; exact hl1
  have SG := fun (j : Int) (j0 : 0 ≤ j) => set_get (fa := clA a hs fb) (f := ⟨0, true, 0⟩) a0 j0 (by omega)
  have P : ∀ j : Int, 0 ≤ j → j ≤ 3 → purA (leaF h x a) j = (if j = a then 0 else purA fb j) ∧ goneA (leaF h x a) j = (if j = a then true else goneA x.fa j) ∧ allyA (leaF h x a) j = if j = a then 0 else clB (allyA x.fa j) a := by
    intro j j0 j3
    rw [hF]
    obtain ⟨s1, s2, s3⟩ := SG j j0
    obtain ⟨c1, c2, c3⟩ := CG j j0
    refine ⟨by rw [s1, c1], by rw [s2, c2, ← SE.gone], ?_⟩
    rw [s3, c3, ← SE.ally]
    by_cases ej : j = a
    · rw [if_pos ej, if_pos ej]
    · rw [if_neg ej, if_neg ej]
      by_cases hj : j ∈ hs
      · rw [if_pos hj]
      · rw [if_neg hj, clB_same (FG j0 j3).m a0 a3]
        cases hc : hasS (allyA x.fa j) a
        · rfl
        · exact absurd ((hsym j j0 j3).2 hc) hj
  have hl3 : (leaF h x a).length = 4 := by rw [hF, List.length_set]; exact hl2
  have hgone : ∀ j : Int, 0 ≤ j → j ≠ a → goneA (leaF h x a) j = goneA x.fa j := by
    intro j j0 hj
    by_cases j3 : j ≤ 3
    · rw [(P j j0 j3).2.1, if_neg hj]
    · have e1 : (leaF h x a)[j.toNat]? = none := List.getElem?_eq_none (by omega)
      have e2 : x.fa[j.toNat]? = none := List.getElem?_eq_none (by rw [g.a4]; omega)
      unfold goneA
      rw [getD_z, getD_z, e1, e2]
  have N : ∀ j, 0 ≤ j → j ≤ 3 → inb (allyA (leaF h x a) j) 0 15 = true := by
    intro j j0 j3
    rw [(P j j0 j3).2.2]
    by_cases e1 : j = a
    · rw [if_pos e1]; rfl
    · rw [if_neg e1]; exact (cl_law (FG j0 j3).m a0 a3 a0 a3).2
  have R : ∀ j k, 0 ≤ j → j ≤ 3 → 0 ≤ k → k ≤ 3 → h (allyA (leaF h x a) j) k = if j = a ∨ k = a then false else h (allyA x.fa j) k := by
    intro j k j0 j3 k0 k3
    rw [hh _ _ (N j j0 j3), hh _ _ (FG j0 j3).m, (P j j0 j3).2.2]
    by_cases e1 : j = a
    · rw [if_pos e1, if_pos (.inl e1)]; exact has_zero k0 k3
    · rw [if_neg e1, (cl_law (FG j0 j3).m a0 a3 k0 k3).1]
      by_cases e2 : k = a
      · rw [if_pos (by simpa using e2), if_pos (.inr e2)]
      · rw [if_neg (by simpa using e2), if_neg (by rintro (h1 | h1); exact e1 h1; exact e2 h1)]
  have hlive : ∀ k ∈ hs, goneA x.fa k = false := fun k hk => by
    obtain ⟨k0, k3, _⟩ := hr k hk
    cases hc : goneA x.fa k
    · rfl
    · have h1 := (hsym k k0 k3).1 hk
      rw [(FG k0 k3).g hc, has_zero a0 a3] at h1
      cases h1
  have hto : ∀ n : Nat, (0 ≤ hs.getD (n % hs.length) 9 ∧ hs.getD (n % hs.length) 9 ≤ 3) ∨ hs.getD (n % hs.length) 9 = 9 := fun n => by
    by_cases hz : hs = []
    · subst hz; exact .inr rfl
    · exact .inl (hrange _ (getD_in hz n))
  have G2 : Gd (shU a hs 0 x.us) x.fs := ⟨by rw [shU_len]; exact Gd0.n8, Gd0.n4, fun y hy => by
    rcases shU_mem hy with ⟨h1, _⟩ | ⟨u, h1, _, n, rfl⟩
    · exact Gd0.u y h1
    · exact (uf_iff _).2 ((Gd0.gu h1).handed (hto n)), Gd0.f, rise_map shU_map Gd0.r⟩
  have W : wf h (leaX h x a) = 0 := by
    rw [ex]
    refine (gdW_iff h _).2 ⟨g.t, ?_, G2.bf, hl3, Nat.le_trans (List.length_filter_le _ _) g.s6, Nat.le_trans (List.length_filter_le _ _) g.o6, ?_, ?_, ?_, ?_⟩
    · have hsx := inb_i g.s
      show inb (leaS h x a) 0 100000000 = true
      rw [hS]
      exact inb_t (by omega) (by omega)
    · refine (facs_iff hl3).2 (fun i i0 i3 => ⟨?_, N i i0 i3, ?_, ?_⟩)
      · have hb := purA_all S1 i
        rw [(P i i0 i3).1]
        by_cases e1 : i = a
        · rw [if_pos e1]; rfl
        · rw [if_neg e1]; exact inb_t hb.1 hb.2
      · intro hg
        rw [(P i i0 i3).2.2]
        by_cases e1 : i = a
        · rw [if_pos e1]
        · rw [hgone i i0 e1] at hg
          rw [if_neg e1, (FG i0 i3).g hg, clB_same rfl a0 a3 (has_zero a0 a3)]
      · intro k k0 k3 hk
        rw [R i k i0 i3 k0 k3] at hk
        by_cases e1 : i = a ∨ k = a
        · rw [if_pos e1] at hk; cases hk
        · rw [if_neg e1] at hk
          rw [R k i k0 k3 i0 i3, if_neg (fun h => e1 h.symm)]
          exact (FG i0 i3).r k k0 k3 hk
    · obtain ⟨h1, h2⟩ := seF_iff.1 g.se
      refine seF_iff.2 ⟨rsF_filter _ h1, fun s hs' => ?_⟩
      obtain ⟨m1, m2⟩ := List.mem_filter.1 hs'
      obtain ⟨q1, q2⟩ := h2 s m1
      have hc := seR_side q1
      exact ⟨q1, by rw [hgone _ hc.1 (by simpa using m2)]; exact q2⟩
    · obtain ⟨h1, h2⟩ := ofF_iff.1 g.oo
      refine ofF_iff.2 ⟨ndF_iff.2 ⟨(ndF_iff.1 h1).1.filter _, fun _ _ => by simp⟩, fun p hp => ?_⟩
      obtain ⟨m1, m2⟩ := List.mem_filter.1 hp
      obtain ⟨r, c, al, g1, g2⟩ := h2 p m1
      obtain ⟨r0, r1, r2, r3⟩ := ofR_iff.1 r
      have ha1 : p.c0 ≠ a ∧ p.c1 ≠ a := by simpa using m2
      refine ⟨r, c, ?_, by rw [hgone _ r0 ha1.1]; exact g1, by rw [hgone _ r2 ha1.2]; exact g2⟩
      rw [R _ _ r0 r1 r2 r3, if_neg (by rintro (h | h); exact ha1.1 h; exact ha1.2 h)]
      exact al
    · refine owF_iff.2 (fun y hy h9 => ?_)
      show goneA (leaF h x a) y.c1 = false
      rcases shU_mem hy with ⟨h1, h2⟩ | ⟨u, h1, _, n, rfl⟩
      · have ho := (Gd0.gu h1).o
        rw [hgone _ (by rcases ho with ho | ho; exact ho.1; exact absurd ho h9) h2]
        exact owF_iff.1 g.ow y h1 h9
      · by_cases hz : hs = []
        · subst hz; exact absurd rfl h9
        · have hm := getD_in hz n
          show goneA (leaF h x a) (hs.getD (n % hs.length) 9) = false
          rw [hgone _ (hr _ hm).1 (hr _ hm).2.2]
          exact hlive _ hm
  have hclA : ∀ (hs' : List Int) (fb' : List KA), fb'.length = 4 → (∀ k ∈ hs', 0 ≤ k ∧ k ≤ 3) → purS (clA a hs' fb') = purS fb' := by
    intro hs'
    induction hs' with
    | nil => intro fb' _ _; rfl
    | cons k hs' ih =>
      intro fb' h4 hk
      have hk0 := hk k (by simp)
      show purS (clA a hs' (setC fb' k _)) = _
      rw [ih _ (by rw [setC_len]; exact h4) (fun i hi => hk i (List.mem_cons_of_mem _ hi))]
      unfold setC
      rw [purS_set _ _ _ _ _ (by omega)]
      omega
  have hPS : purS (leaF h x a) = purS x.fa + T - purA x.fa a := by
    have h1 := (CG a a0).1
    rw [S5 a a0 hna] at h1
    rw [hF, purS_set _ _ _ _ _ (by omega), hclA hs fb hl1 hrange, S2]
    unfold purA at h1
    rw [h1]
    show _ = purS x.fa + T - purA x.fa a
    unfold purA
    omega
  refine ⟨W, ?_, by rw [ex]; exact hl3, by rw [ex]; exact shU_len, by rw [ex], g.b, by rw [ex]; exact G2.bf, ?_, ?_, ?_, ?_, ?_, fun j j0 j3 => by rw [ex]; exact (P j j0 j3).2, by rw [hhs]; exact hr⟩
  · rw [ex]
    show leaS h x a + crU (shU a hs 0 x.us) + sumF x.fs + purS (leaF h x a) = x.s + crU x.us + sumF x.fs + purS x.fa
    rw [shU_cr, hPS, hS]
    omega
  · rw [ex]
    show (leaF h x a)[a.toNat]? = _
    rw [hF, List.getElem?_set, if_pos rfl, if_pos (by omega)]
  · unfold leaC
    rw [W, ia]
    have : goneA (leaX h x a).fa a = true := by rw [ex]; show goneA (leaF h x a) a = true; rw [(P a a0 a3).2.1, if_pos rfl]
    rw [this]
    rfl
  · rw [ex]
    show idsOf a (shU a hs 0 x.us) = []
    exact shU_gone hna (by omega)
  · have hN : (idsOf a x.us).length ≤ 8 := Nat.le_trans (idsOf_le a x.us) Gd0.n8
    refine ⟨(idsOf a x.us).length / hs.length, Nat.le_trans (Nat.div_le_self _ _) hN, fun k hk => ?_⟩
    rw [hhs] at hk
    obtain ⟨p, hp, hpk⟩ := List.getElem_of_mem hk
    have hpk' : hs[p]? = some k := by rw [List.getElem?_eq_getElem hp, hpk]
    have e1 := shU_cnt hnd hpk' (hr k hk).2.2 (l := x.us) (n := 0)
    have e2 := cnt_fin ⟨hs.length, by omega⟩ ⟨p, by omega⟩ ⟨(idsOf a x.us).length, by omega⟩ hp
    rw [ex]
    show _ ≤ (idsOf k (shU a hs 0 x.us)).length ∧ (idsOf k (shU a hs 0 x.us)).length ≤ _
    rw [e1]
    dsimp only at e2
    omega
  · intro hz
    rw [hhs] at hz
    have hT := hT0 hz
    subst hz
    rw [ex]
    show leaS h x a = _ ∧ (idsOf 9 (shU a [] 0 x.us)).length = _
    rw [shU_nobody (by omega), hS]
    exact ⟨by rw [hT]; omega, rfl⟩
end Go.Proofs.YtlfnnobkgbfdgaaGreat
end
