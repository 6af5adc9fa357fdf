/- Texts of mine put together (a claim holds at most 60 files): BrdPlain, GfGive. -/
import Derived.Test.YtaeeahgibifkjaaGreatPartG27
import Derived.Test.YtaeeahgibifkjaaGreatPartG28
import Derived.Test.YtaeeahgibifkjaaGreatPartG12
import Derived.Test.YtaeeahgibifkjaaGreatPartG15
import Derived.Test.YtaeeahgibifkjaaGreatPartG24

/- BrdPlain -/
/- Plain facts: a unit that was put is there, all others are as they were, and the board has no fault. No condition. -/
section
namespace Go.Proofs.YtaeeahgibifkjaaGreat
open Bd
set_option linter.unusedVariables false

theorem putU_self (u : K10) : ∀ l : List K10, u ∈ putU u l
  | [] => by unfold putU; simp
  | x :: l => by
    unfold putU
    split
    · simp
    · split
      · simp
      · exact List.mem_cons_of_mem _ (putU_self u l)
theorem putU_keep {u x : K10} (hn : x.c0 ≠ u.c0) : ∀ {l : List K10}, x ∈ l → x ∈ putU u l
  | y :: l, h => by
    unfold putU
    split
    · exact List.mem_cons_of_mem _ h
    · split
      · rename_i h1 h2
        rcases List.mem_cons.1 h with rfl | h
        · exact absurd h2.symm hn
        · exact List.mem_cons_of_mem _ h
      · rcases List.mem_cons.1 h with rfl | h
        · simp
        · exact List.mem_cons_of_mem _ (putU_keep hn h)
/- PutUnit that answered OK -/
theorem pu_ok {us : List K10} {fs : List K3} {u : K10} (h : puC us fs u = 0) : bf us fs = 0 ∧ uf u = 0 ∧ puU us fs u = putU u us ∧ puF us fs u = fs ∧ bf (putU u us) fs = 0 ∧ findU (putU u us) u.c0 = some u ∧ (∀ x ∈ us, x.c0 ≠ u.c0 → findU (putU u us) x.c0 = some x) := by
  rcases pu_cases us fs u with ⟨h1, e, _⟩ | ⟨h1, h2, e, _⟩ | ⟨h1, h2, h3, e, _⟩ | ⟨h1, h2, h3, e, eu, ef⟩
  · rw [e] at h; rw [h] at h1; cases h1
  · rw [e] at h; rw [h] at h2; cases h2
  · rw [e] at h; cases h
  · obtain ⟨n8, n4, huf, hff, hris⟩ := bf_ok h1
    have hr := putU_rise (u := u) hris
    exact ⟨h1, h2, eu, ef, bf_mk h3 n4 (putU_uf huf h2) hff hr, find_mem hr (putU_self u us), fun x hx hn => find_mem hr (putU_keep hn hx)⟩
end Go.Proofs.YtaeeahgibifkjaaGreat
end

/- GfGive -/
/- Plain facts of gifts: a unit that is given away, the board and the world behind it, what there is together, whose the units are. No condition. -/
section
namespace Go.Proofs.YtaeeahgibifkjaaGreat
open Bd
set_option linter.unusedVariables false

/- a unit handed to another owner: it has no job any more -/
def handed (u : K10) (o : Int) : K10 := ⟨u.c0, o, u.c2, u.c3, u.c4, u.c5, 0, 0, 0, 0⟩
def givC (h : Int → Int → Bool) (x : KW) (a i b : Int) : Int := if (prF h x a b == 0) = false then prF h x a b else match findU x.us i with | none => 4 | some u => if (u.c1 == a) = true then 0 else 9
def givU (x : KW) (i b : Int) : List K10 := match findU x.us i with | none => x.us | some u => putU (handed u b) x.us
def givX (h : Int → Int → Bool) (x : KW) (a i b : Int) : KW := if (givC h x a i b == 0) = true then ⟨x.t, x.s, givU x i b, x.fs, x.fa, x.se, x.oo⟩ else kz
def crU : List K10 → Int
  | [] => 0
  | u :: l => u.c5 + crU l
/- what there is together -/
def totF (x : KW) : Int := x.s + crU x.us + sumF x.fs + purS x.fa
theorem GU.handed {u : K10} (g : GU u) {b : Int} (h : (0 ≤ b ∧ b ≤ 3) ∨ b = 9) : GU (handed u b) := ⟨g.i0, g.i1, h, g.x0, g.x1, g.y0, g.y1, g.l0, g.l1, g.c0, g.c1, .inl ⟨rfl, rfl, rfl, rfl⟩⟩
theorem Gd.bf {us : List K10} {fs : List K3} (g : Gd us fs) : bf us fs = 0 := bf_mk g.n8 g.n4 g.u g.f g.r
theorem crU_set : ∀ {l : List K10} {k : Nat} {u : K10}, l[k]? = some u → ∀ x : K10, x.c5 = u.c5 → crU (l.set k x) = crU l
  | [], k, u, h, x, e => by simp at h
  | y :: l, 0, u, h, x, e => by
    have e' : y = u := by simpa using h
    subst e'
    show x.c5 + crU l = y.c5 + crU l
    rw [e]
  | y :: l, k + 1, u, h, x, e => by
    show y.c5 + crU (l.set k x) = y.c5 + crU l
    rw [crU_set (by simpa using h) x e]
theorem ids_set : ∀ {l : List K10} {k : Nat} {u : K10} {b : Int}, l[k]? = some u → u.c1 ≠ b → ∀ x : K10, x.c1 = b → (idsOf b (l.set k x)).length = (idsOf b l).length + 1
  | [], k, u, b, h, hn, x, e => by simp at h
  | y :: l, 0, u, b, h, hn, x, e => by
    have e' : y = u := by simpa using h
    subst e'
    show (idsOf b (x :: l)).length = (idsOf b (y :: l)).length + 1
    unfold idsOf
    have h1 : (x.c1 == b) = true := by simpa using e
    have h2 : (y.c1 == b) = false := by simpa using hn
    rw [h1, h2]
    simp
  | y :: l, k + 1, u, b, h, hn, x, e => by
    show (idsOf b (y :: l.set k x)).length = (idsOf b (y :: l)).length + 1
    have ih := ids_set (b := b) (by simpa using h : l[k]? = some u) hn x e
    unfold idsOf
    cases y.c1 == b
    · simpa using ih
    · simp at ih ⊢
      omega
/- owners of units may turn -/
theorem gd_units {h : Int → Int → Bool} {x : KW} {us' : List K10} (g : GdW h x) (hb : Bd.bf us' x.fs = 0) (ho : ∀ u ∈ us', u.c1 ≠ 9 → goneA x.fa u.c1 = false) : GdW h ⟨x.t, x.s, us', x.fs, x.fa, x.se, x.oo⟩ :=
  ⟨g.t, g.s, hb, g.a4, g.s6, g.o6, g.a, g.se, g.oo, owF_iff.2 ho⟩
theorem givC_zero {h : Int → Int → Bool} {x : KW} {a i b : Int} : givC h x a i b = 0 ↔ prF h x a b = 0 ∧ ∃ u, findU x.us i = some u ∧ u.c1 = a := by
  unfold givC
  by_cases e : prF h x a b = 0
  · cases hf : findU x.us i with
    | none => simp [e]
    | some u =>
      by_cases hu : u.c1 = a
      · simp [e, hu]
      · simp [e, hu]
  · simp [e]
structure GivG (h : Int → Int → Bool) (x : KW) (a i b : Int) : Prop where
  at' : ∃ k u, x.us[k]? = some u ∧ u.c0 = i ∧ u.c1 = a ∧ (givX h x a i b).us = x.us.set k (handed u b)
  fnd : ∃ u, findU (givX h x a i b).us i = some (handed u b)
  wf0 : wf h (givX h x a i b) = 0
  tot : totF (givX h x a i b) = totF x
  ids : (idsOf b (givX h x a i b).us).length = (idsOf b x.us).length + 1
  bx : Bd.bf x.us x.fs = 0
  bg : Bd.bf (givX h x a i b).us x.fs = 0
  ob : own b = true
  len : (givX h x a i b).us.length = x.us.length
  oth : ∀ (j : Nat) (y : K10), x.us[j]? = some y → y.c0 ≠ i → (givX h x a i b).us[j]? = some y
theorem giv_good {h : Int → Int → Bool} {x : KW} {a i b : Int} (e : givC h x a i b = 0) : GivG h x a i b := by
  obtain ⟨e1, u, hf, hu⟩ := givC_zero.1 e
  obtain ⟨w0, s0⟩ := prF_zero.1 e1
  obtain ⟨ia, ib, hab, ga, gb⟩ := sdF_zero.1 s0
  have g := (gdW_iff h x).1 w0
  obtain ⟨b0, b3⟩ := inb_i ib
  have G := Gd.of g.b
  obtain ⟨hm, hid⟩ := find_id hf
  obtain ⟨k, hk, hku⟩ := List.getElem_of_mem hm
  have hk' : x.us[k]? = some u := by rw [List.getElem?_eq_getElem hk, hku]
  have hset : putU (handed u b) x.us = x.us.set k (handed u b) := (set_put (u' := handed u b) G.r hk' rfl).symm
  have ex : givX h x a i b = ⟨x.t, x.s, x.us.set k (handed u b), x.fs, x.fa, x.se, x.oo⟩ := by
    unfold givX givU
    rw [e, hf, ← hset]
    rfl
  have Gu := G.gu hm
  have G2 : Gd (x.us.set k (handed u b)) x.fs := by rw [← hset]; exact G.put hm rfl (Gu.handed (.inl ⟨b0, b3⟩))
  have W2 : wf h (givX h x a i b) = 0 := by
    rw [ex]
    refine (gdW_iff h _).2 (gd_units g G2.bf (fun y hy h9 => ?_))
    rcases List.mem_or_eq_of_mem_set hy with hy | rfl
    · exact owF_iff.1 g.ow y hy h9
    · exact gb
  have hfs : findU (x.us.set k (handed u b)) i = some (handed u b) := by
    rw [← hset, ← hid]
    exact find_mem (x := handed u b) (putU_rise G.r) (putU_self (handed u b) x.us)
  refine ⟨⟨k, u, hk', hid, hu, by rw [ex]⟩, ⟨u, by rw [ex]; exact hfs⟩, W2, ?_, ?_, g.b, by rw [ex]; exact G2.bf, ?_, ?_, ?_⟩
  · rw [ex]
    show x.s + crU (x.us.set k (handed u b)) + sumF x.fs + purS x.fa = x.s + crU x.us + sumF x.fs + purS x.fa
    rw [crU_set hk' (handed u b) rfl]
  · rw [ex]
    exact ids_set hk' (by rw [hu]; exact hab) (handed u b) rfl
  · unfold own; rw [ib]; rfl
  · rw [ex]; show (x.us.set k (handed u b)).length = _; simp
  · intro j y hy hne
    rw [ex]
    show (x.us.set k (handed u b))[j]? = some y
    rw [List.getElem?_set, if_neg, hy]
    rintro rfl
    rw [hk'] at hy
    cases hy
    exact hne hid
end Go.Proofs.YtaeeahgibifkjaaGreat
end
