/- Texts of mine put together (a claim holds at most 60 files): GfSeat, AlSpec, PfImpl, SeatImpl. -/
import Derived.Test.YtgfdfpaimlcgaaaPartS20
import Derived.Test.YtgfdfpaimlcgaaaPartS17
import Derived.Test.YtgfdfpaimlcgaaaPartS01

/- GfSeat -/
/- Plain facts of seats: the place of a client's seat, a seat that is taken. No condition. -/
section
namespace Go.Proofs.Ytgfdfpaimlcgaaa
open Bd
set_option linter.unusedVariables false

/- how many seats are of clients below c; is there one of c; that -/
def sPl : List K4 → Int → Nat
  | [], _ => 0
  | s :: l, c => if s.c0 < c then sPl l c + 1 else 0
def sTh (l : List K4) (c : Int) : Bool := l.any (fun s => s.c0 == c)
def sGet : List K4 → Int → K4
  | [], _ => K4.z
  | s :: l, c => if (s.c0 == c) = true then s else sGet l c
abbrev RsP (l : List K4) : Prop := l.Pairwise (fun a b => a.c0 < b.c0)
theorem rs_cons {s : K4} {l : List K4} : RsP (s :: l) ↔ (∀ x ∈ l, s.c0 < x.c0) ∧ RsP l := List.pairwise_cons
theorem rs_some : ∀ {l : List K4} {p : Int}, rsF (some p) l = true ↔ (∀ s ∈ l, p < s.c0) ∧ RsP l
  | [], p => by simp [rsF]
  | s :: l, p => by
    unfold rsF
    rw [Bool.and_eq_true, rs_some (l := l), rs_cons]
    have e : (!(leP (some p) s.c0)) = true ↔ p < s.c0 := by
      show (!(decide (s.c0 ≤ p))) = true ↔ _
      simp
    rw [e]
    constructor
    · rintro ⟨h1, h2, h3⟩
      refine ⟨fun x hx => ?_, h2, h3⟩
      rcases List.mem_cons.1 hx with rfl | hx
      · exact h1
      · have := h2 x hx; omega
    · rintro ⟨h1, h2, h3⟩
      exact ⟨h1 s (by simp), h2, h3⟩
theorem rs_iff {l : List K4} : rsF none l = true ↔ RsP l := by
  cases l with
  | nil => simp [rsF]
  | cons s l =>
    unfold rsF
    rw [Bool.and_eq_true, rs_some, rs_cons]
    constructor
    · rintro ⟨_, h⟩; exact h
    · intro h; exact ⟨rfl, h⟩
theorem sPl_le (c : Int) : ∀ l : List K4, sPl l c ≤ l.length
  | [] => by simp [sPl]
  | s :: l => by
    have := sPl_le c l
    unfold sPl
    split <;> simp <;> omega
theorem sPl_iff {c : Int} : ∀ {l : List K4}, RsP l → ∀ {k : Nat} {x : K4}, l[k]? = some x → (x.c0 < c ↔ k < sPl l c)
  | [], _, k, x, h => by simp at h
  | s :: l, hp, k, x, h => by
    obtain ⟨h1, h2⟩ := List.pairwise_cons.1 hp
    unfold sPl
    by_cases hs : s.c0 < c
    · rw [if_pos hs]
      cases k with
      | zero =>
        have : s = x := by simpa using h
        subst this
        simp [hs]
      | succ k =>
        rw [sPl_iff h2 (by simpa using h)]
        omega
    · rw [if_neg hs]
      cases k with
      | zero =>
        have : s = x := by simpa using h
        subst this
        simp [hs]
      | succ k =>
        have hx : x ∈ l := List.mem_of_getElem? (by simpa using h)
        have := h1 x hx
        constructor <;> intro <;> omega
theorem sTh_step {l : List K4} {c : Int} {k : Nat} {x : K4} (h : l[k]? = some x) : sTh (l.drop k) c = (x.c0 == c || sTh (l.drop (k + 1)) c) := by
  have h' := List.getElem?_eq_some_iff.1 h
  rw [List.drop_eq_getElem_cons h'.1, h'.2]; rfl
theorem sGet_step {l : List K4} {c : Int} {k : Nat} {x : K4} (h : l[k]? = some x) : sGet (l.drop k) c = if (x.c0 == c) = true then x else sGet (l.drop (k + 1)) c := by
  have h' := List.getElem?_eq_some_iff.1 h
  rw [List.drop_eq_getElem_cons h'.1, h'.2]; rfl
theorem sTh_iff {l : List K4} {c : Int} : sTh l c = true ↔ ∃ s ∈ l, s.c0 = c := by
  unfold sTh
  rw [List.any_eq_true]
  constructor
  · rintro ⟨s, h1, h2⟩; exact ⟨s, h1, by simpa using h2⟩
  · rintro ⟨s, h1, h2⟩; exact ⟨s, h1, by simpa using h2⟩
/- in rising seats who is there is found -/
theorem sGet_mem {l : List K4} (hp : RsP l) {y : K4} (hy : y ∈ l) : sTh l y.c0 = true ∧ sGet l y.c0 = y := by
  refine ⟨sTh_iff.2 ⟨y, hy, rfl⟩, ?_⟩
  induction l with
  | nil => simp at hy
  | cons s l ih =>
    obtain ⟨h1, h2⟩ := List.pairwise_cons.1 hp
    show (if (s.c0 == y.c0) = true then s else sGet l y.c0) = _
    rcases List.mem_cons.1 hy with rfl | hy
    · rw [if_pos (by simp)]
    · have := h1 y hy
      rw [if_neg (by simp; omega)]
      exact ih h2 hy
theorem sTh_at {l : List K4} {c : Int} (hp : RsP l) {y : K4} (h : l[sPl l c]? = some y) : (y.c0 == c) = sTh l c ∧ (sTh l c = true → sGet l c = y) := by
  have hy : y ∈ l := List.mem_of_getElem? h
  have e1 : ¬ y.c0 < c := by rw [sPl_iff hp h]; omega
  cases ec : y.c0 == c
  · have hn : sTh l c = false := by
      rw [Bool.eq_false_iff]
      intro ht
      obtain ⟨s, hs, hsc⟩ := sTh_iff.1 ht
      obtain ⟨k, hk, hks⟩ := List.getElem_of_mem hs
      have hk' : l[k]? = some s := by rw [List.getElem?_eq_getElem hk, hks]
      have h2 : ¬ k < sPl l c := by rw [← sPl_iff hp hk']; omega
      have hne : y.c0 ≠ c := by simpa using ec
      by_cases hkp : k = sPl l c
      · subst hkp; rw [h] at hk'; cases hk'; exact hne hsc
      · have hlt : sPl l c < l.length := (List.getElem?_eq_some_iff.1 h).1
        have := List.pairwise_iff_getElem.1 hp (sPl l c) k hlt hk (by omega)
        rw [hks, (List.getElem?_eq_some_iff.1 h).2] at this
        omega
    exact ⟨hn.symm, fun h => by rw [hn] at h; cases h⟩
  · have e : y.c0 = c := by simpa using ec
    subst e
    obtain ⟨h1, h2⟩ := sGet_mem hp hy
    exact ⟨h1.symm, fun _ => h2⟩
theorem sTh_end {l : List K4} {c : Int} (hp : RsP l) (h : sPl l c = l.length) : sTh l c = false := by
  rw [Bool.eq_false_iff]
  intro ht
  obtain ⟨s, hs, hsc⟩ := sTh_iff.1 ht
  obtain ⟨k, hk, hks⟩ := List.getElem_of_mem hs
  have hk' : l[k]? = some s := by rw [List.getElem?_eq_getElem hk, hks]
  have := (sPl_iff (c := c) hp hk').2 (by omega)
  omega
/- SeatOf -/
def soC (h : Int → Int → Bool) (x : KW) (c : Int) : Int := if (wf h x == 0) = false then wf h x else if sTh x.se c = false then 4 else 0
def soS (h : Int → Int → Bool) (x : KW) (c : Int) : K4 := if (soC h x c == 0) = true then sGet x.se c else K4.z
theorem soC_zero {h : Int → Int → Bool} {x : KW} {c : Int} : soC h x c = 0 ↔ wf h x = 0 ∧ sTh x.se c = true := by
  unfold soC
  by_cases e : wf h x = 0
  · cases e2 : sTh x.se c <;> simp [e]
  · simp [e]
theorem gd_rs {h : Int → Int → Bool} {x : KW} (g : GdW h x) : RsP x.se := rs_iff.1 (seF_iff.1 g.se).1
/- TakeSeat -/
def tsC (h : Int → Int → Bool) (x : KW) (c f m : Int) : Int := if (wf h x == 0) = false then wf h x else if (inb c 0 5 && (inb f 0 3 && inb m 0 2047)) = false then 3 else if goneA x.fa f = true then 8 else if sTh x.se c = false ∧ 6 ≤ x.se.length then 7 else 0
def tsL (l : List K4) (c f m : Int) : List K4 := if sTh l c = true then l.set (sPl l c) ⟨c, f, m, (sGet l c).c3⟩ else l.take (sPl l c) ++ ⟨c, f, m, 0⟩ :: l.drop (sPl l c)
def tsX (h : Int → Int → Bool) (x : KW) (c f m : Int) : KW := if (tsC h x c f m == 0) = true then ⟨x.t, x.s, x.us, x.fs, x.fa, tsL x.se c f m, x.oo⟩ else kz
theorem tsC_zero {h : Int → Int → Bool} {x : KW} {c f m : Int} : tsC h x c f m = 0 ↔ wf h x = 0 ∧ inb c 0 5 = true ∧ inb f 0 3 = true ∧ inb m 0 2047 = true ∧ goneA x.fa f = false ∧ (sTh x.se c = true ∨ x.se.length < 6) := by
  unfold tsC
  by_cases e : wf h x = 0
  · cases e1 : inb c 0 5 <;> cases e2 : inb f 0 3 <;> cases e3 : inb m 0 2047 <;> cases e4 : goneA x.fa f <;> cases e5 : sTh x.se c <;> simp [e]
    all_goals try omega
  · simp [e]
theorem sPl_found {l : List K4} {c : Int} (hp : RsP l) (h : sTh l c = true) : l[sPl l c]? = some (sGet l c) ∧ (sGet l c).c0 = c := by
  have hlt : sPl l c < l.length := by
    have := sPl_le c l
    by_cases e : sPl l c = l.length
    · rw [sTh_end hp e] at h; cases h
    · omega
  have hg : l[sPl l c]? = some l[sPl l c] := List.getElem?_eq_getElem hlt
  obtain ⟨h1, h2⟩ := sTh_at hp hg
  rw [h2 h]
  refine ⟨hg, ?_⟩
  rw [h] at h1
  simpa using h1
theorem tsL_mem {l : List K4} {c f m : Int} (hp : RsP l) : (∀ y ∈ tsL l c f m, y ∈ l ∨ y = ⟨c, f, m, (if sTh l c = true then (sGet l c).c3 else 0)⟩) ∧ (⟨c, f, m, (if sTh l c = true then (sGet l c).c3 else 0)⟩ : K4) ∈ tsL l c f m ∧ (∀ y ∈ l, y.c0 ≠ c → y ∈ tsL l c f m) ∧ RsP (tsL l c f m) ∧ (tsL l c f m).length ≤ (if sTh l c = true then l.length else l.length + 1) := by
  have hle := sPl_le c l
  unfold tsL
  by_cases h : sTh l c = true
  · obtain ⟨hg, hc⟩ := sPl_found hp h
    have hlt := (List.getElem?_eq_some_iff.1 hg).1
    simp only [if_pos h]
    refine ⟨fun y hy => ?_, List.mem_set hlt _, fun y hy hne => ?_, ?_, ?_⟩
    · rcases List.mem_or_eq_of_mem_set hy with hy | hy
      · exact .inl hy
      · exact .inr hy
    · obtain ⟨k, hk, hky⟩ := List.getElem_of_mem hy
      have hne' : sPl l c ≠ k := by
        rintro rfl
        rw [List.getElem?_eq_getElem hk, hky] at hg
        cases hg
        exact hne hc
      refine List.mem_of_getElem? (i := k) ?_
      rw [List.getElem?_set, if_neg hne', List.getElem?_eq_getElem hk, hky]
    · have e : (l.set (sPl l c) ⟨c, f, m, (sGet l c).c3⟩).map K4.c0 = l.map K4.c0 := by
        rw [List.map_set]
        show (l.map K4.c0).set (sPl l c) c = l.map K4.c0
        have : (l.map K4.c0)[sPl l c]? = some c := by rw [List.getElem?_map, hg]; simp [hc]
        obtain ⟨h1, h2⟩ := List.getElem?_eq_some_iff.1 this
        have h3 := List.set_getElem_self h1
        rw [h2] at h3
        exact h3
      have hq : ∀ q : List K4, RsP q ↔ (q.map K4.c0).Pairwise (· < ·) := fun q => by rw [List.pairwise_map]
      rw [hq, e, ← hq]; exact hp
    · simp
  · have h' : sTh l c = false := by simpa using h
    simp only [if_neg h]
    have hT : ∀ y ∈ l.take (sPl l c), y.c0 < c := by
      intro y hy
      obtain ⟨k, hk, hky⟩ := List.getElem_of_mem hy
      have hk2 : k < sPl l c := by rw [List.length_take] at hk; omega
      have : l[k]? = some y := by
        have h3 := List.getElem?_eq_getElem hk
        rw [hky, List.getElem?_take_of_lt hk2] at h3
        exact h3
      exact (sPl_iff hp this).2 hk2
    have hD : ∀ y ∈ l.drop (sPl l c), c < y.c0 := by
      intro y hy
      obtain ⟨k, hk, hky⟩ := List.getElem_of_mem hy
      have : l[sPl l c + k]? = some y := by
        have h3 := List.getElem?_eq_getElem hk
        rw [hky, List.getElem?_drop] at h3
        exact h3
      have h1 : ¬ y.c0 < c := by rw [sPl_iff hp this]; omega
      have h2 : y.c0 ≠ c := fun e => by rw [sTh_iff.2 ⟨y, List.mem_of_getElem? this, e⟩] at h'; cases h'
      omega
    refine ⟨fun y hy => ?_, by simp, fun y hy hne => ?_, ?_, ?_⟩
    · rcases List.mem_append.1 hy with hy | hy
      · exact .inl (List.mem_of_mem_take hy)
      · rcases List.mem_cons.1 hy with rfl | hy
        · exact .inr rfl
        · exact .inl (List.mem_of_mem_drop hy)
    · rw [← List.take_append_drop (sPl l c) l] at hy
      rcases List.mem_append.1 hy with hy | hy
      · exact List.mem_append_left _ hy
      · exact List.mem_append_right _ (List.mem_cons_of_mem _ hy)
    · show List.Pairwise _ _
      rw [List.pairwise_append, List.pairwise_cons]
      refine ⟨List.Pairwise.sublist (List.take_sublist _ _) hp, ⟨hD, List.Pairwise.sublist (List.drop_sublist _ _) hp⟩, fun a ha b hb => ?_⟩
      have h1 := hT a ha
      rcases List.mem_cons.1 hb with rfl | hb
      · exact h1
      · have := hD b hb; omega
    · simp
      omega
/- a seat that was taken -/
structure TsG (h : Int → Int → Bool) (x : KW) (c f m : Int) : Prop where
  wf0 : wf h (tsX h x c f m) = 0
  mine : soC h (tsX h x c f m) c = 0 ∧ (soS h (tsX h x c f m) c).c1 = f ∧ (soS h (tsX h x c f m) c).c2 = m
  others : ∀ y ∈ x.se, y.c0 ≠ c → soC h (tsX h x c f m) y.c0 = 0 ∧ soS h (tsX h x c f m) y.c0 = y
theorem tsX_eq {h : Int → Int → Bool} {x : KW} {c f m : Int} (e : tsC h x c f m = 0) : tsX h x c f m = ⟨x.t, x.s, x.us, x.fs, x.fa, tsL x.se c f m, x.oo⟩ := by unfold tsX; rw [e]; rfl
theorem so_mem {h : Int → Int → Bool} {x : KW} (w0 : wf h x = 0) {y : K4} (hy : y ∈ x.se) : soC h x y.c0 = 0 ∧ soS h x y.c0 = y := by
  obtain ⟨h1, h2⟩ := sGet_mem (gd_rs ((gdW_iff h x).1 w0)) hy
  have e := soC_zero.2 ⟨w0, h1⟩
  refine ⟨e, ?_⟩
  unfold soS
  rw [e, if_pos (by rfl)]
  exact h2
theorem ts_good {h : Int → Int → Bool} {x : KW} {c f m : Int} (e : tsC h x c f m = 0) : TsG h x c f m := by
  obtain ⟨w0, ic, jf, im, gf, hroom⟩ := tsC_zero.1 e
  have g := (gdW_iff h x).1 w0
  have hx := tsX_eq e
  obtain ⟨m1, m2, m3, m4, m5⟩ := tsL_mem (c := c) (f := f) (m := m) (gd_rs g)
  have hsR := (seF_iff.1 g.se).2
  have w2 : wf h (tsX h x c f m) = 0 := by
    rw [hx]
    refine (gdW_iff h _).2 ⟨g.t, g.s, g.b, g.a4, ?_, g.o6, g.a, seF_iff.2 ⟨rs_iff.2 m4, fun s hs => ?_⟩, g.oo, g.ow⟩
    · show (tsL x.se c f m).length ≤ 6
      have := g.s6
      by_cases h5 : sTh x.se c = true
      · rw [if_pos h5] at m5; omega
      · rw [if_neg h5] at m5
        rcases hroom with h6 | h6
        · exact absurd h6 h5
        · omega
    · rcases m1 s hs with h1 | rfl
      · exact hsR s h1
      · refine ⟨?_, gf⟩
        unfold seR
        have h3 : inb (if sTh x.se c = true then (sGet x.se c).c3 else 0) 0 999 = true := by
          by_cases h5 : sTh x.se c = true
          · rw [if_pos h5]
            have := (hsR _ (List.mem_of_getElem? (sPl_found (gd_rs g) h5).1)).1
            unfold seR at this
            simp only [Bool.and_eq_true] at this
            exact this.2.2.2
          · rw [if_neg h5]; rfl
        simp only [ic, jf, im, h3, Bool.and_self]
  refine ⟨w2, ?_, fun y hy hne => so_mem w2 (by rw [hx]; exact m3 y hy hne)⟩
  have hm : (⟨c, f, m, (if sTh x.se c = true then (sGet x.se c).c3 else 0)⟩ : K4) ∈ (tsX h x c f m).se := by rw [hx]; exact m2
  obtain ⟨h1, h2⟩ := so_mem w2 hm
  refine ⟨h1, ?_, ?_⟩
  · show (soS h (tsX h x c f m) c).c1 = f
    exact (congrArg K4.c1 h2)
  · exact (congrArg K4.c2 h2)
end Go.Proofs.Ytgfdfpaimlcgaaa
end

/- AlSpec -/
/- The contracts of AreAllies, the program's and the model's. Condition: the world is a copy that lies in memory as it was laid there, with no more than 1048576 parts. -/
section
namespace Go.Proofs.Ytgfdfpaimlcgaaa
open Go.ChangeShapes Go.WideShapes Go.ChangeAt Go.RowKit
open Bd
set_option linter.unusedVariables false

def areA (h : Int → Int → Bool) (x : KW) (a b : Int) : Bool := inb a 0 3 && inb b 0 3 && (wf h x == 0) && h (allyA x.fa a) b
end Go.Proofs.Ytgfdfpaimlcgaaa
end

/- PfImpl -/
/- The contracts of the program's faults of two sides and of one. Condition: the world is a copy that lies in memory as it was laid there. -/
section
namespace Go.Proofs.Ytgfdfpaimlcgaaa
open Go.ChangeShapes Go.WideShapes Go.ChangeAt Go.RowKit
open Bd
set_option linter.unusedVariables false

/- one side -/
def sfF (h : Int → Int → Bool) (x : KW) (i : Int) : Int := if (wf h x == 0) = false then wf h x else if inb i 0 3 = false then 3 else 0
end Go.Proofs.Ytgfdfpaimlcgaaa
end

/- SeatImpl -/
/- The contracts of SeatOf and of its model, and of their parts. Condition: the lists lie in memory as they were laid there, and seats rise. -/
section
namespace Go.Proofs.Ytgfdfpaimlcgaaa
open Go.ChangeShapes Go.WideShapes Go.ChangeAt Go.RowKit
open Bd
set_option linter.unusedVariables false

def cmpI (x y : Int) : Int := if x < y then -1 else if y < x then 1 else 0
theorem isNaN_c (x : Int) (w : World) : Calls Try.prog 80 #[.int .i64 x] w fun e w' => e = .returned (.bool false) ∧ w' = w := by
  have h : (x != x) = false := by simp
  go_enter Try.func80, Try.ntmps80
  go_wp2
  go_ret
  exact ⟨rfl, rfl⟩
theorem compare_c (x y : Int) (w : World) : Calls Try.prog 54 #[.int .i64 x, .int .i64 y] w fun e w' => e = .returned (.int .i64 (cmpI x y)) ∧ w' = w := by
  have q0 := fun w => isNaN_c x w
  have q1 := fun w => isNaN_c y w
  unfold cmpI
  by_cases h1 : x < y
  · rw [if_pos h1]
    go_enter Try.func54, Try.ntmps54
    go_wp2_with (first | (go_at_call 80; with_reducible refine (q0 _).mono ?_; rintro e w1 ⟨rfl, hw1⟩; obtain rfl := hw1.symm) | (go_at_call 80; with_reducible refine (q1 _).mono ?_; rintro e w1 ⟨rfl, hw1⟩; obtain rfl := hw1.symm))
    go_ret
    exact ⟨rfl, rfl⟩
  · rw [if_neg h1]
    have d1 : decide (x < y) = false := decide_eq_false h1
    by_cases h2 : y < x
    · rw [if_pos h2]
      go_enter Try.func54, Try.ntmps54
      go_wp2_with (first | (go_at_call 80; with_reducible refine (q0 _).mono ?_; rintro e w1 ⟨rfl, hw1⟩; obtain rfl := hw1.symm) | (go_at_call 80; with_reducible refine (q1 _).mono ?_; rintro e w1 ⟨rfl, hw1⟩; obtain rfl := hw1.symm))
      go_ret
      exact ⟨rfl, rfl⟩
    · rw [if_neg h2]
      have d2 : decide (y < x) = false := decide_eq_false h2
      go_enter Try.func54, Try.ntmps54
      go_wp2_with (first | (go_at_call 80; with_reducible refine (q0 _).mono ?_; rintro e w1 ⟨rfl, hw1⟩; obtain rfl := hw1.symm) | (go_at_call 80; with_reducible refine (q1 _).mono ?_; rintro e w1 ⟨rfl, hw1⟩; obtain rfl := hw1.symm))
      go_ret
      exact ⟨rfl, rfl⟩
theorem cmpSeat_c (x : K4) (c : Int) (w : World) : Calls Try.prog 53 #[.agg x.v, .int .i64 c] w fun e w' => e = .returned (.int .i64 (cmpI x.c0 c)) ∧ w' = w.alloc (.cells x.v 47) := by
  have q0 := fun w => compare_c x.c0 c w
  go_enter Try.func53, Try.ntmps53
  go_wp2_with (go_at_call 54; refine (q0 _).mono ?_; rintro e w1 ⟨rfl, hw1⟩; obtain rfl := hw1.symm)
  go_ret
  exact ⟨rfl, rfl⟩
theorem cmpI_lt {x y : Int} (h : x < y) : cmpI x y = -1 := by unfold cmpI; rw [if_pos h]
theorem cmpI_ge {x y : Int} (h : ¬ x < y) : decide (cmpI x y < 0) = false := by
  unfold cmpI; rw [if_neg h]; split <;> rfl
theorem cmpI_zero {x y : Int} : (cmpI x y == 0) = (x == y) := by
  unfold cmpI
  by_cases h1 : x < y
  · rw [if_pos h1]; symm; simp; omega
  · rw [if_neg h1]
    by_cases h2 : y < x
    · rw [if_pos h2]; symm; simp; omega
    · rw [if_neg h2]; symm; simp; omega
set_option maxRecDepth 20000 in
set_option maxHeartbeats 8000000 in
theorem bsearch_c (a : Option Addr) (m cap : Nat) (l : List K4) (c : Int) (hl : l.length = m) (hm : m ≤ 6) (hp : RsP l) (w : World) (hS : ArgS w a l) :
    Calls Try.prog 52 #[.slice a m cap, .int .i64 c, .func (.func 53) #[] #[]] w fun e w' => e = .returned (.tuple #[.int .i64 (sPl l c : Int), .bool (sTh l c)]) ∧ Below w.heap.size w w' := by
  have qc := fun x w => cmpSeat_c x c w
  have Hl : Hid (l.length = m) := hl
  have HS : Hid (ArgS w a l) := hS
  have hle := sPl_le c l
  have Hend : Hid (sPl l c = l.length → sTh l c = false) := sTh_end hp
  have Hat : Hid (∀ y, l[sPl l c]? = some y → (y.c0 == c) = sTh l c) := fun y h => (sTh_at hp h).1
  have Hiff : Hid (∀ (k : Nat) (x : K4), l[k]? = some x → (x.c0 < c ↔ k < sPl l c)) := fun k x h => sPl_iff hp h
  rw [hl] at hle
  clear hl hS hp
  generalize sPl l c = P at hle Hend Hat Hiff ⊢
  generalize sTh l c = T at Hend Hat ⊢
  go_enter Try.func52, Try.ntmps52
  go_wp2_with fail
  go_loopw [9, 10] (fun i j wr => ∃ u v : Nat, i = .int .i64 u ∧ j = .int .i64 v ∧ u ≤ P ∧ P ≤ v ∧ v ≤ m ∧ Below w.heap.size w wr) (fun i j _ => (intOf j).toNat - (intOf i).toNat)
  case atStart => exact ⟨0, m, rfl, rfl, Nat.zero_le _, hle, Nat.le_refl _, Below.refl _ _⟩
  case round =>
    obtain ⟨u, v, rfl, rfl, hu, hv, hvm, kb⟩ := hrel
    by_cases hlt : u < v
    · have hlt' : (u : Int) < (v : Int) := by omega
      obtain ⟨h, hh⟩ : ∃ h : Nat, h = (u + v) / 2 := ⟨_, rfl⟩
      have hI : ((u : Int) + (v : Int)) / 2 = (h : Int) := by omega
      have hr : u ≤ h ∧ h < v := by omega
      clear hh
      obtain ⟨x, hx⟩ : ∃ x, l[h]? = some x := ⟨_, List.getElem?_eq_getElem (by have := Hl.out; omega)⟩
      obtain ⟨b, off, rfl, hb, hat⟩ := HS.out.at hx
      obtain ⟨x0, x1, x2, x3, xl⟩ := (hat.later hb kb).one (Nat.lt_of_lt_of_le hb kb.size) hx
      have hi := Hiff.out h x hx
      have hhm : (h : Int) < (m : Int) := by omega
      clear hx hat
      have k4 := kb.alloc kb.size (.cells x.v 47)
      have qx := fun w => qc x w
      by_cases hc : x.c0 < c
      · have e0 := cmpI_lt hc
        rw [e0] at qx
        go_upto_region 5 with fail
        try rw [hI]
        go_wp2_with (go_at_call 53; refine (qx _).mono ?_; rintro e w1 ⟨rfl, hw1⟩; obtain rfl := hw1.symm)
        go_roundw
        case rel => exact ⟨h + 1, v, by go_num, rfl, by omega, hv, hvm, k4⟩
        case measure => simp [intOf]; omega
      · have e0 := cmpI_ge hc
        go_upto_region 5 with fail
        try rw [hI]
        go_wp2_with (go_at_call 53; refine (qx _).mono ?_; rintro e w1 ⟨rfl, hw1⟩; obtain rfl := hw1.symm)
        go_roundw
        case rel => exact ⟨u, h, rfl, rfl, hu, by omega, by omega, k4⟩
        case measure => simp [intOf]; omega
    · obtain rfl : u = v := by omega
      obtain rfl : u = P := by omega
      have hlt' : ¬ (u : Int) < (u : Int) := by omega
      by_cases hum : u < m
      · have hum' : (u : Int) < (m : Int) := by omega
        obtain ⟨x, hx⟩ : ∃ x, l[u]? = some x := ⟨_, List.getElem?_eq_getElem (by have := Hl.out; omega)⟩
        obtain ⟨b, off, rfl, hb, hat⟩ := HS.out.at hx
        obtain ⟨x0, x1, x2, x3, xl⟩ := (hat.later hb kb).one (Nat.lt_of_lt_of_le hb kb.size) hx
        have hT := Hat.out x hx
        rw [← cmpI_zero] at hT
        have k4 := kb.alloc kb.size (.cells x.v 47)
        have qx := fun w => qc x w
        clear hx hat
        generalize cmpI x.c0 c = R at qx hT
        cases T
        · go_upto_region 8 with fail
          go_wp2_with (go_at_call 53; refine (qx _).mono ?_; rintro e w1 ⟨rfl, hw1⟩; obtain rfl := hw1.symm)
          go_ret2
          exact ⟨rfl, k4⟩
        · go_upto_region 8 with fail
          go_wp2_with (go_at_call 53; refine (qx _).mono ?_; rintro e w1 ⟨rfl, hw1⟩; obtain rfl := hw1.symm)
          go_ret2
          exact ⟨rfl, k4⟩
      · obtain rfl : u = m := by omega
        obtain rfl := Hend.out Hl.out.symm
        go_wp2_with fail
        go_ret2
        exact ⟨rfl, kb⟩
theorem seatPlace_c (a : Option Addr) (m cap : Nat) (l : List K4) (c : Int) (hl : l.length = m) (hm : m ≤ 6) (hp : RsP l) (w : World) (hS : ArgS w a l) :
    Calls Try.prog 27 #[.slice a m cap, .int .i64 c] w fun e w' => e = .returned (.tuple #[.int .i64 (sPl l c : Int), .bool (sTh l c)]) ∧ Below w.heap.size w w' := by
  have q0 := bsearch_c a m cap l c hl hm hp w hS
  go_enter Try.func27, Try.ntmps27
  go_wp2_with (go_at_call 52; refine q0.mono ?_; rintro e w1 ⟨rfl, hb⟩)
  go_ret2
  exact ⟨rfl, hb⟩
end Go.Proofs.Ytgfdfpaimlcgaaa
end
