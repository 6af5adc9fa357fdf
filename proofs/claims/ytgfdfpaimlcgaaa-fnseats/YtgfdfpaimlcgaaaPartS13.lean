/- Texts of mine put together (a claim holds at most 60 files): RightWalks, WfPlain. -/
import Derived.Test.YtgfdfpaimlcgaaaPartS02
import Derived.Laws.BitsLemmas
import Derived.Test.YtgfdfpaimlcgaaaPartS01

/- RightWalks -/
/- Contracts of HasRight and of its model, and of their parts. No condition. -/
section
namespace Go.Proofs.Ytgfdfpaimlcgaaa
open Go.ChangeShapes Go.WideShapes Go.ChangeAt Go.RowKit
open Bd
set_option linter.unusedVariables false

/- has the mask that bit: as the program asks it, and as the model does -/
def hasI (m b : Int) : Bool := bits .and .i64 (m / 2 ^ b.toNat) 1 == 1
def hasS (m b : Int) : Bool := (m / 2 ^ b.toNat).tmod 2 == 1
theorem has_eq (m b : Int) (h0 : 0 ≤ m) (h1 : m ≤ 9223372036854775807) : hasI m b = hasS m b := by
  have hp : (0 : Int) < 2 ^ b.toNat := Int.pow_pos (by omega)
  have q0 : 0 ≤ m / 2 ^ b.toNat := Int.ediv_nonneg h0 (Int.le_of_lt hp)
  have q1 : m / 2 ^ b.toNat ≤ m := Int.ediv_le_self _ h0
  have h := bits_mask .i64 63 (by decide) (fun n h0 h1 => by rw [IntKind.wrap_i64]; omega) 1 (by decide) (m / 2 ^ b.toNat) q0 (by omega)
  have e : ((2 : Int) ^ 1 - 1) = 1 := by decide
  have e2 : ((2 : Int) ^ 1) = 2 := by decide
  rw [e, e2] at h
  unfold hasI hasS
  rw [h, Int.tmod_eq_emod_of_nonneg q0]
theorem hasBit_c (m b : Int) (h0 : 0 ≤ b) (h1 : b ≤ 62) (w : World) :
    Calls Try.prog 35 #[.int .i64 m, .int .i64 b] w fun e w' => e = .returned (.bool (hasI m b)) ∧ w' = w := by
  go_enter Try.func35, Try.ntmps35
  go_wp2
  go_ret
  exact ⟨rfl, rfl⟩
theorem l6Has_c (m b : Int) (h0 : 0 ≤ b) (h1 : b ≤ 62) (w : World) :
    Calls Try.prog 38 #[.int .i64 m, .int .i64 b] w fun e w' => e = .returned (.bool (hasS m b)) ∧ w' = w := by
  go_enter Try.func38, Try.ntmps38
  go_wp2
  go_ret
  exact ⟨rfl, rfl⟩
theorem l3Kind_c (v : Int) (w : World) :
    Calls Try.prog 36 #[.int .i64 v] w fun e w' => e = .returned (.bool (inb v 1 11)) ∧ w' = w := by
  go_enter Try.func36, Try.ntmps36
  go_wp2_with (go_at_call 37; refine (l1In_c v 1 11 _).mono ?_; rintro e w1 ⟨rfl, rfl⟩)
  go_ret
  exact ⟨rfl, rfl⟩
theorem isKind_c (v : Int) (w : World) :
    Calls Try.prog 34 #[.int .i64 v] w fun e w' => e = .returned (.bool (inb v 1 11)) ∧ w' = w := by
  by_cases h1 : 1 ≤ v
  · by_cases h2 : v ≤ 11
    · rw [inb_t h1 h2]
      go_enter Try.func34, Try.ntmps34
      go_wp2
      go_ret
      exact ⟨rfl, rfl⟩
    · rw [inb_f (by omega)]
      have d2 : decide (v ≤ 11) = false := decide_eq_false h2
      go_enter Try.func34, Try.ntmps34
      go_wp2
      go_ret
      exact ⟨rfl, rfl⟩
  · rw [inb_f (by omega)]
    have d2 : decide (1 ≤ v) = false := decide_eq_false h1
    go_enter Try.func34, Try.ntmps34
    go_wp2
    go_ret
    exact ⟨rfl, rfl⟩
theorem isMask_c (v : Int) (w : World) :
    Calls Try.prog 26 #[.int .i64 v] w fun e w' => e = .returned (.bool (inb v 0 2047)) ∧ w' = w := by
  by_cases h1 : 0 ≤ v
  · by_cases h2 : v ≤ 2047
    · rw [inb_t h1 h2]
      go_enter Try.func26, Try.ntmps26
      go_wp2
      go_ret
      exact ⟨rfl, rfl⟩
    · rw [inb_f (by omega)]
      have d2 : decide (v ≤ 2047) = false := decide_eq_false h2
      go_enter Try.func26, Try.ntmps26
      go_wp2
      go_ret
      exact ⟨rfl, rfl⟩
  · rw [inb_f (by omega)]
    have d2 : decide (0 ≤ v) = false := decide_eq_false h1
    go_enter Try.func26, Try.ntmps26
    go_wp2
    go_ret
    exact ⟨rfl, rfl⟩
def hr (m k : Int) : Bool := inb k 1 11 && (inb m 0 2047 && hasS m (k - 1))
theorem hr_cases (m k : Int) : (inb k 1 11 = false ∧ hr m k = false) ∨ (inb k 1 11 = true ∧ inb m 0 2047 = false ∧ hr m k = false) ∨ (inb k 1 11 = true ∧ inb m 0 2047 = true ∧ hr m k = hasS m (k - 1)) := by
  unfold hr
  cases inb k 1 11 <;> cases inb m 0 2047 <;> simp
theorem specHasRight (m k : Int) (w : World) :
    Calls Try.prog 14 #[.int .i64 m, .int .i64 k] w fun e w' => e = .returned (.bool (hr m k)) ∧ w' = w := by
  have q1 := fun w => l3Kind_c k w
  have q2 := fun w => l1In_c m 0 2047 w
  rcases hr_cases m k with ⟨e1, e⟩ | ⟨e1, e2, e⟩ | ⟨e1, e2, e⟩
  · rw [e]
    rw [e1] at q1
    go_enter Try.func14, Try.ntmps14
    go_wp2_with (first | (go_at_call 36; refine (q1 _).mono ?_; rintro e w1 ⟨rfl, rfl⟩) | (go_at_call 37; refine (q2 _).mono ?_; rintro e w1 ⟨rfl, rfl⟩))
    go_ret
    exact ⟨rfl, rfl⟩
  · rw [e]
    rw [e1] at q1
    rw [e2] at q2
    go_enter Try.func14, Try.ntmps14
    go_wp2_with (first | (go_at_call 36; refine (q1 _).mono ?_; rintro e w1 ⟨rfl, rfl⟩) | (go_at_call 37; refine (q2 _).mono ?_; rintro e w1 ⟨rfl, rfl⟩))
    go_ret
    exact ⟨rfl, rfl⟩
  · rw [e]
    obtain ⟨k0, k1⟩ := inb_i e1
    rw [e1] at q1
    rw [e2] at q2
    have q3 := fun w => l6Has_c m (k - 1) (by omega) (by omega) w
    go_enter Try.func14, Try.ntmps14
    go_wp2_with (first | (go_at_call 36; refine (q1 _).mono ?_; rintro e w1 ⟨rfl, rfl⟩) | (go_at_call 37; refine (q2 _).mono ?_; rintro e w1 ⟨rfl, rfl⟩) | (go_at_call 38; refine (q3 _).mono ?_; rintro e w1 ⟨rfl, rfl⟩))
    go_ret
    exact ⟨rfl, rfl⟩
theorem implHasRight (m k : Int) (w : World) :
    Calls Try.prog 13 #[.int .i64 m, .int .i64 k] w fun e w' => e = .returned (.bool (hr m k)) ∧ w' = w := by
  have q1 := fun w => isKind_c k w
  have q2 := fun w => isMask_c m w
  rcases hr_cases m k with ⟨e1, e⟩ | ⟨e1, e2, e⟩ | ⟨e1, e2, e⟩
  · rw [e]
    rw [e1] at q1
    go_enter Try.func13, Try.ntmps13
    go_wp2_with (first | (go_at_call 34; refine (q1 _).mono ?_; rintro e w1 ⟨rfl, rfl⟩) | (go_at_call 26; refine (q2 _).mono ?_; rintro e w1 ⟨rfl, rfl⟩))
    go_ret
    exact ⟨rfl, rfl⟩
  · rw [e]
    rw [e1] at q1
    rw [e2] at q2
    go_enter Try.func13, Try.ntmps13
    go_wp2_with (first | (go_at_call 34; refine (q1 _).mono ?_; rintro e w1 ⟨rfl, rfl⟩) | (go_at_call 26; refine (q2 _).mono ?_; rintro e w1 ⟨rfl, rfl⟩))
    go_ret
    exact ⟨rfl, rfl⟩
  · rw [e]
    obtain ⟨k0, k1⟩ := inb_i e1
    obtain ⟨m0, m1⟩ := inb_i e2
    rw [← has_eq m (k - 1) m0 (by omega)]
    rw [e1] at q1
    rw [e2] at q2
    have q3 := fun w => hasBit_c m (k - 1) (by omega) (by omega) w
    go_enter Try.func13, Try.ntmps13
    go_wp2_with (first | (go_at_call 34; refine (q1 _).mono ?_; rintro e w1 ⟨rfl, rfl⟩) | (go_at_call 26; refine (q2 _).mono ?_; rintro e w1 ⟨rfl, rfl⟩) | (go_at_call 35; refine (q3 _).mono ?_; rintro e w1 ⟨rfl, rfl⟩))
    go_ret
    exact ⟨rfl, rfl⟩
end Go.Proofs.Ytgfdfpaimlcgaaa
end

/- WfPlain -/
/- Plain functions of chapter 6 (worlds): the faults of factions, seats, offers and owners; h m b: has the mask m the bit b. No condition. -/
section
namespace Go.Proofs.Ytgfdfpaimlcgaaa
open Bd
set_option linter.unusedVariables false

/- each ally of side i (whose mask is m) is another one that has it, too; from side k on -/
def alB (h : Int → Int → Bool) (m i : Int) : Int → List KA → Bool
  | _, [] => true
  | k, g :: l => (!(h m k) || (!(k == i) && h g.c2 i)) && alB h m i (k + 1) l
/- the model's: each ally has it, too -/
def alS (h : Int → Int → Bool) (m i : Int) : Int → List KA → Bool
  | _, [] => true
  | k, g :: l => (!(h m k) || h g.c2 i) && alS h m i (k + 1) l
def faR (f : KA) : Bool := inb f.c0 0 1000000 && inb f.c2 0 15
def faG (f : KA) : Bool := f.c1 && (f.c2 != 0)
def faC (h : Int → Int → Bool) (fa : List KA) (i : Int) (f : KA) : Int := if faR f = false then 3 else if faG f = true then 1 else if alB h f.c2 i 0 fa = false then 1 else 0
def faF (h : Int → Int → Bool) (fa : List KA) : Int → List KA → Int
  | _, [] => 0
  | i, f :: l => if (faC h fa i f == 0) = false then faC h fa i f else faF h fa (i + 1) l
theorem alB_step {h : Int → Int → Bool} {m i : Int} {fa : List KA} {k : Nat} {g : KA} (hk : fa[k]? = some g) : alB h m i k (fa.drop k) = ((!(h m k) || (!((k : Int) == i) && h g.c2 i)) && alB h m i ((k + 1 : Nat) : Int) (fa.drop (k + 1))) := by
  have h' := List.getElem?_eq_some_iff.1 hk
  rw [List.drop_eq_getElem_cons h'.1, h'.2]
  show _ = _
  rw [show ((k + 1 : Nat) : Int) = (k : Int) + 1 from by omega]
  rfl
theorem alS_step {h : Int → Int → Bool} {m i : Int} {fa : List KA} {k : Nat} {g : KA} (hk : fa[k]? = some g) : alS h m i k (fa.drop k) = ((!(h m k) || h g.c2 i) && alS h m i ((k + 1 : Nat) : Int) (fa.drop (k + 1))) := by
  have h' := List.getElem?_eq_some_iff.1 hk
  rw [List.drop_eq_getElem_cons h'.1, h'.2]
  show _ = _
  rw [show ((k + 1 : Nat) : Int) = (k : Int) + 1 from by omega]
  rfl
theorem faF_step {h : Int → Int → Bool} {fa : List KA} {k : Nat} {f : KA} (hk : fa[k]? = some f) : faF h fa k (fa.drop k) = if (faC h fa k f == 0) = false then faC h fa k f else faF h fa ((k + 1 : Nat) : Int) (fa.drop (k + 1)) := by
  have h' := List.getElem?_eq_some_iff.1 hk
  rw [List.drop_eq_getElem_cons h'.1, h'.2, show ((k + 1 : Nat) : Int) = (k : Int) + 1 from by omega]
  rfl
/- four factions: the model's two questions are the program's one -/
theorem alB_four (h : Int → Int → Bool) (m : Int) (a b c d : KA) (i : Nat) (hi : i < 4) : alB h m i 0 [a, b, c, d] = (!(h m i) && alS h m i 0 [a, b, c, d]) := by
  have h4 : i = 0 ∨ i = 1 ∨ i = 2 ∨ i = 3 := by omega
  have e1 : ((0 : Nat) : Int) = 0 := rfl
  have e2 : ((1 : Nat) : Int) = 1 := rfl
  have e3 : ((2 : Nat) : Int) = 2 := rfl
  have e4 : ((3 : Nat) : Int) = 3 := rfl
  have e5 : (0 : Int) + 1 = 1 := rfl
  have e6 : (1 : Int) + 1 = 2 := rfl
  have e7 : (2 : Int) + 1 = 3 := rfl
  rcases h4 with rfl | rfl | rfl | rfl
  all_goals
    simp only [alB, alS, e1, e2, e3, e4, e5, e6, e7]
    generalize h m 0 = p0
    generalize h m 1 = p1
    generalize h m 2 = p2
    generalize h m 3 = p3
    cases p0 <;> cases p1 <;> cases p2 <;> cases p3 <;> simp
/- a seat -/
def goneA (fa : List KA) (i : Int) : Bool := (fa.getD i.toNat KA.z).c1
def allyA (fa : List KA) (i : Int) : Int := (fa.getD i.toNat KA.z).c2
def seR (s : K4) : Bool := inb s.c0 0 5 && (inb s.c1 0 3 && (inb s.c2 0 2047 && inb s.c3 0 999))
def seF (fa : List KA) : Option Int → List K4 → Int
  | _, [] => 0
  | p, s :: l => if seR s = false then 3 else if leP p s.c0 = true then 1 else if goneA fa s.c1 = true then 1 else seF fa (some s.c0) l
def prevC (l : List K4) (k : Nat) : Option Int := if k = 0 then none else (l[k - 1]?).map K4.c0
theorem prevC_next {l : List K4} {k : Nat} {u : K4} (h : l[k]? = some u) : prevC l (k + 1) = some u.c0 := by
  unfold prevC
  rw [if_neg (by omega), Nat.add_sub_cancel, h]; rfl
theorem seF_step {fa : List KA} {l : List K4} {k : Nat} {s : K4} {p : Option Int} (h : l[k]? = some s) : seF fa p (l.drop k) = if seR s = false then 3 else if leP p s.c0 = true then 1 else if goneA fa s.c1 = true then 1 else seF fa (some s.c0) (l.drop (k + 1)) := by
  have h' := List.getElem?_eq_some_iff.1 h
  rw [List.drop_eq_getElem_cons h'.1, h'.2]; rfl
/- an offer; q: those ahead -/
def memO (q : List K2) (x : K2) : Bool := q.any (fun y => y.b x)
def ofR (x : K2) : Bool := inb x.c0 0 3 && inb x.c1 0 3
def ofB (h : Int → Int → Bool) (fa : List KA) (q : List K2) (x : K2) : Bool := (x.c0 == x.c1) || (h (allyA fa x.c0) x.c1 || (goneA fa x.c0 || (goneA fa x.c1 || memO q x)))
def ofF (h : Int → Int → Bool) (fa : List KA) : List K2 → List K2 → Int
  | _, [] => 0
  | q, x :: l => if ofR x = false then 3 else if ofB h fa q x = true then 1 else ofF h fa (q ++ [x]) l
theorem ofF_step {h : Int → Int → Bool} {fa : List KA} {l : List K2} {k : Nat} {x : K2} (hk : l[k]? = some x) : ofF h fa (l.take k) (l.drop k) = if ofR x = false then 3 else if ofB h fa (l.take k) x = true then 1 else ofF h fa (l.take (k + 1)) (l.drop (k + 1)) := by
  have h' := List.getElem?_eq_some_iff.1 hk
  rw [List.drop_eq_getElem_cons h'.1, h'.2, List.take_add_one, hk]; rfl
/- the owners of units -/
def owF (fa : List KA) : List K10 → Int
  | [] => 0
  | u :: l => if ((u.c1 != 9) && goneA fa u.c1) = true then 1 else owF fa l
theorem owF_step {fa : List KA} {l : List K10} {k : Nat} {u : K10} (h : l[k]? = some u) : owF fa (l.drop k) = if ((u.c1 != 9) && goneA fa u.c1) = true then 1 else owF fa (l.drop (k + 1)) := by
  have h' := List.getElem?_eq_some_iff.1 h
  rw [List.drop_eq_getElem_cons h'.1, h'.2]; rfl
/- WorldFault -/
def or4 (a b c d : Int) : Int := if (a == 0) = false then a else if (b == 0) = false then b else if (c == 0) = false then c else d
def wf (h : Int → Int → Bool) (x : KW) : Int :=
  if (inb x.t 0 9999 && inb x.s 0 100000000) = false then 3 else if (bf x.us x.fs == 0) = false then bf x.us x.fs else
  if x.fa.length ≠ 4 ∨ 6 < x.se.length ∨ 6 < x.oo.length then 2 else or4 (faF h x.fa 0 x.fa) (seF x.fa none x.se) (ofF h x.fa [] x.oo) (owF x.fa x.us)
end Go.Proofs.Ytgfdfpaimlcgaaa
end
