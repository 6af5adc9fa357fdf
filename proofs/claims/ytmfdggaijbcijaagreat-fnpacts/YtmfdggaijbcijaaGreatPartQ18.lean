/- Texts of mine put together (a claim holds at most 60 files): WfPlain, WfImpl. -/
import Derived.Test.YtmfdggaijbcijaaGreatPartQ02
import Derived.Test.YtmfdggaijbcijaaGreatPartQ01
import Derived.Test.YtmfdggaijbcijaaGreatPartQ17

/- WfPlain -/
/- Plain functions of chapter 6 (worlds): the faults of factions, seats, offers and owners; h m b: has the mask m the bit b. No condition. -/
section
namespace Go.Proofs.YtmfdggaijbcijaaGreat
open Bd
set_option linter.unusedVariables false

/- each ally of side i (whose mask is m) is another one that has it, too; from side k on -/
def alB (h : Int → Int → Bool) (m i : Int) : Int → List KA → Bool
  | _, [] => true
  | k, g :: l => (!(h m k) || (!(k == i) && h g.c2 i)) && alB h m i (k + 1) l
/- the model's: each ally has it, too -/
def alS (h : Int → Int → Bool) (m i : Int) : Int → List KA → Bool
  | _, [] => true
  | k, g :: l => (!(h m k) || h g.c2 i) && alS h m i (k + 1) l
def faR (f : KA) : Bool := inb f.c0 0 1000000 && inb f.c2 0 15
def faG (f : KA) : Bool := f.c1 && (f.c2 != 0)
def faC (h : Int → Int → Bool) (fa : List KA) (i : Int) (f : KA) : Int := if faR f = false then 3 else if faG f = true then 1 else if alB h f.c2 i 0 fa = false then 1 else 0
def faF (h : Int → Int → Bool) (fa : List KA) : Int → List KA → Int
  | _, [] => 0
  | i, f :: l => if (faC h fa i f == 0) = false then faC h fa i f else faF h fa (i + 1) l
theorem alB_step {h : Int → Int → Bool} {m i : Int} {fa : List KA} {k : Nat} {g : KA} (hk : fa[k]? = some g) : alB h m i k (fa.drop k) = ((!(h m k) || (!((k : Int) == i) && h g.c2 i)) && alB h m i ((k + 1 : Nat) : Int) (fa.drop (k + 1))) := by
  have h' := List.getElem?_eq_some_iff.1 hk
  rw [List.drop_eq_getElem_cons h'.1, h'.2]
  show _ = _
  rw [show ((k + 1 : Nat) : Int) = (k : Int) + 1 from by omega]
  rfl
theorem alS_step {h : Int → Int → Bool} {m i : Int} {fa : List KA} {k : Nat} {g : KA} (hk : fa[k]? = some g) : alS h m i k (fa.drop k) = ((!(h m k) || h g.c2 i) && alS h m i ((k + 1 : Nat) : Int) (fa.drop (k + 1))) := by
  have h' := List.getElem?_eq_some_iff.1 hk
  rw [List.drop_eq_getElem_cons h'.1, h'.2]
  show _ = _
  rw [show ((k + 1 : Nat) : Int) = (k : Int) + 1 from by omega]
  rfl
theorem faF_step {h : Int → Int → Bool} {fa : List KA} {k : Nat} {f : KA} (hk : fa[k]? = some f) : faF h fa k (fa.drop k) = if (faC h fa k f == 0) = false then faC h fa k f else faF h fa ((k + 1 : Nat) : Int) (fa.drop (k + 1)) := by
  have h' := List.getElem?_eq_some_iff.1 hk
  rw [List.drop_eq_getElem_cons h'.1, h'.2, show ((k + 1 : Nat) : Int) = (k : Int) + 1 from by omega]
  rfl
/- four factions: the model's two questions are the program's one -/
theorem alB_four (h : Int → Int → Bool) (m : Int) (a b c d : KA) (i : Nat) (hi : i < 4) : alB h m i 0 [a, b, c, d] = (!(h m i) && alS h m i 0 [a, b, c, d]) := by
  have h4 : i = 0 ∨ i = 1 ∨ i = 2 ∨ i = 3 := by omega
  have e1 : ((0 : Nat) : Int) = 0 := rfl
  have e2 : ((1 : Nat) : Int) = 1 := rfl
  have e3 : ((2 : Nat) : Int) = 2 := rfl
  have e4 : ((3 : Nat) : Int) = 3 := rfl
  have e5 : (0 : Int) + 1 = 1 := rfl
  have e6 : (1 : Int) + 1 = 2 := rfl
  have e7 : (2 : Int) + 1 = 3 := rfl
  rcases h4 with rfl | rfl | rfl | rfl
  all_goals
    simp only [alB, alS, e1, e2, e3, e4, e5, e6, e7]
    generalize h m 0 = p0
    generalize h m 1 = p1
    generalize h m 2 = p2
    generalize h m 3 = p3
    cases p0 <;> cases p1 <;> cases p2 <;> cases p3 <;> simp
/- a seat -/
def goneA (fa : List KA) (i : Int) : Bool := (fa.getD i.toNat KA.z).c1
def allyA (fa : List KA) (i : Int) : Int := (fa.getD i.toNat KA.z).c2
def seR (s : K4) : Bool := inb s.c0 0 5 && (inb s.c1 0 3 && (inb s.c2 0 2047 && inb s.c3 0 999))
def seF (fa : List KA) : Option Int → List K4 → Int
  | _, [] => 0
  | p, s :: l => if seR s = false then 3 else if leP p s.c0 = true then 1 else if goneA fa s.c1 = true then 1 else seF fa (some s.c0) l
def prevC (l : List K4) (k : Nat) : Option Int := if k = 0 then none else (l[k - 1]?).map K4.c0
theorem prevC_next {l : List K4} {k : Nat} {u : K4} (h : l[k]? = some u) : prevC l (k + 1) = some u.c0 := by
  unfold prevC
  rw [if_neg (by omega), Nat.add_sub_cancel, h]; rfl
theorem seF_step {fa : List KA} {l : List K4} {k : Nat} {s : K4} {p : Option Int} (h : l[k]? = some s) : seF fa p (l.drop k) = if seR s = false then 3 else if leP p s.c0 = true then 1 else if goneA fa s.c1 = true then 1 else seF fa (some s.c0) (l.drop (k + 1)) := by
  have h' := List.getElem?_eq_some_iff.1 h
  rw [List.drop_eq_getElem_cons h'.1, h'.2]; rfl
/- an offer; q: those ahead -/
def memO (q : List K2) (x : K2) : Bool := q.any (fun y => y.b x)
def ofR (x : K2) : Bool := inb x.c0 0 3 && inb x.c1 0 3
def ofB (h : Int → Int → Bool) (fa : List KA) (q : List K2) (x : K2) : Bool := (x.c0 == x.c1) || (h (allyA fa x.c0) x.c1 || (goneA fa x.c0 || (goneA fa x.c1 || memO q x)))
def ofF (h : Int → Int → Bool) (fa : List KA) : List K2 → List K2 → Int
  | _, [] => 0
  | q, x :: l => if ofR x = false then 3 else if ofB h fa q x = true then 1 else ofF h fa (q ++ [x]) l
theorem ofF_step {h : Int → Int → Bool} {fa : List KA} {l : List K2} {k : Nat} {x : K2} (hk : l[k]? = some x) : ofF h fa (l.take k) (l.drop k) = if ofR x = false then 3 else if ofB h fa (l.take k) x = true then 1 else ofF h fa (l.take (k + 1)) (l.drop (k + 1)) := by
  have h' := List.getElem?_eq_some_iff.1 hk
  rw [List.drop_eq_getElem_cons h'.1, h'.2, List.take_add_one, hk]; rfl
/- the owners of units -/
def owF (fa : List KA) : List K10 → Int
  | [] => 0
  | u :: l => if ((u.c1 != 9) && goneA fa u.c1) = true then 1 else owF fa l
theorem owF_step {fa : List KA} {l : List K10} {k : Nat} {u : K10} (h : l[k]? = some u) : owF fa (l.drop k) = if ((u.c1 != 9) && goneA fa u.c1) = true then 1 else owF fa (l.drop (k + 1)) := by
  have h' := List.getElem?_eq_some_iff.1 h
  rw [List.drop_eq_getElem_cons h'.1, h'.2]; rfl
/- WorldFault -/
def or4 (a b c d : Int) : Int := if (a == 0) = false then a else if (b == 0) = false then b else if (c == 0) = false then c else d
def wf (h : Int → Int → Bool) (x : KW) : Int :=
  if (inb x.t 0 9999 && inb x.s 0 100000000) = false then 3 else if (bf x.us x.fs == 0) = false then bf x.us x.fs else
  if x.fa.length ≠ 4 ∨ 6 < x.se.length ∨ 6 < x.oo.length then 2 else or4 (faF h x.fa 0 x.fa) (seF x.fa none x.se) (ofF h x.fa [] x.oo) (owF x.fa x.us)
/- the two bits are the same where a mask is in its bounds -/
theorem has_same {m : Int} (h : inb m 0 15 = true) (b : Int) : hasI m b = hasS m b := has_eq m b (inb_i h).1 (by have := (inb_i h).2; omega)
end Go.Proofs.YtmfdggaijbcijaaGreat
end

/- WfImpl -/
/- Contracts of the program's parts of WorldFault: factions. Condition: the list lies in memory as it was laid there. -/
section
namespace Go.Proofs.YtmfdggaijbcijaaGreat
open Go.ChangeShapes Go.WideShapes Go.ChangeAt Go.RowKit
open Bd
set_option linter.unusedVariables false

theorem isPurse_w (v : Int) (w : World) :
    Calls Tryz.prog 87 #[.int .i64 v] w fun e w' => e = .returned (.bool (inb v 0 1000000)) ∧ w' = w := by
  by_cases h1 : 0 ≤ v
  · by_cases h2 : v ≤ 1000000
    · rw [inb_t h1 h2]
      go_enter Tryz.func87, Tryz.ntmps87
      go_wp2
      go_ret
      exact ⟨rfl, rfl⟩
    · rw [inb_f (by omega)]
      have d2 : decide (v ≤ 1000000) = false := decide_eq_false h2
      go_enter Tryz.func87, Tryz.ntmps87
      go_wp2
      go_ret
      exact ⟨rfl, rfl⟩
  · rw [inb_f (by omega)]
    have d2 : decide (0 ≤ v) = false := decide_eq_false h1
    go_enter Tryz.func87, Tryz.ntmps87
    go_wp2
    go_ret
    exact ⟨rfl, rfl⟩
theorem isClient_w (v : Int) (w : World) :
    Calls Tryz.prog 89 #[.int .i64 v] w fun e w' => e = .returned (.bool (inb v 0 5)) ∧ w' = w := by
  by_cases h1 : 0 ≤ v
  · by_cases h2 : v ≤ 5
    · rw [inb_t h1 h2]
      go_enter Tryz.func89, Tryz.ntmps89
      go_wp2
      go_ret
      exact ⟨rfl, rfl⟩
    · rw [inb_f (by omega)]
      have d2 : decide (v ≤ 5) = false := decide_eq_false h2
      go_enter Tryz.func89, Tryz.ntmps89
      go_wp2
      go_ret
      exact ⟨rfl, rfl⟩
  · rw [inb_f (by omega)]
    have d2 : decide (0 ≤ v) = false := decide_eq_false h1
    go_enter Tryz.func89, Tryz.ntmps89
    go_wp2
    go_ret
    exact ⟨rfl, rfl⟩
theorem isSpent_w (v : Int) (w : World) :
    Calls Tryz.prog 49 #[.int .i64 v] w fun e w' => e = .returned (.bool (inb v 0 100000000)) ∧ w' = w := by
  by_cases h1 : 0 ≤ v
  · by_cases h2 : v ≤ 100000000
    · rw [inb_t h1 h2]
      go_enter Tryz.func49, Tryz.ntmps49
      go_wp2
      go_ret
      exact ⟨rfl, rfl⟩
    · rw [inb_f (by omega)]
      have d2 : decide (v ≤ 100000000) = false := decide_eq_false h2
      go_enter Tryz.func49, Tryz.ntmps49
      go_wp2
      go_ret
      exact ⟨rfl, rfl⟩
  · rw [inb_f (by omega)]
    have d2 : decide (0 ≤ v) = false := decide_eq_false h1
    go_enter Tryz.func49, Tryz.ntmps49
    go_wp2
    go_ret
    exact ⟨rfl, rfl⟩
theorem ArgA.at {w : World} {a : Option Addr} {l : List KA} (h : ArgA w a l) {i : Nat} {x : KA} (hi : l[i]? = some x) : ∃ b off, a = some ⟨b, off, none⟩ ∧ b < w.heap.size ∧ AAt w b off l := by
  rcases h with h | h
  · rw [h] at hi; simp at hi
  · exact h
theorem ArgS.at {w : World} {a : Option Addr} {l : List K4} (h : ArgS w a l) {i : Nat} {x : K4} (hi : l[i]? = some x) : ∃ b off, a = some ⟨b, off, none⟩ ∧ b < w.heap.size ∧ SAt w b off l := by
  rcases h with h | h
  · rw [h] at hi; simp at hi
  · exact h
theorem ArgO.at {w : World} {a : Option Addr} {l : List K2} (h : ArgO w a l) {i : Nat} {x : K2} (hi : l[i]? = some x) : ∃ b off, a = some ⟨b, off, none⟩ ∧ b < w.heap.size ∧ OAt w b off l := by
  rcases h with h | h
  · rw [h] at hi; simp at hi
  · exact h
set_option maxHeartbeats 4000000 in
theorem isAllied_c (a : Option Addr) (m c : Nat) (fa : List KA) (i : Nat) (fi : KA) (hi : fa[i]? = some fi) (hl : fa.length = m) (hm : m ≤ 4) (w : World) (hA : ArgA w a fa) :
    Calls Tryz.prog 88 #[.slice a m c, .int .i64 (i : Int)] w fun e w' => e = .returned (.bool (alB hasI fi.c2 i 0 fa)) ∧ Below w.heap.size w w' := by
  obtain ⟨b, off, rfl, hb, hat⟩ := hA.at hi
  have Hat : Hid (AAt w b off fa) := hat
  have Hi : Hid (fa[i]? = some fi) := hi
  have Hl : Hid (fa.length = m) := hl
  have him : i < m := by rw [← hl]; exact (List.getElem?_eq_some_iff.1 hi).1
  have him' : (i : Int) < (m : Int) := by omega
  have hi0 : (0 : Int) ≤ (i : Int) := by omega
  obtain ⟨R, HR⟩ : ∃ R : Bool, Hid (R = alB hasI fi.c2 i 0 fa) := ⟨_, rfl⟩
  rw [← HR.out]
  have HR0 : Hid (R = alB hasI fi.c2 i ((0 : Nat) : Int) (fa.drop 0)) := HR
  clear hat hi hl hA HR
  go_enter Tryz.func88, Tryz.ntmps88
  go_wp2
  go_loopw [9] (fun j wr => ∃ k : Nat, k ≤ m ∧ j = .int .i64 k ∧ Hid (R = alB hasI fi.c2 i (k : Int) (fa.drop k)) ∧ Below w.heap.size w wr) (fun j _ => m - (intOf j).toNat)
  case atStart => exact ⟨0, Nat.zero_le _, rfl, HR0, Below.refl _ _⟩
  case round =>
    obtain ⟨k, hk, rfl, Hk, hbel⟩ := hrel
    by_cases hlt : k < m
    · have hlt' : (k : Int) < (m : Int) := by omega
      obtain ⟨x, hx⟩ : ∃ x, fa[k]? = some x := ⟨_, List.getElem?_eq_getElem (by have := Hl.out; omega)⟩
      obtain ⟨x0, x1, x2, xl⟩ := (Hat.out.later hb hbel).one (Nat.lt_of_lt_of_le hb hbel.size) hx
      obtain ⟨y0, y1, y2, yl⟩ := (Hat.out.later hb hbel).one (Nat.lt_of_lt_of_le hb hbel.size) Hi.out
      have hb4 := hbel.alloc hbel.size (.cells x.v 64)
      have q1 := fun w => hasBit_c fi.c2 (k : Int) (by omega) (by omega) w
      have q2 := fun w => hasBit_c x.c2 (i : Int) (by omega) (by omega) w
      have HS : Hid (R = ((!(hasI fi.c2 k) || (!((k : Int) == (i : Int)) && hasI x.c2 i)) && alB hasI fi.c2 i ((k + 1 : Nat) : Int) (fa.drop (k + 1)))) := by show _ = _; rw [Hk.out, alB_step hx]
      clear hx
      cases e1 : hasI fi.c2 k
      · rw [e1] at q1
        have HE : Hid (R = alB hasI fi.c2 i ((k + 1 : Nat) : Int) (fa.drop (k + 1))) := by show _ = _; rw [HS.out, e1]; rfl
        go_wp2_with (first | (go_at_call 38; refine (q1 _).mono ?_; rintro e w1 ⟨rfl, hw1⟩; obtain rfl := hw1.symm))
        go_roundw
        case rel => exact ⟨k + 1, by omega, by go_num, HE, hb4⟩
        case measure => simp [intOf]; omega
      · rw [e1] at q1
        cases e2 : ((k : Int) == (i : Int))
        · cases e3 : hasI x.c2 i
          · rw [e3] at q2
            have HE : Hid (R = false) := by show _ = _; rw [HS.out, e1, e2, e3]; rfl
            go_wp2_with (first | (go_at_call 38; with_reducible refine (q1 _).mono ?_; rintro e w1 ⟨rfl, hw1⟩; obtain rfl := hw1.symm) | (go_at_call 38; with_reducible refine (q2 _).mono ?_; rintro e w1 ⟨rfl, hw1⟩; obtain rfl := hw1.symm))
            go_ret
            exact ⟨by rw [HE.out]; rfl, hb4⟩
          · rw [e3] at q2
            have HE : Hid (R = alB hasI fi.c2 i ((k + 1 : Nat) : Int) (fa.drop (k + 1))) := by show _ = _; rw [HS.out, e1, e2, e3]; rfl
            go_wp2_with (first | (go_at_call 38; with_reducible refine (q1 _).mono ?_; rintro e w1 ⟨rfl, hw1⟩; obtain rfl := hw1.symm) | (go_at_call 38; with_reducible refine (q2 _).mono ?_; rintro e w1 ⟨rfl, hw1⟩; obtain rfl := hw1.symm))
            go_roundw
            case rel => exact ⟨k + 1, by omega, by go_num, HE, hb4⟩
            case measure => simp [intOf]; omega
        · have HE : Hid (R = false) := by show _ = _; rw [HS.out, e1, e2]; rfl
          go_wp2_with (first | (go_at_call 38; with_reducible refine (q1 _).mono ?_; rintro e w1 ⟨rfl, hw1⟩; obtain rfl := hw1.symm))
          go_ret
          exact ⟨by rw [HE.out]; rfl, hb4⟩
    · obtain rfl : m = k := by omega
      have HE : Hid (R = true) := by show _ = _; rw [Hk.out, List.drop_of_length_le (by have := Hl.out; omega)]; rfl
      go_wp2
      go_ret
      exact ⟨by rw [HE.out]; rfl, hbel⟩
theorem faC_cases (h : Int → Int → Bool) (fa : List KA) (i : Int) (f : KA) : (inb f.c0 0 1000000 = false ∧ faC h fa i f = 3) ∨ (inb f.c0 0 1000000 = true ∧ f.c2 < 0 ∧ faC h fa i f = 3) ∨ (inb f.c0 0 1000000 = true ∧ 0 ≤ f.c2 ∧ 15 < f.c2 ∧ faC h fa i f = 3) ∨
    (inb f.c0 0 1000000 = true ∧ 0 ≤ f.c2 ∧ f.c2 ≤ 15 ∧ f.c1 = true ∧ (f.c2 == 0) = false ∧ faC h fa i f = 1) ∨ (inb f.c0 0 1000000 = true ∧ 0 ≤ f.c2 ∧ f.c2 ≤ 15 ∧ f.c1 = true ∧ (f.c2 == 0) = true ∧ faC h fa i f = if alB h f.c2 i 0 fa = false then 1 else 0) ∨
    (inb f.c0 0 1000000 = true ∧ 0 ≤ f.c2 ∧ f.c2 ≤ 15 ∧ f.c1 = false ∧ faC h fa i f = if alB h f.c2 i 0 fa = false then 1 else 0) := by
  unfold faC faR faG
  cases e0 : inb f.c0 0 1000000
  · exact .inl ⟨rfl, by simp⟩
  by_cases h1 : f.c2 < 0
  · exact .inr (.inl ⟨rfl, h1, by rw [inb_f (v := f.c2) (by omega)]; simp⟩)
  by_cases h2 : 15 < f.c2
  · exact .inr (.inr (.inl ⟨rfl, by omega, h2, by rw [inb_f (v := f.c2) (by omega)]; simp⟩))
  have e2 : inb f.c2 0 15 = true := inb_t (by omega) (by omega)
  cases e1 : f.c1
  · exact .inr (.inr (.inr (.inr (.inr ⟨rfl, by omega, by omega, rfl, by rw [e2]; simp⟩))))
  · cases e3 : f.c2 == 0
    · exact .inr (.inr (.inr (.inl ⟨rfl, by omega, by omega, rfl, rfl, by rw [e2]; simp [bne, e3]⟩)))
    · exact .inr (.inr (.inr (.inr (.inl ⟨rfl, by omega, by omega, rfl, rfl, by rw [e2]; simp [bne, e3]⟩))))
set_option maxHeartbeats 4000000 in
theorem factionsFault_c (a : Option Addr) (m c : Nat) (fa : List KA) (hl : fa.length = m) (hm : m ≤ 4) (w : World) (hA : ArgA w a fa) :
    Calls Tryz.prog 52 #[.slice a m c] w fun e w' => e = .returned (.int .i64 (faF hasI fa 0 fa)) ∧ Below w.heap.size w w' := by
  have HA : Hid (ArgA w a fa) := hA
  have Hl : Hid (fa.length = m) := hl
  obtain ⟨R, HR⟩ : ∃ R : Int, Hid (R = faF hasI fa 0 fa) := ⟨_, rfl⟩
  rw [← HR.out]
  have HR0 : Hid (R = faF hasI fa ((0 : Nat) : Int) (fa.drop 0)) := HR
  clear hA hl HR
  go_enter Tryz.func52, Tryz.ntmps52
  go_wp2
  go_loopw [7] (fun j wr => ∃ k : Nat, k ≤ m ∧ j = .int .i64 k ∧ Hid (R = faF hasI fa (k : Int) (fa.drop k)) ∧ Below w.heap.size w wr) (fun j _ => m - (intOf j).toNat)
  case atStart => exact ⟨0, Nat.zero_le _, rfl, HR0, Below.refl _ _⟩
  case round =>
    obtain ⟨k, hk, rfl, Hk, hbel⟩ := hrel
    by_cases hlt : k < m
    · have hlt' : (k : Int) < (m : Int) := by omega
      obtain ⟨x, hx⟩ : ∃ x, fa[k]? = some x := ⟨_, List.getElem?_eq_getElem (by have := Hl.out; omega)⟩
      obtain ⟨b, off, rfl, hb, hat⟩ := HA.out.at hx
      obtain ⟨x0, x1, x2, xl⟩ := (hat.later hb hbel).one (Nat.lt_of_lt_of_le hb hbel.size) hx
      have qP := fun w => isPurse_w x.c0 w
      have qA := fun W h => isAllied_c (some ⟨b, off, none⟩) m c fa k x hx Hl.out hm W h
      have HS : Hid (R = if (faC hasI fa k x == 0) = false then faC hasI fa k x else faF hasI fa ((k + 1 : Nat) : Int) (fa.drop (k + 1))) := by show _ = _; rw [Hk.out, faF_step hx]
      have hc := faC_cases hasI fa k x
      clear hx hat
      generalize faC hasI fa k x = FC at HS hc
      generalize alB hasI x.c2 k 0 fa = AB at qA hc
      rcases hc with ⟨e0, e⟩ | ⟨e0, e1, e⟩ | ⟨e0, e1, e2, e⟩ | ⟨e0, e1, e2, e3, e4, e⟩ | ⟨e0, e1, e2, e3, e4, e⟩ | ⟨e0, e1, e2, e3, e⟩
      · subst e
        rw [e0] at qP
        have HE : Hid (R = 3) := HS
        go_wp2_with (first | (go_at_call 87; refine (qP _).mono ?_; rintro e w1 ⟨rfl, hw1⟩; obtain rfl := hw1.symm) | (go_at_call 88; refine (qA _ (HA.out.later (hbel.alloc hbel.size _))).mono ?_; rintro e w1 ⟨rfl, kA⟩))
        go_ret
        exact ⟨by rw [HE.out]; rfl, hbel.alloc hbel.size _⟩
      · subst e
        rw [e0] at qP
        have HE : Hid (R = 3) := HS
        go_wp2_with (first | (go_at_call 87; refine (qP _).mono ?_; rintro e w1 ⟨rfl, hw1⟩; obtain rfl := hw1.symm) | (go_at_call 88; refine (qA _ (HA.out.later (hbel.alloc hbel.size _))).mono ?_; rintro e w1 ⟨rfl, kA⟩))
        go_ret
        exact ⟨by rw [HE.out]; rfl, hbel.alloc hbel.size _⟩
      · subst e
        rw [e0] at qP
        have HE : Hid (R = 3) := HS
        have d1 : decide (x.c2 < 0) = false := decide_eq_false (by omega)
        go_wp2_with (first | (go_at_call 87; refine (qP _).mono ?_; rintro e w1 ⟨rfl, hw1⟩; obtain rfl := hw1.symm) | (go_at_call 88; refine (qA _ (HA.out.later (hbel.alloc hbel.size _))).mono ?_; rintro e w1 ⟨rfl, kA⟩))
        go_ret
        exact ⟨by rw [HE.out]; rfl, hbel.alloc hbel.size _⟩
      · subst e
        rw [e0] at qP
        have HE : Hid (R = 1) := HS
        have d1 : decide (x.c2 < 0) = false := decide_eq_false (by omega)
        have d2 : decide (15 < x.c2) = false := decide_eq_false (by omega)
        have d4 : (x.c2 != 0) = true := by simp only [bne, e4]; rfl
        rw [e3] at x1
        go_wp2_with (first | (go_at_call 87; refine (qP _).mono ?_; rintro e w1 ⟨rfl, hw1⟩; obtain rfl := hw1.symm) | (go_at_call 88; refine (qA _ (HA.out.later (hbel.alloc hbel.size _))).mono ?_; rintro e w1 ⟨rfl, kA⟩))
        go_ret
        exact ⟨by rw [HE.out]; rfl, hbel.alloc hbel.size _⟩
      · subst e
        rw [e0] at qP
        have d1 : decide (x.c2 < 0) = false := decide_eq_false (by omega)
        have d2 : decide (15 < x.c2) = false := decide_eq_false (by omega)
        have d4 : (x.c2 != 0) = false := by simp only [bne, e4]; rfl
        rw [e3] at x1
        cases AB
        · have HE : Hid (R = 1) := HS
          go_wp2_with (first | (go_at_call 87; refine (qP _).mono ?_; rintro e w1 ⟨rfl, hw1⟩; obtain rfl := hw1.symm) | (go_at_call 88; refine (qA _ (HA.out.later (hbel.alloc hbel.size _))).mono ?_; rintro e w1 ⟨rfl, kA⟩))
          go_ret
          exact ⟨by rw [HE.out]; rfl, (hbel.alloc hbel.size _).trans (kA.mono (hbel.alloc hbel.size _).size)⟩
        · have HE : Hid (R = faF hasI fa ((k + 1 : Nat) : Int) (fa.drop (k + 1))) := HS
          go_wp2_with (first | (go_at_call 87; refine (qP _).mono ?_; rintro e w1 ⟨rfl, hw1⟩; obtain rfl := hw1.symm) | (go_at_call 88; refine (qA _ (HA.out.later (hbel.alloc hbel.size _))).mono ?_; rintro e w1 ⟨rfl, kA⟩))
          go_roundw
          case rel => exact ⟨k + 1, by omega, by go_num, HE, (hbel.alloc hbel.size _).trans (kA.mono (hbel.alloc hbel.size _).size)⟩
          case measure => simp [intOf]; omega
      · subst e
        rw [e0] at qP
        have d1 : decide (x.c2 < 0) = false := decide_eq_false (by omega)
        have d2 : decide (15 < x.c2) = false := decide_eq_false (by omega)
        rw [e3] at x1
        cases AB
        · have HE : Hid (R = 1) := HS
          go_wp2_with (first | (go_at_call 87; refine (qP _).mono ?_; rintro e w1 ⟨rfl, hw1⟩; obtain rfl := hw1.symm) | (go_at_call 88; refine (qA _ (HA.out.later (hbel.alloc hbel.size _))).mono ?_; rintro e w1 ⟨rfl, kA⟩))
          go_ret
          exact ⟨by rw [HE.out]; rfl, (hbel.alloc hbel.size _).trans (kA.mono (hbel.alloc hbel.size _).size)⟩
        · have HE : Hid (R = faF hasI fa ((k + 1 : Nat) : Int) (fa.drop (k + 1))) := HS
          go_wp2_with (first | (go_at_call 87; refine (qP _).mono ?_; rintro e w1 ⟨rfl, hw1⟩; obtain rfl := hw1.symm) | (go_at_call 88; refine (qA _ (HA.out.later (hbel.alloc hbel.size _))).mono ?_; rintro e w1 ⟨rfl, kA⟩))
          go_roundw
          case rel => exact ⟨k + 1, by omega, by go_num, HE, (hbel.alloc hbel.size _).trans (kA.mono (hbel.alloc hbel.size _).size)⟩
          case measure => simp [intOf]; omega
    · obtain rfl : m = k := by omega
      have HE : Hid (R = 0) := by show _ = _; rw [Hk.out, List.drop_of_length_le (by have := Hl.out; omega)]; rfl
      go_wp2
      go_ret
      exact ⟨by rw [HE.out]; rfl, hbel⟩
end Go.Proofs.YtmfdggaijbcijaaGreat
end
