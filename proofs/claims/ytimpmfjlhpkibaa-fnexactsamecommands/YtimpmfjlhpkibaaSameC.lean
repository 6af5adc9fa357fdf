/- Lists of commands in memory. No condition. -/
import Derived.Test.YtimpmfjlhpkibaaRows
import Derived.WalkKit
import Derived.ProofKit
import Derived.OpenShut
import Derived.ShutString
import Derived.WalkLawsBesides
import Derived.ChangeOld
import Derived.Below
import Derived.OwnWalk
import Derived.Deep.OwnRows
import Derived.Deep.QuietTactic
import Derived.BigQuiet
import Derived.Deep.Light
import Derived.Laws.StructEq
import Derived.Laws.MakeOwn
import Derived.Test.YtimpmfjlhpkibaaCells
namespace Go.Proofs.Ytimpmfjlhpkibaa
open Go.ChangeShapes Go.WideShapes Go.ChangeAt Go.RowKit
set_option linter.unusedVariables false

structure K6 where
  c0 : Int
  c1 : Int
  c2 : Int
  c3 : Int
  c4 : Int
  c5 : Int
def K6.z : K6 := ⟨0, 0, 0, 0, 0, 0⟩
def K6.f (x : K6) (i : Nat) : Int := if i = 0 then x.c0 else if i = 1 then x.c1 else if i = 2 then x.c2 else if i = 3 then x.c3 else if i = 4 then x.c4 else x.c5
abbrev K6.v (x : K6) : Array Value := #[.int .i64 x.c0, .int .i64 x.c1, .int .i64 x.c2, .int .i64 x.c3, .int .i64 x.c4, .int .i64 x.c5]
def K6.b (x y : K6) : Bool := x.c0 == y.c0 && (x.c1 == y.c1 && (x.c2 == y.c2 && (x.c3 == y.c3 && (x.c4 == y.c4 && x.c5 == y.c5))))
/- commands in memory, from place off of block g on -/
def CAt (w : World) (g off : Nat) (l : List K6) : Prop := ∀ i x, l[i]? = some x → ∀ f, f < 6 → w.cell? ⟨g, off + i * 6 + f, none⟩ = some (.int .i64 (x.f f))
theorem CAt.six {w : World} {g off : Nat} {l : List K6} (h : CAt w g off l) {i : Nat} {x : K6} (hi : l[i]? = some x) :
    w.cell? ⟨g, off + i * 6, none⟩ = some (.int .i64 x.c0) ∧ w.cell? ⟨g, off + i * 6 + 1, none⟩ = some (.int .i64 x.c1) ∧ w.cell? ⟨g, off + i * 6 + 2, none⟩ = some (.int .i64 x.c2) ∧ w.cell? ⟨g, off + i * 6 + 3, none⟩ = some (.int .i64 x.c3) ∧ w.cell? ⟨g, off + i * 6 + 4, none⟩ = some (.int .i64 x.c4) ∧ w.cell? ⟨g, off + i * 6 + 5, none⟩ = some (.int .i64 x.c5) :=
  ⟨h i x hi 0 (by omega), h i x hi 1 (by omega), h i x hi 2 (by omega), h i x hi 3 (by omega), h i x hi 4 (by omega), h i x hi 5 (by omega)⟩
theorem CAt.later {w w' : World} {g off : Nat} {l : List K6} (h : CAt w g off l) (hg : g < w.heap.size) (hb : Below w.heap.size w w') : CAt w' g off l := fun i x hi f hf => by rw [hb.cell hg]; exact h i x hi f hf
set_option maxHeartbeats 1000000 in
theorem neq6 (x y : K6) (w : World) : (binOp .neq 29 (.agg x.v) (.agg y.v)).run Try.prog w = .ok (.bool (!x.b y)) w := by
  rw [run_neq_struct, show (10000 : Nat) = 9999 + 1 from rfl, run_equalIn_agg w 9999 29 _ _ (by kernel_rfl) (by kernel_rfl)]
  simp only [Program.fieldsOf, Try.underlying29]
  unfold K6.b
  cases h0 : x.c0 == y.c0
  · go_simp; try rfl
  cases h1 : x.c1 == y.c1
  · go_simp; try rfl
  cases h2 : x.c2 == y.c2
  · go_simp; try rfl
  cases h3 : x.c3 == y.c3
  · go_simp; try rfl
  cases h4 : x.c4 == y.c4
  · go_simp; try rfl
  cases h5 : x.c5 == y.c5
  · go_simp; try rfl
  go_simp
  try rfl
theorem K6.b_self (x : K6) : x.b x = true := by unfold K6.b; simp
/- are both lists the same -/
def all6 : List K6 → List K6 → Bool
  | [], [] => true
  | x :: l, y :: l' => x.b y && all6 l l'
  | _, _ => false
theorem all6_ne : ∀ (l l' : List K6), l.length ≠ l'.length → all6 l l' = false
  | [], [], h => absurd rfl h
  | [], _ :: _, _ => rfl
  | _ :: _, [], _ => rfl
  | x :: l, y :: l', h => by unfold all6; rw [all6_ne l l' (by simpa using h), Bool.and_false]
theorem all6_step {l l' : List K6} {k : Nat} {x y : K6} (hx : l[k]? = some x) (hy : l'[k]? = some y) : all6 (l.drop k) (l'.drop k) = (x.b y && all6 (l.drop (k + 1)) (l'.drop (k + 1))) := by
  have e1 : l.drop k = x :: l.drop (k + 1) := by
    have h := (List.getElem?_eq_some_iff.1 hx)
    rw [List.drop_eq_getElem_cons h.1, h.2]
  have e2 : l'.drop k = y :: l'.drop (k + 1) := by
    have h := (List.getElem?_eq_some_iff.1 hy)
    rw [List.drop_eq_getElem_cons h.1, h.2]
  rw [e1, e2]; rfl
theorem drewN_trans (w : World) (a b : Nat) : (w.drewN a).drewN b = w.drewN (a + b) := by unfold World.drewN; simp [Nat.add_assoc]

set_option maxHeartbeats 1000000 in
theorem specSame (w : World) (g1 o1 k1 m g2 o2 k2 m' : Nat) (l l' : List K6) (hl : l.length = m) (hl' : l'.length = m') (hm : m ≤ 1048576) (hm' : m' ≤ 1048576) (h1 : CAt w g1 o1 l) (h2 : CAt w g2 o2 l') :
    Calls Try.prog 5 #[.slice (some ⟨g1, o1, none⟩) m k1, .slice (some ⟨g2, o2, none⟩) m' k2] w fun e w' => e = .returned (.bool (all6 l l')) ∧ ∃ nq, w' = w.drewN nq := by
  by_cases hmm : m = m'
  · subst hmm
    have H1 : Hid (CAt w g1 o1 l) := h1
    have H2 : Hid (CAt w g2 o2 l') := h2
    have Hl : Hid (l.length = m) := hl
    have Hl' : Hid (l'.length = m) := hl'
    obtain ⟨R, HR⟩ : ∃ R : Bool, Hid (R = all6 l l') := ⟨_, rfl⟩
    rw [← HR.out]
    clear h1 h2 hl hl'
    go_enter Try.func5, Try.ntmps5
    go_wp2
    go_loopw [5] (fun i wr => ∃ k : Nat, k ≤ m ∧ i = .int .i64 k ∧ Hid (R = all6 (l.drop k) (l'.drop k)) ∧ ∃ nq, wr = w.drewN nq) (fun i _ => m - (intOf i).toNat)
    case atStart => exact ⟨0, Nat.zero_le _, rfl, HR, 0, rfl⟩
    case round =>
      obtain ⟨k, hk, rfl, Hk, nq0, rfl⟩ := hrel
      by_cases hlt : k < m
      · have hlt' : (k : Int) < (m : Int) := by omega
        obtain ⟨x, hx⟩ : ∃ x, l[k]? = some x := ⟨_, List.getElem?_eq_getElem (by have := Hl.out; omega)⟩
        obtain ⟨y, hy⟩ : ∃ y, l'[k]? = some y := ⟨_, List.getElem?_eq_getElem (by have := Hl'.out; omega)⟩
        obtain ⟨a0, a1, a2, a3, a4, a5⟩ := H1.out.six hx
        obtain ⟨b0, b1, b2, b3, b4, b5⟩ := H2.out.six hy
        have hne := neq6 x y
        have HS : Hid (R = (x.b y && all6 (l.drop (k + 1)) (l'.drop (k + 1)))) := by show _ = _; rw [Hk.out, all6_step hx hy]
        clear hx hy
        cases hq : x.b y
        · have HE : Hid (R = false) := by show _ = _; rw [HS.out, hq]; rfl
          go_wp2
          go_quiet (fail)
          go_wp2
          go_ret
          first
          | exact ⟨by rw [HE.out]; rfl, _, rfl⟩
          | exact ⟨by rw [HE.out]; rfl, _, drewN_trans _ _ _⟩
        · have HE : Hid (R = all6 (l.drop (k + 1)) (l'.drop (k + 1))) := by show _ = _; rw [HS.out, hq]; rfl
          go_wp2
          go_quiet (fail)
          go_wp2
          go_roundw
          case rel => first | exact ⟨k + 1, by omega, by go_num, HE, _, rfl⟩ | exact ⟨k + 1, by omega, by go_num, HE, _, drewN_trans _ _ _⟩
          case measure => simp [intOf]; omega
      · obtain rfl : k = m := by omega
        have HE : Hid (R = true) := by show _ = _; rw [Hk.out, List.drop_of_length_le (by have := Hl.out; omega), List.drop_of_length_le (by have := Hl'.out; omega)]; rfl
        go_wp2
        go_ret
        exact ⟨by rw [HE.out]; rfl, nq0, rfl⟩
  · rw [all6_ne l l' (by omega)]
    have hne : ((m : Int) != (m' : Int)) = true := by simp; omega
    clear h1 h2 hl hl'
    go_enter Try.func5, Try.ntmps5
    go_wp2
    go_ret
    exact ⟨rfl, 0, rfl⟩
set_option maxHeartbeats 1000000 in
theorem sliceEq (w : World) (g1 o1 k1 m g2 o2 k2 m' : Nat) (l l' : List K6) (hl : l.length = m) (hl' : l'.length = m') (hm : m ≤ 1048576) (hm' : m' ≤ 1048576) (h1 : CAt w g1 o1 l) (h2 : CAt w g2 o2 l') :
    Calls Try.prog 10 #[.slice (some ⟨g1, o1, none⟩) m k1, .slice (some ⟨g2, o2, none⟩) m' k2] w fun e w' => e = .returned (.bool (all6 l l')) ∧ ∃ nq, w' = w.drewN nq := by
  by_cases hmm : m = m'
  · subst hmm
    have H1 : Hid (CAt w g1 o1 l) := h1
    have H2 : Hid (CAt w g2 o2 l') := h2
    have Hl : Hid (l.length = m) := hl
    have Hl' : Hid (l'.length = m) := hl'
    obtain ⟨R, HR⟩ : ∃ R : Bool, Hid (R = all6 l l') := ⟨_, rfl⟩
    rw [← HR.out]
    clear h1 h2 hl hl'
    go_enter Try.func10, Try.ntmps10
    go_wp2
    go_loopw [13] (fun i wr => ∃ k : Nat, k ≤ m ∧ i = .int .i64 k ∧ Hid (R = all6 (l.drop k) (l'.drop k)) ∧ ∃ nq, wr = w.drewN nq) (fun i _ => m - (intOf i).toNat)
    case atStart => exact ⟨0, Nat.zero_le _, rfl, HR, 0, rfl⟩
    case round =>
      obtain ⟨k, hk, rfl, Hk, nq0, rfl⟩ := hrel
      by_cases hlt : k < m
      · have hlt' : (k : Int) < (m : Int) := by omega
        obtain ⟨x, hx⟩ : ∃ x, l[k]? = some x := ⟨_, List.getElem?_eq_getElem (by have := Hl.out; omega)⟩
        obtain ⟨y, hy⟩ : ∃ y, l'[k]? = some y := ⟨_, List.getElem?_eq_getElem (by have := Hl'.out; omega)⟩
        obtain ⟨a0, a1, a2, a3, a4, a5⟩ := H1.out.six hx
        obtain ⟨b0, b1, b2, b3, b4, b5⟩ := H2.out.six hy
        have hne := neq6 x y
        have HS : Hid (R = (x.b y && all6 (l.drop (k + 1)) (l'.drop (k + 1)))) := by show _ = _; rw [Hk.out, all6_step hx hy]
        clear hx hy
        cases hq : x.b y
        · have HE : Hid (R = false) := by show _ = _; rw [HS.out, hq]; rfl
          go_wp2
          go_quiet (fail)
          go_wp2
          go_ret
          first
          | exact ⟨by rw [HE.out]; rfl, _, rfl⟩
          | exact ⟨by rw [HE.out]; rfl, _, drewN_trans _ _ _⟩
        · have HE : Hid (R = all6 (l.drop (k + 1)) (l'.drop (k + 1))) := by show _ = _; rw [HS.out, hq]; rfl
          go_wp2
          go_quiet (fail)
          go_wp2
          go_roundw
          case rel => first | exact ⟨k + 1, by omega, by go_num, HE, _, rfl⟩ | exact ⟨k + 1, by omega, by go_num, HE, _, drewN_trans _ _ _⟩
          case measure => simp [intOf]; omega
      · obtain rfl : k = m := by omega
        have HE : Hid (R = true) := by show _ = _; rw [Hk.out, List.drop_of_length_le (by have := Hl.out; omega), List.drop_of_length_le (by have := Hl'.out; omega)]; rfl
        go_wp2
        go_ret
        exact ⟨by rw [HE.out]; rfl, nq0, rfl⟩
  · rw [all6_ne l l' (by omega)]
    have hne : ((m : Int) != (m' : Int)) = true := by simp; omega
    clear h1 h2 hl hl'
    go_enter Try.func10, Try.ntmps10
    go_wp2
    go_ret
    exact ⟨rfl, 0, rfl⟩
theorem implSame (w : World) (g1 o1 k1 m g2 o2 k2 m' : Nat) (l l' : List K6) (hl : l.length = m) (hl' : l'.length = m') (hm : m ≤ 1048576) (hm' : m' ≤ 1048576) (h1 : CAt w g1 o1 l) (h2 : CAt w g2 o2 l') :
    Calls Try.prog 7 #[.slice (some ⟨g1, o1, none⟩) m k1, .slice (some ⟨g2, o2, none⟩) m' k2] w fun e w' => e = .returned (.bool (all6 l l')) ∧ ∃ nq, w' = w.drewN nq := by
  have c := sliceEq w g1 o1 k1 m g2 o2 k2 m' l l' hl hl' hm hm' h1 h2
  go_enter Try.func7, Try.ntmps7
  go_wp2_with fail
  refine c.mono ?_
  rintro e w1 ⟨rfl, nq, rfl⟩
  go_wp2
  go_ret
  exact ⟨rfl, nq, rfl⟩
end Go.Proofs.Ytimpmfjlhpkibaa
