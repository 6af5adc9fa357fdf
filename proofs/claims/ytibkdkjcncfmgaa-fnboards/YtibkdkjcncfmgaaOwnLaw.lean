/- The walk of the exact law of OwnedBy. No condition. -/
import Derived.Test.YtibkdkjcncfmgaaOwnWalks
import Derived.Test.YtibkdkjcncfmgaaIntLists
import Derived.Test.YtibkdkjcncfmgaaMarks
import Derived.Test.YtibkdkjcncfmgaaExactB2
import Derived.Deep.Cut
import Derived.Deep.CutRange
namespace Go.Proofs.Ytibkdkjcncfmgaa
open Go.ChangeShapes Go.WideShapes Go.ChangeAt Go.RowKit
open Bd
set_option linter.unusedVariables false

/- all blocks below n are as they were, and so are those at n or above that are not g or h -/
structure Kept2 (w w' : World) (g h : Nat) : Prop where
  os : w'.os = w.os
  tape : w'.tape = w.tape
  output : w'.output = w.output
  size : w.heap.size ≤ w'.heap.size
  block : ∀ i, i < w.heap.size → i ≠ g → i ≠ h → w'.heap[i]? = w.heap[i]?
theorem Kept2.row {w w' : World} {g h b n : Nat} {t : TypeId} {f : Nat → Value} (k : Kept2 w w' g h) (r : w.rowIs b t n f) (h1 : b ≠ g) (h2 : b ≠ h) : w'.rowIs b t n f := r.of_block (k.block b r.lt h1 h2)
theorem Kept2.below {W w w' : World} {n g h : Nat} (k : Kept2 w w' g h) (hb : Below n W w) (hn : n ≤ W.heap.size) (h1 : n ≤ g) (h2 : n ≤ h) : Below n W w' :=
  hb.trans ⟨k.os, k.tape, k.output, k.size, fun i hi => k.block i (Nat.lt_of_lt_of_le hi (Nat.le_trans hn hb.size)) (by omega) (by omega)⟩
theorem Kept2.sl {w w' : World} {g h base : Nat} {v : Value} {l : List Int} (k : Kept2 w w' g h) (s : SlI w base v l) (hx : ∀ b, v.ownBlock = some b → b ≠ g ∧ b ≠ h) : SlI w' base v l := by
  rcases s with ⟨h1, h2⟩
  refine ⟨h1, ?_⟩
  rcases h2 with h2 | ⟨b, cap, cur, hv, hbb, hg, r⟩
  · exact .inl h2
  · obtain ⟨x1, x2⟩ := hx b (by rw [hv]; rfl)
    exact .inr ⟨b, cap, cur, hv, hbb, (k.block b (Array.getElem?_eq_some_iff.1 hg).1 x1 x2).trans hg, r⟩
theorem SlI.lt {w : World} {base : Nat} {v : Value} {l : List Int} (s : SlI w base v l) : ∀ b, v.ownBlock = some b → base ≤ b ∧ b < w.heap.size := by
  intro b hb
  rcases s.2 with ⟨h1, h2⟩ | ⟨g, cap, cur, hv, hbb, hg, r⟩
  · rw [h1] at hb; cases hb
  · rw [hv] at hb
    have : g = b := Option.some.inj hb
    subst this
    exact ⟨hbb, (Array.getElem?_eq_some_iff.1 hg).1⟩
theorem SlI.cases {w : World} {base : Nat} {v : Value} {l : List Int} (s : SlI w base v l) : (l = [] ∧ ∃ a cap, v = .slice a 0 cap) ∨ (l ≠ [] ∧ ∃ g cap, v = .slice (some ⟨g, 0, none⟩) l.length cap ∧ base ≤ g ∧ Lst w g cap l) := by
  by_cases h : l = []
  · subst h
    obtain ⟨a, cap, hv⟩ := s.form
    exact .inl ⟨rfl, a, cap, hv⟩
  · have h0 : 0 < l.length := by cases l with | nil => exact absurd rfl h | cons _ _ => simp
    exact .inr ⟨h, Lst.of_owns s h0⟩
theorem SlI.of_lst {w : World} {base g cap : Nat} {l : List Int} (h : Lst w g cap l) (hb : base ≤ g) : SlI w base (.slice (some ⟨g, 0, none⟩) l.length cap) l := by
  obtain ⟨cur, h1, h2, h3, h4, h5⟩ := h
  exact ⟨by simp, .inr ⟨g, cap, cur, rfl, hb, h1, h2, h3, by simpa using h4, by simpa using h5⟩⟩
theorem SlI.grown {w w' : World} {base : Nat} {v : Value} {l : List Int} {r : Option Nat} (s : SlI w base v l) (k : w.grownBy w' r) (hx : ∀ b, v.ownBlock = some b → some b ≠ r) : SlI w' base v l := by
  rcases s with ⟨h1, h2⟩
  refine ⟨h1, ?_⟩
  rcases h2 with h2 | ⟨b, cap, cur, hv, hbb, hg, q⟩
  · exact .inl h2
  · exact .inr ⟨b, cap, cur, hv, hbb, (k.block b (Array.getElem?_eq_some_iff.1 hg).1 (hx b (by rw [hv]; rfl))).trans hg, q⟩
theorem row_grown {w w' : World} {g n : Nat} {t : TypeId} {f : Nat → Value} {r : Option Nat} (h : w.rowIs g t n f) (k : w.grownBy w' r) (hx : some g ≠ r) : w'.rowIs g t n f := h.of_block (k.block g h.lt hx)
/- marks on the board that came in -/
theorem rowU_int (l : List K10) (k i : Nat) : ∃ z : Int, rowU l k i = .int .i64 z := by unfold rowU; split <;> exact ⟨_, rfl⟩
theorem rowF_int (l : List K3) (k i : Nat) : ∃ z : Int, rowF l k i = .int .i64 z := by unfold rowF; split <;> exact ⟨_, rfl⟩
theorem Kept2.of_grown {w w' : World} {g h : Nat} (k : w.grownBy w' (some g)) : Kept2 w w' g h := ⟨k.os, k.tape, k.output, k.size, fun i hi h1 _ => k.block i hi (fun e => h1 (Option.some.inj e))⟩
theorem Kept2.of_grown' {w w' : World} {g h : Nat} (k : w.grownBy w' (some h)) : Kept2 w w' g h := ⟨k.os, k.tape, k.output, k.size, fun i hi _ h2 => k.block i hi (fun e => h2 (Option.some.inj e))⟩
theorem Kept2.trans {a b c : World} {g h : Nat} (k : Kept2 a b g h) (l : Kept2 b c g h) : Kept2 a c g h := ⟨l.os.trans k.os, l.tape.trans k.tape, l.output.trans k.output, Nat.le_trans k.size l.size, fun i hi h1 h2 => (l.block i (Nat.lt_of_lt_of_le hi k.size) h1 h2).trans (k.block i hi h1 h2)⟩
theorem Kept2.alloc (w : World) (g h : Nat) (o : Obj) : Kept2 w (w.alloc o) g h := Kept2.of_grown (World.grownBy_alloc w o _)
set_option maxHeartbeats 4000000 in
theorem markBoard_c (w : World) {base g g' : Nat} {us : List K10} {fs : List K3} (N : NewB w base g g' us fs) (hm : us.length ≤ 1048576) (hm' : fs.length ≤ 1048576) :
    Calls Try.prog 141 #[.agg (brdV (some ⟨g, 0, none⟩) us.length us.length (some ⟨g', 0, none⟩) fs.length fs.length), .int .i64 1] w fun e w' => e = .returned (.int .i64 (1 + 10 * (us.length : Int) + 3 * (fs.length : Int))) ∧ Kept2 w w' g g' := by
  have k1 : Below w.heap.size w (w.alloc (.cells (brdV (some ⟨g, 0, none⟩) us.length us.length (some ⟨g', 0, none⟩) fs.length fs.length) 27)) := (Below.refl _ _).alloc (Nat.le_refl _) _
  have N1 := N.later k1
  have rb := rowTwo w (.slice (some ⟨g, 0, none⟩) us.length us.length) (.slice (some ⟨g', 0, none⟩) fs.length fs.length) 27
  have cU := markUnitS_c _ g us.length us.length (us.length * 10) 1 _ (Nat.le_refl _) hm (by omega) (by omega) N1.u (fun i _ => rowU_int us us.length i)
  have cF := fun w k h0 h1 h => markFieldS_c w g' fs.length fs.length (fs.length * 3) k _ (Nat.le_refl _) hm' h0 h1 h (fun i _ => rowF_int fs fs.length i)
  obtain ⟨m, Hm⟩ : ∃ m, Hid (m = us.length) := ⟨_, rfl⟩
  obtain ⟨m', Hm'⟩ : ∃ m', Hid (m' = fs.length) := ⟨_, rfl⟩
  have hg := N1.u.lt
  have hg' := N1.f.lt
  have hgl : g < w.heap.size := N.u.lt
  have hgl' : g' < w.heap.size := N.f.lt
  have hne := N.lt
  have Nf := N1.f
  rw [← Hm.out] at cU rb hm Nf ⊢
  rw [← Hm'.out] at cF rb hm' Nf cU ⊢
  go_enter Try.func141, Try.ntmps141
  go_wp2_with fail
  refine cU.mono ?_
  rintro e w2 ⟨rfl, r2, k2⟩
  have rb2 := rb.of_block (k2.block w.heap.size rb.lt (by intro e; have := Option.some.inj e; omega))
  have f2 := Nf.of_block (k2.block g' Nf.lt (by intro e; have := Option.some.inj e; omega))
  have p1 : w2.cell? ⟨w.heap.size, 1, none⟩ = some (.slice (some ⟨g', 0, none⟩) m' m') := rb2.cell (i := 1) (by omega)
  clear cU
  go_wp2_with fail
  refine (cF _ _ (by omega) (by omega) f2).mono ?_
  rintro e w3 ⟨rfl, r3, k3⟩
  go_wp2
  go_ret
  exact ⟨rfl, ((Kept2.alloc w g g' _).trans (Kept2.of_grown k2)).trans (Kept2.of_grown' k3)⟩
end Go.Proofs.Ytibkdkjcncfmgaa
