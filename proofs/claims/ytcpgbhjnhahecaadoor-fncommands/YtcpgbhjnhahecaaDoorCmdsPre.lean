/- Ahead of the walk of the law FnCommands: what is read, in seven numbers; what is packed, with a fault or without. -/
import Derived.Test.YtcpgbhjnhahecaaDoorCmdDraws3
import Derived.Test.YtcpgbhjnhahecaaDoorCmdAux
import Derived.Test.YtcpgbhjnhahecaaDoorSpecRead
import Derived.Test.YtcpgbhjnhahecaaDoorReadCmd
import Derived.Test.YtcpgbhjnhahecaaDoorCmdTxLaw
import Derived.Test.YtcpgbhjnhahecaaDoorLater
namespace Go.Proofs.YtcpgbhjnhahecaaDoor
open Go.ChangeShapes Go.WideShapes Go.ChangeAt Go.RowKit
open Cm
set_option linter.unusedVariables false
theorem belowA {w w' : World} (h : Below w.heap.size w w') (o : Obj) : Below w.heap.size w (w'.alloc o) := h.alloc h.size o
theorem belowT {a b c : World} (h : Below a.heap.size a b) (k : Below b.heap.size b c) : Below a.heap.size a c := h.trans (k.mono h.size)
abbrev u7 (c q0 q1 q2 q3 q4 q5 : Int) : Array Value := #[.int .i64 c, .int .i64 q0, .int .i64 q1, .int .i64 q2, .int .i64 q3, .int .i64 q4, .int .i64 q5]
/-- What is read, in seven numbers. -/
def Rd (l : List Int) (c q0 q1 q2 q3 q4 q5 : Int) : Prop := (c = 0 ∧ flt q0 q1 q2 q3 q4 q5 = 0 ∧ pk q0 q1 q2 q3 q4 q5 = l) ∨ c = 5
theorem rdV_form (l : List Int) : ∃ c q0 q1 q2 q3 q4 q5 : Int, rdV l = u7 c q0 q1 q2 q3 q4 q5 ∧ Hid (Rd l c q0 q1 q2 q3 q4 q5) := by
  unfold rdV
  by_cases h : rdB l = true
  · rw [if_pos h]
    obtain ⟨_, h1, h2⟩ := rdB_i h
    exact ⟨_, _, _, _, _, _, _, rfl, .inl ⟨rfl, h1, h2⟩⟩
  · rw [if_neg h]
    exact ⟨_, _, _, _, _, _, _, rfl, .inr rfl⟩
/-- What is packed. -/
def Pd (w : World) (base : Nat) (v : Value) (cl sq k a b c : Int) : Prop := flt cl sq k a b c = 0 → ∃ g cap, v = .slice (some ⟨g, 0, none⟩) (6 + 3 * pc k) cap ∧ BRow w base v (pk cl sq k a b c)
theorem Pd.below {w w' : World} {base : Nat} {v : Value} {cl sq k a b c : Int} (h : Pd w base v cl sq k a b c) (hb : Below w.heap.size w w') : Pd w' base v cl sq k a b c := fun h0 => by
  obtain ⟨g, cap, e, hB⟩ := h h0
  exact ⟨g, cap, e, hB.below hb⟩
theorem implPackV (cl sq k a b c : Int) (w : World) (hL : PcAt w) :
    Calls Tryd.prog 8 #[.agg (cmdV cl sq k a b c)] w fun e w' => ∃ v, e = .returned (.agg #[.int .i64 (flt cl sq k a b c), v]) ∧ (∃ ad m cp, v = .slice ad m cp) ∧ Pd w' w.heap.size v cl sq k a b c ∧ Below w.heap.size w w' := by
  by_cases h : flt cl sq k a b c = 0
  · refine (implPack_yes cl sq k a b c h w hL).mono ?_
    rintro e w' ⟨g, cap, rfl, hB, hb⟩
    exact ⟨_, by rw [h], ⟨_, _, _, rfl⟩, fun _ => ⟨g, cap, rfl, hB⟩, hb⟩
  · refine (implPack_no cl sq k a b c (by simpa using h) w hL).mono ?_
    rintro e w' ⟨rfl, hb⟩
    exact ⟨_, rfl, ⟨_, _, _, rfl⟩, fun h0 => absurd h0 h, hb⟩
theorem pk_len' {cl sq k a b c : Int} {l : List Int} (h : pk cl sq k a b c = l) : l.length = 6 + 3 * pc k := by rw [← h]; exact pk_len cl sq k a b c
theorem lwBytes_same (w : World) (g1 c1 n1 g2 c2 n2 : Nat) (l : List Int) (h1 : l.length = n1) (h2 : l.length = n2) (hb : Byt l) (a1 : BAt w g1 0 l) (a2 : BAt w g2 0 l) :
    Calls Tryd.prog 12 #[.slice (some ⟨g1, 0, none⟩) n1 c1, .slice (some ⟨g2, 0, none⟩) n2 c2] w fun e w' => e = .returned (.bool true) ∧ w' = w :=
  (lwBytes_c _ _ (bs l) (bs l) w (convB w g1 c1 n1 l h1 hb a1) (convB w g2 c2 n2 l h2 hb a2)).mono fun e w' ⟨h, h'⟩ => ⟨by rw [h]; simp, h'⟩
end Go.Proofs.YtcpgbhjnhahecaaDoor
