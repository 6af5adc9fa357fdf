/- The sum of a list of commands: the model and the program. Condition: the list has at most 1048576 commands; for the program the table of counts holds what its initialiser lays. -/
import Derived.Test.YtomnadmeolkagaaDoorSumCmd
import Derived.Test.YtomnadmeolkagaaDoorPacks2
namespace Go.Proofs.YtomnadmeolkagaaDoor
open Go.ChangeShapes Go.WideShapes Go.ChangeAt Go.RowKit
open Cm
set_option linter.unusedVariables false

def pk6 (x : K6) : List Int := pk x.c0 x.c1 x.c2 x.c3 x.c4 x.c5
def ft6 (x : K6) : Int := flt x.c0 x.c1 x.c2 x.c3 x.c4 x.c5
/- the first fault of a list of commands -/
def sf : List K6 → Int
  | [] => 0
  | x :: r => if ft6 x = 0 then sf r else ft6 x
def sb (l : List K6) : List Int := l.flatMap pk6
def scC (l : List K6) : Int := if 20 < l.length then 2 else sf l
def scV (l : List K6) : Int := if 20 < l.length then 0 else if sf l = 0 then sm (sb l) else 0
theorem drop_at {l : List K6} {k : Nat} {x : K6} (hx : l[k]? = some x) : l.drop k = x :: l.drop (k + 1) := by
  have h := (List.getElem?_eq_some_iff.1 hx)
  rw [List.drop_eq_getElem_cons h.1, h.2]
theorem sf_no {l : List K6} {k : Nat} {x : K6} (hx : l[k]? = some x) (h : (ft6 x != 0) = true) : sf (l.drop k) = ft6 x := by
  rw [drop_at hx]; unfold sf; rw [if_neg (by simpa using h)]
theorem sf_yes {l : List K6} {k : Nat} {x : K6} (hx : l[k]? = some x) (h : ft6 x = 0) : sf (l.drop k) = sf (l.drop (k + 1)) := by
  rw [drop_at hx]; conv => lhs; unfold sf
  rw [if_pos h]
theorem sb_next {l : List K6} {k : Nat} {x : K6} (hx : l[k]? = some x) : sb (l.take (k + 1)) = sb (l.take k) ++ pk6 x := by
  unfold sb; rw [List.take_add_one, hx, List.flatMap_append]; simp
theorem pk6_len (x : K6) : (pk6 x).length = 6 + 3 * pc x.c2 := pk_len _ _ _ _ _ _
theorem pk6_le (x : K6) : (pk6 x).length ≤ 15 := by rw [pk6_len]; have := pc_le x.c2; omega

/- append of a row of bytes to a row of one's own -/
theorem wpList_pushC {ops : Array Oper} {rest : List Oper} {o : Oper} {a : Act} {Q : Exit → Act → World → Prop} (hgd : o.guard = none) (s x : Operand)
    (ho : o.op = .call { callee := .builtin .append, args := #[s, x], argTypes := #[32, 32] }) (W : World) (G m c : Nat) (b : List Int) (base : Nat) (v : Value) (l : List Int) (hs : a.eval s = v) (hown : BRow W base v l)
    (hx : a.eval x = .slice (some ⟨G, 0, none⟩) m c) (hm : b.length = m) (hc : ∀ i z, b[i]? = some z → W.cell? ⟨G, i, none⟩ = some (.int .u8 z)) (hlen : l.length + m ≤ 1000) (hbase : base ≤ W.heap.size)
    (h : ∀ v' w', BRow w' base v' (l ++ b) → Below base W w' → Keeps W w' → wpList Tryd.prog ops Q rest (a.put o.dst v') w') :
    wpList Tryd.prog ops Q (o :: rest) a W := by
  obtain ⟨i0, hi, hz0, hz1, hz2⟩ := info_parts info8
  subst hm
  refine wpList_append_own _ hgd s x 32 ho base 5 i0 (.int .u8 0) 1 1 Tryd.underlying32 hi hz0 hz1 hz2 rfl (by decide) v l.length _ hs hown ⟨G, 0, none⟩ b.length c (b.map (Value.int .u8)) hx (by simp) ?_ ?_ (by unfold maxLen; omega) (by omega) hbase ?_
  · intro j u hj
    have e : (⟨G, 0, none⟩ : Addr).add j = ⟨G, j, none⟩ := by unfold Addr.add; split <;> simp_all
    rw [e]
    rw [List.getElem?_map] at hj
    cases hb : b[j]? with
    | none => rw [hb] at hj; cases hj
    | some z => rw [hb] at hj; cases hj; exact hc j z hb
  · intro u hu
    obtain ⟨z, _, rfl⟩ := List.mem_map.1 hu
    rfl
  · intro v' w' h1 h2 _
    exact h v' w' (BRow.push h1) ((Below.refl base W).grown h2 hbase (fun k' hk' => (hown.lt k' hk').1)) (Keeps.of_grown hown h2)

/- the sum of a row of bytes, be it nil -/
theorem l1Sum_nil (w : World) : Calls Tryd.prog 12 #[.slice none 0 0] w fun e w' => e = .returned (.int .i64 29) ∧ w' = w := by
  go_enter Tryd.func12, Tryd.ntmps12
  go_wp2
  refine wp_loop_rounds 1 ?_
  rw [rounds_succ]
  go_wp2
  go_ret
  exact ⟨rfl, rfl⟩
theorem sumOf_nil (w : World) : Calls Tryd.prog 15 #[.slice none 0 0] w fun e w' => e = .returned (.int .i64 29) ∧ w' = w := by
  go_enter Tryd.func15, Tryd.ntmps15
  go_wp2
  refine wp_loop_rounds 1 ?_
  rw [rounds_succ]
  go_wp2
  go_ret
  exact ⟨rfl, rfl⟩
theorem BRow.cases {w : World} {base : Nat} {v : Value} {l : List Int} (h : BRow w base v l) : (v = .slice none 0 0 ∧ l = []) ∨ ∃ g cap, v = .slice (some ⟨g, 0, none⟩) l.length cap := by
  rcases h.2 with ⟨hv, h0⟩ | ⟨g, cap, cur, hv, hb, hg, _⟩
  · exact .inl ⟨hv, List.length_eq_zero_iff.1 h0⟩
  · exact .inr ⟨g, cap, hv⟩
theorem l1Sum_row {w : World} {base : Nat} {v : Value} {l : List Int} (h : BRow w base v l) (hm : l.length ≤ 1000) (hb : ∀ x ∈ l, 0 ≤ x ∧ x ≤ 255) : Calls Tryd.prog 12 #[v] w fun e w' => e = .returned (.int .i64 (sm l)) ∧ w' = w := by
  rcases h.cases with ⟨rfl, rfl⟩ | ⟨g, cap, rfl⟩
  · exact l1Sum_nil w
  · exact l1Sum_c g 0 cap l.length l rfl (by omega) hb w h.at
theorem sumOf_row {w : World} {base : Nat} {v : Value} {l : List Int} (h : BRow w base v l) (hm : l.length ≤ 1000) (hb : ∀ x ∈ l, 0 ≤ x ∧ x ≤ 255) : Calls Tryd.prog 15 #[v] w fun e w' => e = .returned (.int .i64 (sm l)) ∧ w' = w := by
  rcases h.cases with ⟨rfl, rfl⟩ | ⟨g, cap, rfl⟩
  · exact sumOf_nil w
  · exact sumOf_c g 0 cap l.length l rfl (by omega) hb w h.at

end Go.Proofs.YtomnadmeolkagaaDoor
