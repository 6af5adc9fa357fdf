/- Ahead of the walk of the law FnCommands, more: a row of bytes is copied by append; commands are compared; what is read of a turned row. -/
import Derived.Test.YtcpgbhjnhahecaaDoorCmdsPre
import Derived.Laws.StructEq
namespace Go.Proofs.YtcpgbhjnhahecaaDoor
open Go.ChangeShapes Go.WideShapes Go.ChangeAt Go.RowKit
open Cm
set_option linter.unusedVariables false
theorem wpList_copy {ops : Array Oper} {rest : List Oper} {o : Oper} {a : Act} {Q : Exit → Act → World → Prop} (hgd : o.guard = none) (s x : Operand)
    (ho : o.op = .call { callee := .builtin .append, args := #[s, x], argTypes := #[22, 22] }) (w0 : World) (b : List Int) (gp n cp : Nat) (hn : b.length = n) (hb : BAt w0 gp 0 b) (hg : gp < w0.heap.size)
    (hs : a.eval s = .slice (some ⟨w0.heap.size, 0, none⟩) 0 0) (hx : a.eval x = .slice (some ⟨gp, 0, none⟩) n cp) (hlen : n ≤ 1000)
    (h : ∀ v' w', BRow w' w0.heap.size v' b → Below w0.heap.size w0 w' → wpList Tryd.prog ops Q rest (a.put o.dst v') w') :
    wpList Tryd.prog ops Q (o :: rest) a (w0.alloc (.cells #[] 5)) := by
  obtain ⟨i0, hi, hz0, hz1, hz2⟩ := info_parts info8
  have hown : (w0.alloc (.cells #[] 5)).ownsRow w0.heap.size 5 1 (.slice (some ⟨w0.heap.size, 0, none⟩) 0 0) 0 [] := World.ownsRow_made w0 #[] 0 (Nat.le_refl _) (by unfold maxLen; omega) rfl
  refine wpList_append_own _ hgd s x 22 ho w0.heap.size 5 i0 (.int .u8 0) 1 1 Tryd.underlying22 hi hz0 hz1 hz2 rfl (by decide) _ 0 _ hs hown ⟨gp, 0, none⟩ n cp (b.map (Value.int .u8)) hx (by simp [hn]) ?_ ?_ (by unfold maxLen; omega) (by omega) (by rw [size_new]; omega) ?_
  · intro j u hj
    have e : (⟨gp, 0, none⟩ : Addr).add j = ⟨gp, j, none⟩ := by unfold Addr.add; split <;> simp_all
    rw [e, cell_old _ _ _ _ hg]
    rw [List.getElem?_map] at hj
    cases hbj : b[j]? with
    | none => rw [hbj] at hj; cases hj
    | some z =>
      rw [hbj] at hj
      have := hb j z hbj
      rw [Nat.zero_add] at this
      rw [this]; exact hj
  · intro u hu
    obtain ⟨z, _, rfl⟩ := List.mem_map.1 hu
    rfl
  · intro v' w' h1 h2 _
    refine h v' w' ?_ (((Below.refl _ w0).alloc (Nat.le_refl _) _).grown h2 (by rw [size_new]; omega) (fun k' hk' => by cases hk'; exact Nat.le_refl _))
    unfold BRow
    rw [hn]
    simpa using h1
theorem eqC (x0 x1 x2 x3 x4 x5 : Int) (w : World) : (binOp .eql 26 (.agg (cmdV x0 x1 x2 x3 x4 x5)) (.agg (cmdV x0 x1 x2 x3 x4 x5))).run Tryd.prog w = .ok (.bool true) w := by
  rw [run_eql_struct, show (10000 : Nat) = 9999 + 1 from rfl, run_equalIn_agg w 9999 26 _ _ (by kernel_rfl) (by kernel_rfl)]
  simp only [Program.fieldsOf, Tryd.underlying26]
  go_simp
theorem wrap8 {r : Int} (h0 : 0 ≤ r) (h1 : r < 255) : IntKind.u8.wrap (IntKind.i64.wrap (1 + r)) = 1 + r := by
  have e : IntKind.i64.wrap (1 + r) = 1 + r := by rw [IntKind.wrap_i64]; omega
  rw [e, IntKind.wrap_u8']; omega
theorem rdV_back {cl sq k a b c : Int} (h : flt cl sq k a b c = 0) : rdV (pk cl sq k a b c) = u7 0 cl sq k a b c := by
  obtain ⟨h0, h1, h2, h3, h4, h5, h6⟩ := read_back h
  unfold rdV
  rw [if_pos h0, h1, h2, h3, h4, h5, h6]
theorem rdV_turned {cl sq k a b c : Int} (h : flt cl sq k a b c = 0) {i : Nat} {x z : Int} (hi : (pk cl sq k a b c)[i]? = some x) (z0 : 0 ≤ z) (z1 : z ≤ 255) (hne : x ≠ z) : rdV ((pk cl sq k a b c).set i z) = u7 5 0 0 0 0 0 0 := by
  unfold rdV
  rw [if_neg (by rw [turned_no (pk_bd h) (read_back h).1 hi z0 z1 hne]; simp)]
theorem BAt.set {w : World} {g : Nat} {l : List Int} (h : BAt w g 0 l) (hg : g < w.heap.size) (i : Nat) (x z : Int) (hi : l[i]? = some x) : BAt (w.setCell ⟨g, i, none⟩ (.int .u8 z)) g 0 (l.set i z) := by
  intro j y hj
  have hc := h i x hi
  rw [Nat.zero_add] at hc ⊢
  by_cases e : i = j
  · subst e
    have hl : i < l.length := (List.getElem?_eq_some_iff.1 hi).1
    rw [List.getElem?_set_self hl] at hj
    rw [← Option.some.inj hj]
    exact World.cell?_setCell_same' _ _ _ (by rw [hc]; rfl)
  · rw [List.getElem?_set_ne e] at hj
    have := h j y hj
    rw [Nat.zero_add] at this
    exact (World.cell?_setCell_other w ⟨g, i, none⟩ ⟨g, j, none⟩ _ (by intro h; injection h with _ h2; exact e h2)).trans this
theorem BAt.setOther {w : World} {g b o : Nat} {l : List Int} (h : BAt w g 0 l) (hne : g ≠ b) (v : Value) : BAt (w.setCell ⟨b, o, none⟩ v) g 0 l := by
  intro j y hj
  have e : (w.setCell ⟨b, o, none⟩ v).heap[g]? = w.heap[g]? := Below.heap_setCell _ ⟨b, o, none⟩ v g hne
  have := h j y hj
  unfold World.cell? at this ⊢
  rw [e]; exact this
end Go.Proofs.YtcpgbhjnhahecaaDoor
