/- Texts of mine put together (a claim holds at most 60 files): Marks, OwnLaw, PutImpl, PutImpl2, BrdPlain0, BrdPlain, GfGive, Shares. -/
import Derived.Test.YthopodopedbooaaGreatPartL01
import Derived.Test.YthopodopedbooaaGreatPartL28
import Derived.Test.YthopodopedbooaaGreatPartL31
import Derived.Deep.Cut
import Derived.Deep.CutRange
import Derived.Maps.OwnSet
import Derived.Test.YthopodopedbooaaGreatPartL16
import Derived.Test.YthopodopedbooaaGreatPartL12
import Derived.Test.YthopodopedbooaaGreatPartL15

/- Marks -/
/- Contracts of the exact laws' own marks on lists of units and of fields, and on boards. Condition: the lists lie in blocks of their own and have at most 1048576 members. -/
section
namespace Go.Proofs.YthopodopedbooaaGreat
open Go.ChangeShapes Go.WideShapes Go.ChangeAt Go.RowKit
set_option linter.unusedVariables false

/- the first j cells bear the marks from k0 on -/
def mkd (k0 : Int) (f : Nat → Value) (j : Nat) (i : Nat) : Value := if i < j then .int .i64 (k0 + (i : Int)) else f i
theorem grown_set0 (w : World) (g o : Nat) (v : Value) : w.grownBy (w.setCell ⟨g, o, none⟩ v) (some g) :=
  ⟨rfl, rfl, rfl, by simp [World.setCell], fun i _ hne => Below.heap_setCell _ ⟨g, o, none⟩ v i (fun e => hne (by rw [e]))⟩
theorem grown_tr {a b c : World} {row : Option Nat} (h : a.grownBy b row) (k : b.grownBy c row) : a.grownBy c row :=
  ⟨k.os.trans h.os, k.tape.trans h.tape, k.output.trans h.output, Nat.le_trans h.size k.size, fun i hi hne => (k.block i (Nat.lt_of_lt_of_le hi h.size) hne).trans (h.block i hi hne)⟩
theorem grown_same (w : World) (row : Option Nat) : w.grownBy w row := ⟨rfl, rfl, rfl, Nat.le_refl _, fun _ _ _ => rfl⟩
theorem mkd_set10 (k0 : Int) (f : Nat → Value) (k : Nat) (KK : Int) (hK : KK = k0 + 10 * (k : Int)) (i : Nat) :
    (if i = k * 10 + 9 then Value.int .i64 (KK + 1 + 1 + 1 + 1 + 1 + 1 + 1 + 1 + 1) else if i = k * 10 + 8 then Value.int .i64 (KK + 1 + 1 + 1 + 1 + 1 + 1 + 1 + 1) else if i = k * 10 + 7 then Value.int .i64 (KK + 1 + 1 + 1 + 1 + 1 + 1 + 1) else if i = k * 10 + 6 then Value.int .i64 (KK + 1 + 1 + 1 + 1 + 1 + 1) else if i = k * 10 + 5 then Value.int .i64 (KK + 1 + 1 + 1 + 1 + 1) else if i = k * 10 + 4 then Value.int .i64 (KK + 1 + 1 + 1 + 1) else if i = k * 10 + 3 then Value.int .i64 (KK + 1 + 1 + 1) else if i = k * 10 + 2 then Value.int .i64 (KK + 1 + 1) else if i = k * 10 + 1 then Value.int .i64 (KK + 1) else if i = k * 10 then Value.int .i64 (KK) else mkd k0 f (k * 10) i) = mkd k0 f ((k + 1) * 10) i := by
  subst hK
  unfold mkd
  by_cases e9 : i = k * 10 + 9
  · rw [if_pos e9, if_pos (by omega)]; congr 1; omega
  rw [if_neg e9]
  by_cases e8 : i = k * 10 + 8
  · rw [if_pos e8, if_pos (by omega)]; congr 1; omega
  rw [if_neg e8]
  by_cases e7 : i = k * 10 + 7
  · rw [if_pos e7, if_pos (by omega)]; congr 1; omega
  rw [if_neg e7]
  by_cases e6 : i = k * 10 + 6
  · rw [if_pos e6, if_pos (by omega)]; congr 1; omega
  rw [if_neg e6]
  by_cases e5 : i = k * 10 + 5
  · rw [if_pos e5, if_pos (by omega)]; congr 1; omega
  rw [if_neg e5]
  by_cases e4 : i = k * 10 + 4
  · rw [if_pos e4, if_pos (by omega)]; congr 1; omega
  rw [if_neg e4]
  by_cases e3 : i = k * 10 + 3
  · rw [if_pos e3, if_pos (by omega)]; congr 1; omega
  rw [if_neg e3]
  by_cases e2 : i = k * 10 + 2
  · rw [if_pos e2, if_pos (by omega)]; congr 1; omega
  rw [if_neg e2]
  by_cases e1 : i = k * 10 + 1
  · rw [if_pos e1, if_pos (by omega)]; congr 1; omega
  rw [if_neg e1]
  by_cases e0 : i = k * 10
  · rw [if_pos e0, if_pos (by omega)]; congr 1; omega
  rw [if_neg e0]
  by_cases hi : i < k * 10
  · rw [if_pos hi, if_pos (by omega)]
  · rw [if_neg hi, if_neg (by omega)]
theorem mkd_set3 (k0 : Int) (f : Nat → Value) (k : Nat) (KK : Int) (hK : KK = k0 + 3 * (k : Int)) (i : Nat) :
    (if i = k * 3 + 2 then Value.int .i64 (KK + 1 + 1) else if i = k * 3 + 1 then Value.int .i64 (KK + 1) else if i = k * 3 then Value.int .i64 (KK) else mkd k0 f (k * 3) i) = mkd k0 f ((k + 1) * 3) i := by
  subst hK
  unfold mkd
  by_cases e2 : i = k * 3 + 2
  · rw [if_pos e2, if_pos (by omega)]; congr 1; omega
  rw [if_neg e2]
  by_cases e1 : i = k * 3 + 1
  · rw [if_pos e1, if_pos (by omega)]; congr 1; omega
  rw [if_neg e1]
  by_cases e0 : i = k * 3
  · rw [if_pos e0, if_pos (by omega)]; congr 1; omega
  rw [if_neg e0]
  by_cases hi : i < k * 3
  · rw [if_pos hi, if_pos (by omega)]
  · rw [if_neg hi, if_neg (by omega)]
end Go.Proofs.YthopodopedbooaaGreat
end

/- OwnLaw -/
/- The walk of the exact law of OwnedBy. No condition. -/
section
namespace Go.Proofs.YthopodopedbooaaGreat
open Go.ChangeShapes Go.WideShapes Go.ChangeAt Go.RowKit
open Bd
set_option linter.unusedVariables false

/- all blocks below n are as they were, and so are those at n or above that are not g or h -/
structure Kept2 (w w' : World) (g h : Nat) : Prop where
  os : w'.os = w.os
  tape : w'.tape = w.tape
  output : w'.output = w.output
  size : w.heap.size ≤ w'.heap.size
  block : ∀ i, i < w.heap.size → i ≠ g → i ≠ h → w'.heap[i]? = w.heap[i]?
theorem Kept2.row {w w' : World} {g h b n : Nat} {t : TypeId} {f : Nat → Value} (k : Kept2 w w' g h) (r : w.rowIs b t n f) (h1 : b ≠ g) (h2 : b ≠ h) : w'.rowIs b t n f := r.of_block (k.block b r.lt h1 h2)
theorem Kept2.below {W w w' : World} {n g h : Nat} (k : Kept2 w w' g h) (hb : Below n W w) (hn : n ≤ W.heap.size) (h1 : n ≤ g) (h2 : n ≤ h) : Below n W w' :=
  hb.trans ⟨k.os, k.tape, k.output, k.size, fun i hi => k.block i (Nat.lt_of_lt_of_le hi (Nat.le_trans hn hb.size)) (by omega) (by omega)⟩
theorem Kept2.sl {w w' : World} {g h base : Nat} {v : Value} {l : List Int} (k : Kept2 w w' g h) (s : SlI w base v l) (hx : ∀ b, v.ownBlock = some b → b ≠ g ∧ b ≠ h) : SlI w' base v l := by
  rcases s with ⟨h1, h2⟩
  refine ⟨h1, ?_⟩
  rcases h2 with h2 | ⟨b, cap, cur, hv, hbb, hg, r⟩
  · exact .inl h2
  · obtain ⟨x1, x2⟩ := hx b (by rw [hv]; rfl)
    exact .inr ⟨b, cap, cur, hv, hbb, (k.block b (Array.getElem?_eq_some_iff.1 hg).1 x1 x2).trans hg, r⟩
theorem SlI.lt {w : World} {base : Nat} {v : Value} {l : List Int} (s : SlI w base v l) : ∀ b, v.ownBlock = some b → base ≤ b ∧ b < w.heap.size := by
  intro b hb
  rcases s.2 with ⟨h1, h2⟩ | ⟨g, cap, cur, hv, hbb, hg, r⟩
  · rw [h1] at hb; cases hb
  · rw [hv] at hb
    have : g = b := Option.some.inj hb
    subst this
    exact ⟨hbb, (Array.getElem?_eq_some_iff.1 hg).1⟩
theorem SlI.cases {w : World} {base : Nat} {v : Value} {l : List Int} (s : SlI w base v l) : (l = [] ∧ ∃ a cap, v = .slice a 0 cap) ∨ (l ≠ [] ∧ ∃ g cap, v = .slice (some ⟨g, 0, none⟩) l.length cap ∧ base ≤ g ∧ Lst w g cap l) := by
  by_cases h : l = []
  · subst h
    obtain ⟨a, cap, hv⟩ := s.form
    exact .inl ⟨rfl, a, cap, hv⟩
  · have h0 : 0 < l.length := by cases l with | nil => exact absurd rfl h | cons _ _ => simp
    exact .inr ⟨h, Lst.of_owns s h0⟩
theorem SlI.of_lst {w : World} {base g cap : Nat} {l : List Int} (h : Lst w g cap l) (hb : base ≤ g) : SlI w base (.slice (some ⟨g, 0, none⟩) l.length cap) l := by
  obtain ⟨cur, h1, h2, h3, h4, h5⟩ := h
  exact ⟨by simp, .inr ⟨g, cap, cur, rfl, hb, h1, h2, h3, by simpa using h4, by simpa using h5⟩⟩
theorem SlI.grown {w w' : World} {base : Nat} {v : Value} {l : List Int} {r : Option Nat} (s : SlI w base v l) (k : w.grownBy w' r) (hx : ∀ b, v.ownBlock = some b → some b ≠ r) : SlI w' base v l := by
  rcases s with ⟨h1, h2⟩
  refine ⟨h1, ?_⟩
  rcases h2 with h2 | ⟨b, cap, cur, hv, hbb, hg, q⟩
  · exact .inl h2
  · exact .inr ⟨b, cap, cur, hv, hbb, (k.block b (Array.getElem?_eq_some_iff.1 hg).1 (hx b (by rw [hv]; rfl))).trans hg, q⟩
theorem row_grown {w w' : World} {g n : Nat} {t : TypeId} {f : Nat → Value} {r : Option Nat} (h : w.rowIs g t n f) (k : w.grownBy w' r) (hx : some g ≠ r) : w'.rowIs g t n f := h.of_block (k.block g h.lt hx)
/- marks on the board that came in -/
theorem rowU_int (l : List K10) (k i : Nat) : ∃ z : Int, rowU l k i = .int .i64 z := by unfold rowU; split <;> exact ⟨_, rfl⟩
theorem rowF_int (l : List K3) (k i : Nat) : ∃ z : Int, rowF l k i = .int .i64 z := by unfold rowF; split <;> exact ⟨_, rfl⟩
theorem Kept2.of_grown {w w' : World} {g h : Nat} (k : w.grownBy w' (some g)) : Kept2 w w' g h := ⟨k.os, k.tape, k.output, k.size, fun i hi h1 _ => k.block i hi (fun e => h1 (Option.some.inj e))⟩
theorem Kept2.of_grown' {w w' : World} {g h : Nat} (k : w.grownBy w' (some h)) : Kept2 w w' g h := ⟨k.os, k.tape, k.output, k.size, fun i hi _ h2 => k.block i hi (fun e => h2 (Option.some.inj e))⟩
theorem Kept2.trans {a b c : World} {g h : Nat} (k : Kept2 a b g h) (l : Kept2 b c g h) : Kept2 a c g h := ⟨l.os.trans k.os, l.tape.trans k.tape, l.output.trans k.output, Nat.le_trans k.size l.size, fun i hi h1 h2 => (l.block i (Nat.lt_of_lt_of_le hi k.size) h1 h2).trans (k.block i hi h1 h2)⟩
theorem Kept2.alloc (w : World) (g h : Nat) (o : Obj) : Kept2 w (w.alloc o) g h := Kept2.of_grown (World.grownBy_alloc w o _)
end Go.Proofs.YthopodopedbooaaGreat
end

/- PutImpl -/
/- Contracts of the program's parts of PutUnit: the map's rows as rising units, a copy of the fields. Condition: the map is the call's own. -/
section
namespace Go.Proofs.YthopodopedbooaaGreat
open Go.ChangeShapes Go.WideShapes Go.ChangeAt Go.RowKit
open Bd
set_option linter.unusedVariables false

theorem MapAt.size {w : World} {b : Nat} {l : List K10} (h : MapAt w b l) : ∃ es clock, w.heap[b]? = some (.map es clock) ∧ es.size = l.length := by
  obtain ⟨es, clock, hb, F, hs, hD⟩ := h
  refine ⟨es, clock, hb, ?_⟩
  have := congrArg (fun d => match d with | DataW.map x => x.length | _ => 0) hD
  simp only at this
  rw [List.length_map, length_sorted] at this
  simpa using this.symm
theorem rise_inj {l : List K10} (h : Rise l) {x y : K10} (hx : x ∈ l) (hy : y ∈ l) (he : x.c0 = y.c0) : x = y := by
  obtain ⟨i, hi, rfl⟩ := List.getElem_of_mem hx
  obtain ⟨j, hj, rfl⟩ := List.getElem_of_mem hy
  by_cases hij : i = j
  · subst hij; rfl
  · rcases Nat.lt_or_gt_of_ne hij with h1 | h1
    · have := List.pairwise_iff_getElem.1 h i j hi hj h1; omega
    · have := List.pairwise_iff_getElem.1 h j i hj hi h1; omega
theorem find_mem {l : List K10} (h : Rise l) {x : K10} (hx : x ∈ l) : findU l x.c0 = some x := by
  cases hf : findU l x.c0 with
  | none =>
    unfold findU at hf
    have := List.find?_eq_none.1 hf x hx
    simp at this
  | some y =>
    obtain ⟨h1, h2⟩ := find_id hf
    rw [rise_inj h h1 hx h2]
theorem putU_count {u : K10} : ∀ {l : List K10}, Rise l → (findU l u.c0 = none ∧ (putU u l).length = l.length + 1) ∨ ((∃ x, findU l u.c0 = some x) ∧ (putU u l).length = l.length)
  | [], _ => .inl ⟨rfl, rfl⟩
  | x :: l, h => by
    obtain ⟨h1, h2⟩ := List.pairwise_cons.1 h
    unfold putU
    by_cases hlt : u.c0 < x.c0
    · rw [if_pos hlt]
      refine .inl ⟨?_, rfl⟩
      unfold findU
      rw [List.find?_eq_none]
      intro y hy
      rcases List.mem_cons.1 hy with rfl | hy
      · simp; omega
      · have := h1 y hy; simp; omega
    rw [if_neg hlt]
    by_cases he : u.c0 = x.c0
    · rw [if_pos he]
      exact .inr ⟨⟨x, by unfold findU; rw [List.find?_cons_of_pos (by simp; omega)]⟩, rfl⟩
    · rw [if_neg he]
      have hne : ¬ (x.c0 == u.c0) = true := by simp; omega
      have e : findU (x :: l) u.c0 = findU l u.c0 := by unfold findU; rw [List.find?_cons_of_neg (p := fun x : K10 => x.c0 == u.c0) hne]
      rw [e]
      rcases putU_count h2 with ⟨a, b⟩ | ⟨a, b⟩
      · exact .inl ⟨a, by simp [b]⟩
      · exact .inr ⟨a, by simp [b]⟩
theorem makeU0 (n : Nat) (hn : n ≤ 1048576) (w : World) : (Instr.makeSlice 24 (.int .i64 0) (.int .i64 (n : Int))).run Tryz.prog w = .ok (.slice (some ⟨w.heap.size, 0, none⟩) 0 n) (w.alloc (.cells (madeCells K10.z.v (n * 10)) 105)) := by
  obtain ⟨i0, hi, hz0, hz1, hz2⟩ := info_parts infoU
  have h := run_make (P := Tryz.prog) w 24 105 i0 (.agg K10.z.v) Tryz.underlying24 hi hz0 .i64 .i64 (0 : Int) (n : Int) (by omega) (by omega) (by rw [hz2]; omega) (by omega)
  rw [hz1, Int.toNat_natCast] at h
  exact h
theorem wpList_pushU2 {ops : Array Oper} {rest : List Oper} {o : Oper} {a : Act} {Q : Exit → Act → World → Prop} (hgd : o.guard = none) (s x : Operand)
    (ho : o.op = .call { callee := .builtin .append, args := #[s, x], argTypes := #[24, 24] }) (w0 : World) (u : K10) (base : Nat) (v : Value) (l : List K10) (hs : a.eval s = v) (hown : SlU w0 base v l)
    (hx : a.eval x = .slice (some ⟨w0.heap.size, 0, none⟩) 1 1) (hlen : l.length ≤ 100) (hbase : base ≤ w0.heap.size)
    (h : ∀ v' w', SlU w' base v' (l ++ [u]) → Below base w0 w' → (w0.alloc (.cells u.v 105)).grownBy w' v.ownBlock → wpList Tryz.prog ops Q rest (a.put o.dst v') w') :
    wpList Tryz.prog ops Q (o :: rest) a (w0.alloc (.cells u.v 105)) := by
  obtain ⟨i0, hi, hz0, hz1, hz2⟩ := info_parts infoU
  have hown' : SlU (w0.alloc (.cells u.v 105)) base v l := hown.below ((Below.refl _ _).alloc (Nat.le_refl _) _)
  refine wpList_append_own _ hgd s x 24 ho base 105 i0 (.agg K10.z.v) 10 80 Tryz.underlying24 hi hz0 hz1 hz2 rfl (by decide) v l.length _ hs hown' ⟨w0.heap.size, 0, none⟩ 1 1 u.v.toList hx (by rfl) ?_ ?_ (by unfold maxLen; omega) (by omega) (by rw [size_new]; omega) ?_
  · intro j y hj
    rw [add_plain', Nat.zero_add]
    exact cell_new _ _ _ _ _ (by simpa using hj)
  · intro y hy
    exact flatU_one [u] y (by unfold flatU; exact List.mem_append_left _ hy)
  · intro v' w' h1 h2 _
    refine h v' w' ?_ (((Below.refl base w0).alloc hbase _).grown h2 (by rw [size_new]; omega) (fun k' hk' => (hown.lt k' hk').1)) h2
    unfold SlU
    rw [flatU_app, List.length_append]
    exact h1
theorem own_apart {w : World} {b1 b2 : Nat} {v v' : Value} {l : List K10} {l' : List Int} (h : SlU w b1 v l) (h' : SlI w b2 v' l') : ∀ q, v'.ownBlock = some q → some q ≠ v.ownBlock := by
  intro q hq e
  rcases h.2 with ⟨rfl, _⟩ | ⟨g, cap, cur, rfl, _, hg, _⟩
  · cases e
  · rcases h'.2 with ⟨rfl, _⟩ | ⟨g', cap', cur', rfl, _, hg', _⟩
    · cases hq
    · have e1 : g' = q := Option.some.inj hq
      have e2 : q = g := Option.some.inj e
      subst e1 e2
      rw [hg] at hg'
      injection hg' with hg'
      injection hg' with _ ht _
      exact absurd ht (by decide)
/- a copy of the fields -/
set_option maxRecDepth 20000 in
set_option maxHeartbeats 2000000 in
theorem clone_c (g off c n : Nat) (fs : List K3) (hn : fs.length = n) (hl : n ≤ 4) (w : World) (hg : g < w.heap.size) (hat : FAt w g off fs) :
    Calls Tryz.prog 138 #[.slice (some ⟨g, off, none⟩) n c] w fun e w' => ∃ v, e = .returned v ∧ SlF w' w.heap.size v fs ∧ Below w.heap.size w w' := by
  have Hn : Hid (fs.length = n) := hn
  have Hat : Hid (FAt w g off fs) := hat
  have hnil : ∀ W, (binOp .eql 25 (.slice (some ⟨g, off, none⟩) n c) (.slice none 0 0)).run Tryz.prog W = .ok (.bool false) W := fun W => by kernel_rfl
  clear hn hat
  go_enter Tryz.func138, Tryz.ntmps138
  go_wp2_with (first | (at_builtin; refine wpList_copyF rfl _ _ rfl w fs g off n c Hn.out Hat.out hg rfl rfl (by omega) ?_))
  intro v2 w2 hS2 hb2
  go_wp2_with fail
  go_ret
  exact ⟨_, rfl, hS2, hb2⟩
set_option maxRecDepth 20000 in
set_option maxHeartbeats 2000000 in
theorem clone_i (p : Option Addr) (c n : Nat) (fs : List K3) (hn : fs.length = n) (hl : n ≤ 4) (w : World) (hat : InF w p n c fs) :
    Calls Tryz.prog 138 #[.slice p n c] w fun e w' => ∃ v, e = .returned v ∧ SlF w' w.heap.size v fs ∧ Below w.heap.size w w' := by
  rcases hat with ⟨rfl, rfl, rfl, rfl⟩ | ⟨g, off, rfl, hg, hat⟩
  · have hnil : ∀ W, (binOp .eql 25 (.slice none 0 0) (.slice none 0 0)).run Tryz.prog W = .ok (.bool true) W := fun W => by kernel_rfl
    go_enter Tryz.func138, Tryz.ntmps138
    go_wp2
    go_ret
    exact ⟨_, rfl, ⟨rfl, .inl ⟨rfl, rfl⟩⟩, Below.refl _ _⟩
  · exact clone_c g off c n fs hn hl w hg hat
end Go.Proofs.YthopodopedbooaaGreat
end

/- PutImpl2 -/
/- The contract of the program's PutUnit. Condition: the board's lists lie in memory as they were laid there. -/
section
namespace Go.Proofs.YthopodopedbooaaGreat
open Go.ChangeShapes Go.WideShapes Go.ChangeAt Go.RowKit
open Bd
set_option linter.unusedVariables false

theorem putU_uf {u : K10} {l : List K10} (h : ∀ x ∈ l, uf x = 0) (hu : uf u = 0) : ∀ x ∈ putU u l, uf x = 0 := by
  intro x hx
  rcases putU_mem hx with rfl | hx
  · exact hu
  · exact h x hx
end Go.Proofs.YthopodopedbooaaGreat
end

/- BrdPlain0 -/
/- Plain facts: a board whose parts are right has no fault. No condition. -/
section
namespace Go.Proofs.YthopodopedbooaaGreat
open Bd
set_option linter.unusedVariables false

theorem ffs_mk : ∀ {l : List K3}, (∀ f ∈ l, ff f = true) → ffs l = 0
  | [], _ => rfl
  | f :: l, h => by
    unfold ffs
    rw [if_neg (by rw [h f (by simp)]; simp)]
    exact ffs_mk (fun x hx => h x (List.mem_cons_of_mem _ hx))
theorem ufs_mk {F : Int} (hF : F = 0) : ∀ {l : List K10} {p : Option Int}, (∀ u ∈ l, uf u = 0) → (∀ q, p = some q → ∀ u ∈ l, q < u.c0) → Rise l → ufs p F l = 0
  | [], _, _, _, _ => hF
  | a :: l, p, h, hp, hr => by
    unfold ufs
    rw [if_neg (by rw [h a (by simp)]; simp)]
    have hl : leP p a.c0 = false := by
      cases p with
      | none => rfl
      | some q => have := hp q rfl a (by simp); simp [leP]; omega
    rw [if_neg (by rw [hl]; simp)]
    have hr' := List.pairwise_cons.1 hr
    exact ufs_mk hF (fun x hx => h x (List.mem_cons_of_mem _ hx)) (fun q hq u hu => by cases hq; exact hr'.1 u hu) hr'.2
theorem bf_mk {us : List K10} {fs : List K3} (h1 : us.length ≤ 8) (h2 : fs.length ≤ 4) (h3 : ∀ u ∈ us, uf u = 0) (h4 : ∀ f ∈ fs, ff f = true) (h5 : Rise us) : bf us fs = 0 := by
  unfold bf
  rw [if_neg (by omega)]
  exact ufs_mk (ffs_mk h4) h3 (fun q hq => by cases hq) h5
end Go.Proofs.YthopodopedbooaaGreat
end

/- BrdPlain -/
/- Plain facts: a unit that was put is there, all others are as they were, and the board has no fault. No condition. -/
section
namespace Go.Proofs.YthopodopedbooaaGreat
open Bd
set_option linter.unusedVariables false

theorem putU_self (u : K10) : ∀ l : List K10, u ∈ putU u l
  | [] => by unfold putU; simp
  | x :: l => by
    unfold putU
    split
    · simp
    · split
      · simp
      · exact List.mem_cons_of_mem _ (putU_self u l)
theorem putU_keep {u x : K10} (hn : x.c0 ≠ u.c0) : ∀ {l : List K10}, x ∈ l → x ∈ putU u l
  | y :: l, h => by
    unfold putU
    split
    · exact List.mem_cons_of_mem _ h
    · split
      · rename_i h1 h2
        rcases List.mem_cons.1 h with rfl | h
        · exact absurd h2.symm hn
        · exact List.mem_cons_of_mem _ h
      · rcases List.mem_cons.1 h with rfl | h
        · simp
        · exact List.mem_cons_of_mem _ (putU_keep hn h)
/- PutUnit that answered OK -/
theorem pu_ok {us : List K10} {fs : List K3} {u : K10} (h : puC us fs u = 0) : bf us fs = 0 ∧ uf u = 0 ∧ puU us fs u = putU u us ∧ puF us fs u = fs ∧ bf (putU u us) fs = 0 ∧ findU (putU u us) u.c0 = some u ∧ (∀ x ∈ us, x.c0 ≠ u.c0 → findU (putU u us) x.c0 = some x) := by
  rcases pu_cases us fs u with ⟨h1, e, _⟩ | ⟨h1, h2, e, _⟩ | ⟨h1, h2, h3, e, _⟩ | ⟨h1, h2, h3, e, eu, ef⟩
  · rw [e] at h; rw [h] at h1; cases h1
  · rw [e] at h; rw [h] at h2; cases h2
  · rw [e] at h; cases h
  · obtain ⟨n8, n4, huf, hff, hris⟩ := bf_ok h1
    have hr := putU_rise (u := u) hris
    exact ⟨h1, h2, eu, ef, bf_mk h3 n4 (putU_uf huf h2) hff hr, find_mem hr (putU_self u us), fun x hx hn => find_mem hr (putU_keep hn hx)⟩
end Go.Proofs.YthopodopedbooaaGreat
end

/- GfGive -/
/- Plain facts of gifts: a unit that is given away, the board and the world behind it, what there is together, whose the units are. No condition. -/
section
namespace Go.Proofs.YthopodopedbooaaGreat
open Bd
set_option linter.unusedVariables false

/- a unit handed to another owner: it has no job any more -/
def handed (u : K10) (o : Int) : K10 := ⟨u.c0, o, u.c2, u.c3, u.c4, u.c5, 0, 0, 0, 0⟩
def givC (h : Int → Int → Bool) (x : KW) (a i b : Int) : Int := if (prF h x a b == 0) = false then prF h x a b else match findU x.us i with | none => 4 | some u => if (u.c1 == a) = true then 0 else 9
def givU (x : KW) (i b : Int) : List K10 := match findU x.us i with | none => x.us | some u => putU (handed u b) x.us
def givX (h : Int → Int → Bool) (x : KW) (a i b : Int) : KW := if (givC h x a i b == 0) = true then ⟨x.t, x.s, givU x i b, x.fs, x.fa, x.se, x.oo⟩ else kz
def crU : List K10 → Int
  | [] => 0
  | u :: l => u.c5 + crU l
/- what there is together -/
def totF (x : KW) : Int := x.s + crU x.us + sumF x.fs + purS x.fa
theorem GU.handed {u : K10} (g : GU u) {b : Int} (h : (0 ≤ b ∧ b ≤ 3) ∨ b = 9) : GU (handed u b) := ⟨g.i0, g.i1, h, g.x0, g.x1, g.y0, g.y1, g.l0, g.l1, g.c0, g.c1, .inl ⟨rfl, rfl, rfl, rfl⟩⟩
theorem Gd.bf {us : List K10} {fs : List K3} (g : Gd us fs) : bf us fs = 0 := bf_mk g.n8 g.n4 g.u g.f g.r
theorem crU_set : ∀ {l : List K10} {k : Nat} {u : K10}, l[k]? = some u → ∀ x : K10, x.c5 = u.c5 → crU (l.set k x) = crU l
  | [], k, u, h, x, e => by simp at h
  | y :: l, 0, u, h, x, e => by
    have e' : y = u := by simpa using h
    subst e'
    show x.c5 + crU l = y.c5 + crU l
    rw [e]
  | y :: l, k + 1, u, h, x, e => by
    show y.c5 + crU (l.set k x) = y.c5 + crU l
    rw [crU_set (by simpa using h) x e]
theorem ids_set : ∀ {l : List K10} {k : Nat} {u : K10} {b : Int}, l[k]? = some u → u.c1 ≠ b → ∀ x : K10, x.c1 = b → (idsOf b (l.set k x)).length = (idsOf b l).length + 1
  | [], k, u, b, h, hn, x, e => by simp at h
  | y :: l, 0, u, b, h, hn, x, e => by
    have e' : y = u := by simpa using h
    subst e'
    show (idsOf b (x :: l)).length = (idsOf b (y :: l)).length + 1
    unfold idsOf
    have h1 : (x.c1 == b) = true := by simpa using e
    have h2 : (y.c1 == b) = false := by simpa using hn
    rw [h1, h2]
    simp
  | y :: l, k + 1, u, b, h, hn, x, e => by
    show (idsOf b (y :: l.set k x)).length = (idsOf b (y :: l)).length + 1
    have ih := ids_set (b := b) (by simpa using h : l[k]? = some u) hn x e
    unfold idsOf
    cases y.c1 == b
    · simpa using ih
    · simp at ih ⊢
      omega
/- owners of units may turn -/
theorem gd_units {h : Int → Int → Bool} {x : KW} {us' : List K10} (g : GdW h x) (hb : Bd.bf us' x.fs = 0) (ho : ∀ u ∈ us', u.c1 ≠ 9 → goneA x.fa u.c1 = false) : GdW h ⟨x.t, x.s, us', x.fs, x.fa, x.se, x.oo⟩ :=
  ⟨g.t, g.s, hb, g.a4, g.s6, g.o6, g.a, g.se, g.oo, owF_iff.2 ho⟩
theorem givC_zero {h : Int → Int → Bool} {x : KW} {a i b : Int} : givC h x a i b = 0 ↔ prF h x a b = 0 ∧ ∃ u, findU x.us i = some u ∧ u.c1 = a := by
  unfold givC
  by_cases e : prF h x a b = 0
  · cases hf : findU x.us i with
    | none => simp [e]
    | some u =>
      by_cases hu : u.c1 = a
      · simp [e, hu]
      · simp [e, hu]
  · simp [e]
structure GivG (h : Int → Int → Bool) (x : KW) (a i b : Int) : Prop where
  at' : ∃ k u, x.us[k]? = some u ∧ u.c0 = i ∧ u.c1 = a ∧ (givX h x a i b).us = x.us.set k (handed u b)
  fnd : ∃ u, findU (givX h x a i b).us i = some (handed u b)
  wf0 : wf h (givX h x a i b) = 0
  tot : totF (givX h x a i b) = totF x
  ids : (idsOf b (givX h x a i b).us).length = (idsOf b x.us).length + 1
  bx : Bd.bf x.us x.fs = 0
  bg : Bd.bf (givX h x a i b).us x.fs = 0
  ob : own b = true
  len : (givX h x a i b).us.length = x.us.length
  oth : ∀ (j : Nat) (y : K10), x.us[j]? = some y → y.c0 ≠ i → (givX h x a i b).us[j]? = some y
theorem giv_good {h : Int → Int → Bool} {x : KW} {a i b : Int} (e : givC h x a i b = 0) : GivG h x a i b := by
  obtain ⟨e1, u, hf, hu⟩ := givC_zero.1 e
  obtain ⟨w0, s0⟩ := prF_zero.1 e1
  obtain ⟨ia, ib, hab, ga, gb⟩ := sdF_zero.1 s0
  have g := (gdW_iff h x).1 w0
  obtain ⟨b0, b3⟩ := inb_i ib
  have G := Gd.of g.b
  obtain ⟨hm, hid⟩ := find_id hf
  obtain ⟨k, hk, hku⟩ := List.getElem_of_mem hm
  have hk' : x.us[k]? = some u := by rw [List.getElem?_eq_getElem hk, hku]
  have hset : putU (handed u b) x.us = x.us.set k (handed u b) := (set_put (u' := handed u b) G.r hk' rfl).symm
  have ex : givX h x a i b = ⟨x.t, x.s, x.us.set k (handed u b), x.fs, x.fa, x.se, x.oo⟩ := by
    unfold givX givU
    rw [e, hf, ← hset]
    rfl
  have Gu := G.gu hm
  have G2 : Gd (x.us.set k (handed u b)) x.fs := by rw [← hset]; exact G.put hm rfl (Gu.handed (.inl ⟨b0, b3⟩))
  have W2 : wf h (givX h x a i b) = 0 := by
    rw [ex]
    refine (gdW_iff h _).2 (gd_units g G2.bf (fun y hy h9 => ?_))
    rcases List.mem_or_eq_of_mem_set hy with hy | rfl
    · exact owF_iff.1 g.ow y hy h9
    · exact gb
  have hfs : findU (x.us.set k (handed u b)) i = some (handed u b) := by
    rw [← hset, ← hid]
    exact find_mem (x := handed u b) (putU_rise G.r) (putU_self (handed u b) x.us)
  refine ⟨⟨k, u, hk', hid, hu, by rw [ex]⟩, ⟨u, by rw [ex]; exact hfs⟩, W2, ?_, ?_, g.b, by rw [ex]; exact G2.bf, ?_, ?_, ?_⟩
  · rw [ex]
    show x.s + crU (x.us.set k (handed u b)) + sumF x.fs + purS x.fa = x.s + crU x.us + sumF x.fs + purS x.fa
    rw [crU_set hk' (handed u b) rfl]
  · rw [ex]
    exact ids_set hk' (by rw [hu]; exact hab) (handed u b) rfl
  · unfold own; rw [ib]; rfl
  · rw [ex]; show (x.us.set k (handed u b)).length = _; simp
  · intro j y hy hne
    rw [ex]
    show (x.us.set k (handed u b))[j]? = some y
    rw [List.getElem?_set, if_neg, hy]
    rintro rfl
    rw [hk'] at hy
    cases hy
    exact hne hid
end Go.Proofs.YthopodopedbooaaGreat
end

/- Shares -/
section
/- Plain arithmetic: the shares of a number, as a list. No condition. -/
namespace Go.Proofs.YthopodopedbooaaGreat.Nums
set_option linter.unusedVariables false

def shAt (n : Int) (p : Nat) (i : Nat) : Int := if (i : Int) < n % (p : Int) then n / (p : Int) + 1 else n / (p : Int)
def shTo (n : Int) (p : Nat) (k : Nat) : List Int := (List.range k).map (shAt n p)
theorem shTo_len (n : Int) (p k : Nat) : (shTo n p k).length = k := by simp [shTo]
theorem shTo_succ (n : Int) (p k : Nat) : shTo n p (k + 1) = shTo n p k ++ [shAt n p k] := by simp [shTo, List.range_succ]
theorem shTo_get (n : Int) (p k i : Nat) (h : i < k) : (shTo n p k)[i]? = some (shAt n p i) := by simp [shTo, h]
theorem shAt_lo (n : Int) (p i : Nat) (h : (i : Int) < n % (p : Int)) : shAt n p i = n / (p : Int) + 1 := by unfold shAt; rw [if_pos h]
theorem shAt_hi (n : Int) (p i : Nat) (h : ¬ (i : Int) < n % (p : Int)) : shAt n p i = n / (p : Int) := by unfold shAt; rw [if_neg h]
def sumTo (n : Int) (p : Nat) : Nat → Int
  | 0 => 0
  | k + 1 => sumTo n p k + shAt n p k
/- k shares are k times the quotient, and one more for each of the first ones -/
theorem sumTo_eq (n : Int) (p : Nat) (h0 : 0 ≤ n % (p : Int)) : ∀ k : Nat, sumTo n p k = k * (n / (p : Int)) + (if (k : Int) < n % (p : Int) then (k : Int) else n % (p : Int)) := by
  intro k
  induction k with
  | zero => simp [sumTo]; omega
  | succ k ih =>
    have e : (((k + 1 : Nat) : Int)) * (n / (p : Int)) = (k : Int) * (n / (p : Int)) + n / (p : Int) := by
      have : ((k + 1 : Nat) : Int) = (k : Int) + 1 := by omega
      rw [this, Int.add_mul, Int.one_mul]
    unfold sumTo shAt
    rw [ih, e]
    generalize (k : Int) * (n / (p : Int)) = A
    generalize n / (p : Int) = q
    generalize n % (p : Int) = r at *
    split <;> split <;> omega
theorem sumTo_all (n : Int) (p : Nat) (hp : 1 ≤ p) (hn : 0 ≤ n) : sumTo n p p = n := by
  have h0 := Int.emod_nonneg n (b := (p : Int)) (by omega)
  have h1 := Int.emod_lt_of_pos n (b := (p : Int)) (by omega)
  rw [sumTo_eq n p h0, if_neg (by omega)]
  have := Int.mul_ediv_add_emod n (p : Int)
  omega
theorem shAt_bd (n : Int) (p i : Nat) (hp : 1 ≤ p) (hn : 0 ≤ n) (hn2 : n ≤ 1000000) : 0 ≤ shAt n p i ∧ shAt n p i ≤ 1000001 := by
  have a := Int.ediv_nonneg (a := n) (b := (p : Int)) hn (by omega)
  have b := Int.ediv_le_self (a := n) (p : Int) hn
  unfold shAt
  split <;> omega
theorem shAt_zero (n : Int) (p i : Nat) (h0 : 0 ≤ n % (p : Int)) : 0 ≤ shAt n p 0 - shAt n p i ∧ shAt n p 0 - shAt n p i ≤ 1 := by
  unfold shAt
  split <;> split <;> omega
theorem shAt_step (n : Int) (p i : Nat) : shAt n p (i + 1) ≤ shAt n p i := by
  unfold shAt
  split <;> split <;> omega
theorem sumTo_bd (n : Int) (p : Nat) (hp : 1 ≤ p) (hn : 0 ≤ n) (hn2 : n ≤ 1000000) : ∀ k : Nat, 0 ≤ sumTo n p k ∧ sumTo n p k ≤ 1000001 * (k : Int) := by
  intro k
  induction k with
  | zero => simp [sumTo]
  | succ k ih =>
    have := shAt_bd n p k hp hn hn2
    unfold sumTo
    omega
end Go.Proofs.YthopodopedbooaaGreat.Nums
end
