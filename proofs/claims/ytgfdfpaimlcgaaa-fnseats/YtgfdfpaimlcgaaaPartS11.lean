/- Texts of mine put together (a claim holds at most 60 files): InsertS. -/
import Derived.Test.YtgfdfpaimlcgaaaPartS10
import Derived.Lib.AppendZerosOnto
import Derived.Lib.Overlaps
import Derived.Laws.Externs
import Derived.Laws.CopyRow
import Derived.Laws.CopyOwn
import Derived.Deep.RegionLaw

/- InsertS -/
/- The contract of slices.Insert of one seat. Condition: the seats are a list of one's own. -/
section
namespace Go.Proofs.Ytgfdfpaimlcgaaa
open Go.ChangeShapes Go.WideShapes Go.ChangeAt Go.RowKit
open Bd
set_option linter.unusedVariables false

/- copy of seats: k of them go over -/
theorem run_copy4 {P : Program} (w : World) (dT sT ty elem : TypeId) (g o dLen dCap : Nat) (a : Addr) (sLen sCap : Nat) (cur : Array Value) (t : TypeId) (cs : List Value) (k : Nat)
    (hu : P.underlying dT = some (.slice elem)) (hs : (P.info? elem).map (·.size) = some 4) (hk : Nat.min sLen dLen = k)
    (hg : w.heap[g]? = some (.cells cur t (0, 0))) (hn : cs.length = k * 4)
    (hsrc : ∀ j v, cs[j]? = some v → w.cell? (a.add j) = some v) (hfit : o + cs.length ≤ cur.size) (h1 : ∀ v ∈ cs, v.oneCell' = true) :
    (Builtin.copy_ #[dT, sT] ty #[.slice (some ⟨g, o, none⟩) dLen dCap, .slice (some a) sLen sCap]).run P w =
      .ok (goInt k) (w.setRow g (cur.toList.take o ++ cs ++ cur.toList.drop (o + cs.length)).toArray) := by
  have hl := run_loadCells_list (P := P) w a cs hsrc
  have hst := run_storeCells_at P g o t cs 0 cur w hg (by simpa using hfit) h1
  cases hq : P.info? elem with
  | none => simp [hq] at hs
  | some i =>
    have hi : i.size = 4 := by simpa [hq] using hs
    rw [hn] at hl
    simp [Builtin.copy_, run_underlying hu, Builtin.lenOf, Builtin.firstCells, sizeOf, typeInfo, hq, hi, hk, hl, hst]
theorem wpList_copy4 {P : Program} {w : World} {ops : Array Oper} {rest : List Oper} {o : Oper} {a : Act} {Q : Exit → Act → World → Prop} (hgd : o.guard = none) (d s : Operand) (dT sT : TypeId)
    (ho : o.op = .call { callee := .builtin .copy, args := #[d, s], argTypes := #[dT, sT] }) (elem : TypeId) (hu : P.underlying dT = some (.slice elem)) (hsz : (P.info? elem).map (·.size) = some 4)
    (g off dLen dCap : Nat) (ad : Addr) (sLen sCap : Nat) (hd : a.eval d = .slice (some ⟨g, off, none⟩) dLen dCap) (hs : a.eval s = .slice (some ad) sLen sCap) (k : Nat) (hk : Nat.min sLen dLen = k)
    (cur : Array Value) (t : TypeId) (hg : w.heap[g]? = some (.cells cur t (0, 0))) (cs : List Value) (hn : cs.length = k * 4)
    (hsrc : ∀ j v, cs[j]? = some v → w.cell? (ad.add j) = some v) (hfit : off + cs.length ≤ cur.size) (h1 : ∀ v ∈ cs, v.oneCell' = true)
    (h : ∀ w', Hid (w' = w.setRow g (cur.toList.take off ++ cs ++ cur.toList.drop (off + cs.length)).toArray) → wpList P ops Q rest (a.put o.dst (goInt k)) w') : wpList P ops Q (o :: rest) a w := by
  refine wpList_plain hgd fun K hK => ?_
  have hrun := run_copy4 (P := P) w dT sT o.type elem g off dLen dCap ad sLen sCap cur t cs k hu hsz hk hg hn hsrc hfit h1
  unfold Oper.wp
  simp [execOp, ho, resolve, invoke, builtin, hd, hs, hrun, Result.andThen]
  refine hK _ _ (h _ ?_)
  show _ = _
  simp
theorem step_copy4 {P : Program} {w : World} {ops : Array Oper} {o : Oper} {a : Act} {K : Act → World → Prop} {Q : Exit → Act → World → Prop} {E : Prop} (hgd : o.guard = none) (d s : Operand) (dT sT : TypeId)
    (ho : o.op = .call { callee := .builtin .copy, args := #[d, s], argTypes := #[dT, sT] }) (elem : TypeId) (hu : P.underlying dT = some (.slice elem)) (hsz : (P.info? elem).map (·.size) = some 4)
    (g off dLen dCap : Nat) (ad : Addr) (sLen sCap : Nat) (hd : a.eval d = .slice (some ⟨g, off, none⟩) dLen dCap) (hs : a.eval s = .slice (some ad) sLen sCap) (k : Nat) (hk : Nat.min sLen dLen = k)
    (cur : Array Value) (t : TypeId) (hg : w.heap[g]? = some (.cells cur t (0, 0))) (cs : List Value) (hn : cs.length = k * 4)
    (hsrc : ∀ j v, cs[j]? = some v → w.cell? (ad.add j) = some v) (hfit : off + cs.length ≤ cur.size) (h1 : ∀ v ∈ cs, v.oneCell' = true)
    (h : ∀ w', Hid (w' = w.setRow g (cur.toList.take off ++ cs ++ cur.toList.drop (off + cs.length)).toArray) → K (a.put o.dst (goInt k)) w') :
    if Region.wanted o (yielded ops a.tmps) = true then Oper.wp P o a w K Q else E := by
  have hw : Region.wanted o (yielded ops a.tmps) = true := by simp [Region.wanted, hgd]
  rw [if_pos hw]
  have hrun := run_copy4 (P := P) w dT sT o.type elem g off dLen dCap ad sLen sCap cur t cs k hu hsz hk hg hn hsrc hfit h1
  unfold Oper.wp
  simp [execOp, ho, resolve, invoke, builtin, hd, hs, hrun, Result.andThen]
  refine h _ ?_
  show _ = _
  simp
theorem wpList_pushG {ops : Array Oper} {rest : List Oper} {o : Oper} {a : Act} {Q : Exit → Act → World → Prop} (hgd : o.guard = none) (s x : Operand)
    (ho : o.op = .call { callee := .builtin .append, args := #[s, x], argTypes := #[29, 29] }) (w0 : World) (u : K4) (base : Nat) (v : Value) (l : List K4) (hs : a.eval s = v) (hown : SlS w0 base v l)
    (hx : a.eval x = .slice (some ⟨w0.heap.size, 0, none⟩) 1 1) (hlen : l.length ≤ 100) (hbase : base ≤ w0.heap.size)
    (h : ∀ v' w', SlS w' base v' (l ++ [u]) → w0.grownBy w' v.ownBlock → wpList Try.prog ops Q rest (a.put o.dst v') w') :
    wpList Try.prog ops Q (o :: rest) a (w0.alloc (.cells u.v 47)) := by
  obtain ⟨i0, hi, hz0, hz1, hz2⟩ := info_parts infoS
  have hown' : SlS (w0.alloc (.cells u.v 47)) base v l := hown.below ((Below.refl _ _).alloc (Nat.le_refl _) _)
  refine wpList_append_own _ hgd s x 29 ho base 47 i0 (.agg K4.z.v) 4 32 Try.underlying29 hi hz0 hz1 hz2 rfl (by decide) v l.length _ hs hown' ⟨w0.heap.size, 0, none⟩ 1 1 u.v.toList hx (by rfl) ?_ ?_ (by unfold maxLen; omega) (by omega) (by rw [size_new]; omega) ?_
  · intro j y hj
    rw [add_plain', Nat.zero_add]
    exact cell_new _ _ _ _ _ (by simpa using hj)
  · intro y hy
    exact flatS_one [u] y (by unfold flatS; exact List.mem_append_left _ hy)
  · intro v' w' h1 h2 _
    have b := (Below.refl w0.heap.size w0).alloc (Nat.le_refl _) (.cells u.v 47)
    refine h v' w' ?_ ⟨h2.os.trans b.os, h2.tape.trans b.tape, h2.output.trans b.output, Nat.le_trans b.size h2.size, fun k hk hne => (h2.block k (Nat.lt_of_lt_of_le hk b.size) hne).trans (b.block k hk)⟩
    unfold SlS
    rw [flatS_app, List.length_append]
    exact h1
theorem flatS_take : ∀ (l : List K4) (i : Nat), (flatS l).take (i * 4) = flatS (l.take i)
  | [], i => by simp [flatS]
  | x :: l, 0 => by simp [flatS]
  | x :: l, i + 1 => by
    show (x.v.toList ++ flatS l).take ((i + 1) * 4) = x.v.toList ++ flatS (l.take i)
    rw [← flatS_take l i, List.take_append]
    have e : (i + 1) * 4 - x.v.toList.length = i * 4 := by show (i + 1) * 4 - 4 = i * 4; omega
    rw [e, List.take_of_length_le (by show 4 ≤ (i + 1) * 4; omega)]
theorem flatS_drop : ∀ (l : List K4) (i : Nat), (flatS l).drop (i * 4) = flatS (l.drop i)
  | [], i => by simp [flatS]
  | x :: l, 0 => by simp [flatS]
  | x :: l, i + 1 => by
    show (x.v.toList ++ flatS l).drop ((i + 1) * 4) = flatS (l.drop i)
    rw [← flatS_drop l i, List.drop_append]
    have e : (i + 1) * 4 - x.v.toList.length = i * 4 := by show (i + 1) * 4 - 4 = i * 4; omega
    rw [e, List.drop_of_length_le (by show 4 ≤ (i + 1) * 4; omega), List.nil_append]
theorem ins_flat (l : List K4) (i : Nat) (u : K4) : flatS (l.take i ++ u :: l.drop i) = (flatS l).take (i * 4) ++ (u.v.toList ++ (flatS l).drop (i * 4)) := by
  rw [flatS_app, flatS_take, flatS_drop]
  rfl
/- at the end -/
set_option maxRecDepth 20000 in
set_option maxHeartbeats 4000000 in
theorem insertS_end (v : Value) (l : List K4) (u : K4) (base : Nat) (w0 : World) (hown : SlS w0 base v l) (hl : l.length ≤ 6) (hbase : base ≤ w0.heap.size) :
    Calls Try.prog 29 #[v, .int .i64 l.length, .slice (some ⟨w0.heap.size, 0, none⟩) 1 1] (w0.alloc (.cells u.v 47)) fun e w' => ∃ v', e = .returned v' ∧ SlS w' base v' (l ++ [u]) ∧ w0.grownBy w' v.ownBlock := by
  obtain ⟨n, Hn⟩ : ∃ n, Hid (l.length = n) := ⟨_, rfl⟩
  have HO : Hid (SlS w0 base v l) := hown
  have Hl : Hid (l.length ≤ 100) := by show _ ≤ _; omega
  rcases hown.2 with ⟨hv, h2⟩ | ⟨g, c, cur, hv, _, _, hnc, hcm, _⟩
  · have hn0 : n = 0 := by rw [← Hn.out]; exact h2
    rw [Hn.out]
    subst hv hn0
    clear hown h2 hl
    go_enter Try.func29, Try.ntmps29
    go_wp2_with (at_builtin; refine wpList_pushG rfl _ _ rfl w0 u base (.slice none 0 0) l rfl (by exact HO.out) rfl Hl.out hbase ?_)
    intro v' w' h1 h2
    go_wp2
    go_ret
    exact ⟨_, rfl, h1, h2⟩
  · have hcm : c ≤ 9223372036854775807 := by unfold maxLen at hcm; omega
    rw [Hn.out] at hv hnc ⊢
    subst hv
    have hncI : (n : Int) ≤ (c : Int) := by omega
    clear hown hl
    by_cases hcn : c = n
    · subst hcn
      try rw [Hn.out] at HO
      go_enter Try.func29, Try.ntmps29
      go_wp2_with (at_builtin; refine wpList_pushG rfl _ _ rfl w0 u base (.slice (some ⟨g, 0, none⟩) c c) l rfl (by exact HO.out) rfl Hl.out hbase ?_)
      intro v' w' h1 h2
      go_wp2
      go_ret
      exact ⟨_, rfl, h1, h2⟩
    · have hcn2 : ¬ (c - n = 0) := by omega
      go_enter Try.func29, Try.ntmps29
      go_wp2_with (at_builtin; refine wpList_pushG rfl _ _ rfl w0 u base (.slice (some ⟨g, 0, none⟩) n c) l rfl (by exact HO.out) rfl Hl.out hbase ?_)
      intro v' w' h1 h2
      go_wp2
      go_ret
      exact ⟨_, rfl, h1, h2⟩
end Go.Proofs.Ytgfdfpaimlcgaaa
end
