/- Texts of mine put together (a claim holds at most 60 files): InsertS2. -/
import Derived.Test.YtgfdfpaimlcgaaaPartS11
import Derived.Test.YtgfdfpaimlcgaaaPartS10
import Derived.Lib.AppendZerosOnto
import Derived.Lib.Overlaps
import Derived.Laws.Externs
import Derived.Laws.CopyRow
import Derived.Laws.CopyOwn
import Derived.Deep.RegionLaw

/- InsertS2 -/
/- The contract of slices.Insert of one seat, ahead of the end. Condition: the seats are a list of one's own. -/
section
namespace Go.Proofs.Ytgfdfpaimlcgaaa
open Go.ChangeShapes Go.WideShapes Go.ChangeAt Go.RowKit
open Bd
set_option linter.unusedVariables false

/- what the model lays at copies: the row's cells -/
theorem rows_shift (A F U : List Value) (i n : Nat) (hi : i < n) (hF : F.length = n * 4) (hA : A.take (n * 4) = F) (hAl : (n + 1) * 4 ≤ A.length) (hU : U.length = 4) (R1 R2 : List Value)
    (h1 : R1 = A.take ((i + 1) * 4) ++ F.drop (i * 4) ++ A.drop ((i + 1) * 4 + (F.drop (i * 4)).length)) (h2 : R2 = R1.take (i * 4) ++ U ++ R1.drop (i * 4 + U.length)) :
    R1.length = A.length ∧ R2.length = A.length ∧ R2.take ((n + 1) * 4) = F.take (i * 4) ++ (U ++ F.drop (i * 4)) := by
  have hd : (F.drop (i * 4)).length = (n - i) * 4 := by rw [List.length_drop, hF]; omega
  have ht : (A.take ((i + 1) * 4)).length = (i + 1) * 4 := by rw [List.length_take]; omega
  have l1 : R1.length = A.length := by
    rw [h1, List.length_append, List.length_append, ht, hd, List.length_drop]; omega
  have e1 : R1.take (i * 4) = F.take (i * 4) := by
    rw [h1, List.append_assoc, List.take_append_of_le_length (by rw [ht]; omega), List.take_take, ← hA, List.take_take]
    congr 1
    omega
  have e2 : R1.drop (i * 4 + U.length) = F.drop (i * 4) ++ A.drop ((i + 1) * 4 + (F.drop (i * 4)).length) := by
    rw [h1, List.append_assoc, List.drop_left' (by rw [ht, hU]; omega)]
  have hft : (F.take (i * 4)).length = i * 4 := by rw [List.length_take, hF]; omega
  refine ⟨l1, ?_, ?_⟩
  · rw [h2, e1, e2, List.length_append, List.length_append, List.length_append, hft, hU, hd, List.length_drop]; omega
  · rw [h2, e1, e2, List.append_assoc, ← List.append_assoc U, ← List.append_assoc (F.take (i * 4)), List.take_left' (by rw [List.length_append, List.length_append, hft, hU, hd]; omega)]
theorem set_row_grown {w w' : World} {g : Nat} (h : w.grownBy w' (some g)) (cs : Array Value) : w.grownBy (w'.setRow g cs) (some g) :=
  ⟨h.os, h.tape, h.output, by have := h.size; simpa [World.setRow] using this, fun k hk hne => (setRow_other w' g k cs (fun e => hne (by rw [e]))).trans (h.block k hk hne)⟩
/- in place -/
set_option maxRecDepth 20000 in
set_option maxHeartbeats 8000000 in
theorem insertS_shift (g n c i : Nat) (cur : Array Value) (l : List K4) (u : K4) (w0 : World) (hl : l.length = n) (hn6 : n ≤ 6) (hi : i < n) (hroom : n + 1 ≤ c) (hcm : c ≤ maxLen) (hg : w0.heap[g]? = some (.cells cur 47 (0, 0))) (hcs : cur.size = c * 4) (hct : cur.toList.take (n * 4) = flatS l) :
    Calls Try.prog 29 #[.slice (some ⟨g, 0, none⟩) n c, .int .i64 i, .slice (some ⟨w0.heap.size, 0, none⟩) 1 1] (w0.alloc (.cells u.v 47)) fun e w' => e = .returned (.slice (some ⟨g, 0, none⟩) (n + 1) c) ∧ ∃ cur', w'.heap[g]? = some (.cells cur' 47 (0, 0)) ∧ cur'.size = c * 4 ∧ cur'.toList.take ((n + 1) * 4) = flatS (l.take i ++ u :: l.drop i) ∧ w0.grownBy w' (some g) := by
  have hgl : g < w0.heap.size := (Array.getElem?_eq_some_iff.1 hg).1
  obtain ⟨W0, HW0⟩ : ∃ W0, Hid (W0 = w0.alloc (.cells u.v 47)) := ⟨_, rfl⟩
  have hgW : W0.heap[g]? = some (.cells cur 47 (0, 0)) := by rw [HW0.out]; exact (Blk.alloc (show Blk w0 g cur 47 from hg) _)
  have hu : Blk W0 w0.heap.size u.v 47 := by rw [HW0.out]; exact Blk.new w0 _ _
  have b0 : Below w0.heap.size w0 W0 := by rw [HW0.out]; exact (Below.refl _ _).alloc (Nat.le_refl _) _
  have hc63 : c ≤ 9223372036854775807 := by unfold maxLen at hcm; omega
  obtain ⟨i0, hi0, hz0, hzs, hzb⟩ := info_parts infoS
  have hsz : (Try.prog.info? 47).map (·.size) = some 4 := by rw [hi0]; simp [hzs]
  have hov : ∀ lb cb, (callFunc 59 #[.slice (some ⟨w0.heap.size, 0, none⟩) 1 1, .slice (some ⟨g, (i + 1) * 4, none⟩) lb cb]).run Try.prog W0 = .ok (.value (.bool false)) W0 := fun lb cb => by
    rw [run_callFunc_extern Try.func59 (by kernel_rfl) (by kernel_rfl) (by kernel_rfl) (e := Extern.SlicesOverlaps.overlaps #[29, 29] #[4]) (by kernel_rfl),
      Lib.run_overlaps_apart W0 29 4 47 Try.underlying29 4 (fun w => by simp [sizeOf, typeInfo, hi0, hzs]) ⟨w0.heap.size, 0, none⟩ ⟨g, (i + 1) * 4, none⟩ 1 1 lb cb (by simp; omega) 47 47 4 (c * 4)
        (by show World.shape? W0 w0.heap.size = _; unfold World.shape?; rw [show W0.heap[w0.heap.size]? = _ from hu]; rfl) (by show World.shape? W0 g = _; unfold World.shape?; rw [hgW]; simp [hcs]) (by omega) (hu.frozen 0) (hu.frozen 4)]
    rfl
  have hz2 : ¬ ((i : Int) = (n : Int)) := by omega
  have hr1 : ¬ ((c : Int) < (n : Int) + 1) := by omega
  have hw1 : IntKind.i64.wrap ((i : Int) + 1) = (i : Int) + 1 := by rw [IntKind.wrap_i64]; omega
  have hw2 : IntKind.i64.wrap ((n : Int) + 1) = (n : Int) + 1 := by rw [IntKind.wrap_i64]; omega
  have htn : ((i : Int) + 1).toNat = i + 1 := by omega
  have htm : ((n : Int) + 1).toNat = n + 1 := by omega
  have hb1 : (0 : Int) ≤ (i : Int) + 1 := by omega
  have hb2 : (0 : Int) ≤ (n : Int) + 1 := by omega
  have hb3 : (i : Int) ≤ (n : Int) := by omega
  have hb4 : (i : Int) + 1 ≤ (n : Int) + 1 := by omega
  have hb5 : (n : Int) + 1 ≤ (c : Int) := by omega
  have hb6 : ¬ (c = i) := by omega
  have hb7 : ¬ (c = i + 1) := by omega
  have hb8 : ¬ (c = 0) := by omega
  have hb9 : (i : Int) ≤ (n : Int) + 1 := by omega
  show Calls Try.prog _ _ (w0.alloc (.cells u.v 47)) _
  rw [← HW0.out]
  go_enter Try.func29, Try.ntmps29
  have hcl : cur.toList.length = c * 4 := by rw [Array.length_toList]; exact hcs
  have hFl : (flatS l).length = n * 4 := by rw [flatS_len, hl]
  have hdl : ((flatS l).drop (i * 4)).length = (n - i) * 4 := by rw [List.length_drop, hFl]; omega
  have hcell : ∀ k v, (flatS l)[k]? = some v → cur[k]? = some v := fun k v hk => by
    have hkn : k < n * 4 := by rw [← hFl]; exact (List.getElem?_eq_some_iff.1 hk).1
    rw [← hct, List.getElem?_take_of_lt hkn] at hk
    simpa using hk
  obtain ⟨R1, HR1⟩ : ∃ R1 : List Value, Hid (R1 = cur.toList.take ((i + 1) * 4) ++ (flatS l).drop (i * 4) ++ cur.toList.drop ((i + 1) * 4 + ((flatS l).drop (i * 4)).length)) := ⟨_, rfl⟩
  obtain ⟨R2, HR2⟩ : ∃ R2 : List Value, Hid (R2 = R1.take (i * 4) ++ u.v.toList ++ R1.drop (i * 4 + u.v.toList.length)) := ⟨_, rfl⟩
  obtain ⟨L1, L2, T2⟩ := rows_shift cur.toList (flatS l) u.v.toList i n hi hFl hct (by rw [hcl]; omega) rfl R1 R2 HR1.out HR2.out
  have HT : Hid (R2.take ((n + 1) * 4) = flatS (l.take i ++ u :: l.drop i)) := by show _ = _; rw [T2, ins_flat]
  obtain ⟨X, HX⟩ : ∃ X, Hid (X = (flatS l).drop (i * 4)) := ⟨_, rfl⟩
  have hXl : X.length = (n - i) * 4 := by rw [HX.out]; exact hdl
  have hX1 : ∀ v ∈ X, v.oneCell' = true := fun v hv => by rw [HX.out] at hv; exact flatS_one l v (List.mem_of_mem_drop hv)
  have hXc : ∀ j v, X[j]? = some v → W0.drew.cell? ((⟨g, i * 4, none⟩ : Addr).add j) = some v := fun j v hj => by
    rw [HX.out, List.getElem?_drop] at hj
    rw [add_plain']
    exact (show Blk W0.drew g cur 47 from hgW).cell (hcell _ _ hj)
  rw [← HX.out] at HR1
  have hmin1 : Nat.min (n + 1 - i) (n + 1 - (i + 1)) = n - i := by simp only [Nat.min_def]; split <;> omega
  have hmin2 : Nat.min 1 (n + 1 - i) = 1 := by simp only [Nat.min_def]; split <;> omega
  have hgD : W0.drew.heap[g]? = some (.cells cur 47 (0, 0)) := hgW
  have hfit1 : (i + 1) * 4 + X.length ≤ cur.size := by rw [hXl, hcs]; omega
  have Hl1 : Hid (R1.length = c * 4) := by show _ = _; rw [L1, hcl]
  have Hl2 : Hid (R2.length = c * 4) := by show _ = _; rw [L2, hcl]
  have HB0 : Hid (Below w0.heap.size w0 W0) := b0
  clear hct hFl hdl hcell L1 L2 T2 HX
  go_upto_region 15 with (simp only [hov])
  go_region_law (refine step_copy4 rfl (.tmp 73) (.tmp 76) 29 29 rfl 47 Try.underlying29 hsz g ((i + 1) * 4) (n + 1 - (i + 1)) (c - (i + 1)) ⟨g, i * 4, none⟩ (n + 1 - i) (c - i) (by simp [Act.eval, Act.put]) (by simp [Act.eval, Act.put]) (n - i) hmin1 cur 47 hgD X hXl hXc hfit1 hX1 ?_; intro w4 hw4)
  have hR1g : w4.heap[g]? = some (.cells R1.toArray 47 (0, 0)) := by rw [hw4.out, ← HR1.out]; exact setRow_heap _ _ _ _ _ _ hgD
  have hU4 : Blk w4 w0.heap.size u.v 47 := by unfold Blk; rw [hw4.out, setRow_other _ _ _ _ (by omega)]; exact hu
  have hUc : ∀ j v, u.v.toList[j]? = some v → w4.cell? ((⟨w0.heap.size, 0, none⟩ : Addr).add j) = some v := fun j v hj => by
    rw [add_plain', Nat.zero_add]
    exact hU4.cell (by simpa using hj)
  have hU1 : ∀ v ∈ u.v.toList, v.oneCell' = true := fun v hv => flatS_one [u] v (by unfold flatS; exact List.mem_append_left _ hv)
  have hfit2 : i * 4 + u.v.toList.length ≤ R1.toArray.size := by rw [List.size_toArray, Hl1.out]; show i * 4 + 4 ≤ c * 4; omega
  have G4 : w0.grownBy w4 (some g) := by
    rw [hw4.out]
    exact set_row_grown ⟨HB0.out.drew.os, HB0.out.drew.tape, HB0.out.drew.output, HB0.out.drew.size, fun k hk _ => HB0.out.drew.block k hk⟩ _
  clear hov hw4 hXc hgD
  go_wp2_with (refine wpList_copy4 rfl (.tmp 80) (.tmp 81) 29 29 rfl 47 Try.underlying29 hsz g (i * 4) (n + 1 - i) (c - i) ⟨w0.heap.size, 0, none⟩ 1 1 (by rfl) (by rfl) 1 hmin2 R1.toArray 47 hR1g u.v.toList (by rfl) hUc hfit2 hU1 ?_)
  intro w5 hw5
  have hR2g : w5.heap[g]? = some (.cells R2.toArray 47 (0, 0)) := by
    have e := setRow_heap w4 g _ R2.toArray _ _ hR1g
    rw [HR2.out] at e ⊢
    rw [hw5.out]
    simpa using e
  have G5 : w0.grownBy w5 (some g) := by rw [hw5.out]; exact set_row_grown G4 _
  go_wp2
  go_ret
  exact ⟨rfl, R2.toArray, hR2g, by rw [List.size_toArray]; exact Hl2.out, HT.out, G5⟩
theorem rows_grow (A F U : List Value) (i n : Nat) (hi : i < n) (hF : F.length = n * 4) (hA : A.take (i * 4) = F.take (i * 4)) (hAl : (n + 1) * 4 ≤ A.length) (hU : U.length = 4) (R1 R2 : List Value)
    (h1 : R1 = A.take (i * 4) ++ U ++ A.drop (i * 4 + U.length)) (h2 : R2 = R1.take ((i + 1) * 4) ++ F.drop (i * 4) ++ R1.drop ((i + 1) * 4 + (F.drop (i * 4)).length)) :
    R1.length = A.length ∧ R2.length = A.length ∧ R2.take ((n + 1) * 4) = F.take (i * 4) ++ (U ++ F.drop (i * 4)) := by
  have hd : (F.drop (i * 4)).length = (n - i) * 4 := by rw [List.length_drop, hF]; omega
  have hft : (F.take (i * 4)).length = i * 4 := by rw [List.length_take, hF]; omega
  have l1 : R1.length = A.length := by
    rw [h1, hA, List.length_append, List.length_append, hft, hU, List.length_drop]; omega
  have e1 : R1.take ((i + 1) * 4) = F.take (i * 4) ++ U := by
    rw [h1, hA, List.take_left' (by rw [List.length_append, hft, hU]; omega)]
  refine ⟨l1, ?_, ?_⟩
  · rw [h2, e1, List.length_append, List.length_append, List.length_append, hft, hU, hd, List.length_drop, l1]; omega
  · rw [h2, e1, List.take_left' (by rw [List.length_append, List.length_append, hft, hU, hd]; omega), List.append_assoc]
/- a new row -/
set_option maxRecDepth 20000 in
set_option maxHeartbeats 8000000 in
theorem insertS_grow (g n i : Nat) (cur : Array Value) (l : List K4) (u : K4) (w0 : World) (hl : l.length = n) (hn6 : n ≤ 6) (hi : i < n) (hg : w0.heap[g]? = some (.cells cur 47 (0, 0))) (hct : cur.toList.take (n * 4) = flatS l) :
    Calls Try.prog 29 #[.slice (some ⟨g, 0, none⟩) n n, .int .i64 i, .slice (some ⟨w0.heap.size, 0, none⟩) 1 1] (w0.alloc (.cells u.v 47)) fun e w' => ∃ (q cap : Nat), e = .returned (.slice (some ⟨q, 0, none⟩) (n + 1) cap) ∧ w0.heap.size ≤ q ∧ n + 1 ≤ cap ∧ cap ≤ maxLen ∧ ∃ cur', w'.heap[q]? = some (.cells cur' 47 (0, 0)) ∧ cur'.size = cap * 4 ∧ cur'.toList.take ((n + 1) * 4) = flatS (l.take i ++ u :: l.drop i) ∧ Below w0.heap.size w0 w' := by
  have hgl : g < w0.heap.size := (Array.getElem?_eq_some_iff.1 hg).1
  obtain ⟨W0, HW0⟩ : ∃ W0, Hid (W0 = w0.alloc (.cells u.v 47)) := ⟨_, rfl⟩
  have hgW : W0.heap[g]? = some (.cells cur 47 (0, 0)) := by rw [HW0.out]; exact (Blk.alloc (show Blk w0 g cur 47 from hg) _)
  have hu : Blk W0 w0.heap.size u.v 47 := by rw [HW0.out]; exact Blk.new w0 _ _
  have b0 : Below w0.heap.size w0 W0 := by rw [HW0.out]; exact (Below.refl _ _).alloc (Nat.le_refl _) _
  have hNs : W0.heap.size = w0.heap.size + 1 := by rw [HW0.out, size_new]
  obtain ⟨i0, hi0, hz0, hzs, hzb⟩ := info_parts infoS
  have hsz : (Try.prog.info? 47).map (·.size) = some 4 := by rw [hi0]; simp [hzs]
  have hFl : (flatS l).length = n * 4 := by rw [flatS_len, hl]
  have hcell : ∀ k v, (flatS l)[k]? = some v → cur[k]? = some v := fun k v hk => by
    have hkn : k < n * 4 := by rw [← hFl]; exact (List.getElem?_eq_some_iff.1 hk).1
    rw [← hct, List.getElem?_take_of_lt hkn] at hk
    simpa using hk
  have hold : (Builtin.firstCells i0.size i (.slice (some ⟨g, 0, none⟩) i n)).run Try.prog W0.drew = .ok ((flatS l).take (i * 4)).toArray W0.drew := by
    rw [hzs]
    refine run_firstCells_some W0.drew 4 i ⟨g, 0, none⟩ i n ((flatS l).take (i * 4)) (by rw [List.length_take, hFl]; omega) (fun j v hj => ?_)
    rw [add_plain', Nat.zero_add]
    have hj4 : j < i * 4 := by
      have := (List.getElem?_eq_some_iff.1 hj).1
      rw [List.length_take] at this
      omega
    rw [List.getElem?_take_of_lt hj4] at hj
    exact (show Blk W0.drew g cur 47 from hgW).cell (hcell _ _ hj)
  have hik : i + (n + 1 - i) = n + 1 := by omega
  obtain ⟨G, HG⟩ : ∃ G, Hid (G = grownCap W0 (n + 1) n 47) := ⟨_, rfl⟩
  have hGn : n + 1 ≤ G := by rw [HG.out]; exact grownCap_ge _ _ _ _
  have hGm : G ≤ maxLen := by rw [HG.out]; exact grownCap_le_maxLen _ _ _ _ (by unfold maxLen; omega)
  obtain ⟨ROW, HROW⟩ : ∃ ROW : Array Value, Hid (ROW = ((flatS l).take (i * 4)).toArray ++ Builtin.zeroCells (Value.agg K4.z.v).cells (n + 1 - i) ++ Builtin.zeroCells (Value.agg K4.z.v).cells (G - (n + 1))) := ⟨_, rfl⟩
  have hrz : ∀ ty, (Builtin.append_ #[29, 3] ty #[.slice (some ⟨g, 0, none⟩) i n, .int .i64 ((n : Int) + 1 - (i : Int))]).run Try.prog W0 =
      .ok (.slice (some ⟨W0.heap.size, 0, none⟩) (n + 1) G) (W0.drew.alloc (.cells ROW 47)) := fun ty => by
    have h := Lib.run_append_grow_zeros W0 29 3 ty 47 i0 _ .i64 .i64 Try.underlying29 Try.underlying3 hi0 hz0 (some ⟨g, 0, none⟩) i n ((flatS l).take (i * 4)) hold (n + 1 - i) (by omega) (by omega) (by omega) (by omega) (by rw [hzb]; omega) (by rw [hzb, hik]; exact growslice_fits (by omega) (by omega))
    rw [hik, ← HG.out, ← HROW.out] at h
    rw [show (n : Int) + 1 - (i : Int) = ((n + 1 - i : Nat) : Int) by omega]
    exact h
  have hRs : ROW.size = G * 4 := by
    rw [HROW.out]
    simp [Builtin.zeroCells, Value.cells, hFl]
    have : min i n = i := by omega
    rw [this]
    omega
  have hRt : ROW.toList.take (i * 4) = (flatS l).take (i * 4) := by
    rw [HROW.out]
    simp
    rw [List.take_left' (by rw [List.length_take, hFl]; omega)]
  have hRl : ROW.toList.length = G * 4 := by rw [Array.length_toList]; exact hRs
  have hdl : ((flatS l).drop (i * 4)).length = (n - i) * 4 := by rw [List.length_drop, hFl]; omega
  obtain ⟨N, HN⟩ : ∃ N, Hid (N = W0.heap.size) := ⟨_, rfl⟩
  rw [← HN.out] at hrz
  obtain ⟨W1, HW1⟩ : ∃ W1, Hid (W1 = W0.drew.alloc (.cells ROW 47)) := ⟨_, rfl⟩
  rw [← HW1.out] at hrz
  have hN1 : W1.heap[N]? = some (.cells ROW 47 (0, 0)) := by rw [HN.out, HW1.out]; exact Blk.new W0.drew _ _
  have hg1 : Blk W1 g cur 47 := by rw [HW1.out]; exact Blk.alloc (show Blk W0.drew g cur 47 from hgW) _
  have hu1 : Blk W1 w0.heap.size u.v 47 := by rw [HW1.out]; exact Blk.alloc (show Blk W0.drew w0.heap.size u.v 47 from hu) _
  have b1 : Below w0.heap.size w0 W1 := by rw [HW1.out]; exact b0.drew.alloc b0.drew.size _
  have hNw : w0.heap.size < N := by rw [HN.out, hNs]; omega
  obtain ⟨R1, HR1⟩ : ∃ R1 : List Value, Hid (R1 = ROW.toList.take (i * 4) ++ u.v.toList ++ ROW.toList.drop (i * 4 + u.v.toList.length)) := ⟨_, rfl⟩
  obtain ⟨R2, HR2⟩ : ∃ R2 : List Value, Hid (R2 = R1.take ((i + 1) * 4) ++ (flatS l).drop (i * 4) ++ R1.drop ((i + 1) * 4 + ((flatS l).drop (i * 4)).length)) := ⟨_, rfl⟩
  obtain ⟨L1, L2, T2⟩ := rows_grow ROW.toList (flatS l) u.v.toList i n hi hFl hRt (by rw [hRl]; omega) rfl R1 R2 HR1.out HR2.out
  have HT : Hid (R2.take ((n + 1) * 4) = flatS (l.take i ++ u :: l.drop i)) := by show _ = _; rw [T2, ins_flat]
  obtain ⟨X, HX⟩ : ∃ X, Hid (X = (flatS l).drop (i * 4)) := ⟨_, rfl⟩
  have hXl : X.length = (n - i) * 4 := by rw [HX.out]; exact hdl
  have hX1 : ∀ v ∈ X, v.oneCell' = true := fun v hv => by rw [HX.out] at hv; exact flatS_one l v (List.mem_of_mem_drop hv)
  have HXc : Hid (∀ j v, X[j]? = some v → cur[i * 4 + j]? = some v) := fun j v hj => by
    rw [HX.out, List.getElem?_drop] at hj
    exact hcell _ _ hj
  rw [← HX.out] at HR2
  have hUc : ∀ j v, u.v.toList[j]? = some v → W1.cell? ((⟨w0.heap.size, 0, none⟩ : Addr).add j) = some v := fun j v hj => by
    rw [add_plain', Nat.zero_add]
    exact hu1.cell (by simpa using hj)
  have hU1 : ∀ v ∈ u.v.toList, v.oneCell' = true := fun v hv => flatS_one [u] v (by unfold flatS; exact List.mem_append_left _ hv)
  have hmin2 : Nat.min 1 (n + 1 - i) = 1 := by simp only [Nat.min_def]; split <;> omega
  have hmin1 : Nat.min (n - i) (n + 1 - (i + 1)) = n - i := by simp only [Nat.min_def]; split <;> omega
  have hfit2 : i * 4 + u.v.toList.length ≤ ROW.size := by rw [hRs]; show i * 4 + 4 ≤ G * 4; omega
  have Hl1 : Hid (R1.length = G * 4) := by show _ = _; rw [L1, hRl]
  have Hl2 : Hid (R2.length = G * 4) := by show _ = _; rw [L2, hRl]
  have hfit1 : (i + 1) * 4 + X.length ≤ R1.toArray.size := by rw [List.size_toArray, Hl1.out, hXl]; omega
  have HB1 : Hid (Below w0.heap.size w0 W1) := b1
  have Hg1 : Hid (Blk W1 g cur 47) := hg1
  have HN1 : Hid (W1.heap[N]? = some (.cells ROW 47 (0, 0))) := hN1
  have HGm : Hid (G ≤ maxLen) := hGm
  have hz2 : ¬ ((i : Int) = (n : Int)) := by omega
  have hr1 : (n : Int) < (n : Int) + 1 := by omega
  have hw1 : IntKind.i64.wrap ((i : Int) + 1) = (i : Int) + 1 := by rw [IntKind.wrap_i64]; omega
  have hw2 : IntKind.i64.wrap ((n : Int) + 1) = (n : Int) + 1 := by rw [IntKind.wrap_i64]; omega
  have hw3 : IntKind.i64.wrap ((n : Int) + 1 - (i : Int)) = (n : Int) + 1 - (i : Int) := by rw [IntKind.wrap_i64]; omega
  have htn : ((i : Int) + 1).toNat = i + 1 := by omega
  have hb1 : (0 : Int) ≤ (i : Int) + 1 := by omega
  have hb3 : (i : Int) ≤ (n : Int) := by omega
  have hb4 : (i : Int) + 1 ≤ (n : Int) + 1 := by omega
  have hb6 : ¬ (n = i) := by omega
  have hb7 : ¬ (G = i) := by omega
  have hb8 : ¬ (G = i + 1) := by omega
  have hb9 : (i : Int) ≤ (n : Int) + 1 := by omega
  have hG63 : G ≤ 9223372036854775807 := by unfold maxLen at hGm; omega
  have hbA : (n : Int) + 1 ≤ (G : Int) := by omega
  clear hct hFl hcell hold hik hRs hRt hRl hdl HROW L1 L2 T2 HX HG hgW hu b0 hNs hg hg1 hN1 b1 hGm hu1
  show Calls Try.prog _ _ (w0.alloc (.cells u.v 47)) _
  rw [← HW0.out]
  go_enter Try.func29, Try.ntmps29
  go_wp2_with (first | (at_builtin; refine Lib.wpList_append_run _ rfl (.tmp 34) (.tmp 39) _ _ rfl _ _ rfl rfl _ _ (hrz _) ?_) | (refine wpList_copy4 rfl (.tmp 43) (.tmp 44) 29 29 rfl 47 Try.underlying29 hsz N (i * 4) (n + 1 - i) (G - i) ⟨w0.heap.size, 0, none⟩ 1 1 (by rfl) (by rfl) 1 hmin2 ROW 47 HN1.out u.v.toList (by rfl) hUc hfit2 hU1 ?_))
  intro w4 hw4
  have hR1g : w4.heap[N]? = some (.cells R1.toArray 47 (0, 0)) := by
    have e := setRow_heap W1 N _ R1.toArray _ _ HN1.out
    rw [HR1.out] at e ⊢
    rw [hw4.out]
    simpa using e
  have hg4 : Blk w4 g cur 47 := by unfold Blk; rw [hw4.out, setRow_other _ _ _ _ (by omega)]; exact Hg1.out
  have B4 : Below w0.heap.size w0 w4 := by rw [hw4.out]; exact HB1.out.trans (below_setRow (Below.refl _ _) (by have := HB1.out.size; omega) _)
  have hXc : ∀ j v, X[j]? = some v → w4.drew.cell? ((⟨g, i * 4, none⟩ : Addr).add j) = some v := fun j v hj => by
    rw [add_plain']
    exact (show Blk w4.drew g cur 47 from hg4).cell (HXc.out _ _ hj)
  have hgD : w4.drew.heap[N]? = some (.cells R1.toArray 47 (0, 0)) := hR1g
  have HB4 : Hid (Below w0.heap.size w0 w4.drew) := B4.drew
  clear hrz hUc hw4 B4 hR1g hg4
  go_upto_region 11 with fail
  go_region_law (refine step_copy4 rfl (.tmp 50) (.tmp 53) 29 29 rfl 47 Try.underlying29 hsz N ((i + 1) * 4) (n + 1 - (i + 1)) (G - (i + 1)) ⟨g, i * 4, none⟩ (n - i) (n - i) (by simp [Act.eval, Act.put]) (by simp [Act.eval, Act.put]) (n - i) hmin1 R1.toArray 47 hgD X hXl hXc hfit1 hX1 ?_; intro w5 hw5)
  all_goals
    have hR2g : w5.heap[N]? = some (.cells R2.toArray 47 (0, 0)) := by
      have e := setRow_heap w4.drew N _ R2.toArray _ _ hgD
      rw [HR2.out] at e ⊢
      rw [hw5.out]
      simpa using e
    have B5 : Below w0.heap.size w0 w5 := by rw [hw5.out]; exact HB4.out.trans (below_setRow (Below.refl _ _) (by have := HB4.out.size; omega) _)
    go_wp2
    go_ret
    exact ⟨N, G, rfl, by omega, hGn, HGm.out, R2.toArray, hR2g, by rw [List.size_toArray]; exact Hl2.out, HT.out, B5⟩
/- all roads -/
theorem insertS_c (v : Value) (l : List K4) (i : Nat) (u : K4) (base : Nat) (w0 : World) (hown : SlS w0 base v l) (hl : l.length ≤ 6) (hi : i ≤ l.length) (hbase : base ≤ w0.heap.size) :
    Calls Try.prog 29 #[v, .int .i64 i, .slice (some ⟨w0.heap.size, 0, none⟩) 1 1] (w0.alloc (.cells u.v 47)) fun e w' => ∃ v', e = .returned v' ∧ SlS w' base v' (l.take i ++ u :: l.drop i) ∧ w0.grownBy w' v.ownBlock := by
  by_cases he : i = l.length
  · subst he
    rw [List.take_length, List.drop_length]
    exact insertS_end v l u base w0 hown hl hbase
  · have hi' : i < l.length := by omega
    have hLl : (l.take i ++ u :: l.drop i).length = l.length + 1 := by rw [List.length_append, List.length_take, List.length_cons, List.length_drop]; omega
    rcases hown.2 with ⟨_, h2⟩ | ⟨g, c, cur, hv, hbg, hg, hnc, hcm, hcs, hct⟩
    · omega
    · subst hv
      by_cases hc : c = l.length
      · subst hc
        refine (insertS_grow g l.length i cur l u w0 rfl hl hi' hg hct).mono ?_
        rintro e w' ⟨q, cap, rfl, hq, hn1, hcm', cur', hg', hs', ht', B⟩
        refine ⟨_, rfl, ⟨flatS_len _, .inr ⟨q, cap, cur', by rw [hLl], Nat.le_trans hbase hq, hg', by rw [hLl]; exact hn1, hcm', hs', by rw [hLl]; exact ht'⟩⟩, ⟨B.os, B.tape, B.output, B.size, fun k hk _ => B.block k hk⟩⟩
      · refine (insertS_shift g l.length c i cur l u w0 rfl hl hi' (by omega) hcm hg hcs hct).mono ?_
        rintro e w' ⟨rfl, cur', hg', hs', ht', B⟩
        exact ⟨_, rfl, ⟨flatS_len _, .inr ⟨g, c, cur', by rw [hLl], hbg, hg', by rw [hLl]; omega, hcm, hs', by rw [hLl]; exact ht'⟩⟩, B⟩
end Go.Proofs.Ytgfdfpaimlcgaaa
end
