/- Texts of mine put together (a claim holds at most 60 files): MapKeys, ExactB1, ExactB2, PutSpec3, OneWalks2, IntLists, Marks. -/
import Derived.Test.YtaeeahgibifkjaaGreatPartG24
import Derived.Test.YtaeeahgibifkjaaGreatPartG16
import Derived.Test.YtaeeahgibifkjaaGreatPartG01
import Derived.Test.YtaeeahgibifkjaaGreatPartG08
import Derived.Deep.RegionWith
import Derived.Test.YtaeeahgibifkjaaGreatPartG17
import Derived.Deep.QuietTactic
import Derived.BigQuiet

/- MapKeys -/
/- The keys of the program's map of rows, sorted. Condition: the map is the call's own. -/
section
namespace Go.Proofs.YtaeeahgibifkjaaGreat
open Go.ChangeShapes Go.WideShapes Go.ChangeAt Go.RowKit Go.Maps Go.Sort Go.Shelf
open Bd
set_option linter.unusedVariables false

theorem sortsA (m : Nat) : AnyZI.SortsIn Tryz.prog Tryz.sortedA_ren Fence.wide m :=
  ⟨fun blk off cap ss W hH hblk hsz => callsIn_wide.2 (AnyM.slices_Sort_int Tryz.sortA blk off cap ss W hH hblk hsz),
   fun p cap W => callsIn_wide.2 (AnyM.slices_Sort_int_none Tryz.sortA p cap W)⟩
theorem keys_c (mb : Option Nat) (W : World) :
    Calls Tryz.prog 175 #[.map mb] W fun e w' => e = .returned (.func (.func 193) #[] #[.pointer (some ⟨W.heap.size, 0, none⟩)]) ∧ w' = W.alloc (.cells #[.map mb] 119) :=
  (callsIn_wide (n := 5)).1 (AnyZI.keys_in Tryz.keysA Fence.wide 5 trivial rfl mb W)
theorem intKeys_ent (l : List K10) : intKeys (DataW.map (l.map ent)) = l.map K10.c0 := by
  unfold intKeys
  simp only [List.map_map]
  rfl
theorem sorted_rise {l : List K10} (h : Rise l) {ss : List Int} (hp : ss.Perm (l.map K10.c0)) : ss.mergeSort (fun x y => decide (x ≤ y)) = l.map K10.c0 := by
  have hs : (l.map K10.c0).Pairwise (fun a b => decide (a ≤ b) = true) := by
    rw [List.pairwise_map]
    exact h.imp (fun {a b} hab => decide_eq_true (by omega))
  have h1 : (ss.mergeSort (fun x y => decide (x ≤ y))).Pairwise (fun a b => decide (a ≤ b) = true) := List.pairwise_mergeSort (fun a b c h1 h2 => by simp at h1 h2 ⊢; omega) (fun a b => by simp; omega) ss
  have h2 : (ss.mergeSort (fun x y => decide (x ≤ y))).Perm (l.map K10.c0) := (List.mergeSort_perm ss _).trans hp
  exact List.Perm.eq_of_pairwise (fun a b _ _ h1 h2 => by simp at h1 h2; omega) h1 hs h2
theorem sorted_c (b : Nat) (l : List K10) (hl : l.length ≤ 100) (hr : Rise l) (w : World) (h : MapAt w b l) :
    Calls Tryz.prog 174 #[.func (.func 193) #[] #[.pointer (some ⟨w.heap.size, 0, none⟩)]] (w.alloc (.cells #[.map (some b)] 119)) fun e w' => ∃ v, e = .returned v ∧ SlI w' w.heap.size v (l.map K10.c0) ∧ Below w.heap.size w w' := by
  have hbl := h.lt
  have hsz : Maps.size (DataW.map (l.map ent)) = l.length := by rw [Maps.size_eq, List.length_map]
  have hseq : SeqGives Fence.wide 2 Tryz.prog 193 #[.pointer (some ⟨w.heap.size, 0, none⟩)] encZ (fun ss => ss.Perm (intKeys (DataW.map (l.map ent)))) (Maps.size (DataW.map (l.map ent))) (w.alloc (.cells #[.map (some b)] 119)) :=
    AnyZI.keys_gives (ρ := Tryz.keysA_ren) { Tryz.keysA with } Fence.wide _ trivial rfl (by omega) w.heap.size b l.length _ _ (by simp) (by simp) (by
      obtain ⟨es, clock, hb, Ft, hs, hD⟩ := h
      exact ⟨es, clock, (Below.heap_alloc _ _ b hbl).trans hb, Ft, hs, hD⟩)
  have cS := AnyZI.sorted_in Tryz.sortedA Fence.wide 5 trivial trivial trivial trivial rfl (by omega) (sortsA _) (enters_of Tryz.func192 (by kernel_rfl) rfl) 193 #[.pointer (some ⟨w.heap.size, 0, none⟩)] trivial (enters_of Tryz.func193 (by kernel_rfl) rfl) _ _ (by rw [hsz]; unfold maxLen; omega) (by rw [hsz]; omega) _ hseq
  change CallsIn _ _ Tryz.prog 174 _ _ _ at cS
  refine ((callsIn_wide).1 cS).mono ?_
  rintro e w' ⟨v, ss, rfl, hS, hrow, hnil, hb⟩
  rw [intKeys_ent] at hS
  rw [sorted_rise hr hS] at hrow
  refine ⟨v, rfl, ?_, ((Below.refl _ w).alloc (Nat.le_refl _) _).trans (hb.mono (by simp))⟩
  have hle : ss.length = (l.map K10.c0).length := hS.length_eq
  rw [hle] at hrow
  have hrow' := ownsRow_base_a hrow (base' := w.heap.size) (by simp)
  exact hrow'
end Go.Proofs.YtaeeahgibifkjaaGreat
end

/- ExactB1 -/
/- The walks of the exact laws of UnitFault and BoardFault. No condition. -/
section
namespace Go.Proofs.YtaeeahgibifkjaaGreat
open Go.ChangeShapes Go.WideShapes Go.ChangeAt Go.RowKit
open Bd
set_option linter.unusedVariables false

theorem bel_drew {w w' : World} (k : Below w.drew.heap.size w.drew w') : Below w.heap.size w w' := (Below.refl w.heap.size w).drew.trans k
end Go.Proofs.YtaeeahgibifkjaaGreat
end

/- ExactB2 -/
/- The walks of the exact laws of LeftIn and CarriedBy. No condition. -/
section
namespace Go.Proofs.YtaeeahgibifkjaaGreat
open Go.ChangeShapes Go.WideShapes Go.ChangeAt Go.RowKit
open Bd
set_option linter.unusedVariables false

theorem rowAll (w : World) (cs : Array Value) (t : TypeId) : (w.alloc (.cells cs t)).rowIs w.heap.size t cs.size (fun i => cs[i]!) := by
  refine ⟨cs, ?_, rfl, fun i hi => ?_⟩
  · show (w.heap.push _)[w.heap.size]? = _
    simp
  · show cs[i]? = some cs[i]!
    rw [getElem!_pos cs i hi]; exact Array.getElem?_eq_getElem hi
end Go.Proofs.YtaeeahgibifkjaaGreat
end

/- PutSpec3 -/
/- The contract of the model of PutUnit. Condition: the board's lists lie in memory as they were laid there. -/
section
namespace Go.Proofs.YtaeeahgibifkjaaGreat
open Go.ChangeShapes Go.WideShapes Go.ChangeAt Go.RowKit
open Bd
set_option linter.unusedVariables false

def puC (us : List K10) (fs : List K3) (u : K10) : Int := if (bf us fs == 0) = true then (if (uf u == 0) = true then (if 8 < (putU u us).length then 7 else 0) else uf u) else bf us fs
def puB (us : List K10) (fs : List K3) (u : K10) : Bool := bf us fs == 0 && (uf u == 0 && decide ((putU u us).length ≤ 8))
def puU (us : List K10) (fs : List K3) (u : K10) : List K10 := if puB us fs u = true then putU u us else []
def puF (us : List K10) (fs : List K3) (u : K10) : List K3 := if puB us fs u = true then fs else []
theorem pu_cases (us : List K10) (fs : List K3) (u : K10) :
    ((bf us fs == 0) = false ∧ puC us fs u = bf us fs ∧ puU us fs u = [] ∧ puF us fs u = []) ∨
    (bf us fs = 0 ∧ (uf u == 0) = false ∧ puC us fs u = uf u ∧ puU us fs u = [] ∧ puF us fs u = []) ∨
    (bf us fs = 0 ∧ uf u = 0 ∧ 8 < (putU u us).length ∧ puC us fs u = 7 ∧ puU us fs u = [] ∧ puF us fs u = []) ∨
    (bf us fs = 0 ∧ uf u = 0 ∧ (putU u us).length ≤ 8 ∧ puC us fs u = 0 ∧ puU us fs u = putU u us ∧ puF us fs u = fs) := by
  unfold puU puF puC puB
  cases h1 : bf us fs == 0
  · exact .inl ⟨rfl, rfl, rfl, rfl⟩
  · have e1 : bf us fs = 0 := by simpa using h1
    cases h2 : uf u == 0
    · exact .inr (.inl ⟨e1, rfl, rfl, rfl, rfl⟩)
    · have e2 : uf u = 0 := by simpa using h2
      by_cases h3 : 8 < (putU u us).length
      · exact .inr (.inr (.inl ⟨e1, e2, h3, by rw [if_pos rfl, if_pos rfl, if_pos h3], by rw [decide_eq_false (by omega)]; rfl, by rw [decide_eq_false (by omega)]; rfl⟩))
      · exact .inr (.inr (.inr ⟨e1, e2, by omega, by rw [if_pos rfl, if_pos rfl, if_neg h3], by rw [decide_eq_true (by omega)]; rfl, by rw [decide_eq_true (by omega)]; rfl⟩))
theorem SlU.nil (w : World) (base : Nat) : SlU w base (.slice none 0 0) [] := ⟨rfl, .inl ⟨rfl, rfl⟩⟩
theorem SlF.nil (w : World) (base : Nat) : SlF w base (.slice none 0 0) [] := ⟨rfl, .inl ⟨rfl, rfl⟩⟩
abbrev res3 (C : Int) (s f : Value) : Array Value := #[.int .i64 C, s, f]
theorem three_put (w : World) (s f : Value) (u : K10) (t t2 t3 : TypeId) : let W := ((w.alloc (.cells #[s, f] t)).alloc (.cells u.v t2)).alloc (.cells (res3 0 (.slice none 0 0) (.slice none 0 0)) t3)
    W.rowIs w.heap.size t 2 (fun i => if i = 0 then s else f) ∧ U1 W (w.heap.size + 1) 0 u ∧ W.rowIs (w.heap.size + 1 + 1) t3 3 (fun i => (res3 0 (.slice none 0 0) (.slice none 0 0))[i]!) ∧ Below w.heap.size w W ∧ W.heap.size = w.heap.size + 1 + 1 + 1 := by
  intro W
  have s1 : (w.alloc (.cells #[s, f] t)).heap.size = w.heap.size + 1 := size_new _ _
  have s2 : ((w.alloc (.cells #[s, f] t)).alloc (.cells u.v t2)).heap.size = w.heap.size + 1 + 1 := by rw [size_new, s1]
  have s3 : W.heap.size = w.heap.size + 1 + 1 + 1 := by show (World.alloc _ _).heap.size = _; rw [size_new, s2]
  have b1 : Below (w.alloc (.cells #[s, f] t)).heap.size (w.alloc (.cells #[s, f] t)) W := ((Below.refl _ _).alloc (Nat.le_refl _) _).alloc (by rw [s2, s1]; omega) _
  have b2 : Below ((w.alloc (.cells #[s, f] t)).alloc (.cells u.v t2)).heap.size ((w.alloc (.cells #[s, f] t)).alloc (.cells u.v t2)) W := (Below.refl _ _).alloc (Nat.le_refl _) _
  have r0 := rowTwo w s f t
  have r1 := U1.new (w.alloc (.cells #[s, f] t)) u t2
  have r2 := rowAll ((w.alloc (.cells #[s, f] t)).alloc (.cells u.v t2)) (res3 0 (.slice none 0 0) (.slice none 0 0)) t3
  rw [s1] at r1
  rw [s2] at r2
  exact ⟨r0.of_block (b1.block _ r0.lt), r1.later b2, r2, (((Below.refl _ _).alloc (Nat.le_refl _) _).alloc (by rw [s1]; omega) _).alloc (by rw [s2]; omega) _, s3⟩
end Go.Proofs.YtaeeahgibifkjaaGreat
end

/- OneWalks2 -/
/- Contracts of UnitOf and of its model. Condition: the board's two lists lie in memory as they were laid there; the Id is a number of its kind. -/
section
namespace Go.Proofs.YtaeeahgibifkjaaGreat
open Go.ChangeShapes Go.WideShapes Go.ChangeAt Go.RowKit
open Bd
set_option linter.unusedVariables false

def uoC (us : List K10) (fs : List K3) (i : Int) : Int := if (bf us fs == 0) = true then (if (findU us i).isSome = true then 0 else 4) else bf us fs
def uoU (us : List K10) (fs : List K3) (i : Int) : K10 := if (bf us fs == 0) = true then (findU us i).getD K10.z else K10.z
theorem uo_cases (us : List K10) (fs : List K3) (i : Int) : ((bf us fs == 0) = false ∧ uoC us fs i = bf us fs ∧ uoU us fs i = K10.z) ∨ (bf us fs = 0 ∧ atI us i = -1 ∧ findU us i = none ∧ uoC us fs i = 4 ∧ uoU us fs i = K10.z) ∨ (∃ (k : Nat) (x : K10), bf us fs = 0 ∧ atI us i = (k : Int) ∧ us[k]? = some x ∧ findU us i = some x ∧ uoC us fs i = 0 ∧ uoU us fs i = x) := by
  unfold uoC uoU
  cases h : bf us fs == 0
  · exact .inl ⟨rfl, rfl, rfl⟩
  · have h0 : bf us fs = 0 := by simpa using h
    rcases atU_find us i with ⟨h1, h2⟩ | ⟨k, x, h1, h2, h3⟩
    · exact .inr (.inl ⟨h0, by unfold atI; rw [h1], h2, by rw [h2]; rfl, by rw [h2]; rfl⟩)
    · exact .inr (.inr ⟨k, x, h0, by unfold atI; rw [h1], h2, h3, by rw [h3]; rfl, by rw [h3]; rfl⟩)
abbrev elevenV (C : Int) (x : K10) : Array Value := #[.int .i64 C, .int .i64 x.c0, .int .i64 x.c1, .int .i64 x.c2, .int .i64 x.c3, .int .i64 x.c4, .int .i64 x.c5, .int .i64 x.c6, .int .i64 x.c7, .int .i64 x.c8, .int .i64 x.c9]
theorem heap_push (w : World) (o : Obj) : (w.alloc o).heap[w.heap.size]? = some o := by
  show (w.heap.push _)[w.heap.size]? = _
  simp
theorem two_el (w : World) (s f : Value) (t t2 : TypeId) : let W := (w.alloc (.cells #[s, f] t)).alloc (.cells (elevenV 0 K10.z) t2)
    W.rowIs w.heap.size t 2 (fun i => if i = 0 then s else f) ∧ W.rowIs (w.heap.size + 1) t2 11 (fun _ => .int .i64 0) ∧ Below w.heap.size w W ∧ W.heap.size = w.heap.size + 1 + 1 := by
  intro W
  have s1 : (w.alloc (.cells #[s, f] t)).heap.size = w.heap.size + 1 := size_new _ _
  have s2 : W.heap.size = w.heap.size + 1 + 1 := by show (World.alloc _ _).heap.size = _; rw [size_new, s1]
  have b1 : Below (w.alloc (.cells #[s, f] t)).heap.size (w.alloc (.cells #[s, f] t)) W := (Below.refl _ _).alloc (Nat.le_refl _) _
  have r0 := rowTwo w s f t
  have r1 : W.rowIs (w.heap.size + 1) t2 11 (fun _ => .int .i64 0) := by
    refine ⟨elevenV 0 K10.z, ?_, rfl, fun i hi => ?_⟩
    · have h := heap_push (w.alloc (.cells #[s, f] t)) (.cells (elevenV 0 K10.z) t2)
      rw [s1] at h; exact h
    · have h : i = 0 ∨ i = 1 ∨ i = 2 ∨ i = 3 ∨ i = 4 ∨ i = 5 ∨ i = 6 ∨ i = 7 ∨ i = 8 ∨ i = 9 ∨ i = 10 := by omega
      rcases h with rfl | rfl | rfl | rfl | rfl | rfl | rfl | rfl | rfl | rfl | rfl <;> rfl
  exact ⟨r0.of_block (b1.block _ r0.lt), r1, ((Below.refl _ _).alloc (Nat.le_refl _) _).alloc (by rw [s1]; omega) _, s2⟩
set_option maxRecDepth 20000 in
set_option maxHeartbeats 8000000 in
theorem implUnitOf (a : Option Addr) (m c : Nat) (a' : Option Addr) (m' c' : Nat) (us : List K10) (fs : List K3) (i : Int) (hw : (Lit.int .i64 i).wf = true) (hl : us.length = m) (hl' : fs.length = m') (w : World) (hU : ArgU w a us) (hF : ArgF w a' fs) :
    Calls Tryz.prog 32 #[.agg #[.slice a m c, .slice a' m' c'], .int .i64 i] w fun e w' => e = .returned (.agg (elevenV (uoC us fs i) (uoU us fs i))) ∧ Below w.heap.size w w' := by
  obtain ⟨rb, rr, B2, S2⟩ := two_el w (.slice a m c) (.slice a' m' c') 27 56
  have cF := implBoardFault a m c a' m' c' us fs hl hl' _ (hU.later B2) (hF.later B2)
  rcases uo_cases us fs i with ⟨h1, e, eu⟩ | ⟨h1, h2, h3, e, eu⟩ | ⟨k, x, h1, h2, h3, h4, e, eu⟩
  · rw [e, eu]
    have h1' := bne_of h1
    generalize bf us fs = R at h1 h1' cF ⊢
    go_enter Tryz.func32, Tryz.ntmps32
    go_wp2_with fail
    refine cF.mono ?_
    rintro e w1 ⟨rfl, k1⟩
    have B3 := B2.trans (k1.mono B2.size)
    replace rb := row_later rb k1
    replace rr := row_later rr k1
    have e0 : w1.cell? ⟨w.heap.size + 1, 0, none⟩ = some (.int .i64 0) := rr.cell (i := 0) (by omega)
    have z0 := rr.frozen 0
    have e1 : w1.cell? ⟨w.heap.size + 1, 1, none⟩ = some (.int .i64 0) := rr.cell (i := 1) (by omega)
    have z1 := rr.frozen 1
    have e2 : w1.cell? ⟨w.heap.size + 1, 2, none⟩ = some (.int .i64 0) := rr.cell (i := 2) (by omega)
    have z2 := rr.frozen 2
    have e3 : w1.cell? ⟨w.heap.size + 1, 3, none⟩ = some (.int .i64 0) := rr.cell (i := 3) (by omega)
    have z3 := rr.frozen 3
    have e4 : w1.cell? ⟨w.heap.size + 1, 4, none⟩ = some (.int .i64 0) := rr.cell (i := 4) (by omega)
    have z4 := rr.frozen 4
    have e5 : w1.cell? ⟨w.heap.size + 1, 5, none⟩ = some (.int .i64 0) := rr.cell (i := 5) (by omega)
    have z5 := rr.frozen 5
    have e6 : w1.cell? ⟨w.heap.size + 1, 6, none⟩ = some (.int .i64 0) := rr.cell (i := 6) (by omega)
    have z6 := rr.frozen 6
    have e7 : w1.cell? ⟨w.heap.size + 1, 7, none⟩ = some (.int .i64 0) := rr.cell (i := 7) (by omega)
    have z7 := rr.frozen 7
    have e8 : w1.cell? ⟨w.heap.size + 1, 8, none⟩ = some (.int .i64 0) := rr.cell (i := 8) (by omega)
    have z8 := rr.frozen 8
    have e9 : w1.cell? ⟨w.heap.size + 1, 9, none⟩ = some (.int .i64 0) := rr.cell (i := 9) (by omega)
    have z9 := rr.frozen 9
    have e10 : w1.cell? ⟨w.heap.size + 1, 10, none⟩ = some (.int .i64 0) := rr.cell (i := 10) (by omega)
    have z10 := rr.frozen 10
    have rl := rr.lt
    have t := (((((((((((rr.set 0 (.int .i64 R)).set 1 (.int .i64 0)).set 2 (.int .i64 0)).set 3 (.int .i64 0)).set 4 (.int .i64 0)).set 5 (.int .i64 0)).set 6 (.int .i64 0)).set 7 (.int .i64 0)).set 8 (.int .i64 0)).set 9 (.int .i64 0)).set 10 (.int .i64 0))
    have c0 := t.cell (i := 0) (by omega)
    have c1 := t.cell (i := 1) (by omega)
    have c2 := t.cell (i := 2) (by omega)
    have c3 := t.cell (i := 3) (by omega)
    have c4 := t.cell (i := 4) (by omega)
    have c5 := t.cell (i := 5) (by omega)
    have c6 := t.cell (i := 6) (by omega)
    have c7 := t.cell (i := 7) (by omega)
    have c8 := t.cell (i := 8) (by omega)
    have c9 := t.cell (i := 9) (by omega)
    have c10 := t.cell (i := 10) (by omega)
    have BZ := (bel_set (bel_set (bel_set (bel_set (bel_set (bel_set (bel_set (bel_set (bel_set (bel_set (bel_set B3 (w.heap.size + 1) 0 (by omega) (.int .i64 R)) (w.heap.size + 1) 1 (by omega) (.int .i64 0)) (w.heap.size + 1) 2 (by omega) (.int .i64 0)) (w.heap.size + 1) 3 (by omega) (.int .i64 0)) (w.heap.size + 1) 4 (by omega) (.int .i64 0)) (w.heap.size + 1) 5 (by omega) (.int .i64 0)) (w.heap.size + 1) 6 (by omega) (.int .i64 0)) (w.heap.size + 1) 7 (by omega) (.int .i64 0)) (w.heap.size + 1) 8 (by omega) (.int .i64 0)) (w.heap.size + 1) 9 (by omega) (.int .i64 0)) (w.heap.size + 1) 10 (by omega) (.int .i64 0))
    go_wp2_with fail
    refine bodyPost_ret (v := .agg (elevenV R K10.z)) ?_ rfl ⟨rfl, BZ⟩
    simp [results, Tryz.results32, go_sem, K10.z, c0, c1, c2, c3, c4, c5, c6, c7, c8, c9, c10]
    done
  · rw [e, eu]
    rw [h1] at cF
    obtain ⟨n8, _, huf, _, hris⟩ := bf_ok h1
    have cM := fun w hU => rowsById_c a m c us hl (by omega) huf hris w hU
    go_enter Tryz.func32, Tryz.ntmps32
    go_wp2_with fail
    refine cF.mono ?_
    rintro e w1 ⟨rfl, k1⟩
    have B3 := B2.trans (k1.mono B2.size)
    replace rb := row_later rb k1
    replace rr := row_later rr k1
    obtain ⟨p1, p2, pl⟩ := row_brd rb
    have hU1 := hU.later B3
    go_wp2_with fail
    refine (cM _ hU1).mono ?_
    rintro e w2 ⟨rfl, hM, k2⟩
    have B4 := B3.trans (k2.mono B3.size)
    replace rr := row_later rr k2
    have hlook := hM.look i hw
    rw [h3] at hlook
    dsimp only at hlook
    obtain ⟨w3, Hw3⟩ : ∃ w3, Hid (w3 = w2.alloc (.cells K10.z.v 117)) := ⟨_, rfl⟩
    have k3 : Below w2.heap.size w2 w3 := by rw [Hw3.out]; exact (Below.refl _ _).alloc (Nat.le_refl _) _
    have B5 := B4.trans (k3.mono B4.size)
    replace rr := row_later rr k3
    go_upto_region 6 with fail
    rw [← Hw3.out]
    clear hlook
    have e0 : w3.cell? ⟨w.heap.size + 1, 0, none⟩ = some (.int .i64 0) := rr.cell (i := 0) (by omega)
    have z0 := rr.frozen 0
    have e1 : w3.cell? ⟨w.heap.size + 1, 1, none⟩ = some (.int .i64 0) := rr.cell (i := 1) (by omega)
    have z1 := rr.frozen 1
    have e2 : w3.cell? ⟨w.heap.size + 1, 2, none⟩ = some (.int .i64 0) := rr.cell (i := 2) (by omega)
    have z2 := rr.frozen 2
    have e3 : w3.cell? ⟨w.heap.size + 1, 3, none⟩ = some (.int .i64 0) := rr.cell (i := 3) (by omega)
    have z3 := rr.frozen 3
    have e4 : w3.cell? ⟨w.heap.size + 1, 4, none⟩ = some (.int .i64 0) := rr.cell (i := 4) (by omega)
    have z4 := rr.frozen 4
    have e5 : w3.cell? ⟨w.heap.size + 1, 5, none⟩ = some (.int .i64 0) := rr.cell (i := 5) (by omega)
    have z5 := rr.frozen 5
    have e6 : w3.cell? ⟨w.heap.size + 1, 6, none⟩ = some (.int .i64 0) := rr.cell (i := 6) (by omega)
    have z6 := rr.frozen 6
    have e7 : w3.cell? ⟨w.heap.size + 1, 7, none⟩ = some (.int .i64 0) := rr.cell (i := 7) (by omega)
    have z7 := rr.frozen 7
    have e8 : w3.cell? ⟨w.heap.size + 1, 8, none⟩ = some (.int .i64 0) := rr.cell (i := 8) (by omega)
    have z8 := rr.frozen 8
    have e9 : w3.cell? ⟨w.heap.size + 1, 9, none⟩ = some (.int .i64 0) := rr.cell (i := 9) (by omega)
    have z9 := rr.frozen 9
    have e10 : w3.cell? ⟨w.heap.size + 1, 10, none⟩ = some (.int .i64 0) := rr.cell (i := 10) (by omega)
    have z10 := rr.frozen 10
    have rl := rr.lt
    have t := (((((((((((rr.set 0 (.int .i64 4)).set 1 (.int .i64 0)).set 2 (.int .i64 0)).set 3 (.int .i64 0)).set 4 (.int .i64 0)).set 5 (.int .i64 0)).set 6 (.int .i64 0)).set 7 (.int .i64 0)).set 8 (.int .i64 0)).set 9 (.int .i64 0)).set 10 (.int .i64 0))
    have c0 := t.cell (i := 0) (by omega)
    have c1 := t.cell (i := 1) (by omega)
    have c2 := t.cell (i := 2) (by omega)
    have c3 := t.cell (i := 3) (by omega)
    have c4 := t.cell (i := 4) (by omega)
    have c5 := t.cell (i := 5) (by omega)
    have c6 := t.cell (i := 6) (by omega)
    have c7 := t.cell (i := 7) (by omega)
    have c8 := t.cell (i := 8) (by omega)
    have c9 := t.cell (i := 9) (by omega)
    have c10 := t.cell (i := 10) (by omega)
    have BZ := (bel_set (bel_set (bel_set (bel_set (bel_set (bel_set (bel_set (bel_set (bel_set (bel_set (bel_set B5 (w.heap.size + 1) 0 (by omega) (.int .i64 4)) (w.heap.size + 1) 1 (by omega) (.int .i64 0)) (w.heap.size + 1) 2 (by omega) (.int .i64 0)) (w.heap.size + 1) 3 (by omega) (.int .i64 0)) (w.heap.size + 1) 4 (by omega) (.int .i64 0)) (w.heap.size + 1) 5 (by omega) (.int .i64 0)) (w.heap.size + 1) 6 (by omega) (.int .i64 0)) (w.heap.size + 1) 7 (by omega) (.int .i64 0)) (w.heap.size + 1) 8 (by omega) (.int .i64 0)) (w.heap.size + 1) 9 (by omega) (.int .i64 0)) (w.heap.size + 1) 10 (by omega) (.int .i64 0))
    go_wp2_with fail
    refine bodyPost_ret (v := .agg (elevenV 4 K10.z)) ?_ rfl ⟨rfl, BZ⟩
    simp [results, Tryz.results32, go_sem, K10.z, c0, c1, c2, c3, c4, c5, c6, c7, c8, c9, c10]
    done
  · rw [e, eu]
    have cI := fun w => unitIn_c x w
    rw [h1] at cF
    obtain ⟨n8, _, huf, _, hris⟩ := bf_ok h1
    have cM := fun w hU => rowsById_c a m c us hl (by omega) huf hris w hU
    go_enter Tryz.func32, Tryz.ntmps32
    go_wp2_with fail
    refine cF.mono ?_
    rintro e w1 ⟨rfl, k1⟩
    have B3 := B2.trans (k1.mono B2.size)
    replace rb := row_later rb k1
    replace rr := row_later rr k1
    obtain ⟨p1, p2, pl⟩ := row_brd rb
    have hU1 := hU.later B3
    go_wp2_with fail
    refine (cM _ hU1).mono ?_
    rintro e w2 ⟨rfl, hM, k2⟩
    have B4 := B3.trans (k2.mono B3.size)
    replace rr := row_later rr k2
    have hlook := hM.look i hw
    rw [h4] at hlook
    dsimp only at hlook
    have k3 : Below w2.heap.size w2 (w2.alloc (.cells x.v 117)) := (Below.refl _ _).alloc (Nat.le_refl _) _
    have B5 := B4.trans (k3.mono B4.size)
    replace rr := row_later rr k3
    go_wp2_with fail
    refine (cI _).mono ?_
    rintro e w3 ⟨rfl, hw3⟩
    have k4 : Below (w2.alloc (.cells x.v 117)).heap.size (w2.alloc (.cells x.v 117)) w3 := by rw [hw3]; exact ((Below.refl _ _).alloc (Nat.le_refl _) _).alloc (by simp only [size_new]; omega) _
    have B6 := B5.trans (k4.mono B5.size)
    replace rr := row_later rr k4
    clear hw3
    have e0 : w3.cell? ⟨w.heap.size + 1, 0, none⟩ = some (.int .i64 0) := rr.cell (i := 0) (by omega)
    have z0 := rr.frozen 0
    have e1 : w3.cell? ⟨w.heap.size + 1, 1, none⟩ = some (.int .i64 0) := rr.cell (i := 1) (by omega)
    have z1 := rr.frozen 1
    have e2 : w3.cell? ⟨w.heap.size + 1, 2, none⟩ = some (.int .i64 0) := rr.cell (i := 2) (by omega)
    have z2 := rr.frozen 2
    have e3 : w3.cell? ⟨w.heap.size + 1, 3, none⟩ = some (.int .i64 0) := rr.cell (i := 3) (by omega)
    have z3 := rr.frozen 3
    have e4 : w3.cell? ⟨w.heap.size + 1, 4, none⟩ = some (.int .i64 0) := rr.cell (i := 4) (by omega)
    have z4 := rr.frozen 4
    have e5 : w3.cell? ⟨w.heap.size + 1, 5, none⟩ = some (.int .i64 0) := rr.cell (i := 5) (by omega)
    have z5 := rr.frozen 5
    have e6 : w3.cell? ⟨w.heap.size + 1, 6, none⟩ = some (.int .i64 0) := rr.cell (i := 6) (by omega)
    have z6 := rr.frozen 6
    have e7 : w3.cell? ⟨w.heap.size + 1, 7, none⟩ = some (.int .i64 0) := rr.cell (i := 7) (by omega)
    have z7 := rr.frozen 7
    have e8 : w3.cell? ⟨w.heap.size + 1, 8, none⟩ = some (.int .i64 0) := rr.cell (i := 8) (by omega)
    have z8 := rr.frozen 8
    have e9 : w3.cell? ⟨w.heap.size + 1, 9, none⟩ = some (.int .i64 0) := rr.cell (i := 9) (by omega)
    have z9 := rr.frozen 9
    have e10 : w3.cell? ⟨w.heap.size + 1, 10, none⟩ = some (.int .i64 0) := rr.cell (i := 10) (by omega)
    have z10 := rr.frozen 10
    have rl := rr.lt
    have t := (((((((((((rr.set 0 (.int .i64 0)).set 1 (.int .i64 x.c0)).set 2 (.int .i64 x.c1)).set 3 (.int .i64 x.c2)).set 4 (.int .i64 x.c3)).set 5 (.int .i64 x.c4)).set 6 (.int .i64 x.c5)).set 7 (.int .i64 x.c6)).set 8 (.int .i64 x.c7)).set 9 (.int .i64 x.c8)).set 10 (.int .i64 x.c9))
    have c0 := t.cell (i := 0) (by omega)
    have c1 := t.cell (i := 1) (by omega)
    have c2 := t.cell (i := 2) (by omega)
    have c3 := t.cell (i := 3) (by omega)
    have c4 := t.cell (i := 4) (by omega)
    have c5 := t.cell (i := 5) (by omega)
    have c6 := t.cell (i := 6) (by omega)
    have c7 := t.cell (i := 7) (by omega)
    have c8 := t.cell (i := 8) (by omega)
    have c9 := t.cell (i := 9) (by omega)
    have c10 := t.cell (i := 10) (by omega)
    have BZ := (bel_set (bel_set (bel_set (bel_set (bel_set (bel_set (bel_set (bel_set (bel_set (bel_set (bel_set B6 (w.heap.size + 1) 0 (by omega) (.int .i64 0)) (w.heap.size + 1) 1 (by omega) (.int .i64 x.c0)) (w.heap.size + 1) 2 (by omega) (.int .i64 x.c1)) (w.heap.size + 1) 3 (by omega) (.int .i64 x.c2)) (w.heap.size + 1) 4 (by omega) (.int .i64 x.c3)) (w.heap.size + 1) 5 (by omega) (.int .i64 x.c4)) (w.heap.size + 1) 6 (by omega) (.int .i64 x.c5)) (w.heap.size + 1) 7 (by omega) (.int .i64 x.c6)) (w.heap.size + 1) 8 (by omega) (.int .i64 x.c7)) (w.heap.size + 1) 9 (by omega) (.int .i64 x.c8)) (w.heap.size + 1) 10 (by omega) (.int .i64 x.c9))
    go_wp2_with fail
    refine bodyPost_ret (v := .agg (elevenV 0 x)) ?_ rfl ⟨rfl, BZ⟩
    simp [results, Tryz.results32, go_sem, c0, c1, c2, c3, c4, c5, c6, c7, c8, c9, c10]
    done
end Go.Proofs.YtaeeahgibifkjaaGreat
end

/- IntLists -/
/- Contracts of the exact laws' own helpers on lists of int64: equal lists are equal, marks that were laid are held. Conditions: the lists lie in memory of their own, at most 1000000 numbers. -/
section
namespace Go.Proofs.YtaeeahgibifkjaaGreat
open Go.ChangeShapes Go.WideShapes Go.ChangeAt Go.RowKit
set_option linter.unusedVariables false

def marks (k : Int) (m : Nat) : List Int := (List.range m).map (fun (i : Nat) => k + (i : Int))
theorem marks_len (k : Int) (m : Nat) : (marks k m).length = m := by simp [marks]
theorem marks_get (k : Int) (m i : Nat) (h : i < m) : (marks k m)[i]? = some (k + (i : Int)) := by simp [marks, h]

end Go.Proofs.YtaeeahgibifkjaaGreat
end

/- Marks -/
/- Contracts of the exact laws' own marks on lists of units and of fields, and on boards. Condition: the lists lie in blocks of their own and have at most 1048576 members. -/
section
namespace Go.Proofs.YtaeeahgibifkjaaGreat
open Go.ChangeShapes Go.WideShapes Go.ChangeAt Go.RowKit
set_option linter.unusedVariables false

/- the first j cells bear the marks from k0 on -/
def mkd (k0 : Int) (f : Nat → Value) (j : Nat) (i : Nat) : Value := if i < j then .int .i64 (k0 + (i : Int)) else f i
theorem grown_set0 (w : World) (g o : Nat) (v : Value) : w.grownBy (w.setCell ⟨g, o, none⟩ v) (some g) :=
  ⟨rfl, rfl, rfl, by simp [World.setCell], fun i _ hne => Below.heap_setCell _ ⟨g, o, none⟩ v i (fun e => hne (by rw [e]))⟩
theorem grown_tr {a b c : World} {row : Option Nat} (h : a.grownBy b row) (k : b.grownBy c row) : a.grownBy c row :=
  ⟨k.os.trans h.os, k.tape.trans h.tape, k.output.trans h.output, Nat.le_trans h.size k.size, fun i hi hne => (k.block i (Nat.lt_of_lt_of_le hi h.size) hne).trans (h.block i hi hne)⟩
theorem grown_same (w : World) (row : Option Nat) : w.grownBy w row := ⟨rfl, rfl, rfl, Nat.le_refl _, fun _ _ _ => rfl⟩
theorem mkd_set10 (k0 : Int) (f : Nat → Value) (k : Nat) (KK : Int) (hK : KK = k0 + 10 * (k : Int)) (i : Nat) :
    (if i = k * 10 + 9 then Value.int .i64 (KK + 1 + 1 + 1 + 1 + 1 + 1 + 1 + 1 + 1) else if i = k * 10 + 8 then Value.int .i64 (KK + 1 + 1 + 1 + 1 + 1 + 1 + 1 + 1) else if i = k * 10 + 7 then Value.int .i64 (KK + 1 + 1 + 1 + 1 + 1 + 1 + 1) else if i = k * 10 + 6 then Value.int .i64 (KK + 1 + 1 + 1 + 1 + 1 + 1) else if i = k * 10 + 5 then Value.int .i64 (KK + 1 + 1 + 1 + 1 + 1) else if i = k * 10 + 4 then Value.int .i64 (KK + 1 + 1 + 1 + 1) else if i = k * 10 + 3 then Value.int .i64 (KK + 1 + 1 + 1) else if i = k * 10 + 2 then Value.int .i64 (KK + 1 + 1) else if i = k * 10 + 1 then Value.int .i64 (KK + 1) else if i = k * 10 then Value.int .i64 (KK) else mkd k0 f (k * 10) i) = mkd k0 f ((k + 1) * 10) i := by
  subst hK
  unfold mkd
  by_cases e9 : i = k * 10 + 9
  · rw [if_pos e9, if_pos (by omega)]; congr 1; omega
  rw [if_neg e9]
  by_cases e8 : i = k * 10 + 8
  · rw [if_pos e8, if_pos (by omega)]; congr 1; omega
  rw [if_neg e8]
  by_cases e7 : i = k * 10 + 7
  · rw [if_pos e7, if_pos (by omega)]; congr 1; omega
  rw [if_neg e7]
  by_cases e6 : i = k * 10 + 6
  · rw [if_pos e6, if_pos (by omega)]; congr 1; omega
  rw [if_neg e6]
  by_cases e5 : i = k * 10 + 5
  · rw [if_pos e5, if_pos (by omega)]; congr 1; omega
  rw [if_neg e5]
  by_cases e4 : i = k * 10 + 4
  · rw [if_pos e4, if_pos (by omega)]; congr 1; omega
  rw [if_neg e4]
  by_cases e3 : i = k * 10 + 3
  · rw [if_pos e3, if_pos (by omega)]; congr 1; omega
  rw [if_neg e3]
  by_cases e2 : i = k * 10 + 2
  · rw [if_pos e2, if_pos (by omega)]; congr 1; omega
  rw [if_neg e2]
  by_cases e1 : i = k * 10 + 1
  · rw [if_pos e1, if_pos (by omega)]; congr 1; omega
  rw [if_neg e1]
  by_cases e0 : i = k * 10
  · rw [if_pos e0, if_pos (by omega)]; congr 1; omega
  rw [if_neg e0]
  by_cases hi : i < k * 10
  · rw [if_pos hi, if_pos (by omega)]
  · rw [if_neg hi, if_neg (by omega)]
theorem mkd_set3 (k0 : Int) (f : Nat → Value) (k : Nat) (KK : Int) (hK : KK = k0 + 3 * (k : Int)) (i : Nat) :
    (if i = k * 3 + 2 then Value.int .i64 (KK + 1 + 1) else if i = k * 3 + 1 then Value.int .i64 (KK + 1) else if i = k * 3 then Value.int .i64 (KK) else mkd k0 f (k * 3) i) = mkd k0 f ((k + 1) * 3) i := by
  subst hK
  unfold mkd
  by_cases e2 : i = k * 3 + 2
  · rw [if_pos e2, if_pos (by omega)]; congr 1; omega
  rw [if_neg e2]
  by_cases e1 : i = k * 3 + 1
  · rw [if_pos e1, if_pos (by omega)]; congr 1; omega
  rw [if_neg e1]
  by_cases e0 : i = k * 3
  · rw [if_pos e0, if_pos (by omega)]; congr 1; omega
  rw [if_neg e0]
  by_cases hi : i < k * 3
  · rw [if_pos hi, if_pos (by omega)]
  · rw [if_neg hi, if_neg (by omega)]
end Go.Proofs.YtaeeahgibifkjaaGreat
end
