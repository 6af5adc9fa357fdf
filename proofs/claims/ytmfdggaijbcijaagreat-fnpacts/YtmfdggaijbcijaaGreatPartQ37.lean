/- Texts of mine put together (a claim holds at most 60 files): CollO, SortL, SortO. -/
import Derived.Test.YtmfdggaijbcijaaGreatPartQ36
import Derived.Test.YtmfdggaijbcijaaGreatPartQ10
import Derived.Maps.AppendAt
import Derived.Shelf.SlSortCmp.SmallK
import Derived.Shelf.Small.Bits
import Derived.Ground.SlsfProg
import Derived.Ground.NamesProg
import Derived.Test.YtmfdggaijbcijaaGreatProg
import Derived.BigQuiet
import Derived.Deep.QuietTactic

/- CollO -/
/- slices.Collect over an iterator that gives offers: a list of one's own that holds them in the order in which they came. No condition. -/
section
namespace Go.Proofs.YtmfdggaijbcijaaGreat
open Go.ChangeShapes Go.WideShapes Go.ChangeAt Go.RowKit Go.Shelf
set_option linter.unusedVariables false

attribute [local go_sem] Oper.semAt_some

/- block B holds an offer -/
def BoxO (W : World) (B : Nat) (x : K2) : Prop := W.heap[B]? = some (.cells x.v 49 (0, 0))
theorem BoxO.lt {W : World} {B : Nat} {x : K2} (h : BoxO W B x) : B < W.heap.size := (Array.getElem?_eq_some_iff.1 h).1
theorem BoxO.c0 {W : World} {B : Nat} {x : K2} (h : BoxO W B x) : W.cell? ⟨B, 0, none⟩ = some (.int .i64 x.c0) := by simp [World.cell?, show W.heap[B]? = _ from h]
theorem BoxO.c1 {W : World} {B : Nat} {x : K2} (h : BoxO W B x) : W.cell? ⟨B, 1, none⟩ = some (.int .i64 x.c1) := by simp [World.cell?, show W.heap[B]? = _ from h]
theorem BoxO.new (W : World) (x : K2) : BoxO (W.alloc (.cells x.v 49)) W.heap.size x := by
  show (W.heap.push _)[W.heap.size]? = _
  simp
def hasO (W : World) (base B : Nat) (pre : List K2) : Prop := ∃ v, Boxed W B 30 v ∧ W.ownsRow base 49 2 v pre.length (flatO pre) ∧ (v = .slice none 0 0 ↔ pre = [])
set_option maxRecDepth 100000 in
set_option maxHeartbeats 2000000 in
theorem appendSeqO (F : Fence) (n : Nat) (h1 : F.fn 118) (h2 : F.fn 100) (hro : F.round = none) (hn : 2 ≤ n) (lb : Array Value) (S Sp : List K2 → Prop) (N : Nat) (hN : N ≤ 100) (w : World)
    (hseq : SeqStopsK F (n - 1) Tryz.prog 100 lb (fun x : K2 => #[.agg x.v]) KeepsWalks S Sp N w) :
    CallsIn F n Tryz.prog 118 #[.slice none 0 0, .func (.func 100) #[] lb] w fun e w' => ∃ v ks, e = .returned v ∧ S ks ∧ SlO w' w.heap.size v ks ∧ (v = .slice none 0 0 ↔ ks = []) ∧ Below w.heap.size w w' := by
  have hn1 : 1 ≤ n := by omega
  obtain ⟨i0, hi, hz0, hz1, hz2⟩ := info_parts infoO
  have bO := Boxed.new w 30 (.slice none 0 0)
  have hB0 : Below w.heap.size w (w.alloc (.cells #[.slice none 0 0] 30)) := (Below.refl _ w).alloc (Nat.le_refl _) _
  refine callsIn_of_wp_marks Tryz.func118 rfl h1 ?_ hro
  simp only [Tryz.ntmps118, List.size_toArray, List.length_cons, List.length_nil, Nat.reduceAdd, Nat.reduceSub, Array.replicate_succ, Array.replicate_zero, List.push_toArray, List.append_toArray, List.nil_append, List.cons_append]
  gi_wp2
  refine wpIn_rangeFunc_ownH hro hn1 (gf := 100) (lb := lb) rfl h2 (enters_of Tryz.func100 (by kernel_rfl) rfl)
    hseq walksK_t walksK_b hB0 (fun _ => rfl)
    (fun pre W => hasO W w.heap.size w.heap.size pre ∧ Below w.heap.size w W)
    (fun _ _ _ => False)
    (OwnFrom.and (Own.from (holdsRow_own w.heap.size w.heap.size 30 49 2 (fun pre : List K2 => pre.length) flatO (fun pre v => v = .slice none 0 0 ↔ pre = [])) _) (ownFrom_below (Nat.le_refl _) (by simp)))
    (fun _ _ _ _ _ hs _ _ => hs)
    ⟨⟨_, bO, World.ownsRow_nil _ _ _ _, by simp⟩, hB0⟩
    (fun x a' W => ∃ Bx, w.heap.size < Bx ∧ BoxO W Bx x ∧ a' = { tmps := #[.slice none 0 0, .func (.func 100) #[] lb, .pointer (some ⟨w.heap.size, 0, none⟩), undef, .slice none 0 0, .pointer (some ⟨Bx, 0, none⟩), .func (.func 100) #[] lb, .agg x.v, undef, undef, undef, undef, undef], defers := [] })
    (fun x a' _ X Y row hs hg hr => by
      obtain ⟨Bx, h1, h2, h3⟩ := hs
      exact ⟨Bx, h1, (grownBy_keeps_cells hg (fun r e => (hr r e).2) h2 rfl).trans h2, h3⟩)
    ?assign ?body ?done ?stop
  case assign =>
    rintro l pre x W K ⟨⟨v, hv, hrow, hnil⟩, hB⟩ hK
    gi_wp2
    exact hK _ _ ((KeepsOthers.alloc _ _).from _) (KeepsWalks.alloc _ _) ⟨⟨v, hv.alloc _, hrow.alloc _, hnil⟩, hB.alloc hB.size _⟩ ⟨W.heap.size, hv.lt, BoxO.new W x, rfl⟩
  case body =>
    rintro l pre x a' W hl ⟨r, hr⟩ ⟨⟨v, hv, hrow, hnil⟩, hB⟩ ⟨Bx, hBx, bX, rfl⟩ hlt
    have hc := hv.cell
    have x0 := bX.c0
    have x1 := bX.c1
    have hbl := bX.lt
    gi_wp2_with (gi_at_builtin; refine wpListIn_append_own _ rfl _ _ 30 rfl w.heap.size 49 i0 (.agg K2.z.v) 2 16 Tryz.underlying30 hi hz0 hz1 hz2 rfl (by decide) _ _ _ rfl (hrow.alloc _) ⟨W.heap.size, 0, none⟩ 1 1 x.v.toList rfl rfl (fun j y hj => by rw [add_plain', Nat.zero_add]; exact cell_new _ _ _ _ _ (by simpa using hj)) (fun y hy => flatO_one [x] y (by unfold flatO; exact List.mem_append_left _ hy)) (by unfold maxLen; omega) (by omega) (by have := hB.size; simp; omega) ?_; intro v' w1 hown' hgrow _; obtain ⟨g', cap', rfl⟩ := ownsRow_succ hown'; obtain ⟨hv1, hv2, hr2, hk2, hb2⟩ := hv.appended (by decide) hrow hB.size (Nat.le_refl _) hown' hgrow; have hc1 := hv1.cell; have hf1 := hv1.frozen)
    exact ⟨hk2.from _, hk2.walks, ⟨_, hv2, by rw [flatO_app, List.length_append]; exact hr2, by simp⟩, hB.trans hb2⟩
  case done =>
    rintro D ys W hD hS ⟨⟨v, hv, hrow, hnil⟩, hB⟩ hK
    have hc := hv.cell
    gi_wp2
    refine ⟨by simp, .inl ⟨_, _, rfl, run_takeDeferred hK, ?_⟩⟩
    exact ⟨_, results_tmp rfl _ _ _, v, ys, rfl, hS, ownsRow_putObj hrow _ hK rfl, hnil, hB.trans (belowK_b (w := w) (Nat.le_refl _) W D _ _ (by simp at hD; omega) hK rfl rfl)⟩
  case stop =>
    rintro D c pre W _ _ h _
    exact h.elim
set_option maxHeartbeats 1000000 in
theorem collectO (F : Fence) (n : Nat) (h0 : F.fn 98) (h1 : F.fn 118) (h2 : F.fn 100) (hro : F.round = none) (hn : 3 ≤ n) (lb : Array Value) (S Sp : List K2 → Prop) (N : Nat) (hN : N ≤ 100) (w : World)
    (hseq : SeqStopsK F (n - 1 - 1) Tryz.prog 100 lb (fun x : K2 => #[.agg x.v]) KeepsWalks S Sp N w) :
    CallsIn F n Tryz.prog 98 #[.func (.func 100) #[] lb] w fun e w' => ∃ v ks, e = .returned v ∧ S ks ∧ SlO w' w.heap.size v ks ∧ (v = .slice none 0 0 ↔ ks = []) ∧ Below w.heap.size w w' := by
  have hn1 : 1 ≤ n := by omega
  have c := appendSeqO F (n - 1) h1 h2 hro (by omega) lb S Sp N hN w hseq
  refine callsIn_of_wp Tryz.func98 rfl h0 ?_ hro
  simp only [Tryz.ntmps98, List.size_toArray, List.length_cons, List.length_nil, Nat.reduceAdd, Nat.reduceSub, Array.replicate_succ, Array.replicate_zero, List.push_toArray, List.append_toArray, List.nil_append, List.cons_append]
  gi_wp2_with (gi_at_call 118; refine c.mono ?_; rintro e w' ⟨v, ks, rfl, hS, hv, hnil, hb⟩)
  go_ret
  exact ⟨v, ks, rfl, hS, hv, hnil, hb⟩
end Go.Proofs.YtmfdggaijbcijaaGreat
end

/- SortL -/
/- Contracts of the library at this program, laid by the kit (no walk): slices.SortFunc at offers, math/bits.Len. -/
section
namespace Go.Proofs
open Go.Shelf
def Tryz.sortOff_ren : Go.Shelf.Ren := ⟨fun | 6 => 99 | 15 => 120 | 14 => 119 | 28 => 132 | 29 => 133 | 20 => 124 | 21 => 125 | 22 => 126 | 23 => 127 | 24 => 128 | 25 => 129 | 26 => 130 | 27 => 131 | 46 => 134 | 47 => 135 | 48 => 136 | 49 => 137 | 50 => 138 | 57 => 139 | n => n, fun | 22 => 30 | 24 => 49 | 25 => 105 | 3 => 3 | 39 => 114 | 0 => 0 | 53 => 153 | 55 => 155 | 4 => 4 | 46 => 147 | 45 => 146 | 50 => 56 | 5 => 5 | 9 => 9 | 66 => 156 | 70 => 160 | 76 => 162 | 77 => 163 | n => n, fun | n => n⟩
theorem Tryz.sortOff : Go.Proofs.SlLaysF0.n6 Tryz.prog Tryz.sortOff_ren := {
  mixed := by kernel_rfl
  f6 := ⟨Tryz.f99.name, by decide, Tryz.func99.trans (congrArg some (by kernel_rfl))⟩
  f14 := ⟨Tryz.f119.name, by decide, Tryz.func119.trans (congrArg some (by kernel_rfl))⟩
  f15 := Tryz.func120.trans (congrArg some (by kernel_rfl))
  f20 := ⟨Tryz.f124.name, by decide, Tryz.func124.trans (congrArg some (by kernel_rfl))⟩
  f21 := ⟨Tryz.f125.name, by decide, Tryz.func125.trans (congrArg some (by kernel_rfl))⟩
  f22 := ⟨Tryz.f126.name, by decide, Tryz.func126.trans (congrArg some (by kernel_rfl))⟩
  f23 := ⟨Tryz.f127.name, by decide, Tryz.func127.trans (congrArg some (by kernel_rfl))⟩
  f24 := ⟨Tryz.f128.name, by decide, Tryz.func128.trans (congrArg some (by kernel_rfl))⟩
  f25 := ⟨Tryz.f129.name, by decide, Tryz.func129.trans (congrArg some (by kernel_rfl))⟩
  f26 := ⟨Tryz.f130.name, by decide, Tryz.func130.trans (congrArg some (by kernel_rfl))⟩
  f27 := ⟨Tryz.f131.name, by decide, Tryz.func131.trans (congrArg some (by kernel_rfl))⟩
  f28 := Tryz.func132.trans (congrArg some (by kernel_rfl))
  f29 := Tryz.func133.trans (congrArg some (by kernel_rfl))
  f46 := ⟨Tryz.f134.name, by decide, Tryz.func134.trans (congrArg some (by kernel_rfl))⟩
  f47 := Tryz.func135.trans (congrArg some (by kernel_rfl))
  f48 := Tryz.func136.trans (congrArg some (by kernel_rfl))
  f49 := ⟨Tryz.f137.name, by decide, Tryz.func137.trans (congrArg some (by kernel_rfl))⟩
  f50 := ⟨Tryz.f138.name, by decide, Tryz.func138.trans (congrArg some (by kernel_rfl))⟩
  f57 := ⟨Tryz.f139.name, by decide, Tryz.func139.trans (congrArg some (by kernel_rfl))⟩
  t0 := Tryz.underlying0
  a0 := Tryz.isAgg0
  z0 := Tryz.sizeOf0
  v0 := Tryz.zeroValue0
  t3 := Tryz.underlying3
  a3 := Tryz.isAgg3
  z3 := Tryz.sizeOf3
  v3 := Tryz.zeroValue3
  t4 := Tryz.underlying4
  a4 := Tryz.isAgg4
  z4 := Tryz.sizeOf4
  v4 := Tryz.zeroValue4
  t5 := Tryz.underlying5
  a5 := Tryz.isAgg5
  z5 := Tryz.sizeOf5
  v5 := Tryz.zeroValue5
  t9 := Tryz.underlying9
  a9 := Tryz.isAgg9
  z9 := Tryz.sizeOf9
  v9 := Tryz.zeroValue9
  t22 := Tryz.underlying30
  a22 := Tryz.isAgg30
  z22 := Tryz.sizeOf30
  v22 := Tryz.zeroValue30
  t25 := Tryz.underlying105
  a25 := Tryz.isAgg105
  z25 := Tryz.sizeOf105
  v25 := Tryz.zeroValue105
  t39 := Tryz.underlying114
  a39 := Tryz.isAgg114
  z39 := Tryz.sizeOf114
  v39 := Tryz.zeroValue114
  t45 := Tryz.underlying146
  a45 := Tryz.isAgg146
  z45 := Tryz.sizeOf146
  v45 := Tryz.zeroValue146
  t46 := Tryz.underlying147
  a46 := Tryz.isAgg147
  z46 := Tryz.sizeOf147
  v46 := Tryz.zeroValue147
  t50 := Tryz.underlying56
  a50 := Tryz.isAgg56
  z50 := Tryz.sizeOf56
  v50 := Tryz.zeroValue56
  t53 := Tryz.underlying153
  a53 := Tryz.isAgg153
  z53 := Tryz.sizeOf153
  v53 := Tryz.zeroValue153
  t55 := Tryz.underlying155
  a55 := Tryz.isAgg155
  z55 := Tryz.sizeOf155
  v55 := Tryz.zeroValue155
  t66 := Tryz.underlying156
  a66 := Tryz.isAgg156
  z66 := Tryz.sizeOf156
  v66 := Tryz.zeroValue156
  t70 := Tryz.underlying160
  a70 := Tryz.isAgg160
  z70 := Tryz.sizeOf160
  v70 := Tryz.zeroValue160
  t76 := Tryz.underlying162
  a76 := Tryz.isAgg162
  z76 := Tryz.sizeOf162
  v76 := Tryz.zeroValue162
  t77 := Tryz.underlying163
  a77 := Tryz.isAgg163
  z77 := Tryz.sizeOf163
  v77 := Tryz.zeroValue163 }
def Tryz.bitsLenO_ren : Go.Shelf.Ren := ⟨fun | 125 => 120 | 128 => 132 | 129 => 133 | n => n, fun | 46 => 114 | 3 => 3 | 51 => 153 | 53 => 155 | 4 => 4 | 5 => 5 | 9 => 9 | n => n, fun | n => n⟩
theorem Tryz.bitsLenO : Go.Proofs.Lays.n125 Tryz.prog Tryz.bitsLenO_ren := {
  mixed := by kernel_rfl
  f125 := Tryz.func120.trans (congrArg some (by kernel_rfl))
  f128 := Tryz.func132.trans (congrArg some (by kernel_rfl))
  f129 := Tryz.func133.trans (congrArg some (by kernel_rfl))
  t3 := Tryz.underlying3
  a3 := Tryz.isAgg3
  z3 := Tryz.sizeOf3
  v3 := Tryz.zeroValue3
  t4 := Tryz.underlying4
  a4 := Tryz.isAgg4
  z4 := Tryz.sizeOf4
  v4 := Tryz.zeroValue4
  t5 := Tryz.underlying5
  a5 := Tryz.isAgg5
  z5 := Tryz.sizeOf5
  v5 := Tryz.zeroValue5
  t9 := Tryz.underlying9
  a9 := Tryz.isAgg9
  z9 := Tryz.sizeOf9
  v9 := Tryz.zeroValue9
  t46 := Tryz.underlying114
  a46 := Tryz.isAgg114
  z46 := Tryz.sizeOf114
  v46 := Tryz.zeroValue114
  t51 := Tryz.underlying153
  a51 := Tryz.isAgg153
  z51 := Tryz.sizeOf153
  v51 := Tryz.zeroValue153
  t53 := Tryz.underlying155
  a53 := Tryz.isAgg155
  z53 := Tryz.sizeOf155
  v53 := Tryz.zeroValue155 }
end Go.Proofs
end

/- SortO -/
/- The offers of the program's map, sorted by their places. No condition. -/
section
namespace Go.Proofs.YtmfdggaijbcijaaGreat
open Go.ChangeShapes Go.WideShapes Go.ChangeAt Go.RowKit Go.Shelf Go.Lib Go.Sort
set_option linter.unusedVariables false

def plcO (k : K2) : List EO → Int
  | [] => 0
  | e :: r => if k.b e.k then e.v else plcO k r
theorem plcO_fnd (k : K2) : ∀ (l : List EO) (i : Nat), (match fndO k l i with | some (_, v) => v | none => .int .i64 0) = Value.int .i64 (plcO k l)
  | [], i => rfl
  | e :: r, i => by
    unfold fndO plcO
    cases k.b e.k
    · simpa using plcO_fnd k r (i + 1)
    · rfl
def cmpO (l : List EO) (x y : K2) : Int := if plcO x l < plcO y l then -1 else if plcO y l < plcO x l then 1 else 0
theorem ltO (l : List EO) (x y : K2) : ltOf (cmpO l) x y = decide (plcO x l < plcO y l) := by
  unfold ltOf cmpO
  by_cases h1 : plcO x l < plcO y l
  · simp [h1]
  · by_cases h2 : plcO y l < plcO x l <;> simp [h1, h2]
theorem swoO (l : List EO) : SWO (ltOf (cmpO l)) where
  irrefl x := by rw [ltO]; simp
  trans x y z h1 h2 := by rw [ltO] at *; simp at *; omega
  ntrans x y z h1 h2 := by rw [ltO] at *; simp at *; omega
def encO (x : K2) : List Value := [.int .i64 x.c0, .int .i64 x.c1]
theorem isNaN_c (x : Int) (w : World) : Calls Tryz.prog 101 #[.int .i64 x] w fun e w' => e = .returned (.bool false) ∧ w' = w := by
  go_enter Tryz.func101, Tryz.ntmps101
  go_wp2
  go_ret
  exact ⟨by simp, rfl⟩
theorem compare_c (x y : Int) (w : World) : Calls Tryz.prog 75 #[.int .i64 x, .int .i64 y] w fun e w' => e = .returned (.int .i64 (if x < y then -1 else if y < x then 1 else 0)) ∧ w' = w := by
  have c := fun x w => isNaN_c x w
  by_cases h1 : x < y
  · rw [if_pos h1]
    go_enter Tryz.func75, Tryz.ntmps75
    go_wp2_with (refine (c _ _).mono ?_; rintro e w' ⟨rfl, rfl⟩)
    go_ret
    exact ⟨rfl, rfl⟩
  · rw [if_neg h1]
    by_cases h2 : y < x
    · rw [if_pos h2]
      go_enter Tryz.func75, Tryz.ntmps75
      go_wp2_with (refine (c _ _).mono ?_; rintro e w' ⟨rfl, rfl⟩)
      go_ret
      exact ⟨rfl, rfl⟩
    · rw [if_neg h2]
      go_enter Tryz.func75, Tryz.ntmps75
      go_wp2_with (refine (c _ _).mono ?_; rintro e w' ⟨rfl, rfl⟩)
      go_ret
      exact ⟨rfl, rfl⟩
set_option maxHeartbeats 1000000 in
theorem closureO (Bm b nn : Nat) (l : List EO) (x y : K2) (W : World) (hc : W.cell? ⟨Bm, 0, none⟩ = some (.map (some b))) (hM : MapO W b l nn) :
    Calls Tryz.prog 74 #[.agg x.v, .agg y.v, .pointer (some ⟨Bm, 0, none⟩)] W fun e w' => e = .returned (.int .i64 (cmpO l x y)) ∧ ∃ q os', w' = grow (W.drewN q) os' := by
  have cc := fun w => compare_c (plcO x l) (plcO y l) w
  rw [show (if plcO x l < plcO y l then (-1 : Int) else if plcO y l < plcO x l then 1 else 0) = cmpO l x y from rfl] at cc
  have hBl := cell_lt2 hc
  have hm2 : ∀ q, MapO (((W.alloc (.cells x.v 49)).alloc (.cells y.v 49)).drewN q) b l nn := fun q => (hM.alloc _).alloc _
  have l1 := fun q => (run_lookO1 (hm2 q) x).trans (congrArg (fun v => Result.ok v _) (plcO_fnd x l 0))
  have l2 := fun q => (run_lookO1 (hm2 q) y).trans (congrArg (fun v => Result.ok v _) (plcO_fnd y l 0))
  generalize cmpO l x y = C at cc ⊢
  generalize plcO x l = X at cc l1
  generalize plcO y l = Y at cc l2
  have l10 := l1 0
  have l20 := l2 0
  clear hM hm2
  go_enter Tryz.func74, Tryz.ntmps74
  go_wp2
  go_quiet (first | exact Calls.quiet_of_same (cc _) | exact (cc _).mono (fun _ _ h => ⟨h.1, _, h.2⟩))
  go_wp2
  go_ret
  refine ⟨rfl, nq, #[.cells x.v 49, .cells y.v 49], ?_⟩
  rw [alloc_eq_grow, alloc_eq_grow, grow_grow]
  rfl
/- a row of offers as the library's sort holds it -/
theorem flatK_O (ks : List K2) : @flatK K2 ⟨K2.z⟩ encO 2 ks.toArray = (flatO ks).toArray := by
  letI : Inhabited K2 := ⟨K2.z⟩
  have hsz : (flatK encO 2 ks.toArray).size = (flatO ks).toArray.size := by
    rw [size_flatK]; simp [flatO_len]
  apply Array.ext_getElem?
  intro t
  by_cases ht : t < ks.length * 2
  · have h1 : (flatK encO 2 ks.toArray)[t]? = some ((flatK encO 2 ks.toArray)[t]!) := by
      rw [Array.getElem!_eq_getD, Array.getD_eq_getD_getElem?]
      rw [Array.getElem?_eq_getElem (by rw [size_flatK]; simpa using ht)]
      rfl
    rw [h1, get_flatK encO 2 ks.toArray t (by simpa using ht)]
    obtain ⟨x, hx⟩ : ∃ x, ks[t / 2]? = some x := ⟨_, List.getElem?_eq_getElem (by omega)⟩
    have h2 := flatO_get ks (t / 2) x (t % 2) hx (by omega)
    rw [show t / 2 * 2 + t % 2 = t from by omega] at h2
    have h3 : ks.toArray[t / 2]! = x := by simp [hx]
    rw [h3, List.getElem?_toArray, h2]
    have h4 : t % 2 = 0 ∨ t % 2 = 1 := by omega
    rcases h4 with h | h <;> rw [h] <;> rfl
  · rw [Array.getElem?_eq_none (by rw [size_flatK]; simp; omega), Array.getElem?_eq_none (by simp [flatO_len]; omega)]
theorem SlO.parts {w : World} {base : Nat} {v : Value} {l : List K2} (h : SlO w base v l) : (v = .slice none 0 0 ∧ l = []) ∨ ∃ g cap cur, v = .slice (some ⟨g, 0, none⟩) l.length cap ∧ base ≤ g ∧ w.heap[g]? = some (.cells cur 49 (0, 0)) ∧ l.length ≤ cap ∧ cap ≤ maxLen ∧ cur.size = cap * 2 ∧ cur.toList.take (l.length * 2) = flatO l := by
  rcases h.2 with ⟨h1, h2⟩ | h2
  · exact .inl ⟨h1, List.length_eq_zero_iff.1 h2⟩
  · exact .inr h2
theorem holdsO {w : World} {g : Nat} {cur : Array Value} {ks : List K2} (hg : w.heap[g]? = some (.cells cur 49 (0, 0))) (hc : cur.toList.take (ks.length * 2) = flatO ks) : @HoldsK K2 ⟨K2.z⟩ encO 2 w g 0 ks.toArray := by
  letI : Inhabited K2 := ⟨K2.z⟩
  unfold HoldsK Holds
  rw [flatK_O]
  intro j hj
  have hj' : j < ks.length * 2 := by simpa [flatO_len] using hj
  refine ⟨?_, by simp [World.frozen?, hg]⟩
  rw [Nat.zero_add]
  have h1 : (flatO ks)[j]? = cur[j]? := by
    rw [← hc, List.getElem?_take, if_pos hj']; simp
  have h2 : (flatO ks)[j]? = some ((flatO ks)[j]'(by rw [flatO_len]; exact hj')) := List.getElem?_eq_getElem _
  have h3 : (flatO ks).toArray[j]! = (flatO ks)[j]'(by rw [flatO_len]; exact hj') := by
    rw [Array.getElem!_eq_getD, Array.getD_eq_getD_getElem?, List.getElem?_toArray, h2]; rfl
  simp [World.cell?, hg, ← h1, h2, h3]
theorem sortedO {w : World} {base g cap n : Nat} {cur : Array Value} {os : Array Obj} {ks ds : List K2} (hb : base ≤ g) (hg : w.heap[g]? = some (.cells cur 49 (0, 0))) (h1 : ks.length ≤ cap) (h2 : cap ≤ maxLen) (h3 : cur.size = cap * 2) (hl : ds.length = ks.length) :
    SlO (@sortWorldK K2 ⟨K2.z⟩ encO 2 w g 0 n ds.toArray os) base (.slice (some ⟨g, 0, none⟩) ks.length cap) ds ∧ Below base w (@sortWorldK K2 ⟨K2.z⟩ encO 2 w g 0 n ds.toArray os) := by
  letI : Inhabited K2 := ⟨K2.z⟩
  have hgl : g < w.heap.size := (Array.getElem?_eq_some_iff.1 hg).1
  unfold sortWorldK putRowK
  rw [flatK_O]
  have hh : ∀ k, k < w.heap.size → (grow (putRow id (Sort.ahead w n) g 0 (flatO ds).toArray) os).heap[k]? = (w.heap.modify g (onCells (putCells id 0 (flatO ds).toArray)))[k]? := by
    intro k hk
    rw [heap_grow_old _ _ (by rw [size_putRow]; exact hk)]
    rfl
  refine ⟨⟨by simp [flatO_len], .inr ⟨g, cap, putCells id 0 (flatO ds).toArray cur, by rw [hl], hb, ?_, by omega, h2, by simp [putCells, h3], ?_⟩⟩, ⟨rfl, rfl, rfl, by simp, ?_⟩⟩
  · rw [hh g hgl, Array.getElem?_modify, if_pos rfl, hg]; rfl
  · apply List.ext_getElem?
    intro j
    by_cases hj : j < ds.length * 2
    · rw [List.getElem?_take, if_pos hj, Array.getElem?_toList]
      unfold putCells
      have hjc : j < cur.size := by omega
      rw [Array.getElem?_mapIdx, Array.getElem?_eq_getElem hjc]
      simp [flatO_len, hj]
    · rw [List.getElem?_take, if_neg hj, List.getElem?_eq_none (by rw [flatO_len]; omega)]
  · intro k hk
    rw [hh k (by omega), Array.getElem?_modify, if_neg (by omega)]
end Go.Proofs.YtmfdggaijbcijaaGreat
end
