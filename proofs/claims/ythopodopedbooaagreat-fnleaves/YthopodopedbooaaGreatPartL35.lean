/- Texts of mine put together (a claim holds at most 60 files): LeavePurse, HandImpl. -/
import Derived.Test.YthopodopedbooaaGreatPartL34
import Derived.Test.YthopodopedbooaaGreatPartL27
import Derived.Test.YthopodopedbooaaGreatPartL32

/- LeavePurse -/
/- The contract of leavePurse. Condition: the world that is worked on lies in memory, its purses are in their bounds. -/
section
namespace Go.Proofs.YthopodopedbooaaGreat
open Go.ChangeShapes Go.WideShapes Go.ChangeAt Go.RowKit
open Bd
set_option linter.unusedVariables false

set_option maxRecDepth 20000 in
set_option maxHeartbeats 4000000 in
theorem shareP_none (q : Option Addr) (m c : Nat) (f : Value) (w : World) :
    Calls Tryz.prog 159 #[.slice q m c, .slice none 0 0, f] w fun e w' => e = .returned (.tuple #[]) ∧ w' = w := by
  go_enter Tryz.func159, Tryz.ntmps159
  go_wp2_with fail
  go_loopw [10] (fun j wr => j = .int .i64 0 ∧ wr = w) (fun j _ => 0)
  case atStart => exact ⟨rfl, rfl⟩
  case round =>
    obtain ⟨rfl, rfl⟩ := hrel
    go_wp2_with fail
    go_end0
    exact ⟨rfl, rfl⟩
/- blocks of these two types may be turned -/
abbrev TP : TypeId → Bool := fun t => t == 53 || t == 76
theorem shT_bd {n : Int} {m : Nat} {hs : List Int} {fa : List KA} (h0 : 0 ≤ n) (h1 : n ≤ 1000000) (hm : hs.length = m) (h4 : fa.length = 4) (hk : ∀ k ∈ hs, 0 ≤ k ∧ k ≤ 3) (hp : ∀ f ∈ fa, inb f.c0 0 1000000 = true) : 0 ≤ shT n m 0 hs fa ∧ shT n m 0 hs fa ≤ n := by
  cases hs with
  | nil => exact ⟨by simp [shT], by simp [shT]; omega⟩
  | cons k l =>
    have m1 : 1 ≤ m := by rw [← hm]; simp
    have G := sh_good (m := m) (hs := k :: l) (i := 0) h0 h1 m1 h4 hk hp
    refine ⟨G.t0, ?_⟩
    have h := G.t1
    rw [Nat.zero_add, hm, Nums.sumTo_all n m m1 h0] at h
    show shT n m 0 (k :: l) fa ≤ n
    have e : Nums.sumTo n m 0 = 0 := rfl
    omega
set_option maxRecDepth 20000 in
set_option maxHeartbeats 8000000 in
theorem leavePurse_c (g base b0 : Nat) (p : WP) (t s : Int) (us : List K10) (fs : List K3) (fa : List KA) (se : List K4) (oo : List K2) (a : Int) (hs : List Int) (v : Value) (w : World) (hw : WS w base g p ⟨t, s, us, fs, fa, se, oo⟩) (hI : SlI w b0 v hs) (hb : base ≤ w.heap.size)
    (h4 : fa.length = 4) (hpur : ∀ f ∈ fa, inb f.c0 0 1000000 = true) (a0 : 0 ≤ a) (a3 : a ≤ 3) (hk : ∀ k ∈ hs, 0 ≤ k ∧ k ≤ 3) (hl : hs.length ≤ 4) (s0 : 0 ≤ s) (s1 : s ≤ 100000000) :
    Calls Tryz.prog 118 #[.pointer (some ⟨g, 0, none⟩), .int .i64 a, v] w fun e w' => e = .returned (.tuple #[]) ∧ WS w' base g p ⟨t, s + (purA fa a - shT (purA fa a) hs.length 0 hs fa), us, fs, shA (purA fa a) hs.length 0 hs fa, se, oo⟩ ∧ KT TP base w w' := by
  obtain ⟨y, hy⟩ : ∃ y, fa[a.toNat]? = some y := ⟨_, List.getElem?_eq_getElem (by omega)⟩
  have hn : purA fa a = y.c0 := pur_get hy
  obtain ⟨y0, y1⟩ := inb_i (hpur y (List.mem_of_getElem? hy))
  have hT := shT_bd y0 y1 (rfl : hs.length = hs.length) h4 hk hpur
  have hA := hw.o.a
  have hlA : 0 < fa.length := by omega
  obtain ⟨ga, hpa, hgb, hgl, hat, e9, hfz⟩ := hA.blk0 hlA
  have hA1 := hA
  rw [hpa] at hA1
  obtain ⟨csA, hbA⟩ := hA1.blk (q := ga) rfl
  obtain ⟨W, HW⟩ : ∃ W, Hid (W = w.alloc (.cells #[.pointer (some ⟨g, 0, none⟩)] 71)) := ⟨_, rfl⟩
  have B1 : Below w.heap.size w W := by rw [HW.out]; exact (Below.refl _ _).alloc (Nat.le_refl _) _
  have S1 : Blk W w.heap.size #[.pointer (some ⟨g, 0, none⟩)] 71 := by rw [HW.out]; exact Blk.new w _ _
  have hWz : W.heap.size = w.heap.size + 1 := by rw [HW.out, size_new]
  obtain ⟨W2, HW2⟩ : ∃ W2, Hid (W2 = W.alloc (.cells #[.int .i64 y.c0] 2)) := ⟨_, rfl⟩
  have B2 : Below W.heap.size W W2 := by rw [HW2.out]; exact (Below.refl _ _).alloc (Nat.le_refl _) _
  have R2 : Blk W2 (w.heap.size + 1) #[.int .i64 y.c0] 2 := by rw [HW2.out, ← hWz]; exact Blk.new W _ _
  have hW2z : W2.heap.size = w.heap.size + 2 := by rw [HW2.out, size_new]; omega
  have S2 := S1.below B2
  have B12 := B1.trans (B2.mono B1.size)
  have w1 := hw.later B1
  have b4 : W.cell? ⟨g, 4, none⟩ = some (.slice p.a fa.length p.ac) := w1.b.cell (i := 4) rfl
  have bl := w1.b.lt
  rw [hpa, h4] at b4
  obtain ⟨c0, c1, c2, cl⟩ := (hat.later hgl B1).one (Nat.lt_of_lt_of_le hgl B1.size) hy
  rw [Nat.zero_add] at c0 c1 c2
  have d0 : W.cell? ⟨w.heap.size, 0, none⟩ = some (.pointer (some ⟨g, 0, none⟩)) := S1.cell (i := 0) rfl
  have a4 : a < 4 := by omega
  have r0 : W2.cell? ⟨w.heap.size + 1, 0, none⟩ = some (.int .i64 y.c0) := R2.cell (i := 0) rfl
  have rl := R2.lt
  rw [hn]
  have HI : Hid (SlI w b0 v hs) := hI
  obtain ⟨vq, vc, rfl⟩ := SlI.form hI
  have K12 : KT TP base w W2 := (KT.refl _ _ _).step hb B12
  have hgw : g ≠ ga := bk_ne hw.b hbA (by decide)
  have Hw2 : Hid (WS W2 base g p ⟨t, s, us, fs, fa, se, oo⟩) := hw.later B12
  have HbA : Hid (Blk W2 ga csA 53) := hbA.below B12
  have HS2 : Hid (Blk W2 w.heap.size #[.pointer (some ⟨g, 0, none⟩)] 71) := S2
  have HR2 : Hid (Blk W2 (w.heap.size + 1) #[.int .i64 y.c0] 2) := R2
  have hbA' := hbA
  clear S1 S2 R2 B2 hn w1 hA hA1 e9 hfz hat hbA
  have hfld : ∀ (v1 v2 : Value) W, (Instr.field 45 (.agg #[v1, v2]) 1).run Tryz.prog W = .ok v2 W := fun v1 v2 W => by kernel_rfl
  by_cases hne : hs.length = 0
  · have he : hs = [] := List.eq_nil_of_length_eq_zero hne
    subst he
    have hz : shT y.c0 ([] : List Int).length 0 [] fa = 0 := rfl
    have hz2 : shA y.c0 ([] : List Int).length 0 [] fa = fa := rfl
    rw [hz, hz2, Int.sub_zero]
    have cS0 := implShareOf_no y.c0 0 W2 (by omega)
    have HF : Hid (∀ wc, WS wc base g p ⟨t, s, us, fs, fa, se, oo⟩ → KT TP base w wc → WS (wc.setCell ⟨g, 3, none⟩ (.int .i64 (s + y.c0))).drew base g p ⟨t, s + y.c0, us, fs, fa, se, oo⟩ ∧ KT TP base w (wc.setCell ⟨g, 3, none⟩ (.int .i64 (s + y.c0))).drew) := fun wc h k => ⟨(h.setS _).drew, (k.set h.b (by decide) h.bg 3 _).drew⟩
    clear hI hT hz hz2 hk hpur hy hlA HI hne c1 c2 hbA'
    simp only [List.length_nil] at *
    go_enter Tryz.func118, Tryz.ntmps118
    go_upto_region 1 with fail
    rw [← HW.out]
    go_upto_region 2 with fail
    rw [← HW2.out]
    go_wp2_with fail
    refine cS0.mono ?_
    rintro e w3 ⟨rfl, hw3⟩
    have b3 : Below W2.heap.size W2 w3 := by rw [hw3]; exact (Below.refl _ _).alloc (Nat.le_refl _) _
    clear hw3
    go_wp2_with fail
    refine (shareP_none vq 0 vc _ _).mono ?_
    rintro e w4 ⟨rfl, hw4⟩
    obtain rfl := hw4
    have K4 := K12.step (Nat.le_trans hb B12.size) b3
    have Hw4 := Hw2.out.later b3
    have HS4 := HS2.out.below b3
    have HR4 := HR2.out.below b3
    have e0 : w4.cell? ⟨w.heap.size, 0, none⟩ = some (.pointer (some ⟨g, 0, none⟩)) := HS4.cell (i := 0) rfl
    have e1 : w4.cell? ⟨g, 3, none⟩ = some (.int .i64 s) := Hw4.b.cell (i := 3) rfl
    have e2 : w4.cell? ⟨w.heap.size + 1, 0, none⟩ = some (.int .i64 y.c0) := HR4.cell (i := 0) rfl
    have e3 := Hw4.b.frozen 3
    have l0 := HS4.lt
    have l1 := Hw4.b.lt
    have l2 := HR4.lt
    obtain ⟨F1, F2⟩ := HF.out w4 Hw4 K4
    have hwr : IntKind.i64.wrap (s + y.c0) = s + y.c0 := by rw [IntKind.wrap_i64]; omega
    have HF1 : Hid _ := F1
    have HF2 : Hid _ := F2
    clear F1 F2 Hw4 K4 HF c0 d0 r0 rl bl cl b4 HS4 HR4
    go_upto_region 4 with fail
    go_region
    all_goals
      go_wp2_with fail
      go_end0
      exact ⟨rfl, HF1.out, HF2.out⟩
  · obtain ⟨m, Hm⟩ : ∃ m, Hid (hs.length = m) := ⟨_, rfl⟩
    rw [Hm.out] at hT hl hne ⊢
    rcases hI.read with ⟨_, he⟩ | ⟨qh, cap, hv, hqb, hql, hcell⟩
    · rw [he] at Hm; exact absurd Hm.out.symm (by simpa using hne)
    injection hv with v1 v2 v3
    subst v1 v3
    have m1 : 1 ≤ m := by omega
    obtain ⟨csH, hbH⟩ := hI.blkI (q := qh) rfl
    have hha : qh ≠ ga := bk_ne hbH hbA' (by decide)
    have cS1 := implShareOf_yes y.c0 m W2 y0 y1 m1 (by omega)
    obtain ⟨rt, Hrt⟩ : ∃ rt, Hid (rt = y.c0 - shT y.c0 m 0 hs fa) := ⟨_, rfl⟩
    have rt0 : 0 ≤ rt := by rw [Hrt.out]; omega
    have rt1 : rt ≤ 1000000 := by rw [Hrt.out]; omega
    rw [← Hrt.out]
    have cP := fun (qs cs : Nat) (w3 : World) (b3 : Below W2.heap.size W2 w3) (hq : W2.heap.size ≤ qs) (hL : Lst w3 qs cs (Nums.shTo y.c0 m m)) => shareP_c w.heap.size (w.heap.size + 1) g ga base qh qs vc cs p t s us fs fa se oo y.c0 m hs w3 (HS2.out.below b3) (HR2.out.below b3) (Hw2.out.later b3) hpa h4 hpur y0 y1 Hm.out m1 hl hk
      (fun i x h => by rw [b3.cell (show qh < W2.heap.size by omega), B12.cell (show qh < w.heap.size from hql)]; exact hcell i x h) (by have := b3.size; omega) hha (by omega) (fun i hi => hL.cell (Nums.shTo_get _ _ _ _ hi)) hL.lt (by omega) (by omega) (by omega) (by have := hw.b.lt; omega)
    rw [← Hrt.out] at cP
    have HF : Hid (∀ wc, WS wc base g p ⟨t, s, us, fs, shA y.c0 m 0 hs fa, se, oo⟩ → KT TP base w wc → WS (wc.setCell ⟨g, 3, none⟩ (.int .i64 (s + rt))).drew base g p ⟨t, s + rt, us, fs, shA y.c0 m 0 hs fa, se, oo⟩ ∧ KT TP base w (wc.setCell ⟨g, 3, none⟩ (.int .i64 (s + rt))).drew) := fun wc h k => ⟨(h.setS _).drew, (k.set h.b (by decide) h.bg 3 _).drew⟩
    generalize shA y.c0 m 0 hs fa = RA at cP HF ⊢
    clear hI hT hk hpur hy hlA HI hne c1 c2 Hrt hcell hbH hbA'
    have hm8 : (m : Int) ≤ 8 := by omega
    simp only [Hm.out] at *
    go_enter Tryz.func118, Tryz.ntmps118
    go_upto_region 1 with fail
    rw [← HW.out]
    go_upto_region 2 with fail
    rw [← HW2.out]
    go_wp2_with fail
    refine cS1.mono ?_
    rintro e w3 ⟨qs, cs, rfl, hq, hL, b3⟩
    have cP := cP qs cs w3 b3 hq hL
    go_wp2_with fail
    refine cP.mono ?_
    rintro e w4 ⟨rfl, Hw4, HR4, E⟩
    have hgs : w.heap.size ≠ ga := by omega
    have HS4 := E.at (HS2.out.below b3) hgs (by omega)
    have K4 : KT TP base w w4 := E.kt (K12.step (Nat.le_trans hb B12.size) b3) (HbA.out.below b3) (by decide) hgb hb (by omega)
    have e0 : w4.cell? ⟨w.heap.size, 0, none⟩ = some (.pointer (some ⟨g, 0, none⟩)) := HS4.cell (i := 0) rfl
    have e1 : w4.cell? ⟨g, 3, none⟩ = some (.int .i64 s) := Hw4.b.cell (i := 3) rfl
    have e2 : w4.cell? ⟨w.heap.size + 1, 0, none⟩ = some (.int .i64 rt) := HR4.cell (i := 0) rfl
    have e3 := Hw4.b.frozen 3
    have l0 := HS4.lt
    have l1 := Hw4.b.lt
    have l2 := HR4.lt
    obtain ⟨F1, F2⟩ := HF.out w4 Hw4 K4
    have hwr : IntKind.i64.wrap (s + rt) = s + rt := by rw [IntKind.wrap_i64]; omega
    have HF1 : Hid _ := F1
    have HF2 : Hid _ := F2
    clear F1 F2 Hw4 K4 HF c0 d0 r0 rl bl cl b4 HS4 HR4
    go_upto_region 4 with fail
    go_region
    all_goals
      go_wp2_with fail
      go_end0
      exact ⟨rfl, HF1.out, HF2.out⟩
end Go.Proofs.YthopodopedbooaaGreat
end

/- HandImpl -/
/- The contracts of withoutJob and handedTo (as in GiveImpl). No condition. -/
section
namespace Go.Proofs.YthopodopedbooaaGreat
open Go.ChangeShapes Go.WideShapes Go.ChangeAt Go.RowKit
open Bd
set_option linter.unusedVariables false

theorem set10_blk {W : World} {g : Nat} {y : K10} {t : TypeId} (R : Blk W g y.v t) (x : K10) : Blk (set10 W g x) g x.v t := by
  have s0 : Blk _ g #[.int .i64 x.c0, .int .i64 y.c1, .int .i64 y.c2, .int .i64 y.c3, .int .i64 y.c4, .int .i64 y.c5, .int .i64 y.c6, .int .i64 y.c7, .int .i64 y.c8, .int .i64 y.c9] t := R.set 0 (.int .i64 x.c0)
  have s1 : Blk _ g #[.int .i64 x.c0, .int .i64 x.c1, .int .i64 y.c2, .int .i64 y.c3, .int .i64 y.c4, .int .i64 y.c5, .int .i64 y.c6, .int .i64 y.c7, .int .i64 y.c8, .int .i64 y.c9] t := s0.set 1 (.int .i64 x.c1)
  have s2 : Blk _ g #[.int .i64 x.c0, .int .i64 x.c1, .int .i64 x.c2, .int .i64 y.c3, .int .i64 y.c4, .int .i64 y.c5, .int .i64 y.c6, .int .i64 y.c7, .int .i64 y.c8, .int .i64 y.c9] t := s1.set 2 (.int .i64 x.c2)
  have s3 : Blk _ g #[.int .i64 x.c0, .int .i64 x.c1, .int .i64 x.c2, .int .i64 x.c3, .int .i64 y.c4, .int .i64 y.c5, .int .i64 y.c6, .int .i64 y.c7, .int .i64 y.c8, .int .i64 y.c9] t := s2.set 3 (.int .i64 x.c3)
  have s4 : Blk _ g #[.int .i64 x.c0, .int .i64 x.c1, .int .i64 x.c2, .int .i64 x.c3, .int .i64 x.c4, .int .i64 y.c5, .int .i64 y.c6, .int .i64 y.c7, .int .i64 y.c8, .int .i64 y.c9] t := s3.set 4 (.int .i64 x.c4)
  have s5 : Blk _ g #[.int .i64 x.c0, .int .i64 x.c1, .int .i64 x.c2, .int .i64 x.c3, .int .i64 x.c4, .int .i64 x.c5, .int .i64 y.c6, .int .i64 y.c7, .int .i64 y.c8, .int .i64 y.c9] t := s4.set 5 (.int .i64 x.c5)
  have s6 : Blk _ g #[.int .i64 x.c0, .int .i64 x.c1, .int .i64 x.c2, .int .i64 x.c3, .int .i64 x.c4, .int .i64 x.c5, .int .i64 x.c6, .int .i64 y.c7, .int .i64 y.c8, .int .i64 y.c9] t := s5.set 6 (.int .i64 x.c6)
  have s7 : Blk _ g #[.int .i64 x.c0, .int .i64 x.c1, .int .i64 x.c2, .int .i64 x.c3, .int .i64 x.c4, .int .i64 x.c5, .int .i64 x.c6, .int .i64 x.c7, .int .i64 y.c8, .int .i64 y.c9] t := s6.set 7 (.int .i64 x.c7)
  have s8 : Blk _ g #[.int .i64 x.c0, .int .i64 x.c1, .int .i64 x.c2, .int .i64 x.c3, .int .i64 x.c4, .int .i64 x.c5, .int .i64 x.c6, .int .i64 x.c7, .int .i64 x.c8, .int .i64 y.c9] t := s7.set 8 (.int .i64 x.c8)
  have s9 : Blk _ g #[.int .i64 x.c0, .int .i64 x.c1, .int .i64 x.c2, .int .i64 x.c3, .int .i64 x.c4, .int .i64 x.c5, .int .i64 x.c6, .int .i64 x.c7, .int .i64 x.c8, .int .i64 x.c9] t := s8.set 9 (.int .i64 x.c9)
  exact s9
theorem set10_below {n : Nat} {w W : World} {g : Nat} (h : Below n w W) (hg : n ≤ g) (x : K10) : Below n w (set10 W g x) :=
  (bel_set (bel_set (bel_set (bel_set (bel_set (bel_set (bel_set (bel_set (bel_set (bel_set h g 0 hg (.int .i64 x.c0)) g 1 hg (.int .i64 x.c1)) g 2 hg (.int .i64 x.c2)) g 3 hg (.int .i64 x.c3)) g 4 hg (.int .i64 x.c4)) g 5 hg (.int .i64 x.c5)) g 6 hg (.int .i64 x.c6)) g 7 hg (.int .i64 x.c7)) g 8 hg (.int .i64 x.c8)) g 9 hg (.int .i64 x.c9))
theorem set10_other {W : World} {g q : Nat} {cs : Array Value} {t : TypeId} (h : Blk W q cs t) (hq : q ≠ g) (x : K10) : Blk (set10 W g x) q cs t :=
  ((((((((((h.setOther (a := ⟨g, 0, none⟩) hq _).setOther (a := ⟨g, 1, none⟩) hq _).setOther (a := ⟨g, 2, none⟩) hq _).setOther (a := ⟨g, 3, none⟩) hq _).setOther (a := ⟨g, 4, none⟩) hq _).setOther (a := ⟨g, 5, none⟩) hq _).setOther (a := ⟨g, 6, none⟩) hq _).setOther (a := ⟨g, 7, none⟩) hq _).setOther (a := ⟨g, 8, none⟩) hq _).setOther (a := ⟨g, 9, none⟩) hq _)
set_option maxRecDepth 20000 in
set_option maxHeartbeats 8000000 in
theorem withoutJob_g (u : K10) (w : World) :
    Calls Tryz.prog 175 #[.agg u.v] w fun e w' => e = .returned (.agg (idle u).v) ∧ Below w.heap.size w w' := by
  obtain ⟨W1, HW1⟩ : ∃ W1, Hid (W1 = (w.alloc (.cells u.v 105)).alloc (.cells #[.int .i64 0, .int .i64 0, .int .i64 0, .int .i64 0, .int .i64 0, .int .i64 0, .int .i64 0, .int .i64 0, .int .i64 0, .int .i64 0] 105)) := ⟨_, rfl⟩
  have B1 : Below w.heap.size w W1 := by rw [HW1.out]; exact ((Below.refl _ _).alloc (Nat.le_refl _) _).alloc (by rw [size_new]; omega) _
  have P : Blk W1 w.heap.size u.v 105 := by rw [HW1.out]; have h := Bk.new w u.v 105; exact (h.alloc _)
  have R : Blk W1 (w.heap.size + 1) K10.z.v 105 := by rw [HW1.out]; have h := Blk.new (w.alloc (.cells u.v 105)) K10.z.v 105; rw [size_new] at h; exact h
  obtain ⟨W2, HW2⟩ : ∃ W2, Hid (W2 = (((W1.setCell ⟨w.heap.size, 6, none⟩ (.int .i64 0)).setCell ⟨w.heap.size, 7, none⟩ (.int .i64 0)).setCell ⟨w.heap.size, 8, none⟩ (.int .i64 0)).setCell ⟨w.heap.size, 9, none⟩ (.int .i64 0)) := ⟨_, rfl⟩
  have hne : w.heap.size + 1 ≠ w.heap.size := by omega
  have P2 : Blk W2 w.heap.size (idle u).v 105 := by
    rw [HW2.out]
    have q6 : Blk _ w.heap.size #[.int .i64 u.c0, .int .i64 u.c1, .int .i64 u.c2, .int .i64 u.c3, .int .i64 u.c4, .int .i64 u.c5, .int .i64 0, .int .i64 u.c7, .int .i64 u.c8, .int .i64 u.c9] 105 := P.set 6 (.int .i64 0)
    have q7 : Blk _ w.heap.size #[.int .i64 u.c0, .int .i64 u.c1, .int .i64 u.c2, .int .i64 u.c3, .int .i64 u.c4, .int .i64 u.c5, .int .i64 0, .int .i64 0, .int .i64 u.c8, .int .i64 u.c9] 105 := q6.set 7 (.int .i64 0)
    have q8 : Blk _ w.heap.size #[.int .i64 u.c0, .int .i64 u.c1, .int .i64 u.c2, .int .i64 u.c3, .int .i64 u.c4, .int .i64 u.c5, .int .i64 0, .int .i64 0, .int .i64 0, .int .i64 u.c9] 105 := q7.set 8 (.int .i64 0)
    have q9 : Blk _ w.heap.size #[.int .i64 u.c0, .int .i64 u.c1, .int .i64 u.c2, .int .i64 u.c3, .int .i64 u.c4, .int .i64 u.c5, .int .i64 0, .int .i64 0, .int .i64 0, .int .i64 0] 105 := q8.set 9 (.int .i64 0)
    exact q9
  have R2 : Blk W2 (w.heap.size + 1) K10.z.v 105 := by rw [HW2.out]; exact (((R.setOther (a := ⟨w.heap.size, 6, none⟩) hne _).setOther (a := ⟨w.heap.size, 7, none⟩) hne _).setOther (a := ⟨w.heap.size, 8, none⟩) hne _).setOther (a := ⟨w.heap.size, 9, none⟩) hne _
  have B2 : Below w.heap.size w W2 := by rw [HW2.out]; exact bel_set (bel_set (bel_set (bel_set B1 _ _ (Nat.le_refl _) _) _ _ (Nat.le_refl _) _) _ _ (Nat.le_refl _) _) _ _ (Nat.le_refl _) _
  have R3 := set10_blk R2 (idle u)
  have B3 := set10_below B2 (show w.heap.size ≤ w.heap.size + 1 by omega) (idle u)
  have z6 := P.frozen 6
  have z7 := P.frozen 7
  have z8 := P.frozen 8
  have z9 := P.frozen 9
  obtain ⟨s0, s1, s2, s3, s4, s5, s6, s7, s8, s9, sl⟩ := P.unit
  clear B1 R
  go_enter Tryz.func175, Tryz.ntmps175
  go_upto_region 1 with fail
  rw [← HW1.out]
  go_upto_region 2 with fail
  rw [← HW2.out]
  clear s0 s1 s2 s3 s4 s5 s6 s7 s8 s9 sl z6 z7 z8 z9
  obtain ⟨s0, s1, s2, s3, s4, s5, s6, s7, s8, s9, sl⟩ := P2.unit
  have y0 := R2.frozen 0
  have y1 := R2.frozen 1
  have y2 := R2.frozen 2
  have y3 := R2.frozen 3
  have y4 := R2.frozen 4
  have y5 := R2.frozen 5
  have y6 := R2.frozen 6
  have y7 := R2.frozen 7
  have y8 := R2.frozen 8
  have y9 := R2.frozen 9
  obtain ⟨d0, d1, d2, d3, d4, d5, d6, d7, d8, d9, dl⟩ := R2.unit
  go_wp2_with fail
  exact bodyPost_ret (v := .agg (idle u).v) (resultU Tryz.results175 R3 _ rfl) rfl ⟨rfl, B3⟩
set_option maxRecDepth 20000 in
set_option maxHeartbeats 8000000 in
theorem handedTo_c (o : Int) (u : K10) (w : World) :
    Calls Tryz.prog 163 #[.int .i64 o, .agg u.v] w fun e w' => e = .returned (.agg (handed u o).v) ∧ Below w.heap.size w w' := by
  obtain ⟨W1, HW1⟩ : ∃ W1, Hid (W1 = (w.alloc (.cells u.v 105)).alloc (.cells #[.int .i64 0, .int .i64 0, .int .i64 0, .int .i64 0, .int .i64 0, .int .i64 0, .int .i64 0, .int .i64 0, .int .i64 0, .int .i64 0] 105)) := ⟨_, rfl⟩
  have B1 : Below w.heap.size w W1 := by rw [HW1.out]; exact ((Below.refl _ _).alloc (Nat.le_refl _) _).alloc (by rw [size_new]; omega) _
  have P : Blk W1 w.heap.size u.v 105 := by rw [HW1.out]; have h := Bk.new w u.v 105; exact (h.alloc _)
  have R : Blk W1 (w.heap.size + 1) K10.z.v 105 := by rw [HW1.out]; have h := Blk.new (w.alloc (.cells u.v 105)) K10.z.v 105; rw [size_new] at h; exact h
  have cW := withoutJob_g u W1
  have hne : w.heap.size + 1 ≠ w.heap.size := by omega
  obtain ⟨s0, s1, s2, s3, s4, s5, s6, s7, s8, s9, sl⟩ := P.unit
  go_enter Tryz.func163, Tryz.ntmps163
  go_upto_region 1 with fail
  rw [← HW1.out]
  go_wp2_with fail
  refine cW.mono ?_
  rintro e w1 ⟨rfl, k1⟩
  have P1 := P.below k1
  have R1 := R.below k1
  have B2 := B1.trans (k1.mono B1.size)
  clear s0 s1 s2 s3 s4 s5 s6 s7 s8 s9 sl cW
  obtain ⟨W2, HW2⟩ : ∃ W2, Hid (W2 = ((((((((((w1.setCell ⟨w.heap.size, 0, none⟩ (.int .i64 (idle u).c0)).setCell ⟨w.heap.size, 1, none⟩ (.int .i64 (idle u).c1)).setCell ⟨w.heap.size, 2, none⟩ (.int .i64 (idle u).c2)).setCell ⟨w.heap.size, 3, none⟩ (.int .i64 (idle u).c3)).setCell ⟨w.heap.size, 4, none⟩ (.int .i64 (idle u).c4)).setCell ⟨w.heap.size, 5, none⟩ (.int .i64 (idle u).c5)).setCell ⟨w.heap.size, 6, none⟩ (.int .i64 (idle u).c6)).setCell ⟨w.heap.size, 7, none⟩ (.int .i64 (idle u).c7)).setCell ⟨w.heap.size, 8, none⟩ (.int .i64 (idle u).c8)).setCell ⟨w.heap.size, 9, none⟩ (.int .i64 (idle u).c9))) := ⟨_, rfl⟩
  have P2 : Blk W2 w.heap.size (idle u).v 105 := by rw [HW2.out]; exact set10_blk P1 (idle u)
  have R2 : Blk W2 (w.heap.size + 1) K10.z.v 105 := by rw [HW2.out]; exact set10_other R1 hne (idle u)
  have B3 : Below w.heap.size w W2 := by rw [HW2.out]; exact set10_below B2 (Nat.le_refl _) (idle u)
  obtain ⟨W3, HW3⟩ : ∃ W3, Hid (W3 = W2.setCell ⟨w.heap.size, 1, none⟩ (.int .i64 o)) := ⟨_, rfl⟩
  have P3 : Blk W3 w.heap.size (handed u o).v 105 := by
    rw [HW3.out]
    have q1 : Blk _ w.heap.size #[.int .i64 u.c0, .int .i64 o, .int .i64 u.c2, .int .i64 u.c3, .int .i64 u.c4, .int .i64 u.c5, .int .i64 0, .int .i64 0, .int .i64 0, .int .i64 0] 105 := P2.set 1 (.int .i64 o)
    exact q1
  have R3 : Blk W3 (w.heap.size + 1) K10.z.v 105 := by rw [HW3.out]; exact R2.setOther (a := ⟨w.heap.size, 1, none⟩) hne _
  have B4 : Below w.heap.size w W3 := by rw [HW3.out]; exact bel_set B3 _ _ (Nat.le_refl _) _
  have R4 := set10_blk R3 (handed u o)
  have B5 := set10_below B4 (show w.heap.size ≤ w.heap.size + 1 by omega) (handed u o)
  obtain ⟨s0, s1, s2, s3, s4, s5, s6, s7, s8, s9, sl⟩ := P1.unit
  have z0 := P1.frozen 0
  have z1 := P1.frozen 1
  have z2 := P1.frozen 2
  have z3 := P1.frozen 3
  have z4 := P1.frozen 4
  have z5 := P1.frozen 5
  have z6 := P1.frozen 6
  have z7 := P1.frozen 7
  have z8 := P1.frozen 8
  have z9 := P1.frozen 9
  go_upto_region 2 with fail
  rw [← HW2.out]
  clear s0 s1 s2 s3 s4 s5 s6 s7 s8 s9 sl z0 z1 z2 z3 z4 z5 z6 z7 z8 z9
  obtain ⟨s0, s1, s2, s3, s4, s5, s6, s7, s8, s9, sl⟩ := P2.unit
  have z0 := P2.frozen 0
  have z1 := P2.frozen 1
  have z2 := P2.frozen 2
  have z3 := P2.frozen 3
  have z4 := P2.frozen 4
  have z5 := P2.frozen 5
  have z6 := P2.frozen 6
  have z7 := P2.frozen 7
  have z8 := P2.frozen 8
  have z9 := P2.frozen 9
  go_upto_region 3 with fail
  rw [← HW3.out]
  clear s0 s1 s2 s3 s4 s5 s6 s7 s8 s9 sl z0 z1 z2 z3 z4 z5 z6 z7 z8 z9
  obtain ⟨s0, s1, s2, s3, s4, s5, s6, s7, s8, s9, sl⟩ := P3.unit
  have y0 := R3.frozen 0
  have y1 := R3.frozen 1
  have y2 := R3.frozen 2
  have y3 := R3.frozen 3
  have y4 := R3.frozen 4
  have y5 := R3.frozen 5
  have y6 := R3.frozen 6
  have y7 := R3.frozen 7
  have y8 := R3.frozen 8
  have y9 := R3.frozen 9
  obtain ⟨d0, d1, d2, d3, d4, d5, d6, d7, d8, d9, dl⟩ := R3.unit
  go_wp2_with fail
  exact bodyPost_ret (v := .agg (handed u o).v) (resultU Tryz.results163 R4 _ rfl) rfl ⟨rfl, B5⟩
end Go.Proofs.YthopodopedbooaaGreat
end
