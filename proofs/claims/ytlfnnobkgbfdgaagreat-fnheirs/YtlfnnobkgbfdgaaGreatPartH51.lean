/- Texts of mine put together (a claim holds at most 60 files): WldDraws6, WfSame, SameBI, SameWI, LawBoards0. -/
import Derived.Test.YtlfnnobkgbfdgaaGreatPartH42
import Derived.Deep.CutRange
import Derived.Test.YtlfnnobkgbfdgaaGreatPartH10
import Derived.Test.YtlfnnobkgbfdgaaGreatPartH12
import Derived.Test.YtlfnnobkgbfdgaaGreatPartH06
import Derived.Test.YtlfnnobkgbfdgaaGreatPartH13
import Derived.Test.YtlfnnobkgbfdgaaGreatPartH01
import Derived.Test.YtlfnnobkgbfdgaaGreatPartH25

/- WldDraws6 -/
/- Contracts of the draws of pacts and gifts. Condition: the code has at most 1048576 bytes, which can be read. -/
section
namespace Go.Proofs.YtlfnnobkgbfdgaaGreat
open Go.ChangeShapes Go.WideShapes Go.ChangeAt Go.RowKit
open Bd
set_option linter.unusedVariables false

abbrev st7 (W : World) (rb : Nat) (p : WP) (x : KW) : World := set7 W rb (.int .i64 x.t) (.int .i64 x.s) (.slice p.u x.us.length p.uc) (.slice p.f x.fs.length p.fc) (.slice p.a x.fa.length p.ac) (.slice p.s x.se.length p.sc) (.slice p.o x.oo.length p.oc)
theorem fill7 {W : World} {rb base : Nat} {p : WP} {x : KW} (R : Blk W rb zW 32) (h : OwW W base p x) {n0 : Nat} {v : World} (hb : Below n0 v W) (hn : n0 ≤ rb) (hn2 : n0 ≤ base) : Blk (st7 W rb p x) rb (p.v x) 32 ∧ OwW (st7 W rb p x) n0 p x ∧ Below n0 v (st7 W rb p x) :=
  ⟨set7_blk R _ _ _ _ _ _ _, (h.of_block R (by decide) (by decide) (by decide) (by decide) (by decide) (set7_other _ _ _ _ _ _ _)).mono hn2, set7_below hb hn _ _ _ _ _ _ _⟩
set_option maxRecDepth 20000 in
set_option maxHeartbeats 8000000 in
theorem drawLeaveSide_c (w : World) (a0 : Option Addr) (len cap : Nat) (hb : Bytes w a0 len w.heap.size) (hl : len ≤ 1048576) :
    Calls Tryz.prog 5 #[.slice a0 len cap] w fun e w' => ∃ p x i, e = .returned (.tuple #[.agg (WP.v p x), .int .i64 i]) ∧ OwW w' w.heap.size p x ∧ DW x ∧ Below w.heap.size w w' := by
  obtain ⟨W1, HW1⟩ : ∃ W1, Hid (W1 = w.alloc (.cells zW 32)) := ⟨_, rfl⟩
  have A0 : Below w.heap.size w W1 := by rw [HW1.out]; exact (Below.refl _ _).alloc (Nat.le_refl _) _
  have R0 : Blk W1 w.heap.size zW 32 := by rw [HW1.out]; exact Blk.new w zW 32
  have cD := l7Draw_c W1 a0 len cap (hb.later A0) hl
  have hs1 := A0.size
  clear hb hl
  go_enter Tryz.func5, Tryz.ntmps5
  go_upto_region 1 with fail
  rw [← HW1.out]
  go_wp2_with fail
  refine cD.mono ?_
  rintro e w2 ⟨p, x, i, j, rfl, O2, dw, B2⟩
  obtain ⟨t, s, us, fs, fa, se, oo⟩ := x
  obtain ⟨u, uc, f, fc, a, ac, q, qc, r, rc⟩ := p
  obtain ⟨W3, HW3⟩ : ∃ W3, Hid (W3 = w2.alloc (.cells (wv t s u us.length uc f fs.length fc a fa.length ac q se.length qc r oo.length rc) 32)) := ⟨_, rfl⟩
  have B3 : Below w2.heap.size w2 W3 := by rw [HW3.out]; exact (Below.refl _ _).alloc (Nat.le_refl _) _
  have G3 : Blk W3 w2.heap.size (wv t s u us.length uc f fs.length fc a fa.length ac q se.length qc r oo.length rc) 32 := by rw [HW3.out]; exact Blk.new w2 _ _
  have R2 := (R0.below B2).below B3
  obtain ⟨F1, F2, F3⟩ := fill7 (v := w) (n0 := w.heap.size) R2 (O2.later B3) (A0.trans ((B2.trans (B3.mono B2.size)).mono hs1)) (Nat.le_refl _) hs1
  obtain ⟨y0, y1, y2, y3, y4, y5, y6, z0, z1, z2, z3, z4, z5, z6, rl⟩ := R2.z7
  obtain ⟨q0, q1, q2, q3, q4, q5, q6, ql⟩ := G3.c7
  go_upto_region 2 with fail
  rw [← HW3.out]
  go_wp2_with fail
  obtain ⟨c0, c1, c2, c3, c4, c5, c6, cl⟩ := F1.c7
  refine bodyPost_ret (v := .tuple #[.agg (wv t s u us.length uc f fs.length fc a fa.length ac q se.length qc r oo.length rc), .int .i64 i]) ?_ rfl ⟨⟨u, uc, f, fc, a, ac, q, qc, r, rc⟩, ⟨t, s, us, fs, fa, se, oo⟩, i, rfl, F2, dw, F3⟩
  simp [results, Tryz.results5, go_sem, c0, c1, c2, c3, c4, c5, c6]
  done
end Go.Proofs.YtlfnnobkgbfdgaaGreat
end

/- WfSame -/
/- Plain facts: the program and the model tell the same of a world whose Allies are from 0 to 31. No condition. -/
section
namespace Go.Proofs.YtlfnnobkgbfdgaaGreat
open Bd
set_option linter.unusedVariables false

theorem has32 {m : Int} (h0 : 0 ≤ m) (h1 : m < 32) (b : Int) : hasI m b = hasS m b := has_eq m b h0 (by omega)
theorem alB32 {m i : Int} (m0 : 0 ≤ m) (m1 : m < 32) : ∀ {k : Int} {l : List KA}, (∀ g ∈ l, 0 ≤ g.c2 ∧ g.c2 < 32) → alB hasI m i k l = alB hasS m i k l
  | _, [], _ => rfl
  | k, g :: l, h => by
    have hg := h g (by simp)
    unfold alB
    rw [has32 m0 m1, has32 hg.1 hg.2, alB32 m0 m1 (fun x hx => h x (List.mem_cons_of_mem _ hx))]
theorem faF32 {fa : List KA} (hfa : ∀ f ∈ fa, 0 ≤ f.c2 ∧ f.c2 < 32) : ∀ {l : List KA} {i : Int}, (∀ f ∈ l, 0 ≤ f.c2 ∧ f.c2 < 32) → faF hasI fa i l = faF hasS fa i l
  | [], _, _ => rfl
  | a :: l, i, h => by
    have ha := h a (by simp)
    have e : faC hasI fa i a = faC hasS fa i a := by unfold faC; rw [alB32 ha.1 ha.2 hfa]
    unfold faF
    rw [e, faF32 hfa (fun x hx => h x (List.mem_cons_of_mem _ hx))]
theorem ally32 {fa : List KA} (hfa : ∀ f ∈ fa, 0 ≤ f.c2 ∧ f.c2 < 32) (i : Int) : 0 ≤ allyA fa i ∧ allyA fa i < 32 := by
  unfold allyA
  rw [List.getD_eq_getElem?_getD]
  cases hh : fa[i.toNat]? with
  | none => exact ⟨by decide, by decide⟩
  | some g => exact hfa g (List.mem_of_getElem? hh)
theorem ofF32 {fa : List KA} (hfa : ∀ f ∈ fa, 0 ≤ f.c2 ∧ f.c2 < 32) : ∀ {l q : List K2}, ofF hasI fa q l = ofF hasS fa q l
  | [], _ => rfl
  | x :: l, q => by
    have hx := ally32 hfa x.c0
    have e : ofB hasI fa q x = ofB hasS fa q x := by unfold ofB; rw [has32 hx.1 hx.2]
    unfold ofF
    rw [e, ofF32 hfa]
theorem wf32 {x : KW} (hfa : ∀ f ∈ x.fa, 0 ≤ f.c2 ∧ f.c2 < 32) : wf hasI x = wf hasS x := by
  unfold wf
  rw [faF32 hfa hfa, ofF32 hfa]
theorem DW.wf {x : KW} (h : DW x) : Go.Proofs.YtlfnnobkgbfdgaaGreat.wf hasI x = Go.Proofs.YtlfnnobkgbfdgaaGreat.wf hasS x := wf32 h.a.p
theorem DW.prF {x : KW} (h : DW x) (a b : Int) : Go.Proofs.YtlfnnobkgbfdgaaGreat.prF hasI x a b = Go.Proofs.YtlfnnobkgbfdgaaGreat.prF hasS x a b := by unfold Go.Proofs.YtlfnnobkgbfdgaaGreat.prF; rw [h.wf]
theorem DW.payC {x : KW} (h : DW x) (a b n : Int) : Go.Proofs.YtlfnnobkgbfdgaaGreat.payC hasI x a b n = Go.Proofs.YtlfnnobkgbfdgaaGreat.payC hasS x a b n := by unfold Go.Proofs.YtlfnnobkgbfdgaaGreat.payC; rw [h.prF]
theorem DW.payX {x : KW} (h : DW x) (a b n : Int) : Go.Proofs.YtlfnnobkgbfdgaaGreat.payX hasI x a b n = Go.Proofs.YtlfnnobkgbfdgaaGreat.payX hasS x a b n := by unfold Go.Proofs.YtlfnnobkgbfdgaaGreat.payX; rw [h.payC]
end Go.Proofs.YtlfnnobkgbfdgaaGreat
end

/- SameBI -/
/- The contract of SameBoards at two boards that have the same, whose lists may be nil. Condition: the lists are short. -/
section
namespace Go.Proofs.YtlfnnobkgbfdgaaGreat
open Go.ChangeShapes Go.WideShapes Go.ChangeAt Go.RowKit
open Bd
set_option linter.unusedVariables false

theorem ArgU.drewN' {w : World} {a : Option Addr} {l : List K10} (h : ArgU w a l) (n : Nat) : ArgU (w.drewN n) a l := h.later (below_drewN _ _)
theorem ArgF.drewN' {w : World} {a : Option Addr} {l : List K3} (h : ArgF w a l) (n : Nat) : ArgF (w.drewN n) a l := h.later (below_drewN _ _)
set_option maxHeartbeats 2000000 in
theorem eqU_same (w : World) (a1 a2 : Option Addr) (m c1 c2 : Nat) (l : List K10) (hl : l.length = m) (hm : m ≤ 1000) (h1 : ArgU w a1 l) (h2 : ArgU w a2 l) :
    Calls Tryz.prog 78 #[.slice a1 m c1, .slice a2 m c2] w fun e w' => e = .returned (.bool true) ∧ ∃ nq, w' = w.drewN nq := by
  have H1 : Hid (ArgU w a1 l) := h1
  have H2 : Hid (ArgU w a2 l) := h2
  have Hl : Hid (l.length = m) := hl
  clear h1 h2 hl
  go_enter Tryz.func78, Tryz.ntmps78
  go_wp2
  go_loopw [13] (fun i wr => ∃ k : Nat, k ≤ m ∧ i = .int .i64 k ∧ ∃ nq, wr = w.drewN nq) (fun i _ => m - (intOf i).toNat)
  case atStart => exact ⟨0, Nat.zero_le _, rfl, 0, rfl⟩
  case round =>
    obtain ⟨k, hk, rfl, nq0, rfl⟩ := hrel
    by_cases hlt : k < m
    · have hlt' : (k : Int) < (m : Int) := by omega
      obtain ⟨x, hx⟩ : ∃ x, l[k]? = some x := ⟨_, List.getElem?_eq_getElem (by have := Hl.out; omega)⟩
      obtain ⟨b, off, rfl, hb, hat⟩ := H1.out.at hx
      obtain ⟨b', off', rfl, hb', hat'⟩ := H2.out.at hx
      obtain ⟨a0, a1, a2, a3, a4, a5, a6, a7, a8, a9⟩ := hat.all hx
      obtain ⟨b0, b1, b2, b3, b4, b5, b6, b7, b8, b9⟩ := hat'.all hx
      have hne := neqU x x
      rw [K10.b_self] at hne
      clear hx hat hat'
      go_wp2
      go_quiet (fail)
      go_wp2
      go_roundw
      case rel => first | exact ⟨k + 1, by omega, by go_num, _, rfl⟩ | exact ⟨k + 1, by omega, by go_num, _, drewN_trans _ _ _⟩
      case measure => simp [intOf]; omega
    · obtain rfl : k = m := by omega
      go_wp2
      go_ret
      exact ⟨rfl, nq0, rfl⟩
set_option maxHeartbeats 2000000 in
theorem eqF_same (w : World) (a1 a2 : Option Addr) (m c1 c2 : Nat) (l : List K3) (hl : l.length = m) (hm : m ≤ 1000) (h1 : ArgF w a1 l) (h2 : ArgF w a2 l) :
    Calls Tryz.prog 79 #[.slice a1 m c1, .slice a2 m c2] w fun e w' => e = .returned (.bool true) ∧ ∃ nq, w' = w.drewN nq := by
  have H1 : Hid (ArgF w a1 l) := h1
  have H2 : Hid (ArgF w a2 l) := h2
  have Hl : Hid (l.length = m) := hl
  clear h1 h2 hl
  go_enter Tryz.func79, Tryz.ntmps79
  go_wp2
  go_loopw [13] (fun i wr => ∃ k : Nat, k ≤ m ∧ i = .int .i64 k ∧ ∃ nq, wr = w.drewN nq) (fun i _ => m - (intOf i).toNat)
  case atStart => exact ⟨0, Nat.zero_le _, rfl, 0, rfl⟩
  case round =>
    obtain ⟨k, hk, rfl, nq0, rfl⟩ := hrel
    by_cases hlt : k < m
    · have hlt' : (k : Int) < (m : Int) := by omega
      obtain ⟨x, hx⟩ : ∃ x, l[k]? = some x := ⟨_, List.getElem?_eq_getElem (by have := Hl.out; omega)⟩
      obtain ⟨b, off, rfl, hb, hat⟩ := H1.out.at hx
      obtain ⟨b', off', rfl, hb', hat'⟩ := H2.out.at hx
      obtain ⟨a0, a1, a2⟩ := hat.all hx
      obtain ⟨b0, b1, b2⟩ := hat'.all hx
      have hne := neqF x x
      rw [K3.b_self] at hne
      clear hx hat hat'
      go_wp2
      go_quiet (fail)
      go_wp2
      go_roundw
      case rel => first | exact ⟨k + 1, by omega, by go_num, _, rfl⟩ | exact ⟨k + 1, by omega, by go_num, _, drewN_trans _ _ _⟩
      case measure => simp [intOf]; omega
    · obtain rfl : k = m := by omega
      go_wp2
      go_ret
      exact ⟨rfl, nq0, rfl⟩
set_option maxHeartbeats 4000000 in
theorem sameB_in (w : World) (a1 a1' a2 a2' : Option Addr) (m m' c1 c1' c2 c2' : Nat) (us : List K10) (fs : List K3) (hl : us.length = m) (hl' : fs.length = m') (hm : m ≤ 1000) (hm' : m' ≤ 1000) (u1 : ArgU w a1 us) (f1 : ArgF w a1' fs) (u2 : ArgU w a2 us) (f2 : ArgF w a2' fs) :
    Calls Tryz.prog 35 #[.agg (brdV a1 m c1 a1' m' c1'), .agg (brdV a2 m c2 a2' m' c2')] w fun e w' => e = .returned (.bool true) ∧ Below w.heap.size w w' := by
  have B1 : Below w.heap.size w (w.alloc (.cells (brdV a1 m c1 a1' m' c1') 27)) := (Below.refl _ _).alloc (Nat.le_refl _) _
  obtain ⟨W2, HW2⟩ : ∃ W2, Hid (W2 = (w.alloc (.cells (brdV a1 m c1 a1' m' c1') 27)).alloc (.cells (brdV a2 m c2 a2' m' c2') 27)) := ⟨_, rfl⟩
  have B2 : Below w.heap.size w W2 := by rw [HW2.out]; exact B1.alloc (by rw [size_new]; omega) _
  have r0 : W2.rowIs w.heap.size 27 2 (fun i => if i = 0 then .slice a1 m c1 else .slice a1' m' c1') := by
    rw [HW2.out]
    have r := rowTwo w (.slice a1 m c1) (.slice a1' m' c1') 27
    exact r.of_block (((Below.refl _ _).alloc (Nat.le_refl _) _).block _ r.lt)
  have r1 : W2.rowIs (w.heap.size + 1) 27 2 (fun i => if i = 0 then .slice a2 m c2 else .slice a2' m' c2') := by
    rw [HW2.out]
    have r := rowTwo (w.alloc (.cells (brdV a1 m c1 a1' m' c1') 27)) (.slice a2 m c2) (.slice a2' m' c2') 27
    rw [size_new] at r
    exact r
  have cU := eqU_same W2 a1 a2 m c1 c2 us hl hm (u1.later B2) (u2.later B2)
  have cF := fun nq => eqF_same (W2.drewN nq) a1' a2' m' c1' c2' fs hl' hm' ((f1.later B2).drewN' nq) ((f2.later B2).drewN' nq)
  obtain ⟨p0, p1, pl⟩ := row_brd r0
  obtain ⟨q0, q1, ql⟩ := row_brd r1
  clear u1 f1 u2 f2 B1
  go_enter Tryz.func35, Tryz.ntmps35
  go_upto_region 1 with fail
  rw [← HW2.out]
  go_wp2_with fail
  refine cU.mono ?_
  rintro e w1 ⟨rfl, nq, rfl⟩
  go_wp2_with fail
  refine (cF nq).mono ?_
  rintro e w1 ⟨rfl, nq2, rfl⟩
  go_wp2
  go_ret
  exact ⟨rfl, B2.trans ((below_drewN _ (nq + nq2)).mono B2.size)⟩
end Go.Proofs.YtlfnnobkgbfdgaaGreat
end

/- SameWI -/
/- The contract of SameWorlds at two worlds that have the same, whose lists may be nil. Condition: the lists are short. -/
section
namespace Go.Proofs.YtlfnnobkgbfdgaaGreat
open Go.ChangeShapes Go.WideShapes Go.ChangeAt Go.RowKit
open Bd
set_option linter.unusedVariables false

theorem ArgA.at' {w : World} {a : Option Addr} {l : List KA} (h : ArgA w a l) {i : Nat} {x : KA} (hi : l[i]? = some x) : ∃ b off, a = some ⟨b, off, none⟩ ∧ b < w.heap.size ∧ AAt w b off l := by
  rcases h with rfl | h
  · simp at hi
  · exact h
theorem ArgA.drewN' {w : World} {a : Option Addr} {l : List KA} (h : ArgA w a l) (n : Nat) : ArgA (w.drewN n) a l := h.later (below_drewN _ _)
set_option maxHeartbeats 2000000 in
theorem eqA_same (w : World) (a1 a2 : Option Addr) (m c1 c2 : Nat) (l : List KA) (hl : l.length = m) (hm : m ≤ 1000) (h1 : ArgA w a1 l) (h2 : ArgA w a2 l) :
    Calls Tryz.prog 36 #[.slice a1 m c1, .slice a2 m c2] w fun e w' => e = .returned (.bool true) ∧ ∃ nq, w' = w.drewN nq := by
  have H1 : Hid (ArgA w a1 l) := h1
  have H2 : Hid (ArgA w a2 l) := h2
  have Hl : Hid (l.length = m) := hl
  clear h1 h2 hl
  go_enter Tryz.func36, Tryz.ntmps36
  go_wp2
  go_loopw [13] (fun i wr => ∃ k : Nat, k ≤ m ∧ i = .int .i64 k ∧ ∃ nq, wr = w.drewN nq) (fun i _ => m - (intOf i).toNat)
  case atStart => exact ⟨0, Nat.zero_le _, rfl, 0, rfl⟩
  case round =>
    obtain ⟨k, hk, rfl, nq0, rfl⟩ := hrel
    by_cases hlt : k < m
    · have hlt' : (k : Int) < (m : Int) := by omega
      obtain ⟨x, hx⟩ : ∃ x, l[k]? = some x := ⟨_, List.getElem?_eq_getElem (by have := Hl.out; omega)⟩
      obtain ⟨b, off, rfl, hb, hat⟩ := H1.out.at' hx
      obtain ⟨b', off', rfl, hb', hat'⟩ := H2.out.at' hx
      obtain ⟨a0, a1, a2⟩ := hat.all hx
      obtain ⟨b0, b1, b2⟩ := hat'.all hx
      have hne := neqA x x
      rw [KA.b_self] at hne
      clear hx hat hat'
      go_wp2
      go_quiet (fail)
      go_wp2
      go_roundw
      case rel => first | exact ⟨k + 1, by omega, by go_num, _, rfl⟩ | exact ⟨k + 1, by omega, by go_num, _, drewN_trans _ _ _⟩
      case measure => simp [intOf]; omega
    · obtain rfl : k = m := by omega
      go_wp2
      go_ret
      exact ⟨rfl, nq0, rfl⟩
theorem ArgS.at' {w : World} {a : Option Addr} {l : List K4} (h : ArgS w a l) {i : Nat} {x : K4} (hi : l[i]? = some x) : ∃ b off, a = some ⟨b, off, none⟩ ∧ b < w.heap.size ∧ SAt w b off l := by
  rcases h with rfl | h
  · simp at hi
  · exact h
theorem ArgS.drewN' {w : World} {a : Option Addr} {l : List K4} (h : ArgS w a l) (n : Nat) : ArgS (w.drewN n) a l := h.later (below_drewN _ _)
set_option maxHeartbeats 2000000 in
theorem eqS_same (w : World) (a1 a2 : Option Addr) (m c1 c2 : Nat) (l : List K4) (hl : l.length = m) (hm : m ≤ 1000) (h1 : ArgS w a1 l) (h2 : ArgS w a2 l) :
    Calls Tryz.prog 37 #[.slice a1 m c1, .slice a2 m c2] w fun e w' => e = .returned (.bool true) ∧ ∃ nq, w' = w.drewN nq := by
  have H1 : Hid (ArgS w a1 l) := h1
  have H2 : Hid (ArgS w a2 l) := h2
  have Hl : Hid (l.length = m) := hl
  clear h1 h2 hl
  go_enter Tryz.func37, Tryz.ntmps37
  go_wp2
  go_loopw [13] (fun i wr => ∃ k : Nat, k ≤ m ∧ i = .int .i64 k ∧ ∃ nq, wr = w.drewN nq) (fun i _ => m - (intOf i).toNat)
  case atStart => exact ⟨0, Nat.zero_le _, rfl, 0, rfl⟩
  case round =>
    obtain ⟨k, hk, rfl, nq0, rfl⟩ := hrel
    by_cases hlt : k < m
    · have hlt' : (k : Int) < (m : Int) := by omega
      obtain ⟨x, hx⟩ : ∃ x, l[k]? = some x := ⟨_, List.getElem?_eq_getElem (by have := Hl.out; omega)⟩
      obtain ⟨b, off, rfl, hb, hat⟩ := H1.out.at' hx
      obtain ⟨b', off', rfl, hb', hat'⟩ := H2.out.at' hx
      obtain ⟨a0, a1, a2, a3⟩ := hat.all hx
      obtain ⟨b0, b1, b2, b3⟩ := hat'.all hx
      have hne := neqS x x
      rw [K4.b_self] at hne
      clear hx hat hat'
      go_wp2
      go_quiet (fail)
      go_wp2
      go_roundw
      case rel => first | exact ⟨k + 1, by omega, by go_num, _, rfl⟩ | exact ⟨k + 1, by omega, by go_num, _, drewN_trans _ _ _⟩
      case measure => simp [intOf]; omega
    · obtain rfl : k = m := by omega
      go_wp2
      go_ret
      exact ⟨rfl, nq0, rfl⟩
theorem ArgO.at' {w : World} {a : Option Addr} {l : List K2} (h : ArgO w a l) {i : Nat} {x : K2} (hi : l[i]? = some x) : ∃ b off, a = some ⟨b, off, none⟩ ∧ b < w.heap.size ∧ OAt w b off l := by
  rcases h with rfl | h
  · simp at hi
  · exact h
theorem ArgO.drewN' {w : World} {a : Option Addr} {l : List K2} (h : ArgO w a l) (n : Nat) : ArgO (w.drewN n) a l := h.later (below_drewN _ _)
set_option maxHeartbeats 2000000 in
theorem eqO_same (w : World) (a1 a2 : Option Addr) (m c1 c2 : Nat) (l : List K2) (hl : l.length = m) (hm : m ≤ 1000) (h1 : ArgO w a1 l) (h2 : ArgO w a2 l) :
    Calls Tryz.prog 38 #[.slice a1 m c1, .slice a2 m c2] w fun e w' => e = .returned (.bool true) ∧ ∃ nq, w' = w.drewN nq := by
  have H1 : Hid (ArgO w a1 l) := h1
  have H2 : Hid (ArgO w a2 l) := h2
  have Hl : Hid (l.length = m) := hl
  clear h1 h2 hl
  go_enter Tryz.func38, Tryz.ntmps38
  go_wp2
  go_loopw [13] (fun i wr => ∃ k : Nat, k ≤ m ∧ i = .int .i64 k ∧ ∃ nq, wr = w.drewN nq) (fun i _ => m - (intOf i).toNat)
  case atStart => exact ⟨0, Nat.zero_le _, rfl, 0, rfl⟩
  case round =>
    obtain ⟨k, hk, rfl, nq0, rfl⟩ := hrel
    by_cases hlt : k < m
    · have hlt' : (k : Int) < (m : Int) := by omega
      obtain ⟨x, hx⟩ : ∃ x, l[k]? = some x := ⟨_, List.getElem?_eq_getElem (by have := Hl.out; omega)⟩
      obtain ⟨b, off, rfl, hb, hat⟩ := H1.out.at' hx
      obtain ⟨b', off', rfl, hb', hat'⟩ := H2.out.at' hx
      obtain ⟨a0, a1⟩ := hat.all hx
      obtain ⟨b0, b1⟩ := hat'.all hx
      have hne := neqO x x
      rw [K2.b_self] at hne
      clear hx hat hat'
      go_wp2
      go_quiet (fail)
      go_wp2
      go_roundw
      case rel => first | exact ⟨k + 1, by omega, by go_num, _, rfl⟩ | exact ⟨k + 1, by omega, by go_num, _, drewN_trans _ _ _⟩
      case measure => simp [intOf]; omega
    · obtain rfl : k = m := by omega
      go_wp2
      go_ret
      exact ⟨rfl, nq0, rfl⟩
set_option maxRecDepth 20000 in
set_option maxHeartbeats 16000000 in
theorem sameW_in (p p' : WP) (x : KW) (w : World) (h : ArgW w p x) (h' : ArgW w p' x) (hu : x.us.length ≤ 1000) (hf : x.fs.length ≤ 1000) (ha : x.fa.length ≤ 1000) (hs : x.se.length ≤ 1000) (ho : x.oo.length ≤ 1000) :
    Calls Tryz.prog 14 #[.agg (p.v x), .agg (p'.v x)] w fun e w' => e = .returned (.bool true) ∧ Below w.heap.size w w' := by
  obtain ⟨t, s, us, fs, fa, se, oo⟩ := x
  obtain ⟨u, uc, f, fc, a, ac, q, qc, r, rc⟩ := p
  obtain ⟨u', uc', f', fc', a', ac', q', qc', r', rc'⟩ := p'
  dsimp only at hu hf ha hs ho
  show Calls Tryz.prog 14 #[.agg (wv t s u us.length uc f fs.length fc a fa.length ac q se.length qc r oo.length rc), .agg (wv t s u' us.length uc' f' fs.length fc' a' fa.length ac' q' se.length qc' r' oo.length rc')] w _
  have cB := fun W (b : Below w.heap.size w W) => sameB_in W u f u' f' us.length fs.length uc fc uc' fc' us fs rfl rfl hu hf (h.later b).u (h.later b).f (h'.later b).u (h'.later b).f
  have cA := fun W (b : Below w.heap.size w W) => eqA_same W a a' fa.length ac ac' fa rfl ha (h.later b).a (h'.later b).a
  have cS := fun W (b : Below w.heap.size w W) => eqS_same W q q' se.length qc qc' se rfl hs (h.later b).s (h'.later b).s
  have cO := fun W (b : Below w.heap.size w W) => eqO_same W r r' oo.length rc rc' oo rfl ho (h.later b).o (h'.later b).o
  generalize us.length = mu at cB ⊢
  generalize fs.length = mf at cB ⊢
  generalize fa.length = ma at cA ⊢
  generalize se.length = ms at cS ⊢
  generalize oo.length = mo at cO ⊢
  clear h h' hu hf ha hs ho
  obtain ⟨W, HW⟩ : ∃ W, Hid (W = (w.alloc (.cells (wv t s u mu uc f mf fc a ma ac q ms qc r mo rc) 32)).alloc (.cells (wv t s u' mu uc' f' mf fc' a' ma ac' q' ms qc' r' mo rc') 32)) := ⟨_, rfl⟩
  have B2 : Below w.heap.size w W := by rw [HW.out]; exact ((Below.refl _ _).alloc (Nat.le_refl _) _).alloc (by rw [size_new]; omega) _
  have P : Bk W w.heap.size (wv t s u mu uc f mf fc a ma ac q ms qc r mo rc) 32 := by rw [HW.out]; exact (Bk.new w (wv t s u mu uc f mf fc a ma ac q ms qc r mo rc) 32).alloc _
  have Q : Bk W (w.heap.size + 1) (wv t s u' mu uc' f' mf fc' a' ma ac' q' ms qc' r' mo rc') 32 := by rw [HW.out]; have h := Bk.new (w.alloc (.cells (wv t s u mu uc f mf fc a ma ac q ms qc r mo rc) 32)) (wv t s u' mu uc' f' mf fc' a' ma ac' q' ms qc' r' mo rc') 32; rw [size_new] at h; exact h
  have keep : ∀ w', Below W.heap.size W w' → w'.cell? ⟨w.heap.size, 0, none⟩ = some (.int .i64 t) ∧ w'.cell? ⟨w.heap.size, 1, none⟩ = some (.int .i64 s) ∧ w'.cell? ⟨w.heap.size, 2, none⟩ = some (.slice u mu uc) ∧ w'.cell? ⟨w.heap.size, 3, none⟩ = some (.slice f mf fc) ∧ w'.cell? ⟨w.heap.size, 4, none⟩ = some (.slice a ma ac) ∧ w'.cell? ⟨w.heap.size, 5, none⟩ = some (.slice q ms qc) ∧ w'.cell? ⟨w.heap.size, 6, none⟩ = some (.slice r mo rc) ∧ w'.cell? ⟨w.heap.size + 1, 0, none⟩ = some (.int .i64 t) ∧ w'.cell? ⟨w.heap.size + 1, 1, none⟩ = some (.int .i64 s) ∧ w'.cell? ⟨w.heap.size + 1, 2, none⟩ = some (.slice u' mu uc') ∧ w'.cell? ⟨w.heap.size + 1, 3, none⟩ = some (.slice f' mf fc') ∧ w'.cell? ⟨w.heap.size + 1, 4, none⟩ = some (.slice a' ma ac') ∧ w'.cell? ⟨w.heap.size + 1, 5, none⟩ = some (.slice q' ms qc') ∧ w'.cell? ⟨w.heap.size + 1, 6, none⟩ = some (.slice r' mo rc') ∧ w.heap.size < w'.heap.size ∧ w.heap.size + 1 < w'.heap.size := fun w' hb => by
    have q1 := P.below hb
    have b1 := Q.below hb
    exact ⟨q1.cell rfl, q1.cell rfl, q1.cell rfl, q1.cell rfl, q1.cell rfl, q1.cell rfl, q1.cell rfl, b1.cell rfl, b1.cell rfl, b1.cell rfl, b1.cell rfl, b1.cell rfl, b1.cell rfl, b1.cell rfl, q1.lt, b1.lt⟩
  obtain ⟨x0, x1, x2, x3, x4, x5, x6, y0, y1, y2, y3, y4, y5, y6, xl, yl⟩ := keep _ (Below.refl _ _)
  have Bc : Below W.heap.size W W := Below.refl _ _
  clear P Q
  go_enter Tryz.func14, Tryz.ntmps14
  go_upto_region 1 with fail
  rw [← HW.out]
  try simp only [List.append]
  go_wp2_with (first | (go_at_call 35; refine (cB _ (B2.trans (Bc.mono B2.size))).mono ?_; rintro e wn ⟨rfl, kn⟩; have Bc := Bc.trans (kn.mono Bc.size); obtain ⟨x0, x1, x2, x3, x4, x5, x6, y0, y1, y2, y3, y4, y5, y6, xl, yl⟩ := keep _ Bc) | (go_at_call 36; refine (cA _ (B2.trans (Bc.mono B2.size))).mono ?_; rintro e wn ⟨rfl, nq, hnq⟩; have kn : Below _ _ wn := hnq ▸ below_drewN _ nq; clear hnq; have Bc := Bc.trans (kn.mono Bc.size); obtain ⟨x0, x1, x2, x3, x4, x5, x6, y0, y1, y2, y3, y4, y5, y6, xl, yl⟩ := keep _ Bc) | (go_at_call 37; refine (cS _ (B2.trans (Bc.mono B2.size))).mono ?_; rintro e wn ⟨rfl, nq, hnq⟩; have kn : Below _ _ wn := hnq ▸ below_drewN _ nq; clear hnq; have Bc := Bc.trans (kn.mono Bc.size); obtain ⟨x0, x1, x2, x3, x4, x5, x6, y0, y1, y2, y3, y4, y5, y6, xl, yl⟩ := keep _ Bc) | (go_at_call 38; refine (cO _ (B2.trans (Bc.mono B2.size))).mono ?_; rintro e wn ⟨rfl, nq, hnq⟩; have kn : Below _ _ wn := hnq ▸ below_drewN _ nq; clear hnq; have Bc := Bc.trans (kn.mono Bc.size); obtain ⟨x0, x1, x2, x3, x4, x5, x6, y0, y1, y2, y3, y4, y5, y6, xl, yl⟩ := keep _ Bc))
  go_ret
  exact ⟨rfl, B2.trans (Bc.mono B2.size)⟩
end Go.Proofs.YtlfnnobkgbfdgaaGreat
end

/- LawBoards0 -/
/- Contracts of the law's own helper on lists of numbers. No condition. -/
section
namespace Go.Proofs.YtlfnnobkgbfdgaaGreat
open Go.ChangeShapes Go.WideShapes Go.ChangeAt Go.RowKit
open Bd
set_option linter.unusedVariables false

theorem SlI.arg {w : World} {base : Nat} {v : Value} {l : List Int} (h : SlI w base v l) : ∃ a cap, v = .slice a l.length cap ∧ (l = [] ∨ ∃ b, a = some ⟨b, 0, none⟩ ∧ b < w.heap.size ∧ ∀ i x, l[i]? = some x → w.cell? ⟨b, i, none⟩ = some (.int .i64 x)) := by
  rcases h.2 with ⟨h1, h2⟩ | ⟨g, cap, cur, hv, hbb, hg, h4, h5, h6, h7⟩
  · exact ⟨none, 0, by rw [h1, h2], .inl (List.eq_nil_of_length_eq_zero h2)⟩
  · refine ⟨_, cap, hv, .inr ⟨g, rfl, (Array.getElem?_eq_some_iff.1 hg).1, fun i x hi => ?_⟩⟩
    have hil : i < l.length := (List.getElem?_eq_some_iff.1 hi).1
    have e : (l.map (Value.int .i64))[i]? = some (.int .i64 x) := by rw [List.getElem?_map, hi]; rfl
    rw [← h7, List.getElem?_take, if_pos (by omega)] at e
    simp [World.cell?, hg]
    simpa using e
set_option maxHeartbeats 2000000 in
theorem lwNums_same (w : World) (v1 v2 : Value) (b1 b2 : Nat) (l : List Int) (h1 : SlI w b1 v1 l) (h2 : SlI w b2 v2 l) (hm : l.length ≤ 1000) :
    Calls Tryz.prog 9 #[v1, v2] w fun e w' => e = .returned (.bool true) ∧ Below w.heap.size w w' := by
  obtain ⟨a1, c1, rfl, k1⟩ := h1.arg
  obtain ⟨a2, c2, rfl, k2⟩ := h2.arg
  have K1 : Hid (l = [] ∨ ∃ b, a1 = some ⟨b, 0, none⟩ ∧ b < w.heap.size ∧ ∀ i x, l[i]? = some x → w.cell? ⟨b, i, none⟩ = some (.int .i64 x)) := k1
  have K2 : Hid (l = [] ∨ ∃ b, a2 = some ⟨b, 0, none⟩ ∧ b < w.heap.size ∧ ∀ i x, l[i]? = some x → w.cell? ⟨b, i, none⟩ = some (.int .i64 x)) := k2
  obtain ⟨m, Hm⟩ : ∃ m, Hid (l.length = m) := ⟨_, rfl⟩
  rw [Hm.out] at hm ⊢
  have nm : ((m : Int) != (m : Int)) = false := by simp
  clear k1 k2 h1 h2
  go_enter Tryz.func9, Tryz.ntmps9
  go_wp2
  go_loopw [5] (fun i wr => ∃ k : Nat, k ≤ m ∧ i = .int .i64 k ∧ ∃ nq, wr = w.drewN nq) (fun i _ => m - (intOf i).toNat)
  case atStart => exact ⟨0, Nat.zero_le _, rfl, 0, rfl⟩
  case round =>
    obtain ⟨k, hk, rfl, nq0, rfl⟩ := hrel
    by_cases hlt : k < m
    · have hlt' : (k : Int) < (m : Int) := by omega
      obtain ⟨x, hx⟩ : ∃ x, l[k]? = some x := ⟨_, List.getElem?_eq_getElem (by have := Hm.out; omega)⟩
      obtain ⟨b, rfl, hb, hc⟩ : ∃ b, a1 = some ⟨b, 0, none⟩ ∧ b < w.heap.size ∧ ∀ i x, l[i]? = some x → w.cell? ⟨b, i, none⟩ = some (.int .i64 x) := by
        rcases K1.out with h | h
        · rw [h] at hx; simp at hx
        · exact h
      obtain ⟨b', rfl, hb', hc'⟩ : ∃ b, a2 = some ⟨b, 0, none⟩ ∧ b < w.heap.size ∧ ∀ i x, l[i]? = some x → w.cell? ⟨b, i, none⟩ = some (.int .i64 x) := by
        rcases K2.out with h | h
        · rw [h] at hx; simp at hx
        · exact h
      have p := hc k x hx
      have q := hc' k x hx
      have nx : (x != x) = false := by simp
      clear hx hc hc'
      go_wp2
      go_quiet (fail)
      go_wp2
      go_roundw
      case rel => first | exact ⟨k + 1, by omega, by go_num, _, rfl⟩ | exact ⟨k + 1, by omega, by go_num, _, drewN_trans _ _ _⟩
      case measure => simp [intOf]; omega
    · obtain rfl : k = m := by omega
      go_wp2
      go_ret
      exact ⟨rfl, below_drewN _ _⟩
end Go.Proofs.YtlfnnobkgbfdgaaGreat
end
