/- Texts of mine put together (a claim holds at most 60 files): SameBI, LawTick0, TickNo, HomeT. -/
import Derived.Test.YtepjkcfheejlbaaGreatDoorPartT10
import Derived.Test.YtepjkcfheejlbaaGreatDoorPartT06
import Derived.Test.YtepjkcfheejlbaaGreatDoorPartT07
import Derived.Test.YtepjkcfheejlbaaGreatDoorPartD00
import Derived.Test.YtepjkcfheejlbaaGreatDoorPartD03
import Derived.Test.YtepjkcfheejlbaaGreatDoorPartT30
import Derived.Test.YtepjkcfheejlbaaGreatDoorPartT29
import Derived.Test.YtepjkcfheejlbaaGreatDoorPartT17
import Derived.Test.YtepjkcfheejlbaaGreatDoorPartT16

/- SameBI -/
/- The contract of SameBoards at two boards that have the same, whose lists may be nil. Condition: the lists are short. -/
section
namespace Go.Proofs.YtepjkcfheejlbaaGreatDoor
open Go.ChangeShapes Go.WideShapes Go.ChangeAt Go.RowKit
open Bd
set_option linter.unusedVariables false

theorem ArgU.drewN' {w : World} {a : Option Addr} {l : List K10} (h : ArgU w a l) (n : Nat) : ArgU (w.drewN n) a l := h.later (below_drewN _ _)
theorem ArgF.drewN' {w : World} {a : Option Addr} {l : List K3} (h : ArgF w a l) (n : Nat) : ArgF (w.drewN n) a l := h.later (below_drewN _ _)
set_option maxHeartbeats 2000000 in
theorem eqU_same (w : World) (a1 a2 : Option Addr) (m c1 c2 : Nat) (l : List K10) (hl : l.length = m) (hm : m ≤ 1000) (h1 : ArgU w a1 l) (h2 : ArgU w a2 l) :
    Calls Tryz.prog 49 #[.slice a1 m c1, .slice a2 m c2] w fun e w' => e = .returned (.bool true) ∧ ∃ nq, w' = w.drewN nq := by
  have H1 : Hid (ArgU w a1 l) := h1
  have H2 : Hid (ArgU w a2 l) := h2
  have Hl : Hid (l.length = m) := hl
  clear h1 h2 hl
  go_enter Tryz.func49, Tryz.ntmps49
  go_wp2
  go_loopw [13] (fun i wr => ∃ k : Nat, k ≤ m ∧ i = .int .i64 k ∧ ∃ nq, wr = w.drewN nq) (fun i _ => m - (intOf i).toNat)
  case atStart => exact ⟨0, Nat.zero_le _, rfl, 0, rfl⟩
  case round =>
    obtain ⟨k, hk, rfl, nq0, rfl⟩ := hrel
    by_cases hlt : k < m
    · have hlt' : (k : Int) < (m : Int) := by omega
      obtain ⟨x, hx⟩ : ∃ x, l[k]? = some x := ⟨_, List.getElem?_eq_getElem (by have := Hl.out; omega)⟩
      obtain ⟨b, off, rfl, hb, hat⟩ := H1.out.at hx
      obtain ⟨b', off', rfl, hb', hat'⟩ := H2.out.at hx
      obtain ⟨a0, a1, a2, a3, a4, a5, a6, a7, a8, a9⟩ := hat.all hx
      obtain ⟨b0, b1, b2, b3, b4, b5, b6, b7, b8, b9⟩ := hat'.all hx
      have hne := neqU x x
      rw [K10.b_self] at hne
      clear hx hat hat'
      go_wp2
      go_quiet (fail)
      go_wp2
      go_roundw
      case rel => first | exact ⟨k + 1, by omega, by go_num, _, rfl⟩ | exact ⟨k + 1, by omega, by go_num, _, drewN_trans _ _ _⟩
      case measure => simp [intOf]; omega
    · obtain rfl : k = m := by omega
      go_wp2
      go_ret
      exact ⟨rfl, nq0, rfl⟩
set_option maxHeartbeats 2000000 in
theorem eqF_same (w : World) (a1 a2 : Option Addr) (m c1 c2 : Nat) (l : List K3) (hl : l.length = m) (hm : m ≤ 1000) (h1 : ArgF w a1 l) (h2 : ArgF w a2 l) :
    Calls Tryz.prog 50 #[.slice a1 m c1, .slice a2 m c2] w fun e w' => e = .returned (.bool true) ∧ ∃ nq, w' = w.drewN nq := by
  have H1 : Hid (ArgF w a1 l) := h1
  have H2 : Hid (ArgF w a2 l) := h2
  have Hl : Hid (l.length = m) := hl
  clear h1 h2 hl
  go_enter Tryz.func50, Tryz.ntmps50
  go_wp2
  go_loopw [13] (fun i wr => ∃ k : Nat, k ≤ m ∧ i = .int .i64 k ∧ ∃ nq, wr = w.drewN nq) (fun i _ => m - (intOf i).toNat)
  case atStart => exact ⟨0, Nat.zero_le _, rfl, 0, rfl⟩
  case round =>
    obtain ⟨k, hk, rfl, nq0, rfl⟩ := hrel
    by_cases hlt : k < m
    · have hlt' : (k : Int) < (m : Int) := by omega
      obtain ⟨x, hx⟩ : ∃ x, l[k]? = some x := ⟨_, List.getElem?_eq_getElem (by have := Hl.out; omega)⟩
      obtain ⟨b, off, rfl, hb, hat⟩ := H1.out.at hx
      obtain ⟨b', off', rfl, hb', hat'⟩ := H2.out.at hx
      obtain ⟨a0, a1, a2⟩ := hat.all hx
      obtain ⟨b0, b1, b2⟩ := hat'.all hx
      have hne := neqF x x
      rw [K3.b_self] at hne
      clear hx hat hat'
      go_wp2
      go_quiet (fail)
      go_wp2
      go_roundw
      case rel => first | exact ⟨k + 1, by omega, by go_num, _, rfl⟩ | exact ⟨k + 1, by omega, by go_num, _, drewN_trans _ _ _⟩
      case measure => simp [intOf]; omega
    · obtain rfl : k = m := by omega
      go_wp2
      go_ret
      exact ⟨rfl, nq0, rfl⟩
set_option maxHeartbeats 4000000 in
theorem sameB_in (w : World) (a1 a1' a2 a2' : Option Addr) (m m' c1 c1' c2 c2' : Nat) (us : List K10) (fs : List K3) (hl : us.length = m) (hl' : fs.length = m') (hm : m ≤ 1000) (hm' : m' ≤ 1000) (u1 : ArgU w a1 us) (f1 : ArgF w a1' fs) (u2 : ArgU w a2 us) (f2 : ArgF w a2' fs) :
    Calls Tryz.prog 15 #[.agg (brdV a1 m c1 a1' m' c1'), .agg (brdV a2 m c2 a2' m' c2')] w fun e w' => e = .returned (.bool true) ∧ Below w.heap.size w w' := by
  have B1 : Below w.heap.size w (w.alloc (.cells (brdV a1 m c1 a1' m' c1') 27)) := (Below.refl _ _).alloc (Nat.le_refl _) _
  obtain ⟨W2, HW2⟩ : ∃ W2, Hid (W2 = (w.alloc (.cells (brdV a1 m c1 a1' m' c1') 27)).alloc (.cells (brdV a2 m c2 a2' m' c2') 27)) := ⟨_, rfl⟩
  have B2 : Below w.heap.size w W2 := by rw [HW2.out]; exact B1.alloc (by rw [size_new]; omega) _
  have r0 : W2.rowIs w.heap.size 27 2 (fun i => if i = 0 then .slice a1 m c1 else .slice a1' m' c1') := by
    rw [HW2.out]
    have r := rowTwo w (.slice a1 m c1) (.slice a1' m' c1') 27
    exact r.of_block (((Below.refl _ _).alloc (Nat.le_refl _) _).block _ r.lt)
  have r1 : W2.rowIs (w.heap.size + 1) 27 2 (fun i => if i = 0 then .slice a2 m c2 else .slice a2' m' c2') := by
    rw [HW2.out]
    have r := rowTwo (w.alloc (.cells (brdV a1 m c1 a1' m' c1') 27)) (.slice a2 m c2) (.slice a2' m' c2') 27
    rw [size_new] at r
    exact r
  have cU := eqU_same W2 a1 a2 m c1 c2 us hl hm (u1.later B2) (u2.later B2)
  have cF := fun nq => eqF_same (W2.drewN nq) a1' a2' m' c1' c2' fs hl' hm' ((f1.later B2).drewN' nq) ((f2.later B2).drewN' nq)
  obtain ⟨p0, p1, pl⟩ := row_brd r0
  obtain ⟨q0, q1, ql⟩ := row_brd r1
  clear u1 f1 u2 f2 B1
  go_enter Tryz.func15, Tryz.ntmps15
  go_upto_region 1 with fail
  rw [← HW2.out]
  go_wp2_with fail
  refine cU.mono ?_
  rintro e w1 ⟨rfl, nq, rfl⟩
  go_wp2_with fail
  refine (cF nq).mono ?_
  rintro e w1 ⟨rfl, nq2, rfl⟩
  go_wp2
  go_ret
  exact ⟨rfl, B2.trans ((below_drewN _ (nq + nq2)).mono B2.size)⟩
end Go.Proofs.YtepjkcfheejlbaaGreatDoor
end

/- LawTick0 -/
/- What the walks of the laws of ticks share: lists by name, a number pushed in a region that draws. No condition. -/
section
namespace Go.Proofs.YtepjkcfheejlbaaGreatDoor
open Go.ChangeShapes Go.WideShapes Go.ChangeAt Go.RowKit
open Bd
set_option linter.unusedVariables false

theorem SlU.nm {w : World} {base : Nat} {v : Value} {l : List K10} (h : SlU w base v l) : ∃ p c m, v = .slice p m c ∧ Hid (l.length = m) ∧ InU w p m c l := by
  obtain ⟨p, c, e, i⟩ := h.in
  exact ⟨p, c, _, e, rfl, i⟩
theorem SlF.nm {w : World} {base : Nat} {v : Value} {l : List K3} (h : SlF w base v l) : ∃ p c m, v = .slice p m c ∧ Hid (l.length = m) ∧ InF w p m c l := by
  obtain ⟨p, c, e, i⟩ := h.in
  exact ⟨p, c, _, e, rfl, i⟩
/- an answer of ticks: its lists by name -/
theorem RIs.nm {w : World} {base : Nat} {s : TS} {g v f : Value} (h : RIs w base (TR.of s) g v f) (tg : TG s) : ∃ gq cq p c m p' c' m', g = .slice (some ⟨gq, 0, none⟩) 4 cq ∧ v = .slice p m c ∧ f = .slice p' m' c' ∧ Hid (s.us.length = m) ∧ Hid (s.fs.length = m') ∧ Lst w gq cq s.gn ∧ InU w p m c s.us ∧ InF w p' m' c' s.fs := by
  rcases h.g.cases with ⟨h0, _⟩ | ⟨_, qv, cv, hq, _, Lv⟩
  · have := tg.gl; have e0 : s.gn = [] := h0; rw [e0] at this; cases this
  · obtain ⟨p, c, m, hv, Hm, U⟩ := h.u.nm
    obtain ⟨p', c', m', hf, Hm', F⟩ := h.f.nm
    have e4 : (TR.of s).g.length = 4 := tg.gl
    rw [e4] at hq
    exact ⟨qv, cv, p, c, m, p', c', m', hq, hv, hf, Hm, Hm', Lv, U, F⟩
theorem RIs.nm0 {w : World} {base : Nat} {r : TR} {g v f : Value} (h : RIs w base r g v f) : ∃ a1 n1 c1 a2 n2 c2 a3 n3 c3, g = .slice a1 n1 c1 ∧ v = .slice a2 n2 c2 ∧ f = .slice a3 n3 c3 := by
  obtain ⟨a1, c1, e1⟩ := h.g.form
  obtain ⟨a2, c2, e2, _⟩ := h.u.form
  obtain ⟨a3, c3, e3, _⟩ := h.f.form
  exact ⟨_, _, _, _, _, _, _, _, _, e1, e2, e3⟩
theorem empty_own (w : World) : SlI (w.alloc (.cells #[] 2)) w.heap.size (.slice (some ⟨w.heap.size, 0, none⟩) 0 0) [] := World.ownsRow_made w #[] 0 (Nat.le_refl _) (by unfold maxLen; omega) rfl
theorem step_pushI {ops : Array Oper} {o : Oper} {a : Act} {W : World} {K : Act → World → Prop} {Q : Exit → Act → World → Prop} {E : Prop} (hgd : o.guard = none) (s x : Operand)
    (ho : o.op = .call { callee := .builtin .append, args := #[s, x], argTypes := #[28, 28] }) (b : Nat) (y : Int) (base : Nat) (v : Value) (l : List Int) (hs : a.eval s = v) (hown : SlI W base v l) (nn : v ≠ .slice none 0 0)
    (hx : a.eval x = .slice (some ⟨b, 0, none⟩) 1 1) (hc : Blk W b #[.int .i64 y] 2) (hlen : l.length ≤ 100) (hbase : base ≤ W.heap.size)
    (h : ∀ v' w', SlI w' base v' (l ++ [y]) → W.grownBy w' v.ownBlock → v' ≠ .slice none 0 0 → K (a.put o.dst v') w') :
    if Region.wanted o (yielded ops a.tmps) = true then Oper.wp Tryz.prog o a W K Q else E := by
  have hw : Region.wanted o (yielded ops a.tmps) = true := by simp [Region.wanted, hgd]
  rw [if_pos hw]
  obtain ⟨i0, hi, hz0, hz1, hz2⟩ := info_parts info64
  refine wp_append_own _ s x 28 ho base 2 i0 (.int .i64 0) 1 8 Tryz.underlying28 hi hz0 hz1 hz2 rfl (by decide) v l.length _ hs hown ⟨b, 0, none⟩ 1 1 [.int .i64 y] hx (by rfl) ?_ ?_ (by unfold maxLen; omega) (by omega) hbase ?_
  · intro j z hj
    rw [add_plain', Nat.zero_add]
    exact hc.cell (by simpa using hj)
  · intro z hz
    simp at hz
    subst hz
    rfl
  · intro v' w' h1 h2 h3
    refine h v' w' ?_ h2 (fun e => nn (h3.1 e).1)
    unfold SlI
    rw [List.length_append, List.map_append]
    exact h1
theorem SlI.alloc' {w : World} {base : Nat} {v : Value} {l : List Int} (h : SlI w base v l) (o : Obj) : SlI (w.alloc o) base v l := h.below ((Below.refl _ _).alloc (Nat.le_refl _) o)
theorem SlI.lt' {w : World} {base : Nat} {v : Value} {l : List Int} (s : SlI w base v l) : ∀ b, v.ownBlock = some b → base ≤ b := by
  intro b hb
  rcases s.2 with ⟨h1, h2⟩ | ⟨g, cap, cur, hv, hbb, hg, r⟩
  · rw [h1] at hb; cases hb
  · rw [hv] at hb
    have e : g = b := Option.some.inj hb
    omega
theorem getD_some {l : List Int} {k : Nat} (h : k < l.length) : l[k]? = some (l.getD k 0) := by
  rw [List.getD_eq_getElem?_getD, List.getElem?_eq_getElem h]; rfl
theorem take_push {l : List Int} {k : Nat} (h : k < l.length) : l.take k ++ [l.getD k 0] = l.take (k + 1) := by
  rw [List.take_add_one, getD_some h]; rfl
theorem tkF_bd (us : List K10) (fs : List K3) (rm : List Int) : tkF us fs rm = 0 ∨ tkF us fs rm = 1 ∨ tkF us fs rm = 2 ∨ tkF us fs rm = 3 := by
  have p := purs_bd rm
  have b := bf_bd us fs
  unfold tkF rmF
  split
  · split
    · omega
    · omega
  · omega
theorem lost_bd {s : TS} (h : TG s) : 0 ≤ s.lost ∧ s.lost ≤ 160 := by
  have := h.l0; have := h.l1; omega
theorem InU.arg' {w w' : World} {p : Option Addr} {m c : Nat} {l : List K10} (h : InU w p m c l) (hb : Below w.heap.size w w') : ArgU w' p l := (h.later hb).arg
theorem InF.arg' {w w' : World} {p : Option Addr} {m c : Nat} {l : List K3} (h : InF w p m c l) (hb : Below w.heap.size w w') : ArgF w' p l := (h.later hb).arg
end Go.Proofs.YtepjkcfheejlbaaGreatDoor
end

/- TickNo -/
/- The model's answers of ticks with a code, as they are. Condition: the lists lie in memory as they were laid there. -/
section
namespace Go.Proofs.YtepjkcfheejlbaaGreatDoor
open Go.ChangeShapes Go.WideShapes Go.ChangeAt Go.RowKit
open Bd
set_option linter.unusedVariables false

abbrev noV (R : Int) : Array Value := resV R (.slice none 0 0) 0 (.slice none 0 0) (.slice none 0 0)
set_option maxRecDepth 20000 in
set_option maxHeartbeats 16000000 in
theorem specTickBoard_no (pu : Option Addr) (m c : Nat) (pf : Option Addr) (m' c' gr og mr cr : Nat) (us : List K10) (fs : List K3) (rm : List Int) (R : Int) (h1 : (R == 0) = false) (hR : tkF us fs rm = R) (w : World) (h : TIn w pu m c pf m' c' gr og mr cr us fs rm) :
    Calls Tryz.prog 23 #[.agg (brdV pu m c pf m' c'), .slice (some ⟨gr, og, none⟩) mr cr] w fun e w' => e = .returned (.agg (noV R)) ∧ Below w.heap.size w w' := by
  obtain ⟨W1, HW1, rb, rr, B1⟩ := two_res w (.slice pu m c) (.slice pf m' c')
  have cF := (h.later B1).asked (row_brd rb)
  rw [hR] at cF
  have h1' := bne_of h1
  clear h hR
  go_enter Tryz.func23, Tryz.ntmps23
  go_upto_region 1 with fail
  rw [← HW1.out]
  go_wp2_with fail
  refine cF.mono ?_
  rintro e w2 ⟨rfl, k2⟩
  have B2 := B1.trans (k2.mono B1.size)
  have rr2 := row_later rr k2
  obtain ⟨e0, e1, e2, e3, e4, z0, z1, z2, z3, z4, el⟩ := res_cells rr2
  obtain ⟨x0, x1, x2, x3, x4⟩ := setRes_cells (setRes_row rr2 R (.slice none 0 0) 0 (.slice none 0 0) (.slice none 0 0))
  have BZ := setRes_bel B2 (w.heap.size + 1) (by omega) R (.slice none 0 0) 0 (.slice none 0 0) (.slice none 0 0)
  go_wp2_with fail
  refine bodyPost_ret (v := .agg (resV R (.slice none 0 0) 0 (.slice none 0 0) (.slice none 0 0))) ?_ rfl ⟨rfl, BZ⟩
  simp [results, Tryz.results23, go_sem, x0, x1, x2, x3, x4]
  done
set_option maxRecDepth 20000 in
set_option maxHeartbeats 16000000 in
theorem specTickUnit_no (pu : Option Addr) (m c : Nat) (pf : Option Addr) (m' c' gr og mr cr : Nat) (us : List K10) (fs : List K3) (i : Int) (rm : List Int) (R : Int) (h1 : (R == 0) = false) (hR : tkF us fs rm = R) (w : World) (h : TIn w pu m c pf m' c' gr og mr cr us fs rm) :
    Calls Tryz.prog 14 #[.agg (brdV pu m c pf m' c'), .int .i64 i, .slice (some ⟨gr, og, none⟩) mr cr] w fun e w' => e = .returned (.agg (noV R)) ∧ Below w.heap.size w w' := by
  obtain ⟨W1, HW1, rb, rr, B1⟩ := two_res w (.slice pu m c) (.slice pf m' c')
  have cF := (h.later B1).asked (row_brd rb)
  rw [hR] at cF
  have h1' := bne_of h1
  clear h hR
  go_enter Tryz.func14, Tryz.ntmps14
  go_upto_region 1 with fail
  rw [← HW1.out]
  go_wp2_with fail
  refine cF.mono ?_
  rintro e w2 ⟨rfl, k2⟩
  have B2 := B1.trans (k2.mono B1.size)
  have rr2 := row_later rr k2
  obtain ⟨e0, e1, e2, e3, e4, z0, z1, z2, z3, z4, el⟩ := res_cells rr2
  obtain ⟨x0, x1, x2, x3, x4⟩ := setRes_cells (setRes_row rr2 R (.slice none 0 0) 0 (.slice none 0 0) (.slice none 0 0))
  have BZ := setRes_bel B2 (w.heap.size + 1) (by omega) R (.slice none 0 0) 0 (.slice none 0 0) (.slice none 0 0)
  go_wp2_with fail
  refine bodyPost_ret (v := .agg (resV R (.slice none 0 0) 0 (.slice none 0 0) (.slice none 0 0))) ?_ rfl ⟨rfl, BZ⟩
  simp [results, Tryz.results14, go_sem, x0, x1, x2, x3, x4]
  done
set_option maxRecDepth 20000 in
set_option maxHeartbeats 16000000 in
theorem specTickUnit_none (pu : Option Addr) (m c : Nat) (pf : Option Addr) (m' c' gr og mr cr : Nat) (us : List K10) (fs : List K3) (i : Int) (rm : List Int) (h1 : tkF us fs rm = 0) (hf : findU us i = none) (w : World) (h : TIn w pu m c pf m' c' gr og mr cr us fs rm) :
    Calls Tryz.prog 14 #[.agg (brdV pu m c pf m' c'), .int .i64 i, .slice (some ⟨gr, og, none⟩) mr cr] w fun e w' => e = .returned (.agg (noV 4)) ∧ Below w.heap.size w w' := by
  obtain ⟨W1, HW1, rb, rr, B1⟩ := two_res w (.slice pu m c) (.slice pf m' c')
  have cF := (h.later B1).asked (row_brd rb)
  obtain ⟨hb0, hr4, hrp⟩ := tkF_ok h1
  have gd := Gd.of hb0
  have hm8 : m ≤ 8 := by have := gd.n8; have := h.hl; omega
  have cA := fun W (hB : Below w.heap.size w W) => l4At_c pu m c us i h.hl hm8 W (h.later hB).au
  have hat : atI us i = -1 := by
    rcases atU_find us i with ⟨a1, _⟩ | ⟨k, x, _, _, a3⟩
    · unfold atI; rw [a1]
    · rw [hf] at a3; cases a3
  rw [hat] at cA
  rw [h1] at cF
  clear h h1 hf hat gd hb0 hrp
  go_enter Tryz.func14, Tryz.ntmps14
  go_upto_region 1 with fail
  rw [← HW1.out]
  go_wp2_with fail
  refine cF.mono ?_
  rintro e w2 ⟨rfl, k2⟩
  have B2 := B1.trans (k2.mono B1.size)
  have rr2 := row_later rr k2
  obtain ⟨p0, p1, pl⟩ := row_brd (row_later rb k2)
  go_wp2_with fail
  refine (cA _ B2).mono ?_
  rintro e w3 ⟨rfl, rfl⟩
  clear p0 p1 pl
  obtain ⟨e0, e1, e2, e3, e4, z0, z1, z2, z3, z4, el⟩ := res_cells rr2
  obtain ⟨x0, x1, x2, x3, x4⟩ := setRes_cells (setRes_row rr2 4 (.slice none 0 0) 0 (.slice none 0 0) (.slice none 0 0))
  have BZ := setRes_bel B2 (w.heap.size + 1) (by omega) 4 (.slice none 0 0) 0 (.slice none 0 0) (.slice none 0 0)
  go_wp2_with fail
  refine bodyPost_ret (v := .agg (resV 4 (.slice none 0 0) 0 (.slice none 0 0) (.slice none 0 0))) ?_ rfl ⟨rfl, BZ⟩
  simp [results, Tryz.results14, go_sem, x0, x1, x2, x3, x4]
  done
end Go.Proofs.YtepjkcfheejlbaaGreatDoor
end

/- HomeT -/
/- Contracts of HomeOf, the model's and the program's, at every number. Condition: the homes lie in their variable. -/
section
namespace Go.Proofs.YtepjkcfheejlbaaGreatDoor
open Go.ChangeShapes Go.WideShapes Go.ChangeAt Go.RowKit
open Bd
set_option linter.unusedVariables false

set_option maxRecDepth 20000 in
set_option maxHeartbeats 4000000 in
theorem specHomeOf_c (o : Int) (h0 : 0 ≤ o) (h3 : o ≤ 3) (w : World) :
    Calls Tryz.prog 17 #[.int .i64 o] w fun e w' => e = .returned (.agg (tileV (hmX o) (hmY o))) ∧ Below w.heap.size w w' := by
  have hs := fun W => l1In_c o 0 3 W
  rw [inb_t (by omega) (by omega)] at hs
  have hh := fun W => l5Home_c o h0 h3 W
  obtain ⟨W1, HW1⟩ : ∃ W1, Hid (W1 = w.alloc (.cells (tileV 0 0) 40)) := ⟨_, rfl⟩
  have B1 : Below w.heap.size w W1 := by rw [HW1.out]; exact (Below.refl _ _).alloc (Nat.le_refl _) _
  have rr : W1.rowIs w.heap.size 40 3 (fun i => (tileV 0 0)[i]!) := by rw [HW1.out]; exact rowAll w (tileV 0 0) _
  have z0 := rr.frozen 0
  have z1 := rr.frozen 1
  have z2 := rr.frozen 2
  have e0 : W1.cell? ⟨w.heap.size, 0, none⟩ = some (.int .i64 0) := rr.cell (i := 0) (by omega)
  have e1 : W1.cell? ⟨w.heap.size, 1, none⟩ = some (.int .i64 0) := rr.cell (i := 1) (by omega)
  have e2 : W1.cell? ⟨w.heap.size, 2, none⟩ = some (.int .i64 0) := rr.cell (i := 2) (by omega)
  have rl := rr.lt
  generalize hmX o = X at hh ⊢
  generalize hmY o = Y at hh ⊢
  have t := ((rr.set 0 (.int .i64 0)).set 1 (.int .i64 X)).set 2 (.int .i64 Y)
  have c0 := t.cell (i := 0) (by omega)
  have c1 := t.cell (i := 1) (by omega)
  have c2 := t.cell (i := 2) (by omega)
  have BZ := bel_set (bel_set (bel_set B1 w.heap.size 0 (Nat.le_refl _) (.int .i64 0)) w.heap.size 1 (Nat.le_refl _) (.int .i64 X)) w.heap.size 2 (Nat.le_refl _) (.int .i64 Y)
  clear rr
  go_enter Tryz.func17, Tryz.ntmps17
  go_upto_region 1 with fail
  rw [← HW1.out]
  go_wp2_with (first | (go_at_call 52; refine (hs _).mono ?_; rintro e w1 ⟨rfl, rfl⟩) | (go_at_call 53; refine (hh _).mono ?_; rintro e w1 ⟨rfl, rfl⟩))
  refine bodyPost_ret (v := .agg (tileV X Y)) ?_ rfl ⟨rfl, BZ⟩
  simp [results, Tryz.results17, go_sem, c0, c1, c2]
  done
theorem specHomeOf_no (o : Int) (h : o < 0 ∨ 3 < o) (w : World) :
    Calls Tryz.prog 17 #[.int .i64 o] w fun e w' => e = .returned (.agg #[.int .i64 3, .int .i64 0, .int .i64 0]) ∧ Below w.heap.size w w' := by
  have hs := fun W => l1In_c o 0 3 W
  rw [inb_f (by omega)] at hs
  go_enter Tryz.func17, Tryz.ntmps17
  go_wp2_with (first | (go_at_call 52; refine (hs _).mono ?_; rintro e w1 ⟨rfl, rfl⟩))
  refine bodyPost_ret (v := .agg #[.int .i64 3, .int .i64 0, .int .i64 0]) (by simp [results, Tryz.results17, go_sem]) rfl ⟨rfl, ?_⟩
  exact (Below.refl _ _).alloc (Nat.le_refl _) _
theorem homeOf_no (o : Int) (h : o < 0 ∨ 3 < o) (w : World) :
    Calls Tryz.prog 16 #[.int .i64 o] w fun e w' => e = .returned (.agg #[.int .i64 3, .int .i64 0, .int .i64 0]) ∧ Below w.heap.size w w' := by
  have hs := fun W => isSide_c o W
  rw [inb_f (by omega)] at hs
  go_enter Tryz.func16, Tryz.ntmps16
  go_wp2_with (first | (go_at_call 51; refine (hs _).mono ?_; rintro e w1 ⟨rfl, rfl⟩))
  refine bodyPost_ret (v := .agg #[.int .i64 3, .int .i64 0, .int .i64 0]) (by simp [results, Tryz.results16, go_sem]) rfl ⟨rfl, ?_⟩
  exact (Below.refl _ _).alloc (Nat.le_refl _) _
theorem home_any (o : Int) : ∃ c x y : Int, (∀ W, Calls Tryz.prog 17 #[.int .i64 o] W fun e w' => e = .returned (.agg #[.int .i64 c, .int .i64 x, .int .i64 y]) ∧ Below W.heap.size W w') ∧ (∀ W, HmAt W → Calls Tryz.prog 16 #[.int .i64 o] W fun e w' => e = .returned (.agg #[.int .i64 c, .int .i64 x, .int .i64 y]) ∧ Below W.heap.size W w') := by
  by_cases h : 0 ≤ o ∧ o ≤ 3
  · exact ⟨0, hmX o, hmY o, fun W => specHomeOf_c o h.1 h.2 W, fun W hL => homeOf_i o h.1 h.2 W hL⟩
  · exact ⟨3, 0, 0, fun W => specHomeOf_no o (by omega) W, fun W _ => homeOf_no o (by omega) W⟩
set_option maxHeartbeats 1000000 in
theorem neqT_same (c x y : Int) (w : World) : (binOp .neq 40 (.agg #[.int .i64 c, .int .i64 x, .int .i64 y]) (.agg #[.int .i64 c, .int .i64 x, .int .i64 y])).run Tryz.prog w = .ok (.bool false) w := by
  rw [run_neq_struct, show (10000 : Nat) = 9999 + 1 from rfl, run_equalIn_agg w 9999 40 _ _ (by kernel_rfl) (by kernel_rfl)]
  simp only [Program.fieldsOf, Tryz.underlying40]
  go_simp
  try rfl
end Go.Proofs.YtepjkcfheejlbaaGreatDoor
end
