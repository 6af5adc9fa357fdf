/- Texts of mine put together (a claim holds at most 60 files): SameBI, LawBoards0, LawClocks, OpenBoard. -/
import Derived.Test.YtppgjmpdnpidnaaGreatDoorPartK11
import Derived.Test.YtppgjmpdnpidnaaGreatDoorPartK05
import Derived.Test.YtppgjmpdnpidnaaGreatDoorPartK08
import Derived.Test.YtppgjmpdnpidnaaGreatDoorPartK34
import Derived.Test.YtppgjmpdnpidnaaGreatDoorPartK41
import Derived.Test.YtppgjmpdnpidnaaGreatDoorPartK42
import Derived.Test.YtppgjmpdnpidnaaGreatDoorPartK43
import Derived.Test.YtppgjmpdnpidnaaGreatDoorPartK44
import Derived.Test.YtppgjmpdnpidnaaGreatDoorPartK00
import Derived.Deep.RegionHeld3
import Derived.ChangeArms
import Derived.WideShapes

/- SameBI -/
/- The contract of SameBoards at two boards that have the same, whose lists may be nil. Condition: the lists are short. -/
section
namespace Go.Proofs.YtppgjmpdnpidnaaGreatDoor
open Go.ChangeShapes Go.WideShapes Go.ChangeAt Go.RowKit
open Bd
set_option linter.unusedVariables false

theorem ArgU.drewN' {w : World} {a : Option Addr} {l : List K10} (h : ArgU w a l) (n : Nat) : ArgU (w.drewN n) a l := h.later (below_drewN _ _)
theorem ArgF.drewN' {w : World} {a : Option Addr} {l : List K3} (h : ArgF w a l) (n : Nat) : ArgF (w.drewN n) a l := h.later (below_drewN _ _)
set_option maxHeartbeats 2000000 in
theorem eqU_same (w : World) (a1 a2 : Option Addr) (m c1 c2 : Nat) (l : List K10) (hl : l.length = m) (hm : m ≤ 1000) (h1 : ArgU w a1 l) (h2 : ArgU w a2 l) :
    Calls Tryz.prog 33 #[.slice a1 m c1, .slice a2 m c2] w fun e w' => e = .returned (.bool true) ∧ ∃ nq, w' = w.drewN nq := by
  have H1 : Hid (ArgU w a1 l) := h1
  have H2 : Hid (ArgU w a2 l) := h2
  have Hl : Hid (l.length = m) := hl
  clear h1 h2 hl
  go_enter Tryz.func33, Tryz.ntmps33
  go_wp2
  go_loopw [13] (fun i wr => ∃ k : Nat, k ≤ m ∧ i = .int .i64 k ∧ ∃ nq, wr = w.drewN nq) (fun i _ => m - (intOf i).toNat)
  case atStart => exact ⟨0, Nat.zero_le _, rfl, 0, rfl⟩
  case round =>
    obtain ⟨k, hk, rfl, nq0, rfl⟩ := hrel
    by_cases hlt : k < m
    · have hlt' : (k : Int) < (m : Int) := by omega
      obtain ⟨x, hx⟩ : ∃ x, l[k]? = some x := ⟨_, List.getElem?_eq_getElem (by have := Hl.out; omega)⟩
      obtain ⟨b, off, rfl, hb, hat⟩ := H1.out.at hx
      obtain ⟨b', off', rfl, hb', hat'⟩ := H2.out.at hx
      obtain ⟨a0, a1, a2, a3, a4, a5, a6, a7, a8, a9⟩ := hat.all hx
      obtain ⟨b0, b1, b2, b3, b4, b5, b6, b7, b8, b9⟩ := hat'.all hx
      have hne := neqU x x
      rw [K10.b_self] at hne
      clear hx hat hat'
      go_wp2
      go_quiet (fail)
      go_wp2
      go_roundw
      case rel => first | exact ⟨k + 1, by omega, by go_num, _, rfl⟩ | exact ⟨k + 1, by omega, by go_num, _, drewN_trans _ _ _⟩
      case measure => simp [intOf]; omega
    · obtain rfl : k = m := by omega
      go_wp2
      go_ret
      exact ⟨rfl, nq0, rfl⟩
set_option maxHeartbeats 2000000 in
theorem eqF_same (w : World) (a1 a2 : Option Addr) (m c1 c2 : Nat) (l : List K3) (hl : l.length = m) (hm : m ≤ 1000) (h1 : ArgF w a1 l) (h2 : ArgF w a2 l) :
    Calls Tryz.prog 34 #[.slice a1 m c1, .slice a2 m c2] w fun e w' => e = .returned (.bool true) ∧ ∃ nq, w' = w.drewN nq := by
  have H1 : Hid (ArgF w a1 l) := h1
  have H2 : Hid (ArgF w a2 l) := h2
  have Hl : Hid (l.length = m) := hl
  clear h1 h2 hl
  go_enter Tryz.func34, Tryz.ntmps34
  go_wp2
  go_loopw [13] (fun i wr => ∃ k : Nat, k ≤ m ∧ i = .int .i64 k ∧ ∃ nq, wr = w.drewN nq) (fun i _ => m - (intOf i).toNat)
  case atStart => exact ⟨0, Nat.zero_le _, rfl, 0, rfl⟩
  case round =>
    obtain ⟨k, hk, rfl, nq0, rfl⟩ := hrel
    by_cases hlt : k < m
    · have hlt' : (k : Int) < (m : Int) := by omega
      obtain ⟨x, hx⟩ : ∃ x, l[k]? = some x := ⟨_, List.getElem?_eq_getElem (by have := Hl.out; omega)⟩
      obtain ⟨b, off, rfl, hb, hat⟩ := H1.out.at hx
      obtain ⟨b', off', rfl, hb', hat'⟩ := H2.out.at hx
      obtain ⟨a0, a1, a2⟩ := hat.all hx
      obtain ⟨b0, b1, b2⟩ := hat'.all hx
      have hne := neqF x x
      rw [K3.b_self] at hne
      clear hx hat hat'
      go_wp2
      go_quiet (fail)
      go_wp2
      go_roundw
      case rel => first | exact ⟨k + 1, by omega, by go_num, _, rfl⟩ | exact ⟨k + 1, by omega, by go_num, _, drewN_trans _ _ _⟩
      case measure => simp [intOf]; omega
    · obtain rfl : k = m := by omega
      go_wp2
      go_ret
      exact ⟨rfl, nq0, rfl⟩
set_option maxHeartbeats 4000000 in
theorem sameB_in (w : World) (a1 a1' a2 a2' : Option Addr) (m m' c1 c1' c2 c2' : Nat) (us : List K10) (fs : List K3) (hl : us.length = m) (hl' : fs.length = m') (hm : m ≤ 1000) (hm' : m' ≤ 1000) (u1 : ArgU w a1 us) (f1 : ArgF w a1' fs) (u2 : ArgU w a2 us) (f2 : ArgF w a2' fs) :
    Calls Tryz.prog 13 #[.agg (brdV a1 m c1 a1' m' c1'), .agg (brdV a2 m c2 a2' m' c2')] w fun e w' => e = .returned (.bool true) ∧ Below w.heap.size w w' := by
  have B1 : Below w.heap.size w (w.alloc (.cells (brdV a1 m c1 a1' m' c1') 27)) := (Below.refl _ _).alloc (Nat.le_refl _) _
  obtain ⟨W2, HW2⟩ : ∃ W2, Hid (W2 = (w.alloc (.cells (brdV a1 m c1 a1' m' c1') 27)).alloc (.cells (brdV a2 m c2 a2' m' c2') 27)) := ⟨_, rfl⟩
  have B2 : Below w.heap.size w W2 := by rw [HW2.out]; exact B1.alloc (by rw [size_new]; omega) _
  have r0 : W2.rowIs w.heap.size 27 2 (fun i => if i = 0 then .slice a1 m c1 else .slice a1' m' c1') := by
    rw [HW2.out]
    have r := rowTwo w (.slice a1 m c1) (.slice a1' m' c1') 27
    exact r.of_block (((Below.refl _ _).alloc (Nat.le_refl _) _).block _ r.lt)
  have r1 : W2.rowIs (w.heap.size + 1) 27 2 (fun i => if i = 0 then .slice a2 m c2 else .slice a2' m' c2') := by
    rw [HW2.out]
    have r := rowTwo (w.alloc (.cells (brdV a1 m c1 a1' m' c1') 27)) (.slice a2 m c2) (.slice a2' m' c2') 27
    rw [size_new] at r
    exact r
  have cU := eqU_same W2 a1 a2 m c1 c2 us hl hm (u1.later B2) (u2.later B2)
  have cF := fun nq => eqF_same (W2.drewN nq) a1' a2' m' c1' c2' fs hl' hm' ((f1.later B2).drewN' nq) ((f2.later B2).drewN' nq)
  obtain ⟨p0, p1, pl⟩ := row_brd r0
  obtain ⟨q0, q1, ql⟩ := row_brd r1
  clear u1 f1 u2 f2 B1
  go_enter Tryz.func13, Tryz.ntmps13
  go_upto_region 1 with fail
  rw [← HW2.out]
  go_wp2_with fail
  refine cU.mono ?_
  rintro e w1 ⟨rfl, nq, rfl⟩
  go_wp2_with fail
  refine (cF nq).mono ?_
  rintro e w1 ⟨rfl, nq2, rfl⟩
  go_wp2
  go_ret
  exact ⟨rfl, B2.trans ((below_drewN _ (nq + nq2)).mono B2.size)⟩
end Go.Proofs.YtppgjmpdnpidnaaGreatDoor
end

/- LawBoards0 -/
/- Contracts of the law's own helper on lists of numbers. No condition. -/
section
namespace Go.Proofs.YtppgjmpdnpidnaaGreatDoor
open Go.ChangeShapes Go.WideShapes Go.ChangeAt Go.RowKit
open Bd
set_option linter.unusedVariables false

theorem SlI.arg {w : World} {base : Nat} {v : Value} {l : List Int} (h : SlI w base v l) : ∃ a cap, v = .slice a l.length cap ∧ (l = [] ∨ ∃ b, a = some ⟨b, 0, none⟩ ∧ b < w.heap.size ∧ ∀ i x, l[i]? = some x → w.cell? ⟨b, i, none⟩ = some (.int .i64 x)) := by
  rcases h.2 with ⟨h1, h2⟩ | ⟨g, cap, cur, hv, hbb, hg, h4, h5, h6, h7⟩
  · exact ⟨none, 0, by rw [h1, h2], .inl (List.eq_nil_of_length_eq_zero h2)⟩
  · refine ⟨_, cap, hv, .inr ⟨g, rfl, (Array.getElem?_eq_some_iff.1 hg).1, fun i x hi => ?_⟩⟩
    have hil : i < l.length := (List.getElem?_eq_some_iff.1 hi).1
    have e : (l.map (Value.int .i64))[i]? = some (.int .i64 x) := by rw [List.getElem?_map, hi]; rfl
    rw [← h7, List.getElem?_take, if_pos (by omega)] at e
    simp [World.cell?, hg]
    simpa using e
set_option maxHeartbeats 2000000 in
theorem lwNums_same (w : World) (v1 v2 : Value) (b1 b2 : Nat) (l : List Int) (h1 : SlI w b1 v1 l) (h2 : SlI w b2 v2 l) (hm : l.length ≤ 1000) :
    Calls Tryz.prog 10 #[v1, v2] w fun e w' => e = .returned (.bool true) ∧ Below w.heap.size w w' := by
  obtain ⟨a1, c1, rfl, k1⟩ := h1.arg
  obtain ⟨a2, c2, rfl, k2⟩ := h2.arg
  have K1 : Hid (l = [] ∨ ∃ b, a1 = some ⟨b, 0, none⟩ ∧ b < w.heap.size ∧ ∀ i x, l[i]? = some x → w.cell? ⟨b, i, none⟩ = some (.int .i64 x)) := k1
  have K2 : Hid (l = [] ∨ ∃ b, a2 = some ⟨b, 0, none⟩ ∧ b < w.heap.size ∧ ∀ i x, l[i]? = some x → w.cell? ⟨b, i, none⟩ = some (.int .i64 x)) := k2
  obtain ⟨m, Hm⟩ : ∃ m, Hid (l.length = m) := ⟨_, rfl⟩
  rw [Hm.out] at hm ⊢
  have nm : ((m : Int) != (m : Int)) = false := by simp
  clear k1 k2 h1 h2
  go_enter Tryz.func10, Tryz.ntmps10
  go_wp2
  go_loopw [5] (fun i wr => ∃ k : Nat, k ≤ m ∧ i = .int .i64 k ∧ ∃ nq, wr = w.drewN nq) (fun i _ => m - (intOf i).toNat)
  case atStart => exact ⟨0, Nat.zero_le _, rfl, 0, rfl⟩
  case round =>
    obtain ⟨k, hk, rfl, nq0, rfl⟩ := hrel
    by_cases hlt : k < m
    · have hlt' : (k : Int) < (m : Int) := by omega
      obtain ⟨x, hx⟩ : ∃ x, l[k]? = some x := ⟨_, List.getElem?_eq_getElem (by have := Hm.out; omega)⟩
      obtain ⟨b, rfl, hb, hc⟩ : ∃ b, a1 = some ⟨b, 0, none⟩ ∧ b < w.heap.size ∧ ∀ i x, l[i]? = some x → w.cell? ⟨b, i, none⟩ = some (.int .i64 x) := by
        rcases K1.out with h | h
        · rw [h] at hx; simp at hx
        · exact h
      obtain ⟨b', rfl, hb', hc'⟩ : ∃ b, a2 = some ⟨b, 0, none⟩ ∧ b < w.heap.size ∧ ∀ i x, l[i]? = some x → w.cell? ⟨b, i, none⟩ = some (.int .i64 x) := by
        rcases K2.out with h | h
        · rw [h] at hx; simp at hx
        · exact h
      have p := hc k x hx
      have q := hc' k x hx
      have nx : (x != x) = false := by simp
      clear hx hc hc'
      go_wp2
      go_quiet (fail)
      go_wp2
      go_roundw
      case rel => first | exact ⟨k + 1, by omega, by go_num, _, rfl⟩ | exact ⟨k + 1, by omega, by go_num, _, drewN_trans _ _ _⟩
      case measure => simp [intOf]; omega
    · obtain rfl : k = m := by omega
      go_wp2
      go_ret
      exact ⟨rfl, below_drewN _ _⟩
end Go.Proofs.YtppgjmpdnpidnaaGreatDoor
end

/- LawClocks -/
/- The walk of the law FnClocks. Condition: the homes lie in their variable. -/
section
namespace Go.Proofs.YtppgjmpdnpidnaaGreatDoor
open Go.ChangeShapes Go.WideShapes Go.ChangeAt Go.RowKit
open Bd
set_option linter.unusedVariables false

theorem DW.ckE {x : KW} (h : DW x) : ckC hasI x = ckC hasS x := by unfold ckC; rw [h.wf]
theorem DW.rmE {x : KW} (h : DW x) : rmV hasI x = rmV hasS x := by unfold rmV; rw [h.wf]
/- the board's own tick, where the world's goes well -/
theorem tickBoard_x (p : WP) (x : KW) (w : World) (hL : HmAt w) (h : InW w p x) (w0 : wf hasI x = 0) (X : KW) (hu : X.us = (ckS x).us) (hf : X.fs = (ckS x).fs) (R cap : Nat) (hR : Lst w R cap (rmL x.fa)) :
    Calls Tryz.prog 14 #[.agg #[.slice p.u x.us.length p.uc, .slice p.f x.fs.length p.fc], .slice (some ⟨R, 0, none⟩) 4 cap] w fun e w' => ∃ (g : Value) (l : Int) (pv : Option Addr) (cv : Nat) (pf : Option Addr) (cf : Nat), e = .returned (.agg #[.int .i64 0, g, .int .i64 l, .slice pv X.us.length cv, .slice pf X.fs.length cf]) ∧ ArgU w' pv X.us ∧ ArgF w' pf X.fs ∧ Below w.heap.size w w' := by
  have g := (gdW_iff hasI x).1 w0
  have cT := implTickBoard p.u x.us.length p.uc p.f x.fs.length p.fc R 0 4 cap x.us x.fs (rmL x.fa) w hL ⟨rfl, rfl, by rw [rmL_len]; exact g.a4, by omega, h.u, h.f, hR.iat, hR.lt⟩
  rw [ck_tm w0] at cT
  refine cT.mono ?_
  rintro e w' ⟨q, v, f, rfl, R5, k⟩
  obtain ⟨pv, cv, rfl, IU⟩ := R5.u.in
  obtain ⟨pf, cf, rfl, IF⟩ := R5.f.in
  rw [hu, hf]
  exact ⟨q, _, pv, cv, pf, cf, rfl, IU.arg, IF.arg, k⟩
set_option maxRecDepth 20000 in
set_option maxHeartbeats 64000000 in
theorem clocks_walk (a : Option Addr) (len cap : Nat) (W : World) (hb : Bytes W a len W.heap.size) (hL : HmAt W) :
    Calls Tryz.prog 3 #[.slice a len cap] W fun e w' => e = .returned (.bool true) ∧ Below W.heap.size W w' := by
  by_cases hl : len ≤ 1048576
  · have cB := fun w => lwBig_no w a len cap hl
    have f1 : ∀ (x y : Value) (w : World), (Instr.field 44 (.agg #[x, y]) 1).run Tryz.prog w = .ok y w := fun _ _ _ => by kernel_rfl
    have s0 : ∀ (x y : Value) (w : World), (Instr.field 39 (.agg #[x, y]) 0).run Tryz.prog w = .ok x w := fun _ _ _ => by kernel_rfl
    have s1 : ∀ (x y : Value) (w : World), (Instr.field 39 (.agg #[x, y]) 1).run Tryz.prog w = .ok y w := fun _ _ _ => by kernel_rfl
    have g0 : ∀ (v0 v1 v2 v3 v4 v5 v6 v7 : Value) (w : World), (Instr.field 35 (.agg #[v0, v1, v2, v3, v4, v5, v6, v7]) 0).run Tryz.prog w = .ok v0 w := fun _ _ _ _ _ _ _ _ _ => by kernel_rfl
    have f3 : ∀ (x g l v f : Value) (w : World), (Instr.field 48 (.agg #[x, g, l, v, f]) 3).run Tryz.prog w = .ok (.agg #[v, f]) w := fun _ _ _ _ _ _ => by kernel_rfl
    go_enter Tryz.func3, Tryz.ntmps3
    go_wp2_with (go_at_call 4; refine (cB _).mono ?_; rintro e w1 ⟨rfl, hw1⟩; obtain rfl := hw1.symm)
    refine (drawTickWorld_c W a len cap hb hl).mono ?_
    rintro e w1 ⟨p, x, rfl, O1, dw, k1⟩
    obtain ⟨W2, HW2⟩ : ∃ W2, Hid (W2 = w1.alloc (.cells (p.v x) 32)) := ⟨_, rfl⟩
    have k2 : Below w1.heap.size w1 W2 := by rw [HW2.out]; exact (Below.refl _ _).alloc (Nat.le_refl _) _
    have X2 : Blk W2 w1.heap.size (p.v x) 32 := by rw [HW2.out]; exact Blk.new w1 _ _
    have B2 := k1.trans (k2.mono k1.size)
    have O2 := O1.later k2
    have HLm : Hid (HmAt W2) := hL.later B2
    have cI := implTickWorld p x W2 HLm.out O2.in
    have HX : Hid (Blk W2 w1.heap.size (p.v x) 32) := X2
    have HO : Hid (OwW W2 W.heap.size p x) := O2
    have HB2 : Hid (Below W.heap.size W W2) := B2
    have hux : x.us.length ≤ 8 := dw.u
    have hfx : x.fs.length ≤ 5 := dw.f
    have eC := dw.ckE
    have eR := dw.rmE
    have eF := dw.wf
    obtain ⟨a0, a1, a2, a3, a4, a5, a6, al⟩ := X2.c7
    clear O1 k1 k2 X2 B2 O2 dw hb cB hL
    have good : ckC hasI x = 0 → CkG hasI x := ck_good
    obtain ⟨C, HC⟩ : ∃ C, Hid (C = ckC hasI x) := ⟨_, rfl⟩
    obtain ⟨X, HXX⟩ : ∃ X, Hid (X = ckX hasI x) := ⟨_, rfl⟩
    obtain ⟨F, HF⟩ : ∃ C, Hid (C = wf hasI x) := ⟨_, rfl⟩
    obtain ⟨L, HL⟩ : ∃ C, Hid (C = rmV hasI x) := ⟨_, rfl⟩
    have cR0 := fun W' (h : Below W2.heap.size W2 W') => implRoomsOf p x W' (HO.out.later h).in
    have cRS := fun W' (h : Below W2.heap.size W2 W') => specRoomsOf p x W' (HO.out.later h).in
    have cTS := fun W' (h : Below W2.heap.size W2 W') => specTickWorld p x W' (HO.out.later h).in
    rw [← eF, ← eR, ← HF.out, ← HL.out] at cRS
    rw [← HF.out, ← HL.out] at cR0
    rw [← eC, ← HC.out] at cTS
    rw [← HC.out] at cI good
    rw [← HXX.out] at cI
    have Hgood : Hid (C = 0 → CkG hasI x) := good
    have hL1000 : L.length ≤ 1000 := by
      rw [HL.out]; unfold rmV
      split
      · rename_i e
        rw [rmL_len, ((gdW_iff hasI x).1 (by simpa using e)).a4]; omega
      · simp
    obtain ⟨n, Hn⟩ : ∃ n, Hid (L.length = n) := ⟨_, rfl⟩
    have HL1 : Hid (L.length ≤ 1000) := hL1000
    clear eC eR eF good hL1000
    go_upto_region 4 with fail
    rw [← HW2.out]
    go_wp2_with fail
    refine cI.mono ?_
    rintro e w3 ⟨q, rfl, O3, k3⟩
    obtain ⟨W4, HW4⟩ : ∃ W4, Hid (W4 = w3.alloc (.cells (r8 C q X) 35)) := ⟨_, rfl⟩
    have k4 : Below w3.heap.size w3 W4 := by rw [HW4.out]; exact (Below.refl _ _).alloc (Nat.le_refl _) _
    have HP : Hid (Blk W4 w3.heap.size (r8 C q X) 35) := by show Blk _ _ _ _; rw [HW4.out]; exact Blk.new w3 _ _
    have K4 : Below W2.heap.size W2 W4 := k3.trans (k4.mono k3.size)
    have HO4 : Hid (OwW W4 W2.heap.size q X) := O3.later k4
    clear cI O3 k3 k4 a0 a1 a2 a3 a4 a5 a6 al
    obtain ⟨a0, a1, a2, a3, a4, a5, a6, al⟩ := (HX.out.below K4).c7
    go_upto_region 5 with fail
    rw [← HW4.out]
    go_wp2_with fail
    refine (cR0 _ K4).mono ?_
    rintro e w5 ⟨v, rfl, Sv, k5⟩
    obtain ⟨hq, hc, rfl⟩ := Sv.form
    rw [Hn.out] at Sv ⊢
    obtain ⟨W6, HW6⟩ : ∃ W6, Hid (W6 = w5.alloc (.cells #[.int .i64 F, .slice hq n hc] 39)) := ⟨_, rfl⟩
    have k6 : Below w5.heap.size w5 W6 := by rw [HW6.out]; exact (Below.refl _ _).alloc (Nat.le_refl _) _
    have HR6 : Hid (Blk W6 w5.heap.size #[.int .i64 F, .slice hq n hc] 39) := by show Blk _ _ _ _; rw [HW6.out]; exact Blk.new w5 _ _
    have L4 : Below W4.heap.size W4 W6 := k5.trans (k6.mono k5.size)
    have L2 : Below W2.heap.size W2 W6 := K4.trans (L4.mono K4.size)
    have HL4 : Hid (Below W4.heap.size W4 W6) := L4
    have HL2 : Hid (Below W2.heap.size W2 W6) := L2
    have HI : Hid (SlI W6 W4.heap.size (.slice hq n hc) L) := Sv.below k6
    have HB6 : Hid (Below W.heap.size W W6) := HB2.out.trans (L2.mono HB2.out.size)
    have keep : ∀ w', Below W6.heap.size W6 w' → w'.cell? ⟨w1.heap.size, 0, none⟩ = some (.int .i64 x.t) ∧ w'.cell? ⟨w1.heap.size, 1, none⟩ = some (.int .i64 x.s) ∧ w'.cell? ⟨w1.heap.size, 2, none⟩ = some (.slice p.u x.us.length p.uc) ∧ w'.cell? ⟨w1.heap.size, 3, none⟩ = some (.slice p.f x.fs.length p.fc) ∧ w'.cell? ⟨w1.heap.size, 4, none⟩ = some (.slice p.a x.fa.length p.ac) ∧ w'.cell? ⟨w1.heap.size, 5, none⟩ = some (.slice p.s x.se.length p.sc) ∧ w'.cell? ⟨w1.heap.size, 6, none⟩ = some (.slice p.o x.oo.length p.oc) ∧ w'.cell? ⟨w3.heap.size, 0, none⟩ = some (.int .i64 C) ∧ w'.cell? ⟨w3.heap.size, 1, none⟩ = some (.int .i64 X.t) ∧ w'.cell? ⟨w3.heap.size, 2, none⟩ = some (.int .i64 X.s) ∧ w'.cell? ⟨w3.heap.size, 3, none⟩ = some (.slice q.u X.us.length q.uc) ∧ w'.cell? ⟨w3.heap.size, 4, none⟩ = some (.slice q.f X.fs.length q.fc) ∧ w'.cell? ⟨w3.heap.size, 5, none⟩ = some (.slice q.a X.fa.length q.ac) ∧ w'.cell? ⟨w3.heap.size, 6, none⟩ = some (.slice q.s X.se.length q.sc) ∧ w'.cell? ⟨w3.heap.size, 7, none⟩ = some (.slice q.o X.oo.length q.oc) ∧ w'.cell? ⟨w5.heap.size, 0, none⟩ = some (.int .i64 F) ∧ w'.cell? ⟨w5.heap.size, 1, none⟩ = some (.slice hq n hc) ∧ w1.heap.size < w'.heap.size ∧ w3.heap.size < w'.heap.size ∧ w5.heap.size < w'.heap.size := fun w' h => by
      obtain ⟨a0, a1, a2, a3, a4, a5, a6, al⟩ := (HX.out.below (HL2.out.trans (h.mono HL2.out.size))).c7
      have P7 := HP.out.below (HL4.out.trans (h.mono HL4.out.size))
      have R7 := HR6.out.below h
      exact ⟨a0, a1, a2, a3, a4, a5, a6, P7.cell rfl, P7.cell rfl, P7.cell rfl, P7.cell rfl, P7.cell rfl, P7.cell rfl, P7.cell rfl, P7.cell rfl, R7.cell rfl, R7.cell rfl, al, P7.lt, R7.lt⟩
    clear a0 a1 a2 a3 a4 a5 a6 al cR0 Sv k5 k6 K4 L4 L2
    replace cRS := fun W' (h : Below W6.heap.size W6 W') => cRS W' (HL2.out.trans (h.mono HL2.out.size))
    replace cTS := fun W' (h : Below W6.heap.size W6 W') => cTS W' (HL2.out.trans (h.mono HL2.out.size))
    have Bc : Below W6.heap.size W6 W6.drew := (Below.refl _ _).drew
    obtain ⟨a0, a1, a2, a3, a4, a5, a6, c0, c1, c2, c3, c4, c5, c6, c7, h0, h1, al, cl, hl5⟩ := keep _ (Below.refl _ _)
    have nF : (F != F) = false := by simp
    have nCC : (C != C) = false := by simp
    go_upto_region 6 with fail
    rw [← HW6.out]
    clear HW6 HW4 HW2
    go_region_held3 (fun w' => w'.cell? ⟨w1.heap.size, 0, none⟩ = some (.int .i64 x.t) ∧ w'.cell? ⟨w1.heap.size, 1, none⟩ = some (.int .i64 x.s) ∧ w'.cell? ⟨w1.heap.size, 2, none⟩ = some (.slice p.u x.us.length p.uc) ∧ w'.cell? ⟨w1.heap.size, 3, none⟩ = some (.slice p.f x.fs.length p.fc) ∧ w'.cell? ⟨w1.heap.size, 4, none⟩ = some (.slice p.a x.fa.length p.ac) ∧ w'.cell? ⟨w1.heap.size, 5, none⟩ = some (.slice p.s x.se.length p.sc) ∧ w'.cell? ⟨w1.heap.size, 6, none⟩ = some (.slice p.o x.oo.length p.oc) ∧ w'.cell? ⟨w3.heap.size, 0, none⟩ = some (.int .i64 C) ∧ w'.cell? ⟨w3.heap.size, 1, none⟩ = some (.int .i64 X.t) ∧ w'.cell? ⟨w3.heap.size, 2, none⟩ = some (.int .i64 X.s) ∧ w'.cell? ⟨w3.heap.size, 3, none⟩ = some (.slice q.u X.us.length q.uc) ∧ w'.cell? ⟨w3.heap.size, 4, none⟩ = some (.slice q.f X.fs.length q.fc) ∧ w'.cell? ⟨w3.heap.size, 5, none⟩ = some (.slice q.a X.fa.length q.ac) ∧ w'.cell? ⟨w3.heap.size, 6, none⟩ = some (.slice q.s X.se.length q.sc) ∧ w'.cell? ⟨w3.heap.size, 7, none⟩ = some (.slice q.o X.oo.length q.oc) ∧ w'.cell? ⟨w5.heap.size, 0, none⟩ = some (.int .i64 F) ∧ w'.cell? ⟨w5.heap.size, 1, none⟩ = some (.slice hq n hc)) (first | exact (by obtain ⟨a0, a1, a2, a3, a4, a5, a6, c0, c1, c2, c3, c4, c5, c6, c7, h0, h1, _, _, _⟩ := keep _ Bc; exact ⟨a0, a1, a2, a3, a4, a5, a6, c0, c1, c2, c3, c4, c5, c6, c7, h0, h1⟩) | go_keep) (first
        | (go_at_call 8; with_reducible refine (cTS _ Bc).mono ?_; rintro e wn ⟨t', s', u1, n1, k1, u2, n2, k2, u3, n3, k3, u4, n4, k4, u5, n5, k5, rfl, kn⟩; have Bc := Bc.trans (kn.mono Bc.size); obtain ⟨a0, a1, a2, a3, a4, a5, a6, c0, c1, c2, c3, c4, c5, c6, c7, h0, h1, al, cl, hl5⟩ := keep _ Bc)
        | (go_at_call 9; with_reducible refine (cRS _ Bc).mono ?_; rintro e wn ⟨v, rfl, Sv, kn⟩; obtain ⟨pv, cv, rfl⟩ := Sv.form; rw [Hn.out] at Sv ⊢; have Bc := Bc.trans (kn.mono Bc.size); obtain ⟨a0, a1, a2, a3, a4, a5, a6, c0, c1, c2, c3, c4, c5, c6, c7, h0, h1, al, cl, hl5⟩ := keep _ Bc)
        | (go_at_call 10; refine (lwNums_same _ _ _ _ _ L (HI.out.below Bc) Sv HL1.out).mono ?_; rintro e wn ⟨rfl, kn⟩; have Bc := Bc.trans (kn.mono Bc.size); obtain ⟨a0, a1, a2, a3, a4, a5, a6, c0, c1, c2, c3, c4, c5, c6, c7, h0, h1, al, cl, hl5⟩ := keep _ Bc))
    clear cRS cTS nF nCC
    go_upto_region 8 with fail
    cases e2 : C == 0
    · have n7 : (C != 0) = true := by simp only [bne, e2]; rfl
      go_wp2_with fail
      go_ret
      exact ⟨rfl, HB6.out.trans (Bc.mono HB6.out.size)⟩
    · obtain rfl : C = 0 := by simpa using e2
      have G := Hgood.out rfl
      have w0 := G.w0
      have Gx := (gdW_iff hasI x).1 w0
      have gw : wf hasI X = 0 := by rw [HXX.out]; exact G.wf0
      have htX : Hid (toV hasI X = totF x) := by show _ = _; unfold toV; rw [gw, HXX.out, G.tot]; rfl
      have htx : Hid (toV hasI x = totF x) := by show _ = _; unfold toV; rw [w0]; rfl
      have hu : X.us = (ckS x).us := by rw [HXX.out]; exact G.us
      have hf : X.fs = (ckS x).fs := by rw [HXX.out]; exact G.fs
      have htk : X.t = x.t + 1 := by rw [HXX.out]; exact G.tk
      have GX := (gdW_iff hasI X).1 gw
      obtain ⟨tb0, tb1⟩ := inb_i G.tb
      have hwT : IntKind.i64.wrap (x.t + 1) = x.t + 1 := by rw [IntKind.wrap_i64]; omega
      have nTk : (X.t == x.t + 1) = true := by rw [htk]; simp
      have hLe : L = rmL x.fa := by rw [HL.out]; unfold rmV; rw [w0]; rfl
      have h4 : L.length = 4 := by rw [hLe, rmL_len]; exact Gx.a4
      have Hu8 : Hid (X.us.length ≤ 1000 ∧ X.fs.length ≤ 1000) := ⟨by have := (Gd8 GX.b).1; omega, by have := (Gd8 GX.b).2; omega⟩
      obtain ⟨R4, cap4, hv, hRb, LR⟩ := HI.out.four h4
      injection hv with v1 v2 v3
      subst v1 v2 v3
      rw [hLe] at LR
      have HLR : Hid (Lst W6 R4 hc (rmL x.fa)) := LR
      have cF := fun W' (h : Below W6.heap.size W6 W') => implWorldFault q X (HO4.out.in.o1) (HO4.out.in.o2) W' (HO4.out.later (HL4.out.trans (h.mono HL4.out.size))).in.arg
      rw [gw] at cF
      have cTX := fun W' (h : Below W6.heap.size W6 W') => implTotalOf q X W' (HO4.out.later (HL4.out.trans (h.mono HL4.out.size))).in
      have cTx := fun W' (h : Below W6.heap.size W6 W') => implTotalOf p x W' (HO.out.later (HL2.out.trans (h.mono HL2.out.size))).in
      rw [htX.out] at cTX
      rw [htx.out] at cTx
      have nT : (totF x == totF x) = true := by simp
      generalize totF x = TT at cTX cTx nT
      have cB := fun W' (h : Below W6.heap.size W6 W') => tickBoard_x p x W' (HLm.out.later (HL2.out.trans (h.mono HL2.out.size))) (HO.out.later (HL2.out.trans (h.mono HL2.out.size))).in w0 X hu hf R4 hc (HLR.out.below h)
      have cS := fun W' (h : Below W6.heap.size W6 W') (pv : Option Addr) (cv : Nat) (pf : Option Addr) (cf : Nat) (hU : ArgU W' pv X.us) (hF : ArgF W' pf X.fs) => sameB_in W' q.u q.f pv pf X.us.length X.fs.length q.uc q.fc cv cf X.us X.fs rfl rfl Hu8.out.1 Hu8.out.2 (HO4.out.later (HL4.out.trans (h.mono HL4.out.size))).in.u.arg (HO4.out.later (HL4.out.trans (h.mono HL4.out.size))).in.f.arg hU hF
      clear G Gx gw htX htx hu hf htk GX hLe h4 hRb LR e2 w0 hux hfx Hgood tb0 tb1 HL HI
      have Bc := Bc.trans ((Below.refl _ _).drew.mono Bc.size)
      clear a0 a1 a2 a3 a4 a5 a6 c0 c1 c2 c3 c4 c5 c6 c7 h0 h1 al cl hl5
      go_upto_region 10 with fail
      obtain ⟨a0, a1, a2, a3, a4, a5, a6, c0, c1, c2, c3, c4, c5, c6, c7, h0, h1, al, cl, hl5⟩ := keep _ Bc
      go_region_held3 (fun w' => w'.cell? ⟨w1.heap.size, 0, none⟩ = some (.int .i64 x.t) ∧ w'.cell? ⟨w1.heap.size, 1, none⟩ = some (.int .i64 x.s) ∧ w'.cell? ⟨w1.heap.size, 2, none⟩ = some (.slice p.u x.us.length p.uc) ∧ w'.cell? ⟨w1.heap.size, 3, none⟩ = some (.slice p.f x.fs.length p.fc) ∧ w'.cell? ⟨w1.heap.size, 4, none⟩ = some (.slice p.a x.fa.length p.ac) ∧ w'.cell? ⟨w1.heap.size, 5, none⟩ = some (.slice p.s x.se.length p.sc) ∧ w'.cell? ⟨w1.heap.size, 6, none⟩ = some (.slice p.o x.oo.length p.oc) ∧ w'.cell? ⟨w3.heap.size, 0, none⟩ = some (.int .i64 0) ∧ w'.cell? ⟨w3.heap.size, 1, none⟩ = some (.int .i64 X.t) ∧ w'.cell? ⟨w3.heap.size, 2, none⟩ = some (.int .i64 X.s) ∧ w'.cell? ⟨w3.heap.size, 3, none⟩ = some (.slice q.u X.us.length q.uc) ∧ w'.cell? ⟨w3.heap.size, 4, none⟩ = some (.slice q.f X.fs.length q.fc) ∧ w'.cell? ⟨w3.heap.size, 5, none⟩ = some (.slice q.a X.fa.length q.ac) ∧ w'.cell? ⟨w3.heap.size, 6, none⟩ = some (.slice q.s X.se.length q.sc) ∧ w'.cell? ⟨w3.heap.size, 7, none⟩ = some (.slice q.o X.oo.length q.oc) ∧ w'.cell? ⟨w5.heap.size, 0, none⟩ = some (.int .i64 F) ∧ w'.cell? ⟨w5.heap.size, 1, none⟩ = some (.slice (some ⟨R4, 0, none⟩) 4 hc)) (first | exact (by obtain ⟨a0, a1, a2, a3, a4, a5, a6, c0, c1, c2, c3, c4, c5, c6, c7, h0, h1, _, _, _⟩ := keep _ Bc; exact ⟨a0, a1, a2, a3, a4, a5, a6, c0, c1, c2, c3, c4, c5, c6, c7, h0, h1⟩) | go_keep) (first
          | (go_at_call 11; with_reducible refine (cF _ Bc).mono ?_; rintro e wn ⟨rfl, kn⟩; have Bc := Bc.trans (kn.mono Bc.size); obtain ⟨a0, a1, a2, a3, a4, a5, a6, c0, c1, c2, c3, c4, c5, c6, c7, h0, h1, al, cl, hl5⟩ := keep _ Bc)
          | (go_at_call 12; with_reducible refine (cTX _ Bc).mono ?_; rintro e wn ⟨rfl, kn⟩; have Bc := Bc.trans (kn.mono Bc.size); obtain ⟨a0, a1, a2, a3, a4, a5, a6, c0, c1, c2, c3, c4, c5, c6, c7, h0, h1, al, cl, hl5⟩ := keep _ Bc)
          | (go_at_call 12; with_reducible refine (cTx _ Bc).mono ?_; rintro e wn ⟨rfl, kn⟩; have Bc := Bc.trans (kn.mono Bc.size); obtain ⟨a0, a1, a2, a3, a4, a5, a6, c0, c1, c2, c3, c4, c5, c6, c7, h0, h1, al, cl, hl5⟩ := keep _ Bc)
          | (go_at_call 14; with_reducible refine (cB _ Bc).mono ?_; rintro e wn ⟨g, l, pv, cv, pf, cf, rfl, UA, FA, kn⟩; have Bc := Bc.trans (kn.mono Bc.size); obtain ⟨a0, a1, a2, a3, a4, a5, a6, c0, c1, c2, c3, c4, c5, c6, c7, h0, h1, al, cl, hl5⟩ := keep _ Bc)
          | (go_at_call 13; with_reducible refine (cS _ Bc pv cv pf cf UA FA).mono ?_; rintro e wn ⟨rfl, kn⟩; have Bc := Bc.trans (kn.mono Bc.size); obtain ⟨a0, a1, a2, a3, a4, a5, a6, c0, c1, c2, c3, c4, c5, c6, c7, h0, h1, al, cl, hl5⟩ := keep _ Bc))
      all_goals
        go_wp2_with fail
        go_ret
        exact ⟨rfl, HB6.out.trans (Bc.mono HB6.out.size)⟩
  · go_enter Tryz.func3, Tryz.ntmps3
    go_wp2_with fail
    refine (lwBig_yes _ a len cap (by omega)).mono ?_
    rintro e w' ⟨rfl, rfl⟩
    go_wp2
    go_ret
    exact ⟨rfl, Below.refl _ _⟩
end Go.Proofs.YtppgjmpdnpidnaaGreatDoor
end

/- OpenBoard -/
/- Units, boards and numbers that came in: what they are in memory. No condition. -/
section
namespace Go.Proofs.YtppgjmpdnpidnaaGreatDoor
open Go.ChangeShapes Go.WideShapes Go.ChangeAt Go.RowKit
set_option linter.unusedVariables false

end Go.Proofs.YtppgjmpdnpidnaaGreatDoor
end
