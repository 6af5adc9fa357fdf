/- Texts of mine put together (a claim holds at most 60 files): LawRests, OpenBoard, TickLaid, LawRestsRow. -/
import Derived.Test.YtepjkcfheejlbaaDoorPartR23
import Derived.Test.YtepjkcfheejlbaaDoorPartR00
import Derived.ChangeArms
import Derived.WideShapes
import Derived.Test.YtepjkcfheejlbaaDoorPartR12
import Derived.Test.YtepjkcfheejlbaaDoorPartR16
import Derived.LaidMore
import Derived.LaidLaws
import Derived.Lib.LaidTab
import Derived.Stop.Joined
import Derived.Stop.LaidErr
import Derived.ChangeSlices

/- LawRests -/
/- The walk of the law FnRests. Condition: the homes lie in their variable. -/
section
namespace Go.Proofs.YtepjkcfheejlbaaDoor
open Go.ChangeShapes Go.WideShapes Go.ChangeAt Go.RowKit
open Bd
set_option linter.unusedVariables false

abbrev mvA (x y p q : Int) : Array Value := #[.int .i64 1, .int .i64 2, .int .i64 p, .int .i64 q, .int .i64 5, .int .i64 0, .int .i64 1, .int .i64 x, .int .i64 y, .int .i64 0]
abbrev rmA : Array Value := #[.int .i64 1000000, .int .i64 1000000, .int .i64 1000000, .int .i64 1000000]
abbrev rmM : List Int := [1000000, 1000000, 1000000, 1000000]
theorem uat1 {w : World} {g : Nat} {x : K10} {t : TypeId} (h : Blk w g x.v t) : UAt w g 0 [x] := by
  intro i y hi f hf
  rcases i with _ | i
  · simp at hi
    subst hi
    simp only [Nat.zero_mul, Nat.zero_add]
    have h6 : f = 0 ∨ f = 1 ∨ f = 2 ∨ f = 3 ∨ f = 4 ∨ f = 5 ∨ f = 6 ∨ f = 7 ∨ f = 8 ∨ f = 9 := by omega
    rcases h6 with rfl | rfl | rfl | rfl | rfl | rfl | rfl | rfl | rfl | rfl <;> exact h.cell rfl
  · simp at hi
theorem rmM_ok : ∀ x ∈ rmM, 0 ≤ x ∧ x ≤ 1000000 := by
  intro x hx
  simp at hx
  subst hx
  omega
set_option maxRecDepth 20000 in
set_option maxHeartbeats 16000000 in
theorem rests_walk (a : Option Addr) (len cap : Nat) (W : World) (hb : Bytes W a len W.heap.size) (hL : HmAt W) :
    Calls Tryd.prog 3 #[.slice a len cap] W fun e w' => e = .returned (.bool true) ∧ Below W.heap.size W w' := by
  by_cases hl : len ≤ 1048576
  · have cB := fun w => lwBig_no w a len cap hl
    go_enter Tryd.func3, Tryd.ntmps3
    go_wp2_with (go_at_call 4; refine (cB _).mono ?_; rintro e w1 ⟨rfl, hw1⟩; obtain rfl := hw1.symm)
    refine (drawIsResting_c W a len cap hb hl).mono ?_
    rintro e w1 ⟨v1, f1, us, fs, rfl, S1, F1, hus, hfs, k1⟩
    obtain ⟨p1, c1, m1, rfl, Hm1, X1⟩ := S1.nm
    obtain ⟨p1', c1', m1', rfl, Hm1', G1⟩ := F1.nm
    obtain ⟨W2, HW2⟩ : ∃ W2, Hid (W2 = w1.alloc (.cells #[.slice p1 m1 c1, .slice p1' m1' c1'] 27)) := ⟨_, rfl⟩
    have k2 : Below w1.heap.size w1 W2 := by rw [HW2.out]; exact (Below.refl _ _).alloc (Nat.le_refl _) _
    have Bb2 : Blk W2 w1.heap.size #[.slice p1 m1 c1, .slice p1' m1' c1'] 27 := by rw [HW2.out]; exact Blk.new w1 #[.slice p1 m1 c1, .slice p1' m1' c1'] 27
    obtain ⟨W4, HW4⟩ : ∃ W4, Hid (W4 = W2.alloc (.cells rmA 2)) := ⟨_, rfl⟩
    have k4 : Below W2.heap.size W2 W4 := by rw [HW4.out]; exact (Below.refl _ _).alloc (Nat.le_refl _) _
    have Rb : Hid (Blk W4 W2.heap.size rmA 2) := by show Blk _ _ _ _; rw [HW4.out]; exact Blk.new W2 rmA 2
    have Bb : Hid (Blk W4 w1.heap.size #[.slice p1 m1 c1, .slice p1' m1' c1'] 27) := Bb2.below k4
    have k24 : Below w1.heap.size w1 W4 := k2.trans (k4.mono k2.size)
    have B4 : Below W.heap.size W W4 := k1.trans (k24.mono k1.size)
    have T4 : Hid (TIn W4 p1 m1 c1 p1' m1' c1' W2.heap.size 0 4 4 us fs rmM) := ⟨Hm1.out, Hm1'.out, rfl, by omega, X1.later k24, G1.later k24, iat4' Rb.out, Rb.out.lt⟩
    have HL : Hid (HmAt W4) := hL.later B4
    have HB : Hid (Bytes W4 a len W4.heap.size) := hb.later B4
    have HB4 : Hid (Below W.heap.size W W4) := B4
    have iR := fun W' (h : Below W4.heap.size W4 W') => implIsResting p1 m1 c1 p1' m1' c1' us fs Hm1.out Hm1'.out W' (T4.out.later h).au (T4.out.later h).af
    have sR := fun W' (h : Below W4.heap.size W4 W') => specIsResting p1 m1 c1 p1' m1' c1' us fs Hm1.out Hm1'.out W' (T4.out.later h).au (T4.out.later h).af
    have cM := fun W' (h : Below W4.heap.size W4 W') => implTickMany p1 m1 c1 p1' m1' c1' W2.heap.size 0 4 4 us fs 3 rmM W' (HL.out.later h) (T4.out.later h)
    clear S1 F1 X1 G1 k1 k2 B4 hb hL cB Bb2 k24 k4
    go_upto_region 4 with fail
    rw [← HW2.out]
    go_upto_region 5 with fail
    rw [← HW4.out]
    go_cut [20] from 16 to 20 (fun s wx => s = .bool false ∧ Below W4.heap.size W4 wx)
    case first =>
      have b0 := fun n : Later W4 => Later.cell Bb.out.lt (Bb.out.cell (i := 0) rfl) n
      have b1 := fun n : Later W4 => Later.cell Bb.out.lt (Bb.out.cell (i := 1) rfl) n
      have iR' := fun n : Later W4 => iR n.at n.bel
      have sR' := fun n : Later W4 => sR n.at n.bel
      clear iR sR cM
      generalize rsB us fs = B at iR' sR'
      cases B
      all_goals
        refine wp_region_later (by kernel_rfl) (by kernel_rfl) (fun hne => ?_)
        repeat (go_big_quiet_step ((first | (go_at_call 6; exact Later.call (iR' _)) | (go_at_call 7; exact Later.call (sR' _)))))
        refine wpQuiet_nil ?_
        rintro _ ⟨nn, rfl⟩
        have hN := nn.bel
        clear b0 b1 iR' sR' hne
        go_wp2_with fail
        go_meet
        case rel => exact ⟨rfl, hN⟩
    case rest =>
      obtain ⟨rfl, Bx⟩ := hcut
      obtain ⟨wx, hwx⟩ : ∃ y : World, y = wc := ⟨_, rfl⟩
      subst hwx
      clear sR
      have Bbx : Hid (Blk wx w1.heap.size #[.slice p1 m1 c1, .slice p1' m1' c1'] 27) := Bb.out.below Bx
      have Tx : Hid (TIn wx p1 m1 c1 p1' m1' c1' W2.heap.size 0 4 4 us fs rmM) := T4.out.later Bx
      go_upto_region 7 with fail
      go_cut [31] from 21 to 31 (fun s wy => s = .bool false ∧ Below W4.heap.size W4 wy)
      case first =>
        have iR' := fun W' (h : Below wx.heap.size wx W') => iR W' (Bx.trans (h.mono Bx.size))
        have cM' := fun W' (h : Below wx.heap.size wx W') => cM W' (Bx.trans (h.mono Bx.size))
        clear iR cM
        cases hB : rsB us fs
        · rw [hB] at iR'
          have b0 := fun n : Later wx => Later.cell Bbx.out.lt (Bbx.out.cell (i := 0) rfl) n
          have b1 := fun n : Later wx => Later.cell Bbx.out.lt (Bbx.out.cell (i := 1) rfl) n
          replace iR' := fun n : Later wx => iR' n.at n.bel
          clear cM' hB
          refine wp_region_later (by kernel_rfl) (by kernel_rfl) (fun hne => ?_)
          repeat (go_big_quiet_step ((first | (go_at_call 6; exact Later.call (iR' _)))))
          refine wpQuiet_nil ?_
          rintro _ ⟨nn, rfl⟩
          have hN := Bx.trans (nn.bel.mono Bx.size)
          clear b0 b1 iR' hne
          go_wp2_with fail
          go_meet
          case rel => exact ⟨rfl, hN⟩
        · rw [hB] at iR'
          obtain ⟨hbf, har⟩ := rsB_ok hB
          have h1 : tkF us fs rmM = 0 := tkF_of (Gd.of hbf) rfl rmM_ok
          have e3 : tmR us fs rmM 3 = .of (ts0 us fs rmM) := by
            have e := tmR_of h1 (n := 3) (by omega)
            rw [rest_ticks (s := ts0 us fs rmM) har] at e
            exact e
          rw [e3] at cM'
          have tgs : Hid (TG (ts0 us fs rmM)) := tg0 h1
          have f3 : ∀ (x g l v f : Value) (w : World), (Instr.field 33 (.agg #[x, g, l, v, f]) 3).run Tryd.prog w = .ok (.agg #[v, f]) w := fun _ _ _ _ _ _ => by kernel_rfl
          have hm1 : m1 ≤ 1000 := by have := Hm1.out; omega
          have hm1' : m1' ≤ 1000 := by have := Hm1'.out; omega
          have same := fun W' (h : Below wx.heap.size wx W') p c p' c' (U' : ArgU W' p us) (F' : ArgF W' p' fs) => sameB_in W' p p' p1 p1' m1 m1' c c' c1 c1' us fs Hm1.out Hm1'.out hm1 hm1' U' F' (Tx.out.later h).au (Tx.out.later h).af
          have keep : ∀ w', Below wx.heap.size wx w' → w'.cell? ⟨w1.heap.size, 0, none⟩ = some (.slice p1 m1 c1) ∧ w'.cell? ⟨w1.heap.size, 1, none⟩ = some (.slice p1' m1' c1') := fun w' h => ⟨(Bbx.out.below h).cell (i := 0) rfl, (Bbx.out.below h).cell (i := 1) rfl⟩
          obtain ⟨b0, b1⟩ := keep wx (Below.refl _ _)
          have bl := Bbx.out.lt
          have Bc : Below wx.heap.size wx wx.drew := (Below.refl _ _).drew
          clear hB hbf har h1 e3
          go_region_held3 (fun w' => w'.cell? ⟨w1.heap.size, 0, none⟩ = some (.slice p1 m1 c1) ∧ w'.cell? ⟨w1.heap.size, 1, none⟩ = some (.slice p1' m1' c1')) (first | exact keep _ Bc | go_keep) (first
            | (go_at_call 6; refine (iR' _ Bc).mono ?_; rintro e wn ⟨rfl, kn⟩; have Bc := Bc.trans (kn.mono Bc.size); obtain ⟨b0, b1⟩ := keep _ Bc)
            | (go_at_call 9; refine (cM' _ Bc).mono ?_; rintro e wn ⟨qm, vm, fm, rfl, Rm, km⟩; obtain ⟨gm, cm, pm, dm, mm, pm', dm', mm', rfl, rfl, rfl, Hmm, Hmm', Lm, Xm, Ym⟩ := Rm.nm tgs.out; obtain rfl : m1 = mm := by rw [← Hm1.out]; exact Hmm.out
               obtain rfl : m1' = mm' := by rw [← Hm1'.out]; exact Hmm'.out
               have Bc := Bc.trans (km.mono Bc.size); obtain ⟨b0, b1⟩ := keep _ Bc)
            | (go_at_call 8; refine (same _ Bc _ _ _ _ Xm.arg Ym.arg).mono ?_; rintro e wn ⟨rfl, ks⟩; have Bc := Bc.trans (ks.mono Bc.size); obtain ⟨b0, b1⟩ := keep _ Bc))
          all_goals
            go_wp2_with fail
            go_meet
            case rel => exact ⟨rfl, Bx.trans (Bc.mono Bx.size)⟩
      case rest =>
        obtain ⟨rfl, By⟩ := hcut
        obtain ⟨wy, hwy⟩ : ∃ y : World, y = wc := ⟨_, rfl⟩
        subst hwy
        clear iR cM Bx Bbx Tx
        go_wp2_with fail
        refine (lwAt_c wy a len cap (HB.out.later By) hl 1 12 (by omega) (by omega) (by omega) (by omega)).mono ?_
        rintro e w5 ⟨x, rfl, x0, x1, k5⟩
        have K5 := By.trans (k5.mono By.size)
        go_wp2_with fail
        refine (lwAt_c w5 a len cap (HB.out.later K5) hl 2 12 (by omega) (by omega) (by omega) (by omega)).mono ?_
        rintro e w6 ⟨y, rfl, y0, y1, k6⟩
        have K6 := K5.trans (k6.mono K5.size)
        go_wp2_with fail
        refine (lwAt_c w6 a len cap (HB.out.later K6) hl 3 12 (by omega) (by omega) (by omega) (by omega)).mono ?_
        rintro e w7 ⟨p, rfl, p0, p2, k7⟩
        have K7 := K6.trans (k7.mono K6.size)
        go_wp2_with fail
        refine (lwAt_c w7 a len cap (HB.out.later K7) hl 4 12 (by omega) (by omega) (by omega) (by omega)).mono ?_
        rintro e w8 ⟨q, rfl, q0, q1, k8⟩
        have K8 := K7.trans (k8.mono K7.size)
        obtain ⟨W9, HW9⟩ : ∃ W9, Hid (W9 = w8.alloc (.cells (mvA x y p q) 37)) := ⟨_, rfl⟩
        have k9 : Below w8.heap.size w8 W9 := by rw [HW9.out]; exact (Below.refl _ _).alloc (Nat.le_refl _) _
        have Ub : Hid (Blk W9 w8.heap.size (mvA x y p q) 37) := by show Blk _ _ _ _; rw [HW9.out]; exact Blk.new w8 _ 37
        have K9 := K8.trans (k9.mono K8.size)
        go_upto_region 12 with fail
        rw [← HW9.out]
        obtain ⟨e0, e1, e2, e3, e4, e5, e6, e7, e8, e9, el⟩ := (show Blk W9 w8.heap.size (mvK x y p q).v 37 from Ub.out).unit
        have hF0 : 0 ≤ Nums.mx (Nums.gap p x) (Nums.gap q y) ∧ Nums.mx (Nums.gap p x) (Nums.gap q y) ≤ 11 := by
          unfold Nums.mx Nums.gap
          repeat' split
          all_goals omega
        obtain ⟨N, hN⟩ : ∃ N : Nat, Nums.mx (Nums.gap p x) (Nums.gap q y) = (N : Int) := ⟨(Nums.mx (Nums.gap p x) (Nums.gap q y)).toNat, by omega⟩
        have hN11 : N ≤ 11 := by omega
        have ht : (Nums.tileB p q && Nums.tileB x y) = true := by rw [(Nums.tile_iff p q).2 ⟨by omega, by omega, by omega, by omega⟩, (Nums.tile_iff x y).2 ⟨by omega, by omega, by omega, by omega⟩]; rfl
        have cFar := implFarOf_as p q x y 0 N (by unfold Nums.faC; rw [if_pos ht]) (by unfold Nums.faV; rw [if_pos ht]; exact hN) W9
        obtain ⟨v, hvu, hvf, hv0, hv2, hv3, hv6⟩ := go_there N (mvK x y p q) (ts0 [mvK x y p q] [] rmM) rfl (by simp) rfl hN
        have gd := mv_gd x0 x1 y0 y1 p0 p2 q0 q1
        have h1 : tkF [mvK x y p q] [] rmM = 0 := tkF_of gd rfl rmM_ok
        have tgs : Hid (TG (tkN (N + 1) (ts0 [mvK x y p q] [] rmM))) := (tg0 h1).ticks (N + 1)
        have eT : Hid (tmR [mvK x y p q] [] rmM ((N : Int) + 1) = .of (tkN (N + 1) (ts0 [mvK x y p q] [] rmM))) := tmR_of h1 (n := N + 1) (by omega)
        obtain ⟨s, Hs⟩ : ∃ s, Hid (s = tkN (N + 1) (ts0 [mvK x y p q] [] rmM)) := ⟨_, rfl⟩
        rw [← Hs.out] at hvu hvf tgs eT
        have HV : Hid (s.us = [v] ∧ s.fs = [] ∧ v.c0 = 1 ∧ v.c2 = x ∧ v.c3 = y ∧ v.c6 = 0) := ⟨hvu, hvf, hv0, hv2, hv3, hv6⟩
        have fI1 : ∀ (s u : Value) (w : World), (Instr.field 39 (.agg #[s, u]) 1).run Tryd.prog w = .ok u w := fun _ _ _ => by kernel_rfl
        have fU1 : ∀ (z : Int) (x : K10) (w : World), (Instr.field 42 (.agg (elevenV z x)) 1).run Tryd.prog w = .ok (.agg x.v) w := fun _ _ _ => by kernel_rfl
        clear hvu hvf hv0 hv2 hv3 hv6 gd h1 ht hN hF0 e0 e1 e4 e5 e6 e7 e8 e9
        go_wp2_with fail
        refine cFar.mono ?_
        rintro e w10 ⟨rfl, hw10⟩
        have k10 : Below W9.heap.size W9 w10 := by rw [hw10]; exact (Below.refl _ _).alloc (Nat.le_refl _) _
        have K10' := K9.trans (k10.mono K9.size)
        have U10 := Ub.out.below k10
        clear hw10 cFar e2 e3 el
        obtain ⟨e0, e1, e2, e3, e4, e5, e6, e7, e8, e9, el⟩ := (show Blk w10 w8.heap.size (mvK x y p q).v 37 from U10).unit
        obtain ⟨W11, HW11⟩ : ∃ W11, Hid (W11 = w10.alloc (.cells (mvA x y p q) 37)) := ⟨_, rfl⟩
        have k11 : Below w10.heap.size w10 W11 := by rw [HW11.out]; exact (Below.refl _ _).alloc (Nat.le_refl _) _
        have U11 : Blk W11 w10.heap.size (mvK x y p q).v 37 := by rw [HW11.out]; exact Blk.new w10 _ 37
        have K11 := K10'.trans (k11.mono K10'.size)
        have cT := implTickMany (some ⟨w10.heap.size, 0, none⟩) 1 1 none 0 0 W2.heap.size 0 4 4 [mvK x y p q] [] ((N : Int) + 1) rmM W11 (HL.out.later K11) ⟨rfl, rfl, rfl, by omega, .mk U11.lt (uat1 U11), .inl ⟨rfl, rfl, rfl, rfl⟩, iat4' (Rb.out.below K11), (Rb.out.below K11).lt⟩
        rw [eT.out] at cT
        have eC : (TR.of s).c = 0 := rfl
        have eL : (TR.of s).l = s.lost := rfl
        rw [eC, eL] at cT
        clear eC eL
        go_wp2_with fail
        rw [← HW11.out]
        refine cT.mono ?_
        rintro e w12 ⟨qz, vz, fz, rfl, R12, k12⟩
        obtain ⟨g12, d12, p12, c12, m12, p12', c12', m12', rfl, rfl, rfl, Hm12, Hm12', L12, X12, Y12⟩ := R12.nm tgs.out
        rw [HV.out.1] at X12 Hm12
        rw [HV.out.2.1] at Y12 Hm12'
        have gdv : Gd [v] [] := by have := tgs.out.gd; rw [HV.out.1, HV.out.2.1] at this; exact this
        obtain ⟨W13, HW13⟩ : ∃ W13, Hid (W13 = w12.alloc (.cells (resV 0 (.slice (some ⟨g12, 0, none⟩) 4 d12) s.lost (.slice p12 m12 c12) (.slice p12' m12' c12')) 33)) := ⟨_, rfl⟩
        have k13 : Below w12.heap.size w12 W13 := by rw [HW13.out]; exact (Below.refl _ _).alloc (Nat.le_refl _) _
        have Tb : Hid (Blk W13 w12.heap.size (resV 0 (.slice (some ⟨g12, 0, none⟩) 4 d12) s.lost (.slice p12 m12 c12) (.slice p12' m12' c12')) 33) := by show Blk _ _ _ _; rw [HW13.out]; exact Blk.new w12 _ 33
        have k11b : Below W11.heap.size W11 W13 := k12.trans (k13.mono k12.size)
        have K13 := K11.trans (k11b.mono K11.size)
        have cU := implUnitOf p12 m12 c12 p12' m12' c12' [v] [] 1 (wf_int (by omega) (by omega)) Hm12.out Hm12'.out W13 (X12.arg' k13) (Y12.arg' k13)
        rw [uoU_one gdv HV.out.2.2.1] at cU
        have iR := fun W' (h : Below W13.heap.size W13 W') => implIsResting p12 m12 c12 p12' m12' c12' [v] [] Hm12.out Hm12'.out W' ((X12.later k13).arg' h) ((Y12.later k13).arg' h)
        rw [rsB_one gdv HV.out.2.2.2.2.2] at iR
        generalize uoC [v] [] 1 = UC at cU
        have t3 : W13.cell? ⟨w12.heap.size, 3, none⟩ = some (.slice p12 m12 c12) := Tb.out.cell (i := 3) rfl
        have t4 : W13.cell? ⟨w12.heap.size, 4, none⟩ = some (.slice p12' m12' c12') := Tb.out.cell (i := 4) rfl
        have tl := Tb.out.lt
        clear e0 e1 e2 e3 e4 e5 e6 e7 e8 e9 el cT R12 L12 U10 U11
        go_upto_region 14 with fail
        rw [← HW13.out]
        go_wp2_with fail
        refine cU.mono ?_
        rintro e w14 ⟨rfl, k14⟩
        obtain ⟨W15, HW15⟩ : ∃ W15, Hid (W15 = w14.alloc (.cells v.v 37)) := ⟨_, rfl⟩
        have k15 : Below w14.heap.size w14 W15 := by rw [HW15.out]; exact (Below.refl _ _).alloc (Nat.le_refl _) _
        have V15 : Blk W15 w14.heap.size v.v 37 := by rw [HW15.out]; exact Blk.new w14 _ 37
        have J15 : Below W13.heap.size W13 W15 := k14.trans (k15.mono k14.size)
        obtain ⟨e0, e1, e2, e3, e4, e5, e6, e7, e8, e9, el⟩ := V15.unit
        rw [HV.out.2.2.2.1] at e2
        rw [HV.out.2.2.2.2.1] at e3
        rw [HV.out.2.2.2.2.2] at e6
        clear e0 e1 e4 e5 e7 e8 e9 t3 t4 tl
        go_upto_region 15 with fail
        rw [← HW15.out]
        have t0 : W15.cell? ⟨w12.heap.size, 0, none⟩ = some (.int .i64 0) := (Tb.out.below J15).cell (i := 0) rfl
        have t3 : W15.cell? ⟨w12.heap.size, 3, none⟩ = some (.slice p12 m12 c12) := (Tb.out.below J15).cell (i := 3) rfl
        have t4 : W15.cell? ⟨w12.heap.size, 4, none⟩ = some (.slice p12' m12' c12') := (Tb.out.below J15).cell (i := 4) rfl
        have tl := (Tb.out.below J15).lt
        have nx : (x == x) = true := by simp
        have ny : (y == y) = true := by simp
        have K15 := HB4.out.trans ((K13.trans (J15.mono K13.size)).mono HB4.out.size)
        go_wp2_with fail
        refine (iR _ J15).mono ?_
        rintro e wz ⟨rfl, kz⟩
        go_wp2_with fail
        go_ret
        exact ⟨rfl, K15.trans (kz.mono K15.size)⟩
  · go_enter Tryd.func3, Tryd.ntmps3
    go_wp2_with fail
    refine (lwBig_yes _ a len cap (by omega)).mono ?_
    rintro e w' ⟨rfl, rfl⟩
    go_wp2
    go_ret
    exact ⟨rfl, Below.refl _ _⟩
end Go.Proofs.YtepjkcfheejlbaaDoor
end

/- OpenBoard -/
/- Units, boards and numbers that came in: what they are in memory. No condition. -/
section
namespace Go.Proofs.YtepjkcfheejlbaaDoor
open Go.ChangeShapes Go.WideShapes Go.ChangeAt Go.RowKit
set_option linter.unusedVariables false

end Go.Proofs.YtepjkcfheejlbaaDoor
end

/- TickLaid -/
/- From the rows' condition on the listed variable to what the walks ask: the homes; and a list of numbers that came in. No further condition. -/
section
namespace Go.Proofs.YtepjkcfheejlbaaDoor
open Go.ChangeShapes Go.WideShapes Go.ChangeAt Go.RowKit
open Bd
set_option linter.unusedVariables false

def lits3 {H : Type} (z : Int × Int × Int) : DataW H := .agg [.lit (.int .i64 z.1), .lit (.int .i64 z.2.1), .lit (.int .i64 z.2.2)]
theorem cells3 {H : Type} {enc : TypeId × Value → H} {P : Program} {w : World} {base : Nat} {sp : Nat → Bool} {held : Bool} {fuel : Nat} {t e : TypeId} {fs : Array Field} {cs : List Value} {z : Int × Int × Int} {p : List MemPlace}
    (ht : P.underlying t = some (.struct fs)) (he : P.underlying e = some (.int .i64)) (hce : P.cellsOf e = 1) (hct : P.cellsOf t = fs.size) (hs : fs.size = 3) (hok : i64Fields e fs = true)
    (h : DataW.trod enc P w base sp held fuel t cs = some (lits3 z, p)) : cs = [.int .i64 z.1, .int .i64 z.2.1, .int .i64 z.2.2] := by
  generalize hx : ((lits3 z : DataW H), p) = x at h
  obtain ⟨xs, n, _, rfl, hl, hlen, hf⟩ := DataW.trod_struct ht h
  rw [hct, hs] at hl
  have hxs : xs.map Prod.fst = [.lit (.int .i64 z.1), .lit (.int .i64 z.2.1), .lit (.int .i64 z.2.2)] := by
    have := congrArg Prod.fst hx
    simpa [lits3] using this.symm
  have key : ∀ i (v : Int), (xs.map Prod.fst)[i]? = some (.lit (.int .i64 v)) → i < 3 → cs[i]? = some (.int .i64 v) := by
    intro i v hv hi
    obtain ⟨f, hfi, ho, hty⟩ := i64Fields.at hok (show i < fs.size by omega)
    have h1 := hf i f hfi
    rw [ho, hty, hce, List.getElem?_eq_getElem (by omega)] at h1
    obtain ⟨y, hc, hd, hw⟩ := DataW.trod_int he h1
    have e1 : (xs.map Prod.fst)[i]? = some (.lit (.int .i64 y)) := by
      rw [List.getElem?_map, List.getElem?_eq_getElem (by omega)]
      simp [hd]
    rw [e1] at hv
    simp at hv
    subst hv
    have := congrArg (·[0]?) hc
    simpa [List.getElem?_take, List.getElem?_drop] using this
  have k0 := key 0 z.1 (by rw [hxs]; rfl) (by omega)
  have k1 := key 1 z.2.1 (by rw [hxs]; rfl) (by omega)
  have k2 := key 2 z.2.2 (by rw [hxs]; rfl) (by omega)
  obtain ⟨c0, c1, c2, rfl⟩ : ∃ c0 c1 c2, cs = [c0, c1, c2] := by
    match cs, hl with
    | [a, b, c], _ => exact ⟨a, b, c, rfl⟩
  simp at k0 k1 k2
  rw [k0, k1, k2]
theorem cells_of_rows {H : Type} {enc : TypeId × Value → H} {P : Program} {w : World} {base : Nat} {sp : Nat → Bool} {held : Bool} {fuel : Nat} {t e i64 : TypeId} {fs : Array Field} {n : Nat} {cs : List Value} {zs : List (Int × Int × Int)} {p : List MemPlace}
    (ht : P.underlying t = some (.array n e)) (hes : P.underlying e = some (.struct fs)) (he : P.underlying i64 = some (.int .i64)) (hc1 : P.cellsOf i64 = 1) (hce : P.cellsOf e = 3) (hs : fs.size = 3) (hok : i64Fields i64 fs = true) (hct : P.cellsOf t = n * 3)
    (h : DataW.trod enc P w base sp held fuel t cs = some (.agg (zs.map lits3), p)) : ∀ i z, zs[i]? = some z → (cs.drop (i * 3)).take 3 = [.int .i64 z.1, .int .i64 z.2.1, .int .i64 z.2.2] := by
  cases fuel with
  | zero => simp [DataW.trod] at h
  | succ fuel =>
    simp only [DataW.trod, ht, hce, hct] at h
    split at h
    · rename_i hl
      obtain ⟨xs, hm, hx⟩ := Option.map_eq_some_iff.1 h
      have hxs : xs.map (·.1) = zs.map lits3 := by
        have := congrArg Prod.fst hx
        simpa using this
      have hxl : xs.length = n := by simpa using Lib.mapM_length hm
      intro i z hz
      have hi : i < n := by
        have := congrArg List.length hxs
        simp at this
        have := (List.getElem?_eq_some_iff.1 hz).1
        omega
      obtain ⟨b, hb, hf⟩ := Lib.mapM_at hm i i (by simp [hi])
      have hb1 : b.1 = lits3 z := by
        have e1 : (xs.map (·.1))[i]? = some b.1 := by simp [hb]
        rw [hxs] at e1
        simp [hz] at e1
        exact e1.symm
      obtain ⟨b1, b2⟩ := b
      simp only at hb1
      subst hb1
      exact cells3 hes he hc1 (by rw [hce, hs]) hs hok hf
    · cases h
def homes : List (Int × Int × Int) := [(0, 0, 0), (0, 11, 0), (0, 0, 11), (0, 11, 11)]
theorem hmAt_head {W : World} {rest : List (String × DataW Unit)} (h : laidMet Tryd.prog (("loop.example/g00646/impl.homeTiles", .agg (homes.map lits3)) :: rest) W) : HmAt W := by
  obtain ⟨ps, ⟨g', t', cs, fuel, p, q, hg', ht', hvar, hd, _, _⟩, _⟩ := h
  have hg : Tryd.prog.globalNamed "loop.example/g00646/impl.homeTiles" = some 0 := by kernel_rfl
  obtain rfl := Option.some.inj (hg.symm.trans hg')
  obtain rfl : 127 = t' := Option.some.inj ((show (Tryd.prog.globals[0]?).map (·.type) = some 127 by kernel_rfl).symm.trans ht')
  have key := cells_of_rows (e := 121) (i64 := 2) (n := 4) (zs := homes) Tryd.underlying127 Tryd.underlying121 Tryd.underlying2 (by kernel_rfl) (by kernel_rfl) (by kernel_rfl) (by kernel_rfl) (by kernel_rfl) hd
  have cell : ∀ o f : Nat, ∀ z, homes[o]? = some z → f < 3 → W.cell? ⟨0, o * 3 + f, none⟩ = [Value.int .i64 z.1, .int .i64 z.2.1, .int .i64 z.2.2][f]? := by
    intro o f z hz hf
    have := World.var?_cell hg hvar (o * 3 + f)
    rw [this, ← key o z hz, List.getElem?_take, if_pos hf, List.getElem?_drop]
    simp
  have hc : ∀ o : Nat, o < 4 → W.cell? ⟨0, o * 3, none⟩ = some (.int .i64 0) ∧ W.cell? ⟨0, o * 3 + 1, none⟩ = some (.int .i64 (hmX o)) ∧ W.cell? ⟨0, o * 3 + 2, none⟩ = some (.int .i64 (hmY o)) := by
    intro o ho
    have : o = 0 ∨ o = 1 ∨ o = 2 ∨ o = 3 := by omega
    rcases this with rfl | rfl | rfl | rfl
    · exact ⟨cell 0 0 _ rfl (by omega), cell 0 1 _ rfl (by omega), cell 0 2 _ rfl (by omega)⟩
    · exact ⟨cell 1 0 _ rfl (by omega), cell 1 1 _ rfl (by omega), cell 1 2 _ rfl (by omega)⟩
    · exact ⟨cell 2 0 _ rfl (by omega), cell 2 1 _ rfl (by omega), cell 2 2 _ rfl (by omega)⟩
    · exact ⟨cell 3 0 _ rfl (by omega), cell 3 1 _ rfl (by omega), cell 3 2 _ rfl (by omega)⟩
  exact ⟨hc, cell_lt2 (hc 0 (by omega)).1⟩
/- a list of numbers that came in -/
set_option maxRecDepth 100000 in
theorem open_argI {H : Type} {enc : TypeId × Value → H} {w : World} {b0 : Nat} {sp : Nat → Bool} {held : Bool} {r : Reach} {v : Value} {d : DataW H} {p : List MemPlace}
    (hv : Value.okWide Tryd.prog w r b0 29 v) (h : DataW.Trod enc Tryd.prog w 0 sp held 29 v d p) :
    ∃ (a : Option Addr) (m c : Nat) (l : List Int), v = .slice a m c ∧ m ≤ maxLen ∧ l.length = m ∧ ArgI w a l := by
  obtain ⟨fuel, hf⟩ := h
  obtain ⟨a0, m0, c0, rfl⟩ := okWide_slice Tryd.underlying29 hv
  rcases open_ints Tryd.underlying29 Tryd.underlying2 (by kernel_rfl) hf with ⟨hcs, _⟩ | ⟨a, len, cap, zs, hcs, _, hl, hm, hz, _, hc, _⟩
  · have : (Value.slice a0 m0 c0) = .slice none 0 0 := by simpa [Value.cells] using hcs
    rw [this]
    exact ⟨none, 0, 0, [], rfl, Nat.zero_le _, rfl, .inl rfl⟩
  · have e : (Value.slice a0 m0 c0) = .slice (some a) len cap := by simpa [Value.cells] using hcs
    rw [e]
    have hzl : len ≤ zs.length := by rw [hz]; split <;> omega
    refine ⟨some a, len, cap, zs.take len, rfl, by omega, by rw [List.length_take]; omega, ?_⟩
    by_cases h0 : len = 0
    · subst h0; exact .inl rfl
    · obtain ⟨b, off, spot⟩ := a
      have hc0 := hc 0 (by omega)
      have hspot : spot = none := by simpa [Addr.add] using World.cell?_spot hc0
      subst hspot
      refine .inr ⟨b, off, rfl, by have := cell_lt2 hc0; simpa [Addr.add] using this, fun i x hi => ?_⟩
      rw [List.getElem?_take] at hi
      split at hi
      · have hiz := (List.getElem?_eq_some_iff.1 hi).1
        have := hc i hiz
        rw [add_plain', List.getD_eq_getElem?_getD, hi] at this
        exact this
      · cases hi
end Go.Proofs.YtepjkcfheejlbaaDoor
end

/- LawRestsRow -/
/- The walk of the law FnRests, at a slice of bytes that came in, and the row's condition on the homes. Condition: the homes lie in their variable. -/
section
namespace Go.Proofs.YtepjkcfheejlbaaDoor
open Go.ChangeShapes Go.WideShapes Go.ChangeAt Go.RowKit
theorem walk_fnRests (a0 : Option Addr) (len0 cap0 : Nat) (z0 : List Int) (w : World) (w0 : IsRow .u8 w a0 len0 cap0 z0) (hL : HmAt w) :
    Calls Tryd.prog 3 #[.slice a0 len0 cap0] w fun e w' => e = .returned (.bool true) ∧ Below w.heap.size w w' := rests_walk a0 len0 cap0 w (Bytes.of_row w0) hL
theorem hmAtR {W : World} (h : laidMetH Tryd.prog Rows.fnRestsRow.laid W) : HmAt W := by
  rw [MakeChecks.laidMetH_plain _ _ _ (by kernel_rfl)] at h
  exact hmAt_head h
end Go.Proofs.YtepjkcfheejlbaaDoor
end
