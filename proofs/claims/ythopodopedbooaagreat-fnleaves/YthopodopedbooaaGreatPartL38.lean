/- Texts of mine put together (a claim holds at most 60 files): SeatImpl, PfSpec. -/
import Derived.Test.YthopodopedbooaaGreatPartL37
import Derived.Test.YthopodopedbooaaGreatPartL13
import Derived.Test.YthopodopedbooaaGreatPartL11
import Derived.Test.YthopodopedbooaaGreatPartL21

/- SeatImpl -/
/- The contracts of SeatOf and of its model, and of their parts. Condition: the lists lie in memory as they were laid there, and seats rise. -/
section
namespace Go.Proofs.YthopodopedbooaaGreat
open Go.ChangeShapes Go.WideShapes Go.ChangeAt Go.RowKit
open Bd
set_option linter.unusedVariables false

def cmpI (x y : Int) : Int := if x < y then -1 else if y < x then 1 else 0
theorem isNaN_c (x : Int) (w : World) : Calls Tryz.prog 168 #[.int .i64 x] w fun e w' => e = .returned (.bool false) ∧ w' = w := by
  have h : (x != x) = false := by simp
  go_enter Tryz.func168, Tryz.ntmps168
  go_wp2
  go_ret
  exact ⟨rfl, rfl⟩
theorem compare_c (x y : Int) (w : World) : Calls Tryz.prog 136 #[.int .i64 x, .int .i64 y] w fun e w' => e = .returned (.int .i64 (cmpI x y)) ∧ w' = w := by
  have q0 := fun w => isNaN_c x w
  have q1 := fun w => isNaN_c y w
  unfold cmpI
  by_cases h1 : x < y
  · rw [if_pos h1]
    go_enter Tryz.func136, Tryz.ntmps136
    go_wp2_with (first | (go_at_call 168; with_reducible refine (q0 _).mono ?_; rintro e w1 ⟨rfl, hw1⟩; obtain rfl := hw1.symm) | (go_at_call 168; with_reducible refine (q1 _).mono ?_; rintro e w1 ⟨rfl, hw1⟩; obtain rfl := hw1.symm))
    go_ret
    exact ⟨rfl, rfl⟩
  · rw [if_neg h1]
    have d1 : decide (x < y) = false := decide_eq_false h1
    by_cases h2 : y < x
    · rw [if_pos h2]
      go_enter Tryz.func136, Tryz.ntmps136
      go_wp2_with (first | (go_at_call 168; with_reducible refine (q0 _).mono ?_; rintro e w1 ⟨rfl, hw1⟩; obtain rfl := hw1.symm) | (go_at_call 168; with_reducible refine (q1 _).mono ?_; rintro e w1 ⟨rfl, hw1⟩; obtain rfl := hw1.symm))
      go_ret
      exact ⟨rfl, rfl⟩
    · rw [if_neg h2]
      have d2 : decide (y < x) = false := decide_eq_false h2
      go_enter Tryz.func136, Tryz.ntmps136
      go_wp2_with (first | (go_at_call 168; with_reducible refine (q0 _).mono ?_; rintro e w1 ⟨rfl, hw1⟩; obtain rfl := hw1.symm) | (go_at_call 168; with_reducible refine (q1 _).mono ?_; rintro e w1 ⟨rfl, hw1⟩; obtain rfl := hw1.symm))
      go_ret
      exact ⟨rfl, rfl⟩
theorem cmpSeat_c (x : K4) (c : Int) (w : World) : Calls Tryz.prog 135 #[.agg x.v, .int .i64 c] w fun e w' => e = .returned (.int .i64 (cmpI x.c0 c)) ∧ w' = w.alloc (.cells x.v 58) := by
  have q0 := fun w => compare_c x.c0 c w
  go_enter Tryz.func135, Tryz.ntmps135
  go_wp2_with (go_at_call 136; refine (q0 _).mono ?_; rintro e w1 ⟨rfl, hw1⟩; obtain rfl := hw1.symm)
  go_ret
  exact ⟨rfl, rfl⟩
theorem cmpI_lt {x y : Int} (h : x < y) : cmpI x y = -1 := by unfold cmpI; rw [if_pos h]
theorem cmpI_ge {x y : Int} (h : ¬ x < y) : decide (cmpI x y < 0) = false := by
  unfold cmpI; rw [if_neg h]; split <;> rfl
theorem cmpI_zero {x y : Int} : (cmpI x y == 0) = (x == y) := by
  unfold cmpI
  by_cases h1 : x < y
  · rw [if_pos h1]; symm; simp; omega
  · rw [if_neg h1]
    by_cases h2 : y < x
    · rw [if_pos h2]; symm; simp; omega
    · rw [if_neg h2]; symm; simp; omega
set_option maxRecDepth 20000 in
set_option maxHeartbeats 8000000 in
theorem bsearch_c (a : Option Addr) (m cap : Nat) (l : List K4) (c : Int) (hl : l.length = m) (hm : m ≤ 6) (hp : RsP l) (w : World) (hS : ArgS w a l) :
    Calls Tryz.prog 134 #[.slice a m cap, .int .i64 c, .func (.func 135) #[] #[]] w fun e w' => e = .returned (.tuple #[.int .i64 (sPl l c : Int), .bool (sTh l c)]) ∧ Below w.heap.size w w' := by
  have qc := fun x w => cmpSeat_c x c w
  have Hl : Hid (l.length = m) := hl
  have HS : Hid (ArgS w a l) := hS
  have hle := sPl_le c l
  have Hend : Hid (sPl l c = l.length → sTh l c = false) := sTh_end hp
  have Hat : Hid (∀ y, l[sPl l c]? = some y → (y.c0 == c) = sTh l c) := fun y h => (sTh_at hp h).1
  have Hiff : Hid (∀ (k : Nat) (x : K4), l[k]? = some x → (x.c0 < c ↔ k < sPl l c)) := fun k x h => sPl_iff hp h
  rw [hl] at hle
  clear hl hS hp
  generalize sPl l c = P at hle Hend Hat Hiff ⊢
  generalize sTh l c = T at Hend Hat ⊢
  go_enter Tryz.func134, Tryz.ntmps134
  go_wp2_with fail
  go_loopw [9, 10] (fun i j wr => ∃ u v : Nat, i = .int .i64 u ∧ j = .int .i64 v ∧ u ≤ P ∧ P ≤ v ∧ v ≤ m ∧ Below w.heap.size w wr) (fun i j _ => (intOf j).toNat - (intOf i).toNat)
  case atStart => exact ⟨0, m, rfl, rfl, Nat.zero_le _, hle, Nat.le_refl _, Below.refl _ _⟩
  case round =>
    obtain ⟨u, v, rfl, rfl, hu, hv, hvm, kb⟩ := hrel
    by_cases hlt : u < v
    · have hlt' : (u : Int) < (v : Int) := by omega
      obtain ⟨h, hh⟩ : ∃ h : Nat, h = (u + v) / 2 := ⟨_, rfl⟩
      have hI : ((u : Int) + (v : Int)) / 2 = (h : Int) := by omega
      have hr : u ≤ h ∧ h < v := by omega
      clear hh
      obtain ⟨x, hx⟩ : ∃ x, l[h]? = some x := ⟨_, List.getElem?_eq_getElem (by have := Hl.out; omega)⟩
      obtain ⟨b, off, rfl, hb, hat⟩ := HS.out.at hx
      obtain ⟨x0, x1, x2, x3, xl⟩ := (hat.later hb kb).one (Nat.lt_of_lt_of_le hb kb.size) hx
      have hi := Hiff.out h x hx
      have hhm : (h : Int) < (m : Int) := by omega
      clear hx hat
      have k4 := kb.alloc kb.size (.cells x.v 58)
      have qx := fun w => qc x w
      by_cases hc : x.c0 < c
      · have e0 := cmpI_lt hc
        rw [e0] at qx
        go_upto_region 5 with fail
        try rw [hI]
        go_wp2_with (go_at_call 135; refine (qx _).mono ?_; rintro e w1 ⟨rfl, hw1⟩; obtain rfl := hw1.symm)
        go_roundw
        case rel => exact ⟨h + 1, v, by go_num, rfl, by omega, hv, hvm, k4⟩
        case measure => simp [intOf]; omega
      · have e0 := cmpI_ge hc
        go_upto_region 5 with fail
        try rw [hI]
        go_wp2_with (go_at_call 135; refine (qx _).mono ?_; rintro e w1 ⟨rfl, hw1⟩; obtain rfl := hw1.symm)
        go_roundw
        case rel => exact ⟨u, h, rfl, rfl, hu, by omega, by omega, k4⟩
        case measure => simp [intOf]; omega
    · obtain rfl : u = v := by omega
      obtain rfl : u = P := by omega
      have hlt' : ¬ (u : Int) < (u : Int) := by omega
      by_cases hum : u < m
      · have hum' : (u : Int) < (m : Int) := by omega
        obtain ⟨x, hx⟩ : ∃ x, l[u]? = some x := ⟨_, List.getElem?_eq_getElem (by have := Hl.out; omega)⟩
        obtain ⟨b, off, rfl, hb, hat⟩ := HS.out.at hx
        obtain ⟨x0, x1, x2, x3, xl⟩ := (hat.later hb kb).one (Nat.lt_of_lt_of_le hb kb.size) hx
        have hT := Hat.out x hx
        rw [← cmpI_zero] at hT
        have k4 := kb.alloc kb.size (.cells x.v 58)
        have qx := fun w => qc x w
        clear hx hat
        generalize cmpI x.c0 c = R at qx hT
        cases T
        · go_upto_region 8 with fail
          go_wp2_with (go_at_call 135; refine (qx _).mono ?_; rintro e w1 ⟨rfl, hw1⟩; obtain rfl := hw1.symm)
          go_ret2
          exact ⟨rfl, k4⟩
        · go_upto_region 8 with fail
          go_wp2_with (go_at_call 135; refine (qx _).mono ?_; rintro e w1 ⟨rfl, hw1⟩; obtain rfl := hw1.symm)
          go_ret2
          exact ⟨rfl, k4⟩
      · obtain rfl : u = m := by omega
        obtain rfl := Hend.out Hl.out.symm
        go_wp2_with fail
        go_ret2
        exact ⟨rfl, kb⟩
theorem seatPlace_c (a : Option Addr) (m cap : Nat) (l : List K4) (c : Int) (hl : l.length = m) (hm : m ≤ 6) (hp : RsP l) (w : World) (hS : ArgS w a l) :
    Calls Tryz.prog 87 #[.slice a m cap, .int .i64 c] w fun e w' => e = .returned (.tuple #[.int .i64 (sPl l c : Int), .bool (sTh l c)]) ∧ Below w.heap.size w w' := by
  have q0 := bsearch_c a m cap l c hl hm hp w hS
  go_enter Tryz.func87, Tryz.ntmps87
  go_wp2_with (go_at_call 134; refine q0.mono ?_; rintro e w1 ⟨rfl, hb⟩)
  go_ret2
  exact ⟨rfl, hb⟩
end Go.Proofs.YthopodopedbooaaGreat
end

/- PfSpec -/
/- The contracts of the model's faults of two sides. Condition: the world lies in memory, its lists as they were laid there. -/
section
namespace Go.Proofs.YthopodopedbooaaGreat
open Go.ChangeShapes Go.WideShapes Go.ChangeAt Go.RowKit
open Bd
set_option linter.unusedVariables false

theorem l7Bad_c (c : Int) (w : World) : Calls Tryz.prog 60 #[.int .i64 c] w fun e w' => e = .returned (.agg (r8 c wpz kz)) ∧ Below w.heap.size w w' := by
  have R := Blk.new w z8 36
  obtain ⟨W, HW⟩ : ∃ W, Hid (W = w.alloc (.cells z8 36)) := ⟨_, rfl⟩
  have B1 : Below w.heap.size w W := by rw [HW.out]; exact (Below.refl _ _).alloc (Nat.le_refl _) _
  rw [← HW.out] at R
  obtain ⟨r0, r1, r2, r3, r4, r5, r6, r7, y0, y1, y2, y3, y4, y5, y6, y7, rl⟩ := R.z8
  have F : Blk _ w.heap.size (r8 c wpz kz) 36 := set8_blk R (.int .i64 c) (.int .i64 0) (.int .i64 0) (.slice none 0 0) (.slice none 0 0) (.slice none 0 0) (.slice none 0 0) (.slice none 0 0)
  have B2 := set8_below B1 (Nat.le_refl _) (.int .i64 c) (.int .i64 0) (.int .i64 0) (.slice none 0 0) (.slice none 0 0) (.slice none 0 0) (.slice none 0 0) (.slice none 0 0)
  go_enter Tryz.func60, Tryz.ntmps60
  go_upto_region 1 with fail
  rw [← HW.out]
  go_wp2_with fail
  exact bodyPost_ret (v := .agg (r8 c wpz kz)) (result8 Tryz.results60 F _ rfl) rfl ⟨rfl, B2⟩
set_option maxRecDepth 20000 in
set_option maxHeartbeats 8000000 in
theorem l7Sides_c (g : Nat) (t s : Int) (u : Option Addr) (mu uc : Nat) (f : Option Addr) (mf fc : Nat) (a : Option Addr) (ma ac : Nat) (q : Option Addr) (ms qc : Nat) (r : Option Addr) (mo rc : Nat) (fa : List KA) (h4 : fa.length = ma) (hm : ma = 4) (w : World) (hP : At7 w g t s (.slice u mu uc) (.slice f mf fc) (.slice a ma ac) (.slice q ms qc) (.slice r mo rc)) (hA : ArgA w a fa) (i j : Int) :
    Calls Tryz.prog 105 #[.pointer (some ⟨g, 0, none⟩), .int .i64 i, .int .i64 j] w fun e w' => e = .returned (.int .i64 (sdF fa i j)) ∧ w' = w := by
  subst hm
  have q0 := fun w => l6Side_s i w
  have q1 := fun w => l6Side_s j w
  obtain ⟨p0, p1, p2, p3, p4, p5, p6, pl⟩ := hP
  have H4 : Hid (fa.length = 4) := h4
  have HE : Hid (sdF fa i j = sdF fa i j) := rfl
  obtain ⟨R, HR0⟩ : ∃ R, Hid (R = sdF fa i j) := ⟨_, rfl⟩
  rw [← HR0.out]
  clear HE h4
  cases e0 : inb i 0 3
  · rw [e0] at q0
    have HR : Hid (R = 3) := by show _ = _; rw [HR0.out]; unfold sdF; rw [e0]; rfl
    go_enter Tryz.func105, Tryz.ntmps105
    go_wp2_with (first | (go_at_call 56; with_reducible refine (q0 _).mono ?_; rintro e w1 ⟨rfl, hw1⟩; obtain rfl := hw1.symm) | (go_at_call 56; with_reducible refine (q1 _).mono ?_; rintro e w1 ⟨rfl, hw1⟩; obtain rfl := hw1.symm))
    go_ret
    exact ⟨by rw [HR.out] <;> rfl, rfl⟩
  cases e1 : inb j 0 3
  · rw [e0] at q0
    rw [e1] at q1
    have HR : Hid (R = 3) := by show _ = _; rw [HR0.out]; unfold sdF; rw [e0, e1]; rfl
    go_enter Tryz.func105, Tryz.ntmps105
    go_wp2_with (first | (go_at_call 56; with_reducible refine (q0 _).mono ?_; rintro e w1 ⟨rfl, hw1⟩; obtain rfl := hw1.symm) | (go_at_call 56; with_reducible refine (q1 _).mono ?_; rintro e w1 ⟨rfl, hw1⟩; obtain rfl := hw1.symm))
    go_ret
    exact ⟨by rw [HR.out] <;> rfl, rfl⟩
  rw [e0] at q0
  rw [e1] at q1
  cases e3 : i == j
  case true =>
    have HR : Hid (R = 1) := by show _ = _; rw [HR0.out]; unfold sdF; rw [e0, e1, e3]; rfl
    go_enter Tryz.func105, Tryz.ntmps105
    go_wp2_with (first | (go_at_call 56; with_reducible refine (q0 _).mono ?_; rintro e w1 ⟨rfl, hw1⟩; obtain rfl := hw1.symm) | (go_at_call 56; with_reducible refine (q1 _).mono ?_; rintro e w1 ⟨rfl, hw1⟩; obtain rfl := hw1.symm))
    go_ret
    exact ⟨by rw [HR.out] <;> rfl, rfl⟩
  case false =>
    obtain ⟨i0, i1⟩ := inb_i e0
    obtain ⟨j0, j1⟩ := inb_i e1
    obtain ⟨y, hy, hyg, hya⟩ := side_at H4.out i0 i1
    obtain ⟨k, hk, hkg, hka⟩ := side_at H4.out j0 j1
    obtain ⟨ba, oa, rfl, hba, hat⟩ := hA.four H4.out
    have HR' : Hid (R = if (y.c1 || k.c1) = true then 8 else 0) := by show _ = _; rw [HR0.out]; unfold sdF; rw [e0, e1, e3, hyg, hkg]; rfl
    obtain ⟨y0, y1, y2, yl⟩ := hat.one hba hy
    obtain ⟨z0, z1, z2, zl⟩ := hat.one hba hk
    have i4 : i < 4 := by omega
    have j4 : j < 4 := by omega
    clear e0 e1 hy hyg hya hk hkg hka hat HR0
    cases eg : y.c1
    · rw [eg] at HR' y1
      cases ek : k.c1
      · rw [ek] at HR' z1
        have HR : Hid (R = 0) := HR'
        go_enter Tryz.func105, Tryz.ntmps105
        go_wp2_with (first | (go_at_call 56; with_reducible refine (q0 _).mono ?_; rintro e w1 ⟨rfl, hw1⟩; obtain rfl := hw1.symm) | (go_at_call 56; with_reducible refine (q1 _).mono ?_; rintro e w1 ⟨rfl, hw1⟩; obtain rfl := hw1.symm))
        go_ret
        exact ⟨by rw [HR.out] <;> rfl, rfl⟩
      · rw [ek] at HR' z1
        have HR : Hid (R = 8) := HR'
        go_enter Tryz.func105, Tryz.ntmps105
        go_wp2_with (first | (go_at_call 56; with_reducible refine (q0 _).mono ?_; rintro e w1 ⟨rfl, hw1⟩; obtain rfl := hw1.symm) | (go_at_call 56; with_reducible refine (q1 _).mono ?_; rintro e w1 ⟨rfl, hw1⟩; obtain rfl := hw1.symm))
        go_ret
        exact ⟨by rw [HR.out] <;> rfl, rfl⟩
    · rw [eg] at HR' y1
      have HR : Hid (R = 8) := HR'
      go_enter Tryz.func105, Tryz.ntmps105
      go_wp2_with (first | (go_at_call 56; with_reducible refine (q0 _).mono ?_; rintro e w1 ⟨rfl, hw1⟩; obtain rfl := hw1.symm) | (go_at_call 56; with_reducible refine (q1 _).mono ?_; rintro e w1 ⟨rfl, hw1⟩; obtain rfl := hw1.symm))
      go_ret
      exact ⟨by rw [HR.out] <;> rfl, rfl⟩
set_option maxRecDepth 20000 in
set_option maxHeartbeats 8000000 in
theorem l7Two_c (g : Nat) (t s : Int) (u : Option Addr) (mu uc : Nat) (f : Option Addr) (mf fc : Nat) (a : Option Addr) (ma ac : Nat) (q : Option Addr) (ms qc : Nat) (r : Option Addr) (mo rc : Nat) (us : List K10) (fs : List K3) (fa : List KA) (se : List K4) (oo : List K2) (lu : us.length = mu) (lf : fs.length = mf) (la : fa.length = ma) (ls : se.length = ms) (lo : oo.length = mo) (hc : mo ≤ rc) (hrc : rc ≤ maxLen) (w : World)
    (hP : At7 w g t s (.slice u mu uc) (.slice f mf fc) (.slice a ma ac) (.slice q ms qc) (.slice r mo rc)) (hU : ArgU w u us) (hF : ArgF w f fs) (hA : ArgA w a fa) (hS : ArgS w q se) (hO : ArgO w r oo) (i j : Int) :
    Calls Tryz.prog 59 #[.pointer (some ⟨g, 0, none⟩), .int .i64 i, .int .i64 j] w fun e w' => e = .returned (.int .i64 (prF hasS ⟨t, s, us, fs, fa, se, oo⟩ i j)) ∧ Below w.heap.size w w' := by
  have cF := l6Fault_c g t s u mu uc f mf fc a ma ac q ms qc r mo rc us fs fa se oo lu lf la ls lo hc hrc w hP hU hF hA hS hO
  have cS := fun (hm : ma = 4) W' (h : Below w.heap.size w W') => l7Sides_c g t s u mu uc f mf fc a ma ac q ms qc r mo rc fa la hm W' (hP.later h) (hA.later h) i j
  have Hlen : Hid (wf hasS ⟨t, s, us, fs, fa, se, oo⟩ = 0 → fa.length = 4) := fun e => wf_len e
  have HE : Hid (prF hasS ⟨t, s, us, fs, fa, se, oo⟩ i j = if (wf hasS ⟨t, s, us, fs, fa, se, oo⟩ == 0) = false then wf hasS ⟨t, s, us, fs, fa, se, oo⟩ else sdF fa i j) := rfl
  generalize prF hasS ⟨t, s, us, fs, fa, se, oo⟩ i j = R at HE ⊢
  generalize wf hasS ⟨t, s, us, fs, fa, se, oo⟩ = F at cF HE Hlen
  have Hl : Hid (fa.length = ma) := la
  clear hU hF hA hS hO hP lu lf la ls lo
  cases e2 : F == 0
  · have n7 : (F != 0) = true := by simp only [bne, e2]; rfl
    have HR : Hid (R = F) := by show _ = _; rw [HE.out, e2]; rfl
    go_enter Tryz.func59, Tryz.ntmps59
    go_wp2_with fail
    refine cF.mono ?_
    rintro e w1 ⟨rfl, k1⟩
    go_wp2_with fail
    go_ret
    exact ⟨by rw [HR.out] <;> rfl, k1⟩
  · obtain rfl : F = 0 := by simpa using e2
    have HR : Hid (R = sdF fa i j) := HE
    have c4 := cS (by rw [← Hl.out]; exact Hlen.out rfl)
    generalize sdF fa i j = S at HR c4
    clear HE cS e2
    go_enter Tryz.func59, Tryz.ntmps59
    go_wp2_with fail
    refine cF.mono ?_
    rintro e w1 ⟨rfl, k1⟩
    go_wp2_with fail
    refine (c4 _ k1).mono ?_
    rintro e w2 ⟨rfl, hw2⟩
    obtain rfl := hw2.symm
    go_wp2_with fail
    go_ret
    exact ⟨by rw [HR.out] <;> rfl, k1⟩
end Go.Proofs.YthopodopedbooaaGreat
end
