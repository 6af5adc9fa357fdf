/- Texts of mine put together (a claim holds at most 60 files): WfImpl5. -/
import Derived.Test.YtmfdggaijbcijaaGreatPartQ20
import Derived.Test.YtmfdggaijbcijaaGreatPartQ07

/- WfImpl5 -/
/- The contract of WorldFault. Condition: the lists lie in memory as they were laid there; the offers' room is no more than a list can have. -/
section
namespace Go.Proofs.YtmfdggaijbcijaaGreat
open Go.ChangeShapes Go.WideShapes Go.ChangeAt Go.RowKit
open Bd
set_option linter.unusedVariables false

set_option maxHeartbeats 2000000 in
theorem or_c (g : Nat) (a b c d : Int) (w : World) (h : Bk w g #[.int .i64 a, .int .i64 b, .int .i64 c, .int .i64 d] 2) :
    Calls Tryz.prog 51 #[.slice (some ⟨g, 0, none⟩) 4 4] w fun e w' => e = .returned (.int .i64 (or4 a b c d)) ∧ w' = w := by
  obtain ⟨R, HR⟩ : ∃ R : Int, Hid (R = or4 a b c d) := ⟨_, rfl⟩
  rw [← HR.out]
  go_enter Tryz.func51, Tryz.ntmps51
  go_wp2
  go_loopw [8] (fun i wr => wr = w ∧ ((i = .int .i64 0) ∨ (i = .int .i64 1 ∧ Hid ((a == 0) = true)) ∨ (i = .int .i64 2 ∧ Hid ((a == 0) = true ∧ (b == 0) = true)) ∨ (i = .int .i64 3 ∧ Hid ((a == 0) = true ∧ (b == 0) = true ∧ (c == 0) = true)) ∨ (i = .int .i64 4 ∧ Hid ((a == 0) = true ∧ (b == 0) = true ∧ (c == 0) = true ∧ (d == 0) = true)))) (fun i _ => 4 - (intOf i).toNat)
  case atStart => exact ⟨rfl, .inl rfl⟩
  case round =>
    obtain ⟨hw, hr⟩ := hrel
    obtain rfl := hw.symm
    have hl := h.lt
    have c0 := h.cell (i := 0) rfl
    have c1 := h.cell (i := 1) rfl
    have c2 := h.cell (i := 2) rfl
    have c3 := h.cell (i := 3) rfl
    rcases hr with rfl | ⟨rfl, H⟩ | ⟨rfl, H⟩ | ⟨rfl, H⟩ | ⟨rfl, H⟩
    · cases e : a == 0
      · have e' : (a != 0) = true := by simp only [bne, e]; rfl
        have HE : Hid (R = a) := by show _ = _; rw [HR.out]; unfold or4; rw [e]; rfl
        go_wp2
        go_ret
        exact ⟨by rw [HE.out]; rfl, rfl⟩
      · have e' : (a != 0) = false := by simp only [bne, e]; rfl
        go_wp2
        go_roundw
        case rel => first | exact ⟨rfl, .inr (.inl ⟨rfl, (by first | exact e | exact trivial)⟩)⟩ | exact ⟨trivial, .inr (.inl ⟨rfl, (by first | exact e | exact trivial)⟩)⟩
        case measure => simp [intOf]
    · cases e : b == 0
      · have e' : (b != 0) = true := by simp only [bne, e]; rfl
        have HE : Hid (R = b) := by show _ = _; rw [HR.out]; unfold or4; rw [H.out, e]; rfl
        go_wp2
        go_ret
        exact ⟨by rw [HE.out]; rfl, rfl⟩
      · have e' : (b != 0) = false := by simp only [bne, e]; rfl
        go_wp2
        go_roundw
        case rel => first | exact ⟨rfl, .inr (.inr (.inl ⟨rfl, H.out, (by first | exact e | exact trivial)⟩))⟩ | exact ⟨trivial, .inr (.inr (.inl ⟨rfl, H.out, (by first | exact e | exact trivial)⟩))⟩
        case measure => simp [intOf]
    · cases e : c == 0
      · have e' : (c != 0) = true := by simp only [bne, e]; rfl
        have HE : Hid (R = c) := by show _ = _; rw [HR.out]; unfold or4; rw [H.out.1, H.out.2, e]; rfl
        go_wp2
        go_ret
        exact ⟨by rw [HE.out]; rfl, rfl⟩
      · have e' : (c != 0) = false := by simp only [bne, e]; rfl
        go_wp2
        go_roundw
        case rel => first | exact ⟨rfl, .inr (.inr (.inr (.inl ⟨rfl, H.out.1, H.out.2, (by first | exact e | exact trivial)⟩)))⟩ | exact ⟨trivial, .inr (.inr (.inr (.inl ⟨rfl, H.out.1, H.out.2, (by first | exact e | exact trivial)⟩)))⟩
        case measure => simp [intOf]
    · cases e : d == 0
      · have e' : (d != 0) = true := by simp only [bne, e]; rfl
        have HE : Hid (R = d) := by show _ = _; rw [HR.out]; unfold or4; rw [H.out.1, H.out.2.1, H.out.2.2]; rfl
        go_wp2
        go_ret
        exact ⟨by rw [HE.out]; rfl, rfl⟩
      · have e' : (d != 0) = false := by simp only [bne, e]; rfl
        go_wp2
        go_roundw
        case rel => first | exact ⟨rfl, .inr (.inr (.inr (.inr ⟨rfl, H.out.1, H.out.2.1, H.out.2.2, (by first | exact e | exact trivial)⟩)))⟩ | exact ⟨trivial, .inr (.inr (.inr (.inr ⟨rfl, H.out.1, H.out.2.1, H.out.2.2, (by first | exact e | exact trivial)⟩)))⟩
        case measure => simp [intOf]
    · have HE : Hid (R = 0) := by show _ = _; rw [HR.out]; unfold or4; rw [H.out.1, H.out.2.1, H.out.2.2.1]; simpa using H.out.2.2.2
      go_wp2
      go_ret
      exact ⟨by rw [HE.out]; rfl, rfl⟩
theorem wf_cases (h : Int → Int → Bool) (x : KW) : (x.t < 0 ∧ wf h x = 3) ∨ (0 ≤ x.t ∧ 9999 < x.t ∧ wf h x = 3) ∨ (0 ≤ x.t ∧ x.t ≤ 9999 ∧ inb x.s 0 100000000 = false ∧ wf h x = 3) ∨
    (0 ≤ x.t ∧ x.t ≤ 9999 ∧ inb x.s 0 100000000 = true ∧ (bf x.us x.fs == 0) = false ∧ wf h x = bf x.us x.fs) ∨
    (0 ≤ x.t ∧ x.t ≤ 9999 ∧ inb x.s 0 100000000 = true ∧ bf x.us x.fs = 0 ∧ x.fa.length ≠ 4 ∧ wf h x = 2) ∨
    (0 ≤ x.t ∧ x.t ≤ 9999 ∧ inb x.s 0 100000000 = true ∧ bf x.us x.fs = 0 ∧ x.fa.length = 4 ∧ 6 < x.se.length ∧ wf h x = 2) ∨
    (0 ≤ x.t ∧ x.t ≤ 9999 ∧ inb x.s 0 100000000 = true ∧ bf x.us x.fs = 0 ∧ x.fa.length = 4 ∧ x.se.length ≤ 6 ∧ 6 < x.oo.length ∧ wf h x = 2) ∨
    (0 ≤ x.t ∧ x.t ≤ 9999 ∧ inb x.s 0 100000000 = true ∧ bf x.us x.fs = 0 ∧ x.fa.length = 4 ∧ x.se.length ≤ 6 ∧ x.oo.length ≤ 6 ∧ wf h x = or4 (faF h x.fa 0 x.fa) (seF x.fa none x.se) (ofF h x.fa [] x.oo) (owF x.fa x.us)) := by
  unfold wf
  by_cases t0 : x.t < 0
  · exact .inl ⟨t0, by rw [inb_f (v := x.t) (by omega)]; rfl⟩
  by_cases t1 : 9999 < x.t
  · exact .inr (.inl ⟨by omega, t1, by rw [inb_f (v := x.t) (by omega)]; rfl⟩)
  rw [inb_t (v := x.t) (lo := 0) (hi := 9999) (by omega) (by omega)]
  cases es : inb x.s 0 100000000
  · exact .inr (.inr (.inl ⟨by omega, by omega, rfl, rfl⟩))
  cases eb : bf x.us x.fs == 0
  · exact .inr (.inr (.inr (.inl ⟨by omega, by omega, rfl, rfl, rfl⟩)))
  have eb' : bf x.us x.fs = 0 := by simpa using eb
  by_cases f4 : x.fa.length = 4
  · by_cases s6 : 6 < x.se.length
    · exact .inr (.inr (.inr (.inr (.inr (.inl ⟨by omega, by omega, rfl, eb', f4, s6, by rw [if_neg (by simp), if_neg (by simp), if_pos (by omega)]⟩)))))
    by_cases o6 : 6 < x.oo.length
    · exact .inr (.inr (.inr (.inr (.inr (.inr (.inl ⟨by omega, by omega, rfl, eb', f4, by omega, o6, by rw [if_neg (by simp), if_neg (by simp), if_pos (by omega)]⟩))))))
    · exact .inr (.inr (.inr (.inr (.inr (.inr (.inr ⟨by omega, by omega, rfl, eb', f4, by omega, by omega, by rw [if_neg (by simp), if_neg (by simp), if_neg (by omega)]⟩))))))
  · exact .inr (.inr (.inr (.inr (.inl ⟨by omega, by omega, rfl, eb', f4, by rw [if_neg (by simp), if_neg (by simp), if_pos (by omega)]⟩))))
set_option maxRecDepth 20000 in
set_option maxHeartbeats 16000000 in
theorem implWorldFault (p : WP) (x : KW) (hc : x.oo.length ≤ p.oc) (hrc : p.oc ≤ maxLen) (w : World) (h : ArgW w p x) :
    Calls Tryz.prog 14 #[.agg (p.v x)] w fun e w' => e = .returned (.int .i64 (wf hasI x)) ∧ Below w.heap.size w w' := by
  obtain ⟨t, s, us, fs, fa, se, oo⟩ := x
  obtain ⟨u, uc, f, fc, a, ac, q, qc, r, rc⟩ := p
  obtain ⟨hU, hF, hA, hS, hO⟩ := h
  have hcs := wf_cases hasI ⟨t, s, us, fs, fa, se, oo⟩
  dsimp only at hU hF hA hS hO hc hrc hcs
  show Calls Tryz.prog 14 #[.agg (wv t s u us.length uc f fs.length fc a fa.length ac q se.length qc r oo.length rc)] w _
  obtain ⟨mu, Hu⟩ : ∃ m, Hid (us.length = m) := ⟨_, rfl⟩
  obtain ⟨mf, Hf⟩ : ∃ m, Hid (fs.length = m) := ⟨_, rfl⟩
  obtain ⟨ma, Ha⟩ : ∃ m, Hid (fa.length = m) := ⟨_, rfl⟩
  obtain ⟨ms, Hs⟩ : ∃ m, Hid (se.length = m) := ⟨_, rfl⟩
  obtain ⟨mo, Ho⟩ : ∃ m, Hid (oo.length = m) := ⟨_, rfl⟩
  rw [Ha.out, Hs.out, Ho.out] at hcs
  rw [Ho.out] at hc
  rw [Hu.out, Hf.out, Ha.out, Hs.out, Ho.out]
  have B0 : Below w.heap.size w (w.alloc (.cells (wv t s u mu uc f mf fc a ma ac q ms qc r mo rc) 32)) := (Below.refl _ _).alloc (Nat.le_refl _) _
  have P0 := Bk.new w (wv t s u mu uc f mf fc a ma ac q ms qc r mo rc) 32
  obtain ⟨W, HW⟩ : ∃ W, Hid (W = w.alloc (.cells (wv t s u mu uc f mf fc a ma ac q ms qc r mo rc) 32)) := ⟨_, rfl⟩
  rw [← HW.out] at B0 P0
  have qS := fun w => isSpent_w s w
  have qB := fun W' (h : Below W.heap.size W W') => implBoardFault u mu uc f mf fc us fs Hu.out Hf.out W' (hU.later (B0.trans (h.mono B0.size))) (hF.later (B0.trans (h.mono B0.size)))
  have p0 := P0.cell (i := 0) rfl
  have p1 := P0.cell (i := 1) rfl
  have p2 := P0.cell (i := 2) rfl
  have p3 := P0.cell (i := 3) rfl
  have pl := P0.lt
  rcases hcs with ⟨e0, e⟩ | ⟨e0, e1, e⟩ | ⟨e0, e1, e2, e⟩ | ⟨e0, e1, e2, e3, e⟩ | ⟨e0, e1, e2, e3, e4, e⟩ | ⟨e0, e1, e2, e3, e4, e5, e⟩ | ⟨e0, e1, e2, e3, e4, e5, e6, e⟩ | ⟨e0, e1, e2, e3, e4, e5, e6, e⟩
  · rw [e]
    go_enter Tryz.func14, Tryz.ntmps14
    go_upto_region 1 with fail
    rw [← HW.out]
    go_wp2_with (go_at_call 49; refine (qS _).mono ?_; rintro e w1 ⟨rfl, hw1⟩; obtain rfl := hw1.symm)
    go_ret
    exact ⟨rfl, B0⟩
  · rw [e]
    have d0 : decide (t < 0) = false := decide_eq_false (by omega)
    go_enter Tryz.func14, Tryz.ntmps14
    go_upto_region 1 with fail
    rw [← HW.out]
    go_wp2_with (go_at_call 49; refine (qS _).mono ?_; rintro e w1 ⟨rfl, hw1⟩; obtain rfl := hw1.symm)
    go_ret
    exact ⟨rfl, B0⟩
  · rw [e]
    have d0 : decide (t < 0) = false := decide_eq_false (by omega)
    have d1 : decide (9999 < t) = false := decide_eq_false (by omega)
    rw [e2] at qS
    go_enter Tryz.func14, Tryz.ntmps14
    go_upto_region 1 with fail
    rw [← HW.out]
    go_wp2_with (go_at_call 49; refine (qS _).mono ?_; rintro e w1 ⟨rfl, hw1⟩; obtain rfl := hw1.symm)
    go_ret
    exact ⟨rfl, B0⟩
  · rw [e]
    have d0 : decide (t < 0) = false := decide_eq_false (by omega)
    have d1 : decide (9999 < t) = false := decide_eq_false (by omega)
    rw [e2] at qS
    generalize bf us fs = BF at e3 qB ⊢
    have n3 : (BF != 0) = true := by simp only [bne, e3]; rfl
    go_enter Tryz.func14, Tryz.ntmps14
    go_upto_region 1 with fail
    rw [← HW.out]
    go_wp2_with (go_at_call 49; refine (qS _).mono ?_; rintro e w1 ⟨rfl, hw1⟩; obtain rfl := hw1.symm)
    refine (qB _ (Below.refl _ _)).mono ?_
    rintro e w1 ⟨rfl, k1⟩
    go_wp2
    go_ret
    exact ⟨rfl, B0.trans (k1.mono B0.size)⟩
  · rw [e]
    have d0 : decide (t < 0) = false := decide_eq_false (by omega)
    have d1 : decide (9999 < t) = false := decide_eq_false (by omega)
    rw [e2] at qS
    rw [e3] at qB
    go_enter Tryz.func14, Tryz.ntmps14
    go_upto_region 1 with fail
    rw [← HW.out]
    go_wp2_with (go_at_call 49; refine (qS _).mono ?_; rintro e w1 ⟨rfl, hw1⟩; obtain rfl := hw1.symm)
    refine (qB _ (Below.refl _ _)).mono ?_
    rintro e w1 ⟨rfl, k1⟩
    have B1 := B0.trans (k1.mono B0.size)
    have P1 := P0.below k1
    have c4 := P1.cell (i := 4) rfl
    have c5 := P1.cell (i := 5) rfl
    have c6 := P1.cell (i := 6) rfl
    have cl := P1.lt
    have n4 : ((ma : Int) != 4) = true := by simp; omega
    go_wp2
    go_ret
    exact ⟨rfl, B1⟩
  · rw [e]
    subst e4
    have d0 : decide (t < 0) = false := decide_eq_false (by omega)
    have d1 : decide (9999 < t) = false := decide_eq_false (by omega)
    rw [e2] at qS
    rw [e3] at qB
    go_enter Tryz.func14, Tryz.ntmps14
    go_upto_region 1 with fail
    rw [← HW.out]
    go_wp2_with (go_at_call 49; refine (qS _).mono ?_; rintro e w1 ⟨rfl, hw1⟩; obtain rfl := hw1.symm)
    refine (qB _ (Below.refl _ _)).mono ?_
    rintro e w1 ⟨rfl, k1⟩
    have B1 := B0.trans (k1.mono B0.size)
    have P1 := P0.below k1
    have c4 := P1.cell (i := 4) rfl
    have c5 := P1.cell (i := 5) rfl
    have c6 := P1.cell (i := 6) rfl
    have cl := P1.lt
    have n5 : (6 : Int) < (ms : Int) := by omega
    go_wp2
    go_ret
    exact ⟨rfl, B1⟩
  · rw [e]
    subst e4
    have d0 : decide (t < 0) = false := decide_eq_false (by omega)
    have d1 : decide (9999 < t) = false := decide_eq_false (by omega)
    rw [e2] at qS
    rw [e3] at qB
    go_enter Tryz.func14, Tryz.ntmps14
    go_upto_region 1 with fail
    rw [← HW.out]
    go_wp2_with (go_at_call 49; refine (qS _).mono ?_; rintro e w1 ⟨rfl, hw1⟩; obtain rfl := hw1.symm)
    refine (qB _ (Below.refl _ _)).mono ?_
    rintro e w1 ⟨rfl, k1⟩
    have B1 := B0.trans (k1.mono B0.size)
    have P1 := P0.below k1
    have c4 := P1.cell (i := 4) rfl
    have c5 := P1.cell (i := 5) rfl
    have c6 := P1.cell (i := 6) rfl
    have cl := P1.lt
    have n5 : decide ((6 : Int) < (ms : Int)) = false := decide_eq_false (by omega)
    have n6 : (6 : Int) < (mo : Int) := by omega
    go_wp2
    go_ret
    exact ⟨rfl, B1⟩
  · rw [e]
    subst e4
    obtain ⟨u8, _, huf, _, _⟩ := bf_ok e3
    rw [Hu.out] at u8
    have hL := fun W' (h : Below W.heap.size W W') => B0.trans (h.mono B0.size)
    have cA := fun W' (h : Below W.heap.size W W') => factionsFault_c a 4 ac fa Ha.out (by omega) W' (hA.later (hL W' h))
    have cS := fun W' (h : Below W.heap.size W W') => seatsFault_c t s u mu uc f mf fc a ac q ms qc r mo rc fa se Ha.out Hs.out e5 W' (hA.later (hL W' h)) (hS.later (hL W' h))
    have cO := fun W' (h : Below W.heap.size W W') => offersFault_c t s u mu uc f mf fc a ac q ms qc r mo rc fa oo Ha.out Ho.out e6 hc hrc W' (hA.later (hL W' h)) (hO.later (hL W' h))
    have cW := fun W' (h : Below W.heap.size W W') => ownersFault_c t s u mu uc f mf fc a ac q ms qc r mo rc fa us Ha.out Hu.out u8 huf W' (hA.later (hL W' h)) (hU.later (hL W' h))
    generalize faF hasI fa 0 fa = RA at cA ⊢
    generalize seF fa none se = RS at cS ⊢
    generalize ofF hasI fa [] oo = RO at cO ⊢
    generalize owF fa us = RW at cW ⊢
    have keep : ∀ w', Below W.heap.size W w' → w'.cell? ⟨w.heap.size, 0, none⟩ = some (.int .i64 t) ∧ w'.cell? ⟨w.heap.size, 1, none⟩ = some (.int .i64 s) ∧ w'.cell? ⟨w.heap.size, 2, none⟩ = some (.slice u mu uc) ∧ w'.cell? ⟨w.heap.size, 3, none⟩ = some (.slice f mf fc) ∧ w'.cell? ⟨w.heap.size, 4, none⟩ = some (.slice a 4 ac) ∧ w'.cell? ⟨w.heap.size, 5, none⟩ = some (.slice q ms qc) ∧ w'.cell? ⟨w.heap.size, 6, none⟩ = some (.slice r mo rc) := fun w' hb => by
      have k := P0.below hb
      exact ⟨k.cell rfl, k.cell rfl, k.cell rfl, k.cell rfl, k.cell rfl, k.cell rfl, k.cell rfl⟩
    have d0 : decide (t < 0) = false := decide_eq_false (by omega)
    have d1 : decide (9999 < t) = false := decide_eq_false (by omega)
    rw [e2] at qS
    rw [e3] at qB
    go_enter Tryz.func14, Tryz.ntmps14
    go_upto_region 1 with fail
    rw [← HW.out]
    go_wp2_with (go_at_call 49; refine (qS _).mono ?_; rintro e w1 ⟨rfl, hw1⟩; obtain rfl := hw1.symm)
    refine (qB _ (Below.refl _ _)).mono ?_
    rintro e w1 ⟨rfl, k1⟩
    have B1 := B0.trans (k1.mono B0.size)
    have P1 := P0.below k1
    have c4 := P1.cell (i := 4) rfl
    have c5 := P1.cell (i := 5) rfl
    have c6 := P1.cell (i := 6) rfl
    have cl := P1.lt
    have n4 : ((4 : Int) != 4) = false := by simp
    have n5 : decide ((6 : Int) < (ms : Int)) = false := decide_eq_false (by omega)
    have n6 : decide ((6 : Int) < (mo : Int)) = false := decide_eq_false (by omega)
    clear p0 p1 p2 p3 pl c4 c5 c6
    obtain ⟨c0, c1, c2, c3, c4, c5, c6⟩ := keep _ k1
    have Bc : Below W.heap.size W w1.drew := k1.trans ((Below.refl _ _).drew.mono k1.size)
    go_upto_region 8 with fail
    go_region_held3 (fun w' => w'.cell? ⟨w.heap.size, 0, none⟩ = some (.int .i64 t) ∧ w'.cell? ⟨w.heap.size, 1, none⟩ = some (.int .i64 s) ∧ w'.cell? ⟨w.heap.size, 2, none⟩ = some (.slice u mu uc) ∧ w'.cell? ⟨w.heap.size, 3, none⟩ = some (.slice f mf fc) ∧ w'.cell? ⟨w.heap.size, 4, none⟩ = some (.slice a 4 ac) ∧ w'.cell? ⟨w.heap.size, 5, none⟩ = some (.slice q ms qc) ∧ w'.cell? ⟨w.heap.size, 6, none⟩ = some (.slice r mo rc)) (first | exact keep _ Bc | exact keep _ (Bc.alloc Bc.size _) | go_keep) (first
      | (go_at_call 52; refine (cA _ Bc).mono ?_; rintro e wn ⟨rfl, kn⟩; have Bc := Bc.trans (kn.mono Bc.size); obtain ⟨c0, c1, c2, c3, c4, c5, c6⟩ := keep _ Bc)
      | (go_at_call 53; refine (cS _ Bc).mono ?_; rintro e wn ⟨rfl, kn⟩; have Bc := Bc.trans (kn.mono Bc.size); obtain ⟨c0, c1, c2, c3, c4, c5, c6⟩ := keep _ Bc)
      | (go_at_call 54; refine (cO _ Bc).mono ?_; rintro e wn ⟨rfl, kn⟩; have Bc := Bc.trans (kn.mono Bc.size); obtain ⟨c0, c1, c2, c3, c4, c5, c6⟩ := keep _ Bc)
      | (go_at_call 55; refine (cW _ Bc).mono ?_; rintro e wn ⟨rfl, kn⟩; have Bc := Bc.trans (kn.mono Bc.size); obtain ⟨c0, c1, c2, c3, c4, c5, c6⟩ := keep _ Bc)
      | (go_at_call 51; refine (or_c _ RA RS RO RW _ (Bk.new _ _ _)).mono ?_; rintro e wm ⟨rfl, hwm⟩; obtain rfl := hwm.symm; have Bc := Bc.alloc Bc.size (.cells #[.int .i64 RA, .int .i64 RS, .int .i64 RO, .int .i64 RW] 2); obtain ⟨c0, c1, c2, c3, c4, c5, c6⟩ := keep _ Bc))
    all_goals
      go_wp2_with fail
      go_ret
      exact ⟨rfl, B0.trans (Bc.mono B0.size)⟩
end Go.Proofs.YtmfdggaijbcijaaGreat
end
