/- Texts of mine put together (a claim holds at most 60 files): WfImpl3, WfImpl4. -/
import Derived.Test.YtppgjmpdnpidnaaGreatDoorPartK02
import Derived.Test.YtppgjmpdnpidnaaGreatDoorPartK03
import Derived.Deep.RegionHeld3
import Derived.Deep.Cut
import Derived.Deep.CutRange

/- WfImpl3 -/
/- Contracts of the program's parts of WorldFault: owners; is an offer among others. Condition: there are four factions, and the lists lie in memory as they were laid there. -/
section
namespace Go.Proofs.YtppgjmpdnpidnaaGreatDoor
open Go.ChangeShapes Go.WideShapes Go.ChangeAt Go.RowKit
open Bd
set_option linter.unusedVariables false

theorem uf_own {u : K10} (h : uf u = 0) : (0 ≤ u.c1 ∧ u.c1 ≤ 3) ∨ u.c1 = 9 := by
  unfold uf at h
  split at h
  · cases h
  · rename_i hh
    have e : head u.c0 u.c1 u.c2 u.c3 u.c4 u.c5 = true := by revert hh; cases head u.c0 u.c1 u.c2 u.c3 u.c4 u.c5 <;> simp
    unfold head own at e
    rw [Bool.and_eq_true, Bool.and_eq_true, Bool.or_eq_true] at e
    rcases e.2.1 with e | e
    · exact .inl (inb_i e)
    · exact .inr (by simpa using e)
set_option maxHeartbeats 8000000 in
theorem ownersFault_c (t s : Int) (u : Option Addr) (mu uc : Nat) (f : Option Addr) (mf fc : Nat) (a : Option Addr) (ac : Nat) (q : Option Addr) (ms qc : Nat) (r : Option Addr) (mo rc : Nat) (fa : List KA) (us : List K10) (h4 : fa.length = 4) (hl : us.length = mu) (hm : mu ≤ 8) (hu : ∀ x ∈ us, uf x = 0) (w : World) (hA : ArgA w a fa) (hU : ArgU w u us) :
    Calls Tryz.prog 31 #[.agg (wv t s u mu uc f mf fc a 4 ac q ms qc r mo rc)] w fun e w' => e = .returned (.int .i64 (owF fa us)) ∧ Below w.heap.size w w' := by
  obtain ⟨ba, oa, rfl, hba, hat⟩ := hA.four h4
  have B0 : Below w.heap.size w (w.alloc (.cells (wv t s u mu uc f mf fc (some ⟨ba, oa, none⟩) 4 ac q ms qc r mo rc) 32)) := (Below.refl _ _).alloc (Nat.le_refl _) _
  have P0 := Bk.new w (wv t s u mu uc f mf fc (some ⟨ba, oa, none⟩) 4 ac q ms qc r mo rc) 32
  have Hat : Hid (AAt w ba oa fa) := hat
  have HU : Hid (ArgU w u us) := hU
  have Hl : Hid (us.length = mu) := hl
  have H4 : Hid (fa.length = 4) := h4
  have Huf : Hid (∀ x ∈ us, uf x = 0) := hu
  obtain ⟨R, HR⟩ : ∃ R : Int, Hid (R = owF fa us) := ⟨_, rfl⟩
  rw [← HR.out]
  have HR0 : Hid (R = owF fa (us.drop 0)) := HR
  clear hat hU hl h4 hA HR hu
  obtain ⟨W, HW⟩ : ∃ W, Hid (W = w.alloc (.cells (wv t s u mu uc f mf fc (some ⟨ba, oa, none⟩) 4 ac q ms qc r mo rc) 32)) := ⟨_, rfl⟩
  rw [← HW.out] at B0 P0
  have HP : Hid (Bk W w.heap.size (wv t s u mu uc f mf fc (some ⟨ba, oa, none⟩) 4 ac q ms qc r mo rc) 32) := P0
  have p2 := P0.cell (i := 2) rfl
  have pl := P0.lt
  go_enter Tryz.func31, Tryz.ntmps31
  go_upto_region 1 with fail
  rw [← HW.out]
  clear HW P0
  go_wp2_with fail
  go_loopw [9] (fun j wr => ∃ k : Nat, k ≤ mu ∧ j = .int .i64 k ∧ Hid (R = owF fa (us.drop k)) ∧ Below W.heap.size W wr) (fun j _ => mu - (intOf j).toNat)
  case atStart => exact ⟨0, Nat.zero_le _, rfl, HR0, Below.refl _ _⟩
  case round =>
    clear p2 pl
    obtain ⟨k, hk, rfl, Hk, kbel⟩ := hrel
    have hbel := B0.trans (kbel.mono B0.size)
    by_cases hlt : k < mu
    · have hlt' : (k : Int) < (mu : Int) := by omega
      obtain ⟨x, hx⟩ : ∃ x, us[k]? = some x := ⟨_, List.getElem?_eq_getElem (by have := Hl.out; omega)⟩
      obtain ⟨b, off, rfl, hb, hat⟩ := HU.out.at hx
      obtain ⟨x0, x1, x2, x3, x4, x5, x6, x7, x8, x9, xl⟩ := (hat.later hb hbel).one (Nat.lt_of_lt_of_le hb hbel.size) hx
      have hS2 : Hid (R = if ((x.c1 != 9) && goneA fa x.c1) = true then 1 else owF fa (us.drop (k + 1))) := by show _ = _; rw [Hk.out, owF_step hx]
      have ho := uf_own (Huf.out x (List.mem_of_getElem? hx))
      have k4 := hbel.alloc hbel.size (.cells x.v 75)
      have kk4 := kbel.alloc kbel.size (.cells x.v 75)
      clear hx hat Hk
      cases h9 : x.c1 == 9
      · have h9' : (x.c1 != 9) = true := by simp only [bne, h9]; rfl
        have hr : 0 ≤ x.c1 ∧ x.c1 ≤ 3 := by
          rcases ho with h | h
          · exact h
          · rw [h] at h9; cases h9
        obtain ⟨i0, i1⟩ := hr
        obtain ⟨g, hg, hgo, _⟩ := side_at H4.out i0 i1
        have hi4 : x.c1 < 4 := by omega
        rw [hgo, h9'] at hS2
        obtain ⟨y0, y1, y2, yl⟩ := (Hat.out.later hba k4).one (Nat.lt_of_lt_of_le hba k4.size) hg
        have p4 := (HP.out.below kk4).cell (i := 4) rfl
        have pl := (HP.out.below kk4).lt
        clear hg hgo ho
        cases eg : g.c1
        · rw [eg] at y1 hS2
          have HE : Hid (R = owF fa (us.drop (k + 1))) := hS2
          go_wp2
          go_roundw
          case rel => exact ⟨k + 1, by omega, by go_num, HE, kk4⟩
          case measure => simp [intOf]; omega
        · rw [eg] at y1 hS2
          have HE : Hid (R = 1) := hS2
          go_wp2
          go_ret
          exact ⟨by rw [HE.out]; rfl, k4⟩
      · have h9' : (x.c1 != 9) = false := by simp only [bne, h9]; rfl
        rw [h9'] at hS2
        have HE : Hid (R = owF fa (us.drop (k + 1))) := hS2
        clear ho
        go_wp2
        go_roundw
        case rel => exact ⟨k + 1, by omega, by go_num, HE, kk4⟩
        case measure => simp [intOf]; omega
    · obtain rfl : mu = k := by omega
      have HE : Hid (R = 0) := by show _ = _; rw [Hk.out, List.drop_of_length_le (by have := Hl.out; omega)]; rfl
      go_wp2
      go_ret
      exact ⟨by rw [HE.out]; rfl, hbel⟩
set_option maxHeartbeats 1000000 in
theorem eqlO (x y : K2) (w : World) : (binOp .eql 85 (.agg x.v) (.agg y.v)).run Tryz.prog w = .ok (.bool (x.b y)) w := by
  rw [run_eql_struct, show (10000 : Nat) = 9999 + 1 from rfl, run_equalIn_agg w 9999 85 _ _ (by kernel_rfl) (by kernel_rfl)]
  simp only [Program.fieldsOf, Tryz.underlying85]
  unfold K2.b
  cases h0 : x.c0 == y.c0
  · go_simp; try rfl
  cases h1 : x.c1 == y.c1
  · go_simp; try rfl
  go_simp
  try rfl
theorem K2.b_comm (x y : K2) : x.b y = y.b x := by
  unfold K2.b
  rw [show (x.c0 == y.c0) = (y.c0 == x.c0) from by rw [Bool.eq_iff_iff]; simp; exact eq_comm, show (x.c1 == y.c1) = (y.c1 == x.c1) from by rw [Bool.eq_iff_iff]; simp; exact eq_comm]
theorem memO_step {l : List K2} {x y : K2} {k : Nat} (h : l[k]? = some y) : memO (l.drop k) x = (y.b x || memO (l.drop (k + 1)) x) := by
  have h' := List.getElem?_eq_some_iff.1 h
  rw [List.drop_eq_getElem_cons h'.1, h'.2]; rfl
/- the place of an offer, or -1 -/
def atO (b : Bool) (r : Int) : Prop := (b = true ∧ 0 ≤ r) ∨ (b = false ∧ r = -1)
set_option maxHeartbeats 4000000 in
theorem index_o (a : Option Addr) (m c : Nat) (l : List K2) (x : K2) (hl : l.length = m) (hm : m ≤ 6) (w : World) (hO : ArgO w a l) :
    Calls Tryz.prog 91 #[.slice a m c, .agg x.v] w fun e w' => ∃ r : Int, e = .returned (.int .i64 r) ∧ atO (memO l x) r ∧ Below w.heap.size w w' := by
  have B0 : Below w.heap.size w (w.alloc (.cells x.v 85)) := (Below.refl _ _).alloc (Nat.le_refl _) _
  have HX : Hid (O1 (w.alloc (.cells x.v 85)) w.heap.size 0 x) := O1.new w x _
  have HO : Hid (ArgO w a l) := hO
  have Hl : Hid (l.length = m) := hl
  obtain ⟨R, HR⟩ : ∃ R : Bool, Hid (R = memO l x) := ⟨_, rfl⟩
  rw [← HR.out]
  have HR0 : Hid (R = memO (l.drop 0) x) := HR
  clear hO hl HR
  obtain ⟨W, HW⟩ : ∃ W, Hid (W = w.alloc (.cells x.v 85)) := ⟨_, rfl⟩
  rw [← HW.out] at B0 HX
  go_enter Tryz.func91, Tryz.ntmps91
  go_upto_region 1 with fail
  rw [← HW.out]
  clear HW
  go_wp2_with fail
  go_loopw [8] (fun j wr => ∃ k : Nat, k ≤ m ∧ j = .int .i64 k ∧ Hid (R = memO (l.drop k) x) ∧ Below W.heap.size W wr) (fun j _ => m - (intOf j).toNat)
  case atStart => exact ⟨0, Nat.zero_le _, rfl, HR0, Below.refl _ _⟩
  case round =>
    obtain ⟨k, hk, rfl, Hk, kbel⟩ := hrel
    have hbel := B0.trans (kbel.mono B0.size)
    by_cases hlt : k < m
    · have hlt' : (k : Int) < (m : Int) := by omega
      obtain ⟨y, hy⟩ : ∃ y, l[k]? = some y := ⟨_, List.getElem?_eq_getElem (by have := Hl.out; omega)⟩
      obtain ⟨b, off, rfl, hb, hat⟩ := HO.out.at hy
      obtain ⟨y0, y1, yl⟩ := (hat.later hb hbel).one (Nat.lt_of_lt_of_le hb hbel.size) hy
      obtain ⟨x0, x1, xl⟩ := HX.out.later kbel
      have hS : Hid (R = (y.b x || memO (l.drop (k + 1)) x)) := by show _ = _; rw [Hk.out, memO_step hy]
      have he := (fun w => by have h := eqlO x y w; rw [K2.b_comm] at h; exact h : ∀ w, (binOp .eql 85 (.agg x.v) (.agg y.v)).run Tryz.prog w = .ok (.bool (y.b x)) w)
      clear hy hat Hk
      cases eb : y.b x
      · rw [eb] at he hS
        have HE : Hid (R = memO (l.drop (k + 1)) x) := hS
        go_wp2
        go_quiet (fail)
        go_wp2
        go_roundw
        case rel => exact ⟨k + 1, by omega, by go_num, HE, kbel.trans ((below_drewN _ _).mono kbel.size)⟩
        case measure => simp [intOf]; omega
      · rw [eb] at he hS
        have HE : Hid (R = true) := hS
        go_wp2
        go_quiet (fail)
        go_wp2
        go_ret
        exact ⟨_, rfl, .inl ⟨HE.out, by omega⟩, hbel.trans ((below_drewN _ _).mono hbel.size)⟩
    · obtain rfl : m = k := by omega
      have HE : Hid (R = false) := by show _ = _; rw [Hk.out, List.drop_of_length_le (by have := Hl.out; omega)]; rfl
      go_wp2
      go_ret
      exact ⟨_, rfl, .inr ⟨HE.out, rfl⟩, hbel⟩
set_option maxHeartbeats 4000000 in
theorem l6Offer_c (a : Option Addr) (m c : Nat) (l : List K2) (x : K2) (hl : l.length = m) (hm : m ≤ 6) (w : World) (hO : ArgO w a l) :
    Calls Tryz.prog 80 #[.slice a m c, .agg x.v] w fun e w' => ∃ r : Int, e = .returned (.int .i64 r) ∧ atO (memO l x) r ∧ Below w.heap.size w w' := by
  have B0 : Below w.heap.size w (w.alloc (.cells x.v 85)) := (Below.refl _ _).alloc (Nat.le_refl _) _
  have HX : Hid (O1 (w.alloc (.cells x.v 85)) w.heap.size 0 x) := O1.new w x _
  have HO : Hid (ArgO w a l) := hO
  have Hl : Hid (l.length = m) := hl
  obtain ⟨R, HR⟩ : ∃ R : Bool, Hid (R = memO l x) := ⟨_, rfl⟩
  rw [← HR.out]
  have HR0 : Hid (R = memO (l.drop 0) x) := HR
  clear hO hl HR
  obtain ⟨W, HW⟩ : ∃ W, Hid (W = w.alloc (.cells x.v 85)) := ⟨_, rfl⟩
  rw [← HW.out] at B0 HX
  go_enter Tryz.func80, Tryz.ntmps80
  go_upto_region 1 with fail
  rw [← HW.out]
  clear HW
  go_wp2_with fail
  go_loopw [5] (fun j wr => ∃ k : Nat, k ≤ m ∧ j = .int .i64 k ∧ Hid (R = memO (l.drop k) x) ∧ Below W.heap.size W wr) (fun j _ => m - (intOf j).toNat)
  case atStart => exact ⟨0, Nat.zero_le _, rfl, HR0, Below.refl _ _⟩
  case round =>
    obtain ⟨k, hk, rfl, Hk, kbel⟩ := hrel
    have hbel := B0.trans (kbel.mono B0.size)
    by_cases hlt : k < m
    · have hlt' : (k : Int) < (m : Int) := by omega
      obtain ⟨y, hy⟩ : ∃ y, l[k]? = some y := ⟨_, List.getElem?_eq_getElem (by have := Hl.out; omega)⟩
      obtain ⟨b, off, rfl, hb, hat⟩ := HO.out.at hy
      obtain ⟨y0, y1, yl⟩ := (hat.later hb hbel).one (Nat.lt_of_lt_of_le hb hbel.size) hy
      obtain ⟨x0, x1, xl⟩ := HX.out.later kbel
      have hS : Hid (R = (y.b x || memO (l.drop (k + 1)) x)) := by show _ = _; rw [Hk.out, memO_step hy]
      have he := fun w => eqlO y x w
      clear hy hat Hk
      cases eb : y.b x
      · rw [eb] at he hS
        have HE : Hid (R = memO (l.drop (k + 1)) x) := hS
        go_wp2
        go_quiet (fail)
        go_wp2
        go_roundw
        case rel => exact ⟨k + 1, by omega, by go_num, HE, kbel.trans ((below_drewN _ _).mono kbel.size)⟩
        case measure => simp [intOf]; omega
      · rw [eb] at he hS
        have HE : Hid (R = true) := hS
        go_wp2
        go_quiet (fail)
        go_wp2
        go_ret
        exact ⟨_, rfl, .inl ⟨HE.out, by omega⟩, hbel.trans ((below_drewN _ _).mono hbel.size)⟩
    · obtain rfl : m = k := by omega
      have HE : Hid (R = false) := by show _ = _; rw [Hk.out, List.drop_of_length_le (by have := Hl.out; omega)]; rfl
      go_wp2
      go_ret
      exact ⟨_, rfl, .inr ⟨HE.out, rfl⟩, hbel⟩
theorem contains_c (a : Option Addr) (m c : Nat) (l : List K2) (x : K2) (hl : l.length = m) (hm : m ≤ 6) (w : World) (hO : ArgO w a l) :
    Calls Tryz.prog 60 #[.slice a m c, .agg x.v] w fun e w' => e = .returned (.bool (memO l x)) ∧ Below w.heap.size w w' := by
  have B0 : Below w.heap.size w (w.alloc (.cells x.v 85)) := (Below.refl _ _).alloc (Nat.le_refl _) _
  have cI := index_o a m c l x hl hm _ (hO.later B0)
  generalize memO l x = M at cI ⊢
  go_enter Tryz.func60, Tryz.ntmps60
  go_wp2_with fail
  refine cI.mono ?_
  rintro e w1 ⟨r, rfl, hr, k1⟩
  have B1 := B0.trans (k1.mono B0.size)
  rcases hr with ⟨rfl, h⟩ | ⟨rfl, rfl⟩
  · go_wp2
    go_ret
    exact ⟨rfl, B1⟩
  · go_wp2
    go_ret
    exact ⟨rfl, B1⟩
end Go.Proofs.YtppgjmpdnpidnaaGreatDoor
end

/- WfImpl4 -/
/- Contracts of the program's parts of WorldFault: offers. Condition: there are four factions, and the lists lie in memory as they were laid there. -/
section
namespace Go.Proofs.YtppgjmpdnpidnaaGreatDoor
open Go.ChangeShapes Go.WideShapes Go.ChangeAt Go.RowKit
open Bd
set_option linter.unusedVariables false

theorem OAt.take {w : World} {b off k : Nat} {l : List K2} (h : OAt w b off l) : OAt w b off (l.take k) := fun i x hi f hf => by
  rw [List.getElem?_take] at hi
  split at hi
  · exact h i x hi f hf
  · cases hi
theorem two_bk (w : World) (x y : Array Value) (T : TypeId) : Bk ((w.alloc (.cells x T)).alloc (.cells y T)).drew w.heap.size x T ∧ Bk ((w.alloc (.cells x T)).alloc (.cells y T)).drew (w.heap.size + 1) y T ∧ Below w.heap.size w ((w.alloc (.cells x T)).alloc (.cells y T)).drew :=
  ⟨(Bk.new w x T).alloc _, by have h := Bk.new (w.alloc (.cells x T)) y T; rw [size_new] at h; exact h, (((Below.refl _ _).alloc (Nat.le_refl _) _).alloc (by rw [size_new]; omega) _).drew⟩
set_option maxHeartbeats 16000000 in
theorem offersFault_c (t s : Int) (u : Option Addr) (mu uc : Nat) (f : Option Addr) (mf fc : Nat) (a : Option Addr) (ac : Nat) (q : Option Addr) (ms qc : Nat) (r : Option Addr) (mo rc : Nat) (fa : List KA) (oo : List K2) (h4 : fa.length = 4) (hl : oo.length = mo) (hm : mo ≤ 6) (hc : mo ≤ rc) (hrc : rc ≤ maxLen) (w : World) (hA : ArgA w a fa) (hO : ArgO w r oo) :
    Calls Tryz.prog 30 #[.agg (wv t s u mu uc f mf fc a 4 ac q ms qc r mo rc)] w fun e w' => e = .returned (.int .i64 (ofF hasI fa [] oo)) ∧ Below w.heap.size w w' := by
  obtain ⟨ba, oa, rfl, hba, hat⟩ := hA.four h4
  have B0 : Below w.heap.size w (w.alloc (.cells (wv t s u mu uc f mf fc (some ⟨ba, oa, none⟩) 4 ac q ms qc r mo rc) 32)) := (Below.refl _ _).alloc (Nat.le_refl _) _
  have P0 := Bk.new w (wv t s u mu uc f mf fc (some ⟨ba, oa, none⟩) 4 ac q ms qc r mo rc) 32
  have Hat : Hid (AAt w ba oa fa) := hat
  have HO : Hid (ArgO w r oo) := hO
  have Hl : Hid (oo.length = mo) := hl
  have H4 : Hid (fa.length = 4) := h4
  obtain ⟨R, HR⟩ : ∃ R : Int, Hid (R = ofF hasI fa [] oo) := ⟨_, rfl⟩
  rw [← HR.out]
  have HR0 : Hid (R = ofF hasI fa (oo.take 0) (oo.drop 0)) := HR
  unfold maxLen at hrc
  clear hat hO hl h4 hA HR
  obtain ⟨W, HW⟩ : ∃ W, Hid (W = w.alloc (.cells (wv t s u mu uc f mf fc (some ⟨ba, oa, none⟩) 4 ac q ms qc r mo rc) 32)) := ⟨_, rfl⟩
  rw [← HW.out] at B0 P0
  have HP : Hid (Bk W w.heap.size (wv t s u mu uc f mf fc (some ⟨ba, oa, none⟩) 4 ac q ms qc r mo rc) 32) := P0
  have p6 := P0.cell (i := 6) rfl
  have pl := P0.lt
  go_enter Tryz.func30, Tryz.ntmps30
  go_upto_region 1 with fail
  rw [← HW.out]
  clear HW P0
  go_wp2_with fail
  go_loopw [10] (fun j wr => ∃ k : Nat, k ≤ mo ∧ j = .int .i64 k ∧ Hid (R = ofF hasI fa (oo.take k) (oo.drop k)) ∧ Below W.heap.size W wr) (fun j _ => mo - (intOf j).toNat)
  case atStart => exact ⟨0, Nat.zero_le _, rfl, HR0, Below.refl _ _⟩
  case round =>
    clear p6 pl
    obtain ⟨k, hk, rfl, Hk, kbel⟩ := hrel
    have hbel := B0.trans (kbel.mono B0.size)
    by_cases hlt : k < mo
    · have hlt' : (k : Int) < (mo : Int) := by omega
      have Hlt : Hid (k < mo) := hlt
      obtain ⟨x, hx⟩ : ∃ x, oo[k]? = some x := ⟨_, List.getElem?_eq_getElem (by have := Hl.out; omega)⟩
      obtain ⟨b, off, rfl, hb, hat⟩ := HO.out.at hx
      obtain ⟨x0, x1, xl⟩ := (hat.later hb hbel).one (Nat.lt_of_lt_of_le hb hbel.size) hx
      have hS2 : Hid (R = if ofR x = false then 3 else if ofB hasI fa (oo.take k) x = true then 1 else ofF hasI fa (oo.take (k + 1)) (oo.drop (k + 1))) := by show _ = _; rw [Hk.out, ofF_step hx]
      have q0 := fun w => isSide_c x.c0 w
      have q1 := fun w => isSide_c x.c1 w
      have k4 := hbel.alloc hbel.size (.cells x.v 85)
      have kk4 := kbel.alloc kbel.size (.cells x.v 85)
      have HZ : Hid (O1 (wr.alloc (.cells x.v 85)) wr.heap.size 0 x) := O1.new wr x _
      have Hoat : Hid (OAt w b off oo) := hat
      clear hx hat Hk
      cases e0 : inb x.c0 0 3
      · rw [e0] at q0
        have HE : Hid (R = 3) := by show _ = _; rw [hS2.out, if_pos (by unfold ofR; rw [e0]; rfl)]
        go_wp2_with (first | (go_at_call 57; with_reducible refine (q0 _).mono ?_; rintro e w1 ⟨rfl, hw1⟩; obtain rfl := hw1.symm) | (go_at_call 57; with_reducible refine (q1 _).mono ?_; rintro e w1 ⟨rfl, hw1⟩; obtain rfl := hw1.symm))
        go_ret
        exact ⟨by rw [HE.out]; rfl, k4⟩
      cases e1 : inb x.c1 0 3
      · rw [e0] at q0
        rw [e1] at q1
        have HE : Hid (R = 3) := by show _ = _; rw [hS2.out, if_pos (by unfold ofR; rw [e0, e1]; rfl)]
        go_wp2_with (first | (go_at_call 57; with_reducible refine (q0 _).mono ?_; rintro e w1 ⟨rfl, hw1⟩; obtain rfl := hw1.symm) | (go_at_call 57; with_reducible refine (q1 _).mono ?_; rintro e w1 ⟨rfl, hw1⟩; obtain rfl := hw1.symm))
        go_ret
        exact ⟨by rw [HE.out]; rfl, k4⟩
      have hS3 : Hid (R = if ofB hasI fa (oo.take k) x = true then 1 else ofF hasI fa (oo.take (k + 1)) (oo.drop (k + 1))) := by show _ = _; rw [hS2.out, if_neg (by unfold ofR; rw [e0, e1]; simp)]
      obtain ⟨i0, i1⟩ := inb_i e0
      obtain ⟨j0, j1⟩ := inb_i e1
      obtain ⟨g, hg, hgo, hga⟩ := side_at H4.out i0 i1
      obtain ⟨h, hh, hho, hha⟩ := side_at H4.out j0 j1
      have hi4 : x.c0 < 4 := by omega
      have hj4 : x.c1 < 4 := by omega
      rw [e0] at q0
      rw [e1] at q1
      unfold ofB at hS3
      rw [hga, hgo, hho] at hS3
      obtain ⟨W4, HW4⟩ : ∃ W4, Hid (W4 = wr.alloc (.cells x.v 85)) := ⟨_, rfl⟩
      rw [← HW4.out] at k4 kk4 HZ
      obtain ⟨y0, y1, y2, yl⟩ := (Hat.out.later hba k4).one (Nat.lt_of_lt_of_le hba k4.size) hg
      obtain ⟨v0, v1, v2, vl⟩ := (Hat.out.later hba k4).one (Nat.lt_of_lt_of_le hba k4.size) hh
      have p4 := (HP.out.below kk4).cell (i := 4) rfl
      have pl := (HP.out.below kk4).lt
      obtain ⟨z0, z1', zl⟩ := HZ.out
      have z1 : W4.cell? ⟨wr.heap.size, 1, none⟩ = some (.int .i64 x.c1) := z1'
      clear z1'
      clear hg hgo hga hh hho hha hS2
      go_upto_region 6 with (first | (go_at_call 57; with_reducible refine (q0 _).mono ?_; rintro e w1 ⟨rfl, hw1⟩; obtain rfl := hw1.symm) | (go_at_call 57; with_reducible refine (q1 _).mono ?_; rintro e w1 ⟨rfl, hw1⟩; obtain rfl := hw1.symm))
      rw [← HW4.out]
      go_cut [5, 6] from 25 to 36 (fun s5 s6 wx => ∃ g5 g6, s5 = .pointer (some ⟨g5, 0, none⟩) ∧ s6 = .pointer (some ⟨g6, 0, none⟩) ∧ Bk wx g5 g.v 61 ∧ Bk wx g6 h.v 61 ∧ Below W4.heap.size W4 wx)
      case first =>
        go_region_held3 (fun w' => w'.cell? ⟨w.heap.size, 4, none⟩ = some (.slice (some ⟨ba, oa, none⟩) 4 ac) ∧ w'.cell? ⟨wr.heap.size, 0, none⟩ = some (.int .i64 x.c0) ∧ w'.cell? ⟨wr.heap.size, 1, none⟩ = some (.int .i64 x.c1) ∧ w'.cell? ⟨ba, oa + x.c0.toNat * 3, none⟩ = some (.int .i64 g.c0) ∧ w'.cell? ⟨ba, oa + x.c0.toNat * 3 + 1, none⟩ = some (.bool g.c1) ∧ w'.cell? ⟨ba, oa + x.c0.toNat * 3 + 2, none⟩ = some (.int .i64 g.c2) ∧ w'.cell? ⟨ba, oa + x.c1.toNat * 3, none⟩ = some (.int .i64 h.c0) ∧ w'.cell? ⟨ba, oa + x.c1.toNat * 3 + 1, none⟩ = some (.bool h.c1) ∧ w'.cell? ⟨ba, oa + x.c1.toNat * 3 + 2, none⟩ = some (.int .i64 h.c2)) (go_keep) (fail)
        all_goals
          go_wp2_with fail
          go_meet
          case rel => first | exact ⟨_, _, rfl, rfl, (two_bk W4 g.v h.v 61).1, (two_bk W4 g.v h.v 61).2.1, (two_bk W4 g.v h.v 61).2.2⟩ | exact ⟨_, _, rfl, rfl, (two_bk W4 h.v g.v 61).2.1, (two_bk W4 h.v g.v 61).1, (two_bk W4 h.v g.v 61).2.2⟩
      case rest =>
        obtain ⟨g5, g6, rfl, rfl, K5, K6, kx⟩ := hcut
        obtain ⟨wx, hwx⟩ : ∃ y : World, y = wc := ⟨_, rfl⟩
        subst hwx
        have kW := k4.trans (kx.mono k4.size)
        have kk5 := kk4.trans (kx.mono kk4.size)
        obtain ⟨z0, z1', zl⟩ := HZ.out.later kx
        have z1 : wx.cell? ⟨wr.heap.size, 1, none⟩ = some (.int .i64 x.c1) := z1'
        clear z1'
        have a1 := K5.cell (i := 1) rfl
        have a2 := K5.cell (i := 2) rfl
        have al := K5.lt
        have b1 := K6.cell (i := 1) rfl
        have bl := K6.lt
        have qB := fun w => hasBit_c g.c2 x.c1 (by omega) (by omega) w
        clear y0 y1 y2 yl v0 v1 v2 vl p4 pl
        cases d1 : x.c0 == x.c1
        · rw [d1] at hS3
          cases d2 : hasI g.c2 x.c1
          · rw [d2] at qB hS3
            cases d3 : g.c1
            · rw [d3] at hS3
              replace a1 : wx.cell? ⟨g5, 1, none⟩ = some (.bool false) := by rw [← d3]; exact a1
              cases d4 : h.c1
              · rw [d4] at hS3
                replace b1 : wx.cell? ⟨g6, 1, none⟩ = some (.bool false) := by rw [← d4]; exact b1
                have hS4 : Hid (R = if memO (oo.take k) x = true then 1 else ofF hasI fa (oo.take (k + 1)) (oo.drop (k + 1))) := hS3
                have cC := fun W' (h : Below wx.heap.size wx W') => contains_c (some ⟨b, off, none⟩) k rc (oo.take k) x (by rw [List.length_take]; have := Hl.out; have := Hlt.out; omega) (by have := Hlt.out; omega) W' (.inr ⟨b, off, rfl, Nat.lt_of_lt_of_le hb (kW.trans (h.mono kW.size)).size, (Hoat.out.later hb (kW.trans (h.mono kW.size))).take⟩)
                generalize memO (oo.take k) x = M at cC hS4
                have p6 := (HP.out.below kk5).cell (i := 6) rfl
                have pl := (HP.out.below kk5).lt
                have hkc : (k : Int) ≤ (rc : Int) := by have := Hlt.out; omega
                have hk0 : (0 : Int) ≤ (k : Int) := by omega
                have Bc : Below wx.heap.size wx wx.drew := (Below.refl _ _).drew
                clear hS3
                go_upto_region 9 with (go_at_call 59; refine (qB _).mono ?_; rintro e w1 ⟨rfl, hw1⟩; obtain rfl := hw1.symm)
                go_region_held3 (fun w' => w'.cell? ⟨w.heap.size, 6, none⟩ = some (.slice (some ⟨b, off, none⟩) mo rc) ∧ w'.cell? ⟨wr.heap.size, 0, none⟩ = some (.int .i64 x.c0) ∧ w'.cell? ⟨wr.heap.size, 1, none⟩ = some (.int .i64 x.c1)) (go_keep) (first
                  | (go_at_call 60; refine (cC _ Bc).mono ?_; rintro e wn ⟨rfl, kn⟩; have Bc := Bc.trans (kn.mono Bc.size); have p6 := (HP.out.below (kk5.trans (Bc.mono kk5.size))).cell (i := 6) rfl; obtain ⟨z0, z1', zl⟩ := HZ.out.later (kx.trans (Bc.mono kx.size)); have z1 : wn.cell? ⟨wr.heap.size, 1, none⟩ = some (.int .i64 x.c1) := z1'))
                all_goals
                  cases M
                  · have HE : Hid (R = ofF hasI fa (oo.take (k + 1)) (oo.drop (k + 1))) := hS4
                    go_wp2_with fail
                    go_roundw
                    case rel => exact ⟨k + 1, by have := Hlt.out; omega, by go_num, HE, kk5.trans (Bc.mono kk5.size)⟩
                    case measure => have := Hlt.out; simp [intOf]; omega
                  · have HE : Hid (R = 1) := hS4
                    go_wp2_with fail
                    go_ret
                    exact ⟨by rw [HE.out]; rfl, kW.trans (Bc.mono kW.size)⟩
              · rw [d4] at hS3
                replace b1 : wx.cell? ⟨g6, 1, none⟩ = some (.bool true) := by rw [← d4]; exact b1
                have HE : Hid (R = 1) := hS3
                go_wp2_with (go_at_call 59; refine (qB _).mono ?_; rintro e w1 ⟨rfl, hw1⟩; obtain rfl := hw1.symm)
                go_ret
                exact ⟨by rw [HE.out]; rfl, kW⟩
            · rw [d3] at hS3
              replace a1 : wx.cell? ⟨g5, 1, none⟩ = some (.bool true) := by rw [← d3]; exact a1
              have HE : Hid (R = 1) := hS3
              go_wp2_with (go_at_call 59; refine (qB _).mono ?_; rintro e w1 ⟨rfl, hw1⟩; obtain rfl := hw1.symm)
              go_ret
              exact ⟨by rw [HE.out]; rfl, kW⟩
          · rw [d2] at qB hS3
            have HE : Hid (R = 1) := hS3
            go_wp2_with (go_at_call 59; refine (qB _).mono ?_; rintro e w1 ⟨rfl, hw1⟩; obtain rfl := hw1.symm)
            go_ret
            exact ⟨by rw [HE.out]; rfl, kW⟩
        · rw [d1] at hS3
          have HE : Hid (R = 1) := hS3
          go_wp2_with (go_at_call 59; refine (qB _).mono ?_; rintro e w1 ⟨rfl, hw1⟩; obtain rfl := hw1.symm)
          go_ret
          exact ⟨by rw [HE.out]; rfl, kW⟩
    · obtain rfl : mo = k := by omega
      have HE : Hid (R = 0) := by show _ = _; rw [Hk.out, List.drop_of_length_le (by have := Hl.out; omega)]; rfl
      go_wp2
      go_ret
      exact ⟨by rw [HE.out]; rfl, hbel⟩
end Go.Proofs.YtppgjmpdnpidnaaGreatDoor
end
