/- Texts of mine put together (a claim holds at most 60 files): BoardWalks, WfImpl3. -/
import Derived.Test.YtaeeahgibifkjaaPartT05
import Derived.Test.YtaeeahgibifkjaaPartT04

/- BoardWalks -/
/- Contracts of BoardFault and of its model. Condition: the board's two lists lie in memory as they were laid there. -/
section
namespace Go.Proofs.Ytaeeahgibifkjaa
open Go.ChangeShapes Go.WideShapes Go.ChangeAt Go.RowKit
open Bd
set_option linter.unusedVariables false

/- A board in a block of memory: its two slices. -/
structure BrdAt (w : World) (p : Nat) (s f : Value) : Prop where
  c0 : w.cell? ⟨p, 0, none⟩ = some s
  c1 : w.cell? ⟨p, 1, none⟩ = some f
  lt : p < w.heap.size
theorem BrdAt.later {w w' : World} {p : Nat} {s f : Value} (h : BrdAt w p s f) (hb : Below w.heap.size w w') : BrdAt w' p s f :=
  ⟨by rw [hb.cell h.lt]; exact h.c0, by rw [hb.cell h.lt]; exact h.c1, Nat.lt_of_lt_of_le h.lt hb.size⟩
theorem BrdAt.new (w : World) (s f : Value) (t : TypeId) : BrdAt (w.alloc (.cells #[s, f] t)) w.heap.size s f :=
  ⟨cell_new _ _ _ _ _ rfl, cell_new _ _ _ _ _ rfl, by rw [size_new]; omega⟩
theorem ArgU.at {w : World} {a : Option Addr} {l : List K10} (h : ArgU w a l) {i : Nat} {x : K10} (hi : l[i]? = some x) : ∃ b off, a = some ⟨b, off, none⟩ ∧ b < w.heap.size ∧ UAt w b off l := by
  rcases h with h | h
  · rw [h] at hi; simp at hi
  · exact h
theorem ArgF.at {w : World} {a : Option Addr} {l : List K3} (h : ArgF w a l) {i : Nat} {x : K3} (hi : l[i]? = some x) : ∃ b off, a = some ⟨b, off, none⟩ ∧ b < w.heap.size ∧ FAt w b off l := by
  rcases h with h | h
  · rw [h] at hi; simp at hi
  · exact h

set_option maxHeartbeats 4000000 in
theorem l4Fault_c (p : Nat) (a : Option Addr) (m c : Nat) (a' : Option Addr) (m' c' : Nat) (us : List K10) (fs : List K3) (hl : us.length = m) (hl' : fs.length = m') (w : World) (hB : BrdAt w p (.slice a m c) (.slice a' m' c')) (hU : ArgU w a us) (hF : ArgF w a' fs) :
    Calls Try.prog 46 #[.pointer (some ⟨p, 0, none⟩)] w fun e w' => e = .returned (.int .i64 (bf us fs)) ∧ Below w.heap.size w w' := by
  have HB : Hid (BrdAt w p (.slice a m c) (.slice a' m' c')) := hB
  have HU : Hid (ArgU w a us) := hU
  have HF : Hid (ArgF w a' fs) := hF
  have Hl : Hid (us.length = m) := hl
  have Hl' : Hid (fs.length = m') := hl'
  obtain ⟨b0, b1, blt⟩ := hB
  clear hU hF
  by_cases h8 : 8 < m
  · have e : bf us fs = 2 := by unfold bf; rw [if_pos (by omega)]
    rw [e]
    clear e hl hl'
    have d : (8 : Int) < (m : Int) := by omega
    go_enter Try.func46, Try.ntmps46
    go_wp2
    go_ret
    exact ⟨rfl, Below.refl _ _⟩
  by_cases h4 : 4 < m'
  · have e : bf us fs = 2 := by unfold bf; rw [if_pos (by omega)]
    rw [e]
    clear e hl hl'
    have d0 : decide ((8 : Int) < (m : Int)) = false := decide_eq_false (by omega)
    have d : (4 : Int) < (m' : Int) := by omega
    go_enter Try.func46, Try.ntmps46
    go_wp2
    go_ret
    exact ⟨rfl, Below.refl _ _⟩
  have e : bf us fs = ufs (prevId us 0) (ffs fs) (us.drop 0) := by unfold bf prevId; rw [if_neg (by omega), if_pos rfl]; rfl
  obtain ⟨R, HR⟩ : ∃ R : Int, Hid (R = bf us fs) := ⟨_, rfl⟩
  rw [← HR.out]
  have HR0 : Hid (R = ufs (prevId us 0) (ffs fs) (us.drop 0)) := by show _ = _; rw [HR.out, e]
  clear e hl hl' HR
  have d8 : decide ((8 : Int) < (m : Int)) = false := decide_eq_false (by omega)
  have d4 : decide ((4 : Int) < (m' : Int)) = false := decide_eq_false (by omega)
  go_enter Try.func46, Try.ntmps46
  go_wp2
  go_loopw [3] (fun i wr => ∃ k : Nat, k ≤ m ∧ i = .int .i64 k ∧ Hid (R = ufs (prevId us k) (ffs fs) (us.drop k)) ∧ Below w.heap.size w wr) (fun i _ => m - (intOf i).toNat)
  case atStart => exact ⟨0, Nat.zero_le _, rfl, HR0, Below.refl _ _⟩
  case round =>
    obtain ⟨k, hk, rfl, Hk, hbel⟩ := hrel
    obtain ⟨b0, b1, blt⟩ := HB.out.later hbel
    by_cases hlt : k < m
    · have hlt' : (k : Int) < (m : Int) := by omega
      obtain ⟨x, hx⟩ : ∃ x, us[k]? = some x := ⟨_, List.getElem?_eq_getElem (by have := Hl.out; omega)⟩
      obtain ⟨b, off, rfl, hb, hat⟩ := HU.out.at hx
      have cU := l4Unit_c b (off + k * 10) x _ ((hat.later hb hbel).one (Nat.lt_of_lt_of_le hb hbel.size) hx)
      have HS : Hid (R = if (uf x == 0) = false then uf x else if leP (prevId us k) x.c0 = true then 1 else ufs (some x.c0) (ffs fs) (us.drop (k + 1))) := by show _ = _; rw [Hk.out, ufs_step hx]
      have Hx : Hid (us[k]? = some x) := hx
      have Hat : Hid (UAt w b off us) := hat
      clear hx hat
      go_wp2_with fail
      refine cU.mono ?_
      rintro e w1 ⟨rfl, k1⟩
      have hbel1 := hbel.trans (k1.mono hbel.size)
      obtain ⟨b0, b1, blt⟩ := HB.out.later hbel1
      clear cU
      cases hq : uf x == 0
      · have HE : Hid (R = uf x) := by show _ = _; rw [HS.out, if_pos hq]
        have hq' := bne_of hq
        go_wp2
        go_ret
        exact ⟨by rw [HE.out]; rfl, hbel1⟩
      · have hz : uf x = 0 := by simpa using hq
        have hq' : (uf x != 0) = false := by simp only [bne, hq]; rfl
        have HN : Hid (prevId us (k + 1) = some x.c0) := prevId_next Hx.out
        rcases k with _ | k
        · have HE : Hid (R = ufs (prevId us (0 + 1)) (ffs fs) (us.drop (0 + 1))) := by show _ = _; rw [HS.out, if_neg (by rw [hq]; simp), HN.out]; rfl
          go_wp2
          go_quiet (fail)
          go_wp2
          go_roundw
          case rel => exact ⟨0 + 1, by omega, by go_num, HE, hbel1.trans ((below_drewN _ _).mono hbel1.size)⟩
          case measure => simp [intOf]; omega
        · obtain ⟨y, hy⟩ : ∃ y, us[k]? = some y := ⟨_, List.getElem?_eq_getElem (by have := Hl.out; omega)⟩
          have HP : Hid (prevId us (k + 1) = some y.c0) := prevId_next hy
          have a0 := (Hat.out.later hb hbel1).all Hx.out |>.1
          have a1 := (Hat.out.later hb hbel1).all hy |>.1
          clear hy
          cases hd : decide (x.c0 ≤ y.c0)
          · have HE : Hid (R = ufs (prevId us (k + 1 + 1)) (ffs fs) (us.drop (k + 1 + 1))) := by
              show _ = _
              rw [HS.out, if_neg (by rw [hq]; simp), HN.out, HP.out, if_neg (by show ¬ decide (x.c0 ≤ y.c0) = true; rw [hd]; simp)]
            go_wp2
            go_quiet (fail)
            go_wp2
            go_roundw
            case rel => exact ⟨k + 1 + 1, by omega, by go_num, HE, hbel1.trans ((below_drewN _ _).mono hbel1.size)⟩
            case measure => simp [intOf]; omega
          · have HE : Hid (R = 1) := by
              show _ = _
              rw [HS.out, if_neg (by rw [hq]; simp), HP.out, if_pos (show leP (some y.c0) x.c0 = true from hd)]
            go_wp2
            go_quiet (fail)
            go_wp2
            go_ret
            exact ⟨by rw [HE.out]; rfl, hbel1.trans ((below_drewN _ _).mono hbel1.size)⟩
    · obtain rfl : k = m := by omega
      have HE : Hid (R = ffs (fs.drop 0)) := by show _ = _; rw [Hk.out, List.drop_of_length_le (by have := Hl.out; omega)]; rfl
      clear Hk
      go_wp2
      go_loopw [5] (fun i wr => ∃ k : Nat, k ≤ m' ∧ i = .int .i64 k ∧ Hid (R = ffs (fs.drop k)) ∧ Below w.heap.size w wr) (fun i _ => m' - (intOf i).toNat)
      case atStart => exact ⟨0, Nat.zero_le _, rfl, HE, hbel⟩
      case round =>
        obtain ⟨j, hj, rfl, Hj, hbel⟩ := hrel
        obtain ⟨b0, b1, blt⟩ := HB.out.later hbel
        by_cases hlt : j < m'
        · have hlt' : (j : Int) < (m' : Int) := by omega
          obtain ⟨x, hx⟩ : ∃ x, fs[j]? = some x := ⟨_, List.getElem?_eq_getElem (by have := Hl'.out; omega)⟩
          obtain ⟨b, off, rfl, hb, hat⟩ := HF.out.at hx
          have HS : Hid (R = if ff x = false then 3 else ffs (fs.drop (j + 1))) := by show _ = _; rw [Hj.out, ffs_step hx]
          obtain ⟨x0, x1, x2, xl⟩ := (hat.later hb hbel).one (Nat.lt_of_lt_of_le hb hbel.size) hx
          have P0 := fun n => Later.cell blt b1 n
          have X0 := fun n => Later.cell xl x0 n
          have X1 := fun n => Later.cell xl x1 n
          have X2 := fun n => Later.cell xl x2 n
          have q1 := fun w => l1Tile_c x.c0 x.c1 w
          have q2 := fun w => l1In_c x.c2 0 10000 w
          clear hx hat
          have hff : (tile x.c0 x.c1 = false ∧ ff x = false) ∨ (tile x.c0 x.c1 = true ∧ inb x.c2 0 10000 = false ∧ ff x = false) ∨ (tile x.c0 x.c1 = true ∧ inb x.c2 0 10000 = true ∧ ff x = true) := by
            unfold ff; cases tile x.c0 x.c1 <;> cases inb x.c2 0 10000 <;> simp
          rcases hff with ⟨e1, ef⟩ | ⟨e1, e2, ef⟩ | ⟨e1, e2, ef⟩
          · have HE : Hid (R = 3) := by show _ = _; rw [HS.out, if_pos ef]
            rw [e1] at q1
            go_wp2_with fail
            refine wp_region_later (by kernel_rfl) (by kernel_rfl) (fun hne => ?_)
            repeat (go_big_quiet_step (first | (go_at_call 66; exact Later.call0 (q1 _)) | (go_at_call 45; exact Later.call0 (q2 _))))
            refine wpQuiet_nil ?_
            rintro _ ⟨nn, rfl⟩
            have hb2 := hbel.trans (nn.bel.mono hbel.size)
            clear P0 X0 X1 X2 hne
            go_wp2_with fail
            go_ret
            exact ⟨by rw [HE.out]; rfl, hb2⟩
          · have HE : Hid (R = 3) := by show _ = _; rw [HS.out, if_pos ef]
            rw [e1] at q1
            rw [e2] at q2
            go_wp2_with fail
            refine wp_region_later (by kernel_rfl) (by kernel_rfl) (fun hne => ?_)
            repeat (go_big_quiet_step (first | (go_at_call 66; exact Later.call0 (q1 _)) | (go_at_call 45; exact Later.call0 (q2 _))))
            refine wpQuiet_nil ?_
            rintro _ ⟨nn, rfl⟩
            have hb2 := hbel.trans (nn.bel.mono hbel.size)
            clear P0 X0 X1 X2 hne
            go_wp2_with fail
            go_ret
            exact ⟨by rw [HE.out]; rfl, hb2⟩
          · have HE : Hid (R = ffs (fs.drop (j + 1))) := by show _ = _; rw [HS.out, if_neg (by rw [ef]; simp)]
            rw [e1] at q1
            rw [e2] at q2
            go_wp2_with fail
            refine wp_region_later (by kernel_rfl) (by kernel_rfl) (fun hne => ?_)
            repeat (go_big_quiet_step (first | (go_at_call 66; exact Later.call0 (q1 _)) | (go_at_call 45; exact Later.call0 (q2 _))))
            refine wpQuiet_nil ?_
            rintro _ ⟨nn, rfl⟩
            have hb2 := hbel.trans (nn.bel.mono hbel.size)
            clear P0 X0 X1 X2 hne
            go_wp2_with fail
            go_roundw
            case rel => exact ⟨j + 1, by omega, by go_num, HE, hb2⟩
            case measure => simp [intOf]; omega
        · obtain rfl : j = m' := by omega
          have HE : Hid (R = 0) := by show _ = _; rw [Hj.out, List.drop_of_length_le (by have := Hl'.out; omega)]; rfl
          go_wp2
          go_ret
          exact ⟨by rw [HE.out]; rfl, hbel⟩
end Go.Proofs.Ytaeeahgibifkjaa
end

/- WfImpl3 -/
/- Contracts of the program's parts of WorldFault: owners; is an offer among others. Condition: there are four factions, and the lists lie in memory as they were laid there. -/
section
namespace Go.Proofs.Ytaeeahgibifkjaa
open Go.ChangeShapes Go.WideShapes Go.ChangeAt Go.RowKit
open Bd
set_option linter.unusedVariables false

theorem uf_own {u : K10} (h : uf u = 0) : (0 ≤ u.c1 ∧ u.c1 ≤ 3) ∨ u.c1 = 9 := by
  unfold uf at h
  split at h
  · cases h
  · rename_i hh
    have e : head u.c0 u.c1 u.c2 u.c3 u.c4 u.c5 = true := by revert hh; cases head u.c0 u.c1 u.c2 u.c3 u.c4 u.c5 <;> simp
    unfold head own at e
    rw [Bool.and_eq_true, Bool.and_eq_true, Bool.or_eq_true] at e
    rcases e.2.1 with e | e
    · exact .inl (inb_i e)
    · exact .inr (by simpa using e)
set_option maxHeartbeats 8000000 in
theorem ownersFault_c (t s : Int) (u : Option Addr) (mu uc : Nat) (f : Option Addr) (mf fc : Nat) (a : Option Addr) (ac : Nat) (q : Option Addr) (ms qc : Nat) (r : Option Addr) (mo rc : Nat) (fa : List KA) (us : List K10) (h4 : fa.length = 4) (hl : us.length = mu) (hm : mu ≤ 8) (hu : ∀ x ∈ us, uf x = 0) (w : World) (hA : ArgA w a fa) (hU : ArgU w u us) :
    Calls Try.prog 30 #[.agg (wv t s u mu uc f mf fc a 4 ac q ms qc r mo rc)] w fun e w' => e = .returned (.int .i64 (owF fa us)) ∧ Below w.heap.size w w' := by
  obtain ⟨ba, oa, rfl, hba, hat⟩ := hA.four h4
  have B0 : Below w.heap.size w (w.alloc (.cells (wv t s u mu uc f mf fc (some ⟨ba, oa, none⟩) 4 ac q ms qc r mo rc) 32)) := (Below.refl _ _).alloc (Nat.le_refl _) _
  have P0 := Bk.new w (wv t s u mu uc f mf fc (some ⟨ba, oa, none⟩) 4 ac q ms qc r mo rc) 32
  have Hat : Hid (AAt w ba oa fa) := hat
  have HU : Hid (ArgU w u us) := hU
  have Hl : Hid (us.length = mu) := hl
  have H4 : Hid (fa.length = 4) := h4
  have Huf : Hid (∀ x ∈ us, uf x = 0) := hu
  obtain ⟨R, HR⟩ : ∃ R : Int, Hid (R = owF fa us) := ⟨_, rfl⟩
  rw [← HR.out]
  have HR0 : Hid (R = owF fa (us.drop 0)) := HR
  clear hat hU hl h4 hA HR hu
  obtain ⟨W, HW⟩ : ∃ W, Hid (W = w.alloc (.cells (wv t s u mu uc f mf fc (some ⟨ba, oa, none⟩) 4 ac q ms qc r mo rc) 32)) := ⟨_, rfl⟩
  rw [← HW.out] at B0 P0
  have HP : Hid (Bk W w.heap.size (wv t s u mu uc f mf fc (some ⟨ba, oa, none⟩) 4 ac q ms qc r mo rc) 32) := P0
  have p2 := P0.cell (i := 2) rfl
  have pl := P0.lt
  go_enter Try.func30, Try.ntmps30
  go_upto_region 1 with fail
  rw [← HW.out]
  clear HW P0
  go_wp2_with fail
  go_loopw [9] (fun j wr => ∃ k : Nat, k ≤ mu ∧ j = .int .i64 k ∧ Hid (R = owF fa (us.drop k)) ∧ Below W.heap.size W wr) (fun j _ => mu - (intOf j).toNat)
  case atStart => exact ⟨0, Nat.zero_le _, rfl, HR0, Below.refl _ _⟩
  case round =>
    clear p2 pl
    obtain ⟨k, hk, rfl, Hk, kbel⟩ := hrel
    have hbel := B0.trans (kbel.mono B0.size)
    by_cases hlt : k < mu
    · have hlt' : (k : Int) < (mu : Int) := by omega
      obtain ⟨x, hx⟩ : ∃ x, us[k]? = some x := ⟨_, List.getElem?_eq_getElem (by have := Hl.out; omega)⟩
      obtain ⟨b, off, rfl, hb, hat⟩ := HU.out.at hx
      obtain ⟨x0, x1, x2, x3, x4, x5, x6, x7, x8, x9, xl⟩ := (hat.later hb hbel).one (Nat.lt_of_lt_of_le hb hbel.size) hx
      have hS2 : Hid (R = if ((x.c1 != 9) && goneA fa x.c1) = true then 1 else owF fa (us.drop (k + 1))) := by show _ = _; rw [Hk.out, owF_step hx]
      have ho := uf_own (Huf.out x (List.mem_of_getElem? hx))
      have k4 := hbel.alloc hbel.size (.cells x.v 89)
      have kk4 := kbel.alloc kbel.size (.cells x.v 89)
      clear hx hat Hk
      cases h9 : x.c1 == 9
      · have h9' : (x.c1 != 9) = true := by simp only [bne, h9]; rfl
        have hr : 0 ≤ x.c1 ∧ x.c1 ≤ 3 := by
          rcases ho with h | h
          · exact h
          · rw [h] at h9; cases h9
        obtain ⟨i0, i1⟩ := hr
        obtain ⟨g, hg, hgo, _⟩ := side_at H4.out i0 i1
        have hi4 : x.c1 < 4 := by omega
        rw [hgo, h9'] at hS2
        obtain ⟨y0, y1, y2, yl⟩ := (Hat.out.later hba k4).one (Nat.lt_of_lt_of_le hba k4.size) hg
        have p4 := (HP.out.below kk4).cell (i := 4) rfl
        have pl := (HP.out.below kk4).lt
        clear hg hgo ho
        cases eg : g.c1
        · rw [eg] at y1 hS2
          have HE : Hid (R = owF fa (us.drop (k + 1))) := hS2
          go_wp2
          go_roundw
          case rel => exact ⟨k + 1, by omega, by go_num, HE, kk4⟩
          case measure => simp [intOf]; omega
        · rw [eg] at y1 hS2
          have HE : Hid (R = 1) := hS2
          go_wp2
          go_ret
          exact ⟨by rw [HE.out]; rfl, k4⟩
      · have h9' : (x.c1 != 9) = false := by simp only [bne, h9]; rfl
        rw [h9'] at hS2
        have HE : Hid (R = owF fa (us.drop (k + 1))) := hS2
        clear ho
        go_wp2
        go_roundw
        case rel => exact ⟨k + 1, by omega, by go_num, HE, kk4⟩
        case measure => simp [intOf]; omega
    · obtain rfl : mu = k := by omega
      have HE : Hid (R = 0) := by show _ = _; rw [Hk.out, List.drop_of_length_le (by have := Hl.out; omega)]; rfl
      go_wp2
      go_ret
      exact ⟨by rw [HE.out]; rfl, hbel⟩
set_option maxHeartbeats 1000000 in
theorem eqlO (x y : K2) (w : World) : (binOp .eql 73 (.agg x.v) (.agg y.v)).run Try.prog w = .ok (.bool (x.b y)) w := by
  rw [run_eql_struct, show (10000 : Nat) = 9999 + 1 from rfl, run_equalIn_agg w 9999 73 _ _ (by kernel_rfl) (by kernel_rfl)]
  simp only [Program.fieldsOf, Try.underlying73]
  unfold K2.b
  cases h0 : x.c0 == y.c0
  · go_simp; try rfl
  cases h1 : x.c1 == y.c1
  · go_simp; try rfl
  go_simp
  try rfl
theorem K2.b_comm (x y : K2) : x.b y = y.b x := by
  unfold K2.b
  rw [show (x.c0 == y.c0) = (y.c0 == x.c0) from by rw [Bool.eq_iff_iff]; simp; exact eq_comm, show (x.c1 == y.c1) = (y.c1 == x.c1) from by rw [Bool.eq_iff_iff]; simp; exact eq_comm]
theorem memO_step {l : List K2} {x y : K2} {k : Nat} (h : l[k]? = some y) : memO (l.drop k) x = (y.b x || memO (l.drop (k + 1)) x) := by
  have h' := List.getElem?_eq_some_iff.1 h
  rw [List.drop_eq_getElem_cons h'.1, h'.2]; rfl
/- the place of an offer, or -1 -/
def atO (b : Bool) (r : Int) : Prop := (b = true ∧ 0 ≤ r) ∨ (b = false ∧ r = -1)
set_option maxHeartbeats 4000000 in
theorem index_o (a : Option Addr) (m c : Nat) (l : List K2) (x : K2) (hl : l.length = m) (hm : m ≤ 6) (w : World) (hO : ArgO w a l) :
    Calls Try.prog 78 #[.slice a m c, .agg x.v] w fun e w' => ∃ r : Int, e = .returned (.int .i64 r) ∧ atO (memO l x) r ∧ Below w.heap.size w w' := by
  have B0 : Below w.heap.size w (w.alloc (.cells x.v 73)) := (Below.refl _ _).alloc (Nat.le_refl _) _
  have HX : Hid (O1 (w.alloc (.cells x.v 73)) w.heap.size 0 x) := O1.new w x _
  have HO : Hid (ArgO w a l) := hO
  have Hl : Hid (l.length = m) := hl
  obtain ⟨R, HR⟩ : ∃ R : Bool, Hid (R = memO l x) := ⟨_, rfl⟩
  rw [← HR.out]
  have HR0 : Hid (R = memO (l.drop 0) x) := HR
  clear hO hl HR
  obtain ⟨W, HW⟩ : ∃ W, Hid (W = w.alloc (.cells x.v 73)) := ⟨_, rfl⟩
  rw [← HW.out] at B0 HX
  go_enter Try.func78, Try.ntmps78
  go_upto_region 1 with fail
  rw [← HW.out]
  clear HW
  go_wp2_with fail
  go_loopw [8] (fun j wr => ∃ k : Nat, k ≤ m ∧ j = .int .i64 k ∧ Hid (R = memO (l.drop k) x) ∧ Below W.heap.size W wr) (fun j _ => m - (intOf j).toNat)
  case atStart => exact ⟨0, Nat.zero_le _, rfl, HR0, Below.refl _ _⟩
  case round =>
    obtain ⟨k, hk, rfl, Hk, kbel⟩ := hrel
    have hbel := B0.trans (kbel.mono B0.size)
    by_cases hlt : k < m
    · have hlt' : (k : Int) < (m : Int) := by omega
      obtain ⟨y, hy⟩ : ∃ y, l[k]? = some y := ⟨_, List.getElem?_eq_getElem (by have := Hl.out; omega)⟩
      obtain ⟨b, off, rfl, hb, hat⟩ := HO.out.at hy
      obtain ⟨y0, y1, yl⟩ := (hat.later hb hbel).one (Nat.lt_of_lt_of_le hb hbel.size) hy
      obtain ⟨x0, x1, xl⟩ := HX.out.later kbel
      have hS : Hid (R = (y.b x || memO (l.drop (k + 1)) x)) := by show _ = _; rw [Hk.out, memO_step hy]
      have he := (fun w => by have h := eqlO x y w; rw [K2.b_comm] at h; exact h : ∀ w, (binOp .eql 73 (.agg x.v) (.agg y.v)).run Try.prog w = .ok (.bool (y.b x)) w)
      clear hy hat Hk
      cases eb : y.b x
      · rw [eb] at he hS
        have HE : Hid (R = memO (l.drop (k + 1)) x) := hS
        go_wp2
        go_quiet (fail)
        go_wp2
        go_roundw
        case rel => exact ⟨k + 1, by omega, by go_num, HE, kbel.trans ((below_drewN _ _).mono kbel.size)⟩
        case measure => simp [intOf]; omega
      · rw [eb] at he hS
        have HE : Hid (R = true) := hS
        go_wp2
        go_quiet (fail)
        go_wp2
        go_ret
        exact ⟨_, rfl, .inl ⟨HE.out, by omega⟩, hbel.trans ((below_drewN _ _).mono hbel.size)⟩
    · obtain rfl : m = k := by omega
      have HE : Hid (R = false) := by show _ = _; rw [Hk.out, List.drop_of_length_le (by have := Hl.out; omega)]; rfl
      go_wp2
      go_ret
      exact ⟨_, rfl, .inr ⟨HE.out, rfl⟩, hbel⟩
set_option maxHeartbeats 4000000 in
theorem l6Offer_c (a : Option Addr) (m c : Nat) (l : List K2) (x : K2) (hl : l.length = m) (hm : m ≤ 6) (w : World) (hO : ArgO w a l) :
    Calls Try.prog 70 #[.slice a m c, .agg x.v] w fun e w' => ∃ r : Int, e = .returned (.int .i64 r) ∧ atO (memO l x) r ∧ Below w.heap.size w w' := by
  have B0 : Below w.heap.size w (w.alloc (.cells x.v 73)) := (Below.refl _ _).alloc (Nat.le_refl _) _
  have HX : Hid (O1 (w.alloc (.cells x.v 73)) w.heap.size 0 x) := O1.new w x _
  have HO : Hid (ArgO w a l) := hO
  have Hl : Hid (l.length = m) := hl
  obtain ⟨R, HR⟩ : ∃ R : Bool, Hid (R = memO l x) := ⟨_, rfl⟩
  rw [← HR.out]
  have HR0 : Hid (R = memO (l.drop 0) x) := HR
  clear hO hl HR
  obtain ⟨W, HW⟩ : ∃ W, Hid (W = w.alloc (.cells x.v 73)) := ⟨_, rfl⟩
  rw [← HW.out] at B0 HX
  go_enter Try.func70, Try.ntmps70
  go_upto_region 1 with fail
  rw [← HW.out]
  clear HW
  go_wp2_with fail
  go_loopw [5] (fun j wr => ∃ k : Nat, k ≤ m ∧ j = .int .i64 k ∧ Hid (R = memO (l.drop k) x) ∧ Below W.heap.size W wr) (fun j _ => m - (intOf j).toNat)
  case atStart => exact ⟨0, Nat.zero_le _, rfl, HR0, Below.refl _ _⟩
  case round =>
    obtain ⟨k, hk, rfl, Hk, kbel⟩ := hrel
    have hbel := B0.trans (kbel.mono B0.size)
    by_cases hlt : k < m
    · have hlt' : (k : Int) < (m : Int) := by omega
      obtain ⟨y, hy⟩ : ∃ y, l[k]? = some y := ⟨_, List.getElem?_eq_getElem (by have := Hl.out; omega)⟩
      obtain ⟨b, off, rfl, hb, hat⟩ := HO.out.at hy
      obtain ⟨y0, y1, yl⟩ := (hat.later hb hbel).one (Nat.lt_of_lt_of_le hb hbel.size) hy
      obtain ⟨x0, x1, xl⟩ := HX.out.later kbel
      have hS : Hid (R = (y.b x || memO (l.drop (k + 1)) x)) := by show _ = _; rw [Hk.out, memO_step hy]
      have he := fun w => eqlO y x w
      clear hy hat Hk
      cases eb : y.b x
      · rw [eb] at he hS
        have HE : Hid (R = memO (l.drop (k + 1)) x) := hS
        go_wp2
        go_quiet (fail)
        go_wp2
        go_roundw
        case rel => exact ⟨k + 1, by omega, by go_num, HE, kbel.trans ((below_drewN _ _).mono kbel.size)⟩
        case measure => simp [intOf]; omega
      · rw [eb] at he hS
        have HE : Hid (R = true) := hS
        go_wp2
        go_quiet (fail)
        go_wp2
        go_ret
        exact ⟨_, rfl, .inl ⟨HE.out, by omega⟩, hbel.trans ((below_drewN _ _).mono hbel.size)⟩
    · obtain rfl : m = k := by omega
      have HE : Hid (R = false) := by show _ = _; rw [Hk.out, List.drop_of_length_le (by have := Hl.out; omega)]; rfl
      go_wp2
      go_ret
      exact ⟨_, rfl, .inr ⟨HE.out, rfl⟩, hbel⟩
theorem contains_c (a : Option Addr) (m c : Nat) (l : List K2) (x : K2) (hl : l.length = m) (hm : m ≤ 6) (w : World) (hO : ArgO w a l) :
    Calls Try.prog 58 #[.slice a m c, .agg x.v] w fun e w' => e = .returned (.bool (memO l x)) ∧ Below w.heap.size w w' := by
  have B0 : Below w.heap.size w (w.alloc (.cells x.v 73)) := (Below.refl _ _).alloc (Nat.le_refl _) _
  have cI := index_o a m c l x hl hm _ (hO.later B0)
  generalize memO l x = M at cI ⊢
  go_enter Try.func58, Try.ntmps58
  go_wp2_with fail
  refine cI.mono ?_
  rintro e w1 ⟨r, rfl, hr, k1⟩
  have B1 := B0.trans (k1.mono B0.size)
  rcases hr with ⟨rfl, h⟩ | ⟨rfl, rfl⟩
  · go_wp2
    go_ret
    exact ⟨rfl, B1⟩
  · go_wp2
    go_ret
    exact ⟨rfl, B1⟩
end Go.Proofs.Ytaeeahgibifkjaa
end
