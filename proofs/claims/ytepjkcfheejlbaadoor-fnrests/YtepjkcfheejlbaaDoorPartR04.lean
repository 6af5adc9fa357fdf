/- Texts of mine put together (a claim holds at most 60 files): BoardWalks2, SumWalks, MapU. -/
import Derived.Test.YtepjkcfheejlbaaDoorPartR03
import Derived.Test.YtepjkcfheejlbaaDoorPartR01
import Derived.Maps.Own
import Derived.Maps.Views

/- BoardWalks2 -/
/- The contract of the program's BoardFault. Condition: the board's two lists lie in memory as they were laid there. -/
section
namespace Go.Proofs.YtepjkcfheejlbaaDoor
open Go.ChangeShapes Go.WideShapes Go.ChangeAt Go.RowKit
open Bd
set_option linter.unusedVariables false

set_option maxHeartbeats 4000000 in
theorem implBoardFault (a : Option Addr) (m c : Nat) (a' : Option Addr) (m' c' : Nat) (us : List K10) (fs : List K3) (hl : us.length = m) (hl' : fs.length = m') (w0 : World) (hU0 : ArgU w0 a us) (hF0 : ArgF w0 a' fs) :
    Calls Tryd.prog 15 #[.agg #[.slice a m c, .slice a' m' c']] w0 fun e w' => e = .returned (.int .i64 (bf us fs)) ∧ Below w0.heap.size w0 w' := by
  obtain ⟨w, Hw⟩ : ∃ w, Hid (w = w0.alloc (.cells #[.slice a m c, .slice a' m' c'] 27)) := ⟨_, rfl⟩
  have hB0 : Below w0.heap.size w0 w := by rw [Hw.out]; exact (Below.refl _ _).alloc (Nat.le_refl _) _
  have hB : BrdAt w w0.heap.size (.slice a m c) (.slice a' m' c') := by rw [Hw.out]; exact BrdAt.new w0 _ _ _
  have HB : Hid (BrdAt w w0.heap.size (.slice a m c) (.slice a' m' c')) := hB
  have HU : Hid (ArgU w a us) := hU0.later hB0
  have HF : Hid (ArgF w a' fs) := hF0.later hB0
  have Hl : Hid (us.length = m) := hl
  have Hl' : Hid (fs.length = m') := hl'
  obtain ⟨b0, b1, blt⟩ := hB
  clear hU0 hF0
  by_cases h8 : 8 < m
  · have e : bf us fs = 2 := by unfold bf; rw [if_pos (by omega)]
    rw [e]
    clear e hl hl'
    have d : (8 : Int) < (m : Int) := by omega
    go_enter Tryd.func15, Tryd.ntmps15
    go_wp2
    go_ret
    exact ⟨rfl, (Below.refl _ _).alloc (Nat.le_refl _) _⟩
  by_cases h4 : 4 < m'
  · have e : bf us fs = 2 := by unfold bf; rw [if_pos (by omega)]
    rw [e]
    clear e hl hl'
    have d0 : decide ((8 : Int) < (m : Int)) = false := decide_eq_false (by omega)
    have d : (4 : Int) < (m' : Int) := by omega
    go_enter Tryd.func15, Tryd.ntmps15
    go_wp2
    go_ret
    exact ⟨rfl, (Below.refl _ _).alloc (Nat.le_refl _) _⟩
  have e : bf us fs = ufs (prevId us 0) (ffs fs) (us.drop 0) := by unfold bf prevId; rw [if_neg (by omega), if_pos rfl]; rfl
  obtain ⟨R, HR⟩ : ∃ R : Int, Hid (R = bf us fs) := ⟨_, rfl⟩
  rw [← HR.out]
  have HR0 : Hid (R = ufs (prevId us 0) (ffs fs) (us.drop 0)) := by show _ = _; rw [HR.out, e]
  clear e hl hl' HR
  have d8 : decide ((8 : Int) < (m : Int)) = false := decide_eq_false (by omega)
  have d4 : decide ((4 : Int) < (m' : Int)) = false := decide_eq_false (by omega)
  obtain ⟨G, HG⟩ : ∃ G : Nat, Hid (G = w0.heap.size) := ⟨_, rfl⟩
  go_enter Tryd.func15, Tryd.ntmps15
  go_wp2
  rw [← Hw.out, ← HG.out]
  replace HB : Hid (BrdAt w G (.slice a m c) (.slice a' m' c')) := by rw [HG.out]; exact HB
  clear b0 b1 blt
  go_loopw [21] (fun i wr => ∃ k : Nat, k ≤ m ∧ i = .int .i64 k ∧ Hid (R = ufs (prevId us k) (ffs fs) (us.drop k)) ∧ Below w.heap.size w wr) (fun i _ => m - (intOf i).toNat)
  case atStart => exact ⟨0, Nat.zero_le _, rfl, HR0, Below.refl _ _⟩
  case round =>
    obtain ⟨k, hk, rfl, Hk, hbel⟩ := hrel
    obtain ⟨b0, b1, blt⟩ := HB.out.later hbel
    by_cases hlt : k < m
    · have hlt' : (k : Int) < (m : Int) := by omega
      obtain ⟨x, hx⟩ : ∃ x, us[k]? = some x := ⟨_, List.getElem?_eq_getElem (by have := Hl.out; omega)⟩
      obtain ⟨b, off, rfl, hb, hat⟩ := HU.out.at hx
      obtain ⟨x0, x1, x2, x3, x4, x5, x6, x7, x8, x9, xl⟩ := (hat.later hb hbel).one (Nat.lt_of_lt_of_le hb hbel.size) hx
      have cU := fun w => implUnitFault x w
      have HS : Hid (R = if (uf x == 0) = false then uf x else if leP (prevId us k) x.c0 = true then 1 else ufs (some x.c0) (ffs fs) (us.drop (k + 1))) := by show _ = _; rw [Hk.out, ufs_step hx]
      have Hx : Hid (us[k]? = some x) := hx
      have Hat : Hid (UAt w b off us) := hat
      have B1 : Below wr.heap.size wr (wr.alloc (.cells x.v 37)) := (Below.refl _ _).alloc (Nat.le_refl _) _
      have S1 := (U1.new wr x 37)
      clear hx hat
      go_wp2_with fail
      refine (cU _).mono ?_
      rintro e w1 ⟨rfl, k1⟩
      obtain ⟨v0, v1, v2, v3, v4, v5, v6, v7, v8, v9, vl⟩ := S1.later k1
      have hbel1 := hbel.trans ((B1.trans (k1.mono B1.size)).mono hbel.size)
      obtain ⟨b0, b1, blt⟩ := HB.out.later hbel1
      clear cU k1 B1 S1 x0 x1 x2 x3 x4 x5 x6 x7 x8 x9 v1 v2 v3 v4 v5 v6 v7 v8 v9
      cases hq : uf x == 0
      · have HE : Hid (R = uf x) := by show _ = _; rw [HS.out, if_pos hq]
        have hq' := bne_of hq
        go_wp2
        go_ret
        exact ⟨by rw [HE.out]; rfl, hB0.trans (hbel1.mono hB0.size)⟩
      · have hz : uf x = 0 := by simpa using hq
        have hq' : (uf x != 0) = false := by simp only [bne, hq]; rfl
        have HN : Hid (prevId us (k + 1) = some x.c0) := prevId_next Hx.out
        rcases k with _ | k
        · have HE : Hid (R = ufs (prevId us (0 + 1)) (ffs fs) (us.drop (0 + 1))) := by show _ = _; rw [HS.out, if_neg (by rw [hq]; simp), HN.out]; rfl
          go_wp2
          go_quiet (fail)
          go_wp2
          go_roundw
          case rel => exact ⟨0 + 1, by omega, by go_num, HE, hbel1.trans ((below_drewN _ _).mono hbel1.size)⟩
          case measure => simp [intOf]; omega
        · obtain ⟨y, hy⟩ : ∃ y, us[k]? = some y := ⟨_, List.getElem?_eq_getElem (by have := Hl.out; omega)⟩
          have HP : Hid (prevId us (k + 1) = some y.c0) := prevId_next hy
          have a1 := (Hat.out.later hb hbel1).all hy |>.1
          clear hy
          cases hd : decide (x.c0 ≤ y.c0)
          · have HE : Hid (R = ufs (prevId us (k + 1 + 1)) (ffs fs) (us.drop (k + 1 + 1))) := by
              show _ = _
              rw [HS.out, if_neg (by rw [hq]; simp), HN.out, HP.out, if_neg (by show ¬ decide (x.c0 ≤ y.c0) = true; rw [hd]; simp)]
            go_wp2
            go_quiet (fail)
            go_wp2
            go_roundw
            case rel => exact ⟨k + 1 + 1, by omega, by go_num, HE, hbel1.trans ((below_drewN _ _).mono hbel1.size)⟩
            case measure => simp [intOf]; omega
          · have HE : Hid (R = 1) := by
              show _ = _
              rw [HS.out, if_neg (by rw [hq]; simp), HP.out, if_pos (show leP (some y.c0) x.c0 = true from hd)]
            go_wp2
            go_quiet (fail)
            go_wp2
            go_ret
            exact ⟨by rw [HE.out]; rfl, hB0.trans ((hbel1.trans ((below_drewN _ _).mono hbel1.size)).mono hB0.size)⟩
    · obtain rfl : k = m := by omega
      have HE : Hid (R = ffs (fs.drop 0)) := by show _ = _; rw [Hk.out, List.drop_of_length_le (by have := Hl.out; omega)]; rfl
      clear Hk
      go_wp2
      go_loopw [49] (fun i wr => ∃ k : Nat, k ≤ m' ∧ i = .int .i64 k ∧ Hid (R = ffs (fs.drop k)) ∧ Below w.heap.size w wr) (fun i _ => m' - (intOf i).toNat)
      case atStart => exact ⟨0, Nat.zero_le _, rfl, HE, hbel⟩
      case round =>
        obtain ⟨j, hj, rfl, Hj, hbel⟩ := hrel
        obtain ⟨b0, b1, blt⟩ := HB.out.later hbel
        by_cases hlt : j < m'
        · have hlt' : (j : Int) < (m' : Int) := by omega
          obtain ⟨x, hx⟩ : ∃ x, fs[j]? = some x := ⟨_, List.getElem?_eq_getElem (by have := Hl'.out; omega)⟩
          obtain ⟨b, off, rfl, hb, hat⟩ := HF.out.at hx
          have HS : Hid (R = if ff x = false then 3 else ffs (fs.drop (j + 1))) := by show _ = _; rw [Hj.out, ffs_step hx]
          obtain ⟨x0, x1, x2, xl⟩ := (hat.later hb hbel).one (Nat.lt_of_lt_of_le hb hbel.size) hx
          have q1 := fun w => isTile_c x.c0 x.c1 w
          have hb2 := hbel.trans (((Below.refl _ _).alloc (Nat.le_refl _) (.cells x.v 53)).mono hbel.size)
          clear hx hat
          have hff : (tile x.c0 x.c1 = false ∧ ff x = false) ∨ (tile x.c0 x.c1 = true ∧ x.c2 < 0 ∧ ff x = false) ∨ (tile x.c0 x.c1 = true ∧ decide (x.c2 < 0) = false ∧ 10000 < x.c2 ∧ ff x = false) ∨ (tile x.c0 x.c1 = true ∧ decide (x.c2 < 0) = false ∧ decide (10000 < x.c2) = false ∧ ff x = true) := by
            unfold ff inb
            cases tile x.c0 x.c1
            · exact .inl ⟨rfl, rfl⟩
            · by_cases h1 : x.c2 < 0
              · exact .inr (.inl ⟨rfl, h1, by simp; omega⟩)
              · by_cases h2 : 10000 < x.c2
                · exact .inr (.inr (.inl ⟨rfl, by simp; omega, h2, by simp; omega⟩))
                · exact .inr (.inr (.inr ⟨rfl, by simp; omega, by simp; omega, by simp; omega⟩))
          rcases hff with ⟨e1, ef⟩ | ⟨e1, e2, ef⟩ | ⟨e1, e2, e3, ef⟩ | ⟨e1, e2, e3, ef⟩
          · have HE : Hid (R = 3) := by show _ = _; rw [HS.out, if_pos ef]
            rw [e1] at q1
            go_wp2_with (go_at_call 23; refine (q1 _).mono ?_; rintro e w1 ⟨rfl, rfl⟩)
            go_ret
            exact ⟨by rw [HE.out]; rfl, hB0.trans (hb2.mono hB0.size)⟩
          · have HE : Hid (R = 3) := by show _ = _; rw [HS.out, if_pos ef]
            rw [e1] at q1
            go_wp2_with (go_at_call 23; refine (q1 _).mono ?_; rintro e w1 ⟨rfl, rfl⟩)
            go_ret
            exact ⟨by rw [HE.out]; rfl, hB0.trans (hb2.mono hB0.size)⟩
          · have HE : Hid (R = 3) := by show _ = _; rw [HS.out, if_pos ef]
            rw [e1] at q1
            go_wp2_with (go_at_call 23; refine (q1 _).mono ?_; rintro e w1 ⟨rfl, rfl⟩)
            go_ret
            exact ⟨by rw [HE.out]; rfl, hB0.trans (hb2.mono hB0.size)⟩
          · have HE : Hid (R = ffs (fs.drop (j + 1))) := by show _ = _; rw [HS.out, if_neg (by rw [ef]; simp)]
            rw [e1] at q1
            go_wp2_with (go_at_call 23; refine (q1 _).mono ?_; rintro e w1 ⟨rfl, rfl⟩)
            go_roundw
            case rel => exact ⟨j + 1, by omega, by go_num, HE, hb2⟩
            case measure => simp [intOf]; omega
        · obtain rfl : j = m' := by omega
          have HE : Hid (R = 0) := by show _ = _; rw [Hj.out, List.drop_of_length_le (by have := Hl'.out; omega)]; rfl
          go_wp2
          go_ret
          exact ⟨by rw [HE.out]; rfl, hB0.trans (hbel.mono hB0.size)⟩
end Go.Proofs.YtepjkcfheejlbaaDoor
end

/- SumWalks -/
/- Contracts of LeftIn and CarriedBy and of their models. Condition: the board's two lists lie in memory as they were laid there. -/
section
namespace Go.Proofs.YtepjkcfheejlbaaDoor
open Go.ChangeShapes Go.WideShapes Go.ChangeAt Go.RowKit
open Bd
set_option linter.unusedVariables false

/- what the fields hold together; what an owner's units carry together -/
def sumF : List K3 → Int
  | [] => 0
  | f :: l => f.c2 + sumF l
def carry (o : Int) : List K10 → Int
  | [] => 0
  | u :: l => if (u.c1 == o) = true then u.c5 + carry o l else carry o l
theorem sumF_step {l : List K3} {k : Nat} {f : K3} (h : l[k]? = some f) : sumF (l.drop k) = f.c2 + sumF (l.drop (k + 1)) := by
  have h' := List.getElem?_eq_some_iff.1 h
  rw [List.drop_eq_getElem_cons h'.1, h'.2]; rfl
theorem carry_step {l : List K10} {o : Int} {k : Nat} {u : K10} (h : l[k]? = some u) : carry o (l.drop k) = if (u.c1 == o) = true then u.c5 + carry o (l.drop (k + 1)) else carry o (l.drop (k + 1)) := by
  have h' := List.getElem?_eq_some_iff.1 h
  rw [List.drop_eq_getElem_cons h'.1, h'.2]; rfl
/- the codes and the values -/
def lfV (us : List K10) (fs : List K3) : Int := if (bf us fs == 0) = true then sumF fs else 0
def owC (us : List K10) (fs : List K3) (o : Int) : Int := if (bf us fs == 0) = true then (if own o = true then 0 else 3) else bf us fs
def cbV (us : List K10) (fs : List K3) (o : Int) : Int := if (bf us fs == 0 && own o) = true then carry o us else 0
theorem bne_no {x y : Int} (h : (x == y) = true) : (x != y) = false := by simp only [bne, h]; rfl
theorem two_two (w : World) (s f z z' : Value) (t t2 : TypeId) : let W := (w.alloc (.cells #[s, f] t)).alloc (.cells #[z, z'] t2)
    W.rowIs w.heap.size t 2 (fun i => if i = 0 then s else f) ∧ W.rowIs (w.heap.size + 1) t2 2 (fun i => if i = 0 then z else z') ∧ Below w.heap.size w W ∧ W.heap.size = w.heap.size + 1 + 1 := by
  intro W
  have s1 : (w.alloc (.cells #[s, f] t)).heap.size = w.heap.size + 1 := size_new _ _
  have s2 : W.heap.size = w.heap.size + 1 + 1 := by show (World.alloc _ _).heap.size = _; rw [size_new, s1]
  have b1 : Below (w.alloc (.cells #[s, f] t)).heap.size (w.alloc (.cells #[s, f] t)) W := (Below.refl _ _).alloc (Nat.le_refl _) _
  have r0 := rowTwo w s f t
  have r1 := rowTwo (w.alloc (.cells #[s, f] t)) z z' t2
  rw [s1] at r1
  exact ⟨r0.of_block (b1.block _ r0.lt), r1, ((Below.refl _ _).alloc (Nat.le_refl _) _).alloc (by rw [s1]; omega) _, s2⟩
theorem row_brd {w : World} {p : Nat} {s f : Value} {t : TypeId} (h : w.rowIs p t 2 (fun i => if i = 0 then s else f)) : BrdAt w p s f :=
  ⟨h.cell (i := 0) (by omega), h.cell (i := 1) (by omega), h.lt⟩
theorem row_later {w w' : World} {g n : Nat} {t : TypeId} {f : Nat → Value} (h : w.rowIs g t n f) (hb : Below w.heap.size w w') : w'.rowIs g t n f := h.of_block (hb.block g h.lt)

end Go.Proofs.YtepjkcfheejlbaaDoor
end

/- MapU -/
/- Maps from numbers to rows of ten numbers: what they hold, as a rising list of units. No condition. -/
section
namespace Go.Proofs.YtepjkcfheejlbaaDoor
open Go.ChangeShapes Go.WideShapes Go.ChangeAt Go.RowKit
open Bd
set_option linter.unusedVariables false

theorem K10.v_inj {x y : K10} (h : (Value.agg x.v) = .agg y.v) : x = y := by
  cases x; cases y
  simp at h
  simp [h]
open Classical in
/- how such a row reads -/
def rdU (v : Value) : Option (DataW K10 × List MemPlace) :=
  match v with
  | .agg a =>
    match a.toList with
    | [.int .i64 c0, .int .i64 c1, .int .i64 c2, .int .i64 c3, .int .i64 c4, .int .i64 c5, .int .i64 c6, .int .i64 c7, .int .i64 c8, .int .i64 c9] => some (.held ⟨c0, c1, c2, c3, c4, c5, c6, c7, c8, c9⟩, [])
    | _ => none
  | _ => none
theorem rdU_mk (x : K10) : rdU (.agg x.v) = some (.held x, []) := rfl
theorem rdU_inv {v : Value} {x : K10} {p : List MemPlace} (h : rdU v = some (.held x, p)) : v = .agg x.v := by
  unfold rdU at h
  split at h
  · rename_i a
    split at h
    · rename_i c0 c1 c2 c3 c4 c5 c6 c7 c8 c9 e
      simp only [Option.some.injEq, Prod.mk.injEq, DataW.held.injEq] at h
      obtain ⟨rfl, _⟩ := h
      obtain ⟨l⟩ := a
      simp only at e
      rw [e]
    · cases h
  · cases h
def ent (u : K10) : Lit × DataW K10 := (.int .i64 u.c0, .held u)
/- a unit put among others that rise -/
def putU (u : K10) : List K10 → List K10
  | [] => [u]
  | x :: l => if u.c0 < x.c0 then u :: x :: l else if u.c0 = x.c0 then u :: l else x :: putU u l
abbrev Rise (l : List K10) : Prop := l.Pairwise (fun a b => a.c0 < b.c0)
theorem putU_mem {u y : K10} : ∀ {l : List K10}, y ∈ putU u l → y = u ∨ y ∈ l
  | [], h => by simp [putU] at h; exact .inl h
  | x :: l, h => by
    unfold putU at h
    split at h
    · rcases List.mem_cons.1 h with h | h
      · exact .inl h
      · exact .inr h
    · split at h
      · rcases List.mem_cons.1 h with h | h
        · exact .inl h
        · exact .inr (List.mem_cons_of_mem _ h)
      · rcases List.mem_cons.1 h with h | h
        · exact .inr (by rw [h]; exact List.mem_cons_self)
        · rcases putU_mem h with h | h
          · exact .inl h
          · exact .inr (List.mem_cons_of_mem _ h)
theorem putU_rise {u : K10} : ∀ {l : List K10}, Rise l → Rise (putU u l)
  | [], _ => by simp [putU, Rise]
  | x :: l, h => by
    obtain ⟨h1, h2⟩ := List.pairwise_cons.1 h
    unfold putU
    split
    · rename_i hlt
      refine List.pairwise_cons.2 ⟨fun y hy => ?_, h⟩
      rcases List.mem_cons.1 hy with rfl | hy
      · exact hlt
      · have := h1 y hy; omega
    · split
      · rename_i he
        exact List.pairwise_cons.2 ⟨fun y hy => by have := h1 y hy; omega, h2⟩
      · rename_i h3 h4
        refine List.pairwise_cons.2 ⟨fun y hy => ?_, putU_rise h2⟩
        rcases putU_mem hy with rfl | hy
        · omega
        · exact h1 y hy
theorem before_int (a b : Int) : (Lit.int .i64 a).before (.int .i64 b) = decide (a < b) := rfl
theorem same_int (a b : Int) : (Lit.int .i64 a).sameKey (.int .i64 b) = decide (a = b) := by simp [Lit.sameKey]
theorem put_all {u : K10} : ∀ {l : List K10}, Rise l → DataW.insert (ent u) ((l.map ent).filter fun p => !p.1.sameKey (.int .i64 u.c0)) = (putU u l).map ent
  | [], _ => rfl
  | x :: l, h => by
    obtain ⟨h1, h2⟩ := List.pairwise_cons.1 h
    have hr : ∀ y ∈ l, x.c0 < y.c0 := h1
    unfold putU
    by_cases hlt : u.c0 < x.c0
    · rw [if_pos hlt]
      have hk : ((x :: l).map ent).filter (fun p => !p.1.sameKey (.int .i64 u.c0)) = (x :: l).map ent := by
        apply List.filter_eq_self.2
        intro p hp
        obtain ⟨y, hy, rfl⟩ := List.mem_map.1 hp
        have : u.c0 < y.c0 := by
          rcases List.mem_cons.1 hy with rfl | hy
          · exact hlt
          · have := hr y hy; omega
        show (!(Lit.int .i64 y.c0).sameKey (.int .i64 u.c0)) = true
        rw [same_int, decide_eq_false (by omega)]; rfl
      rw [hk]
      show DataW.insert (ent u) (ent x :: l.map ent) = _
      unfold DataW.insert
      show (if ((Lit.int .i64 u.c0).before (.int .i64 x.c0)) = true then _ else _) = _
      rw [before_int, if_pos (decide_eq_true hlt)]; rfl
    · rw [if_neg hlt]
      by_cases he : u.c0 = x.c0
      · rw [if_pos he]
        have hk : ((x :: l).map ent).filter (fun p => !p.1.sameKey (.int .i64 u.c0)) = l.map ent := by
          show List.filter _ (ent x :: l.map ent) = _
          rw [List.filter_cons_of_neg (by show ¬ (!(Lit.int .i64 x.c0).sameKey (.int .i64 u.c0)) = true; rw [same_int, decide_eq_true he.symm]; simp)]
          apply List.filter_eq_self.2
          intro p hp
          obtain ⟨y, hy, rfl⟩ := List.mem_map.1 hp
          have := hr y hy
          show (!(Lit.int .i64 y.c0).sameKey (.int .i64 u.c0)) = true
          rw [same_int, decide_eq_false (by omega)]; rfl
        rw [hk]
        cases l with
        | nil => rfl
        | cons y l =>
          show DataW.insert (ent u) (ent y :: l.map ent) = _
          unfold DataW.insert
          show (if ((Lit.int .i64 u.c0).before (.int .i64 y.c0)) = true then _ else _) = _
          rw [before_int, if_pos (decide_eq_true (by have := hr y (by simp); omega))]; rfl
      · rw [if_neg he]
        have hk : ((x :: l).map ent).filter (fun p => !p.1.sameKey (.int .i64 u.c0)) = ent x :: (l.map ent).filter (fun p => !p.1.sameKey (.int .i64 u.c0)) := by
          show List.filter _ (ent x :: l.map ent) = _
          rw [List.filter_cons_of_pos (by show (!(Lit.int .i64 x.c0).sameKey (.int .i64 u.c0)) = true; rw [same_int, decide_eq_false (by omega)]; rfl)]
        rw [hk]
        show (if ((Lit.int .i64 u.c0).before (.int .i64 x.c0)) = true then _ else _) = _
        rw [before_int, if_neg (by rw [decide_eq_false hlt]; simp), put_all h2]; rfl
theorem put_ent {u : K10} {l : List K10} (h : Rise l) : (DataW.map (l.map ent)).put (.int .i64 u.c0) (.held u) = .map ((putU u l).map ent) := congrArg DataW.map (put_all h)
theorem putU_end {u : K10} : ∀ {l : List K10}, (∀ x ∈ l, x.c0 < u.c0) → putU u l = l ++ [u]
  | [], _ => rfl
  | x :: l, h => by
    have h1 := h x (by simp)
    unfold putU
    rw [if_neg (by omega), if_neg (by omega), putU_end (fun y hy => h y (by simp [hy]))]; rfl
theorem take_put {l : List K10} (h : Rise l) {k : Nat} {u : K10} (hk : l[k]? = some u) : putU u (l.take k) = l.take (k + 1) := by
  have h' := List.getElem?_eq_some_iff.1 hk
  rw [putU_end, List.take_add_one, hk]
  · rfl
  · intro x hx
    obtain ⟨i, hi, rfl⟩ := List.getElem_of_mem hx
    have hi' : i < k := by rw [List.length_take] at hi; omega
    have hi2 : i < l.length := by rw [List.length_take] at hi; omega
    rw [List.getElem_take, ← h'.2]
    exact List.pairwise_iff_getElem.1 h i k hi2 h'.1 hi'
/- the unit with an Id -/
def findU (l : List K10) (i : Int) : Option K10 := l.find? (fun x => x.c0 == i)
theorem at_ent (l : List K10) (i : Int) (z : DataW K10) : (DataW.map (l.map ent)).atKey (.int .i64 i) z = match findU l i with | some x => .held x | none => z := by
  unfold DataW.atKey findU
  dsimp only
  rw [List.find?_map]
  have e : (fun p : Lit × DataW K10 => p.1.sameKey (.int .i64 i)) ∘ ent = fun x : K10 => x.c0 == i := by
    funext x
    show (Lit.int .i64 x.c0).sameKey (.int .i64 i) = (x.c0 == i)
    rw [same_int]
    by_cases h : x.c0 = i <;> simp [h]
  rw [e]
  cases l.find? (fun x => x.c0 == i) <;> rfl
/- the map in memory -/
def MapAt (w : World) (b : Nat) (l : List K10) : Prop := w.ownsMap Tryd.prog 2 rdU b l.length (.map (l.map ent))
theorem MapAt.lt {w : World} {b : Nat} {l : List K10} (h : MapAt w b l) : b < w.heap.size := World.ownsMap.lt h
theorem MapAt.later {w w' : World} {b : Nat} {l : List K10} (h : MapAt w b l) (hb : Below w.heap.size w w') : MapAt w' b l := by
  have hlt := h.lt
  obtain ⟨es, clock, h1, F, hs, hD⟩ := h
  exact ⟨es, clock, (hb.block b hlt).trans h1, F, hs, hD⟩
theorem MapAt.of_block {w w' : World} {b : Nat} {l : List K10} (h : MapAt w b l) (e : w'.heap[b]? = w.heap[b]?) : MapAt w' b l := by
  obtain ⟨es, clock, h1, F, hs, hD⟩ := h
  exact ⟨es, clock, e.trans h1, F, hs, hD⟩
theorem MapAt.new (w : World) : MapAt (w.alloc (.map #[] 0)) w.heap.size [] := World.ownsMap_made w Tryd.prog 2 rdU
theorem wf_int {i : Int} (h0 : -9223372036854775808 ≤ i) (h1 : i ≤ 9223372036854775807) : (Lit.int .i64 i).wf = true := by
  have a : IntKind.i64.min = -9223372036854775808 := by decide
  have b : IntKind.i64.max = 9223372036854775807 := by decide
  simp [Lit.wf, a, b]
  omega
theorem MapAt.update {w : World} {b : Nat} {l : List K10} (h : MapAt w b l) (hr : Rise l) (hn : l.length ≤ 100) (u : K10) (hw : (Lit.int .i64 u.c0).wf = true) :
    ∃ w', (Instr.mapUpdate 63 (.map (some b)) (.int .i64 u.c0) (.agg u.v)).run Tryd.prog w = .ok () w' ∧ MapAt w' b (putU u l) ∧ w.grownBy w' (some b) := by
  obtain ⟨w', h1, h2, h3⟩ := World.ownsMap.update h (Maps.int_keyed Tryd.underlying2) Tryd.underlying63 (by unfold maxLen; omega) (Maps.keyOf_int_mk Tryd.underlying2 hw) (rdU_mk u)
  rw [put_ent hr] at h2
  refine ⟨w', h1, ?_, h3⟩
  obtain ⟨es, clock, g1, F, hs, hD⟩ := h2
  refine ⟨es, clock, g1, F, ?_, hD⟩
  have e1 : ((putU u l).map ent).length = es.size := by
    have := congrArg (fun d => match d with | DataW.map x => x.length | _ => 0) hD
    simp only at this
    rw [this, length_sorted]; simp
  rw [List.length_map] at e1
  omega
theorem find_id {l : List K10} {i : Int} {x : K10} (h : findU l i = some x) : x ∈ l ∧ x.c0 = i := by
  unfold findU at h
  exact ⟨List.mem_of_find?_eq_some h, by simpa using List.find?_some h⟩
theorem zero78 (w : World) : (zeroValue 61).run Tryd.prog w = .ok (.agg K10.z.v) w := by
  have hz : Tryd.t61.zero = some (.agg K10.z.v) := by kernel_rfl
  unfold zeroValue
  simp [hz, go_sem]
/- the look-up -/
theorem MapAt.look {w : World} {b : Nat} {l : List K10} (h : MapAt w b l) (i : Int) (hw : (Lit.int .i64 i).wf = true) :
    (Instr.lookup 63 (.map (some b)) (.int .i64 i) true).run Tryd.prog w = .ok (match findU l i with | some x => .tuple #[.agg x.v, .bool true] | none => .tuple #[.agg K10.z.v, .bool false]) w := by
  obtain ⟨es, clock, hb, F, hs, hD⟩ := h
  rcases Maps.fit_look true (Maps.int_keyed Tryd.underlying2) Tryd.underlying63 (zero78 w) hb F (Maps.keyOf_int_mk Tryd.underlying2 hw) with ⟨hrun, _, hat⟩ | ⟨e0, y, _, _, hrun, hRv, hat, _⟩
  · rw [← hD] at hat
    have h1 := hat (.lit (.int .i64 0))
    rw [at_ent] at h1
    rw [hrun]
    cases hf : findU l i with
    | none => rfl
    | some x => rw [hf] at h1; cases h1
  · rw [← hD] at hat
    have h1 := hat (.lit (.int .i64 0))
    have h2 := hat .nil
    rw [at_ent] at h1 h2
    rw [hrun]
    cases hf : findU l i with
    | none => rw [hf] at h1 h2; simp only at h1 h2; rw [← h1] at h2; cases h2
    | some x =>
      rw [hf] at h1
      simp only at h1
      obtain ⟨y1, y2⟩ := y
      simp only at h1
      subst h1
      rw [rdU_inv hRv]; rfl
theorem MapAt.look1 {w : World} {b : Nat} {l : List K10} (h : MapAt w b l) (i : Int) (hw : (Lit.int .i64 i).wf = true) {x : K10} (hf : findU l i = some x) :
    (Instr.lookup 63 (.map (some b)) (.int .i64 i) false).run Tryd.prog w = .ok (.agg x.v) w := by
  obtain ⟨es, clock, hb, F, hs, hD⟩ := h
  rcases Maps.fit_look false (Maps.int_keyed Tryd.underlying2) Tryd.underlying63 (zero78 w) hb F (Maps.keyOf_int_mk Tryd.underlying2 hw) with ⟨hrun, _, hat⟩ | ⟨e0, y, _, _, hrun, hRv, hat, _⟩
  · rw [← hD] at hat
    have h1 := hat (.lit (.int .i64 0))
    rw [at_ent, hf] at h1
    cases h1
  · rw [← hD] at hat
    have h1 := hat (.lit (.int .i64 0))
    rw [at_ent, hf] at h1
    rw [hrun]
    simp only at h1
    obtain ⟨y1, y2⟩ := y
    simp only at h1
    subst h1
    rw [rdU_inv hRv]; rfl
end Go.Proofs.YtepjkcfheejlbaaDoor
end
