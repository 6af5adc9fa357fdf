/- Texts of mine put together (a claim holds at most 60 files): OwnWalks. -/
import Derived.Test.YtlfnnobkgbfdgaaGreatPartH24

/- OwnWalks -/
/- Contracts of OwnedBy and of its model. Condition: the board's two lists lie in memory as they were laid there. -/
section
namespace Go.Proofs.YtlfnnobkgbfdgaaGreat
open Go.ChangeShapes Go.WideShapes Go.ChangeAt Go.RowKit
open Bd
set_option linter.unusedVariables false

/- the Ids of an owner's units -/
def idsOf (o : Int) : List K10 → List Int
  | [] => []
  | u :: l => if (u.c1 == o) = true then u.c0 :: idsOf o l else idsOf o l
theorem idsOf_le (o : Int) : ∀ l : List K10, (idsOf o l).length ≤ l.length
  | [] => Nat.le_refl _
  | u :: l => by
    unfold idsOf
    split
    · simp; exact idsOf_le o l
    · simp; exact Nat.le_succ_of_le (idsOf_le o l)
theorem idsOf_app (o : Int) (l l' : List K10) : idsOf o (l ++ l') = idsOf o l ++ idsOf o l' := by
  induction l with
  | nil => rfl
  | cons u l ih =>
    show (if (u.c1 == o) = true then u.c0 :: idsOf o (l ++ l') else idsOf o (l ++ l')) = (if (u.c1 == o) = true then u.c0 :: idsOf o l else idsOf o l) ++ idsOf o l'
    rw [ih]; split <;> rfl
theorem idsOf_take {l : List K10} {o : Int} {k : Nat} {u : K10} (h : l[k]? = some u) : idsOf o (l.take (k + 1)) = idsOf o (l.take k) ++ (if (u.c1 == o) = true then [u.c0] else []) := by
  rw [List.take_add_one, h, idsOf_app]
  rfl
def obL (us : List K10) (fs : List K3) (o : Int) : List Int := if (bf us fs == 0 && own o) = true then idsOf o us else []
theorem obL_le (us : List K10) (fs : List K3) (o : Int) : (obL us fs o).length ≤ 8 := by
  unfold obL
  split
  · rename_i h
    rw [Bool.and_eq_true] at h
    have h0 : bf us fs = 0 := by simpa using h.1
    have := (bf_ok h0).1
    have := idsOf_le o us
    omega
  · simp
/- a slice of numbers: its first numbers lie in a block of its own, made behind base -/
def SlI (w : World) (base : Nat) (v : Value) (l : List Int) : Prop := w.ownsRow base 2 1 v l.length (l.map (Value.int .i64))
theorem SlI.below {w w' : World} {base : Nat} {v : Value} {l : List Int} (h : SlI w base v l) (hb : Below w.heap.size w w') : SlI w' base v l := by
  rcases h with ⟨h1, h2⟩
  refine ⟨h1, ?_⟩
  rcases h2 with h2 | ⟨g, cap, cur, hv, hbb, hg, r⟩
  · exact .inl h2
  · exact .inr ⟨g, cap, cur, hv, hbb, (hb.block g (Array.getElem?_eq_some_iff.1 hg).1).trans hg, r⟩
theorem SlI.of {w : World} {base : Nat} {v : Value} {l : List Int} (h : w.ownsRow base 2 1 v l.length (l.map (Value.int .i64))) : SlI w base v l := h
theorem Hid.mk' {p : Prop} (h : p) : Hid p := h
theorem SlI.nil (w : World) (base : Nat) : SlI w base (.slice none 0 0) [] := ⟨rfl, .inl ⟨rfl, rfl⟩⟩
theorem SlI.mono {w : World} {base base' : Nat} {v : Value} {l : List Int} (h : SlI w base v l) (hb : base' ≤ base) : SlI w base' v l := by
  rcases h with ⟨h1, h2⟩
  refine ⟨h1, ?_⟩
  rcases h2 with h2 | ⟨g, cap, cur, hv, hbb, r⟩
  · exact .inl h2
  · exact .inr ⟨g, cap, cur, hv, Nat.le_trans hb hbb, r⟩
theorem SlI.form {w : World} {base : Nat} {v : Value} {l : List Int} (h : SlI w base v l) : ∃ a cap, v = .slice a l.length cap := by
  rcases h.2 with ⟨h1, h2⟩ | ⟨g, cap, cur, hv, _⟩
  · exact ⟨none, 0, by rw [h1, h2]⟩
  · exact ⟨_, cap, hv⟩
theorem SlI.set {w : World} {base : Nat} {v : Value} {l : List Int} (h : SlI w base v l) {b o : Nat} (hb : b < base) (x : Value) : SlI (w.setCell ⟨b, o, none⟩ x) base v l := by
  rcases h with ⟨h1, h2⟩
  refine ⟨h1, ?_⟩
  rcases h2 with h2 | ⟨g, cap, cur, hv, hbb, hg, r⟩
  · exact .inl h2
  · exact .inr ⟨g, cap, cur, hv, hbb, (Below.heap_setCell _ ⟨b, o, none⟩ x g (by show g ≠ b; omega)).trans hg, r⟩
set_option maxHeartbeats 4000000 in
theorem implOwnedBy (a : Option Addr) (m c : Nat) (a' : Option Addr) (m' c' : Nat) (us : List K10) (fs : List K3) (o : Int) (hl : us.length = m) (hl' : fs.length = m') (w : World) (hU : ArgU w a us) (hF : ArgF w a' fs) :
    Calls Tryz.prog 12 #[.agg #[.slice a m c, .slice a' m' c'], .int .i64 o] w fun e w' => ∃ v, e = .returned (.agg #[.int .i64 (owC us fs o), v]) ∧ SlI w' w.heap.size v (obL us fs o) ∧ Below w.heap.size w w' := by
  obtain ⟨rb, rr, B2, S2⟩ := two_two w (.slice a m c) (.slice a' m' c') (.int .i64 0) (.slice none 0 0) 27 40
  have cF := ownerFault_c a m c a' m' c' us fs o hl hl' _ (hU.later B2) (hF.later B2)
  rcases owC_cases us fs o with ⟨h1, e⟩ | ⟨h1, h2, e⟩ | ⟨h1, h2, e⟩
  · have hv : obL us fs o = [] := by unfold obL; rw [h1]; rfl
    rw [e, hv]
    have h1' := bne_of h1
    rw [e] at cF
    generalize bf us fs = R at h1 h1' cF ⊢
    go_enter Tryz.func12, Tryz.ntmps12
    go_wp2_with fail
    refine cF.mono ?_
    rintro e w1 ⟨rfl, k1⟩
    have B3 := B2.trans (k1.mono B2.size)
    replace rb := row_later rb k1
    replace rr := row_later rr k1
    have e0 : w1.cell? ⟨w.heap.size + 1, 0, none⟩ = some (.int .i64 0) := rr.cell (i := 0) (by omega)
    have e1 : w1.cell? ⟨w.heap.size + 1, 1, none⟩ = some (.slice none 0 0) := rr.cell (i := 1) (by omega)
    have z0 := rr.frozen 0
    have z1 := rr.frozen 1
    have rl := rr.lt
    have t := (rr.set 0 (.int .i64 R)).set 1 (.slice none 0 0)
    have c0 := t.cell (i := 0) (by omega)
    have c1 := t.cell (i := 1) (by omega)
    have B4 := bel_set (bel_set B3 (w.heap.size + 1) 0 (by omega) (.int .i64 R)) (w.heap.size + 1) 1 (by omega) (.slice none 0 0)
    go_wp2_with fail
    refine bodyPost_ret ?_ rfl ⟨_, rfl, SlI.nil _ _, B4⟩
    simp [results, Tryz.results12, go_sem, c0, c1]
    done
  · have hv : obL us fs o = [] := by unfold obL; rw [h1, h2]; rfl
    rw [e, hv]
    rw [e] at cF
    go_enter Tryz.func12, Tryz.ntmps12
    go_wp2_with fail
    refine cF.mono ?_
    rintro e w1 ⟨rfl, k1⟩
    have B3 := B2.trans (k1.mono B2.size)
    replace rb := row_later rb k1
    replace rr := row_later rr k1
    have e0 : w1.cell? ⟨w.heap.size + 1, 0, none⟩ = some (.int .i64 0) := rr.cell (i := 0) (by omega)
    have e1 : w1.cell? ⟨w.heap.size + 1, 1, none⟩ = some (.slice none 0 0) := rr.cell (i := 1) (by omega)
    have z0 := rr.frozen 0
    have z1 := rr.frozen 1
    have rl := rr.lt
    have t := (rr.set 0 (.int .i64 3)).set 1 (.slice none 0 0)
    have c0 := t.cell (i := 0) (by omega)
    have c1 := t.cell (i := 1) (by omega)
    have B4 := bel_set (bel_set B3 (w.heap.size + 1) 0 (by omega) (.int .i64 3)) (w.heap.size + 1) 1 (by omega) (.slice none 0 0)
    go_wp2_with fail
    refine bodyPost_ret ?_ rfl ⟨_, rfl, SlI.nil _ _, B4⟩
    simp [results, Tryz.results12, go_sem, c0, c1]
    done
  · have hv : obL us fs o = idsOf o us := by unfold obL; rw [h1, h2]; rfl
    rw [e, hv]
    obtain ⟨n8, _, huf, _, _⟩ := bf_ok h1
    rw [e] at cF
    obtain ⟨i0, hi, hz0, hz1, hz2⟩ := info_parts info64
    have Hl : Hid (us.length = m) := hl
    have HU : Hid (ArgU w a us) := hU
    have hm : m ≤ 8 := by omega
    go_enter Tryz.func12, Tryz.ntmps12
    go_wp2_with fail
    refine cF.mono ?_
    rintro e w1 ⟨rfl, k1⟩
    have B3 := B2.trans (k1.mono B2.size)
    replace rb := row_later rb k1
    replace rr := row_later rr k1
    have e0 : w1.cell? ⟨w.heap.size + 1, 0, none⟩ = some (.int .i64 0) := rr.cell (i := 0) (by omega)
    have e1 : w1.cell? ⟨w.heap.size + 1, 1, none⟩ = some (.slice none 0 0) := rr.cell (i := 1) (by omega)
    have z0 := rr.frozen 0
    have z1 := rr.frozen 1
    have rl := rr.lt
    have HB3 : Hid (Below w.heap.size w w1) := B3
    have Hrr : Hid (w1.rowIs (w.heap.size + 1) 40 2 (fun i => if i = 0 then .int .i64 0 else .slice none 0 0)) := rr
    obtain ⟨p1, p2, pl⟩ := row_brd rb
    have hw1 : w.heap.size + 1 < w1.heap.size := rl
    clear huf hl hl' hU hF rb rr B2 B3 k1 hv n8 cF
    go_wp2_with fail
    go_loopw [6, 19] (fun v i wr => ∃ k : Nat, k ≤ m ∧ i = .int .i64 k ∧ wr.ownsRow w1.heap.size 2 1 v (idsOf o (us.take k)).length ((idsOf o (us.take k)).map (Value.int .i64)) ∧ Below w1.heap.size w1 wr) (fun _ i _ => m - (intOf i).toNat)
    case atStart => exact ⟨0, Nat.zero_le _, rfl, ⟨rfl, .inl ⟨rfl, rfl⟩⟩, Below.refl _ _⟩
    case round =>
      obtain ⟨k, hk, rfl, hown, hbel⟩ := hrel
      have hb3 := HB3.out.trans (hbel.mono HB3.out.size)
      by_cases hlt : k < m
      · have hlt' : (k : Int) < (m : Int) := by omega
        obtain ⟨x, hx⟩ : ∃ x, us[k]? = some x := ⟨_, List.getElem?_eq_getElem (by have := Hl.out; omega)⟩
        obtain ⟨b, off, rfl, hb, hat⟩ := HU.out.at hx
        obtain ⟨x0, x1, x2, x3, x4, x5, x6, x7, x8, x9, xl⟩ := (hat.later hb hb3).one (Nat.lt_of_lt_of_le hb hb3.size) hx
        have HS : Hid (idsOf o (us.take (k + 1)) = idsOf o (us.take k) ++ (if (x.c1 == o) = true then [x.c0] else [])) := idsOf_take hx
        have hlen : (idsOf o (us.take k)).length ≤ 8 := Nat.le_trans (idsOf_le o _) (by rw [List.length_take]; omega)
        have hb4 := hbel.alloc hbel.size (.cells x.v 68)
        have ho0 := hown.alloc (.cells x.v 68)
        clear hx hat
        cases hq : x.c1 == o
        · have HS' : idsOf o (us.take k) = idsOf o (us.take (k + 1)) := by rw [HS.out, if_neg (by rw [hq]; simp), List.append_nil]
          rw [HS'] at ho0
          have ho1 := Hid.mk' ho0
          clear hown ho0 HS'
          go_wp2
          go_roundw
          case rel => exact ⟨k + 1, by omega, by go_num, ho1.out, hb4⟩
          case measure => simp [intOf]; omega
        · obtain ⟨W1, HW1⟩ : ∃ W1, Hid (W1 = wr.alloc (.cells x.v 68)) := ⟨_, rfl⟩
          have S1 : U1 W1 wr.heap.size 0 x := by rw [HW1.out]; exact U1.new wr x 68
          rw [← HW1.out] at ho0 hb4
          go_upto_region 9 with fail
          rw [← HW1.out]
          obtain ⟨s0, _, _, _, _, _, _, _, _, _, sl⟩ := S1
          clear hown x0 x1 x2 x3 x4 x5 x6 x7 x8 x9
          go_wp2_with (first | (at_builtin; refine wpList_append_own _ rfl _ _ 38 rfl w1.heap.size 2 i0 (.int .i64 0) 1 8 Tryz.underlying38 hi hz0 hz1 hz2 rfl (by decide) _ _ _ rfl (ho0.alloc _) ⟨W1.heap.size, 0, none⟩ 1 1 [.int .i64 x.c0] rfl rfl (one_new _ _ _) (one_cell _ _) (by unfold maxLen; omega) (by omega) (by have := hb4.size; simp; omega) ?_))
          intro v' w2 hown' hgrow _
          have hb5 : Below w1.heap.size w1 w2 := (hb4.alloc hb4.size _).grown hgrow (by have := hb4.size; simp; omega) (fun k' hk' => (ho0.lt k' hk').1)
          have ho1 : Hid (w2.ownsRow w1.heap.size 2 1 v' (idsOf o (us.take (k + 1))).length ((idsOf o (us.take (k + 1))).map (Value.int .i64))) := by
            show World.ownsRow _ _ _ _ _ _ _
            rw [HS.out, if_pos hq]; simpa using hown'
          clear hown' hgrow ho0
          go_wp2
          go_roundw
          case rel => exact ⟨k + 1, by omega, by go_num, ho1.out, hb5⟩
          case measure => simp [intOf]; omega
      · obtain rfl : k = m := by omega
        rw [List.take_of_length_le (by have := Hl.out; omega)] at hown
        have L2 := SlI.of hown
        clear hown
        obtain ⟨av, cv, hv⟩ := L2.form
        obtain ⟨nn, Hn⟩ : ∃ nn, Hid (nn = (idsOf o us).length) := ⟨_, rfl⟩
        rw [← Hn.out] at hv
        subst hv
        have rr := row_later Hrr.out hbel
        have e0 : wr.cell? ⟨w.heap.size + 1, 0, none⟩ = some (.int .i64 0) := rr.cell (i := 0) (by omega)
        have e1 : wr.cell? ⟨w.heap.size + 1, 1, none⟩ = some (.slice none 0 0) := rr.cell (i := 1) (by omega)
        have z0 := rr.frozen 0
        have z1 := rr.frozen 1
        have rl := rr.lt
        have t := (rr.set 0 (.int .i64 0)).set 1 (.slice av nn cv)
        have c0 := t.cell (i := 0) (by omega)
        have c1 := t.cell (i := 1) (by omega)
        have B5 := bel_set (bel_set hb3 (w.heap.size + 1) 0 (by omega) (.int .i64 0)) (w.heap.size + 1) 1 (by omega) (.slice av nn cv)
        have L5 : SlI _ w.heap.size (.slice av nn cv) (idsOf o us) := ((L2.set (b := w.heap.size + 1) (o := 0) hw1 (.int .i64 0)).set (b := w.heap.size + 1) (o := 1) hw1 (.slice av nn cv)).mono (by omega)
        go_wp2_with fail
        refine bodyPost_ret ?_ rfl ⟨_, rfl, L5, B5⟩
        simp [results, Tryz.results12, go_sem, c0, c1]
        done
end Go.Proofs.YtlfnnobkgbfdgaaGreat
end
