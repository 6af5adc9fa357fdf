/- Contracts of SameBoards and of its model. Condition: the lists have at most 1048576 members. -/
import Derived.Test.YtibkdkjcncfmgabExactBoard
namespace Go.Proofs.Ytibkdkjcncfmgab
open Go.ChangeShapes Go.WideShapes Go.ChangeAt Go.RowKit
set_option linter.unusedVariables false

structure BrdAt (w : World) (p : Nat) (s f : Value) : Prop where
  c0 : w.cell? ⟨p, 0, none⟩ = some s
  c1 : w.cell? ⟨p, 1, none⟩ = some f
  lt : p < w.heap.size
theorem row_brd {w : World} {p : Nat} {s f : Value} {t : TypeId} (h : w.rowIs p t 2 (fun i => if i = 0 then s else f)) : BrdAt w p s f :=
  ⟨h.cell (i := 0) (by omega), h.cell (i := 1) (by omega), h.lt⟩
theorem row_later {w w' : World} {g n : Nat} {t : TypeId} {f : Nat → Value} (h : w.rowIs g t n f) (hb : Below w.heap.size w w') : w'.rowIs g t n f := h.of_block (hb.block g h.lt)
theorem BrdAt.drewN {w : World} {p : Nat} {s f : Value} (h : BrdAt w p s f) (n : Nat) : BrdAt (w.drewN n) p s f := ⟨h.c0, h.c1, h.lt⟩
set_option maxHeartbeats 2000000 in
theorem sliceEqU (w : World) (g1 o1 k1 m g2 o2 k2 m' : Nat) (l l' : List K10) (hl : l.length = m) (hl' : l'.length = m') (hm : m ≤ 1048576) (hm' : m' ≤ 1048576) (h1 : UAt w g1 o1 l) (h2 : UAt w g2 o2 l') :
    Calls Try.prog 34 #[.slice (some ⟨g1, o1, none⟩) m k1, .slice (some ⟨g2, o2, none⟩) m' k2] w fun e w' => e = .returned (.bool (allU l l')) ∧ ∃ nq, w' = w.drewN nq := by
  by_cases hmm : m = m'
  · subst hmm
    have H1 : Hid (UAt w g1 o1 l) := h1
    have H2 : Hid (UAt w g2 o2 l') := h2
    have Hl : Hid (l.length = m) := hl
    have Hl' : Hid (l'.length = m) := hl'
    obtain ⟨R, HR⟩ : ∃ R : Bool, Hid (R = allU l l') := ⟨_, rfl⟩
    rw [← HR.out]
    clear h1 h2 hl hl'
    go_enter Try.func34, Try.ntmps34
    go_wp2
    go_loopw [13] (fun i wr => ∃ k : Nat, k ≤ m ∧ i = .int .i64 k ∧ Hid (R = allU (l.drop k) (l'.drop k)) ∧ ∃ nq, wr = w.drewN nq) (fun i _ => m - (intOf i).toNat)
    case atStart => exact ⟨0, Nat.zero_le _, rfl, HR, 0, rfl⟩
    case round =>
      obtain ⟨k, hk, rfl, Hk, nq0, rfl⟩ := hrel
      by_cases hlt : k < m
      · have hlt' : (k : Int) < (m : Int) := by omega
        obtain ⟨x, hx⟩ : ∃ x, l[k]? = some x := ⟨_, List.getElem?_eq_getElem (by have := Hl.out; omega)⟩
        obtain ⟨y, hy⟩ : ∃ y, l'[k]? = some y := ⟨_, List.getElem?_eq_getElem (by have := Hl'.out; omega)⟩
        obtain ⟨a0, a1, a2, a3, a4, a5, a6, a7, a8, a9⟩ := H1.out.all hx
        obtain ⟨b0, b1, b2, b3, b4, b5, b6, b7, b8, b9⟩ := H2.out.all hy
        have hne := neqU x y
        have HS : Hid (R = (x.b y && allU (l.drop (k + 1)) (l'.drop (k + 1)))) := by show _ = _; rw [Hk.out, allU_step hx hy]
        clear hx hy
        cases hq : x.b y
        · have HE : Hid (R = false) := by show _ = _; rw [HS.out, hq]; rfl
          go_wp2
          go_quiet (fail)
          go_wp2
          go_ret
          first
          | exact ⟨by rw [HE.out]; rfl, _, rfl⟩
          | exact ⟨by rw [HE.out]; rfl, _, drewN_trans _ _ _⟩
        · have HE : Hid (R = allU (l.drop (k + 1)) (l'.drop (k + 1))) := by show _ = _; rw [HS.out, hq]; rfl
          go_wp2
          go_quiet (fail)
          go_wp2
          go_roundw
          case rel => first | exact ⟨k + 1, by omega, by go_num, HE, _, rfl⟩ | exact ⟨k + 1, by omega, by go_num, HE, _, drewN_trans _ _ _⟩
          case measure => simp [intOf]; omega
      · obtain rfl : k = m := by omega
        have HE : Hid (R = true) := by show _ = _; rw [Hk.out, List.drop_of_length_le (by have := Hl.out; omega), List.drop_of_length_le (by have := Hl'.out; omega)]; rfl
        go_wp2
        go_ret
        exact ⟨by rw [HE.out]; rfl, nq0, rfl⟩
  · rw [allU_ne l l' (by omega)]
    have hne : ((m : Int) != (m' : Int)) = true := by simp; omega
    clear h1 h2 hl hl'
    go_enter Try.func34, Try.ntmps34
    go_wp2
    go_ret
    exact ⟨rfl, 0, rfl⟩
set_option maxHeartbeats 2000000 in
theorem sliceEqF (w : World) (g1 o1 k1 m g2 o2 k2 m' : Nat) (l l' : List K3) (hl : l.length = m) (hl' : l'.length = m') (hm : m ≤ 1048576) (hm' : m' ≤ 1048576) (h1 : FAt w g1 o1 l) (h2 : FAt w g2 o2 l') :
    Calls Try.prog 35 #[.slice (some ⟨g1, o1, none⟩) m k1, .slice (some ⟨g2, o2, none⟩) m' k2] w fun e w' => e = .returned (.bool (allF l l')) ∧ ∃ nq, w' = w.drewN nq := by
  by_cases hmm : m = m'
  · subst hmm
    have H1 : Hid (FAt w g1 o1 l) := h1
    have H2 : Hid (FAt w g2 o2 l') := h2
    have Hl : Hid (l.length = m) := hl
    have Hl' : Hid (l'.length = m) := hl'
    obtain ⟨R, HR⟩ : ∃ R : Bool, Hid (R = allF l l') := ⟨_, rfl⟩
    rw [← HR.out]
    clear h1 h2 hl hl'
    go_enter Try.func35, Try.ntmps35
    go_wp2
    go_loopw [13] (fun i wr => ∃ k : Nat, k ≤ m ∧ i = .int .i64 k ∧ Hid (R = allF (l.drop k) (l'.drop k)) ∧ ∃ nq, wr = w.drewN nq) (fun i _ => m - (intOf i).toNat)
    case atStart => exact ⟨0, Nat.zero_le _, rfl, HR, 0, rfl⟩
    case round =>
      obtain ⟨k, hk, rfl, Hk, nq0, rfl⟩ := hrel
      by_cases hlt : k < m
      · have hlt' : (k : Int) < (m : Int) := by omega
        obtain ⟨x, hx⟩ : ∃ x, l[k]? = some x := ⟨_, List.getElem?_eq_getElem (by have := Hl.out; omega)⟩
        obtain ⟨y, hy⟩ : ∃ y, l'[k]? = some y := ⟨_, List.getElem?_eq_getElem (by have := Hl'.out; omega)⟩
        obtain ⟨a0, a1, a2⟩ := H1.out.all hx
        obtain ⟨b0, b1, b2⟩ := H2.out.all hy
        have hne := neqF x y
        have HS : Hid (R = (x.b y && allF (l.drop (k + 1)) (l'.drop (k + 1)))) := by show _ = _; rw [Hk.out, allF_step hx hy]
        clear hx hy
        cases hq : x.b y
        · have HE : Hid (R = false) := by show _ = _; rw [HS.out, hq]; rfl
          go_wp2
          go_quiet (fail)
          go_wp2
          go_ret
          first
          | exact ⟨by rw [HE.out]; rfl, _, rfl⟩
          | exact ⟨by rw [HE.out]; rfl, _, drewN_trans _ _ _⟩
        · have HE : Hid (R = allF (l.drop (k + 1)) (l'.drop (k + 1))) := by show _ = _; rw [HS.out, hq]; rfl
          go_wp2
          go_quiet (fail)
          go_wp2
          go_roundw
          case rel => first | exact ⟨k + 1, by omega, by go_num, HE, _, rfl⟩ | exact ⟨k + 1, by omega, by go_num, HE, _, drewN_trans _ _ _⟩
          case measure => simp [intOf]; omega
      · obtain rfl : k = m := by omega
        have HE : Hid (R = true) := by show _ = _; rw [Hk.out, List.drop_of_length_le (by have := Hl.out; omega), List.drop_of_length_le (by have := Hl'.out; omega)]; rfl
        go_wp2
        go_ret
        exact ⟨by rw [HE.out]; rfl, nq0, rfl⟩
  · rw [allF_ne l l' (by omega)]
    have hne : ((m : Int) != (m' : Int)) = true := by simp; omega
    clear h1 h2 hl hl'
    go_enter Try.func35, Try.ntmps35
    go_wp2
    go_ret
    exact ⟨rfl, 0, rfl⟩
set_option maxHeartbeats 4000000 in
theorem l4Same_c (p q g1 o1 c1 g1' o1' c1' g2 o2 c2 g2' o2' c2' m m' n n' : Nat) (us : List K10) (fs : List K3) (us2 : List K10) (fs2 : List K3) (hl : us.length = m) (hl' : fs.length = m') (h2 : us2.length = n) (h2' : fs2.length = n') (w : World)
    (hm : m ≤ 1048576) (hm' : m' ≤ 1048576) (hn : n ≤ 1048576) (hn' : n' ≤ 1048576) (hB : BrdAt w p (.slice (some ⟨g1, o1, none⟩) m c1) (.slice (some ⟨g1', o1', none⟩) m' c1')) (hB2 : BrdAt w q (.slice (some ⟨g2, o2, none⟩) n c2) (.slice (some ⟨g2', o2', none⟩) n' c2'))
    (u1 : UAt w g1 o1 us) (f1 : FAt w g1' o1' fs) (u2 : UAt w g2 o2 us2) (f2 : FAt w g2' o2' fs2) :
    Calls Try.prog 28 #[.pointer (some ⟨p, 0, none⟩), .pointer (some ⟨q, 0, none⟩)] w fun e w' => e = .returned (.bool (allU us us2 && allF fs fs2)) ∧ ∃ nq, w' = w.drewN nq := by
  obtain ⟨b0, b1, bl⟩ := hB
  obtain ⟨d0, d1, dl⟩ := hB2
  by_cases e1 : m = n
  · by_cases e2 : m' = n'
    · subst e1 e2
      have Kus : Hid (UAt w g1 o1 us) := u1
      have Kus2 : Hid (UAt w g2 o2 us2) := u2
      have Kfs : Hid (FAt w g1' o1' fs) := f1
      have Kfs2 : Hid (FAt w g2' o2' fs2) := f2
      have Hus : Hid (us.length = m) := hl
      have Hus2 : Hid (us2.length = m) := h2
      have Hfs : Hid (fs.length = m') := hl'
      have Hfs2 : Hid (fs2.length = m') := h2'
      obtain ⟨R, HR⟩ : ∃ R : Bool, Hid (R = (allU us us2 && allF fs fs2)) := ⟨_, rfl⟩
      rw [← HR.out]
      have HR0 : Hid (R = (allU (us.drop 0) (us2.drop 0) && allF fs fs2)) := HR
      have nm : ((m : Int) != (m : Int)) = false := by simp
      have nm' : ((m' : Int) != (m' : Int)) = false := by simp
      clear u1 u2 f1 f2 hl hl' h2 h2'
      go_enter Try.func28, Try.ntmps28
      go_wp2
      go_quiet (fail)
      go_wp2
      go_loopw [5] (fun i wr => ∃ k : Nat, k ≤ m ∧ i = .int .i64 k ∧ Hid (R = (allU (us.drop k) (us2.drop k) && allF fs fs2)) ∧ ∃ nq, wr = w.drewN nq) (fun i _ => m - (intOf i).toNat)
      case atStart => exact ⟨0, Nat.zero_le _, rfl, HR0, _, rfl⟩
      case round =>
        obtain ⟨k, hk, rfl, Hk, nq0, rfl⟩ := hrel
        by_cases hlt : k < m
        · have hlt' : (k : Int) < (m : Int) := by omega
          obtain ⟨x, hx⟩ : ∃ x, us[k]? = some x := ⟨_, List.getElem?_eq_getElem (by have := Hus.out; omega)⟩
          obtain ⟨y, hy⟩ : ∃ y, us2[k]? = some y := ⟨_, List.getElem?_eq_getElem (by have := Hus2.out; omega)⟩
          obtain ⟨a0, a1, a2, a3, a4, a5, a6, a7, a8, a9⟩ := Kus.out.all hx
          obtain ⟨b0, b1, b2, b3, b4, b5, b6, b7, b8, b9⟩ := Kus2.out.all hy
          have hne := neqU x y
          have HS : Hid (R = (x.b y && (allU (us.drop (k + 1)) (us2.drop (k + 1)) && allF fs fs2))) := by show _ = _; rw [Hk.out, allU_step hx hy]; rw [Bool.and_assoc]
          clear hx hy
          cases hq : x.b y
          · have HE : Hid (R = false) := by show _ = _; rw [HS.out, hq]; rfl
            go_wp2
            go_quiet (fail)
            go_wp2
            go_ret
            first
            | exact ⟨by rw [HE.out]; rfl, _, rfl⟩
            | exact ⟨by rw [HE.out]; rfl, _, drewN_trans _ _ _⟩
          · have HE : Hid (R = (allU (us.drop (k + 1)) (us2.drop (k + 1)) && allF fs fs2)) := by show _ = _; rw [HS.out, hq]; rfl
            go_wp2
            go_quiet (fail)
            go_wp2
            go_roundw
            case rel => first | exact ⟨k + 1, by omega, by go_num, HE, _, rfl⟩ | exact ⟨k + 1, by omega, by go_num, HE, _, drewN_trans _ _ _⟩
            case measure => simp [intOf]; omega
        · obtain rfl : k = m := by omega
          have HR0 : Hid (R = allF (fs.drop 0) (fs2.drop 0)) := by show _ = _; rw [Hk.out, List.drop_of_length_le (by have := Hus.out; omega), List.drop_of_length_le (by have := Hus2.out; omega)]; rfl
          clear Hk
          go_wp2
          go_loopw [6] (fun i wr => ∃ k : Nat, k ≤ m' ∧ i = .int .i64 k ∧ Hid (R = (allF (fs.drop k) (fs2.drop k))) ∧ ∃ nq, wr = w.drewN nq) (fun i _ => m' - (intOf i).toNat)
          case atStart => exact ⟨0, Nat.zero_le _, rfl, HR0, _, rfl⟩
          case round =>
            obtain ⟨k, hk, rfl, Hk, nq0, rfl⟩ := hrel
            by_cases hlt : k < m'
            · have hlt' : (k : Int) < (m' : Int) := by omega
              obtain ⟨x, hx⟩ : ∃ x, fs[k]? = some x := ⟨_, List.getElem?_eq_getElem (by have := Hfs.out; omega)⟩
              obtain ⟨y, hy⟩ : ∃ y, fs2[k]? = some y := ⟨_, List.getElem?_eq_getElem (by have := Hfs2.out; omega)⟩
              obtain ⟨a0, a1, a2⟩ := Kfs.out.all hx
              obtain ⟨b0, b1, b2⟩ := Kfs2.out.all hy
              have hne := neqF x y
              have HS : Hid (R = (x.b y && (allF (fs.drop (k + 1)) (fs2.drop (k + 1))))) := by show _ = _; rw [Hk.out, allF_step hx hy]
              clear hx hy
              cases hq : x.b y
              · have HE : Hid (R = false) := by show _ = _; rw [HS.out, hq]; rfl
                go_wp2
                go_quiet (fail)
                go_wp2
                go_ret
                first
                | exact ⟨by rw [HE.out]; rfl, _, rfl⟩
                | exact ⟨by rw [HE.out]; rfl, _, drewN_trans _ _ _⟩
              · have HE : Hid (R = (allF (fs.drop (k + 1)) (fs2.drop (k + 1)))) := by show _ = _; rw [HS.out, hq]; rfl
                go_wp2
                go_quiet (fail)
                go_wp2
                go_roundw
                case rel => first | exact ⟨k + 1, by omega, by go_num, HE, _, rfl⟩ | exact ⟨k + 1, by omega, by go_num, HE, _, drewN_trans _ _ _⟩
                case measure => simp [intOf]; omega
            · obtain rfl : k = m' := by omega
              have HE : Hid (R = true) := by show _ = _; rw [Hk.out, List.drop_of_length_le (by have := Hfs.out; omega), List.drop_of_length_le (by have := Hfs2.out; omega)]; rfl
              go_wp2
              go_ret
              exact ⟨by rw [HE.out]; rfl, _, rfl⟩
    · rw [allF_ne fs fs2 (by omega), Bool.and_false]
      have nm : ((m : Int) != (n : Int)) = false := by simp; omega
      have nm' : ((m' : Int) != (n' : Int)) = true := by simp; omega
      clear u1 u2 f1 f2 hl hl' h2 h2'
      go_enter Try.func28, Try.ntmps28
      go_wp2
      go_quiet (fail)
      go_wp2
      go_ret
      exact ⟨rfl, _, rfl⟩
  · rw [allU_ne us us2 (by omega), Bool.false_and]
    have nm : ((m : Int) != (n : Int)) = true := by simp; omega
    clear u1 u2 f1 f2 hl hl' h2 h2'
    go_enter Try.func28, Try.ntmps28
    go_wp2
    go_quiet (fail)
    go_wp2
    go_ret
    exact ⟨rfl, _, rfl⟩
theorem two_boxes (w : World) (s f s2 f2 : Value) (t : TypeId) : let W := (w.alloc (.cells #[s, f] t)).alloc (.cells #[s2, f2] t)
    W.rowIs w.heap.size t 2 (fun i => if i = 0 then s else f) ∧ W.rowIs (w.heap.size + 1) t 2 (fun i => if i = 0 then s2 else f2) ∧ Below w.heap.size w W ∧ W.heap.size = w.heap.size + 1 + 1 := by
  intro W
  have s1 : (w.alloc (.cells #[s, f] t)).heap.size = w.heap.size + 1 := size_new _ _
  have e2 : W.heap.size = w.heap.size + 1 + 1 := by show (World.alloc _ _).heap.size = _; rw [size_new, s1]
  have b1 : Below (w.alloc (.cells #[s, f] t)).heap.size (w.alloc (.cells #[s, f] t)) W := (Below.refl _ _).alloc (Nat.le_refl _) _
  have r0 := rowTwo w s f t
  have r1 := rowTwo (w.alloc (.cells #[s, f] t)) s2 f2 t
  rw [s1] at r1
  exact ⟨r0.of_block (b1.block _ r0.lt), r1, ((Below.refl _ _).alloc (Nat.le_refl _) _).alloc (by rw [s1]; omega) _, e2⟩
set_option maxHeartbeats 4000000 in
theorem implSameB (w : World) {base base2 g1 g1' g2 g2' : Nat} {us : List K10} {fs : List K3} {us2 : List K10} {fs2 : List K3} (N1 : NewB w base g1 g1' us fs) (N2 : NewB w base2 g2 g2' us2 fs2) (hm : us.length ≤ 1048576) (hm' : fs.length ≤ 1048576) (hn : us2.length ≤ 1048576) (hn' : fs2.length ≤ 1048576) :
    Calls Try.prog 18 #[.agg (brdV (some ⟨g1, 0, none⟩) us.length us.length (some ⟨g1', 0, none⟩) fs.length fs.length), .agg (brdV (some ⟨g2, 0, none⟩) us2.length us2.length (some ⟨g2', 0, none⟩) fs2.length fs2.length)] w fun e w' => e = .returned (.bool (allU us us2 && allF fs fs2)) ∧ Below w.heap.size w w' := by
  obtain ⟨r0, r1, B2, S2⟩ := two_boxes w (.slice (some ⟨g1, 0, none⟩) us.length us.length) (.slice (some ⟨g1', 0, none⟩) fs.length fs.length) (.slice (some ⟨g2, 0, none⟩) us2.length us2.length) (.slice (some ⟨g2', 0, none⟩) fs2.length fs2.length) 36
  have M1 := N1.later B2
  have M2 := N2.later B2
  have cU := sliceEqU _ g1 0 us.length _ g2 0 us2.length _ us us2 rfl rfl hm hn (rowU_is rfl M1.u) (rowU_is rfl M2.u)
  have cF := fun nq => sliceEqF (World.drewN _ nq) g1' 0 fs.length _ g2' 0 fs2.length _ fs fs2 rfl rfl hm' hn' (rowF_is rfl (row_later M1.f (below_drewN _ nq))) (rowF_is rfl (row_later M2.f (below_drewN _ nq)))
  obtain ⟨p0, p1, pl⟩ := row_brd r0
  obtain ⟨q0, q1, ql⟩ := row_brd r1
  generalize allF fs fs2 = F at cF ⊢
  cases hU : allU us us2
  · rw [hU] at cU
    go_enter Try.func18, Try.ntmps18
    go_wp2_with fail
    refine cU.mono ?_
    rintro e w1 ⟨rfl, nq, rfl⟩
    go_wp2
    go_ret
    exact ⟨rfl, B2.trans ((below_drewN _ nq).mono B2.size)⟩
  · rw [hU] at cU
    go_enter Try.func18, Try.ntmps18
    go_wp2_with fail
    refine cU.mono ?_
    rintro e w1 ⟨rfl, nq, rfl⟩
    go_wp2_with fail
    refine (cF nq).mono ?_
    rintro e w1 ⟨rfl, nq2, rfl⟩
    go_wp2
    go_ret
    exact ⟨by rw [Bool.true_and]; rfl, B2.trans ((below_drewN _ (nq + nq2)).mono B2.size)⟩
end Go.Proofs.Ytibkdkjcncfmgab
