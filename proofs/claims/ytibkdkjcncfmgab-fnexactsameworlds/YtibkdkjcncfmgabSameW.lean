/- Contracts of lists that are held against each other. Condition: the lists have at most 1048576 members. -/
import Derived.Test.YtibkdkjcncfmgabSameB
import Derived.Test.YtibkdkjcncfmgabExactWorld2
namespace Go.Proofs.Ytibkdkjcncfmgab
open Go.ChangeShapes Go.WideShapes Go.ChangeAt Go.RowKit
set_option linter.unusedVariables false

set_option maxHeartbeats 2000000 in
theorem sliceEqA (w : World) (g1 o1 k1 m g2 o2 k2 m' : Nat) (l l' : List KA) (hl : l.length = m) (hl' : l'.length = m') (hm : m ≤ 1048576) (hm' : m' ≤ 1048576) (h1 : AAt w g1 o1 l) (h2 : AAt w g2 o2 l') :
    Calls Try.prog 19 #[.slice (some ⟨g1, o1, none⟩) m k1, .slice (some ⟨g2, o2, none⟩) m' k2] w fun e w' => e = .returned (.bool (allA l l')) ∧ ∃ nq, w' = w.drewN nq := by
  by_cases hmm : m = m'
  · subst hmm
    have H1 : Hid (AAt w g1 o1 l) := h1
    have H2 : Hid (AAt w g2 o2 l') := h2
    have Hl : Hid (l.length = m) := hl
    have Hl' : Hid (l'.length = m) := hl'
    obtain ⟨R, HR⟩ : ∃ R : Bool, Hid (R = allA l l') := ⟨_, rfl⟩
    rw [← HR.out]
    clear h1 h2 hl hl'
    go_enter Try.func19, Try.ntmps19
    go_wp2
    go_loopw [13] (fun i wr => ∃ k : Nat, k ≤ m ∧ i = .int .i64 k ∧ Hid (R = allA (l.drop k) (l'.drop k)) ∧ ∃ nq, wr = w.drewN nq) (fun i _ => m - (intOf i).toNat)
    case atStart => exact ⟨0, Nat.zero_le _, rfl, HR, 0, rfl⟩
    case round =>
      obtain ⟨k, hk, rfl, Hk, nq0, rfl⟩ := hrel
      by_cases hlt : k < m
      · have hlt' : (k : Int) < (m : Int) := by omega
        obtain ⟨x, hx⟩ : ∃ x, l[k]? = some x := ⟨_, List.getElem?_eq_getElem (by have := Hl.out; omega)⟩
        obtain ⟨y, hy⟩ : ∃ y, l'[k]? = some y := ⟨_, List.getElem?_eq_getElem (by have := Hl'.out; omega)⟩
        obtain ⟨a0, a1, a2⟩ := H1.out.all hx
        obtain ⟨b0, b1, b2⟩ := H2.out.all hy
        have hne := neqA x y
        have HS : Hid (R = (x.b y && allA (l.drop (k + 1)) (l'.drop (k + 1)))) := by show _ = _; rw [Hk.out, allA_step hx hy]
        clear hx hy
        cases hq : x.b y
        · have HE : Hid (R = false) := by show _ = _; rw [HS.out, hq]; rfl
          go_wp2
          go_quiet (fail)
          go_wp2
          go_ret
          first
          | exact ⟨by rw [HE.out]; rfl, _, rfl⟩
          | exact ⟨by rw [HE.out]; rfl, _, drewN_trans _ _ _⟩
        · have HE : Hid (R = allA (l.drop (k + 1)) (l'.drop (k + 1))) := by show _ = _; rw [HS.out, hq]; rfl
          go_wp2
          go_quiet (fail)
          go_wp2
          go_roundw
          case rel => first | exact ⟨k + 1, by omega, by go_num, HE, _, rfl⟩ | exact ⟨k + 1, by omega, by go_num, HE, _, drewN_trans _ _ _⟩
          case measure => simp [intOf]; omega
      · obtain rfl : k = m := by omega
        have HE : Hid (R = true) := by show _ = _; rw [Hk.out, List.drop_of_length_le (by have := Hl.out; omega), List.drop_of_length_le (by have := Hl'.out; omega)]; rfl
        go_wp2
        go_ret
        exact ⟨by rw [HE.out]; rfl, nq0, rfl⟩
  · rw [allA_ne l l' (by omega)]
    have hne : ((m : Int) != (m' : Int)) = true := by simp; omega
    clear h1 h2 hl hl'
    go_enter Try.func19, Try.ntmps19
    go_wp2
    go_ret
    exact ⟨rfl, 0, rfl⟩
set_option maxHeartbeats 2000000 in
theorem sliceEqS (w : World) (g1 o1 k1 m g2 o2 k2 m' : Nat) (l l' : List K4) (hl : l.length = m) (hl' : l'.length = m') (hm : m ≤ 1048576) (hm' : m' ≤ 1048576) (h1 : SAt w g1 o1 l) (h2 : SAt w g2 o2 l') :
    Calls Try.prog 20 #[.slice (some ⟨g1, o1, none⟩) m k1, .slice (some ⟨g2, o2, none⟩) m' k2] w fun e w' => e = .returned (.bool (allS l l')) ∧ ∃ nq, w' = w.drewN nq := by
  by_cases hmm : m = m'
  · subst hmm
    have H1 : Hid (SAt w g1 o1 l) := h1
    have H2 : Hid (SAt w g2 o2 l') := h2
    have Hl : Hid (l.length = m) := hl
    have Hl' : Hid (l'.length = m) := hl'
    obtain ⟨R, HR⟩ : ∃ R : Bool, Hid (R = allS l l') := ⟨_, rfl⟩
    rw [← HR.out]
    clear h1 h2 hl hl'
    go_enter Try.func20, Try.ntmps20
    go_wp2
    go_loopw [13] (fun i wr => ∃ k : Nat, k ≤ m ∧ i = .int .i64 k ∧ Hid (R = allS (l.drop k) (l'.drop k)) ∧ ∃ nq, wr = w.drewN nq) (fun i _ => m - (intOf i).toNat)
    case atStart => exact ⟨0, Nat.zero_le _, rfl, HR, 0, rfl⟩
    case round =>
      obtain ⟨k, hk, rfl, Hk, nq0, rfl⟩ := hrel
      by_cases hlt : k < m
      · have hlt' : (k : Int) < (m : Int) := by omega
        obtain ⟨x, hx⟩ : ∃ x, l[k]? = some x := ⟨_, List.getElem?_eq_getElem (by have := Hl.out; omega)⟩
        obtain ⟨y, hy⟩ : ∃ y, l'[k]? = some y := ⟨_, List.getElem?_eq_getElem (by have := Hl'.out; omega)⟩
        obtain ⟨a0, a1, a2, a3⟩ := H1.out.all hx
        obtain ⟨b0, b1, b2, b3⟩ := H2.out.all hy
        have hne := neqS x y
        have HS : Hid (R = (x.b y && allS (l.drop (k + 1)) (l'.drop (k + 1)))) := by show _ = _; rw [Hk.out, allS_step hx hy]
        clear hx hy
        cases hq : x.b y
        · have HE : Hid (R = false) := by show _ = _; rw [HS.out, hq]; rfl
          go_wp2
          go_quiet (fail)
          go_wp2
          go_ret
          first
          | exact ⟨by rw [HE.out]; rfl, _, rfl⟩
          | exact ⟨by rw [HE.out]; rfl, _, drewN_trans _ _ _⟩
        · have HE : Hid (R = allS (l.drop (k + 1)) (l'.drop (k + 1))) := by show _ = _; rw [HS.out, hq]; rfl
          go_wp2
          go_quiet (fail)
          go_wp2
          go_roundw
          case rel => first | exact ⟨k + 1, by omega, by go_num, HE, _, rfl⟩ | exact ⟨k + 1, by omega, by go_num, HE, _, drewN_trans _ _ _⟩
          case measure => simp [intOf]; omega
      · obtain rfl : k = m := by omega
        have HE : Hid (R = true) := by show _ = _; rw [Hk.out, List.drop_of_length_le (by have := Hl.out; omega), List.drop_of_length_le (by have := Hl'.out; omega)]; rfl
        go_wp2
        go_ret
        exact ⟨by rw [HE.out]; rfl, nq0, rfl⟩
  · rw [allS_ne l l' (by omega)]
    have hne : ((m : Int) != (m' : Int)) = true := by simp; omega
    clear h1 h2 hl hl'
    go_enter Try.func20, Try.ntmps20
    go_wp2
    go_ret
    exact ⟨rfl, 0, rfl⟩
set_option maxHeartbeats 2000000 in
theorem sliceEqO (w : World) (g1 o1 k1 m g2 o2 k2 m' : Nat) (l l' : List K2) (hl : l.length = m) (hl' : l'.length = m') (hm : m ≤ 1048576) (hm' : m' ≤ 1048576) (h1 : OAt w g1 o1 l) (h2 : OAt w g2 o2 l') :
    Calls Try.prog 21 #[.slice (some ⟨g1, o1, none⟩) m k1, .slice (some ⟨g2, o2, none⟩) m' k2] w fun e w' => e = .returned (.bool (allO l l')) ∧ ∃ nq, w' = w.drewN nq := by
  by_cases hmm : m = m'
  · subst hmm
    have H1 : Hid (OAt w g1 o1 l) := h1
    have H2 : Hid (OAt w g2 o2 l') := h2
    have Hl : Hid (l.length = m) := hl
    have Hl' : Hid (l'.length = m) := hl'
    obtain ⟨R, HR⟩ : ∃ R : Bool, Hid (R = allO l l') := ⟨_, rfl⟩
    rw [← HR.out]
    clear h1 h2 hl hl'
    go_enter Try.func21, Try.ntmps21
    go_wp2
    go_loopw [13] (fun i wr => ∃ k : Nat, k ≤ m ∧ i = .int .i64 k ∧ Hid (R = allO (l.drop k) (l'.drop k)) ∧ ∃ nq, wr = w.drewN nq) (fun i _ => m - (intOf i).toNat)
    case atStart => exact ⟨0, Nat.zero_le _, rfl, HR, 0, rfl⟩
    case round =>
      obtain ⟨k, hk, rfl, Hk, nq0, rfl⟩ := hrel
      by_cases hlt : k < m
      · have hlt' : (k : Int) < (m : Int) := by omega
        obtain ⟨x, hx⟩ : ∃ x, l[k]? = some x := ⟨_, List.getElem?_eq_getElem (by have := Hl.out; omega)⟩
        obtain ⟨y, hy⟩ : ∃ y, l'[k]? = some y := ⟨_, List.getElem?_eq_getElem (by have := Hl'.out; omega)⟩
        obtain ⟨a0, a1⟩ := H1.out.all hx
        obtain ⟨b0, b1⟩ := H2.out.all hy
        have hne := neqO x y
        have HS : Hid (R = (x.b y && allO (l.drop (k + 1)) (l'.drop (k + 1)))) := by show _ = _; rw [Hk.out, allO_step hx hy]
        clear hx hy
        cases hq : x.b y
        · have HE : Hid (R = false) := by show _ = _; rw [HS.out, hq]; rfl
          go_wp2
          go_quiet (fail)
          go_wp2
          go_ret
          first
          | exact ⟨by rw [HE.out]; rfl, _, rfl⟩
          | exact ⟨by rw [HE.out]; rfl, _, drewN_trans _ _ _⟩
        · have HE : Hid (R = allO (l.drop (k + 1)) (l'.drop (k + 1))) := by show _ = _; rw [HS.out, hq]; rfl
          go_wp2
          go_quiet (fail)
          go_wp2
          go_roundw
          case rel => first | exact ⟨k + 1, by omega, by go_num, HE, _, rfl⟩ | exact ⟨k + 1, by omega, by go_num, HE, _, drewN_trans _ _ _⟩
          case measure => simp [intOf]; omega
      · obtain rfl : k = m := by omega
        have HE : Hid (R = true) := by show _ = _; rw [Hk.out, List.drop_of_length_le (by have := Hl.out; omega), List.drop_of_length_le (by have := Hl'.out; omega)]; rfl
        go_wp2
        go_ret
        exact ⟨by rw [HE.out]; rfl, nq0, rfl⟩
  · rw [allO_ne l l' (by omega)]
    have hne : ((m : Int) != (m' : Int)) = true := by simp; omega
    clear h1 h2 hl hl'
    go_enter Try.func21, Try.ntmps21
    go_wp2
    go_ret
    exact ⟨rfl, 0, rfl⟩
structure BrdAt2 (w : World) (p : Nat) (s f : Value) : Prop where
  c0 : w.cell? ⟨p, 2, none⟩ = some s
  c1 : w.cell? ⟨p, 3, none⟩ = some f
  lt : p < w.heap.size
set_option maxHeartbeats 4000000 in
theorem l4Same2_c (p q g1 o1 c1 g1' o1' c1' g2 o2 c2 g2' o2' c2' m m' n n' : Nat) (us : List K10) (fs : List K3) (us2 : List K10) (fs2 : List K3) (hl : us.length = m) (hl' : fs.length = m') (h2 : us2.length = n) (h2' : fs2.length = n') (w : World)
    (hm : m ≤ 1048576) (hm' : m' ≤ 1048576) (hn : n ≤ 1048576) (hn' : n' ≤ 1048576) (hB : BrdAt2 w p (.slice (some ⟨g1, o1, none⟩) m c1) (.slice (some ⟨g1', o1', none⟩) m' c1')) (hB2 : BrdAt2 w q (.slice (some ⟨g2, o2, none⟩) n c2) (.slice (some ⟨g2', o2', none⟩) n' c2'))
    (u1 : UAt w g1 o1 us) (f1 : FAt w g1' o1' fs) (u2 : UAt w g2 o2 us2) (f2 : FAt w g2' o2' fs2) :
    Calls Try.prog 28 #[.pointer (some ⟨p, 2, none⟩), .pointer (some ⟨q, 2, none⟩)] w fun e w' => e = .returned (.bool (allU us us2 && allF fs fs2)) ∧ ∃ nq, w' = w.drewN nq := by
  obtain ⟨b0, b1, bl⟩ := hB
  obtain ⟨d0, d1, dl⟩ := hB2
  by_cases e1 : m = n
  · by_cases e2 : m' = n'
    · subst e1 e2
      have Kus : Hid (UAt w g1 o1 us) := u1
      have Kus2 : Hid (UAt w g2 o2 us2) := u2
      have Kfs : Hid (FAt w g1' o1' fs) := f1
      have Kfs2 : Hid (FAt w g2' o2' fs2) := f2
      have Hus : Hid (us.length = m) := hl
      have Hus2 : Hid (us2.length = m) := h2
      have Hfs : Hid (fs.length = m') := hl'
      have Hfs2 : Hid (fs2.length = m') := h2'
      obtain ⟨R, HR⟩ : ∃ R : Bool, Hid (R = (allU us us2 && allF fs fs2)) := ⟨_, rfl⟩
      rw [← HR.out]
      have HR0 : Hid (R = (allU (us.drop 0) (us2.drop 0) && allF fs fs2)) := HR
      have nm : ((m : Int) != (m : Int)) = false := by simp
      have nm' : ((m' : Int) != (m' : Int)) = false := by simp
      clear u1 u2 f1 f2 hl hl' h2 h2'
      go_enter Try.func28, Try.ntmps28
      go_wp2
      go_quiet (fail)
      go_wp2
      go_loopw [5] (fun i wr => ∃ k : Nat, k ≤ m ∧ i = .int .i64 k ∧ Hid (R = (allU (us.drop k) (us2.drop k) && allF fs fs2)) ∧ ∃ nq, wr = w.drewN nq) (fun i _ => m - (intOf i).toNat)
      case atStart => exact ⟨0, Nat.zero_le _, rfl, HR0, _, rfl⟩
      case round =>
        obtain ⟨k, hk, rfl, Hk, nq0, rfl⟩ := hrel
        by_cases hlt : k < m
        · have hlt' : (k : Int) < (m : Int) := by omega
          obtain ⟨x, hx⟩ : ∃ x, us[k]? = some x := ⟨_, List.getElem?_eq_getElem (by have := Hus.out; omega)⟩
          obtain ⟨y, hy⟩ : ∃ y, us2[k]? = some y := ⟨_, List.getElem?_eq_getElem (by have := Hus2.out; omega)⟩
          obtain ⟨a0, a1, a2, a3, a4, a5, a6, a7, a8, a9⟩ := Kus.out.all hx
          obtain ⟨b0, b1, b2, b3, b4, b5, b6, b7, b8, b9⟩ := Kus2.out.all hy
          have hne := neqU x y
          have HS : Hid (R = (x.b y && (allU (us.drop (k + 1)) (us2.drop (k + 1)) && allF fs fs2))) := by show _ = _; rw [Hk.out, allU_step hx hy]; rw [Bool.and_assoc]
          clear hx hy
          cases hq : x.b y
          · have HE : Hid (R = false) := by show _ = _; rw [HS.out, hq]; rfl
            go_wp2
            go_quiet (fail)
            go_wp2
            go_ret
            first
            | exact ⟨by rw [HE.out]; rfl, _, rfl⟩
            | exact ⟨by rw [HE.out]; rfl, _, drewN_trans _ _ _⟩
          · have HE : Hid (R = (allU (us.drop (k + 1)) (us2.drop (k + 1)) && allF fs fs2)) := by show _ = _; rw [HS.out, hq]; rfl
            go_wp2
            go_quiet (fail)
            go_wp2
            go_roundw
            case rel => first | exact ⟨k + 1, by omega, by go_num, HE, _, rfl⟩ | exact ⟨k + 1, by omega, by go_num, HE, _, drewN_trans _ _ _⟩
            case measure => simp [intOf]; omega
        · obtain rfl : k = m := by omega
          have HR0 : Hid (R = allF (fs.drop 0) (fs2.drop 0)) := by show _ = _; rw [Hk.out, List.drop_of_length_le (by have := Hus.out; omega), List.drop_of_length_le (by have := Hus2.out; omega)]; rfl
          clear Hk
          go_wp2
          go_loopw [6] (fun i wr => ∃ k : Nat, k ≤ m' ∧ i = .int .i64 k ∧ Hid (R = (allF (fs.drop k) (fs2.drop k))) ∧ ∃ nq, wr = w.drewN nq) (fun i _ => m' - (intOf i).toNat)
          case atStart => exact ⟨0, Nat.zero_le _, rfl, HR0, _, rfl⟩
          case round =>
            obtain ⟨k, hk, rfl, Hk, nq0, rfl⟩ := hrel
            by_cases hlt : k < m'
            · have hlt' : (k : Int) < (m' : Int) := by omega
              obtain ⟨x, hx⟩ : ∃ x, fs[k]? = some x := ⟨_, List.getElem?_eq_getElem (by have := Hfs.out; omega)⟩
              obtain ⟨y, hy⟩ : ∃ y, fs2[k]? = some y := ⟨_, List.getElem?_eq_getElem (by have := Hfs2.out; omega)⟩
              obtain ⟨a0, a1, a2⟩ := Kfs.out.all hx
              obtain ⟨b0, b1, b2⟩ := Kfs2.out.all hy
              have hne := neqF x y
              have HS : Hid (R = (x.b y && (allF (fs.drop (k + 1)) (fs2.drop (k + 1))))) := by show _ = _; rw [Hk.out, allF_step hx hy]
              clear hx hy
              cases hq : x.b y
              · have HE : Hid (R = false) := by show _ = _; rw [HS.out, hq]; rfl
                go_wp2
                go_quiet (fail)
                go_wp2
                go_ret
                first
                | exact ⟨by rw [HE.out]; rfl, _, rfl⟩
                | exact ⟨by rw [HE.out]; rfl, _, drewN_trans _ _ _⟩
              · have HE : Hid (R = (allF (fs.drop (k + 1)) (fs2.drop (k + 1)))) := by show _ = _; rw [HS.out, hq]; rfl
                go_wp2
                go_quiet (fail)
                go_wp2
                go_roundw
                case rel => first | exact ⟨k + 1, by omega, by go_num, HE, _, rfl⟩ | exact ⟨k + 1, by omega, by go_num, HE, _, drewN_trans _ _ _⟩
                case measure => simp [intOf]; omega
            · obtain rfl : k = m' := by omega
              have HE : Hid (R = true) := by show _ = _; rw [Hk.out, List.drop_of_length_le (by have := Hfs.out; omega), List.drop_of_length_le (by have := Hfs2.out; omega)]; rfl
              go_wp2
              go_ret
              exact ⟨by rw [HE.out]; rfl, _, rfl⟩
    · rw [allF_ne fs fs2 (by omega), Bool.and_false]
      have nm : ((m : Int) != (n : Int)) = false := by simp; omega
      have nm' : ((m' : Int) != (n' : Int)) = true := by simp; omega
      clear u1 u2 f1 f2 hl hl' h2 h2'
      go_enter Try.func28, Try.ntmps28
      go_wp2
      go_quiet (fail)
      go_wp2
      go_ret
      exact ⟨rfl, _, rfl⟩
  · rw [allU_ne us us2 (by omega), Bool.false_and]
    have nm : ((m : Int) != (n : Int)) = true := by simp; omega
    clear u1 u2 f1 f2 hl hl' h2 h2'
    go_enter Try.func28, Try.ntmps28
    go_wp2
    go_quiet (fail)
    go_wp2
    go_ret
    exact ⟨rfl, _, rfl⟩
end Go.Proofs.Ytibkdkjcncfmgab
