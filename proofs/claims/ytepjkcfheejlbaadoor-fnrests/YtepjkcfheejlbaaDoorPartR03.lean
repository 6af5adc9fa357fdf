/- Texts of mine put together (a claim holds at most 60 files): BoardWalks, OwnRows, Lists. -/
import Derived.Test.YtepjkcfheejlbaaDoorPartR02
import Derived.Test.YtepjkcfheejlbaaDoorPartR01
import Derived.Test.YtepjkcfheejlbaaDoorRows
import Derived.WalkKit
import Derived.ProofKit
import Derived.OpenShut
import Derived.ShutString
import Derived.WalkLawsBesides
import Derived.ChangeOld
import Derived.Below
import Derived.OwnWalk
import Derived.Deep.OwnRows

/- BoardWalks -/
/- Contracts of BoardFault and of its model. Condition: the board's two lists lie in memory as they were laid there. -/
section
namespace Go.Proofs.YtepjkcfheejlbaaDoor
open Go.ChangeShapes Go.WideShapes Go.ChangeAt Go.RowKit
open Bd
set_option linter.unusedVariables false

/- A board in a block of memory: its two slices. -/
structure BrdAt (w : World) (p : Nat) (s f : Value) : Prop where
  c0 : w.cell? ⟨p, 0, none⟩ = some s
  c1 : w.cell? ⟨p, 1, none⟩ = some f
  lt : p < w.heap.size
theorem BrdAt.later {w w' : World} {p : Nat} {s f : Value} (h : BrdAt w p s f) (hb : Below w.heap.size w w') : BrdAt w' p s f :=
  ⟨by rw [hb.cell h.lt]; exact h.c0, by rw [hb.cell h.lt]; exact h.c1, Nat.lt_of_lt_of_le h.lt hb.size⟩
theorem BrdAt.new (w : World) (s f : Value) (t : TypeId) : BrdAt (w.alloc (.cells #[s, f] t)) w.heap.size s f :=
  ⟨cell_new _ _ _ _ _ rfl, cell_new _ _ _ _ _ rfl, by rw [size_new]; omega⟩
theorem ArgU.at {w : World} {a : Option Addr} {l : List K10} (h : ArgU w a l) {i : Nat} {x : K10} (hi : l[i]? = some x) : ∃ b off, a = some ⟨b, off, none⟩ ∧ b < w.heap.size ∧ UAt w b off l := by
  rcases h with h | h
  · rw [h] at hi; simp at hi
  · exact h
theorem ArgF.at {w : World} {a : Option Addr} {l : List K3} (h : ArgF w a l) {i : Nat} {x : K3} (hi : l[i]? = some x) : ∃ b off, a = some ⟨b, off, none⟩ ∧ b < w.heap.size ∧ FAt w b off l := by
  rcases h with h | h
  · rw [h] at hi; simp at hi
  · exact h

set_option maxHeartbeats 4000000 in
theorem l4Fault_c (p : Nat) (a : Option Addr) (m c : Nat) (a' : Option Addr) (m' c' : Nat) (us : List K10) (fs : List K3) (hl : us.length = m) (hl' : fs.length = m') (w : World) (hB : BrdAt w p (.slice a m c) (.slice a' m' c')) (hU : ArgU w a us) (hF : ArgF w a' fs) :
    Calls Tryd.prog 16 #[.pointer (some ⟨p, 0, none⟩)] w fun e w' => e = .returned (.int .i64 (bf us fs)) ∧ Below w.heap.size w w' := by
  have HB : Hid (BrdAt w p (.slice a m c) (.slice a' m' c')) := hB
  have HU : Hid (ArgU w a us) := hU
  have HF : Hid (ArgF w a' fs) := hF
  have Hl : Hid (us.length = m) := hl
  have Hl' : Hid (fs.length = m') := hl'
  obtain ⟨b0, b1, blt⟩ := hB
  clear hU hF
  by_cases h8 : 8 < m
  · have e : bf us fs = 2 := by unfold bf; rw [if_pos (by omega)]
    rw [e]
    clear e hl hl'
    have d : (8 : Int) < (m : Int) := by omega
    go_enter Tryd.func16, Tryd.ntmps16
    go_wp2
    go_ret
    exact ⟨rfl, Below.refl _ _⟩
  by_cases h4 : 4 < m'
  · have e : bf us fs = 2 := by unfold bf; rw [if_pos (by omega)]
    rw [e]
    clear e hl hl'
    have d0 : decide ((8 : Int) < (m : Int)) = false := decide_eq_false (by omega)
    have d : (4 : Int) < (m' : Int) := by omega
    go_enter Tryd.func16, Tryd.ntmps16
    go_wp2
    go_ret
    exact ⟨rfl, Below.refl _ _⟩
  have e : bf us fs = ufs (prevId us 0) (ffs fs) (us.drop 0) := by unfold bf prevId; rw [if_neg (by omega), if_pos rfl]; rfl
  obtain ⟨R, HR⟩ : ∃ R : Int, Hid (R = bf us fs) := ⟨_, rfl⟩
  rw [← HR.out]
  have HR0 : Hid (R = ufs (prevId us 0) (ffs fs) (us.drop 0)) := by show _ = _; rw [HR.out, e]
  clear e hl hl' HR
  have d8 : decide ((8 : Int) < (m : Int)) = false := decide_eq_false (by omega)
  have d4 : decide ((4 : Int) < (m' : Int)) = false := decide_eq_false (by omega)
  go_enter Tryd.func16, Tryd.ntmps16
  go_wp2
  go_loopw [3] (fun i wr => ∃ k : Nat, k ≤ m ∧ i = .int .i64 k ∧ Hid (R = ufs (prevId us k) (ffs fs) (us.drop k)) ∧ Below w.heap.size w wr) (fun i _ => m - (intOf i).toNat)
  case atStart => exact ⟨0, Nat.zero_le _, rfl, HR0, Below.refl _ _⟩
  case round =>
    obtain ⟨k, hk, rfl, Hk, hbel⟩ := hrel
    obtain ⟨b0, b1, blt⟩ := HB.out.later hbel
    by_cases hlt : k < m
    · have hlt' : (k : Int) < (m : Int) := by omega
      obtain ⟨x, hx⟩ : ∃ x, us[k]? = some x := ⟨_, List.getElem?_eq_getElem (by have := Hl.out; omega)⟩
      obtain ⟨b, off, rfl, hb, hat⟩ := HU.out.at hx
      have cU := l4Unit_c b (off + k * 10) x _ ((hat.later hb hbel).one (Nat.lt_of_lt_of_le hb hbel.size) hx)
      have HS : Hid (R = if (uf x == 0) = false then uf x else if leP (prevId us k) x.c0 = true then 1 else ufs (some x.c0) (ffs fs) (us.drop (k + 1))) := by show _ = _; rw [Hk.out, ufs_step hx]
      have Hx : Hid (us[k]? = some x) := hx
      have Hat : Hid (UAt w b off us) := hat
      clear hx hat
      go_wp2_with fail
      refine cU.mono ?_
      rintro e w1 ⟨rfl, k1⟩
      have hbel1 := hbel.trans (k1.mono hbel.size)
      obtain ⟨b0, b1, blt⟩ := HB.out.later hbel1
      clear cU
      cases hq : uf x == 0
      · have HE : Hid (R = uf x) := by show _ = _; rw [HS.out, if_pos hq]
        have hq' := bne_of hq
        go_wp2
        go_ret
        exact ⟨by rw [HE.out]; rfl, hbel1⟩
      · have hz : uf x = 0 := by simpa using hq
        have hq' : (uf x != 0) = false := by simp only [bne, hq]; rfl
        have HN : Hid (prevId us (k + 1) = some x.c0) := prevId_next Hx.out
        rcases k with _ | k
        · have HE : Hid (R = ufs (prevId us (0 + 1)) (ffs fs) (us.drop (0 + 1))) := by show _ = _; rw [HS.out, if_neg (by rw [hq]; simp), HN.out]; rfl
          go_wp2
          go_quiet (fail)
          go_wp2
          go_roundw
          case rel => exact ⟨0 + 1, by omega, by go_num, HE, hbel1.trans ((below_drewN _ _).mono hbel1.size)⟩
          case measure => simp [intOf]; omega
        · obtain ⟨y, hy⟩ : ∃ y, us[k]? = some y := ⟨_, List.getElem?_eq_getElem (by have := Hl.out; omega)⟩
          have HP : Hid (prevId us (k + 1) = some y.c0) := prevId_next hy
          have a0 := (Hat.out.later hb hbel1).all Hx.out |>.1
          have a1 := (Hat.out.later hb hbel1).all hy |>.1
          clear hy
          cases hd : decide (x.c0 ≤ y.c0)
          · have HE : Hid (R = ufs (prevId us (k + 1 + 1)) (ffs fs) (us.drop (k + 1 + 1))) := by
              show _ = _
              rw [HS.out, if_neg (by rw [hq]; simp), HN.out, HP.out, if_neg (by show ¬ decide (x.c0 ≤ y.c0) = true; rw [hd]; simp)]
            go_wp2
            go_quiet (fail)
            go_wp2
            go_roundw
            case rel => exact ⟨k + 1 + 1, by omega, by go_num, HE, hbel1.trans ((below_drewN _ _).mono hbel1.size)⟩
            case measure => simp [intOf]; omega
          · have HE : Hid (R = 1) := by
              show _ = _
              rw [HS.out, if_neg (by rw [hq]; simp), HP.out, if_pos (show leP (some y.c0) x.c0 = true from hd)]
            go_wp2
            go_quiet (fail)
            go_wp2
            go_ret
            exact ⟨by rw [HE.out]; rfl, hbel1.trans ((below_drewN _ _).mono hbel1.size)⟩
    · obtain rfl : k = m := by omega
      have HE : Hid (R = ffs (fs.drop 0)) := by show _ = _; rw [Hk.out, List.drop_of_length_le (by have := Hl.out; omega)]; rfl
      clear Hk
      go_wp2
      go_loopw [5] (fun i wr => ∃ k : Nat, k ≤ m' ∧ i = .int .i64 k ∧ Hid (R = ffs (fs.drop k)) ∧ Below w.heap.size w wr) (fun i _ => m' - (intOf i).toNat)
      case atStart => exact ⟨0, Nat.zero_le _, rfl, HE, hbel⟩
      case round =>
        obtain ⟨j, hj, rfl, Hj, hbel⟩ := hrel
        obtain ⟨b0, b1, blt⟩ := HB.out.later hbel
        by_cases hlt : j < m'
        · have hlt' : (j : Int) < (m' : Int) := by omega
          obtain ⟨x, hx⟩ : ∃ x, fs[j]? = some x := ⟨_, List.getElem?_eq_getElem (by have := Hl'.out; omega)⟩
          obtain ⟨b, off, rfl, hb, hat⟩ := HF.out.at hx
          have HS : Hid (R = if ff x = false then 3 else ffs (fs.drop (j + 1))) := by show _ = _; rw [Hj.out, ffs_step hx]
          obtain ⟨x0, x1, x2, xl⟩ := (hat.later hb hbel).one (Nat.lt_of_lt_of_le hb hbel.size) hx
          have P0 := fun n => Later.cell blt b1 n
          have X0 := fun n => Later.cell xl x0 n
          have X1 := fun n => Later.cell xl x1 n
          have X2 := fun n => Later.cell xl x2 n
          have q1 := fun w => l1Tile_c x.c0 x.c1 w
          have q2 := fun w => l1In_c x.c2 0 10000 w
          clear hx hat
          have hff : (tile x.c0 x.c1 = false ∧ ff x = false) ∨ (tile x.c0 x.c1 = true ∧ inb x.c2 0 10000 = false ∧ ff x = false) ∨ (tile x.c0 x.c1 = true ∧ inb x.c2 0 10000 = true ∧ ff x = true) := by
            unfold ff; cases tile x.c0 x.c1 <;> cases inb x.c2 0 10000 <;> simp
          rcases hff with ⟨e1, ef⟩ | ⟨e1, e2, ef⟩ | ⟨e1, e2, ef⟩
          · have HE : Hid (R = 3) := by show _ = _; rw [HS.out, if_pos ef]
            rw [e1] at q1
            go_wp2_with fail
            refine wp_region_later (by kernel_rfl) (by kernel_rfl) (fun hne => ?_)
            repeat (go_big_quiet_step (first | (go_at_call 34; exact Later.call0 (q1 _)) | (go_at_call 35; exact Later.call0 (q2 _))))
            refine wpQuiet_nil ?_
            rintro _ ⟨nn, rfl⟩
            have hb2 := hbel.trans (nn.bel.mono hbel.size)
            clear P0 X0 X1 X2 hne
            go_wp2_with fail
            go_ret
            exact ⟨by rw [HE.out]; rfl, hb2⟩
          · have HE : Hid (R = 3) := by show _ = _; rw [HS.out, if_pos ef]
            rw [e1] at q1
            rw [e2] at q2
            go_wp2_with fail
            refine wp_region_later (by kernel_rfl) (by kernel_rfl) (fun hne => ?_)
            repeat (go_big_quiet_step (first | (go_at_call 34; exact Later.call0 (q1 _)) | (go_at_call 35; exact Later.call0 (q2 _))))
            refine wpQuiet_nil ?_
            rintro _ ⟨nn, rfl⟩
            have hb2 := hbel.trans (nn.bel.mono hbel.size)
            clear P0 X0 X1 X2 hne
            go_wp2_with fail
            go_ret
            exact ⟨by rw [HE.out]; rfl, hb2⟩
          · have HE : Hid (R = ffs (fs.drop (j + 1))) := by show _ = _; rw [HS.out, if_neg (by rw [ef]; simp)]
            rw [e1] at q1
            rw [e2] at q2
            go_wp2_with fail
            refine wp_region_later (by kernel_rfl) (by kernel_rfl) (fun hne => ?_)
            repeat (go_big_quiet_step (first | (go_at_call 34; exact Later.call0 (q1 _)) | (go_at_call 35; exact Later.call0 (q2 _))))
            refine wpQuiet_nil ?_
            rintro _ ⟨nn, rfl⟩
            have hb2 := hbel.trans (nn.bel.mono hbel.size)
            clear P0 X0 X1 X2 hne
            go_wp2_with fail
            go_roundw
            case rel => exact ⟨j + 1, by omega, by go_num, HE, hb2⟩
            case measure => simp [intOf]; omega
        · obtain rfl : j = m' := by omega
          have HE : Hid (R = 0) := by show _ = _; rw [Hj.out, List.drop_of_length_le (by have := Hl'.out; omega)]; rfl
          go_wp2
          go_ret
          exact ⟨by rw [HE.out]; rfl, hbel⟩
end Go.Proofs.YtepjkcfheejlbaaDoor
end

/- OwnRows -/
/- Slices of units and of fields in memory of a call's own. No condition. -/
section
namespace Go.Proofs.YtepjkcfheejlbaaDoor
open Go.ChangeShapes Go.WideShapes Go.ChangeAt Go.RowKit
set_option linter.unusedVariables false

def flatU : List K10 → List Value
  | [] => []
  | x :: l => x.v.toList ++ flatU l
theorem flatU_len : ∀ l : List K10, (flatU l).length = l.length * 10
  | [] => rfl
  | x :: l => by unfold flatU; rw [List.length_append, flatU_len l]; show 10 + _ = (l.length + 1) * 10; omega
theorem flatU_app : ∀ l l' : List K10, flatU (l ++ l') = flatU l ++ flatU l'
  | [], _ => rfl
  | x :: l, l' => by show x.v.toList ++ flatU (l ++ l') = (x.v.toList ++ flatU l) ++ flatU l'; rw [flatU_app l l', List.append_assoc]
theorem flatU_get : ∀ (l : List K10) (i : Nat) (x : K10) (f : Nat), l[i]? = some x → f < 10 → (flatU l)[i * 10 + f]? = some (.int .i64 (x.f f))
  | [], i, x, f, h, _ => by simp at h
  | y :: l, 0, x, f, h, hf => by
    have e : y = x := by simpa using h
    subst e
    unfold flatU
    rw [Nat.zero_mul, Nat.zero_add, List.getElem?_append_left (by show f < 10; exact hf)]
    have h6 : f = 0 ∨ f = 1 ∨ f = 2 ∨ f = 3 ∨ f = 4 ∨ f = 5 ∨ f = 6 ∨ f = 7 ∨ f = 8 ∨ f = 9 := by omega
    rcases h6 with rfl | rfl | rfl | rfl | rfl | rfl | rfl | rfl | rfl | rfl <;> rfl
  | y :: l, i + 1, x, f, h, hf => by
    unfold flatU
    have e : (y.v.toList).length = 10 := rfl
    rw [List.getElem?_append_right (by rw [e]; omega), e, show (i + 1) * 10 + f - 10 = i * 10 + f from by omega]
    exact flatU_get l i x f (by simpa using h) hf
theorem flatU_one : ∀ (l : List K10), ∀ u ∈ flatU l, u.oneCell' = true
  | [], u, h => by cases h
  | x :: l, u, h => by
    unfold flatU at h
    rcases List.mem_append.1 h with h | h
    · simp at h
      rcases h with rfl | rfl | rfl | rfl | rfl | rfl | rfl | rfl | rfl | rfl <;> rfl
    · exact flatU_one l u h
/- a slice of such structs, made behind base -/
def SlU (w : World) (base : Nat) (v : Value) (l : List K10) : Prop := w.ownsRow base 37 10 v l.length (flatU l)
theorem SlU.of {w : World} {base : Nat} {v : Value} {l : List K10} (h : w.ownsRow base 37 10 v l.length (flatU l)) : SlU w base v l := h
theorem SlU.below {w w' : World} {base : Nat} {v : Value} {l : List K10} (h : SlU w base v l) (hb : Below w.heap.size w w') : SlU w' base v l := by
  rcases h with ⟨h1, h2⟩
  refine ⟨h1, ?_⟩
  rcases h2 with h2 | ⟨g, cap, cur, hv, hbb, hg, r⟩
  · exact .inl h2
  · exact .inr ⟨g, cap, cur, hv, hbb, (hb.block g (Array.getElem?_eq_some_iff.1 hg).1).trans hg, r⟩
theorem SlU.of_block {w w' : World} {base : Nat} {v : Value} {l : List K10} (h : SlU w base v l) (he : ∀ b, v.ownBlock = some b → w'.heap[b]? = w.heap[b]?) : SlU w' base v l := by
  rcases h with ⟨h1, h2⟩
  refine ⟨h1, ?_⟩
  rcases h2 with h2 | ⟨g, cap, cur, hv, hbb, hg, r⟩
  · exact .inl h2
  · exact .inr ⟨g, cap, cur, hv, hbb, (he g (by rw [hv]; rfl)).trans hg, r⟩
theorem SlU.lt {w : World} {base : Nat} {v : Value} {l : List K10} (s : SlU w base v l) : ∀ b, v.ownBlock = some b → base ≤ b ∧ b < w.heap.size := by
  intro b hb
  rcases s.2 with ⟨h1, h2⟩ | ⟨g, cap, cur, hv, hbb, hg, r⟩
  · rw [h1] at hb; cases hb
  · rw [hv] at hb
    have : g = b := Option.some.inj hb
    subst this
    exact ⟨hbb, (Array.getElem?_eq_some_iff.1 hg).1⟩
theorem SlU.form {w : World} {base : Nat} {v : Value} {l : List K10} (h : SlU w base v l) : ∃ a cap, v = .slice a l.length cap ∧ ArgU w a l := by
  rcases h.2 with ⟨h1, h2⟩ | ⟨g, cap, cur, hv, hbb, hg, h4, h5, h6, h7⟩
  · exact ⟨none, 0, by rw [h1, h2], .inl (List.eq_nil_of_length_eq_zero h2)⟩
  · refine ⟨_, cap, hv, .inr ⟨g, 0, rfl, (Array.getElem?_eq_some_iff.1 hg).1, fun i x hi f hf => ?_⟩⟩
    have e := flatU_get l i x f hi hf
    have hil : i < l.length := (List.getElem?_eq_some_iff.1 hi).1
    rw [← h7, List.getElem?_take, if_pos (by omega)] at e
    simp [World.cell?, hg]
    simpa using e
/- the whole block of such a slice as a row -/
theorem SlU.row {w : World} {base : Nat} {v : Value} {l : List K10} (h : SlU w base v l) (hne : l ≠ []) : ∃ g cap N f, v = .slice (some ⟨g, 0, none⟩) l.length cap ∧ base ≤ g ∧ l.length * 10 ≤ N ∧ w.rowIs g 37 N f ∧ cap ≤ maxLen ∧ l.length ≤ cap ∧ N = cap * 10 := by
  rcases h.2 with ⟨h1, h2⟩ | ⟨g, cap, cur, hv, hbb, hg, h4, h5, h6, h7⟩
  · exact absurd (List.eq_nil_of_length_eq_zero h2) hne
  · exact ⟨g, cap, cap * 10, fun i => cur[i]!, hv, hbb, Nat.mul_le_mul_right _ h4, ⟨cur, hg, h6, fun i hi => by show cur[i]? = some cur[i]!; rw [getElem!_pos cur i (by omega)]; exact Array.getElem?_eq_getElem (by omega)⟩, h5, h4, rfl⟩
def flatF : List K3 → List Value
  | [] => []
  | x :: l => x.v.toList ++ flatF l
theorem flatF_len : ∀ l : List K3, (flatF l).length = l.length * 3
  | [] => rfl
  | x :: l => by unfold flatF; rw [List.length_append, flatF_len l]; show 3 + _ = (l.length + 1) * 3; omega
theorem flatF_app : ∀ l l' : List K3, flatF (l ++ l') = flatF l ++ flatF l'
  | [], _ => rfl
  | x :: l, l' => by show x.v.toList ++ flatF (l ++ l') = (x.v.toList ++ flatF l) ++ flatF l'; rw [flatF_app l l', List.append_assoc]
theorem flatF_get : ∀ (l : List K3) (i : Nat) (x : K3) (f : Nat), l[i]? = some x → f < 3 → (flatF l)[i * 3 + f]? = some (.int .i64 (x.f f))
  | [], i, x, f, h, _ => by simp at h
  | y :: l, 0, x, f, h, hf => by
    have e : y = x := by simpa using h
    subst e
    unfold flatF
    rw [Nat.zero_mul, Nat.zero_add, List.getElem?_append_left (by show f < 3; exact hf)]
    have h6 : f = 0 ∨ f = 1 ∨ f = 2 := by omega
    rcases h6 with rfl | rfl | rfl <;> rfl
  | y :: l, i + 1, x, f, h, hf => by
    unfold flatF
    have e : (y.v.toList).length = 3 := rfl
    rw [List.getElem?_append_right (by rw [e]; omega), e, show (i + 1) * 3 + f - 3 = i * 3 + f from by omega]
    exact flatF_get l i x f (by simpa using h) hf
theorem flatF_one : ∀ (l : List K3), ∀ u ∈ flatF l, u.oneCell' = true
  | [], u, h => by cases h
  | x :: l, u, h => by
    unfold flatF at h
    rcases List.mem_append.1 h with h | h
    · simp at h
      rcases h with rfl | rfl | rfl <;> rfl
    · exact flatF_one l u h
/- a slice of such structs, made behind base -/
def SlF (w : World) (base : Nat) (v : Value) (l : List K3) : Prop := w.ownsRow base 53 3 v l.length (flatF l)
theorem SlF.of {w : World} {base : Nat} {v : Value} {l : List K3} (h : w.ownsRow base 53 3 v l.length (flatF l)) : SlF w base v l := h
theorem SlF.below {w w' : World} {base : Nat} {v : Value} {l : List K3} (h : SlF w base v l) (hb : Below w.heap.size w w') : SlF w' base v l := by
  rcases h with ⟨h1, h2⟩
  refine ⟨h1, ?_⟩
  rcases h2 with h2 | ⟨g, cap, cur, hv, hbb, hg, r⟩
  · exact .inl h2
  · exact .inr ⟨g, cap, cur, hv, hbb, (hb.block g (Array.getElem?_eq_some_iff.1 hg).1).trans hg, r⟩
theorem SlF.of_block {w w' : World} {base : Nat} {v : Value} {l : List K3} (h : SlF w base v l) (he : ∀ b, v.ownBlock = some b → w'.heap[b]? = w.heap[b]?) : SlF w' base v l := by
  rcases h with ⟨h1, h2⟩
  refine ⟨h1, ?_⟩
  rcases h2 with h2 | ⟨g, cap, cur, hv, hbb, hg, r⟩
  · exact .inl h2
  · exact .inr ⟨g, cap, cur, hv, hbb, (he g (by rw [hv]; rfl)).trans hg, r⟩
theorem SlF.lt {w : World} {base : Nat} {v : Value} {l : List K3} (s : SlF w base v l) : ∀ b, v.ownBlock = some b → base ≤ b ∧ b < w.heap.size := by
  intro b hb
  rcases s.2 with ⟨h1, h2⟩ | ⟨g, cap, cur, hv, hbb, hg, r⟩
  · rw [h1] at hb; cases hb
  · rw [hv] at hb
    have : g = b := Option.some.inj hb
    subst this
    exact ⟨hbb, (Array.getElem?_eq_some_iff.1 hg).1⟩
theorem SlF.form {w : World} {base : Nat} {v : Value} {l : List K3} (h : SlF w base v l) : ∃ a cap, v = .slice a l.length cap ∧ ArgF w a l := by
  rcases h.2 with ⟨h1, h2⟩ | ⟨g, cap, cur, hv, hbb, hg, h4, h5, h6, h7⟩
  · exact ⟨none, 0, by rw [h1, h2], .inl (List.eq_nil_of_length_eq_zero h2)⟩
  · refine ⟨_, cap, hv, .inr ⟨g, 0, rfl, (Array.getElem?_eq_some_iff.1 hg).1, fun i x hi f hf => ?_⟩⟩
    have e := flatF_get l i x f hi hf
    have hil : i < l.length := (List.getElem?_eq_some_iff.1 hi).1
    rw [← h7, List.getElem?_take, if_pos (by omega)] at e
    simp [World.cell?, hg]
    simpa using e
/- the whole block of such a slice as a row -/
theorem SlF.row {w : World} {base : Nat} {v : Value} {l : List K3} (h : SlF w base v l) (hne : l ≠ []) : ∃ g cap N f, v = .slice (some ⟨g, 0, none⟩) l.length cap ∧ base ≤ g ∧ l.length * 3 ≤ N ∧ w.rowIs g 53 N f ∧ cap ≤ maxLen ∧ l.length ≤ cap ∧ N = cap * 3 := by
  rcases h.2 with ⟨h1, h2⟩ | ⟨g, cap, cur, hv, hbb, hg, h4, h5, h6, h7⟩
  · exact absurd (List.eq_nil_of_length_eq_zero h2) hne
  · exact ⟨g, cap, cap * 3, fun i => cur[i]!, hv, hbb, Nat.mul_le_mul_right _ h4, ⟨cur, hg, h6, fun i hi => by show cur[i]? = some cur[i]!; rw [getElem!_pos cur i (by omega)]; exact Array.getElem?_eq_getElem (by omega)⟩, h5, h4, rfl⟩
end Go.Proofs.YtepjkcfheejlbaaDoor
end

/- Lists -/
/- Lists of numbers in memory of their own: a block whose first cells are the list. No condition. -/
section
namespace Go.Proofs.YtepjkcfheejlbaaDoor
open Go.ChangeShapes Go.WideShapes Go.ChangeAt Go.RowKit
set_option linter.unusedVariables false

/- block g is a row of cap cells whose first ones are the numbers l -/
def Lst (w : World) (g cap : Nat) (l : List Int) : Prop :=
  ∃ cur : Array Value, w.heap[g]? = some (.cells cur 2 (0, 0)) ∧ l.length ≤ cap ∧ cap ≤ maxLen ∧ cur.size = cap ∧ cur.toList.take l.length = l.map (Value.int .i64)

theorem Lst.lt {w : World} {g cap : Nat} {l : List Int} (h : Lst w g cap l) : g < w.heap.size := by
  obtain ⟨cur, hg, _⟩ := h
  exact (Array.getElem?_eq_some_iff.1 hg).1
theorem Lst.cell {w : World} {g cap : Nat} {l : List Int} (h : Lst w g cap l) {i : Nat} {x : Int} (hi : l[i]? = some x) : w.cell? ⟨g, i, none⟩ = some (.int .i64 x) := by
  obtain ⟨cur, hg, hl, _, hs, ht⟩ := h
  have h1 : (l.map (Value.int .i64))[i]? = some (.int .i64 x) := by simp [hi]
  rw [← ht, List.getElem?_take] at h1
  split at h1
  · simp [World.cell?, hg]; simpa using h1
  · cases h1
theorem Lst.frozen {w : World} {g cap : Nat} {l : List Int} (h : Lst w g cap l) (i : Nat) : w.frozen? ⟨g, i, none⟩ = false := by
  obtain ⟨cur, hg, _⟩ := h
  simp [World.frozen?, hg]
theorem Lst.of_block {w w' : World} {g cap : Nat} {l : List Int} (h : Lst w g cap l) (e : w'.heap[g]? = w.heap[g]?) : Lst w' g cap l := by
  obtain ⟨cur, hg, r⟩ := h
  exact ⟨cur, e.trans hg, r⟩
theorem Lst.below {w w' : World} {g cap : Nat} {l : List Int} (h : Lst w g cap l) (hb : Below w.heap.size w w') : Lst w' g cap l := h.of_block (hb.block g h.lt)
theorem Lst.alloc {w : World} {g cap : Nat} {l : List Int} (h : Lst w g cap l) (o : Obj) : Lst (w.alloc o) g cap l := h.below ((Below.refl _ _).alloc (Nat.le_refl _) o)
theorem Lst.setOther {w : World} {g cap : Nat} {l : List Int} (h : Lst w g cap l) {a : Addr} (ha : g ≠ a.block) (v : Value) : Lst (w.setCell a v) g cap l := h.of_block (Below.heap_setCell _ _ _ _ ha)
theorem Lst.drew {w : World} {g cap : Nat} {l : List Int} (h : Lst w g cap l) : Lst w.drew g cap l := h
theorem Lst.set {w : World} {g cap : Nat} {l : List Int} (h : Lst w g cap l) (i : Nat) (x : Int) : Lst (w.setCell ⟨g, i, none⟩ (.int .i64 x)) g cap (l.set i x) := by
  obtain ⟨cur, hg, hl, hm, hs, ht⟩ := h
  refine ⟨cur.setIfInBounds i (.int .i64 x), ?_, by simpa using hl, hm, by simpa using hs, ?_⟩
  · simp [World.setCell, Array.getElem?_modify, hg]
  · rw [List.length_set, List.map_set, ← ht]
    simp [List.take_set]
theorem Lst.of_owns {w : World} {base : Nat} {v : Value} {l : List Int} (h : w.ownsRow base 2 1 v l.length (l.map (Value.int .i64))) (hne : 0 < l.length) :
    ∃ g cap, v = .slice (some ⟨g, 0, none⟩) l.length cap ∧ base ≤ g ∧ Lst w g cap l := by
  rcases h.2 with ⟨_, h0⟩ | ⟨g, cap, cur, hv, hb, hg, hc, hm, hs, ht⟩
  · omega
  · exact ⟨g, cap, hv, hb, cur, hg, hc, hm, by simpa using hs, by simpa using ht⟩
theorem Lst.of_row {w : World} {g n : Nat} {l : List Int} (h : w.rowIs g 2 n (fun i => .int .i64 (l.getD i 0))) (hn : l.length = n) (hm : n ≤ maxLen) : Lst w g n l := by
  obtain ⟨cur, hg, hs, hf⟩ := h
  refine ⟨cur, hg, by omega, hm, hs, ?_⟩
  apply List.ext_getElem?
  intro i
  rw [List.getElem?_take]
  by_cases hi : i < l.length
  · rw [if_pos hi]
    have := hf i (by omega)
    simp [List.getElem?_eq_getElem hi] at this ⊢
    simpa using this
  · rw [if_neg hi, List.getElem?_eq_none (by simpa using Nat.le_of_not_lt hi)]
theorem bcellL {W w1 : World} (hb : Below W.heap.size W w1) : (∀ b o, b < W.heap.size → w1.cell? ⟨b, o, none⟩ = W.cell? ⟨b, o, none⟩) ∧ (∀ b o, b < W.heap.size → w1.frozen? ⟨b, o, none⟩ = W.frozen? ⟨b, o, none⟩) :=
  ⟨fun b o h => hb.cell (p := ⟨b, o, none⟩) h, fun b o h => hb.frozen (p := ⟨b, o, none⟩) h⟩
theorem one_new (w : World) (v : Value) (t : TypeId) : ∀ j u, [v][j]? = some u → (w.alloc (.cells #[v] t)).cell? ((⟨w.heap.size, 0, none⟩ : Addr).add j) = some u := by
  intro j u hj
  match j, hj with
  | 0, hj => simp at hj; subst hj; simp [Addr.add]
theorem one_cell (k : IntKind) (x : Int) : ∀ u ∈ [Value.int k x], u.oneCell' = true := by
  intro u hu; simp at hu; subst hu; rfl
theorem info64 : (Tryd.prog.info? 2).map (fun i => (i.zero, i.size, i.bytes)) = some (some (.int .i64 0), 1, 8) := by kernel_rfl
end Go.Proofs.YtepjkcfheejlbaaDoor
end
