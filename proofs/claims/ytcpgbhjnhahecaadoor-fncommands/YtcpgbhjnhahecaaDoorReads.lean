/- Plain functions of chapter 3: what is read of bytes. No condition. -/
import Derived.Test.YtcpgbhjnhahecaaDoorCmds2
namespace Go.Proofs.YtcpgbhjnhahecaaDoor.Cm

def kd (l : List Int) : Int := l.getD 1 0
def rcl (l : List Int) : Int := l.getD 0 0
def rsq (l : List Int) : Int := 256 * l.getD 2 0 + l.getD 3 0
def rpa (l : List Int) (i : Nat) : Int := if i < pc (kd l) then 65536 * l.getD (4 + 3 * i) 0 + 256 * l.getD (5 + 3 * i) 0 + l.getD (6 + 3 * i) 0 else 0
def rflt (l : List Int) : Int := flt (rcl l) (rsq l) (kd l) (rpa l 0) (rpa l 1) (rpa l 2)
def rpk (l : List Int) : List Int := pk (rcl l) (rsq l) (kd l) (rpa l 0) (rpa l 1) (rpa l 2)
/- the kind and the length fit -/
def rlen (l : List Int) : Bool := decide (6 ≤ l.length) && inb (kd l) 1 11 && decide (l.length = 6 + 3 * pc (kd l))
def rdB (l : List Int) : Bool := rlen l && (rflt l == 0) && decide (rpk l = l)
def Byt (l : List Int) : Prop := ∀ x ∈ l, 0 ≤ x ∧ x ≤ 255
theorem rlen_i {l : List Int} (h : rlen l = true) : 6 ≤ l.length ∧ 1 ≤ kd l ∧ kd l ≤ 11 ∧ l.length = 6 + 3 * pc (kd l) := by
  unfold rlen at h
  rw [Bool.and_eq_true, Bool.and_eq_true] at h
  have := inb_i h.1.2
  exact ⟨of_decide_eq_true h.1.1, this.1, this.2, of_decide_eq_true h.2⟩
theorem rlen_n {l : List Int} (h : rlen l = false) : l.length < 4 ∨ (4 ≤ l.length ∧ inb (kd l) 1 11 = false) ∨ (4 ≤ l.length ∧ inb (kd l) 1 11 = true ∧ l.length ≠ 6 + 3 * pc (kd l)) := by
  by_cases h1 : l.length < 4
  · exact .inl h1
  · cases h2 : inb (kd l) 1 11
    · exact .inr (.inl ⟨by omega, rfl⟩)
    · refine .inr (.inr ⟨by omega, rfl, fun e => ?_⟩)
      have : rlen l = true := by unfold rlen; rw [h2, decide_eq_true (by omega), decide_eq_true e]; rfl
      rw [this] at h; cases h
theorem bytes_p2 {x y : Int} (y0 : 0 ≤ y) (y1 : y ≤ 255) : (256 * x + y) / 256 = x ∧ (256 * x + y) % 256 = y := by omega
theorem bytes_p3 {x y z : Int} (y0 : 0 ≤ y) (y1 : y ≤ 255) (z0 : 0 ≤ z) (z1 : z ≤ 255) : p3 (65536 * x + 256 * y + z) = [x, y, z] := by
  unfold p3
  rw [show (65536 * x + 256 * y + z) / 65536 = x from by omega, show (65536 * x + 256 * y + z) / 256 % 256 = y from by omega, show (65536 * x + 256 * y + z) % 256 = z from by omega]
theorem getD_bd {l : List Int} (hb : Byt l) (i : Nat) : 0 ≤ l.getD i 0 ∧ l.getD i 0 ≤ 255 := by
  rw [List.getD_eq_getElem?_getD]
  cases h : l[i]? with
  | none => simp
  | some x => simpa using hb x (List.mem_of_getElem? h)
theorem take_getD : ∀ (n : Nat) (l : List Int), n ≤ l.length → l.take n = (List.range n).map fun i => l.getD i 0 := by
  intro n l h
  apply List.ext_getElem?
  intro i
  rw [List.getElem?_take, List.getElem?_map]
  by_cases hi : i < n
  · rw [if_pos hi, List.getElem?_range hi]
    simp [List.getElem?_eq_getElem (show i < l.length by omega)]
  · rw [if_neg hi, List.getElem?_eq_none (by simp; omega)]
    rfl
theorem body_take {l : List Int} (hb : Byt l) (h : rlen l = true) : body (rcl l) (rsq l) (kd l) (rpa l 0) (rpa l 1) (rpa l 2) = l.take (4 + 3 * pc (kd l)) := by
  obtain ⟨h1, h2, h3, h4⟩ := rlen_i h
  have e2 := bytes_p2 (x := l.getD 2 0) (getD_bd hb 3).1 (getD_bd hb 3).2
  have hh : hd (rcl l) (rsq l) (kd l) = [l.getD 0 0, l.getD 1 0, l.getD 2 0, l.getD 3 0] := by
    unfold hd rsq; rw [e2.1, e2.2]; rfl
  have hp : ∀ i, i < pc (kd l) → p3 (rpa l i) = [l.getD (4 + 3 * i) 0, l.getD (5 + 3 * i) 0, l.getD (6 + 3 * i) 0] := fun i hi => by
    unfold rpa; rw [if_pos hi]
    exact bytes_p3 (getD_bd hb _).1 (getD_bd hb _).2 (getD_bd hb _).1 (getD_bd hb _).2
  unfold body
  rw [hh, take_getD _ l (by omega)]
  rcases pc_cases (kd l) with hn | hn | hn | hn
  all_goals rw [hn] at hp ⊢
  · rfl
  · rw [ps_1, hp 0 (by omega)]; rfl
  · rw [ps_2, hp 0 (by omega), hp 1 (by omega)]; rfl
  · rw [ps_3, hp 0 (by omega), hp 1 (by omega), hp 2 (by omega)]; rfl
theorem drop_two {l : List Int} {N : Nat} (h : l.length = N + 2) : l.drop N = [l.getD N 0, l.getD (N + 1) 0] := by
  apply List.ext_getElem?
  intro i
  rw [List.getElem?_drop]
  match i with
  | 0 => simp [List.getElem?_eq_getElem (show N < l.length by omega)]
  | 1 => simp [List.getElem?_eq_getElem (show N + 1 < l.length by omega)]
  | i + 2 => rw [List.getElem?_eq_none (by omega)]; rfl
theorem rpk_iff {l : List Int} (hb : Byt l) (h : rlen l = true) : rpk l = l ↔ 256 * l.getD (4 + 3 * pc (kd l)) 0 + l.getD (5 + 3 * pc (kd l)) 0 = sm (l.take (4 + 3 * pc (kd l))) := by
  obtain ⟨h1, h2, h3, h4⟩ := rlen_i h
  unfold rpk pk
  rw [body_take hb h]
  have hs := sm_bd (l.take (4 + 3 * pc (kd l)))
  have hd := drop_two (l := l) (N := 4 + 3 * pc (kd l)) (by omega)
  have g1 := getD_bd hb (4 + 3 * pc (kd l))
  have g2 := getD_bd hb (5 + 3 * pc (kd l))
  rw [show 4 + 3 * pc (kd l) + 1 = 5 + 3 * pc (kd l) from by omega] at hd
  generalize sm (l.take (4 + 3 * pc (kd l))) = S at hs ⊢
  constructor
  · intro e
    have e2 : l.take (4 + 3 * pc (kd l)) ++ p2 S = l.take (4 + 3 * pc (kd l)) ++ l.drop (4 + 3 * pc (kd l)) := by rw [List.take_append_drop]; exact e
    have e3 := List.append_cancel_left e2
    rw [hd] at e3
    simp only [p2, List.cons.injEq, and_true] at e3
    omega
  · intro e
    have e3 : p2 S = l.drop (4 + 3 * pc (kd l)) := by
      rw [hd]; unfold p2
      rw [show S / 256 = l.getD (4 + 3 * pc (kd l)) 0 from by omega, show S % 256 = l.getD (5 + 3 * pc (kd l)) 0 from by omega]
    rw [e3, List.take_append_drop]
end Go.Proofs.YtcpgbhjnhahecaaDoor.Cm
