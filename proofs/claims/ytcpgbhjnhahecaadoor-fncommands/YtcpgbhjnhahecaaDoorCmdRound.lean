/- What is packed is read back, and one byte of it that was turned is told. No condition. -/
import Derived.Test.YtcpgbhjnhahecaaDoorReads
import Derived.Laws.BitsAllLaws
namespace Go.Proofs.YtcpgbhjnhahecaaDoor.Cm
set_option linter.unusedVariables false

theorem stp_inj {s t b : Int} (h0 : 0 ≤ s) (h1 : s < 65521) (h2 : 0 ≤ t) (h3 : t < 65521) (h : stp s b = stp t b) : s = t := by unfold stp at h; omega
theorem stp_byte {s x z : Int} (x0 : 0 ≤ x) (x1 : x ≤ 255) (z0 : 0 ≤ z) (z1 : z ≤ 255) (h : stp s x = stp s z) : x = z := by unfold stp at h; omega
theorem stp_bd (s b : Int) : 0 ≤ stp s b ∧ stp s b < 65521 := ⟨Int.emod_nonneg _ (by omega), Int.emod_lt_of_pos _ (by omega)⟩
theorem fold_inj : ∀ (l : List Int) (s t : Int), 0 ≤ s → s < 65521 → 0 ≤ t → t < 65521 → l.foldl stp s = l.foldl stp t → s = t
  | [], s, t, _, _, _, _, h => h
  | b :: l, s, t, h0, h1, h2, h3, h => stp_inj h0 h1 h2 h3 (fold_inj l (stp s b) (stp t b) (stp_bd s b).1 (stp_bd s b).2 (stp_bd t b).1 (stp_bd t b).2 h)
theorem fold_set : ∀ (l : List Int) (s : Int) (i : Nat) (x z : Int), 0 ≤ x → x ≤ 255 → 0 ≤ z → z ≤ 255 → l[i]? = some x → l.foldl stp s = (l.set i z).foldl stp s → x = z
  | [], s, i, x, z, _, _, _, _, h, _ => by cases h
  | b :: l, s, 0, x, z, h0, h1, h2, h3, h, e => by
    cases h
    exact stp_byte h0 h1 h2 h3 (fold_inj l _ _ (stp_bd s _).1 (stp_bd s _).2 (stp_bd s z).1 (stp_bd s z).2 e)
  | b :: l, s, i + 1, x, z, h0, h1, h2, h3, h, e => fold_set l (stp s b) i x z h0 h1 h2 h3 h e
theorem set_byt {l : List Int} (hb : Byt l) {i : Nat} {z : Int} (z0 : 0 ≤ z) (z1 : z ≤ 255) : Byt (l.set i z) := fun y hy => by
  rcases List.mem_or_eq_of_mem_set hy with h | h
  · exact hb y h
  · rw [h]; exact ⟨z0, z1⟩
theorem rdB_i {l : List Int} (h : rdB l = true) : rlen l = true ∧ rflt l = 0 ∧ rpk l = l := by
  unfold rdB at h
  rw [Bool.and_eq_true, Bool.and_eq_true] at h
  exact ⟨h.1.1, by simpa using h.1.2, of_decide_eq_true h.2⟩
/- one byte turned: nothing is read -/
theorem turned_no {l : List Int} (hb : Byt l) (h : rdB l = true) {i : Nat} {x z : Int} (hi : l[i]? = some x) (z0 : 0 ≤ z) (z1 : z ≤ 255) (hne : x ≠ z) : rdB (l.set i z) = false := by
  cases h' : rdB (l.set i z)
  · rfl
  · exfalso
    have hb' := set_byt hb (i := i) z0 z1
    obtain ⟨r1, _, k1⟩ := rdB_i h
    obtain ⟨r2, _, k2⟩ := rdB_i h'
    have e1 := (rpk_iff hb r1).1 k1
    have e2 := (rpk_iff hb' r2).1 k2
    obtain ⟨_, _, _, n1⟩ := rlen_i r1
    obtain ⟨_, _, _, n2⟩ := rlen_i r2
    rw [List.length_set] at n2
    have hN : pc (kd (l.set i z)) = pc (kd l) := by omega
    rw [hN] at e2
    have hx := hb x (List.mem_of_getElem? hi)
    have hil : i < l.length := (List.getElem?_eq_some_iff.1 hi).1
    by_cases hlt : i < 4 + 3 * pc (kd l)
    · have a1 : (l.set i z).getD (4 + 3 * pc (kd l)) 0 = l.getD (4 + 3 * pc (kd l)) 0 := by rw [List.getD_eq_getElem?_getD, List.getD_eq_getElem?_getD, List.getElem?_set_ne (by omega)]
      have a2 : (l.set i z).getD (5 + 3 * pc (kd l)) 0 = l.getD (5 + 3 * pc (kd l)) 0 := by rw [List.getD_eq_getElem?_getD, List.getD_eq_getElem?_getD, List.getElem?_set_ne (by omega)]
      rw [a1, a2] at e2
      have e3 : sm (l.take (4 + 3 * pc (kd l))) = sm ((l.take (4 + 3 * pc (kd l))).set i z) := by rw [← List.take_set, ← e1, ← e2]
      exact hne (fold_set _ 29 i x z hx.1 hx.2 z0 z1 (by rw [List.getElem?_take, if_pos hlt]; exact hi) e3)
    · have a0 : (l.set i z).take (4 + 3 * pc (kd l)) = l.take (4 + 3 * pc (kd l)) := by rw [List.take_set, List.set_eq_of_length_le (by rw [List.length_take]; omega)]
      rw [a0, ← e1] at e2
      have g1 := getD_bd hb (4 + 3 * pc (kd l))
      have g2 := getD_bd hb (5 + 3 * pc (kd l))
      by_cases hi4 : i = 4 + 3 * pc (kd l)
      · have a1 : (l.set i z).getD (4 + 3 * pc (kd l)) 0 = z := by rw [← hi4, List.getD_eq_getElem?_getD, List.getElem?_set_self hil]; rfl
        have a2 : (l.set i z).getD (5 + 3 * pc (kd l)) 0 = l.getD (5 + 3 * pc (kd l)) 0 := by rw [List.getD_eq_getElem?_getD, List.getD_eq_getElem?_getD, List.getElem?_set_ne (by omega)]
        have a3 : l.getD (4 + 3 * pc (kd l)) 0 = x := by rw [← hi4, List.getD_eq_getElem?_getD, hi]; rfl
        rw [a1, a2, a3] at e2
        omega
      · have hi5 : i = 5 + 3 * pc (kd l) := by omega
        have a1 : (l.set i z).getD (5 + 3 * pc (kd l)) 0 = z := by rw [← hi5, List.getD_eq_getElem?_getD, List.getElem?_set_self hil]; rfl
        have a2 : (l.set i z).getD (4 + 3 * pc (kd l)) 0 = l.getD (4 + 3 * pc (kd l)) 0 := by rw [List.getD_eq_getElem?_getD, List.getD_eq_getElem?_getD, List.getElem?_set_ne (by omega)]
        have a3 : l.getD (5 + 3 * pc (kd l)) 0 = x := by rw [← hi5, List.getD_eq_getElem?_getD, hi]; rfl
        rw [a1, a2, a3] at e2
        omega
/- what is packed is read back -/
theorem p3_back (x : Int) (rest : List Int) : (p3 x ++ rest).getD 0 0 = x / 65536 ∧ (p3 x ++ rest).getD 1 0 = x / 256 % 256 ∧ (p3 x ++ rest).getD 2 0 = x % 256 := ⟨rfl, rfl, rfl⟩
theorem num_back (x : Int) : 65536 * (x / 65536) + 256 * (x / 256 % 256) + x % 256 = x := by omega
theorem read_back {cl sq k a b c : Int} (h : flt cl sq k a b c = 0) :
    rdB (pk cl sq k a b c) = true ∧ rcl (pk cl sq k a b c) = cl ∧ rsq (pk cl sq k a b c) = sq ∧ kd (pk cl sq k a b c) = k ∧ rpa (pk cl sq k a b c) 0 = a ∧ rpa (pk cl sq k a b c) 1 = b ∧ rpa (pk cl sq k a b c) 2 = c := by
  obtain ⟨h1, h2, h3, h4, h5, h6, a1, a2, b1, b2, c1, c2, n0, n1, n2⟩ := flt_zero h
  have e0 : rcl (pk cl sq k a b c) = cl := rfl
  have e1 : kd (pk cl sq k a b c) = k := rfl
  have e2 : rsq (pk cl sq k a b c) = sq := by
    show 256 * (sq / 256) + sq % 256 = sq
    omega
  have eA : rpa (pk cl sq k a b c) 0 = a ∧ rpa (pk cl sq k a b c) 1 = b ∧ rpa (pk cl sq k a b c) 2 = c := by
    unfold rpa
    rw [e1]
    unfold pk
    generalize p2 (sm (body cl sq k a b c)) = T
    unfold body
    rcases pc_cases k with hn | hn | hn | hn <;> rw [hn]
    · exact ⟨by rw [if_neg (by omega)]; exact (n0 hn).symm, by rw [if_neg (by omega)]; exact (n1 (by omega)).symm, by rw [if_neg (by omega)]; exact (n2 (by omega)).symm⟩
    · exact ⟨by rw [if_pos (by omega)]; exact num_back a, by rw [if_neg (by omega)]; exact (n1 (by omega)).symm, by rw [if_neg (by omega)]; exact (n2 (by omega)).symm⟩
    · exact ⟨by rw [if_pos (by omega)]; exact num_back a, by rw [if_pos (by omega)]; exact num_back b, by rw [if_neg (by omega)]; exact (n2 (by omega)).symm⟩
    · exact ⟨by rw [if_pos (by omega)]; exact num_back a, by rw [if_pos (by omega)]; exact num_back b, by rw [if_pos (by omega)]; exact num_back c⟩
  refine ⟨?_, e0, e2, e1, eA⟩
  have hl := pk_len cl sq k a b c
  unfold rdB rlen rflt rpk
  rw [e0, e1, e2, eA.1, eA.2.1, eA.2.2, h, inb_t h5 h6, decide_eq_true (show 6 ≤ (pk cl sq k a b c).length by omega), decide_eq_true hl, decide_eq_true rfl]
  rfl
/- the turned byte is another one, and a byte -/
theorem xor_turn {x y : Int} (x0 : 0 ≤ x) (x1 : x ≤ 255) (y0 : 1 ≤ y) (y1 : y ≤ 255) : 0 ≤ bits .xor .u8 x y ∧ bits .xor .u8 x y ≤ 255 ∧ x ≠ bits .xor .u8 x y := by
  rw [u8_xor x y x0 (by omega) (by omega) (by omega)]
  have hlt : x.toNat ^^^ y.toNat < 2 ^ 8 := Nat.xor_lt_two_pow (by omega) (by omega)
  refine ⟨by omega, by omega, fun e => ?_⟩
  have e1 : x.toNat = x.toNat ^^^ y.toNat := by omega
  have e2 : x.toNat ^^^ x.toNat = x.toNat ^^^ (x.toNat ^^^ y.toNat) := by rw [← e1]
  rw [Nat.xor_self, ← Nat.xor_assoc, Nat.xor_self, Nat.zero_xor] at e2
  omega
end Go.Proofs.YtcpgbhjnhahecaaDoor.Cm
