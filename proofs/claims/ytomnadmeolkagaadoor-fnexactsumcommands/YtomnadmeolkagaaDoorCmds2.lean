/- Plain functions of chapter 3: numbers as bytes, sums, packed commands. No condition. -/
import Derived.Test.YtomnadmeolkagaaDoorCmds
namespace Go.Proofs.YtomnadmeolkagaaDoor.Cm

def p2 (x : Int) : List Int := [x / 256, x % 256]
def p3 (x : Int) : List Int := [x / 65536, x / 256 % 256, x % 256]
def stp (s b : Int) : Int := (s * 227 + b + 1) % 65521
def sm (l : List Int) : Int := l.foldl stp 29
theorem sm_snoc (l : List Int) (b : Int) : sm (l ++ [b]) = stp (sm l) b := by unfold sm; rw [List.foldl_append]; rfl
theorem foldl_bd : ∀ (l : List Int) (s : Int), 0 ≤ s → s < 65521 → 0 ≤ l.foldl stp s ∧ l.foldl stp s < 65521
  | [], s, h0, h1 => ⟨h0, h1⟩
  | b :: r, s, _, _ => foldl_bd r (stp s b) (Int.emod_nonneg _ (by omega)) (Int.emod_lt_of_pos _ (by omega))
theorem sm_bd (l : List Int) : 0 ≤ sm l ∧ sm l < 65521 := foldl_bd l 29 (by omega) (by omega)
/- the numbers that a kind has, three bytes each -/
def ps (n : Nat) (a b c : Int) : List Int := ([a, b, c].take n).flatMap p3
theorem ps_0 (a b c : Int) : ps 0 a b c = [] := rfl
theorem ps_1 (a b c : Int) : ps 1 a b c = p3 a := rfl
theorem ps_2 (a b c : Int) : ps 2 a b c = p3 a ++ p3 b := rfl
theorem ps_3 (a b c : Int) : ps 3 a b c = p3 a ++ (p3 b ++ p3 c) := rfl
theorem ps_len (n : Nat) (hn : n ≤ 3) (a b c : Int) : (ps n a b c).length = 3 * n := by
  match n, hn with
  | 0, _ => rfl
  | 1, _ => rfl
  | 2, _ => rfl
  | 3, _ => rfl
theorem ps_succ (n : Nat) (hn : n < 3) (a b c : Int) : ps (n + 1) a b c = ps n a b c ++ p3 ([a, b, c].getD n 0) := by
  match n, hn with
  | 0, _ => rfl
  | 1, _ => rfl
  | 2, _ => rfl
def hd (cl sq k : Int) : List Int := [cl, k, sq / 256, sq % 256]
def body (cl sq k a b c : Int) : List Int := hd cl sq k ++ ps (pc k) a b c
def pk (cl sq k a b c : Int) : List Int := body cl sq k a b c ++ p2 (sm (body cl sq k a b c))
theorem body_len (cl sq k a b c : Int) : (body cl sq k a b c).length = 4 + 3 * pc k := by
  unfold body; rw [List.length_append, ps_len _ (pc_le k)]; rfl
theorem pk_len (cl sq k a b c : Int) : (pk cl sq k a b c).length = 6 + 3 * pc k := by
  unfold pk; rw [List.length_append, body_len]; simp [p2]; omega
theorem p3_bd {x : Int} (h0 : 0 ≤ x) (h1 : x ≤ 1000000) : ∀ z ∈ p3 x, 0 ≤ z ∧ z ≤ 255 := by
  intro z hz
  simp [p3] at hz
  rcases hz with rfl | rfl | rfl <;> omega
theorem p2_bd {x : Int} (h0 : 0 ≤ x) (h1 : x < 65536) : ∀ z ∈ p2 x, 0 ≤ z ∧ z ≤ 255 := by
  intro z hz
  simp [p2] at hz
  rcases hz with rfl | rfl <;> omega
theorem pk_bd {cl sq k a b c : Int} (h : flt cl sq k a b c = 0) : ∀ z ∈ pk cl sq k a b c, 0 ≤ z ∧ z ≤ 255 := by
  obtain ⟨h1, h2, h3, h4, h5, h6, a1, a2, b1, b2, c1, c2, _⟩ := flt_zero h
  intro z hz
  unfold pk at hz
  rw [List.mem_append] at hz
  rcases hz with hz | hz
  · unfold body at hz
    rw [List.mem_append] at hz
    rcases hz with hz | hz
    · simp [hd] at hz
      rcases hz with rfl | rfl | rfl | rfl <;> omega
    · unfold ps at hz
      rw [List.mem_flatMap] at hz
      obtain ⟨x, hx, hz⟩ := hz
      have := List.mem_of_mem_take hx
      simp at this
      rcases this with rfl | rfl | rfl
      · exact p3_bd a1 a2 z hz
      · exact p3_bd b1 b2 z hz
      · exact p3_bd c1 c2 z hz
  · have := sm_bd (body cl sq k a b c)
    exact p2_bd this.1 (by omega) z hz
end Go.Proofs.YtomnadmeolkagaaDoor.Cm
