/- Texts of mine put together (a claim holds at most 60 files): Nums. -/

/- Nums -/
section
/- Plain arithmetic of chapter 1 (numbers): what each function answers, as plain functions on integers. No condition. -/
namespace Go.Proofs.YthopodopedbooaaGreat.Nums

def apC (a b : Int) : Int := if a < 0 ∨ 1000000 < a ∨ b < -1000000 ∨ 1000000 < b then 3 else if a + b < 0 then 10 else if 1000000 < a + b then 7 else 0
def apV (a b : Int) : Int := if apC a b = 0 then a + b else 0

theorem ap_cases (a b : Int) :
    (a < 0 ∧ apC a b = 3 ∧ apV a b = 0) ∨
    (0 ≤ a ∧ 1000000 < a ∧ apC a b = 3 ∧ apV a b = 0) ∨
    (0 ≤ a ∧ a ≤ 1000000 ∧ b < -1000000 ∧ apC a b = 3 ∧ apV a b = 0) ∨
    (0 ≤ a ∧ a ≤ 1000000 ∧ -1000000 ≤ b ∧ 1000000 < b ∧ apC a b = 3 ∧ apV a b = 0) ∨
    (0 ≤ a ∧ a ≤ 1000000 ∧ -1000000 ≤ b ∧ b ≤ 1000000 ∧ a + b < 0 ∧ apC a b = 10 ∧ apV a b = 0) ∨
    (0 ≤ a ∧ a ≤ 1000000 ∧ -1000000 ≤ b ∧ b ≤ 1000000 ∧ 0 ≤ a + b ∧ 1000000 < a + b ∧ apC a b = 7 ∧ apV a b = 0) ∨
    (0 ≤ a ∧ a ≤ 1000000 ∧ -1000000 ≤ b ∧ b ≤ 1000000 ∧ 0 ≤ a + b ∧ a + b ≤ 1000000 ∧ apC a b = 0 ∧ apV a b = a + b) := by
  have e3 : a < 0 ∨ 1000000 < a ∨ b < -1000000 ∨ 1000000 < b → apC a b = 3 ∧ apV a b = 0 := fun h => by
    have : apC a b = 3 := by unfold apC; rw [if_pos h]
    exact ⟨this, by unfold apV; rw [this]; rfl⟩
  by_cases h1 : a < 0
  · exact .inl ⟨h1, e3 (.inl h1)⟩
  by_cases h2 : 1000000 < a
  · exact .inr (.inl ⟨by omega, h2, e3 (.inr (.inl h2))⟩)
  by_cases h3 : b < -1000000
  · exact .inr (.inr (.inl ⟨by omega, by omega, h3, e3 (.inr (.inr (.inl h3)))⟩))
  by_cases h4 : 1000000 < b
  · exact .inr (.inr (.inr (.inl ⟨by omega, by omega, by omega, h4, e3 (.inr (.inr (.inr h4)))⟩)))
  have n : ¬ (a < 0 ∨ 1000000 < a ∨ b < -1000000 ∨ 1000000 < b) := by omega
  by_cases h5 : a + b < 0
  · have e : apC a b = 10 := by unfold apC; rw [if_neg n, if_pos h5]
    exact .inr (.inr (.inr (.inr (.inl ⟨by omega, by omega, by omega, by omega, h5, e, by unfold apV; rw [e]; rfl⟩))))
  by_cases h6 : 1000000 < a + b
  · have e : apC a b = 7 := by unfold apC; rw [if_neg n, if_neg h5, if_pos h6]
    exact .inr (.inr (.inr (.inr (.inr (.inl ⟨by omega, by omega, by omega, by omega, by omega, h6, e, by unfold apV; rw [e]; rfl⟩)))))
  have e : apC a b = 0 := by unfold apC; rw [if_neg n, if_neg h5, if_neg h6]
  exact .inr (.inr (.inr (.inr (.inr (.inr ⟨by omega, by omega, by omega, by omega, by omega, by omega, e, by unfold apV; rw [if_pos e]⟩)))))

theorem ap_back {x y : Int} (h0 : 0 ≤ x) (h1 : x ≤ 1000000) (h2 : -1000000 ≤ y) (h3 : y ≤ 1000000) (h4 : 0 ≤ x + y) (h5 : x + y ≤ 1000000) : apC (x + y) (-y) = 0 ∧ apV (x + y) (-y) = x := by
  have e : x + y + -y = x := by omega
  have n : ¬ (x + y < 0 ∨ 1000000 < x + y ∨ -y < -1000000 ∨ 1000000 < -y) := by omega
  have c : apC (x + y) (-y) = 0 := by unfold apC; rw [if_neg n, e, if_neg (by omega), if_neg (by omega)]
  exact ⟨c, by unfold apV; rw [if_pos c, e]⟩

def nsC (s : Int) : Int := if s < 1 ∨ 2147483646 < s then 3 else 0
def nsV (s : Int) : Int := if s < 1 ∨ 2147483646 < s then 0 else 48271 * s % 2147483647

theorem ns_cases (s : Int) :
    (s < 1 ∧ nsC s = 3 ∧ nsV s = 0) ∨ (1 ≤ s ∧ 2147483646 < s ∧ nsC s = 3 ∧ nsV s = 0) ∨ (1 ≤ s ∧ s ≤ 2147483646 ∧ nsC s = 0 ∧ nsV s = 48271 * s % 2147483647) := by
  unfold nsC nsV
  omega

theorem ns_pos (s : Int) (h1 : 1 ≤ s) (h2 : s ≤ 2147483646) : 1 ≤ 48271 * s % 2147483647 ∧ 48271 * s % 2147483647 ≤ 2147483646 := by omega

def roC (s n : Int) : Int := if s < 1 ∨ 2147483646 < s ∨ n < 1 ∨ 1000 < n then 3 else 0
def roV (s n : Int) : Int := if s < 1 ∨ 2147483646 < s ∨ n < 1 ∨ 1000 < n then 0 else (48271 * s % 2147483647) % n

theorem ro_cases (s n : Int) :
    (s < 1 ∧ roC s n = 3 ∧ roV s n = 0) ∨ (1 ≤ s ∧ 2147483646 < s ∧ roC s n = 3 ∧ roV s n = 0) ∨
    (1 ≤ s ∧ s ≤ 2147483646 ∧ n < 1 ∧ roC s n = 3 ∧ roV s n = 0) ∨ (1 ≤ s ∧ s ≤ 2147483646 ∧ 1 ≤ n ∧ 1000 < n ∧ roC s n = 3 ∧ roV s n = 0) ∨
    (1 ≤ s ∧ s ≤ 2147483646 ∧ 1 ≤ n ∧ n ≤ 1000 ∧ roC s n = 0 ∧ roV s n = (48271 * s % 2147483647) % n) := by
  unfold roC roV
  generalize (48271 * s % 2147483647) % n = z
  omega

/- a tile: both numbers 0 to 11 -/
def tileB (x y : Int) : Bool := decide (0 ≤ x) && decide (x ≤ 11) && decide (0 ≤ y) && decide (y ≤ 11)
theorem tile_cases (x y : Int) :
    (x < 0 ∧ tileB x y = false) ∨ (0 ≤ x ∧ 11 < x ∧ tileB x y = false) ∨ (0 ≤ x ∧ x ≤ 11 ∧ y < 0 ∧ tileB x y = false) ∨
    (0 ≤ x ∧ x ≤ 11 ∧ 0 ≤ y ∧ 11 < y ∧ tileB x y = false) ∨ (0 ≤ x ∧ x ≤ 11 ∧ 0 ≤ y ∧ y ≤ 11 ∧ tileB x y = true) := by
  unfold tileB
  by_cases h1 : 0 ≤ x <;> by_cases h2 : x ≤ 11 <;> by_cases h3 : 0 ≤ y <;> by_cases h4 : y ≤ 11 <;> simp [h1, h2, h3, h4] <;> omega
theorem tile_iff (x y : Int) : tileB x y = true ↔ 0 ≤ x ∧ x ≤ 11 ∧ 0 ≤ y ∧ y ≤ 11 := by
  unfold tileB; simp [and_assoc]

def gap (a b : Int) : Int := if a < b then b - a else a - b
def near (a b : Int) : Int := if a < b then a + 1 else if b < a then a - 1 else a
def mx (a b : Int) : Int := if b < a then a else b
def faC (x1 y1 x2 y2 : Int) : Int := if (tileB x1 y1 && tileB x2 y2) = true then 0 else 3
def faV (x1 y1 x2 y2 : Int) : Int := if (tileB x1 y1 && tileB x2 y2) = true then mx (gap x1 x2) (gap y1 y2) else 0
def stX (x1 y1 x2 y2 : Int) : Int := if (tileB x1 y1 && tileB x2 y2) = true then near x1 x2 else 0
def stY (x1 y1 x2 y2 : Int) : Int := if (tileB x1 y1 && tileB x2 y2) = true then near y1 y2 else 0

theorem near_tile {a b c d : Int} (h1 : tileB a b = true) (h2 : tileB c d = true) : tileB (near a c) (near b d) = true := by
  rw [tile_iff] at *
  unfold near
  omega
theorem far_sym (a b c d : Int) : faC c d a b = faC a b c d ∧ faV c d a b = faV a b c d := by
  have e1 : (tileB c d && tileB a b) = (tileB a b && tileB c d) := Bool.and_comm _ _
  have e2 : ∀ p q : Int, gap p q = gap q p := fun p q => by unfold gap; omega
  unfold faC faV
  rw [e1, e2 c a, e2 d b]
  exact ⟨rfl, rfl⟩
/- a step: it is one nearer, until one is there -/
theorem way_cases (a b c d : Int) :
    (faC a b c d = 3 ∧ faV a b c d = 0 ∧ stX a b c d = 0 ∧ stY a b c d = 0) ∨
    (faC a b c d = 0 ∧ faV a b c d = 0 ∧ stX a b c d = a ∧ stY a b c d = b ∧ faC a b c d = 0 ∧ faV a b c d = 0) ∨
    (∃ f x y : Int, 0 < f ∧ f ≤ 11 ∧ faC a b c d = 0 ∧ faV a b c d = f ∧ stX a b c d = x ∧ stY a b c d = y ∧ faC x y c d = 0 ∧ faV x y c d = f - 1) := by
  cases h1 : tileB a b
  · refine .inl ?_
    unfold faC faV stX stY
    simp [h1]
  cases h2 : tileB c d
  · refine .inl ?_
    unfold faC faV stX stY
    simp [h1, h2]
  have h3 := near_tile h1 h2
  have t1 := (tile_iff _ _).1 h1
  have t2 := (tile_iff _ _).1 h2
  have eC : faC a b c d = 0 := by unfold faC; simp [h1, h2]
  have eV : faV a b c d = mx (gap a c) (gap b d) := by unfold faV; simp [h1, h2]
  have eX : stX a b c d = near a c := by unfold stX; simp [h1, h2]
  have eY : stY a b c d = near b d := by unfold stY; simp [h1, h2]
  have fC : faC (near a c) (near b d) c d = 0 := by unfold faC; simp [h2, h3]
  have fV : faV (near a c) (near b d) c d = mx (gap (near a c) c) (gap (near b d) d) := by unfold faV; simp [h2, h3]
  by_cases hz : a = c ∧ b = d
  · obtain ⟨rfl, rfl⟩ := hz
    refine .inr (.inl ?_)
    have g : mx (gap a a) (gap b b) = 0 := by unfold mx gap; omega
    have n1 : near a a = a := by unfold near; omega
    have n2 : near b b = b := by unfold near; omega
    exact ⟨eC, by rw [eV, g], by rw [eX, n1], by rw [eY, n2], eC, by rw [eV, g]⟩
  · refine .inr (.inr ⟨_, _, _, ?_, ?_, eC, eV, eX, eY, fC, ?_⟩)
    · unfold mx gap; omega
    · unfold mx gap; omega
    · rw [fV]; unfold mx gap near; omega
end Go.Proofs.YthopodopedbooaaGreat.Nums
end
