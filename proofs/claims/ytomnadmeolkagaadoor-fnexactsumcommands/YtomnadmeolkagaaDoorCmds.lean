/- Plain functions of chapter 3 (commands): how many numbers a kind has, the fault of a command, its bytes and their sum, and what is read back of bytes. No condition. -/
namespace Go.Proofs.YtomnadmeolkagaaDoor.Cm

/- how many of A, B, C a kind has -/
def pc (k : Int) : Nat := if k = 1 then 3 else if k = 6 ∨ k = 7 ∨ k = 8 then 1 else if k = 10 ∨ k = 11 then 0 else 2
theorem pc_le (k : Int) : pc k ≤ 3 := by unfold pc; split <;> (try split) <;> (try split) <;> omega
theorem pc_cases (k : Int) : pc k = 0 ∨ pc k = 1 ∨ pc k = 2 ∨ pc k = 3 := by have := pc_le k; omega
theorem kind_cases {k : Int} (h1 : 1 ≤ k) (h2 : k ≤ 11) :
    (k = 1 ∧ pc k = 3) ∨ (k = 2 ∧ pc k = 2) ∨ (k = 3 ∧ pc k = 2) ∨ (k = 4 ∧ pc k = 2) ∨ (k = 5 ∧ pc k = 2) ∨ (k = 6 ∧ pc k = 1) ∨ (k = 7 ∧ pc k = 1) ∨ (k = 8 ∧ pc k = 1) ∨ (k = 9 ∧ pc k = 2) ∨ (k = 10 ∧ pc k = 0) ∨ (k = 11 ∧ pc k = 0) := by
  have h : k = 1 ∨ k = 2 ∨ k = 3 ∨ k = 4 ∨ k = 5 ∨ k = 6 ∨ k = 7 ∨ k = 8 ∨ k = 9 ∨ k = 10 ∨ k = 11 := by omega
  rcases h with rfl | rfl | rfl | rfl | rfl | rfl | rfl | rfl | rfl | rfl | rfl <;> simp [pc]

/- is v from lo to hi -/
def inb (v lo hi : Int) : Bool := decide (lo ≤ v ∧ v ≤ hi)
theorem inb_t {v lo hi : Int} (h1 : lo ≤ v) (h2 : v ≤ hi) : inb v lo hi = true := decide_eq_true ⟨h1, h2⟩
theorem inb_f {v lo hi : Int} (h : v < lo ∨ hi < v) : inb v lo hi = false := decide_eq_false (by omega)
theorem inb_i {v lo hi : Int} (h : inb v lo hi = true) : lo ≤ v ∧ v ≤ hi := of_decide_eq_true h
theorem inb_n {v lo hi : Int} (h : inb v lo hi = false) : v < lo ∨ hi < v := by have := of_decide_eq_false h; omega

/- ParamsOf -/
def poC (k : Int) : Int := if inb k 1 11 = true then 0 else 3
def poV (k : Int) : Int := if inb k 1 11 = true then (pc k : Int) else 0
theorem po_cases (k : Int) : (inb k 1 11 = false ∧ poC k = 3 ∧ poV k = 0) ∨ (inb k 1 11 = true ∧ poC k = 0 ∧ poV k = (pc k : Int)) := by
  unfold poC poV
  cases h : inb k 1 11
  · exact .inl ⟨rfl, rfl, rfl⟩
  · exact .inr ⟨rfl, rfl, rfl⟩

/- CommandFault -/
def flt (cl sq k a b c : Int) : Int :=
  if (inb cl 0 5 && inb sq 1 999 && inb k 1 11) = false then 3
  else if (pc k = 0 ∧ a ≠ 0) ∨ (pc k ≤ 1 ∧ b ≠ 0) ∨ (pc k ≤ 2 ∧ c ≠ 0) then 1
  else if (inb a 0 1000000 && inb b 0 1000000 && inb c 0 1000000) = false then 3 else 0
theorem flt_bd (cl sq k a b c : Int) : flt cl sq k a b c = 0 ∨ flt cl sq k a b c = 1 ∨ flt cl sq k a b c = 3 := by
  unfold flt
  split
  · exact .inr (.inr rfl)
  · split
    · exact .inr (.inl rfl)
    · split
      · exact .inr (.inr rfl)
      · exact .inl rfl
theorem flt_head {cl sq k a b c : Int} (h : (inb cl 0 5 && inb sq 1 999 && inb k 1 11) = false) : flt cl sq k a b c = 3 := by
  unfold flt; rw [if_pos h]
theorem flt_zero {cl sq k a b c : Int} (h : flt cl sq k a b c = 0) :
    0 ≤ cl ∧ cl ≤ 5 ∧ 1 ≤ sq ∧ sq ≤ 999 ∧ 1 ≤ k ∧ k ≤ 11 ∧ 0 ≤ a ∧ a ≤ 1000000 ∧ 0 ≤ b ∧ b ≤ 1000000 ∧ 0 ≤ c ∧ c ≤ 1000000 ∧ (pc k = 0 → a = 0) ∧ (pc k ≤ 1 → b = 0) ∧ (pc k ≤ 2 → c = 0) := by
  unfold flt at h
  split at h
  · cases h
  · rename_i h1
    split at h
    · cases h
    · rename_i h2
      split at h
      · cases h
      · rename_i h3
        have e1 : (inb cl 0 5 && inb sq 1 999 && inb k 1 11) = true := by revert h1; cases (inb cl 0 5 && inb sq 1 999 && inb k 1 11) <;> simp
        have e3 : (inb a 0 1000000 && inb b 0 1000000 && inb c 0 1000000) = true := by revert h3; cases (inb a 0 1000000 && inb b 0 1000000 && inb c 0 1000000) <;> simp
        rw [Bool.and_eq_true, Bool.and_eq_true] at e1 e3
        have a1 := inb_i e1.1.1
        have a2 := inb_i e1.1.2
        have a3 := inb_i e1.2
        have b1 := inb_i e3.1.1
        have b2 := inb_i e3.1.2
        have b3 := inb_i e3.2
        refine ⟨a1.1, a1.2, a2.1, a2.2, a3.1, a3.2, b1.1, b1.2, b2.1, b2.2, b3.1, b3.2, ?_, ?_, ?_⟩
        · intro h; exact Classical.byContradiction fun hn => h2 (.inl ⟨h, hn⟩)
        · intro h; exact Classical.byContradiction fun hn => h2 (.inr (.inl ⟨h, hn⟩))
        · intro h; exact Classical.byContradiction fun hn => h2 (.inr (.inr ⟨h, hn⟩))
/- the fault behind a head that is right, by how many numbers the kind has -/
def fl (n : Nat) (a b c : Int) : Int :=
  if (decide (n = 0) && (a != 0)) = true then 1 else if (decide (n ≤ 1) && (b != 0)) = true then 1 else if (decide (n ≤ 2) && (c != 0)) = true then 1
  else if (!inb a 0 1000000) = true then 3 else if (!inb b 0 1000000) = true then 3 else if (!inb c 0 1000000) = true then 3 else 0
theorem flt_fl {cl sq k a b c : Int} {n : Nat} (h1 : inb cl 0 5 = true) (h2 : inb sq 1 999 = true) (h3 : inb k 1 11 = true) (hn : pc k = n) : flt cl sq k a b c = fl n a b c := by
  unfold flt fl
  rw [h1, h2, h3, hn, if_neg (by decide)]
  by_cases ha : a = 0 <;> by_cases hb : b = 0 <;> by_cases hc : c = 0 <;> by_cases n0 : n = 0 <;> by_cases n1 : n ≤ 1 <;> by_cases n2 : n ≤ 2 <;> cases inb a 0 1000000 <;> cases inb b 0 1000000 <;> cases inb c 0 1000000 <;> simp [ha, hb, hc, n0, n1, n2]
end Go.Proofs.YtomnadmeolkagaaDoor.Cm
