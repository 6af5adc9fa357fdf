/- Plain facts: a unit that was put is there, all others are as they were, and the board has no fault. No condition. -/
import Derived.Test.YtibkdkjcncfmgaaPutImpl2
namespace Go.Proofs.Ytibkdkjcncfmgaa
open Bd
set_option linter.unusedVariables false

theorem putU_self (u : K10) : ∀ l : List K10, u ∈ putU u l
  | [] => by unfold putU; simp
  | x :: l => by
    unfold putU
    split
    · simp
    · split
      · simp
      · exact List.mem_cons_of_mem _ (putU_self u l)
theorem putU_keep {u x : K10} (hn : x.c0 ≠ u.c0) : ∀ {l : List K10}, x ∈ l → x ∈ putU u l
  | y :: l, h => by
    unfold putU
    split
    · exact List.mem_cons_of_mem _ h
    · split
      · rename_i h1 h2
        rcases List.mem_cons.1 h with rfl | h
        · exact absurd h2.symm hn
        · exact List.mem_cons_of_mem _ h
      · rcases List.mem_cons.1 h with rfl | h
        · simp
        · exact List.mem_cons_of_mem _ (putU_keep hn h)
theorem ffs_mk : ∀ {l : List K3}, (∀ f ∈ l, ff f = true) → ffs l = 0
  | [], _ => rfl
  | f :: l, h => by
    unfold ffs
    rw [if_neg (by rw [h f (by simp)]; simp)]
    exact ffs_mk (fun x hx => h x (List.mem_cons_of_mem _ hx))
theorem ufs_mk {F : Int} (hF : F = 0) : ∀ {l : List K10} {p : Option Int}, (∀ u ∈ l, uf u = 0) → (∀ q, p = some q → ∀ u ∈ l, q < u.c0) → Rise l → ufs p F l = 0
  | [], _, _, _, _ => hF
  | a :: l, p, h, hp, hr => by
    unfold ufs
    rw [if_neg (by rw [h a (by simp)]; simp)]
    have hl : leP p a.c0 = false := by
      cases p with
      | none => rfl
      | some q => have := hp q rfl a (by simp); simp [leP]; omega
    rw [if_neg (by rw [hl]; simp)]
    have hr' := List.pairwise_cons.1 hr
    exact ufs_mk hF (fun x hx => h x (List.mem_cons_of_mem _ hx)) (fun q hq u hu => by cases hq; exact hr'.1 u hu) hr'.2
theorem bf_mk {us : List K10} {fs : List K3} (h1 : us.length ≤ 8) (h2 : fs.length ≤ 4) (h3 : ∀ u ∈ us, uf u = 0) (h4 : ∀ f ∈ fs, ff f = true) (h5 : Rise us) : bf us fs = 0 := by
  unfold bf
  rw [if_neg (by omega)]
  exact ufs_mk (ffs_mk h4) h3 (fun q hq => by cases hq) h5
/- PutUnit that answered OK -/
theorem pu_ok {us : List K10} {fs : List K3} {u : K10} (h : puC us fs u = 0) : bf us fs = 0 ∧ uf u = 0 ∧ puU us fs u = putU u us ∧ puF us fs u = fs ∧ bf (putU u us) fs = 0 ∧ findU (putU u us) u.c0 = some u ∧ (∀ x ∈ us, x.c0 ≠ u.c0 → findU (putU u us) x.c0 = some x) := by
  rcases pu_cases us fs u with ⟨h1, e, _⟩ | ⟨h1, h2, e, _⟩ | ⟨h1, h2, h3, e, _⟩ | ⟨h1, h2, h3, e, eu, ef⟩
  · rw [e] at h; rw [h] at h1; cases h1
  · rw [e] at h; rw [h] at h2; cases h2
  · rw [e] at h; cases h
  · obtain ⟨n8, n4, huf, hff, hris⟩ := bf_ok h1
    have hr := putU_rise (u := u) hris
    exact ⟨h1, h2, eu, ef, bf_mk h3 n4 (putU_uf huf h2) hff hr, find_mem hr (putU_self u us), fun x hx hn => find_mem hr (putU_keep hn hx)⟩
end Go.Proofs.Ytibkdkjcncfmgaa
