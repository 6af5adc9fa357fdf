/- Plain functions of chapter 4 (the board): the fault of a unit and of a board, and what is asked of a board. No condition. -/
import Derived.Test.YtibkdkjcncfmgaaRowU
import Derived.Test.YtibkdkjcncfmgaaRowF
namespace Go.Proofs.Ytibkdkjcncfmgaa.Bd

/- is v from lo to hi -/
def inb (v lo hi : Int) : Bool := decide (lo ≤ v ∧ v ≤ hi)
theorem inb_t {v lo hi : Int} (h1 : lo ≤ v) (h2 : v ≤ hi) : inb v lo hi = true := decide_eq_true ⟨h1, h2⟩
theorem inb_f {v lo hi : Int} (h : v < lo ∨ hi < v) : inb v lo hi = false := decide_eq_false (by omega)
theorem inb_i {v lo hi : Int} (h : inb v lo hi = true) : lo ≤ v ∧ v ≤ hi := of_decide_eq_true h
theorem inb_n {v lo hi : Int} (h : inb v lo hi = false) : v < lo ∨ hi < v := by have := of_decide_eq_false h; omega
/- an owner; a tile -/
def own (v : Int) : Bool := inb v 0 3 || v == 9
def tile (x y : Int) : Bool := inb x 0 11 && inb y 0 11
def head (i o x y l c : Int) : Bool := inb i 1 99 && (own o && (tile x y && (inb l 1 50 && inb c 0 20)))
def form (j tx ty p : Int) : Bool := if j = 0 then (tx == 0 && ty == 0) && p == 0 else if j = 1 then p == 0 else if j = 2 ∨ j = 3 then tx == 0 && ty == 0 else false
def rng (i j tx ty p : Int) : Bool := if j = 1 then tile tx ty else if j = 2 then inb p 0 3 else if j = 3 then inb p 1 99 && (p != i) else true
def jf (i j tx ty p : Int) : Int := if form j tx ty p = false then 1 else if rng i j tx ty p = false then 3 else 0
/- UnitFault -/
def uf (u : K10) : Int := if head u.c0 u.c1 u.c2 u.c3 u.c4 u.c5 = false then 3 else jf u.c0 u.c6 u.c7 u.c8 u.c9
theorem jf_bd (i j tx ty p : Int) : jf i j tx ty p = 0 ∨ jf i j tx ty p = 1 ∨ jf i j tx ty p = 3 := by
  unfold jf
  split
  · exact .inr (.inl rfl)
  · split
    · exact .inr (.inr rfl)
    · exact .inl rfl
theorem uf_bd (u : K10) : uf u = 0 ∨ uf u = 1 ∨ uf u = 3 := by
  unfold uf
  split
  · exact .inr (.inr rfl)
  · exact jf_bd _ _ _ _ _
theorem uf_id {u : K10} (h : uf u = 0) : 1 ≤ u.c0 ∧ u.c0 ≤ 99 := by
  unfold uf at h
  split at h
  · cases h
  · rename_i hh
    have e : head u.c0 u.c1 u.c2 u.c3 u.c4 u.c5 = true := by revert hh; cases head u.c0 u.c1 u.c2 u.c3 u.c4 u.c5 <;> simp
    unfold head at e
    rw [Bool.and_eq_true] at e
    exact inb_i e.1
theorem uf_carry {u : K10} (h : uf u = 0) : 0 ≤ u.c5 ∧ u.c5 ≤ 20 := by
  unfold uf at h
  split at h
  · cases h
  · rename_i hh
    have e : head u.c0 u.c1 u.c2 u.c3 u.c4 u.c5 = true := by revert hh; cases head u.c0 u.c1 u.c2 u.c3 u.c4 u.c5 <;> simp
    unfold head at e
    rw [Bool.and_eq_true, Bool.and_eq_true, Bool.and_eq_true, Bool.and_eq_true] at e
    exact inb_i e.2.2.2.2
/- the places where a job can stand -/
theorem job_cases (j : Int) : j = 0 ∨ j = 1 ∨ j = 2 ∨ j = 3 ∨ ((j == 0) = false ∧ (j == 1) = false ∧ (j == 2) = false ∧ (j == 3) = false) := by
  by_cases h0 : j = 0
  · exact .inl h0
  by_cases h1 : j = 1
  · exact .inr (.inl h1)
  by_cases h2 : j = 2
  · exact .inr (.inr (.inl h2))
  by_cases h3 : j = 3
  · exact .inr (.inr (.inr (.inl h3)))
  · exact .inr (.inr (.inr (.inr ⟨by simpa using h0, by simpa using h1, by simpa using h2, by simpa using h3⟩)))
/- a field -/
def ff (f : K3) : Bool := tile f.c0 f.c1 && inb f.c2 0 10000
theorem ff_left {f : K3} (h : ff f = true) : 0 ≤ f.c2 ∧ f.c2 ≤ 10000 := by
  unfold ff at h
  rw [Bool.and_eq_true] at h
  exact inb_i h.2
def ffs : List K3 → Int
  | [] => 0
  | f :: l => if ff f = false then 3 else ffs l
/- is x no more than the Id ahead of it -/
def leP (p : Option Int) (x : Int) : Bool := match p with | some q => decide (x ≤ q) | none => false
/- the units' fault, behind the unit with the Id p; F: what comes behind the units -/
def ufs (p : Option Int) (F : Int) : List K10 → Int
  | [] => F
  | u :: l => if (uf u == 0) = false then uf u else if leP p u.c0 = true then 1 else ufs (some u.c0) F l
/- BoardFault -/
def bf (us : List K10) (fs : List K3) : Int := if us.length > 8 ∨ fs.length > 4 then 2 else ufs none (ffs fs) us
/- the Id ahead of place k -/
def prevId (l : List K10) (k : Nat) : Option Int := if k = 0 then none else (l[k - 1]?).map K10.c0
theorem prevId_next {l : List K10} {k : Nat} {u : K10} (h : l[k]? = some u) : prevId l (k + 1) = some u.c0 := by
  unfold prevId
  rw [if_neg (by omega), Nat.add_sub_cancel, h]; rfl
theorem ufs_step {l : List K10} {k : Nat} {u : K10} {p : Option Int} {F : Int} (h : l[k]? = some u) :
    ufs p F (l.drop k) = if (uf u == 0) = false then uf u else if leP p u.c0 = true then 1 else ufs (some u.c0) F (l.drop (k + 1)) := by
  have h' := List.getElem?_eq_some_iff.1 h
  rw [List.drop_eq_getElem_cons h'.1, h'.2]; rfl
theorem ffs_step {l : List K3} {k : Nat} {f : K3} (h : l[k]? = some f) : ffs (l.drop k) = if ff f = false then 3 else ffs (l.drop (k + 1)) := by
  have h' := List.getElem?_eq_some_iff.1 h
  rw [List.drop_eq_getElem_cons h'.1, h'.2]; rfl
/- what a board without a fault is -/
theorem ffs_ok {l : List K3} (h : ffs l = 0) : ∀ f ∈ l, ff f = true := by
  induction l with
  | nil => intro f hf; cases hf
  | cons a l ih =>
    unfold ffs at h
    split at h
    · cases h
    · rename_i hh
      intro f hf
      rcases List.mem_cons.1 hf with rfl | hf
      · revert hh; cases ff f <;> simp
      · exact ih h f hf
theorem ufs_ok {F : Int} : ∀ {l : List K10} {p : Option Int}, ufs p F l = 0 → F = 0 ∧ (∀ u ∈ l, uf u = 0) ∧ (∀ q u, p = some q → u ∈ l → q < u.c0) ∧ l.Pairwise (fun a b => a.c0 < b.c0)
  | [], p, h => ⟨h, (fun _ hu => by cases hu), (fun _ _ _ hu => by cases hu), List.Pairwise.nil⟩
  | a :: l, p, h => by
    unfold ufs at h
    split at h
    · rename_i h1
      rw [h] at h1
      cases h1
    · rename_i h1
      have e1 : uf a = 0 := by revert h1; cases e : uf a == 0 <;> simp; simpa using e
      split at h
      · cases h
      · rename_i h2
        obtain ⟨i1, i2, i3, i4⟩ := ufs_ok h
        refine ⟨i1, ?_, ?_, ?_⟩
        · intro u hu
          rcases List.mem_cons.1 hu with rfl | hu
          · exact e1
          · exact i2 u hu
        · rintro q u rfl hu
          have hq : q < a.c0 := by simpa [leP] using h2
          rcases List.mem_cons.1 hu with rfl | hu
          · exact hq
          · have := i3 a.c0 u rfl hu; omega
        · exact List.Pairwise.cons (fun u hu => i3 a.c0 u rfl hu) i4
theorem bf_ok {us : List K10} {fs : List K3} (h : bf us fs = 0) : us.length ≤ 8 ∧ fs.length ≤ 4 ∧ (∀ u ∈ us, uf u = 0) ∧ (∀ f ∈ fs, ff f = true) ∧ us.Pairwise (fun a b => a.c0 < b.c0) := by
  unfold bf at h
  split at h
  · cases h
  · rename_i h1
    obtain ⟨i1, i2, _, i4⟩ := ufs_ok h
    exact ⟨by omega, by omega, i2, ffs_ok i1, i4⟩
theorem ffs_bd (l : List K3) : ffs l = 0 ∨ ffs l = 3 := by
  induction l with
  | nil => exact .inl rfl
  | cons a l ih =>
    unfold ffs
    split
    · exact .inr rfl
    · exact ih
theorem ufs_bd {F : Int} (hF : F = 0 ∨ F = 3) : ∀ (l : List K10) (p : Option Int), ufs p F l = 0 ∨ ufs p F l = 1 ∨ ufs p F l = 3
  | [], p => by rcases hF with h | h <;> simp [ufs, h]
  | a :: l, p => by
    unfold ufs
    split
    · exact uf_bd a
    · split
      · exact .inr (.inl rfl)
      · exact ufs_bd hF l _
theorem bf_bd (us : List K10) (fs : List K3) : bf us fs = 0 ∨ bf us fs = 1 ∨ bf us fs = 2 ∨ bf us fs = 3 := by
  unfold bf
  split
  · exact .inr (.inr (.inl rfl))
  · rcases ufs_bd (ffs_bd fs) us none with h | h | h <;> simp [h]
end Go.Proofs.Ytibkdkjcncfmgaa.Bd
