/- Texts of mine put together (a claim holds at most 60 files): UnitWalks2, BoardWalks. -/
import Derived.Test.YthopodopedbooaaGreatPartL05

/- UnitWalks2 -/
/- Contracts of UnitFault and of its model. No condition. -/
section
namespace Go.Proofs.YthopodopedbooaaGreat
open Go.ChangeShapes Go.WideShapes Go.ChangeAt Go.RowKit
open Bd
set_option linter.unusedVariables false

theorem U1.job {w : World} {p o : Nat} {x : K10} (h : U1 w p o x) : J5 w p o x.c0 x.c6 x.c7 x.c8 x.c9 := ⟨h.c0, h.c6, h.c7, h.c8, h.c9, h.lt⟩
/- how a head comes out -/
theorem head_cases (i o x y l c : Int) :
    (inb i 1 99 = false ∧ head i o x y l c = false) ∨ (inb i 1 99 = true ∧ own o = false ∧ head i o x y l c = false) ∨ (inb i 1 99 = true ∧ own o = true ∧ tile x y = false ∧ head i o x y l c = false) ∨
    (inb i 1 99 = true ∧ own o = true ∧ tile x y = true ∧ inb l 1 50 = false ∧ head i o x y l c = false) ∨ (inb i 1 99 = true ∧ own o = true ∧ tile x y = true ∧ inb l 1 50 = true ∧ inb c 0 20 = false ∧ head i o x y l c = false) ∨
    (inb i 1 99 = true ∧ own o = true ∧ tile x y = true ∧ inb l 1 50 = true ∧ inb c 0 20 = true ∧ head i o x y l c = true) := by
  unfold head
  cases inb i 1 99 <;> cases own o <;> cases tile x y <;> cases inb l 1 50 <;> cases inb c 0 20 <;> simp
theorem uf_no {x : K10} (h : head x.c0 x.c1 x.c2 x.c3 x.c4 x.c5 = false) : uf x = 3 := by unfold uf; rw [if_pos h]
theorem uf_yes {x : K10} (h : head x.c0 x.c1 x.c2 x.c3 x.c4 x.c5 = true) : uf x = jf x.c0 x.c6 x.c7 x.c8 x.c9 := by unfold uf; rw [if_neg (by rw [h]; simp)]

set_option maxHeartbeats 4000000 in
theorem l4Unit_c (p o : Nat) (x : K10) (w : World) (h : U1 w p o x) :
    Calls Tryz.prog 148 #[.pointer (some ⟨p, o, none⟩)] w fun e w' => e = .returned (.int .i64 (uf x)) ∧ Below w.heap.size w w' := by
  have H : Hid (U1 w p o x) := h
  have q1 := fun w => l1In_c x.c0 1 99 w
  have q2 := fun w => l4Owner_c x.c1 w
  have q3 := fun w => l1Tile_c x.c2 x.c3 w
  have q4 := fun w => l1In_c x.c4 1 50 w
  have q5 := fun w => l1In_c x.c5 0 20 w
  have A0 := fun n => Later.cell h.lt h.c0 n
  have A1 := fun n => Later.cell h.lt h.c1 n
  have A2 := fun n => Later.cell h.lt h.c2 n
  have A3 := fun n => Later.cell h.lt h.c3 n
  have A4 := fun n => Later.cell h.lt h.c4 n
  have A5 := fun n => Later.cell h.lt h.c5 n
  clear h
  rcases head_cases x.c0 x.c1 x.c2 x.c3 x.c4 x.c5 with ⟨e1, eh⟩ | ⟨e1, e2, eh⟩ | ⟨e1, e2, e3, eh⟩ | ⟨e1, e2, e3, e4, eh⟩ | ⟨e1, e2, e3, e4, e5, eh⟩ | ⟨e1, e2, e3, e4, e5, eh⟩
  all_goals
    try rw [e1] at q1
    try rw [e2] at q2
    try rw [e3] at q3
    try rw [e4] at q4
    try rw [e5] at q5
    first | rw [uf_no eh] | rw [uf_yes eh]
    go_enter Tryz.func148, Tryz.ntmps148
    go_wp2_with fail
    refine wp_region_later (by kernel_rfl) (by kernel_rfl) (fun hne => ?_)
    repeat (go_big_quiet_step (first | (go_at_call 100; exact Later.call0 (l1In_c _ _ _ _)) | (go_at_call 173; exact Later.call0 (q2 _)) | (go_at_call 149; exact Later.call0 (q3 _))))
    refine wpQuiet_nil ?_
    rintro _ ⟨n1, rfl⟩
    clear A0 A1 A2 A3 A4 A5 hne
  all_goals try
    go_wp2_with fail
    go_ret
    exact ⟨rfl, n1.bel⟩
  have cJ := l4Job_c p o x.c0 x.c6 x.c7 x.c8 x.c9 _ (H.out.job.later n1.bel)
  go_wp2_with fail
  refine cJ.mono ?_
  rintro e w2 ⟨rfl, b2⟩
  have B2 := n1.bel.trans (b2.mono n1.bel.size)
  go_wp2_with fail
  go_ret
  exact ⟨rfl, B2⟩
set_option maxHeartbeats 4000000 in
theorem hasJobForm_c (i o x y l c j tx ty py : Int) (w : World) :
    Calls Tryz.prog 155 #[.agg (K10.v ⟨i, o, x, y, l, c, j, tx, ty, py⟩)] w fun e w' => e = .returned (.bool (form j tx ty py)) ∧ Below w.heap.size w w' := by
  have fin : ∀ b, b = form j tx ty py → (fun b : Bool => Ending.returned (Value.bool b)) b = Ending.returned (Value.bool (form j tx ty py)) := fun b hb => by rw [hb]
  rcases job_cases j with rfl | rfl | rfl | rfl | ⟨j0, j1, j2, j3⟩
  all_goals
    rcases ne_cases tx with rfl | ⟨a, a'⟩
  all_goals
    rcases ne_cases ty with rfl | ⟨b, b'⟩
  all_goals
    rcases ne_cases py with rfl | ⟨d, d'⟩
  all_goals
    go_enter Tryz.func155, Tryz.ntmps155
    go_wp2
    go_ret
    exact ⟨fin _ (by first | exact (form_other j0 j1 j2 j3).symm | (simp [form, *]; done)), (Below.refl _ _).alloc (Nat.le_refl _) _⟩
def preyB (i j py : Int) : Bool := if j = 2 then inb py 0 3 else if j = 3 then inb py 1 99 && (py != i) else true
set_option maxHeartbeats 4000000 in
theorem isPrey_c (i o x y l c j tx ty py : Int) (w : World) :
    Calls Tryz.prog 156 #[.agg (K10.v ⟨i, o, x, y, l, c, j, tx, ty, py⟩)] w fun e w' => e = .returned (.bool (preyB i j py)) ∧ Below w.heap.size w w' := by
  have fin : ∀ b, b = preyB i j py → (fun b : Bool => Ending.returned (Value.bool b)) b = Ending.returned (Value.bool (preyB i j py)) := fun b hb => by rw [hb]
  rcases job_cases j with rfl | rfl | rfl | rfl | ⟨j0, j1, j2, j3⟩
  · go_enter Tryz.func156, Tryz.ntmps156
    go_wp2
    go_ret
    exact ⟨fin _ (by simp [preyB, *]), (Below.refl _ _).alloc (Nat.le_refl _) _⟩
  · go_enter Tryz.func156, Tryz.ntmps156
    go_wp2
    go_ret
    exact ⟨fin _ (by simp [preyB, *]), (Below.refl _ _).alloc (Nat.le_refl _) _⟩
  · by_cases p1 : 0 ≤ py
    · by_cases p2 : py < 4
      · go_enter Tryz.func156, Tryz.ntmps156
        go_wp2
        go_ret
        exact ⟨fin _ (by simp [preyB, inb]; omega), (Below.refl _ _).alloc (Nat.le_refl _) _⟩
      · have d : decide (py < 4) = false := decide_eq_false p2
        go_enter Tryz.func156, Tryz.ntmps156
        go_wp2
        go_ret
        exact ⟨fin _ (by simp [preyB, inb]; omega), (Below.refl _ _).alloc (Nat.le_refl _) _⟩
    · have d : decide (0 ≤ py) = false := decide_eq_false p1
      go_enter Tryz.func156, Tryz.ntmps156
      go_wp2
      go_ret
      exact ⟨fin _ (by simp [preyB, inb]; omega), (Below.refl _ _).alloc (Nat.le_refl _) _⟩
  · have qI := fun w => isId_c py w
    cases t : inb py 1 99
    · rw [t] at qI
      go_enter Tryz.func156, Tryz.ntmps156
      go_wp2_with (go_at_call 152; refine (qI _).mono ?_; rintro e w1 ⟨rfl, rfl⟩)
      go_ret
      exact ⟨fin _ (by simp [preyB, *]), (Below.refl _ _).alloc (Nat.le_refl _) _⟩
    · rw [t] at qI
      cases q : py == i
      · have q' := bne_of q
        go_enter Tryz.func156, Tryz.ntmps156
        go_wp2_with (go_at_call 152; refine (qI _).mono ?_; rintro e w1 ⟨rfl, rfl⟩)
        go_ret
        exact ⟨fin _ (by simp [preyB, bne, *]), (Below.refl _ _).alloc (Nat.le_refl _) _⟩
      · have q' : (py != i) = false := by simp only [bne, q]; rfl
        go_enter Tryz.func156, Tryz.ntmps156
        go_wp2_with (go_at_call 152; refine (qI _).mono ?_; rintro e w1 ⟨rfl, rfl⟩)
        go_ret
        exact ⟨fin _ (by simp [preyB, bne, *]), (Below.refl _ _).alloc (Nat.le_refl _) _⟩
  · go_enter Tryz.func156, Tryz.ntmps156
    go_wp2
    go_ret
    exact ⟨fin _ (by simp at j2 j3; simp [preyB, *]), (Below.refl _ _).alloc (Nat.le_refl _) _⟩
/- the program asks more of the tile, and it is the same: where the job has no tile, the tile is (0, 0) -/
theorem jf_impl (i j tx ty py : Int) (hf : form j tx ty py = true) : rng i j tx ty py = (tile tx ty && preyB i j py) := by
  have t00 : tile 0 0 = true := by decide
  unfold form at hf
  unfold rng preyB
  by_cases h0 : j = 0
  · subst h0; simp at hf; rw [hf.1.1, hf.1.2, t00]; simp
  by_cases h1 : j = 1
  · subst h1; simp
  by_cases h2 : j = 2
  · subst h2; simp at hf; rw [hf.1, hf.2, t00]; simp
  by_cases h3 : j = 3
  · subst h3; simp at hf; rw [hf.1, hf.2, t00]; simp
  · simp [h0, h1, h2, h3] at hf
set_option maxHeartbeats 4000000 in
theorem implUnitFault (x : K10) (w : World) :
    Calls Tryz.prog 107 #[.agg x.v] w fun e w' => e = .returned (.int .i64 (uf x)) ∧ Below w.heap.size w w' := by
  obtain ⟨i, o, x, y, l, c, j, tx, ty, py⟩ := x
  have q1 := fun w => isId_c i w
  have q2 := fun w => isOwner_c o w
  have q3 := fun w => isTile_c x y w
  have q4 := fun w => isLife_c l w
  have q5 := fun w => isCarry_c c w
  have q6 := fun w => hasJobForm_c i o x y l c j tx ty py w
  have q7 := fun w => isTile_c tx ty w
  have q8 := fun w => isPrey_c i o x y l c j tx ty py w
  have B1 : Below w.heap.size w (w.alloc (.cells (K10.v ⟨i, o, x, y, l, c, j, tx, ty, py⟩) 105)) := (Below.refl _ _).alloc (Nat.le_refl _) _
  have S1 : U1 (w.alloc (.cells (K10.v ⟨i, o, x, y, l, c, j, tx, ty, py⟩) 105)) w.heap.size 0 ⟨i, o, x, y, l, c, j, tx, ty, py⟩ := U1.new w _ _
  rcases head_cases i o x y l c with ⟨e1, eh⟩ | ⟨e1, e2, eh⟩ | ⟨e1, e2, e3, eh⟩ | ⟨e1, e2, e3, e4, eh⟩ | ⟨e1, e2, e3, e4, e5, eh⟩ | ⟨e1, e2, e3, e4, e5, eh⟩
  case' inr.inr.inr.inr.inr => skip
  all_goals
    try rw [e1] at q1
    try rw [e2] at q2
    try rw [e3] at q3
    try rw [e4] at q4
    try rw [e5] at q5
    first | rw [uf_no eh] | rw [uf_yes eh]
  all_goals try
    go_enter Tryz.func107, Tryz.ntmps107
    go_wp2_with (first | (go_at_call 152; refine (q1 _).mono ?_; rintro e w1 ⟨rfl, rfl⟩) | (go_at_call 126; refine (q2 _).mono ?_; rintro e w1 ⟨rfl, rfl⟩) | (go_at_call 108; refine (q3 _).mono ?_; rintro e w1 ⟨rfl, rfl⟩) | (go_at_call 153; refine (q4 _).mono ?_; rintro e w1 ⟨rfl, rfl⟩) | (go_at_call 154; refine (q5 _).mono ?_; rintro e w1 ⟨rfl, rfl⟩))
    go_ret
    exact ⟨rfl, B1⟩
  unfold jf
  show Calls _ _ _ _ fun e w' => e = .returned (.int .i64 (if form j tx ty py = false then 1 else if rng i j tx ty py = false then 3 else 0)) ∧ _
  cases ef : form j tx ty py
  · rw [ef] at q6
    go_enter Tryz.func107, Tryz.ntmps107
    go_wp2_with (first | (go_at_call 152; refine (q1 _).mono ?_; rintro e w1 ⟨rfl, rfl⟩) | (go_at_call 126; refine (q2 _).mono ?_; rintro e w1 ⟨rfl, rfl⟩) | (go_at_call 108; refine (q3 _).mono ?_; rintro e w1 ⟨rfl, rfl⟩) | (go_at_call 153; refine (q4 _).mono ?_; rintro e w1 ⟨rfl, rfl⟩) | (go_at_call 154; refine (q5 _).mono ?_; rintro e w1 ⟨rfl, rfl⟩))
    refine (q6 _).mono ?_
    rintro e w2 ⟨rfl, b2⟩
    go_wp2
    go_ret
    exact ⟨rfl, B1.trans (b2.mono B1.size)⟩
  · rw [jf_impl i j tx ty py ef]
    rw [ef] at q6
    cases et : tile tx ty
    · rw [et] at q7
      go_enter Tryz.func107, Tryz.ntmps107
      go_wp2_with (first | (go_at_call 152; refine (q1 _).mono ?_; rintro e w1 ⟨rfl, rfl⟩) | (go_at_call 126; refine (q2 _).mono ?_; rintro e w1 ⟨rfl, rfl⟩) | (go_at_call 108; refine (q3 _).mono ?_; rintro e w1 ⟨rfl, rfl⟩) | (go_at_call 153; refine (q4 _).mono ?_; rintro e w1 ⟨rfl, rfl⟩) | (go_at_call 154; refine (q5 _).mono ?_; rintro e w1 ⟨rfl, rfl⟩))
      refine (q6 _).mono ?_
      rintro e w2 ⟨rfl, b2⟩
      obtain ⟨d0, d1, d2, d3, d4, d5, d6, d7, d8, d9, dl⟩ := S1.later b2
      go_wp2_with fail
      refine (q7 _).mono ?_
      rintro e w3 ⟨rfl, rfl⟩
      go_wp2
      go_ret
      exact ⟨rfl, B1.trans (b2.mono B1.size)⟩
    · rw [et] at q7
      cases ep : preyB i j py
      all_goals
        rw [ep] at q8
        go_enter Tryz.func107, Tryz.ntmps107
        go_wp2_with (first | (go_at_call 152; refine (q1 _).mono ?_; rintro e w1 ⟨rfl, rfl⟩) | (go_at_call 126; refine (q2 _).mono ?_; rintro e w1 ⟨rfl, rfl⟩) | (go_at_call 108; refine (q3 _).mono ?_; rintro e w1 ⟨rfl, rfl⟩) | (go_at_call 153; refine (q4 _).mono ?_; rintro e w1 ⟨rfl, rfl⟩) | (go_at_call 154; refine (q5 _).mono ?_; rintro e w1 ⟨rfl, rfl⟩))
        refine (q6 _).mono ?_
        rintro e w2 ⟨rfl, b2⟩
        have B2 := B1.trans (b2.mono B1.size)
        obtain ⟨d0, d1, d2, d3, d4, d5, d6, d7, d8, d9, dl⟩ := S1.later b2
        go_wp2_with fail
        refine (q7 _).mono ?_
        rintro e w3 ⟨rfl, rfl⟩
        go_wp2_with fail
        refine (q8 _).mono ?_
        rintro e w4 ⟨rfl, b4⟩
        go_wp2
        go_ret
        exact ⟨rfl, B2.trans (b4.mono B2.size)⟩
end Go.Proofs.YthopodopedbooaaGreat
end

/- BoardWalks -/
/- Contracts of BoardFault and of its model. Condition: the board's two lists lie in memory as they were laid there. -/
section
namespace Go.Proofs.YthopodopedbooaaGreat
open Go.ChangeShapes Go.WideShapes Go.ChangeAt Go.RowKit
open Bd
set_option linter.unusedVariables false

/- A board in a block of memory: its two slices. -/
structure BrdAt (w : World) (p : Nat) (s f : Value) : Prop where
  c0 : w.cell? ⟨p, 0, none⟩ = some s
  c1 : w.cell? ⟨p, 1, none⟩ = some f
  lt : p < w.heap.size
theorem BrdAt.later {w w' : World} {p : Nat} {s f : Value} (h : BrdAt w p s f) (hb : Below w.heap.size w w') : BrdAt w' p s f :=
  ⟨by rw [hb.cell h.lt]; exact h.c0, by rw [hb.cell h.lt]; exact h.c1, Nat.lt_of_lt_of_le h.lt hb.size⟩
theorem BrdAt.new (w : World) (s f : Value) (t : TypeId) : BrdAt (w.alloc (.cells #[s, f] t)) w.heap.size s f :=
  ⟨cell_new _ _ _ _ _ rfl, cell_new _ _ _ _ _ rfl, by rw [size_new]; omega⟩
theorem ArgU.at {w : World} {a : Option Addr} {l : List K10} (h : ArgU w a l) {i : Nat} {x : K10} (hi : l[i]? = some x) : ∃ b off, a = some ⟨b, off, none⟩ ∧ b < w.heap.size ∧ UAt w b off l := by
  rcases h with h | h
  · rw [h] at hi; simp at hi
  · exact h
theorem ArgF.at {w : World} {a : Option Addr} {l : List K3} (h : ArgF w a l) {i : Nat} {x : K3} (hi : l[i]? = some x) : ∃ b off, a = some ⟨b, off, none⟩ ∧ b < w.heap.size ∧ FAt w b off l := by
  rcases h with h | h
  · rw [h] at hi; simp at hi
  · exact h

set_option maxHeartbeats 4000000 in
theorem l4Fault_c (p : Nat) (a : Option Addr) (m c : Nat) (a' : Option Addr) (m' c' : Nat) (us : List K10) (fs : List K3) (hl : us.length = m) (hl' : fs.length = m') (w : World) (hB : BrdAt w p (.slice a m c) (.slice a' m' c')) (hU : ArgU w a us) (hF : ArgF w a' fs) :
    Calls Tryz.prog 101 #[.pointer (some ⟨p, 0, none⟩)] w fun e w' => e = .returned (.int .i64 (bf us fs)) ∧ Below w.heap.size w w' := by
  have HB : Hid (BrdAt w p (.slice a m c) (.slice a' m' c')) := hB
  have HU : Hid (ArgU w a us) := hU
  have HF : Hid (ArgF w a' fs) := hF
  have Hl : Hid (us.length = m) := hl
  have Hl' : Hid (fs.length = m') := hl'
  obtain ⟨b0, b1, blt⟩ := hB
  clear hU hF
  by_cases h8 : 8 < m
  · have e : bf us fs = 2 := by unfold bf; rw [if_pos (by omega)]
    rw [e]
    clear e hl hl'
    have d : (8 : Int) < (m : Int) := by omega
    go_enter Tryz.func101, Tryz.ntmps101
    go_wp2
    go_ret
    exact ⟨rfl, Below.refl _ _⟩
  by_cases h4 : 4 < m'
  · have e : bf us fs = 2 := by unfold bf; rw [if_pos (by omega)]
    rw [e]
    clear e hl hl'
    have d0 : decide ((8 : Int) < (m : Int)) = false := decide_eq_false (by omega)
    have d : (4 : Int) < (m' : Int) := by omega
    go_enter Tryz.func101, Tryz.ntmps101
    go_wp2
    go_ret
    exact ⟨rfl, Below.refl _ _⟩
  have e : bf us fs = ufs (prevId us 0) (ffs fs) (us.drop 0) := by unfold bf prevId; rw [if_neg (by omega), if_pos rfl]; rfl
  obtain ⟨R, HR⟩ : ∃ R : Int, Hid (R = bf us fs) := ⟨_, rfl⟩
  rw [← HR.out]
  have HR0 : Hid (R = ufs (prevId us 0) (ffs fs) (us.drop 0)) := by show _ = _; rw [HR.out, e]
  clear e hl hl' HR
  have d8 : decide ((8 : Int) < (m : Int)) = false := decide_eq_false (by omega)
  have d4 : decide ((4 : Int) < (m' : Int)) = false := decide_eq_false (by omega)
  go_enter Tryz.func101, Tryz.ntmps101
  go_wp2
  go_loopw [3] (fun i wr => ∃ k : Nat, k ≤ m ∧ i = .int .i64 k ∧ Hid (R = ufs (prevId us k) (ffs fs) (us.drop k)) ∧ Below w.heap.size w wr) (fun i _ => m - (intOf i).toNat)
  case atStart => exact ⟨0, Nat.zero_le _, rfl, HR0, Below.refl _ _⟩
  case round =>
    obtain ⟨k, hk, rfl, Hk, hbel⟩ := hrel
    obtain ⟨b0, b1, blt⟩ := HB.out.later hbel
    by_cases hlt : k < m
    · have hlt' : (k : Int) < (m : Int) := by omega
      obtain ⟨x, hx⟩ : ∃ x, us[k]? = some x := ⟨_, List.getElem?_eq_getElem (by have := Hl.out; omega)⟩
      obtain ⟨b, off, rfl, hb, hat⟩ := HU.out.at hx
      have cU := l4Unit_c b (off + k * 10) x _ ((hat.later hb hbel).one (Nat.lt_of_lt_of_le hb hbel.size) hx)
      have HS : Hid (R = if (uf x == 0) = false then uf x else if leP (prevId us k) x.c0 = true then 1 else ufs (some x.c0) (ffs fs) (us.drop (k + 1))) := by show _ = _; rw [Hk.out, ufs_step hx]
      have Hx : Hid (us[k]? = some x) := hx
      have Hat : Hid (UAt w b off us) := hat
      clear hx hat
      go_wp2_with fail
      refine cU.mono ?_
      rintro e w1 ⟨rfl, k1⟩
      have hbel1 := hbel.trans (k1.mono hbel.size)
      obtain ⟨b0, b1, blt⟩ := HB.out.later hbel1
      clear cU
      cases hq : uf x == 0
      · have HE : Hid (R = uf x) := by show _ = _; rw [HS.out, if_pos hq]
        have hq' := bne_of hq
        go_wp2
        go_ret
        exact ⟨by rw [HE.out]; rfl, hbel1⟩
      · have hz : uf x = 0 := by simpa using hq
        have hq' : (uf x != 0) = false := by simp only [bne, hq]; rfl
        have HN : Hid (prevId us (k + 1) = some x.c0) := prevId_next Hx.out
        rcases k with _ | k
        · have HE : Hid (R = ufs (prevId us (0 + 1)) (ffs fs) (us.drop (0 + 1))) := by show _ = _; rw [HS.out, if_neg (by rw [hq]; simp), HN.out]; rfl
          go_wp2
          go_quiet (fail)
          go_wp2
          go_roundw
          case rel => exact ⟨0 + 1, by omega, by go_num, HE, hbel1.trans ((below_drewN _ _).mono hbel1.size)⟩
          case measure => simp [intOf]; omega
        · obtain ⟨y, hy⟩ : ∃ y, us[k]? = some y := ⟨_, List.getElem?_eq_getElem (by have := Hl.out; omega)⟩
          have HP : Hid (prevId us (k + 1) = some y.c0) := prevId_next hy
          have a0 := (Hat.out.later hb hbel1).all Hx.out |>.1
          have a1 := (Hat.out.later hb hbel1).all hy |>.1
          clear hy
          cases hd : decide (x.c0 ≤ y.c0)
          · have HE : Hid (R = ufs (prevId us (k + 1 + 1)) (ffs fs) (us.drop (k + 1 + 1))) := by
              show _ = _
              rw [HS.out, if_neg (by rw [hq]; simp), HN.out, HP.out, if_neg (by show ¬ decide (x.c0 ≤ y.c0) = true; rw [hd]; simp)]
            go_wp2
            go_quiet (fail)
            go_wp2
            go_roundw
            case rel => exact ⟨k + 1 + 1, by omega, by go_num, HE, hbel1.trans ((below_drewN _ _).mono hbel1.size)⟩
            case measure => simp [intOf]; omega
          · have HE : Hid (R = 1) := by
              show _ = _
              rw [HS.out, if_neg (by rw [hq]; simp), HP.out, if_pos (show leP (some y.c0) x.c0 = true from hd)]
            go_wp2
            go_quiet (fail)
            go_wp2
            go_ret
            exact ⟨by rw [HE.out]; rfl, hbel1.trans ((below_drewN _ _).mono hbel1.size)⟩
    · obtain rfl : k = m := by omega
      have HE : Hid (R = ffs (fs.drop 0)) := by show _ = _; rw [Hk.out, List.drop_of_length_le (by have := Hl.out; omega)]; rfl
      clear Hk
      go_wp2
      go_loopw [5] (fun i wr => ∃ k : Nat, k ≤ m' ∧ i = .int .i64 k ∧ Hid (R = ffs (fs.drop k)) ∧ Below w.heap.size w wr) (fun i _ => m' - (intOf i).toNat)
      case atStart => exact ⟨0, Nat.zero_le _, rfl, HE, hbel⟩
      case round =>
        obtain ⟨j, hj, rfl, Hj, hbel⟩ := hrel
        obtain ⟨b0, b1, blt⟩ := HB.out.later hbel
        by_cases hlt : j < m'
        · have hlt' : (j : Int) < (m' : Int) := by omega
          obtain ⟨x, hx⟩ : ∃ x, fs[j]? = some x := ⟨_, List.getElem?_eq_getElem (by have := Hl'.out; omega)⟩
          obtain ⟨b, off, rfl, hb, hat⟩ := HF.out.at hx
          have HS : Hid (R = if ff x = false then 3 else ffs (fs.drop (j + 1))) := by show _ = _; rw [Hj.out, ffs_step hx]
          obtain ⟨x0, x1, x2, xl⟩ := (hat.later hb hbel).one (Nat.lt_of_lt_of_le hb hbel.size) hx
          have P0 := fun n => Later.cell blt b1 n
          have X0 := fun n => Later.cell xl x0 n
          have X1 := fun n => Later.cell xl x1 n
          have X2 := fun n => Later.cell xl x2 n
          have q1 := fun w => l1Tile_c x.c0 x.c1 w
          have q2 := fun w => l1In_c x.c2 0 10000 w
          clear hx hat
          have hff : (tile x.c0 x.c1 = false ∧ ff x = false) ∨ (tile x.c0 x.c1 = true ∧ inb x.c2 0 10000 = false ∧ ff x = false) ∨ (tile x.c0 x.c1 = true ∧ inb x.c2 0 10000 = true ∧ ff x = true) := by
            unfold ff; cases tile x.c0 x.c1 <;> cases inb x.c2 0 10000 <;> simp
          rcases hff with ⟨e1, ef⟩ | ⟨e1, e2, ef⟩ | ⟨e1, e2, ef⟩
          · have HE : Hid (R = 3) := by show _ = _; rw [HS.out, if_pos ef]
            rw [e1] at q1
            go_wp2_with fail
            refine wp_region_later (by kernel_rfl) (by kernel_rfl) (fun hne => ?_)
            repeat (go_big_quiet_step (first | (go_at_call 149; exact Later.call0 (q1 _)) | (go_at_call 100; exact Later.call0 (q2 _))))
            refine wpQuiet_nil ?_
            rintro _ ⟨nn, rfl⟩
            have hb2 := hbel.trans (nn.bel.mono hbel.size)
            clear P0 X0 X1 X2 hne
            go_wp2_with fail
            go_ret
            exact ⟨by rw [HE.out]; rfl, hb2⟩
          · have HE : Hid (R = 3) := by show _ = _; rw [HS.out, if_pos ef]
            rw [e1] at q1
            rw [e2] at q2
            go_wp2_with fail
            refine wp_region_later (by kernel_rfl) (by kernel_rfl) (fun hne => ?_)
            repeat (go_big_quiet_step (first | (go_at_call 149; exact Later.call0 (q1 _)) | (go_at_call 100; exact Later.call0 (q2 _))))
            refine wpQuiet_nil ?_
            rintro _ ⟨nn, rfl⟩
            have hb2 := hbel.trans (nn.bel.mono hbel.size)
            clear P0 X0 X1 X2 hne
            go_wp2_with fail
            go_ret
            exact ⟨by rw [HE.out]; rfl, hb2⟩
          · have HE : Hid (R = ffs (fs.drop (j + 1))) := by show _ = _; rw [HS.out, if_neg (by rw [ef]; simp)]
            rw [e1] at q1
            rw [e2] at q2
            go_wp2_with fail
            refine wp_region_later (by kernel_rfl) (by kernel_rfl) (fun hne => ?_)
            repeat (go_big_quiet_step (first | (go_at_call 149; exact Later.call0 (q1 _)) | (go_at_call 100; exact Later.call0 (q2 _))))
            refine wpQuiet_nil ?_
            rintro _ ⟨nn, rfl⟩
            have hb2 := hbel.trans (nn.bel.mono hbel.size)
            clear P0 X0 X1 X2 hne
            go_wp2_with fail
            go_roundw
            case rel => exact ⟨j + 1, by omega, by go_num, HE, hb2⟩
            case measure => simp [intOf]; omega
        · obtain rfl : j = m' := by omega
          have HE : Hid (R = 0) := by show _ = _; rw [Hj.out, List.drop_of_length_le (by have := Hl'.out; omega)]; rfl
          go_wp2
          go_ret
          exact ⟨by rw [HE.out]; rfl, hbel⟩
end Go.Proofs.YthopodopedbooaaGreat
end
