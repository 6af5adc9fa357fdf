/- Texts of mine put together (a claim holds at most 60 files): UnitWalks2, BoardWalks, WfImpl3. -/
import Derived.Test.YtlfnnobkgbfdgaaGreatPartH04
import Derived.Test.YtlfnnobkgbfdgaaGreatPartH03

/- UnitWalks2 -/
/- Contracts of UnitFault and of its model. No condition. -/
section
namespace Go.Proofs.YtlfnnobkgbfdgaaGreat
open Go.ChangeShapes Go.WideShapes Go.ChangeAt Go.RowKit
open Bd
set_option linter.unusedVariables false

theorem U1.job {w : World} {p o : Nat} {x : K10} (h : U1 w p o x) : J5 w p o x.c0 x.c6 x.c7 x.c8 x.c9 := ⟨h.c0, h.c6, h.c7, h.c8, h.c9, h.lt⟩
/- how a head comes out -/
theorem head_cases (i o x y l c : Int) :
    (inb i 1 99 = false ∧ head i o x y l c = false) ∨ (inb i 1 99 = true ∧ own o = false ∧ head i o x y l c = false) ∨ (inb i 1 99 = true ∧ own o = true ∧ tile x y = false ∧ head i o x y l c = false) ∨
    (inb i 1 99 = true ∧ own o = true ∧ tile x y = true ∧ inb l 1 50 = false ∧ head i o x y l c = false) ∨ (inb i 1 99 = true ∧ own o = true ∧ tile x y = true ∧ inb l 1 50 = true ∧ inb c 0 20 = false ∧ head i o x y l c = false) ∨
    (inb i 1 99 = true ∧ own o = true ∧ tile x y = true ∧ inb l 1 50 = true ∧ inb c 0 20 = true ∧ head i o x y l c = true) := by
  unfold head
  cases inb i 1 99 <;> cases own o <;> cases tile x y <;> cases inb l 1 50 <;> cases inb c 0 20 <;> simp
theorem uf_no {x : K10} (h : head x.c0 x.c1 x.c2 x.c3 x.c4 x.c5 = false) : uf x = 3 := by unfold uf; rw [if_pos h]
theorem uf_yes {x : K10} (h : head x.c0 x.c1 x.c2 x.c3 x.c4 x.c5 = true) : uf x = jf x.c0 x.c6 x.c7 x.c8 x.c9 := by unfold uf; rw [if_neg (by rw [h]; simp)]

set_option maxHeartbeats 4000000 in
theorem l4Unit_c (p o : Nat) (x : K10) (w : World) (h : U1 w p o x) :
    Calls Tryz.prog 94 #[.pointer (some ⟨p, o, none⟩)] w fun e w' => e = .returned (.int .i64 (uf x)) ∧ Below w.heap.size w w' := by
  have H : Hid (U1 w p o x) := h
  have q1 := fun w => l1In_c x.c0 1 99 w
  have q2 := fun w => l4Owner_c x.c1 w
  have q3 := fun w => l1Tile_c x.c2 x.c3 w
  have q4 := fun w => l1In_c x.c4 1 50 w
  have q5 := fun w => l1In_c x.c5 0 20 w
  have A0 := fun n => Later.cell h.lt h.c0 n
  have A1 := fun n => Later.cell h.lt h.c1 n
  have A2 := fun n => Later.cell h.lt h.c2 n
  have A3 := fun n => Later.cell h.lt h.c3 n
  have A4 := fun n => Later.cell h.lt h.c4 n
  have A5 := fun n => Later.cell h.lt h.c5 n
  clear h
  rcases head_cases x.c0 x.c1 x.c2 x.c3 x.c4 x.c5 with ⟨e1, eh⟩ | ⟨e1, e2, eh⟩ | ⟨e1, e2, e3, eh⟩ | ⟨e1, e2, e3, e4, eh⟩ | ⟨e1, e2, e3, e4, e5, eh⟩ | ⟨e1, e2, e3, e4, e5, eh⟩
  all_goals
    try rw [e1] at q1
    try rw [e2] at q2
    try rw [e3] at q3
    try rw [e4] at q4
    try rw [e5] at q5
    first | rw [uf_no eh] | rw [uf_yes eh]
    go_enter Tryz.func94, Tryz.ntmps94
    go_wp2_with fail
    refine wp_region_later (by kernel_rfl) (by kernel_rfl) (fun hne => ?_)
    repeat (go_big_quiet_step (first | (go_at_call 56; exact Later.call0 (l1In_c _ _ _ _)) | (go_at_call 114; exact Later.call0 (q2 _)) | (go_at_call 95; exact Later.call0 (q3 _))))
    refine wpQuiet_nil ?_
    rintro _ ⟨n1, rfl⟩
    clear A0 A1 A2 A3 A4 A5 hne
  all_goals try
    go_wp2_with fail
    go_ret
    exact ⟨rfl, n1.bel⟩
  have cJ := l4Job_c p o x.c0 x.c6 x.c7 x.c8 x.c9 _ (H.out.job.later n1.bel)
  go_wp2_with fail
  refine cJ.mono ?_
  rintro e w2 ⟨rfl, b2⟩
  have B2 := n1.bel.trans (b2.mono n1.bel.size)
  go_wp2_with fail
  go_ret
  exact ⟨rfl, B2⟩
set_option maxHeartbeats 4000000 in
theorem hasJobForm_c (i o x y l c j tx ty py : Int) (w : World) :
    Calls Tryz.prog 105 #[.agg (K10.v ⟨i, o, x, y, l, c, j, tx, ty, py⟩)] w fun e w' => e = .returned (.bool (form j tx ty py)) ∧ Below w.heap.size w w' := by
  have fin : ∀ b, b = form j tx ty py → (fun b : Bool => Ending.returned (Value.bool b)) b = Ending.returned (Value.bool (form j tx ty py)) := fun b hb => by rw [hb]
  rcases job_cases j with rfl | rfl | rfl | rfl | ⟨j0, j1, j2, j3⟩
  all_goals
    rcases ne_cases tx with rfl | ⟨a, a'⟩
  all_goals
    rcases ne_cases ty with rfl | ⟨b, b'⟩
  all_goals
    rcases ne_cases py with rfl | ⟨d, d'⟩
  all_goals
    go_enter Tryz.func105, Tryz.ntmps105
    go_wp2
    go_ret
    exact ⟨fin _ (by first | exact (form_other j0 j1 j2 j3).symm | (simp [form, *]; done)), (Below.refl _ _).alloc (Nat.le_refl _) _⟩
def preyB (i j py : Int) : Bool := if j = 2 then inb py 0 3 else if j = 3 then inb py 1 99 && (py != i) else true
set_option maxHeartbeats 4000000 in
theorem isPrey_c (i o x y l c j tx ty py : Int) (w : World) :
    Calls Tryz.prog 106 #[.agg (K10.v ⟨i, o, x, y, l, c, j, tx, ty, py⟩)] w fun e w' => e = .returned (.bool (preyB i j py)) ∧ Below w.heap.size w w' := by
  have fin : ∀ b, b = preyB i j py → (fun b : Bool => Ending.returned (Value.bool b)) b = Ending.returned (Value.bool (preyB i j py)) := fun b hb => by rw [hb]
  rcases job_cases j with rfl | rfl | rfl | rfl | ⟨j0, j1, j2, j3⟩
  · go_enter Tryz.func106, Tryz.ntmps106
    go_wp2
    go_ret
    exact ⟨fin _ (by simp [preyB, *]), (Below.refl _ _).alloc (Nat.le_refl _) _⟩
  · go_enter Tryz.func106, Tryz.ntmps106
    go_wp2
    go_ret
    exact ⟨fin _ (by simp [preyB, *]), (Below.refl _ _).alloc (Nat.le_refl _) _⟩
  · by_cases p1 : 0 ≤ py
    · by_cases p2 : py < 4
      · go_enter Tryz.func106, Tryz.ntmps106
        go_wp2
        go_ret
        exact ⟨fin _ (by simp [preyB, inb]; omega), (Below.refl _ _).alloc (Nat.le_refl _) _⟩
      · have d : decide (py < 4) = false := decide_eq_false p2
        go_enter Tryz.func106, Tryz.ntmps106
        go_wp2
        go_ret
        exact ⟨fin _ (by simp [preyB, inb]; omega), (Below.refl _ _).alloc (Nat.le_refl _) _⟩
    · have d : decide (0 ≤ py) = false := decide_eq_false p1
      go_enter Tryz.func106, Tryz.ntmps106
      go_wp2
      go_ret
      exact ⟨fin _ (by simp [preyB, inb]; omega), (Below.refl _ _).alloc (Nat.le_refl _) _⟩
  · have qI := fun w => isId_c py w
    cases t : inb py 1 99
    · rw [t] at qI
      go_enter Tryz.func106, Tryz.ntmps106
      go_wp2_with (go_at_call 102; refine (qI _).mono ?_; rintro e w1 ⟨rfl, rfl⟩)
      go_ret
      exact ⟨fin _ (by simp [preyB, *]), (Below.refl _ _).alloc (Nat.le_refl _) _⟩
    · rw [t] at qI
      cases q : py == i
      · have q' := bne_of q
        go_enter Tryz.func106, Tryz.ntmps106
        go_wp2_with (go_at_call 102; refine (qI _).mono ?_; rintro e w1 ⟨rfl, rfl⟩)
        go_ret
        exact ⟨fin _ (by simp [preyB, bne, *]), (Below.refl _ _).alloc (Nat.le_refl _) _⟩
      · have q' : (py != i) = false := by simp only [bne, q]; rfl
        go_enter Tryz.func106, Tryz.ntmps106
        go_wp2_with (go_at_call 102; refine (qI _).mono ?_; rintro e w1 ⟨rfl, rfl⟩)
        go_ret
        exact ⟨fin _ (by simp [preyB, bne, *]), (Below.refl _ _).alloc (Nat.le_refl _) _⟩
  · go_enter Tryz.func106, Tryz.ntmps106
    go_wp2
    go_ret
    exact ⟨fin _ (by simp at j2 j3; simp [preyB, *]), (Below.refl _ _).alloc (Nat.le_refl _) _⟩
/- the program asks more of the tile, and it is the same: where the job has no tile, the tile is (0, 0) -/
theorem jf_impl (i j tx ty py : Int) (hf : form j tx ty py = true) : rng i j tx ty py = (tile tx ty && preyB i j py) := by
  have t00 : tile 0 0 = true := by decide
  unfold form at hf
  unfold rng preyB
  by_cases h0 : j = 0
  · subst h0; simp at hf; rw [hf.1.1, hf.1.2, t00]; simp
  by_cases h1 : j = 1
  · subst h1; simp
  by_cases h2 : j = 2
  · subst h2; simp at hf; rw [hf.1, hf.2, t00]; simp
  by_cases h3 : j = 3
  · subst h3; simp at hf; rw [hf.1, hf.2, t00]; simp
  · simp [h0, h1, h2, h3] at hf
set_option maxHeartbeats 4000000 in
theorem implUnitFault (x : K10) (w : World) :
    Calls Tryz.prog 66 #[.agg x.v] w fun e w' => e = .returned (.int .i64 (uf x)) ∧ Below w.heap.size w w' := by
  obtain ⟨i, o, x, y, l, c, j, tx, ty, py⟩ := x
  have q1 := fun w => isId_c i w
  have q2 := fun w => isOwner_c o w
  have q3 := fun w => isTile_c x y w
  have q4 := fun w => isLife_c l w
  have q5 := fun w => isCarry_c c w
  have q6 := fun w => hasJobForm_c i o x y l c j tx ty py w
  have q7 := fun w => isTile_c tx ty w
  have q8 := fun w => isPrey_c i o x y l c j tx ty py w
  have B1 : Below w.heap.size w (w.alloc (.cells (K10.v ⟨i, o, x, y, l, c, j, tx, ty, py⟩) 68)) := (Below.refl _ _).alloc (Nat.le_refl _) _
  have S1 : U1 (w.alloc (.cells (K10.v ⟨i, o, x, y, l, c, j, tx, ty, py⟩) 68)) w.heap.size 0 ⟨i, o, x, y, l, c, j, tx, ty, py⟩ := U1.new w _ _
  rcases head_cases i o x y l c with ⟨e1, eh⟩ | ⟨e1, e2, eh⟩ | ⟨e1, e2, e3, eh⟩ | ⟨e1, e2, e3, e4, eh⟩ | ⟨e1, e2, e3, e4, e5, eh⟩ | ⟨e1, e2, e3, e4, e5, eh⟩
  case' inr.inr.inr.inr.inr => skip
  all_goals
    try rw [e1] at q1
    try rw [e2] at q2
    try rw [e3] at q3
    try rw [e4] at q4
    try rw [e5] at q5
    first | rw [uf_no eh] | rw [uf_yes eh]
  all_goals try
    go_enter Tryz.func66, Tryz.ntmps66
    go_wp2_with (first | (go_at_call 102; refine (q1 _).mono ?_; rintro e w1 ⟨rfl, rfl⟩) | (go_at_call 74; refine (q2 _).mono ?_; rintro e w1 ⟨rfl, rfl⟩) | (go_at_call 67; refine (q3 _).mono ?_; rintro e w1 ⟨rfl, rfl⟩) | (go_at_call 103; refine (q4 _).mono ?_; rintro e w1 ⟨rfl, rfl⟩) | (go_at_call 104; refine (q5 _).mono ?_; rintro e w1 ⟨rfl, rfl⟩))
    go_ret
    exact ⟨rfl, B1⟩
  unfold jf
  show Calls _ _ _ _ fun e w' => e = .returned (.int .i64 (if form j tx ty py = false then 1 else if rng i j tx ty py = false then 3 else 0)) ∧ _
  cases ef : form j tx ty py
  · rw [ef] at q6
    go_enter Tryz.func66, Tryz.ntmps66
    go_wp2_with (first | (go_at_call 102; refine (q1 _).mono ?_; rintro e w1 ⟨rfl, rfl⟩) | (go_at_call 74; refine (q2 _).mono ?_; rintro e w1 ⟨rfl, rfl⟩) | (go_at_call 67; refine (q3 _).mono ?_; rintro e w1 ⟨rfl, rfl⟩) | (go_at_call 103; refine (q4 _).mono ?_; rintro e w1 ⟨rfl, rfl⟩) | (go_at_call 104; refine (q5 _).mono ?_; rintro e w1 ⟨rfl, rfl⟩))
    refine (q6 _).mono ?_
    rintro e w2 ⟨rfl, b2⟩
    go_wp2
    go_ret
    exact ⟨rfl, B1.trans (b2.mono B1.size)⟩
  · rw [jf_impl i j tx ty py ef]
    rw [ef] at q6
    cases et : tile tx ty
    · rw [et] at q7
      go_enter Tryz.func66, Tryz.ntmps66
      go_wp2_with (first | (go_at_call 102; refine (q1 _).mono ?_; rintro e w1 ⟨rfl, rfl⟩) | (go_at_call 74; refine (q2 _).mono ?_; rintro e w1 ⟨rfl, rfl⟩) | (go_at_call 67; refine (q3 _).mono ?_; rintro e w1 ⟨rfl, rfl⟩) | (go_at_call 103; refine (q4 _).mono ?_; rintro e w1 ⟨rfl, rfl⟩) | (go_at_call 104; refine (q5 _).mono ?_; rintro e w1 ⟨rfl, rfl⟩))
      refine (q6 _).mono ?_
      rintro e w2 ⟨rfl, b2⟩
      obtain ⟨d0, d1, d2, d3, d4, d5, d6, d7, d8, d9, dl⟩ := S1.later b2
      go_wp2_with fail
      refine (q7 _).mono ?_
      rintro e w3 ⟨rfl, rfl⟩
      go_wp2
      go_ret
      exact ⟨rfl, B1.trans (b2.mono B1.size)⟩
    · rw [et] at q7
      cases ep : preyB i j py
      all_goals
        rw [ep] at q8
        go_enter Tryz.func66, Tryz.ntmps66
        go_wp2_with (first | (go_at_call 102; refine (q1 _).mono ?_; rintro e w1 ⟨rfl, rfl⟩) | (go_at_call 74; refine (q2 _).mono ?_; rintro e w1 ⟨rfl, rfl⟩) | (go_at_call 67; refine (q3 _).mono ?_; rintro e w1 ⟨rfl, rfl⟩) | (go_at_call 103; refine (q4 _).mono ?_; rintro e w1 ⟨rfl, rfl⟩) | (go_at_call 104; refine (q5 _).mono ?_; rintro e w1 ⟨rfl, rfl⟩))
        refine (q6 _).mono ?_
        rintro e w2 ⟨rfl, b2⟩
        have B2 := B1.trans (b2.mono B1.size)
        obtain ⟨d0, d1, d2, d3, d4, d5, d6, d7, d8, d9, dl⟩ := S1.later b2
        go_wp2_with fail
        refine (q7 _).mono ?_
        rintro e w3 ⟨rfl, rfl⟩
        go_wp2_with fail
        refine (q8 _).mono ?_
        rintro e w4 ⟨rfl, b4⟩
        go_wp2
        go_ret
        exact ⟨rfl, B2.trans (b4.mono B2.size)⟩
end Go.Proofs.YtlfnnobkgbfdgaaGreat
end

/- BoardWalks -/
/- Contracts of BoardFault and of its model. Condition: the board's two lists lie in memory as they were laid there. -/
section
namespace Go.Proofs.YtlfnnobkgbfdgaaGreat
open Go.ChangeShapes Go.WideShapes Go.ChangeAt Go.RowKit
open Bd
set_option linter.unusedVariables false

/- A board in a block of memory: its two slices. -/
structure BrdAt (w : World) (p : Nat) (s f : Value) : Prop where
  c0 : w.cell? ⟨p, 0, none⟩ = some s
  c1 : w.cell? ⟨p, 1, none⟩ = some f
  lt : p < w.heap.size
theorem BrdAt.later {w w' : World} {p : Nat} {s f : Value} (h : BrdAt w p s f) (hb : Below w.heap.size w w') : BrdAt w' p s f :=
  ⟨by rw [hb.cell h.lt]; exact h.c0, by rw [hb.cell h.lt]; exact h.c1, Nat.lt_of_lt_of_le h.lt hb.size⟩
theorem BrdAt.new (w : World) (s f : Value) (t : TypeId) : BrdAt (w.alloc (.cells #[s, f] t)) w.heap.size s f :=
  ⟨cell_new _ _ _ _ _ rfl, cell_new _ _ _ _ _ rfl, by rw [size_new]; omega⟩
theorem ArgU.at {w : World} {a : Option Addr} {l : List K10} (h : ArgU w a l) {i : Nat} {x : K10} (hi : l[i]? = some x) : ∃ b off, a = some ⟨b, off, none⟩ ∧ b < w.heap.size ∧ UAt w b off l := by
  rcases h with h | h
  · rw [h] at hi; simp at hi
  · exact h
theorem ArgF.at {w : World} {a : Option Addr} {l : List K3} (h : ArgF w a l) {i : Nat} {x : K3} (hi : l[i]? = some x) : ∃ b off, a = some ⟨b, off, none⟩ ∧ b < w.heap.size ∧ FAt w b off l := by
  rcases h with h | h
  · rw [h] at hi; simp at hi
  · exact h

end Go.Proofs.YtlfnnobkgbfdgaaGreat
end

/- WfImpl3 -/
/- Contracts of the program's parts of WorldFault: owners; is an offer among others. Condition: there are four factions, and the lists lie in memory as they were laid there. -/
section
namespace Go.Proofs.YtlfnnobkgbfdgaaGreat
open Go.ChangeShapes Go.WideShapes Go.ChangeAt Go.RowKit
open Bd
set_option linter.unusedVariables false

theorem uf_own {u : K10} (h : uf u = 0) : (0 ≤ u.c1 ∧ u.c1 ≤ 3) ∨ u.c1 = 9 := by
  unfold uf at h
  split at h
  · cases h
  · rename_i hh
    have e : head u.c0 u.c1 u.c2 u.c3 u.c4 u.c5 = true := by revert hh; cases head u.c0 u.c1 u.c2 u.c3 u.c4 u.c5 <;> simp
    unfold head own at e
    rw [Bool.and_eq_true, Bool.and_eq_true, Bool.or_eq_true] at e
    rcases e.2.1 with e | e
    · exact .inl (inb_i e)
    · exact .inr (by simpa using e)
set_option maxHeartbeats 8000000 in
theorem ownersFault_c (t s : Int) (u : Option Addr) (mu uc : Nat) (f : Option Addr) (mf fc : Nat) (a : Option Addr) (ac : Nat) (q : Option Addr) (ms qc : Nat) (r : Option Addr) (mo rc : Nat) (fa : List KA) (us : List K10) (h4 : fa.length = 4) (hl : us.length = mu) (hm : mu ≤ 8) (hu : ∀ x ∈ us, uf x = 0) (w : World) (hA : ArgA w a fa) (hU : ArgU w u us) :
    Calls Tryz.prog 32 #[.agg (wv t s u mu uc f mf fc a 4 ac q ms qc r mo rc)] w fun e w' => e = .returned (.int .i64 (owF fa us)) ∧ Below w.heap.size w w' := by
  obtain ⟨ba, oa, rfl, hba, hat⟩ := hA.four h4
  have B0 : Below w.heap.size w (w.alloc (.cells (wv t s u mu uc f mf fc (some ⟨ba, oa, none⟩) 4 ac q ms qc r mo rc) 32)) := (Below.refl _ _).alloc (Nat.le_refl _) _
  have P0 := Bk.new w (wv t s u mu uc f mf fc (some ⟨ba, oa, none⟩) 4 ac q ms qc r mo rc) 32
  have Hat : Hid (AAt w ba oa fa) := hat
  have HU : Hid (ArgU w u us) := hU
  have Hl : Hid (us.length = mu) := hl
  have H4 : Hid (fa.length = 4) := h4
  have Huf : Hid (∀ x ∈ us, uf x = 0) := hu
  obtain ⟨R, HR⟩ : ∃ R : Int, Hid (R = owF fa us) := ⟨_, rfl⟩
  rw [← HR.out]
  have HR0 : Hid (R = owF fa (us.drop 0)) := HR
  clear hat hU hl h4 hA HR hu
  obtain ⟨W, HW⟩ : ∃ W, Hid (W = w.alloc (.cells (wv t s u mu uc f mf fc (some ⟨ba, oa, none⟩) 4 ac q ms qc r mo rc) 32)) := ⟨_, rfl⟩
  rw [← HW.out] at B0 P0
  have HP : Hid (Bk W w.heap.size (wv t s u mu uc f mf fc (some ⟨ba, oa, none⟩) 4 ac q ms qc r mo rc) 32) := P0
  have p2 := P0.cell (i := 2) rfl
  have pl := P0.lt
  go_enter Tryz.func32, Tryz.ntmps32
  go_upto_region 1 with fail
  rw [← HW.out]
  clear HW P0
  go_wp2_with fail
  go_loopw [9] (fun j wr => ∃ k : Nat, k ≤ mu ∧ j = .int .i64 k ∧ Hid (R = owF fa (us.drop k)) ∧ Below W.heap.size W wr) (fun j _ => mu - (intOf j).toNat)
  case atStart => exact ⟨0, Nat.zero_le _, rfl, HR0, Below.refl _ _⟩
  case round =>
    clear p2 pl
    obtain ⟨k, hk, rfl, Hk, kbel⟩ := hrel
    have hbel := B0.trans (kbel.mono B0.size)
    by_cases hlt : k < mu
    · have hlt' : (k : Int) < (mu : Int) := by omega
      obtain ⟨x, hx⟩ : ∃ x, us[k]? = some x := ⟨_, List.getElem?_eq_getElem (by have := Hl.out; omega)⟩
      obtain ⟨b, off, rfl, hb, hat⟩ := HU.out.at hx
      obtain ⟨x0, x1, x2, x3, x4, x5, x6, x7, x8, x9, xl⟩ := (hat.later hb hbel).one (Nat.lt_of_lt_of_le hb hbel.size) hx
      have hS2 : Hid (R = if ((x.c1 != 9) && goneA fa x.c1) = true then 1 else owF fa (us.drop (k + 1))) := by show _ = _; rw [Hk.out, owF_step hx]
      have ho := uf_own (Huf.out x (List.mem_of_getElem? hx))
      have k4 := hbel.alloc hbel.size (.cells x.v 68)
      have kk4 := kbel.alloc kbel.size (.cells x.v 68)
      clear hx hat Hk
      cases h9 : x.c1 == 9
      · have h9' : (x.c1 != 9) = true := by simp only [bne, h9]; rfl
        have hr : 0 ≤ x.c1 ∧ x.c1 ≤ 3 := by
          rcases ho with h | h
          · exact h
          · rw [h] at h9; cases h9
        obtain ⟨i0, i1⟩ := hr
        obtain ⟨g, hg, hgo, _⟩ := side_at H4.out i0 i1
        have hi4 : x.c1 < 4 := by omega
        rw [hgo, h9'] at hS2
        obtain ⟨y0, y1, y2, yl⟩ := (Hat.out.later hba k4).one (Nat.lt_of_lt_of_le hba k4.size) hg
        have p4 := (HP.out.below kk4).cell (i := 4) rfl
        have pl := (HP.out.below kk4).lt
        clear hg hgo ho
        cases eg : g.c1
        · rw [eg] at y1 hS2
          have HE : Hid (R = owF fa (us.drop (k + 1))) := hS2
          go_wp2
          go_roundw
          case rel => exact ⟨k + 1, by omega, by go_num, HE, kk4⟩
          case measure => simp [intOf]; omega
        · rw [eg] at y1 hS2
          have HE : Hid (R = 1) := hS2
          go_wp2
          go_ret
          exact ⟨by rw [HE.out]; rfl, k4⟩
      · have h9' : (x.c1 != 9) = false := by simp only [bne, h9]; rfl
        rw [h9'] at hS2
        have HE : Hid (R = owF fa (us.drop (k + 1))) := hS2
        clear ho
        go_wp2
        go_roundw
        case rel => exact ⟨k + 1, by omega, by go_num, HE, kk4⟩
        case measure => simp [intOf]; omega
    · obtain rfl : mu = k := by omega
      have HE : Hid (R = 0) := by show _ = _; rw [Hk.out, List.drop_of_length_le (by have := Hl.out; omega)]; rfl
      go_wp2
      go_ret
      exact ⟨by rw [HE.out]; rfl, hbel⟩
set_option maxHeartbeats 1000000 in
theorem eqlO (x y : K2) (w : World) : (binOp .eql 77 (.agg x.v) (.agg y.v)).run Tryz.prog w = .ok (.bool (x.b y)) w := by
  rw [run_eql_struct, show (10000 : Nat) = 9999 + 1 from rfl, run_equalIn_agg w 9999 77 _ _ (by kernel_rfl) (by kernel_rfl)]
  simp only [Program.fieldsOf, Tryz.underlying77]
  unfold K2.b
  cases h0 : x.c0 == y.c0
  · go_simp; try rfl
  cases h1 : x.c1 == y.c1
  · go_simp; try rfl
  go_simp
  try rfl
theorem K2.b_comm (x y : K2) : x.b y = y.b x := by
  unfold K2.b
  rw [show (x.c0 == y.c0) = (y.c0 == x.c0) from by rw [Bool.eq_iff_iff]; simp; exact eq_comm, show (x.c1 == y.c1) = (y.c1 == x.c1) from by rw [Bool.eq_iff_iff]; simp; exact eq_comm]
theorem memO_step {l : List K2} {x y : K2} {k : Nat} (h : l[k]? = some y) : memO (l.drop k) x = (y.b x || memO (l.drop (k + 1)) x) := by
  have h' := List.getElem?_eq_some_iff.1 h
  rw [List.drop_eq_getElem_cons h'.1, h'.2]; rfl
/- the place of an offer, or -1 -/
def atO (b : Bool) (r : Int) : Prop := (b = true ∧ 0 ≤ r) ∨ (b = false ∧ r = -1)
set_option maxHeartbeats 4000000 in
theorem index_o (a : Option Addr) (m c : Nat) (l : List K2) (x : K2) (hl : l.length = m) (hm : m ≤ 6) (w : World) (hO : ArgO w a l) :
    Calls Tryz.prog 107 #[.slice a m c, .agg x.v] w fun e w' => ∃ r : Int, e = .returned (.int .i64 r) ∧ atO (memO l x) r ∧ Below w.heap.size w w' := by
  have B0 : Below w.heap.size w (w.alloc (.cells x.v 77)) := (Below.refl _ _).alloc (Nat.le_refl _) _
  have HX : Hid (O1 (w.alloc (.cells x.v 77)) w.heap.size 0 x) := O1.new w x _
  have HO : Hid (ArgO w a l) := hO
  have Hl : Hid (l.length = m) := hl
  obtain ⟨R, HR⟩ : ∃ R : Bool, Hid (R = memO l x) := ⟨_, rfl⟩
  rw [← HR.out]
  have HR0 : Hid (R = memO (l.drop 0) x) := HR
  clear hO hl HR
  obtain ⟨W, HW⟩ : ∃ W, Hid (W = w.alloc (.cells x.v 77)) := ⟨_, rfl⟩
  rw [← HW.out] at B0 HX
  go_enter Tryz.func107, Tryz.ntmps107
  go_upto_region 1 with fail
  rw [← HW.out]
  clear HW
  go_wp2_with fail
  go_loopw [8] (fun j wr => ∃ k : Nat, k ≤ m ∧ j = .int .i64 k ∧ Hid (R = memO (l.drop k) x) ∧ Below W.heap.size W wr) (fun j _ => m - (intOf j).toNat)
  case atStart => exact ⟨0, Nat.zero_le _, rfl, HR0, Below.refl _ _⟩
  case round =>
    obtain ⟨k, hk, rfl, Hk, kbel⟩ := hrel
    have hbel := B0.trans (kbel.mono B0.size)
    by_cases hlt : k < m
    · have hlt' : (k : Int) < (m : Int) := by omega
      obtain ⟨y, hy⟩ : ∃ y, l[k]? = some y := ⟨_, List.getElem?_eq_getElem (by have := Hl.out; omega)⟩
      obtain ⟨b, off, rfl, hb, hat⟩ := HO.out.at hy
      obtain ⟨y0, y1, yl⟩ := (hat.later hb hbel).one (Nat.lt_of_lt_of_le hb hbel.size) hy
      obtain ⟨x0, x1, xl⟩ := HX.out.later kbel
      have hS : Hid (R = (y.b x || memO (l.drop (k + 1)) x)) := by show _ = _; rw [Hk.out, memO_step hy]
      have he := (fun w => by have h := eqlO x y w; rw [K2.b_comm] at h; exact h : ∀ w, (binOp .eql 77 (.agg x.v) (.agg y.v)).run Tryz.prog w = .ok (.bool (y.b x)) w)
      clear hy hat Hk
      cases eb : y.b x
      · rw [eb] at he hS
        have HE : Hid (R = memO (l.drop (k + 1)) x) := hS
        go_wp2
        go_quiet (fail)
        go_wp2
        go_roundw
        case rel => exact ⟨k + 1, by omega, by go_num, HE, kbel.trans ((below_drewN _ _).mono kbel.size)⟩
        case measure => simp [intOf]; omega
      · rw [eb] at he hS
        have HE : Hid (R = true) := hS
        go_wp2
        go_quiet (fail)
        go_wp2
        go_ret
        exact ⟨_, rfl, .inl ⟨HE.out, by omega⟩, hbel.trans ((below_drewN _ _).mono hbel.size)⟩
    · obtain rfl : m = k := by omega
      have HE : Hid (R = false) := by show _ = _; rw [Hk.out, List.drop_of_length_le (by have := Hl.out; omega)]; rfl
      go_wp2
      go_ret
      exact ⟨_, rfl, .inr ⟨HE.out, rfl⟩, hbel⟩
set_option maxHeartbeats 4000000 in
theorem l6Offer_c (a : Option Addr) (m c : Nat) (l : List K2) (x : K2) (hl : l.length = m) (hm : m ≤ 6) (w : World) (hO : ArgO w a l) :
    Calls Tryz.prog 97 #[.slice a m c, .agg x.v] w fun e w' => ∃ r : Int, e = .returned (.int .i64 r) ∧ atO (memO l x) r ∧ Below w.heap.size w w' := by
  have B0 : Below w.heap.size w (w.alloc (.cells x.v 77)) := (Below.refl _ _).alloc (Nat.le_refl _) _
  have HX : Hid (O1 (w.alloc (.cells x.v 77)) w.heap.size 0 x) := O1.new w x _
  have HO : Hid (ArgO w a l) := hO
  have Hl : Hid (l.length = m) := hl
  obtain ⟨R, HR⟩ : ∃ R : Bool, Hid (R = memO l x) := ⟨_, rfl⟩
  rw [← HR.out]
  have HR0 : Hid (R = memO (l.drop 0) x) := HR
  clear hO hl HR
  obtain ⟨W, HW⟩ : ∃ W, Hid (W = w.alloc (.cells x.v 77)) := ⟨_, rfl⟩
  rw [← HW.out] at B0 HX
  go_enter Tryz.func97, Tryz.ntmps97
  go_upto_region 1 with fail
  rw [← HW.out]
  clear HW
  go_wp2_with fail
  go_loopw [5] (fun j wr => ∃ k : Nat, k ≤ m ∧ j = .int .i64 k ∧ Hid (R = memO (l.drop k) x) ∧ Below W.heap.size W wr) (fun j _ => m - (intOf j).toNat)
  case atStart => exact ⟨0, Nat.zero_le _, rfl, HR0, Below.refl _ _⟩
  case round =>
    obtain ⟨k, hk, rfl, Hk, kbel⟩ := hrel
    have hbel := B0.trans (kbel.mono B0.size)
    by_cases hlt : k < m
    · have hlt' : (k : Int) < (m : Int) := by omega
      obtain ⟨y, hy⟩ : ∃ y, l[k]? = some y := ⟨_, List.getElem?_eq_getElem (by have := Hl.out; omega)⟩
      obtain ⟨b, off, rfl, hb, hat⟩ := HO.out.at hy
      obtain ⟨y0, y1, yl⟩ := (hat.later hb hbel).one (Nat.lt_of_lt_of_le hb hbel.size) hy
      obtain ⟨x0, x1, xl⟩ := HX.out.later kbel
      have hS : Hid (R = (y.b x || memO (l.drop (k + 1)) x)) := by show _ = _; rw [Hk.out, memO_step hy]
      have he := fun w => eqlO y x w
      clear hy hat Hk
      cases eb : y.b x
      · rw [eb] at he hS
        have HE : Hid (R = memO (l.drop (k + 1)) x) := hS
        go_wp2
        go_quiet (fail)
        go_wp2
        go_roundw
        case rel => exact ⟨k + 1, by omega, by go_num, HE, kbel.trans ((below_drewN _ _).mono kbel.size)⟩
        case measure => simp [intOf]; omega
      · rw [eb] at he hS
        have HE : Hid (R = true) := hS
        go_wp2
        go_quiet (fail)
        go_wp2
        go_ret
        exact ⟨_, rfl, .inl ⟨HE.out, by omega⟩, hbel.trans ((below_drewN _ _).mono hbel.size)⟩
    · obtain rfl : m = k := by omega
      have HE : Hid (R = false) := by show _ = _; rw [Hk.out, List.drop_of_length_le (by have := Hl.out; omega)]; rfl
      go_wp2
      go_ret
      exact ⟨_, rfl, .inr ⟨HE.out, rfl⟩, hbel⟩
theorem contains_c (a : Option Addr) (m c : Nat) (l : List K2) (x : K2) (hl : l.length = m) (hm : m ≤ 6) (w : World) (hO : ArgO w a l) :
    Calls Tryz.prog 73 #[.slice a m c, .agg x.v] w fun e w' => e = .returned (.bool (memO l x)) ∧ Below w.heap.size w w' := by
  have B0 : Below w.heap.size w (w.alloc (.cells x.v 77)) := (Below.refl _ _).alloc (Nat.le_refl _) _
  have cI := index_o a m c l x hl hm _ (hO.later B0)
  generalize memO l x = M at cI ⊢
  go_enter Tryz.func73, Tryz.ntmps73
  go_wp2_with fail
  refine cI.mono ?_
  rintro e w1 ⟨r, rfl, hr, k1⟩
  have B1 := B0.trans (k1.mono B0.size)
  rcases hr with ⟨rfl, h⟩ | ⟨rfl, rfl⟩
  · go_wp2
    go_ret
    exact ⟨rfl, B1⟩
  · go_wp2
    go_ret
    exact ⟨rfl, B1⟩
end Go.Proofs.YtlfnnobkgbfdgaaGreat
end
