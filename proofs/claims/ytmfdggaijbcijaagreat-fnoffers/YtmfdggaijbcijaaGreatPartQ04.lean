/- Texts of mine put together (a claim holds at most 60 files): UnitWalks2, BoardWalks, OwnRows. -/
import Derived.Test.YtmfdggaijbcijaaGreatPartQ03
import Derived.Test.YtmfdggaijbcijaaGreatPartQ00

/- UnitWalks2 -/
/- Contracts of UnitFault and of its model. No condition. -/
section
namespace Go.Proofs.YtmfdggaijbcijaaGreat
open Go.ChangeShapes Go.WideShapes Go.ChangeAt Go.RowKit
open Bd
set_option linter.unusedVariables false

theorem U1.job {w : World} {p o : Nat} {x : K10} (h : U1 w p o x) : J5 w p o x.c0 x.c6 x.c7 x.c8 x.c9 := ⟨h.c0, h.c6, h.c7, h.c8, h.c9, h.lt⟩
/- how a head comes out -/
theorem head_cases (i o x y l c : Int) :
    (inb i 1 99 = false ∧ head i o x y l c = false) ∨ (inb i 1 99 = true ∧ own o = false ∧ head i o x y l c = false) ∨ (inb i 1 99 = true ∧ own o = true ∧ tile x y = false ∧ head i o x y l c = false) ∨
    (inb i 1 99 = true ∧ own o = true ∧ tile x y = true ∧ inb l 1 50 = false ∧ head i o x y l c = false) ∨ (inb i 1 99 = true ∧ own o = true ∧ tile x y = true ∧ inb l 1 50 = true ∧ inb c 0 20 = false ∧ head i o x y l c = false) ∨
    (inb i 1 99 = true ∧ own o = true ∧ tile x y = true ∧ inb l 1 50 = true ∧ inb c 0 20 = true ∧ head i o x y l c = true) := by
  unfold head
  cases inb i 1 99 <;> cases own o <;> cases tile x y <;> cases inb l 1 50 <;> cases inb c 0 20 <;> simp
theorem uf_no {x : K10} (h : head x.c0 x.c1 x.c2 x.c3 x.c4 x.c5 = false) : uf x = 3 := by unfold uf; rw [if_pos h]
theorem uf_yes {x : K10} (h : head x.c0 x.c1 x.c2 x.c3 x.c4 x.c5 = true) : uf x = jf x.c0 x.c6 x.c7 x.c8 x.c9 := by unfold uf; rw [if_neg (by rw [h]; simp)]

set_option maxHeartbeats 4000000 in
theorem l4Unit_c (p o : Nat) (x : K10) (w : World) (h : U1 w p o x) :
    Calls Tryz.prog 107 #[.pointer (some ⟨p, o, none⟩)] w fun e w' => e = .returned (.int .i64 (uf x)) ∧ Below w.heap.size w w' := by
  have H : Hid (U1 w p o x) := h
  have q1 := fun w => l1In_c x.c0 1 99 w
  have q2 := fun w => l4Owner_c x.c1 w
  have q3 := fun w => l1Tile_c x.c2 x.c3 w
  have q4 := fun w => l1In_c x.c4 1 50 w
  have q5 := fun w => l1In_c x.c5 0 20 w
  have A0 := fun n => Later.cell h.lt h.c0 n
  have A1 := fun n => Later.cell h.lt h.c1 n
  have A2 := fun n => Later.cell h.lt h.c2 n
  have A3 := fun n => Later.cell h.lt h.c3 n
  have A4 := fun n => Later.cell h.lt h.c4 n
  have A5 := fun n => Later.cell h.lt h.c5 n
  clear h
  rcases head_cases x.c0 x.c1 x.c2 x.c3 x.c4 x.c5 with ⟨e1, eh⟩ | ⟨e1, e2, eh⟩ | ⟨e1, e2, e3, eh⟩ | ⟨e1, e2, e3, e4, eh⟩ | ⟨e1, e2, e3, e4, e5, eh⟩ | ⟨e1, e2, e3, e4, e5, eh⟩
  all_goals
    try rw [e1] at q1
    try rw [e2] at q2
    try rw [e3] at q3
    try rw [e4] at q4
    try rw [e5] at q5
    first | rw [uf_no eh] | rw [uf_yes eh]
    go_enter Tryz.func107, Tryz.ntmps107
    go_wp2_with fail
    refine wp_region_later (by kernel_rfl) (by kernel_rfl) (fun hne => ?_)
    repeat (go_big_quiet_step (first | (go_at_call 78; exact Later.call0 (l1In_c _ _ _ _)) | (go_at_call 122; exact Later.call0 (q2 _)) | (go_at_call 108; exact Later.call0 (q3 _))))
    refine wpQuiet_nil ?_
    rintro _ ⟨n1, rfl⟩
    clear A0 A1 A2 A3 A4 A5 hne
  all_goals try
    go_wp2_with fail
    go_ret
    exact ⟨rfl, n1.bel⟩
  have cJ := l4Job_c p o x.c0 x.c6 x.c7 x.c8 x.c9 _ (H.out.job.later n1.bel)
  go_wp2_with fail
  refine cJ.mono ?_
  rintro e w2 ⟨rfl, b2⟩
  have B2 := n1.bel.trans (b2.mono n1.bel.size)
  go_wp2_with fail
  go_ret
  exact ⟨rfl, B2⟩
set_option maxHeartbeats 4000000 in
theorem hasJobForm_c (i o x y l c j tx ty py : Int) (w : World) :
    Calls Tryz.prog 115 #[.agg (K10.v ⟨i, o, x, y, l, c, j, tx, ty, py⟩)] w fun e w' => e = .returned (.bool (form j tx ty py)) ∧ Below w.heap.size w w' := by
  have fin : ∀ b, b = form j tx ty py → (fun b : Bool => Ending.returned (Value.bool b)) b = Ending.returned (Value.bool (form j tx ty py)) := fun b hb => by rw [hb]
  rcases job_cases j with rfl | rfl | rfl | rfl | ⟨j0, j1, j2, j3⟩
  all_goals
    rcases ne_cases tx with rfl | ⟨a, a'⟩
  all_goals
    rcases ne_cases ty with rfl | ⟨b, b'⟩
  all_goals
    rcases ne_cases py with rfl | ⟨d, d'⟩
  all_goals
    go_enter Tryz.func115, Tryz.ntmps115
    go_wp2
    go_ret
    exact ⟨fin _ (by first | exact (form_other j0 j1 j2 j3).symm | (simp [form, *]; done)), (Below.refl _ _).alloc (Nat.le_refl _) _⟩
def preyB (i j py : Int) : Bool := if j = 2 then inb py 0 3 else if j = 3 then inb py 1 99 && (py != i) else true
set_option maxHeartbeats 4000000 in
theorem isPrey_c (i o x y l c j tx ty py : Int) (w : World) :
    Calls Tryz.prog 116 #[.agg (K10.v ⟨i, o, x, y, l, c, j, tx, ty, py⟩)] w fun e w' => e = .returned (.bool (preyB i j py)) ∧ Below w.heap.size w w' := by
  have fin : ∀ b, b = preyB i j py → (fun b : Bool => Ending.returned (Value.bool b)) b = Ending.returned (Value.bool (preyB i j py)) := fun b hb => by rw [hb]
  rcases job_cases j with rfl | rfl | rfl | rfl | ⟨j0, j1, j2, j3⟩
  · go_enter Tryz.func116, Tryz.ntmps116
    go_wp2
    go_ret
    exact ⟨fin _ (by simp [preyB, *]), (Below.refl _ _).alloc (Nat.le_refl _) _⟩
  · go_enter Tryz.func116, Tryz.ntmps116
    go_wp2
    go_ret
    exact ⟨fin _ (by simp [preyB, *]), (Below.refl _ _).alloc (Nat.le_refl _) _⟩
  · by_cases p1 : 0 ≤ py
    · by_cases p2 : py < 4
      · go_enter Tryz.func116, Tryz.ntmps116
        go_wp2
        go_ret
        exact ⟨fin _ (by simp [preyB, inb]; omega), (Below.refl _ _).alloc (Nat.le_refl _) _⟩
      · have d : decide (py < 4) = false := decide_eq_false p2
        go_enter Tryz.func116, Tryz.ntmps116
        go_wp2
        go_ret
        exact ⟨fin _ (by simp [preyB, inb]; omega), (Below.refl _ _).alloc (Nat.le_refl _) _⟩
    · have d : decide (0 ≤ py) = false := decide_eq_false p1
      go_enter Tryz.func116, Tryz.ntmps116
      go_wp2
      go_ret
      exact ⟨fin _ (by simp [preyB, inb]; omega), (Below.refl _ _).alloc (Nat.le_refl _) _⟩
  · have qI := fun w => isId_c py w
    cases t : inb py 1 99
    · rw [t] at qI
      go_enter Tryz.func116, Tryz.ntmps116
      go_wp2_with (go_at_call 111; refine (qI _).mono ?_; rintro e w1 ⟨rfl, rfl⟩)
      go_ret
      exact ⟨fin _ (by simp [preyB, *]), (Below.refl _ _).alloc (Nat.le_refl _) _⟩
    · rw [t] at qI
      cases q : py == i
      · have q' := bne_of q
        go_enter Tryz.func116, Tryz.ntmps116
        go_wp2_with (go_at_call 111; refine (qI _).mono ?_; rintro e w1 ⟨rfl, rfl⟩)
        go_ret
        exact ⟨fin _ (by simp [preyB, bne, *]), (Below.refl _ _).alloc (Nat.le_refl _) _⟩
      · have q' : (py != i) = false := by simp only [bne, q]; rfl
        go_enter Tryz.func116, Tryz.ntmps116
        go_wp2_with (go_at_call 111; refine (qI _).mono ?_; rintro e w1 ⟨rfl, rfl⟩)
        go_ret
        exact ⟨fin _ (by simp [preyB, bne, *]), (Below.refl _ _).alloc (Nat.le_refl _) _⟩
  · go_enter Tryz.func116, Tryz.ntmps116
    go_wp2
    go_ret
    exact ⟨fin _ (by simp at j2 j3; simp [preyB, *]), (Below.refl _ _).alloc (Nat.le_refl _) _⟩
/- the program asks more of the tile, and it is the same: where the job has no tile, the tile is (0, 0) -/
theorem jf_impl (i j tx ty py : Int) (hf : form j tx ty py = true) : rng i j tx ty py = (tile tx ty && preyB i j py) := by
  have t00 : tile 0 0 = true := by decide
  unfold form at hf
  unfold rng preyB
  by_cases h0 : j = 0
  · subst h0; simp at hf; rw [hf.1.1, hf.1.2, t00]; simp
  by_cases h1 : j = 1
  · subst h1; simp
  by_cases h2 : j = 2
  · subst h2; simp at hf; rw [hf.1, hf.2, t00]; simp
  by_cases h3 : j = 3
  · subst h3; simp at hf; rw [hf.1, hf.2, t00]; simp
  · simp [h0, h1, h2, h3] at hf
set_option maxHeartbeats 4000000 in
theorem implUnitFault (x : K10) (w : World) :
    Calls Tryz.prog 85 #[.agg x.v] w fun e w' => e = .returned (.int .i64 (uf x)) ∧ Below w.heap.size w w' := by
  obtain ⟨i, o, x, y, l, c, j, tx, ty, py⟩ := x
  have q1 := fun w => isId_c i w
  have q2 := fun w => isOwner_c o w
  have q3 := fun w => isTile_c x y w
  have q4 := fun w => isLife_c l w
  have q5 := fun w => isCarry_c c w
  have q6 := fun w => hasJobForm_c i o x y l c j tx ty py w
  have q7 := fun w => isTile_c tx ty w
  have q8 := fun w => isPrey_c i o x y l c j tx ty py w
  have B1 : Below w.heap.size w (w.alloc (.cells (K10.v ⟨i, o, x, y, l, c, j, tx, ty, py⟩) 113)) := (Below.refl _ _).alloc (Nat.le_refl _) _
  have S1 : U1 (w.alloc (.cells (K10.v ⟨i, o, x, y, l, c, j, tx, ty, py⟩) 113)) w.heap.size 0 ⟨i, o, x, y, l, c, j, tx, ty, py⟩ := U1.new w _ _
  rcases head_cases i o x y l c with ⟨e1, eh⟩ | ⟨e1, e2, eh⟩ | ⟨e1, e2, e3, eh⟩ | ⟨e1, e2, e3, e4, eh⟩ | ⟨e1, e2, e3, e4, e5, eh⟩ | ⟨e1, e2, e3, e4, e5, eh⟩
  case' inr.inr.inr.inr.inr => skip
  all_goals
    try rw [e1] at q1
    try rw [e2] at q2
    try rw [e3] at q3
    try rw [e4] at q4
    try rw [e5] at q5
    first | rw [uf_no eh] | rw [uf_yes eh]
  all_goals try
    go_enter Tryz.func85, Tryz.ntmps85
    go_wp2_with (first | (go_at_call 111; refine (q1 _).mono ?_; rintro e w1 ⟨rfl, rfl⟩) | (go_at_call 112; refine (q2 _).mono ?_; rintro e w1 ⟨rfl, rfl⟩) | (go_at_call 86; refine (q3 _).mono ?_; rintro e w1 ⟨rfl, rfl⟩) | (go_at_call 113; refine (q4 _).mono ?_; rintro e w1 ⟨rfl, rfl⟩) | (go_at_call 114; refine (q5 _).mono ?_; rintro e w1 ⟨rfl, rfl⟩))
    go_ret
    exact ⟨rfl, B1⟩
  unfold jf
  show Calls _ _ _ _ fun e w' => e = .returned (.int .i64 (if form j tx ty py = false then 1 else if rng i j tx ty py = false then 3 else 0)) ∧ _
  cases ef : form j tx ty py
  · rw [ef] at q6
    go_enter Tryz.func85, Tryz.ntmps85
    go_wp2_with (first | (go_at_call 111; refine (q1 _).mono ?_; rintro e w1 ⟨rfl, rfl⟩) | (go_at_call 112; refine (q2 _).mono ?_; rintro e w1 ⟨rfl, rfl⟩) | (go_at_call 86; refine (q3 _).mono ?_; rintro e w1 ⟨rfl, rfl⟩) | (go_at_call 113; refine (q4 _).mono ?_; rintro e w1 ⟨rfl, rfl⟩) | (go_at_call 114; refine (q5 _).mono ?_; rintro e w1 ⟨rfl, rfl⟩))
    refine (q6 _).mono ?_
    rintro e w2 ⟨rfl, b2⟩
    go_wp2
    go_ret
    exact ⟨rfl, B1.trans (b2.mono B1.size)⟩
  · rw [jf_impl i j tx ty py ef]
    rw [ef] at q6
    cases et : tile tx ty
    · rw [et] at q7
      go_enter Tryz.func85, Tryz.ntmps85
      go_wp2_with (first | (go_at_call 111; refine (q1 _).mono ?_; rintro e w1 ⟨rfl, rfl⟩) | (go_at_call 112; refine (q2 _).mono ?_; rintro e w1 ⟨rfl, rfl⟩) | (go_at_call 86; refine (q3 _).mono ?_; rintro e w1 ⟨rfl, rfl⟩) | (go_at_call 113; refine (q4 _).mono ?_; rintro e w1 ⟨rfl, rfl⟩) | (go_at_call 114; refine (q5 _).mono ?_; rintro e w1 ⟨rfl, rfl⟩))
      refine (q6 _).mono ?_
      rintro e w2 ⟨rfl, b2⟩
      obtain ⟨d0, d1, d2, d3, d4, d5, d6, d7, d8, d9, dl⟩ := S1.later b2
      go_wp2_with fail
      refine (q7 _).mono ?_
      rintro e w3 ⟨rfl, rfl⟩
      go_wp2
      go_ret
      exact ⟨rfl, B1.trans (b2.mono B1.size)⟩
    · rw [et] at q7
      cases ep : preyB i j py
      all_goals
        rw [ep] at q8
        go_enter Tryz.func85, Tryz.ntmps85
        go_wp2_with (first | (go_at_call 111; refine (q1 _).mono ?_; rintro e w1 ⟨rfl, rfl⟩) | (go_at_call 112; refine (q2 _).mono ?_; rintro e w1 ⟨rfl, rfl⟩) | (go_at_call 86; refine (q3 _).mono ?_; rintro e w1 ⟨rfl, rfl⟩) | (go_at_call 113; refine (q4 _).mono ?_; rintro e w1 ⟨rfl, rfl⟩) | (go_at_call 114; refine (q5 _).mono ?_; rintro e w1 ⟨rfl, rfl⟩))
        refine (q6 _).mono ?_
        rintro e w2 ⟨rfl, b2⟩
        have B2 := B1.trans (b2.mono B1.size)
        obtain ⟨d0, d1, d2, d3, d4, d5, d6, d7, d8, d9, dl⟩ := S1.later b2
        go_wp2_with fail
        refine (q7 _).mono ?_
        rintro e w3 ⟨rfl, rfl⟩
        go_wp2_with fail
        refine (q8 _).mono ?_
        rintro e w4 ⟨rfl, b4⟩
        go_wp2
        go_ret
        exact ⟨rfl, B2.trans (b4.mono B2.size)⟩
end Go.Proofs.YtmfdggaijbcijaaGreat
end

/- BoardWalks -/
/- Contracts of BoardFault and of its model. Condition: the board's two lists lie in memory as they were laid there. -/
section
namespace Go.Proofs.YtmfdggaijbcijaaGreat
open Go.ChangeShapes Go.WideShapes Go.ChangeAt Go.RowKit
open Bd
set_option linter.unusedVariables false

/- A board in a block of memory: its two slices. -/
structure BrdAt (w : World) (p : Nat) (s f : Value) : Prop where
  c0 : w.cell? ⟨p, 0, none⟩ = some s
  c1 : w.cell? ⟨p, 1, none⟩ = some f
  lt : p < w.heap.size
theorem BrdAt.later {w w' : World} {p : Nat} {s f : Value} (h : BrdAt w p s f) (hb : Below w.heap.size w w') : BrdAt w' p s f :=
  ⟨by rw [hb.cell h.lt]; exact h.c0, by rw [hb.cell h.lt]; exact h.c1, Nat.lt_of_lt_of_le h.lt hb.size⟩
theorem BrdAt.new (w : World) (s f : Value) (t : TypeId) : BrdAt (w.alloc (.cells #[s, f] t)) w.heap.size s f :=
  ⟨cell_new _ _ _ _ _ rfl, cell_new _ _ _ _ _ rfl, by rw [size_new]; omega⟩
theorem ArgU.at {w : World} {a : Option Addr} {l : List K10} (h : ArgU w a l) {i : Nat} {x : K10} (hi : l[i]? = some x) : ∃ b off, a = some ⟨b, off, none⟩ ∧ b < w.heap.size ∧ UAt w b off l := by
  rcases h with h | h
  · rw [h] at hi; simp at hi
  · exact h
theorem ArgF.at {w : World} {a : Option Addr} {l : List K3} (h : ArgF w a l) {i : Nat} {x : K3} (hi : l[i]? = some x) : ∃ b off, a = some ⟨b, off, none⟩ ∧ b < w.heap.size ∧ FAt w b off l := by
  rcases h with h | h
  · rw [h] at hi; simp at hi
  · exact h

end Go.Proofs.YtmfdggaijbcijaaGreat
end

/- OwnRows -/
/- Slices of units and of fields in memory of a call's own. No condition. -/
section
namespace Go.Proofs.YtmfdggaijbcijaaGreat
open Go.ChangeShapes Go.WideShapes Go.ChangeAt Go.RowKit
set_option linter.unusedVariables false

def flatU : List K10 → List Value
  | [] => []
  | x :: l => x.v.toList ++ flatU l
theorem flatU_len : ∀ l : List K10, (flatU l).length = l.length * 10
  | [] => rfl
  | x :: l => by unfold flatU; rw [List.length_append, flatU_len l]; show 10 + _ = (l.length + 1) * 10; omega
theorem flatU_app : ∀ l l' : List K10, flatU (l ++ l') = flatU l ++ flatU l'
  | [], _ => rfl
  | x :: l, l' => by show x.v.toList ++ flatU (l ++ l') = (x.v.toList ++ flatU l) ++ flatU l'; rw [flatU_app l l', List.append_assoc]
theorem flatU_get : ∀ (l : List K10) (i : Nat) (x : K10) (f : Nat), l[i]? = some x → f < 10 → (flatU l)[i * 10 + f]? = some (.int .i64 (x.f f))
  | [], i, x, f, h, _ => by simp at h
  | y :: l, 0, x, f, h, hf => by
    have e : y = x := by simpa using h
    subst e
    unfold flatU
    rw [Nat.zero_mul, Nat.zero_add, List.getElem?_append_left (by show f < 10; exact hf)]
    have h6 : f = 0 ∨ f = 1 ∨ f = 2 ∨ f = 3 ∨ f = 4 ∨ f = 5 ∨ f = 6 ∨ f = 7 ∨ f = 8 ∨ f = 9 := by omega
    rcases h6 with rfl | rfl | rfl | rfl | rfl | rfl | rfl | rfl | rfl | rfl <;> rfl
  | y :: l, i + 1, x, f, h, hf => by
    unfold flatU
    have e : (y.v.toList).length = 10 := rfl
    rw [List.getElem?_append_right (by rw [e]; omega), e, show (i + 1) * 10 + f - 10 = i * 10 + f from by omega]
    exact flatU_get l i x f (by simpa using h) hf
theorem flatU_one : ∀ (l : List K10), ∀ u ∈ flatU l, u.oneCell' = true
  | [], u, h => by cases h
  | x :: l, u, h => by
    unfold flatU at h
    rcases List.mem_append.1 h with h | h
    · simp at h
      rcases h with rfl | rfl | rfl | rfl | rfl | rfl | rfl | rfl | rfl | rfl <;> rfl
    · exact flatU_one l u h
/- a slice of such structs, made behind base -/
def SlU (w : World) (base : Nat) (v : Value) (l : List K10) : Prop := w.ownsRow base 113 10 v l.length (flatU l)
theorem SlU.of {w : World} {base : Nat} {v : Value} {l : List K10} (h : w.ownsRow base 113 10 v l.length (flatU l)) : SlU w base v l := h
theorem SlU.below {w w' : World} {base : Nat} {v : Value} {l : List K10} (h : SlU w base v l) (hb : Below w.heap.size w w') : SlU w' base v l := by
  rcases h with ⟨h1, h2⟩
  refine ⟨h1, ?_⟩
  rcases h2 with h2 | ⟨g, cap, cur, hv, hbb, hg, r⟩
  · exact .inl h2
  · exact .inr ⟨g, cap, cur, hv, hbb, (hb.block g (Array.getElem?_eq_some_iff.1 hg).1).trans hg, r⟩
theorem SlU.of_block {w w' : World} {base : Nat} {v : Value} {l : List K10} (h : SlU w base v l) (he : ∀ b, v.ownBlock = some b → w'.heap[b]? = w.heap[b]?) : SlU w' base v l := by
  rcases h with ⟨h1, h2⟩
  refine ⟨h1, ?_⟩
  rcases h2 with h2 | ⟨g, cap, cur, hv, hbb, hg, r⟩
  · exact .inl h2
  · exact .inr ⟨g, cap, cur, hv, hbb, (he g (by rw [hv]; rfl)).trans hg, r⟩
theorem SlU.lt {w : World} {base : Nat} {v : Value} {l : List K10} (s : SlU w base v l) : ∀ b, v.ownBlock = some b → base ≤ b ∧ b < w.heap.size := by
  intro b hb
  rcases s.2 with ⟨h1, h2⟩ | ⟨g, cap, cur, hv, hbb, hg, r⟩
  · rw [h1] at hb; cases hb
  · rw [hv] at hb
    have : g = b := Option.some.inj hb
    subst this
    exact ⟨hbb, (Array.getElem?_eq_some_iff.1 hg).1⟩
theorem SlU.form {w : World} {base : Nat} {v : Value} {l : List K10} (h : SlU w base v l) : ∃ a cap, v = .slice a l.length cap ∧ ArgU w a l := by
  rcases h.2 with ⟨h1, h2⟩ | ⟨g, cap, cur, hv, hbb, hg, h4, h5, h6, h7⟩
  · exact ⟨none, 0, by rw [h1, h2], .inl (List.eq_nil_of_length_eq_zero h2)⟩
  · refine ⟨_, cap, hv, .inr ⟨g, 0, rfl, (Array.getElem?_eq_some_iff.1 hg).1, fun i x hi f hf => ?_⟩⟩
    have e := flatU_get l i x f hi hf
    have hil : i < l.length := (List.getElem?_eq_some_iff.1 hi).1
    rw [← h7, List.getElem?_take, if_pos (by omega)] at e
    simp [World.cell?, hg]
    simpa using e
/- the whole block of such a slice as a row -/
theorem SlU.row {w : World} {base : Nat} {v : Value} {l : List K10} (h : SlU w base v l) (hne : l ≠ []) : ∃ g cap N f, v = .slice (some ⟨g, 0, none⟩) l.length cap ∧ base ≤ g ∧ l.length * 10 ≤ N ∧ w.rowIs g 113 N f ∧ cap ≤ maxLen ∧ l.length ≤ cap ∧ N = cap * 10 := by
  rcases h.2 with ⟨h1, h2⟩ | ⟨g, cap, cur, hv, hbb, hg, h4, h5, h6, h7⟩
  · exact absurd (List.eq_nil_of_length_eq_zero h2) hne
  · exact ⟨g, cap, cap * 10, fun i => cur[i]!, hv, hbb, Nat.mul_le_mul_right _ h4, ⟨cur, hg, h6, fun i hi => by show cur[i]? = some cur[i]!; rw [getElem!_pos cur i (by omega)]; exact Array.getElem?_eq_getElem (by omega)⟩, h5, h4, rfl⟩
def flatF : List K3 → List Value
  | [] => []
  | x :: l => x.v.toList ++ flatF l
theorem flatF_len : ∀ l : List K3, (flatF l).length = l.length * 3
  | [] => rfl
  | x :: l => by unfold flatF; rw [List.length_append, flatF_len l]; show 3 + _ = (l.length + 1) * 3; omega
theorem flatF_app : ∀ l l' : List K3, flatF (l ++ l') = flatF l ++ flatF l'
  | [], _ => rfl
  | x :: l, l' => by show x.v.toList ++ flatF (l ++ l') = (x.v.toList ++ flatF l) ++ flatF l'; rw [flatF_app l l', List.append_assoc]
theorem flatF_get : ∀ (l : List K3) (i : Nat) (x : K3) (f : Nat), l[i]? = some x → f < 3 → (flatF l)[i * 3 + f]? = some (.int .i64 (x.f f))
  | [], i, x, f, h, _ => by simp at h
  | y :: l, 0, x, f, h, hf => by
    have e : y = x := by simpa using h
    subst e
    unfold flatF
    rw [Nat.zero_mul, Nat.zero_add, List.getElem?_append_left (by show f < 3; exact hf)]
    have h6 : f = 0 ∨ f = 1 ∨ f = 2 := by omega
    rcases h6 with rfl | rfl | rfl <;> rfl
  | y :: l, i + 1, x, f, h, hf => by
    unfold flatF
    have e : (y.v.toList).length = 3 := rfl
    rw [List.getElem?_append_right (by rw [e]; omega), e, show (i + 1) * 3 + f - 3 = i * 3 + f from by omega]
    exact flatF_get l i x f (by simpa using h) hf
theorem flatF_one : ∀ (l : List K3), ∀ u ∈ flatF l, u.oneCell' = true
  | [], u, h => by cases h
  | x :: l, u, h => by
    unfold flatF at h
    rcases List.mem_append.1 h with h | h
    · simp at h
      rcases h with rfl | rfl | rfl <;> rfl
    · exact flatF_one l u h
/- a slice of such structs, made behind base -/
def SlF (w : World) (base : Nat) (v : Value) (l : List K3) : Prop := w.ownsRow base 118 3 v l.length (flatF l)
theorem SlF.of {w : World} {base : Nat} {v : Value} {l : List K3} (h : w.ownsRow base 118 3 v l.length (flatF l)) : SlF w base v l := h
theorem SlF.below {w w' : World} {base : Nat} {v : Value} {l : List K3} (h : SlF w base v l) (hb : Below w.heap.size w w') : SlF w' base v l := by
  rcases h with ⟨h1, h2⟩
  refine ⟨h1, ?_⟩
  rcases h2 with h2 | ⟨g, cap, cur, hv, hbb, hg, r⟩
  · exact .inl h2
  · exact .inr ⟨g, cap, cur, hv, hbb, (hb.block g (Array.getElem?_eq_some_iff.1 hg).1).trans hg, r⟩
theorem SlF.of_block {w w' : World} {base : Nat} {v : Value} {l : List K3} (h : SlF w base v l) (he : ∀ b, v.ownBlock = some b → w'.heap[b]? = w.heap[b]?) : SlF w' base v l := by
  rcases h with ⟨h1, h2⟩
  refine ⟨h1, ?_⟩
  rcases h2 with h2 | ⟨g, cap, cur, hv, hbb, hg, r⟩
  · exact .inl h2
  · exact .inr ⟨g, cap, cur, hv, hbb, (he g (by rw [hv]; rfl)).trans hg, r⟩
theorem SlF.lt {w : World} {base : Nat} {v : Value} {l : List K3} (s : SlF w base v l) : ∀ b, v.ownBlock = some b → base ≤ b ∧ b < w.heap.size := by
  intro b hb
  rcases s.2 with ⟨h1, h2⟩ | ⟨g, cap, cur, hv, hbb, hg, r⟩
  · rw [h1] at hb; cases hb
  · rw [hv] at hb
    have : g = b := Option.some.inj hb
    subst this
    exact ⟨hbb, (Array.getElem?_eq_some_iff.1 hg).1⟩
theorem SlF.form {w : World} {base : Nat} {v : Value} {l : List K3} (h : SlF w base v l) : ∃ a cap, v = .slice a l.length cap ∧ ArgF w a l := by
  rcases h.2 with ⟨h1, h2⟩ | ⟨g, cap, cur, hv, hbb, hg, h4, h5, h6, h7⟩
  · exact ⟨none, 0, by rw [h1, h2], .inl (List.eq_nil_of_length_eq_zero h2)⟩
  · refine ⟨_, cap, hv, .inr ⟨g, 0, rfl, (Array.getElem?_eq_some_iff.1 hg).1, fun i x hi f hf => ?_⟩⟩
    have e := flatF_get l i x f hi hf
    have hil : i < l.length := (List.getElem?_eq_some_iff.1 hi).1
    rw [← h7, List.getElem?_take, if_pos (by omega)] at e
    simp [World.cell?, hg]
    simpa using e
/- the whole block of such a slice as a row -/
theorem SlF.row {w : World} {base : Nat} {v : Value} {l : List K3} (h : SlF w base v l) (hne : l ≠ []) : ∃ g cap N f, v = .slice (some ⟨g, 0, none⟩) l.length cap ∧ base ≤ g ∧ l.length * 3 ≤ N ∧ w.rowIs g 118 N f ∧ cap ≤ maxLen ∧ l.length ≤ cap ∧ N = cap * 3 := by
  rcases h.2 with ⟨h1, h2⟩ | ⟨g, cap, cur, hv, hbb, hg, h4, h5, h6, h7⟩
  · exact absurd (List.eq_nil_of_length_eq_zero h2) hne
  · exact ⟨g, cap, cap * 3, fun i => cur[i]!, hv, hbb, Nat.mul_le_mul_right _ h4, ⟨cur, hg, h6, fun i hi => by show cur[i]? = some cur[i]!; rw [getElem!_pos cur i (by omega)]; exact Array.getElem?_eq_getElem (by omega)⟩, h5, h4, rfl⟩
end Go.Proofs.YtmfdggaijbcijaaGreat
end
