/- Texts of mine put together (a claim holds at most 60 files): UnitWalks. -/
import Derived.Test.YtmfdggaijbcijaaGreatPartQ02
import Derived.Test.YtmfdggaijbcijaaGreatPartQ00

/- UnitWalks -/
/- Contracts of UnitFault and of its model. No condition. -/
section
namespace Go.Proofs.YtmfdggaijbcijaaGreat
open Go.ChangeShapes Go.WideShapes Go.ChangeAt Go.RowKit
open Bd
set_option linter.unusedVariables false

/- the part of a unit in memory that its job is told by -/
structure J5 (w : World) (p o : Nat) (i j tx ty py : Int) : Prop where
  c0 : w.cell? ⟨p, o, none⟩ = some (.int .i64 i)
  c6 : w.cell? ⟨p, o + 6, none⟩ = some (.int .i64 j)
  c7 : w.cell? ⟨p, o + 7, none⟩ = some (.int .i64 tx)
  c8 : w.cell? ⟨p, o + 8, none⟩ = some (.int .i64 ty)
  c9 : w.cell? ⟨p, o + 9, none⟩ = some (.int .i64 py)
  lt : p < w.heap.size
theorem J5.later {w w' : World} {p o : Nat} {i j tx ty py : Int} (h : J5 w p o i j tx ty py) (hb : Below w.heap.size w w') : J5 w' p o i j tx ty py :=
  ⟨by rw [hb.cell h.lt]; exact h.c0, by rw [hb.cell h.lt]; exact h.c6, by rw [hb.cell h.lt]; exact h.c7, by rw [hb.cell h.lt]; exact h.c8, by rw [hb.cell h.lt]; exact h.c9, Nat.lt_of_lt_of_le h.lt hb.size⟩
theorem bne_of {x y : Int} (h : (x == y) = false) : (x != y) = true := by simp only [bne, h]; rfl

/- how a job can come out: the fault, with all that the tests ask -/
theorem ne_cases (x : Int) : x = 0 ∨ ((x == 0) = false ∧ (x != 0) = true) := by
  by_cases h : x = 0
  · exact .inl h
  · exact .inr ⟨by simpa using h, by simpa using h⟩

theorem form_other {j tx ty py : Int} (j0 : (j == 0) = false) (j1 : (j == 1) = false) (j2 : (j == 2) = false) (j3 : (j == 3) = false) : form j tx ty py = false := by
  simp at j0 j1 j2 j3
  simp [form, *]
set_option maxHeartbeats 4000000 in
theorem l4Job_c (p o : Nat) (i j tx ty py : Int) (w : World) (h : J5 w p o i j tx ty py) :
    Calls Tryz.prog 123 #[.pointer (some ⟨p, o, none⟩)] w fun e w' => e = .returned (.int .i64 (jf i j tx ty py)) ∧ Below w.heap.size w w' := by
  have cT := fun w => l1Tile_c tx ty w
  have c3 := fun w => l1In_c py 0 3 w
  have c9 := fun w => l1In_c py 1 99 w
  have H : Hid (J5 w p o i j tx ty py) := h
  obtain ⟨h0, h6, h7, h8, h9, lt⟩ := h
  rcases job_cases j with rfl | rfl | rfl | rfl | ⟨j0, j1, j2, j3⟩
  · rcases ne_cases tx with rfl | ⟨a, a'⟩
    · rcases ne_cases ty with rfl | ⟨b, b'⟩
      · rcases ne_cases py with rfl | ⟨c, c'⟩
        · go_enter Tryz.func123, Tryz.ntmps123
          go_wp2_with fail
          have A0 := fun n => Later.cell H.out.lt H.out.c0 n
          have A6 := fun n => Later.cell H.out.lt H.out.c6 n
          have A7 := fun n => Later.cell H.out.lt H.out.c7 n
          have A8 := fun n => Later.cell H.out.lt H.out.c8 n
          have A9 := fun n => Later.cell H.out.lt H.out.c9 n
          refine wp_region_later (by kernel_rfl) (by kernel_rfl) (fun hne => ?_)
          repeat (go_big_quiet_step (first | (go_at_call 108; exact Later.call0 (cT _)) | (go_at_call 78; exact Later.call0 (c9 _))))
          refine wpQuiet_nil ?_
          rintro _ ⟨n1, rfl⟩
          clear A0 A6 A7 A8 A9 hne
          have J1 := H.out.later n1.bel
          have B1 := n1.bel
          generalize n1.at = w1 at J1 B1 ⊢
          clear n1
          obtain ⟨k0, k6, k7, k8, k9, klt⟩ := J1
          go_wp2_with (go_at_call 78; refine (c3 _).mono ?_; rintro e w2 ⟨rfl, rfl⟩)
          have J1 := H.out.later B1
          have A0 := fun n => Later.cell J1.lt J1.c0 n
          have A6 := fun n => Later.cell J1.lt J1.c6 n
          have A7 := fun n => Later.cell J1.lt J1.c7 n
          have A8 := fun n => Later.cell J1.lt J1.c8 n
          have A9 := fun n => Later.cell J1.lt J1.c9 n
          refine wp_region_later (by kernel_rfl) (by kernel_rfl) (fun hne => ?_)
          repeat (go_big_quiet_step (first | (go_at_call 108; exact Later.call0 (cT _)) | (go_at_call 78; exact Later.call0 (c9 _))))
          refine wpQuiet_nil ?_
          rintro _ ⟨n2, rfl⟩
          clear A0 A6 A7 A8 A9 hne
          have B2 := B1.trans (n2.bel.mono B1.size)
          go_wp2_with fail
          go_ret
          exact ⟨congrArg (fun x => Ending.returned (Value.int .i64 x)) (by first | (simp [jf, form, rng, *]; done) | (simp [jf, form, rng, *]; simpa using q)), B2⟩
        · go_enter Tryz.func123, Tryz.ntmps123
          go_wp2_with fail
          go_ret
          exact ⟨congrArg (fun x => Ending.returned (Value.int .i64 x)) (by simp [jf, form, *]), Below.refl _ _⟩
      · go_enter Tryz.func123, Tryz.ntmps123
        go_wp2_with fail
        go_ret
        exact ⟨congrArg (fun x => Ending.returned (Value.int .i64 x)) (by simp [jf, form, *]), Below.refl _ _⟩
    · go_enter Tryz.func123, Tryz.ntmps123
      go_wp2_with fail
      go_ret
      exact ⟨congrArg (fun x => Ending.returned (Value.int .i64 x)) (by simp [jf, form, *]), Below.refl _ _⟩
  · rcases ne_cases py with rfl | ⟨c, c'⟩
    · cases t : tile tx ty
      · rw [t] at cT
        go_enter Tryz.func123, Tryz.ntmps123
        go_wp2_with fail
        have A0 := fun n => Later.cell H.out.lt H.out.c0 n
        have A6 := fun n => Later.cell H.out.lt H.out.c6 n
        have A7 := fun n => Later.cell H.out.lt H.out.c7 n
        have A8 := fun n => Later.cell H.out.lt H.out.c8 n
        have A9 := fun n => Later.cell H.out.lt H.out.c9 n
        refine wp_region_later (by kernel_rfl) (by kernel_rfl) (fun hne => ?_)
        repeat (go_big_quiet_step (first | (go_at_call 108; exact Later.call0 (cT _)) | (go_at_call 78; exact Later.call0 (c9 _))))
        refine wpQuiet_nil ?_
        rintro _ ⟨n1, rfl⟩
        clear A0 A6 A7 A8 A9 hne
        have J1 := H.out.later n1.bel
        have B1 := n1.bel
        generalize n1.at = w1 at J1 B1 ⊢
        clear n1
        go_wp2_with fail
        go_ret
        exact ⟨congrArg (fun x => Ending.returned (Value.int .i64 x)) (by first | (simp [jf, form, rng, *]; done) | (simp [jf, form, rng, *]; simpa using q)), B1⟩
      · rw [t] at cT
        go_enter Tryz.func123, Tryz.ntmps123
        go_wp2_with fail
        have A0 := fun n => Later.cell H.out.lt H.out.c0 n
        have A6 := fun n => Later.cell H.out.lt H.out.c6 n
        have A7 := fun n => Later.cell H.out.lt H.out.c7 n
        have A8 := fun n => Later.cell H.out.lt H.out.c8 n
        have A9 := fun n => Later.cell H.out.lt H.out.c9 n
        refine wp_region_later (by kernel_rfl) (by kernel_rfl) (fun hne => ?_)
        repeat (go_big_quiet_step (first | (go_at_call 108; exact Later.call0 (cT _)) | (go_at_call 78; exact Later.call0 (c9 _))))
        refine wpQuiet_nil ?_
        rintro _ ⟨n1, rfl⟩
        clear A0 A6 A7 A8 A9 hne
        have J1 := H.out.later n1.bel
        have B1 := n1.bel
        generalize n1.at = w1 at J1 B1 ⊢
        clear n1
        obtain ⟨k0, k6, k7, k8, k9, klt⟩ := J1
        go_wp2_with (go_at_call 78; refine (c3 _).mono ?_; rintro e w2 ⟨rfl, rfl⟩)
        have J1 := H.out.later B1
        have A0 := fun n => Later.cell J1.lt J1.c0 n
        have A6 := fun n => Later.cell J1.lt J1.c6 n
        have A7 := fun n => Later.cell J1.lt J1.c7 n
        have A8 := fun n => Later.cell J1.lt J1.c8 n
        have A9 := fun n => Later.cell J1.lt J1.c9 n
        refine wp_region_later (by kernel_rfl) (by kernel_rfl) (fun hne => ?_)
        repeat (go_big_quiet_step (first | (go_at_call 108; exact Later.call0 (cT _)) | (go_at_call 78; exact Later.call0 (c9 _))))
        refine wpQuiet_nil ?_
        rintro _ ⟨n2, rfl⟩
        clear A0 A6 A7 A8 A9 hne
        have B2 := B1.trans (n2.bel.mono B1.size)
        go_wp2_with fail
        go_ret
        exact ⟨congrArg (fun x => Ending.returned (Value.int .i64 x)) (by first | (simp [jf, form, rng, *]; done) | (simp [jf, form, rng, *]; simpa using q)), B2⟩
    · go_enter Tryz.func123, Tryz.ntmps123
      go_wp2_with fail
      go_ret
      exact ⟨congrArg (fun x => Ending.returned (Value.int .i64 x)) (by simp [jf, form, *]), Below.refl _ _⟩
  · rcases ne_cases tx with rfl | ⟨a, a'⟩
    · rcases ne_cases ty with rfl | ⟨b, b'⟩
      · cases t : inb py 0 3
        · rw [t] at c3
          go_enter Tryz.func123, Tryz.ntmps123
          go_wp2_with fail
          have A0 := fun n => Later.cell H.out.lt H.out.c0 n
          have A6 := fun n => Later.cell H.out.lt H.out.c6 n
          have A7 := fun n => Later.cell H.out.lt H.out.c7 n
          have A8 := fun n => Later.cell H.out.lt H.out.c8 n
          have A9 := fun n => Later.cell H.out.lt H.out.c9 n
          refine wp_region_later (by kernel_rfl) (by kernel_rfl) (fun hne => ?_)
          repeat (go_big_quiet_step (first | (go_at_call 108; exact Later.call0 (cT _)) | (go_at_call 78; exact Later.call0 (c9 _))))
          refine wpQuiet_nil ?_
          rintro _ ⟨n1, rfl⟩
          clear A0 A6 A7 A8 A9 hne
          have J1 := H.out.later n1.bel
          have B1 := n1.bel
          generalize n1.at = w1 at J1 B1 ⊢
          clear n1
          obtain ⟨k0, k6, k7, k8, k9, klt⟩ := J1
          go_wp2_with (go_at_call 78; refine (c3 _).mono ?_; rintro e w2 ⟨rfl, rfl⟩)
          have J1 := H.out.later B1
          go_ret
          exact ⟨congrArg (fun x => Ending.returned (Value.int .i64 x)) (by first | (simp [jf, form, rng, *]; done) | (simp [jf, form, rng, *]; simpa using q)), B1⟩
        · rw [t] at c3
          go_enter Tryz.func123, Tryz.ntmps123
          go_wp2_with fail
          have A0 := fun n => Later.cell H.out.lt H.out.c0 n
          have A6 := fun n => Later.cell H.out.lt H.out.c6 n
          have A7 := fun n => Later.cell H.out.lt H.out.c7 n
          have A8 := fun n => Later.cell H.out.lt H.out.c8 n
          have A9 := fun n => Later.cell H.out.lt H.out.c9 n
          refine wp_region_later (by kernel_rfl) (by kernel_rfl) (fun hne => ?_)
          repeat (go_big_quiet_step (first | (go_at_call 108; exact Later.call0 (cT _)) | (go_at_call 78; exact Later.call0 (c9 _))))
          refine wpQuiet_nil ?_
          rintro _ ⟨n1, rfl⟩
          clear A0 A6 A7 A8 A9 hne
          have J1 := H.out.later n1.bel
          have B1 := n1.bel
          generalize n1.at = w1 at J1 B1 ⊢
          clear n1
          obtain ⟨k0, k6, k7, k8, k9, klt⟩ := J1
          go_wp2_with (go_at_call 78; refine (c3 _).mono ?_; rintro e w2 ⟨rfl, rfl⟩)
          have J1 := H.out.later B1
          have A0 := fun n => Later.cell J1.lt J1.c0 n
          have A6 := fun n => Later.cell J1.lt J1.c6 n
          have A7 := fun n => Later.cell J1.lt J1.c7 n
          have A8 := fun n => Later.cell J1.lt J1.c8 n
          have A9 := fun n => Later.cell J1.lt J1.c9 n
          refine wp_region_later (by kernel_rfl) (by kernel_rfl) (fun hne => ?_)
          repeat (go_big_quiet_step (first | (go_at_call 108; exact Later.call0 (cT _)) | (go_at_call 78; exact Later.call0 (c9 _))))
          refine wpQuiet_nil ?_
          rintro _ ⟨n2, rfl⟩
          clear A0 A6 A7 A8 A9 hne
          have B2 := B1.trans (n2.bel.mono B1.size)
          go_wp2_with fail
          go_ret
          exact ⟨congrArg (fun x => Ending.returned (Value.int .i64 x)) (by first | (simp [jf, form, rng, *]; done) | (simp [jf, form, rng, *]; simpa using q)), B2⟩
      · go_enter Tryz.func123, Tryz.ntmps123
        go_wp2_with fail
        go_ret
        exact ⟨congrArg (fun x => Ending.returned (Value.int .i64 x)) (by simp [jf, form, *]), Below.refl _ _⟩
    · go_enter Tryz.func123, Tryz.ntmps123
      go_wp2_with fail
      go_ret
      exact ⟨congrArg (fun x => Ending.returned (Value.int .i64 x)) (by simp [jf, form, *]), Below.refl _ _⟩
  · rcases ne_cases tx with rfl | ⟨a, a'⟩
    · rcases ne_cases ty with rfl | ⟨b, b'⟩
      · cases t : inb py 1 99
        · rw [t] at c9
          go_enter Tryz.func123, Tryz.ntmps123
          go_wp2_with fail
          have A0 := fun n => Later.cell H.out.lt H.out.c0 n
          have A6 := fun n => Later.cell H.out.lt H.out.c6 n
          have A7 := fun n => Later.cell H.out.lt H.out.c7 n
          have A8 := fun n => Later.cell H.out.lt H.out.c8 n
          have A9 := fun n => Later.cell H.out.lt H.out.c9 n
          refine wp_region_later (by kernel_rfl) (by kernel_rfl) (fun hne => ?_)
          repeat (go_big_quiet_step (first | (go_at_call 108; exact Later.call0 (cT _)) | (go_at_call 78; exact Later.call0 (c9 _))))
          refine wpQuiet_nil ?_
          rintro _ ⟨n1, rfl⟩
          clear A0 A6 A7 A8 A9 hne
          have J1 := H.out.later n1.bel
          have B1 := n1.bel
          generalize n1.at = w1 at J1 B1 ⊢
          clear n1
          obtain ⟨k0, k6, k7, k8, k9, klt⟩ := J1
          go_wp2_with (go_at_call 78; refine (c3 _).mono ?_; rintro e w2 ⟨rfl, rfl⟩)
          have J1 := H.out.later B1
          have A0 := fun n => Later.cell J1.lt J1.c0 n
          have A6 := fun n => Later.cell J1.lt J1.c6 n
          have A7 := fun n => Later.cell J1.lt J1.c7 n
          have A8 := fun n => Later.cell J1.lt J1.c8 n
          have A9 := fun n => Later.cell J1.lt J1.c9 n
          refine wp_region_later (by kernel_rfl) (by kernel_rfl) (fun hne => ?_)
          repeat (go_big_quiet_step (first | (go_at_call 108; exact Later.call0 (cT _)) | (go_at_call 78; exact Later.call0 (c9 _))))
          refine wpQuiet_nil ?_
          rintro _ ⟨n2, rfl⟩
          clear A0 A6 A7 A8 A9 hne
          have B2 := B1.trans (n2.bel.mono B1.size)
          go_wp2_with fail
          go_ret
          exact ⟨congrArg (fun x => Ending.returned (Value.int .i64 x)) (by first | (simp [jf, form, rng, *]; done) | (simp [jf, form, rng, *]; simpa using q)), B2⟩
        · rw [t] at c9
          cases q : py == i
          · go_enter Tryz.func123, Tryz.ntmps123
            go_wp2_with fail
            have A0 := fun n => Later.cell H.out.lt H.out.c0 n
            have A6 := fun n => Later.cell H.out.lt H.out.c6 n
            have A7 := fun n => Later.cell H.out.lt H.out.c7 n
            have A8 := fun n => Later.cell H.out.lt H.out.c8 n
            have A9 := fun n => Later.cell H.out.lt H.out.c9 n
            refine wp_region_later (by kernel_rfl) (by kernel_rfl) (fun hne => ?_)
            repeat (go_big_quiet_step (first | (go_at_call 108; exact Later.call0 (cT _)) | (go_at_call 78; exact Later.call0 (c9 _))))
            refine wpQuiet_nil ?_
            rintro _ ⟨n1, rfl⟩
            clear A0 A6 A7 A8 A9 hne
            have J1 := H.out.later n1.bel
            have B1 := n1.bel
            generalize n1.at = w1 at J1 B1 ⊢
            clear n1
            obtain ⟨k0, k6, k7, k8, k9, klt⟩ := J1
            go_wp2_with (go_at_call 78; refine (c3 _).mono ?_; rintro e w2 ⟨rfl, rfl⟩)
            have J1 := H.out.later B1
            have A0 := fun n => Later.cell J1.lt J1.c0 n
            have A6 := fun n => Later.cell J1.lt J1.c6 n
            have A7 := fun n => Later.cell J1.lt J1.c7 n
            have A8 := fun n => Later.cell J1.lt J1.c8 n
            have A9 := fun n => Later.cell J1.lt J1.c9 n
            refine wp_region_later (by kernel_rfl) (by kernel_rfl) (fun hne => ?_)
            repeat (go_big_quiet_step (first | (go_at_call 108; exact Later.call0 (cT _)) | (go_at_call 78; exact Later.call0 (c9 _))))
            refine wpQuiet_nil ?_
            rintro _ ⟨n2, rfl⟩
            clear A0 A6 A7 A8 A9 hne
            have B2 := B1.trans (n2.bel.mono B1.size)
            go_wp2_with fail
            go_ret
            exact ⟨congrArg (fun x => Ending.returned (Value.int .i64 x)) (by first | (simp [jf, form, rng, *]; done) | (simp [jf, form, rng, *]; simpa using q)), B2⟩
          · go_enter Tryz.func123, Tryz.ntmps123
            go_wp2_with fail
            have A0 := fun n => Later.cell H.out.lt H.out.c0 n
            have A6 := fun n => Later.cell H.out.lt H.out.c6 n
            have A7 := fun n => Later.cell H.out.lt H.out.c7 n
            have A8 := fun n => Later.cell H.out.lt H.out.c8 n
            have A9 := fun n => Later.cell H.out.lt H.out.c9 n
            refine wp_region_later (by kernel_rfl) (by kernel_rfl) (fun hne => ?_)
            repeat (go_big_quiet_step (first | (go_at_call 108; exact Later.call0 (cT _)) | (go_at_call 78; exact Later.call0 (c9 _))))
            refine wpQuiet_nil ?_
            rintro _ ⟨n1, rfl⟩
            clear A0 A6 A7 A8 A9 hne
            have J1 := H.out.later n1.bel
            have B1 := n1.bel
            generalize n1.at = w1 at J1 B1 ⊢
            clear n1
            obtain ⟨k0, k6, k7, k8, k9, klt⟩ := J1
            go_wp2_with (go_at_call 78; refine (c3 _).mono ?_; rintro e w2 ⟨rfl, rfl⟩)
            have J1 := H.out.later B1
            have A0 := fun n => Later.cell J1.lt J1.c0 n
            have A6 := fun n => Later.cell J1.lt J1.c6 n
            have A7 := fun n => Later.cell J1.lt J1.c7 n
            have A8 := fun n => Later.cell J1.lt J1.c8 n
            have A9 := fun n => Later.cell J1.lt J1.c9 n
            refine wp_region_later (by kernel_rfl) (by kernel_rfl) (fun hne => ?_)
            repeat (go_big_quiet_step (first | (go_at_call 108; exact Later.call0 (cT _)) | (go_at_call 78; exact Later.call0 (c9 _))))
            refine wpQuiet_nil ?_
            rintro _ ⟨n2, rfl⟩
            clear A0 A6 A7 A8 A9 hne
            have B2 := B1.trans (n2.bel.mono B1.size)
            go_wp2_with fail
            go_ret
            exact ⟨congrArg (fun x => Ending.returned (Value.int .i64 x)) (by first | (simp [jf, form, rng, *]; done) | (simp [jf, form, rng, *]; simpa using q)), B2⟩
      · go_enter Tryz.func123, Tryz.ntmps123
        go_wp2_with fail
        go_ret
        exact ⟨congrArg (fun x => Ending.returned (Value.int .i64 x)) (by simp [jf, form, *]), Below.refl _ _⟩
    · go_enter Tryz.func123, Tryz.ntmps123
      go_wp2_with fail
      go_ret
      exact ⟨congrArg (fun x => Ending.returned (Value.int .i64 x)) (by simp [jf, form, *]), Below.refl _ _⟩
  · have j0' := bne_of j0
    go_enter Tryz.func123, Tryz.ntmps123
    go_wp2_with fail
    go_ret
    exact ⟨congrArg (fun x => Ending.returned (Value.int .i64 x)) (by rw [jf, if_pos (form_other j0 j1 j2 j3)]), Below.refl _ _⟩
end Go.Proofs.YtmfdggaijbcijaaGreat
end
