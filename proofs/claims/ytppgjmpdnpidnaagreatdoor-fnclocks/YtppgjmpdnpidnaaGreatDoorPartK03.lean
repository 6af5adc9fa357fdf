/- Texts of mine put together (a claim holds at most 60 files): UnitWalks, UnitWalks2, BoardWalks. -/
import Derived.Test.YtppgjmpdnpidnaaGreatDoorPartK01
import Derived.Test.YtppgjmpdnpidnaaGreatDoorPartK00

/- UnitWalks -/
/- Contracts of UnitFault and of its model. No condition. -/
section
namespace Go.Proofs.YtppgjmpdnpidnaaGreatDoor
open Go.ChangeShapes Go.WideShapes Go.ChangeAt Go.RowKit
open Bd
set_option linter.unusedVariables false

/- the part of a unit in memory that its job is told by -/
structure J5 (w : World) (p o : Nat) (i j tx ty py : Int) : Prop where
  c0 : w.cell? ⟨p, o, none⟩ = some (.int .i64 i)
  c6 : w.cell? ⟨p, o + 6, none⟩ = some (.int .i64 j)
  c7 : w.cell? ⟨p, o + 7, none⟩ = some (.int .i64 tx)
  c8 : w.cell? ⟨p, o + 8, none⟩ = some (.int .i64 ty)
  c9 : w.cell? ⟨p, o + 9, none⟩ = some (.int .i64 py)
  lt : p < w.heap.size
theorem J5.later {w w' : World} {p o : Nat} {i j tx ty py : Int} (h : J5 w p o i j tx ty py) (hb : Below w.heap.size w w') : J5 w' p o i j tx ty py :=
  ⟨by rw [hb.cell h.lt]; exact h.c0, by rw [hb.cell h.lt]; exact h.c6, by rw [hb.cell h.lt]; exact h.c7, by rw [hb.cell h.lt]; exact h.c8, by rw [hb.cell h.lt]; exact h.c9, Nat.lt_of_lt_of_le h.lt hb.size⟩
theorem bne_of {x y : Int} (h : (x == y) = false) : (x != y) = true := by simp only [bne, h]; rfl

/- how a job can come out: the fault, with all that the tests ask -/
theorem ne_cases (x : Int) : x = 0 ∨ ((x == 0) = false ∧ (x != 0) = true) := by
  by_cases h : x = 0
  · exact .inl h
  · exact .inr ⟨by simpa using h, by simpa using h⟩

theorem form_other {j tx ty py : Int} (j0 : (j == 0) = false) (j1 : (j == 1) = false) (j2 : (j == 2) = false) (j3 : (j == 3) = false) : form j tx ty py = false := by
  simp at j0 j1 j2 j3
  simp [form, *]
set_option maxHeartbeats 4000000 in
theorem l4Job_c (p o : Nat) (i j tx ty py : Int) (w : World) (h : J5 w p o i j tx ty py) :
    Calls Tryz.prog 100 #[.pointer (some ⟨p, o, none⟩)] w fun e w' => e = .returned (.int .i64 (jf i j tx ty py)) ∧ Below w.heap.size w w' := by
  have cT := fun w => l1Tile_c tx ty w
  have c3 := fun w => l1In_c py 0 3 w
  have c9 := fun w => l1In_c py 1 99 w
  have H : Hid (J5 w p o i j tx ty py) := h
  obtain ⟨h0, h6, h7, h8, h9, lt⟩ := h
  rcases job_cases j with rfl | rfl | rfl | rfl | ⟨j0, j1, j2, j3⟩
  · rcases ne_cases tx with rfl | ⟨a, a'⟩
    · rcases ne_cases ty with rfl | ⟨b, b'⟩
      · rcases ne_cases py with rfl | ⟨c, c'⟩
        · go_enter Tryz.func100, Tryz.ntmps100
          go_wp2_with fail
          have A0 := fun n => Later.cell H.out.lt H.out.c0 n
          have A6 := fun n => Later.cell H.out.lt H.out.c6 n
          have A7 := fun n => Later.cell H.out.lt H.out.c7 n
          have A8 := fun n => Later.cell H.out.lt H.out.c8 n
          have A9 := fun n => Later.cell H.out.lt H.out.c9 n
          refine wp_region_later (by kernel_rfl) (by kernel_rfl) (fun hne => ?_)
          repeat (go_big_quiet_step (first | (go_at_call 76; exact Later.call0 (cT _)) | (go_at_call 45; exact Later.call0 (c9 _))))
          refine wpQuiet_nil ?_
          rintro _ ⟨n1, rfl⟩
          clear A0 A6 A7 A8 A9 hne
          have J1 := H.out.later n1.bel
          have B1 := n1.bel
          generalize n1.at = w1 at J1 B1 ⊢
          clear n1
          obtain ⟨k0, k6, k7, k8, k9, klt⟩ := J1
          go_wp2_with (go_at_call 45; refine (c3 _).mono ?_; rintro e w2 ⟨rfl, rfl⟩)
          have J1 := H.out.later B1
          have A0 := fun n => Later.cell J1.lt J1.c0 n
          have A6 := fun n => Later.cell J1.lt J1.c6 n
          have A7 := fun n => Later.cell J1.lt J1.c7 n
          have A8 := fun n => Later.cell J1.lt J1.c8 n
          have A9 := fun n => Later.cell J1.lt J1.c9 n
          refine wp_region_later (by kernel_rfl) (by kernel_rfl) (fun hne => ?_)
          repeat (go_big_quiet_step (first | (go_at_call 76; exact Later.call0 (cT _)) | (go_at_call 45; exact Later.call0 (c9 _))))
          refine wpQuiet_nil ?_
          rintro _ ⟨n2, rfl⟩
          clear A0 A6 A7 A8 A9 hne
          have B2 := B1.trans (n2.bel.mono B1.size)
          go_wp2_with fail
          go_ret
          exact ⟨congrArg (fun x => Ending.returned (Value.int .i64 x)) (by first | (simp [jf, form, rng, *]; done) | (simp [jf, form, rng, *]; simpa using q)), B2⟩
        · go_enter Tryz.func100, Tryz.ntmps100
          go_wp2_with fail
          go_ret
          exact ⟨congrArg (fun x => Ending.returned (Value.int .i64 x)) (by simp [jf, form, *]), Below.refl _ _⟩
      · go_enter Tryz.func100, Tryz.ntmps100
        go_wp2_with fail
        go_ret
        exact ⟨congrArg (fun x => Ending.returned (Value.int .i64 x)) (by simp [jf, form, *]), Below.refl _ _⟩
    · go_enter Tryz.func100, Tryz.ntmps100
      go_wp2_with fail
      go_ret
      exact ⟨congrArg (fun x => Ending.returned (Value.int .i64 x)) (by simp [jf, form, *]), Below.refl _ _⟩
  · rcases ne_cases py with rfl | ⟨c, c'⟩
    · cases t : tile tx ty
      · rw [t] at cT
        go_enter Tryz.func100, Tryz.ntmps100
        go_wp2_with fail
        have A0 := fun n => Later.cell H.out.lt H.out.c0 n
        have A6 := fun n => Later.cell H.out.lt H.out.c6 n
        have A7 := fun n => Later.cell H.out.lt H.out.c7 n
        have A8 := fun n => Later.cell H.out.lt H.out.c8 n
        have A9 := fun n => Later.cell H.out.lt H.out.c9 n
        refine wp_region_later (by kernel_rfl) (by kernel_rfl) (fun hne => ?_)
        repeat (go_big_quiet_step (first | (go_at_call 76; exact Later.call0 (cT _)) | (go_at_call 45; exact Later.call0 (c9 _))))
        refine wpQuiet_nil ?_
        rintro _ ⟨n1, rfl⟩
        clear A0 A6 A7 A8 A9 hne
        have J1 := H.out.later n1.bel
        have B1 := n1.bel
        generalize n1.at = w1 at J1 B1 ⊢
        clear n1
        go_wp2_with fail
        go_ret
        exact ⟨congrArg (fun x => Ending.returned (Value.int .i64 x)) (by first | (simp [jf, form, rng, *]; done) | (simp [jf, form, rng, *]; simpa using q)), B1⟩
      · rw [t] at cT
        go_enter Tryz.func100, Tryz.ntmps100
        go_wp2_with fail
        have A0 := fun n => Later.cell H.out.lt H.out.c0 n
        have A6 := fun n => Later.cell H.out.lt H.out.c6 n
        have A7 := fun n => Later.cell H.out.lt H.out.c7 n
        have A8 := fun n => Later.cell H.out.lt H.out.c8 n
        have A9 := fun n => Later.cell H.out.lt H.out.c9 n
        refine wp_region_later (by kernel_rfl) (by kernel_rfl) (fun hne => ?_)
        repeat (go_big_quiet_step (first | (go_at_call 76; exact Later.call0 (cT _)) | (go_at_call 45; exact Later.call0 (c9 _))))
        refine wpQuiet_nil ?_
        rintro _ ⟨n1, rfl⟩
        clear A0 A6 A7 A8 A9 hne
        have J1 := H.out.later n1.bel
        have B1 := n1.bel
        generalize n1.at = w1 at J1 B1 ⊢
        clear n1
        obtain ⟨k0, k6, k7, k8, k9, klt⟩ := J1
        go_wp2_with (go_at_call 45; refine (c3 _).mono ?_; rintro e w2 ⟨rfl, rfl⟩)
        have J1 := H.out.later B1
        have A0 := fun n => Later.cell J1.lt J1.c0 n
        have A6 := fun n => Later.cell J1.lt J1.c6 n
        have A7 := fun n => Later.cell J1.lt J1.c7 n
        have A8 := fun n => Later.cell J1.lt J1.c8 n
        have A9 := fun n => Later.cell J1.lt J1.c9 n
        refine wp_region_later (by kernel_rfl) (by kernel_rfl) (fun hne => ?_)
        repeat (go_big_quiet_step (first | (go_at_call 76; exact Later.call0 (cT _)) | (go_at_call 45; exact Later.call0 (c9 _))))
        refine wpQuiet_nil ?_
        rintro _ ⟨n2, rfl⟩
        clear A0 A6 A7 A8 A9 hne
        have B2 := B1.trans (n2.bel.mono B1.size)
        go_wp2_with fail
        go_ret
        exact ⟨congrArg (fun x => Ending.returned (Value.int .i64 x)) (by first | (simp [jf, form, rng, *]; done) | (simp [jf, form, rng, *]; simpa using q)), B2⟩
    · go_enter Tryz.func100, Tryz.ntmps100
      go_wp2_with fail
      go_ret
      exact ⟨congrArg (fun x => Ending.returned (Value.int .i64 x)) (by simp [jf, form, *]), Below.refl _ _⟩
  · rcases ne_cases tx with rfl | ⟨a, a'⟩
    · rcases ne_cases ty with rfl | ⟨b, b'⟩
      · cases t : inb py 0 3
        · rw [t] at c3
          go_enter Tryz.func100, Tryz.ntmps100
          go_wp2_with fail
          have A0 := fun n => Later.cell H.out.lt H.out.c0 n
          have A6 := fun n => Later.cell H.out.lt H.out.c6 n
          have A7 := fun n => Later.cell H.out.lt H.out.c7 n
          have A8 := fun n => Later.cell H.out.lt H.out.c8 n
          have A9 := fun n => Later.cell H.out.lt H.out.c9 n
          refine wp_region_later (by kernel_rfl) (by kernel_rfl) (fun hne => ?_)
          repeat (go_big_quiet_step (first | (go_at_call 76; exact Later.call0 (cT _)) | (go_at_call 45; exact Later.call0 (c9 _))))
          refine wpQuiet_nil ?_
          rintro _ ⟨n1, rfl⟩
          clear A0 A6 A7 A8 A9 hne
          have J1 := H.out.later n1.bel
          have B1 := n1.bel
          generalize n1.at = w1 at J1 B1 ⊢
          clear n1
          obtain ⟨k0, k6, k7, k8, k9, klt⟩ := J1
          go_wp2_with (go_at_call 45; refine (c3 _).mono ?_; rintro e w2 ⟨rfl, rfl⟩)
          have J1 := H.out.later B1
          go_ret
          exact ⟨congrArg (fun x => Ending.returned (Value.int .i64 x)) (by first | (simp [jf, form, rng, *]; done) | (simp [jf, form, rng, *]; simpa using q)), B1⟩
        · rw [t] at c3
          go_enter Tryz.func100, Tryz.ntmps100
          go_wp2_with fail
          have A0 := fun n => Later.cell H.out.lt H.out.c0 n
          have A6 := fun n => Later.cell H.out.lt H.out.c6 n
          have A7 := fun n => Later.cell H.out.lt H.out.c7 n
          have A8 := fun n => Later.cell H.out.lt H.out.c8 n
          have A9 := fun n => Later.cell H.out.lt H.out.c9 n
          refine wp_region_later (by kernel_rfl) (by kernel_rfl) (fun hne => ?_)
          repeat (go_big_quiet_step (first | (go_at_call 76; exact Later.call0 (cT _)) | (go_at_call 45; exact Later.call0 (c9 _))))
          refine wpQuiet_nil ?_
          rintro _ ⟨n1, rfl⟩
          clear A0 A6 A7 A8 A9 hne
          have J1 := H.out.later n1.bel
          have B1 := n1.bel
          generalize n1.at = w1 at J1 B1 ⊢
          clear n1
          obtain ⟨k0, k6, k7, k8, k9, klt⟩ := J1
          go_wp2_with (go_at_call 45; refine (c3 _).mono ?_; rintro e w2 ⟨rfl, rfl⟩)
          have J1 := H.out.later B1
          have A0 := fun n => Later.cell J1.lt J1.c0 n
          have A6 := fun n => Later.cell J1.lt J1.c6 n
          have A7 := fun n => Later.cell J1.lt J1.c7 n
          have A8 := fun n => Later.cell J1.lt J1.c8 n
          have A9 := fun n => Later.cell J1.lt J1.c9 n
          refine wp_region_later (by kernel_rfl) (by kernel_rfl) (fun hne => ?_)
          repeat (go_big_quiet_step (first | (go_at_call 76; exact Later.call0 (cT _)) | (go_at_call 45; exact Later.call0 (c9 _))))
          refine wpQuiet_nil ?_
          rintro _ ⟨n2, rfl⟩
          clear A0 A6 A7 A8 A9 hne
          have B2 := B1.trans (n2.bel.mono B1.size)
          go_wp2_with fail
          go_ret
          exact ⟨congrArg (fun x => Ending.returned (Value.int .i64 x)) (by first | (simp [jf, form, rng, *]; done) | (simp [jf, form, rng, *]; simpa using q)), B2⟩
      · go_enter Tryz.func100, Tryz.ntmps100
        go_wp2_with fail
        go_ret
        exact ⟨congrArg (fun x => Ending.returned (Value.int .i64 x)) (by simp [jf, form, *]), Below.refl _ _⟩
    · go_enter Tryz.func100, Tryz.ntmps100
      go_wp2_with fail
      go_ret
      exact ⟨congrArg (fun x => Ending.returned (Value.int .i64 x)) (by simp [jf, form, *]), Below.refl _ _⟩
  · rcases ne_cases tx with rfl | ⟨a, a'⟩
    · rcases ne_cases ty with rfl | ⟨b, b'⟩
      · cases t : inb py 1 99
        · rw [t] at c9
          go_enter Tryz.func100, Tryz.ntmps100
          go_wp2_with fail
          have A0 := fun n => Later.cell H.out.lt H.out.c0 n
          have A6 := fun n => Later.cell H.out.lt H.out.c6 n
          have A7 := fun n => Later.cell H.out.lt H.out.c7 n
          have A8 := fun n => Later.cell H.out.lt H.out.c8 n
          have A9 := fun n => Later.cell H.out.lt H.out.c9 n
          refine wp_region_later (by kernel_rfl) (by kernel_rfl) (fun hne => ?_)
          repeat (go_big_quiet_step (first | (go_at_call 76; exact Later.call0 (cT _)) | (go_at_call 45; exact Later.call0 (c9 _))))
          refine wpQuiet_nil ?_
          rintro _ ⟨n1, rfl⟩
          clear A0 A6 A7 A8 A9 hne
          have J1 := H.out.later n1.bel
          have B1 := n1.bel
          generalize n1.at = w1 at J1 B1 ⊢
          clear n1
          obtain ⟨k0, k6, k7, k8, k9, klt⟩ := J1
          go_wp2_with (go_at_call 45; refine (c3 _).mono ?_; rintro e w2 ⟨rfl, rfl⟩)
          have J1 := H.out.later B1
          have A0 := fun n => Later.cell J1.lt J1.c0 n
          have A6 := fun n => Later.cell J1.lt J1.c6 n
          have A7 := fun n => Later.cell J1.lt J1.c7 n
          have A8 := fun n => Later.cell J1.lt J1.c8 n
          have A9 := fun n => Later.cell J1.lt J1.c9 n
          refine wp_region_later (by kernel_rfl) (by kernel_rfl) (fun hne => ?_)
          repeat (go_big_quiet_step (first | (go_at_call 76; exact Later.call0 (cT _)) | (go_at_call 45; exact Later.call0 (c9 _))))
          refine wpQuiet_nil ?_
          rintro _ ⟨n2, rfl⟩
          clear A0 A6 A7 A8 A9 hne
          have B2 := B1.trans (n2.bel.mono B1.size)
          go_wp2_with fail
          go_ret
          exact ⟨congrArg (fun x => Ending.returned (Value.int .i64 x)) (by first | (simp [jf, form, rng, *]; done) | (simp [jf, form, rng, *]; simpa using q)), B2⟩
        · rw [t] at c9
          cases q : py == i
          · go_enter Tryz.func100, Tryz.ntmps100
            go_wp2_with fail
            have A0 := fun n => Later.cell H.out.lt H.out.c0 n
            have A6 := fun n => Later.cell H.out.lt H.out.c6 n
            have A7 := fun n => Later.cell H.out.lt H.out.c7 n
            have A8 := fun n => Later.cell H.out.lt H.out.c8 n
            have A9 := fun n => Later.cell H.out.lt H.out.c9 n
            refine wp_region_later (by kernel_rfl) (by kernel_rfl) (fun hne => ?_)
            repeat (go_big_quiet_step (first | (go_at_call 76; exact Later.call0 (cT _)) | (go_at_call 45; exact Later.call0 (c9 _))))
            refine wpQuiet_nil ?_
            rintro _ ⟨n1, rfl⟩
            clear A0 A6 A7 A8 A9 hne
            have J1 := H.out.later n1.bel
            have B1 := n1.bel
            generalize n1.at = w1 at J1 B1 ⊢
            clear n1
            obtain ⟨k0, k6, k7, k8, k9, klt⟩ := J1
            go_wp2_with (go_at_call 45; refine (c3 _).mono ?_; rintro e w2 ⟨rfl, rfl⟩)
            have J1 := H.out.later B1
            have A0 := fun n => Later.cell J1.lt J1.c0 n
            have A6 := fun n => Later.cell J1.lt J1.c6 n
            have A7 := fun n => Later.cell J1.lt J1.c7 n
            have A8 := fun n => Later.cell J1.lt J1.c8 n
            have A9 := fun n => Later.cell J1.lt J1.c9 n
            refine wp_region_later (by kernel_rfl) (by kernel_rfl) (fun hne => ?_)
            repeat (go_big_quiet_step (first | (go_at_call 76; exact Later.call0 (cT _)) | (go_at_call 45; exact Later.call0 (c9 _))))
            refine wpQuiet_nil ?_
            rintro _ ⟨n2, rfl⟩
            clear A0 A6 A7 A8 A9 hne
            have B2 := B1.trans (n2.bel.mono B1.size)
            go_wp2_with fail
            go_ret
            exact ⟨congrArg (fun x => Ending.returned (Value.int .i64 x)) (by first | (simp [jf, form, rng, *]; done) | (simp [jf, form, rng, *]; simpa using q)), B2⟩
          · go_enter Tryz.func100, Tryz.ntmps100
            go_wp2_with fail
            have A0 := fun n => Later.cell H.out.lt H.out.c0 n
            have A6 := fun n => Later.cell H.out.lt H.out.c6 n
            have A7 := fun n => Later.cell H.out.lt H.out.c7 n
            have A8 := fun n => Later.cell H.out.lt H.out.c8 n
            have A9 := fun n => Later.cell H.out.lt H.out.c9 n
            refine wp_region_later (by kernel_rfl) (by kernel_rfl) (fun hne => ?_)
            repeat (go_big_quiet_step (first | (go_at_call 76; exact Later.call0 (cT _)) | (go_at_call 45; exact Later.call0 (c9 _))))
            refine wpQuiet_nil ?_
            rintro _ ⟨n1, rfl⟩
            clear A0 A6 A7 A8 A9 hne
            have J1 := H.out.later n1.bel
            have B1 := n1.bel
            generalize n1.at = w1 at J1 B1 ⊢
            clear n1
            obtain ⟨k0, k6, k7, k8, k9, klt⟩ := J1
            go_wp2_with (go_at_call 45; refine (c3 _).mono ?_; rintro e w2 ⟨rfl, rfl⟩)
            have J1 := H.out.later B1
            have A0 := fun n => Later.cell J1.lt J1.c0 n
            have A6 := fun n => Later.cell J1.lt J1.c6 n
            have A7 := fun n => Later.cell J1.lt J1.c7 n
            have A8 := fun n => Later.cell J1.lt J1.c8 n
            have A9 := fun n => Later.cell J1.lt J1.c9 n
            refine wp_region_later (by kernel_rfl) (by kernel_rfl) (fun hne => ?_)
            repeat (go_big_quiet_step (first | (go_at_call 76; exact Later.call0 (cT _)) | (go_at_call 45; exact Later.call0 (c9 _))))
            refine wpQuiet_nil ?_
            rintro _ ⟨n2, rfl⟩
            clear A0 A6 A7 A8 A9 hne
            have B2 := B1.trans (n2.bel.mono B1.size)
            go_wp2_with fail
            go_ret
            exact ⟨congrArg (fun x => Ending.returned (Value.int .i64 x)) (by first | (simp [jf, form, rng, *]; done) | (simp [jf, form, rng, *]; simpa using q)), B2⟩
      · go_enter Tryz.func100, Tryz.ntmps100
        go_wp2_with fail
        go_ret
        exact ⟨congrArg (fun x => Ending.returned (Value.int .i64 x)) (by simp [jf, form, *]), Below.refl _ _⟩
    · go_enter Tryz.func100, Tryz.ntmps100
      go_wp2_with fail
      go_ret
      exact ⟨congrArg (fun x => Ending.returned (Value.int .i64 x)) (by simp [jf, form, *]), Below.refl _ _⟩
  · have j0' := bne_of j0
    go_enter Tryz.func100, Tryz.ntmps100
    go_wp2_with fail
    go_ret
    exact ⟨congrArg (fun x => Ending.returned (Value.int .i64 x)) (by rw [jf, if_pos (form_other j0 j1 j2 j3)]), Below.refl _ _⟩
end Go.Proofs.YtppgjmpdnpidnaaGreatDoor
end

/- UnitWalks2 -/
/- Contracts of UnitFault and of its model. No condition. -/
section
namespace Go.Proofs.YtppgjmpdnpidnaaGreatDoor
open Go.ChangeShapes Go.WideShapes Go.ChangeAt Go.RowKit
open Bd
set_option linter.unusedVariables false

theorem U1.job {w : World} {p o : Nat} {x : K10} (h : U1 w p o x) : J5 w p o x.c0 x.c6 x.c7 x.c8 x.c9 := ⟨h.c0, h.c6, h.c7, h.c8, h.c9, h.lt⟩
/- how a head comes out -/
theorem head_cases (i o x y l c : Int) :
    (inb i 1 99 = false ∧ head i o x y l c = false) ∨ (inb i 1 99 = true ∧ own o = false ∧ head i o x y l c = false) ∨ (inb i 1 99 = true ∧ own o = true ∧ tile x y = false ∧ head i o x y l c = false) ∨
    (inb i 1 99 = true ∧ own o = true ∧ tile x y = true ∧ inb l 1 50 = false ∧ head i o x y l c = false) ∨ (inb i 1 99 = true ∧ own o = true ∧ tile x y = true ∧ inb l 1 50 = true ∧ inb c 0 20 = false ∧ head i o x y l c = false) ∨
    (inb i 1 99 = true ∧ own o = true ∧ tile x y = true ∧ inb l 1 50 = true ∧ inb c 0 20 = true ∧ head i o x y l c = true) := by
  unfold head
  cases inb i 1 99 <;> cases own o <;> cases tile x y <;> cases inb l 1 50 <;> cases inb c 0 20 <;> simp
theorem uf_no {x : K10} (h : head x.c0 x.c1 x.c2 x.c3 x.c4 x.c5 = false) : uf x = 3 := by unfold uf; rw [if_pos h]
theorem uf_yes {x : K10} (h : head x.c0 x.c1 x.c2 x.c3 x.c4 x.c5 = true) : uf x = jf x.c0 x.c6 x.c7 x.c8 x.c9 := by unfold uf; rw [if_neg (by rw [h]; simp)]

set_option maxHeartbeats 4000000 in
theorem l4Unit_c (p o : Nat) (x : K10) (w : World) (h : U1 w p o x) :
    Calls Tryz.prog 75 #[.pointer (some ⟨p, o, none⟩)] w fun e w' => e = .returned (.int .i64 (uf x)) ∧ Below w.heap.size w w' := by
  have H : Hid (U1 w p o x) := h
  have q1 := fun w => l1In_c x.c0 1 99 w
  have q2 := fun w => l4Owner_c x.c1 w
  have q3 := fun w => l1Tile_c x.c2 x.c3 w
  have q4 := fun w => l1In_c x.c4 1 50 w
  have q5 := fun w => l1In_c x.c5 0 20 w
  have A0 := fun n => Later.cell h.lt h.c0 n
  have A1 := fun n => Later.cell h.lt h.c1 n
  have A2 := fun n => Later.cell h.lt h.c2 n
  have A3 := fun n => Later.cell h.lt h.c3 n
  have A4 := fun n => Later.cell h.lt h.c4 n
  have A5 := fun n => Later.cell h.lt h.c5 n
  clear h
  rcases head_cases x.c0 x.c1 x.c2 x.c3 x.c4 x.c5 with ⟨e1, eh⟩ | ⟨e1, e2, eh⟩ | ⟨e1, e2, e3, eh⟩ | ⟨e1, e2, e3, e4, eh⟩ | ⟨e1, e2, e3, e4, e5, eh⟩ | ⟨e1, e2, e3, e4, e5, eh⟩
  all_goals
    try rw [e1] at q1
    try rw [e2] at q2
    try rw [e3] at q3
    try rw [e4] at q4
    try rw [e5] at q5
    first | rw [uf_no eh] | rw [uf_yes eh]
    go_enter Tryz.func75, Tryz.ntmps75
    go_wp2_with fail
    refine wp_region_later (by kernel_rfl) (by kernel_rfl) (fun hne => ?_)
    repeat (go_big_quiet_step (first | (go_at_call 45; exact Later.call0 (l1In_c _ _ _ _)) | (go_at_call 99; exact Later.call0 (q2 _)) | (go_at_call 76; exact Later.call0 (q3 _))))
    refine wpQuiet_nil ?_
    rintro _ ⟨n1, rfl⟩
    clear A0 A1 A2 A3 A4 A5 hne
  all_goals try
    go_wp2_with fail
    go_ret
    exact ⟨rfl, n1.bel⟩
  have cJ := l4Job_c p o x.c0 x.c6 x.c7 x.c8 x.c9 _ (H.out.job.later n1.bel)
  go_wp2_with fail
  refine cJ.mono ?_
  rintro e w2 ⟨rfl, b2⟩
  have B2 := n1.bel.trans (b2.mono n1.bel.size)
  go_wp2_with fail
  go_ret
  exact ⟨rfl, B2⟩
set_option maxHeartbeats 4000000 in
theorem hasJobForm_c (i o x y l c j tx ty py : Int) (w : World) :
    Calls Tryz.prog 89 #[.agg (K10.v ⟨i, o, x, y, l, c, j, tx, ty, py⟩)] w fun e w' => e = .returned (.bool (form j tx ty py)) ∧ Below w.heap.size w w' := by
  have fin : ∀ b, b = form j tx ty py → (fun b : Bool => Ending.returned (Value.bool b)) b = Ending.returned (Value.bool (form j tx ty py)) := fun b hb => by rw [hb]
  rcases job_cases j with rfl | rfl | rfl | rfl | ⟨j0, j1, j2, j3⟩
  all_goals
    rcases ne_cases tx with rfl | ⟨a, a'⟩
  all_goals
    rcases ne_cases ty with rfl | ⟨b, b'⟩
  all_goals
    rcases ne_cases py with rfl | ⟨d, d'⟩
  all_goals
    go_enter Tryz.func89, Tryz.ntmps89
    go_wp2
    go_ret
    exact ⟨fin _ (by first | exact (form_other j0 j1 j2 j3).symm | (simp [form, *]; done)), (Below.refl _ _).alloc (Nat.le_refl _) _⟩
def preyB (i j py : Int) : Bool := if j = 2 then inb py 0 3 else if j = 3 then inb py 1 99 && (py != i) else true
set_option maxHeartbeats 4000000 in
theorem isPrey_c (i o x y l c j tx ty py : Int) (w : World) :
    Calls Tryz.prog 90 #[.agg (K10.v ⟨i, o, x, y, l, c, j, tx, ty, py⟩)] w fun e w' => e = .returned (.bool (preyB i j py)) ∧ Below w.heap.size w w' := by
  have fin : ∀ b, b = preyB i j py → (fun b : Bool => Ending.returned (Value.bool b)) b = Ending.returned (Value.bool (preyB i j py)) := fun b hb => by rw [hb]
  rcases job_cases j with rfl | rfl | rfl | rfl | ⟨j0, j1, j2, j3⟩
  · go_enter Tryz.func90, Tryz.ntmps90
    go_wp2
    go_ret
    exact ⟨fin _ (by simp [preyB, *]), (Below.refl _ _).alloc (Nat.le_refl _) _⟩
  · go_enter Tryz.func90, Tryz.ntmps90
    go_wp2
    go_ret
    exact ⟨fin _ (by simp [preyB, *]), (Below.refl _ _).alloc (Nat.le_refl _) _⟩
  · by_cases p1 : 0 ≤ py
    · by_cases p2 : py < 4
      · go_enter Tryz.func90, Tryz.ntmps90
        go_wp2
        go_ret
        exact ⟨fin _ (by simp [preyB, inb]; omega), (Below.refl _ _).alloc (Nat.le_refl _) _⟩
      · have d : decide (py < 4) = false := decide_eq_false p2
        go_enter Tryz.func90, Tryz.ntmps90
        go_wp2
        go_ret
        exact ⟨fin _ (by simp [preyB, inb]; omega), (Below.refl _ _).alloc (Nat.le_refl _) _⟩
    · have d : decide (0 ≤ py) = false := decide_eq_false p1
      go_enter Tryz.func90, Tryz.ntmps90
      go_wp2
      go_ret
      exact ⟨fin _ (by simp [preyB, inb]; omega), (Below.refl _ _).alloc (Nat.le_refl _) _⟩
  · have qI := fun w => isId_c py w
    cases t : inb py 1 99
    · rw [t] at qI
      go_enter Tryz.func90, Tryz.ntmps90
      go_wp2_with (go_at_call 85; refine (qI _).mono ?_; rintro e w1 ⟨rfl, rfl⟩)
      go_ret
      exact ⟨fin _ (by simp [preyB, *]), (Below.refl _ _).alloc (Nat.le_refl _) _⟩
    · rw [t] at qI
      cases q : py == i
      · have q' := bne_of q
        go_enter Tryz.func90, Tryz.ntmps90
        go_wp2_with (go_at_call 85; refine (qI _).mono ?_; rintro e w1 ⟨rfl, rfl⟩)
        go_ret
        exact ⟨fin _ (by simp [preyB, bne, *]), (Below.refl _ _).alloc (Nat.le_refl _) _⟩
      · have q' : (py != i) = false := by simp only [bne, q]; rfl
        go_enter Tryz.func90, Tryz.ntmps90
        go_wp2_with (go_at_call 85; refine (qI _).mono ?_; rintro e w1 ⟨rfl, rfl⟩)
        go_ret
        exact ⟨fin _ (by simp [preyB, bne, *]), (Below.refl _ _).alloc (Nat.le_refl _) _⟩
  · go_enter Tryz.func90, Tryz.ntmps90
    go_wp2
    go_ret
    exact ⟨fin _ (by simp at j2 j3; simp [preyB, *]), (Below.refl _ _).alloc (Nat.le_refl _) _⟩
/- the program asks more of the tile, and it is the same: where the job has no tile, the tile is (0, 0) -/
theorem jf_impl (i j tx ty py : Int) (hf : form j tx ty py = true) : rng i j tx ty py = (tile tx ty && preyB i j py) := by
  have t00 : tile 0 0 = true := by decide
  unfold form at hf
  unfold rng preyB
  by_cases h0 : j = 0
  · subst h0; simp at hf; rw [hf.1.1, hf.1.2, t00]; simp
  by_cases h1 : j = 1
  · subst h1; simp
  by_cases h2 : j = 2
  · subst h2; simp at hf; rw [hf.1, hf.2, t00]; simp
  by_cases h3 : j = 3
  · subst h3; simp at hf; rw [hf.1, hf.2, t00]; simp
  · simp [h0, h1, h2, h3] at hf
set_option maxHeartbeats 4000000 in
theorem implUnitFault (x : K10) (w : World) :
    Calls Tryz.prog 52 #[.agg x.v] w fun e w' => e = .returned (.int .i64 (uf x)) ∧ Below w.heap.size w w' := by
  obtain ⟨i, o, x, y, l, c, j, tx, ty, py⟩ := x
  have q1 := fun w => isId_c i w
  have q2 := fun w => isOwner_c o w
  have q3 := fun w => isTile_c x y w
  have q4 := fun w => isLife_c l w
  have q5 := fun w => isCarry_c c w
  have q6 := fun w => hasJobForm_c i o x y l c j tx ty py w
  have q7 := fun w => isTile_c tx ty w
  have q8 := fun w => isPrey_c i o x y l c j tx ty py w
  have B1 : Below w.heap.size w (w.alloc (.cells (K10.v ⟨i, o, x, y, l, c, j, tx, ty, py⟩) 75)) := (Below.refl _ _).alloc (Nat.le_refl _) _
  have S1 : U1 (w.alloc (.cells (K10.v ⟨i, o, x, y, l, c, j, tx, ty, py⟩) 75)) w.heap.size 0 ⟨i, o, x, y, l, c, j, tx, ty, py⟩ := U1.new w _ _
  rcases head_cases i o x y l c with ⟨e1, eh⟩ | ⟨e1, e2, eh⟩ | ⟨e1, e2, e3, eh⟩ | ⟨e1, e2, e3, e4, eh⟩ | ⟨e1, e2, e3, e4, e5, eh⟩ | ⟨e1, e2, e3, e4, e5, eh⟩
  case' inr.inr.inr.inr.inr => skip
  all_goals
    try rw [e1] at q1
    try rw [e2] at q2
    try rw [e3] at q3
    try rw [e4] at q4
    try rw [e5] at q5
    first | rw [uf_no eh] | rw [uf_yes eh]
  all_goals try
    go_enter Tryz.func52, Tryz.ntmps52
    go_wp2_with (first | (go_at_call 85; refine (q1 _).mono ?_; rintro e w1 ⟨rfl, rfl⟩) | (go_at_call 86; refine (q2 _).mono ?_; rintro e w1 ⟨rfl, rfl⟩) | (go_at_call 53; refine (q3 _).mono ?_; rintro e w1 ⟨rfl, rfl⟩) | (go_at_call 87; refine (q4 _).mono ?_; rintro e w1 ⟨rfl, rfl⟩) | (go_at_call 88; refine (q5 _).mono ?_; rintro e w1 ⟨rfl, rfl⟩))
    go_ret
    exact ⟨rfl, B1⟩
  unfold jf
  show Calls _ _ _ _ fun e w' => e = .returned (.int .i64 (if form j tx ty py = false then 1 else if rng i j tx ty py = false then 3 else 0)) ∧ _
  cases ef : form j tx ty py
  · rw [ef] at q6
    go_enter Tryz.func52, Tryz.ntmps52
    go_wp2_with (first | (go_at_call 85; refine (q1 _).mono ?_; rintro e w1 ⟨rfl, rfl⟩) | (go_at_call 86; refine (q2 _).mono ?_; rintro e w1 ⟨rfl, rfl⟩) | (go_at_call 53; refine (q3 _).mono ?_; rintro e w1 ⟨rfl, rfl⟩) | (go_at_call 87; refine (q4 _).mono ?_; rintro e w1 ⟨rfl, rfl⟩) | (go_at_call 88; refine (q5 _).mono ?_; rintro e w1 ⟨rfl, rfl⟩))
    refine (q6 _).mono ?_
    rintro e w2 ⟨rfl, b2⟩
    go_wp2
    go_ret
    exact ⟨rfl, B1.trans (b2.mono B1.size)⟩
  · rw [jf_impl i j tx ty py ef]
    rw [ef] at q6
    cases et : tile tx ty
    · rw [et] at q7
      go_enter Tryz.func52, Tryz.ntmps52
      go_wp2_with (first | (go_at_call 85; refine (q1 _).mono ?_; rintro e w1 ⟨rfl, rfl⟩) | (go_at_call 86; refine (q2 _).mono ?_; rintro e w1 ⟨rfl, rfl⟩) | (go_at_call 53; refine (q3 _).mono ?_; rintro e w1 ⟨rfl, rfl⟩) | (go_at_call 87; refine (q4 _).mono ?_; rintro e w1 ⟨rfl, rfl⟩) | (go_at_call 88; refine (q5 _).mono ?_; rintro e w1 ⟨rfl, rfl⟩))
      refine (q6 _).mono ?_
      rintro e w2 ⟨rfl, b2⟩
      obtain ⟨d0, d1, d2, d3, d4, d5, d6, d7, d8, d9, dl⟩ := S1.later b2
      go_wp2_with fail
      refine (q7 _).mono ?_
      rintro e w3 ⟨rfl, rfl⟩
      go_wp2
      go_ret
      exact ⟨rfl, B1.trans (b2.mono B1.size)⟩
    · rw [et] at q7
      cases ep : preyB i j py
      all_goals
        rw [ep] at q8
        go_enter Tryz.func52, Tryz.ntmps52
        go_wp2_with (first | (go_at_call 85; refine (q1 _).mono ?_; rintro e w1 ⟨rfl, rfl⟩) | (go_at_call 86; refine (q2 _).mono ?_; rintro e w1 ⟨rfl, rfl⟩) | (go_at_call 53; refine (q3 _).mono ?_; rintro e w1 ⟨rfl, rfl⟩) | (go_at_call 87; refine (q4 _).mono ?_; rintro e w1 ⟨rfl, rfl⟩) | (go_at_call 88; refine (q5 _).mono ?_; rintro e w1 ⟨rfl, rfl⟩))
        refine (q6 _).mono ?_
        rintro e w2 ⟨rfl, b2⟩
        have B2 := B1.trans (b2.mono B1.size)
        obtain ⟨d0, d1, d2, d3, d4, d5, d6, d7, d8, d9, dl⟩ := S1.later b2
        go_wp2_with fail
        refine (q7 _).mono ?_
        rintro e w3 ⟨rfl, rfl⟩
        go_wp2_with fail
        refine (q8 _).mono ?_
        rintro e w4 ⟨rfl, b4⟩
        go_wp2
        go_ret
        exact ⟨rfl, B2.trans (b4.mono B2.size)⟩
end Go.Proofs.YtppgjmpdnpidnaaGreatDoor
end

/- BoardWalks -/
/- Contracts of BoardFault and of its model. Condition: the board's two lists lie in memory as they were laid there. -/
section
namespace Go.Proofs.YtppgjmpdnpidnaaGreatDoor
open Go.ChangeShapes Go.WideShapes Go.ChangeAt Go.RowKit
open Bd
set_option linter.unusedVariables false

/- A board in a block of memory: its two slices. -/
structure BrdAt (w : World) (p : Nat) (s f : Value) : Prop where
  c0 : w.cell? ⟨p, 0, none⟩ = some s
  c1 : w.cell? ⟨p, 1, none⟩ = some f
  lt : p < w.heap.size
theorem BrdAt.later {w w' : World} {p : Nat} {s f : Value} (h : BrdAt w p s f) (hb : Below w.heap.size w w') : BrdAt w' p s f :=
  ⟨by rw [hb.cell h.lt]; exact h.c0, by rw [hb.cell h.lt]; exact h.c1, Nat.lt_of_lt_of_le h.lt hb.size⟩
theorem BrdAt.new (w : World) (s f : Value) (t : TypeId) : BrdAt (w.alloc (.cells #[s, f] t)) w.heap.size s f :=
  ⟨cell_new _ _ _ _ _ rfl, cell_new _ _ _ _ _ rfl, by rw [size_new]; omega⟩
theorem ArgU.at {w : World} {a : Option Addr} {l : List K10} (h : ArgU w a l) {i : Nat} {x : K10} (hi : l[i]? = some x) : ∃ b off, a = some ⟨b, off, none⟩ ∧ b < w.heap.size ∧ UAt w b off l := by
  rcases h with h | h
  · rw [h] at hi; simp at hi
  · exact h
theorem ArgF.at {w : World} {a : Option Addr} {l : List K3} (h : ArgF w a l) {i : Nat} {x : K3} (hi : l[i]? = some x) : ∃ b off, a = some ⟨b, off, none⟩ ∧ b < w.heap.size ∧ FAt w b off l := by
  rcases h with h | h
  · rw [h] at hi; simp at hi
  · exact h

end Go.Proofs.YtppgjmpdnpidnaaGreatDoor
end
