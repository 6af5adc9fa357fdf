/- Texts of mine put together (a claim holds at most 60 files): AlSpec, WfSame, PactLaw, PactNum. -/
import Derived.Test.YtmfdggaijbcijaaGreatPartQ24
import Derived.Test.YtmfdggaijbcijaaGreatPartQ21
import Derived.Test.YtmfdggaijbcijaaGreatPartQ01
import Derived.Test.YtmfdggaijbcijaaGreatPartQ25
import Derived.Test.YtmfdggaijbcijaaGreatPartQ26
import Derived.Test.YtmfdggaijbcijaaGreatPartQ27
import Derived.Test.YtmfdggaijbcijaaGreatPartQ00
import Derived.Laws.FloatArith

/- AlSpec -/
/- The contracts of AreAllies, the program's and the model's. Condition: the world is a copy that lies in memory as it was laid there, with no more than 1048576 parts. -/
section
namespace Go.Proofs.YtmfdggaijbcijaaGreat
open Go.ChangeShapes Go.WideShapes Go.ChangeAt Go.RowKit
open Bd
set_option linter.unusedVariables false

def areA (h : Int → Int → Bool) (x : KW) (a b : Int) : Bool := inb a 0 3 && inb b 0 3 && (wf h x == 0) && h (allyA x.fa a) b
theorem areA_same (x : KW) (a b : Int) : areA hasI x a b = areA hasS x a b := by
  unfold areA
  rw [wf_zero]
  cases e : wf hasS x == 0
  · simp
  · have e' : wf hasS x = 0 := by simpa using e
    rw [has_same (allyA_in (wf_in e') a)]
theorem wf_len {h : Int → Int → Bool} {x : KW} (e : wf h x = 0) : x.fa.length = 4 := by
  rcases wf_cases h x with ⟨_, e'⟩ | ⟨_, _, e'⟩ | ⟨_, _, _, e'⟩ | ⟨_, _, _, e3, e'⟩ | ⟨_, _, _, _, _, e'⟩ | ⟨_, _, _, _, _, _, e'⟩ | ⟨_, _, _, _, _, _, _, e'⟩ | ⟨_, _, _, _, h4, _, _, e'⟩
  · rw [e'] at e; cases e
  · rw [e'] at e; cases e
  · rw [e'] at e; cases e
  · rw [e'] at e; rw [e] at e3; cases e3
  · rw [e'] at e; cases e
  · rw [e'] at e; cases e
  · rw [e'] at e; cases e
  · exact h4
set_option maxRecDepth 20000 in
set_option maxHeartbeats 16000000 in
theorem specAreAllies (p : WP) (x : KW) (hc : x.oo.length ≤ p.oc) (hrc : p.oc ≤ maxLen) (w : World) (h : ArgW w p x) (i j : Int) :
    Calls Tryz.prog 12 #[.agg (p.v x), .int .i64 i, .int .i64 j] w fun e w' => e = .returned (.bool (areA hasS x i j)) ∧ Below w.heap.size w w' := by
  obtain ⟨t, s, us, fs, fa, se, oo⟩ := x
  obtain ⟨u, uc, f, fc, a, ac, q, qc, r, rc⟩ := p
  dsimp only at hc hrc
  have q0 := fun w => l6Side_s i w
  have q1 := fun w => l6Side_s j w
  have Hlen : Hid (wf hasS ⟨t, s, us, fs, fa, se, oo⟩ = 0 → fa.length = 4) := fun e => wf_len e
  show Calls Tryz.prog 12 #[.agg (wv t s u us.length uc f fs.length fc a fa.length ac q se.length qc r oo.length rc), .int .i64 i, .int .i64 j] w _
  obtain ⟨W, HW⟩ : ∃ W, Hid (W = w.alloc (.cells (wv t s u us.length uc f fs.length fc a fa.length ac q se.length qc r oo.length rc) 32)) := ⟨_, rfl⟩
  have B1 : Below w.heap.size w W := by rw [HW.out]; exact (Below.refl _ _).alloc (Nat.le_refl _) _
  have P : Bk W w.heap.size (wv t s u us.length uc f fs.length fc a fa.length ac q se.length qc r oo.length rc) 32 := by rw [HW.out]; exact Bk.new w _ _
  have HN : Hid (ArgW W ⟨u, uc, f, fc, a, ac, q, qc, r, rc⟩ ⟨t, s, us, fs, fa, se, oo⟩) := h.later B1
  have cF := fun W' (h : Below W.heap.size W W') => l6Fault_c w.heap.size t s u us.length uc f fs.length fc a fa.length ac q se.length qc r oo.length rc us fs fa se oo rfl rfl rfl rfl rfl hc hrc W' ⟨(P.below h).cell rfl, (P.below h).cell rfl, (P.below h).cell rfl, (P.below h).cell rfl, (P.below h).cell rfl, (P.below h).cell rfl, (P.below h).cell rfl, (P.below h).lt⟩ (HN.out.later h).u (HN.out.later h).f (HN.out.later h).a (HN.out.later h).s (HN.out.later h).o
  have HE : Hid (areA hasS ⟨t, s, us, fs, fa, se, oo⟩ i j = (inb i 0 3 && inb j 0 3 && (wf hasS ⟨t, s, us, fs, fa, se, oo⟩ == 0) && hasS (allyA fa i) j)) := rfl
  generalize areA hasS ⟨t, s, us, fs, fa, se, oo⟩ i j = R at HE ⊢
  have HA : Hid (ArgA W a fa) := HN.out.a
  generalize wf hasS ⟨t, s, us, fs, fa, se, oo⟩ = F at cF HE Hlen
  generalize us.length = mu at P HW ⊢
  generalize fs.length = mf at P HW ⊢
  obtain ⟨ma, Hma⟩ : ∃ m, Hid (fa.length = m) := ⟨_, rfl⟩
  rw [Hma.out] at P HW Hlen ⊢
  generalize se.length = ms at P HW ⊢
  generalize oo.length = mo at P HW ⊢
  clear hc hrc h HN
  have keep : ∀ w', Below W.heap.size W w' → w'.cell? ⟨w.heap.size, 0, none⟩ = some (.int .i64 t) ∧ w'.cell? ⟨w.heap.size, 1, none⟩ = some (.int .i64 s) ∧ w'.cell? ⟨w.heap.size, 2, none⟩ = some (.slice u mu uc) ∧ w'.cell? ⟨w.heap.size, 3, none⟩ = some (.slice f mf fc) ∧ w'.cell? ⟨w.heap.size, 4, none⟩ = some (.slice a ma ac) ∧ w'.cell? ⟨w.heap.size, 5, none⟩ = some (.slice q ms qc) ∧ w'.cell? ⟨w.heap.size, 6, none⟩ = some (.slice r mo rc) ∧ w.heap.size < w'.heap.size := fun w' hb => by
    have q := P.below hb
    exact ⟨q.cell rfl, q.cell rfl, q.cell rfl, q.cell rfl, q.cell rfl, q.cell rfl, q.cell rfl, q.lt⟩
  have Bc : Below W.heap.size W W := Below.refl _ _
  cases e0 : inb i 0 3
  · rw [e0] at q0 HE
    have HR : Hid (R = false) := HE
    obtain ⟨p0, p1, p2, p3, p4, p5, p6, pl⟩ := keep _ Bc
    go_enter Tryz.func12, Tryz.ntmps12
    go_upto_region 1 with fail
    rw [← HW.out]
    try simp only [List.append]
    go_wp2_with (first | (go_at_call 43; with_reducible refine (q0 _).mono ?_; rintro e w1 ⟨rfl, hw1⟩; obtain rfl := hw1.symm) | (go_at_call 43; with_reducible refine (q1 _).mono ?_; rintro e w1 ⟨rfl, hw1⟩; obtain rfl := hw1.symm))
    go_ret
    exact ⟨by rw [HR.out]; rfl, B1⟩
  cases e1 : inb j 0 3
  · rw [e0] at q0 HE
    rw [e1] at q1 HE
    have HR : Hid (R = false) := HE
    obtain ⟨p0, p1, p2, p3, p4, p5, p6, pl⟩ := keep _ Bc
    go_enter Tryz.func12, Tryz.ntmps12
    go_upto_region 1 with fail
    rw [← HW.out]
    try simp only [List.append]
    go_wp2_with (first | (go_at_call 43; with_reducible refine (q0 _).mono ?_; rintro e w1 ⟨rfl, hw1⟩; obtain rfl := hw1.symm) | (go_at_call 43; with_reducible refine (q1 _).mono ?_; rintro e w1 ⟨rfl, hw1⟩; obtain rfl := hw1.symm))
    go_ret
    exact ⟨by rw [HR.out]; rfl, B1⟩
  cases e2 : F == 0
  · rw [e0] at q0 HE
    rw [e1] at q1 HE
    rw [e2] at HE
    have HR : Hid (R = false) := HE
    obtain ⟨p0, p1, p2, p3, p4, p5, p6, pl⟩ := keep _ Bc
    go_enter Tryz.func12, Tryz.ntmps12
    go_upto_region 1 with fail
    rw [← HW.out]
    try simp only [List.append]
    go_wp2_with (first | (go_at_call 43; with_reducible refine (q0 _).mono ?_; rintro e w1 ⟨rfl, hw1⟩; obtain rfl := hw1.symm) | (go_at_call 43; with_reducible refine (q1 _).mono ?_; rintro e w1 ⟨rfl, hw1⟩; obtain rfl := hw1.symm) | (go_at_call 44; refine (cF _ Bc).mono ?_; rintro e wn ⟨rfl, kn⟩; have Bc := Bc.trans (kn.mono Bc.size)))
    go_ret
    exact ⟨by rw [HR.out]; rfl, B1.trans (Bc.mono B1.size)⟩
  · obtain rfl : F = 0 := by simpa using e2
    obtain ⟨i0, i1⟩ := inb_i e0
    obtain ⟨j0, j1⟩ := inb_i e1
    have h4 : ma = 4 := Hlen.out rfl
    subst h4
    obtain ⟨g, hg, _, hga⟩ := side_at Hma.out i0 i1
    have Hg : Hid (fa[i.toNat]? = some g) := hg
    obtain ⟨ba, oa, rfl, hba, hat⟩ := HA.out.four Hma.out
    have Hat : Hid (AAt W ba oa fa) := hat
    rw [e0] at q0 HE
    rw [e1] at q1 HE
    rw [hga] at HE
    have HR : Hid (R = hasS g.c2 j) := HE
    have qH := fun w => l6Has_c g.c2 j (by omega) (by omega) w
    have keepG := fun w' (hb : Below W.heap.size W w') => (Hat.out.later hba hb).one (Nat.lt_of_lt_of_le hba hb.size) Hg.out
    have ha4 : i < 4 := by omega
    clear e0 e1 e2 hg hga HE Hlen hat
    obtain ⟨p0, p1, p2, p3, p4, p5, p6, pl⟩ := keep _ Bc
    go_enter Tryz.func12, Tryz.ntmps12
    go_upto_region 1 with fail
    rw [← HW.out]
    try simp only [List.append]
    go_wp2_with (first | (go_at_call 43; with_reducible refine (q0 _).mono ?_; rintro e w1 ⟨rfl, hw1⟩; obtain rfl := hw1.symm) | (go_at_call 43; with_reducible refine (q1 _).mono ?_; rintro e w1 ⟨rfl, hw1⟩; obtain rfl := hw1.symm) | (go_at_call 44; refine (cF _ Bc).mono ?_; rintro e wn ⟨rfl, kn⟩; have Bc := Bc.trans (kn.mono Bc.size); obtain ⟨p0, p1, p2, p3, p4, p5, p6, pl⟩ := keep _ Bc; obtain ⟨y0, y1, y2, yl⟩ := keepG _ Bc) | (go_at_call 45; with_reducible refine (qH _).mono ?_; rintro e w1 ⟨rfl, hw1⟩; obtain rfl := hw1.symm))
    go_ret
    exact ⟨by rw [HR.out]; rfl, B1.trans (Bc.mono B1.size)⟩
end Go.Proofs.YtmfdggaijbcijaaGreat
end

/- WfSame -/
/- Plain facts: the program and the model tell the same of a world whose Allies are from 0 to 31. No condition. -/
section
namespace Go.Proofs.YtmfdggaijbcijaaGreat
open Bd
set_option linter.unusedVariables false

theorem has32 {m : Int} (h0 : 0 ≤ m) (h1 : m < 32) (b : Int) : hasI m b = hasS m b := has_eq m b h0 (by omega)
theorem alB32 {m i : Int} (m0 : 0 ≤ m) (m1 : m < 32) : ∀ {k : Int} {l : List KA}, (∀ g ∈ l, 0 ≤ g.c2 ∧ g.c2 < 32) → alB hasI m i k l = alB hasS m i k l
  | _, [], _ => rfl
  | k, g :: l, h => by
    have hg := h g (by simp)
    unfold alB
    rw [has32 m0 m1, has32 hg.1 hg.2, alB32 m0 m1 (fun x hx => h x (List.mem_cons_of_mem _ hx))]
theorem faF32 {fa : List KA} (hfa : ∀ f ∈ fa, 0 ≤ f.c2 ∧ f.c2 < 32) : ∀ {l : List KA} {i : Int}, (∀ f ∈ l, 0 ≤ f.c2 ∧ f.c2 < 32) → faF hasI fa i l = faF hasS fa i l
  | [], _, _ => rfl
  | a :: l, i, h => by
    have ha := h a (by simp)
    have e : faC hasI fa i a = faC hasS fa i a := by unfold faC; rw [alB32 ha.1 ha.2 hfa]
    unfold faF
    rw [e, faF32 hfa (fun x hx => h x (List.mem_cons_of_mem _ hx))]
theorem ally32 {fa : List KA} (hfa : ∀ f ∈ fa, 0 ≤ f.c2 ∧ f.c2 < 32) (i : Int) : 0 ≤ allyA fa i ∧ allyA fa i < 32 := by
  unfold allyA
  rw [List.getD_eq_getElem?_getD]
  cases hh : fa[i.toNat]? with
  | none => exact ⟨by decide, by decide⟩
  | some g => exact hfa g (List.mem_of_getElem? hh)
theorem ofF32 {fa : List KA} (hfa : ∀ f ∈ fa, 0 ≤ f.c2 ∧ f.c2 < 32) : ∀ {l q : List K2}, ofF hasI fa q l = ofF hasS fa q l
  | [], _ => rfl
  | x :: l, q => by
    have hx := ally32 hfa x.c0
    have e : ofB hasI fa q x = ofB hasS fa q x := by unfold ofB; rw [has32 hx.1 hx.2]
    unfold ofF
    rw [e, ofF32 hfa]
theorem wf32 {x : KW} (hfa : ∀ f ∈ x.fa, 0 ≤ f.c2 ∧ f.c2 < 32) : wf hasI x = wf hasS x := by
  unfold wf
  rw [faF32 hfa hfa, ofF32 hfa]
theorem DW.wf {x : KW} (h : DW x) : Go.Proofs.YtmfdggaijbcijaaGreat.wf hasI x = Go.Proofs.YtmfdggaijbcijaaGreat.wf hasS x := wf32 h.a.p
theorem DW.prF {x : KW} (h : DW x) (a b : Int) : Go.Proofs.YtmfdggaijbcijaaGreat.prF hasI x a b = Go.Proofs.YtmfdggaijbcijaaGreat.prF hasS x a b := by unfold Go.Proofs.YtmfdggaijbcijaaGreat.prF; rw [h.wf]
theorem DW.payC {x : KW} (h : DW x) (a b n : Int) : Go.Proofs.YtmfdggaijbcijaaGreat.payC hasI x a b n = Go.Proofs.YtmfdggaijbcijaaGreat.payC hasS x a b n := by unfold Go.Proofs.YtmfdggaijbcijaaGreat.payC; rw [h.prF]
theorem DW.payX {x : KW} (h : DW x) (a b n : Int) : Go.Proofs.YtmfdggaijbcijaaGreat.payX hasI x a b n = Go.Proofs.YtmfdggaijbcijaaGreat.payX hasS x a b n := by unfold Go.Proofs.YtmfdggaijbcijaaGreat.payX; rw [h.payC]
end Go.Proofs.YtmfdggaijbcijaaGreat
end

/- PactLaw -/
/- Pacts as the laws ask for them. Plain facts, no condition. -/
section
namespace Go.Proofs.YtmfdggaijbcijaaGreat
open Bd
set_option linter.unusedVariables false

theorem hIS (m b : Int) (e : inb m 0 15 = true) : hasI m b = hasS m b := has_same e b
theorem areA_sym (h : Int → Int → Bool) (x : KW) (a b : Int) : areA h x b a = areA h x a b := by
  unfold areA
  cases ia : inb a 0 3
  · simp
  · cases ib : inb b 0 3
    · simp
    · cases ew : wf h x == 0
      · simp
      · have e : wf h x = 0 := by simpa using ew
        simp [ally_sym e ia ib]
structure BrkA (x : KW) (a b : Int) : Prop where
  wf0 : wf hasI (brkX hasI x a b) = 0
  ab : areA hasI (brkX hasI x a b) a b = false
  ba : areA hasI (brkX hasI x a b) b a = false
  yes : areA hasI x a b = true
theorem brk_law {x : KW} {a b : Int} (e : brkC hasI x a b = 0) : BrkA x a b := by
  have g := brk_good hIS e
  obtain ⟨e1, e2⟩ := brkC_zero.1 e
  obtain ⟨w0, s0⟩ := prF_zero.1 e1
  obtain ⟨ia, ib, hab, ga, gb⟩ := sdF_zero.1 s0
  refine ⟨g.wf0, ?_, ?_, ?_⟩
  · unfold areA; rw [g.ab]; simp
  · unfold areA; rw [g.ba]; simp
  · unfold areA; rw [g.yes, ia, ib, w0]; rfl
structure AccA (x : KW) (a b : Int) : Prop where
  wf0 : wf hasI (accX hasI x a b) = 0
  ab : areA hasI (accX hasI x a b) a b = true
  ba : areA hasI (accX hasI x a b) b a = true
  no : areA hasI x a b = false
theorem acc_law {x : KW} {a b : Int} (e : accC hasI x a b = 0) : AccA x a b := by
  have g := acc_good hIS e
  obtain ⟨e1, e2⟩ := accC_zero.1 e
  obtain ⟨w0, s0⟩ := prF_zero.1 e1
  obtain ⟨ia, ib, hab, ga, gb⟩ := sdF_zero.1 s0
  refine ⟨g.wf0, ?_, ?_, ?_⟩
  · unfold areA; rw [g.ab, ia, ib, g.wf0]; rfl
  · unfold areA; rw [g.ba, ia, ib, g.wf0]; rfl
  · unfold areA; rw [g.no]; simp
theorem has_ally {x : KW} {a b : Int} (e : prF hasS x a b = 0) : hasI (allyA x.fa a) b = hasS (allyA x.fa a) b := has_same (allyA_in (wf_in (prF_zero.1 e).1) a) b
theorem DW.accC {x : KW} (h : DW x) (a b : Int) : Go.Proofs.YtmfdggaijbcijaaGreat.accC hasI x a b = Go.Proofs.YtmfdggaijbcijaaGreat.accC hasS x a b := by unfold Go.Proofs.YtmfdggaijbcijaaGreat.accC; rw [h.prF]
theorem DW.accX {x : KW} (h : DW x) (a b : Int) : Go.Proofs.YtmfdggaijbcijaaGreat.accX hasI x a b = Go.Proofs.YtmfdggaijbcijaaGreat.accX hasS x a b := by unfold Go.Proofs.YtmfdggaijbcijaaGreat.accX; rw [h.accC]
theorem DW.brkC {x : KW} (h : DW x) (a b : Int) : Go.Proofs.YtmfdggaijbcijaaGreat.brkC hasI x a b = Go.Proofs.YtmfdggaijbcijaaGreat.brkC hasS x a b := by
  unfold Go.Proofs.YtmfdggaijbcijaaGreat.brkC
  rw [h.prF]
  cases e : Go.Proofs.YtmfdggaijbcijaaGreat.prF hasS x a b == 0
  · rfl
  · rw [has_ally (by simpa using e)]
theorem DW.offC {x : KW} (h : DW x) (a b : Int) : Go.Proofs.YtmfdggaijbcijaaGreat.offC hasI x a b = Go.Proofs.YtmfdggaijbcijaaGreat.offC hasS x a b := by
  unfold Go.Proofs.YtmfdggaijbcijaaGreat.offC
  rw [h.prF]
  cases e : Go.Proofs.YtmfdggaijbcijaaGreat.prF hasS x a b == 0
  · rfl
  · rw [has_ally (by simpa using e)]
/- the size of the lists of a world that has no fault, or is a drawn one -/
structure SzW (x : KW) : Prop where
  u : x.us.length ≤ 1000
  f : x.fs.length ≤ 1000
  a : x.fa.length ≤ 1000
  s : x.se.length ≤ 1000
  o : x.oo.length ≤ 1000
theorem DW.sz {x : KW} (h1 : DW x) : SzW x := by
  have := h1.u; have := h1.f; have := h1.a.l; have := h1.s; have := h1.o
  exact ⟨by omega, by omega, by omega, by omega, by omega⟩
theorem good_sz {h : Int → Int → Bool} {x : KW} (e : wf h x = 0) : SzW x := by
  have g := (gdW_iff h x).1 e
  have h0 := bf_ok g.b; have h1 := h0.1; have h2 := h0.2.1; have := g.a4; have := g.s6; have := g.o6
  exact ⟨by omega, by omega, by omega, by omega, by omega⟩
end Go.Proofs.YtmfdggaijbcijaaGreat
end

/- PactNum -/
/- Both sides of a pact as one complex number. Condition: both are from 0 to 3. -/
section
namespace Go.Proofs.YtmfdggaijbcijaaGreat
open Go.ChangeShapes Go.WideShapes Go.ChangeAt Go.RowKit
set_option linter.unusedVariables false

abbrev pcv (a b : Int) : Value := .complex .f64 (floatOfInt .f64 a) (floatOfInt .f64 b)
theorem in4 {a : Int} (h0 : 0 ≤ a) (h3 : a ≤ 3) : a = 0 ∨ a = 1 ∨ a = 2 ∨ a = 3 := by omega
theorem pactOf_c (a b : Int) (w : World) : Calls Tryz.prog 28 #[.int .i64 a, .int .i64 b] w fun e w' => e = .returned (pcv a b) ∧ w' = w := by
  go_enter Tryz.func28, Tryz.ntmps28
  go_wp2
  go_ret
  exact ⟨rfl, rfl⟩
theorem turned_c (a b : Int) (w : World) : Calls Tryz.prog 30 #[pcv a b] w fun e w' => e = .returned (pcv b a) ∧ w' = w := by
  go_enter Tryz.func30, Tryz.ntmps30
  go_wp2
  go_ret
  exact ⟨rfl, rfl⟩
theorem fl_back {a : Int} (a0 : 0 ≤ a) (a3 : a ≤ 3) : floatToIntVal .f64 (floatOfInt .f64 a) .i64 = some a := by
  rcases in4 a0 a3 with rfl | rfl | rfl | rfl <;> decide +kernel
theorem speaker_c (a b : Int) (a0 : 0 ≤ a) (a3 : a ≤ 3) (w : World) : Calls Tryz.prog 34 #[pcv a b] w fun e w' => e = .returned (.int .i64 a) ∧ w' = w := by
  have hc : ∀ w, (convert 95 2 (.float .f64 (floatOfInt .f64 a))).run Tryz.prog w = .ok (.int .i64 a) w := fun w => run_convert_float_int w 95 2 .f64 .i64 _ a (by rw [Tryz.underlying95]; rfl) Tryz.underlying2 (fl_back a0 a3)
  unfold pcv
  generalize floatOfInt .f64 a = x at hc ⊢
  generalize floatOfInt .f64 b = y
  go_enter Tryz.func34, Tryz.ntmps34
  go_wp2
  go_ret
  exact ⟨rfl, rfl⟩
theorem other_c (a b : Int) (a0 : 0 ≤ b) (a3 : b ≤ 3) (w : World) : Calls Tryz.prog 35 #[pcv a b] w fun e w' => e = .returned (.int .i64 b) ∧ w' = w := by
  have hc : ∀ w, (convert 95 2 (.float .f64 (floatOfInt .f64 b))).run Tryz.prog w = .ok (.int .i64 b) w := fun w => run_convert_float_int w 95 2 .f64 .i64 _ b (by rw [Tryz.underlying95]; rfl) Tryz.underlying2 (fl_back a0 a3)
  unfold pcv
  generalize floatOfInt .f64 b = x at hc ⊢
  generalize floatOfInt .f64 a = y
  go_enter Tryz.func35, Tryz.ntmps35
  go_wp2
  go_ret
  exact ⟨rfl, rfl⟩
theorem offer_c (a b : Int) (a0 : 0 ≤ a) (a3 : a ≤ 3) (b0 : 0 ≤ b) (b3 : b ≤ 3) (w : World) : Calls Tryz.prog 31 #[pcv a b] w fun e w' => e = .returned (.agg #[.int .i64 a, .int .i64 b]) ∧ w' = w.alloc (.cells #[.int .i64 a, .int .i64 b] 49) := by
  have c1 := fun w => speaker_c a b a0 a3 w
  have c2 := fun w => other_c a b b0 b3 w
  unfold pcv at c1 c2 ⊢
  generalize floatOfInt .f64 b = x at c1 c2 ⊢
  generalize floatOfInt .f64 a = y at c1 c2 ⊢
  go_enter Tryz.func31, Tryz.ntmps31
  go_wp2_with (first | (go_at_call 34; refine (c1 _).mono ?_; rintro e w' ⟨rfl, rfl⟩) | (go_at_call 35; refine (c2 _).mono ?_; rintro e w' ⟨rfl, rfl⟩))
  refine bodyPost_ret (v := .agg #[.int .i64 a, .int .i64 b]) ?_ rfl ⟨rfl, rfl⟩
  simp [results, Tryz.results31, go_sem]
  done
theorem bothWays_c (a b : Int) (w : World) : Calls Tryz.prog 33 #[pcv a b] w fun e w' => e = .returned (.agg #[pcv a b, pcv b a]) ∧ Below w.heap.size w w' := by
  have c1 := fun w => turned_c a b w
  have hst : ∀ (w : World) (a : Addr) (x y : Nat) (m : Mode), (store a (.complex .f64 x y) m).run Tryz.prog w = stored Tryz.prog w a (.complex .f64 x y) m := fun w a x y m => run_store _ w a _ m rfl
  unfold pcv at c1 ⊢
  generalize floatOfInt .f64 b = x at c1 ⊢
  generalize floatOfInt .f64 a = y at c1 ⊢
  go_enter Tryz.func33, Tryz.ntmps33
  go_wp2_with (first | (go_at_call 30; refine (c1 _).mono ?_; rintro e w' ⟨rfl, rfl⟩))
  refine bodyPost_ret (v := .agg #[.complex .f64 y x, .complex .f64 x y]) ?_ rfl ⟨rfl, ?_⟩
  · simp [results, Tryz.results33, go_sem]
    done
  · exact (Below.refl _ _).alloc (Nat.le_refl _) _
theorem idx0 (a b c d : Nat) (w : World) : (Instr.index 61 (.agg #[.complex .f64 a b, .complex .f64 c d]) (.int .i64 0)).run Tryz.prog w = .ok (.complex .f64 a b) w := by
  kernel_rfl
theorem idx1 (a b c d : Nat) (w : World) : (Instr.index 61 (.agg #[.complex .f64 a b, .complex .f64 c d]) (.int .i64 1)).run Tryz.prog w = .ok (.complex .f64 c d) w := by
  kernel_rfl
end Go.Proofs.YtmfdggaijbcijaaGreat
end
