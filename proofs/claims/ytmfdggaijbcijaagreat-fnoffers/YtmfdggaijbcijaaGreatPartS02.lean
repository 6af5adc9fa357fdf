/- Texts of mine put together (a claim holds at most 60 files): OfTo, PactLaw2. -/
import Derived.Test.YtmfdggaijbcijaaGreatPartS01
import Derived.Test.YtmfdggaijbcijaaGreatPartQ10
import Derived.Deep.RegionLaw
import Derived.Test.YtmfdggaijbcijaaGreatPartQ28

/- OfTo -/
/- The contracts of OffersTo, the program's and the model's. Condition: the world's lists lie in memory as they were laid there. -/
section
namespace Go.Proofs.YtmfdggaijbcijaaGreat
open Go.ChangeShapes Go.WideShapes Go.ChangeAt Go.RowKit
open Bd
set_option linter.unusedVariables false

/- who offers to a side -/
def otL (oo : List K2) (i : Int) : List Int := (oo.filter (fun o => o.c1 == i)).map K2.c0
def otX (h : Int → Int → Bool) (x : KW) (i : Int) : List Int := if (sfF h x i == 0) = true then otL x.oo i else []
theorem otL_step {oo : List K2} {k : Nat} {y : K2} {i : Int} (h : oo[k]? = some y) : otL (oo.take (k + 1)) i = otL (oo.take k) i ++ (if (y.c1 == i) = true then [y.c0] else []) := by
  unfold otL
  rw [List.take_add_one, h, List.filter_append, List.map_append]
  cases e : y.c1 == i <;> simp [e]
theorem otL_len (oo : List K2) (i : Int) : (otL oo i).length ≤ oo.length := by
  unfold otL
  rw [List.length_map]
  exact List.length_filter_le _ _
/- append of one number to a list of one's own, as one step of a region that draws its order -/
theorem step_pushN {ops : Array Oper} {o : Oper} {a : Act} {W : World} {K : Act → World → Prop} {Q : Exit → Act → World → Prop} {E : Prop} (hgd : o.guard = none) (s x : Operand)
    (ho : o.op = .call { callee := .builtin .append, args := #[s, x], argTypes := #[43, 43] }) (b : Nat) (u : Int) (base : Nat) (v : Value) (l : List Int) (hs : a.eval s = v) (hown : SlI W base v l)
    (hx : a.eval x = .slice (some ⟨b, 0, none⟩) 1 1) (hc : Blk W b #[.int .i64 u] 2) (hlen : l.length ≤ 100) (hbase : base ≤ W.heap.size)
    (h : ∀ v' w', SlI w' base v' (l ++ [u]) → W.grownBy w' v.ownBlock → K (a.put o.dst v') w') :
    if Region.wanted o (yielded ops a.tmps) = true then Oper.wp Tryz.prog o a W K Q else E := by
  have hw : Region.wanted o (yielded ops a.tmps) = true := by simp [Region.wanted, hgd]
  rw [if_pos hw]
  obtain ⟨i0, hi, hz0, hz1, hz2⟩ := info_parts info64
  refine wp_append_own _ s x 43 ho base 2 i0 (.int .i64 0) 1 8 Tryz.underlying43 hi hz0 hz1 hz2 rfl (by decide) v l.length _ hs hown ⟨b, 0, none⟩ 1 1 [.int .i64 u] hx (by rfl) ?_ (one_cell _ _) (by unfold maxLen; omega) (by omega) hbase ?_
  · intro j y hj
    rw [add_plain', Nat.zero_add]
    exact hc.cell (by simpa using hj)
  · intro v' w' h1 h2 _
    refine h v' w' ?_ h2
    unfold SlI
    rw [List.map_append, List.length_append]
    exact h1
theorem SlI.fm {w : World} {base : Nat} {v : Value} {l : List Int} (h : SlI w base v l) : ∃ p c, v = .slice p l.length c := SlI.form h
set_option maxRecDepth 20000 in
set_option maxHeartbeats 16000000 in
theorem implOffersTo (p : WP) (x : KW) (w : World) (h : InW w p x) (i : Int) :
    Calls Tryz.prog 21 #[.agg (p.v x), .int .i64 i] w fun e w' => ∃ v, e = .returned (.agg #[.int .i64 (sfF hasI x i), v]) ∧ SlI w' w.heap.size v (otX hasI x i) ∧ Below w.heap.size w w' := by
  obtain ⟨t, s, us, fs, fa, se, oo⟩ := x
  obtain ⟨u, uc, f, fc, a, ac, q, qc, r, rc⟩ := p
  obtain ⟨W, HW⟩ : ∃ W, Hid (W = (w.alloc (.cells (wv t s u us.length uc f fs.length fc a fa.length ac q se.length qc r oo.length rc) 32)).alloc (.cells zi2 45)) := ⟨_, rfl⟩
  have B1 : Below w.heap.size w W := by rw [HW.out]; exact ((Below.refl _ _).alloc (Nat.le_refl _) _).alloc (by rw [size_new]; omega) _
  have P : Bk W w.heap.size (wv t s u us.length uc f fs.length fc a fa.length ac q se.length qc r oo.length rc) 32 := by rw [HW.out]; exact (Bk.new w (wv t s u us.length uc f fs.length fc a fa.length ac q se.length qc r oo.length rc) 32).alloc _
  have R : Blk W (w.heap.size + 1) zi2 45 := by rw [HW.out]; have h := Blk.new (w.alloc (.cells (wv t s u us.length uc f fs.length fc a fa.length ac q se.length qc r oo.length rc) 32)) zi2 45; rw [size_new] at h; exact h
  have HN : Hid (InW W ⟨u, uc, f, fc, a, ac, q, qc, r, rc⟩ ⟨t, s, us, fs, fa, se, oo⟩) := h.later B1
  have HR : Hid (Blk W (w.heap.size + 1) zi2 45) := R
  have hB := B1.size
  show Calls Tryz.prog 21 #[.agg (wv t s u us.length uc f fs.length fc a fa.length ac q se.length qc r oo.length rc), .int .i64 i] w _
  have cF := fun W' (h : Below W.heap.size W W') => implSideFault ⟨u, uc, f, fc, a, ac, q, qc, r, rc⟩ ⟨t, s, us, fs, fa, se, oo⟩ HN.out.o1 HN.out.o2 W' (HN.out.later h).arg i
  replace cF : ∀ W', Below W.heap.size W W' → Calls Tryz.prog 62 #[.agg (wv t s u us.length uc f fs.length fc a fa.length ac q se.length qc r oo.length rc), .int .i64 i] W' fun e w' => e = .returned (.int .i64 (sfF hasI ⟨t, s, us, fs, fa, se, oo⟩ i)) ∧ Below W'.heap.size W' w' := cF
  obtain ⟨i0', hi, hz0, hz1, hz2⟩ := info_parts info64
  have HL : Hid (otX hasI ⟨t, s, us, fs, fa, se, oo⟩ i = if (sfF hasI ⟨t, s, us, fs, fa, se, oo⟩ i == 0) = true then otL oo i else []) := rfl
  have HG : Hid (sfF hasI ⟨t, s, us, fs, fa, se, oo⟩ i = 0 → GdW hasI ⟨t, s, us, fs, fa, se, oo⟩) := fun e => (gdW_iff hasI _).1 (sfF_zero.1 e).1
  generalize otX hasI ⟨t, s, us, fs, fa, se, oo⟩ i = L at HL ⊢
  generalize sfF hasI ⟨t, s, us, fs, fa, se, oo⟩ i = F at cF HL HG ⊢
  have HW2 : Hid (W.heap.size = w.heap.size + 2) := by show _ = _; rw [HW.out, size_new, size_new]
  obtain ⟨mu, Hmu⟩ : ∃ m, Hid (us.length = m) := ⟨_, rfl⟩
  obtain ⟨mf, Hmf⟩ : ∃ m, Hid (fs.length = m) := ⟨_, rfl⟩
  obtain ⟨ma, Hma⟩ : ∃ m, Hid (fa.length = m) := ⟨_, rfl⟩
  obtain ⟨ms, Hms⟩ : ∃ m, Hid (se.length = m) := ⟨_, rfl⟩
  obtain ⟨mo, Hmo⟩ : ∃ m, Hid (oo.length = m) := ⟨_, rfl⟩
  rw [Hmu.out, Hmf.out, Hma.out, Hms.out, Hmo.out] at P HW ⊢
  rw [Hmu.out, Hmf.out, Hma.out, Hms.out, Hmo.out] at cF
  clear h R
  have keep : ∀ w', Below W.heap.size W w' → w'.cell? ⟨w.heap.size, 0, none⟩ = some (.int .i64 t) ∧ w'.cell? ⟨w.heap.size, 1, none⟩ = some (.int .i64 s) ∧ w'.cell? ⟨w.heap.size, 2, none⟩ = some (.slice u mu uc) ∧ w'.cell? ⟨w.heap.size, 3, none⟩ = some (.slice f mf fc) ∧ w'.cell? ⟨w.heap.size, 4, none⟩ = some (.slice a ma ac) ∧ w'.cell? ⟨w.heap.size, 5, none⟩ = some (.slice q ms qc) ∧ w'.cell? ⟨w.heap.size, 6, none⟩ = some (.slice r mo rc) ∧ w.heap.size < w'.heap.size := fun w' hb => by
    have q := P.below hb
    exact ⟨q.cell rfl, q.cell rfl, q.cell rfl, q.cell rfl, q.cell rfl, q.cell rfl, q.cell rfl, q.lt⟩
  have Bc : Below W.heap.size W W := Below.refl _ _
  obtain ⟨p0, p1, p2, p3, p4, p5, p6, pl⟩ := keep _ Bc
  cases e2 : F == 0
  · have n7 : (F != 0) = true := by simp only [bne, e2]; rfl
    have HR1 : Hid (F = F ∧ L = []) := ⟨rfl, by rw [HL.out, e2]; rfl⟩
    clear HL HG e2
    go_enter Tryz.func21, Tryz.ntmps21
    go_upto_region 1 with fail
    rw [← HW.out]
    go_wp2_with fail
    refine (cF _ Bc).mono ?_
    rintro e wn ⟨rfl, kn⟩
    have Bc := Bc.trans (kn.mono Bc.size)
    clear p0 p1 p2 p3 p4 p5 p6 pl
    have R1 := HR.out.below Bc
    obtain ⟨r0, r1, y0, y1, rl⟩ := R1.zi2
    have Fz := seti2_blk R1 (.int .i64 F) (.slice none 0 0)
    have BE := seti2_below (B1.trans (Bc.mono hB)) (show w.heap.size ≤ w.heap.size + 1 by omega) (.int .i64 F) (.slice none 0 0)
    clear R1
    go_wp2_with fail
    rw [HR1.out.2]
    exact bodyPost_ret (v := .agg #[.int .i64 F, .slice none 0 0]) (resulti2 Tryz.results21 Fz _ rfl) rfl ⟨_, rfl, SlI.nil _ _, BE⟩
  · obtain rfl : F = 0 := by simpa using e2
    have G := HG.out rfl
    have h6 : mo ≤ 6 := by have := G.o6; have := Hmo.out; dsimp only at *; omega
    have HR2 : Hid ((0 : Int) = 0 ∧ L = L) := ⟨rfl, rfl⟩
    have eL : Hid (L = otL oo i) := by show _ = _; rw [HL.out]; rfl
    clear HL HG G e2
    go_enter Tryz.func21, Tryz.ntmps21
    go_upto_region 1 with fail
    rw [← HW.out]
    go_wp2_with fail
    refine (cF _ Bc).mono ?_
    rintro e wn ⟨rfl, kn⟩
    have Bc := Bc.trans (kn.mono Bc.size)
    clear p0 p1 p2 p3 p4 p5 p6 pl
    obtain ⟨p0, p1, p2, p3, p4, p5, p6, pl⟩ := keep _ Bc
    have Bw := Below.refl wn.heap.size wn
    go_wp2_with fail
    go_loopw [6, 19] (fun v z wr => ∃ k : Nat, k ≤ mo ∧ z = .int .i64 k ∧ Hid (wr.ownsRow wn.heap.size 2 1 v (otL (oo.take k) i).length ((otL (oo.take k) i).map (Value.int .i64))) ∧ Below wn.heap.size wn wr) (fun _ z _ => mo - (intOf z).toNat)
    case atStart => exact ⟨0, Nat.zero_le _, rfl, ⟨rfl, .inl ⟨rfl, rfl⟩⟩, Bw⟩
    case round =>
      obtain ⟨k, hk, rfl, Hown, kb⟩ := hrel
      clear p0 p1 p2 p3 p4 p5 p6 pl
      by_cases hlt : k < mo
      · have hlt' : (k : Int) < (mo : Int) := by omega
        obtain ⟨y, hy⟩ : ∃ y, oo[k]? = some y := ⟨_, List.getElem?_eq_getElem (by have := Hmo.out; omega)⟩
        have Bc := Bc.trans (kb.mono Bc.size)
        obtain ⟨b, off, hro, hb, hat⟩ := (HN.out.later Bc).arg.o.at hy
        dsimp only at hro
        subst hro
        obtain ⟨x0, x1, xl⟩ := hat.one hb hy
        have Hst : Hid (otL (oo.take (k + 1)) i = otL (oo.take k) i ++ (if (y.c1 == i) = true then [y.c0] else [])) := otL_step hy
        have hlen : (otL (oo.take k) i).length ≤ 100 := Nat.le_trans (otL_len _ _) (by rw [List.length_take]; omega)
        obtain ⟨W5, HW5⟩ : ∃ W5, Hid (W5 = wr.alloc (.cells #[.int .i64 y.c0, .int .i64 y.c1] 49)) := ⟨_, rfl⟩
        have k5 : Below wr.heap.size wr W5 := by rw [HW5.out]; exact (Below.refl _ _).alloc (Nat.le_refl _) _
        have B5 : Blk W5 wr.heap.size #[.int .i64 y.c0, .int .i64 y.c1] 49 := by rw [HW5.out]; exact Blk.new wr _ _
        have z0 : W5.cell? ⟨wr.heap.size, 0, none⟩ = some (.int .i64 y.c0) := B5.cell rfl
        have z1 : W5.cell? ⟨wr.heap.size, 1, none⟩ = some (.int .i64 y.c1) := B5.cell rfl
        have zl := B5.lt
        have hown : W5.ownsRow wn.heap.size 2 1 u6 (otL (oo.take k) i).length ((otL (oo.take k) i).map (Value.int .i64)) := by rw [HW5.out]; exact Hown.out.alloc _
        have kb5 := kb.trans (k5.mono kb.size)
        have kbs := kb5.size
        clear hy hat B5 Hown
        cases e1 : y.c1 == i
        · have ho1 : Hid (W5.ownsRow wn.heap.size 2 1 u6 (otL (oo.take (k + 1)) i).length ((otL (oo.take (k + 1)) i).map (Value.int .i64))) := by
            show World.ownsRow _ _ _ _ _ _ _
            rw [Hst.out, e1]; simpa using hown
          obtain ⟨p0, p1, p2, p3, p4, p5, p6, pl⟩ := keep _ Bc
          clear hown
          go_upto_region 8 with fail
          rw [← HW5.out]
          go_wp2_with fail
          go_roundw
          case rel => exact ⟨k + 1, by omega, by go_num, ho1, kb5⟩
          case measure => simp [intOf]; omega
        · obtain ⟨p0, p1, p2, p3, p4, p5, p6, pl⟩ := keep _ Bc
          go_upto_region 8 with fail
          rw [← HW5.out]
          go_wp2_with (at_builtin; refine wpList_append_own _ rfl _ _ 43 rfl wn.heap.size 2 i0' (.int .i64 0) 1 8 Tryz.underlying43 hi hz0 hz1 hz2 rfl (by decide) _ _ _ rfl (hown.alloc _) ⟨_, 0, none⟩ 1 1 [.int .i64 y.c0] rfl rfl (one_new _ _ _) (one_cell _ _) (by unfold maxLen; omega) (by omega) (by rw [size_new]; omega) ?_)
          intro v' w1 hown' hgrow _
          have hb1 : Below wn.heap.size wn w1 := (kb5.alloc kb5.size _).grown hgrow (by rw [size_new]; omega) (fun k' hk' => (hown.lt k' hk').1)
          have ho1 : Hid (w1.ownsRow wn.heap.size 2 1 v' (otL (oo.take (k + 1)) i).length ((otL (oo.take (k + 1)) i).map (Value.int .i64))) := by
            show World.ownsRow _ _ _ _ _ _ _
            rw [Hst.out, e1]; simpa using hown'
          clear hown' hgrow hown
          go_wp2_with fail
          go_roundw
          case rel => exact ⟨k + 1, by omega, by go_num, ho1, hb1⟩
          case measure => simp [intOf]; omega
      · obtain rfl : k = mo := by omega
        have e : oo.take k = oo := List.take_of_length_le (by have := Hmo.out; omega)
        rw [e, ← eL.out] at Hown
        have Sv := SlI.of Hown.out
        obtain ⟨w3, hw3⟩ : ∃ v, v = wr := ⟨_, rfl⟩
        obtain rfl := hw3.symm
        have k3 := kb
        clear Hown e
        obtain ⟨pv, cv, hv⟩ := Sv.form
        obtain ⟨n9, Hn9⟩ : ∃ n9, Hid (L.length = n9) := ⟨_, rfl⟩
        rw [Hn9.out] at hv
        subst hv
        have Ow := ((Sv.mono' (show w.heap.size + 2 ≤ _ by have := Bc.size; have := HW2.out; omega)).ne (show w.heap.size + 1 < w.heap.size + 2 by omega) (w' := seti2 wr (w.heap.size + 1) (.int .i64 0) (.slice pv n9 cv)) (seti2_other (W := wr) (g := w.heap.size + 1) (.int .i64 0) (.slice pv n9 cv))).mono' (show w.heap.size ≤ w.heap.size + 2 by omega)
        have Bc := Bc.trans (k3.mono Bc.size)
        clear Sv k3
        have R1 := HR.out.below Bc
        obtain ⟨r0, r1, y0, y1, rl⟩ := R1.zi2
        have Fz := seti2_blk R1 (.int .i64 0) (.slice pv n9 cv)
        have BE := seti2_below (B1.trans (Bc.mono hB)) (show w.heap.size ≤ w.heap.size + 1 by omega) (.int .i64 0) (.slice pv n9 cv)
        clear R1
        go_wp2_with fail
        exact bodyPost_ret (v := .agg #[.int .i64 0, .slice pv n9 cv]) (resulti2 Tryz.results21 Fz _ rfl) rfl ⟨_, rfl, Ow, BE⟩
set_option maxRecDepth 20000 in
set_option maxHeartbeats 16000000 in
theorem specOffersTo (p : WP) (x : KW) (w : World) (h : InW w p x) (i : Int) :
    Calls Tryz.prog 22 #[.agg (p.v x), .int .i64 i] w fun e w' => ∃ v, e = .returned (.agg #[.int .i64 (sfF hasS x i), v]) ∧ SlI w' w.heap.size v (otX hasS x i) ∧ Below w.heap.size w w' := by
  obtain ⟨t, s, us, fs, fa, se, oo⟩ := x
  obtain ⟨u, uc, f, fc, a, ac, q, qc, r, rc⟩ := p
  obtain ⟨W, HW⟩ : ∃ W, Hid (W = (w.alloc (.cells (wv t s u us.length uc f fs.length fc a fa.length ac q se.length qc r oo.length rc) 32)).alloc (.cells zi2 45)) := ⟨_, rfl⟩
  have B1 : Below w.heap.size w W := by rw [HW.out]; exact ((Below.refl _ _).alloc (Nat.le_refl _) _).alloc (by rw [size_new]; omega) _
  have P : Bk W w.heap.size (wv t s u us.length uc f fs.length fc a fa.length ac q se.length qc r oo.length rc) 32 := by rw [HW.out]; exact (Bk.new w (wv t s u us.length uc f fs.length fc a fa.length ac q se.length qc r oo.length rc) 32).alloc _
  have R : Blk W (w.heap.size + 1) zi2 45 := by rw [HW.out]; have h := Blk.new (w.alloc (.cells (wv t s u us.length uc f fs.length fc a fa.length ac q se.length qc r oo.length rc) 32)) zi2 45; rw [size_new] at h; exact h
  have HN : Hid (InW W ⟨u, uc, f, fc, a, ac, q, qc, r, rc⟩ ⟨t, s, us, fs, fa, se, oo⟩) := h.later B1
  have HR : Hid (Blk W (w.heap.size + 1) zi2 45) := R
  have hB := B1.size
  show Calls Tryz.prog 22 #[.agg (wv t s u us.length uc f fs.length fc a fa.length ac q se.length qc r oo.length rc), .int .i64 i] w _
  have cF := fun W' (h : Below W.heap.size W W') => l6Fault_c w.heap.size t s u us.length uc f fs.length fc a fa.length ac q se.length qc r oo.length rc us fs fa se oo rfl rfl rfl rfl rfl HN.out.o1 HN.out.o2 W' ⟨(P.below h).cell rfl, (P.below h).cell rfl, (P.below h).cell rfl, (P.below h).cell rfl, (P.below h).cell rfl, (P.below h).cell rfl, (P.below h).cell rfl, (P.below h).lt⟩ (HN.out.later h).arg.u (HN.out.later h).arg.f (HN.out.later h).arg.a (HN.out.later h).arg.s (HN.out.later h).arg.o
  have HL : Hid (otX hasS ⟨t, s, us, fs, fa, se, oo⟩ i = if (sfF hasS ⟨t, s, us, fs, fa, se, oo⟩ i == 0) = true then otL oo i else []) := rfl
  have HG : Hid (sfF hasS ⟨t, s, us, fs, fa, se, oo⟩ i = 0 → GdW hasS ⟨t, s, us, fs, fa, se, oo⟩) := fun e => (gdW_iff hasS _).1 (sfF_zero.1 e).1
  generalize otX hasS ⟨t, s, us, fs, fa, se, oo⟩ i = L at HL ⊢
  have HF : Hid (sfF hasS ⟨t, s, us, fs, fa, se, oo⟩ i = if (wf hasS ⟨t, s, us, fs, fa, se, oo⟩ == 0) = false then wf hasS ⟨t, s, us, fs, fa, se, oo⟩ else if inb i 0 3 = false then 3 else 0) := rfl
  generalize sfF hasS ⟨t, s, us, fs, fa, se, oo⟩ i = F at HF HL HG ⊢
  generalize wf hasS ⟨t, s, us, fs, fa, se, oo⟩ = F0 at cF HF
  have HW2 : Hid (W.heap.size = w.heap.size + 2) := by show _ = _; rw [HW.out, size_new, size_new]
  obtain ⟨mu, Hmu⟩ : ∃ m, Hid (us.length = m) := ⟨_, rfl⟩
  obtain ⟨mf, Hmf⟩ : ∃ m, Hid (fs.length = m) := ⟨_, rfl⟩
  obtain ⟨ma, Hma⟩ : ∃ m, Hid (fa.length = m) := ⟨_, rfl⟩
  obtain ⟨ms, Hms⟩ : ∃ m, Hid (se.length = m) := ⟨_, rfl⟩
  obtain ⟨mo, Hmo⟩ : ∃ m, Hid (oo.length = m) := ⟨_, rfl⟩
  rw [Hmu.out, Hmf.out, Hma.out, Hms.out, Hmo.out] at P HW ⊢
  clear h R
  have keep : ∀ w', Below W.heap.size W w' → w'.cell? ⟨w.heap.size, 0, none⟩ = some (.int .i64 t) ∧ w'.cell? ⟨w.heap.size, 1, none⟩ = some (.int .i64 s) ∧ w'.cell? ⟨w.heap.size, 2, none⟩ = some (.slice u mu uc) ∧ w'.cell? ⟨w.heap.size, 3, none⟩ = some (.slice f mf fc) ∧ w'.cell? ⟨w.heap.size, 4, none⟩ = some (.slice a ma ac) ∧ w'.cell? ⟨w.heap.size, 5, none⟩ = some (.slice q ms qc) ∧ w'.cell? ⟨w.heap.size, 6, none⟩ = some (.slice r mo rc) ∧ w.heap.size < w'.heap.size := fun w' hb => by
    have q := P.below hb
    exact ⟨q.cell rfl, q.cell rfl, q.cell rfl, q.cell rfl, q.cell rfl, q.cell rfl, q.cell rfl, q.lt⟩
  have Bc : Below W.heap.size W W := Below.refl _ _
  obtain ⟨p0, p1, p2, p3, p4, p5, p6, pl⟩ := keep _ Bc
  cases e2 : F0 == 0
  · have n7 : (F0 != 0) = true := by simp only [bne, e2]; rfl
    have eF : F = F0 := by rw [HF.out, e2]; rfl
    subst eF
    have HR1 : Hid (F = F ∧ L = []) := ⟨rfl, by rw [HL.out, e2]; rfl⟩
    clear HL HG e2 HF
    go_enter Tryz.func22, Tryz.ntmps22
    go_upto_region 1 with fail
    rw [← HW.out]
    go_wp2_with fail
    refine (cF _ Bc).mono ?_
    rintro e wn ⟨rfl, kn⟩
    have Bc := Bc.trans (kn.mono Bc.size)
    clear p0 p1 p2 p3 p4 p5 p6 pl
    have R1 := HR.out.below Bc
    obtain ⟨r0, r1, y0, y1, rl⟩ := R1.zi2
    have Fz := seti2_blk R1 (.int .i64 F) (.slice none 0 0)
    have BE := seti2_below (B1.trans (Bc.mono hB)) (show w.heap.size ≤ w.heap.size + 1 by omega) (.int .i64 F) (.slice none 0 0)
    clear R1
    go_wp2_with fail
    rw [HR1.out.2]
    exact bodyPost_ret (v := .agg #[.int .i64 F, .slice none 0 0]) (resulti2 Tryz.results22 Fz _ rfl) rfl ⟨_, rfl, SlI.nil _ _, BE⟩
  · obtain rfl : F0 = 0 := by simpa using e2
    replace HF : Hid (F = if inb i 0 3 = false then 3 else 0) := HF
    have qS := fun w => l6Side_s i w
    cases ib : inb i 0 3
    · obtain rfl : F = 3 := by rw [HF.out, ib]; rfl
      rw [ib] at qS
      have HR1 : Hid ((3 : Int) = 3 ∧ L = []) := ⟨rfl, by rw [HL.out]; rfl⟩
      clear HL HG e2 HF ib
      go_enter Tryz.func22, Tryz.ntmps22
      go_upto_region 1 with fail
      rw [← HW.out]
      go_wp2_with fail
      refine (cF _ Bc).mono ?_
      rintro e wn ⟨rfl, kn⟩
      have Bc := Bc.trans (kn.mono Bc.size)
      clear p0 p1 p2 p3 p4 p5 p6 pl
      have R1 := HR.out.below Bc
      obtain ⟨r0, r1, y0, y1, rl⟩ := R1.zi2
      have Fz := seti2_blk R1 (.int .i64 3) (.slice none 0 0)
      have BE := seti2_below (B1.trans (Bc.mono hB)) (show w.heap.size ≤ w.heap.size + 1 by omega) (.int .i64 3) (.slice none 0 0)
      clear R1
      go_wp2_with (go_at_call 43; refine (qS _).mono ?_; rintro e w1 ⟨rfl, hw1⟩; obtain rfl := hw1.symm)
      rw [HR1.out.2]
      exact bodyPost_ret (v := .agg #[.int .i64 3, .slice none 0 0]) (resulti2 Tryz.results22 Fz _ rfl) rfl ⟨_, rfl, SlI.nil _ _, BE⟩
    · obtain rfl : F = 0 := by rw [HF.out, ib]; rfl
      rw [ib] at qS
      have G := HG.out rfl
      have h6 : mo ≤ 6 := by have := G.o6; have := Hmo.out; dsimp only at *; omega
      have eL : Hid (L = otL oo i) := by show _ = _; rw [HL.out]; rfl
      clear HL HG G e2 HF ib
      go_enter Tryz.func22, Tryz.ntmps22
      go_upto_region 1 with fail
      rw [← HW.out]
      go_wp2_with fail
      refine (cF _ Bc).mono ?_
      rintro e wn ⟨rfl, kn⟩
      have Bc := Bc.trans (kn.mono Bc.size)
      go_wp2_with (go_at_call 43; refine (qS _).mono ?_; rintro e w1 ⟨rfl, hw1⟩; obtain rfl := hw1.symm)
      obtain ⟨W6, HW6⟩ : ∃ v, Hid (v = wn.alloc (.cells #[.int .i64 0, .slice none 0 0] 45)) := ⟨_, rfl⟩
      have k6 : Below wn.heap.size wn W6 := by rw [HW6.out]; exact (Below.refl _ _).alloc (Nat.le_refl _) _
      have R6 : Hid (Blk W6 wn.heap.size #[.int .i64 0, .slice none 0 0] 45) := by rw [HW6.out]; exact Blk.new wn _ _
      have hs6 : wn.heap.size < W6.heap.size := R6.out.lt
      have hbn : W.heap.size ≤ wn.heap.size := Bc.size
      go_loopw [7] (fun z wr => ∃ (k : Nat) (v : Value), k ≤ mo ∧ z = .int .i64 k ∧ Hid (Blk wr wn.heap.size #[.int .i64 0, v] 45) ∧ Hid (SlI wr (wn.heap.size + 1) v (otL (oo.take k) i)) ∧ Below wn.heap.size wn wr ∧ wn.heap.size + 1 ≤ wr.heap.size) (fun z _ => mo - (intOf z).toNat)
      case atStart =>
        rw [← HW6.out]
        exact ⟨0, _, Nat.zero_le _, rfl, R6, SlI.nil _ _, k6, hs6⟩
      case round =>
        obtain ⟨k, v, hk, rfl, HB, Hv, kb, hsz⟩ := hrel
        clear p0 p1 p2 p3 p4 p5 p6 pl
        by_cases hlt : k < mo
        · have Bc := Bc.trans (kb.mono hbn)
          have hlt' : (k : Int) < (mo : Int) := by omega
          obtain ⟨y, hy⟩ : ∃ y, oo[k]? = some y := ⟨_, List.getElem?_eq_getElem (by have := Hmo.out; omega)⟩
          obtain ⟨b, off, hro, hb, hat⟩ := (HN.out.later Bc).arg.o.at hy
          dsimp only at hro
          subst hro
          obtain ⟨x0, x1, xl⟩ := hat.one hb hy
          have Hst : Hid (otL (oo.take (k + 1)) i = otL (oo.take k) i ++ (if (y.c1 == i) = true then [y.c0] else [])) := otL_step hy
          have hlen : (otL (oo.take k) i).length ≤ 100 := Nat.le_trans (otL_len _ _) (by rw [List.length_take]; omega)
          clear hy hat
          obtain ⟨p0, p1, p2, p3, p4, p5, p6, pl⟩ := keep _ Bc
          cases e1 : y.c1 == i
          · have Hv2 : Hid (SlI wr (wn.heap.size + 1) v (otL (oo.take (k + 1)) i)) := by
              show SlI _ _ _ _
              rw [Hst.out, e1]; simpa using Hv.out
            go_wp2_with fail
            go_roundw
            case rel => exact ⟨k + 1, v, by omega, by go_num, HB, Hv2, kb, hsz⟩
            case measure => simp [intOf]; omega
          · obtain ⟨pv, cv, rfl⟩ := Hv.out.fm
            obtain ⟨n9, Hn9⟩ : ∃ n9, Hid ((otL (oo.take k) i).length = n9) := ⟨_, rfl⟩
            have e7 : wr.cell? ⟨wn.heap.size, 1, none⟩ = some (.slice pv (otL (oo.take k) i).length cv) := HB.out.cell (i := 1) rfl
            have l7 := HB.out.lt
            have Hv7 : SlI ((wr.drew).alloc (.cells #[.int .i64 y.c0] 2)) (wn.heap.size + 1) (.slice pv (otL (oo.take k) i).length cv) (otL (oo.take k) i) := Hv.out.below ((Below.refl _ _).drew.alloc (Nat.le_refl _) _)
            have HB7 : Blk ((wr.drew).alloc (.cells #[.int .i64 y.c0] 2)) wn.heap.size #[.int .i64 0, .slice pv (otL (oo.take k) i).length cv] 45 := HB.out.below ((Below.refl _ _).drew.alloc (Nat.le_refl _) _)
            rw [Hn9.out] at e7 Hv7 HB7
            go_upto_region 11 with fail
            go_region_law (first
              | (refine step_pushN rfl (.tmp 34) (.tmp 41) rfl wr.heap.size y.c0 (wn.heap.size + 1) _ (otL (oo.take k) i) (by simp [Act.eval]; done) Hv7 (by simp [Act.eval]; done) (Blk.new wr.drew _ _) hlen (Nat.le_trans hsz (by show wr.heap.size ≤ (wr.heap.push _).size; rw [Array.size_push]; omega)) ?_; intro v7 w7 S7 g7; obtain ⟨p7, c7, rfl⟩ := S7.fm; have hb7 : Blk w7 wn.heap.size _ _ := (g7.block wn.heap.size HB7.lt (by intro e; have := (Hv7.lt wn.heap.size e.symm).1; omega)).trans HB7; have f7 := hb7.frozen 1; have d7 := hb7.cell (i := 1) rfl; have dl := hb7.lt))
            all_goals
              have k8 : Below wn.heap.size wn (w7.setCell ⟨wn.heap.size, 1, none⟩ (.slice p7 ((otL (oo.take k) i).length + 1) c7)) := bel_set ((kb.alloc kb.size (.cells #[.int .i64 y.c0] 2)).drew.grown g7 (kb.alloc kb.size (.cells #[.int .i64 y.c0] 2)).size (fun k' hk' => by have := (Hv7.lt k' hk').1; omega)) _ _ (Nat.le_refl _) _
              have S8 : Hid (SlI (w7.setCell ⟨wn.heap.size, 1, none⟩ (.slice p7 ((otL (oo.take k) i).length + 1) c7)) (wn.heap.size + 1) (.slice p7 ((otL (oo.take k) i).length + 1) c7) (otL (oo.take (k + 1)) i)) := by
                show SlI _ _ _ _
                have h9 := S7.set (show wn.heap.size < wn.heap.size + 1 by omega) (o := 1) (.slice p7 ((otL (oo.take k) i).length + 1) c7)
                rw [Hst.out, e1]
                simpa using h9
              have b8 : Hid (Blk (w7.setCell ⟨wn.heap.size, 1, none⟩ (.slice p7 ((otL (oo.take k) i).length + 1) c7)) wn.heap.size #[.int .i64 0, .slice p7 ((otL (oo.take k) i).length + 1) c7] 45) := hb7.set 1 _
              have z8 := b8.out.lt
              generalize w7.setCell ⟨wn.heap.size, 1, none⟩ (.slice p7 ((otL (oo.take k) i).length + 1) c7) = w8 at k8 S8 b8 z8 ⊢
              clear hb7 f7 d7 dl S7 g7 Hv7 HB7 e7
              go_wp2_with fail
              go_roundw
              case rel => exact ⟨k + 1, _, by omega, by go_num, b8, S8, k8, z8⟩
              case measure => simp [intOf]; omega
        · obtain rfl : k = mo := by omega
          have e : oo.take k = oo := List.take_of_length_le (by have := Hmo.out; omega)
          rw [e, ← eL.out] at Hv
          have Sv := Hv.out
          have d70 : wr.cell? ⟨wn.heap.size, 0, none⟩ = some (.int .i64 0) := HB.out.cell (i := 0) rfl
          have d71 : wr.cell? ⟨wn.heap.size, 1, none⟩ = some v := HB.out.cell (i := 1) rfl
          have d7l := HB.out.lt
          have k3 := kb
          have HR2 : Hid ((0 : Int) = 0 ∧ L = L) := ⟨rfl, rfl⟩
          clear Hv HB e
          obtain ⟨pv, cv, hv⟩ := Sv.form
          obtain ⟨n9, Hn9⟩ : ∃ n9, Hid (L.length = n9) := ⟨_, rfl⟩
          rw [Hn9.out] at hv
          subst hv
          have Ow := ((Sv.mono' (show w.heap.size + 2 ≤ _ by have := Bc.size; have := HW2.out; omega)).ne (show w.heap.size + 1 < w.heap.size + 2 by omega) (w' := seti2 wr (w.heap.size + 1) (.int .i64 0) (.slice pv n9 cv)) (seti2_other (W := wr) (g := w.heap.size + 1) (.int .i64 0) (.slice pv n9 cv))).mono' (show w.heap.size ≤ w.heap.size + 2 by omega)
          have Bc := Bc.trans (k3.mono Bc.size)
          clear Sv k3
          have R1 := HR.out.below Bc
          obtain ⟨r0, r1, y0, y1, rl⟩ := R1.zi2
          have Fz := seti2_blk R1 (.int .i64 0) (.slice pv n9 cv)
          have BE := seti2_below (B1.trans (Bc.mono hB)) (show w.heap.size ≤ w.heap.size + 1 by omega) (.int .i64 0) (.slice pv n9 cv)
          clear R1
          go_wp2_with fail
          exact bodyPost_ret (v := .agg #[.int .i64 0, .slice pv n9 cv]) (resulti2 Tryz.results22 Fz _ rfl) rfl ⟨_, rfl, Ow, BE⟩
end Go.Proofs.YtmfdggaijbcijaaGreat
end

/- PactLaw2 -/
/- Offers and allies as the laws ask for them. Plain facts, no condition. -/
section
namespace Go.Proofs.YtmfdggaijbcijaaGreat
open Bd
set_option linter.unusedVariables false

theorem DW.sfF {x : KW} (h : DW x) (i : Int) : Go.Proofs.YtmfdggaijbcijaaGreat.sfF hasS x i = Go.Proofs.YtmfdggaijbcijaaGreat.sfF hasI x i := by unfold Go.Proofs.YtmfdggaijbcijaaGreat.sfF; rw [h.wf]
theorem DW.alL {x : KW} (h : DW x) (i : Int) : Go.Proofs.YtmfdggaijbcijaaGreat.alL hasS x i = Go.Proofs.YtmfdggaijbcijaaGreat.alL hasI x i := by
  unfold Go.Proofs.YtmfdggaijbcijaaGreat.alL
  rw [h.sfF]
  cases e : Go.Proofs.YtmfdggaijbcijaaGreat.sfF hasI x i == 0
  · rfl
  · have e1 : Go.Proofs.YtmfdggaijbcijaaGreat.sfF hasI x i = 0 := by simpa using e
    have hi := allyA_in (wf_in (sfF_zero.1 e1).1) i
    have e2 : sdL hasS (allyA x.fa i) = sdL hasI (allyA x.fa i) := by
      unfold sdL
      congr 1
      funext k
      exact (has_same hi k).symm
    simp only [e2]
theorem DW.otX {x : KW} (h : DW x) (i : Int) : Go.Proofs.YtmfdggaijbcijaaGreat.otX hasS x i = Go.Proofs.YtmfdggaijbcijaaGreat.otX hasI x i := by unfold Go.Proofs.YtmfdggaijbcijaaGreat.otX; rw [h.sfF]
theorem alL_len (h : Int → Int → Bool) (x : KW) (i : Int) : (alL h x i).length ≤ 1000 := by
  unfold alL
  cases sfF h x i == 0
  · simp
  · have : (sdL h (allyA x.fa i)).length ≤ 4 := by unfold sdL; exact List.length_filter_le _ _
    simp only [if_true]; omega
theorem otX_len {x : KW} (hx : DW x) (h : Int → Int → Bool) (i : Int) : (otX h x i).length ≤ 1000 := by
  unfold otX
  cases sfF h x i == 0
  · simp
  · have := otL_len x.oo i
    have := hx.o
    simp only [if_true]; omega
/- how many offers are like one -/
def cntO (l : List K2) (y : K2) : Nat := (l.filter (fun o => o.b y)).length
theorem cntO_step {l : List K2} {k : Nat} {o y : K2} (h : l[k]? = some o) : cntO (l.take (k + 1)) y = cntO (l.take k) y + (if o.b y = true then 1 else 0) := by
  unfold cntO
  rw [List.take_add_one, h, List.filter_append, List.length_append]
  cases e : o.b y <;> simp [e]
theorem cntO_len (l : List K2) (y : K2) : cntO l y ≤ l.length := List.length_filter_le _ _
theorem cntO_zero {l : List K2} {y : K2} (h : cntO l y = 0) : memO l y = false := by
  unfold cntO at h
  have := List.length_eq_zero_iff.1 h
  rw [memO_no]
  intro hm
  have h2 : y ∈ l.filter (fun o => o.b y) := List.mem_filter.2 ⟨hm, K2.b_iff.2 rfl⟩
  rw [this] at h2
  cases h2
end Go.Proofs.YtmfdggaijbcijaaGreat
end
