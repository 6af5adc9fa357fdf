/- Texts of mine put together (a claim holds at most 60 files): OffSpec. -/
import Derived.Test.YtmfdggaijbcijaaGreatPartQ42
import Derived.Test.YtmfdggaijbcijaaGreatPartQ19
import Derived.Deep.RegionHeld3

/- OffSpec -/
/- The contracts of l7Offer and OfferPact of the model. Condition: the world's lists lie in memory as they were laid there. -/
section
namespace Go.Proofs.YtmfdggaijbcijaaGreat
open Go.ChangeShapes Go.WideShapes Go.ChangeAt Go.RowKit
open Bd
set_option linter.unusedVariables false

theorem VS.rowT {w : World} {base g : Nat} {p : WP} {x : KW} (h : VS w base g p x) : RowT w (Value.slice p.o x.oo.length p.oc).ownBlock 49 := by
  cases hb : (Value.slice p.o x.oo.length p.oc).ownBlock with
  | none => exact .inl rfl
  | some q => obtain ⟨cs, hc⟩ := h.o.o.blk hb; exact .inr ⟨q, cs, rfl, hc⟩
theorem VS.pushB {w w' : World} {base g : Nat} {p : WP} {x : KW} (h : VS w base g p x) (hg : w.grownBy w' (Value.slice p.o x.oo.length p.oc).ownBlock) : Blk w' g (p.v x) 32 := h.b.grw hg h.rowT (by decide)
theorem VS.pushed {w w' : World} {base g : Nat} {p : WP} {x : KW} (h : VS w base g p x) (hg : w.grownBy w' (Value.slice p.o x.oo.length p.oc).ownBlock) {a : Option Addr} {c : Nat} {l : List K2} (hO : SlO w' base (.slice a l.length c) l) :
    VS (w'.setCell ⟨g, 6, none⟩ (.slice a l.length c)) base g ⟨p.u, p.uc, p.f, p.fc, p.a, p.ac, p.s, p.sc, a, c⟩ ⟨x.t, x.s, x.us, x.fs, x.fa, x.se, l⟩ := by
  have hb := h.pushB hg
  exact ⟨hb.set 6 (.slice a l.length c), ⟨(h.o.u.grw hg h.rowT (by decide)).setB hb (by decide) _, (h.o.f.grw hg h.rowT (by decide)).setB hb (by decide) _, (h.o.a.grw hg h.rowT (by decide)).setB hb (by decide) _, (h.o.s.grw hg h.rowT (by decide)).setB hb (by decide) _, hO.setB hb (by decide) _⟩, h.bg⟩
theorem wpList_pushOg {ops : Array Oper} {rest : List Oper} {o : Oper} {a : Act} {Q : Exit → Act → World → Prop} (hgd : o.guard = none) (s x : Operand)
    (ho : o.op = .call { callee := .builtin .append, args := #[s, x], argTypes := #[30, 30] }) (w0 : World) (u : K2) (base : Nat) (v : Value) (l : List K2) (hs : a.eval s = v) (hown : SlO w0 base v l)
    (hx : a.eval x = .slice (some ⟨w0.heap.size, 0, none⟩) 1 1) (hlen : l.length ≤ 100) (hbase : base ≤ w0.heap.size)
    (h : ∀ v' w', SlO w' base v' (l ++ [u]) → (w0.alloc (.cells u.v 49)).grownBy w' v.ownBlock → wpList Tryz.prog ops Q rest (a.put o.dst v') w') :
    wpList Tryz.prog ops Q (o :: rest) a (w0.alloc (.cells u.v 49)) := by
  obtain ⟨i0, hi, hz0, hz1, hz2⟩ := info_parts infoO
  have hown' : SlO (w0.alloc (.cells u.v 49)) base v l := hown.below ((Below.refl _ _).alloc (Nat.le_refl _) _)
  refine wpList_append_own _ hgd s x 30 ho base 49 i0 (.agg K2.z.v) 2 16 Tryz.underlying30 hi hz0 hz1 hz2 rfl (by decide) v l.length _ hs hown' ⟨w0.heap.size, 0, none⟩ 1 1 u.v.toList hx (by rfl) ?_ ?_ (by unfold maxLen; omega) (by omega) (by rw [size_new]; omega) ?_
  · intro j y hj
    rw [add_plain', Nat.zero_add]
    exact cell_new _ _ _ _ _ (by simpa using hj)
  · intro y hy
    exact flatO_one [u] y (by unfold flatO; exact List.mem_append_left _ hy)
  · intro v' w' h1 h2 _
    refine h v' w' ?_ h2
    unfold SlO
    rw [flatO_app, List.length_append]
    exact h1
set_option maxRecDepth 20000 in
set_option maxHeartbeats 32000000 in
theorem l7Offer_c (gW : Nat) (p : WP) (x : KW) (G : GdW hasS x) (w : World) (hW : Blk w gW (p.v x) 32) (hI : InW w p x) (i j : Int) :
    Calls Tryz.prog 65 #[.pointer (some ⟨gW, 0, none⟩), .int .i64 i, .int .i64 j] w fun e w' => ∃ q, e = .returned (.agg (r8 (offC hasS x i j) q (offX hasS x i j))) ∧ OwW w' w.heap.size q (offX hasS x i j) ∧ Below w.heap.size w w' := by
  obtain ⟨t, s, us, fs, fa, se, oo⟩ := x
  obtain ⟨u, uc, f, fc, a, ac, q, qc, r, rc⟩ := p
  obtain ⟨W, HW⟩ : ∃ W, Hid (W = w.alloc (.cells z8 36)) := ⟨_, rfl⟩
  have B1 : Below w.heap.size w W := by rw [HW.out]; exact (Below.refl _ _).alloc (Nat.le_refl _) _
  have HR : Hid (Blk W w.heap.size z8 36) := by rw [HW.out]; exact Blk.new w z8 36
  have HN : Hid (InW W ⟨u, uc, f, fc, a, ac, q, qc, r, rc⟩ ⟨t, s, us, fs, fa, se, oo⟩) := hI.later B1
  have P : Blk W gW (wv t s u us.length uc f fs.length fc a fa.length ac q se.length qc r oo.length rc) 32 := hW.below B1
  have hB := B1.size
  have hWz : W.heap.size = w.heap.size + 1 := by rw [HW.out, size_new]
  have h4 : fa.length = 4 := G.a4
  have H4 : Hid (fa.length = 4) := h4
  obtain ⟨mu, Hmu⟩ : ∃ m, Hid (us.length = m) := ⟨_, rfl⟩
  obtain ⟨mf, Hmf⟩ : ∃ m, Hid (fs.length = m) := ⟨_, rfl⟩
  obtain ⟨ms, Hms⟩ : ∃ m, Hid (se.length = m) := ⟨_, rfl⟩
  obtain ⟨mo, Hmo⟩ : ∃ m, Hid (oo.length = m) := ⟨_, rfl⟩
  obtain ⟨ba, oa, rfl, hba, hat⟩ := HN.out.arg.a.four h4
  have keep : ∀ w', Below W.heap.size W w' → w'.cell? ⟨gW, 0, none⟩ = some (.int .i64 t) ∧ w'.cell? ⟨gW, 1, none⟩ = some (.int .i64 s) ∧ w'.cell? ⟨gW, 2, none⟩ = some (.slice u mu uc) ∧ w'.cell? ⟨gW, 3, none⟩ = some (.slice f mf fc) ∧ w'.cell? ⟨gW, 4, none⟩ = some (.slice (some ⟨ba, oa, none⟩) 4 ac) ∧ w'.cell? ⟨gW, 5, none⟩ = some (.slice q ms qc) ∧ w'.cell? ⟨gW, 6, none⟩ = some (.slice r mo rc) ∧ gW < w'.heap.size ∧ ba < w'.heap.size := fun w' h => by
    have c7 := (P.below h).c7
    rw [h4, Hmu.out, Hmf.out, Hms.out, Hmo.out] at c7
    obtain ⟨p0, p1, p2, p3, p4, p5, p6, pl⟩ := c7
    exact ⟨p0, p1, p2, p3, p4, p5, p6, pl, Nat.lt_of_lt_of_le hba h.size⟩
  have Bc : Below W.heap.size W W := Below.refl _ _
  have cS := fun W' (h : Below W.heap.size W W') => l7Sides_c gW t s u mu uc f mf fc (some ⟨ba, oa, none⟩) 4 ac q ms qc r mo rc fa h4 rfl W' ⟨(keep W' h).1, (keep W' h).2.1, (keep W' h).2.2.1, (keep W' h).2.2.2.1, (keep W' h).2.2.2.2.1, (keep W' h).2.2.2.2.2.1, (keep W' h).2.2.2.2.2.2.1, (keep W' h).2.2.2.2.2.2.2.1⟩ (HN.out.later h).arg.a i j
  have cB := fun (c : Int) w => l7Bad_c c w
  have w0 : wf hasS ⟨t, s, us, fs, fa, se, oo⟩ = 0 := (gdW_iff hasS _).2 G
  have HC : Hid (offC hasS ⟨t, s, us, fs, fa, se, oo⟩ i j = if (sdF fa i j == 0) = false then sdF fa i j else if (hasS (allyA fa i) j || memO oo ⟨i, j⟩) = true then 6 else if 6 ≤ oo.length then 7 else 0) := by
    show _ = _
    unfold offC prF
    rw [w0]
    rfl
  have HX : Hid (offX hasS ⟨t, s, us, fs, fa, se, oo⟩ i j = if (offC hasS ⟨t, s, us, fs, fa, se, oo⟩ i j == 0) = true then ⟨t, s, us, fs, fa, se, oo ++ [⟨i, j⟩]⟩ else kz) := rfl
  have HG : Hid (GdW hasS ⟨t, s, us, fs, fa, se, oo⟩) := G
  generalize offC hasS ⟨t, s, us, fs, fa, se, oo⟩ i j = C at HC HX ⊢
  generalize offX hasS ⟨t, s, us, fs, fa, se, oo⟩ i j = X at HX ⊢
  have HSD : Hid (sdF fa i j = 0 → inb i 0 3 = true ∧ inb j 0 3 = true ∧ i ≠ j ∧ goneA fa i = false ∧ goneA fa j = false) := fun e => sdF_zero.1 e
  generalize sdF fa i j = F at cS HC HSD
  have HCC : Hid (C ≠ 0 → X = kz) := fun e => by rw [HX.out, if_neg (by simpa using e)]
  clear hI hW G w0 h4
  obtain ⟨p0, p1, p2, p3, p4, p5, p6, pl, pb⟩ := keep _ Bc
  cases e2 : F == 0
  · have n7 : (F != 0) = true := by simp only [bne, e2]; rfl
    have HR1 : Hid (C = F ∧ X = kz) := by
      have e : C = F := by rw [HC.out, e2]; rfl
      exact ⟨e, HCC.out (by rw [e]; simpa using e2)⟩
    have cB := cB F
    clear HC HX HSD e2
    go_enter Tryz.func65, Tryz.ntmps65
    go_upto_region 1 with fail
    rw [← HW.out]
    go_wp2_with fail
    refine (cS _ Bc).mono ?_
    rintro e wn ⟨rfl, hw1⟩
    obtain rfl := hw1.symm
    go_wp2_with fail
    refine (cB _).mono ?_
    rintro e wn ⟨rfl, kn⟩
    have Bc := Bc.trans (kn.mono Bc.size)
    clear p0 p1 p2 p3 p4 p5 p6 pl pb
    have R1 := HR.out.below Bc
    obtain ⟨r0, r1, r2, r3, r4, r5, r6, r7, y0, y1, y2, y3, y4, y5, y6, y7, rl⟩ := R1.z8
    have Fz : Blk _ w.heap.size (r8 F wpz kz) 36 := set8_blk R1 (.int .i64 F) (.int .i64 0) (.int .i64 0) (.slice none 0 0) (.slice none 0 0) (.slice none 0 0) (.slice none 0 0) (.slice none 0 0)
    have BE := set8_below (B1.trans (Bc.mono hB)) (Nat.le_refl w.heap.size) (.int .i64 F) (.int .i64 0) (.int .i64 0) (.slice none 0 0) (.slice none 0 0) (.slice none 0 0) (.slice none 0 0) (.slice none 0 0)
    clear R1
    go_wp2_with fail
    rw [HR1.out.1, HR1.out.2]
    exact bodyPost_ret (v := .agg (r8 F wpz kz)) (result8 Tryz.results65 Fz _ rfl) rfl ⟨wpz, rfl, OwW.z _ _, BE⟩
  obtain rfl : F = 0 := by simpa using e2
  replace HC : Hid (C = if (hasS (allyA fa i) j || memO oo ⟨i, j⟩) = true then 6 else if 6 ≤ oo.length then 7 else 0) := HC
  obtain ⟨ia, ja, hij, gi, gj⟩ := HSD.out rfl
  obtain ⟨i0, i3⟩ := inb_i ia
  obtain ⟨j0, j3⟩ := inb_i ja
  have Hij : Hid (i ≠ j) := hij
  obtain ⟨y, hy, _, hya⟩ := side_at H4.out i0 i3
  obtain ⟨z, hz, _, hza⟩ := side_at H4.out j0 j3
  have Hy : Hid (fa[i.toNat]? = some y) := hy
  have Hz : Hid (fa[j.toNat]? = some z) := hz
  have Hya : Hid (allyA fa i = y.c2) := hya
  have Hza : Hid (allyA fa j = z.c2) := hza
  have ym : inb y.c2 0 15 = true := by rw [← hya]; exact (gd_fac HG.out i0 i3).m
  have zm : inb z.c2 0 15 = true := by rw [← hza]; exact (gd_fac HG.out j0 j3).m
  have keepY : ∀ w', Below W.heap.size W w' → A1 w' ba (oa + i.toNat * 3) y := fun w' h => (hat.later hba h).one (Nat.lt_of_lt_of_le hba h.size) Hy.out
  have i4 : i < 4 := by omega
  have j4 : j < 4 := by omega
  have u64j : IntKind.u64.wrap j = j := by simp [IntKind.wrap, IntKind.bits, IntKind.signed]; omega
  have u64i : IntKind.u64.wrap i = i := by simp [IntKind.wrap, IntKind.bits, IntKind.signed]; omega
  rw [hya] at HC
  clear HSD ia ja gi gj hy hz hya hza hij e2
  have h6 : mo ≤ 6 := by have := HG.out.o6; have := Hmo.out; dsimp only at *; omega
  have cO := fun W' (h : Below W.heap.size W W') => l6Offer_c r mo rc oo ⟨i, j⟩ Hmo.out h6 W' (HN.out.later h).arg.o
  have qB := fun w => l6Has_c y.c2 j j0 (by omega) w
  have cN := fun W' (h : Below W.heap.size W W') => l6Copy_c ⟨u, uc, f, fc, some ⟨ba, oa, none⟩, ac, q, qc, r, rc⟩ ⟨t, s, us, fs, fa, se, oo⟩ (Gd8 HG.out.b).1 (Gd8 HG.out.b).2 (Nat.le_of_eq H4.out) HG.out.s6 HG.out.o6 W' (HN.out.later h)
  replace cN : ∀ W', Below W.heap.size W W' → Calls Tryz.prog 84 #[.agg (wv t s u mu uc f mf fc (some ⟨ba, oa, none⟩) 4 ac q ms qc r mo rc)] W' fun e w' => ∃ p', e = .returned (.agg (WP.v p' ⟨t, s, us, fs, fa, se, oo⟩)) ∧ OwW w' W'.heap.size p' ⟨t, s, us, fs, fa, se, oo⟩ ∧ Below W'.heap.size W' w' := fun W' h => by
    have := cN W' h
    rw [← H4.out, ← Hmu.out, ← Hmf.out, ← Hms.out, ← Hmo.out]; exact this
  obtain ⟨W5, HW5⟩ : ∃ v, Hid (v = W.alloc (.cells #[.int .i64 i, .int .i64 j] 49)) := ⟨_, rfl⟩
  have kW5 : Below W.heap.size W W5 := by rw [HW5.out]; exact (Below.refl _ _).alloc (Nat.le_refl _) _
  have HB5 : Hid (Blk W5 (w.heap.size + 1) #[.int .i64 i, .int .i64 j] 49) := by rw [HW5.out, ← hWz]; exact Blk.new W _ _
  have keepR : ∀ w', Below W5.heap.size W5 w' → w'.cell? ⟨gW, 4, none⟩ = some (.slice (some ⟨ba, oa, none⟩) 4 ac) ∧ w'.cell? ⟨gW, 6, none⟩ = some (.slice r mo rc) ∧ w'.cell? ⟨w.heap.size + 1, 0, none⟩ = some (.int .i64 i) ∧ w'.cell? ⟨w.heap.size + 1, 1, none⟩ = some (.int .i64 j) ∧ w'.cell? ⟨ba, oa + i.toNat * 3 + 2, none⟩ = some (.int .i64 y.c2) ∧ gW < w'.heap.size ∧ ba < w'.heap.size ∧ w.heap.size + 1 < w'.heap.size := fun w' h => by
    have h' := kW5.trans (h.mono kW5.size)
    obtain ⟨p0, p1, p2, p3, p4, p5, p6, pl, pb⟩ := keep w' h'
    obtain ⟨y0, y1, y2, yl⟩ := keepY w' h'
    have b := HB5.out.below h
    exact ⟨p4, p6, b.cell rfl, b.cell rfl, y2, pl, pb, b.lt⟩
  have Bq : Below W5.heap.size W5 W5 := Below.refl _ _
  have cC := fun W' (h : Below W5.heap.size W5 W') => cO W' (kW5.trans (h.mono kW5.size))
  have BcW := kW5
  cases eh : hasS y.c2 j
  case true =>
    rw [eh] at qB HC
    have HR1 : Hid (C = 6 ∧ X = kz) := by
      have e : C = 6 := by rw [HC.out]; simp
      exact ⟨e, HCC.out (by rw [e]; decide)⟩
    have cB := cB 6
    go_enter Tryz.func65, Tryz.ntmps65
    go_upto_region 1 with fail
    rw [← HW.out]
    go_wp2_with fail
    refine (cS _ Bc).mono ?_
    rintro e wn ⟨rfl, hw1⟩
    obtain rfl := hw1.symm
    clear p0 p1 p2 p3 p4 p5 p6 pl pb
    go_upto_region 5 with fail
    rw [← HW5.out]
    obtain ⟨c1, c2, c3, c4, c5, c6, c7, c8⟩ := keepR _ Bq
    go_quiet (first | (go_at_call 45; exact Calls.quiet_of_same (qB _)))
    clear c1 c2 c3 c4 c5 c6 c7 c8
    go_wp2_with fail
    refine (cB _).mono ?_
    rintro e wx ⟨rfl, kn⟩
    have Bc := (BcW.trans ((below_drewN _ _).mono BcW.size)).trans (kn.mono (by have := BcW.size; exact this))
    have R1 := HR.out.below Bc
    obtain ⟨r0, r1, r2, r3, r4, r5, r6, r7, y0, y1, y2, y3, y4, y5, y6, y7, rl⟩ := R1.z8
    have Fz : Blk _ w.heap.size (r8 6 wpz kz) 36 := set8_blk R1 (.int .i64 6) (.int .i64 0) (.int .i64 0) (.slice none 0 0) (.slice none 0 0) (.slice none 0 0) (.slice none 0 0) (.slice none 0 0)
    have BE := set8_below (B1.trans (Bc.mono hB)) (Nat.le_refl w.heap.size) (.int .i64 6) (.int .i64 0) (.int .i64 0) (.slice none 0 0) (.slice none 0 0) (.slice none 0 0) (.slice none 0 0) (.slice none 0 0)
    clear R1
    go_wp2_with fail
    rw [HR1.out.1, HR1.out.2]
    exact bodyPost_ret (v := .agg (r8 6 wpz kz)) (result8 Tryz.results65 Fz _ rfl) rfl ⟨wpz, rfl, OwW.z _ _, BE⟩
  case false =>
    rw [eh] at qB HC
    replace HC : Hid (C = if memO oo ⟨i, j⟩ = true then 6 else if 6 ≤ oo.length then 7 else 0) := HC
    go_enter Tryz.func65, Tryz.ntmps65
    go_upto_region 1 with fail
    rw [← HW.out]
    go_wp2_with fail
    refine (cS _ Bc).mono ?_
    rintro e wn ⟨rfl, hw1⟩
    obtain rfl := hw1.symm
    clear p0 p1 p2 p3 p4 p5 p6 pl pb
    go_upto_region 5 with fail
    rw [← HW5.out]
    have Bc := Bq.drew
    obtain ⟨c1, c2, c3, c4, c5, c6, c7, c8⟩ := keepR _ Bc
    cases eb : memO oo ⟨i, j⟩
    case true =>
      rw [eb] at cC HC
      have HR1 : Hid (C = 6 ∧ X = kz) := by
        have e : C = 6 := HC.out
        exact ⟨e, HCC.out (by rw [e]; decide)⟩
      have cB := cB 6
      go_region_held3 (fun w' => w'.cell? ⟨gW, 4, none⟩ = some (.slice (some ⟨ba, oa, none⟩) 4 ac) ∧ w'.cell? ⟨gW, 6, none⟩ = some (.slice r mo rc) ∧ w'.cell? ⟨w.heap.size + 1, 0, none⟩ = some (.int .i64 i) ∧ w'.cell? ⟨w.heap.size + 1, 1, none⟩ = some (.int .i64 j) ∧ w'.cell? ⟨ba, oa + i.toNat * 3 + 2, none⟩ = some (.int .i64 y.c2) ∧ gW < w'.heap.size ∧ ba < w'.heap.size ∧ w.heap.size + 1 < w'.heap.size) (first | exact keepR _ Bc | exact keepR _ Bc.drew | go_keep) (first
        | (go_at_call 45; refine (qB _).mono ?_; rintro e wn ⟨rfl, hwn⟩; obtain rfl := hwn.symm)
        | (go_at_call 92; refine (cC _ Bc).mono ?_; rintro e wn ⟨ro, rfl, hro, kn⟩; have Bc := Bc.trans (kn.mono Bc.size); obtain ⟨c1, c2, c3, c4, c5, c6, c7, c8⟩ := keepR _ Bc; have hr0 := atO_t hro; have dr0 : decide (0 ≤ ro) = true := decide_eq_true hr0))
      have Bc := BcW.trans (Bc.mono BcW.size)
      clear c1 c2 c3 c4 c5 c6 c7 c8
      go_wp2_with fail
      refine (cB _).mono ?_
      rintro e wx ⟨rfl, kx⟩
      have Bc := Bc.trans (kx.mono Bc.size)
      have R1 := HR.out.below Bc
      obtain ⟨r0, r1, r2, r3, r4, r5, r6, r7, y0, y1, y2, y3, y4, y5, y6, y7, rl⟩ := R1.z8
      have Fz : Blk _ w.heap.size (r8 6 wpz kz) 36 := set8_blk R1 (.int .i64 6) (.int .i64 0) (.int .i64 0) (.slice none 0 0) (.slice none 0 0) (.slice none 0 0) (.slice none 0 0) (.slice none 0 0)
      have BE := set8_below (B1.trans (Bc.mono hB)) (Nat.le_refl w.heap.size) (.int .i64 6) (.int .i64 0) (.int .i64 0) (.slice none 0 0) (.slice none 0 0) (.slice none 0 0) (.slice none 0 0) (.slice none 0 0)
      clear R1
      go_wp2_with fail
      rw [HR1.out.1, HR1.out.2]
      exact bodyPost_ret (v := .agg (r8 6 wpz kz)) (result8 Tryz.results65 Fz _ rfl) rfl ⟨wpz, rfl, OwW.z _ _, BE⟩
    case false =>
      rw [eb] at cC HC
      replace HC : Hid (C = if 6 ≤ oo.length then 7 else 0) := HC
      go_region_held3 (fun w' => w'.cell? ⟨gW, 4, none⟩ = some (.slice (some ⟨ba, oa, none⟩) 4 ac) ∧ w'.cell? ⟨gW, 6, none⟩ = some (.slice r mo rc) ∧ w'.cell? ⟨w.heap.size + 1, 0, none⟩ = some (.int .i64 i) ∧ w'.cell? ⟨w.heap.size + 1, 1, none⟩ = some (.int .i64 j) ∧ w'.cell? ⟨ba, oa + i.toNat * 3 + 2, none⟩ = some (.int .i64 y.c2) ∧ gW < w'.heap.size ∧ ba < w'.heap.size ∧ w.heap.size + 1 < w'.heap.size) (first | exact keepR _ Bc | exact keepR _ Bc.drew | go_keep) (first
        | (go_at_call 45; refine (qB _).mono ?_; rintro e wn ⟨rfl, hwn⟩; obtain rfl := hwn.symm)
        | (go_at_call 92; refine (cC _ Bc).mono ?_; rintro e wn ⟨ro, rfl, hro, kn⟩; have Bc := Bc.trans (kn.mono Bc.size); obtain ⟨c1, c2, c3, c4, c5, c6, c7, c8⟩ := keepR _ Bc; obtain rfl := atO_f hro))
      have Bc := BcW.trans (Bc.mono BcW.size)
      have HBn := HB5.out.below (show Below W5.heap.size W5 wn from by assumption)
      clear c1 c2 c3 c4 c5 c6 c7 c8
      obtain ⟨p0, p1, p2, p3, p4, p5, p6, pl, pb⟩ := keep _ Bc
      by_cases hf : mo = 6
      · subst hf
        have HR1 : Hid (C = 7 ∧ X = kz) := by
          have e : C = 7 := by rw [HC.out, Hmo.out, if_pos (Nat.le_refl _)]
          exact ⟨e, HCC.out (by rw [e]; decide)⟩
        have cB := cB 7
        go_wp2_with fail
        refine (cB _).mono ?_
        rintro e wx ⟨rfl, kx⟩
        have Bc := Bc.trans (kx.mono Bc.size)
        clear p0 p1 p2 p3 p4 p5 p6 pl pb
        have R1 := HR.out.below Bc
        obtain ⟨r0, r1, r2, r3, r4, r5, r6, r7, y0, y1, y2, y3, y4, y5, y6, y7, rl⟩ := R1.z8
        have Fz : Blk _ w.heap.size (r8 7 wpz kz) 36 := set8_blk R1 (.int .i64 7) (.int .i64 0) (.int .i64 0) (.slice none 0 0) (.slice none 0 0) (.slice none 0 0) (.slice none 0 0) (.slice none 0 0)
        have BE := set8_below (B1.trans (Bc.mono hB)) (Nat.le_refl w.heap.size) (.int .i64 7) (.int .i64 0) (.int .i64 0) (.slice none 0 0) (.slice none 0 0) (.slice none 0 0) (.slice none 0 0) (.slice none 0 0)
        clear R1
        go_wp2_with fail
        rw [HR1.out.1, HR1.out.2]
        exact bodyPost_ret (v := .agg (r8 7 wpz kz)) (result8 Tryz.results65 Fz _ rfl) rfl ⟨wpz, rfl, OwW.z _ _, BE⟩
      · have hf6 : decide (6 ≤ (mo : Int)) = false := decide_eq_false (by omega)
        have HR0 : Hid (C = 0) := by show _ = _; rw [HC.out, Hmo.out, if_neg (by omega)]
        have HR2' : Hid (X = ⟨t, s, us, fs, fa, se, oo ++ [⟨i, j⟩]⟩) := by show _ = _; rw [HX.out, HR0.out]; rfl
        go_wp2_with fail
        refine (cN _ Bc).mono ?_
        rintro e w5 ⟨p5', rfl, O5, k5⟩
        have HBn := HBn.below k5
        obtain ⟨base, Hbase⟩ : ∃ v, Hid (v = wn.heap.size) := ⟨_, rfl⟩
        have hB5 : W.heap.size ≤ base := by rw [Hbase.out]; exact Bc.size
        rw [← Hbase.out] at O5
        have k5b : base ≤ w5.heap.size := by rw [Hbase.out]; exact k5.size
        have Bc := Bc.trans (k5.mono Bc.size)
        obtain ⟨pu9, uc9, pf9, fc9, pa9, ac9, ps9, sc9, po9, oc9⟩ := p5'
        obtain ⟨gz, hgz, hgb, _⟩ := O5.a.blk0 (by dsimp only; rw [H4.out]; omega)
        dsimp only at hgz
        subst hgz
        obtain ⟨ga, hga⟩ : ∃ v, v = gz := ⟨_, rfl⟩
        subst hga
        obtain ⟨g, Hg⟩ : ∃ v, Hid (v = w5.heap.size) := ⟨_, rfl⟩
        obtain ⟨wq1, Hq1⟩ : ∃ v, Hid (v = w5.alloc (.cells (wv t s pu9 us.length uc9 pf9 fs.length fc9 (some ⟨ga, 0, none⟩) fa.length ac9 ps9 se.length sc9 po9 oo.length oc9) 32)) := ⟨_, rfl⟩
        have kA : Below w5.heap.size w5 wq1 := by rw [Hq1.out]; exact (Below.refl _ _).alloc (Nat.le_refl _) _
        have Hw1 : Hid (VS wq1 base g ⟨pu9, uc9, pf9, fc9, some ⟨ga, 0, none⟩, ac9, ps9, sc9, po9, oc9⟩ ⟨t, s, us, fs, fa, se, oo⟩) := ⟨by rw [Hq1.out, Hg.out]; exact Blk.new w5 _ _, O5.later kA, by rw [Hg.out]; exact k5b⟩
        have Bc := Bc.trans (kA.mono Bc.size)
        clear p0 p1 p2 p3 p4 p5 p6 pl pb O5 kA k5
        have kA2 : Below w5.heap.size w5 wq1 := by rw [Hq1.out]; exact (Below.refl _ _).alloc (Nat.le_refl _) _
        have HBn := HBn.below kA2
        have e6 : wq1.cell? ⟨g, 6, none⟩ = some (.slice po9 oo.length oc9) := Hw1.out.b.cell (i := 6) rfl
        have l6 := Hw1.out.b.lt
        have b0 : wq1.cell? ⟨w.heap.size + 1, 0, none⟩ = some (.int .i64 i) := HBn.cell (i := 0) rfl
        have b1 : wq1.cell? ⟨w.heap.size + 1, 1, none⟩ = some (.int .i64 j) := HBn.cell (i := 1) rfl
        have bl := HBn.lt
        have hO9 : SlO wq1 base (.slice po9 oo.length oc9) oo := Hw1.out.o.o
        have hbg := Hw1.out.bg
        have ho100 : oo.length ≤ 100 := by rw [Hmo.out]; omega
        go_upto_region 10 with fail
        try rw [← Hq1.out]
        try rw [← Hg.out]
        go_wp2_with (at_builtin; refine wpList_pushOg rfl _ _ rfl wq1 ⟨i, j⟩ base _ oo rfl (by exact hO9) rfl ho100 (by omega) ?_)
        intro v7 w7 S7 g7
        obtain ⟨po7, oc7, rfl⟩ := S7.fm
        have kB := (Below.refl wq1.heap.size wq1).alloc (Nat.le_refl _) (.cells #[.int .i64 i, .int .i64 j] 49)
        have hVa := Hw1.out.later kB
        have hb7 := hVa.pushB g7
        have hV7 := hVa.pushed g7 S7
        have e7 : w7.cell? ⟨g, 6, none⟩ = some (.slice po9 oo.length oc9) := hb7.cell (i := 6) rfl
        have f7 := hb7.frozen 6
        have l7 := hb7.lt
        have Bc := (Bc.trans (kB.mono Bc.size)).grown g7 (Bc.trans (kB.mono Bc.size)).size (fun k hk => Nat.le_trans hB5 (hO9.lt k hk).1)
        obtain ⟨OO, HOO⟩ : ∃ v : List K2, Hid (v = oo ++ [K2.mk i j]) := ⟨_, rfl⟩
        have hlO : OO.length = oo.length + 1 := by rw [HOO.out]; simp
        have Bc := bel_set Bc g 6 (by omega) (.slice po7 OO.length oc7)
        have Hw7 := (show Hid (VS (w7.setCell ⟨g, 6, none⟩ (.slice po7 (oo ++ [K2.mk i j]).length oc7)) base g ⟨pu9, uc9, pf9, fc9, some ⟨ga, 0, none⟩, ac9, ps9, sc9, po7, oc7⟩ ⟨t, s, us, fs, fa, se, oo ++ [K2.mk i j]⟩) from hV7)
        rw [← HOO.out] at Hw7
        obtain ⟨wq3, Hq3⟩ : ∃ v, Hid (v = w7.setCell ⟨g, 6, none⟩ (.slice po7 OO.length oc7)) := ⟨_, rfl⟩
        rw [← Hq3.out] at Hw7 Bc
        have Hw3 := (show Hid (VS wq3 base g ⟨pu9, uc9, pf9, fc9, some ⟨ga, 0, none⟩, ac9, ps9, sc9, po7, oc7⟩ ⟨t, s, us, fs, fa, se, OO⟩) from Hw7)
        clear Hw7 hV7 hb7 hVa g7 S7 kB hO9 b0 b1 bl e6 l6 Hw1 HBn
        have hq3 := Hq3.out
        rw [hlO] at hq3
        go_upto_region 11 with fail
        try rw [← hq3]
        clear hq3 e7 f7 l7
        have HR2 : Hid (C = 0 ∧ X = ⟨t, s, us, fs, fa, se, OO⟩) := ⟨HR0.out, by rw [HR2'.out, HOO.out]⟩
        clear hlO
        have R1 := HR.out.below Bc
        obtain ⟨r0, r1, r2, r3, r4, r5, r6, r7, y0, y1, y2, y3, y4, y5, y6, y7, rl⟩ := R1.z8
        have VB := Hw3.out.b
        have c7 := VB.c7
        obtain ⟨p0, p1, p2, p3, p4, p5, p6, pl⟩ := c7
        have Fz := set8_blk R1 (.int .i64 0) (.int .i64 t) (.int .i64 s) (.slice pu9 us.length uc9) (.slice pf9 fs.length fc9) (.slice (some ⟨ga, 0, none⟩) fa.length ac9) (.slice ps9 se.length sc9) (.slice po7 OO.length oc7)
        have Fo := (Hw3.out.o.of_block R1 (by decide) (by decide) (by decide) (by decide) (by decide) (set8_other (W := wq3) (g := w.heap.size) (.int .i64 0) (.int .i64 t) (.int .i64 s) (.slice pu9 us.length uc9) (.slice pf9 fs.length fc9) (.slice (some ⟨ga, 0, none⟩) fa.length ac9) (.slice ps9 se.length sc9) (.slice po7 OO.length oc7))).mono (show w.heap.size ≤ base by omega)
        have BE := set8_below (B1.trans (Bc.mono hB)) (Nat.le_refl w.heap.size) (.int .i64 0) (.int .i64 t) (.int .i64 s) (.slice pu9 us.length uc9) (.slice pf9 fs.length fc9) (.slice (some ⟨ga, 0, none⟩) fa.length ac9) (.slice ps9 se.length sc9) (.slice po7 OO.length oc7)
        have hne : w.heap.size ≠ g := by have := Hw3.out.bg; omega
        clear R1 VB
        go_wp2_with fail
        rw [HR2.out.1, HR2.out.2]
        exact bodyPost_ret (v := .agg (r8 0 ⟨pu9, uc9, pf9, fc9, some ⟨ga, 0, none⟩, ac9, ps9, sc9, po7, oc7⟩ ⟨t, s, us, fs, fa, se, OO⟩)) (result8 Tryz.results65 Fz _ rfl) rfl ⟨_, rfl, Fo, BE⟩
set_option maxRecDepth 20000 in
set_option maxHeartbeats 16000000 in
theorem specOfferPact (p : WP) (x : KW) (w : World) (h : InW w p x) (i j : Int) :
    Calls Tryz.prog 25 #[.agg (p.v x), .int .i64 i, .int .i64 j] w fun e w' => ∃ q, e = .returned (.agg (r8 (offC hasS x i j) q (offX hasS x i j))) ∧ OwW w' w.heap.size q (offX hasS x i j) ∧ Below w.heap.size w w' := by
  obtain ⟨t, s, us, fs, fa, se, oo⟩ := x
  obtain ⟨u, uc, f, fc, a, ac, q, qc, r, rc⟩ := p
  obtain ⟨W, HW⟩ : ∃ W, Hid (W = (w.alloc (.cells (wv t s u us.length uc f fs.length fc a fa.length ac q se.length qc r oo.length rc) 32)).alloc (.cells z8 36)) := ⟨_, rfl⟩
  have B1 : Below w.heap.size w W := by rw [HW.out]; exact ((Below.refl _ _).alloc (Nat.le_refl _) _).alloc (by rw [size_new]; omega) _
  have P : Bk W w.heap.size (wv t s u us.length uc f fs.length fc a fa.length ac q se.length qc r oo.length rc) 32 := by rw [HW.out]; exact (Bk.new w (wv t s u us.length uc f fs.length fc a fa.length ac q se.length qc r oo.length rc) 32).alloc _
  have R : Blk W (w.heap.size + 1) z8 36 := by rw [HW.out]; have h := Blk.new (w.alloc (.cells (wv t s u us.length uc f fs.length fc a fa.length ac q se.length qc r oo.length rc) 32)) z8 36; rw [size_new] at h; exact h
  have HN : Hid (InW W ⟨u, uc, f, fc, a, ac, q, qc, r, rc⟩ ⟨t, s, us, fs, fa, se, oo⟩) := h.later B1
  have HR : Hid (Blk W (w.heap.size + 1) z8 36) := R
  have hB := B1.size
  show Calls Tryz.prog 25 #[.agg (wv t s u us.length uc f fs.length fc a fa.length ac q se.length qc r oo.length rc), .int .i64 i, .int .i64 j] w _
  have cF := fun W' (h : Below W.heap.size W W') => l7Two_c w.heap.size t s u us.length uc f fs.length fc a fa.length ac q se.length qc r oo.length rc us fs fa se oo rfl rfl rfl rfl rfl HN.out.o1 HN.out.o2 W' ⟨(P.below h).cell rfl, (P.below h).cell rfl, (P.below h).cell rfl, (P.below h).cell rfl, (P.below h).cell rfl, (P.below h).cell rfl, (P.below h).cell rfl, (P.below h).lt⟩ (HN.out.later h).arg.u (HN.out.later h).arg.f (HN.out.later h).arg.a (HN.out.later h).arg.s (HN.out.later h).arg.o i j
  have cI := fun (G : GdW hasS ⟨t, s, us, fs, fa, se, oo⟩) W' (h : Below W.heap.size W W') => l7Offer_c w.heap.size ⟨u, uc, f, fc, a, ac, q, qc, r, rc⟩ ⟨t, s, us, fs, fa, se, oo⟩ G W' (show Blk W' w.heap.size _ _ from Blk.below (show Blk W w.heap.size (wv t s u us.length uc f fs.length fc a fa.length ac q se.length qc r oo.length rc) 32 from P) h) (HN.out.later h) i j
  have cB := fun (c : Int) w => l7Bad_c c w
  have HC : Hid ((prF hasS ⟨t, s, us, fs, fa, se, oo⟩ i j == 0) = false → offC hasS ⟨t, s, us, fs, fa, se, oo⟩ i j = prF hasS ⟨t, s, us, fs, fa, se, oo⟩ i j ∧ offX hasS ⟨t, s, us, fs, fa, se, oo⟩ i j = kz) := fun e => by
    have e1 : offC hasS ⟨t, s, us, fs, fa, se, oo⟩ i j = prF hasS ⟨t, s, us, fs, fa, se, oo⟩ i j := by unfold offC; rw [if_pos e]
    exact ⟨e1, by unfold offX; rw [e1, if_neg (by rw [e]; simp)]⟩
  have HG : Hid (prF hasS ⟨t, s, us, fs, fa, se, oo⟩ i j = 0 → GdW hasS ⟨t, s, us, fs, fa, se, oo⟩) := fun e => (gdW_iff hasS _).1 (prF_zero.1 e).1
  generalize offC hasS ⟨t, s, us, fs, fa, se, oo⟩ i j = C at HC cI ⊢
  generalize offX hasS ⟨t, s, us, fs, fa, se, oo⟩ i j = X at HC cI ⊢
  generalize prF hasS ⟨t, s, us, fs, fa, se, oo⟩ i j = F at cF HC HG
  obtain ⟨mu, Hmu⟩ : ∃ m, Hid (us.length = m) := ⟨_, rfl⟩
  obtain ⟨mf, Hmf⟩ : ∃ m, Hid (fs.length = m) := ⟨_, rfl⟩
  obtain ⟨ma, Hma⟩ : ∃ m, Hid (fa.length = m) := ⟨_, rfl⟩
  obtain ⟨ms, Hms⟩ : ∃ m, Hid (se.length = m) := ⟨_, rfl⟩
  obtain ⟨mo, Hmo⟩ : ∃ m, Hid (oo.length = m) := ⟨_, rfl⟩
  rw [Hmu.out, Hmf.out, Hma.out, Hms.out, Hmo.out] at P HW ⊢
  clear h R
  have Bc : Below W.heap.size W W := Below.refl _ _
  cases e2 : F == 0
  · have n7 : (F != 0) = true := by simp only [bne, e2]; rfl
    have HR1 : Hid (C = F ∧ X = kz) := HC.out e2
    have cB := cB F
    clear HC HG cI e2
    go_enter Tryz.func25, Tryz.ntmps25
    go_upto_region 1 with fail
    rw [← HW.out]
    go_wp2_with fail
    refine (cF _ Bc).mono ?_
    rintro e wn ⟨rfl, kn⟩
    have Bc := Bc.trans (kn.mono Bc.size)
    go_wp2_with fail
    refine (cB _).mono ?_
    rintro e wx ⟨rfl, kx⟩
    have Bc := Bc.trans (kx.mono Bc.size)
    have R1 := HR.out.below Bc
    obtain ⟨r0, r1, r2, r3, r4, r5, r6, r7, y0, y1, y2, y3, y4, y5, y6, y7, rl⟩ := R1.z8
    have Fz : Blk _ (w.heap.size + 1) (r8 F wpz kz) 36 := set8_blk R1 (.int .i64 F) (.int .i64 0) (.int .i64 0) (.slice none 0 0) (.slice none 0 0) (.slice none 0 0) (.slice none 0 0) (.slice none 0 0)
    have BE := set8_below (B1.trans (Bc.mono hB)) (show w.heap.size ≤ w.heap.size + 1 by omega) (.int .i64 F) (.int .i64 0) (.int .i64 0) (.slice none 0 0) (.slice none 0 0) (.slice none 0 0) (.slice none 0 0) (.slice none 0 0)
    clear R1
    go_wp2_with fail
    rw [HR1.out.1, HR1.out.2]
    exact bodyPost_ret (v := .agg (r8 F wpz kz)) (result8 Tryz.results25 Fz _ rfl) rfl ⟨wpz, rfl, OwW.z _ _, BE⟩
  obtain rfl : F = 0 := by simpa using e2
  have cI := cI (HG.out rfl)
  obtain ⟨C2, HC2⟩ : ∃ v, Hid (C = v) := ⟨_, rfl⟩
  rw [HC2.out] at cI
  clear HC HG e2
  go_enter Tryz.func25, Tryz.ntmps25
  go_upto_region 1 with fail
  rw [← HW.out]
  go_wp2_with fail
  refine (cF _ Bc).mono ?_
  rintro e wn ⟨rfl, kn⟩
  have Bc := Bc.trans (kn.mono Bc.size)
  go_wp2_with fail
  have hB5 := Bc.size
  refine (cI _ Bc).mono ?_
  rintro e w8 ⟨q9, rfl, O8, k8⟩
  have Bc := Bc.trans (k8.mono Bc.size)
  obtain ⟨t9, s9, us9, fs9, fa9, se9, oo9⟩ := X
  obtain ⟨pu9, uc9, pf9, fc9, pa9, ac9, ps9, sc9, po9, oc9⟩ := q9
  have HR2 : Hid (C = C2 ∧ (⟨t9, s9, us9, fs9, fa9, se9, oo9⟩ : KW) = ⟨t9, s9, us9, fs9, fa9, se9, oo9⟩) := ⟨HC2.out, rfl⟩
  have R1 := HR.out.below Bc
  obtain ⟨r0, r1, r2, r3, r4, r5, r6, r7, y0, y1, y2, y3, y4, y5, y6, y7, rl⟩ := R1.z8
  have Fz := set8_blk R1 (.int .i64 C2) (.int .i64 t9) (.int .i64 s9) (.slice pu9 us9.length uc9) (.slice pf9 fs9.length fc9) (.slice pa9 fa9.length ac9) (.slice ps9 se9.length sc9) (.slice po9 oo9.length oc9)
  have Fo := (O8.of_block R1 (by decide) (by decide) (by decide) (by decide) (by decide) (set8_other (W := w8) (g := w.heap.size + 1) (.int .i64 C2) (.int .i64 t9) (.int .i64 s9) (.slice pu9 us9.length uc9) (.slice pf9 fs9.length fc9) (.slice pa9 fa9.length ac9) (.slice ps9 se9.length sc9) (.slice po9 oo9.length oc9))).mono (show w.heap.size ≤ _ by first | omega | (have := Bc.size; omega))
  have BE := set8_below (B1.trans (Bc.mono hB)) (show w.heap.size ≤ w.heap.size + 1 by omega) (.int .i64 C2) (.int .i64 t9) (.int .i64 s9) (.slice pu9 us9.length uc9) (.slice pf9 fs9.length fc9) (.slice pa9 fa9.length ac9) (.slice ps9 se9.length sc9) (.slice po9 oo9.length oc9)
  clear R1 O8
  go_wp2_with fail
  rw [HR2.out.1]
  exact bodyPost_ret (v := .agg (r8 C2 ⟨pu9, uc9, pf9, fc9, pa9, ac9, ps9, sc9, po9, oc9⟩ ⟨t9, s9, us9, fs9, fa9, se9, oo9⟩)) (result8 Tryz.results25 Fz _ rfl) rfl ⟨_, rfl, Fo, BE⟩
end Go.Proofs.YtmfdggaijbcijaaGreat
end
