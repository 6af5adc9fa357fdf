/- Texts of mine put together (a claim holds at most 60 files): PaySpec. -/
import Derived.Test.YtaeeahgibifkjaaPartT27
import Derived.Test.YtaeeahgibifkjaaPartT28
import Derived.Test.YtaeeahgibifkjaaPartT33

/- PaySpec -/
/- The contracts of tributes and of all purses together, the model's. Condition: the world's lists lie in memory as they were laid there. -/
section
namespace Go.Proofs.Ytaeeahgibifkjaa
open Go.ChangeShapes Go.WideShapes Go.ChangeAt Go.RowKit
open Bd
set_option linter.unusedVariables false

/- a world of a call's own in memory -/
structure WO (w : World) (base g : Nat) (p : WP) (x : KW) : Prop where
  b : Blk w g (p.v x) 32
  o : OwW w base p x
  bg : base ≤ g
theorem WO.later {w w' : World} {base g : Nat} {p : WP} {x : KW} (h : WO w base g p x) (hb : Below w.heap.size w w') : WO w' base g p x := ⟨h.b.below hb, h.o.later hb, h.bg⟩
theorem WO.drew {w : World} {base g : Nat} {p : WP} {x : KW} (h : WO w base g p x) : WO w.drew base g p x := h.later (Below.refl _ _).drew
theorem WO.setA {w : World} {base g ga : Nat} {p : WP} {x : KW} (h : WO w base g p x) (hp : p.a = some ⟨ga, 0, none⟩) (i : Nat) (v : Value) (fa' : List KA) (hi : i < x.fa.length * 3) (hc : (flatA x.fa).set i v = flatA fa') : WO (w.setCell ⟨ga, i, none⟩ v) base g p ⟨x.t, x.s, x.us, x.fs, fa', x.se, x.oo⟩ := by
  have hl : fa'.length = x.fa.length := by
    have h1 := congrArg List.length hc
    rw [List.length_set, flatA_len, flatA_len] at h1
    omega
  have hA := h.o.a
  rw [hp] at hA
  obtain ⟨csA, hbA⟩ := hA.blk (q := ga) rfl
  have hne : g ≠ ga := bk_ne h.b hbA (by decide)
  refine ⟨?_, ⟨h.o.u.setB hbA (by decide) v, h.o.f.setB hbA (by decide) v, ?_, h.o.s.setB hbA (by decide) v, h.o.o.setB hbA (by decide) v⟩, h.bg⟩
  · have := h.b.setOther (a := ⟨ga, i, none⟩) hne v
    show Blk _ g (wv x.t x.s p.u x.us.length p.uc p.f x.fs.length p.fc p.a fa'.length p.ac p.s x.se.length p.sc p.o x.oo.length p.oc) _
    rw [hl]
    exact this
  · show SlA _ _ (.slice p.a fa'.length p.ac) fa'
    rw [hl, hp]
    exact hA.setCell i v hi hc
set_option maxRecDepth 20000 in
set_option maxHeartbeats 8000000 in
theorem specPursesOf (p : WP) (x : KW) (w : World) (h : InW w p x) :
    Calls Try.prog 9 #[.agg (p.v x)] w fun e w' => e = .returned (.agg #[.int .i64 (ppC hasS x), .int .i64 (ppV hasS x)]) ∧ Below w.heap.size w w' := by
  obtain ⟨t, s, us, fs, fa, se, oo⟩ := x
  obtain ⟨u, uc, f, fc, a, ac, q, qc, r, rc⟩ := p
  obtain ⟨W, HW⟩ : ∃ W, Hid (W = (w.alloc (.cells (wv t s u us.length uc f fs.length fc a fa.length ac q se.length qc r oo.length rc) 32)).alloc (.cells #[.int .i64 0, .int .i64 0] 40)) := ⟨_, rfl⟩
  have B1 : Below w.heap.size w W := by rw [HW.out]; exact ((Below.refl _ _).alloc (Nat.le_refl _) _).alloc (by rw [size_new]; omega) _
  have P : Bk W w.heap.size (wv t s u us.length uc f fs.length fc a fa.length ac q se.length qc r oo.length rc) 32 := by rw [HW.out]; exact (Bk.new w (wv t s u us.length uc f fs.length fc a fa.length ac q se.length qc r oo.length rc) 32).alloc _
  have R : Blk W (w.heap.size + 1) #[.int .i64 0, .int .i64 0] 40 := by rw [HW.out]; have h := Blk.new (w.alloc (.cells (wv t s u us.length uc f fs.length fc a fa.length ac q se.length qc r oo.length rc) 32)) #[.int .i64 0, .int .i64 0] 40; rw [size_new] at h; exact h
  have HN : Hid (InW W ⟨u, uc, f, fc, a, ac, q, qc, r, rc⟩ ⟨t, s, us, fs, fa, se, oo⟩) := h.later B1
  have HR : Hid (Blk W (w.heap.size + 1) #[.int .i64 0, .int .i64 0] 40) := R
  have hB := B1.size
  have HC : Hid (ppC hasS ⟨t, s, us, fs, fa, se, oo⟩ = wf hasS ⟨t, s, us, fs, fa, se, oo⟩) := rfl
  have HV : Hid (ppV hasS ⟨t, s, us, fs, fa, se, oo⟩ = if (wf hasS ⟨t, s, us, fs, fa, se, oo⟩ == 0) = true then purS fa else 0) := rfl
  have HG : Hid (wf hasS ⟨t, s, us, fs, fa, se, oo⟩ = 0 → GdW hasS ⟨t, s, us, fs, fa, se, oo⟩) := (gdW_iff hasS _).1
  have cF := fun W' (h : Below W.heap.size W W') => l6Fault_c w.heap.size t s u us.length uc f fs.length fc a fa.length ac q se.length qc r oo.length rc us fs fa se oo rfl rfl rfl rfl rfl HN.out.o1 HN.out.o2 W' ⟨(P.below h).cell rfl, (P.below h).cell rfl, (P.below h).cell rfl, (P.below h).cell rfl, (P.below h).cell rfl, (P.below h).cell rfl, (P.below h).cell rfl, (P.below h).lt⟩ (HN.out.later h).arg.u (HN.out.later h).arg.f (HN.out.later h).arg.a (HN.out.later h).arg.s (HN.out.later h).arg.o
  show Calls Try.prog 9 #[.agg (wv t s u us.length uc f fs.length fc a fa.length ac q se.length qc r oo.length rc)] w _
  generalize ppC hasS ⟨t, s, us, fs, fa, se, oo⟩ = C at HC ⊢
  generalize ppV hasS ⟨t, s, us, fs, fa, se, oo⟩ = V at HV ⊢
  generalize wf hasS ⟨t, s, us, fs, fa, se, oo⟩ = F at cF HC HV HG
  obtain ⟨mu, Hmu⟩ : ∃ m, Hid (us.length = m) := ⟨_, rfl⟩
  obtain ⟨mf, Hmf⟩ : ∃ m, Hid (fs.length = m) := ⟨_, rfl⟩
  obtain ⟨ma, Hma⟩ : ∃ m, Hid (fa.length = m) := ⟨_, rfl⟩
  obtain ⟨ms, Hms⟩ : ∃ m, Hid (se.length = m) := ⟨_, rfl⟩
  obtain ⟨mo, Hmo⟩ : ∃ m, Hid (oo.length = m) := ⟨_, rfl⟩
  rw [Hmu.out, Hmf.out, Hma.out, Hms.out, Hmo.out] at P HW ⊢
  clear h R
  have keep : ∀ w', Below W.heap.size W w' → w'.cell? ⟨w.heap.size, 0, none⟩ = some (.int .i64 t) ∧ w'.cell? ⟨w.heap.size, 1, none⟩ = some (.int .i64 s) ∧ w'.cell? ⟨w.heap.size, 2, none⟩ = some (.slice u mu uc) ∧ w'.cell? ⟨w.heap.size, 3, none⟩ = some (.slice f mf fc) ∧ w'.cell? ⟨w.heap.size, 4, none⟩ = some (.slice a ma ac) ∧ w'.cell? ⟨w.heap.size, 5, none⟩ = some (.slice q ms qc) ∧ w'.cell? ⟨w.heap.size, 6, none⟩ = some (.slice r mo rc) ∧ w.heap.size < w'.heap.size := fun w' hb => by
    have q := P.below hb
    exact ⟨q.cell rfl, q.cell rfl, q.cell rfl, q.cell rfl, q.cell rfl, q.cell rfl, q.cell rfl, q.lt⟩
  have Bc : Below W.heap.size W W := Below.refl _ _
  obtain ⟨p0, p1, p2, p3, p4, p5, p6, pl⟩ := keep _ Bc
  have done2 : ∀ (wc : World) (C V : Int), Below W.heap.size W wc → Blk ((wc.setCell ⟨w.heap.size + 1, 0, none⟩ (.int .i64 C)).setCell ⟨w.heap.size + 1, 1, none⟩ (.int .i64 V)) (w.heap.size + 1) #[.int .i64 C, .int .i64 V] 40 ∧ Below w.heap.size w ((wc.setCell ⟨w.heap.size + 1, 0, none⟩ (.int .i64 C)).setCell ⟨w.heap.size + 1, 1, none⟩ (.int .i64 V)) := fun wc C V hb => by
    have q0 : Blk _ (w.heap.size + 1) #[.int .i64 C, .int .i64 0] 40 := (HR.out.below hb).set 0 (.int .i64 C)
    have q1 : Blk _ (w.heap.size + 1) #[.int .i64 C, .int .i64 V] 40 := q0.set 1 (.int .i64 V)
    exact ⟨q1, bel_set (bel_set (B1.trans (hb.mono hB)) (w.heap.size + 1) 0 (by omega) (.int .i64 C)) (w.heap.size + 1) 1 (by omega) (.int .i64 V)⟩
  go_enter Try.func9, Try.ntmps9
  go_upto_region 1 with fail
  rw [← HW.out]
  go_wp2_with fail
  refine (cF _ Bc).mono ?_
  rintro e wn ⟨rfl, kn⟩
  have Bc := Bc.trans (kn.mono Bc.size)
  clear p0 p1 p2 p3 p4 p5 p6 pl cF kn
  cases e2 : F == 0
  · have n7 : (F != 0) = true := by simp only [bne, e2]; rfl
    have HV' : Hid (V = 0) := by show _ = _; rw [HV.out, e2]; rfl
    have R1 := HR.out.below Bc
    have e0 : wn.cell? ⟨w.heap.size + 1, 0, none⟩ = some (.int .i64 0) := R1.cell (i := 0) rfl
    have e1 : wn.cell? ⟨w.heap.size + 1, 1, none⟩ = some (.int .i64 0) := R1.cell (i := 1) rfl
    have z0 := R1.frozen 0
    have z1 := R1.frozen 1
    have rl := R1.lt
    obtain ⟨G, BE⟩ := done2 wn F 0 Bc
    clear R1
    go_wp2_with fail
    rw [HC.out, HV'.out]
    have c0 := G.cell (i := 0) rfl
    have c1 := G.cell (i := 1) rfl
    refine bodyPost_ret (v := .agg #[.int .i64 F, .int .i64 0]) ?_ rfl ⟨rfl, BE⟩
    simp [results, Try.results9, go_sem, c0, c1]
    done
  · obtain rfl : F = 0 := by simpa using e2
    have HV' : Hid (V = purS fa) := by show _ = _; rw [HV.out, e2]; rfl
    have G := HG.out rfl
    have h4 : ma = 4 := by rw [← Hma.out]; exact G.a4
    subst h4
    have Hp : Hid (∀ f ∈ fa, inb f.c0 0 1000000 = true) := purse_in G
    clear HV e2 G HG
    go_wp2_with fail
    go_loopw [4, 5] (fun n i wr => ∃ k : Nat, k ≤ 4 ∧ i = .int .i64 k ∧ n = .int .i64 (purS (fa.take k)) ∧ Below W.heap.size W wr) (fun _ i _ => 4 - (intOf i).toNat)
    case atStart => exact ⟨0, Nat.zero_le _, rfl, rfl, Bc⟩
    case round =>
      obtain ⟨k, hk, rfl, rfl, hbel⟩ := hrel
      by_cases hlt : k < 4
      · have hlt' : (k : Int) < 4 := by omega
        obtain ⟨x, hx⟩ : ∃ x, fa[k]? = some x := ⟨_, List.getElem?_eq_getElem (by have := Hma.out; omega)⟩
        obtain ⟨b, off, rfl, hb, hat⟩ := (HN.out.later hbel).arg.a.atP hx
        obtain ⟨p0, p1, p2, p3, p4, p5, p6, pl⟩ := keep _ hbel
        obtain ⟨x0, x1, x2, xl⟩ := hat.one hb hx
        obtain ⟨f0, f1⟩ := inb_i (Hp.out x (List.mem_of_getElem? hx))
        obtain ⟨s0, s1⟩ := purS_bd (l := fa.take k) (fun f hf => Hp.out f (List.mem_of_mem_take hf))
        have hlen : (fa.take k).length ≤ 100 := by rw [List.length_take]; omega
        have HS : Hid (purS (fa.take (k + 1)) = purS (fa.take k) + x.c0) := purS_take hx
        clear hx hat
        generalize purS (fa.take k) = S at s0 s1 HS ⊢
        go_wp2
        go_roundw
        case rel => exact ⟨k + 1, by omega, by go_num, by rw [HS.out], hbel⟩
        case measure => simp [intOf]; omega
      · obtain rfl : k = 4 := by omega
        have HE : Hid (fa.take 4 = fa) := List.take_of_length_le (by have := Hma.out; omega)
        rw [HE.out]
        have R1 := HR.out.below hbel
        have e0 : World.cell? _ ⟨w.heap.size + 1, 0, none⟩ = some (.int .i64 0) := R1.cell (i := 0) rfl
        have e1 : World.cell? _ ⟨w.heap.size + 1, 1, none⟩ = some (.int .i64 0) := R1.cell (i := 1) rfl
        have z0 := R1.frozen 0
        have z1 := R1.frozen 1
        have rl := R1.lt
        obtain ⟨G, BE⟩ := done2 _ 0 (purS fa) hbel
        generalize purS fa = S at HV' G BE ⊢
        clear R1
        go_wp2_with fail
        rw [HC.out, HV'.out]
        have c0 := G.cell (i := 0) rfl
        have c1 := G.cell (i := 1) rfl
        refine bodyPost_ret (v := .agg #[.int .i64 0, .int .i64 S]) ?_ rfl ⟨rfl, BE⟩
        simp [results, Try.results9, go_sem, c0, c1]
        done
/- factions behind a store, or ahead of it -/
def SF (fa : List KA) (i v : Int) : Bool → List KA
  | false => fa
  | true => setP fa i v
theorem SF_len {fa : List KA} {i v : Int} (b : Bool) : (SF fa i v b).length = fa.length := by cases b <;> simp [SF, setP_len]
/- what a tribute leaves of a right world -/
def pyC (fa : List KA) (i j n : Int) : Int := if (sdF fa i j == 0) = false then sdF fa i j else if inb n 1 1000000 = false then 3 else if purA fa i < n then 10 else if 1000000 < purA fa j + n then 7 else 0
def pyX (x : KW) (i j n : Int) : KW := if (pyC x.fa i j n == 0) = true then ⟨x.t, x.s, x.us, x.fs, payA x.fa i j n, x.se, x.oo⟩ else kz
theorem neg_wrap {x : Int} (h0 : -1000000 ≤ x) (h1 : x ≤ 3000000) : IntKind.i64.wrap x = x := by rw [IntKind.wrap_i64]; omega
set_option maxRecDepth 20000 in
set_option maxHeartbeats 16000000 in
theorem l8Pay_c (h : Int → Int → Bool) (gW : Nat) (p : WP) (x : KW) (G : GdW h x) (w : World) (hW : Blk w gW (p.v x) 32) (hI : InW w p x) (i j n : Int) :
    Calls Try.prog 23 #[.pointer (some ⟨gW, 0, none⟩), .int .i64 i, .int .i64 j, .int .i64 n] w fun e w' => ∃ q, e = .returned (.agg (r8 (pyC x.fa i j n) q (pyX x i j n))) ∧ OwW w' w.heap.size q (pyX x i j n) ∧ Below w.heap.size w w' := by
  obtain ⟨t, s, us, fs, fa, se, oo⟩ := x
  obtain ⟨u, uc, f, fc, a, ac, q, qc, r, rc⟩ := p
  obtain ⟨W, HW⟩ : ∃ W, Hid (W = w.alloc (.cells z8 36)) := ⟨_, rfl⟩
  have B1 : Below w.heap.size w W := by rw [HW.out]; exact (Below.refl _ _).alloc (Nat.le_refl _) _
  have R : Blk W w.heap.size z8 36 := by rw [HW.out]; exact Blk.new w z8 36
  have HR : Hid (Blk W w.heap.size z8 36) := R
  have HN : Hid (InW W ⟨u, uc, f, fc, a, ac, q, qc, r, rc⟩ ⟨t, s, us, fs, fa, se, oo⟩) := hI.later B1
  have P : Blk W gW (wv t s u us.length uc f fs.length fc a fa.length ac q se.length qc r oo.length rc) 32 := hW.below B1
  have hB := B1.size
  have h4 := G.a4
  dsimp only at h4
  have c7 := fun W' (h : Below W.heap.size W W') => (P.below h).c7
  rw [h4] at c7
  have cS := fun W' (h : Below W.heap.size W W') => l7Sides_c gW t s u us.length uc f fs.length fc a 4 ac q se.length qc r oo.length rc fa h4 rfl W' ⟨(c7 W' h).c0, (c7 W' h).c1, (c7 W' h).c2, (c7 W' h).c3, (c7 W' h).c4, (c7 W' h).c5, (c7 W' h).c6, (c7 W' h).lt⟩ (HN.out.later h).arg.a i j
  have cN := fun W' (h : Below W.heap.size W W') => l6Copy_c ⟨u, uc, f, fc, a, ac, q, qc, r, rc⟩ ⟨t, s, us, fs, fa, se, oo⟩ (Gd8 G.b).1 (Gd8 G.b).2 (Nat.le_of_eq G.a4) G.s6 G.o6 W' (HN.out.later h)
  replace cN : ∀ W', Below W.heap.size W W' → Calls Try.prog 51 #[.agg (wv t s u us.length uc f fs.length fc a 4 ac q se.length qc r oo.length rc)] W' fun e w' => ∃ p', e = .returned (.agg (WP.v p' ⟨t, s, us, fs, fa, se, oo⟩)) ∧ OwW w' W'.heap.size p' ⟨t, s, us, fs, fa, se, oo⟩ ∧ Below W'.heap.size W' w' := fun W' h => by have := cN W' h; dsimp only [WP.v] at this; rw [h4] at this; rw [show WP.v = WP.v from rfl]; simpa only [WP.v, h4] using this
  have Hp : Hid (∀ f ∈ fa, inb f.c0 0 1000000 = true) := purse_in G
  have HC : Hid (pyC fa i j n = if (sdF fa i j == 0) = false then sdF fa i j else if inb n 1 1000000 = false then 3 else if purA fa i < n then 10 else if 1000000 < purA fa j + n then 7 else 0) := rfl
  have HX : Hid (pyX ⟨t, s, us, fs, fa, se, oo⟩ i j n = if (pyC fa i j n == 0) = true then ⟨t, s, us, fs, payA fa i j n, se, oo⟩ else kz) := rfl
  have HS : Hid (sdF fa i j = 0 → inb i 0 3 = true ∧ inb j 0 3 = true ∧ i ≠ j ∧ goneA fa i = false ∧ goneA fa j = false) := sdF_zero.1
  dsimp only
  generalize pyC fa i j n = C at HC HX ⊢
  generalize pyX ⟨t, s, us, fs, fa, se, oo⟩ i j n = X at HX ⊢
  generalize sdF fa i j = F at cS HC HS
  obtain ⟨mu, Hmu⟩ : ∃ m, Hid (us.length = m) := ⟨_, rfl⟩
  obtain ⟨mf, Hmf⟩ : ∃ m, Hid (fs.length = m) := ⟨_, rfl⟩
  obtain ⟨ms, Hms⟩ : ∃ m, Hid (se.length = m) := ⟨_, rfl⟩
  obtain ⟨mo, Hmo⟩ : ∃ m, Hid (oo.length = m) := ⟨_, rfl⟩
  rw [Hmu.out, Hmf.out, Hms.out, Hmo.out] at c7 cN
  have H4 : Hid (fa.length = 4) := h4
  have HCC : Hid (C ≠ 0 → X = kz) := fun e => by rw [HX.out, if_neg (by simpa using e)]
  have Bc : Below W.heap.size W W := Below.refl _ _
  clear R P hW hI G h4
  obtain ⟨p0, p1, p2, p3, p4, p5, p6, pl⟩ := c7 _ Bc
  cases e2 : F == 0
  · have n7 : (F != 0) = true := by simp only [bne, e2]; rfl
    have HR1 : Hid (C = F ∧ X = kz) := by
      have e : C = F := by rw [HC.out, e2]; rfl
      exact ⟨e, HCC.out (by rw [e]; simpa using e2)⟩
    clear HC HX HS cN e2
    go_enter Try.func23, Try.ntmps23
    go_upto_region 1 with fail
    rw [← HW.out]
    go_wp2_with fail
    refine (cS _ Bc).mono ?_
    rintro e wn ⟨rfl, hwn⟩
    obtain rfl := hwn.symm
    go_wp2_with fail
    refine (l7Bad_c F _).mono ?_
    rintro e wz ⟨rfl, kz'⟩
    have Bc := Bc.trans (kz'.mono Bc.size)
    have R1 := HR.out.below Bc
    obtain ⟨r0, r1, r2, r3, r4, r5, r6, r7, y0, y1, y2, y3, y4, y5, y6, y7, rl⟩ := R1.z8
    have Fz : Blk _ w.heap.size (r8 F wpz kz) 36 := set8_blk R1 (.int .i64 F) (.int .i64 0) (.int .i64 0) (.slice none 0 0) (.slice none 0 0) (.slice none 0 0) (.slice none 0 0) (.slice none 0 0)
    have BE := set8_below (B1.trans (Bc.mono hB)) (Nat.le_refl w.heap.size) (.int .i64 F) (.int .i64 0) (.int .i64 0) (.slice none 0 0) (.slice none 0 0) (.slice none 0 0) (.slice none 0 0) (.slice none 0 0)
    clear R1
    go_wp2_with fail
    rw [HR1.out.1, HR1.out.2]
    exact bodyPost_ret (v := .agg (r8 F wpz kz)) (result8 Try.results23 Fz _ rfl) rfl ⟨wpz, rfl, OwW.z _ _, BE⟩
  obtain rfl : F = 0 := by simpa using e2
  replace HC : Hid (C = if inb n 1 1000000 = false then 3 else if purA fa i < n then 10 else if 1000000 < purA fa j + n then 7 else 0) := HC
  obtain ⟨ia, ja, hij, gi, gj⟩ := HS.out rfl
  obtain ⟨i0, i3⟩ := inb_i ia
  obtain ⟨j0, j3⟩ := inb_i ja
  obtain ⟨y, hy, _, _⟩ := side_at H4.out i0 i3
  obtain ⟨z, hz, _, _⟩ := side_at H4.out j0 j3
  have Hy : Hid (fa[i.toNat]? = some y) := hy
  have Hz : Hid (fa[j.toNat]? = some z) := hz
  rw [pur_get hy, pur_get hz] at HC
  obtain ⟨yb0, yb1⟩ := inb_i (Hp.out y (List.mem_of_getElem? hy))
  obtain ⟨zb0, zb1⟩ := inb_i (Hp.out z (List.mem_of_getElem? hz))
  have keepY : ∀ w', Below W.heap.size W w' → ∃ b o, a = some ⟨b, o, none⟩ ∧ A1 w' b (o + i.toNat * 3) y ∧ A1 w' b (o + j.toNat * 3) z := fun w' hb => by
    obtain ⟨b, o, hpa, hbl, hat⟩ := (HN.out.later hb).arg.a.atP Hy.out
    exact ⟨b, o, hpa, hat.one hbl Hy.out, hat.one hbl Hz.out⟩
  have i4 : i < 4 := by omega
  have j4 : j < 4 := by omega
  have Hij : Hid (i ≠ j) := hij
  have qI := fun w => l1In_c n 1 1000000 w
  obtain ⟨ba, oa, rfl, ⟨y0, y1, y2, yl⟩, ⟨z0, z1, z2, zl⟩⟩ := keepY _ Bc
  clear ia ja gi gj hy hz e2 hij HS
  cases en : inb n 1 1000000
  · rw [en] at qI
    have HR1 : Hid (C = 3 ∧ X = kz) := by
      have e : C = 3 := by rw [HC.out, en]; rfl
      exact ⟨e, HCC.out (by rw [e]; decide)⟩
    go_enter Try.func23, Try.ntmps23
    go_upto_region 1 with fail
    rw [← HW.out]
    go_wp2_with fail
    refine (cS _ Bc).mono ?_
    rintro e wn ⟨rfl, hwn⟩
    obtain rfl := hwn.symm
    go_wp2_with (go_at_call 45; refine (qI _).mono ?_; rintro e w1 ⟨rfl, hw1⟩; obtain rfl := hw1.symm)
    refine (l7Bad_c 3 _).mono ?_
    rintro e wz ⟨rfl, kz'⟩
    have Bc := Bc.trans (kz'.mono Bc.size)
    have R1 := HR.out.below Bc
    obtain ⟨r0, r1, r2, r3, r4, r5, r6, r7, y0, y1, y2, y3, y4, y5, y6, y7, rl⟩ := R1.z8
    have Fz : Blk _ w.heap.size (r8 3 wpz kz) 36 := set8_blk R1 (.int .i64 3) (.int .i64 0) (.int .i64 0) (.slice none 0 0) (.slice none 0 0) (.slice none 0 0) (.slice none 0 0) (.slice none 0 0)
    have BE := set8_below (B1.trans (Bc.mono hB)) (Nat.le_refl w.heap.size) (.int .i64 3) (.int .i64 0) (.int .i64 0) (.slice none 0 0) (.slice none 0 0) (.slice none 0 0) (.slice none 0 0) (.slice none 0 0)
    clear R1
    go_wp2_with fail
    rw [HR1.out.1, HR1.out.2]
    exact bodyPost_ret (v := .agg (r8 3 wpz kz)) (result8 Try.results23 Fz _ rfl) rfl ⟨wpz, rfl, OwW.z _ _, BE⟩
  rw [en] at qI
  obtain ⟨n1, n2⟩ := inb_i en
  replace HC : Hid (C = if y.c0 < n then 10 else if 1000000 < z.c0 + n then 7 else 0) := by show _ = _; rw [HC.out, en, if_neg (by simp)]
  go_enter Try.func23, Try.ntmps23
  go_upto_region 1 with fail
  rw [← HW.out]
  go_wp2_with fail
  refine (cS _ Bc).mono ?_
  rintro e wn ⟨rfl, hwn⟩
  obtain rfl := hwn.symm
  clear cS en
  by_cases hpo : y.c0 < n
  · have HR1 : Hid (C = 10 ∧ X = kz) := by
      have e : C = 10 := by rw [HC.out, if_pos hpo]
      exact ⟨e, HCC.out (by rw [e]; decide)⟩
    go_wp2_with (go_at_call 45; refine (qI _).mono ?_; rintro e w1 ⟨rfl, hw1⟩; obtain rfl := hw1.symm)
    refine (l7Bad_c 10 _).mono ?_
    rintro e wz ⟨rfl, kz'⟩
    have Bc := Bc.trans (kz'.mono Bc.size)
    have R1 := HR.out.below Bc
    obtain ⟨r0, r1, r2, r3, r4, r5, r6, r7, y0, y1, y2, y3, y4, y5, y6, y7, rl⟩ := R1.z8
    have Fz : Blk _ w.heap.size (r8 10 wpz kz) 36 := set8_blk R1 (.int .i64 10) (.int .i64 0) (.int .i64 0) (.slice none 0 0) (.slice none 0 0) (.slice none 0 0) (.slice none 0 0) (.slice none 0 0)
    have BE := set8_below (B1.trans (Bc.mono hB)) (Nat.le_refl w.heap.size) (.int .i64 10) (.int .i64 0) (.int .i64 0) (.slice none 0 0) (.slice none 0 0) (.slice none 0 0) (.slice none 0 0) (.slice none 0 0)
    clear R1
    go_wp2_with fail
    rw [HR1.out.1, HR1.out.2]
    exact bodyPost_ret (v := .agg (r8 10 wpz kz)) (result8 Try.results23 Fz _ rfl) rfl ⟨wpz, rfl, OwW.z _ _, BE⟩
  have dpo : decide (y.c0 < n) = false := decide_eq_false hpo
  replace HC : Hid (C = if 1000000 < z.c0 + n then 7 else 0) := by show _ = _; rw [HC.out, if_neg hpo]
  by_cases hfu : 1000000 < z.c0 + n
  · have HR1 : Hid (C = 7 ∧ X = kz) := by
      have e : C = 7 := by rw [HC.out, if_pos hfu]
      exact ⟨e, HCC.out (by rw [e]; decide)⟩
    go_wp2_with (go_at_call 45; refine (qI _).mono ?_; rintro e w1 ⟨rfl, hw1⟩; obtain rfl := hw1.symm)
    refine (l7Bad_c 7 _).mono ?_
    rintro e wz ⟨rfl, kz'⟩
    have Bc := Bc.trans (kz'.mono Bc.size)
    have R1 := HR.out.below Bc
    obtain ⟨r0, r1, r2, r3, r4, r5, r6, r7, y0, y1, y2, y3, y4, y5, y6, y7, rl⟩ := R1.z8
    have Fz : Blk _ w.heap.size (r8 7 wpz kz) 36 := set8_blk R1 (.int .i64 7) (.int .i64 0) (.int .i64 0) (.slice none 0 0) (.slice none 0 0) (.slice none 0 0) (.slice none 0 0) (.slice none 0 0)
    have BE := set8_below (B1.trans (Bc.mono hB)) (Nat.le_refl w.heap.size) (.int .i64 7) (.int .i64 0) (.int .i64 0) (.slice none 0 0) (.slice none 0 0) (.slice none 0 0) (.slice none 0 0) (.slice none 0 0)
    clear R1
    go_wp2_with fail
    rw [HR1.out.1, HR1.out.2]
    exact bodyPost_ret (v := .agg (r8 7 wpz kz)) (result8 Try.results23 Fz _ rfl) rfl ⟨wpz, rfl, OwW.z _ _, BE⟩
  have dfu : decide (1000000 < z.c0 + n) = false := decide_eq_false hfu
  have HR1 : Hid (C = 0 ∧ X = ⟨t, s, us, fs, payA fa i j n, se, oo⟩) := by
    have e : C = 0 := by rw [HC.out, if_neg hfu]
    exact ⟨e, by rw [HX.out, e]; rfl⟩
  clear HC HX HCC
  go_wp2_with (go_at_call 45; refine (qI _).mono ?_; rintro e w1 ⟨rfl, hw1⟩; obtain rfl := hw1.symm)
  refine (cN _ Bc).mono ?_
  rintro e w6 ⟨p', rfl, O6, k6⟩
  have Bc := Bc.trans (k6.mono Bc.size)
  obtain ⟨pu', pcu, pf', pcf, pa', pca, ps', pcs, po', pco⟩ := p'
  obtain ⟨ga, hpa, hga, gal, _, _, _⟩ := O6.a.blk0 (show 0 < fa.length by rw [H4.out]; omega)
  dsimp only at hpa
  subst hpa
  have h6 := Bc.size
  obtain ⟨w7, Hw7⟩ : ∃ w7, Hid (w7 = w6.alloc (.cells (wv t s pu' us.length pcu pf' fs.length pcf (some ⟨ga, 0, none⟩) fa.length pca ps' se.length pcs po' oo.length pco) 32)) := ⟨_, rfl⟩
  have k7 : Below w6.heap.size w6 w7 := by rw [Hw7.out]; exact (Below.refl _ _).alloc (Nat.le_refl _) _
  have h7 := k7.size
  have Bc := Bc.trans (k7.mono h6)
  obtain ⟨gB, HgB⟩ : ∃ g, Hid (g = w6.heap.size) := ⟨_, rfl⟩
  have HWO : Hid (WO w7 w.heap.size gB ⟨pu', pcu, pf', pcf, some ⟨ga, 0, none⟩, pca, ps', pcs, po', pco⟩ ⟨t, s, us, fs, fa, se, oo⟩) := by
    show WO _ _ _ _ _
    rw [HgB.out]
    exact ⟨by rw [Hw7.out]; exact Blk.new w6 _ _, (O6.later k7).mono hB, by omega⟩
  have HF4 : Hid (fa.length = 4) := H4
  have HFx : Hid (fa[i.toNat]? = some y) := Hy
  have wr1 : IntKind.i64.wrap (y.c0 - n) = y.c0 - n := neg_wrap (by omega) (by omega)
  have wr2 : IntKind.i64.wrap (z.c0 + n) = z.c0 + n := neg_wrap (by omega) (by omega)
  go_upto_region 11 with fail
  rw [← Hw7.out, ← HgB.out]
  clear p0 p1 p2 p3 p4 p5 p6 pl y0 y1 y2 yl z0 z1 z2 zl O6 k6 gal hfu hpo qI
  obtain ⟨VV, HVV⟩ : ∃ V : List Value, Hid (V = [.pointer (some ⟨gB, 4, none⟩), .slice (some ⟨ga, 0, none⟩) 4 pca, .int .i64 i, .pointer (some ⟨gB, 4, none⟩), .slice (some ⟨ga, 0, none⟩) 4 pca, .int .i64 i, .pointer (some ⟨ga, i.toNat * 3, none⟩), .pointer (some ⟨ga, i.toNat * 3, none⟩), .int .i64 (y.c0), .int .i64 n, .int .i64 (y.c0 - n), .pointer (some ⟨ga, i.toNat * 3, none⟩), .pointer (some ⟨ga, i.toNat * 3, none⟩)]) := ⟨_, rfl⟩
  refine wp_region_slots (by kernel_rfl) 53 (fun d xs W => (∃ x53 x54 x55 x56 x57 x58 x59 x60 x61 x62 x63 x64 x65 : Value, xs = [x53, x54, x55, x56, x57, x58, x59, x60, x61, x62, x63, x64, x65] ∧ SlotsM [0, 1, 2, 3, 4, 5, 6, 7, 8, 9, 10, 11, 12] VV d xs) ∧ (WO W w.heap.size gB ⟨pu', pcu, pf', pcf, some ⟨ga, 0, none⟩, pca, ps', pcs, po', pco⟩ ⟨t, s, us, fs, SF fa i (y.c0 - n) (d 13), se, oo⟩ ∧ Below2 w7 ga W)) (by kernel_rfl) [_, _, _, _, _, _, _, _, _, _, _, _, _] rfl ?_ ?_ ?_
  · exact ⟨⟨_, _, _, _, _, _, _, _, _, _, _, _, _, rfl, SlotsM.start (by rw [HVV.out]; rfl)⟩, ⟨HWO.out.drew, Below2.refl⟩⟩
  · rintro d xs Wx i K hi hd hdep hcl ⟨⟨x53, x54, x55, x56, x57, x58, x59, x60, x61, x62, x63, x64, x65, rfl, J⟩, J2⟩ hK
    have hi' : i < 14 := hi
    have hdp : ∀ j, (depsOf _ i).contains j = true → d j = true := fun j hj => hdep j (by simpa using hj)
    clear hi hdep
    have h18 : i = 0 ∨ i = 1 ∨ i = 2 ∨ i = 3 ∨ i = 4 ∨ i = 5 ∨ i = 6 ∨ i = 7 ∨ i = 8 ∨ i = 9 ∨ i = 10 ∨ i = 11 ∨ i = 12 ∨ i = 13 := by omega
    rcases h18 with rfl | rfl | rfl | rfl | rfl | rfl | rfl | rfl | rfl | rfl | rfl | rfl | rfl | rfl
    · obtain ⟨J1, J3⟩ := J2
      refine wpOp_of rfl rfl ?_
      dsimp only [win, List.take_succ_cons, List.take_zero, List.drop_succ_cons, List.drop_zero, List.cons_append, List.nil_append, List.length_cons, List.length_nil, Nat.reduceAdd]
      go_simp
      exact hK [(.pointer (some ⟨gB, 4, none⟩)), (x54), (x55), (x56), (x57), (x58), (x59), (x60), (x61), (x62), (x63), (x64), (x65)] _ ⟨⟨_, _, _, _, _, _, _, _, _, _, _, _, _, rfl, J.set (v := .pointer (some ⟨gB, 4, none⟩)) 0 (i := 0) (by decide) rfl (by rw [HVV.out]; rfl)⟩, ⟨(by rw [show upd d 0 13 = d 13 from rfl]; exact J1), J3⟩⟩
    · obtain ⟨J1, J3⟩ := J2
      have g4 : Wx.cell? ⟨gB, 4, none⟩ = some (.slice (some ⟨ga, 0, none⟩) 4 pca) := by have this : Wx.cell? ⟨gB, 4, none⟩ = some (.slice (some ⟨ga, 0, none⟩) (SF fa i (y.c0 - n) (d 13)).length pca) := J1.b.cell (i := 4) rfl; rw [SF_len, HF4.out] at this; exact this
      obtain rfl : x53 = .pointer (some ⟨gB, 4, none⟩) := J.get 0 (i := 0) rfl (hdp 0 (by kernel_rfl)) (by rw [HVV.out]; rfl) rfl
      refine wpOp_of rfl rfl ?_
      dsimp only [win, List.take_succ_cons, List.take_zero, List.drop_succ_cons, List.drop_zero, List.cons_append, List.nil_append, List.length_cons, List.length_nil, Nat.reduceAdd]
      go_simp
      exact hK [(.pointer (some ⟨gB, 4, none⟩)), (.slice (some ⟨ga, 0, none⟩) 4 pca), (x55), (x56), (x57), (x58), (x59), (x60), (x61), (x62), (x63), (x64), (x65)] _ ⟨⟨_, _, _, _, _, _, _, _, _, _, _, _, _, rfl, J.set (v := .slice (some ⟨ga, 0, none⟩) 4 pca) 1 (i := 1) (by decide) rfl (by rw [HVV.out]; rfl)⟩, ⟨(by rw [show upd d 1 13 = d 13 from rfl]; exact J1), J3⟩⟩
    · obtain ⟨J1, J3⟩ := J2
      refine wpOp_of rfl rfl ?_
      dsimp only [win, List.take_succ_cons, List.take_zero, List.drop_succ_cons, List.drop_zero, List.cons_append, List.nil_append, List.length_cons, List.length_nil, Nat.reduceAdd]
      go_simp
      exact hK [(x53), (x54), (.int .i64 i), (x56), (x57), (x58), (x59), (x60), (x61), (x62), (x63), (x64), (x65)] _ ⟨⟨_, _, _, _, _, _, _, _, _, _, _, _, _, rfl, J.set (v := .int .i64 i) 2 (i := 2) (by decide) rfl (by rw [HVV.out]; rfl)⟩, ⟨(by rw [show upd d 2 13 = d 13 from rfl]; exact J1), J3⟩⟩
    · obtain ⟨J1, J3⟩ := J2
      refine wpOp_of rfl rfl ?_
      dsimp only [win, List.take_succ_cons, List.take_zero, List.drop_succ_cons, List.drop_zero, List.cons_append, List.nil_append, List.length_cons, List.length_nil, Nat.reduceAdd]
      go_simp
      exact hK [(x53), (x54), (x55), (.pointer (some ⟨gB, 4, none⟩)), (x57), (x58), (x59), (x60), (x61), (x62), (x63), (x64), (x65)] _ ⟨⟨_, _, _, _, _, _, _, _, _, _, _, _, _, rfl, J.set (v := .pointer (some ⟨gB, 4, none⟩)) 3 (i := 3) (by decide) rfl (by rw [HVV.out]; rfl)⟩, ⟨(by rw [show upd d 3 13 = d 13 from rfl]; exact J1), J3⟩⟩
    · obtain ⟨J1, J3⟩ := J2
      have g4 : Wx.cell? ⟨gB, 4, none⟩ = some (.slice (some ⟨ga, 0, none⟩) 4 pca) := by have this : Wx.cell? ⟨gB, 4, none⟩ = some (.slice (some ⟨ga, 0, none⟩) (SF fa i (y.c0 - n) (d 13)).length pca) := J1.b.cell (i := 4) rfl; rw [SF_len, HF4.out] at this; exact this
      obtain rfl : x56 = .pointer (some ⟨gB, 4, none⟩) := J.get 3 (i := 3) rfl (hdp 3 (by kernel_rfl)) (by rw [HVV.out]; rfl) rfl
      refine wpOp_of rfl rfl ?_
      dsimp only [win, List.take_succ_cons, List.take_zero, List.drop_succ_cons, List.drop_zero, List.cons_append, List.nil_append, List.length_cons, List.length_nil, Nat.reduceAdd]
      go_simp
      exact hK [(x53), (x54), (x55), (.pointer (some ⟨gB, 4, none⟩)), (.slice (some ⟨ga, 0, none⟩) 4 pca), (x58), (x59), (x60), (x61), (x62), (x63), (x64), (x65)] _ ⟨⟨_, _, _, _, _, _, _, _, _, _, _, _, _, rfl, J.set (v := .slice (some ⟨ga, 0, none⟩) 4 pca) 4 (i := 4) (by decide) rfl (by rw [HVV.out]; rfl)⟩, ⟨(by rw [show upd d 4 13 = d 13 from rfl]; exact J1), J3⟩⟩
    · obtain ⟨J1, J3⟩ := J2
      refine wpOp_of rfl rfl ?_
      dsimp only [win, List.take_succ_cons, List.take_zero, List.drop_succ_cons, List.drop_zero, List.cons_append, List.nil_append, List.length_cons, List.length_nil, Nat.reduceAdd]
      go_simp
      exact hK [(x53), (x54), (x55), (x56), (x57), (.int .i64 i), (x59), (x60), (x61), (x62), (x63), (x64), (x65)] _ ⟨⟨_, _, _, _, _, _, _, _, _, _, _, _, _, rfl, J.set (v := .int .i64 i) 5 (i := 5) (by decide) rfl (by rw [HVV.out]; rfl)⟩, ⟨(by rw [show upd d 5 13 = d 13 from rfl]; exact J1), J3⟩⟩
    · obtain ⟨J1, J3⟩ := J2
      obtain rfl : x57 = .slice (some ⟨ga, 0, none⟩) 4 pca := J.get 4 (i := 4) rfl (hdp 4 (by kernel_rfl)) (by rw [HVV.out]; rfl) rfl
      obtain rfl : x58 = .int .i64 i := J.get 5 (i := 5) rfl (hdp 5 (by kernel_rfl)) (by rw [HVV.out]; rfl) rfl
      refine wpOp_of rfl rfl ?_
      dsimp only [win, List.take_succ_cons, List.take_zero, List.drop_succ_cons, List.drop_zero, List.cons_append, List.nil_append, List.length_cons, List.length_nil, Nat.reduceAdd]
      go_simp
      exact hK [(x53), (x54), (x55), (x56), (.slice (some ⟨ga, 0, none⟩) 4 pca), (.int .i64 i), (.pointer (some ⟨ga, i.toNat * 3, none⟩)), (x60), (x61), (x62), (x63), (x64), (x65)] _ ⟨⟨_, _, _, _, _, _, _, _, _, _, _, _, _, rfl, J.set (v := .pointer (some ⟨ga, i.toNat * 3, none⟩)) 6 (i := 6) (by decide) rfl (by rw [HVV.out]; rfl)⟩, ⟨(by rw [show upd d 6 13 = d 13 from rfl]; exact J1), J3⟩⟩
    · obtain ⟨J1, J3⟩ := J2
      obtain rfl : x59 = .pointer (some ⟨ga, i.toNat * 3, none⟩) := J.get 6 (i := 6) rfl (hdp 6 (by kernel_rfl)) (by rw [HVV.out]; rfl) rfl
      refine wpOp_of rfl rfl ?_
      dsimp only [win, List.take_succ_cons, List.take_zero, List.drop_succ_cons, List.drop_zero, List.cons_append, List.nil_append, List.length_cons, List.length_nil, Nat.reduceAdd]
      go_simp
      exact hK [(x53), (x54), (x55), (x56), (x57), (x58), (.pointer (some ⟨ga, i.toNat * 3, none⟩)), (.pointer (some ⟨ga, i.toNat * 3, none⟩)), (x61), (x62), (x63), (x64), (x65)] _ ⟨⟨_, _, _, _, _, _, _, _, _, _, _, _, _, rfl, J.set (v := .pointer (some ⟨ga, i.toNat * 3, none⟩)) 7 (i := 7) (by decide) rfl (by rw [HVV.out]; rfl)⟩, ⟨(by rw [show upd d 7 13 = d 13 from rfl]; exact J1), J3⟩⟩
    · obtain ⟨J1, J3⟩ := J2
      have d13 : d 13 = false := hcl.no 14 hd (by kernel_rfl)
      rw [d13] at J1
      obtain ⟨gb, hgb, _, gbl, hatb, _, frz⟩ := J1.o.a.blk0 (show 0 < (SF fa i (y.c0 - n) false).length by rw [SF_len, HF4.out]; omega)
      injection hgb with hgb
      injection hgb with hgb
      subst hgb
      have cx := (hatb.one gbl HFx.out).1
      rw [Nat.zero_add] at cx
      clear hatb
      obtain rfl : x60 = .pointer (some ⟨ga, i.toNat * 3, none⟩) := J.get 7 (i := 7) rfl (hdp 7 (by kernel_rfl)) (by rw [HVV.out]; rfl) rfl
      refine wpOp_of rfl rfl ?_
      dsimp only [win, List.take_succ_cons, List.take_zero, List.drop_succ_cons, List.drop_zero, List.cons_append, List.nil_append, List.length_cons, List.length_nil, Nat.reduceAdd]
      go_simp
      exact hK [(x53), (x54), (x55), (x56), (x57), (x58), (x59), (.pointer (some ⟨ga, i.toNat * 3, none⟩)), (.int .i64 (y.c0)), (x62), (x63), (x64), (x65)] _ ⟨⟨_, _, _, _, _, _, _, _, _, _, _, _, _, rfl, J.set (v := .int .i64 (y.c0)) 8 (i := 8) (by decide) rfl (by rw [HVV.out]; rfl)⟩, ⟨(by rw [show upd d 8 13 = d 13 from rfl, d13]; exact J1), J3⟩⟩
    · obtain ⟨J1, J3⟩ := J2
      refine wpOp_of rfl rfl ?_
      dsimp only [win, List.take_succ_cons, List.take_zero, List.drop_succ_cons, List.drop_zero, List.cons_append, List.nil_append, List.length_cons, List.length_nil, Nat.reduceAdd]
      go_simp
      exact hK [(x53), (x54), (x55), (x56), (x57), (x58), (x59), (x60), (x61), (.int .i64 n), (x63), (x64), (x65)] _ ⟨⟨_, _, _, _, _, _, _, _, _, _, _, _, _, rfl, J.set (v := .int .i64 n) 9 (i := 9) (by decide) rfl (by rw [HVV.out]; rfl)⟩, ⟨(by rw [show upd d 9 13 = d 13 from rfl]; exact J1), J3⟩⟩
    · obtain ⟨J1, J3⟩ := J2
      obtain rfl : x61 = .int .i64 (y.c0) := J.get 8 (i := 8) rfl (hdp 8 (by kernel_rfl)) (by rw [HVV.out]; rfl) rfl
      obtain rfl : x62 = .int .i64 n := J.get 9 (i := 9) rfl (hdp 9 (by kernel_rfl)) (by rw [HVV.out]; rfl) rfl
      refine wpOp_of rfl rfl ?_
      dsimp only [win, List.take_succ_cons, List.take_zero, List.drop_succ_cons, List.drop_zero, List.cons_append, List.nil_append, List.length_cons, List.length_nil, Nat.reduceAdd]
      go_simp
      exact hK [(x53), (x54), (x55), (x56), (x57), (x58), (x59), (x60), (.int .i64 (y.c0)), (.int .i64 n), (.int .i64 (y.c0 - n)), (x64), (x65)] _ ⟨⟨_, _, _, _, _, _, _, _, _, _, _, _, _, rfl, J.set (v := .int .i64 (y.c0 - n)) 10 (i := 10) (by decide) rfl (by rw [HVV.out]; rfl)⟩, ⟨(by rw [show upd d 10 13 = d 13 from rfl]; exact J1), J3⟩⟩
    · obtain ⟨J1, J3⟩ := J2
      obtain rfl : x54 = .slice (some ⟨ga, 0, none⟩) 4 pca := J.get 1 (i := 1) rfl (hdp 1 (by kernel_rfl)) (by rw [HVV.out]; rfl) rfl
      obtain rfl : x55 = .int .i64 i := J.get 2 (i := 2) rfl (hdp 2 (by kernel_rfl)) (by rw [HVV.out]; rfl) rfl
      refine wpOp_of rfl rfl ?_
      dsimp only [win, List.take_succ_cons, List.take_zero, List.drop_succ_cons, List.drop_zero, List.cons_append, List.nil_append, List.length_cons, List.length_nil, Nat.reduceAdd]
      go_simp
      exact hK [(x53), (.slice (some ⟨ga, 0, none⟩) 4 pca), (.int .i64 i), (x56), (x57), (x58), (x59), (x60), (x61), (x62), (x63), (.pointer (some ⟨ga, i.toNat * 3, none⟩)), (x65)] _ ⟨⟨_, _, _, _, _, _, _, _, _, _, _, _, _, rfl, J.set (v := .pointer (some ⟨ga, i.toNat * 3, none⟩)) 11 (i := 11) (by decide) rfl (by rw [HVV.out]; rfl)⟩, ⟨(by rw [show upd d 11 13 = d 13 from rfl]; exact J1), J3⟩⟩
    · obtain ⟨J1, J3⟩ := J2
      obtain rfl : x64 = .pointer (some ⟨ga, i.toNat * 3, none⟩) := J.get 11 (i := 11) rfl (hdp 11 (by kernel_rfl)) (by rw [HVV.out]; rfl) rfl
      refine wpOp_of rfl rfl ?_
      dsimp only [win, List.take_succ_cons, List.take_zero, List.drop_succ_cons, List.drop_zero, List.cons_append, List.nil_append, List.length_cons, List.length_nil, Nat.reduceAdd]
      go_simp
      exact hK [(x53), (x54), (x55), (x56), (x57), (x58), (x59), (x60), (x61), (x62), (x63), (.pointer (some ⟨ga, i.toNat * 3, none⟩)), (.pointer (some ⟨ga, i.toNat * 3, none⟩))] _ ⟨⟨_, _, _, _, _, _, _, _, _, _, _, _, _, rfl, J.set (v := .pointer (some ⟨ga, i.toNat * 3, none⟩)) 12 (i := 12) (by decide) rfl (by rw [HVV.out]; rfl)⟩, ⟨(by rw [show upd d 12 13 = d 13 from rfl]; exact J1), J3⟩⟩
    · obtain ⟨J1, J3⟩ := J2
      rw [hd] at J1
      obtain ⟨gb, hgb, _, gbl, hatb, _, frz⟩ := J1.o.a.blk0 (show 0 < (SF fa i (y.c0 - n) false).length by rw [SF_len, HF4.out]; omega)
      injection hgb with hgb
      injection hgb with hgb
      subst hgb
      have cx := (hatb.one gbl HFx.out).1
      rw [Nat.zero_add] at cx
      have fz := frz (i.toNat * 3)
      have st := J1.setA (ga := ga) rfl (i.toNat * 3) (.int .i64 (y.c0 - n)) (SF fa i (y.c0 - n) true) (by show _ < (SF fa i (y.c0 - n) false).length * 3; rw [SF_len, HF4.out]; omega) (setP_flat HFx.out)
      clear hatb
      obtain rfl : x65 = .pointer (some ⟨ga, i.toNat * 3, none⟩) := J.get 12 (i := 12) rfl (hdp 12 (by kernel_rfl)) (by rw [HVV.out]; rfl) rfl
      obtain rfl : x63 = .int .i64 (y.c0 - n) := J.get 10 (i := 10) rfl (hdp 10 (by kernel_rfl)) (by rw [HVV.out]; rfl) rfl
      refine wpOp_of rfl rfl ?_
      dsimp only [win, List.take_succ_cons, List.take_zero, List.drop_succ_cons, List.drop_zero, List.cons_append, List.nil_append, List.length_cons, List.length_nil, Nat.reduceAdd]
      go_simp
      exact hK [(x53), (x54), (x55), (x56), (x57), (x58), (x59), (x60), (x61), (x62), (.int .i64 (y.c0 - n)), (x64), (.pointer (some ⟨ga, i.toNat * 3, none⟩))] _ ⟨⟨_, _, _, _, _, _, _, _, _, _, _, _, _, rfl, J.none 13 (by decide)⟩, ⟨st, J3.set _ _⟩⟩
  · rintro d xs Wx hall ⟨⟨x53, x54, x55, x56, x57, x58, x59, x60, x61, x62, x63, x64, x65, rfl, J⟩, J2⟩
    dsimp only [win, List.take_succ_cons, List.take_zero, List.drop_succ_cons, List.drop_zero, List.cons_append, List.nil_append, List.length_cons, List.length_nil, Nat.reduceAdd]
    obtain ⟨J1, J3⟩ := J2
    rw [hall 13 (by decide)] at J1
    clear J hall
    obtain ⟨w8, hw8⟩ : ∃ v, v = Wx := ⟨_, rfl⟩
    subst hw8
    clear HWO HFx HF4
    have HWO : Hid (WO w8 w.heap.size gB ⟨pu', pcu, pf', pcf, some ⟨ga, 0, none⟩, pca, ps', pcs, po', pco⟩ ⟨t, s, us, fs, setP fa i (y.c0 - n), se, oo⟩) := J1
    have HF4 : Hid ((setP fa i (y.c0 - n)).length = 4) := by show _ = _; rw [setP_len]; exact H4.out
    have HFx : Hid ((setP fa i (y.c0 - n))[j.toNat]? = some z) := setP_at i0 j0 Hij.out Hz.out
    have Bc := Bc.trans (J3.below (n := W.heap.size) (by omega) hga)
    have h8 := Bc.size
    have HX2 : Hid (payA fa i j n = setP (setP fa i (y.c0 - n)) j (z.c0 + n)) := by show _ = _; unfold payA; rw [pur_get Hy.out, pur_get Hz.out]
    generalize setP fa i (y.c0 - n) = fa1 at HWO HF4 HFx HX2
    clear J1 J3
    go_upto_region 12 with fail
    obtain ⟨VV, HVV⟩ : ∃ V : List Value, Hid (V = [.pointer (some ⟨gB, 4, none⟩), .slice (some ⟨ga, 0, none⟩) 4 pca, .int .i64 j, .pointer (some ⟨gB, 4, none⟩), .slice (some ⟨ga, 0, none⟩) 4 pca, .int .i64 j, .pointer (some ⟨ga, j.toNat * 3, none⟩), .pointer (some ⟨ga, j.toNat * 3, none⟩), .int .i64 (z.c0), .int .i64 n, .int .i64 (z.c0 + n), .pointer (some ⟨ga, j.toNat * 3, none⟩), .pointer (some ⟨ga, j.toNat * 3, none⟩)]) := ⟨_, rfl⟩
    refine wp_region_slots (by kernel_rfl) 66 (fun d xs W => (∃ x66 x67 x68 x69 x70 x71 x72 x73 x74 x75 x76 x77 x78 : Value, xs = [x66, x67, x68, x69, x70, x71, x72, x73, x74, x75, x76, x77, x78] ∧ SlotsM [0, 1, 2, 3, 4, 5, 6, 7, 8, 9, 10, 11, 12] VV d xs) ∧ (WO W w.heap.size gB ⟨pu', pcu, pf', pcf, some ⟨ga, 0, none⟩, pca, ps', pcs, po', pco⟩ ⟨t, s, us, fs, SF fa1 j (z.c0 + n) (d 13), se, oo⟩ ∧ Below2 w8 ga W)) (by kernel_rfl) [_, _, _, _, _, _, _, _, _, _, _, _, _] rfl ?_ ?_ ?_
    · exact ⟨⟨_, _, _, _, _, _, _, _, _, _, _, _, _, rfl, SlotsM.start (by rw [HVV.out]; rfl)⟩, ⟨HWO.out.drew, Below2.refl⟩⟩
    · rintro d xs Wx i K hi hd hdep hcl ⟨⟨x66, x67, x68, x69, x70, x71, x72, x73, x74, x75, x76, x77, x78, rfl, J⟩, J2⟩ hK
      have hi' : i < 14 := hi
      have hdp : ∀ j, (depsOf _ i).contains j = true → d j = true := fun j hj => hdep j (by simpa using hj)
      clear hi hdep
      have h18 : i = 0 ∨ i = 1 ∨ i = 2 ∨ i = 3 ∨ i = 4 ∨ i = 5 ∨ i = 6 ∨ i = 7 ∨ i = 8 ∨ i = 9 ∨ i = 10 ∨ i = 11 ∨ i = 12 ∨ i = 13 := by omega
      rcases h18 with rfl | rfl | rfl | rfl | rfl | rfl | rfl | rfl | rfl | rfl | rfl | rfl | rfl | rfl
      · obtain ⟨J1, J3⟩ := J2
        refine wpOp_of rfl rfl ?_
        dsimp only [win, List.take_succ_cons, List.take_zero, List.drop_succ_cons, List.drop_zero, List.cons_append, List.nil_append, List.length_cons, List.length_nil, Nat.reduceAdd]
        go_simp
        exact hK [(.pointer (some ⟨gB, 4, none⟩)), (x67), (x68), (x69), (x70), (x71), (x72), (x73), (x74), (x75), (x76), (x77), (x78)] _ ⟨⟨_, _, _, _, _, _, _, _, _, _, _, _, _, rfl, J.set (v := .pointer (some ⟨gB, 4, none⟩)) 0 (i := 0) (by decide) rfl (by rw [HVV.out]; rfl)⟩, ⟨(by rw [show upd d 0 13 = d 13 from rfl]; exact J1), J3⟩⟩
      · obtain ⟨J1, J3⟩ := J2
        have g4 : Wx.cell? ⟨gB, 4, none⟩ = some (.slice (some ⟨ga, 0, none⟩) 4 pca) := by have this : Wx.cell? ⟨gB, 4, none⟩ = some (.slice (some ⟨ga, 0, none⟩) (SF fa1 j (z.c0 + n) (d 13)).length pca) := J1.b.cell (i := 4) rfl; rw [SF_len, HF4.out] at this; exact this
        obtain rfl : x66 = .pointer (some ⟨gB, 4, none⟩) := J.get 0 (i := 0) rfl (hdp 0 (by kernel_rfl)) (by rw [HVV.out]; rfl) rfl
        refine wpOp_of rfl rfl ?_
        dsimp only [win, List.take_succ_cons, List.take_zero, List.drop_succ_cons, List.drop_zero, List.cons_append, List.nil_append, List.length_cons, List.length_nil, Nat.reduceAdd]
        go_simp
        exact hK [(.pointer (some ⟨gB, 4, none⟩)), (.slice (some ⟨ga, 0, none⟩) 4 pca), (x68), (x69), (x70), (x71), (x72), (x73), (x74), (x75), (x76), (x77), (x78)] _ ⟨⟨_, _, _, _, _, _, _, _, _, _, _, _, _, rfl, J.set (v := .slice (some ⟨ga, 0, none⟩) 4 pca) 1 (i := 1) (by decide) rfl (by rw [HVV.out]; rfl)⟩, ⟨(by rw [show upd d 1 13 = d 13 from rfl]; exact J1), J3⟩⟩
      · obtain ⟨J1, J3⟩ := J2
        refine wpOp_of rfl rfl ?_
        dsimp only [win, List.take_succ_cons, List.take_zero, List.drop_succ_cons, List.drop_zero, List.cons_append, List.nil_append, List.length_cons, List.length_nil, Nat.reduceAdd]
        go_simp
        exact hK [(x66), (x67), (.int .i64 j), (x69), (x70), (x71), (x72), (x73), (x74), (x75), (x76), (x77), (x78)] _ ⟨⟨_, _, _, _, _, _, _, _, _, _, _, _, _, rfl, J.set (v := .int .i64 j) 2 (i := 2) (by decide) rfl (by rw [HVV.out]; rfl)⟩, ⟨(by rw [show upd d 2 13 = d 13 from rfl]; exact J1), J3⟩⟩
      · obtain ⟨J1, J3⟩ := J2
        refine wpOp_of rfl rfl ?_
        dsimp only [win, List.take_succ_cons, List.take_zero, List.drop_succ_cons, List.drop_zero, List.cons_append, List.nil_append, List.length_cons, List.length_nil, Nat.reduceAdd]
        go_simp
        exact hK [(x66), (x67), (x68), (.pointer (some ⟨gB, 4, none⟩)), (x70), (x71), (x72), (x73), (x74), (x75), (x76), (x77), (x78)] _ ⟨⟨_, _, _, _, _, _, _, _, _, _, _, _, _, rfl, J.set (v := .pointer (some ⟨gB, 4, none⟩)) 3 (i := 3) (by decide) rfl (by rw [HVV.out]; rfl)⟩, ⟨(by rw [show upd d 3 13 = d 13 from rfl]; exact J1), J3⟩⟩
      · obtain ⟨J1, J3⟩ := J2
        have g4 : Wx.cell? ⟨gB, 4, none⟩ = some (.slice (some ⟨ga, 0, none⟩) 4 pca) := by have this : Wx.cell? ⟨gB, 4, none⟩ = some (.slice (some ⟨ga, 0, none⟩) (SF fa1 j (z.c0 + n) (d 13)).length pca) := J1.b.cell (i := 4) rfl; rw [SF_len, HF4.out] at this; exact this
        obtain rfl : x69 = .pointer (some ⟨gB, 4, none⟩) := J.get 3 (i := 3) rfl (hdp 3 (by kernel_rfl)) (by rw [HVV.out]; rfl) rfl
        refine wpOp_of rfl rfl ?_
        dsimp only [win, List.take_succ_cons, List.take_zero, List.drop_succ_cons, List.drop_zero, List.cons_append, List.nil_append, List.length_cons, List.length_nil, Nat.reduceAdd]
        go_simp
        exact hK [(x66), (x67), (x68), (.pointer (some ⟨gB, 4, none⟩)), (.slice (some ⟨ga, 0, none⟩) 4 pca), (x71), (x72), (x73), (x74), (x75), (x76), (x77), (x78)] _ ⟨⟨_, _, _, _, _, _, _, _, _, _, _, _, _, rfl, J.set (v := .slice (some ⟨ga, 0, none⟩) 4 pca) 4 (i := 4) (by decide) rfl (by rw [HVV.out]; rfl)⟩, ⟨(by rw [show upd d 4 13 = d 13 from rfl]; exact J1), J3⟩⟩
      · obtain ⟨J1, J3⟩ := J2
        refine wpOp_of rfl rfl ?_
        dsimp only [win, List.take_succ_cons, List.take_zero, List.drop_succ_cons, List.drop_zero, List.cons_append, List.nil_append, List.length_cons, List.length_nil, Nat.reduceAdd]
        go_simp
        exact hK [(x66), (x67), (x68), (x69), (x70), (.int .i64 j), (x72), (x73), (x74), (x75), (x76), (x77), (x78)] _ ⟨⟨_, _, _, _, _, _, _, _, _, _, _, _, _, rfl, J.set (v := .int .i64 j) 5 (i := 5) (by decide) rfl (by rw [HVV.out]; rfl)⟩, ⟨(by rw [show upd d 5 13 = d 13 from rfl]; exact J1), J3⟩⟩
      · obtain ⟨J1, J3⟩ := J2
        obtain rfl : x70 = .slice (some ⟨ga, 0, none⟩) 4 pca := J.get 4 (i := 4) rfl (hdp 4 (by kernel_rfl)) (by rw [HVV.out]; rfl) rfl
        obtain rfl : x71 = .int .i64 j := J.get 5 (i := 5) rfl (hdp 5 (by kernel_rfl)) (by rw [HVV.out]; rfl) rfl
        refine wpOp_of rfl rfl ?_
        dsimp only [win, List.take_succ_cons, List.take_zero, List.drop_succ_cons, List.drop_zero, List.cons_append, List.nil_append, List.length_cons, List.length_nil, Nat.reduceAdd]
        go_simp
        exact hK [(x66), (x67), (x68), (x69), (.slice (some ⟨ga, 0, none⟩) 4 pca), (.int .i64 j), (.pointer (some ⟨ga, j.toNat * 3, none⟩)), (x73), (x74), (x75), (x76), (x77), (x78)] _ ⟨⟨_, _, _, _, _, _, _, _, _, _, _, _, _, rfl, J.set (v := .pointer (some ⟨ga, j.toNat * 3, none⟩)) 6 (i := 6) (by decide) rfl (by rw [HVV.out]; rfl)⟩, ⟨(by rw [show upd d 6 13 = d 13 from rfl]; exact J1), J3⟩⟩
      · obtain ⟨J1, J3⟩ := J2
        obtain rfl : x72 = .pointer (some ⟨ga, j.toNat * 3, none⟩) := J.get 6 (i := 6) rfl (hdp 6 (by kernel_rfl)) (by rw [HVV.out]; rfl) rfl
        refine wpOp_of rfl rfl ?_
        dsimp only [win, List.take_succ_cons, List.take_zero, List.drop_succ_cons, List.drop_zero, List.cons_append, List.nil_append, List.length_cons, List.length_nil, Nat.reduceAdd]
        go_simp
        exact hK [(x66), (x67), (x68), (x69), (x70), (x71), (.pointer (some ⟨ga, j.toNat * 3, none⟩)), (.pointer (some ⟨ga, j.toNat * 3, none⟩)), (x74), (x75), (x76), (x77), (x78)] _ ⟨⟨_, _, _, _, _, _, _, _, _, _, _, _, _, rfl, J.set (v := .pointer (some ⟨ga, j.toNat * 3, none⟩)) 7 (i := 7) (by decide) rfl (by rw [HVV.out]; rfl)⟩, ⟨(by rw [show upd d 7 13 = d 13 from rfl]; exact J1), J3⟩⟩
      · obtain ⟨J1, J3⟩ := J2
        have d13 : d 13 = false := hcl.no 14 hd (by kernel_rfl)
        rw [d13] at J1
        obtain ⟨gb, hgb, _, gbl, hatb, _, frz⟩ := J1.o.a.blk0 (show 0 < (SF fa1 j (z.c0 + n) false).length by rw [SF_len, HF4.out]; omega)
        injection hgb with hgb
        injection hgb with hgb
        subst hgb
        have cx := (hatb.one gbl HFx.out).1
        rw [Nat.zero_add] at cx
        clear hatb
        obtain rfl : x73 = .pointer (some ⟨ga, j.toNat * 3, none⟩) := J.get 7 (i := 7) rfl (hdp 7 (by kernel_rfl)) (by rw [HVV.out]; rfl) rfl
        refine wpOp_of rfl rfl ?_
        dsimp only [win, List.take_succ_cons, List.take_zero, List.drop_succ_cons, List.drop_zero, List.cons_append, List.nil_append, List.length_cons, List.length_nil, Nat.reduceAdd]
        go_simp
        exact hK [(x66), (x67), (x68), (x69), (x70), (x71), (x72), (.pointer (some ⟨ga, j.toNat * 3, none⟩)), (.int .i64 (z.c0)), (x75), (x76), (x77), (x78)] _ ⟨⟨_, _, _, _, _, _, _, _, _, _, _, _, _, rfl, J.set (v := .int .i64 (z.c0)) 8 (i := 8) (by decide) rfl (by rw [HVV.out]; rfl)⟩, ⟨(by rw [show upd d 8 13 = d 13 from rfl, d13]; exact J1), J3⟩⟩
      · obtain ⟨J1, J3⟩ := J2
        refine wpOp_of rfl rfl ?_
        dsimp only [win, List.take_succ_cons, List.take_zero, List.drop_succ_cons, List.drop_zero, List.cons_append, List.nil_append, List.length_cons, List.length_nil, Nat.reduceAdd]
        go_simp
        exact hK [(x66), (x67), (x68), (x69), (x70), (x71), (x72), (x73), (x74), (.int .i64 n), (x76), (x77), (x78)] _ ⟨⟨_, _, _, _, _, _, _, _, _, _, _, _, _, rfl, J.set (v := .int .i64 n) 9 (i := 9) (by decide) rfl (by rw [HVV.out]; rfl)⟩, ⟨(by rw [show upd d 9 13 = d 13 from rfl]; exact J1), J3⟩⟩
      · obtain ⟨J1, J3⟩ := J2
        obtain rfl : x74 = .int .i64 (z.c0) := J.get 8 (i := 8) rfl (hdp 8 (by kernel_rfl)) (by rw [HVV.out]; rfl) rfl
        obtain rfl : x75 = .int .i64 n := J.get 9 (i := 9) rfl (hdp 9 (by kernel_rfl)) (by rw [HVV.out]; rfl) rfl
        refine wpOp_of rfl rfl ?_
        dsimp only [win, List.take_succ_cons, List.take_zero, List.drop_succ_cons, List.drop_zero, List.cons_append, List.nil_append, List.length_cons, List.length_nil, Nat.reduceAdd]
        go_simp
        exact hK [(x66), (x67), (x68), (x69), (x70), (x71), (x72), (x73), (.int .i64 (z.c0)), (.int .i64 n), (.int .i64 (z.c0 + n)), (x77), (x78)] _ ⟨⟨_, _, _, _, _, _, _, _, _, _, _, _, _, rfl, J.set (v := .int .i64 (z.c0 + n)) 10 (i := 10) (by decide) rfl (by rw [HVV.out]; rfl)⟩, ⟨(by rw [show upd d 10 13 = d 13 from rfl]; exact J1), J3⟩⟩
      · obtain ⟨J1, J3⟩ := J2
        obtain rfl : x67 = .slice (some ⟨ga, 0, none⟩) 4 pca := J.get 1 (i := 1) rfl (hdp 1 (by kernel_rfl)) (by rw [HVV.out]; rfl) rfl
        obtain rfl : x68 = .int .i64 j := J.get 2 (i := 2) rfl (hdp 2 (by kernel_rfl)) (by rw [HVV.out]; rfl) rfl
        refine wpOp_of rfl rfl ?_
        dsimp only [win, List.take_succ_cons, List.take_zero, List.drop_succ_cons, List.drop_zero, List.cons_append, List.nil_append, List.length_cons, List.length_nil, Nat.reduceAdd]
        go_simp
        exact hK [(x66), (.slice (some ⟨ga, 0, none⟩) 4 pca), (.int .i64 j), (x69), (x70), (x71), (x72), (x73), (x74), (x75), (x76), (.pointer (some ⟨ga, j.toNat * 3, none⟩)), (x78)] _ ⟨⟨_, _, _, _, _, _, _, _, _, _, _, _, _, rfl, J.set (v := .pointer (some ⟨ga, j.toNat * 3, none⟩)) 11 (i := 11) (by decide) rfl (by rw [HVV.out]; rfl)⟩, ⟨(by rw [show upd d 11 13 = d 13 from rfl]; exact J1), J3⟩⟩
      · obtain ⟨J1, J3⟩ := J2
        obtain rfl : x77 = .pointer (some ⟨ga, j.toNat * 3, none⟩) := J.get 11 (i := 11) rfl (hdp 11 (by kernel_rfl)) (by rw [HVV.out]; rfl) rfl
        refine wpOp_of rfl rfl ?_
        dsimp only [win, List.take_succ_cons, List.take_zero, List.drop_succ_cons, List.drop_zero, List.cons_append, List.nil_append, List.length_cons, List.length_nil, Nat.reduceAdd]
        go_simp
        exact hK [(x66), (x67), (x68), (x69), (x70), (x71), (x72), (x73), (x74), (x75), (x76), (.pointer (some ⟨ga, j.toNat * 3, none⟩)), (.pointer (some ⟨ga, j.toNat * 3, none⟩))] _ ⟨⟨_, _, _, _, _, _, _, _, _, _, _, _, _, rfl, J.set (v := .pointer (some ⟨ga, j.toNat * 3, none⟩)) 12 (i := 12) (by decide) rfl (by rw [HVV.out]; rfl)⟩, ⟨(by rw [show upd d 12 13 = d 13 from rfl]; exact J1), J3⟩⟩
      · obtain ⟨J1, J3⟩ := J2
        rw [hd] at J1
        obtain ⟨gb, hgb, _, gbl, hatb, _, frz⟩ := J1.o.a.blk0 (show 0 < (SF fa1 j (z.c0 + n) false).length by rw [SF_len, HF4.out]; omega)
        injection hgb with hgb
        injection hgb with hgb
        subst hgb
        have cx := (hatb.one gbl HFx.out).1
        rw [Nat.zero_add] at cx
        have fz := frz (j.toNat * 3)
        have st := J1.setA (ga := ga) rfl (j.toNat * 3) (.int .i64 (z.c0 + n)) (SF fa1 j (z.c0 + n) true) (by show _ < (SF fa1 j (z.c0 + n) false).length * 3; rw [SF_len, HF4.out]; omega) (setP_flat HFx.out)
        clear hatb
        obtain rfl : x78 = .pointer (some ⟨ga, j.toNat * 3, none⟩) := J.get 12 (i := 12) rfl (hdp 12 (by kernel_rfl)) (by rw [HVV.out]; rfl) rfl
        obtain rfl : x76 = .int .i64 (z.c0 + n) := J.get 10 (i := 10) rfl (hdp 10 (by kernel_rfl)) (by rw [HVV.out]; rfl) rfl
        refine wpOp_of rfl rfl ?_
        dsimp only [win, List.take_succ_cons, List.take_zero, List.drop_succ_cons, List.drop_zero, List.cons_append, List.nil_append, List.length_cons, List.length_nil, Nat.reduceAdd]
        go_simp
        exact hK [(x66), (x67), (x68), (x69), (x70), (x71), (x72), (x73), (x74), (x75), (.int .i64 (z.c0 + n)), (x77), (.pointer (some ⟨ga, j.toNat * 3, none⟩))] _ ⟨⟨_, _, _, _, _, _, _, _, _, _, _, _, _, rfl, J.none 13 (by decide)⟩, ⟨st, J3.set _ _⟩⟩
    · rintro d xs Wx hall ⟨⟨x66, x67, x68, x69, x70, x71, x72, x73, x74, x75, x76, x77, x78, rfl, J⟩, J2⟩
      dsimp only [win, List.take_succ_cons, List.take_zero, List.drop_succ_cons, List.drop_zero, List.cons_append, List.nil_append, List.length_cons, List.length_nil, Nat.reduceAdd]
      obtain ⟨J1, J3⟩ := J2
      rw [hall 13 (by decide)] at J1
      clear J hall
      have Bc := Bc.trans (J3.below (n := W.heap.size) h8 hga)
      have HR2 : Hid (C = 0 ∧ X = ⟨t, s, us, fs, SF fa1 j (z.c0 + n) true, se, oo⟩) := ⟨HR1.out.1, by rw [HR1.out.2, HX2.out]; rfl⟩
      generalize SF fa1 j (z.c0 + n) true = fb at J1 HR2
      have R1 := HR.out.below Bc
      obtain ⟨r0, r1, r2, r3, r4, r5, r6, r7, e0, e1, e2, e3, e4, e5, e6, e7, rl⟩ := R1.z8
      obtain ⟨q0, q1, q2, q3, q4, q5, q6, ql⟩ : C7 Wx gB t s (.slice pu' us.length pcu) (.slice pf' fs.length pcf) (.slice (some ⟨ga, 0, none⟩) fb.length pca) (.slice ps' se.length pcs) (.slice po' oo.length pco) := J1.b.c7
      have Fz := set8_blk R1 (.int .i64 0) (.int .i64 t) (.int .i64 s) (.slice pu' us.length pcu) (.slice pf' fs.length pcf) (.slice (some ⟨ga, 0, none⟩) fb.length pca) (.slice ps' se.length pcs) (.slice po' oo.length pco)
      have Fo := J1.o.of_block R1 (by decide) (by decide) (by decide) (by decide) (by decide) (set8_other (W := Wx) (g := w.heap.size) (.int .i64 0) (.int .i64 t) (.int .i64 s) (.slice pu' us.length pcu) (.slice pf' fs.length pcf) (.slice (some ⟨ga, 0, none⟩) fb.length pca) (.slice ps' se.length pcs) (.slice po' oo.length pco))
      have BE := set8_below (B1.trans (Bc.mono hB)) (Nat.le_refl w.heap.size) (.int .i64 0) (.int .i64 t) (.int .i64 s) (.slice pu' us.length pcu) (.slice pf' fs.length pcf) (.slice (some ⟨ga, 0, none⟩) fb.length pca) (.slice ps' se.length pcs) (.slice po' oo.length pco)
      clear R1 J1 J3 HWO HFx HF4
      go_wp2_with fail
      rw [HR2.out.1, HR2.out.2]
      exact bodyPost_ret (v := .agg (r8 0 ⟨pu', pcu, pf', pcf, some ⟨ga, 0, none⟩, pca, ps', pcs, po', pco⟩ ⟨t, s, us, fs, fb, se, oo⟩)) (result8 Try.results23 Fz _ rfl) rfl ⟨_, rfl, Fo, BE⟩
end Go.Proofs.Ytaeeahgibifkjaa
end
