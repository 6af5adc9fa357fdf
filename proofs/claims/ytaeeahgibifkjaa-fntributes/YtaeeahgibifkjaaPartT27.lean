/- Texts of mine put together (a claim holds at most 60 files): PayImpl2. -/
import Derived.Test.YtaeeahgibifkjaaPartT25
import Derived.Test.YtaeeahgibifkjaaPartT26
import Derived.Test.YtaeeahgibifkjaaPartT21
import Derived.Deep.CutRange
import Derived.Deep.RegionHeld3

/- PayImpl2 -/
/- The contract of PayTribute. Condition: the world's lists lie in memory as they were laid there. -/
section
namespace Go.Proofs.Ytaeeahgibifkjaa
open Go.ChangeShapes Go.WideShapes Go.ChangeAt Go.RowKit
open Bd
set_option linter.unusedVariables false

theorem pur_get {fa : List KA} {i : Int} {y : KA} (h : fa[i.toNat]? = some y) : purA fa i = y.c0 := by unfold purA; rw [getD_z, h]
theorem setP_flat {fa : List KA} {i v : Int} {y : KA} (h : fa[i.toNat]? = some y) : (flatA fa).set (i.toNat * 3) (.int .i64 v) = flatA (setP fa i v) := by
  rw [flatA_set0 fa i.toNat y v h]
  unfold setP
  rw [getD_z, h]
theorem setP_at {fa : List KA} {i j v : Int} {y : KA} (hi : 0 ≤ i) (hj : 0 ≤ j) (hne : i ≠ j) (h : fa[j.toNat]? = some y) : (setP fa i v)[j.toNat]? = some y := by
  unfold setP
  rw [List.getElem?_set, if_neg (by omega), h]
/- a store into a faction of a state -/
theorem WS.setA {w : World} {base g ga : Nat} {p : WP} {x : KW} (h : WS w base g p x) (hp : p.a = some ⟨ga, 0, none⟩) (i : Nat) (v : Value) (fa' : List KA) (hi : i < x.fa.length * 3) (hc : (flatA x.fa).set i v = flatA fa') : WS (w.setCell ⟨ga, i, none⟩ v) base g p ⟨x.t, x.s, x.us, x.fs, fa', x.se, x.oo⟩ := by
  have hl : fa'.length = x.fa.length := by
    have h1 := congrArg List.length hc
    rw [List.length_set, flatA_len, flatA_len] at h1
    omega
  have hA := h.o.a
  rw [hp] at hA
  obtain ⟨csA, hbA⟩ := hA.blk (q := ga) rfl
  have hne : g ≠ ga := bk_ne h.b hbA (by decide)
  refine ⟨?_, ⟨h.o.u.setB hbA (by decide) v, h.o.f.setB hbA (by decide) v, ?_, h.o.s.setB hbA (by decide) v, h.o.o.setB hbA (by decide) v⟩, h.bg⟩
  · have := h.b.setOther (a := ⟨ga, i, none⟩) hne v
    show Blk _ g #[.slice p.u x.us.length p.uc, .slice p.f x.fs.length p.fc, .int .i64 x.t, .int .i64 x.s, .slice p.a fa'.length p.ac, .slice p.s x.se.length p.sc, .slice p.o x.oo.length p.oc] _
    rw [hl]
    exact this
  · show SlA _ _ (.slice p.a fa'.length p.ac) fa'
    rw [hl, hp]
    exact hA.setCell i v hi hc
theorem WS.drew {w : World} {base g : Nat} {p : WP} {x : KW} (h : WS w base g p x) : WS w.drew base g p x := h.later (Below.refl _ _).drew
/- factions behind the one store, the other, both -/
def FF (fa : List KA) (i j v1 v2 : Int) : Bool → Bool → List KA
  | false, false => fa
  | true, false => setP fa i v1
  | false, true => setP fa j v2
  | true, true => setP (setP fa i v1) j v2
theorem FF_len {fa : List KA} {i j v1 v2 : Int} (b1 b2 : Bool) : (FF fa i j v1 v2 b1 b2).length = fa.length := by cases b1 <;> cases b2 <;> simp [FF, setP_len]
theorem FF_step16 {fa : List KA} {i j v1 v2 : Int} (d : Nat → Bool) (hij : i ≠ j) (hi : 0 ≤ i) (hj : 0 ≤ j) (hd : d 16 = false) : setP (FF fa i j v1 v2 (d 16) (d 19)) i v1 = FF fa i j v1 v2 (upd d 16 16) (upd d 16 19) := by
  rw [show upd d 16 16 = true from rfl, show upd d 16 19 = d 19 from rfl, hd]
  cases d 19
  · rfl
  · exact setP_comm hj hi (fun h => hij h.symm)
theorem FF_step19 {fa : List KA} {i j v1 v2 : Int} (d : Nat → Bool) (hij : i ≠ j) (hi : 0 ≤ i) (hj : 0 ≤ j) (hd : d 19 = false) : setP (FF fa i j v1 v2 (d 16) (d 19)) j v2 = FF fa i j v1 v2 (upd d 19 16) (upd d 19 19) := by
  rw [show upd d 19 16 = d 16 from rfl, show upd d 19 19 = true from rfl, hd]
  cases d 16 <;> rfl
/- what was there is as it was, but for one block -/
structure Below2 (w : World) (g : Nat) (W : World) : Prop where
  os : W.os = w.os
  tape : W.tape = w.tape
  output : W.output = w.output
  size : w.heap.size ≤ W.heap.size
  block : ∀ k, k < w.heap.size → k ≠ g → W.heap[k]? = w.heap[k]?
theorem Below2.refl {w : World} {g : Nat} : Below2 w g w.drew := ⟨rfl, rfl, rfl, Nat.le_refl _, fun _ _ _ => rfl⟩
theorem Below2.set {w W : World} {g : Nat} (h : Below2 w g W) (i : Nat) (v : Value) : Below2 w g (W.setCell ⟨g, i, none⟩ v) := ⟨h.os, h.tape, h.output, by simpa [World.setCell] using h.size, fun k hk hne => (Below.heap_setCell _ _ _ _ hne).trans (h.block k hk hne)⟩
theorem Below2.blk {w W : World} {g b : Nat} {cs : Array Value} {t : TypeId} (h : Below2 w g W) (hb : Blk w b cs t) (hne : b ≠ g) : Blk W b cs t := by
  unfold Blk; rw [h.block b hb.lt hne]; exact hb
theorem Below2.below {w W : World} {g n : Nat} (h : Below2 w g W) (hn : n ≤ w.heap.size) (hg : n ≤ g) : Below n w W := ⟨h.os, h.tape, h.output, h.size, fun k hk => h.block k (by omega) (by omega)⟩
theorem Gd8 {us : List K10} {fs : List K3} (h : bf us fs = 0) : us.length ≤ 8 ∧ fs.length ≤ 4 := ⟨(bf_ok h).1, (bf_ok h).2.1⟩
set_option maxRecDepth 20000 in
set_option maxHeartbeats 16000000 in
theorem implPayTribute (p : WP) (x : KW) (w : World) (h : InW w p x) (i j n : Int) :
    Calls Try.prog 6 #[.agg (p.v x), .int .i64 i, .int .i64 j, .int .i64 n] w fun e w' => ∃ q, e = .returned (.agg (r8 (payC hasI x i j n) q (payX hasI x i j n))) ∧ OwW w' w.heap.size q (payX hasI x i j n) ∧ Below w.heap.size w w' := by
  obtain ⟨t, s, us, fs, fa, se, oo⟩ := x
  obtain ⟨u, uc, f, fc, a, ac, q, qc, r, rc⟩ := p
  obtain ⟨W, HW⟩ : ∃ W, Hid (W = (w.alloc (.cells (wv t s u us.length uc f fs.length fc a fa.length ac q se.length qc r oo.length rc) 32)).alloc (.cells z8 36)) := ⟨_, rfl⟩
  have B1 : Below w.heap.size w W := by rw [HW.out]; exact ((Below.refl _ _).alloc (Nat.le_refl _) _).alloc (by rw [size_new]; omega) _
  have P : Bk W w.heap.size (wv t s u us.length uc f fs.length fc a fa.length ac q se.length qc r oo.length rc) 32 := by rw [HW.out]; exact (Bk.new w (wv t s u us.length uc f fs.length fc a fa.length ac q se.length qc r oo.length rc) 32).alloc _
  have R : Blk W (w.heap.size + 1) z8 36 := by rw [HW.out]; have h := Blk.new (w.alloc (.cells (wv t s u us.length uc f fs.length fc a fa.length ac q se.length qc r oo.length rc) 32)) z8 36; rw [size_new] at h; exact h
  have HN : Hid (InW W ⟨u, uc, f, fc, a, ac, q, qc, r, rc⟩ ⟨t, s, us, fs, fa, se, oo⟩) := h.later B1
  have HR : Hid (Blk W (w.heap.size + 1) z8 36) := R
  have hB := B1.size
  have cP := fun W' (h : Below W.heap.size W W') => implPairFault ⟨u, uc, f, fc, a, ac, q, qc, r, rc⟩ ⟨t, s, us, fs, fa, se, oo⟩ HN.out.o1 HN.out.o2 W' (HN.out.later h).arg i j
  show Calls Try.prog 6 #[.agg (wv t s u us.length uc f fs.length fc a fa.length ac q se.length qc r oo.length rc), .int .i64 i, .int .i64 j, .int .i64 n] w _
  replace cP : ∀ W', Below W.heap.size W W' → Calls Try.prog 16 #[.agg (wv t s u us.length uc f fs.length fc a fa.length ac q se.length qc r oo.length rc), .int .i64 i, .int .i64 j] W' fun e w' => e = .returned (.int .i64 (prF hasI ⟨t, s, us, fs, fa, se, oo⟩ i j)) ∧ Below W'.heap.size W' w' := cP
  have cN := fun (e : GdW hasI ⟨t, s, us, fs, fa, se, oo⟩) W' (h : Below W.heap.size W W') => newWorldState_c ⟨u, uc, f, fc, a, ac, q, qc, r, rc⟩ ⟨t, s, us, fs, fa, se, oo⟩ (Gd8 e.b).1 (Gd8 e.b).2 (Nat.le_of_eq e.a4) e.s6 e.o6 W' (HN.out.later h)
  replace cN : GdW hasI ⟨t, s, us, fs, fa, se, oo⟩ → ∀ W', Below W.heap.size W W' → Calls Try.prog 18 #[.agg (wv t s u us.length uc f fs.length fc a fa.length ac q se.length qc r oo.length rc)] W' fun e w' => ∃ g p', e = .returned (.pointer (some ⟨g, 0, none⟩)) ∧ WS w' W'.heap.size g p' ⟨t, s, us, fs, fa, se, oo⟩ ∧ Below W'.heap.size W' w' := cN
  have HC : Hid (payC hasI ⟨t, s, us, fs, fa, se, oo⟩ i j n = if (prF hasI ⟨t, s, us, fs, fa, se, oo⟩ i j == 0) = false then prF hasI ⟨t, s, us, fs, fa, se, oo⟩ i j else if inb n 1 1000000 = false then 3 else if purA fa i < n then 10 else if 1000000 < purA fa j + n then 7 else 0) := rfl
  have HX : Hid (payX hasI ⟨t, s, us, fs, fa, se, oo⟩ i j n = if (payC hasI ⟨t, s, us, fs, fa, se, oo⟩ i j n == 0) = true then ⟨t, s, us, fs, payA fa i j n, se, oo⟩ else kz) := rfl
  have HP : Hid (prF hasI ⟨t, s, us, fs, fa, se, oo⟩ i j = 0 → wf hasI ⟨t, s, us, fs, fa, se, oo⟩ = 0 ∧ sdF fa i j = 0) := fun e => prF_zero.1 e
  have HG : Hid (wf hasI ⟨t, s, us, fs, fa, se, oo⟩ = 0 → GdW hasI ⟨t, s, us, fs, fa, se, oo⟩) := (gdW_iff hasI _).1
  generalize payC hasI ⟨t, s, us, fs, fa, se, oo⟩ i j n = C at HC HX ⊢
  generalize payX hasI ⟨t, s, us, fs, fa, se, oo⟩ i j n = X at HX ⊢
  generalize prF hasI ⟨t, s, us, fs, fa, se, oo⟩ i j = F at cP HC HP
  obtain ⟨mu, Hmu⟩ : ∃ m, Hid (us.length = m) := ⟨_, rfl⟩
  obtain ⟨mf, Hmf⟩ : ∃ m, Hid (fs.length = m) := ⟨_, rfl⟩
  obtain ⟨ma, Hma⟩ : ∃ m, Hid (fa.length = m) := ⟨_, rfl⟩
  obtain ⟨ms, Hms⟩ : ∃ m, Hid (se.length = m) := ⟨_, rfl⟩
  obtain ⟨mo, Hmo⟩ : ∃ m, Hid (oo.length = m) := ⟨_, rfl⟩
  rw [Hmu.out, Hmf.out, Hma.out, Hms.out, Hmo.out] at P HW cP cN ⊢
  clear h R
  have keep : ∀ w', Below W.heap.size W w' → w'.cell? ⟨w.heap.size, 0, none⟩ = some (.int .i64 t) ∧ w'.cell? ⟨w.heap.size, 1, none⟩ = some (.int .i64 s) ∧ w'.cell? ⟨w.heap.size, 2, none⟩ = some (.slice u mu uc) ∧ w'.cell? ⟨w.heap.size, 3, none⟩ = some (.slice f mf fc) ∧ w'.cell? ⟨w.heap.size, 4, none⟩ = some (.slice a ma ac) ∧ w'.cell? ⟨w.heap.size, 5, none⟩ = some (.slice q ms qc) ∧ w'.cell? ⟨w.heap.size, 6, none⟩ = some (.slice r mo rc) ∧ w.heap.size < w'.heap.size := fun w' hb => by
    have q := P.below hb
    exact ⟨q.cell rfl, q.cell rfl, q.cell rfl, q.cell rfl, q.cell rfl, q.cell rfl, q.cell rfl, q.lt⟩
  have Bc : Below W.heap.size W W := Below.refl _ _
  have HCC : Hid (C ≠ 0 → X = kz) := fun e => by rw [HX.out, if_neg (by simpa using e)]
  obtain ⟨p0, p1, p2, p3, p4, p5, p6, pl⟩ := keep _ Bc
  cases e2 : F == 0
  · have n7 : (F != 0) = true := by simp only [bne, e2]; rfl
    have HR1 : Hid (C = F ∧ X = kz) := by
      have e : C = F := by rw [HC.out, e2]; rfl
      exact ⟨e, HCC.out (by rw [e]; simpa using e2)⟩
    clear HC HX HP HG cN e2
    go_enter Try.func6, Try.ntmps6
    go_upto_region 1 with fail
    rw [← HW.out]
    go_wp2_with fail
    refine (cP _ Bc).mono ?_
    rintro e wn ⟨rfl, kn⟩
    have Bc := Bc.trans (kn.mono Bc.size)
    clear p0 p1 p2 p3 p4 p5 p6 pl
    have R1 := HR.out.below Bc
    obtain ⟨r0, r1, r2, r3, r4, r5, r6, r7, y0, y1, y2, y3, y4, y5, y6, y7, rl⟩ := R1.z8
    have Fz : Blk _ (w.heap.size + 1) (r8 F wpz kz) 36 := set8_blk R1 (.int .i64 F) (.int .i64 0) (.int .i64 0) (.slice none 0 0) (.slice none 0 0) (.slice none 0 0) (.slice none 0 0) (.slice none 0 0)
    have BE := set8_below (B1.trans (Bc.mono hB)) (show w.heap.size ≤ w.heap.size + 1 by omega) (.int .i64 F) (.int .i64 0) (.int .i64 0) (.slice none 0 0) (.slice none 0 0) (.slice none 0 0) (.slice none 0 0) (.slice none 0 0)
    clear R1
    go_wp2_with fail
    rw [HR1.out.1, HR1.out.2]
    exact bodyPost_ret (v := .agg (r8 F wpz kz)) (result8 Try.results6 Fz _ rfl) rfl ⟨wpz, rfl, OwW.z _ _, BE⟩
  obtain rfl : F = 0 := by simpa using e2
  replace HC : Hid (C = if inb n 1 1000000 = false then 3 else if purA fa i < n then 10 else if 1000000 < purA fa j + n then 7 else 0) := HC
  obtain ⟨w0, s0⟩ := HP.out rfl
  have G := HG.out w0
  have cN := cN G
  obtain ⟨ia, ja, hij, gi, gj⟩ := sdF_zero.1 s0
  obtain ⟨i0, i3⟩ := inb_i ia
  obtain ⟨j0, j3⟩ := inb_i ja
  have h4 : ma = 4 := by rw [← Hma.out]; exact G.a4
  subst h4
  have Hp : Hid (∀ f ∈ fa, inb f.c0 0 1000000 = true) := purse_in G
  obtain ⟨y, hy, _, _⟩ := side_at Hma.out i0 i3
  obtain ⟨z, hz, _, _⟩ := side_at Hma.out j0 j3
  have Hy : Hid (fa[i.toNat]? = some y) := hy
  have Hz : Hid (fa[j.toNat]? = some z) := hz
  rw [pur_get hy, pur_get hz] at HC
  have yb := inb_i (Hp.out y (List.mem_of_getElem? hy))
  have zb := inb_i (Hp.out z (List.mem_of_getElem? hz))
  obtain ⟨yb0, yb1⟩ := yb
  obtain ⟨zb0, zb1⟩ := zb
  have keepY : ∀ w', Below W.heap.size W w' → ∃ b o, a = some ⟨b, o, none⟩ ∧ A1 w' b (o + i.toNat * 3) y ∧ A1 w' b (o + j.toNat * 3) z := fun w' hb => by
    obtain ⟨b, o, hpa, hbl, hat⟩ := (HN.out.later hb).arg.a.atP Hy.out
    exact ⟨b, o, hpa, hat.one hbl Hy.out, hat.one hbl Hz.out⟩
  have i4 : i < 4 := by omega
  have j4 : j < 4 := by omega
  clear HP HG w0 s0 ia ja gi gj hy hz G e2
  go_enter Try.func6, Try.ntmps6
  go_upto_region 1 with fail
  rw [← HW.out]
  go_wp2_with fail
  refine (cP _ Bc).mono ?_
  rintro e wn ⟨rfl, kn⟩
  have Bc := Bc.trans (kn.mono Bc.size)
  clear p0 p1 p2 p3 p4 p5 p6 pl cP kn
  by_cases hn1 : n < 1
  · have HR1 : Hid (C = 3 ∧ X = kz) := by
      have e : C = 3 := by rw [HC.out, inb_f (by omega)]; rfl
      exact ⟨e, HCC.out (by rw [e]; decide)⟩
    have R1 := HR.out.below Bc
    obtain ⟨r0, r1, r2, r3, r4, r5, r6, r7, y0, y1, y2, y3, y4, y5, y6, y7, rl⟩ := R1.z8
    have Fz : Blk _ (w.heap.size + 1) (r8 3 wpz kz) 36 := set8_blk R1 (.int .i64 3) (.int .i64 0) (.int .i64 0) (.slice none 0 0) (.slice none 0 0) (.slice none 0 0) (.slice none 0 0) (.slice none 0 0)
    have BE := set8_below (B1.trans (Bc.mono hB)) (show w.heap.size ≤ w.heap.size + 1 by omega) (.int .i64 3) (.int .i64 0) (.int .i64 0) (.slice none 0 0) (.slice none 0 0) (.slice none 0 0) (.slice none 0 0) (.slice none 0 0)
    clear R1
    go_wp2_with fail
    rw [HR1.out.1, HR1.out.2]
    exact bodyPost_ret (v := .agg (r8 3 wpz kz)) (result8 Try.results6 Fz _ rfl) rfl ⟨wpz, rfl, OwW.z _ _, BE⟩
  have dn1 : decide (n < 1) = false := decide_eq_false hn1
  by_cases hn2 : 1000000 < n
  · have HR1 : Hid (C = 3 ∧ X = kz) := by
      have e : C = 3 := by rw [HC.out, inb_f (by omega)]; rfl
      exact ⟨e, HCC.out (by rw [e]; decide)⟩
    have R1 := HR.out.below Bc
    obtain ⟨r0, r1, r2, r3, r4, r5, r6, r7, y0, y1, y2, y3, y4, y5, y6, y7, rl⟩ := R1.z8
    have Fz : Blk _ (w.heap.size + 1) (r8 3 wpz kz) 36 := set8_blk R1 (.int .i64 3) (.int .i64 0) (.int .i64 0) (.slice none 0 0) (.slice none 0 0) (.slice none 0 0) (.slice none 0 0) (.slice none 0 0)
    have BE := set8_below (B1.trans (Bc.mono hB)) (show w.heap.size ≤ w.heap.size + 1 by omega) (.int .i64 3) (.int .i64 0) (.int .i64 0) (.slice none 0 0) (.slice none 0 0) (.slice none 0 0) (.slice none 0 0) (.slice none 0 0)
    clear R1
    go_wp2_with fail
    rw [HR1.out.1, HR1.out.2]
    exact bodyPost_ret (v := .agg (r8 3 wpz kz)) (result8 Try.results6 Fz _ rfl) rfl ⟨wpz, rfl, OwW.z _ _, BE⟩
  have dn2 : decide (1000000 < n) = false := decide_eq_false hn2
  replace HC : Hid (C = if y.c0 < n then 10 else if 1000000 < z.c0 + n then 7 else 0) := by show _ = _; rw [HC.out, inb_t (by omega) (by omega), if_neg (by simp)]
  obtain ⟨p0, p1, p2, p3, p4, p5, p6, pl⟩ := keep _ Bc
  obtain ⟨ba, oa, rfl, ⟨y0, y1, y2, yl⟩, ⟨z0, z1, z2, zl⟩⟩ := keepY _ Bc
  have n1' : 1 ≤ n := by omega
  have n2' : n ≤ 1000000 := by omega
  clear hn1 hn2
  by_cases hpo : y.c0 < n
  · have HR1 : Hid (C = 10 ∧ X = kz) := by
      have e : C = 10 := by rw [HC.out, if_pos hpo]
      exact ⟨e, HCC.out (by rw [e]; decide)⟩
    have cA := fun W' => implAddPurse_as y.c0 (-n) 10 (0) (by unfold Nums.apC; rw [if_neg (by omega), if_pos (by omega)]) (by have e : Nums.apC y.c0 (-n) = 10 := (by unfold Nums.apC; rw [if_neg (by omega), if_pos (by omega)]); unfold Nums.apV; rw [e, if_neg (by decide)]) W'
    go_wp2_with fail
    refine (cA _).mono ?_
    rintro e w2 ⟨rfl, k2⟩
    have k2' : Below wn.heap.size wn w2 := by rw [k2]; exact (Below.refl _ _).alloc (Nat.le_refl _) _
    have Bc := Bc.trans (k2'.mono Bc.size)
    clear k2 k2' cA
    obtain ⟨w3, Hw3⟩ : ∃ w3, Hid (w3 = w2.alloc (.cells #[.int .i64 10, .int .i64 (0)] 40)) := ⟨_, rfl⟩
    have k3 : Below w2.heap.size w2 w3 := by rw [Hw3.out]; exact (Below.refl _ _).alloc (Nat.le_refl _) _
    have tb : Blk w3 w2.heap.size #[.int .i64 10, .int .i64 (0)] 40 := by rw [Hw3.out]; exact Blk.new _ _ _
    have Bc := Bc.trans (k3.mono Bc.size)
    clear k3
    go_upto_region 7 with fail
    rw [← Hw3.out]
    have tb0 := tb.cell (i := 0) rfl
    have tb1 := tb.cell (i := 1) rfl
    have tbl := tb.lt
    have R1 := HR.out.below Bc
    obtain ⟨r0, r1, r2, r3, r4, r5, r6, r7, y0, y1, y2, y3, y4, y5, y6, y7, rl⟩ := R1.z8
    have Fz : Blk _ (w.heap.size + 1) (r8 10 wpz kz) 36 := set8_blk R1 (.int .i64 10) (.int .i64 0) (.int .i64 0) (.slice none 0 0) (.slice none 0 0) (.slice none 0 0) (.slice none 0 0) (.slice none 0 0)
    have BE := set8_below (B1.trans (Bc.mono hB)) (show w.heap.size ≤ w.heap.size + 1 by omega) (.int .i64 10) (.int .i64 0) (.int .i64 0) (.slice none 0 0) (.slice none 0 0) (.slice none 0 0) (.slice none 0 0) (.slice none 0 0)
    clear R1
    go_wp2_with fail
    rw [HR1.out.1, HR1.out.2]
    exact bodyPost_ret (v := .agg (r8 10 wpz kz)) (result8 Try.results6 Fz _ rfl) rfl ⟨wpz, rfl, OwW.z _ _, BE⟩
  have hpo' : n ≤ y.c0 := by omega
  replace HC : Hid (C = if 1000000 < z.c0 + n then 7 else 0) := by show _ = _; rw [HC.out, if_neg hpo]
  clear hpo
  have cA := fun W' => implAddPurse_as y.c0 (-n) 0 (y.c0 - n) (by unfold Nums.apC; rw [if_neg (by omega), if_neg (by omega), if_neg (by omega)]) (by have e : Nums.apC y.c0 (-n) = 0 := (by unfold Nums.apC; rw [if_neg (by omega), if_neg (by omega), if_neg (by omega)]); unfold Nums.apV; rw [e, if_pos rfl]; omega) W'
  go_wp2_with fail
  refine (cA _).mono ?_
  rintro e w2 ⟨rfl, k2⟩
  have k2' : Below wn.heap.size wn w2 := by rw [k2]; exact (Below.refl _ _).alloc (Nat.le_refl _) _
  have Bc := Bc.trans (k2'.mono Bc.size)
  clear k2 k2' cA
  obtain ⟨w3, Hw3⟩ : ∃ w3, Hid (w3 = w2.alloc (.cells #[.int .i64 0, .int .i64 (y.c0 - n)] 40)) := ⟨_, rfl⟩
  have k3 : Below w2.heap.size w2 w3 := by rw [Hw3.out]; exact (Below.refl _ _).alloc (Nat.le_refl _) _
  have tb : Blk w3 w2.heap.size #[.int .i64 0, .int .i64 (y.c0 - n)] 40 := by rw [Hw3.out]; exact Blk.new _ _ _
  have Bc := Bc.trans (k3.mono Bc.size)
  clear k3
  go_upto_region 7 with fail
  rw [← Hw3.out]
  have tb0 := tb.cell (i := 0) rfl
  have tb1 := tb.cell (i := 1) rfl
  have tbl := tb.lt
  clear p0 p1 p2 p3 p4 p5 p6 pl y0 y1 y2 yl z0 z1 z2 zl
  obtain ⟨p0, p1, p2, p3, p4, p5, p6, pl⟩ := keep _ Bc
  obtain ⟨b9, o9, hb9, ⟨y0, y1, y2, yl⟩, ⟨z0, z1, z2, zl⟩⟩ := keepY _ Bc
  injection hb9 with hb9
  injection hb9 with hb9 ho9
  subst hb9 ho9
  have HT : Hid (Blk w3 w2.heap.size #[.int .i64 0, .int .i64 (y.c0 - n)] 40) := tb
  have Hb3 : Hid (Below W.heap.size W w3) := Bc
  by_cases hfu : 1000000 < z.c0 + n
  · have HR1 : Hid (C = 7 ∧ X = kz) := by
      have e : C = 7 := by rw [HC.out, if_pos hfu]
      exact ⟨e, HCC.out (by rw [e]; decide)⟩
    have cA := fun W' => implAddPurse_as z.c0 n 7 (0) (by unfold Nums.apC; rw [if_neg (by omega), if_neg (by omega), if_pos (by omega)]) (by have e : Nums.apC z.c0 n = 7 := (by unfold Nums.apC; rw [if_neg (by omega), if_neg (by omega), if_pos (by omega)]); unfold Nums.apV; rw [e, if_neg (by decide)]) W'
    go_wp2_with fail
    refine (cA _).mono ?_
    rintro e w4 ⟨rfl, k2⟩
    have k2' : Below w3.heap.size w3 w4 := by rw [k2]; exact (Below.refl _ _).alloc (Nat.le_refl _) _
    have Bc := Bc.trans (k2'.mono Bc.size)
    clear k2 k2' cA
    obtain ⟨w5, Hw5⟩ : ∃ w5, Hid (w5 = w4.alloc (.cells #[.int .i64 7, .int .i64 (0)] 40)) := ⟨_, rfl⟩
    have k3 : Below w4.heap.size w4 w5 := by rw [Hw5.out]; exact (Below.refl _ _).alloc (Nat.le_refl _) _
    have vb : Blk w5 w4.heap.size #[.int .i64 7, .int .i64 (0)] 40 := by rw [Hw5.out]; exact Blk.new _ _ _
    have Bc := Bc.trans (k3.mono Bc.size)
    clear k3
    go_upto_region 10 with fail
    rw [← Hw5.out]
    have vb0 := vb.cell (i := 0) rfl
    have vb1 := vb.cell (i := 1) rfl
    have vbl := vb.lt
    have R1 := HR.out.below Bc
    obtain ⟨r0, r1, r2, r3, r4, r5, r6, r7, y0, y1, y2, y3, y4, y5, y6, y7, rl⟩ := R1.z8
    have Fz : Blk _ (w.heap.size + 1) (r8 7 wpz kz) 36 := set8_blk R1 (.int .i64 7) (.int .i64 0) (.int .i64 0) (.slice none 0 0) (.slice none 0 0) (.slice none 0 0) (.slice none 0 0) (.slice none 0 0)
    have BE := set8_below (B1.trans (Bc.mono hB)) (show w.heap.size ≤ w.heap.size + 1 by omega) (.int .i64 7) (.int .i64 0) (.int .i64 0) (.slice none 0 0) (.slice none 0 0) (.slice none 0 0) (.slice none 0 0) (.slice none 0 0)
    clear R1
    go_wp2_with fail
    rw [HR1.out.1, HR1.out.2]
    exact bodyPost_ret (v := .agg (r8 7 wpz kz)) (result8 Try.results6 Fz _ rfl) rfl ⟨wpz, rfl, OwW.z _ _, BE⟩
  have hfu' : z.c0 + n ≤ 1000000 := by omega
  have HR1 : Hid (C = 0 ∧ X = ⟨t, s, us, fs, payA fa i j n, se, oo⟩) := by
    have e : C = 0 := by rw [HC.out, if_neg hfu]
    exact ⟨e, by rw [HX.out, e]; rfl⟩
  clear hfu HC HX HCC
  have cA := fun W' => implAddPurse_as z.c0 n 0 (z.c0 + n) (by unfold Nums.apC; rw [if_neg (by omega), if_neg (by omega), if_neg (by omega)]) (by have e : Nums.apC z.c0 n = 0 := (by unfold Nums.apC; rw [if_neg (by omega), if_neg (by omega), if_neg (by omega)]); unfold Nums.apV; rw [e, if_pos rfl]) W'
  go_wp2_with fail
  refine (cA _).mono ?_
  rintro e w4 ⟨rfl, k2⟩
  have k2' : Below w3.heap.size w3 w4 := by rw [k2]; exact (Below.refl _ _).alloc (Nat.le_refl _) _
  have Bc := Bc.trans (k2'.mono Bc.size)
  have K4 := k2'
  clear k2 k2' cA
  obtain ⟨w5, Hw5⟩ : ∃ w5, Hid (w5 = w4.alloc (.cells #[.int .i64 0, .int .i64 (z.c0 + n)] 40)) := ⟨_, rfl⟩
  have k3 : Below w4.heap.size w4 w5 := by rw [Hw5.out]; exact (Below.refl _ _).alloc (Nat.le_refl _) _
  have vb : Blk w5 w4.heap.size #[.int .i64 0, .int .i64 (z.c0 + n)] 40 := by rw [Hw5.out]; exact Blk.new _ _ _
  have Bc := Bc.trans (k3.mono Bc.size)
  have K5 := K4.trans (k3.mono K4.size)
  clear k3
  go_upto_region 10 with fail
  rw [← Hw5.out]
  have vb0 := vb.cell (i := 0) rfl
  have vb1 := vb.cell (i := 1) rfl
  have vbl := vb.lt
  clear p0 p1 p2 p3 p4 p5 p6 pl y0 y1 y2 yl z0 z1 z2 zl
  have T5 := tb.below K5
  clear tb tb0 tb1 tbl
  obtain ⟨p0, p1, p2, p3, p4, p5, p6, pl⟩ := keep _ Bc
  go_wp2_with fail
  refine (cN _ Bc).mono ?_
  rintro e w6 ⟨g, p', rfl, ws, k6⟩
  have Bc5 := Bc
  have Bc := Bc.trans (k6.mono Bc.size)
  have h5 := k6.size
  obtain ⟨pu', pcu, pf', pcf, pa', pca, ps', pcs, po', pco⟩ := p'
  obtain ⟨ga, hpa, hga, gal, hat0, _, _⟩ := ws.o.a.blk0 (by rw [show fa.length = 4 from Hma.out]; omega)
  dsimp only at hpa
  subst hpa
  have T6 : Blk w6 w2.heap.size #[.int .i64 0, .int .i64 (y.c0 - n)] 40 := T5.below k6
  have V6 : Blk w6 w4.heap.size #[.int .i64 0, .int .i64 (z.c0 + n)] 40 := vb.below k6
  have HT6 : Hid (Blk w6 w2.heap.size #[.int .i64 0, .int .i64 (y.c0 - n)] 40) := T6
  have HV6 : Hid (Blk w6 w4.heap.size #[.int .i64 0, .int .i64 (z.c0 + n)] 40) := V6
  have HWS : Hid (WS w6 w5.heap.size g ⟨pu', pcu, pf', pcf, some ⟨ga, 0, none⟩, pca, ps', pcs, po', pco⟩ ⟨t, s, us, fs, fa, se, oo⟩) := ws
  have hFF : ∀ b1 b2, (FF fa i j (y.c0 - n) (z.c0 + n) b1 b2).length = 4 := fun b1 b2 => by rw [FF_len]; exact Hma.out
  have hFpay : payA fa i j n = FF fa i j (y.c0 - n) (z.c0 + n) true true := by unfold payA FF; rw [pur_get Hy.out, pur_get Hz.out]
  have Hij : Hid (i ≠ j) := hij
  have h25 := T5.lt
  have h45 := vb.lt
  clear ws T5 T6 V6 vb vb0 vb1 vbl hat0 gal p0 p1 p2 p3 p4 p5 p6 pl cN hij
  go_upto_region 13 with fail
  obtain ⟨VV, HVV⟩ : ∃ V : List Value, Hid (V = [.pointer (some ⟨g, 0, none⟩), .pointer (some ⟨g, 0, none⟩), .pointer (some ⟨g, 4, none⟩), .slice (some ⟨ga, 0, none⟩) 4 pca, .int .i64 i, .pointer (some ⟨g, 0, none⟩), .pointer (some ⟨g, 0, none⟩), .pointer (some ⟨g, 4, none⟩), .slice (some ⟨ga, 0, none⟩) 4 pca, .int .i64 j, .pointer (some ⟨w2.heap.size, 1, none⟩), .int .i64 (y.c0 - n), .pointer (some ⟨w4.heap.size, 1, none⟩), .int .i64 (z.c0 + n), .pointer (some ⟨ga, i.toNat * 3, none⟩), .pointer (some ⟨ga, i.toNat * 3, none⟩), .pointer (some ⟨ga, j.toNat * 3, none⟩), .pointer (some ⟨ga, j.toNat * 3, none⟩)]) := ⟨_, rfl⟩
  refine wp_region_slots (by kernel_rfl) 59 (fun d xs W => (∃ x59 x60 x61 x62 x63 x64 x65 x66 x67 x68 x69 x70 x71 x72 x73 x74 x75 x76 : Value, xs = [x59, x60, x61, x62, x63, x64, x65, x66, x67, x68, x69, x70, x71, x72, x73, x74, x75, x76] ∧ SlotsM [0, 1, 2, 3, 4, 5, 6, 7, 8, 9, 10, 11, 12, 13, 14, 15, 17, 18] VV d xs) ∧ (WS W w5.heap.size g ⟨pu', pcu, pf', pcf, some ⟨ga, 0, none⟩, pca, ps', pcs, po', pco⟩ ⟨t, s, us, fs, FF fa i j (y.c0 - n) (z.c0 + n) (d 16) (d 19), se, oo⟩ ∧ Below2 w6 ga W)) (by kernel_rfl) [_, _, _, _, _, _, _, _, _, _, _, _, _, _, _, _, _, _] rfl ?_ ?_ ?_
  · exact ⟨⟨_, _, _, _, _, _, _, _, _, _, _, _, _, _, _, _, _, _, rfl, SlotsM.start (by rw [HVV.out]; rfl)⟩, ⟨HWS.out.drew, Below2.refl⟩⟩
  · rintro d xs Wx i K hi hd hdep hcl ⟨⟨x59, x60, x61, x62, x63, x64, x65, x66, x67, x68, x69, x70, x71, x72, x73, x74, x75, x76, rfl, J⟩, J2⟩ hK
    have hi' : i < 20 := hi
    have hdp : ∀ j, (depsOf _ i).contains j = true → d j = true := fun j hj => hdep j (by simpa using hj)
    clear hi hdep
    have h18 : i = 0 ∨ i = 1 ∨ i = 2 ∨ i = 3 ∨ i = 4 ∨ i = 5 ∨ i = 6 ∨ i = 7 ∨ i = 8 ∨ i = 9 ∨ i = 10 ∨ i = 11 ∨ i = 12 ∨ i = 13 ∨ i = 14 ∨ i = 15 ∨ i = 16 ∨ i = 17 ∨ i = 18 ∨ i = 19 := by omega
    rcases h18 with rfl | rfl | rfl | rfl | rfl | rfl | rfl | rfl | rfl | rfl | rfl | rfl | rfl | rfl | rfl | rfl | rfl | rfl | rfl | rfl
    · obtain ⟨J1, J3⟩ := J2
      refine wpOp_of rfl rfl ?_
      dsimp only [win, List.take_succ_cons, List.take_zero, List.drop_succ_cons, List.drop_zero, List.cons_append, List.nil_append, List.length_cons, List.length_nil, Nat.reduceAdd]
      go_simp
      exact hK [(.pointer (some ⟨g, 0, none⟩)), (x60), (x61), (x62), (x63), (x64), (x65), (x66), (x67), (x68), (x69), (x70), (x71), (x72), (x73), (x74), (x75), (x76)] _ ⟨⟨_, _, _, _, _, _, _, _, _, _, _, _, _, _, _, _, _, _, rfl, J.set (v := .pointer (some ⟨g, 0, none⟩)) 0 (i := 0) (by decide) rfl (by rw [HVV.out]; rfl)⟩, ⟨(by rw [show upd d 0 16 = d 16 from rfl, show upd d 0 19 = d 19 from rfl]; exact J1), J3⟩⟩
    · obtain ⟨J1, J3⟩ := J2
      obtain rfl : x59 = .pointer (some ⟨g, 0, none⟩) := J.get 0 (i := 0) rfl (hdp 0 (by kernel_rfl)) (by rw [HVV.out]; rfl) rfl
      refine wpOp_of rfl rfl ?_
      dsimp only [win, List.take_succ_cons, List.take_zero, List.drop_succ_cons, List.drop_zero, List.cons_append, List.nil_append, List.length_cons, List.length_nil, Nat.reduceAdd]
      go_simp
      exact hK [(.pointer (some ⟨g, 0, none⟩)), (.pointer (some ⟨g, 0, none⟩)), (x61), (x62), (x63), (x64), (x65), (x66), (x67), (x68), (x69), (x70), (x71), (x72), (x73), (x74), (x75), (x76)] _ ⟨⟨_, _, _, _, _, _, _, _, _, _, _, _, _, _, _, _, _, _, rfl, J.set (v := .pointer (some ⟨g, 0, none⟩)) 1 (i := 1) (by decide) rfl (by rw [HVV.out]; rfl)⟩, ⟨(by rw [show upd d 1 16 = d 16 from rfl, show upd d 1 19 = d 19 from rfl]; exact J1), J3⟩⟩
    · obtain ⟨J1, J3⟩ := J2
      obtain rfl : x60 = .pointer (some ⟨g, 0, none⟩) := J.get 1 (i := 1) rfl (hdp 1 (by kernel_rfl)) (by rw [HVV.out]; rfl) rfl
      refine wpOp_of rfl rfl ?_
      dsimp only [win, List.take_succ_cons, List.take_zero, List.drop_succ_cons, List.drop_zero, List.cons_append, List.nil_append, List.length_cons, List.length_nil, Nat.reduceAdd]
      go_simp
      exact hK [(x59), (.pointer (some ⟨g, 0, none⟩)), (.pointer (some ⟨g, 4, none⟩)), (x62), (x63), (x64), (x65), (x66), (x67), (x68), (x69), (x70), (x71), (x72), (x73), (x74), (x75), (x76)] _ ⟨⟨_, _, _, _, _, _, _, _, _, _, _, _, _, _, _, _, _, _, rfl, J.set (v := .pointer (some ⟨g, 4, none⟩)) 2 (i := 2) (by decide) rfl (by rw [HVV.out]; rfl)⟩, ⟨(by rw [show upd d 2 16 = d 16 from rfl, show upd d 2 19 = d 19 from rfl]; exact J1), J3⟩⟩
    · obtain ⟨J1, J3⟩ := J2
      have g4 : Wx.cell? ⟨g, 4, none⟩ = some (.slice (some ⟨ga, 0, none⟩) 4 pca) := by have := J1.b.cell (i := 4) rfl; dsimp only at this; rw [hFF] at this; exact this
      obtain rfl : x61 = .pointer (some ⟨g, 4, none⟩) := J.get 2 (i := 2) rfl (hdp 2 (by kernel_rfl)) (by rw [HVV.out]; rfl) rfl
      refine wpOp_of rfl rfl ?_
      dsimp only [win, List.take_succ_cons, List.take_zero, List.drop_succ_cons, List.drop_zero, List.cons_append, List.nil_append, List.length_cons, List.length_nil, Nat.reduceAdd]
      go_simp
      exact hK [(x59), (x60), (.pointer (some ⟨g, 4, none⟩)), (.slice (some ⟨ga, 0, none⟩) 4 pca), (x63), (x64), (x65), (x66), (x67), (x68), (x69), (x70), (x71), (x72), (x73), (x74), (x75), (x76)] _ ⟨⟨_, _, _, _, _, _, _, _, _, _, _, _, _, _, _, _, _, _, rfl, J.set (v := .slice (some ⟨ga, 0, none⟩) 4 pca) 3 (i := 3) (by decide) rfl (by rw [HVV.out]; rfl)⟩, ⟨(by rw [show upd d 3 16 = d 16 from rfl, show upd d 3 19 = d 19 from rfl]; exact J1), J3⟩⟩
    · obtain ⟨J1, J3⟩ := J2
      refine wpOp_of rfl rfl ?_
      dsimp only [win, List.take_succ_cons, List.take_zero, List.drop_succ_cons, List.drop_zero, List.cons_append, List.nil_append, List.length_cons, List.length_nil, Nat.reduceAdd]
      go_simp
      exact hK [(x59), (x60), (x61), (x62), (.int .i64 i), (x64), (x65), (x66), (x67), (x68), (x69), (x70), (x71), (x72), (x73), (x74), (x75), (x76)] _ ⟨⟨_, _, _, _, _, _, _, _, _, _, _, _, _, _, _, _, _, _, rfl, J.set (v := .int .i64 i) 4 (i := 4) (by decide) rfl (by rw [HVV.out]; rfl)⟩, ⟨(by rw [show upd d 4 16 = d 16 from rfl, show upd d 4 19 = d 19 from rfl]; exact J1), J3⟩⟩
    · obtain ⟨J1, J3⟩ := J2
      refine wpOp_of rfl rfl ?_
      dsimp only [win, List.take_succ_cons, List.take_zero, List.drop_succ_cons, List.drop_zero, List.cons_append, List.nil_append, List.length_cons, List.length_nil, Nat.reduceAdd]
      go_simp
      exact hK [(x59), (x60), (x61), (x62), (x63), (.pointer (some ⟨g, 0, none⟩)), (x65), (x66), (x67), (x68), (x69), (x70), (x71), (x72), (x73), (x74), (x75), (x76)] _ ⟨⟨_, _, _, _, _, _, _, _, _, _, _, _, _, _, _, _, _, _, rfl, J.set (v := .pointer (some ⟨g, 0, none⟩)) 5 (i := 5) (by decide) rfl (by rw [HVV.out]; rfl)⟩, ⟨(by rw [show upd d 5 16 = d 16 from rfl, show upd d 5 19 = d 19 from rfl]; exact J1), J3⟩⟩
    · obtain ⟨J1, J3⟩ := J2
      obtain rfl : x64 = .pointer (some ⟨g, 0, none⟩) := J.get 5 (i := 5) rfl (hdp 5 (by kernel_rfl)) (by rw [HVV.out]; rfl) rfl
      refine wpOp_of rfl rfl ?_
      dsimp only [win, List.take_succ_cons, List.take_zero, List.drop_succ_cons, List.drop_zero, List.cons_append, List.nil_append, List.length_cons, List.length_nil, Nat.reduceAdd]
      go_simp
      exact hK [(x59), (x60), (x61), (x62), (x63), (.pointer (some ⟨g, 0, none⟩)), (.pointer (some ⟨g, 0, none⟩)), (x66), (x67), (x68), (x69), (x70), (x71), (x72), (x73), (x74), (x75), (x76)] _ ⟨⟨_, _, _, _, _, _, _, _, _, _, _, _, _, _, _, _, _, _, rfl, J.set (v := .pointer (some ⟨g, 0, none⟩)) 6 (i := 6) (by decide) rfl (by rw [HVV.out]; rfl)⟩, ⟨(by rw [show upd d 6 16 = d 16 from rfl, show upd d 6 19 = d 19 from rfl]; exact J1), J3⟩⟩
    · obtain ⟨J1, J3⟩ := J2
      obtain rfl : x65 = .pointer (some ⟨g, 0, none⟩) := J.get 6 (i := 6) rfl (hdp 6 (by kernel_rfl)) (by rw [HVV.out]; rfl) rfl
      refine wpOp_of rfl rfl ?_
      dsimp only [win, List.take_succ_cons, List.take_zero, List.drop_succ_cons, List.drop_zero, List.cons_append, List.nil_append, List.length_cons, List.length_nil, Nat.reduceAdd]
      go_simp
      exact hK [(x59), (x60), (x61), (x62), (x63), (x64), (.pointer (some ⟨g, 0, none⟩)), (.pointer (some ⟨g, 4, none⟩)), (x67), (x68), (x69), (x70), (x71), (x72), (x73), (x74), (x75), (x76)] _ ⟨⟨_, _, _, _, _, _, _, _, _, _, _, _, _, _, _, _, _, _, rfl, J.set (v := .pointer (some ⟨g, 4, none⟩)) 7 (i := 7) (by decide) rfl (by rw [HVV.out]; rfl)⟩, ⟨(by rw [show upd d 7 16 = d 16 from rfl, show upd d 7 19 = d 19 from rfl]; exact J1), J3⟩⟩
    · obtain ⟨J1, J3⟩ := J2
      have g4 : Wx.cell? ⟨g, 4, none⟩ = some (.slice (some ⟨ga, 0, none⟩) 4 pca) := by have := J1.b.cell (i := 4) rfl; dsimp only at this; rw [hFF] at this; exact this
      obtain rfl : x66 = .pointer (some ⟨g, 4, none⟩) := J.get 7 (i := 7) rfl (hdp 7 (by kernel_rfl)) (by rw [HVV.out]; rfl) rfl
      refine wpOp_of rfl rfl ?_
      dsimp only [win, List.take_succ_cons, List.take_zero, List.drop_succ_cons, List.drop_zero, List.cons_append, List.nil_append, List.length_cons, List.length_nil, Nat.reduceAdd]
      go_simp
      exact hK [(x59), (x60), (x61), (x62), (x63), (x64), (x65), (.pointer (some ⟨g, 4, none⟩)), (.slice (some ⟨ga, 0, none⟩) 4 pca), (x68), (x69), (x70), (x71), (x72), (x73), (x74), (x75), (x76)] _ ⟨⟨_, _, _, _, _, _, _, _, _, _, _, _, _, _, _, _, _, _, rfl, J.set (v := .slice (some ⟨ga, 0, none⟩) 4 pca) 8 (i := 8) (by decide) rfl (by rw [HVV.out]; rfl)⟩, ⟨(by rw [show upd d 8 16 = d 16 from rfl, show upd d 8 19 = d 19 from rfl]; exact J1), J3⟩⟩
    · obtain ⟨J1, J3⟩ := J2
      refine wpOp_of rfl rfl ?_
      dsimp only [win, List.take_succ_cons, List.take_zero, List.drop_succ_cons, List.drop_zero, List.cons_append, List.nil_append, List.length_cons, List.length_nil, Nat.reduceAdd]
      go_simp
      exact hK [(x59), (x60), (x61), (x62), (x63), (x64), (x65), (x66), (x67), (.int .i64 j), (x69), (x70), (x71), (x72), (x73), (x74), (x75), (x76)] _ ⟨⟨_, _, _, _, _, _, _, _, _, _, _, _, _, _, _, _, _, _, rfl, J.set (v := .int .i64 j) 9 (i := 9) (by decide) rfl (by rw [HVV.out]; rfl)⟩, ⟨(by rw [show upd d 9 16 = d 16 from rfl, show upd d 9 19 = d 19 from rfl]; exact J1), J3⟩⟩
    · obtain ⟨J1, J3⟩ := J2
      refine wpOp_of rfl rfl ?_
      dsimp only [win, List.take_succ_cons, List.take_zero, List.drop_succ_cons, List.drop_zero, List.cons_append, List.nil_append, List.length_cons, List.length_nil, Nat.reduceAdd]
      go_simp
      exact hK [(x59), (x60), (x61), (x62), (x63), (x64), (x65), (x66), (x67), (x68), (.pointer (some ⟨w2.heap.size, 1, none⟩)), (x70), (x71), (x72), (x73), (x74), (x75), (x76)] _ ⟨⟨_, _, _, _, _, _, _, _, _, _, _, _, _, _, _, _, _, _, rfl, J.set (v := .pointer (some ⟨w2.heap.size, 1, none⟩)) 10 (i := 10) (by decide) rfl (by rw [HVV.out]; rfl)⟩, ⟨(by rw [show upd d 10 16 = d 16 from rfl, show upd d 10 19 = d 19 from rfl]; exact J1), J3⟩⟩
    · obtain ⟨J1, J3⟩ := J2
      have g4 : Wx.cell? ⟨w2.heap.size, 1, none⟩ = some (.int .i64 (y.c0 - n)) := (J3.blk HT6.out (by omega)).cell (i := 1) rfl
      obtain rfl : x69 = .pointer (some ⟨w2.heap.size, 1, none⟩) := J.get 10 (i := 10) rfl (hdp 10 (by kernel_rfl)) (by rw [HVV.out]; rfl) rfl
      refine wpOp_of rfl rfl ?_
      dsimp only [win, List.take_succ_cons, List.take_zero, List.drop_succ_cons, List.drop_zero, List.cons_append, List.nil_append, List.length_cons, List.length_nil, Nat.reduceAdd]
      go_simp
      exact hK [(x59), (x60), (x61), (x62), (x63), (x64), (x65), (x66), (x67), (x68), (.pointer (some ⟨w2.heap.size, 1, none⟩)), (.int .i64 (y.c0 - n)), (x71), (x72), (x73), (x74), (x75), (x76)] _ ⟨⟨_, _, _, _, _, _, _, _, _, _, _, _, _, _, _, _, _, _, rfl, J.set (v := .int .i64 (y.c0 - n)) 11 (i := 11) (by decide) rfl (by rw [HVV.out]; rfl)⟩, ⟨(by rw [show upd d 11 16 = d 16 from rfl, show upd d 11 19 = d 19 from rfl]; exact J1), J3⟩⟩
    · obtain ⟨J1, J3⟩ := J2
      refine wpOp_of rfl rfl ?_
      dsimp only [win, List.take_succ_cons, List.take_zero, List.drop_succ_cons, List.drop_zero, List.cons_append, List.nil_append, List.length_cons, List.length_nil, Nat.reduceAdd]
      go_simp
      exact hK [(x59), (x60), (x61), (x62), (x63), (x64), (x65), (x66), (x67), (x68), (x69), (x70), (.pointer (some ⟨w4.heap.size, 1, none⟩)), (x72), (x73), (x74), (x75), (x76)] _ ⟨⟨_, _, _, _, _, _, _, _, _, _, _, _, _, _, _, _, _, _, rfl, J.set (v := .pointer (some ⟨w4.heap.size, 1, none⟩)) 12 (i := 12) (by decide) rfl (by rw [HVV.out]; rfl)⟩, ⟨(by rw [show upd d 12 16 = d 16 from rfl, show upd d 12 19 = d 19 from rfl]; exact J1), J3⟩⟩
    · obtain ⟨J1, J3⟩ := J2
      have g4 : Wx.cell? ⟨w4.heap.size, 1, none⟩ = some (.int .i64 (z.c0 + n)) := (J3.blk HV6.out (by omega)).cell (i := 1) rfl
      obtain rfl : x71 = .pointer (some ⟨w4.heap.size, 1, none⟩) := J.get 12 (i := 12) rfl (hdp 12 (by kernel_rfl)) (by rw [HVV.out]; rfl) rfl
      refine wpOp_of rfl rfl ?_
      dsimp only [win, List.take_succ_cons, List.take_zero, List.drop_succ_cons, List.drop_zero, List.cons_append, List.nil_append, List.length_cons, List.length_nil, Nat.reduceAdd]
      go_simp
      exact hK [(x59), (x60), (x61), (x62), (x63), (x64), (x65), (x66), (x67), (x68), (x69), (x70), (.pointer (some ⟨w4.heap.size, 1, none⟩)), (.int .i64 (z.c0 + n)), (x73), (x74), (x75), (x76)] _ ⟨⟨_, _, _, _, _, _, _, _, _, _, _, _, _, _, _, _, _, _, rfl, J.set (v := .int .i64 (z.c0 + n)) 13 (i := 13) (by decide) rfl (by rw [HVV.out]; rfl)⟩, ⟨(by rw [show upd d 13 16 = d 16 from rfl, show upd d 13 19 = d 19 from rfl]; exact J1), J3⟩⟩
    · obtain ⟨J1, J3⟩ := J2
      obtain rfl : x62 = .slice (some ⟨ga, 0, none⟩) 4 pca := J.get 3 (i := 3) rfl (hdp 3 (by kernel_rfl)) (by rw [HVV.out]; rfl) rfl
      obtain rfl : x63 = .int .i64 i := J.get 4 (i := 4) rfl (hdp 4 (by kernel_rfl)) (by rw [HVV.out]; rfl) rfl
      refine wpOp_of rfl rfl ?_
      dsimp only [win, List.take_succ_cons, List.take_zero, List.drop_succ_cons, List.drop_zero, List.cons_append, List.nil_append, List.length_cons, List.length_nil, Nat.reduceAdd]
      go_simp
      exact hK [(x59), (x60), (x61), (.slice (some ⟨ga, 0, none⟩) 4 pca), (.int .i64 i), (x64), (x65), (x66), (x67), (x68), (x69), (x70), (x71), (x72), (.pointer (some ⟨ga, i.toNat * 3, none⟩)), (x74), (x75), (x76)] _ ⟨⟨_, _, _, _, _, _, _, _, _, _, _, _, _, _, _, _, _, _, rfl, J.set (v := .pointer (some ⟨ga, i.toNat * 3, none⟩)) 14 (i := 14) (by decide) rfl (by rw [HVV.out]; rfl)⟩, ⟨(by rw [show upd d 14 16 = d 16 from rfl, show upd d 14 19 = d 19 from rfl]; exact J1), J3⟩⟩
    · obtain ⟨J1, J3⟩ := J2
      obtain rfl : x73 = .pointer (some ⟨ga, i.toNat * 3, none⟩) := J.get 14 (i := 14) rfl (hdp 14 (by kernel_rfl)) (by rw [HVV.out]; rfl) rfl
      refine wpOp_of rfl rfl ?_
      dsimp only [win, List.take_succ_cons, List.take_zero, List.drop_succ_cons, List.drop_zero, List.cons_append, List.nil_append, List.length_cons, List.length_nil, Nat.reduceAdd]
      go_simp
      exact hK [(x59), (x60), (x61), (x62), (x63), (x64), (x65), (x66), (x67), (x68), (x69), (x70), (x71), (x72), (.pointer (some ⟨ga, i.toNat * 3, none⟩)), (.pointer (some ⟨ga, i.toNat * 3, none⟩)), (x75), (x76)] _ ⟨⟨_, _, _, _, _, _, _, _, _, _, _, _, _, _, _, _, _, _, rfl, J.set (v := .pointer (some ⟨ga, i.toNat * 3, none⟩)) 15 (i := 15) (by decide) rfl (by rw [HVV.out]; rfl)⟩, ⟨(by rw [show upd d 15 16 = d 16 from rfl, show upd d 15 19 = d 19 from rfl]; exact J1), J3⟩⟩
    · obtain ⟨J1, J3⟩ := J2
      obtain ⟨fx, hfx⟩ : ∃ f, (FF fa i j (y.c0 - n) (z.c0 + n) (d 16) (d 19))[i.toNat]? = some f := ⟨_, List.getElem?_eq_getElem (by rw [hFF]; omega)⟩
      have hlp : 0 < (FF fa i j (y.c0 - n) (z.c0 + n) (d 16) (d 19)).length := by rw [hFF]; omega
      obtain ⟨gb, hgb, _, gbl, hatb, _, frz⟩ := J1.o.a.blk0 hlp
      injection hgb with hgb
      injection hgb with hgb
      subst hgb
      have cx := (hatb.one gbl hfx).1
      rw [Nat.zero_add] at cx
      have fz := frz (i.toNat * 3)
      have st := J1.setA (ga := ga) rfl (i.toNat * 3) (.int .i64 (y.c0 - n)) (FF fa i j (y.c0 - n) (z.c0 + n) (upd d 16 16) (upd d 16 19)) (by show _ < (FF fa i j (y.c0 - n) (z.c0 + n) (d 16) (d 19)).length * 3; rw [hFF]; omega) (by show (flatA (FF fa i j (y.c0 - n) (z.c0 + n) (d 16) (d 19))).set _ _ = _; rw [setP_flat hfx]; exact congrArg flatA (FF_step16 d Hij.out i0 j0 hd))
      clear hfx hatb
      obtain rfl : x74 = .pointer (some ⟨ga, i.toNat * 3, none⟩) := J.get 15 (i := 15) rfl (hdp 15 (by kernel_rfl)) (by rw [HVV.out]; rfl) rfl
      obtain rfl : x70 = .int .i64 (y.c0 - n) := J.get 11 (i := 11) rfl (hdp 11 (by kernel_rfl)) (by rw [HVV.out]; rfl) rfl
      refine wpOp_of rfl rfl ?_
      dsimp only [win, List.take_succ_cons, List.take_zero, List.drop_succ_cons, List.drop_zero, List.cons_append, List.nil_append, List.length_cons, List.length_nil, Nat.reduceAdd]
      go_simp
      exact hK [(x59), (x60), (x61), (x62), (x63), (x64), (x65), (x66), (x67), (x68), (x69), (.int .i64 (y.c0 - n)), (x71), (x72), (x73), (.pointer (some ⟨ga, i.toNat * 3, none⟩)), (x75), (x76)] _ ⟨⟨_, _, _, _, _, _, _, _, _, _, _, _, _, _, _, _, _, _, rfl, J.none 16 (by decide)⟩, ⟨st, J3.set _ _⟩⟩
    · obtain ⟨J1, J3⟩ := J2
      obtain rfl : x67 = .slice (some ⟨ga, 0, none⟩) 4 pca := J.get 8 (i := 8) rfl (hdp 8 (by kernel_rfl)) (by rw [HVV.out]; rfl) rfl
      obtain rfl : x68 = .int .i64 j := J.get 9 (i := 9) rfl (hdp 9 (by kernel_rfl)) (by rw [HVV.out]; rfl) rfl
      refine wpOp_of rfl rfl ?_
      dsimp only [win, List.take_succ_cons, List.take_zero, List.drop_succ_cons, List.drop_zero, List.cons_append, List.nil_append, List.length_cons, List.length_nil, Nat.reduceAdd]
      go_simp
      exact hK [(x59), (x60), (x61), (x62), (x63), (x64), (x65), (x66), (.slice (some ⟨ga, 0, none⟩) 4 pca), (.int .i64 j), (x69), (x70), (x71), (x72), (x73), (x74), (.pointer (some ⟨ga, j.toNat * 3, none⟩)), (x76)] _ ⟨⟨_, _, _, _, _, _, _, _, _, _, _, _, _, _, _, _, _, _, rfl, J.set (v := .pointer (some ⟨ga, j.toNat * 3, none⟩)) 16 (i := 17) (by decide) rfl (by rw [HVV.out]; rfl)⟩, ⟨(by rw [show upd d 17 16 = d 16 from rfl, show upd d 17 19 = d 19 from rfl]; exact J1), J3⟩⟩
    · obtain ⟨J1, J3⟩ := J2
      obtain rfl : x75 = .pointer (some ⟨ga, j.toNat * 3, none⟩) := J.get 16 (i := 17) rfl (hdp 17 (by kernel_rfl)) (by rw [HVV.out]; rfl) rfl
      refine wpOp_of rfl rfl ?_
      dsimp only [win, List.take_succ_cons, List.take_zero, List.drop_succ_cons, List.drop_zero, List.cons_append, List.nil_append, List.length_cons, List.length_nil, Nat.reduceAdd]
      go_simp
      exact hK [(x59), (x60), (x61), (x62), (x63), (x64), (x65), (x66), (x67), (x68), (x69), (x70), (x71), (x72), (x73), (x74), (.pointer (some ⟨ga, j.toNat * 3, none⟩)), (.pointer (some ⟨ga, j.toNat * 3, none⟩))] _ ⟨⟨_, _, _, _, _, _, _, _, _, _, _, _, _, _, _, _, _, _, rfl, J.set (v := .pointer (some ⟨ga, j.toNat * 3, none⟩)) 17 (i := 18) (by decide) rfl (by rw [HVV.out]; rfl)⟩, ⟨(by rw [show upd d 18 16 = d 16 from rfl, show upd d 18 19 = d 19 from rfl]; exact J1), J3⟩⟩
    · obtain ⟨J1, J3⟩ := J2
      obtain ⟨fx, hfx⟩ : ∃ f, (FF fa i j (y.c0 - n) (z.c0 + n) (d 16) (d 19))[j.toNat]? = some f := ⟨_, List.getElem?_eq_getElem (by rw [hFF]; omega)⟩
      have hlp : 0 < (FF fa i j (y.c0 - n) (z.c0 + n) (d 16) (d 19)).length := by rw [hFF]; omega
      obtain ⟨gb, hgb, _, gbl, hatb, _, frz⟩ := J1.o.a.blk0 hlp
      injection hgb with hgb
      injection hgb with hgb
      subst hgb
      have cx := (hatb.one gbl hfx).1
      rw [Nat.zero_add] at cx
      have fz := frz (j.toNat * 3)
      have st := J1.setA (ga := ga) rfl (j.toNat * 3) (.int .i64 (z.c0 + n)) (FF fa i j (y.c0 - n) (z.c0 + n) (upd d 19 16) (upd d 19 19)) (by show _ < (FF fa i j (y.c0 - n) (z.c0 + n) (d 16) (d 19)).length * 3; rw [hFF]; omega) (by show (flatA (FF fa i j (y.c0 - n) (z.c0 + n) (d 16) (d 19))).set _ _ = _; rw [setP_flat hfx]; exact congrArg flatA (FF_step19 d Hij.out i0 j0 hd))
      clear hfx hatb
      obtain rfl : x76 = .pointer (some ⟨ga, j.toNat * 3, none⟩) := J.get 17 (i := 18) rfl (hdp 18 (by kernel_rfl)) (by rw [HVV.out]; rfl) rfl
      obtain rfl : x72 = .int .i64 (z.c0 + n) := J.get 13 (i := 13) rfl (hdp 13 (by kernel_rfl)) (by rw [HVV.out]; rfl) rfl
      refine wpOp_of rfl rfl ?_
      dsimp only [win, List.take_succ_cons, List.take_zero, List.drop_succ_cons, List.drop_zero, List.cons_append, List.nil_append, List.length_cons, List.length_nil, Nat.reduceAdd]
      go_simp
      exact hK [(x59), (x60), (x61), (x62), (x63), (x64), (x65), (x66), (x67), (x68), (x69), (x70), (x71), (.int .i64 (z.c0 + n)), (x73), (x74), (x75), (.pointer (some ⟨ga, j.toNat * 3, none⟩))] _ ⟨⟨_, _, _, _, _, _, _, _, _, _, _, _, _, _, _, _, _, _, rfl, J.none 19 (by decide)⟩, ⟨st, J3.set _ _⟩⟩
  · rintro d xs Wx hall ⟨⟨x59, x60, x61, x62, x63, x64, x65, x66, x67, x68, x69, x70, x71, x72, x73, x74, x75, x76, rfl, J⟩, J2⟩
    dsimp only [win, List.take_succ_cons, List.take_zero, List.drop_succ_cons, List.drop_zero, List.cons_append, List.nil_append, List.length_cons, List.length_nil, Nat.reduceAdd]
    obtain ⟨J1, J3⟩ := J2
    rw [hall 16 (by decide), hall 19 (by decide)] at J1
    clear J hall
    have h6 := Bc.size
    have hB5 := Bc5.size
    have Bx : Below W.heap.size W Wx := Bc.trans (J3.below (n := W.heap.size) (by omega) (by omega))
    have HR2 : Hid (C = 0 ∧ X = ⟨t, s, us, fs, FF fa i j (y.c0 - n) (z.c0 + n) true true, se, oo⟩) := ⟨HR1.out.1, by rw [HR1.out.2, hFpay]⟩
    generalize FF fa i j (y.c0 - n) (z.c0 + n) true true = fb at J1 HR2
    clear hFF J3 HWS HT6 HV6 hFpay
    go_wp2_with fail
    refine (result_c g w5.heap.size _ _ _ J1).mono ?_
    rintro e w8 ⟨rfl, O8, k8⟩
    have B8 := Bx.trans (k8.mono Bx.size)
    have R1 := HR.out.below B8
    obtain ⟨r0, r1, r2, r3, r4, r5, r6, r7, e0, e1, e2, e3, e4, e5, e6, e7, rl⟩ := R1.z8
    have Fz := set8_blk R1 (.int .i64 0) (.int .i64 t) (.int .i64 s) (.slice pu' us.length pcu) (.slice pf' fs.length pcf) (.slice (some ⟨ga, 0, none⟩) fb.length pca) (.slice ps' se.length pcs) (.slice po' oo.length pco)
    have Fo := (O8.of_block R1 (by decide) (by decide) (by decide) (by decide) (by decide) (set8_other (W := w8) (g := w.heap.size + 1) (.int .i64 0) (.int .i64 t) (.int .i64 s) (.slice pu' us.length pcu) (.slice pf' fs.length pcf) (.slice (some ⟨ga, 0, none⟩) fb.length pca) (.slice ps' se.length pcs) (.slice po' oo.length pco))).mono (show w.heap.size ≤ w5.heap.size by omega)
    have BE := set8_below (B1.trans (B8.mono hB)) (show w.heap.size ≤ w.heap.size + 1 by omega) (.int .i64 0) (.int .i64 t) (.int .i64 s) (.slice pu' us.length pcu) (.slice pf' fs.length pcf) (.slice (some ⟨ga, 0, none⟩) fb.length pca) (.slice ps' se.length pcs) (.slice po' oo.length pco)
    clear R1 J1 O8
    go_wp2_with fail
    rw [HR2.out.1, HR2.out.2]
    exact bodyPost_ret (v := .agg (r8 0 ⟨pu', pcu, pf', pcf, some ⟨ga, 0, none⟩, pca, ps', pcs, po', pco⟩ ⟨t, s, us, fs, fb, se, oo⟩)) (result8 Try.results6 Fz _ rfl) rfl ⟨_, rfl, Fo, BE⟩
end Go.Proofs.Ytaeeahgibifkjaa
end
