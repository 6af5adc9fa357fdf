/- Texts of mine put together (a claim holds at most 60 files): PaySpec2, WldDraws6. -/
import Derived.Test.YtaeeahgibifkjaaPartT34
import Derived.Test.YtaeeahgibifkjaaPartT32
import Derived.Deep.CutRange

/- PaySpec2 -/
/- The contract of the model of PayTribute. Condition: the world's lists lie in memory as they were laid there. -/
section
namespace Go.Proofs.Ytaeeahgibifkjaa
open Go.ChangeShapes Go.WideShapes Go.ChangeAt Go.RowKit
open Bd
set_option linter.unusedVariables false

theorem payC_py (h : Int → Int → Bool) (x : KW) (i j n : Int) : payC h x i j n = if (wf h x == 0) = false then wf h x else pyC x.fa i j n := by
  unfold payC prF pyC
  by_cases e : wf h x = 0
  · simp [e]
  · have : (wf h x == 0) = false := by simpa using e
    rw [this]; simp [e]
theorem payX_py (h : Int → Int → Bool) (x : KW) (i j n : Int) : payX h x i j n = if (wf h x == 0) = false then kz else pyX x i j n := by
  unfold payX pyX
  rw [payC_py]
  by_cases e : wf h x = 0
  · have : (wf h x == 0) = true := by simpa using e
    rw [this]; simp
  · have : (wf h x == 0) = false := by simpa using e
    rw [this]; simp [e]
set_option maxRecDepth 20000 in
set_option maxHeartbeats 8000000 in
theorem specPayTribute (p : WP) (x : KW) (w : World) (h : InW w p x) (i j n : Int) :
    Calls Try.prog 10 #[.agg (p.v x), .int .i64 i, .int .i64 j, .int .i64 n] w fun e w' => ∃ q, e = .returned (.agg (r8 (payC hasS x i j n) q (payX hasS x i j n))) ∧ OwW w' w.heap.size q (payX hasS x i j n) ∧ Below w.heap.size w w' := by
  have eC := payC_py hasS x i j n
  have eX := payX_py hasS x i j n
  obtain ⟨t, s, us, fs, fa, se, oo⟩ := x
  obtain ⟨u, uc, f, fc, a, ac, q, qc, r, rc⟩ := p
  obtain ⟨W, HW⟩ : ∃ W, Hid (W = (w.alloc (.cells (wv t s u us.length uc f fs.length fc a fa.length ac q se.length qc r oo.length rc) 32)).alloc (.cells z8 36)) := ⟨_, rfl⟩
  have B1 : Below w.heap.size w W := by rw [HW.out]; exact ((Below.refl _ _).alloc (Nat.le_refl _) _).alloc (by rw [size_new]; omega) _
  have P : Bk W w.heap.size (wv t s u us.length uc f fs.length fc a fa.length ac q se.length qc r oo.length rc) 32 := by rw [HW.out]; exact (Bk.new w (wv t s u us.length uc f fs.length fc a fa.length ac q se.length qc r oo.length rc) 32).alloc _
  have R : Blk W (w.heap.size + 1) z8 36 := by rw [HW.out]; have h := Blk.new (w.alloc (.cells (wv t s u us.length uc f fs.length fc a fa.length ac q se.length qc r oo.length rc) 32)) z8 36; rw [size_new] at h; exact h
  have HN : Hid (InW W ⟨u, uc, f, fc, a, ac, q, qc, r, rc⟩ ⟨t, s, us, fs, fa, se, oo⟩) := h.later B1
  have HR : Hid (Blk W (w.heap.size + 1) z8 36) := R
  have hB := B1.size
  have cF := fun W' (h : Below W.heap.size W W') => l6Fault_c w.heap.size t s u us.length uc f fs.length fc a fa.length ac q se.length qc r oo.length rc us fs fa se oo rfl rfl rfl rfl rfl HN.out.o1 HN.out.o2 W' ⟨(P.below h).cell rfl, (P.below h).cell rfl, (P.below h).cell rfl, (P.below h).cell rfl, (P.below h).cell rfl, (P.below h).cell rfl, (P.below h).cell rfl, (P.below h).lt⟩ (HN.out.later h).arg.u (HN.out.later h).arg.f (HN.out.later h).arg.a (HN.out.later h).arg.s (HN.out.later h).arg.o
  have cP := fun (e : wf hasS ⟨t, s, us, fs, fa, se, oo⟩ = 0) W' (h : Below W.heap.size W W') => l8Pay_c hasS w.heap.size ⟨u, uc, f, fc, a, ac, q, qc, r, rc⟩ ⟨t, s, us, fs, fa, se, oo⟩ ((gdW_iff hasS _).1 e) W' (show Blk W' w.heap.size _ _ from Blk.below (show Blk W w.heap.size (wv t s u us.length uc f fs.length fc a fa.length ac q se.length qc r oo.length rc) 32 from P) h) (HN.out.later h) i j n
  have HC : Hid (payC hasS ⟨t, s, us, fs, fa, se, oo⟩ i j n = _) := eC
  have HX : Hid (payX hasS ⟨t, s, us, fs, fa, se, oo⟩ i j n = _) := eX
  show Calls Try.prog 10 #[.agg (wv t s u us.length uc f fs.length fc a fa.length ac q se.length qc r oo.length rc), .int .i64 i, .int .i64 j, .int .i64 n] w _
  dsimp only at HC HX cP
  generalize payC hasS ⟨t, s, us, fs, fa, se, oo⟩ i j n = C at HC ⊢
  generalize payX hasS ⟨t, s, us, fs, fa, se, oo⟩ i j n = X at HX ⊢
  generalize pyC fa i j n = C2 at cP HC
  generalize pyX ⟨t, s, us, fs, fa, se, oo⟩ i j n = X2 at cP HX
  generalize wf hasS ⟨t, s, us, fs, fa, se, oo⟩ = F at cF cP HC HX
  obtain ⟨mu, Hmu⟩ : ∃ m, Hid (us.length = m) := ⟨_, rfl⟩
  obtain ⟨mf, Hmf⟩ : ∃ m, Hid (fs.length = m) := ⟨_, rfl⟩
  obtain ⟨ma, Hma⟩ : ∃ m, Hid (fa.length = m) := ⟨_, rfl⟩
  obtain ⟨ms, Hms⟩ : ∃ m, Hid (se.length = m) := ⟨_, rfl⟩
  obtain ⟨mo, Hmo⟩ : ∃ m, Hid (oo.length = m) := ⟨_, rfl⟩
  rw [Hmu.out, Hmf.out, Hma.out, Hms.out, Hmo.out] at HW ⊢
  have Bc : Below W.heap.size W W := Below.refl _ _
  clear h R P eC eX
  cases e2 : F == 0
  · have n7 : (F != 0) = true := by simp only [bne, e2]; rfl
    have HR1 : Hid (C = F ∧ X = kz) := ⟨by rw [HC.out, e2]; rfl, by rw [HX.out, e2]; rfl⟩
    clear HC HX cP e2
    go_enter Try.func10, Try.ntmps10
    go_upto_region 1 with fail
    rw [← HW.out]
    go_wp2_with fail
    refine (cF _ Bc).mono ?_
    rintro e wn ⟨rfl, kn⟩
    have Bc := Bc.trans (kn.mono Bc.size)
    go_wp2_with fail
    refine (l7Bad_c F _).mono ?_
    rintro e wz ⟨rfl, kz'⟩
    have Bc := Bc.trans (kz'.mono Bc.size)
    have R1 := HR.out.below Bc
    obtain ⟨r0, r1, r2, r3, r4, r5, r6, r7, y0, y1, y2, y3, y4, y5, y6, y7, rl⟩ := R1.z8
    have Fz : Blk _ (w.heap.size + 1) (r8 F wpz kz) 36 := set8_blk R1 (.int .i64 F) (.int .i64 0) (.int .i64 0) (.slice none 0 0) (.slice none 0 0) (.slice none 0 0) (.slice none 0 0) (.slice none 0 0)
    have BE := set8_below (B1.trans (Bc.mono hB)) (show w.heap.size ≤ w.heap.size + 1 by omega) (.int .i64 F) (.int .i64 0) (.int .i64 0) (.slice none 0 0) (.slice none 0 0) (.slice none 0 0) (.slice none 0 0) (.slice none 0 0)
    clear R1
    go_wp2_with fail
    rw [HR1.out.1, HR1.out.2]
    exact bodyPost_ret (v := .agg (r8 F wpz kz)) (result8 Try.results10 Fz _ rfl) rfl ⟨wpz, rfl, OwW.z _ _, BE⟩
  · obtain rfl : F = 0 := by simpa using e2
    have HR1 : Hid (C = C2 ∧ X = X2) := ⟨HC.out, HX.out⟩
    have cQ := fun W' h => cP rfl W' h
    clear HC HX cP e2
    go_enter Try.func10, Try.ntmps10
    go_upto_region 1 with fail
    rw [← HW.out]
    go_wp2_with fail
    refine (cF _ Bc).mono ?_
    rintro e wn ⟨rfl, kn⟩
    have Bc := Bc.trans (kn.mono Bc.size)
    go_wp2_with fail
    refine (cQ _ Bc).mono ?_
    rintro e w8 ⟨pr, rfl, O8, k8⟩
    have h8 := Bc.size
    have Bc := Bc.trans (k8.mono h8)
    have R1 := HR.out.below Bc
    obtain ⟨r0, r1, r2, r3, r4, r5, r6, r7, y0, y1, y2, y3, y4, y5, y6, y7, rl⟩ := R1.z8
    have Fz := set8_blk R1 (.int .i64 C2) (.int .i64 X2.t) (.int .i64 X2.s) (.slice pr.u X2.us.length pr.uc) (.slice pr.f X2.fs.length pr.fc) (.slice pr.a X2.fa.length pr.ac) (.slice pr.s X2.se.length pr.sc) (.slice pr.o X2.oo.length pr.oc)
    have Fo := (O8.of_block R1 (by decide) (by decide) (by decide) (by decide) (by decide) (set8_other (W := w8) (g := w.heap.size + 1) (.int .i64 C2) (.int .i64 X2.t) (.int .i64 X2.s) (.slice pr.u X2.us.length pr.uc) (.slice pr.f X2.fs.length pr.fc) (.slice pr.a X2.fa.length pr.ac) (.slice pr.s X2.se.length pr.sc) (.slice pr.o X2.oo.length pr.oc))).mono (show w.heap.size ≤ wn.heap.size by omega)
    have BE := set8_below (B1.trans (Bc.mono hB)) (show w.heap.size ≤ w.heap.size + 1 by omega) (.int .i64 C2) (.int .i64 X2.t) (.int .i64 X2.s) (.slice pr.u X2.us.length pr.uc) (.slice pr.f X2.fs.length pr.fc) (.slice pr.a X2.fa.length pr.ac) (.slice pr.s X2.se.length pr.sc) (.slice pr.o X2.oo.length pr.oc)
    clear R1 O8
    go_wp2_with fail
    rw [HR1.out.1, HR1.out.2]
    exact bodyPost_ret (v := .agg (r8 C2 pr X2)) (result8 Try.results10 Fz _ rfl) rfl ⟨pr, rfl, Fo, BE⟩
end Go.Proofs.Ytaeeahgibifkjaa
end

/- WldDraws6 -/
/- Contracts of the draws of pacts and gifts. Condition: the code has at most 1048576 bytes, which can be read. -/
section
namespace Go.Proofs.Ytaeeahgibifkjaa
open Go.ChangeShapes Go.WideShapes Go.ChangeAt Go.RowKit
open Bd
set_option linter.unusedVariables false

abbrev st7 (W : World) (rb : Nat) (p : WP) (x : KW) : World := set7 W rb (.int .i64 x.t) (.int .i64 x.s) (.slice p.u x.us.length p.uc) (.slice p.f x.fs.length p.fc) (.slice p.a x.fa.length p.ac) (.slice p.s x.se.length p.sc) (.slice p.o x.oo.length p.oc)
theorem fill7 {W : World} {rb base : Nat} {p : WP} {x : KW} (R : Blk W rb zW 32) (h : OwW W base p x) {n0 : Nat} {v : World} (hb : Below n0 v W) (hn : n0 ≤ rb) (hn2 : n0 ≤ base) : Blk (st7 W rb p x) rb (p.v x) 32 ∧ OwW (st7 W rb p x) n0 p x ∧ Below n0 v (st7 W rb p x) :=
  ⟨set7_blk R _ _ _ _ _ _ _, (h.of_block R (by decide) (by decide) (by decide) (by decide) (by decide) (set7_other _ _ _ _ _ _ _)).mono hn2, set7_below hb hn _ _ _ _ _ _ _⟩
theorem src_at (w : World) (c : Value) (n : Int) : Src (w.alloc (.cells #[c, .int .i64 n] 80)) w.heap.size c n := by
  unfold Src
  exact heap_new _ _
theorem later_c (w : World) (a : Option Addr) (len cap : Nat) (k : Int) (h0 : 0 ≤ k) (h1 : k ≤ 1000) :
    Calls Try.prog 15 #[.slice a len cap, .int .i64 k] w fun e w' => e = .returned (.pointer (some ⟨w.heap.size, 0, none⟩)) ∧ St w w' a len cap (7 * k + 5) := by
  go_enter Try.func15, Try.ntmps15
  go_wp2
  go_ret
  exact ⟨rfl, by rw [show 7 * k + 5 = 5 + 7 * k from by omega]; exact src_at _ _ _, (Below.refl _ _).alloc (Nat.le_refl _) _⟩
theorem Dn.begin {w0 w1 : World} {a : Option Addr} {len cap : Nat} {t : Int} (h0 : 0 ≤ t) (st : St w0 w1 a len cap t) : Dn w0 w1 w1 a len cap t := ⟨st.src.lt, ⟨t, h0, Int.le_refl _, st⟩, grown_refl _ _⟩
theorem ArgU.at' {w : World} {a : Option Addr} {l : List K10} (h : ArgU w a l) {i : Nat} {x : K10} (hi : l[i]? = some x) : ∃ b off, a = some ⟨b, off, none⟩ ∧ b < w.heap.size ∧ UAt w b off l := h.at hi
end Go.Proofs.Ytaeeahgibifkjaa
end
