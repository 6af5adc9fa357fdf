/- Texts of mine put together (a claim holds at most 60 files): TotImpl. -/
import Derived.Test.YtgfdfpaimlcgaaaPartS21
import Derived.Test.YtgfdfpaimlcgaaaPartS23
import Derived.Test.YtgfdfpaimlcgaaaPartS25
import Derived.Test.YtgfdfpaimlcgaaaPartS29
import Derived.Test.YtgfdfpaimlcgaaaPartS43
import Derived.Test.YtgfdfpaimlcgaaaPartS24
import Derived.Test.YtgfdfpaimlcgaaaPartS36
import Derived.Deep.CutRange
import Derived.Deep.RegionHeld3

/- TotImpl -/
/- The contracts of what there is together, the program's. Condition: the world's lists lie in memory as they were laid there. -/
section
namespace Go.Proofs.Ytgfdfpaimlcgaaa
open Go.ChangeShapes Go.WideShapes Go.ChangeAt Go.RowKit
open Bd
set_option linter.unusedVariables false

theorem wrapS {x : Int} (h0 : 0 ≤ x) (h1 : x ≤ 1000000000) : IntKind.i64.wrap x = x := by rw [IntKind.wrap_i64]; omega
theorem crU_step {l : List K10} {k : Nat} {u : K10} (h : l[k]? = some u) : crU (l.drop k) = u.c5 + crU (l.drop (k + 1)) := by
  have h' := List.getElem?_eq_some_iff.1 h
  rw [List.drop_eq_getElem_cons h'.1, h'.2]; rfl
theorem crU_bd : ∀ {l : List K10}, (∀ u ∈ l, uf u = 0) → 0 ≤ crU l ∧ crU l ≤ 20 * (l.length : Int)
  | [], _ => by simp [crU]
  | u :: l, h => by
    have h1 := uf_carry (h u (by simp))
    have h2 := crU_bd (l := l) (fun x hx => h x (List.mem_cons_of_mem _ hx))
    show 0 ≤ u.c5 + crU l ∧ u.c5 + crU l ≤ 20 * ((l.length + 1 : Nat) : Int)
    omega
theorem sumF_bd : ∀ {l : List K3}, (∀ f ∈ l, ff f = true) → 0 ≤ sumF l ∧ sumF l ≤ 10000 * (l.length : Int)
  | [], _ => by simp [sumF]
  | f :: l, h => by
    have h1 := ff_left (h f (by simp))
    have h2 := sumF_bd (l := l) (fun x hx => h x (List.mem_cons_of_mem _ hx))
    show 0 ≤ f.c2 + sumF l ∧ f.c2 + sumF l ≤ 10000 * ((l.length + 1 : Nat) : Int)
    omega
set_option maxHeartbeats 4000000 in
theorem carried_c (a : Option Addr) (m c : Nat) (a' : Option Addr) (m' c' : Nat) (us : List K10) (hl' : us.length = m) (hm : m ≤ 8) (hf : ∀ u ∈ us, uf u = 0) (w : World) (hF : ArgU w a us) :
    Calls Try.prog 71 #[.agg #[.slice a m c, .slice a' m' c']] w fun e w' => e = .returned (.int .i64 (crU us)) ∧ Below w.heap.size w w' := by
  have Hf : Hid (∀ u ∈ us, uf u = 0) := hf
  have Hl' : Hid (us.length = m) := hl'
  have HF : Hid (ArgU w a us) := hF
  obtain ⟨R, HR⟩ : ∃ R : Int, Hid (R = crU us) := ⟨_, rfl⟩
  rw [← HR.out]
  clear hf hl' hF
  go_enter Try.func71, Try.ntmps71
  go_wp2_with fail
  go_loopw [3, 9] (fun n i wr => ∃ (k : Nat) (v : Int), k ≤ m ∧ i = .int .i64 k ∧ n = .int .i64 v ∧ Hid (v + crU (us.drop k) = R) ∧ 0 ≤ v ∧ v ≤ 20 * (k : Int) ∧ Below w.heap.size w wr) (fun _ i _ => m - (intOf i).toNat)
  case atStart => exact ⟨0, 0, Nat.zero_le _, rfl, rfl, by show _ = _; rw [HR.out, Int.zero_add]; rfl, Int.le_refl _, by omega, (Below.refl _ _).alloc (Nat.le_refl _) _⟩
  case round =>
    obtain ⟨k, v, hk, rfl, rfl, Hk, v0, v1, hbel⟩ := hrel
    by_cases hlt : k < m
    · have hlt' : (k : Int) < (m : Int) := by omega
      obtain ⟨x, hx⟩ : ∃ x, us[k]? = some x := ⟨_, List.getElem?_eq_getElem (by have := Hl'.out; omega)⟩
      obtain ⟨b, off, rfl, hb, hat⟩ := HF.out.at hx
      obtain ⟨x0, x1, x2, x3, x4, x5, x6, x7, x8, x9, xl⟩ := (hat.later hb hbel).one (Nat.lt_of_lt_of_le hb hbel.size) hx
      obtain ⟨f0, f1⟩ := uf_carry (Hf.out x (List.mem_of_getElem? hx))
      have HS : Hid (v + x.c5 + crU (us.drop (k + 1)) = R) := by show _ = _; rw [← Hk.out, crU_step hx]; omega
      have hb4 := hbel.alloc hbel.size (.cells x.v 100)
      clear hx hat
      go_wp2
      go_roundw
      case rel => exact ⟨k + 1, v + x.c5, by omega, by go_num, by go_num, HS, by omega, by omega, hb4⟩
      case measure => simp [intOf]; omega
    · obtain rfl : k = m := by omega
      have HE : Hid (v = R) := by show _ = _; rw [← Hk.out, List.drop_of_length_le (by have := Hl'.out; omega)]; unfold crU; omega
      go_wp2_with fail
      go_ret
      exact ⟨by rw [← HE.out]; rfl, hbel⟩
set_option maxRecDepth 20000 in
set_option maxHeartbeats 8000000 in
theorem total_c (h : Int → Int → Bool) (g base : Nat) (p : WP) (x : KW) (G : GdW h x) (w : World) (hS : WS w base g p x) :
    Calls Try.prog 49 #[.pointer (some ⟨g, 0, none⟩)] w fun e w' => e = .returned (.int .i64 (totF x)) ∧ Below w.heap.size w w' := by
  obtain ⟨t, s, us, fs, fa, se, oo⟩ := x
  obtain ⟨u, uc, f, fc, a, ac, q, qc, r, rc⟩ := p
  obtain ⟨s0, s1⟩ := inb_i G.s
  have h8 := Gd8 G.b
  have GB := Gd.of G.b
  have h4 := G.a4
  have hp := purse_in G
  dsimp only at s0 s1 h8 GB h4 hp
  obtain ⟨c0, c1⟩ := crU_bd GB.u
  obtain ⟨f0, f1⟩ := sumF_bd GB.f
  obtain ⟨d0, d1⟩ := purS_bd hp
  have k1 := fun W (hW : Below w.heap.size w W) => carried_c u us.length uc f fs.length fc us rfl h8.1 GB.u W ((hS.o.in.later hW).u.arg)
  have k2 := fun W (hW : Below w.heap.size w W) => left_c u us.length uc f fs.length fc fs rfl h8.2 GB.f W ((hS.o.in.later hW).f.arg)
  have k3 := fun W (hW : Below w.heap.size w W) => pursesTogether_c a fa.length ac fa rfl (by omega) hp W ((hS.o.in.later hW).arg.a)
  have HB : Hid (Blk w g #[.slice u us.length uc, .slice f fs.length fc, .int .i64 t, .int .i64 s, .slice a fa.length ac, .slice q se.length qc, .slice r oo.length rc] 70) := hS.b
  show Calls Try.prog 49 #[.pointer (some ⟨g, 0, none⟩)] w fun e w' => e = .returned (.int .i64 (s + crU us + sumF fs + purS fa)) ∧ Below w.heap.size w w'
  obtain ⟨mu, Hmu⟩ : ∃ m, Hid (us.length = m) := ⟨_, rfl⟩
  obtain ⟨mf, Hmf⟩ : ∃ m, Hid (fs.length = m) := ⟨_, rfl⟩
  rw [Hmu.out] at HB k1 k2 c1 h8
  rw [Hmf.out] at HB k1 k2 f1 h8
  rw [h4] at HB k3 d1
  generalize crU us = cu at c0 c1 k1 ⊢
  generalize sumF fs = sf at f0 f1 k2 ⊢
  generalize purS fa = pf at d0 d1 k3 ⊢
  obtain ⟨h80, h81⟩ := h8
  have c2 : cu ≤ 160 := by omega
  have f2 : sf ≤ 40000 := by omega
  have d2 : pf ≤ 4000000 := by omega
  have e2 : 0 ≤ s + cu := by omega
  have e3 : s + cu ≤ 100000160 := by omega
  have e4 : 0 ≤ s + cu + sf := by omega
  have e5 : s + cu + sf ≤ 100040160 := by omega
  have wr1 : IntKind.i64.wrap (s + cu) = s + cu := wrapS e2 (by omega)
  have wr2 : IntKind.i64.wrap (s + cu + sf) = s + cu + sf := wrapS e4 (by omega)
  have wr3 : IntKind.i64.wrap (s + cu + sf + pf) = s + cu + sf + pf := wrapS (by omega) (by omega)
  clear hS GB hp h4 G c1 f1 d1
  go_enter Try.func49, Try.ntmps49
  go_upto_region 1 with fail
  obtain ⟨VV, HVV⟩ : ∃ V : List Value, Hid (V = [.int .i64 (s + cu + sf + pf), .pointer (some ⟨g, 0, none⟩), .pointer (some ⟨g, 0, none⟩), .pointer (some ⟨g, 3, none⟩), .int .i64 s, .pointer (some ⟨g, 0, none⟩), .pointer (some ⟨g, 0, none⟩), .pointer (some ⟨g, 0, none⟩), .agg #[.slice u mu uc, .slice f mf fc], .int .i64 cu, .int .i64 (s + cu), .pointer (some ⟨g, 0, none⟩), .pointer (some ⟨g, 0, none⟩), .pointer (some ⟨g, 0, none⟩), .agg #[.slice u mu uc, .slice f mf fc], .int .i64 sf, .int .i64 (s + cu + sf), .pointer (some ⟨g, 0, none⟩), .pointer (some ⟨g, 0, none⟩), .pointer (some ⟨g, 4, none⟩), .slice a 4 ac, .int .i64 pf, .int .i64 (s + cu + sf + pf)]) := ⟨_, rfl⟩
  refine wp_region_slots (by kernel_rfl) 2 (fun d xs W => (∃ x2 x3 x4 x5 x6 x7 x8 x9 x10 x11 x12 x13 x14 x15 x16 x17 x18 x19 x20 x21 x22 x23 x24 : Value, xs = [x2, x3, x4, x5, x6, x7, x8, x9, x10, x11, x12, x13, x14, x15, x16, x17, x18, x19, x20, x21, x22, x23, x24] ∧ SlotsM [22, 0, 1, 2, 3, 4, 5, 6, 7, 8, 9, 10, 11, 12, 13, 14, 15, 16, 17, 18, 19, 20, 21] VV d xs) ∧ (Below w.heap.size w W)) (by kernel_rfl) [_, _, _, _, _, _, _, _, _, _, _, _, _, _, _, _, _, _, _, _, _, _, _] rfl ?_ ?_ ?_
  · exact ⟨⟨_, _, _, _, _, _, _, _, _, _, _, _, _, _, _, _, _, _, _, _, _, _, _, rfl, SlotsM.start (by rw [HVV.out]; rfl)⟩, (Below.refl _ _).drew⟩
  · rintro d xs Wx i K hi hd hdep hcl ⟨⟨x2, x3, x4, x5, x6, x7, x8, x9, x10, x11, x12, x13, x14, x15, x16, x17, x18, x19, x20, x21, x22, x23, x24, rfl, J⟩, J2⟩ hK
    have hi' : i < 23 := hi
    have hdp : ∀ j, (depsOf _ i).contains j = true → d j = true := fun j hj => hdep j (by simpa using hj)
    clear hi hdep
    have h18 : i = 0 ∨ i = 1 ∨ i = 2 ∨ i = 3 ∨ i = 4 ∨ i = 5 ∨ i = 6 ∨ i = 7 ∨ i = 8 ∨ i = 9 ∨ i = 10 ∨ i = 11 ∨ i = 12 ∨ i = 13 ∨ i = 14 ∨ i = 15 ∨ i = 16 ∨ i = 17 ∨ i = 18 ∨ i = 19 ∨ i = 20 ∨ i = 21 ∨ i = 22 := by omega
    rcases h18 with rfl | rfl | rfl | rfl | rfl | rfl | rfl | rfl | rfl | rfl | rfl | rfl | rfl | rfl | rfl | rfl | rfl | rfl | rfl | rfl | rfl | rfl | rfl
    · refine wpOp_of rfl rfl ?_
      dsimp only [win, List.take_succ_cons, List.take_zero, List.drop_succ_cons, List.drop_zero, List.cons_append, List.nil_append, List.length_cons, List.length_nil, Nat.reduceAdd]
      go_simp
      exact hK [(x2), (.pointer (some ⟨g, 0, none⟩)), (x4), (x5), (x6), (x7), (x8), (x9), (x10), (x11), (x12), (x13), (x14), (x15), (x16), (x17), (x18), (x19), (x20), (x21), (x22), (x23), (x24)] _ ⟨⟨_, _, _, _, _, _, _, _, _, _, _, _, _, _, _, _, _, _, _, _, _, _, _, rfl, J.set (v := .pointer (some ⟨g, 0, none⟩)) 1 (i := 0) (by decide) rfl (by rw [HVV.out]; rfl)⟩, J2⟩
    · obtain rfl : x3 = .pointer (some ⟨g, 0, none⟩) := J.get 1 (i := 0) rfl (hdp 0 (by kernel_rfl)) (by rw [HVV.out]; rfl) rfl
      refine wpOp_of rfl rfl ?_
      dsimp only [win, List.take_succ_cons, List.take_zero, List.drop_succ_cons, List.drop_zero, List.cons_append, List.nil_append, List.length_cons, List.length_nil, Nat.reduceAdd]
      go_simp
      exact hK [(x2), (.pointer (some ⟨g, 0, none⟩)), (.pointer (some ⟨g, 0, none⟩)), (x5), (x6), (x7), (x8), (x9), (x10), (x11), (x12), (x13), (x14), (x15), (x16), (x17), (x18), (x19), (x20), (x21), (x22), (x23), (x24)] _ ⟨⟨_, _, _, _, _, _, _, _, _, _, _, _, _, _, _, _, _, _, _, _, _, _, _, rfl, J.set (v := .pointer (some ⟨g, 0, none⟩)) 2 (i := 1) (by decide) rfl (by rw [HVV.out]; rfl)⟩, J2⟩
    · obtain rfl : x4 = .pointer (some ⟨g, 0, none⟩) := J.get 2 (i := 1) rfl (hdp 1 (by kernel_rfl)) (by rw [HVV.out]; rfl) rfl
      refine wpOp_of rfl rfl ?_
      dsimp only [win, List.take_succ_cons, List.take_zero, List.drop_succ_cons, List.drop_zero, List.cons_append, List.nil_append, List.length_cons, List.length_nil, Nat.reduceAdd]
      go_simp
      exact hK [(x2), (x3), (.pointer (some ⟨g, 0, none⟩)), (.pointer (some ⟨g, 3, none⟩)), (x6), (x7), (x8), (x9), (x10), (x11), (x12), (x13), (x14), (x15), (x16), (x17), (x18), (x19), (x20), (x21), (x22), (x23), (x24)] _ ⟨⟨_, _, _, _, _, _, _, _, _, _, _, _, _, _, _, _, _, _, _, _, _, _, _, rfl, J.set (v := .pointer (some ⟨g, 3, none⟩)) 3 (i := 2) (by decide) rfl (by rw [HVV.out]; rfl)⟩, J2⟩
    · have cc : Wx.cell? ⟨g, 3, none⟩ = some (.int .i64 s) := (HB.out.below J2).cell (i := 3) rfl
      obtain rfl : x5 = .pointer (some ⟨g, 3, none⟩) := J.get 3 (i := 2) rfl (hdp 2 (by kernel_rfl)) (by rw [HVV.out]; rfl) rfl
      refine wpOp_of rfl rfl ?_
      dsimp only [win, List.take_succ_cons, List.take_zero, List.drop_succ_cons, List.drop_zero, List.cons_append, List.nil_append, List.length_cons, List.length_nil, Nat.reduceAdd]
      go_simp
      exact hK [(x2), (x3), (x4), (.pointer (some ⟨g, 3, none⟩)), (.int .i64 s), (x7), (x8), (x9), (x10), (x11), (x12), (x13), (x14), (x15), (x16), (x17), (x18), (x19), (x20), (x21), (x22), (x23), (x24)] _ ⟨⟨_, _, _, _, _, _, _, _, _, _, _, _, _, _, _, _, _, _, _, _, _, _, _, rfl, J.set (v := .int .i64 s) 4 (i := 3) (by decide) rfl (by rw [HVV.out]; rfl)⟩, J2⟩
    · refine wpOp_of rfl rfl ?_
      dsimp only [win, List.take_succ_cons, List.take_zero, List.drop_succ_cons, List.drop_zero, List.cons_append, List.nil_append, List.length_cons, List.length_nil, Nat.reduceAdd]
      go_simp
      exact hK [(x2), (x3), (x4), (x5), (x6), (.pointer (some ⟨g, 0, none⟩)), (x8), (x9), (x10), (x11), (x12), (x13), (x14), (x15), (x16), (x17), (x18), (x19), (x20), (x21), (x22), (x23), (x24)] _ ⟨⟨_, _, _, _, _, _, _, _, _, _, _, _, _, _, _, _, _, _, _, _, _, _, _, rfl, J.set (v := .pointer (some ⟨g, 0, none⟩)) 5 (i := 4) (by decide) rfl (by rw [HVV.out]; rfl)⟩, J2⟩
    · obtain rfl : x7 = .pointer (some ⟨g, 0, none⟩) := J.get 5 (i := 4) rfl (hdp 4 (by kernel_rfl)) (by rw [HVV.out]; rfl) rfl
      refine wpOp_of rfl rfl ?_
      dsimp only [win, List.take_succ_cons, List.take_zero, List.drop_succ_cons, List.drop_zero, List.cons_append, List.nil_append, List.length_cons, List.length_nil, Nat.reduceAdd]
      go_simp
      exact hK [(x2), (x3), (x4), (x5), (x6), (.pointer (some ⟨g, 0, none⟩)), (.pointer (some ⟨g, 0, none⟩)), (x9), (x10), (x11), (x12), (x13), (x14), (x15), (x16), (x17), (x18), (x19), (x20), (x21), (x22), (x23), (x24)] _ ⟨⟨_, _, _, _, _, _, _, _, _, _, _, _, _, _, _, _, _, _, _, _, _, _, _, rfl, J.set (v := .pointer (some ⟨g, 0, none⟩)) 6 (i := 5) (by decide) rfl (by rw [HVV.out]; rfl)⟩, J2⟩
    · obtain rfl : x8 = .pointer (some ⟨g, 0, none⟩) := J.get 6 (i := 5) rfl (hdp 5 (by kernel_rfl)) (by rw [HVV.out]; rfl) rfl
      refine wpOp_of rfl rfl ?_
      dsimp only [win, List.take_succ_cons, List.take_zero, List.drop_succ_cons, List.drop_zero, List.cons_append, List.nil_append, List.length_cons, List.length_nil, Nat.reduceAdd]
      go_simp
      exact hK [(x2), (x3), (x4), (x5), (x6), (x7), (.pointer (some ⟨g, 0, none⟩)), (.pointer (some ⟨g, 0, none⟩)), (x10), (x11), (x12), (x13), (x14), (x15), (x16), (x17), (x18), (x19), (x20), (x21), (x22), (x23), (x24)] _ ⟨⟨_, _, _, _, _, _, _, _, _, _, _, _, _, _, _, _, _, _, _, _, _, _, _, rfl, J.set (v := .pointer (some ⟨g, 0, none⟩)) 7 (i := 6) (by decide) rfl (by rw [HVV.out]; rfl)⟩, J2⟩
    · have cc : Wx.cell? ⟨g, 0, none⟩ = some (.slice u mu uc) := (HB.out.below J2).cell (i := 0) rfl
      have cd : Wx.cell? ⟨g, 1, none⟩ = some (.slice f mf fc) := (HB.out.below J2).cell (i := 1) rfl
      obtain rfl : x9 = .pointer (some ⟨g, 0, none⟩) := J.get 7 (i := 6) rfl (hdp 6 (by kernel_rfl)) (by rw [HVV.out]; rfl) rfl
      refine wpOp_of rfl rfl ?_
      dsimp only [win, List.take_succ_cons, List.take_zero, List.drop_succ_cons, List.drop_zero, List.cons_append, List.nil_append, List.length_cons, List.length_nil, Nat.reduceAdd]
      go_simp
      exact hK [(x2), (x3), (x4), (x5), (x6), (x7), (x8), (.pointer (some ⟨g, 0, none⟩)), (.agg #[.slice u mu uc, .slice f mf fc]), (x11), (x12), (x13), (x14), (x15), (x16), (x17), (x18), (x19), (x20), (x21), (x22), (x23), (x24)] _ ⟨⟨_, _, _, _, _, _, _, _, _, _, _, _, _, _, _, _, _, _, _, _, _, _, _, rfl, J.set (v := .agg #[.slice u mu uc, .slice f mf fc]) 8 (i := 7) (by decide) rfl (by rw [HVV.out]; rfl)⟩, J2⟩
    · obtain rfl : x10 = .agg #[.slice u mu uc, .slice f mf fc] := J.get 8 (i := 7) rfl (hdp 7 (by kernel_rfl)) (by rw [HVV.out]; rfl) rfl
      refine wpOp_of rfl rfl ?_
      dsimp only [win, List.take_succ_cons, List.take_zero, List.drop_succ_cons, List.drop_zero, List.cons_append, List.nil_append, List.length_cons, List.length_nil, Nat.reduceAdd]
      refine call_wp 71 #[.agg #[.slice u mu uc, .slice f mf fc]] (by kernel_rfl) _ (k1 Wx J2) ?_
      rintro e w7 ⟨rfl, k7⟩
      refine ⟨_, rfl, ?_⟩
      exact hK [(x2), (x3), (x4), (x5), (x6), (x7), (x8), (x9), (.agg #[.slice u mu uc, .slice f mf fc]), (.int .i64 cu), (x12), (x13), (x14), (x15), (x16), (x17), (x18), (x19), (x20), (x21), (x22), (x23), (x24)] _ ⟨⟨_, _, _, _, _, _, _, _, _, _, _, _, _, _, _, _, _, _, _, _, _, _, _, rfl, J.set (v := .int .i64 cu) 9 (i := 8) (by decide) rfl (by rw [HVV.out]; rfl)⟩, (J2.trans (k7.mono J2.size))⟩
    · obtain rfl : x6 = .int .i64 s := J.get 4 (i := 3) rfl (hdp 3 (by kernel_rfl)) (by rw [HVV.out]; rfl) rfl
      obtain rfl : x11 = .int .i64 cu := J.get 9 (i := 8) rfl (hdp 8 (by kernel_rfl)) (by rw [HVV.out]; rfl) rfl
      refine wpOp_of rfl rfl ?_
      dsimp only [win, List.take_succ_cons, List.take_zero, List.drop_succ_cons, List.drop_zero, List.cons_append, List.nil_append, List.length_cons, List.length_nil, Nat.reduceAdd]
      go_simp
      exact hK [(x2), (x3), (x4), (x5), (.int .i64 s), (x7), (x8), (x9), (x10), (.int .i64 cu), (.int .i64 (s + cu)), (x13), (x14), (x15), (x16), (x17), (x18), (x19), (x20), (x21), (x22), (x23), (x24)] _ ⟨⟨_, _, _, _, _, _, _, _, _, _, _, _, _, _, _, _, _, _, _, _, _, _, _, rfl, J.set (v := .int .i64 (s + cu)) 10 (i := 9) (by decide) rfl (by rw [HVV.out]; rfl)⟩, J2⟩
    · refine wpOp_of rfl rfl ?_
      dsimp only [win, List.take_succ_cons, List.take_zero, List.drop_succ_cons, List.drop_zero, List.cons_append, List.nil_append, List.length_cons, List.length_nil, Nat.reduceAdd]
      go_simp
      exact hK [(x2), (x3), (x4), (x5), (x6), (x7), (x8), (x9), (x10), (x11), (x12), (.pointer (some ⟨g, 0, none⟩)), (x14), (x15), (x16), (x17), (x18), (x19), (x20), (x21), (x22), (x23), (x24)] _ ⟨⟨_, _, _, _, _, _, _, _, _, _, _, _, _, _, _, _, _, _, _, _, _, _, _, rfl, J.set (v := .pointer (some ⟨g, 0, none⟩)) 11 (i := 10) (by decide) rfl (by rw [HVV.out]; rfl)⟩, J2⟩
    · obtain rfl : x13 = .pointer (some ⟨g, 0, none⟩) := J.get 11 (i := 10) rfl (hdp 10 (by kernel_rfl)) (by rw [HVV.out]; rfl) rfl
      refine wpOp_of rfl rfl ?_
      dsimp only [win, List.take_succ_cons, List.take_zero, List.drop_succ_cons, List.drop_zero, List.cons_append, List.nil_append, List.length_cons, List.length_nil, Nat.reduceAdd]
      go_simp
      exact hK [(x2), (x3), (x4), (x5), (x6), (x7), (x8), (x9), (x10), (x11), (x12), (.pointer (some ⟨g, 0, none⟩)), (.pointer (some ⟨g, 0, none⟩)), (x15), (x16), (x17), (x18), (x19), (x20), (x21), (x22), (x23), (x24)] _ ⟨⟨_, _, _, _, _, _, _, _, _, _, _, _, _, _, _, _, _, _, _, _, _, _, _, rfl, J.set (v := .pointer (some ⟨g, 0, none⟩)) 12 (i := 11) (by decide) rfl (by rw [HVV.out]; rfl)⟩, J2⟩
    · obtain rfl : x14 = .pointer (some ⟨g, 0, none⟩) := J.get 12 (i := 11) rfl (hdp 11 (by kernel_rfl)) (by rw [HVV.out]; rfl) rfl
      refine wpOp_of rfl rfl ?_
      dsimp only [win, List.take_succ_cons, List.take_zero, List.drop_succ_cons, List.drop_zero, List.cons_append, List.nil_append, List.length_cons, List.length_nil, Nat.reduceAdd]
      go_simp
      exact hK [(x2), (x3), (x4), (x5), (x6), (x7), (x8), (x9), (x10), (x11), (x12), (x13), (.pointer (some ⟨g, 0, none⟩)), (.pointer (some ⟨g, 0, none⟩)), (x16), (x17), (x18), (x19), (x20), (x21), (x22), (x23), (x24)] _ ⟨⟨_, _, _, _, _, _, _, _, _, _, _, _, _, _, _, _, _, _, _, _, _, _, _, rfl, J.set (v := .pointer (some ⟨g, 0, none⟩)) 13 (i := 12) (by decide) rfl (by rw [HVV.out]; rfl)⟩, J2⟩
    · have cc : Wx.cell? ⟨g, 0, none⟩ = some (.slice u mu uc) := (HB.out.below J2).cell (i := 0) rfl
      have cd : Wx.cell? ⟨g, 1, none⟩ = some (.slice f mf fc) := (HB.out.below J2).cell (i := 1) rfl
      obtain rfl : x15 = .pointer (some ⟨g, 0, none⟩) := J.get 13 (i := 12) rfl (hdp 12 (by kernel_rfl)) (by rw [HVV.out]; rfl) rfl
      refine wpOp_of rfl rfl ?_
      dsimp only [win, List.take_succ_cons, List.take_zero, List.drop_succ_cons, List.drop_zero, List.cons_append, List.nil_append, List.length_cons, List.length_nil, Nat.reduceAdd]
      go_simp
      exact hK [(x2), (x3), (x4), (x5), (x6), (x7), (x8), (x9), (x10), (x11), (x12), (x13), (x14), (.pointer (some ⟨g, 0, none⟩)), (.agg #[.slice u mu uc, .slice f mf fc]), (x17), (x18), (x19), (x20), (x21), (x22), (x23), (x24)] _ ⟨⟨_, _, _, _, _, _, _, _, _, _, _, _, _, _, _, _, _, _, _, _, _, _, _, rfl, J.set (v := .agg #[.slice u mu uc, .slice f mf fc]) 14 (i := 13) (by decide) rfl (by rw [HVV.out]; rfl)⟩, J2⟩
    · obtain rfl : x16 = .agg #[.slice u mu uc, .slice f mf fc] := J.get 14 (i := 13) rfl (hdp 13 (by kernel_rfl)) (by rw [HVV.out]; rfl) rfl
      refine wpOp_of rfl rfl ?_
      dsimp only [win, List.take_succ_cons, List.take_zero, List.drop_succ_cons, List.drop_zero, List.cons_append, List.nil_append, List.length_cons, List.length_nil, Nat.reduceAdd]
      refine call_wp 72 #[.agg #[.slice u mu uc, .slice f mf fc]] (by kernel_rfl) _ (k2 Wx J2) ?_
      rintro e w7 ⟨rfl, k7⟩
      refine ⟨_, rfl, ?_⟩
      exact hK [(x2), (x3), (x4), (x5), (x6), (x7), (x8), (x9), (x10), (x11), (x12), (x13), (x14), (x15), (.agg #[.slice u mu uc, .slice f mf fc]), (.int .i64 sf), (x18), (x19), (x20), (x21), (x22), (x23), (x24)] _ ⟨⟨_, _, _, _, _, _, _, _, _, _, _, _, _, _, _, _, _, _, _, _, _, _, _, rfl, J.set (v := .int .i64 sf) 15 (i := 14) (by decide) rfl (by rw [HVV.out]; rfl)⟩, (J2.trans (k7.mono J2.size))⟩
    · obtain rfl : x12 = .int .i64 (s + cu) := J.get 10 (i := 9) rfl (hdp 9 (by kernel_rfl)) (by rw [HVV.out]; rfl) rfl
      obtain rfl : x17 = .int .i64 sf := J.get 15 (i := 14) rfl (hdp 14 (by kernel_rfl)) (by rw [HVV.out]; rfl) rfl
      refine wpOp_of rfl rfl ?_
      dsimp only [win, List.take_succ_cons, List.take_zero, List.drop_succ_cons, List.drop_zero, List.cons_append, List.nil_append, List.length_cons, List.length_nil, Nat.reduceAdd]
      go_simp
      exact hK [(x2), (x3), (x4), (x5), (x6), (x7), (x8), (x9), (x10), (x11), (.int .i64 (s + cu)), (x13), (x14), (x15), (x16), (.int .i64 sf), (.int .i64 (s + cu + sf)), (x19), (x20), (x21), (x22), (x23), (x24)] _ ⟨⟨_, _, _, _, _, _, _, _, _, _, _, _, _, _, _, _, _, _, _, _, _, _, _, rfl, J.set (v := .int .i64 (s + cu + sf)) 16 (i := 15) (by decide) rfl (by rw [HVV.out]; rfl)⟩, J2⟩
    · refine wpOp_of rfl rfl ?_
      dsimp only [win, List.take_succ_cons, List.take_zero, List.drop_succ_cons, List.drop_zero, List.cons_append, List.nil_append, List.length_cons, List.length_nil, Nat.reduceAdd]
      go_simp
      exact hK [(x2), (x3), (x4), (x5), (x6), (x7), (x8), (x9), (x10), (x11), (x12), (x13), (x14), (x15), (x16), (x17), (x18), (.pointer (some ⟨g, 0, none⟩)), (x20), (x21), (x22), (x23), (x24)] _ ⟨⟨_, _, _, _, _, _, _, _, _, _, _, _, _, _, _, _, _, _, _, _, _, _, _, rfl, J.set (v := .pointer (some ⟨g, 0, none⟩)) 17 (i := 16) (by decide) rfl (by rw [HVV.out]; rfl)⟩, J2⟩
    · obtain rfl : x19 = .pointer (some ⟨g, 0, none⟩) := J.get 17 (i := 16) rfl (hdp 16 (by kernel_rfl)) (by rw [HVV.out]; rfl) rfl
      refine wpOp_of rfl rfl ?_
      dsimp only [win, List.take_succ_cons, List.take_zero, List.drop_succ_cons, List.drop_zero, List.cons_append, List.nil_append, List.length_cons, List.length_nil, Nat.reduceAdd]
      go_simp
      exact hK [(x2), (x3), (x4), (x5), (x6), (x7), (x8), (x9), (x10), (x11), (x12), (x13), (x14), (x15), (x16), (x17), (x18), (.pointer (some ⟨g, 0, none⟩)), (.pointer (some ⟨g, 0, none⟩)), (x21), (x22), (x23), (x24)] _ ⟨⟨_, _, _, _, _, _, _, _, _, _, _, _, _, _, _, _, _, _, _, _, _, _, _, rfl, J.set (v := .pointer (some ⟨g, 0, none⟩)) 18 (i := 17) (by decide) rfl (by rw [HVV.out]; rfl)⟩, J2⟩
    · obtain rfl : x20 = .pointer (some ⟨g, 0, none⟩) := J.get 18 (i := 17) rfl (hdp 17 (by kernel_rfl)) (by rw [HVV.out]; rfl) rfl
      refine wpOp_of rfl rfl ?_
      dsimp only [win, List.take_succ_cons, List.take_zero, List.drop_succ_cons, List.drop_zero, List.cons_append, List.nil_append, List.length_cons, List.length_nil, Nat.reduceAdd]
      go_simp
      exact hK [(x2), (x3), (x4), (x5), (x6), (x7), (x8), (x9), (x10), (x11), (x12), (x13), (x14), (x15), (x16), (x17), (x18), (x19), (.pointer (some ⟨g, 0, none⟩)), (.pointer (some ⟨g, 4, none⟩)), (x22), (x23), (x24)] _ ⟨⟨_, _, _, _, _, _, _, _, _, _, _, _, _, _, _, _, _, _, _, _, _, _, _, rfl, J.set (v := .pointer (some ⟨g, 4, none⟩)) 19 (i := 18) (by decide) rfl (by rw [HVV.out]; rfl)⟩, J2⟩
    · have cc : Wx.cell? ⟨g, 4, none⟩ = some (.slice a 4 ac) := (HB.out.below J2).cell (i := 4) rfl
      obtain rfl : x21 = .pointer (some ⟨g, 4, none⟩) := J.get 19 (i := 18) rfl (hdp 18 (by kernel_rfl)) (by rw [HVV.out]; rfl) rfl
      refine wpOp_of rfl rfl ?_
      dsimp only [win, List.take_succ_cons, List.take_zero, List.drop_succ_cons, List.drop_zero, List.cons_append, List.nil_append, List.length_cons, List.length_nil, Nat.reduceAdd]
      go_simp
      exact hK [(x2), (x3), (x4), (x5), (x6), (x7), (x8), (x9), (x10), (x11), (x12), (x13), (x14), (x15), (x16), (x17), (x18), (x19), (x20), (.pointer (some ⟨g, 4, none⟩)), (.slice a 4 ac), (x23), (x24)] _ ⟨⟨_, _, _, _, _, _, _, _, _, _, _, _, _, _, _, _, _, _, _, _, _, _, _, rfl, J.set (v := .slice a 4 ac) 20 (i := 19) (by decide) rfl (by rw [HVV.out]; rfl)⟩, J2⟩
    · obtain rfl : x22 = .slice a 4 ac := J.get 20 (i := 19) rfl (hdp 19 (by kernel_rfl)) (by rw [HVV.out]; rfl) rfl
      refine wpOp_of rfl rfl ?_
      dsimp only [win, List.take_succ_cons, List.take_zero, List.drop_succ_cons, List.drop_zero, List.cons_append, List.nil_append, List.length_cons, List.length_nil, Nat.reduceAdd]
      refine call_wp 73 #[.slice a 4 ac] (by kernel_rfl) _ (k3 Wx J2) ?_
      rintro e w7 ⟨rfl, k7⟩
      refine ⟨_, rfl, ?_⟩
      exact hK [(x2), (x3), (x4), (x5), (x6), (x7), (x8), (x9), (x10), (x11), (x12), (x13), (x14), (x15), (x16), (x17), (x18), (x19), (x20), (x21), (.slice a 4 ac), (.int .i64 pf), (x24)] _ ⟨⟨_, _, _, _, _, _, _, _, _, _, _, _, _, _, _, _, _, _, _, _, _, _, _, rfl, J.set (v := .int .i64 pf) 21 (i := 20) (by decide) rfl (by rw [HVV.out]; rfl)⟩, (J2.trans (k7.mono J2.size))⟩
    · obtain rfl : x18 = .int .i64 (s + cu + sf) := J.get 16 (i := 15) rfl (hdp 15 (by kernel_rfl)) (by rw [HVV.out]; rfl) rfl
      obtain rfl : x23 = .int .i64 pf := J.get 21 (i := 20) rfl (hdp 20 (by kernel_rfl)) (by rw [HVV.out]; rfl) rfl
      refine wpOp_of rfl rfl ?_
      dsimp only [win, List.take_succ_cons, List.take_zero, List.drop_succ_cons, List.drop_zero, List.cons_append, List.nil_append, List.length_cons, List.length_nil, Nat.reduceAdd]
      go_simp
      exact hK [(x2), (x3), (x4), (x5), (x6), (x7), (x8), (x9), (x10), (x11), (x12), (x13), (x14), (x15), (x16), (x17), (.int .i64 (s + cu + sf)), (x19), (x20), (x21), (x22), (.int .i64 pf), (.int .i64 (s + cu + sf + pf))] _ ⟨⟨_, _, _, _, _, _, _, _, _, _, _, _, _, _, _, _, _, _, _, _, _, _, _, rfl, J.set (v := .int .i64 (s + cu + sf + pf)) 22 (i := 21) (by decide) rfl (by rw [HVV.out]; rfl)⟩, J2⟩
    · obtain rfl : x24 = .int .i64 (s + cu + sf + pf) := J.get 22 (i := 21) rfl (hdp 21 (by kernel_rfl)) (by rw [HVV.out]; rfl) rfl
      refine wpOp_of rfl rfl ?_
      dsimp only [win, List.take_succ_cons, List.take_zero, List.drop_succ_cons, List.drop_zero, List.cons_append, List.nil_append, List.length_cons, List.length_nil, Nat.reduceAdd]
      go_simp
      exact hK [(.int .i64 (s + cu + sf + pf)), (x3), (x4), (x5), (x6), (x7), (x8), (x9), (x10), (x11), (x12), (x13), (x14), (x15), (x16), (x17), (x18), (x19), (x20), (x21), (x22), (x23), (.int .i64 (s + cu + sf + pf))] _ ⟨⟨_, _, _, _, _, _, _, _, _, _, _, _, _, _, _, _, _, _, _, _, _, _, _, rfl, J.set (v := .int .i64 (s + cu + sf + pf)) 0 (i := 22) (by decide) rfl (by rw [HVV.out]; rfl)⟩, J2⟩
  · rintro d xs Wx hall ⟨⟨x2, x3, x4, x5, x6, x7, x8, x9, x10, x11, x12, x13, x14, x15, x16, x17, x18, x19, x20, x21, x22, x23, x24, rfl, J⟩, J2⟩
    obtain rfl : x2 = .int .i64 (s + cu + sf + pf) := J.get 0 (i := 22) rfl (hall 22 (by decide)) (by rw [HVV.out]; rfl) rfl
    clear J hall
    dsimp only [win, List.take_succ_cons, List.take_zero, List.drop_succ_cons, List.drop_zero, List.cons_append, List.nil_append, List.length_cons, List.length_nil, Nat.reduceAdd]
    go_wp2_with fail
    go_ret
    exact ⟨rfl, J2⟩
def toV (h : Int → Int → Bool) (x : KW) : Int := if (wf h x == 0) = true then totF x else 0
set_option maxRecDepth 20000 in
set_option maxHeartbeats 8000000 in
theorem implTotalOf (p : WP) (x : KW) (w : World) (h : InW w p x) :
    Calls Try.prog 20 #[.agg (p.v x)] w fun e w' => e = .returned (.agg #[.int .i64 (wf hasI x), .int .i64 (toV hasI x)]) ∧ Below w.heap.size w w' := by
  obtain ⟨t, s, us, fs, fa, se, oo⟩ := x
  obtain ⟨u, uc, f, fc, a, ac, q, qc, r, rc⟩ := p
  obtain ⟨W, HW⟩ : ∃ W, Hid (W = (w.alloc (.cells (wv t s u us.length uc f fs.length fc a fa.length ac q se.length qc r oo.length rc) 32)).alloc (.cells #[.int .i64 0, .int .i64 0] 55)) := ⟨_, rfl⟩
  have B1 : Below w.heap.size w W := by rw [HW.out]; exact ((Below.refl _ _).alloc (Nat.le_refl _) _).alloc (by rw [size_new]; omega) _
  have P : Bk W w.heap.size (wv t s u us.length uc f fs.length fc a fa.length ac q se.length qc r oo.length rc) 32 := by rw [HW.out]; exact (Bk.new w (wv t s u us.length uc f fs.length fc a fa.length ac q se.length qc r oo.length rc) 32).alloc _
  have R : Blk W (w.heap.size + 1) #[.int .i64 0, .int .i64 0] 55 := by rw [HW.out]; have h := Blk.new (w.alloc (.cells (wv t s u us.length uc f fs.length fc a fa.length ac q se.length qc r oo.length rc) 32)) #[.int .i64 0, .int .i64 0] 55; rw [size_new] at h; exact h
  have HN : Hid (InW W ⟨u, uc, f, fc, a, ac, q, qc, r, rc⟩ ⟨t, s, us, fs, fa, se, oo⟩) := h.later B1
  have HR : Hid (Blk W (w.heap.size + 1) #[.int .i64 0, .int .i64 0] 55) := R
  have hB := B1.size
  have cF := fun W' (h : Below W.heap.size W W') => implWorldFault ⟨u, uc, f, fc, a, ac, q, qc, r, rc⟩ ⟨t, s, us, fs, fa, se, oo⟩ HN.out.o1 HN.out.o2 W' (HN.out.later h).arg
  show Calls Try.prog 20 #[.agg (wv t s u us.length uc f fs.length fc a fa.length ac q se.length qc r oo.length rc)] w _
  replace cF : ∀ W', Below W.heap.size W W' → Calls Try.prog 18 #[.agg (wv t s u us.length uc f fs.length fc a fa.length ac q se.length qc r oo.length rc)] W' fun e w' => e = .returned (.int .i64 (wf hasI ⟨t, s, us, fs, fa, se, oo⟩)) ∧ Below W'.heap.size W' w' := cF
  have HV : Hid (toV hasI ⟨t, s, us, fs, fa, se, oo⟩ = if (wf hasI ⟨t, s, us, fs, fa, se, oo⟩ == 0) = true then totF ⟨t, s, us, fs, fa, se, oo⟩ else 0) := rfl
  have cN := fun (e : wf hasI ⟨t, s, us, fs, fa, se, oo⟩ = 0) W' (h : Below W.heap.size W W') => newWorldState_c ⟨u, uc, f, fc, a, ac, q, qc, r, rc⟩ ⟨t, s, us, fs, fa, se, oo⟩ (Gd8 ((gdW_iff hasI _).1 e).b).1 (Gd8 ((gdW_iff hasI _).1 e).b).2 (Nat.le_of_eq ((gdW_iff hasI _).1 e).a4) ((gdW_iff hasI _).1 e).s6 ((gdW_iff hasI _).1 e).o6 W' (HN.out.later h)
  replace cN : wf hasI ⟨t, s, us, fs, fa, se, oo⟩ = 0 → ∀ W', Below W.heap.size W W' → Calls Try.prog 28 #[.agg (wv t s u us.length uc f fs.length fc a fa.length ac q se.length qc r oo.length rc)] W' fun e w' => ∃ g p', e = .returned (.pointer (some ⟨g, 0, none⟩)) ∧ WS w' W'.heap.size g p' ⟨t, s, us, fs, fa, se, oo⟩ ∧ Below W'.heap.size W' w' := cN
  have cP := fun (e : wf hasI ⟨t, s, us, fs, fa, se, oo⟩ = 0) g p' base W' hS => total_c hasI g base p' ⟨t, s, us, fs, fa, se, oo⟩ ((gdW_iff hasI _).1 e) W' hS
  generalize toV hasI ⟨t, s, us, fs, fa, se, oo⟩ = V at HV ⊢
  generalize wf hasI ⟨t, s, us, fs, fa, se, oo⟩ = F at cF HV cP cN ⊢
  obtain ⟨mu, Hmu⟩ : ∃ m, Hid (us.length = m) := ⟨_, rfl⟩
  obtain ⟨mf, Hmf⟩ : ∃ m, Hid (fs.length = m) := ⟨_, rfl⟩
  obtain ⟨ma, Hma⟩ : ∃ m, Hid (fa.length = m) := ⟨_, rfl⟩
  obtain ⟨ms, Hms⟩ : ∃ m, Hid (se.length = m) := ⟨_, rfl⟩
  obtain ⟨mo, Hmo⟩ : ∃ m, Hid (oo.length = m) := ⟨_, rfl⟩
  rw [Hmu.out, Hmf.out, Hma.out, Hms.out, Hmo.out] at P HW cF cN ⊢
  clear h R
  have keep : ∀ w', Below W.heap.size W w' → w'.cell? ⟨w.heap.size, 0, none⟩ = some (.int .i64 t) ∧ w'.cell? ⟨w.heap.size, 1, none⟩ = some (.int .i64 s) ∧ w'.cell? ⟨w.heap.size, 2, none⟩ = some (.slice u mu uc) ∧ w'.cell? ⟨w.heap.size, 3, none⟩ = some (.slice f mf fc) ∧ w'.cell? ⟨w.heap.size, 4, none⟩ = some (.slice a ma ac) ∧ w'.cell? ⟨w.heap.size, 5, none⟩ = some (.slice q ms qc) ∧ w'.cell? ⟨w.heap.size, 6, none⟩ = some (.slice r mo rc) ∧ w.heap.size < w'.heap.size := fun w' hb => by
    have q := P.below hb
    exact ⟨q.cell rfl, q.cell rfl, q.cell rfl, q.cell rfl, q.cell rfl, q.cell rfl, q.cell rfl, q.lt⟩
  have Bc : Below W.heap.size W W := Below.refl _ _
  obtain ⟨p0, p1, p2, p3, p4, p5, p6, pl⟩ := keep _ Bc
  have done2 : ∀ (wc : World) (C V : Int), Below W.heap.size W wc → Blk ((wc.setCell ⟨w.heap.size + 1, 0, none⟩ (.int .i64 C)).setCell ⟨w.heap.size + 1, 1, none⟩ (.int .i64 V)) (w.heap.size + 1) #[.int .i64 C, .int .i64 V] 55 ∧ Below w.heap.size w ((wc.setCell ⟨w.heap.size + 1, 0, none⟩ (.int .i64 C)).setCell ⟨w.heap.size + 1, 1, none⟩ (.int .i64 V)) := fun wc C V hb => by
    have q0 : Blk _ (w.heap.size + 1) #[.int .i64 C, .int .i64 0] 55 := (HR.out.below hb).set 0 (.int .i64 C)
    have q1 : Blk _ (w.heap.size + 1) #[.int .i64 C, .int .i64 V] 55 := q0.set 1 (.int .i64 V)
    exact ⟨q1, bel_set (bel_set (B1.trans (hb.mono hB)) (w.heap.size + 1) 0 (by omega) (.int .i64 C)) (w.heap.size + 1) 1 (by omega) (.int .i64 V)⟩
  go_enter Try.func20, Try.ntmps20
  go_upto_region 1 with fail
  rw [← HW.out]
  go_wp2_with fail
  refine (cF _ Bc).mono ?_
  rintro e wn ⟨rfl, kn⟩
  have Bc := Bc.trans (kn.mono Bc.size)
  clear p0 p1 p2 p3 p4 p5 p6 pl
  cases e2 : F == 0
  · clear cN
    have n7 : (F != 0) = true := by simp only [bne, e2]; rfl
    have HV' : Hid (V = 0) := by show _ = _; rw [HV.out, e2]; rfl
    have R1 := HR.out.below Bc
    have e0 : wn.cell? ⟨w.heap.size + 1, 0, none⟩ = some (.int .i64 0) := R1.cell (i := 0) rfl
    have e1 : wn.cell? ⟨w.heap.size + 1, 1, none⟩ = some (.int .i64 0) := R1.cell (i := 1) rfl
    have z0 := R1.frozen 0
    have z1 := R1.frozen 1
    have rl := R1.lt
    obtain ⟨G, BE⟩ := done2 wn F 0 Bc
    clear R1
    go_wp2_with fail
    rw [HV'.out]
    have c0 := G.cell (i := 0) rfl
    have c1 := G.cell (i := 1) rfl
    refine bodyPost_ret (v := .agg #[.int .i64 F, .int .i64 0]) ?_ rfl ⟨rfl, BE⟩
    simp [results, Try.results20, go_sem, c0, c1]
    done
  · obtain rfl : F = 0 := by simpa using e2
    have HV' : Hid (V = totF ⟨t, s, us, fs, fa, se, oo⟩) := by show _ = _; rw [HV.out, e2]; rfl
    have cQ := fun g p' base W' h => cP rfl g p' base W' h
    have cM := fun W' h => cN rfl W' h
    clear cN
    clear cP
    generalize totF ⟨t, s, us, fs, fa, se, oo⟩ = S at cQ HV'
    clear HV e2 cF
    obtain ⟨p0, p1, p2, p3, p4, p5, p6, pl⟩ := keep _ Bc
    go_wp2_with fail
    refine (cM _ Bc).mono ?_
    rintro e w1 ⟨g, p', rfl, ws, k1⟩
    have Bc := Bc.trans (k1.mono Bc.size)
    go_wp2_with fail
    refine (cQ _ _ _ _ ws).mono ?_
    rintro e w2 ⟨rfl, k2⟩
    have Bc := Bc.trans (k2.mono Bc.size)
    have R1 := HR.out.below Bc
    have e0 : w2.cell? ⟨w.heap.size + 1, 0, none⟩ = some (.int .i64 0) := R1.cell (i := 0) rfl
    have e1 : w2.cell? ⟨w.heap.size + 1, 1, none⟩ = some (.int .i64 0) := R1.cell (i := 1) rfl
    have z0 := R1.frozen 0
    have z1 := R1.frozen 1
    have rl := R1.lt
    obtain ⟨G, BE⟩ := done2 w2 0 S Bc
    clear R1
    go_wp2_with fail
    rw [HV'.out]
    have c0 := G.cell (i := 0) rfl
    have c1 := G.cell (i := 1) rfl
    refine bodyPost_ret (v := .agg #[.int .i64 0, .int .i64 S]) ?_ rfl ⟨rfl, BE⟩
    simp [results, Try.results20, go_sem, c0, c1]
    done
end Go.Proofs.Ytgfdfpaimlcgaaa
end
