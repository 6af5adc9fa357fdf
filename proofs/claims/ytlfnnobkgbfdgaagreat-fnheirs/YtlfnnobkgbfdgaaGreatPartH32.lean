/- Texts of mine put together (a claim holds at most 60 files): LeaveImpl, LeavePurse. -/
import Derived.Test.YtlfnnobkgbfdgaaGreatPartH31

/- LeaveImpl -/
/- The contract of leavePurse: a purse that is shared out. Condition: the world that is worked on lies in memory, its purses are in their bounds. -/
section
namespace Go.Proofs.YtlfnnobkgbfdgaaGreat
open Go.ChangeShapes Go.WideShapes Go.ChangeAt Go.RowKit
open Bd
set_option linter.unusedVariables false

theorem cell_same {w w' : World} {b i : Nat} (h : w'.heap[b]? = w.heap[b]?) : w'.cell? ⟨b, i, none⟩ = w.cell? ⟨b, i, none⟩ := by simp [World.cell?, h]
/- a store into a block of numbers leaves a state as it was -/
theorem WS.setI {w : World} {base g b : Nat} {p : WP} {x : KW} {cs : Array Value} {t : TypeId} (h : WS w base g p x) (hb : Blk w b cs t) (h0 : 88 ≠ t) (h1 : 68 ≠ t) (h2 : 106 ≠ t) (h3 : 46 ≠ t) (h4 : 74 ≠ t) (h5 : 77 ≠ t) (i : Nat) (v : Value) : WS (w.setCell ⟨b, i, none⟩ v) base g p x :=
  ⟨h.b.setOther (bk_ne h.b hb h0) v, h.o.setB hb h1 h2 h3 h4 h5 i v, h.bg⟩
/- what was Spent -/
theorem WS.setS {w : World} {base g : Nat} {p : WP} {x : KW} (h : WS w base g p x) (s : Int) : WS (w.setCell ⟨g, 3, none⟩ (.int .i64 s)) base g p ⟨x.t, s, x.us, x.fs, x.fa, x.se, x.oo⟩ :=
  have q := h.o.setB h.b (by decide) (by decide) (by decide) (by decide) (by decide) 3 (.int .i64 s)
  ⟨h.b.set 3 (.int .i64 s), ⟨q.u, q.f, q.a, q.s, q.o⟩, h.bg⟩
set_option maxRecDepth 20000 in
set_option maxHeartbeats 4000000 in
theorem giveP_c (cS cR g ga base : Nat) (p : WP) (x : KW) (r k sh : Int) (y : KA) (W : World) (hS : Blk W cS #[.pointer (some ⟨g, 0, none⟩)] 55) (hR : Blk W cR #[.int .i64 r] 2) (hw : WS W base g p x) (hp : p.a = some ⟨ga, 0, none⟩)
    (h4 : x.fa.length = 4) (k0 : 0 ≤ k) (k3 : k ≤ 3) (hy : x.fa[k.toNat]? = some y) (y0 : 0 ≤ y.c0) (y1 : y.c0 ≤ 1000000) (s0 : 0 ≤ sh) (s1 : sh ≤ 1000001) (r0 : -10000000 ≤ r) (r1 : r ≤ 10000000) :
    Calls Tryz.prog 87 #[.int .i64 k, .int .i64 sh, .pointer (some ⟨cS, 0, none⟩), .pointer (some ⟨cR, 0, none⟩)] W fun e w' => e = .returned (.tuple #[]) ∧ w' = (W.setCell ⟨ga, k.toNat * 3, none⟩ (.int .i64 (y.c0 + mn sh (1000000 - y.c0)))).setCell ⟨cR, 0, none⟩ (.int .i64 (r - mn sh (1000000 - y.c0))) := by
  have hA := hw.o.a
  rw [hp, h4] at hA
  obtain ⟨gb, e1, hgb, hgl, hat, e9, hfz⟩ := hA.blk0 (by rw [h4]; omega)
  have e2 : ga = gb := by have := Option.some.inj e1; injection this
  subst e2
  obtain ⟨a0, a1, a2, al⟩ := hat.one hgl hy
  rw [Nat.zero_add] at a0 a1 a2
  have f0 := hfz (k.toNat * 3)
  have b4 : W.cell? ⟨g, 4, none⟩ = some (.slice p.a x.fa.length p.ac) := hw.b.cell (i := 4) rfl
  have bl := hw.b.lt
  rw [hp, h4] at b4
  have c0 : W.cell? ⟨cS, 0, none⟩ = some (.pointer (some ⟨g, 0, none⟩)) := hS.cell (i := 0) rfl
  have cl := hS.lt
  have d0 : W.cell? ⟨cR, 0, none⟩ = some (.int .i64 r) := hR.cell (i := 0) rfl
  have df := hR.frozen 0
  have dl := hR.lt
  have hA' := hA.blk (q := ga) rfl
  obtain ⟨csA, hbA⟩ := hA'
  have n1 : g ≠ ga := bk_ne hw.b hbA (by decide)
  have n2 : cS ≠ ga := bk_ne hS hbA (by decide)
  have n3 : cR ≠ ga := bk_ne hR hbA (by decide)
  have k4 : k < 4 := by omega
  clear hS hR hw hp hy hA hbA hat hfz e1 e9 h4
  by_cases hs : sh ≤ 1000000 - y.c0
  · have e : mn sh (1000000 - y.c0) = sh := by unfold mn; split <;> omega
    rw [e]
    clear e
    go_enter Tryz.func87, Tryz.ntmps87
    go_wp2_with fail
    go_end0
    exact ⟨rfl, rfl⟩
  · have e : mn sh (1000000 - y.c0) = 1000000 - y.c0 := by unfold mn; split <;> omega
    rw [e]
    clear e
    go_enter Tryz.func87, Tryz.ntmps87
    go_wp2_with fail
    go_end0
    exact ⟨rfl, rfl⟩
/- two blocks turned alone -/
structure Eq2 (a b : Nat) (w w' : World) : Prop where
  os : w'.os = w.os
  tape : w'.tape = w.tape
  output : w'.output = w.output
  size : w'.heap.size = w.heap.size
  blk : ∀ q, q ≠ a → q ≠ b → w'.heap[q]? = w.heap[q]?
theorem Eq2.refl (a b : Nat) (w : World) : Eq2 a b w w := ⟨rfl, rfl, rfl, rfl, fun _ _ _ => rfl⟩
theorem Eq2.set1 {a b : Nat} {w w' : World} (h : Eq2 a b w w') (i : Nat) (v : Value) : Eq2 a b w (w'.setCell ⟨a, i, none⟩ v) :=
  ⟨h.os, h.tape, h.output, by have := h.size; simpa [World.setCell] using this, fun q h1 h2 => (Below.heap_setCell _ ⟨a, i, none⟩ v q h1).trans (h.blk q h1 h2)⟩
theorem Eq2.set2 {a b : Nat} {w w' : World} (h : Eq2 a b w w') (i : Nat) (v : Value) : Eq2 a b w (w'.setCell ⟨b, i, none⟩ v) :=
  ⟨h.os, h.tape, h.output, by have := h.size; simpa [World.setCell] using this, fun q h1 h2 => (Below.heap_setCell _ ⟨b, i, none⟩ v q h2).trans (h.blk q h1 h2)⟩
theorem Eq2.at {a b : Nat} {w w' : World} (h : Eq2 a b w w') {g cs t} (hb : Blk w g cs t) (h1 : g ≠ a) (h2 : g ≠ b) : Blk w' g cs t := by unfold Blk; rw [h.blk g h1 h2]; exact hb
theorem Eq2.kt {a b base : Nat} {w0 w w' : World} {T : TypeId → Bool} {cs : Array Value} {t : TypeId} (h : Eq2 a b w w') (k : KT T base w0 w) (ha : Blk w a cs t) (hT : T t = true) (hba : base ≤ a) (hb0 : base ≤ w0.heap.size) (hb : w0.heap.size ≤ b) : KT T base w0 w' := by
  refine ⟨h.os.trans k.os, h.tape.trans k.tape, h.output.trans k.output, by rw [h.size]; exact k.size, fun q hq => (h.blk q (by omega) (by omega)).trans (k.old q hq), fun q cs' t' fr e ht => ?_⟩
  have h1 := k.ty q cs' t' fr e ht
  have hq := (Array.getElem?_eq_some_iff.1 e).1
  refine (h.blk q ?_ (by omega)).trans h1
  rintro rfl
  unfold Blk at ha
  rw [ha] at h1
  injection h1 with h1
  injection h1 with _ h1 _
  subst h1
  rw [hT] at ht; cases ht
theorem drop_cons {α : Type} {l : List α} {i : Nat} {k : α} (h : l[i]? = some k) : l.drop i = k :: l.drop (i + 1) := by
  have h' := List.getElem?_eq_some_iff.1 h
  rw [List.drop_eq_getElem_cons h'.1, h'.2]
set_option maxRecDepth 20000 in
set_option maxHeartbeats 8000000 in
theorem shareP_c (cS cR g ga base qh qs ch cs : Nat) (p : WP) (t s : Int) (us : List K10) (fs : List K3) (fa : List KA) (se : List K4) (oo : List K2) (n : Int) (m : Nat) (hs : List Int) (w : World) (hS : Blk w cS #[.pointer (some ⟨g, 0, none⟩)] 55) (hR : Blk w cR #[.int .i64 n] 2) (hw : WS w base g p ⟨t, s, us, fs, fa, se, oo⟩) (hp : p.a = some ⟨ga, 0, none⟩)
    (h4 : fa.length = 4) (hpur : ∀ f ∈ fa, inb f.c0 0 1000000 = true) (n0 : 0 ≤ n) (n1 : n ≤ 1000000) (hm : hs.length = m) (m1 : 1 ≤ m) (m4 : m ≤ 4) (hk : ∀ k ∈ hs, 0 ≤ k ∧ k ≤ 3)
    (hh : ∀ i x, hs[i]? = some x → w.cell? ⟨qh, i, none⟩ = some (.int .i64 x)) (hhl : qh < w.heap.size) (hha : qh ≠ ga) (hhR : qh ≠ cR) (hsh : ∀ i, i < m → w.cell? ⟨qs, i, none⟩ = some (.int .i64 (Nums.shAt n m i))) (hsl : qs < w.heap.size) (hsa : qs ≠ ga) (hsR : qs ≠ cR) (hRa : cR ≠ ga) (hRg : cR ≠ g) :
    Calls Tryz.prog 86 #[.slice (some ⟨qh, 0, none⟩) m ch, .slice (some ⟨qs, 0, none⟩) m cs, .func (.func 87) #[] #[.pointer (some ⟨cS, 0, none⟩), .pointer (some ⟨cR, 0, none⟩)]] w
      fun e w' => e = .returned (.tuple #[]) ∧ WS w' base g p ⟨t, s, us, fs, shA n m 0 hs fa, se, oo⟩ ∧ Blk w' cR #[.int .i64 (n - shT n m 0 hs fa)] 2 ∧ Eq2 ga cR w w' := by
  obtain ⟨RA, HRA⟩ : ∃ R, Hid (R = shA n m 0 (hs.drop 0) fa) := ⟨_, rfl⟩
  obtain ⟨RT, HRT⟩ : ∃ R, Hid (R = n - shT n m 0 (hs.drop 0) fa) := ⟨_, rfl⟩
  rw [show shA n m 0 hs fa = RA from HRA.out.symm, show n - shT n m 0 hs fa = RT from HRT.out.symm]
  have HW : Hid (WS w base g p ⟨t, s, us, fs, fa, se, oo⟩) := hw
  have HP : Hid (p.a = some ⟨ga, 0, none⟩) := hp
  have H4 : Hid (fa.length = 4) := h4
  have HU : Hid (∀ f ∈ fa, inb f.c0 0 1000000 = true) := hpur
  have HSB : Hid (Blk w cS #[.pointer (some ⟨g, 0, none⟩)] 55) := hS
  have HRB : Hid (Blk w cR #[.int .i64 n] 2) := hR
  have HM : Hid (hs.length = m) := hm
  have HK : Hid (∀ k ∈ hs, 0 ≤ k ∧ k ≤ 3) := hk
  have HH : Hid (∀ i x, hs[i]? = some x → w.cell? ⟨qh, i, none⟩ = some (.int .i64 x)) := hh
  have HSH : Hid (∀ i, i < m → w.cell? ⟨qs, i, none⟩ = some (.int .i64 (Nums.shAt n m i))) := hsh
  have hm0 : ((m : Int) == 0) = false := by simp; omega
  clear hw hp h4 hpur hS hR hm hk hh hsh
  go_enter Tryz.func86, Tryz.ntmps86
  go_wp2_with fail
  go_loopw [10] (fun j wr => ∃ (i : Nat) (fi : List KA) (ri : Int), j = .int .i64 i ∧ i ≤ m ∧ Hid (RA = shA n m i (hs.drop i) fi) ∧ Hid (RT = ri - shT n m i (hs.drop i) fi) ∧ Hid (fi.length = 4) ∧ Hid (∀ f ∈ fi, inb f.c0 0 1000000 = true) ∧ Hid (WS wr base g p ⟨t, s, us, fs, fi, se, oo⟩) ∧ Hid (Blk wr cR #[.int .i64 ri] 2) ∧ Eq2 ga cR w wr ∧ n - 1000001 * (i : Int) ≤ ri ∧ ri ≤ n) (fun j _ => m - (intOf j).toNat)
  case atStart => exact ⟨0, fa, n, rfl, Nat.zero_le _, HRA, HRT, H4, HU, HW, HRB, Eq2.refl _ _ _, by omega, by omega⟩
  case round =>
    obtain ⟨i, fi, ri, rfl, hi, HA, HT, Hl, Hu, Hw, Hb, E, b0, b1⟩ := hrel
    by_cases hlt : i < m
    · have hlt' : (i : Int) < (m : Int) := by omega
      obtain ⟨k, hx⟩ : ∃ k, hs[i]? = some k := ⟨_, List.getElem?_eq_getElem (by have := HM.out; omega)⟩
      obtain ⟨k0, k3⟩ := HK.out k (List.mem_of_getElem? hx)
      have c1 : wr.cell? ⟨qh, i, none⟩ = some (.int .i64 k) := by rw [cell_same (E.blk qh hha hhR)]; exact HH.out i k hx
      have c2 : wr.cell? ⟨qs, i, none⟩ = some (.int .i64 (Nums.shAt n m i)) := by rw [cell_same (E.blk qs hsa hsR)]; exact HSH.out i hlt
      have hz := E.size
      have l1 : qh < wr.heap.size := by omega
      have l2 : qs < wr.heap.size := by omega
      have hrem : ((i : Int).tmod (m : Int)) = (i : Int) := by rw [Int.tmod_eq_emod_of_nonneg (by omega)]; exact Int.emod_eq_of_lt (by omega) (by omega)
      have hrem2 : ((i : Int) % (m : Int)) = (i : Int) := Int.emod_eq_of_lt (by omega) (by omega)
      obtain ⟨y, hy⟩ : ∃ y, fi[k.toNat]? = some y := ⟨_, List.getElem?_eq_getElem (by have := Hl.out; omega)⟩
      obtain ⟨y0, y1⟩ := inb_i (Hu.out y (List.mem_of_getElem? hy))
      obtain ⟨s0, s1⟩ := Nums.shAt_bd n m i m1 n0 n1
      have hnS : cS ≠ ga := by
        obtain ⟨csA, hbA⟩ := (show SlA w base (.slice (some ⟨ga, 0, none⟩) fa.length p.ac) fa from by have := HW.out.o.a; rw [HP.out] at this; exact this).blk (q := ga) rfl
        exact bk_ne HSB.out hbA (by decide)
      have hnS2 : cS ≠ cR := bk_ne HSB.out HRB.out (by decide)
      have hSb := E.at HSB.out hnS hnS2
      have cG := giveP_c cS cR g ga base p ⟨t, s, us, fs, fi, se, oo⟩ ri k (Nums.shAt n m i) y wr hSb Hb.out Hw.out HP.out Hl.out k0 k3 hy y0 y1 s0 s1 (by omega) (by omega)
      have hpur : purA fi k = y.c0 := pur_get hy
      obtain ⟨tk, Htk⟩ : ∃ tk, Hid (tk = mn (Nums.shAt n m i) (1000000 - y.c0)) := ⟨_, rfl⟩
      have htk : tkP n m i fi k = tk := by unfold tkP; rw [hpur]; exact Htk.out.symm
      obtain ⟨t1, t2, _⟩ := mn_bd (Nums.shAt n m i) (1000000 - y.c0)
      have t0 : 0 ≤ mn (Nums.shAt n m i) (1000000 - y.c0) := by
        obtain ⟨_, _, h⟩ := mn_bd (Nums.shAt n m i) (1000000 - y.c0)
        omega
      rw [← Htk.out] at cG t0 t1 t2
      have w1 : WS (wr.setCell ⟨ga, k.toNat * 3, none⟩ (.int .i64 (y.c0 + tk))) base g p ⟨t, s, us, fs, setP fi k (y.c0 + tk), se, oo⟩ := Hw.out.setA HP.out (k.toNat * 3) _ _ (by have := Hl.out; dsimp only; omega) (setP_flat hy)
      have b2 : Blk (wr.setCell ⟨ga, k.toNat * 3, none⟩ (.int .i64 (y.c0 + tk))) cR #[.int .i64 ri] 2 := Hb.out.setOther (a := ⟨ga, _, none⟩) hRa _
      have HW2 : Hid (WS ((wr.setCell ⟨ga, k.toNat * 3, none⟩ (.int .i64 (y.c0 + tk))).setCell ⟨cR, 0, none⟩ (.int .i64 (ri - tk))) base g p ⟨t, s, us, fs, setP fi k (y.c0 + tk), se, oo⟩) := w1.setI b2 (by decide) (by decide) (by decide) (by decide) (by decide) (by decide) 0 _
      have HB2 : Hid (Blk ((wr.setCell ⟨ga, k.toNat * 3, none⟩ (.int .i64 (y.c0 + tk))).setCell ⟨cR, 0, none⟩ (.int .i64 (ri - tk))) cR #[.int .i64 (ri - tk)] 2) := b2.set 0 (.int .i64 (ri - tk))
      have E2 := (E.set1 (k.toNat * 3) (.int .i64 (y.c0 + tk))).set2 0 (.int .i64 (ri - tk))
      have HA2 : Hid (RA = shA n m (i + 1) (hs.drop (i + 1)) (setP fi k (y.c0 + tk))) := by
        show _ = _
        rw [HA.out, drop_cons hx]
        show shA n m (i + 1) (hs.drop (i + 1)) (setP fi k (purA fi k + tkP n m i fi k)) = _
        rw [htk, hpur]
      have HT2 : Hid (RT = (ri - tk) - shT n m (i + 1) (hs.drop (i + 1)) (setP fi k (y.c0 + tk))) := by
        show _ = _
        rw [HT.out, drop_cons hx]
        show ri - (tkP n m i fi k + shT n m (i + 1) (hs.drop (i + 1)) (setP fi k (purA fi k + tkP n m i fi k))) = _
        rw [htk, hpur]; omega
      have Hl2 : Hid ((setP fi k (y.c0 + tk)).length = 4) := by show _ = _; rw [setP_len]; exact Hl.out
      have Hu2 : Hid (∀ f ∈ setP fi k (y.c0 + tk), inb f.c0 0 1000000 = true) := setP_in Hu.out (by omega) (by omega)
      generalize Nums.shAt n m i = sh at c2 cG s0 s1 t1
      clear hx hpur htk w1 b2 hSb hy hz Htk
      go_wp2_with fail
      refine cG.mono ?_
      rintro e w5 ⟨rfl, hw5⟩
      obtain rfl := hw5.symm
      go_wp2_with fail
      go_roundw
      case rel => exact ⟨i + 1, _, _, by go_num, by omega, HA2, HT2, Hl2, Hu2, HW2, HB2, E2, by omega, by omega⟩
      case measure => simp [intOf]; omega
    · obtain rfl : i = m := by omega
      have hlt' : ¬ (i : Int) < (i : Int) := by omega
      have hd : hs.drop i = [] := List.drop_of_length_le (by have := HM.out; omega)
      have e1 : Hid (RA = fi) := by show _ = _; rw [HA.out, hd]; rfl
      have e2 : Hid (RT = ri) := by show _ = _; rw [HT.out, hd]; show ri - 0 = ri; omega
      clear hd
      go_wp2_with fail
      go_end0
      exact ⟨rfl, by rw [e1.out]; exact Hw.out, by rw [e2.out]; exact Hb.out, E⟩
end Go.Proofs.YtlfnnobkgbfdgaaGreat
end

/- LeavePurse -/
/- The contract of leavePurse. Condition: the world that is worked on lies in memory, its purses are in their bounds. -/
section
namespace Go.Proofs.YtlfnnobkgbfdgaaGreat
open Go.ChangeShapes Go.WideShapes Go.ChangeAt Go.RowKit
open Bd
set_option linter.unusedVariables false

set_option maxRecDepth 20000 in
set_option maxHeartbeats 4000000 in
theorem shareP_none (q : Option Addr) (m c : Nat) (f : Value) (w : World) :
    Calls Tryz.prog 86 #[.slice q m c, .slice none 0 0, f] w fun e w' => e = .returned (.tuple #[]) ∧ w' = w := by
  go_enter Tryz.func86, Tryz.ntmps86
  go_wp2_with fail
  go_loopw [10] (fun j wr => j = .int .i64 0 ∧ wr = w) (fun j _ => 0)
  case atStart => exact ⟨rfl, rfl⟩
  case round =>
    obtain ⟨rfl, rfl⟩ := hrel
    go_wp2_with fail
    go_end0
    exact ⟨rfl, rfl⟩
/- blocks of these two types may be turned -/
abbrev TP : TypeId → Bool := fun t => t == 46 || t == 88
theorem shT_bd {n : Int} {m : Nat} {hs : List Int} {fa : List KA} (h0 : 0 ≤ n) (h1 : n ≤ 1000000) (hm : hs.length = m) (h4 : fa.length = 4) (hk : ∀ k ∈ hs, 0 ≤ k ∧ k ≤ 3) (hp : ∀ f ∈ fa, inb f.c0 0 1000000 = true) : 0 ≤ shT n m 0 hs fa ∧ shT n m 0 hs fa ≤ n := by
  cases hs with
  | nil => exact ⟨by simp [shT], by simp [shT]; omega⟩
  | cons k l =>
    have m1 : 1 ≤ m := by rw [← hm]; simp
    have G := sh_good (m := m) (hs := k :: l) (i := 0) h0 h1 m1 h4 hk hp
    refine ⟨G.t0, ?_⟩
    have h := G.t1
    rw [Nat.zero_add, hm, Nums.sumTo_all n m m1 h0] at h
    show shT n m 0 (k :: l) fa ≤ n
    have e : Nums.sumTo n m 0 = 0 := rfl
    omega
set_option maxRecDepth 20000 in
set_option maxHeartbeats 8000000 in
theorem leavePurse_c (g base b0 : Nat) (p : WP) (t s : Int) (us : List K10) (fs : List K3) (fa : List KA) (se : List K4) (oo : List K2) (a : Int) (hs : List Int) (v : Value) (w : World) (hw : WS w base g p ⟨t, s, us, fs, fa, se, oo⟩) (hI : SlI w b0 v hs) (hb : base ≤ w.heap.size)
    (h4 : fa.length = 4) (hpur : ∀ f ∈ fa, inb f.c0 0 1000000 = true) (a0 : 0 ≤ a) (a3 : a ≤ 3) (hk : ∀ k ∈ hs, 0 ≤ k ∧ k ≤ 3) (hl : hs.length ≤ 4) (s0 : 0 ≤ s) (s1 : s ≤ 100000000) :
    Calls Tryz.prog 49 #[.pointer (some ⟨g, 0, none⟩), .int .i64 a, v] w fun e w' => e = .returned (.tuple #[]) ∧ WS w' base g p ⟨t, s + (purA fa a - shT (purA fa a) hs.length 0 hs fa), us, fs, shA (purA fa a) hs.length 0 hs fa, se, oo⟩ ∧ KT TP base w w' := by
  obtain ⟨y, hy⟩ : ∃ y, fa[a.toNat]? = some y := ⟨_, List.getElem?_eq_getElem (by omega)⟩
  have hn : purA fa a = y.c0 := pur_get hy
  obtain ⟨y0, y1⟩ := inb_i (hpur y (List.mem_of_getElem? hy))
  have hT := shT_bd y0 y1 (rfl : hs.length = hs.length) h4 hk hpur
  have hA := hw.o.a
  have hlA : 0 < fa.length := by omega
  obtain ⟨ga, hpa, hgb, hgl, hat, e9, hfz⟩ := hA.blk0 hlA
  have hA1 := hA
  rw [hpa] at hA1
  obtain ⟨csA, hbA⟩ := hA1.blk (q := ga) rfl
  obtain ⟨W, HW⟩ : ∃ W, Hid (W = w.alloc (.cells #[.pointer (some ⟨g, 0, none⟩)] 55)) := ⟨_, rfl⟩
  have B1 : Below w.heap.size w W := by rw [HW.out]; exact (Below.refl _ _).alloc (Nat.le_refl _) _
  have S1 : Blk W w.heap.size #[.pointer (some ⟨g, 0, none⟩)] 55 := by rw [HW.out]; exact Blk.new w _ _
  have hWz : W.heap.size = w.heap.size + 1 := by rw [HW.out, size_new]
  obtain ⟨W2, HW2⟩ : ∃ W2, Hid (W2 = W.alloc (.cells #[.int .i64 y.c0] 2)) := ⟨_, rfl⟩
  have B2 : Below W.heap.size W W2 := by rw [HW2.out]; exact (Below.refl _ _).alloc (Nat.le_refl _) _
  have R2 : Blk W2 (w.heap.size + 1) #[.int .i64 y.c0] 2 := by rw [HW2.out, ← hWz]; exact Blk.new W _ _
  have hW2z : W2.heap.size = w.heap.size + 2 := by rw [HW2.out, size_new]; omega
  have S2 := S1.below B2
  have B12 := B1.trans (B2.mono B1.size)
  have w1 := hw.later B1
  have b4 : W.cell? ⟨g, 4, none⟩ = some (.slice p.a fa.length p.ac) := w1.b.cell (i := 4) rfl
  have bl := w1.b.lt
  rw [hpa, h4] at b4
  obtain ⟨c0, c1, c2, cl⟩ := (hat.later hgl B1).one (Nat.lt_of_lt_of_le hgl B1.size) hy
  rw [Nat.zero_add] at c0 c1 c2
  have d0 : W.cell? ⟨w.heap.size, 0, none⟩ = some (.pointer (some ⟨g, 0, none⟩)) := S1.cell (i := 0) rfl
  have a4 : a < 4 := by omega
  have r0 : W2.cell? ⟨w.heap.size + 1, 0, none⟩ = some (.int .i64 y.c0) := R2.cell (i := 0) rfl
  have rl := R2.lt
  rw [hn]
  have HI : Hid (SlI w b0 v hs) := hI
  obtain ⟨vq, vc, rfl⟩ := SlI.form hI
  have K12 : KT TP base w W2 := (KT.refl _ _ _).step hb B12
  have hgw : g ≠ ga := bk_ne hw.b hbA (by decide)
  have Hw2 : Hid (WS W2 base g p ⟨t, s, us, fs, fa, se, oo⟩) := hw.later B12
  have HbA : Hid (Blk W2 ga csA 46) := hbA.below B12
  have HS2 : Hid (Blk W2 w.heap.size #[.pointer (some ⟨g, 0, none⟩)] 55) := S2
  have HR2 : Hid (Blk W2 (w.heap.size + 1) #[.int .i64 y.c0] 2) := R2
  have hbA' := hbA
  clear S1 S2 R2 B2 hn w1 hA hA1 e9 hfz hat hbA
  have hfld : ∀ (v1 v2 : Value) W, (Instr.field 40 (.agg #[v1, v2]) 1).run Tryz.prog W = .ok v2 W := fun v1 v2 W => by kernel_rfl
  by_cases hne : hs.length = 0
  · have he : hs = [] := List.eq_nil_of_length_eq_zero hne
    subst he
    have hz : shT y.c0 ([] : List Int).length 0 [] fa = 0 := rfl
    have hz2 : shA y.c0 ([] : List Int).length 0 [] fa = fa := rfl
    rw [hz, hz2, Int.sub_zero]
    have cS0 := implShareOf_no y.c0 0 W2 (by omega)
    have HF : Hid (∀ wc, WS wc base g p ⟨t, s, us, fs, fa, se, oo⟩ → KT TP base w wc → WS (wc.setCell ⟨g, 3, none⟩ (.int .i64 (s + y.c0))).drew base g p ⟨t, s + y.c0, us, fs, fa, se, oo⟩ ∧ KT TP base w (wc.setCell ⟨g, 3, none⟩ (.int .i64 (s + y.c0))).drew) := fun wc h k => ⟨(h.setS _).drew, (k.set h.b (by decide) h.bg 3 _).drew⟩
    clear hI hT hz hz2 hk hpur hy hlA HI hne c1 c2 hbA'
    simp only [List.length_nil] at *
    go_enter Tryz.func49, Tryz.ntmps49
    go_upto_region 1 with fail
    rw [← HW.out]
    go_upto_region 2 with fail
    rw [← HW2.out]
    go_wp2_with fail
    refine cS0.mono ?_
    rintro e w3 ⟨rfl, hw3⟩
    have b3 : Below W2.heap.size W2 w3 := by rw [hw3]; exact (Below.refl _ _).alloc (Nat.le_refl _) _
    clear hw3
    go_wp2_with fail
    refine (shareP_none vq 0 vc _ _).mono ?_
    rintro e w4 ⟨rfl, hw4⟩
    obtain rfl := hw4
    have K4 := K12.step (Nat.le_trans hb B12.size) b3
    have Hw4 := Hw2.out.later b3
    have HS4 := HS2.out.below b3
    have HR4 := HR2.out.below b3
    have e0 : w4.cell? ⟨w.heap.size, 0, none⟩ = some (.pointer (some ⟨g, 0, none⟩)) := HS4.cell (i := 0) rfl
    have e1 : w4.cell? ⟨g, 3, none⟩ = some (.int .i64 s) := Hw4.b.cell (i := 3) rfl
    have e2 : w4.cell? ⟨w.heap.size + 1, 0, none⟩ = some (.int .i64 y.c0) := HR4.cell (i := 0) rfl
    have e3 := Hw4.b.frozen 3
    have l0 := HS4.lt
    have l1 := Hw4.b.lt
    have l2 := HR4.lt
    obtain ⟨F1, F2⟩ := HF.out w4 Hw4 K4
    have hwr : IntKind.i64.wrap (s + y.c0) = s + y.c0 := by rw [IntKind.wrap_i64]; omega
    have HF1 : Hid _ := F1
    have HF2 : Hid _ := F2
    clear F1 F2 Hw4 K4 HF c0 d0 r0 rl bl cl b4 HS4 HR4
    go_upto_region 4 with fail
    go_region
    all_goals
      go_wp2_with fail
      go_end0
      exact ⟨rfl, HF1.out, HF2.out⟩
  · obtain ⟨m, Hm⟩ : ∃ m, Hid (hs.length = m) := ⟨_, rfl⟩
    rw [Hm.out] at hT hl hne ⊢
    rcases hI.read with ⟨_, he⟩ | ⟨qh, cap, hv, hqb, hql, hcell⟩
    · rw [he] at Hm; exact absurd Hm.out.symm (by simpa using hne)
    injection hv with v1 v2 v3
    subst v1 v3
    have m1 : 1 ≤ m := by omega
    obtain ⟨csH, hbH⟩ := hI.blkI (q := qh) rfl
    have hha : qh ≠ ga := bk_ne hbH hbA' (by decide)
    have cS1 := implShareOf_yes y.c0 m W2 y0 y1 m1 (by omega)
    obtain ⟨rt, Hrt⟩ : ∃ rt, Hid (rt = y.c0 - shT y.c0 m 0 hs fa) := ⟨_, rfl⟩
    have rt0 : 0 ≤ rt := by rw [Hrt.out]; omega
    have rt1 : rt ≤ 1000000 := by rw [Hrt.out]; omega
    rw [← Hrt.out]
    have cP := fun (qs cs : Nat) (w3 : World) (b3 : Below W2.heap.size W2 w3) (hq : W2.heap.size ≤ qs) (hL : Lst w3 qs cs (Nums.shTo y.c0 m m)) => shareP_c w.heap.size (w.heap.size + 1) g ga base qh qs vc cs p t s us fs fa se oo y.c0 m hs w3 (HS2.out.below b3) (HR2.out.below b3) (Hw2.out.later b3) hpa h4 hpur y0 y1 Hm.out m1 hl hk
      (fun i x h => by rw [b3.cell (show qh < W2.heap.size by omega), B12.cell (show qh < w.heap.size from hql)]; exact hcell i x h) (by have := b3.size; omega) hha (by omega) (fun i hi => hL.cell (Nums.shTo_get _ _ _ _ hi)) hL.lt (by omega) (by omega) (by omega) (by have := hw.b.lt; omega)
    rw [← Hrt.out] at cP
    have HF : Hid (∀ wc, WS wc base g p ⟨t, s, us, fs, shA y.c0 m 0 hs fa, se, oo⟩ → KT TP base w wc → WS (wc.setCell ⟨g, 3, none⟩ (.int .i64 (s + rt))).drew base g p ⟨t, s + rt, us, fs, shA y.c0 m 0 hs fa, se, oo⟩ ∧ KT TP base w (wc.setCell ⟨g, 3, none⟩ (.int .i64 (s + rt))).drew) := fun wc h k => ⟨(h.setS _).drew, (k.set h.b (by decide) h.bg 3 _).drew⟩
    generalize shA y.c0 m 0 hs fa = RA at cP HF ⊢
    clear hI hT hk hpur hy hlA HI hne c1 c2 Hrt hcell hbH hbA'
    have hm8 : (m : Int) ≤ 8 := by omega
    simp only [Hm.out] at *
    go_enter Tryz.func49, Tryz.ntmps49
    go_upto_region 1 with fail
    rw [← HW.out]
    go_upto_region 2 with fail
    rw [← HW2.out]
    go_wp2_with fail
    refine cS1.mono ?_
    rintro e w3 ⟨qs, cs, rfl, hq, hL, b3⟩
    have cP := cP qs cs w3 b3 hq hL
    go_wp2_with fail
    refine cP.mono ?_
    rintro e w4 ⟨rfl, Hw4, HR4, E⟩
    have hgs : w.heap.size ≠ ga := by omega
    have HS4 := E.at (HS2.out.below b3) hgs (by omega)
    have K4 : KT TP base w w4 := E.kt (K12.step (Nat.le_trans hb B12.size) b3) (HbA.out.below b3) (by decide) hgb hb (by omega)
    have e0 : w4.cell? ⟨w.heap.size, 0, none⟩ = some (.pointer (some ⟨g, 0, none⟩)) := HS4.cell (i := 0) rfl
    have e1 : w4.cell? ⟨g, 3, none⟩ = some (.int .i64 s) := Hw4.b.cell (i := 3) rfl
    have e2 : w4.cell? ⟨w.heap.size + 1, 0, none⟩ = some (.int .i64 rt) := HR4.cell (i := 0) rfl
    have e3 := Hw4.b.frozen 3
    have l0 := HS4.lt
    have l1 := Hw4.b.lt
    have l2 := HR4.lt
    obtain ⟨F1, F2⟩ := HF.out w4 Hw4 K4
    have hwr : IntKind.i64.wrap (s + rt) = s + rt := by rw [IntKind.wrap_i64]; omega
    have HF1 : Hid _ := F1
    have HF2 : Hid _ := F2
    clear F1 F2 Hw4 K4 HF c0 d0 r0 rl bl cl b4 HS4 HR4
    go_upto_region 4 with fail
    go_region
    all_goals
      go_wp2_with fail
      go_end0
      exact ⟨rfl, HF1.out, HF2.out⟩
end Go.Proofs.YtlfnnobkgbfdgaaGreat
end
