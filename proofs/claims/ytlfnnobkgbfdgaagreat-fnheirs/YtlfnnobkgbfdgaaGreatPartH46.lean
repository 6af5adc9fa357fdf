/- Texts of mine put together (a claim holds at most 60 files): LeaveSpec4, SeatsSpec. -/
import Derived.Test.YtlfnnobkgbfdgaaGreatPartH45
import Derived.Test.YtlfnnobkgbfdgaaGreatPartH32
import Derived.Test.YtlfnnobkgbfdgaaGreatPartH31
import Derived.Test.YtlfnnobkgbfdgaaGreatPartH16
import Derived.Test.YtlfnnobkgbfdgaaGreatPartH03
import Derived.Test.YtlfnnobkgbfdgaaGreatPartH30
import Derived.OwnWalk

/- LeaveSpec4 -/
/- The contract of l8Purse of the model. Condition: the world that is worked on lies in memory, its purses are in their bounds. -/
section
namespace Go.Proofs.YtlfnnobkgbfdgaaGreat
open Go.ChangeShapes Go.WideShapes Go.ChangeAt Go.RowKit
open Bd
set_option linter.unusedVariables false

theorem VS.drew {w : World} {base g : Nat} {p : WP} {x : KW} (h : VS w base g p x) : VS w.drew base g p x := h.later (Below.refl _ _).drew
theorem VS.setS {w : World} {base g : Nat} {p : WP} {x : KW} (h : VS w base g p x) (s : Int) : VS (w.setCell ⟨g, 1, none⟩ (.int .i64 s)) base g p ⟨x.t, s, x.us, x.fs, x.fa, x.se, x.oo⟩ :=
  have q := h.o.setB h.b (by decide) (by decide) (by decide) (by decide) (by decide) 1 (.int .i64 s)
  ⟨h.b.set 1 (.int .i64 s), ⟨q.u, q.f, q.a, q.s, q.o⟩, h.bg⟩
theorem VS.setA {w : World} {base g ga : Nat} {p : WP} {x : KW} (h : VS w base g p x) (hp : p.a = some ⟨ga, 0, none⟩) (i : Nat) (v : Value) (fa' : List KA) (hi : i < x.fa.length * 3) (hc : (flatA x.fa).set i v = flatA fa') : VS (w.setCell ⟨ga, i, none⟩ v) base g p ⟨x.t, x.s, x.us, x.fs, fa', x.se, x.oo⟩ := by
  have hl : fa'.length = x.fa.length := by
    have h1 := congrArg List.length hc
    rw [List.length_set, flatA_len, flatA_len] at h1
    omega
  have hA := h.o.a
  rw [hp] at hA
  obtain ⟨csA, hbA⟩ := hA.blk (q := ga) rfl
  have hne : g ≠ ga := bk_ne h.b hbA (by decide)
  refine ⟨?_, ⟨h.o.u.setB hbA (by decide) v, h.o.f.setB hbA (by decide) v, ?_, h.o.s.setB hbA (by decide) v, h.o.o.setB hbA (by decide) v⟩, h.bg⟩
  · have := h.b.setOther (a := ⟨ga, i, none⟩) hne v
    show Blk _ g #[.int .i64 x.t, .int .i64 x.s, .slice p.u x.us.length p.uc, .slice p.f x.fs.length p.fc, .slice p.a fa'.length p.ac, .slice p.s x.se.length p.sc, .slice p.o x.oo.length p.oc] _
    rw [hl]
    exact this
  · show SlA _ _ (.slice p.a fa'.length p.ac) fa'
    rw [hl, hp]
    exact hA.setCell i v hi hc
/- blocks of these two types may be turned -/
abbrev TQ : TypeId → Bool := fun t => t == 46 || t == 32
set_option maxRecDepth 20000 in
set_option maxHeartbeats 16000000 in
theorem l8Purse_c (g base b0 : Nat) (p : WP) (t s : Int) (us : List K10) (fs : List K3) (fa : List KA) (se : List K4) (oo : List K2) (n : Int) (hs : List Int) (v : Value) (w : World) (hw : VS w base g p ⟨t, s, us, fs, fa, se, oo⟩) (hI : SlI w b0 v hs) (hb : base ≤ w.heap.size)
    (h4 : fa.length = 4) (hpur : ∀ f ∈ fa, inb f.c0 0 1000000 = true) (n0 : 0 ≤ n) (n1 : n ≤ 1000000) (hk : ∀ k ∈ hs, 0 ≤ k ∧ k ≤ 3) (hl : hs.length ≤ 4) (s0 : 0 ≤ s) (s1 : s ≤ 100000000) :
    Calls Tryz.prog 62 #[.pointer (some ⟨g, 0, none⟩), .int .i64 n, v] w fun e w' => e = .returned (.tuple #[]) ∧ VS w' base g p ⟨t, s + (n - shT n hs.length 0 hs fa), us, fs, shA n hs.length 0 hs fa, se, oo⟩ ∧ KT TQ base w w' := by
  obtain ⟨vq, vc, rfl⟩ := SlI.form hI
  obtain ⟨pu, uc, f, fc, pa, ac, q, qc, r, rc⟩ := p
  obtain ⟨ga, hpa, hgb, hgl, _, _, _⟩ := hw.o.a.blk0 (show 0 < fa.length by omega)
  dsimp only at hpa
  subst hpa
  by_cases hne : hs.length = 0
  · have he : hs = [] := List.eq_nil_of_length_eq_zero hne
    subst he
    have hz : s + (n - shT n ([] : List Int).length 0 [] fa) = s + n := by show s + (n - 0) = s + n; omega
    rw [hz]
    show Calls _ _ _ w fun e w' => e = .returned (.tuple #[]) ∧ VS w' base g _ ⟨t, s + n, us, fs, fa, se, oo⟩ ∧ KT TQ base w w'
    have c1 : w.cell? ⟨g, 1, none⟩ = some (.int .i64 s) := hw.b.cell (i := 1) rfl
    have z1 := hw.b.frozen 1
    have gl := hw.b.lt
    have hwr : IntKind.i64.wrap (s + n) = s + n := by rw [IntKind.wrap_i64]; omega
    have HF : Hid _ := hw.setS (s + n)
    have HK : Hid (KT TQ base w (w.setCell ⟨g, 1, none⟩ (.int .i64 (s + n)))) := (KT.refl _ _ _).set hw.b (by decide) hw.bg 1 _
    clear hw hI hpur hk hz h4
    simp only [List.length_nil] at *
    go_enter Tryz.func62, Tryz.ntmps62
    go_wp2_with fail
    refine bodyPost_ret (results_none rfl _ _ _) rfl ?_
    exact ⟨rfl, HF.out, HK.out⟩
  · obtain ⟨m, Hm⟩ : ∃ m, Hid (hs.length = m) := ⟨_, rfl⟩
    rcases hI.read with ⟨_, he⟩ | ⟨qh, cap, hv, hqb, hql, hcell⟩
    · rw [he] at hne; exact absurd rfl hne
    injection hv with v1 v2 v3
    subst v1 v3
    obtain ⟨csH, hbH⟩ := hI.blkI (q := qh) rfl
    have hC : ∀ (i : Nat) (k : Int), hs[i]? = some k → csH[i]? = some (Value.int .i64 k) := fun i k h => by
      have h2 := hcell i k h
      have hB2 := hbH
      unfold Blk at hB2
      simpa [World.cell?, hB2] using h2
    rw [Hm.out] at hl hne ⊢
    have m1 : 1 ≤ m := by omega
    have cS := specShares n m w n0 n1 m1 (by omega)
    obtain ⟨RA, HRA⟩ : ∃ R, Hid (R = shA n m 0 (hs.drop 0) fa) := ⟨_, rfl⟩
    obtain ⟨RT, HRT⟩ : ∃ R, Hid (R = s + (n - shT n m 0 (hs.drop 0) fa)) := ⟨_, rfl⟩
    rw [show shA n m 0 hs fa = RA from HRA.out.symm, show s + (n - shT n m 0 hs fa) = RT from HRT.out.symm]
    have HW : Hid (VS w base g ⟨pu, uc, f, fc, some ⟨ga, 0, none⟩, ac, q, qc, r, rc⟩ ⟨t, s, us, fs, fa, se, oo⟩) := hw
    have H4 : Hid (fa.length = 4) := h4
    have HU : Hid (∀ f ∈ fa, inb f.c0 0 1000000 = true) := hpur
    have HK : Hid (∀ k ∈ hs, 0 ≤ k ∧ k ≤ 3) := hk
    have HH : Hid (Blk w qh csH 2) := hbH
    have HHC : Hid (∀ (i : Nat) (k : Int), hs[i]? = some k → csH[i]? = some (Value.int .i64 k)) := hC
    have hm0 : ((m : Int) == 0) = false := by simp; omega
    clear hw hI hpur hk h4 hcell hbH hC v2
    go_enter Tryz.func62, Tryz.ntmps62
    go_wp2_with fail
    refine cS.mono ?_
    rintro e w3 ⟨qs, cs, rfl, hq, hL, b3⟩
    obtain ⟨curS, hgS, rS⟩ := hL
    have HS3 : Hid (Blk w3 qs curS 2) := hgS
    have HSC : Hid (∀ wr, Blk wr qs curS 2 → Lst wr qs cs (Nums.shTo n m m)) := fun wr h => ⟨curS, h, rS⟩
    have HH3 : Hid (Blk w3 qh csH 2) := HH.out.below b3
    have HW3 := HW.out.later b3
    have hb3 : base ≤ w3.heap.size := Nat.le_trans hb b3.size
    have K03 : KT TQ base w w3 := KT.of_below hb b3
    clear hgS rS cS
    go_wp2_with fail
    go_loopw [7] (fun j wr => ∃ (i : Nat) (fi : List KA) (si : Int), j = .int .i64 i ∧ i ≤ m ∧ Hid (RA = shA n m i (hs.drop i) fi) ∧ Hid (RT = si + (n - Nums.sumTo n m i) - shT n m i (hs.drop i) fi) ∧ Hid (fi.length = 4) ∧ Hid (∀ f ∈ fi, inb f.c0 0 1000000 = true) ∧ Hid (VS wr base g ⟨pu, uc, f, fc, some ⟨ga, 0, none⟩, ac, q, qc, r, rc⟩ ⟨t, si, us, fs, fi, se, oo⟩) ∧ KT TQ base w3 wr ∧ 0 ≤ si ∧ si ≤ 100000000 + 1000001 * (i : Int)) (fun j _ => m - (intOf j).toNat)
    case atStart => exact ⟨0, fa, s, rfl, Nat.zero_le _, HRA, (by show _ = _; rw [HRT.out]; show _ = s + (n - 0) - _; omega), H4, HU, HW3, KT.refl _ _ _, by omega, by omega⟩
    case round =>
      obtain ⟨i, fi, si, rfl, hi, HA, HT, Hl, Hu, Hw, KK, b0, b1⟩ := hrel
      by_cases hlt : i < m
      · have hlt' : (i : Int) < (m : Int) := by omega
        obtain ⟨k, hx⟩ : ∃ k, hs[i]? = some k := ⟨_, List.getElem?_eq_getElem (by have := Hm.out; omega)⟩
        obtain ⟨k0, k3⟩ := HK.out k (List.mem_of_getElem? hx)
        have k4 : k < 4 := by omega
        have hBh := KK.blk HH3.out (by decide)
        have hBs := KK.blk HS3.out (by decide)
        obtain ⟨y, hy⟩ : ∃ y, fi[k.toNat]? = some y := ⟨_, List.getElem?_eq_getElem (by have := Hl.out; omega)⟩
        obtain ⟨y0, y1⟩ := inb_i (Hu.out y (List.mem_of_getElem? hy))
        obtain ⟨sh0, sh1⟩ := Nums.shAt_bd n m i m1 n0 n1
        obtain ⟨ga', hpa, hgb', hgl', hat, _, hfz⟩ := Hw.out.o.a.blk0 (show 0 < fi.length by have := Hl.out; omega)
        dsimp only at hpa
        obtain rfl : ga = ga' := by have := Option.some.inj hpa; injection this
        obtain ⟨csA, hbA⟩ := Hw.out.o.a.blk (q := ga) rfl
        have keep : ∀ w', Below wr.heap.size wr w' → w'.cell? ⟨g, 1, none⟩ = some (.int .i64 si) ∧ w'.cell? ⟨g, 4, none⟩ = some (.slice (some ⟨ga, 0, none⟩) 4 ac) ∧ w'.cell? ⟨qh, i, none⟩ = some (.int .i64 k) ∧ w'.cell? ⟨qs, i, none⟩ = some (.int .i64 (Nums.shAt n m i)) ∧ w'.cell? ⟨ga, k.toNat * 3, none⟩ = some (.int .i64 y.c0) ∧ w'.frozen? ⟨g, 1, none⟩ = false ∧ w'.frozen? ⟨ga, k.toNat * 3, none⟩ = false ∧ g < w'.heap.size ∧ qh < w'.heap.size ∧ qs < w'.heap.size ∧ ga < w'.heap.size := fun w' h => by
          have q1 := Hw.out.later h
          have c4 : w'.cell? ⟨g, 4, none⟩ = some (.slice (some ⟨ga, 0, none⟩) fi.length ac) := q1.b.cell (i := 4) rfl
          rw [Hl.out] at c4
          have ya := ((hat.later hgl' h).one (Nat.lt_of_lt_of_le hgl' h.size) hy).c0
          rw [Nat.zero_add] at ya
          have hs2 := HSC.out w' (hBs.below h)
          exact ⟨q1.b.cell (i := 1) rfl, c4, (hBh.below h).cell (HHC.out _ _ hx), hs2.cell (Nums.shTo_get _ _ _ _ hlt), ya, q1.b.frozen 1, (hbA.below h).frozen _, q1.b.lt, (hBh.below h).lt, (hBs.below h).lt, (hbA.below h).lt⟩
        have hpur : purA fi k = y.c0 := pur_get hy
        obtain ⟨tk, Htk⟩ : ∃ tk, Hid (tk = mn (Nums.shAt n m i) (1000000 - y.c0)) := ⟨_, rfl⟩
        have htk : tkP n m i fi k = tk := by unfold tkP; rw [hpur]; exact Htk.out.symm
        obtain ⟨t1, t2, _⟩ := mn_bd (Nums.shAt n m i) (1000000 - y.c0)
        have t0 : 0 ≤ mn (Nums.shAt n m i) (1000000 - y.c0) := by
          obtain ⟨_, _, h⟩ := mn_bd (Nums.shAt n m i) (1000000 - y.c0)
          omega
        have qM : ∀ w, Calls Tryz.prog 100 #[.int .i64 (Nums.shAt n m i), .int .i64 (1000000 - y.c0)] w fun e w' => e = .returned (.int .i64 tk) ∧ w' = w := fun w => by rw [Htk.out]; exact specMin _ _ w
        rw [← Htk.out] at t0 t1 t2
        have HA2 : Hid (RA = shA n m (i + 1) (hs.drop (i + 1)) (setP fi k (y.c0 + tk))) := by
          show _ = _
          rw [HA.out, drop_cons hx]
          show shA n m (i + 1) (hs.drop (i + 1)) (setP fi k (purA fi k + tkP n m i fi k)) = _
          rw [htk, hpur]
        have HT2 : Hid (RT = (si + Nums.shAt n m i - tk) + (n - Nums.sumTo n m (i + 1)) - shT n m (i + 1) (hs.drop (i + 1)) (setP fi k (y.c0 + tk))) := by
          show _ = _
          rw [HT.out, drop_cons hx]
          show si + (n - Nums.sumTo n m i) - (tkP n m i fi k + shT n m (i + 1) (hs.drop (i + 1)) (setP fi k (purA fi k + tkP n m i fi k))) = si + Nums.shAt n m i - tk + (n - (Nums.sumTo n m i + Nums.shAt n m i)) - _
          rw [htk, hpur]; omega
        have Hl2 : Hid ((setP fi k (y.c0 + tk)).length = 4) := by show _ = _; rw [setP_len]; exact Hl.out
        have Hu2 : Hid (∀ f ∈ setP fi k (y.c0 + tk), inb f.c0 0 1000000 = true) := setP_in Hu.out (by omega) (by omega)
        have HF : Hid (∀ w', Below wr.heap.size wr w' → VS (w'.setCell ⟨ga, k.toNat * 3, none⟩ (.int .i64 (y.c0 + tk))) base g ⟨pu, uc, f, fc, some ⟨ga, 0, none⟩, ac, q, qc, r, rc⟩ ⟨t, si, us, fs, setP fi k (y.c0 + tk), se, oo⟩ ∧ KT TQ base w3 (w'.setCell ⟨ga, k.toNat * 3, none⟩ (.int .i64 (y.c0 + tk)))) := fun w' h =>
          ⟨(Hw.out.later h).setA rfl (k.toNat * 3) _ _ (by have := Hl.out; dsimp only; omega) (setP_flat hy), (KK.step (Nat.le_trans hb3 KK.size) h).set (hbA.below h) (by decide) hgb (k.toNat * 3) _⟩
        have HSh : Hid (∀ w', KT TQ base w3 w' → w'.cell? ⟨qs, i, none⟩ = some (.int .i64 (Nums.shAt n m i)) ∧ qs < w'.heap.size) := fun w' h => by
          have hB := h.blk HS3.out (by decide)
          exact ⟨(HSC.out w' hB).cell (Nums.shTo_get _ _ _ _ hlt), hB.lt⟩
        generalize Nums.shAt n m i = sh at keep qM HT2 HSh sh0 sh1 t1
        have hw1 : IntKind.i64.wrap (1000000 - y.c0) = 1000000 - y.c0 := by rw [IntKind.wrap_i64]; omega
        have hw2 : IntKind.i64.wrap (y.c0 + tk) = y.c0 + tk := by rw [IntKind.wrap_i64]; omega
        have hw3 : IntKind.i64.wrap (si + sh) = si + sh := by rw [IntKind.wrap_i64]; omega
        have hw4 : IntKind.i64.wrap (si + sh - tk) = si + sh - tk := by rw [IntKind.wrap_i64]; omega
        have Bc : Below wr.heap.size wr wr := Below.refl _ _
        have Hi4 : Hid (i < m ∧ sh ≤ 1000001 ∧ 0 ≤ tk ∧ tk ≤ sh) := ⟨hlt, by omega, t0, t1⟩
        clear hx hpur htk hat hfz hBh hBs hbA hy
        obtain ⟨c1, c4, ch, cs', ca, z1, za, l1, l2, l3, l4⟩ := keep _ Bc
        go_wp2_with fail
        go_quiet (fail)
        have Bc := Bc.trans ((below_drewN _ nq).mono Bc.size)
        obtain ⟨W6, HW6⟩ : ∃ W6, Hid (W6 = wr.drewN nq) := ⟨_, rfl⟩
        rw [← HW6.out] at Bc ⊢
        clear c1 c4 ch cs' ca z1 za l1 l2 l3 l4
        obtain ⟨c1, c4, ch, cs', ca, z1, za, l1, l2, l3, l4⟩ := keep _ Bc
        go_upto_region 7 with fail
        go_quiet (first | (go_at_call 100; refine (qM _).mono (fun _ _ h => ⟨h.1, _, h.2⟩)))
        have Bc := Bc.trans ((below_drewN _ nq).mono Bc.size)
        obtain ⟨W7, HW7⟩ : ∃ W7, Hid (W7 = W6.drewN nq) := ⟨_, rfl⟩
        rw [← HW7.out] at Bc ⊢
        clear c1 c4 ch cs' ca z1 za l1 l2 l3 l4
        obtain ⟨c1, c4, ch, cs', ca, z1, za, l1, l2, l3, l4⟩ := keep _ Bc
        obtain ⟨V8, K8⟩ := HF.out _ Bc
        obtain ⟨W8, HW8⟩ : ∃ W8, Hid (W8 = W7.setCell ⟨ga, k.toNat * 3, none⟩ (.int .i64 (y.c0 + tk))) := ⟨_, rfl⟩
        rw [← HW8.out] at V8 K8
        obtain ⟨e3, e4⟩ := HSh.out _ K8
        have e1 : W8.cell? ⟨g, 1, none⟩ = some (.int .i64 si) := V8.b.cell (i := 1) rfl
        have e2 := V8.b.frozen 1
        have e5 := V8.b.lt
        have HV9 : Hid _ := (V8.setS (si + sh - tk)).drew
        have HK9 : Hid _ := (K8.set V8.b (by decide) V8.bg 1 (.int .i64 (si + sh - tk))).drew
        go_upto_region 9 with fail
        rw [← HW8.out]
        clear c1 c4 ch cs' ca z1 za l1 l2 l3 l4 V8 K8 keep qM HF HSh Hl Hu Hw HA HT
        go_region
        all_goals
          go_wp2_with fail
          go_roundw
          case rel => exact ⟨i + 1, _, _, by go_num, by omega, HA2, HT2, Hl2, Hu2, HV9.out, HK9.out, by omega, by omega⟩
          case measure => simp [intOf]; omega
      · obtain rfl : i = m := by omega
        have hlt' : ¬ (i : Int) < (i : Int) := by omega
        have hd : hs.drop i = [] := List.drop_of_length_le (by have := Hm.out; omega)
        have e1 : Hid (RA = fi) := by show _ = _; rw [HA.out, hd]; rfl
        have e2 : Hid (RT = si) := by show _ = _; rw [HT.out, hd, Nums.sumTo_all n i m1 n0]; show si + (n - n) - 0 = si; omega
        clear hd
        go_wp2_with fail
        go_end0
        exact ⟨rfl, by rw [e1.out, e2.out]; exact Hw.out, K03.trans KK⟩
end Go.Proofs.YtlfnnobkgbfdgaaGreat
end

/- SeatsSpec -/
/- The contracts of l8Seats and l7Without of the model; append of one seat or offer behind a slice of one's own. Condition: the list lies in memory as it was laid there. -/
section
namespace Go.Proofs.YtlfnnobkgbfdgaaGreat
open Go.ChangeShapes Go.WideShapes Go.ChangeAt Go.RowKit
set_option linter.unusedVariables false

theorem wpList_pushS {ops : Array Oper} {rest : List Oper} {o : Oper} {a : Act} {Q : Exit → Act → World → Prop} (hgd : o.guard = none) (s x : Operand)
    (ho : o.op = .call { callee := .builtin .append, args := #[s, x], argTypes := #[29, 29] }) (w0 : World) (u : K4) (base : Nat) (v : Value) (l : List K4) (hs : a.eval s = v) (hown : SlS w0 base v l)
    (hx : a.eval x = .slice (some ⟨w0.heap.size, 0, none⟩) 1 1) (hlen : l.length ≤ 100) (hbase : base ≤ w0.heap.size)
    (h : ∀ v' w', SlS w' base v' (l ++ [u]) → Below base w0 w' → wpList Tryz.prog ops Q rest (a.put o.dst v') w') :
    wpList Tryz.prog ops Q (o :: rest) a (w0.alloc (.cells u.v 74)) := by
  obtain ⟨i0, hi, hz0, hz1, hz2⟩ := info_parts infoS
  have hown' : SlS (w0.alloc (.cells u.v 74)) base v l := hown.below ((Below.refl _ _).alloc (Nat.le_refl _) _)
  refine wpList_append_own _ hgd s x 29 ho base 74 i0 (.agg K4.z.v) 4 32 Tryz.underlying29 hi hz0 hz1 hz2 rfl (by decide) v l.length _ hs hown' ⟨w0.heap.size, 0, none⟩ 1 1 u.v.toList hx (by rfl) ?_ ?_ (by unfold maxLen; omega) (by omega) (by rw [size_new]; omega) ?_
  · intro j y hj
    rw [add_plain', Nat.zero_add]
    exact cell_new _ _ _ _ _ (by simpa using hj)
  · intro y hy
    exact flatS_one [u] y (by unfold flatS; exact List.mem_append_left _ hy)
  · intro v' w' h1 h2 _
    refine h v' w' ?_ (((Below.refl base w0).alloc hbase _).grown h2 (by rw [size_new]; omega) (fun k' hk' => (hown.lt k' hk').1))
    unfold SlS
    rw [flatS_app, List.length_append]
    exact h1
theorem wpList_pushO {ops : Array Oper} {rest : List Oper} {o : Oper} {a : Act} {Q : Exit → Act → World → Prop} (hgd : o.guard = none) (s x : Operand)
    (ho : o.op = .call { callee := .builtin .append, args := #[s, x], argTypes := #[30, 30] }) (w0 : World) (u : K2) (base : Nat) (v : Value) (l : List K2) (hs : a.eval s = v) (hown : SlO w0 base v l)
    (hx : a.eval x = .slice (some ⟨w0.heap.size, 0, none⟩) 1 1) (hlen : l.length ≤ 100) (hbase : base ≤ w0.heap.size)
    (h : ∀ v' w', SlO w' base v' (l ++ [u]) → Below base w0 w' → wpList Tryz.prog ops Q rest (a.put o.dst v') w') :
    wpList Tryz.prog ops Q (o :: rest) a (w0.alloc (.cells u.v 77)) := by
  obtain ⟨i0, hi, hz0, hz1, hz2⟩ := info_parts infoO
  have hown' : SlO (w0.alloc (.cells u.v 77)) base v l := hown.below ((Below.refl _ _).alloc (Nat.le_refl _) _)
  refine wpList_append_own _ hgd s x 30 ho base 77 i0 (.agg K2.z.v) 2 16 Tryz.underlying30 hi hz0 hz1 hz2 rfl (by decide) v l.length _ hs hown' ⟨w0.heap.size, 0, none⟩ 1 1 u.v.toList hx (by rfl) ?_ ?_ (by unfold maxLen; omega) (by omega) (by rw [size_new]; omega) ?_
  · intro j y hj
    rw [add_plain', Nat.zero_add]
    exact cell_new _ _ _ _ _ (by simpa using hj)
  · intro y hy
    exact flatO_one [u] y (by unfold flatO; exact List.mem_append_left _ hy)
  · intro v' w' h1 h2 _
    refine h v' w' ?_ (((Below.refl base w0).alloc hbase _).grown h2 (by rw [size_new]; omega) (fun k' hk' => (hown.lt k' hk').1))
    unfold SlO
    rw [flatO_app, List.length_append]
    exact h1
theorem seF'_step {a : Int} {l : List K4} {k : Nat} {s : K4} (h : l[k]? = some s) : seF' a (l.take (k + 1)) = seF' a (l.take k) ++ (if (s.c1 == a) = true then [] else [s]) := by
  unfold seF'
  rw [List.take_add_one, h, List.filter_append]
  cases e : s.c1 == a <;> simp [e]
theorem ooF'_step {a : Int} {l : List K2} {k : Nat} {s : K2} (h : l[k]? = some s) : ooF' a (l.take (k + 1)) = ooF' a (l.take k) ++ (if (s.c0 == a || s.c1 == a) = true then [] else [s]) := by
  unfold ooF'
  rw [List.take_add_one, h, List.filter_append]
  cases e : s.c0 == a <;> cases e2 : s.c1 == a <;> simp [e, e2]
theorem filt_le {α : Type} (p : α → Bool) (l : List α) (k : Nat) : ((l.take k).filter p).length ≤ l.length :=
  Nat.le_trans (List.length_filter_le _ _) (by rw [List.length_take]; exact Nat.min_le_right _ _)
set_option maxHeartbeats 4000000 in
theorem l8Seats_c (q : Option Addr) (m qc : Nat) (l : List K4) (a : Int) (hl : l.length = m) (hm : m ≤ 100) (w : World) (hS : ArgS w q l) :
    Calls Tryz.prog 65 #[.slice q m qc, .int .i64 a] w fun e w' => ∃ v, e = .returned v ∧ SlS w' w.heap.size v (seF' a l) ∧ Below w.heap.size w w' := by
  have Hl : Hid (l.length = m) := hl
  have HS : Hid (ArgS w q l) := hS
  clear hl hS
  go_enter Tryz.func65, Tryz.ntmps65
  go_wp2_with fail
  go_loopw [5, 6] (fun v j wr => ∃ k : Nat, k ≤ m ∧ j = .int .i64 k ∧ Hid (SlS wr w.heap.size v (seF' a (l.take k))) ∧ Below w.heap.size w wr) (fun _ j _ => m - (intOf j).toNat)
  case atStart => exact ⟨0, Nat.zero_le _, rfl, World.ownsRow_made w #[] 0 (Nat.le_refl _) (by unfold maxLen; omega) rfl, (Below.refl _ _).alloc (Nat.le_refl _) _⟩
  case round =>
    obtain ⟨k, hk, rfl, Hown, kb⟩ := hrel
    by_cases hlt : k < m
    · have hlt' : (k : Int) < (m : Int) := by omega
      obtain ⟨x, hx⟩ : ∃ x, l[k]? = some x := ⟨_, List.getElem?_eq_getElem (by have := Hl.out; omega)⟩
      obtain ⟨b, off, rfl, hb, hat⟩ := HS.out.at hx
      obtain ⟨x0, x1, x2, x3, xl⟩ := (hat.later hb kb).one (Nat.lt_of_lt_of_le hb kb.size) hx
      have Hst : Hid (seF' a (l.take (k + 1)) = _) := seF'_step hx
      have hlen : (seF' a (l.take k)).length ≤ 100 := Nat.le_trans (filt_le _ l k) (by rw [Hl.out]; exact hm)
      clear hx hat
      cases e1 : x.c1 == a
      · have hq' : (x.c1 != a) = true := by simp only [bne, e1]; rfl
        have hown := Hown.out
        go_wp2_with (first | (at_builtin; refine wpList_pushS rfl _ _ rfl _ x w.heap.size _ (seF' a (l.take k)) rfl (by exact hown) rfl hlen (by exact kb.size) ?_))
        intro v5 w5 hS5 hb5
        have HS5 : Hid (SlS w5 w.heap.size v5 (seF' a (l.take (k + 1)))) := by show SlS _ _ _ _; rw [Hst.out, e1]; exact hS5
        have kb5 := kb.trans hb5
        clear hown hS5
        go_wp2_with fail
        go_roundw
        case rel => exact ⟨k + 1, by omega, by go_num, HS5, kb5⟩
        case measure => simp [intOf]; omega
      · have hq' : (x.c1 != a) = false := by simp only [bne, e1]; rfl
        have HS5 : Hid (SlS wr w.heap.size u5 (seF' a (l.take (k + 1)))) := by show SlS _ _ _ _; rw [Hst.out, e1]; simpa using Hown.out
        clear Hown
        go_wp2_with fail
        go_roundw
        case rel => exact ⟨k + 1, by omega, by go_num, HS5, kb⟩
        case measure => simp [intOf]; omega
    · obtain rfl : m = k := by omega
      have hlt' : ¬ (m : Int) < (m : Int) := by omega
      have ho := Hown.out
      rw [List.take_of_length_le (by rw [Hl.out]; exact Nat.le_refl _)] at ho
      clear Hown
      go_wp2_with fail
      go_ret
      exact ⟨_, rfl, ho, kb⟩
set_option maxHeartbeats 4000000 in
theorem l7Without_c (q : Option Addr) (m qc : Nat) (l : List K2) (a : Int) (hl : l.length = m) (hm : m ≤ 100) (w : World) (hS : ArgO w q l) :
    Calls Tryz.prog 64 #[.slice q m qc, .int .i64 a, .int .i64 (-1)] w fun e w' => ∃ v, e = .returned v ∧ SlO w' w.heap.size v (ooF' a l) ∧ Below w.heap.size w w' := by
  have Hl : Hid (l.length = m) := hl
  have HS : Hid (ArgO w q l) := hS
  clear hl hS
  go_enter Tryz.func64, Tryz.ntmps64
  go_wp2_with fail
  go_loopw [7, 8] (fun v j wr => ∃ k : Nat, k ≤ m ∧ j = .int .i64 k ∧ Hid (SlO wr w.heap.size v (ooF' a (l.take k))) ∧ Below w.heap.size w wr) (fun _ j _ => m - (intOf j).toNat)
  case atStart => exact ⟨0, Nat.zero_le _, rfl, World.ownsRow_made w #[] 0 (Nat.le_refl _) (by unfold maxLen; omega) rfl, (Below.refl _ _).alloc (Nat.le_refl _) _⟩
  case round =>
    obtain ⟨k, hk, rfl, Hown, kb⟩ := hrel
    by_cases hlt : k < m
    · have hlt' : (k : Int) < (m : Int) := by omega
      obtain ⟨x, hx⟩ : ∃ x, l[k]? = some x := ⟨_, List.getElem?_eq_getElem (by have := Hl.out; omega)⟩
      obtain ⟨b, off, rfl, hb, hat⟩ := HS.out.at hx
      obtain ⟨x0, x1, xl⟩ := (hat.later hb kb).one (Nat.lt_of_lt_of_le hb kb.size) hx
      have Hst : Hid (ooF' a (l.take (k + 1)) = _) := ooF'_step hx
      have hlen : (ooF' a (l.take k)).length ≤ 100 := Nat.le_trans (filt_le _ l k) (by rw [Hl.out]; exact hm)
      clear hx hat
      obtain ⟨W5, HW5⟩ : ∃ W5, Hid (W5 = wr.alloc (.cells #[.int .i64 x.c0, .int .i64 x.c1] 77)) := ⟨_, rfl⟩
      have k5 : Below wr.heap.size wr W5 := by rw [HW5.out]; exact (Below.refl _ _).alloc (Nat.le_refl _) _
      have B5 : Blk W5 wr.heap.size #[.int .i64 x.c0, .int .i64 x.c1] 77 := by rw [HW5.out]; exact Blk.new wr _ _
      have z0 : W5.cell? ⟨wr.heap.size, 0, none⟩ = some (.int .i64 x.c0) := B5.cell rfl
      have z1 : W5.cell? ⟨wr.heap.size, 1, none⟩ = some (.int .i64 x.c1) := B5.cell rfl
      have zl := B5.lt
      have ho5 := Hown.out.below k5
      have kb5 := kb.trans (k5.mono kb.size)
      clear B5 Hown k5
      have fin0 : (x.c0 == a || x.c1 == a) = true → Hid (SlO W5 w.heap.size u7 (ooF' a (l.take (k + 1)))) := fun e => by show SlO _ _ _ _; rw [Hst.out, if_pos e]; simpa using ho5
      cases e1 : x.c0 == a
      · cases e2 : x.c1 == a
        · have Hne : Hid ((x.c0 == a || x.c1 == a) = false) := by show _ = _; rw [e1, e2]; rfl
          clear fin0
          go_upto_region 6 with fail
          rw [← HW5.out]
          go_wp2_with (first | (at_builtin; refine wpList_pushO rfl _ _ rfl _ x w.heap.size _ (ooF' a (l.take k)) rfl (by exact ho5) rfl hlen (by exact kb5.size) ?_))
          intro v6 w6 hS6 hb6
          have HS6 : Hid (SlO w6 w.heap.size v6 (ooF' a (l.take (k + 1)))) := by show SlO _ _ _ _; rw [Hst.out, Hne.out]; exact hS6
          have kb6 := kb5.trans hb6
          clear ho5 hS6
          go_wp2_with fail
          go_roundw
          case rel => exact ⟨k + 1, by omega, by go_num, HS6, kb6⟩
          case measure => simp [intOf]; omega
        · have HS6 := fin0 (by rw [e1, e2]; rfl)
          clear fin0 ho5
          go_upto_region 6 with fail
          rw [← HW5.out]
          go_wp2_with fail
          go_roundw
          case rel => exact ⟨k + 1, by omega, by go_num, HS6, kb5⟩
          case measure => simp [intOf]; omega
      · have HS6 := fin0 (by rw [e1]; rfl)
        clear fin0 ho5
        go_upto_region 6 with fail
        rw [← HW5.out]
        go_wp2_with fail
        go_roundw
        case rel => exact ⟨k + 1, by omega, by go_num, HS6, kb5⟩
        case measure => simp [intOf]; omega
    · obtain rfl : m = k := by omega
      have hlt' : ¬ (m : Int) < (m : Int) := by omega
      have ho := Hown.out
      rw [List.take_of_length_le (by rw [Hl.out]; exact Nat.le_refl _)] at ho
      clear Hown
      go_wp2_with fail
      go_ret
      exact ⟨_, rfl, ho, kb⟩
end Go.Proofs.YtlfnnobkgbfdgaaGreat
end
