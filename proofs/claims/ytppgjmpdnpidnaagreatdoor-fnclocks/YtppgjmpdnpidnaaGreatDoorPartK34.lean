/- Texts of mine put together (a claim holds at most 60 files): ClockImpl. -/
import Derived.Test.YtppgjmpdnpidnaaGreatDoorPartK24
import Derived.Test.YtppgjmpdnpidnaaGreatDoorPartK32
import Derived.Test.YtppgjmpdnpidnaaGreatDoorPartK23
import Derived.Test.YtppgjmpdnpidnaaGreatDoorPartK33

/- ClockImpl -/
/- The contracts of RoomsOf and TickWorld, the program's. Condition: the world's lists lie in memory as they were laid there; for TickWorld: the homes lie in their variable. -/
section
namespace Go.Proofs.YtppgjmpdnpidnaaGreatDoor
open Go.ChangeShapes Go.WideShapes Go.ChangeAt Go.RowKit
open Bd
set_option linter.unusedVariables false

abbrev zk2 : Array Value := #[.int .i64 0, .slice none 0 0]
abbrev setk2 (W : World) (g : Nat) (v0 v1 : Value) : World := (W.setCell ⟨g, 0, none⟩ v0).setCell ⟨g, 1, none⟩ v1
theorem setk2_blk {W : World} {g : Nat} {c0 c1 : Value} {t : TypeId} (h : Blk W g #[c0, c1] t) (v0 v1 : Value) : Blk (setk2 W g v0 v1) g #[v0, v1] t := by
  have q0 : Blk _ g #[v0, c1] t := h.set 0 v0
  have q1 : Blk _ g #[v0, v1] t := q0.set 1 v1
  exact q1
theorem setk2_below {n : Nat} {w W : World} {g : Nat} (h : Below n w W) (hg : n ≤ g) (v0 v1 : Value) : Below n w (setk2 W g v0 v1) :=
  bel_set (bel_set (h) g 0 hg v0) g 1 hg v1
structure Zk2 (w : World) (g : Nat) : Prop where
  c0 : w.cell? ⟨g, 0, none⟩ = some (.int .i64 0)
  c1 : w.cell? ⟨g, 1, none⟩ = some (.slice none 0 0)
  f0 : w.frozen? ⟨g, 0, none⟩ = false
  f1 : w.frozen? ⟨g, 1, none⟩ = false
  lt : g < w.heap.size
theorem Blk.zk2 {w : World} {g : Nat} {t : TypeId} (h : Blk w g zk2 t) : Zk2 w g :=
  ⟨h.cell rfl, h.cell rfl, h.frozen _, h.frozen _, h.lt⟩
theorem resultk2 {w : World} {p : Nat} {v0 v1 : Value} {fn : Func} {k : Nat} (hf : fn.results = #[.cell k 39]) (h : Blk w p #[v0, v1] 39) (T : Array Value) (hT : T[k]?.getD undef = .pointer (some ⟨p, 0, none⟩)) :
    (results fn T).run Tryz.prog w = .ok (.agg #[v0, v1]) w := by
  have c0 := h.cell (i := 0) rfl
  have c1 := h.cell (i := 1) rfl
  simp [results, hf, go_sem, hT, c0, c1]
/- rooms, the first k of them laid -/
def rmP (fa : List KA) (k : Nat) : List Int := (rmL fa).take k ++ z4.drop k
theorem rmP_step {fa : List KA} (h : fa.length = 4) {k : Nat} {y : KA} (hy : fa[k]? = some y) : (rmP fa k).set k (1000000 - y.c0) = rmP fa (k + 1) := by
  obtain ⟨a, b, c, d, rfl⟩ := four' h
  rcases k with _ | _ | _ | _ | k
  · cases hy; rfl
  · cases hy; rfl
  · cases hy; rfl
  · cases hy; rfl
  · simp at hy
theorem rmP_len {fa : List KA} (h : fa.length = 4) {k : Nat} (hk : k < 4) : (rmP fa k).length = 4 := by
  unfold rmP
  rw [List.length_append, List.length_take, List.length_drop, rmL_len, h]
  show min k 4 + (4 - k) = 4
  omega
theorem rmP_end {fa : List KA} (h : fa.length = 4) : rmP fa 4 = rmL fa := by
  obtain ⟨a, b, c, d, rfl⟩ := four' h
  rfl
/- purses with gains, the first k of them -/
def gnK (fa : List KA) (gn : List Int) (k : Nat) : List KA := (gnA fa gn).take k ++ fa.drop k
theorem gnK_step {fa : List KA} {gn : List Int} (h : fa.length = 4) (h' : gn.length = 4) {k : Nat} {y : KA} {d : Int} (hy : fa[k]? = some y) (hd : gn[k]? = some d) : (gnK fa gn k)[k]? = some y ∧ (flatA (gnK fa gn k)).set (k * 3) (.int .i64 (y.c0 + d)) = flatA (gnK fa gn (k + 1)) ∧ (gnK fa gn k).length = 4 := by
  obtain ⟨a, b, c, e, rfl⟩ := four' h
  obtain ⟨p, q, r, s, rfl⟩ := four h'
  rcases k with _ | _ | _ | _ | k
  · cases hy; cases hd; exact ⟨rfl, rfl, rfl⟩
  · cases hy; cases hd; exact ⟨rfl, rfl, rfl⟩
  · cases hy; cases hd; exact ⟨rfl, rfl, rfl⟩
  · cases hy; cases hd; exact ⟨rfl, rfl, rfl⟩
  · simp at hy
theorem gnK_end {fa : List KA} {gn : List Int} (h : fa.length = 4) (h' : gn.length = 4) : gnK fa gn 4 = gnA fa gn ∧ (gnK fa gn 0) = fa := by
  obtain ⟨a, b, c, e, rfl⟩ := four' h
  obtain ⟨p, q, r, s, rfl⟩ := four h'
  exact ⟨rfl, rfl⟩
theorem SlI.four {w : World} {base : Nat} {v : Value} {l : List Int} (h : SlI w base v l) (h4 : l.length = 4) : ∃ g cap, v = .slice (some ⟨g, 0, none⟩) 4 cap ∧ base ≤ g ∧ Lst w g cap l := by
  rcases h.cases with ⟨e, _⟩ | ⟨_, g, cap, e, hb, hL⟩
  · rw [e] at h4; cases h4
  · rw [h4] at e; exact ⟨g, cap, e, hb, hL⟩
theorem WS.mono {w : World} {base base' g : Nat} {p : WP} {x : KW} (h : WS w base g p x) (hb : base' ≤ base) : WS w base' g p x := ⟨h.b, h.o.mono hb, Nat.le_trans hb h.bg⟩
theorem WS.putS {w : World} {base g : Nat} {p : WP} {x : KW} (h : WS w base g p x) (v : Int) : WS (w.setCell ⟨g, 3, none⟩ (.int .i64 v)) base g p ⟨x.t, v, x.us, x.fs, x.fa, x.se, x.oo⟩ :=
  have q := h.o.setB h.b (by decide) (by decide) (by decide) (by decide) (by decide) 3 (.int .i64 v)
  ⟨h.b.set 3 (.int .i64 v), ⟨q.u, q.f, q.a, q.s, q.o⟩, h.bg⟩
theorem WS.putT {w : World} {base g : Nat} {p : WP} {x : KW} (h : WS w base g p x) (v : Int) : WS (w.setCell ⟨g, 2, none⟩ (.int .i64 v)) base g p ⟨v, x.s, x.us, x.fs, x.fa, x.se, x.oo⟩ :=
  have q := h.o.setB h.b (by decide) (by decide) (by decide) (by decide) (by decide) 2 (.int .i64 v)
  ⟨h.b.set 2 (.int .i64 v), ⟨q.u, q.f, q.a, q.s, q.o⟩, h.bg⟩
/- another board in a state -/
theorem WS.putB {w : World} {base g : Nat} {p : WP} {x : KW} (h : WS w base g p x) {pv pf : Option Addr} {cv cf : Nat} {us : List K10} {fs : List K3} (hu : SlU w base (.slice pv us.length cv) us) (hf : SlF w base (.slice pf fs.length cf) fs) :
    WS ((w.setCell ⟨g, 0, none⟩ (.slice pv us.length cv)).setCell ⟨g, 1, none⟩ (.slice pf fs.length cf)) base g ⟨pv, cv, pf, cf, p.a, p.ac, p.s, p.sc, p.o, p.oc⟩ ⟨x.t, x.s, us, fs, x.fa, x.se, x.oo⟩ := by
  have b0 := h.b.set 0 (.slice pv us.length cv)
  have b1 := b0.set 1 (.slice pf fs.length cf)
  exact ⟨b1, ⟨(hu.setB (o := 0) h.b (by decide) _).setB (o := 1) b0 (by decide) _, (hf.setB (o := 0) h.b (by decide) _).setB (o := 1) b0 (by decide) _, (h.o.a.setB (o := 0) h.b (by decide) _).setB (o := 1) b0 (by decide) _, (h.o.s.setB (o := 0) h.b (by decide) _).setB (o := 1) b0 (by decide) _, (h.o.o.setB (o := 0) h.b (by decide) _).setB (o := 1) b0 (by decide) _⟩, h.bg⟩
set_option maxHeartbeats 4000000 in
theorem isSpent_c (v : Int) (w : World) :
    Calls Tryz.prog 19 #[.int .i64 v] w fun e w' => e = .returned (.bool (inb v 0 100000000)) ∧ w' = w := by
  unfold inb
  by_cases h0 : 0 ≤ v
  · have h0' : decide (v ≥ 0) = true := decide_eq_true h0
    by_cases h1 : v ≤ 100000000
    · have e : (decide (0 ≤ v) && decide (v ≤ 100000000)) = true := by simp [h0, h1]
      go_enter Tryz.func19, Tryz.ntmps19
      go_wp2
      go_ret
      exact ⟨by simp [h0, h1], rfl⟩
    · go_enter Tryz.func19, Tryz.ntmps19
      go_wp2
      go_ret
      exact ⟨by simp [h1], rfl⟩
  · go_enter Tryz.func19, Tryz.ntmps19
    go_wp2
    go_ret
    exact ⟨by simp; omega, rfl⟩
set_option maxRecDepth 20000 in
set_option maxHeartbeats 16000000 in
theorem implRoomsOf (p : WP) (x : KW) (w : World) (h : InW w p x) :
    Calls Tryz.prog 7 #[.agg (p.v x)] w fun e w' => ∃ v, e = .returned (.agg #[.int .i64 (wf hasI x), v]) ∧ SlI w' w.heap.size v (rmV hasI x) ∧ Below w.heap.size w w' := by
  obtain ⟨t, s, us, fs, fa, se, oo⟩ := x
  obtain ⟨u, uc, f, fc, a, ac, q, qc, r, rc⟩ := p
  obtain ⟨W, HW⟩ : ∃ W, Hid (W = (w.alloc (.cells (wv t s u us.length uc f fs.length fc a fa.length ac q se.length qc r oo.length rc) 32)).alloc (.cells zk2 39)) := ⟨_, rfl⟩
  have B1 : Below w.heap.size w W := by rw [HW.out]; exact ((Below.refl _ _).alloc (Nat.le_refl _) _).alloc (by rw [size_new]; omega) _
  have P : Bk W w.heap.size (wv t s u us.length uc f fs.length fc a fa.length ac q se.length qc r oo.length rc) 32 := by rw [HW.out]; exact (Bk.new w (wv t s u us.length uc f fs.length fc a fa.length ac q se.length qc r oo.length rc) 32).alloc _
  have R : Blk W (w.heap.size + 1) zk2 39 := by rw [HW.out]; have h := Blk.new (w.alloc (.cells (wv t s u us.length uc f fs.length fc a fa.length ac q se.length qc r oo.length rc) 32)) zk2 39; rw [size_new] at h; exact h
  have HN : Hid (InW W ⟨u, uc, f, fc, a, ac, q, qc, r, rc⟩ ⟨t, s, us, fs, fa, se, oo⟩) := h.later B1
  have HR : Hid (Blk W (w.heap.size + 1) zk2 39) := R
  have hB := B1.size
  show Calls Tryz.prog 7 #[.agg (wv t s u us.length uc f fs.length fc a fa.length ac q se.length qc r oo.length rc)] w _
  have cF := fun W' (h : Below W.heap.size W W') => implWorldFault ⟨u, uc, f, fc, a, ac, q, qc, r, rc⟩ ⟨t, s, us, fs, fa, se, oo⟩ HN.out.o1 HN.out.o2 W' (HN.out.later h).arg
  replace cF : ∀ W', Below W.heap.size W W' → Calls Tryz.prog 11 #[.agg (wv t s u us.length uc f fs.length fc a fa.length ac q se.length qc r oo.length rc)] W' fun e w' => e = .returned (.int .i64 (wf hasI ⟨t, s, us, fs, fa, se, oo⟩)) ∧ Below W'.heap.size W' w' := cF
  have HV : Hid (rmV hasI ⟨t, s, us, fs, fa, se, oo⟩ = if (wf hasI ⟨t, s, us, fs, fa, se, oo⟩ == 0) = true then rmL fa else []) := rfl
  have HG : Hid (wf hasI ⟨t, s, us, fs, fa, se, oo⟩ = 0 → GdW hasI ⟨t, s, us, fs, fa, se, oo⟩) := (gdW_iff hasI _).1
  generalize rmV hasI ⟨t, s, us, fs, fa, se, oo⟩ = L at HV ⊢
  generalize wf hasI ⟨t, s, us, fs, fa, se, oo⟩ = F at cF HV HG ⊢
  obtain ⟨mu, Hmu⟩ : ∃ m, Hid (us.length = m) := ⟨_, rfl⟩
  obtain ⟨mf, Hmf⟩ : ∃ m, Hid (fs.length = m) := ⟨_, rfl⟩
  obtain ⟨ma, Hma⟩ : ∃ m, Hid (fa.length = m) := ⟨_, rfl⟩
  obtain ⟨ms, Hms⟩ : ∃ m, Hid (se.length = m) := ⟨_, rfl⟩
  obtain ⟨mo, Hmo⟩ : ∃ m, Hid (oo.length = m) := ⟨_, rfl⟩
  rw [Hmu.out, Hmf.out, Hma.out, Hms.out, Hmo.out] at P HW cF ⊢
  clear h R
  have keep : ∀ w', Below W.heap.size W w' → w'.cell? ⟨w.heap.size, 0, none⟩ = some (.int .i64 t) ∧ w'.cell? ⟨w.heap.size, 1, none⟩ = some (.int .i64 s) ∧ w'.cell? ⟨w.heap.size, 2, none⟩ = some (.slice u mu uc) ∧ w'.cell? ⟨w.heap.size, 3, none⟩ = some (.slice f mf fc) ∧ w'.cell? ⟨w.heap.size, 4, none⟩ = some (.slice a ma ac) ∧ w'.cell? ⟨w.heap.size, 5, none⟩ = some (.slice q ms qc) ∧ w'.cell? ⟨w.heap.size, 6, none⟩ = some (.slice r mo rc) ∧ w.heap.size < w'.heap.size := fun w' hb => by
    have q := P.below hb
    exact ⟨q.cell rfl, q.cell rfl, q.cell rfl, q.cell rfl, q.cell rfl, q.cell rfl, q.cell rfl, q.lt⟩
  have Bc : Below W.heap.size W W := Below.refl _ _
  obtain ⟨p0, p1, p2, p3, p4, p5, p6, pl⟩ := keep _ Bc
  cases e2 : F == 0
  · have n7 : (F != 0) = true := by simp only [bne, e2]; rfl
    have HL : Hid (L = []) := by show _ = _; rw [HV.out, e2]; rfl
    clear HV HG e2
    go_enter Tryz.func7, Tryz.ntmps7
    go_upto_region 1 with fail
    rw [← HW.out]
    go_wp2_with fail
    refine (cF _ Bc).mono ?_
    rintro e wn ⟨rfl, kn⟩
    have Bc := Bc.trans (kn.mono Bc.size)
    clear p0 p1 p2 p3 p4 p5 p6 pl
    have R1 := HR.out.below Bc
    obtain ⟨r0, r1, y0, y1, rl⟩ := R1.zk2
    have Fz := setk2_blk R1 (.int .i64 F) (.slice none 0 0)
    have BE := setk2_below (B1.trans (Bc.mono hB)) (show w.heap.size ≤ w.heap.size + 1 by omega) (.int .i64 F) (.slice none 0 0)
    clear R1
    go_wp2_with fail
    rw [HL.out]
    exact bodyPost_ret (v := .agg #[.int .i64 F, .slice none 0 0]) (resultk2 Tryz.results7 Fz _ rfl) rfl ⟨_, rfl, SlI.nil _ _, BE⟩
  · obtain rfl : F = 0 := by simpa using e2
    have G := HG.out rfl
    have HL : Hid (L = rmL fa) := by show _ = _; rw [HV.out]; rfl
    have h4 : fa.length = 4 := G.a4
    have hm4 : ma = 4 := by rw [← Hma.out]; exact h4
    subst hm4
    have Hp : Hid (∀ f ∈ fa, inb f.c0 0 1000000 = true) := purse_in G
    have H4 : Hid (fa.length = 4) := h4
    have HW2 : Hid (W.heap.size = w.heap.size + 2) := by show _ = _; rw [HW.out, size_new, size_new]
    have hmk := fun W => make4 W
    clear HV HG e2 G h4
    go_enter Tryz.func7, Tryz.ntmps7
    go_upto_region 1 with fail
    rw [← HW.out]
    go_wp2_with fail
    refine (cF _ Bc).mono ?_
    rintro e wn ⟨rfl, kn⟩
    have Bc := Bc.trans (kn.mono Bc.size)
    clear p0 p1 p2 p3 p4 p5 p6 pl
    obtain ⟨p0, p1, p2, p3, p4, p5, p6, pl⟩ := keep _ Bc
    have K0 : Below W.heap.size W (wn.alloc G4) := Bc.alloc Bc.size _
    have L0 : Lst (wn.alloc G4) wn.heap.size 4 (rmP fa 0) := g4_new wn
    have hRb : W.heap.size ≤ wn.heap.size := Bc.size
    obtain ⟨Wk, HWk⟩ : ∃ Wk, Hid (Wk = wn.alloc G4) := ⟨_, rfl⟩
    rw [← HWk.out] at K0 L0
    obtain ⟨R, HRr⟩ : ∃ R, Hid (R = wn.heap.size) := ⟨_, rfl⟩
    rw [← HRr.out] at L0 hRb
    go_upto_region 5 with fail
    rw [← HWk.out, ← HRr.out]
    clear p0 p1 p2 p3 p4 p5 p6 pl
    have Bc := K0
    obtain ⟨p0, p1, p2, p3, p4, p5, p6, pl⟩ := keep _ Bc
    go_wp2_with fail
    go_loopw [17] (fun iv wr => ∃ k : Nat, k ≤ 4 ∧ iv = .int .i64 k ∧ Lst wr R 4 (rmP fa k) ∧ Below W.heap.size W wr) (fun iv _ => 4 - (intOf iv).toNat)
    case atStart => exact ⟨0, Nat.zero_le _, rfl, L0, K0⟩
    case round =>
      clear p0 p1 p2 p3 p4 p5 p6 pl
      clear Bc K0 L0
      obtain ⟨k, hk, rfl, Lk, Bc⟩ := hrel
      obtain ⟨p0, p1, p2, p3, p4, p5, p6, pl⟩ := keep _ Bc
      by_cases hlt : k < 4
      · have hlt' : (k : Int) < 4 := by omega
        obtain ⟨x, hx⟩ : ∃ x, fa[k]? = some x := ⟨_, List.getElem?_eq_getElem (by have := H4.out; omega)⟩
        obtain ⟨b, off, rfl, hb, hat⟩ := (HN.out.later Bc).arg.a.atP hx
        obtain ⟨x0, x1, x2, xl⟩ := hat.one hb hx
        obtain ⟨f0, f1⟩ := inb_i (Hp.out x (List.mem_of_getElem? hx))
        have hw1 : IntKind.i64.wrap (1000000 - x.c0) = 1000000 - x.c0 := by rw [IntKind.wrap_i64]; omega
        have HS : Hid ((rmP fa k).set k (1000000 - x.c0) = rmP fa (k + 1)) := rmP_step H4.out hx
        have b4 := Bc.alloc Bc.size (.cells x.v 61)
        have L4 := Lk.alloc (.cells x.v 61)
        have z4 : (wr.alloc (.cells #[.int .i64 x.c0, .bool x.c1, .int .i64 x.c2] 61)).frozen? ⟨R, k, none⟩ = false := L4.frozen k
        have z5 : ∃ v, (wr.alloc (.cells #[.int .i64 x.c0, .bool x.c1, .int .i64 x.c2] 61)).cell? ⟨R, k, none⟩ = some v := ⟨_, L4.cell (List.getElem?_eq_getElem (by have := rmP_len H4.out (show k < 4 from hlt); omega))⟩
        obtain ⟨v5, z5⟩ := z5
        have zl := L4.lt
        have b5 := bel_set b4 R k hRb (.int .i64 (1000000 - x.c0))
        have L5 := L4.set k (1000000 - x.c0)
        rw [HS.out] at L5
        clear hx hat Lk Bc
        go_wp2
        go_roundw
        case rel => exact ⟨k + 1, by omega, by go_num, L5, b5⟩
        case measure => simp [intOf]; omega
      · obtain rfl : k = 4 := by omega
        have hlt' : ¬ ((4 : Nat) : Int) < 4 := by omega
        rw [rmP_end H4.out] at Lk
        have S5 := (SlI.of_lst (Lk.setOther (a := ⟨w.heap.size + 1, 0, none⟩) (by show R ≠ w.heap.size + 1; have := HW2.out; omega) (.int .i64 0)) (show w.heap.size ≤ R by omega))
        have S6 := (SlI.of_lst ((Lk.setOther (a := ⟨w.heap.size + 1, 0, none⟩) (by show R ≠ w.heap.size + 1; have := HW2.out; omega) (.int .i64 0)).setOther (a := ⟨w.heap.size + 1, 1, none⟩) (by show R ≠ w.heap.size + 1; have := HW2.out; omega) (.slice (some ⟨R, 0, none⟩) 4 4)) (show w.heap.size ≤ R by omega))
        have hr4 : (rmL fa).length = 4 := by rw [rmL_len]; exact H4.out
        rw [hr4] at S6
        clear S5 hr4 Lk
        clear p0 p1 p2 p3 p4 p5 p6 pl
        have R1 := HR.out.below Bc
        obtain ⟨r0, r1, y0, y1, rl⟩ := R1.zk2
        have Fz := setk2_blk R1 (.int .i64 0) (.slice (some ⟨R, 0, none⟩) 4 4)
        have BE := setk2_below (B1.trans (Bc.mono hB)) (show w.heap.size ≤ w.heap.size + 1 by omega) (.int .i64 0) (.slice (some ⟨R, 0, none⟩) 4 4)
        clear R1
        go_wp2_with fail
        rw [HL.out]
        exact bodyPost_ret (v := .agg #[.int .i64 0, .slice (some ⟨R, 0, none⟩) 4 4]) (resultk2 Tryz.results7 Fz _ rfl) rfl ⟨_, rfl, S6, BE⟩
set_option maxRecDepth 20000 in
set_option maxHeartbeats 32000000 in
theorem implTickWorld (p : WP) (x : KW) (w : World) (hL : HmAt w) (h : InW w p x) :
    Calls Tryz.prog 6 #[.agg (p.v x)] w fun e w' => ∃ q, e = .returned (.agg (r8 (ckC hasI x) q (ckX hasI x))) ∧ OwW w' w.heap.size q (ckX hasI x) ∧ Below w.heap.size w w' := by
  obtain ⟨t, s, us, fs, fa, se, oo⟩ := x
  obtain ⟨u, uc, f, fc, a, ac, q, qc, r, rc⟩ := p
  obtain ⟨W, HW⟩ : ∃ W, Hid (W = (w.alloc (.cells (wv t s u us.length uc f fs.length fc a fa.length ac q se.length qc r oo.length rc) 32)).alloc (.cells z8 35)) := ⟨_, rfl⟩
  have B1 : Below w.heap.size w W := by rw [HW.out]; exact ((Below.refl _ _).alloc (Nat.le_refl _) _).alloc (by rw [size_new]; omega) _
  have P : Bk W w.heap.size (wv t s u us.length uc f fs.length fc a fa.length ac q se.length qc r oo.length rc) 32 := by rw [HW.out]; exact (Bk.new w (wv t s u us.length uc f fs.length fc a fa.length ac q se.length qc r oo.length rc) 32).alloc _
  have R : Blk W (w.heap.size + 1) z8 35 := by rw [HW.out]; have h := Blk.new (w.alloc (.cells (wv t s u us.length uc f fs.length fc a fa.length ac q se.length qc r oo.length rc) 32)) z8 35; rw [size_new] at h; exact h
  have HN : Hid (InW W ⟨u, uc, f, fc, a, ac, q, qc, r, rc⟩ ⟨t, s, us, fs, fa, se, oo⟩) := h.later B1
  have HR : Hid (Blk W (w.heap.size + 1) z8 35) := R
  have hB := B1.size
  show Calls Tryz.prog 6 #[.agg (wv t s u us.length uc f fs.length fc a fa.length ac q se.length qc r oo.length rc)] w _
  have HL : Hid (HmAt W) := hL.later B1
  have cR := fun W' (h : Below W.heap.size W W') => implRoomsOf ⟨u, uc, f, fc, a, ac, q, qc, r, rc⟩ ⟨t, s, us, fs, fa, se, oo⟩ W' (HN.out.later h)
  replace cR : ∀ W', Below W.heap.size W W' → Calls Tryz.prog 7 #[.agg (wv t s u us.length uc f fs.length fc a fa.length ac q se.length qc r oo.length rc)] W' fun e w' => ∃ v, e = .returned (.agg #[.int .i64 (wf hasI ⟨t, s, us, fs, fa, se, oo⟩), v]) ∧ SlI w' W'.heap.size v (rmV hasI ⟨t, s, us, fs, fa, se, oo⟩) ∧ Below W'.heap.size W' w' := cR
  have cN := fun (e : GdW hasI ⟨t, s, us, fs, fa, se, oo⟩) W' (h : Below W.heap.size W W') => newWorldState_c ⟨u, uc, f, fc, a, ac, q, qc, r, rc⟩ ⟨t, s, us, fs, fa, se, oo⟩ (Gd8 e.b).1 (Gd8 e.b).2 (Nat.le_of_eq e.a4) e.s6 e.o6 W' (HN.out.later h)
  replace cN : GdW hasI ⟨t, s, us, fs, fa, se, oo⟩ → ∀ W', Below W.heap.size W W' → Calls Tryz.prog 20 #[.agg (wv t s u us.length uc f fs.length fc a fa.length ac q se.length qc r oo.length rc)] W' fun e w' => ∃ g p', e = .returned (.pointer (some ⟨g, 0, none⟩)) ∧ WS w' W'.heap.size g p' ⟨t, s, us, fs, fa, se, oo⟩ ∧ Below W'.heap.size W' w' := cN
  have HC : Hid (ckC hasI ⟨t, s, us, fs, fa, se, oo⟩ = if (wf hasI ⟨t, s, us, fs, fa, se, oo⟩ == 0) = false then wf hasI ⟨t, s, us, fs, fa, se, oo⟩ else if t = 9999 then 7 else if 100000000 < s + (ckS ⟨t, s, us, fs, fa, se, oo⟩).lost then 7 else 0) := rfl
  have HX : Hid (ckX hasI ⟨t, s, us, fs, fa, se, oo⟩ = if (ckC hasI ⟨t, s, us, fs, fa, se, oo⟩ == 0) = true then ⟨t + 1, s + (ckS ⟨t, s, us, fs, fa, se, oo⟩).lost, (ckS ⟨t, s, us, fs, fa, se, oo⟩).us, (ckS ⟨t, s, us, fs, fa, se, oo⟩).fs, gnA fa (ckS ⟨t, s, us, fs, fa, se, oo⟩).gn, se, oo⟩ else kz) := rfl
  have HV : Hid (rmV hasI ⟨t, s, us, fs, fa, se, oo⟩ = if (wf hasI ⟨t, s, us, fs, fa, se, oo⟩ == 0) = true then rmL fa else []) := rfl
  have HG : Hid (wf hasI ⟨t, s, us, fs, fa, se, oo⟩ = 0 → GdW hasI ⟨t, s, us, fs, fa, se, oo⟩ ∧ tmR us fs (rmL fa) 1 = .of (ckS ⟨t, s, us, fs, fa, se, oo⟩) ∧ TG (ckS ⟨t, s, us, fs, fa, se, oo⟩)) := fun e => ⟨(gdW_iff hasI _).1 e, ck_tm e, (tg0 (ck_tkF e)).ticks 1⟩
  generalize ckC hasI ⟨t, s, us, fs, fa, se, oo⟩ = C at HC HX ⊢
  generalize ckX hasI ⟨t, s, us, fs, fa, se, oo⟩ = X at HX ⊢
  generalize ckS ⟨t, s, us, fs, fa, se, oo⟩ = S at HC HX HG
  generalize rmV hasI ⟨t, s, us, fs, fa, se, oo⟩ = L at HV cR
  generalize wf hasI ⟨t, s, us, fs, fa, se, oo⟩ = F at cR HC HV HG
  obtain ⟨mu, Hmu⟩ : ∃ m, Hid (us.length = m) := ⟨_, rfl⟩
  obtain ⟨mf, Hmf⟩ : ∃ m, Hid (fs.length = m) := ⟨_, rfl⟩
  obtain ⟨ma, Hma⟩ : ∃ m, Hid (fa.length = m) := ⟨_, rfl⟩
  obtain ⟨ms, Hms⟩ : ∃ m, Hid (se.length = m) := ⟨_, rfl⟩
  obtain ⟨mo, Hmo⟩ : ∃ m, Hid (oo.length = m) := ⟨_, rfl⟩
  rw [Hmu.out, Hmf.out, Hma.out, Hms.out, Hmo.out] at P HW cR cN ⊢
  clear h R hL
  have keep : ∀ w', Below W.heap.size W w' → w'.cell? ⟨w.heap.size, 0, none⟩ = some (.int .i64 t) ∧ w'.cell? ⟨w.heap.size, 1, none⟩ = some (.int .i64 s) ∧ w'.cell? ⟨w.heap.size, 2, none⟩ = some (.slice u mu uc) ∧ w'.cell? ⟨w.heap.size, 3, none⟩ = some (.slice f mf fc) ∧ w'.cell? ⟨w.heap.size, 4, none⟩ = some (.slice a ma ac) ∧ w'.cell? ⟨w.heap.size, 5, none⟩ = some (.slice q ms qc) ∧ w'.cell? ⟨w.heap.size, 6, none⟩ = some (.slice r mo rc) ∧ w.heap.size < w'.heap.size := fun w' hb => by
    have q := P.below hb
    exact ⟨q.cell rfl, q.cell rfl, q.cell rfl, q.cell rfl, q.cell rfl, q.cell rfl, q.cell rfl, q.lt⟩
  have Bc : Below W.heap.size W W := Below.refl _ _
  have HCC : Hid (C ≠ 0 → X = kz) := fun e => by rw [HX.out, if_neg (by simpa using e)]
  obtain ⟨p0, p1, p2, p3, p4, p5, p6, pl⟩ := keep _ Bc
  cases e2 : F == 0
  · have n7 : (F != 0) = true := by simp only [bne, e2]; rfl
    have HR1 : Hid (C = F ∧ X = kz) := by
      have e : C = F := by rw [HC.out, if_pos e2]
      exact ⟨e, HCC.out (by rw [e]; simpa using e2)⟩
    clear HC HX HV HG cN e2 HCC
    go_enter Tryz.func6, Tryz.ntmps6
    go_upto_region 1 with fail
    rw [← HW.out]
    go_wp2_with fail
    refine (cR _ Bc).mono ?_
    rintro e w3 ⟨v, rfl, Sv, k3⟩
    obtain ⟨pv, cv, hv⟩ := Sv.form
    obtain ⟨n9, Hn9⟩ : ∃ n9, Hid (L.length = n9) := ⟨_, rfl⟩
    rw [Hn9.out] at hv
    subst hv
    have Bc := Bc.trans (k3.mono Bc.size)
    have Bc := Bc.alloc Bc.size (.cells #[.int .i64 F, .slice pv n9 cv] 39)
    have RB := Blk.new w3 #[.int .i64 F, .slice pv n9 cv] 39
    obtain ⟨W4, HW4⟩ : ∃ W4, Hid (W4 = w3.alloc (.cells #[.int .i64 F, .slice pv n9 cv] 39)) := ⟨_, rfl⟩
    rw [← HW4.out] at Bc RB
    have b0 := RB.cell (i := 0) rfl
    have bl := RB.lt
    clear Sv k3
    clear p0 p1 p2 p3 p4 p5 p6 pl
    go_upto_region 2 with fail
    rw [← HW4.out]
    have R1 := HR.out.below Bc
    obtain ⟨r0, r1, r2, r3, r4, r5, r6, r7, y0, y1, y2, y3, y4, y5, y6, y7, rl⟩ := R1.z8
    have Fz : Blk _ (w.heap.size + 1) (r8 F wpz kz) 35 := set8_blk R1 (.int .i64 F) (.int .i64 0) (.int .i64 0) (.slice none 0 0) (.slice none 0 0) (.slice none 0 0) (.slice none 0 0) (.slice none 0 0)
    have BE := set8_below (B1.trans (Bc.mono hB)) (show w.heap.size ≤ w.heap.size + 1 by omega) (.int .i64 F) (.int .i64 0) (.int .i64 0) (.slice none 0 0) (.slice none 0 0) (.slice none 0 0) (.slice none 0 0) (.slice none 0 0)
    clear R1
    go_wp2_with fail
    rw [HR1.out.1, HR1.out.2]
    exact bodyPost_ret (v := .agg (r8 F wpz kz)) (result8 Tryz.results6 Fz _ rfl) rfl ⟨wpz, rfl, OwW.z _ _, BE⟩
  · obtain rfl : F = 0 := by simpa using e2
    obtain ⟨G, hT, tg⟩ := HG.out rfl
    have hLe : L = rmL fa := by rw [HV.out]; rfl
    subst hLe
    have cN := cN G
    have h4 : fa.length = 4 := G.a4
    have hr4 : (rmL fa).length = 4 := by rw [rmL_len]; exact h4
    have hm4 : ma = 4 := by rw [← Hma.out]; exact h4
    subst hm4
    have H4 : Hid (fa.length = 4) := h4
    have Hg4 : Hid (S.gn.length = 4) := tg.gl
    obtain ⟨t0, t1⟩ := inb_i G.t
    obtain ⟨s0, s1⟩ := inb_i G.s
    have l0 := tg.l0
    have l1 := tg.l1
    have HP : Hid (∀ (k : Nat) (y : KA) (d : Int), fa[k]? = some y → S.gn[k]? = some d → 0 ≤ y.c0 ∧ y.c0 ≤ 1000000 ∧ 0 ≤ d ∧ d ≤ 1000000) := fun k y d hy hd => by
      have a := inb_i (purse_in G y (List.mem_of_getElem? hy))
      have hk : k < 4 := by have := (List.getElem?_eq_some_iff.1 hy).1; omega
      have b := tg.bd hk
      rw [List.getD_eq_getElem?_getD, hd] at b
      exact ⟨a.1, a.2, b.1, b.2.1⟩
    have HU8 : Hid (S.us.length ≤ 8 ∧ S.fs.length ≤ 4) := ⟨tg.gd.n8, tg.gd.n4⟩
    obtain ⟨lost, Hlost⟩ : ∃ lost, Hid (S.lost = lost) := ⟨_, rfl⟩
    rw [Hlost.out] at l0 l1
    have hl160 : lost ≤ 1000 := by have := tg.l1; have := HU8.out.1; omega
    clear l1
    replace HC : Hid (C = if t = 9999 then 7 else if 100000000 < s + lost then 7 else 0) := by
      show _ = _; rw [HC.out, if_neg (by simp), Hlost.out]
    replace HX : Hid (X = if (C == 0) = true then ⟨t + 1, s + lost, S.us, S.fs, gnA fa S.gn, se, oo⟩ else kz) := by
      show _ = _; rw [HX.out, Hlost.out]
    have cT := fun (R4 cap : Nat) W' (hb : Below W.heap.size W W') (hR : Lst W' R4 cap (rmL fa)) => implTickBoard u mu uc f mf fc R4 0 4 cap us fs (rmL fa) W' (HL.out.later hb) ⟨Hmu.out, Hmf.out, hr4, by omega, by rw [← Hmu.out]; exact (HN.out.later hb).u, by rw [← Hmf.out]; exact (HN.out.later hb).f, hR.iat, hR.lt⟩
    rw [hT, show (TR.of S).l = S.lost from rfl, show (TR.of S).c = 0 from rfl, Hlost.out] at cT
    have HW2 : Hid (W.heap.size = w.heap.size + 2) := by show _ = _; rw [HW.out, size_new, size_new]
    clear HV HG e2 G h4 tg hT
    go_enter Tryz.func6, Tryz.ntmps6
    go_upto_region 1 with fail
    rw [← HW.out]
    go_wp2_with fail
    refine (cR _ Bc).mono ?_
    rintro e w3 ⟨v, rfl, Sv, k3⟩
    obtain ⟨R4, cap, rfl, hRb, LR⟩ := Sv.four hr4
    have Bc := Bc.trans (k3.mono Bc.size)
    have Bc := Bc.alloc Bc.size (.cells #[.int .i64 0, .slice (some ⟨R4, 0, none⟩) 4 cap] 39)
    have RB := Blk.new w3 #[.int .i64 0, .slice (some ⟨R4, 0, none⟩) 4 cap] 39
    have LR := LR.alloc (.cells #[.int .i64 0, .slice (some ⟨R4, 0, none⟩) 4 cap] 39)
    obtain ⟨W4, HW4⟩ : ∃ W4, Hid (W4 = w3.alloc (.cells #[.int .i64 0, .slice (some ⟨R4, 0, none⟩) 4 cap] 39)) := ⟨_, rfl⟩
    rw [← HW4.out] at Bc RB LR
    have b0 := RB.cell (i := 0) rfl
    have b1 := RB.cell (i := 1) rfl
    have bl := RB.lt
    clear Sv k3
    clear p0 p1 p2 p3 p4 p5 p6 pl
    obtain ⟨p0, p1, p2, p3, p4, p5, p6, pl⟩ := keep _ Bc
    go_upto_region 2 with fail
    rw [← HW4.out]
    by_cases ht : t = 9999
    · subst ht
      have HR1 : Hid (C = 7 ∧ X = kz) := by
        have e : C = 7 := by rw [HC.out, if_pos rfl]
        exact ⟨e, HCC.out (by rw [e]; decide)⟩
      clear cT cN LR
      have R1 := HR.out.below Bc
      obtain ⟨r0, r1, r2, r3, r4, r5, r6, r7, y0, y1, y2, y3, y4, y5, y6, y7, rl⟩ := R1.z8
      have Fz : Blk _ (w.heap.size + 1) (r8 7 wpz kz) 35 := set8_blk R1 (.int .i64 7) (.int .i64 0) (.int .i64 0) (.slice none 0 0) (.slice none 0 0) (.slice none 0 0) (.slice none 0 0) (.slice none 0 0)
      have BE := set8_below (B1.trans (Bc.mono hB)) (show w.heap.size ≤ w.heap.size + 1 by omega) (.int .i64 7) (.int .i64 0) (.int .i64 0) (.slice none 0 0) (.slice none 0 0) (.slice none 0 0) (.slice none 0 0) (.slice none 0 0)
      clear R1
      go_wp2_with fail
      rw [HR1.out.1, HR1.out.2]
      exact bodyPost_ret (v := .agg (r8 7 wpz kz)) (result8 Tryz.results6 Fz _ rfl) rfl ⟨wpz, rfl, OwW.z _ _, BE⟩
    · have ht' : (t == 9999) = false := by simpa using ht
      replace HC : Hid (C = if 100000000 < s + lost then 7 else 0) := by show _ = _; rw [HC.out, if_neg ht]
      go_wp2_with fail
      refine (cT R4 cap _ Bc LR).mono ?_
      rintro e w5 ⟨q5, v5, f5, rfl, R5, k5⟩
      obtain ⟨Q, cq, rfl, hQb, LQ⟩ := R5.g.four Hg4.out
      obtain ⟨pv, cv, hv⟩ := R5.u.fm
      obtain ⟨pf, cf, hf⟩ := R5.f.fm
      have U5 : SlU w5 W4.heap.size v5 S.us := R5.u
      have F5 : SlF w5 W4.heap.size f5 S.fs := R5.f
      change v5 = .slice pv S.us.length cv at hv
      change f5 = .slice pf S.fs.length cf at hf
      obtain ⟨lu, Hlu⟩ : ∃ n, Hid (S.us.length = n) := ⟨_, rfl⟩
      obtain ⟨lf, Hlf⟩ : ∃ n, Hid (S.fs.length = n) := ⟨_, rfl⟩
      rw [Hlu.out] at hv
      rw [Hlf.out] at hf
      subst hv hf
      have hW4 := Bc.size
      have Bc := Bc.trans (k5.mono Bc.size)
      have Bc := Bc.alloc Bc.size (.cells (resV 0 (.slice (some ⟨Q, 0, none⟩) 4 cq) lost (.slice pv lu cv) (.slice pf lf cf)) 48)
      have k6 := (Below.refl w5.heap.size w5).alloc (Nat.le_refl _) (.cells (resV 0 (.slice (some ⟨Q, 0, none⟩) 4 cq) lost (.slice pv lu cv) (.slice pf lf cf)) 48)
      have TB := Blk.new w5 (resV 0 (.slice (some ⟨Q, 0, none⟩) 4 cq) lost (.slice pv lu cv) (.slice pf lf cf)) 48
      have LQ : Lst w5 Q cq S.gn := LQ
      have LQ := LQ.below k6
      have U5 := U5.below k6
      have F5 := F5.below k6
      obtain ⟨W6, HW6⟩ : ∃ W6, Hid (W6 = w5.alloc (.cells (resV 0 (.slice (some ⟨Q, 0, none⟩) 4 cq) lost (.slice pv lu cv) (.slice pf lf cf)) 48)) := ⟨_, rfl⟩
      rw [← HW6.out] at Bc TB LQ U5 F5
      have HTB : Hid (Blk W6 w5.heap.size (resV 0 (.slice (some ⟨Q, 0, none⟩) 4 cq) lost (.slice pv lu cv) (.slice pf lf cf)) 48) := TB
      have HLQ : Hid (Lst W6 Q cq S.gn) := LQ
      have HU5 : Hid (SlU W6 w.heap.size (.slice pv lu cv) S.us) := U5.mono (by omega)
      have HF5 : Hid (SlF W6 w.heap.size (.slice pf lf cf) S.fs) := F5.mono (by omega)
      clear R5 k5 k6 TB LQ U5 F5 b0 b1 bl LR RB
      clear p0 p1 p2 p3 p4 p5 p6 pl
      obtain ⟨p0, p1, p2, p3, p4, p5, p6, pl⟩ := keep _ Bc
      obtain ⟨c0, c1, c2, c3, c4, cl⟩ : W6.cell? ⟨w5.heap.size, 0, none⟩ = some (.int .i64 0) ∧ W6.cell? ⟨w5.heap.size, 1, none⟩ = some (.slice (some ⟨Q, 0, none⟩) 4 cq) ∧ W6.cell? ⟨w5.heap.size, 2, none⟩ = some (.int .i64 lost) ∧ W6.cell? ⟨w5.heap.size, 3, none⟩ = some (.slice pv lu cv) ∧ W6.cell? ⟨w5.heap.size, 4, none⟩ = some (.slice pf lf cf) ∧ w5.heap.size < W6.heap.size := ⟨HTB.out.cell rfl, HTB.out.cell rfl, HTB.out.cell rfl, HTB.out.cell rfl, HTB.out.cell rfl, HTB.out.lt⟩
      have hw1 : IntKind.i64.wrap (s + lost) = s + lost := by rw [IntKind.wrap_i64]; omega
      go_upto_region 7 with fail
      rw [← HW6.out]
      by_cases hs : 100000000 < s + lost
      · have HR1 : Hid (C = 7 ∧ X = kz) := by
          have e : C = 7 := by rw [HC.out, if_pos hs]
          exact ⟨e, HCC.out (by rw [e]; decide)⟩
        have cS := fun w => isSpent_c (s + lost) w
        rw [show inb (s + lost) 0 100000000 = false from by unfold inb; simp; omega] at cS
        clear cT cN
        have R1 := HR.out.below Bc
        obtain ⟨r0, r1, r2, r3, r4, r5, r6, r7, y0, y1, y2, y3, y4, y5, y6, y7, rl⟩ := R1.z8
        have Fz : Blk _ (w.heap.size + 1) (r8 7 wpz kz) 35 := set8_blk R1 (.int .i64 7) (.int .i64 0) (.int .i64 0) (.slice none 0 0) (.slice none 0 0) (.slice none 0 0) (.slice none 0 0) (.slice none 0 0)
        have BE := set8_below (B1.trans (Bc.mono hB)) (show w.heap.size ≤ w.heap.size + 1 by omega) (.int .i64 7) (.int .i64 0) (.int .i64 0) (.slice none 0 0) (.slice none 0 0) (.slice none 0 0) (.slice none 0 0) (.slice none 0 0)
        clear R1
        go_wp2_with (go_at_call 19; refine (cS _).mono ?_; rintro e w7 ⟨rfl, hw7⟩; obtain rfl := hw7.symm)
        rw [HR1.out.1, HR1.out.2]
        exact bodyPost_ret (v := .agg (r8 7 wpz kz)) (result8 Tryz.results6 Fz _ rfl) rfl ⟨wpz, rfl, OwW.z _ _, BE⟩
      · have HR2 : Hid (C = 0 ∧ X = ⟨t + 1, s + lost, S.us, S.fs, gnA fa S.gn, se, oo⟩) := by
          have e : C = 0 := by rw [HC.out, if_neg hs]
          exact ⟨e, by rw [HX.out, e]; rfl⟩
        have cS := fun w => isSpent_c (s + lost) w
        rw [show inb (s + lost) 0 100000000 = true from inb_t (by omega) (by omega)] at cS
        go_wp2_with (go_at_call 19; refine (cS _).mono ?_; rintro e w7 ⟨rfl, hw7⟩; obtain rfl := hw7.symm)
        refine (cN _ Bc).mono ?_
        rintro e w8 ⟨g, p', rfl, Ws, k8⟩
        obtain ⟨pu9, uc9, pf9, fc9, pa9, ac9, ps9, sc9, po9, oc9⟩ := p'
        have hB6 := Bc.size
        have HB6 : Hid (Below W.heap.size W W6) := Bc
        have U8 := HU5.out.below k8
        have F8 := HF5.out.below k8
        rw [← Hlu.out] at U8
        rw [← Hlf.out] at F8
        have Wb := (Ws.mono (show w.heap.size ≤ W6.heap.size by omega)).putB U8 F8
        have hg6 : W6.heap.size ≤ g := Ws.bg
        obtain ⟨ga, hpa, hgab, _, _, _, _⟩ := Ws.o.a.blk0 (by rw [H4.out]; omega)
        dsimp only at hpa
        subst hpa
        have K9 : Below W6.heap.size W6 ((w8.setCell ⟨g, 0, none⟩ (.slice pv S.us.length cv)).setCell ⟨g, 1, none⟩ (.slice pf S.fs.length cf)) := bel_set (bel_set k8 g 0 hg6 _) g 1 hg6 _
        have z0 := Ws.b.frozen 0
        have z1 := Ws.b.frozen 1
        have g0 := Ws.b.cell (i := 0) rfl
        have g1 := Ws.b.cell (i := 1) rfl
        have gl := Ws.b.lt
        rw [Hlu.out, Hlf.out] at K9
        simp only [Hlu.out, Hlf.out] at Wb
        obtain ⟨W9, HW9⟩ : ∃ W9, Hid (W9 = (w8.setCell ⟨g, 0, none⟩ (.slice pv lu cv)).setCell ⟨g, 1, none⟩ (.slice pf lf cf)) := ⟨_, rfl⟩
        rw [← HW9.out] at K9 Wb
        have keep6 : ∀ w', Below W6.heap.size W6 w' → w'.cell? ⟨w5.heap.size, 1, none⟩ = some (.slice (some ⟨Q, 0, none⟩) 4 cq) ∧ w'.cell? ⟨w5.heap.size, 2, none⟩ = some (.int .i64 lost) ∧ w'.cell? ⟨w5.heap.size, 3, none⟩ = some (.slice pv lu cv) ∧ w'.cell? ⟨w5.heap.size, 4, none⟩ = some (.slice pf lf cf) ∧ w5.heap.size < w'.heap.size := fun w' hb => by
          have q := HTB.out.below hb
          exact ⟨q.cell rfl, q.cell rfl, q.cell rfl, q.cell rfl, q.lt⟩
        clear c0 c1 c2 c3 c4 cl
        clear p0 p1 p2 p3 p4 p5 p6 pl
        obtain ⟨c1, c2, c3, c4, cl⟩ := keep6 _ k8
        clear cT cN U8 F8 Ws
        go_upto_region 11 with fail
        rw [← HW9.out]
        clear c1 c2 c3 c4 cl z0 z1 gl g0 g1
        obtain ⟨c1, c2, c3, c4, cl⟩ := keep6 _ K9
        have Hg0 : Hid (gnK fa S.gn 0 = fa) := (gnK_end H4.out Hg4.out).2
        have Wb0 : WS W9 w.heap.size g ⟨pv, cv, pf, cf, some ⟨ga, 0, none⟩, ac9, ps9, sc9, po9, oc9⟩ ⟨t, s, S.us, S.fs, gnK fa S.gn 0, se, oo⟩ := by rw [Hg0.out]; exact Wb
        clear Wb
        go_wp2_with fail
        go_loopw [43] (fun iv wr => ∃ k : Nat, k ≤ 4 ∧ iv = .int .i64 k ∧ WS wr w.heap.size g ⟨pv, cv, pf, cf, some ⟨ga, 0, none⟩, ac9, ps9, sc9, po9, oc9⟩ ⟨t, s, S.us, S.fs, gnK fa S.gn k, se, oo⟩ ∧ Below W6.heap.size W6 wr) (fun iv _ => 4 - (intOf iv).toNat)
        case atStart => exact ⟨0, Nat.zero_le _, rfl, Wb0, K9⟩
        case round =>
          clear c1 c2 c3 c4 cl Wb0 K9
          obtain ⟨k, hk, rfl, Wk, K9⟩ := hrel
          obtain ⟨c1, c2, c3, c4, cl⟩ := keep6 _ K9
          by_cases hlt : k < 4
          · have hlt' : (k : Int) < 4 := by omega
            obtain ⟨y, hy⟩ : ∃ y, fa[k]? = some y := ⟨_, List.getElem?_eq_getElem (by have := H4.out; omega)⟩
            obtain ⟨d, hd⟩ : ∃ d, S.gn[k]? = some d := ⟨_, List.getElem?_eq_getElem (by have := Hg4.out; omega)⟩
            obtain ⟨y0, y1, d0, d1⟩ := HP.out k y d hy hd
            obtain ⟨hyk, hset, hlen⟩ := gnK_step H4.out Hg4.out hy hd
            have dc := (HLQ.out.below K9).cell hd
            have e4 : wr.cell? ⟨g, 4, none⟩ = some (.slice (some ⟨ga, 0, none⟩) 4 ac9) := by have := Wk.b.cell (i := 4) rfl; dsimp only at this; rw [hlen] at this; exact this
            obtain ⟨ga2, e9, _, hgl2, hat2, _, _⟩ := (show SlA wr w.heap.size (.slice (some ⟨ga, 0, none⟩) (gnK fa S.gn k).length ac9) (gnK fa S.gn k) from Wk.o.a).blk0 (by rw [hlen]; omega)
            obtain rfl : ga = ga2 := by have := Option.some.inj e9; injection this
            obtain ⟨x0, _, _, xl⟩ := hat2.one hgl2 hyk
            rw [Nat.zero_add] at x0
            have Wn := Wk.setA rfl (k * 3) (.int .i64 (y.c0 + d)) (gnK fa S.gn (k + 1)) (by show k * 3 < (gnK fa S.gn k).length * 3; rw [hlen]; omega) hset
            have Kn : Below W6.heap.size W6 (wr.setCell ⟨ga, k * 3, none⟩ (.int .i64 (y.c0 + d))) := bel_set K9 ga (k * 3) hgab _
            have za : wr.frozen? ⟨ga, k * 3, none⟩ = false := by
              have hA := Wk.o.a
              obtain ⟨csA, hbA⟩ := hA.blk (q := ga) rfl
              exact hbA.frozen _
            have gl := Wk.b.lt
            have hw2 : IntKind.i64.wrap (y.c0 + d) = y.c0 + d := by rw [IntKind.wrap_i64]; omega
            clear hy hd hyk hset hlen Wk K9 e9 hat2 hgl2
            go_wp2_with fail
            go_roundw
            case rel => exact ⟨k + 1, by omega, by go_num, by simpa using Wn, by simpa using Kn⟩
            case measure => simp [intOf]; omega
          · obtain rfl : k = 4 := by omega
            have hlt' : ¬ ((4 : Nat) : Int) < 4 := by omega
            rw [(gnK_end H4.out Hg4.out).1] at Wk
            have e3 : wr.cell? ⟨g, 3, none⟩ = some (.int .i64 s) := Wk.b.cell (i := 3) rfl
            have z3 := Wk.b.frozen 3
            have gl := Wk.b.lt
            have HWk : Hid (WS (wr.setCell ⟨g, 3, none⟩ (.int .i64 (s + lost))).drew w.heap.size g ⟨pv, cv, pf, cf, some ⟨ga, 0, none⟩, ac9, ps9, sc9, po9, oc9⟩ ⟨t, s + lost, S.us, S.fs, gnA fa S.gn, se, oo⟩) := (Wk.putS (s + lost)).drew
            have HKk : Hid (Below W6.heap.size W6 (wr.setCell ⟨g, 3, none⟩ (.int .i64 (s + lost))).drew) := (bel_set K9 g 3 hg6 _).drew
            clear Wk K9
            go_upto_region 16 with fail
            go_region
            all_goals
              clear c1 c2 c3 c4 cl e3 z3 gl
              have Wk := HWk.out
              have K9 := HKk.out
              clear HWk HKk
              obtain ⟨Wx, HWx⟩ : ∃ Wx, Hid (Wx = (wr.setCell ⟨g, 3, none⟩ (.int .i64 (s + lost))).drew) := ⟨_, rfl⟩
              rw [← HWx.out] at Wk K9
              try rw [← HWx.out]
              have e2 : Wx.cell? ⟨g, 2, none⟩ = some (.int .i64 t) := Wk.b.cell (i := 2) rfl
              have z2 := Wk.b.frozen 2
              have gl := Wk.b.lt
              have hw3 : IntKind.i64.wrap (t + 1) = t + 1 := by rw [IntKind.wrap_i64]; omega
              have Wy := Wk.putT (t + 1)
              have Ky : Below W6.heap.size W6 (Wx.setCell ⟨g, 2, none⟩ (.int .i64 (t + 1))) := bel_set K9 g 2 hg6 _
              have cE := result_c g w.heap.size _ _ _ Wy
              go_wp2_with fail
              refine cE.mono ?_
              rintro e w8 ⟨rfl, O8, k8⟩
              have Bc := HB6.out.trans ((Ky.trans (k8.mono Ky.size)).mono HB6.out.size)
              clear cE Wy Ky Wk K9 e2 z2 gl
              rw [← Hlu.out, ← Hlf.out] at *
              have R1 := HR.out.below Bc
              obtain ⟨r0, r1, r2, r3, r4, r5, r6, r7, y0, y1, y2, y3, y4, y5, y6, y7, rl⟩ := R1.z8
              have Fz := set8_blk R1 (.int .i64 0) (.int .i64 (t + 1)) (.int .i64 (s + lost)) (.slice pv S.us.length cv) (.slice pf S.fs.length cf) (.slice (some ⟨ga, 0, none⟩) (gnA fa S.gn).length ac9) (.slice ps9 se.length sc9) (.slice po9 oo.length oc9)
              have Fo := (O8.of_block R1 (by decide) (by decide) (by decide) (by decide) (by decide) (set8_other (W := w8) (g := w.heap.size + 1) (.int .i64 0) (.int .i64 (t + 1)) (.int .i64 (s + lost)) (.slice pv S.us.length cv) (.slice pf S.fs.length cf) (.slice (some ⟨ga, 0, none⟩) (gnA fa S.gn).length ac9) (.slice ps9 se.length sc9) (.slice po9 oo.length oc9))).mono (show w.heap.size ≤ _ by first | omega | (have := Bc.size; omega))
              have BE := set8_below (B1.trans (Bc.mono hB)) (show w.heap.size ≤ w.heap.size + 1 by omega) (.int .i64 0) (.int .i64 (t + 1)) (.int .i64 (s + lost)) (.slice pv S.us.length cv) (.slice pf S.fs.length cf) (.slice (some ⟨ga, 0, none⟩) (gnA fa S.gn).length ac9) (.slice ps9 se.length sc9) (.slice po9 oo.length oc9)
              clear R1 O8
              go_wp2_with fail
              rw [HR2.out.1, HR2.out.2]
              exact bodyPost_ret (v := .agg (r8 0 ⟨pv, cv, pf, cf, (some ⟨ga, 0, none⟩), ac9, ps9, sc9, po9, oc9⟩ ⟨(t + 1), (s + lost), S.us, S.fs, (gnA fa S.gn), se, oo⟩)) (result8 Tryz.results6 Fz _ rfl) rfl ⟨_, rfl, Fo, BE⟩
end Go.Proofs.YtppgjmpdnpidnaaGreatDoor
end
