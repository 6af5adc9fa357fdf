/- Texts of mine put together (a claim holds at most 60 files): WsImpl, WldDraws5. -/
import Derived.Test.YtmfdggaijbcijaaGreatPartQ25
import Derived.Test.YtmfdggaijbcijaaGreatPartQ21
import Derived.Deep.RegionHeld3
import Derived.Test.YtmfdggaijbcijaaGreatPartQ16
import Derived.Test.YtmfdggaijbcijaaGreatPartQ17

/- WsImpl -/
/- A world that is worked on: the contracts of copied, newWorldState and result. Condition: the lists are short. -/
section
namespace Go.Proofs.YtmfdggaijbcijaaGreat
open Go.ChangeShapes Go.WideShapes Go.ChangeAt Go.RowKit
open Bd
set_option linter.unusedVariables false

theorem SlU.fm {w : World} {base : Nat} {v : Value} {l : List K10} (h : SlU w base v l) : ∃ p c, v = .slice p l.length c := by obtain ⟨p, c, e, _⟩ := h.form; exact ⟨p, c, e⟩
theorem SlF.fm {w : World} {base : Nat} {v : Value} {l : List K3} (h : SlF w base v l) : ∃ p c, v = .slice p l.length c := by obtain ⟨p, c, e, _⟩ := h.form; exact ⟨p, c, e⟩
theorem SlA.fm {w : World} {base : Nat} {v : Value} {l : List KA} (h : SlA w base v l) : ∃ p c, v = .slice p l.length c := by obtain ⟨p, c, e, _⟩ := h.form; exact ⟨p, c, e⟩
theorem SlS.fm {w : World} {base : Nat} {v : Value} {l : List K4} (h : SlS w base v l) : ∃ p c, v = .slice p l.length c := by obtain ⟨p, c, e, _⟩ := h.form; exact ⟨p, c, e⟩
theorem SlO.fm {w : World} {base : Nat} {v : Value} {l : List K2} (h : SlO w base v l) : ∃ p c, v = .slice p l.length c := by obtain ⟨p, c, e, _⟩ := h.form; exact ⟨p, c, e⟩
set_option maxRecDepth 20000 in
set_option maxHeartbeats 8000000 in
theorem copied_c (u : Option Addr) (mu uc : Nat) (f : Option Addr) (mf fc : Nat) (us : List K10) (fs : List K3) (hu : us.length = mu) (hf : fs.length = mf) (h8 : mu ≤ 100) (h4 : mf ≤ 4) (w : World) (U : InU w u mu uc us) (F : InF w f mf fc fs) :
    Calls Tryz.prog 68 #[.agg #[.slice u mu uc, .slice f mf fc]] w fun e w' => ∃ p c p' c', e = .returned (.agg #[.slice p us.length c, .slice p' fs.length c']) ∧ SlU w' w.heap.size (.slice p us.length c) us ∧ SlF w' w.heap.size (.slice p' fs.length c') fs ∧ Below w.heap.size w w' := by
  obtain ⟨W, HW⟩ : ∃ W, Hid (W = (w.alloc (.cells #[.slice u mu uc, .slice f mf fc] 27)).alloc (.cells #[.slice none 0 0, .slice none 0 0] 27)) := ⟨_, rfl⟩
  have B1 : Below w.heap.size w W := by rw [HW.out]; exact ((Below.refl _ _).alloc (Nat.le_refl _) _).alloc (by rw [size_new]; omega) _
  have P : Blk W w.heap.size #[.slice u mu uc, .slice f mf fc] 27 := by rw [HW.out]; exact (Blk.new w _ _).alloc _
  have R : Blk W (w.heap.size + 1) #[.slice none 0 0, .slice none 0 0] 27 := by rw [HW.out]; have h := Blk.new (w.alloc (.cells #[.slice u mu uc, .slice f mf fc] 27)) #[.slice none 0 0, .slice none 0 0] 27; rw [size_new] at h; exact h
  have cU := fun W' (b : Below W.heap.size W W') => cloneU_i u uc mu us hu h8 W' (U.later (B1.trans (b.mono B1.size)))
  have cF := fun W' (b : Below W.heap.size W W') => cloneF_i f fc mf fs hf (by omega) W' (F.later (B1.trans (b.mono B1.size)))
  have keep : ∀ w', Below W.heap.size W w' → w'.cell? ⟨w.heap.size, 0, none⟩ = some (.slice u mu uc) ∧ w'.cell? ⟨w.heap.size, 1, none⟩ = some (.slice f mf fc) ∧ w'.cell? ⟨w.heap.size + 1, 0, none⟩ = some (.slice none 0 0) ∧ w'.cell? ⟨w.heap.size + 1, 1, none⟩ = some (.slice none 0 0) ∧ w'.frozen? ⟨w.heap.size + 1, 0, none⟩ = false ∧ w'.frozen? ⟨w.heap.size + 1, 1, none⟩ = false := fun w' hb => by
    have q1 := P.below hb
    have b1 := R.below hb
    exact ⟨q1.cell rfl, q1.cell rfl, b1.cell rfl, b1.cell rfl, b1.frozen _, b1.frozen _⟩
  have hB := B1.size
  have Bc : Below W.heap.size W W.drew := (Below.refl _ _).drew
  obtain ⟨x0, x1, y0, y1, z0, z1⟩ := keep _ (Below.refl _ _)
  clear U F hu hf
  go_enter Tryz.func68, Tryz.ntmps68
  go_upto_region 1 with fail
  rw [← HW.out]
  go_region_held3 (fun w' => w'.cell? ⟨w.heap.size, 0, none⟩ = some (.slice u mu uc) ∧ w'.cell? ⟨w.heap.size, 1, none⟩ = some (.slice f mf fc) ∧ w'.frozen? ⟨w.heap.size + 1, 0, none⟩ = false ∧ w'.frozen? ⟨w.heap.size + 1, 1, none⟩ = false) (first | exact ⟨x0, x1, z0, z1⟩ | go_keep) (first
    | (go_at_call 96; refine (cU _ Bc).mono ?_; rintro e w2 ⟨v2, rfl, S2, k2⟩; obtain ⟨p2, c2, rfl⟩ := S2.fm; have h2 := Bc.size; have Bc := Bc.trans (k2.mono Bc.size); obtain ⟨x0, x1, y0, y1, z0, z1⟩ := keep _ Bc)
    | (go_at_call 97; refine (cF _ Bc).mono ?_; rintro e w3 ⟨v3, rfl, S3, k3⟩; obtain ⟨p3, c3, rfl⟩ := S3.fm; have h3 := Bc.size; have S2 := S2.below k3; have Bc := Bc.trans (k3.mono Bc.size); obtain ⟨x0, x1, y0, y1, z0, z1⟩ := keep _ Bc))
  all_goals
    have R3 := R.below Bc
    have q0 : Blk _ (w.heap.size + 1) #[.slice p2 us.length c2, .slice none 0 0] 27 := R3.set 0 (.slice p2 us.length c2)
    have q1 : Blk _ (w.heap.size + 1) #[.slice p2 us.length c2, .slice p3 fs.length c3] 27 := q0.set 1 (.slice p3 fs.length c3)
    have U2 := (S2.setB (o := 0) R3 (by decide) (.slice p2 us.length c2)).setB (o := 1) q0 (by decide) (.slice p3 fs.length c3)
    have F2 := (S3.setB (o := 0) R3 (by decide) (.slice p2 us.length c2)).setB (o := 1) q0 (by decide) (.slice p3 fs.length c3)
    have BE := bel_set (bel_set (B1.trans (Bc.mono B1.size)) (w.heap.size + 1) 0 (by omega) (.slice p2 us.length c2)) (w.heap.size + 1) 1 (by omega) (.slice p3 fs.length c3)
    go_wp2_with fail
    exact bodyPost_ret (v := .agg #[.slice p2 us.length c2, .slice p3 fs.length c3]) (resultB Tryz.results68 q1 ⟨_, _, _, rfl⟩ ⟨_, _, _, rfl⟩ _ rfl) rfl ⟨_, _, _, _, rfl, U2.mono (by omega), F2.mono (by omega), BE⟩
/- the state in memory -/
structure WS (w : World) (base g : Nat) (p : WP) (x : KW) : Prop where
  b : Blk w g #[.slice p.u x.us.length p.uc, .slice p.f x.fs.length p.fc, .int .i64 x.t, .int .i64 x.s, .slice p.a x.fa.length p.ac, .slice p.s x.se.length p.sc, .slice p.o x.oo.length p.oc] 66
  o : OwW w base p x
  bg : base ≤ g
theorem WS.later {w w' : World} {base g : Nat} {p : WP} {x : KW} (h : WS w base g p x) (hb : Below w.heap.size w w') : WS w' base g p x := ⟨h.b.below hb, h.o.later hb, h.bg⟩
end Go.Proofs.YtmfdggaijbcijaaGreat
end

/- WldDraws5 -/
/- Contracts of the draws of worlds and two sides out of bytes. Condition: the code has at most 1048576 bytes, which can be read. -/
section
namespace Go.Proofs.YtmfdggaijbcijaaGreat
open Go.ChangeShapes Go.WideShapes Go.ChangeAt Go.RowKit
open Bd
set_option linter.unusedVariables false

/- a world that was drawn -/
structure DW (x : KW) : Prop where
  u : x.us.length ≤ 8
  f : x.fs.length ≤ 5
  a : Fac4 x.fa
  s : x.se.length ≤ 5
  o : x.oo.length ≤ 2
structure VD (w0 w W : World) (a : Option Addr) (len cap : Nat) (n : Int) (rb wb : Nat) (p : WP) (x : KW) : Prop where
  R : Blk W rb zW 32
  B : Blk W wb (p.v x) 32
  o : OwW W w.heap.size p x
  rl : rb < w.heap.size
  bw : w.heap.size ≤ wb
  rs : rb < w0.heap.size
  d : Dn w0 w W a len cap n
theorem OwW.drawn {w w' : World} {base s : Nat} {p : WP} {x : KW} (h : OwW w base p x) (g : w.grownBy w' (some s)) (hs : s < base) : OwW w' base p x := ⟨h.u.drawn g hs, h.f.drawn g hs, h.a.drawn g hs, h.s.drawn g hs, h.o.drawn g hs⟩
theorem OwW.alloc {w : World} {base : Nat} {p : WP} {x : KW} (h : OwW w base p x) (o : Obj) : OwW (w.alloc o) base p x := h.later ((Below.refl _ _).alloc (Nat.le_refl _) o)
theorem VD.grow {w0 w W W' : World} {a : Option Addr} {len cap : Nat} {n n' : Int} {rb wb : Nat} {p : WP} {x : KW} (h : VD w0 w W a len cap n rb wb p x) (g : W.grownBy W' (some w0.heap.size)) (d : Dn w0 w W' a len cap n') : VD w0 w W' a len cap n' rb wb p x :=
  ⟨h.R.grown g (fun e => by have := Option.some.inj e; have := h.rs; omega), h.B.grown g (fun e => by have := Option.some.inj e; have := h.bw; have := h.d.lt; omega), h.o.drawn g h.d.lt, h.rl, h.bw, h.rs, d⟩
theorem VD.alloc {w0 w W : World} {a : Option Addr} {len cap : Nat} {n : Int} {rb wb : Nat} {p : WP} {x : KW} (h : VD w0 w W a len cap n rb wb p x) (o : Obj) : VD w0 w (W.alloc o) a len cap n rb wb p x :=
  ⟨h.R.alloc o, h.B.alloc o, h.o.alloc o, h.rl, h.bw, h.rs, h.d.alloc o⟩
/- the factions' block as a list of one's own -/
theorem Blk.slA {w : World} {g base : Nat} {fa : List KA} (h : Blk w g (flatA fa).toArray 64) (hb : base ≤ g) (f4 : Fac4 fa) : SlA w base (.slice (some ⟨g, 0, none⟩) fa.length 4) fa := by
  have := SlA.of_blk h hb (by have := f4.l; omega)
  rw [f4.l] at this ⊢
  exact this
theorem ArgO.atD {w : World} {a : Option Addr} {l : List K2} (h : ArgO w a l) {i : Nat} {x : K2} (hi : l[i]? = some x) : ∃ b off, a = some ⟨b, off, none⟩ ∧ b < w.heap.size ∧ OAt w b off l := by
  rcases h with rfl | h
  · simp at hi
  · exact h
/- the answer's block is filled with a world -/
theorem set7_blk {W : World} {g : Nat} {c0 c1 c2 c3 c4 c5 c6 : Value} {t : TypeId} (h : Blk W g #[c0, c1, c2, c3, c4, c5, c6] t) (v0 v1 v2 v3 v4 v5 v6 : Value) : Blk (set7 W g v0 v1 v2 v3 v4 v5 v6) g #[v0, v1, v2, v3, v4, v5, v6] t := by
  have q0 : Blk _ g #[v0, c1, c2, c3, c4, c5, c6] t := h.set 0 v0
  have q1 : Blk _ g #[v0, v1, c2, c3, c4, c5, c6] t := q0.set 1 v1
  have q2 : Blk _ g #[v0, v1, v2, c3, c4, c5, c6] t := q1.set 2 v2
  have q3 : Blk _ g #[v0, v1, v2, v3, c4, c5, c6] t := q2.set 3 v3
  have q4 : Blk _ g #[v0, v1, v2, v3, v4, c5, c6] t := q3.set 4 v4
  have q5 : Blk _ g #[v0, v1, v2, v3, v4, v5, c6] t := q4.set 5 v5
  have q6 : Blk _ g #[v0, v1, v2, v3, v4, v5, v6] t := q5.set 6 v6
  exact q6
theorem set7_other {W : World} {g : Nat} (v0 v1 v2 v3 v4 v5 v6 : Value) (q : Nat) (hq : q ≠ g) : (set7 W g v0 v1 v2 v3 v4 v5 v6).heap[q]? = W.heap[q]? :=
  (Below.heap_setCell _ _ _ _ hq).trans ((Below.heap_setCell _ _ _ _ hq).trans ((Below.heap_setCell _ _ _ _ hq).trans ((Below.heap_setCell _ _ _ _ hq).trans ((Below.heap_setCell _ _ _ _ hq).trans ((Below.heap_setCell _ _ _ _ hq).trans (Below.heap_setCell _ _ _ _ hq))))))
theorem set7_below {n : Nat} {w W : World} {g : Nat} (h : Below n w W) (hg : n ≤ g) (v0 v1 v2 v3 v4 v5 v6 : Value) : Below n w (set7 W g v0 v1 v2 v3 v4 v5 v6) :=
  bel_set (bel_set (bel_set (bel_set (bel_set (bel_set (bel_set h g 0 hg v0) g 1 hg v1) g 2 hg v2) g 3 hg v3) g 4 hg v4) g 5 hg v5) g 6 hg v6
structure Z7 (w : World) (g : Nat) : Prop where
  c0 : w.cell? ⟨g, 0, none⟩ = some (.int .i64 0)
  c1 : w.cell? ⟨g, 1, none⟩ = some (.int .i64 0)
  c2 : w.cell? ⟨g, 2, none⟩ = some (.slice none 0 0)
  c3 : w.cell? ⟨g, 3, none⟩ = some (.slice none 0 0)
  c4 : w.cell? ⟨g, 4, none⟩ = some (.slice none 0 0)
  c5 : w.cell? ⟨g, 5, none⟩ = some (.slice none 0 0)
  c6 : w.cell? ⟨g, 6, none⟩ = some (.slice none 0 0)
  f0 : w.frozen? ⟨g, 0, none⟩ = false
  f1 : w.frozen? ⟨g, 1, none⟩ = false
  f2 : w.frozen? ⟨g, 2, none⟩ = false
  f3 : w.frozen? ⟨g, 3, none⟩ = false
  f4 : w.frozen? ⟨g, 4, none⟩ = false
  f5 : w.frozen? ⟨g, 5, none⟩ = false
  f6 : w.frozen? ⟨g, 6, none⟩ = false
  lt : g < w.heap.size
theorem Blk.z7 {w : World} {g : Nat} (h : Blk w g zW 32) : Z7 w g :=
  ⟨h.cell rfl, h.cell rfl, h.cell rfl, h.cell rfl, h.cell rfl, h.cell rfl, h.cell rfl, h.frozen _, h.frozen _, h.frozen _, h.frozen _, h.frozen _, h.frozen _, h.frozen _, h.lt⟩
/- the cells of a world in memory -/
structure C7 (w : World) (g : Nat) (t s : Int) (vu vf va vs vo : Value) : Prop where
  c0 : w.cell? ⟨g, 0, none⟩ = some (.int .i64 t)
  c1 : w.cell? ⟨g, 1, none⟩ = some (.int .i64 s)
  c2 : w.cell? ⟨g, 2, none⟩ = some vu
  c3 : w.cell? ⟨g, 3, none⟩ = some vf
  c4 : w.cell? ⟨g, 4, none⟩ = some va
  c5 : w.cell? ⟨g, 5, none⟩ = some vs
  c6 : w.cell? ⟨g, 6, none⟩ = some vo
  lt : g < w.heap.size
theorem Blk.c7 {w : World} {g : Nat} {t s : Int} {vu vf va vs vo : Value} {ty : TypeId} (h : Blk w g #[.int .i64 t, .int .i64 s, vu, vf, va, vs, vo] ty) : C7 w g t s vu vf va vs vo :=
  ⟨h.cell rfl, h.cell rfl, h.cell rfl, h.cell rfl, h.cell rfl, h.cell rfl, h.cell rfl, h.lt⟩
/- what is known behind the last store -/
theorem VD.store {w0 w W : World} {a : Option Addr} {len cap : Nat} {n : Int} {rb wb : Nat} {p : WP} {x : KW} (h : VD w0 w W a len cap n rb wb p x) {n0 : Nat} {v : World} (hb : Below n0 v W) (hn : n0 ≤ rb) (hn2 : n0 ≤ w.heap.size) :
    Blk (set7 W rb (.int .i64 x.t) (.int .i64 x.s) (.slice p.u x.us.length p.uc) (.slice p.f x.fs.length p.fc) (.slice p.a x.fa.length p.ac) (.slice p.s x.se.length p.sc) (.slice p.o x.oo.length p.oc)) rb (p.v x) 32 ∧
    OwW (set7 W rb (.int .i64 x.t) (.int .i64 x.s) (.slice p.u x.us.length p.uc) (.slice p.f x.fs.length p.fc) (.slice p.a x.fa.length p.ac) (.slice p.s x.se.length p.sc) (.slice p.o x.oo.length p.oc)) n0 p x ∧
    Below n0 v (set7 W rb (.int .i64 x.t) (.int .i64 x.s) (.slice p.u x.us.length p.uc) (.slice p.f x.fs.length p.fc) (.slice p.a x.fa.length p.ac) (.slice p.s x.se.length p.sc) (.slice p.o x.oo.length p.oc)) :=
  ⟨set7_blk h.R _ _ _ _ _ _ _, (h.o.of_block h.R (by decide) (by decide) (by decide) (by decide) (by decide) (set7_other _ _ _ _ _ _ _)).mono hn2, set7_below hb hn _ _ _ _ _ _ _⟩
set_option maxRecDepth 20000 in
set_option maxHeartbeats 16000000 in
theorem l7Draw_c (w : World) (a0 : Option Addr) (len cap : Nat) (hb : Bytes w a0 len w.heap.size) (hl : len ≤ 1048576) :
    Calls Tryz.prog 26 #[.slice a0 len cap] w fun e w' => ∃ p x i j, e = .returned (.tuple #[.agg (WP.v p x), .int .i64 i, .int .i64 j]) ∧ OwW w' w.heap.size p x ∧ DW x ∧ Below w.heap.size w w' := by
  obtain ⟨W1, HW1⟩ : ∃ W1, Hid (W1 = w.alloc (.cells zW 32)) := ⟨_, rfl⟩
  have A0 : Below w.heap.size w W1 := by rw [HW1.out]; exact (Below.refl _ _).alloc (Nat.le_refl _) _
  have R0 : Blk W1 w.heap.size zW 32 := by rw [HW1.out]; exact Blk.new w zW 32
  have cx : Cx W1 a0 len := ⟨hb.later A0, hl⟩
  have hR := R0.lt
  go_enter Tryz.func26, Tryz.ntmps26
  go_upto_region 1 with fail
  rw [← HW1.out]
  go_wp2_with fail
  refine (source W1 a0 len cap).mono ?_
  rintro e w1 ⟨rfl, st1⟩
  have d1 := Dn.start st1
  go_wp2_with fail
  refine (l6Bent_c cx d1 (by omega)).mono ?_
  rintro e w2 ⟨t, s, vu, vf, fb, vs, vo, us, fs, fa, se, oo, rfl, A2, f4, U2, F2, S2, O2, hfb, lus, lfs, lse, loo, d2⟩
  have SA := A2.slA hfb f4
  obtain ⟨pu, cu, rfl⟩ := U2.fm
  obtain ⟨pf, cf, rfl⟩ := F2.fm
  obtain ⟨ps, cs, rfl⟩ := S2.fm
  obtain ⟨po, co, rfl⟩ := O2.fm
  have R2 := R0.old d2
  obtain ⟨W3, HW3⟩ : ∃ W3, Hid (W3 = w2.alloc (.cells (wV t s (.slice pu us.length cu) (.slice pf fs.length cf) fb (.slice ps se.length cs) (.slice po oo.length co)) 32)) := ⟨_, rfl⟩
  have h4 := f4.l
  have D3 : VD W1 w1 W3 a0 len cap 1000 w.heap.size w2.heap.size ⟨pu, cu, pf, cf, some ⟨fb, 0, none⟩, 4, ps, cs, po, co⟩ ⟨t, s, us, fs, fa, se, oo⟩ := by
    rw [HW3.out]
    refine ⟨R2.alloc _, ?_, OwW.alloc ⟨U2, F2, SA, S2, O2⟩ _, by have := d1.lt; omega, d2.gr.size, hR, (d2.mono (by omega)).alloc _⟩
    show Blk _ _ (wv t s pu us.length cu pf fs.length cf (some ⟨fb, 0, none⟩) fa.length 4 ps se.length cs po oo.length co) _
    rw [h4]
    exact Blk.new w2 _ _
  have dw : DW ⟨t, s, us, fs, fa, se, oo⟩ := ⟨lus, lfs, f4, lse, loo⟩
  have hw1 : w.heap.size ≤ w1.heap.size := by have := d1.lt; omega
  have Hdw : Hid (DW ⟨t, s, us, fs, fa, se, oo⟩) := dw
  have Hb1 : Hid (Below w.heap.size w W1) := A0
  clear R0 R2 A2 U2 F2 SA S2 O2 d2 f4 dw A0 lus lfs lse
  go_upto_region 3 with fail
  rw [← HW3.out]
  go_wp2_with fail
  refine (pickD PAny cx rfl D3.d (by omega) (by omega) (by omega) (by simp [IntRow, PAny]) (by rfl)).mono ?_
  rintro e w4 ⟨i, rfl, _, d4, g4⟩
  have D4 := D3.grow g4 d4
  clear D3 d4 g4
  go_wp2_with fail
  refine (pickD PAny cx rfl D4.d (by omega) (by omega) (by omega) (by simp [IntRow, PAny]) (by rfl)).mono ?_
  rintro e w5 ⟨j, rfl, _, d5, g5⟩
  have D5 := D4.grow g5 d5
  clear D4 d5 g5
  have hc : C7 w5 w2.heap.size t s (.slice pu us.length cu) (.slice pf fs.length cf) (.slice (some ⟨fb, 0, none⟩) fa.length 4) (.slice ps se.length cs) (.slice po oo.length co) := D5.B.c7
  rw [h4] at hc
  by_cases hz : oo.length = 0
  · obtain rfl : oo = [] := List.eq_nil_of_length_eq_zero hz
    simp only [List.length_nil] at hc
    obtain ⟨q0, q1, q2, q3, q4, q5, q6, bl⟩ := hc
    clear hz
    obtain ⟨y0, y1, y2, y3, y4, y5, y6, z0, z1, z2, z3, z4, z5, z6, rl⟩ := D5.R.z7
    obtain ⟨F1, F2, F3⟩ := D5.store (v := w) (n0 := w.heap.size) (Hb1.out.trans (D5.d.below.mono (by omega))) (Nat.le_refl _) hw1
    dsimp only at F1 F2 F3
    simp only [h4, List.length_nil] at F1 F2 F3
    go_wp2_with fail
    refine bodyPost_ret (v := .tuple #[.agg (wV t s (.slice pu us.length cu) (.slice pf fs.length cf) fb (.slice ps se.length cs) (.slice po 0 co)), .int .i64 i, .int .i64 j]) ?_ rfl ⟨⟨pu, cu, pf, cf, some ⟨fb, 0, none⟩, 4, ps, cs, po, co⟩, ⟨t, s, us, fs, fa, se, []⟩, i, j, by show _ = Ending.returned (.tuple #[.agg (wv t s pu us.length cu pf fs.length cf (some ⟨fb, 0, none⟩) fa.length 4 ps se.length cs po 0 co), .int .i64 i, .int .i64 j]); rw [h4], F2, Hdw.out, F3⟩
    obtain ⟨c0, c1, c2, c3, c4, c5, c6, cl⟩ := F1.c7
    simp [results, Tryz.results26, go_sem, c0, c1, c2, c3, c4, c5, c6]
    exact h4
  · obtain ⟨q0, q1, q2, q3, q4, q5, q6, bl⟩ := hc
    have hzi : 0 < ((oo.length : Int)) := by omega
    have cC := chanceD cx D5.d 3 (by omega) (by omega) (by omega)
    obtain ⟨x, hx⟩ : ∃ x, oo[0]? = some x := ⟨_, List.getElem?_eq_getElem (by omega)⟩
    have hx : Hid (oo[0]? = some x) := hx
    go_wp2_with fail
    refine cC.mono ?_
    rintro e w6 ⟨b, rfl, d6, g6⟩
    have D6 := D5.grow g6 d6
    have hc : C7 w6 w2.heap.size t s (.slice pu us.length cu) (.slice pf fs.length cf) (.slice (some ⟨fb, 0, none⟩) fa.length 4) (.slice ps se.length cs) (.slice po oo.length co) := D6.B.c7
    rw [h4] at hc
    obtain ⟨q0, q1, q2, q3, q4, q5, q6, bl⟩ := hc
    obtain ⟨y0, y1, y2, y3, y4, y5, y6, z0, z1, z2, z3, z4, z5, z6, rl⟩ := D6.R.z7
    obtain ⟨pq, oq, rfl, hpl, hat⟩ := D6.o.in.o.arg.atD hx.out
    obtain ⟨k0', k1', kl⟩ := hat.one hpl hx.out
    have k0 : w6.cell? ⟨pq, oq, none⟩ = some (.int .i64 x.c0) := by simpa using k0'
    have k1 : w6.cell? ⟨pq, oq + 1, none⟩ = some (.int .i64 x.c1) := by simpa using k1'
    clear k0' k1'
    obtain ⟨F1, F2, F3⟩ := D6.store (v := w) (n0 := w.heap.size) (Hb1.out.trans (D6.d.below.mono (by omega))) (Nat.le_refl _) hw1
    dsimp only at F1 F2 F3
    rw [h4] at F1 F2 F3
    clear cC D5 hat
    cases b
    · go_wp2_with fail
      refine bodyPost_ret (v := .tuple #[.agg (wV t s (.slice pu us.length cu) (.slice pf fs.length cf) fb (.slice ps se.length cs) (.slice (some ⟨pq, oq, none⟩) oo.length co)), .int .i64 i, .int .i64 j]) ?_ rfl ⟨⟨pu, cu, pf, cf, some ⟨fb, 0, none⟩, 4, ps, cs, (some ⟨pq, oq, none⟩), co⟩, ⟨t, s, us, fs, fa, se, oo⟩, i, j, by show _ = Ending.returned (.tuple #[.agg (wv t s pu us.length cu pf fs.length cf (some ⟨fb, 0, none⟩) fa.length 4 ps se.length cs (some ⟨pq, oq, none⟩) oo.length co), .int .i64 i, .int .i64 j]); rw [h4], F2, Hdw.out, F3⟩
      obtain ⟨c0, c1, c2, c3, c4, c5, c6, cl⟩ := F1.c7
      simp [results, Tryz.results26, go_sem, c0, c1, c2, c3, c4, c5, c6]
      exact h4
    · go_wp2_with fail
      refine bodyPost_ret (v := .tuple #[.agg (wV t s (.slice pu us.length cu) (.slice pf fs.length cf) fb (.slice ps se.length cs) (.slice (some ⟨pq, oq, none⟩) oo.length co)), .int .i64 x.c1, .int .i64 x.c0]) ?_ rfl ⟨⟨pu, cu, pf, cf, some ⟨fb, 0, none⟩, 4, ps, cs, (some ⟨pq, oq, none⟩), co⟩, ⟨t, s, us, fs, fa, se, oo⟩, x.c1, x.c0, by show _ = Ending.returned (.tuple #[.agg (wv t s pu us.length cu pf fs.length cf (some ⟨fb, 0, none⟩) fa.length 4 ps se.length cs (some ⟨pq, oq, none⟩) oo.length co), .int .i64 x.c1, .int .i64 x.c0]); rw [h4], F2, Hdw.out, F3⟩
      obtain ⟨c0, c1, c2, c3, c4, c5, c6, cl⟩ := F1.c7
      simp [results, Tryz.results26, go_sem, c0, c1, c2, c3, c4, c5, c6]
      exact h4
end Go.Proofs.YtmfdggaijbcijaaGreat
end
