/- Texts of mine put together (a claim holds at most 60 files): WldDraws4. -/
import Derived.Test.YtmfdggaijbcijaaGreatPartQ14
import Derived.Test.YtmfdggaijbcijaaGreatPartQ15

/- WldDraws4 -/
/- The contract of the draw of a bent world: lists of its own, four factions, none with an Allies below 0. Condition: the code has at most 1048576 bytes, which can be read. -/
section
namespace Go.Proofs.YtmfdggaijbcijaaGreat
open Go.ChangeShapes Go.WideShapes Go.ChangeAt Go.RowKit
set_option linter.unusedVariables false

theorem nat_of {y : Int} (h0 : 0 ≤ y) (h1 : y < 4) : ∃ k : Nat, y = k ∧ k < 4 := ⟨y.toNat, by omega, by omega⟩
structure J12 (w0 w : World) (a : Option Addr) (len cap : Nat) (N : Int) (rb wb fb : Nat) (t s : Int) (vu vf vo : Value) (ps : Option Addr) (ns cs : Nat) (us : List K10) (fs : List K3) (fa : List KA) (se : List K4) (oo : List K2) (k : Int) (d : Nat → Bool) (x44 x45 x46 x47 x48 x49 x50 x51 x52 x53 x54 x55 x56 x57 : Value) (W : World) : Prop where
  f0 : d 0 = true → x44 = .pointer (some ⟨wb, 5, none⟩)
  f1 : d 1 = true → x45 = .slice ps ns cs
  f2 : d 2 = true → x46 = .pointer (some ⟨w0.heap.size, 0, none⟩)
  f3 : d 3 = true → d 4 = false → LsAt w0 W x47 #[.int .i64 0, .int .i64 5, .int .i64 6] 3
  f4 : d 4 = true → ∃ r : Int, x48 = .int .i64 r
  f5 : d 5 = true → x49 = .pointer (some ⟨w0.heap.size, 0, none⟩)
  f6 : d 6 = true → ∃ r : Int, x50 = .int .i64 r
  f7 : d 7 = true → x51 = .pointer (some ⟨w0.heap.size, 0, none⟩)
  f8 : d 8 = true → d 9 = false → LsAt w0 W x52 #[.int .i64 0, .int .i64 2048] 2
  f9 : d 9 = true → ∃ r : Int, x53 = .int .i64 r
  f10 : d 10 = true → ∃ u : K4, x54 = .agg #[.int .i64 u.c0, .int .i64 u.c1, .int .i64 u.c2, .int .i64 u.c3]
  f11 : d 11 = true → d 12 = false → OnAt w0 W x55
  f13 : d 13 = true → x57 = .pointer (some ⟨wb, 5, none⟩)
  A : d 12 = false → WD w0 w W a len cap (N + ((d 4).toNat : Int) + ((d 6).toNat : Int) + ((d 9).toNat : Int)) rb wb fb t s vu vf (.slice ps ns cs) vo us fs fa se oo
  B : d 12 = true → d 14 = false → PBs w0 w W a len cap (N + 3) rb wb fb t s vu vf vo ps ns cs us fs fa se oo x56
  C : d 14 = true → ∃ (p9 : Option Addr) (n9 c9 : Nat) (u : K4), WD w0 w W a len cap (N + 3) rb wb fb t s vu vf (.slice p9 n9 c9) vo us fs fa (se ++ [u]) oo
set_option maxRecDepth 20000 in
set_option maxHeartbeats 16000000 in
theorem l6Bent_c {w0 w : World} {a : Option Addr} {len cap : Nat} {n : Int} (cx : Cx w0 a len) (d : Dn w0 w w a len cap n) (hn : n ≤ 200000) :
    Calls Tryz.prog 40 #[.pointer (some ⟨w0.heap.size, 0, none⟩)] w fun e w' => ∃ t s vu vf fb vs vo us fs fa se oo, e = .returned (.agg (wV t s vu vf fb vs vo)) ∧ Blk w' fb (flatA fa).toArray 64 ∧ Fac4 fa ∧ SlU w' w.heap.size vu us ∧ SlF w' w.heap.size vf fs ∧ SlS w' w.heap.size vs se ∧ SlO w' w.heap.size vo oo ∧ w.heap.size ≤ fb ∧ us.length ≤ 8 ∧ fs.length ≤ 5 ∧ se.length ≤ 5 ∧ oo.length ≤ 2 ∧ Dn w0 w w' a len cap (n + 1000) := by
  have hlt := d.lt
  have hneR : some w.heap.size ≠ some w0.heap.size := by simp; omega
  have R0 := Blk.new w zW 32
  have d0 := d.alloc (.cells zW 32)
  obtain ⟨W1, HW1⟩ : ∃ W1, Hid (W1 = w.alloc (.cells zW 32)) := ⟨_, rfl⟩
  rw [← HW1.out] at R0 d0
  have hs1 : w.heap.size + 1 = W1.heap.size := by rw [HW1.out]; exact (size_new _ _).symm
  have Hs1 : Hid (w.heap.size + 1 = W1.heap.size) := hs1
  have hb1 : w.heap.size ≤ W1.heap.size := by omega
  clear hs1
  go_enter Tryz.func40, Tryz.ntmps40
  go_upto_region 1 with fail
  rw [← HW1.out]
  go_wp2_with fail
  refine (l6Draw_c cx d0.self (by omega)).mono ?_
  rintro e w2 ⟨t, s, vu, vf, fb, vs, vo, us, fs, fa, se, oo, rfl, A2, f4, U2, F2, S2, O2, hfb, lus, lfs, lse, loo, e2⟩
  replace U2 := U2.mono hb1
  replace F2 := F2.mono hb1
  replace S2 := S2.mono hb1
  replace O2 := O2.mono hb1
  obtain ⟨pv, cv, nv, rfl⟩ := U2.frm
  obtain ⟨pf, cf, nf, rfl⟩ := F2.frm
  obtain ⟨ps, cs, ns, rfl⟩ := S2.frm
  obtain ⟨po, co, no, rfl⟩ := O2.frm
  have hw2 : w.heap.size < w2.heap.size := by have := Hs1.out; have := e2.gr.size; omega
  obtain ⟨W3, HW3⟩ : ∃ W3, Hid (W3 = w2.alloc (.cells (wV t s (.slice pv nv cv) (.slice pf nf cf) fb (.slice ps ns cs) (.slice po no co)) 32)) := ⟨_, rfl⟩
  have D3 : WD w0 w W3 a len cap (n + 400) w.heap.size w2.heap.size fb t s (.slice pv nv cv) (.slice pf nf cf) (.slice ps ns cs) (.slice po no co) us fs fa se oo := by
    rw [HW3.out]
    exact ⟨(R0.grown e2.gr hneR).alloc _, Blk.new w2 _ _, A2.alloc _, f4, U2.alloc _, F2.alloc _, S2.alloc _, O2.alloc _, by omega, Nat.le_refl _, by omega, by omega, (d0.trans e2).alloc _⟩
  clear R0 A2 U2 F2 S2 O2 d0 e2
  go_upto_region 2 with fail
  rw [← HW3.out]
  go_wp2_with fail
  refine (drawsD cx D3.d 14 (by omega) (by omega) (by omega)).mono ?_
  rintro e wr ⟨r, rfl, r0, r1, d4, g4⟩
  have D4 := D3.grow g4 d4
  clear D3 d4 g4
  have hr : r = 0 ∨ r = 1 ∨ r = 2 ∨ r = 3 ∨ r = 4 ∨ ((r == 0) = false ∧ (r == 1) = false ∧ (r == 2) = false ∧ (r == 3) = false ∧ (r == 4) = false) := by
    by_cases e0 : r = 0
    · exact .inl e0
    by_cases e1 : r = 1
    · exact .inr (.inl e1)
    by_cases e2 : r = 2
    · exact .inr (.inr (.inl e2))
    by_cases e3 : r = 3
    · exact .inr (.inr (.inr (.inl e3)))
    by_cases e4 : r = 4
    · exact .inr (.inr (.inr (.inr (.inl e4))))
    exact .inr (.inr (.inr (.inr (.inr ⟨beq_false_of_ne e0, beq_false_of_ne e1, beq_false_of_ne e2, beq_false_of_ne e3, beq_false_of_ne e4⟩))))
  rcases hr with rfl | rfl | rfl | rfl | rfl | ⟨e0, e1, e2, e3, e4⟩
  · clear r0 r1
    go_wp2_with fail
    refine (l4Bent_c cx D4.d.self (by omega)).mono ?_
    rintro e w8 ⟨v8, f8, us8, fs8, rfl, S8, F8, hus, hfs, e8⟩
    have D8 := D4.grow e8.gr (D4.d.trans e8)
    have hw7 : w.heap.size ≤ wr.heap.size := D4.d.gr.size
    replace S8 := S8.mono hw7
    replace F8 := F8.mono hw7
    obtain ⟨pv8, cv8, nv8, rfl⟩ := S8.frm
    obtain ⟨pf8, cf8, nf8, rfl⟩ := F8.frm
    have p2 := D8.B.cell (i := 2) rfl
    have p3 := D8.B.cell (i := 3) rfl
    have z2 := D8.B.frozen 2
    have z3 := D8.B.frozen 3
    have bl := D8.B.lt
    obtain ⟨W9, HW9⟩ : ∃ W9, Hid (W9 = (w8.setCell ⟨w2.heap.size, 2, none⟩ (.slice pv8 nv8 cv8)).setCell ⟨w2.heap.size, 3, none⟩ (.slice pf8 nf8 cf8)) := ⟨_, rfl⟩
    have D9 : WD w0 w W9 a len cap (n + 900) w.heap.size w2.heap.size fb t s (.slice pv8 nv8 cv8) (.slice pf8 nf8 cf8) (.slice ps ns cs) (.slice po no co) us8 fs8 fa se oo := by
      rw [HW9.out]
      have X := D8.setW (us' := us8) 2 (.slice pv8 nv8 cv8) (vu' := .slice pv8 nv8 cv8) rfl S8 D8.F D8.S D8.O
      exact (X.setW (fs' := fs8) 3 (.slice pf8 nf8 cf8) (vf' := .slice pf8 nf8 cf8) rfl X.U (F8.setB D8.B (by decide) _) X.S X.O).mono (by omega)
    clear D8 D4 S8 F8 e8
    go_upto_region 13 with fail
    rw [← HW9.out]
    clear p2 p3 z2 z3 bl
    have q0 := D9.B.cell (i := 0) rfl
    have q1 := D9.B.cell (i := 1) rfl
    have q2 := D9.B.cell (i := 2) rfl
    have q3 := D9.B.cell (i := 3) rfl
    have q4 := D9.B.cell (i := 4) rfl
    have q5 := D9.B.cell (i := 5) rfl
    have q6 := D9.B.cell (i := 6) rfl
    have bl := D9.B.lt
    have y0 := D9.R.cell (i := 0) rfl
    have y1 := D9.R.cell (i := 1) rfl
    have y2 := D9.R.cell (i := 2) rfl
    have y3 := D9.R.cell (i := 3) rfl
    have y4 := D9.R.cell (i := 4) rfl
    have y5 := D9.R.cell (i := 5) rfl
    have y6 := D9.R.cell (i := 6) rfl
    have z0 := D9.R.frozen 0
    have z1 := D9.R.frozen 1
    have z2 := D9.R.frozen 2
    have z3 := D9.R.frozen 3
    have z4 := D9.R.frozen 4
    have z5 := D9.R.frozen 5
    have z6 := D9.R.frozen 6
    have rl := D9.R.lt
    have F := D9.fill (.int .i64 t) (.int .i64 s) (.slice pv8 nv8 cv8) (.slice pf8 nf8 cf8) (.slice (some ⟨fb, 0, none⟩) 4 4) (.slice ps ns cs) (.slice po no co)
    go_wp2_with fail
    exact bodyPost_ret (v := .agg (wV t s (.slice pv8 nv8 cv8) (.slice pf8 nf8 cf8) fb (.slice ps ns cs) (.slice po no co))) (resultW Tryz.results40 F.1 ⟨_, _, _, rfl⟩ ⟨_, _, _, rfl⟩ ⟨_, _, _, rfl⟩ ⟨_, _, _, rfl⟩ _ rfl) rfl ⟨_, _, _, _, _, _, _, us8, fs8, fa, se, oo, rfl, F.2.1, D9.f4, F.2.2.1, F.2.2.2.1, F.2.2.2.2.1, F.2.2.2.2.2.1, D9.bf, by omega, by omega, by first | omega | (rw [List.length_append]; simp; omega), by first | omega | (rw [List.length_append]; simp; omega), F.2.2.2.2.2.2.mono (by omega)⟩
  · clear r0 r1
    have p4 : wr.cell? ⟨w2.heap.size, 4, none⟩ = some (.slice (some ⟨fb, 0, none⟩) 4 4) := D4.B.cell (i := 4) rfl
    have bl := D4.B.lt
    have dD := D4.drew
    go_upto_region 6 with fail
    go_region_law (first
      | (refine step_call rfl 41 #[.pointer (some ⟨w0.heap.size, 0, none⟩), .int .i64 4] (by first | kernel_rfl | (simp [execOp, resolve, invoke, Act.eval, go_sem]; done)) _ (drawsD cx dD.d 4 (by omega) (by omega) (by omega)) ?_; rintro e wa ⟨y, rfl, y0, y1, da, ga⟩; refine ⟨_, rfl, ?_⟩; have Da := dD.grow ga da; obtain ⟨k, hyk, hk4⟩ := nat_of y0 y1; subst hyk; obtain ⟨x, hx', x0, x1⟩ := Da.f4.at hk4; have hx : Hid (fa[k]? = some x) := hx'; have p4 : wa.cell? ⟨w2.heap.size, 4, none⟩ = some (.slice (some ⟨fb, 0, none⟩) 4 4) := Da.B.cell (i := 4) rfl; have bl := Da.B.lt; have c1 := (Da.fac hx').2.1; have zf := Da.A.frozen (k * 3 + 1); have fl := Da.A.lt; clear hx'))
    all_goals
      have D1 := Da.setA (k * 3 + 1) (.bool true) (flatA_set1 fa k x true hx.out) (Da.f4.set k (u := ⟨x.c0, true, x.c2⟩) ⟨x0, x1⟩)
      obtain ⟨W9, HW9⟩ : ∃ W9, Hid (W9 = wa.setCell ⟨fb, k * 3 + 1, none⟩ (.bool true)) := ⟨_, rfl⟩
      rw [← HW9.out] at D1
      clear p4 bl c1 zf fl Da dD D4
      go_upto_region 13 with fail
      rw [← HW9.out]
      have q0 := D1.B.cell (i := 0) rfl
      have q1 := D1.B.cell (i := 1) rfl
      have q2 := D1.B.cell (i := 2) rfl
      have q3 := D1.B.cell (i := 3) rfl
      have q4 := D1.B.cell (i := 4) rfl
      have q5 := D1.B.cell (i := 5) rfl
      have q6 := D1.B.cell (i := 6) rfl
      have bl := D1.B.lt
      have y0 := D1.R.cell (i := 0) rfl
      have y1 := D1.R.cell (i := 1) rfl
      have y2 := D1.R.cell (i := 2) rfl
      have y3 := D1.R.cell (i := 3) rfl
      have y4 := D1.R.cell (i := 4) rfl
      have y5 := D1.R.cell (i := 5) rfl
      have y6 := D1.R.cell (i := 6) rfl
      have z0 := D1.R.frozen 0
      have z1 := D1.R.frozen 1
      have z2 := D1.R.frozen 2
      have z3 := D1.R.frozen 3
      have z4 := D1.R.frozen 4
      have z5 := D1.R.frozen 5
      have z6 := D1.R.frozen 6
      have rl := D1.R.lt
      have F := D1.fill (.int .i64 t) (.int .i64 s) (.slice pv nv cv) (.slice pf nf cf) (.slice (some ⟨fb, 0, none⟩) 4 4) (.slice ps ns cs) (.slice po no co)
      go_wp2_with fail
      exact bodyPost_ret (v := .agg (wV t s (.slice pv nv cv) (.slice pf nf cf) fb (.slice ps ns cs) (.slice po no co))) (resultW Tryz.results40 F.1 ⟨_, _, _, rfl⟩ ⟨_, _, _, rfl⟩ ⟨_, _, _, rfl⟩ ⟨_, _, _, rfl⟩ _ rfl) rfl ⟨_, _, _, _, _, _, _, us, fs, _, se, oo, rfl, F.2.1, D1.f4, F.2.2.1, F.2.2.2.1, F.2.2.2.2.1, F.2.2.2.2.2.1, D1.bf, by omega, by omega, by first | omega | (rw [List.length_append]; simp; omega), by first | omega | (rw [List.length_append]; simp; omega), F.2.2.2.2.2.2.mono (by omega)⟩
  · clear r0 r1
    have p4 : wr.cell? ⟨w2.heap.size, 4, none⟩ = some (.slice (some ⟨fb, 0, none⟩) 4 4) := D4.B.cell (i := 4) rfl
    have bl := D4.B.lt
    have dD := D4.drew
    obtain ⟨x, hx', x0, x1⟩ := D4.f4.at (k := 1) (by omega)
    have hx : Hid (fa[1]? = some x) := hx'
    clear hx'
    go_upto_region 8 with fail
    go_region_law (first
      | (refine step_call rfl 66 #[.pointer (some ⟨w0.heap.size, 0, none⟩), .slice (some ⟨wr.heap.size, 0, none⟩) 4 4] (by first | kernel_rfl | (simp [execOp, resolve, invoke, Act.eval, go_sem]; done)) _ (pickD PBit cx rfl dD.d (by omega) (by omega) (by omega) (by simp [IntRow, PBit]) (by rfl)) ?_; rintro e wa ⟨y, rfl, hy, da, ga⟩; refine ⟨_, rfl, ?_⟩; have Da := dD.grow ga da; have p4 : wa.cell? ⟨w2.heap.size, 4, none⟩ = some (.slice (some ⟨fb, 0, none⟩) 4 4) := Da.B.cell (i := 4) rfl; have bl := Da.B.lt; have c2 : wa.cell? ⟨fb, 5, none⟩ = some (.int .i64 x.c2) := (Da.fac hx.out).2.2; have zf : wa.frozen? ⟨fb, 5, none⟩ = false := Da.A.frozen 5; have fl := Da.A.lt))
    all_goals
      have D1 := Da.setA (1 * 3 + 2) (.int .i64 y) (flatA_set2 fa 1 x y hx.out) (Da.f4.set 1 (u := ⟨x.c0, x.c1, y⟩) hy)
      obtain ⟨W9, HW9⟩ : ∃ W9, Hid (W9 = wa.setCell ⟨fb, 5, none⟩ (.int .i64 y)) := ⟨_, rfl⟩
      replace D1 : WD w0 w (wa.setCell ⟨fb, 5, none⟩ (.int .i64 y)) a len cap _ w.heap.size w2.heap.size fb t s (.slice pv nv cv) (.slice pf nf cf) (.slice ps ns cs) (.slice po no co) us fs _ se oo := D1
      rw [← HW9.out] at D1
      clear p4 bl c2 zf fl Da dD D4
      go_upto_region 13 with fail
      rw [← HW9.out]
      have q0 := D1.B.cell (i := 0) rfl
      have q1 := D1.B.cell (i := 1) rfl
      have q2 := D1.B.cell (i := 2) rfl
      have q3 := D1.B.cell (i := 3) rfl
      have q4 := D1.B.cell (i := 4) rfl
      have q5 := D1.B.cell (i := 5) rfl
      have q6 := D1.B.cell (i := 6) rfl
      have bl := D1.B.lt
      have y0 := D1.R.cell (i := 0) rfl
      have y1 := D1.R.cell (i := 1) rfl
      have y2 := D1.R.cell (i := 2) rfl
      have y3 := D1.R.cell (i := 3) rfl
      have y4 := D1.R.cell (i := 4) rfl
      have y5 := D1.R.cell (i := 5) rfl
      have y6 := D1.R.cell (i := 6) rfl
      have z0 := D1.R.frozen 0
      have z1 := D1.R.frozen 1
      have z2 := D1.R.frozen 2
      have z3 := D1.R.frozen 3
      have z4 := D1.R.frozen 4
      have z5 := D1.R.frozen 5
      have z6 := D1.R.frozen 6
      have rl := D1.R.lt
      have F := D1.fill (.int .i64 t) (.int .i64 s) (.slice pv nv cv) (.slice pf nf cf) (.slice (some ⟨fb, 0, none⟩) 4 4) (.slice ps ns cs) (.slice po no co)
      go_wp2_with fail
      exact bodyPost_ret (v := .agg (wV t s (.slice pv nv cv) (.slice pf nf cf) fb (.slice ps ns cs) (.slice po no co))) (resultW Tryz.results40 F.1 ⟨_, _, _, rfl⟩ ⟨_, _, _, rfl⟩ ⟨_, _, _, rfl⟩ ⟨_, _, _, rfl⟩ _ rfl) rfl ⟨_, _, _, _, _, _, _, us, fs, _, se, oo, rfl, F.2.1, D1.f4, F.2.2.1, F.2.2.2.1, F.2.2.2.2.1, F.2.2.2.2.2.1, D1.bf, by omega, by omega, by first | omega | (rw [List.length_append]; simp; omega), by first | omega | (rw [List.length_append]; simp; omega), F.2.2.2.2.2.2.mono (by omega)⟩
  · clear r0 r1
    have p6 : wr.cell? ⟨w2.heap.size, 6, none⟩ = some (.slice po no co) := D4.B.cell (i := 6) rfl
    have bl := D4.B.lt
    have dD := D4.drew
    go_upto_region 10 with fail
    go_region_law (first
      | (refine step_pushO rfl (.tmp 33) (.tmp 39) rfl wb.heap.size ⟨y, z⟩ w.heap.size _ oo (by simp [Act.eval]; done) (Db.O.alloc _) (by simp [Act.eval]; done) (Blk.new wb #[.int .i64 y, .int .i64 z] 49) (by omega) (by have := Db.d.gr.size; rw [size_new]; omega) ?_; intro v3 w3 S3 g3; obtain ⟨p3, c3, n3, rfl⟩ := S3.frm; obtain ⟨R4, B4, A4, U4, F4, S4, d4⟩ := (Db.alloc (.cells #[.int .i64 y, .int .i64 z] 49)).pushO g3 S3; have p6 := B4.cell (i := 6) rfl; have z6 := B4.frozen 6; have bl := B4.lt)
      | (refine step_call rfl 41 #[.pointer (some ⟨w0.heap.size, 0, none⟩), .int .i64 5] (by first | kernel_rfl | (simp [execOp, resolve, invoke, Act.eval, go_sem]; done)) _ (drawsD cx dD.d 5 (by omega) (by omega) (by omega)) ?_; rintro e wa ⟨y, rfl, _, _, da, ga⟩; refine ⟨_, rfl, ?_⟩; have Da := dD.grow ga da; have p6 : wa.cell? ⟨w2.heap.size, 6, none⟩ = some (.slice po no co) := Da.B.cell (i := 6) rfl; have bl := Da.B.lt)
      | (refine step_call rfl 41 #[.pointer (some ⟨w0.heap.size, 0, none⟩), .int .i64 4] (by first | kernel_rfl | (simp [execOp, resolve, invoke, Act.eval, go_sem]; done)) _ (drawsD cx Da.d 4 (by omega) (by omega) (by omega)) ?_; rintro e wb ⟨z, rfl, _, _, db, gb⟩; refine ⟨_, rfl, ?_⟩; have Db := Da.grow gb db; have p6 : wb.cell? ⟨w2.heap.size, 6, none⟩ = some (.slice po no co) := Db.B.cell (i := 6) rfl; have bl := Db.B.lt))
    all_goals
      have B5 := B4.set 6 (.slice p3 n3 c3)
      have D5 : WD w0 w (w3.setCell ⟨w2.heap.size, 6, none⟩ (.slice p3 n3 c3)) a len cap (n + 400 + 1 + 1 + 1) w.heap.size w2.heap.size fb t s (.slice pv nv cv) (.slice pf nf cf) (.slice ps ns cs) (.slice p3 n3 c3) us fs fa se (oo ++ [⟨y, z⟩]) :=
        ⟨R4.setOther (a := ⟨w2.heap.size, 6, none⟩) Db.ne _, B5, A4.setOther (a := ⟨w2.heap.size, 6, none⟩) (bk_ne A4 B4 (by decide)) _, Db.f4, U4.setB B4 (by decide) _, F4.setB B4 (by decide) _, S4.setB B4 (by decide) _, S3.setB B4 (by decide) _, Db.ne, Db.br, Db.bw, Db.bf, d4.set (p := ⟨w2.heap.size, 6, none⟩) Db.bw _⟩
      obtain ⟨W9, HW9⟩ : ∃ W9, Hid (W9 = w3.setCell ⟨w2.heap.size, 6, none⟩ (.slice p3 n3 c3)) := ⟨_, rfl⟩
      rw [← HW9.out] at D5
      clear p6 bl z6 R4 B4 A4 U4 F4 S4 d4 B5 S3 Da Db dD D4
      go_upto_region 13 with fail
      rw [← HW9.out]
      have q0 := D5.B.cell (i := 0) rfl
      have q1 := D5.B.cell (i := 1) rfl
      have q2 := D5.B.cell (i := 2) rfl
      have q3 := D5.B.cell (i := 3) rfl
      have q4 := D5.B.cell (i := 4) rfl
      have q5 := D5.B.cell (i := 5) rfl
      have q6 := D5.B.cell (i := 6) rfl
      have bl := D5.B.lt
      have y0 := D5.R.cell (i := 0) rfl
      have y1 := D5.R.cell (i := 1) rfl
      have y2 := D5.R.cell (i := 2) rfl
      have y3 := D5.R.cell (i := 3) rfl
      have y4 := D5.R.cell (i := 4) rfl
      have y5 := D5.R.cell (i := 5) rfl
      have y6 := D5.R.cell (i := 6) rfl
      have z0 := D5.R.frozen 0
      have z1 := D5.R.frozen 1
      have z2 := D5.R.frozen 2
      have z3 := D5.R.frozen 3
      have z4 := D5.R.frozen 4
      have z5 := D5.R.frozen 5
      have z6 := D5.R.frozen 6
      have rl := D5.R.lt
      have F := D5.fill (.int .i64 t) (.int .i64 s) (.slice pv nv cv) (.slice pf nf cf) (.slice (some ⟨fb, 0, none⟩) 4 4) (.slice ps ns cs) (.slice p3 n3 c3)
      go_wp2_with fail
      exact bodyPost_ret (v := .agg (wV t s (.slice pv nv cv) (.slice pf nf cf) fb (.slice ps ns cs) (.slice p3 n3 c3))) (resultW Tryz.results40 F.1 ⟨_, _, _, rfl⟩ ⟨_, _, _, rfl⟩ ⟨_, _, _, rfl⟩ ⟨_, _, _, rfl⟩ _ rfl) rfl ⟨_, _, _, _, _, _, _, us, fs, fa, se, _, rfl, F.2.1, D5.f4, F.2.2.1, F.2.2.2.1, F.2.2.2.2.1, F.2.2.2.2.2.1, D5.bf, by omega, by omega, by first | omega | (rw [List.length_append]; simp; omega), by first | omega | (rw [List.length_append]; simp; omega), F.2.2.2.2.2.2.mono (by omega)⟩
  · clear r0 r1
    have E0 := D4.drew
    have hse' : se.length ≤ 100 := by omega
    go_upto_region 12 with fail
    refine wp_region_slots (by kernel_rfl) 44 (fun d xs W => ∃ x44 x45 x46 x47 x48 x49 x50 x51 x52 x53 x54 x55 x56 x57, xs = [x44, x45, x46, x47, x48, x49, x50, x51, x52, x53, x54, x55, x56, x57] ∧ J12 w0 w a len cap (n + 400 + 1) w.heap.size w2.heap.size fb t s (.slice pv nv cv) (.slice pf nf cf) (.slice po no co) ps ns cs us fs fa se oo 0 d x44 x45 x46 x47 x48 x49 x50 x51 x52 x53 x54 x55 x56 x57 W) (by kernel_rfl) [_, _, _, _, _, _, _, _, _, _, _, _, _, _] rfl ?_ ?_ ?_
    · exact ⟨_, _, _, _, _, _, _, _, _, _, _, _, _, _, rfl, ⟨(fun h => by cases h), (fun h => by cases h), (fun h => by cases h), (fun h _ => by cases h), (fun h => by cases h), (fun h => by cases h), (fun h => by cases h), (fun h => by cases h), (fun h _ => by cases h), (fun h => by cases h), (fun h => by cases h), (fun h _ => by cases h), (fun h => by cases h), (fun _ => E0.mono (by simp)), (fun h => by cases h), (fun h => by cases h)⟩⟩
    · rintro d xs W i K hi hd hdep hcl ⟨x44, x45, x46, x47, x48, x49, x50, x51, x52, x53, x54, x55, x56, x57, rfl, J⟩ hK
      have hi' : i < 15 := hi
      have hdp : ∀ j, (depsOf _ i).contains j = true → d j = true := fun j hj => hdep j (by simpa using hj)
      clear hi hdep
      have h18 : i = 0 ∨ i = 1 ∨ i = 2 ∨ i = 3 ∨ i = 4 ∨ i = 5 ∨ i = 6 ∨ i = 7 ∨ i = 8 ∨ i = 9 ∨ i = 10 ∨ i = 11 ∨ i = 12 ∨ i = 13 ∨ i = 14 := by omega
      rcases h18 with rfl | rfl | rfl | rfl | rfl | rfl | rfl | rfl | rfl | rfl | rfl | rfl | rfl | rfl | rfl
      · have hA := J.A (hcl.no 15 hd (by kernel_rfl))
        clear hA
        refine wpOp_of rfl rfl ?_
        dsimp only [win, List.take_succ_cons, List.take_zero, List.drop_succ_cons, List.drop_zero, List.cons_append, List.nil_append, List.length_cons, List.length_nil, Nat.reduceAdd]
        go_simp
        exact hK [(.pointer (some ⟨w2.heap.size, 5, none⟩)), x45, x46, x47, x48, x49, x50, x51, x52, x53, x54, x55, x56, x57] _ ⟨_, _, _, _, _, _, _, _, _, _, _, _, _, _, rfl, ⟨(fun _ => rfl), J.f1, J.f2, J.f3, J.f4, J.f5, J.f6, J.f7, J.f8, J.f9, J.f10, J.f11, J.f13, J.A, J.B, J.C⟩⟩
      · have hA := J.A (hcl.no 15 hd (by kernel_rfl))
        obtain rfl := J.f0 (hdp 0 (by kernel_rfl))
        have p5 := hA.B.cell (i := 5) rfl
        have bl := hA.B.lt
        refine wpOp_of rfl rfl ?_
        dsimp only [win, List.take_succ_cons, List.take_zero, List.drop_succ_cons, List.drop_zero, List.cons_append, List.nil_append, List.length_cons, List.length_nil, Nat.reduceAdd]
        go_simp
        exact hK [.pointer (some ⟨w2.heap.size, 5, none⟩), (.slice ps ns cs), x46, x47, x48, x49, x50, x51, x52, x53, x54, x55, x56, x57] _ ⟨_, _, _, _, _, _, _, _, _, _, _, _, _, _, rfl, ⟨J.f0, (fun _ => rfl), J.f2, J.f3, J.f4, J.f5, J.f6, J.f7, J.f8, J.f9, J.f10, J.f11, J.f13, J.A, J.B, J.C⟩⟩
      · have hA := J.A (hcl.no 15 hd (by kernel_rfl))
        clear hA
        refine wpOp_of rfl rfl ?_
        dsimp only [win, List.take_succ_cons, List.take_zero, List.drop_succ_cons, List.drop_zero, List.cons_append, List.nil_append, List.length_cons, List.length_nil, Nat.reduceAdd]
        go_simp
        exact hK [x44, x45, (.pointer (some ⟨w0.heap.size, 0, none⟩)), x47, x48, x49, x50, x51, x52, x53, x54, x55, x56, x57] _ ⟨_, _, _, _, _, _, _, _, _, _, _, _, _, _, rfl, ⟨J.f0, J.f1, (fun _ => rfl), J.f3, J.f4, J.f5, J.f6, J.f7, J.f8, J.f9, J.f10, J.f11, J.f13, J.A, J.B, J.C⟩⟩
      · have hA := J.A (hcl.no 15 hd (by kernel_rfl))
        have hne : some W.heap.size ≠ some w0.heap.size := by have := hA.d.le; simp; omega
        refine wpOp_of rfl rfl ?_
        dsimp only [win, List.take_succ_cons, List.take_zero, List.drop_succ_cons, List.drop_zero, List.cons_append, List.nil_append, List.length_cons, List.length_nil, Nat.reduceAdd]
        go_simp
        exact hK [x44, x45, x46, (.slice (some ⟨W.heap.size, 0, none⟩) 3 3), x48, x49, x50, x51, x52, x53, x54, x55, x56, x57] _ ⟨_, _, _, _, _, _, _, _, _, _, _, _, _, _, rfl, ⟨J.f0, J.f1, J.f2, (fun _ _ => ⟨_, rfl, Blk.new _ _ _, hne⟩), J.f4, J.f5, J.f6, J.f7, (fun h1 h2 => (J.f8 h1 h2).alloc _), J.f9, J.f10, (fun h1 h2 => (J.f11 h1 h2).alloc _), J.f13, (fun h => (J.A h).alloc _), (fun h _ => no_tt h (hcl.no 15 hd (by kernel_rfl))), (fun h => no_tt h (hcl.no 15 hd (by kernel_rfl)))⟩⟩
      · have hA := J.A (hcl.no 15 hd (by kernel_rfl))
        obtain rfl := J.f2 (hdp 2 (by kernel_rfl))
        have hb4 := b2n (d 4)
        have hb6 := b2n (d 6)
        have hb9 := b2n (d 9)
        obtain ⟨q, rfl, hq, hne⟩ := J.f3 (hdp 3 (by kernel_rfl)) hd
        have hcount : ∀ M : Int, M + ((d 4).toNat : Int) + ((d 6).toNat : Int) + ((d 9).toNat : Int) + 1 ≤ M + ((upd d 4 4).toNat : Int) + ((upd d 4 6).toNat : Int) + ((upd d 4 9).toNat : Int) := by intro M; show _ ≤ M + ((true).toNat : Int) + ((d 6).toNat : Int) + ((d 9).toNat : Int); rw [hd]; simp <;> omega
        refine wpOp_of rfl rfl ?_
        dsimp only [win, List.take_succ_cons, List.take_zero, List.drop_succ_cons, List.drop_zero, List.cons_append, List.nil_append, List.length_cons, List.length_nil, Nat.reduceAdd]
        refine call_wp 66 #[.pointer (some ⟨w0.heap.size, 0, none⟩), .slice (some ⟨q, 0, none⟩) 3 3] (by kernel_rfl) _ (pickR PAny (l := [.int .i64 0, .int .i64 5, .int .i64 6]) (T := 2) cx hA.d hq hne (by omega) (by omega) (by omega) (by simp [IntRow, PAny]) (by rfl)) ?_
        rintro e w1 ⟨r, rfl, _, dd, gg⟩
        refine ⟨_, rfl, ?_⟩
        exact hK [x44, x45, .pointer (some ⟨w0.heap.size, 0, none⟩), .slice (some ⟨q, 0, none⟩) 3 3, (.int .i64 r), x49, x50, x51, x52, x53, x54, x55, x56, x57] _ ⟨_, _, _, _, _, _, _, _, _, _, _, _, _, _, rfl, ⟨J.f0, J.f1, J.f2, (fun _ h => by cases h), (fun _ => ⟨_, rfl⟩), J.f5, J.f6, J.f7, (fun h1 h2 => (J.f8 h1 h2).grown gg), J.f9, J.f10, (fun h1 h2 => (J.f11 h1 h2).grown gg), J.f13, (fun _ => (hA.grow gg dd).mono (hcount _)), (fun h _ => no_tt h (hcl.no 15 hd (by kernel_rfl))), (fun h => no_tt h (hcl.no 15 hd (by kernel_rfl)))⟩⟩
      · have hA := J.A (hcl.no 15 hd (by kernel_rfl))
        clear hA
        refine wpOp_of rfl rfl ?_
        dsimp only [win, List.take_succ_cons, List.take_zero, List.drop_succ_cons, List.drop_zero, List.cons_append, List.nil_append, List.length_cons, List.length_nil, Nat.reduceAdd]
        go_simp
        exact hK [x44, x45, x46, x47, x48, (.pointer (some ⟨w0.heap.size, 0, none⟩)), x50, x51, x52, x53, x54, x55, x56, x57] _ ⟨_, _, _, _, _, _, _, _, _, _, _, _, _, _, rfl, ⟨J.f0, J.f1, J.f2, J.f3, J.f4, (fun _ => rfl), J.f6, J.f7, J.f8, J.f9, J.f10, J.f11, J.f13, J.A, J.B, J.C⟩⟩
      · have hA := J.A (hcl.no 15 hd (by kernel_rfl))
        obtain rfl := J.f5 (hdp 5 (by kernel_rfl))
        have hb4 := b2n (d 4)
        have hb6 := b2n (d 6)
        have hb9 := b2n (d 9)
        have hcount : ∀ M : Int, M + ((d 4).toNat : Int) + ((d 6).toNat : Int) + ((d 9).toNat : Int) + 1 ≤ M + ((upd d 6 4).toNat : Int) + ((upd d 6 6).toNat : Int) + ((upd d 6 9).toNat : Int) := by intro M; show _ ≤ M + ((d 4).toNat : Int) + ((true).toNat : Int) + ((d 9).toNat : Int); rw [hd]; simp <;> omega
        refine wpOp_of rfl rfl ?_
        dsimp only [win, List.take_succ_cons, List.take_zero, List.drop_succ_cons, List.drop_zero, List.cons_append, List.nil_append, List.length_cons, List.length_nil, Nat.reduceAdd]
        refine call_wp 41 #[.pointer (some ⟨w0.heap.size, 0, none⟩), .int .i64 5] (by kernel_rfl) _ (drawsD cx hA.d 5 (by omega) (by omega) (by omega)) ?_
        rintro e w1 ⟨r, rfl, _, _, dd, gg⟩
        refine ⟨_, rfl, ?_⟩
        exact hK [x44, x45, x46, x47, x48, .pointer (some ⟨w0.heap.size, 0, none⟩), (.int .i64 r), x51, x52, x53, x54, x55, x56, x57] _ ⟨_, _, _, _, _, _, _, _, _, _, _, _, _, _, rfl, ⟨J.f0, J.f1, J.f2, (fun h1 h2 => (J.f3 h1 h2).grown gg), J.f4, J.f5, (fun _ => ⟨_, rfl⟩), J.f7, (fun h1 h2 => (J.f8 h1 h2).grown gg), J.f9, J.f10, (fun h1 h2 => (J.f11 h1 h2).grown gg), J.f13, (fun _ => (hA.grow gg dd).mono (hcount _)), (fun h _ => no_tt h (hcl.no 15 hd (by kernel_rfl))), (fun h => no_tt h (hcl.no 15 hd (by kernel_rfl)))⟩⟩
      · have hA := J.A (hcl.no 15 hd (by kernel_rfl))
        clear hA
        refine wpOp_of rfl rfl ?_
        dsimp only [win, List.take_succ_cons, List.take_zero, List.drop_succ_cons, List.drop_zero, List.cons_append, List.nil_append, List.length_cons, List.length_nil, Nat.reduceAdd]
        go_simp
        exact hK [x44, x45, x46, x47, x48, x49, x50, (.pointer (some ⟨w0.heap.size, 0, none⟩)), x52, x53, x54, x55, x56, x57] _ ⟨_, _, _, _, _, _, _, _, _, _, _, _, _, _, rfl, ⟨J.f0, J.f1, J.f2, J.f3, J.f4, J.f5, J.f6, (fun _ => rfl), J.f8, J.f9, J.f10, J.f11, J.f13, J.A, J.B, J.C⟩⟩
      · have hA := J.A (hcl.no 15 hd (by kernel_rfl))
        have hne : some W.heap.size ≠ some w0.heap.size := by have := hA.d.le; simp; omega
        refine wpOp_of rfl rfl ?_
        dsimp only [win, List.take_succ_cons, List.take_zero, List.drop_succ_cons, List.drop_zero, List.cons_append, List.nil_append, List.length_cons, List.length_nil, Nat.reduceAdd]
        go_simp
        exact hK [x44, x45, x46, x47, x48, x49, x50, x51, (.slice (some ⟨W.heap.size, 0, none⟩) 2 2), x53, x54, x55, x56, x57] _ ⟨_, _, _, _, _, _, _, _, _, _, _, _, _, _, rfl, ⟨J.f0, J.f1, J.f2, (fun h1 h2 => (J.f3 h1 h2).alloc _), J.f4, J.f5, J.f6, J.f7, (fun _ _ => ⟨_, rfl, Blk.new _ _ _, hne⟩), J.f9, J.f10, (fun h1 h2 => (J.f11 h1 h2).alloc _), J.f13, (fun h => (J.A h).alloc _), (fun h _ => no_tt h (hcl.no 15 hd (by kernel_rfl))), (fun h => no_tt h (hcl.no 15 hd (by kernel_rfl)))⟩⟩
      · have hA := J.A (hcl.no 15 hd (by kernel_rfl))
        obtain rfl := J.f7 (hdp 7 (by kernel_rfl))
        have hb4 := b2n (d 4)
        have hb6 := b2n (d 6)
        have hb9 := b2n (d 9)
        obtain ⟨q, rfl, hq, hne⟩ := J.f8 (hdp 8 (by kernel_rfl)) hd
        have hcount : ∀ M : Int, M + ((d 4).toNat : Int) + ((d 6).toNat : Int) + ((d 9).toNat : Int) + 1 ≤ M + ((upd d 9 4).toNat : Int) + ((upd d 9 6).toNat : Int) + ((upd d 9 9).toNat : Int) := by intro M; show _ ≤ M + ((d 4).toNat : Int) + ((d 6).toNat : Int) + ((true).toNat : Int); rw [hd]; simp <;> omega
        refine wpOp_of rfl rfl ?_
        dsimp only [win, List.take_succ_cons, List.take_zero, List.drop_succ_cons, List.drop_zero, List.cons_append, List.nil_append, List.length_cons, List.length_nil, Nat.reduceAdd]
        refine call_wp 66 #[.pointer (some ⟨w0.heap.size, 0, none⟩), .slice (some ⟨q, 0, none⟩) 2 2] (by kernel_rfl) _ (pickR PAny (l := [.int .i64 0, .int .i64 2048]) (T := 2) cx hA.d hq hne (by omega) (by omega) (by omega) (by simp [IntRow, PAny]) (by rfl)) ?_
        rintro e w1 ⟨r, rfl, _, dd, gg⟩
        refine ⟨_, rfl, ?_⟩
        exact hK [x44, x45, x46, x47, x48, x49, x50, .pointer (some ⟨w0.heap.size, 0, none⟩), .slice (some ⟨q, 0, none⟩) 2 2, (.int .i64 r), x54, x55, x56, x57] _ ⟨_, _, _, _, _, _, _, _, _, _, _, _, _, _, rfl, ⟨J.f0, J.f1, J.f2, (fun h1 h2 => (J.f3 h1 h2).grown gg), J.f4, J.f5, J.f6, J.f7, (fun _ h => by cases h), (fun _ => ⟨_, rfl⟩), J.f10, (fun h1 h2 => (J.f11 h1 h2).grown gg), J.f13, (fun _ => (hA.grow gg dd).mono (hcount _)), (fun h _ => no_tt h (hcl.no 15 hd (by kernel_rfl))), (fun h => no_tt h (hcl.no 15 hd (by kernel_rfl)))⟩⟩
      · have hA := J.A (hcl.no 15 hd (by kernel_rfl))
        obtain ⟨r4, rfl⟩ := J.f4 (hdp 4 (by kernel_rfl))
        obtain ⟨r6, rfl⟩ := J.f6 (hdp 6 (by kernel_rfl))
        obtain ⟨r9, rfl⟩ := J.f9 (hdp 9 (by kernel_rfl))
        clear hA
        refine wpOp_of rfl rfl ?_
        dsimp only [win, List.take_succ_cons, List.take_zero, List.drop_succ_cons, List.drop_zero, List.cons_append, List.nil_append, List.length_cons, List.length_nil, Nat.reduceAdd]
        go_simp
        exact hK [x44, x45, x46, x47, .int .i64 r4, x49, .int .i64 r6, x51, x52, .int .i64 r9, (.agg #[.int .i64 r4, .int .i64 r6, .int .i64 r9, .int .i64 0]), x55, x56, x57] _ ⟨_, _, _, _, _, _, _, _, _, _, _, _, _, _, rfl, ⟨J.f0, J.f1, J.f2, J.f3, J.f4, J.f5, J.f6, J.f7, J.f8, J.f9, (fun _ => ⟨⟨r4, r6, r9, 0⟩, rfl⟩), J.f11, J.f13, J.A, J.B, J.C⟩⟩
      · have hA := J.A (hcl.no 15 hd (by kernel_rfl))
        obtain ⟨u, rfl⟩ := J.f10 (hdp 10 (by kernel_rfl))
        have hne : some W.heap.size ≠ some w0.heap.size := by have := hA.d.le; simp; omega
        refine wpOp_of rfl rfl ?_
        dsimp only [win, List.take_succ_cons, List.take_zero, List.drop_succ_cons, List.drop_zero, List.cons_append, List.nil_append, List.length_cons, List.length_nil, Nat.reduceAdd]
        go_simp
        exact hK [x44, x45, x46, x47, x48, x49, x50, x51, x52, x53, .agg #[.int .i64 u.c0, .int .i64 u.c1, .int .i64 u.c2, .int .i64 u.c3], (.slice (some ⟨W.heap.size, 0, none⟩) 1 1), x56, x57] _ ⟨_, _, _, _, _, _, _, _, _, _, _, _, _, _, rfl, ⟨J.f0, J.f1, J.f2, (fun h1 h2 => (J.f3 h1 h2).alloc _), J.f4, J.f5, J.f6, J.f7, (fun h1 h2 => (J.f8 h1 h2).alloc _), J.f9, J.f10, (fun _ _ => ⟨_, u, rfl, Blk.new _ _ _, hne⟩), J.f13, (fun h => (J.A h).alloc _), (fun h _ => no_tt h (hcl.no 15 hd (by kernel_rfl))), (fun h => no_tt h (hcl.no 15 hd (by kernel_rfl)))⟩⟩
      · have hA := J.A hd
        obtain rfl := J.f1 (hdp 1 (by kernel_rfl))
        obtain ⟨q, u, rfl, hq, hne⟩ := J.f11 (hdp 11 (by kernel_rfl)) hd
        have hb4 := b2n (d 4)
        have hb6 := b2n (d 6)
        have hb9 := b2n (d 9)
        have dl : d 9 = true := hdp 9 (by kernel_rfl)
        have dc4 : d 4 = true := Bool.eq_false_or_eq_true (d 4) |>.elim id (fun hz => no_tt dl (hcl.no 15 hz (by kernel_rfl)))
        have dc6 : d 6 = true := Bool.eq_false_or_eq_true (d 6) |>.elim id (fun hz => no_tt dl (hcl.no 15 hz (by kernel_rfl)))
        refine wpOp_of rfl rfl ?_
        dsimp only [win, List.take_succ_cons, List.take_zero, List.drop_succ_cons, List.drop_zero, List.cons_append, List.nil_append, List.length_cons, List.length_nil, Nat.reduceAdd]
        refine pushS_wp (by rfl) (.tmp 45) (.tmp 55) (by rfl) q u w.heap.size _ se (by simp [Act.eval]; done) hA.S (by simp [Act.eval]; done) hq (by omega) hA.d.gr.size ?_
        intro v9 w9 S9 g9
        obtain ⟨p9, c9, n9, rfl⟩ := S9.frm
        obtain ⟨R9, B9, A9, U9, F9, O9, d9⟩ := hA.pushS g9 S9
        exact hK [x44, .slice ps ns cs, x46, x47, x48, x49, x50, x51, x52, x53, x54, .slice (some ⟨q, 0, none⟩) 1 1, (.slice p9 n9 c9), x57] _ ⟨_, _, _, _, _, _, _, _, _, _, _, _, _, _, rfl, ⟨J.f0, J.f1, J.f2, (fun _ h => no_tt dc4 h), J.f4, J.f5, J.f6, J.f7, (fun _ h => no_tt dl h), J.f9, J.f10, (fun _ h => by cases h), J.f13, (fun h => by cases h), (fun _ _ => ⟨p9, n9, c9, u, rfl, ⟨R9, B9, A9, U9, F9, O9, d9.mono (by omega)⟩, S9, ⟨hA.f4, hA.ne, hA.br, hA.bw, hA.bf⟩⟩), (fun h => no_tt h (hcl.no 15 hd (by kernel_rfl)))⟩⟩
      · refine wpOp_of rfl rfl ?_
        dsimp only [win, List.take_succ_cons, List.take_zero, List.drop_succ_cons, List.drop_zero, List.cons_append, List.nil_append, List.length_cons, List.length_nil, Nat.reduceAdd]
        go_simp
        exact hK [x44, x45, x46, x47, x48, x49, x50, x51, x52, x53, x54, x55, x56, (.pointer (some ⟨w2.heap.size, 5, none⟩))] _ ⟨_, _, _, _, _, _, _, _, _, _, _, _, _, _, rfl, ⟨J.f0, J.f1, J.f2, J.f3, J.f4, J.f5, J.f6, J.f7, J.f8, J.f9, J.f10, J.f11, (fun _ => rfl), J.A, J.B, J.C⟩⟩
      · obtain rfl := J.f13 (hdp 13 (by kernel_rfl))
        have da : d 12 = true := hdp 12 (by kernel_rfl)
        obtain ⟨p9, n9, c9, u, rfl, ⟨R9, B9, A9, U9, F9, O9, d9⟩, S9, ⟨f4, hne, hbr, hbw, hbf⟩⟩ := J.B da hd
        have p5 := B9.cell (i := 5) rfl
        have z5 := B9.frozen 5
        have bl := B9.lt
        have dc4 : d 4 = true := Bool.eq_false_or_eq_true (d 4) |>.elim id (fun hz => no_tt da (hcl.no 15 hz (by kernel_rfl)))
        have dc9 : d 9 = true := Bool.eq_false_or_eq_true (d 9) |>.elim id (fun hz => no_tt da (hcl.no 15 hz (by kernel_rfl)))
        refine wpOp_of rfl rfl ?_
        dsimp only [win, List.take_succ_cons, List.take_zero, List.drop_succ_cons, List.drop_zero, List.cons_append, List.nil_append, List.length_cons, List.length_nil, Nat.reduceAdd]
        go_simp
        exact hK [x44, x45, x46, x47, x48, x49, x50, x51, x52, x53, x54, x55, .slice p9 n9 c9, .pointer (some ⟨w2.heap.size, 5, none⟩)] _ ⟨_, _, _, _, _, _, _, _, _, _, _, _, _, _, rfl, ⟨J.f0, J.f1, J.f2, (fun _ h => no_tt dc4 h), J.f4, J.f5, J.f6, J.f7, (fun _ h => no_tt dc9 h), J.f9, J.f10, (fun _ h => no_tt da h), J.f13, (fun h => no_tt da h), (fun _ h => by cases h), (fun _ => ⟨p9, n9, c9, u, ⟨R9.setOther (a := ⟨w2.heap.size, 5, none⟩) hne _, B9.set 5 (.slice p9 n9 c9), A9.setOther (a := ⟨w2.heap.size, 5, none⟩) (bk_ne A9 B9 (by decide)) _, f4, U9.setB B9 (by decide) _, F9.setB B9 (by decide) _, S9.setB B9 (by decide) _, O9.setB B9 (by decide) _, hne, hbr, hbw, hbf, d9.set (p := ⟨w2.heap.size, 5, none⟩) hbw _⟩⟩)⟩⟩
    · rintro d xs W hall ⟨x44, x45, x46, x47, x48, x49, x50, x51, x52, x53, x54, x55, x56, x57, rfl, J⟩
      obtain ⟨p9, n9, c9, u9, D10⟩ := J.C (hall 14 (by decide))
      clear J hall
      dsimp only [win, List.take_succ_cons, List.take_zero, List.drop_succ_cons, List.drop_zero, List.cons_append, List.nil_append, List.length_cons, List.length_nil, Nat.reduceAdd]
      clear E0 D4
      have q0 := D10.B.cell (i := 0) rfl
      have q1 := D10.B.cell (i := 1) rfl
      have q2 := D10.B.cell (i := 2) rfl
      have q3 := D10.B.cell (i := 3) rfl
      have q4 := D10.B.cell (i := 4) rfl
      have q5 := D10.B.cell (i := 5) rfl
      have q6 := D10.B.cell (i := 6) rfl
      have bl := D10.B.lt
      have y0 := D10.R.cell (i := 0) rfl
      have y1 := D10.R.cell (i := 1) rfl
      have y2 := D10.R.cell (i := 2) rfl
      have y3 := D10.R.cell (i := 3) rfl
      have y4 := D10.R.cell (i := 4) rfl
      have y5 := D10.R.cell (i := 5) rfl
      have y6 := D10.R.cell (i := 6) rfl
      have z0 := D10.R.frozen 0
      have z1 := D10.R.frozen 1
      have z2 := D10.R.frozen 2
      have z3 := D10.R.frozen 3
      have z4 := D10.R.frozen 4
      have z5 := D10.R.frozen 5
      have z6 := D10.R.frozen 6
      have rl := D10.R.lt
      have F := D10.fill (.int .i64 t) (.int .i64 s) (.slice pv nv cv) (.slice pf nf cf) (.slice (some ⟨fb, 0, none⟩) 4 4) (.slice p9 n9 c9) (.slice po no co)
      go_wp2_with fail
      exact bodyPost_ret (v := .agg (wV t s (.slice pv nv cv) (.slice pf nf cf) fb (.slice p9 n9 c9) (.slice po no co))) (resultW Tryz.results40 F.1 ⟨_, _, _, rfl⟩ ⟨_, _, _, rfl⟩ ⟨_, _, _, rfl⟩ ⟨_, _, _, rfl⟩ _ rfl) rfl ⟨_, _, _, _, _, _, _, us, fs, fa, _, oo, rfl, F.2.1, D10.f4, F.2.2.1, F.2.2.2.1, F.2.2.2.2.1, F.2.2.2.2.2.1, D10.bf, by omega, by omega, by first | omega | (rw [List.length_append]; simp; omega), by first | omega | (rw [List.length_append]; simp; omega), F.2.2.2.2.2.2.mono (by omega)⟩
  · skip
    have q0 := D4.B.cell (i := 0) rfl
    have q1 := D4.B.cell (i := 1) rfl
    have q2 := D4.B.cell (i := 2) rfl
    have q3 := D4.B.cell (i := 3) rfl
    have q4 := D4.B.cell (i := 4) rfl
    have q5 := D4.B.cell (i := 5) rfl
    have q6 := D4.B.cell (i := 6) rfl
    have bl := D4.B.lt
    have y0 := D4.R.cell (i := 0) rfl
    have y1 := D4.R.cell (i := 1) rfl
    have y2 := D4.R.cell (i := 2) rfl
    have y3 := D4.R.cell (i := 3) rfl
    have y4 := D4.R.cell (i := 4) rfl
    have y5 := D4.R.cell (i := 5) rfl
    have y6 := D4.R.cell (i := 6) rfl
    have z0 := D4.R.frozen 0
    have z1 := D4.R.frozen 1
    have z2 := D4.R.frozen 2
    have z3 := D4.R.frozen 3
    have z4 := D4.R.frozen 4
    have z5 := D4.R.frozen 5
    have z6 := D4.R.frozen 6
    have rl := D4.R.lt
    have F := D4.fill (.int .i64 t) (.int .i64 s) (.slice pv nv cv) (.slice pf nf cf) (.slice (some ⟨fb, 0, none⟩) 4 4) (.slice ps ns cs) (.slice po no co)
    go_wp2_with fail
    exact bodyPost_ret (v := .agg (wV t s (.slice pv nv cv) (.slice pf nf cf) fb (.slice ps ns cs) (.slice po no co))) (resultW Tryz.results40 F.1 ⟨_, _, _, rfl⟩ ⟨_, _, _, rfl⟩ ⟨_, _, _, rfl⟩ ⟨_, _, _, rfl⟩ _ rfl) rfl ⟨_, _, _, _, _, _, _, us, fs, fa, se, oo, rfl, F.2.1, D4.f4, F.2.2.1, F.2.2.2.1, F.2.2.2.2.1, F.2.2.2.2.2.1, D4.bf, by omega, by omega, by first | omega | (rw [List.length_append]; simp; omega), by first | omega | (rw [List.length_append]; simp; omega), F.2.2.2.2.2.2.mono (by omega)⟩
end Go.Proofs.YtmfdggaijbcijaaGreat
end
