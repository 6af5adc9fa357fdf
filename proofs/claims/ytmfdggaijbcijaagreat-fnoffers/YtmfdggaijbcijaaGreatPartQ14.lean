/- Texts of mine put together (a claim holds at most 60 files): WldDraws3. -/
import Derived.Test.YtmfdggaijbcijaaGreatPartQ12
import Derived.Test.YtmfdggaijbcijaaGreatPartQ13

/- WldDraws3 -/
/- The contract of the draw of a world: lists of its own, four factions, none with an Allies below 0. Condition: the code has at most 1048576 bytes, which can be read. -/
section
namespace Go.Proofs.YtmfdggaijbcijaaGreat
open Go.ChangeShapes Go.WideShapes Go.ChangeAt Go.RowKit
set_option linter.unusedVariables false

theorem Dn.later {w0 w W W' : World} {a : Option Addr} {len cap : Nat} {n : Int} (h : Dn w0 w W a len cap n) (hb : Below W.heap.size W W') : Dn w0 w W' a len cap n :=
  h.push (r := none) ⟨hb.os, hb.tape, hb.output, hb.size, fun i hi _ => hb.block i hi⟩ (fun q hq => by cases hq)
theorem resultW {w : World} {p : Nat} {t s : Int} {fb : Nat} {vu vf vs vo : Value} {fn : Func} {k : Nat} (hf : fn.results = #[.cell k 32]) (h : Blk w p (wV t s vu vf fb vs vo) 32) (h1 : ∃ p c n, vu = .slice p n c) (h2 : ∃ p c n, vf = .slice p n c) (h3 : ∃ p c n, vs = .slice p n c) (h4 : ∃ p c n, vo = .slice p n c) (T : Array Value) (hT : T[k]?.getD undef = .pointer (some ⟨p, 0, none⟩)) :
    (results fn T).run Tryz.prog w = .ok (.agg (wV t s vu vf fb vs vo)) w := by
  obtain ⟨p1, c1, n1, rfl⟩ := h1
  obtain ⟨p2, c2, n2, rfl⟩ := h2
  obtain ⟨p3, c3, n3, rfl⟩ := h3
  obtain ⟨p4, c4, n4, rfl⟩ := h4
  have c0 := h.cell (i := 0) rfl
  have c1 := h.cell (i := 1) rfl
  have c2 := h.cell (i := 2) rfl
  have c3 := h.cell (i := 3) rfl
  have c4 := h.cell (i := 4) rfl
  have c5 := h.cell (i := 5) rfl
  have c6 := h.cell (i := 6) rfl
  simp [results, hf, go_sem, hT, c0, c1, c2, c3, c4, c5, c6]
abbrev set7 (W : World) (g : Nat) (v0 v1 v2 v3 v4 v5 v6 : Value) : World := ((((((W.setCell ⟨g, 0, none⟩ v0).setCell ⟨g, 1, none⟩ v1).setCell ⟨g, 2, none⟩ v2).setCell ⟨g, 3, none⟩ v3).setCell ⟨g, 4, none⟩ v4).setCell ⟨g, 5, none⟩ v5).setCell ⟨g, 6, none⟩ v6
/- the answer's block is filled -/
theorem WD.fill {w0 w W : World} {a : Option Addr} {len cap : Nat} {n : Int} {rb wb fb : Nat} {t s : Int} {vu vf vs vo : Value} {us : List K10} {fs : List K3} {fa : List KA} {se : List K4} {oo : List K2} (h : WD w0 w W a len cap n rb wb fb t s vu vf vs vo us fs fa se oo) (v0 v1 v2 v3 v4 v5 v6 : Value) :
    Blk (set7 W rb v0 v1 v2 v3 v4 v5 v6) rb #[v0, v1, v2, v3, v4, v5, v6] 32 ∧ Blk (set7 W rb v0 v1 v2 v3 v4 v5 v6) fb (flatA fa).toArray 64 ∧ SlU (set7 W rb v0 v1 v2 v3 v4 v5 v6) w.heap.size vu us ∧ SlF (set7 W rb v0 v1 v2 v3 v4 v5 v6) w.heap.size vf fs ∧ SlS (set7 W rb v0 v1 v2 v3 v4 v5 v6) w.heap.size vs se ∧ SlO (set7 W rb v0 v1 v2 v3 v4 v5 v6) w.heap.size vo oo ∧ Dn w0 w (set7 W rb v0 v1 v2 v3 v4 v5 v6) a len cap n := by
  have kb : ∀ q, q ≠ rb → (set7 W rb v0 v1 v2 v3 v4 v5 v6).heap[q]? = W.heap[q]? := fun q hq => (Below.heap_setCell _ _ _ _ hq).trans ((Below.heap_setCell _ _ _ _ hq).trans ((Below.heap_setCell _ _ _ _ hq).trans ((Below.heap_setCell _ _ _ _ hq).trans ((Below.heap_setCell _ _ _ _ hq).trans ((Below.heap_setCell _ _ _ _ hq).trans (Below.heap_setCell _ _ _ _ hq))))))
  have r7 : Blk (set7 W rb v0 v1 v2 v3 v4 v5 v6) rb #[v0, v1, v2, v3, v4, v5, v6] 32 := ((((((h.R.set 0 v0).set 1 v1).set 2 v2).set 3 v3).set 4 v4).set 5 v5).set 6 v6
  have ne : ∀ {q}, some rb ≠ some q → q ≠ rb := fun hq e => hq (by rw [e])
  refine ⟨r7, ?_, h.U.of_block (fun q hq => kb q (ne (by rw [← hq]; exact h.U.ne h.R (by decide)))), h.F.of_block (fun q hq => kb q (ne (by rw [← hq]; exact h.F.ne h.R (by decide)))), h.S.of_block (fun q hq => kb q (ne (by rw [← hq]; exact h.S.ne h.R (by decide)))), h.O.of_block (fun q hq => kb q (ne (by rw [← hq]; exact h.O.ne h.R (by decide)))), ?_⟩
  · unfold Blk
    rw [kb fb (bk_ne h.A h.R (by decide))]
    exact h.A
  · exact ((((((h.d.set (p := ⟨rb, 0, none⟩) h.br v0).set (p := ⟨rb, 1, none⟩) h.br v1).set (p := ⟨rb, 2, none⟩) h.br v2).set (p := ⟨rb, 3, none⟩) h.br v3).set (p := ⟨rb, 4, none⟩) h.br v4).set (p := ⟨rb, 5, none⟩) h.br v5).set (p := ⟨rb, 6, none⟩) h.br v6
def LsAt (w0 W : World) (x : Value) (cs : Array Value) (m : Nat) : Prop := ∃ q, x = .slice (some ⟨q, 0, none⟩) m m ∧ Blk W q cs 2 ∧ some q ≠ some w0.heap.size
def OnAt (w0 W : World) (x : Value) : Prop := ∃ (q : Nat) (u : K4), x = .slice (some ⟨q, 0, none⟩) 1 1 ∧ Blk W q u.v 88 ∧ some q ≠ some w0.heap.size
theorem LsAt.alloc {w0 W : World} {x : Value} {cs : Array Value} {m : Nat} (h : LsAt w0 W x cs m) (o : Obj) : LsAt w0 (W.alloc o) x cs m := by obtain ⟨q, e, h1, h2⟩ := h; exact ⟨q, e, h1.alloc o, h2⟩
theorem LsAt.grown {w0 W W' : World} {x : Value} {cs : Array Value} {m : Nat} (h : LsAt w0 W x cs m) (g : W.grownBy W' (some w0.heap.size)) : LsAt w0 W' x cs m := by obtain ⟨q, e, h1, h2⟩ := h; exact ⟨q, e, h1.grown g h2, h2⟩
theorem OnAt.alloc {w0 W : World} {x : Value} (h : OnAt w0 W x) (o : Obj) : OnAt w0 (W.alloc o) x := by obtain ⟨q, u, e, h1, h2⟩ := h; exact ⟨q, u, e, h1.alloc o, h2⟩
theorem OnAt.grown {w0 W W' : World} {x : Value} (h : OnAt w0 W x) (g : W.grownBy W' (some w0.heap.size)) : OnAt w0 W' x := by obtain ⟨q, u, e, h1, h2⟩ := h; exact ⟨q, u, e, h1.grown g h2, h2⟩
def PBs (w0 w W : World) (a : Option Addr) (len cap : Nat) (N : Int) (rb wb fb : Nat) (t s : Int) (vu vf vo : Value) (ps : Option Addr) (ns cs : Nat) (us : List K10) (fs : List K3) (fa : List KA) (se : List K4) (oo : List K2) (x : Value) : Prop :=
  ∃ (p9 : Option Addr) (n9 c9 : Nat) (u : K4), x = .slice p9 n9 c9 ∧ (Blk W rb zW 32 ∧ Blk W wb (wV t s vu vf fb (.slice ps ns cs) vo) 32 ∧ Blk W fb (flatA fa).toArray 64 ∧ SlU W w.heap.size vu us ∧ SlF W w.heap.size vf fs ∧ SlO W w.heap.size vo oo ∧ Dn w0 w W a len cap N) ∧ SlS W w.heap.size (.slice p9 n9 c9) (se ++ [u]) ∧ (Fac4 fa ∧ rb ≠ wb ∧ w.heap.size ≤ rb ∧ w.heap.size ≤ wb ∧ w.heap.size ≤ fb)
theorem call_wp {o : Oper} {a : Act} {W : World} {K : Act → World → Prop} {Q : Exit → Act → World → Prop} (f : FuncId) (args : Array Value)
    (hrun : (execOp a.eval o).run Tryz.prog W = .ok (.enter f args) W) (post : Ending → World → Prop) (hc : Calls Tryz.prog f args W post) (h : ∀ e w', post e w' → ∃ v, e = .returned v ∧ K (a.put o.dst v) w') : Oper.wp Tryz.prog o a W K Q := by
  unfold Oper.wp
  rw [hrun, Oper.upon_enter]
  refine hc.mono fun e w' hp => ?_
  obtain ⟨v, rfl, hk⟩ := h e w' hp
  exact hk
theorem pushS_wp {o : Oper} {a : Act} {W : World} {K : Act → World → Prop} {Q : Exit → Act → World → Prop} (hgd : o.guard = none) (s x : Operand)
    (ho : o.op = .call { callee := .builtin .append, args := #[s, x], argTypes := #[29, 29] }) (b : Nat) (u : K4) (base : Nat) (v : Value) (l : List K4) (hs : a.eval s = v) (hown : SlS W base v l)
    (hx : a.eval x = .slice (some ⟨b, 0, none⟩) 1 1) (hc : Blk W b u.v 88) (hlen : l.length ≤ 100) (hbase : base ≤ W.heap.size)
    (h : ∀ v' w', SlS w' base v' (l ++ [u]) → W.grownBy w' v.ownBlock → K (a.put o.dst v') w') : Oper.wp Tryz.prog o a W K Q := by
  have h1 := step_pushS (ops := #[]) (E := False) (Q := Q) hgd s x ho b u base v l hs hown hx hc hlen hbase h
  have hw : Region.wanted o (yielded #[] a.tmps) = true := by simp [Region.wanted, hgd]
  rw [if_pos hw] at h1
  exact h1
theorem b2n (b : Bool) : 0 ≤ (b.toNat : Int) ∧ (b.toNat : Int) ≤ 1 := by cases b <;> simp
theorem no_tt {P : Prop} {b : Bool} (h : b = true) (h' : b = false) : P := by rw [h] at h'; cases h'
structure J19 (w0 w : World) (a : Option Addr) (len cap : Nat) (N : Int) (rb wb fb : Nat) (t s : Int) (vu vf vo : Value) (ps : Option Addr) (ns cs : Nat) (us : List K10) (fs : List K3) (fa : List KA) (se : List K4) (oo : List K2) (k : Int) (d : Nat → Bool) (x53 x54 x55 x56 x57 x58 x59 x60 x61 x62 x63 x64 x65 x66 x67 x68 x69 : Value) (W : World) : Prop where
  f0 : d 0 = true → x53 = .pointer (some ⟨wb, 5, none⟩)
  f1 : d 1 = true → x54 = .slice ps ns cs
  f2 : d 2 = true → x55 = .int .i64 k
  f3 : d 3 = true → x56 = .pointer (some ⟨w0.heap.size, 0, none⟩)
  f4 : d 4 = true → x57 = .int .i64 k
  f5 : d 5 = true → d 6 = false → LsAt w0 W x58 #[.int .i64 k, .int .i64 0, .int .i64 1] 3
  f6 : d 6 = true → ∃ r : Int, x59 = .int .i64 r
  f7 : d 7 = true → x60 = .pointer (some ⟨w0.heap.size, 0, none⟩)
  f8 : d 8 = true → d 9 = false → LsAt w0 W x61 #[.int .i64 2047, .int .i64 2047, .int .i64 2047, .int .i64 7, .int .i64 0] 5
  f9 : d 9 = true → ∃ r : Int, x62 = .int .i64 r
  f10 : d 10 = true → x63 = .pointer (some ⟨w0.heap.size, 0, none⟩)
  f11 : d 11 = true → d 12 = false → LsAt w0 W x64 #[.int .i64 0, .int .i64 0, .int .i64 3, .int .i64 999] 4
  f12 : d 12 = true → ∃ r : Int, x65 = .int .i64 r
  f13 : d 13 = true → ∃ u : K4, x66 = .agg #[.int .i64 u.c0, .int .i64 u.c1, .int .i64 u.c2, .int .i64 u.c3]
  f14 : d 14 = true → d 15 = false → OnAt w0 W x67
  f16 : d 16 = true → x69 = .pointer (some ⟨wb, 5, none⟩)
  A : d 15 = false → WD w0 w W a len cap (N + ((d 6).toNat : Int) + ((d 9).toNat : Int) + ((d 12).toNat : Int)) rb wb fb t s vu vf (.slice ps ns cs) vo us fs fa se oo
  B : d 15 = true → d 17 = false → PBs w0 w W a len cap (N + 3) rb wb fb t s vu vf vo ps ns cs us fs fa se oo x68
  C : d 17 = true → ∃ (p9 : Option Addr) (n9 c9 : Nat) (u : K4), WD w0 w W a len cap (N + 3) rb wb fb t s vu vf (.slice p9 n9 c9) vo us fs fa (se ++ [u]) oo
def PBit (x : Int) : Prop := 0 ≤ x ∧ x < 32
set_option maxRecDepth 20000 in
set_option maxHeartbeats 16000000 in
theorem l6Draw_c {w0 w : World} {a : Option Addr} {len cap : Nat} {n : Int} (cx : Cx w0 a len) (d : Dn w0 w w a len cap n) (hn : n ≤ 300000) :
    Calls Tryz.prog 76 #[.pointer (some ⟨w0.heap.size, 0, none⟩)] w fun e w' => ∃ t s vu vf fb vs vo us fs fa se oo, e = .returned (.agg (wV t s vu vf fb vs vo)) ∧ Blk w' fb (flatA fa).toArray 64 ∧ Fac4 fa ∧ SlU w' w.heap.size vu us ∧ SlF w' w.heap.size vf fs ∧ SlS w' w.heap.size vs se ∧ SlO w' w.heap.size vo oo ∧ w.heap.size ≤ fb ∧ us.length ≤ 8 ∧ fs.length ≤ 5 ∧ se.length ≤ 4 ∧ oo.length ≤ 1 ∧ Dn w0 w w' a len cap (n + 400) := by
  have hlt := d.lt
  have R0 := Blk.new w zW 32
  have d0 := d.alloc (.cells zW 32)
  obtain ⟨W1, HW1⟩ : ∃ W1, Hid (W1 = w.alloc (.cells zW 32)) := ⟨_, rfl⟩
  rw [← HW1.out] at R0 d0
  have hs1 : w.heap.size + 1 = W1.heap.size := by rw [HW1.out]; exact (size_new _ _).symm
  have Hs1 : Hid (w.heap.size + 1 = W1.heap.size) := hs1
  clear hs1
  go_enter Tryz.func76, Tryz.ntmps76
  go_upto_region 1 with fail
  rw [← HW1.out]
  go_wp2_with fail
  refine (l6New_w W1).mono ?_
  rintro e w2 ⟨fb, rfl, A2, hfb, k2⟩
  obtain ⟨W3, HW3⟩ : ∃ W3, Hid (W3 = w2.alloc (.cells (w7' fb) 32)) := ⟨_, rfl⟩
  have hw2 : w.heap.size < w2.heap.size := by have := Hs1.out; have := k2.size; omega
  have D3 : Hid (WD w0 w W3 a len cap n w.heap.size w2.heap.size fb 0 0 (.slice none 0 0) (.slice none 0 0) (.slice none 0 0) (.slice none 0 0) [] [] [KA.z, KA.z, KA.z, KA.z] [] []) := by
    rw [HW3.out]
    exact ⟨(R0.below k2).alloc _, Blk.new w2 _ _, A2.alloc _, Fac4.z, ⟨rfl, .inl ⟨rfl, rfl⟩⟩, ⟨rfl, .inl ⟨rfl, rfl⟩⟩, SlS.nil _ _, SlO.nil _ _, by omega, Nat.le_refl _, by omega, by have := Hs1.out; omega, (d0.later k2).alloc _⟩
  clear R0 A2 d0 k2 hfb
  go_upto_region 2 with fail
  rw [← HW3.out]
  go_wp2_with fail
  refine (pickD PAny cx rfl D3.out.d (by omega) (by omega) (by omega) (by simp [IntRow, PAny]) (by rfl)).mono ?_
  rintro e w4 ⟨t, rfl, _, d4, g4⟩
  have D4 := D3.out.grow g4 d4
  clear D3
  have p0 := D4.B.cell (i := 0) rfl
  have z0 := D4.B.frozen 0
  have bl := D4.B.lt
  obtain ⟨W5, HW5⟩ : ∃ W5, Hid (W5 = w4.setCell ⟨w2.heap.size, 0, none⟩ (.int .i64 t)) := ⟨_, rfl⟩
  have D5 : Hid (WD w0 w W5 a len cap (n + 1) w.heap.size w2.heap.size fb t 0 (.slice none 0 0) (.slice none 0 0) (.slice none 0 0) (.slice none 0 0) [] [] [KA.z, KA.z, KA.z, KA.z] [] []) := by rw [HW5.out]; exact D4.setW 0 (.int .i64 t) rfl D4.U D4.F D4.S D4.O
  clear D4
  go_upto_region 3 with fail
  rw [← HW5.out]
  clear p0 z0 bl
  go_wp2_with fail
  refine (pickD PAny cx rfl D5.out.d (by omega) (by omega) (by omega) (by simp [IntRow, PAny]) (by rfl)).mono ?_
  rintro e w6 ⟨s, rfl, _, d6, g6⟩
  have D6 := D5.out.grow g6 d6
  clear D5
  have p1 := D6.B.cell (i := 1) rfl
  have z1 := D6.B.frozen 1
  have bl := D6.B.lt
  obtain ⟨W7, HW7⟩ : ∃ W7, Hid (W7 = w6.setCell ⟨w2.heap.size, 1, none⟩ (.int .i64 s)) := ⟨_, rfl⟩
  have D7 : Hid (WD w0 w W7 a len cap (n + 1 + 1) w.heap.size w2.heap.size fb t s (.slice none 0 0) (.slice none 0 0) (.slice none 0 0) (.slice none 0 0) [] [] [KA.z, KA.z, KA.z, KA.z] [] []) := by rw [HW7.out]; exact D6.setW 1 (.int .i64 s) rfl D6.U D6.F D6.S D6.O
  clear D6
  go_upto_region 4 with fail
  rw [← HW7.out]
  clear p1 z1 bl
  go_wp2_with fail
  refine (l4Draw_c cx D7.out.d.self (by omega)).mono ?_
  rintro e w8 ⟨v, f, us, fs, rfl, S8, F8, hus, hfs, e8⟩
  have D8 := D7.out.grow e8.gr (D7.out.d.trans e8)
  have hw7 : w.heap.size ≤ W7.heap.size := D7.out.d.gr.size
  replace S8 := S8.mono hw7
  replace F8 := F8.mono hw7
  obtain ⟨pv, cv, nv, rfl⟩ := S8.frm
  obtain ⟨pf, cf, nf, rfl⟩ := F8.frm
  have p2 := D8.B.cell (i := 2) rfl
  have p3 := D8.B.cell (i := 3) rfl
  have z2 := D8.B.frozen 2
  have z3 := D8.B.frozen 3
  have bl := D8.B.lt
  obtain ⟨W9, HW9⟩ : ∃ W9, Hid (W9 = (w8.setCell ⟨w2.heap.size, 2, none⟩ (.slice pv nv cv)).setCell ⟨w2.heap.size, 3, none⟩ (.slice pf nf cf)) := ⟨_, rfl⟩
  have D9 : Hid (WD w0 w W9 a len cap (n + 150) w.heap.size w2.heap.size fb t s (.slice pv nv cv) (.slice pf nf cf) (.slice none 0 0) (.slice none 0 0) us fs [KA.z, KA.z, KA.z, KA.z] [] []) := by
    rw [HW9.out]
    have X := D8.setW (us' := us) 2 (.slice pv nv cv) (vu' := .slice pv nv cv) rfl S8 D8.F D8.S D8.O
    exact (X.setW (fs' := fs) 3 (.slice pf nf cf) (vf' := .slice pf nf cf) rfl X.U (F8.setB D8.B (by decide) _) X.S X.O).mono (by omega)
  clear D8 D7 S8 F8 e8
  go_upto_region 5 with fail
  rw [← HW9.out]
  clear p2 p3 z2 z3 bl
  go_wp2_with fail
  go_loopw [4] (fun i wr => ∃ (k : Nat) (fa : List KA), k ≤ 4 ∧ i = .int .i64 k ∧ Hid (WD w0 w wr a len cap (n + 150 + k) w.heap.size w2.heap.size fb t s (.slice pv nv cv) (.slice pf nf cf) (.slice none 0 0) (.slice none 0 0) us fs fa [] [])) (fun i _ => 4 - (intOf i).toNat)
  case atStart => exact ⟨0, _, Nat.zero_le _, rfl, ⟨D9.out.R, D9.out.B, D9.out.A, D9.out.f4, D9.out.U, D9.out.F, D9.out.S, D9.out.O, D9.out.ne, D9.out.br, D9.out.bw, D9.out.bf, D9.out.d.mono (by omega)⟩⟩
  case round =>
    clear D9
    obtain ⟨k, fa, hk, rfl, D⟩ := hrel
    by_cases hlt4 : k < 4
    · have hlt' : (k : Int) < 4 := by omega
      obtain ⟨x, hx', x0, x1⟩ := D.out.f4.at hlt4
      have hx : Hid (fa[k]? = some x) := hx'
      have p4 : wr.cell? ⟨w2.heap.size, 4, none⟩ = some (.slice (some ⟨fb, 0, none⟩) 4 4) := D.out.B.cell (i := 4) rfl
      have bl := D.out.B.lt
      have dD := D.out.drew
      clear hx'
      go_upto_region 8 with fail
      go_region_law (first
        | (refine step_call rfl 66 #[.pointer (some ⟨w0.heap.size, 0, none⟩), .slice (some ⟨wr.heap.size, 0, none⟩) 4 4] (by first | kernel_rfl | (simp [execOp, resolve, invoke, Act.eval, go_sem]; done)) _ (pickD PAny cx rfl dD.d (by omega) (by omega) (by omega) (by simp [IntRow, PAny]) (by rfl)) ?_; rintro e wa ⟨y, rfl, _, da, ga⟩; refine ⟨_, rfl, ?_⟩; have Da := dD.grow ga da; have p4 : wa.cell? ⟨w2.heap.size, 4, none⟩ = some (.slice (some ⟨fb, 0, none⟩) 4 4) := Da.B.cell (i := 4) rfl; have bl := Da.B.lt; have c0 := (Da.fac hx.out).1; have zf := Da.A.frozen (k * 3); have fl := Da.A.lt))
      all_goals
        have D1 := Da.setA (k * 3) (.int .i64 y) (flatA_set0 fa k x y hx.out) (Da.f4.set k (u := ⟨y, x.c1, x.c2⟩) ⟨x0, x1⟩)
        go_wp2_with fail
        go_roundw
        case rel => exact ⟨k + 1, _, by omega, by go_num, D1.mono (by omega)⟩
        case measure => simp [intOf]; omega
    · obtain rfl : k = 4 := by omega
      go_wp2_with fail
      refine (chanceD cx D.out.d 2 (by omega) (by omega) (by omega)).mono ?_
      rintro e wp ⟨r31, rfl, dwp, gwp⟩
      have Dwp : Hid (WD w0 w wp a len cap (n + 155) w.heap.size w2.heap.size fb t s (.slice pv nv cv) (.slice pf nf cf) (.slice none 0 0) (.slice none 0 0) us fs fa [] []) := (D.out.grow gwp dwp).mono (by omega)
      clear D
      go_upto_if 31 with fail
      go_cut [] from 32 to 32 (fun wx => ∃ fa', Hid (WD w0 w wx a len cap (n + 155) w.heap.size w2.heap.size fb t s (.slice pv nv cv) (.slice pf nf cf) (.slice none 0 0) (.slice none 0 0) us fs fa' [] []))
      case first =>
        cases r31
        · go_wp2_with fail
          go_meet
          case rel => exact ⟨_, Dwp⟩
        · go_wp2_with fail
          refine (l6Ally_c Dwp.out 1 (.inl rfl)).mono ?_
          rintro e wb ⟨rfl, fa', Dw⟩
          go_wp2_with fail
          go_meet
          case rel => exact ⟨fa', Dw⟩
      case rest =>
      obtain ⟨fa31, DA⟩ := hcut
      obtain ⟨w31, hw31⟩ : ∃ y : World, y = wc := ⟨_, rfl⟩
      subst hw31
      clear Dwp
      go_wp2_with fail
      refine (chanceD cx DA.out.d 3 (by omega) (by omega) (by omega)).mono ?_
      rintro e wq ⟨r34, rfl, dwq, gwq⟩
      have Dwq : Hid (WD w0 w wq a len cap (n + 156) w.heap.size w2.heap.size fb t s (.slice pv nv cv) (.slice pf nf cf) (.slice none 0 0) (.slice none 0 0) us fs fa31 [] []) := (DA.out.grow gwq dwq).mono (by omega)
      clear DA
      go_upto_if 34 with fail
      go_cut [] from 35 to 35 (fun wx => ∃ fa', Hid (WD w0 w wx a len cap (n + 156) w.heap.size w2.heap.size fb t s (.slice pv nv cv) (.slice pf nf cf) (.slice none 0 0) (.slice none 0 0) us fs fa' [] []))
      case first =>
        cases r34
        · go_wp2_with fail
          go_meet
          case rel => exact ⟨_, Dwq⟩
        · go_wp2_with fail
          refine (l6Ally_c Dwq.out 2 (.inr rfl)).mono ?_
          rintro e wb ⟨rfl, fa', Dw⟩
          go_wp2_with fail
          go_meet
          case rel => exact ⟨fa', Dw⟩
      case rest =>
      obtain ⟨fa34, DB⟩ := hcut
      obtain ⟨w34, hw34⟩ : ∃ y : World, y = wc := ⟨_, rfl⟩
      subst hw34
      clear Dwq
      go_wp2_with fail
      refine (chanceD cx DB.out.d 2 (by omega) (by omega) (by omega)).mono ?_
      rintro e wo ⟨r37, rfl, dwo, gwo⟩
      have Dwo : Hid (WD w0 w wo a len cap (n + 157) w.heap.size w2.heap.size fb t s (.slice pv nv cv) (.slice pf nf cf) (.slice none 0 0) (.slice none 0 0) us fs fa34 [] []) := (DB.out.grow gwo dwo).mono (by omega)
      clear DB
      go_upto_if 37 with fail
      go_cut [] from 38 to 45 (fun wx => ∃ vo oo, oo.length ≤ 1 ∧ Hid (WD w0 w wx a len cap (n + 160) w.heap.size w2.heap.size fb t s (.slice pv nv cv) (.slice pf nf cf) (.slice none 0 0) vo us fs fa34 [] oo))
      case first =>
        cases r37
        · go_wp2_with fail
          go_meet
          case rel => exact ⟨_, [], by simp, Dwo.out.mono (by omega)⟩
        · have p6 : wo.cell? ⟨w2.heap.size, 6, none⟩ = some (.slice none 0 0) := Dwo.out.B.cell (i := 6) rfl
          have bl := Dwo.out.B.lt
          have dD := Dwo.out.drew
          go_upto_region 14 with fail
          go_region_law (first
            | (refine step_pushO rfl (.tmp 39) (.tmp 43) rfl wa.heap.size ⟨3, y⟩ w.heap.size _ [] (by simp [Act.eval]; done) (Da.O.alloc _) (by simp [Act.eval]; done) (Blk.new wa #[.int .i64 3, .int .i64 y] 49) (by simp) (by have := Da.d.gr.size; rw [size_new]; omega) ?_; intro v3 w3 S3 g3; obtain ⟨p3, c3, n3, rfl⟩ := S3.frm; obtain ⟨R4, B4, A4, U4, F4, S4, d4⟩ := (Da.alloc (.cells #[.int .i64 3, .int .i64 y] 49)).pushO g3 S3; have p6 := B4.cell (i := 6) rfl; have z6 := B4.frozen 6; have bl := B4.lt)
            | (refine step_call rfl 41 #[.pointer (some ⟨w0.heap.size, 0, none⟩), .int .i64 3] (by first | kernel_rfl | (simp [execOp, resolve, invoke, Act.eval, go_sem]; done)) _ (drawsD cx dD.d 3 (by omega) (by omega) (by omega)) ?_; rintro e wa ⟨y, rfl, _, _, da, ga⟩; refine ⟨_, rfl, ?_⟩; have Da := dD.grow ga da; have p6 : wa.cell? ⟨w2.heap.size, 6, none⟩ = some (.slice none 0 0) := Da.B.cell (i := 6) rfl; have bl := Da.B.lt))
          all_goals
            have B5 := B4.set 6 (.slice p3 n3 c3)
            have D5 : WD w0 w (w3.setCell ⟨w2.heap.size, 6, none⟩ (.slice p3 n3 c3)) a len cap (n + 157 + 1) w.heap.size w2.heap.size fb t s (.slice pv nv cv) (.slice pf nf cf) (.slice none 0 0) (.slice p3 n3 c3) us fs fa34 [] ([] ++ [⟨3, y⟩]) :=
              ⟨R4.setOther (a := ⟨w2.heap.size, 6, none⟩) Da.ne _, B5, A4.setOther (a := ⟨w2.heap.size, 6, none⟩) (bk_ne A4 B4 (by decide)) _, Da.f4, U4.setB B4 (by decide) _, F4.setB B4 (by decide) _, S4.setB B4 (by decide) _, S3.setB B4 (by decide) _, Da.ne, Da.br, Da.bw, Da.bf, d4.set (p := ⟨w2.heap.size, 6, none⟩) Da.bw _⟩
            go_wp2_with fail
            go_meet
            case rel => exact ⟨_, _, by simp, D5.mono (by omega)⟩
      case rest =>
      obtain ⟨vo, oo, hoo, DO⟩ := hcut
      obtain ⟨w45, hw45⟩ : ∃ y : World, y = wc := ⟨_, rfl⟩
      subst hw45
      clear Dwo
      go_wp2_with fail
      go_loopw [5] (fun i wr => ∃ (k : Nat) (vs : Value) (se : List K4), k ≤ 4 ∧ i = .int .i64 k ∧ se.length ≤ k ∧ Hid (WD w0 w wr a len cap (n + 160 + 5 * k) w.heap.size w2.heap.size fb t s (.slice pv nv cv) (.slice pf nf cf) vs vo us fs fa34 se oo)) (fun i _ => 4 - (intOf i).toNat)
      case atStart => exact ⟨0, _, [], Nat.zero_le _, rfl, by simp, DO.out.mono (by omega)⟩
      case round =>
        clear DO
        obtain ⟨k, vs, se, hk, rfl, hse, D⟩ := hrel
        by_cases hlt4 : k < 4
        · have hlt' : (k : Int) < 4 := by omega
          go_wp2_with fail
          refine (chanceD cx D.out.d 5 (by omega) (by omega) (by omega)).mono ?_
          rintro e wd ⟨r, rfl, dd, gd⟩
          have D1 := D.out.grow gd dd
          clear D
          cases r
          · obtain ⟨ps, cs, ns, rfl⟩ := D1.S.frm
            have p5 : wd.cell? ⟨w2.heap.size, 5, none⟩ = some (.slice ps ns cs) := D1.B.cell (i := 5) rfl
            have bl := D1.B.lt
            have E0 := D1.drew
            have hs0 := D1.d.le
            have hse' : se.length ≤ 100 := by omega
            go_upto_region 19 with fail
            refine wp_region_slots (by kernel_rfl) 53 (fun d xs W => ∃ x53 x54 x55 x56 x57 x58 x59 x60 x61 x62 x63 x64 x65 x66 x67 x68 x69, xs = [x53, x54, x55, x56, x57, x58, x59, x60, x61, x62, x63, x64, x65, x66, x67, x68, x69] ∧ J19 w0 w a len cap (n + 160 + 5 * k + 1) w.heap.size w2.heap.size fb t s (.slice pv nv cv) (.slice pf nf cf) vo ps ns cs us fs fa34 se oo (k : Int) d x53 x54 x55 x56 x57 x58 x59 x60 x61 x62 x63 x64 x65 x66 x67 x68 x69 W) (by kernel_rfl) [_, _, _, _, _, _, _, _, _, _, _, _, _, _, _, _, _] rfl ?_ ?_ ?_
            · exact ⟨_, _, _, _, _, _, _, _, _, _, _, _, _, _, _, _, _, rfl, ⟨(fun h => by cases h), (fun h => by cases h), (fun h => by cases h), (fun h => by cases h), (fun h => by cases h), (fun h _ => by cases h), (fun h => by cases h), (fun h => by cases h), (fun h _ => by cases h), (fun h => by cases h), (fun h => by cases h), (fun h _ => by cases h), (fun h => by cases h), (fun h => by cases h), (fun h _ => by cases h), (fun h => by cases h), (fun _ => E0.mono (by simp)), (fun h => by cases h), (fun h => by cases h)⟩⟩
            · rintro d xs W i K hi hd hdep hcl ⟨x53, x54, x55, x56, x57, x58, x59, x60, x61, x62, x63, x64, x65, x66, x67, x68, x69, rfl, J⟩ hK
              have hi' : i < 18 := hi
              have hdp : ∀ j, (depsOf _ i).contains j = true → d j = true := fun j hj => hdep j (by simpa using hj)
              clear hi hdep
              have h18 : i = 0 ∨ i = 1 ∨ i = 2 ∨ i = 3 ∨ i = 4 ∨ i = 5 ∨ i = 6 ∨ i = 7 ∨ i = 8 ∨ i = 9 ∨ i = 10 ∨ i = 11 ∨ i = 12 ∨ i = 13 ∨ i = 14 ∨ i = 15 ∨ i = 16 ∨ i = 17 := by omega
              rcases h18 with rfl | rfl | rfl | rfl | rfl | rfl | rfl | rfl | rfl | rfl | rfl | rfl | rfl | rfl | rfl | rfl | rfl | rfl
              · have hA := J.A (hcl.no 18 hd (by kernel_rfl))
                clear hA
                refine wpOp_of rfl rfl ?_
                dsimp only [win, List.take_succ_cons, List.take_zero, List.drop_succ_cons, List.drop_zero, List.cons_append, List.nil_append, List.length_cons, List.length_nil, Nat.reduceAdd]
                go_simp
                exact hK [(.pointer (some ⟨w2.heap.size, 5, none⟩)), x54, x55, x56, x57, x58, x59, x60, x61, x62, x63, x64, x65, x66, x67, x68, x69] _ ⟨_, _, _, _, _, _, _, _, _, _, _, _, _, _, _, _, _, rfl, ⟨(fun _ => rfl), J.f1, J.f2, J.f3, J.f4, J.f5, J.f6, J.f7, J.f8, J.f9, J.f10, J.f11, J.f12, J.f13, J.f14, J.f16, J.A, J.B, J.C⟩⟩
              · have hA := J.A (hcl.no 18 hd (by kernel_rfl))
                obtain rfl := J.f0 (hdp 0 (by kernel_rfl))
                have p5 := hA.B.cell (i := 5) rfl
                have bl := hA.B.lt
                refine wpOp_of rfl rfl ?_
                dsimp only [win, List.take_succ_cons, List.take_zero, List.drop_succ_cons, List.drop_zero, List.cons_append, List.nil_append, List.length_cons, List.length_nil, Nat.reduceAdd]
                go_simp
                exact hK [.pointer (some ⟨w2.heap.size, 5, none⟩), (.slice ps ns cs), x55, x56, x57, x58, x59, x60, x61, x62, x63, x64, x65, x66, x67, x68, x69] _ ⟨_, _, _, _, _, _, _, _, _, _, _, _, _, _, _, _, _, rfl, ⟨J.f0, (fun _ => rfl), J.f2, J.f3, J.f4, J.f5, J.f6, J.f7, J.f8, J.f9, J.f10, J.f11, J.f12, J.f13, J.f14, J.f16, J.A, J.B, J.C⟩⟩
              · have hA := J.A (hcl.no 18 hd (by kernel_rfl))
                clear hA
                refine wpOp_of rfl rfl ?_
                dsimp only [win, List.take_succ_cons, List.take_zero, List.drop_succ_cons, List.drop_zero, List.cons_append, List.nil_append, List.length_cons, List.length_nil, Nat.reduceAdd]
                go_simp
                exact hK [x53, x54, (.int .i64 (k : Int)), x56, x57, x58, x59, x60, x61, x62, x63, x64, x65, x66, x67, x68, x69] _ ⟨_, _, _, _, _, _, _, _, _, _, _, _, _, _, _, _, _, rfl, ⟨J.f0, J.f1, (fun _ => rfl), J.f3, J.f4, J.f5, J.f6, J.f7, J.f8, J.f9, J.f10, J.f11, J.f12, J.f13, J.f14, J.f16, J.A, J.B, J.C⟩⟩
              · have hA := J.A (hcl.no 18 hd (by kernel_rfl))
                clear hA
                refine wpOp_of rfl rfl ?_
                dsimp only [win, List.take_succ_cons, List.take_zero, List.drop_succ_cons, List.drop_zero, List.cons_append, List.nil_append, List.length_cons, List.length_nil, Nat.reduceAdd]
                go_simp
                exact hK [x53, x54, x55, (.pointer (some ⟨w0.heap.size, 0, none⟩)), x57, x58, x59, x60, x61, x62, x63, x64, x65, x66, x67, x68, x69] _ ⟨_, _, _, _, _, _, _, _, _, _, _, _, _, _, _, _, _, rfl, ⟨J.f0, J.f1, J.f2, (fun _ => rfl), J.f4, J.f5, J.f6, J.f7, J.f8, J.f9, J.f10, J.f11, J.f12, J.f13, J.f14, J.f16, J.A, J.B, J.C⟩⟩
              · have hA := J.A (hcl.no 18 hd (by kernel_rfl))
                clear hA
                refine wpOp_of rfl rfl ?_
                dsimp only [win, List.take_succ_cons, List.take_zero, List.drop_succ_cons, List.drop_zero, List.cons_append, List.nil_append, List.length_cons, List.length_nil, Nat.reduceAdd]
                go_simp
                exact hK [x53, x54, x55, x56, (.int .i64 (k : Int)), x58, x59, x60, x61, x62, x63, x64, x65, x66, x67, x68, x69] _ ⟨_, _, _, _, _, _, _, _, _, _, _, _, _, _, _, _, _, rfl, ⟨J.f0, J.f1, J.f2, J.f3, (fun _ => rfl), J.f5, J.f6, J.f7, J.f8, J.f9, J.f10, J.f11, J.f12, J.f13, J.f14, J.f16, J.A, J.B, J.C⟩⟩
              · have hA := J.A (hcl.no 18 hd (by kernel_rfl))
                obtain rfl := J.f4 (hdp 4 (by kernel_rfl))
                have hne : some W.heap.size ≠ some w0.heap.size := by have := hA.d.le; simp; omega
                refine wpOp_of rfl rfl ?_
                dsimp only [win, List.take_succ_cons, List.take_zero, List.drop_succ_cons, List.drop_zero, List.cons_append, List.nil_append, List.length_cons, List.length_nil, Nat.reduceAdd]
                go_simp
                exact hK [x53, x54, x55, x56, .int .i64 (k : Int), (.slice (some ⟨W.heap.size, 0, none⟩) 3 3), x59, x60, x61, x62, x63, x64, x65, x66, x67, x68, x69] _ ⟨_, _, _, _, _, _, _, _, _, _, _, _, _, _, _, _, _, rfl, ⟨J.f0, J.f1, J.f2, J.f3, J.f4, (fun _ _ => ⟨_, rfl, Blk.new _ _ _, hne⟩), J.f6, J.f7, (fun h1 h2 => (J.f8 h1 h2).alloc _), J.f9, J.f10, (fun h1 h2 => (J.f11 h1 h2).alloc _), J.f12, J.f13, (fun h1 h2 => (J.f14 h1 h2).alloc _), J.f16, (fun h => (J.A h).alloc _), (fun h _ => no_tt h (hcl.no 18 hd (by kernel_rfl))), (fun h => no_tt h (hcl.no 18 hd (by kernel_rfl)))⟩⟩
              · have hA := J.A (hcl.no 18 hd (by kernel_rfl))
                obtain rfl := J.f3 (hdp 3 (by kernel_rfl))
                have hb6 := b2n (d 6)
                have hb9 := b2n (d 9)
                have hb12 := b2n (d 12)
                obtain ⟨q, rfl, hq, hne⟩ := J.f5 (hdp 5 (by kernel_rfl)) hd
                have hcount : ∀ M : Int, M + ((d 6).toNat : Int) + ((d 9).toNat : Int) + ((d 12).toNat : Int) + 1 ≤ M + ((upd d 6 6).toNat : Int) + ((upd d 6 9).toNat : Int) + ((upd d 6 12).toNat : Int) := by intro M; show _ ≤ M + ((true).toNat : Int) + ((d 9).toNat : Int) + ((d 12).toNat : Int); rw [hd]; simp <;> omega
                refine wpOp_of rfl rfl ?_
                dsimp only [win, List.take_succ_cons, List.take_zero, List.drop_succ_cons, List.drop_zero, List.cons_append, List.nil_append, List.length_cons, List.length_nil, Nat.reduceAdd]
                refine call_wp 66 #[.pointer (some ⟨w0.heap.size, 0, none⟩), .slice (some ⟨q, 0, none⟩) 3 3] (by kernel_rfl) _ (pickR PAny (l := [.int .i64 (k : Int), .int .i64 0, .int .i64 1]) (T := 2) cx hA.d hq hne (by omega) (by omega) (by omega) (by simp [IntRow, PAny]) (by rfl)) ?_
                rintro e w1 ⟨r, rfl, _, dd, gg⟩
                refine ⟨_, rfl, ?_⟩
                exact hK [x53, x54, x55, .pointer (some ⟨w0.heap.size, 0, none⟩), x57, .slice (some ⟨q, 0, none⟩) 3 3, (.int .i64 r), x60, x61, x62, x63, x64, x65, x66, x67, x68, x69] _ ⟨_, _, _, _, _, _, _, _, _, _, _, _, _, _, _, _, _, rfl, ⟨J.f0, J.f1, J.f2, J.f3, J.f4, (fun _ h => by cases h), (fun _ => ⟨_, rfl⟩), J.f7, (fun h1 h2 => (J.f8 h1 h2).grown gg), J.f9, J.f10, (fun h1 h2 => (J.f11 h1 h2).grown gg), J.f12, J.f13, (fun h1 h2 => (J.f14 h1 h2).grown gg), J.f16, (fun _ => (hA.grow gg dd).mono (hcount _)), (fun h _ => no_tt h (hcl.no 18 hd (by kernel_rfl))), (fun h => no_tt h (hcl.no 18 hd (by kernel_rfl)))⟩⟩
              · have hA := J.A (hcl.no 18 hd (by kernel_rfl))
                clear hA
                refine wpOp_of rfl rfl ?_
                dsimp only [win, List.take_succ_cons, List.take_zero, List.drop_succ_cons, List.drop_zero, List.cons_append, List.nil_append, List.length_cons, List.length_nil, Nat.reduceAdd]
                go_simp
                exact hK [x53, x54, x55, x56, x57, x58, x59, (.pointer (some ⟨w0.heap.size, 0, none⟩)), x61, x62, x63, x64, x65, x66, x67, x68, x69] _ ⟨_, _, _, _, _, _, _, _, _, _, _, _, _, _, _, _, _, rfl, ⟨J.f0, J.f1, J.f2, J.f3, J.f4, J.f5, J.f6, (fun _ => rfl), J.f8, J.f9, J.f10, J.f11, J.f12, J.f13, J.f14, J.f16, J.A, J.B, J.C⟩⟩
              · have hA := J.A (hcl.no 18 hd (by kernel_rfl))
                have hne : some W.heap.size ≠ some w0.heap.size := by have := hA.d.le; simp; omega
                refine wpOp_of rfl rfl ?_
                dsimp only [win, List.take_succ_cons, List.take_zero, List.drop_succ_cons, List.drop_zero, List.cons_append, List.nil_append, List.length_cons, List.length_nil, Nat.reduceAdd]
                go_simp
                exact hK [x53, x54, x55, x56, x57, x58, x59, x60, (.slice (some ⟨W.heap.size, 0, none⟩) 5 5), x62, x63, x64, x65, x66, x67, x68, x69] _ ⟨_, _, _, _, _, _, _, _, _, _, _, _, _, _, _, _, _, rfl, ⟨J.f0, J.f1, J.f2, J.f3, J.f4, (fun h1 h2 => (J.f5 h1 h2).alloc _), J.f6, J.f7, (fun _ _ => ⟨_, rfl, Blk.new _ _ _, hne⟩), J.f9, J.f10, (fun h1 h2 => (J.f11 h1 h2).alloc _), J.f12, J.f13, (fun h1 h2 => (J.f14 h1 h2).alloc _), J.f16, (fun h => (J.A h).alloc _), (fun h _ => no_tt h (hcl.no 18 hd (by kernel_rfl))), (fun h => no_tt h (hcl.no 18 hd (by kernel_rfl)))⟩⟩
              · have hA := J.A (hcl.no 18 hd (by kernel_rfl))
                obtain rfl := J.f7 (hdp 7 (by kernel_rfl))
                have hb6 := b2n (d 6)
                have hb9 := b2n (d 9)
                have hb12 := b2n (d 12)
                obtain ⟨q, rfl, hq, hne⟩ := J.f8 (hdp 8 (by kernel_rfl)) hd
                have hcount : ∀ M : Int, M + ((d 6).toNat : Int) + ((d 9).toNat : Int) + ((d 12).toNat : Int) + 1 ≤ M + ((upd d 9 6).toNat : Int) + ((upd d 9 9).toNat : Int) + ((upd d 9 12).toNat : Int) := by intro M; show _ ≤ M + ((d 6).toNat : Int) + ((true).toNat : Int) + ((d 12).toNat : Int); rw [hd]; simp <;> omega
                refine wpOp_of rfl rfl ?_
                dsimp only [win, List.take_succ_cons, List.take_zero, List.drop_succ_cons, List.drop_zero, List.cons_append, List.nil_append, List.length_cons, List.length_nil, Nat.reduceAdd]
                refine call_wp 66 #[.pointer (some ⟨w0.heap.size, 0, none⟩), .slice (some ⟨q, 0, none⟩) 5 5] (by kernel_rfl) _ (pickR PAny (l := [.int .i64 2047, .int .i64 2047, .int .i64 2047, .int .i64 7, .int .i64 0]) (T := 2) cx hA.d hq hne (by omega) (by omega) (by omega) (by simp [IntRow, PAny]) (by rfl)) ?_
                rintro e w1 ⟨r, rfl, _, dd, gg⟩
                refine ⟨_, rfl, ?_⟩
                exact hK [x53, x54, x55, x56, x57, x58, x59, .pointer (some ⟨w0.heap.size, 0, none⟩), .slice (some ⟨q, 0, none⟩) 5 5, (.int .i64 r), x63, x64, x65, x66, x67, x68, x69] _ ⟨_, _, _, _, _, _, _, _, _, _, _, _, _, _, _, _, _, rfl, ⟨J.f0, J.f1, J.f2, J.f3, J.f4, (fun h1 h2 => (J.f5 h1 h2).grown gg), J.f6, J.f7, (fun _ h => by cases h), (fun _ => ⟨_, rfl⟩), J.f10, (fun h1 h2 => (J.f11 h1 h2).grown gg), J.f12, J.f13, (fun h1 h2 => (J.f14 h1 h2).grown gg), J.f16, (fun _ => (hA.grow gg dd).mono (hcount _)), (fun h _ => no_tt h (hcl.no 18 hd (by kernel_rfl))), (fun h => no_tt h (hcl.no 18 hd (by kernel_rfl)))⟩⟩
              · have hA := J.A (hcl.no 18 hd (by kernel_rfl))
                clear hA
                refine wpOp_of rfl rfl ?_
                dsimp only [win, List.take_succ_cons, List.take_zero, List.drop_succ_cons, List.drop_zero, List.cons_append, List.nil_append, List.length_cons, List.length_nil, Nat.reduceAdd]
                go_simp
                exact hK [x53, x54, x55, x56, x57, x58, x59, x60, x61, x62, (.pointer (some ⟨w0.heap.size, 0, none⟩)), x64, x65, x66, x67, x68, x69] _ ⟨_, _, _, _, _, _, _, _, _, _, _, _, _, _, _, _, _, rfl, ⟨J.f0, J.f1, J.f2, J.f3, J.f4, J.f5, J.f6, J.f7, J.f8, J.f9, (fun _ => rfl), J.f11, J.f12, J.f13, J.f14, J.f16, J.A, J.B, J.C⟩⟩
              · have hA := J.A (hcl.no 18 hd (by kernel_rfl))
                have hne : some W.heap.size ≠ some w0.heap.size := by have := hA.d.le; simp; omega
                refine wpOp_of rfl rfl ?_
                dsimp only [win, List.take_succ_cons, List.take_zero, List.drop_succ_cons, List.drop_zero, List.cons_append, List.nil_append, List.length_cons, List.length_nil, Nat.reduceAdd]
                go_simp
                exact hK [x53, x54, x55, x56, x57, x58, x59, x60, x61, x62, x63, (.slice (some ⟨W.heap.size, 0, none⟩) 4 4), x65, x66, x67, x68, x69] _ ⟨_, _, _, _, _, _, _, _, _, _, _, _, _, _, _, _, _, rfl, ⟨J.f0, J.f1, J.f2, J.f3, J.f4, (fun h1 h2 => (J.f5 h1 h2).alloc _), J.f6, J.f7, (fun h1 h2 => (J.f8 h1 h2).alloc _), J.f9, J.f10, (fun _ _ => ⟨_, rfl, Blk.new _ _ _, hne⟩), J.f12, J.f13, (fun h1 h2 => (J.f14 h1 h2).alloc _), J.f16, (fun h => (J.A h).alloc _), (fun h _ => no_tt h (hcl.no 18 hd (by kernel_rfl))), (fun h => no_tt h (hcl.no 18 hd (by kernel_rfl)))⟩⟩
              · have hA := J.A (hcl.no 18 hd (by kernel_rfl))
                obtain rfl := J.f10 (hdp 10 (by kernel_rfl))
                have hb6 := b2n (d 6)
                have hb9 := b2n (d 9)
                have hb12 := b2n (d 12)
                obtain ⟨q, rfl, hq, hne⟩ := J.f11 (hdp 11 (by kernel_rfl)) hd
                have hcount : ∀ M : Int, M + ((d 6).toNat : Int) + ((d 9).toNat : Int) + ((d 12).toNat : Int) + 1 ≤ M + ((upd d 12 6).toNat : Int) + ((upd d 12 9).toNat : Int) + ((upd d 12 12).toNat : Int) := by intro M; show _ ≤ M + ((d 6).toNat : Int) + ((d 9).toNat : Int) + ((true).toNat : Int); rw [hd]; simp <;> omega
                refine wpOp_of rfl rfl ?_
                dsimp only [win, List.take_succ_cons, List.take_zero, List.drop_succ_cons, List.drop_zero, List.cons_append, List.nil_append, List.length_cons, List.length_nil, Nat.reduceAdd]
                refine call_wp 66 #[.pointer (some ⟨w0.heap.size, 0, none⟩), .slice (some ⟨q, 0, none⟩) 4 4] (by kernel_rfl) _ (pickR PAny (l := [.int .i64 0, .int .i64 0, .int .i64 3, .int .i64 999]) (T := 2) cx hA.d hq hne (by omega) (by omega) (by omega) (by simp [IntRow, PAny]) (by rfl)) ?_
                rintro e w1 ⟨r, rfl, _, dd, gg⟩
                refine ⟨_, rfl, ?_⟩
                exact hK [x53, x54, x55, x56, x57, x58, x59, x60, x61, x62, .pointer (some ⟨w0.heap.size, 0, none⟩), .slice (some ⟨q, 0, none⟩) 4 4, (.int .i64 r), x66, x67, x68, x69] _ ⟨_, _, _, _, _, _, _, _, _, _, _, _, _, _, _, _, _, rfl, ⟨J.f0, J.f1, J.f2, J.f3, J.f4, (fun h1 h2 => (J.f5 h1 h2).grown gg), J.f6, J.f7, (fun h1 h2 => (J.f8 h1 h2).grown gg), J.f9, J.f10, (fun _ h => by cases h), (fun _ => ⟨_, rfl⟩), J.f13, (fun h1 h2 => (J.f14 h1 h2).grown gg), J.f16, (fun _ => (hA.grow gg dd).mono (hcount _)), (fun h _ => no_tt h (hcl.no 18 hd (by kernel_rfl))), (fun h => no_tt h (hcl.no 18 hd (by kernel_rfl)))⟩⟩
              · have hA := J.A (hcl.no 18 hd (by kernel_rfl))
                obtain rfl := J.f2 (hdp 2 (by kernel_rfl))
                obtain ⟨r6, rfl⟩ := J.f6 (hdp 6 (by kernel_rfl))
                obtain ⟨r9, rfl⟩ := J.f9 (hdp 9 (by kernel_rfl))
                obtain ⟨r12, rfl⟩ := J.f12 (hdp 12 (by kernel_rfl))
                clear hA
                refine wpOp_of rfl rfl ?_
                dsimp only [win, List.take_succ_cons, List.take_zero, List.drop_succ_cons, List.drop_zero, List.cons_append, List.nil_append, List.length_cons, List.length_nil, Nat.reduceAdd]
                go_simp
                exact hK [x53, x54, .int .i64 (k : Int), x56, x57, x58, .int .i64 r6, x60, x61, .int .i64 r9, x63, x64, .int .i64 r12, (.agg #[.int .i64 (k : Int), .int .i64 r6, .int .i64 r9, .int .i64 r12]), x67, x68, x69] _ ⟨_, _, _, _, _, _, _, _, _, _, _, _, _, _, _, _, _, rfl, ⟨J.f0, J.f1, J.f2, J.f3, J.f4, J.f5, J.f6, J.f7, J.f8, J.f9, J.f10, J.f11, J.f12, (fun _ => ⟨⟨(k : Int), r6, r9, r12⟩, rfl⟩), J.f14, J.f16, J.A, J.B, J.C⟩⟩
              · have hA := J.A (hcl.no 18 hd (by kernel_rfl))
                obtain ⟨u, rfl⟩ := J.f13 (hdp 13 (by kernel_rfl))
                have hne : some W.heap.size ≠ some w0.heap.size := by have := hA.d.le; simp; omega
                refine wpOp_of rfl rfl ?_
                dsimp only [win, List.take_succ_cons, List.take_zero, List.drop_succ_cons, List.drop_zero, List.cons_append, List.nil_append, List.length_cons, List.length_nil, Nat.reduceAdd]
                go_simp
                exact hK [x53, x54, x55, x56, x57, x58, x59, x60, x61, x62, x63, x64, x65, .agg #[.int .i64 u.c0, .int .i64 u.c1, .int .i64 u.c2, .int .i64 u.c3], (.slice (some ⟨W.heap.size, 0, none⟩) 1 1), x68, x69] _ ⟨_, _, _, _, _, _, _, _, _, _, _, _, _, _, _, _, _, rfl, ⟨J.f0, J.f1, J.f2, J.f3, J.f4, (fun h1 h2 => (J.f5 h1 h2).alloc _), J.f6, J.f7, (fun h1 h2 => (J.f8 h1 h2).alloc _), J.f9, J.f10, (fun h1 h2 => (J.f11 h1 h2).alloc _), J.f12, J.f13, (fun _ _ => ⟨_, u, rfl, Blk.new _ _ _, hne⟩), J.f16, (fun h => (J.A h).alloc _), (fun h _ => no_tt h (hcl.no 18 hd (by kernel_rfl))), (fun h => no_tt h (hcl.no 18 hd (by kernel_rfl)))⟩⟩
              · have hA := J.A hd
                obtain rfl := J.f1 (hdp 1 (by kernel_rfl))
                obtain ⟨q, u, rfl, hq, hne⟩ := J.f14 (hdp 14 (by kernel_rfl)) hd
                have hb6 := b2n (d 6)
                have hb9 := b2n (d 9)
                have hb12 := b2n (d 12)
                have dl : d 12 = true := hdp 12 (by kernel_rfl)
                have dc6 : d 6 = true := Bool.eq_false_or_eq_true (d 6) |>.elim id (fun hz => no_tt dl (hcl.no 18 hz (by kernel_rfl)))
                have dc9 : d 9 = true := Bool.eq_false_or_eq_true (d 9) |>.elim id (fun hz => no_tt dl (hcl.no 18 hz (by kernel_rfl)))
                refine wpOp_of rfl rfl ?_
                dsimp only [win, List.take_succ_cons, List.take_zero, List.drop_succ_cons, List.drop_zero, List.cons_append, List.nil_append, List.length_cons, List.length_nil, Nat.reduceAdd]
                refine pushS_wp (by rfl) (.tmp 54) (.tmp 67) (by rfl) q u w.heap.size _ se (by simp [Act.eval]; done) hA.S (by simp [Act.eval]; done) hq (by omega) hA.d.gr.size ?_
                intro v9 w9 S9 g9
                obtain ⟨p9, c9, n9, rfl⟩ := S9.frm
                obtain ⟨R9, B9, A9, U9, F9, O9, d9⟩ := hA.pushS g9 S9
                exact hK [x53, .slice ps ns cs, x55, x56, x57, x58, x59, x60, x61, x62, x63, x64, x65, x66, .slice (some ⟨q, 0, none⟩) 1 1, (.slice p9 n9 c9), x69] _ ⟨_, _, _, _, _, _, _, _, _, _, _, _, _, _, _, _, _, rfl, ⟨J.f0, J.f1, J.f2, J.f3, J.f4, (fun _ h => no_tt dc6 h), J.f6, J.f7, (fun _ h => no_tt dc9 h), J.f9, J.f10, (fun _ h => no_tt dl h), J.f12, J.f13, (fun _ h => by cases h), J.f16, (fun h => by cases h), (fun _ _ => ⟨p9, n9, c9, u, rfl, ⟨R9, B9, A9, U9, F9, O9, d9.mono (by omega)⟩, S9, ⟨hA.f4, hA.ne, hA.br, hA.bw, hA.bf⟩⟩), (fun h => no_tt h (hcl.no 18 hd (by kernel_rfl)))⟩⟩
              · refine wpOp_of rfl rfl ?_
                dsimp only [win, List.take_succ_cons, List.take_zero, List.drop_succ_cons, List.drop_zero, List.cons_append, List.nil_append, List.length_cons, List.length_nil, Nat.reduceAdd]
                go_simp
                exact hK [x53, x54, x55, x56, x57, x58, x59, x60, x61, x62, x63, x64, x65, x66, x67, x68, (.pointer (some ⟨w2.heap.size, 5, none⟩))] _ ⟨_, _, _, _, _, _, _, _, _, _, _, _, _, _, _, _, _, rfl, ⟨J.f0, J.f1, J.f2, J.f3, J.f4, J.f5, J.f6, J.f7, J.f8, J.f9, J.f10, J.f11, J.f12, J.f13, J.f14, (fun _ => rfl), J.A, J.B, J.C⟩⟩
              · obtain rfl := J.f16 (hdp 16 (by kernel_rfl))
                have da : d 15 = true := hdp 15 (by kernel_rfl)
                obtain ⟨p9, n9, c9, u, rfl, ⟨R9, B9, A9, U9, F9, O9, d9⟩, S9, ⟨f4, hne, hbr, hbw, hbf⟩⟩ := J.B da hd
                have p5 := B9.cell (i := 5) rfl
                have z5 := B9.frozen 5
                have bl := B9.lt
                have dc6 : d 6 = true := Bool.eq_false_or_eq_true (d 6) |>.elim id (fun hz => no_tt da (hcl.no 18 hz (by kernel_rfl)))
                have dc9 : d 9 = true := Bool.eq_false_or_eq_true (d 9) |>.elim id (fun hz => no_tt da (hcl.no 18 hz (by kernel_rfl)))
                have dc12 : d 12 = true := Bool.eq_false_or_eq_true (d 12) |>.elim id (fun hz => no_tt da (hcl.no 18 hz (by kernel_rfl)))
                refine wpOp_of rfl rfl ?_
                dsimp only [win, List.take_succ_cons, List.take_zero, List.drop_succ_cons, List.drop_zero, List.cons_append, List.nil_append, List.length_cons, List.length_nil, Nat.reduceAdd]
                go_simp
                exact hK [x53, x54, x55, x56, x57, x58, x59, x60, x61, x62, x63, x64, x65, x66, x67, .slice p9 n9 c9, .pointer (some ⟨w2.heap.size, 5, none⟩)] _ ⟨_, _, _, _, _, _, _, _, _, _, _, _, _, _, _, _, _, rfl, ⟨J.f0, J.f1, J.f2, J.f3, J.f4, (fun _ h => no_tt dc6 h), J.f6, J.f7, (fun _ h => no_tt dc9 h), J.f9, J.f10, (fun _ h => no_tt dc12 h), J.f12, J.f13, (fun _ h => no_tt da h), J.f16, (fun h => no_tt da h), (fun _ h => by cases h), (fun _ => ⟨p9, n9, c9, u, ⟨R9.setOther (a := ⟨w2.heap.size, 5, none⟩) hne _, B9.set 5 (.slice p9 n9 c9), A9.setOther (a := ⟨w2.heap.size, 5, none⟩) (bk_ne A9 B9 (by decide)) _, f4, U9.setB B9 (by decide) _, F9.setB B9 (by decide) _, S9.setB B9 (by decide) _, O9.setB B9 (by decide) _, hne, hbr, hbw, hbf, d9.set (p := ⟨w2.heap.size, 5, none⟩) hbw _⟩⟩)⟩⟩
            · rintro d xs W hall ⟨x53, x54, x55, x56, x57, x58, x59, x60, x61, x62, x63, x64, x65, x66, x67, x68, x69, rfl, J⟩
              obtain ⟨p9, n9, c9, u9, D10⟩ := J.C (hall 17 (by decide))
              clear J hall
              dsimp only [win, List.take_succ_cons, List.take_zero, List.drop_succ_cons, List.drop_zero, List.cons_append, List.nil_append, List.length_cons, List.length_nil, Nat.reduceAdd]
              go_wp2_with fail
              go_roundw
              case rel => exact ⟨k + 1, _, _, by omega, by go_num, by rw [List.length_append]; simp; omega, D10.mono (by omega)⟩
              case measure => simp [intOf]; omega
          · go_wp2_with fail
            go_roundw
            case rel => exact ⟨k + 1, _, _, by omega, by go_num, by omega, D1.mono (by omega)⟩
            case measure => simp [intOf]; omega
        · obtain rfl : k = 4 := by omega
          obtain ⟨ps, cs, ns, rfl⟩ := D.out.S.frm
          obtain ⟨po, co, no, rfl⟩ := D.out.O.frm
          have q0 := D.out.B.cell (i := 0) rfl
          have q1 := D.out.B.cell (i := 1) rfl
          have q2 := D.out.B.cell (i := 2) rfl
          have q3 := D.out.B.cell (i := 3) rfl
          have q4 := D.out.B.cell (i := 4) rfl
          have q5 := D.out.B.cell (i := 5) rfl
          have q6 := D.out.B.cell (i := 6) rfl
          have bl := D.out.B.lt
          have y0 := D.out.R.cell (i := 0) rfl
          have y1 := D.out.R.cell (i := 1) rfl
          have y2 := D.out.R.cell (i := 2) rfl
          have y3 := D.out.R.cell (i := 3) rfl
          have y4 := D.out.R.cell (i := 4) rfl
          have y5 := D.out.R.cell (i := 5) rfl
          have y6 := D.out.R.cell (i := 6) rfl
          have z0 := D.out.R.frozen 0
          have z1 := D.out.R.frozen 1
          have z2 := D.out.R.frozen 2
          have z3 := D.out.R.frozen 3
          have z4 := D.out.R.frozen 4
          have z5 := D.out.R.frozen 5
          have z6 := D.out.R.frozen 6
          have rl := D.out.R.lt
          have F := D.out.fill (.int .i64 t) (.int .i64 s) (.slice pv nv cv) (.slice pf nf cf) (.slice (some ⟨fb, 0, none⟩) 4 4) (.slice ps ns cs) (.slice po no co)
          go_wp2_with fail
          exact bodyPost_ret (v := .agg (wV t s (.slice pv nv cv) (.slice pf nf cf) fb (.slice ps ns cs) (.slice po no co))) (resultW Tryz.results76 F.1 ⟨_, _, _, rfl⟩ ⟨_, _, _, rfl⟩ ⟨_, _, _, rfl⟩ ⟨_, _, _, rfl⟩ _ rfl) rfl ⟨_, _, _, _, _, _, _, us, fs, fa34, se, oo, rfl, F.2.1, D.out.f4, F.2.2.1, F.2.2.2.1, F.2.2.2.2.1, F.2.2.2.2.2.1, D.out.bf, by omega, by omega, by omega, hoo, F.2.2.2.2.2.2.mono (by omega)⟩
end Go.Proofs.YtmfdggaijbcijaaGreat
end
