/- Texts of mine put together (a claim holds at most 60 files): BrdDraws2. -/
import Derived.Test.YtmfdggaijbcijaaGreatPartQ06
import Derived.Test.YtmfdggaijbcijaaGreatPartQ08

/- BrdDraws2 -/
/- Contracts of the draws of a board: two lists of one's own, maybe nil, and nothing that was there turns but the source. Condition: the code has at most 1048576 bytes, which can be read. -/
section
namespace Go.Proofs.YtmfdggaijbcijaaGreat
open Go.ChangeShapes Go.WideShapes Go.ChangeAt Go.RowKit
set_option linter.unusedVariables false

theorem SlU.ne {w : World} {base b : Nat} {v : Value} {l : List K10} {cs : Array Value} {t : TypeId} (h : SlU w base v l) (hb : Blk w b cs t) (ht : 113 ≠ t) : some b ≠ v.ownBlock := by
  intro e
  rcases h.2 with ⟨h1, _⟩ | ⟨g, cap, cur, hv, _, hg, _⟩
  · rw [h1] at e; cases e
  · rw [hv] at e
    have e' : b = g := Option.some.inj e
    subst e'
    unfold Blk at hb
    rw [hb] at hg
    injection hg with hg
    injection hg with _ hg _
    exact ht hg.symm
theorem SlF.ne {w : World} {base b : Nat} {v : Value} {l : List K3} {cs : Array Value} {t : TypeId} (h : SlF w base v l) (hb : Blk w b cs t) (ht : 118 ≠ t) : some b ≠ v.ownBlock := by
  intro e
  rcases h.2 with ⟨h1, _⟩ | ⟨g, cap, cur, hv, _, hg, _⟩
  · rw [h1] at e; cases e
  · rw [hv] at e
    have e' : b = g := Option.some.inj e
    subst e'
    unfold Blk at hb
    rw [hb] at hg
    injection hg with hg
    injection hg with _ hg _
    exact ht hg.symm
theorem apUF {w : World} {base base' : Nat} {v f : Value} {l : List K10} {l' : List K3} (h : SlU w base v l) (h' : SlF w base' f l') : ∀ q, v.ownBlock = some q → some q ≠ f.ownBlock := by
  intro q hq
  rcases h.2 with ⟨h1, _⟩ | ⟨g, cap, cur, hv, _, hg, _⟩
  · rw [h1] at hq; cases hq
  · rw [hv] at hq
    have e' : g = q := Option.some.inj hq
    subst e'
    exact h'.ne (cs := cur) (t := 113) hg (by decide)
theorem SlU.drawn {w w' : World} {base s : Nat} {v : Value} {l : List K10} (h : SlU w base v l) (hg : w.grownBy w' (some s)) (hs : s < base) : SlU w' base v l :=
  h.of_block (fun b hb => hg.block b (h.lt b hb).2 (fun e => by have := (h.lt b hb).1; have := Option.some.inj e; omega))
theorem SlF.drawn {w w' : World} {base s : Nat} {v : Value} {l : List K3} (h : SlF w base v l) (hg : w.grownBy w' (some s)) (hs : s < base) : SlF w' base v l :=
  h.of_block (fun b hb => hg.block b (h.lt b hb).2 (fun e => by have := (h.lt b hb).1; have := Option.some.inj e; omega))
theorem SlU.apart {w w' : World} {base base' : Nat} {v f : Value} {l : List K10} {l' : List K3} (h : SlU w base v l) (h' : SlF w base' f l') (hg : w.grownBy w' f.ownBlock) : SlU w' base v l :=
  h.of_block (fun b hb => hg.block b (h.lt b hb).2 (apUF h h' b hb))
theorem SlF.apart {w w' : World} {base base' : Nat} {v f : Value} {l : List K10} {l' : List K3} (h' : SlF w base' f l') (h : SlU w base v l) (hg : w.grownBy w' v.ownBlock) : SlF w' base' f l' :=
  h'.of_block (fun b hb => hg.block b (h'.lt b hb).2 (fun e => apUF h h' b e.symm hb.symm))
theorem SlU.setB {w : World} {base b o : Nat} {v : Value} {l : List K10} {cs : Array Value} {t : TypeId} (h : SlU w base v l) (hb : Blk w b cs t) (ht : 113 ≠ t) (x : Value) : SlU (w.setCell ⟨b, o, none⟩ x) base v l :=
  h.of_block (fun q hq => Below.heap_setCell _ ⟨b, o, none⟩ x q (fun e => h.ne hb ht (by rw [hq]; exact congrArg some e.symm)))
theorem SlF.setB {w : World} {base b o : Nat} {v : Value} {l : List K3} {cs : Array Value} {t : TypeId} (h : SlF w base v l) (hb : Blk w b cs t) (ht : 118 ≠ t) (x : Value) : SlF (w.setCell ⟨b, o, none⟩ x) base v l :=
  h.of_block (fun q hq => Below.heap_setCell _ ⟨b, o, none⟩ x q (fun e => h.ne hb ht (by rw [hq]; exact congrArg some e.symm)))
theorem SlU.alloc {w : World} {base : Nat} {v : Value} {l : List K10} (h : SlU w base v l) (o : Obj) : SlU (w.alloc o) base v l := h.below ((Below.refl _ _).alloc (Nat.le_refl _) o)
theorem SlF.alloc {w : World} {base : Nat} {v : Value} {l : List K3} (h : SlF w base v l) (o : Obj) : SlF (w.alloc o) base v l := h.below ((Below.refl _ _).alloc (Nat.le_refl _) o)
theorem step_pushU {ops : Array Oper} {o : Oper} {a : Act} {W : World} {K : Act → World → Prop} {Q : Exit → Act → World → Prop} {E : Prop} (hgd : o.guard = none) (s x : Operand)
    (ho : o.op = .call { callee := .builtin .append, args := #[s, x], argTypes := #[24, 24] }) (b : Nat) (u : K10) (base : Nat) (v : Value) (l : List K10) (hs : a.eval s = v) (hown : SlU W base v l)
    (hx : a.eval x = .slice (some ⟨b, 0, none⟩) 1 1) (hc : Blk W b u.v 113) (hlen : l.length ≤ 100) (hbase : base ≤ W.heap.size)
    (h : ∀ v' w', SlU w' base v' (l ++ [u]) → W.grownBy w' v.ownBlock → K (a.put o.dst v') w') :
    if Region.wanted o (yielded ops a.tmps) = true then Oper.wp Tryz.prog o a W K Q else E := by
  have hw : Region.wanted o (yielded ops a.tmps) = true := by simp [Region.wanted, hgd]
  rw [if_pos hw]
  obtain ⟨i0, hi, hz0, hz1, hz2⟩ := info_parts infoU
  refine wp_append_own _ s x 24 ho base 113 i0 (.agg K10.z.v) 10 80 Tryz.underlying24 hi hz0 hz1 hz2 rfl (by decide) v l.length _ hs hown ⟨b, 0, none⟩ 1 1 u.v.toList hx (by rfl) ?_ ?_ (by unfold maxLen; omega) (by omega) hbase ?_
  · intro j y hj
    rw [add_plain', Nat.zero_add]
    exact hc.cell (by simpa using hj)
  · intro y hy
    exact flatU_one [u] y (by unfold flatU; exact List.mem_append_left _ hy)
  · intro v' w' h1 h2 _
    refine h v' w' ?_ h2
    unfold SlU
    rw [flatU_app, List.length_append]
    exact h1
theorem step_pushF {ops : Array Oper} {o : Oper} {a : Act} {W : World} {K : Act → World → Prop} {Q : Exit → Act → World → Prop} {E : Prop} (hgd : o.guard = none) (s x : Operand)
    (ho : o.op = .call { callee := .builtin .append, args := #[s, x], argTypes := #[25, 25] }) (b : Nat) (u : K3) (base : Nat) (v : Value) (l : List K3) (hs : a.eval s = v) (hown : SlF W base v l)
    (hx : a.eval x = .slice (some ⟨b, 0, none⟩) 1 1) (hc : Blk W b u.v 118) (hlen : l.length ≤ 100) (hbase : base ≤ W.heap.size)
    (h : ∀ v' w', SlF w' base v' (l ++ [u]) → W.grownBy w' v.ownBlock → K (a.put o.dst v') w') :
    if Region.wanted o (yielded ops a.tmps) = true then Oper.wp Tryz.prog o a W K Q else E := by
  have hw : Region.wanted o (yielded ops a.tmps) = true := by simp [Region.wanted, hgd]
  rw [if_pos hw]
  obtain ⟨i0, hi, hz0, hz1, hz2⟩ := info_parts infoF
  refine wp_append_own _ s x 25 ho base 118 i0 (.agg K3.z.v) 3 24 Tryz.underlying25 hi hz0 hz1 hz2 rfl (by decide) v l.length _ hs hown ⟨b, 0, none⟩ 1 1 u.v.toList hx (by rfl) ?_ ?_ (by unfold maxLen; omega) (by omega) hbase ?_
  · intro j y hj
    rw [add_plain', Nat.zero_add]
    exact hc.cell (by simpa using hj)
  · intro y hy
    exact flatF_one [u] y (by unfold flatF; exact List.mem_append_left _ hy)
  · intro v' w' h1 h2 _
    refine h v' w' ?_ h2
    unfold SlF
    rw [flatF_app, List.length_append]
    exact h1
theorem resultB {w : World} {p : Nat} {v f : Value} {fn : Func} {k : Nat} (hf : fn.results = #[.cell k 27]) (h : Blk w p #[v, f] 27) (hv : ∃ p c n, v = .slice p n c) (hw : ∃ p c n, f = .slice p n c) (T : Array Value) (hT : T[k]?.getD undef = .pointer (some ⟨p, 0, none⟩)) :
    (results fn T).run Tryz.prog w = .ok (.agg #[v, f]) w := by
  obtain ⟨p1, c1, n1, rfl⟩ := hv
  obtain ⟨p2, c2, n2, rfl⟩ := hw
  have c0 := h.cell (i := 0) rfl
  have c1 := h.cell (i := 1) rfl
  simp [results, hf, go_sem, hT, c0, c1]
theorem SlU.frm {w : World} {base : Nat} {v : Value} {l : List K10} (h : SlU w base v l) : ∃ p c n, v = .slice p n c := by
  obtain ⟨p, c, e, _⟩ := h.form
  exact ⟨p, c, _, e⟩
theorem SlF.frm {w : World} {base : Nat} {v : Value} {l : List K3} (h : SlF w base v l) : ∃ p c n, v = .slice p n c := by
  obtain ⟨p, c, e, _⟩ := h.form
  exact ⟨p, c, _, e⟩
theorem SlU.none (w : World) (base : Nat) : SlU w base (.slice none 0 0) [] := ⟨rfl, .inl ⟨rfl, rfl⟩⟩
theorem SlF.none (w : World) (base : Nat) : SlF w base (.slice none 0 0) [] := ⟨rfl, .inl ⟨rfl, rfl⟩⟩
set_option maxRecDepth 20000 in
set_option maxHeartbeats 8000000 in
theorem l4BentUnit_c {w0 w : World} {a : Option Addr} {len cap : Nat} {n : Int} (cx : Cx w0 a len) (d : Dn w0 w w a len cap n) (hn : n ≤ 700000) :
    Calls Tryz.prog 105 #[.pointer (some ⟨w0.heap.size, 0, none⟩)] w fun e w' => ∃ x : K10, e = .returned (.agg x.v) ∧ Dn w0 w w' a len cap (n + 11) := by
  have R0 := Blk.new w K10.z.v 113
  have hne : some w.heap.size ≠ some w0.heap.size := by have := d.lt; simp; omega
  have dA := d.alloc (.cells K10.z.v 113)
  go_enter Tryz.func105, Tryz.ntmps105
  go_wp2_with fail
  refine (drawsD cx dA 8 (by omega) (by omega) (by omega)).mono ?_
  rintro e w1 ⟨i, rfl, j0, j1, d1, g1⟩
  have R1 := R0.grown g1 hne
  clear R0 dA g1
  go_wp2_with fail
  refine (l4DrawUnit_c cx d1.self (1 + i) (by omega) (by omega) (by omega)).mono ?_
  rintro e w2 ⟨⟨i, o, x, y, l, c, j, tx, ty, py⟩, rfl, e2⟩
  have d2 := d1.trans e2
  have R2 := (R1.grown e2.gr hne).alloc (.cells (K10.v ⟨i, o, x, y, l, c, j, tx, ty, py⟩) 113)
  have hRC : w.heap.size < w2.heap.size := (R1.grown e2.gr hne).lt
  have C2 := Blk.new w2 (K10.v ⟨i, o, x, y, l, c, j, tx, ty, py⟩) 113
  have hne5 : some w2.heap.size ≠ some w0.heap.size := by have := d2.le; simp; omega
  replace d2 := d2.alloc (.cells (K10.v ⟨i, o, x, y, l, c, j, tx, ty, py⟩) 113)
  have hRC2 : w.heap.size ≠ w2.heap.size := by omega
  clear R1 d1 e2
  go_wp2_with fail
  refine (drawsD cx d2 10 (by omega) (by omega) (by omega)).mono ?_
  rintro e w6 ⟨r, rfl, r0, r1, d6, g6⟩
  have R6 := R2.grown g6 hne
  have C6 := C2.grown g6 hne5
  clear R2 C2 d2 g6
  have hr : r = 0 ∨ r = 1 ∨ r = 2 ∨ r = 3 ∨ r = 4 ∨ ((r == 0) = false ∧ (r == 1) = false ∧ (r == 2) = false ∧ (r == 3) = false ∧ (r == 4) = false) := by
    by_cases e0 : r = 0
    · exact .inl e0
    by_cases e1 : r = 1
    · exact .inr (.inl e1)
    by_cases e2 : r = 2
    · exact .inr (.inr (.inl e2))
    by_cases e3 : r = 3
    · exact .inr (.inr (.inr (.inl e3)))
    by_cases e4 : r = 4
    · exact .inr (.inr (.inr (.inr (.inl e4))))
    exact .inr (.inr (.inr (.inr (.inr ⟨beq_false_of_ne e0, beq_false_of_ne e1, beq_false_of_ne e2, beq_false_of_ne e3, beq_false_of_ne e4⟩))))
  rcases hr with rfl | rfl | rfl | rfl | rfl | ⟨e0, e1, e2, e3, e4⟩
  · clear r0 r1
    go_wp2_with fail
    refine (pickD PAny cx rfl d6 (by omega) (by omega) (by omega) (by simp [IntRow, PAny]) (by rfl)).mono ?_
    rintro e w8 ⟨vv, rfl, _, d8, g8⟩
    have R8 := R6.grown g8 hne
    have C8 := C6.grown g8 hne5
    clear C6 R6 d6 g8
    have C9 : Blk (w8.setCell ⟨w2.heap.size, 1, none⟩ (.int .i64 vv)) w2.heap.size (K10.v ⟨i, vv, x, y, l, c, j, tx, ty, py⟩) 113 := C8.set 1 (.int .i64 vv)
    have R9 := R8.setOther (a := ⟨w2.heap.size, 1, none⟩) hRC2 (.int .i64 vv)
    have d11 := d8.set (p := ⟨w2.heap.size, 1, none⟩) (Nat.le_of_lt hRC) (.int .i64 vv)
    obtain ⟨q0, q1, q2, q3, q4, q5, q6, q7, q8, q9, ql⟩ := C8.unit
    obtain ⟨u0, u1, u2, u3, u4, u5, u6, u7, u8, u9, ul⟩ := R8.unit
    have f9 := C8.frozen 1
    have z0 := R8.frozen 0
    have z1 := R8.frozen 1
    have z2 := R8.frozen 2
    have z3 := R8.frozen 3
    have z4 := R8.frozen 4
    have z5 := R8.frozen 5
    have z6 := R8.frozen 6
    have z7 := R8.frozen 7
    have z8 := R8.frozen 8
    have z9 := R8.frozen 9
    go_wp2_with fail
    obtain ⟨D9, R10⟩ := fillU d11 (Nat.le_refl _) R9 ⟨i, vv, x, y, l, c, j, tx, ty, py⟩
    exact bodyPost_ret (v := .agg (K10.v ⟨i, vv, x, y, l, c, j, tx, ty, py⟩)) (resultU Tryz.results105 R10 _ rfl) rfl ⟨_, rfl, D9.mono (by omega)⟩
  · clear r0 r1
    go_wp2_with fail
    refine (pickD PAny cx rfl d6 (by omega) (by omega) (by omega) (by simp [IntRow, PAny]) (by rfl)).mono ?_
    rintro e w8 ⟨vv, rfl, _, d8, g8⟩
    have R8 := R6.grown g8 hne
    have C8 := C6.grown g8 hne5
    clear C6 R6 d6 g8
    have C9 : Blk (w8.setCell ⟨w2.heap.size, 4, none⟩ (.int .i64 vv)) w2.heap.size (K10.v ⟨i, o, x, y, vv, c, j, tx, ty, py⟩) 113 := C8.set 4 (.int .i64 vv)
    have R9 := R8.setOther (a := ⟨w2.heap.size, 4, none⟩) hRC2 (.int .i64 vv)
    have d11 := d8.set (p := ⟨w2.heap.size, 4, none⟩) (Nat.le_of_lt hRC) (.int .i64 vv)
    obtain ⟨q0, q1, q2, q3, q4, q5, q6, q7, q8, q9, ql⟩ := C8.unit
    obtain ⟨u0, u1, u2, u3, u4, u5, u6, u7, u8, u9, ul⟩ := R8.unit
    have f9 := C8.frozen 4
    have z0 := R8.frozen 0
    have z1 := R8.frozen 1
    have z2 := R8.frozen 2
    have z3 := R8.frozen 3
    have z4 := R8.frozen 4
    have z5 := R8.frozen 5
    have z6 := R8.frozen 6
    have z7 := R8.frozen 7
    have z8 := R8.frozen 8
    have z9 := R8.frozen 9
    go_wp2_with fail
    obtain ⟨D9, R10⟩ := fillU d11 (Nat.le_refl _) R9 ⟨i, o, x, y, vv, c, j, tx, ty, py⟩
    exact bodyPost_ret (v := .agg (K10.v ⟨i, o, x, y, vv, c, j, tx, ty, py⟩)) (resultU Tryz.results105 R10 _ rfl) rfl ⟨_, rfl, D9.mono (by omega)⟩
  · clear r0 r1
    go_wp2_with fail
    refine (pickD PAny cx rfl d6 (by omega) (by omega) (by omega) (by simp [IntRow, PAny]) (by rfl)).mono ?_
    rintro e w8 ⟨vv, rfl, _, d8, g8⟩
    have R8 := R6.grown g8 hne
    have C8 := C6.grown g8 hne5
    clear C6 R6 d6 g8
    have C9 : Blk (w8.setCell ⟨w2.heap.size, 6, none⟩ (.int .i64 vv)) w2.heap.size (K10.v ⟨i, o, x, y, l, c, vv, tx, ty, py⟩) 113 := C8.set 6 (.int .i64 vv)
    have R9 := R8.setOther (a := ⟨w2.heap.size, 6, none⟩) hRC2 (.int .i64 vv)
    have d11 := d8.set (p := ⟨w2.heap.size, 6, none⟩) (Nat.le_of_lt hRC) (.int .i64 vv)
    obtain ⟨q0, q1, q2, q3, q4, q5, q6, q7, q8, q9, ql⟩ := C8.unit
    obtain ⟨u0, u1, u2, u3, u4, u5, u6, u7, u8, u9, ul⟩ := R8.unit
    have f9 := C8.frozen 6
    have z0 := R8.frozen 0
    have z1 := R8.frozen 1
    have z2 := R8.frozen 2
    have z3 := R8.frozen 3
    have z4 := R8.frozen 4
    have z5 := R8.frozen 5
    have z6 := R8.frozen 6
    have z7 := R8.frozen 7
    have z8 := R8.frozen 8
    have z9 := R8.frozen 9
    go_wp2_with fail
    obtain ⟨D9, R10⟩ := fillU d11 (Nat.le_refl _) R9 ⟨i, o, x, y, l, c, vv, tx, ty, py⟩
    exact bodyPost_ret (v := .agg (K10.v ⟨i, o, x, y, l, c, vv, tx, ty, py⟩)) (resultU Tryz.results105 R10 _ rfl) rfl ⟨_, rfl, D9.mono (by omega)⟩
  · clear r0 r1
    go_wp2_with fail
    refine (pickD PAny cx rfl d6 (by omega) (by omega) (by omega) (by simp [IntRow, PAny]) (by rfl)).mono ?_
    rintro e w8 ⟨vv, rfl, _, d8, g8⟩
    have R8 := R6.grown g8 hne
    have C8 := C6.grown g8 hne5
    clear C6 R6 d6 g8
    have C9 : Blk (w8.setCell ⟨w2.heap.size, 7, none⟩ (.int .i64 vv)) w2.heap.size (K10.v ⟨i, o, x, y, l, c, j, vv, ty, py⟩) 113 := C8.set 7 (.int .i64 vv)
    have R9 := R8.setOther (a := ⟨w2.heap.size, 7, none⟩) hRC2 (.int .i64 vv)
    have d11 := d8.set (p := ⟨w2.heap.size, 7, none⟩) (Nat.le_of_lt hRC) (.int .i64 vv)
    obtain ⟨q0, q1, q2, q3, q4, q5, q6, q7, q8, q9, ql⟩ := C8.unit
    obtain ⟨u0, u1, u2, u3, u4, u5, u6, u7, u8, u9, ul⟩ := R8.unit
    have f9 := C8.frozen 7
    have z0 := R8.frozen 0
    have z1 := R8.frozen 1
    have z2 := R8.frozen 2
    have z3 := R8.frozen 3
    have z4 := R8.frozen 4
    have z5 := R8.frozen 5
    have z6 := R8.frozen 6
    have z7 := R8.frozen 7
    have z8 := R8.frozen 8
    have z9 := R8.frozen 9
    go_wp2_with fail
    obtain ⟨D9, R10⟩ := fillU d11 (Nat.le_refl _) R9 ⟨i, o, x, y, l, c, j, vv, ty, py⟩
    exact bodyPost_ret (v := .agg (K10.v ⟨i, o, x, y, l, c, j, vv, ty, py⟩)) (resultU Tryz.results105 R10 _ rfl) rfl ⟨_, rfl, D9.mono (by omega)⟩
  · clear r0 r1
    have p0 := C6.cell (i := 0) rfl
    have pl := C6.lt
    go_wp2_with fail
    refine (pickD PAny cx rfl d6 (by omega) (by omega) (by omega) (by simp [IntRow, PAny]) (by rfl)).mono ?_
    rintro e w8 ⟨vv, rfl, _, d8, g8⟩
    have R8 := R6.grown g8 hne
    have C8 := C6.grown g8 hne5
    clear C6 R6 d6 g8 p0 pl
    have C9 : Blk (w8.setCell ⟨w2.heap.size, 9, none⟩ (.int .i64 vv)) w2.heap.size (K10.v ⟨i, o, x, y, l, c, j, tx, ty, vv⟩) 113 := C8.set 9 (.int .i64 vv)
    have R9 := R8.setOther (a := ⟨w2.heap.size, 9, none⟩) hRC2 (.int .i64 vv)
    have d11 := d8.set (p := ⟨w2.heap.size, 9, none⟩) (Nat.le_of_lt hRC) (.int .i64 vv)
    obtain ⟨q0, q1, q2, q3, q4, q5, q6, q7, q8, q9, ql⟩ := C8.unit
    obtain ⟨u0, u1, u2, u3, u4, u5, u6, u7, u8, u9, ul⟩ := R8.unit
    have f9 := C8.frozen 9
    have z0 := R8.frozen 0
    have z1 := R8.frozen 1
    have z2 := R8.frozen 2
    have z3 := R8.frozen 3
    have z4 := R8.frozen 4
    have z5 := R8.frozen 5
    have z6 := R8.frozen 6
    have z7 := R8.frozen 7
    have z8 := R8.frozen 8
    have z9 := R8.frozen 9
    go_wp2_with fail
    obtain ⟨D9, R10⟩ := fillU d11 (Nat.le_refl _) R9 ⟨i, o, x, y, l, c, j, tx, ty, vv⟩
    exact bodyPost_ret (v := .agg (K10.v ⟨i, o, x, y, l, c, j, tx, ty, vv⟩)) (resultU Tryz.results105 R10 _ rfl) rfl ⟨_, rfl, D9.mono (by omega)⟩
  · clear r0 r1
    obtain ⟨q0, q1, q2, q3, q4, q5, q6, q7, q8, q9, ql⟩ := C6.unit
    obtain ⟨u0, u1, u2, u3, u4, u5, u6, u7, u8, u9, ul⟩ := R6.unit
    have z0 := R6.frozen 0
    have z1 := R6.frozen 1
    have z2 := R6.frozen 2
    have z3 := R6.frozen 3
    have z4 := R6.frozen 4
    have z5 := R6.frozen 5
    have z6 := R6.frozen 6
    have z7 := R6.frozen 7
    have z8 := R6.frozen 8
    have z9 := R6.frozen 9
    go_wp2_with fail
    obtain ⟨D9, R10⟩ := fillU d6 (Nat.le_refl _) R6 ⟨i, o, x, y, l, c, j, tx, ty, py⟩
    exact bodyPost_ret (v := .agg (K10.v ⟨i, o, x, y, l, c, j, tx, ty, py⟩)) (resultU Tryz.results105 R10 _ rfl) rfl ⟨_, rfl, D9.mono (by omega)⟩
end Go.Proofs.YtmfdggaijbcijaaGreat
end
