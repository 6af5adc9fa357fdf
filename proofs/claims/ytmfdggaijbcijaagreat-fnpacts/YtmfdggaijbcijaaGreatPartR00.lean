/- Texts of mine put together (a claim holds at most 60 files): AreDraw, SeatsSpec. -/
import Derived.Test.YtmfdggaijbcijaaGreatPartQ26
import Derived.Test.YtmfdggaijbcijaaGreatPartQ10
import Derived.Test.YtmfdggaijbcijaaGreatPartQ18
import Derived.Test.YtmfdggaijbcijaaGreatPartQ44
import Derived.OwnWalk

/- AreDraw -/
/- The draw of a world and two sides. Condition: the code has at most 1048576 bytes, which can be read. -/
section
namespace Go.Proofs.YtmfdggaijbcijaaGreat
open Go.ChangeShapes Go.WideShapes Go.ChangeAt Go.RowKit
open Bd
set_option linter.unusedVariables false

set_option maxRecDepth 20000 in
set_option maxHeartbeats 16000000 in
theorem drawAreAllies_c (w : World) (a0 : Option Addr) (len cap : Nat) (hb : Bytes w a0 len w.heap.size) (hl : len ≤ 1048576) :
    Calls Tryz.prog 10 #[.slice a0 len cap] w fun e w' => ∃ p x i j, e = .returned (.tuple #[.agg (WP.v p x), .int .i64 i, .int .i64 j]) ∧ OwW w' w.heap.size p x ∧ DW x ∧ Below w.heap.size w w' := by
  obtain ⟨W1, HW1⟩ : ∃ W1, Hid (W1 = w.alloc (.cells zW 32)) := ⟨_, rfl⟩
  have A0 : Below w.heap.size w W1 := by rw [HW1.out]; exact (Below.refl _ _).alloc (Nat.le_refl _) _
  have R0 : Blk W1 w.heap.size zW 32 := by rw [HW1.out]; exact Blk.new w zW 32
  have cx : Cx W1 a0 len := ⟨hb.later A0, hl⟩
  have hR := R0.lt
  go_enter Tryz.func10, Tryz.ntmps10
  go_upto_region 1 with fail
  rw [← HW1.out]
  go_wp2_with fail
  refine (source W1 a0 len cap).mono ?_
  rintro e w1 ⟨rfl, st1⟩
  have d1 := Dn.start st1
  go_wp2_with fail
  refine (l6Bent_c cx d1 (by omega)).mono ?_
  rintro e w2 ⟨t, s, vu, vf, fb, vs, vo, us, fs, fa, se, oo, rfl, A2, f4, U2, F2, S2, O2, hfb, lus, lfs, lse, loo, d2⟩
  have SA := A2.slA hfb f4
  obtain ⟨pu, cu, rfl⟩ := U2.fm
  obtain ⟨pf, cf, rfl⟩ := F2.fm
  obtain ⟨ps, cs, rfl⟩ := S2.fm
  obtain ⟨po, co, rfl⟩ := O2.fm
  have R2 := R0.old d2
  have h4 := f4.l
  have O2 : OwW w2 w1.heap.size ⟨pu, cu, pf, cf, some ⟨fb, 0, none⟩, 4, ps, cs, po, co⟩ ⟨t, s, us, fs, fa, se, oo⟩ := ⟨U2, F2, SA, S2, O2⟩
  have dw : DW ⟨t, s, us, fs, fa, se, oo⟩ := ⟨lus, lfs, f4, lse, loo⟩
  have hw1 : w.heap.size < w1.heap.size := by have := d1.lt; omega
  have hsrc : W1.heap.size < w1.heap.size := d1.lt
  have hne : some w.heap.size ≠ some W1.heap.size := by simp; omega
  have Hdw : Hid (DW ⟨t, s, us, fs, fa, se, oo⟩) := dw
  have Hb1 : Hid (Below w.heap.size w W1) := A0
  clear A2 f4 U2 F2 SA S2 dw A0 lus lfs lse loo R0
  go_wp2_with fail
  refine (drawsD cx d2 5 (by omega) (by omega) (by omega)).mono ?_
  rintro e w3 ⟨i, rfl, _, _, d3, g3⟩
  have O3 := O2.drawn g3 hsrc
  have R3 := R2.grown g3 hne
  clear O2 R2 d2 g3
  go_wp2_with fail
  refine (drawsD cx d3 6 (by omega) (by omega) (by omega)).mono ?_
  rintro e w4 ⟨j, rfl, j0, j6, d4, g4⟩
  have O4 := O3.drawn g4 hsrc
  have R4 := R3.grown g4 hne
  clear O3 R3 d3 g4
  obtain ⟨y0, y1, y2, y3, y4, y5, y6, z0, z1, z2, z3, z4, z5, z6, rl⟩ := R4.z7
  have F1 := set7_blk R4 (.int .i64 t) (.int .i64 s) (.slice pu us.length cu) (.slice pf fs.length cf) (.slice (some ⟨fb, 0, none⟩) 4 4) (.slice ps se.length cs) (.slice po oo.length co)
  have F2 := (O4.of_block R4 (by decide) (by decide) (by decide) (by decide) (by decide) (set7_other (W := w4) (g := w.heap.size) (.int .i64 t) (.int .i64 s) (.slice pu us.length cu) (.slice pf fs.length cf) (.slice (some ⟨fb, 0, none⟩) 4 4) (.slice ps se.length cs) (.slice po oo.length co))).mono (Nat.le_of_lt hw1)
  have F3 := set7_below (Hb1.out.trans (d4.below.mono (Nat.le_of_lt hR))) (Nat.le_refl w.heap.size) (.int .i64 t) (.int .i64 s) (.slice pu us.length cu) (.slice pf fs.length cf) (.slice (some ⟨fb, 0, none⟩) 4 4) (.slice ps se.length cs) (.slice po oo.length co)
  go_wp2_with fail
  obtain ⟨q0, q1, q2, q3, q4, q5, q6, ql⟩ := F1.c7
  refine bodyPost_ret (v := .tuple #[.agg (wv t s pu us.length cu pf fs.length cf (some ⟨fb, 0, none⟩) 4 4 ps se.length cs po oo.length co), .int .i64 i, .int .i64 (j - 1)]) ?_ rfl ⟨⟨pu, cu, pf, cf, some ⟨fb, 0, none⟩, 4, ps, cs, po, co⟩, ⟨t, s, us, fs, fa, se, oo⟩, i, j - 1, by show _ = Ending.returned (.tuple #[.agg (wv t s pu us.length cu pf fs.length cf (some ⟨fb, 0, none⟩) fa.length 4 ps se.length cs po oo.length co), .int .i64 i, .int .i64 (j - 1)]); rw [h4], F2, Hdw.out, F3⟩
  simp [results, Tryz.results10, go_sem, q0, q1, q2, q3, q4, q5, q6]
end Go.Proofs.YtmfdggaijbcijaaGreat
end

/- SeatsSpec -/
/- The contracts of l8Seats and l7Without of the model; append of one seat or offer behind a slice of one's own. Condition: the list lies in memory as it was laid there. -/
section
namespace Go.Proofs.YtmfdggaijbcijaaGreat
open Go.ChangeShapes Go.WideShapes Go.ChangeAt Go.RowKit
set_option linter.unusedVariables false

theorem wpList_pushO {ops : Array Oper} {rest : List Oper} {o : Oper} {a : Act} {Q : Exit → Act → World → Prop} (hgd : o.guard = none) (s x : Operand)
    (ho : o.op = .call { callee := .builtin .append, args := #[s, x], argTypes := #[30, 30] }) (w0 : World) (u : K2) (base : Nat) (v : Value) (l : List K2) (hs : a.eval s = v) (hown : SlO w0 base v l)
    (hx : a.eval x = .slice (some ⟨w0.heap.size, 0, none⟩) 1 1) (hlen : l.length ≤ 100) (hbase : base ≤ w0.heap.size)
    (h : ∀ v' w', SlO w' base v' (l ++ [u]) → Below base w0 w' → wpList Tryz.prog ops Q rest (a.put o.dst v') w') :
    wpList Tryz.prog ops Q (o :: rest) a (w0.alloc (.cells u.v 49)) := by
  obtain ⟨i0, hi, hz0, hz1, hz2⟩ := info_parts infoO
  have hown' : SlO (w0.alloc (.cells u.v 49)) base v l := hown.below ((Below.refl _ _).alloc (Nat.le_refl _) _)
  refine wpList_append_own _ hgd s x 30 ho base 49 i0 (.agg K2.z.v) 2 16 Tryz.underlying30 hi hz0 hz1 hz2 rfl (by decide) v l.length _ hs hown' ⟨w0.heap.size, 0, none⟩ 1 1 u.v.toList hx (by rfl) ?_ ?_ (by unfold maxLen; omega) (by omega) (by rw [size_new]; omega) ?_
  · intro j y hj
    rw [add_plain', Nat.zero_add]
    exact cell_new _ _ _ _ _ (by simpa using hj)
  · intro y hy
    exact flatO_one [u] y (by unfold flatO; exact List.mem_append_left _ hy)
  · intro v' w' h1 h2 _
    refine h v' w' ?_ (((Below.refl base w0).alloc hbase _).grown h2 (by rw [size_new]; omega) (fun k' hk' => (hown.lt k' hk').1))
    unfold SlO
    rw [flatO_app, List.length_append]
    exact h1
theorem filt_le {α : Type} (p : α → Bool) (l : List α) (k : Nat) : ((l.take k).filter p).length ≤ l.length :=
  Nat.le_trans (List.length_filter_le _ _) (by rw [List.length_take]; exact Nat.min_le_right _ _)
end Go.Proofs.YtmfdggaijbcijaaGreat
end
