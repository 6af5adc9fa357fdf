/- Contracts of the draws of PutUnit, OwnedBy and UnitOf: boards in memory of their own, a unit, a number. Condition: the code has at most 1048576 bytes, which can be read. -/
import Derived.Test.YtibkdkjcncfmgaaBrdDraws4
namespace Go.Proofs.Ytibkdkjcncfmgaa
open Go.ChangeShapes Go.WideShapes Go.ChangeAt Go.RowKit
set_option linter.unusedVariables false

theorem Dn.start {w0 w1 : World} {a : Option Addr} {len cap : Nat} (st : St w0 w1 a len cap 0) : Dn w0 w1 w1 a len cap 0 := ⟨st.src.lt, ⟨0, by omega, by omega, st⟩, grown_refl _ _⟩
theorem Blk.old {w0 w W : World} {a : Option Addr} {len cap : Nat} {n : Int} {g : Nat} {cs : Array Value} {t : TypeId} (h : Blk w0 g cs t) (d : Dn w0 w W a len cap n) : Blk W g cs t := by
  unfold Blk; rw [d.below.block g h.lt]; exact h
def PSmall (x : Int) : Prop := -100 ≤ x ∧ x ≤ 100
abbrev Z2 : Obj := .cells #[.slice none 0 0, .slice none 0 0] 27
set_option maxRecDepth 20000 in
set_option maxHeartbeats 4000000 in
theorem drawPutUnit_c (w : World) (a : Option Addr) (len cap : Nat) (hb : Bytes w a len w.heap.size) (hl : len ≤ 1048576) :
    Calls Try.prog 12 #[.slice a len cap] w fun e w' => ∃ v f us fs x, e = .returned (.tuple #[.agg #[v, f], .agg (K10.v x)]) ∧ SlU w' w.heap.size v us ∧ SlF w' w.heap.size f fs ∧ us.length ≤ 8 ∧ fs.length ≤ 5 ∧ Below w.heap.size w w' := by
  have A0 : Below w.heap.size w ((w.alloc Z2).alloc (.cells K10.z.v 29)) := ((Below.refl _ _).alloc (Nat.le_refl _) _).alloc (by rw [size_new]; omega) _
  have R0 := (Blk.new w #[.slice none 0 0, .slice none 0 0] 27).alloc (.cells K10.z.v 29)
  have Q0 := Blk.new (w.alloc Z2) K10.z.v 29
  rw [size_new] at Q0
  have hb1 := hb.later A0
  obtain ⟨W0, hW⟩ : ∃ W0, Hid (W0 = (w.alloc Z2).alloc (.cells K10.z.v 29)) := ⟨_, rfl⟩
  have hW' : W0 = (w.alloc Z2).alloc (.cells K10.z.v 29) := hW
  rw [← hW'] at A0 R0 Q0 hb1
  clear hW'
  have cx : Cx W0 a len := ⟨hb1, hl⟩
  go_enter Try.func12, Try.ntmps12
  go_wp2_with fail
  show Calls _ _ _ ((w.alloc Z2).alloc (.cells K10.z.v 29)) _
  have hW' : W0 = (w.alloc Z2).alloc (.cells K10.z.v 29) := hW
  rw [← hW']
  clear hW hW'
  refine (source W0 a len cap).mono ?_
  rintro e w1 ⟨rfl, st1⟩
  have d1 := Dn.start st1
  go_wp2_with fail
  refine (l4Bent_c cx d1 (by omega)).mono ?_
  rintro e w2 ⟨v, f, us, fs, rfl, S2, F2, hus, hfs, d2⟩
  go_wp2_with fail
  refine (l4BentUnit_c cx d2.self (by omega)).mono ?_
  rintro e w3 ⟨x, rfl, e3⟩
  have d3 := d2.trans e3
  have S3 := S2.drawn e3.gr d1.lt
  have F3 := F2.drawn e3.gr d1.lt
  have R3 := R0.old d3
  have Q3 := Q0.old d3
  have hw1 : w.heap.size ≤ w1.heap.size := Nat.le_of_lt (Nat.lt_of_le_of_lt A0.size d1.lt)
  have B3 := A0.trans (d3.below.mono A0.size)
  have hQ1 : w.heap.size + 1 < w1.heap.size := Nat.lt_trans Q0.lt d1.lt
  clear S2 F2 d2 e3 d3 R0 Q0 A0 hb1 st1
  obtain ⟨pv, cv, nv, rfl⟩ := S3.frm
  obtain ⟨pf, cf, nf, rfl⟩ := F3.frm
  have r0 := R3.cell (i := 0) rfl
  have r1 := R3.cell (i := 1) rfl
  have z0 := R3.frozen 0
  have z1 := R3.frozen 1
  have rl := R3.lt
  obtain ⟨u0, u1, u2, u3, u4, u5, u6, u7, u8, u9, ul⟩ := Q3.unit
  have y0 := Q3.frozen 0
  have y1 := Q3.frozen 1
  have y2 := Q3.frozen 2
  have y3 := Q3.frozen 3
  have y4 := Q3.frozen 4
  have y5 := Q3.frozen 5
  have y6 := Q3.frozen 6
  have y7 := Q3.frozen 7
  have y8 := Q3.frozen 8
  have y9 := Q3.frozen 9
  go_wp2_with fail
  have R4 : Blk ((w3.setCell ⟨w.heap.size, 0, none⟩ (.slice pv nv cv)).setCell ⟨w.heap.size, 1, none⟩ (.slice pf nf cf)) w.heap.size #[.slice pv nv cv, .slice pf nf cf] 27 := (R3.set 0 (.slice pv nv cv)).set 1 (.slice pf nf cf)
  have R3' := R3.set 0 (.slice pv nv cv)
  have S4 := (S3.setB (o := 0) R3 (by decide) (.slice pv nv cv)).setB (o := 1) R3' (by decide) (.slice pf nf cf)
  have F4 := (F3.setB (o := 0) R3 (by decide) (.slice pv nv cv)).setB (o := 1) R3' (by decide) (.slice pf nf cf)
  have B4 := bel_set (bel_set B3 w.heap.size 0 (Nat.le_refl _) (.slice pv nv cv)) w.heap.size 1 (Nat.le_refl _) (.slice pf nf cf)
  have Q4 := (Q3.setOther (a := ⟨w.heap.size, 0, none⟩) (by show w.heap.size + 1 ≠ w.heap.size; omega) (.slice pv nv cv)).setOther (a := ⟨w.heap.size, 1, none⟩) (by show w.heap.size + 1 ≠ w.heap.size; omega) (.slice pf nf cf)
  obtain ⟨W5, HW5⟩ : ∃ W5, Hid (W5 = (w3.setCell ⟨w.heap.size, 0, none⟩ (.slice pv nv cv)).setCell ⟨w.heap.size, 1, none⟩ (.slice pf nf cf)) := ⟨_, rfl⟩
  rw [← HW5.out] at R4 S4 F4 B4 Q4 ⊢
  have q0 : Blk _ (w.heap.size + 1) #[.int .i64 x.c0, .int .i64 K10.z.c1, .int .i64 K10.z.c2, .int .i64 K10.z.c3, .int .i64 K10.z.c4, .int .i64 K10.z.c5, .int .i64 K10.z.c6, .int .i64 K10.z.c7, .int .i64 K10.z.c8, .int .i64 K10.z.c9] 29 := Q4.set 0 (.int .i64 x.c0)
  have q1 : Blk _ (w.heap.size + 1) #[.int .i64 x.c0, .int .i64 x.c1, .int .i64 K10.z.c2, .int .i64 K10.z.c3, .int .i64 K10.z.c4, .int .i64 K10.z.c5, .int .i64 K10.z.c6, .int .i64 K10.z.c7, .int .i64 K10.z.c8, .int .i64 K10.z.c9] 29 := q0.set 1 (.int .i64 x.c1)
  have q2 : Blk _ (w.heap.size + 1) #[.int .i64 x.c0, .int .i64 x.c1, .int .i64 x.c2, .int .i64 K10.z.c3, .int .i64 K10.z.c4, .int .i64 K10.z.c5, .int .i64 K10.z.c6, .int .i64 K10.z.c7, .int .i64 K10.z.c8, .int .i64 K10.z.c9] 29 := q1.set 2 (.int .i64 x.c2)
  have q3 : Blk _ (w.heap.size + 1) #[.int .i64 x.c0, .int .i64 x.c1, .int .i64 x.c2, .int .i64 x.c3, .int .i64 K10.z.c4, .int .i64 K10.z.c5, .int .i64 K10.z.c6, .int .i64 K10.z.c7, .int .i64 K10.z.c8, .int .i64 K10.z.c9] 29 := q2.set 3 (.int .i64 x.c3)
  have q4 : Blk _ (w.heap.size + 1) #[.int .i64 x.c0, .int .i64 x.c1, .int .i64 x.c2, .int .i64 x.c3, .int .i64 x.c4, .int .i64 K10.z.c5, .int .i64 K10.z.c6, .int .i64 K10.z.c7, .int .i64 K10.z.c8, .int .i64 K10.z.c9] 29 := q3.set 4 (.int .i64 x.c4)
  have q5 : Blk _ (w.heap.size + 1) #[.int .i64 x.c0, .int .i64 x.c1, .int .i64 x.c2, .int .i64 x.c3, .int .i64 x.c4, .int .i64 x.c5, .int .i64 K10.z.c6, .int .i64 K10.z.c7, .int .i64 K10.z.c8, .int .i64 K10.z.c9] 29 := q4.set 5 (.int .i64 x.c5)
  have q6 : Blk _ (w.heap.size + 1) #[.int .i64 x.c0, .int .i64 x.c1, .int .i64 x.c2, .int .i64 x.c3, .int .i64 x.c4, .int .i64 x.c5, .int .i64 x.c6, .int .i64 K10.z.c7, .int .i64 K10.z.c8, .int .i64 K10.z.c9] 29 := q5.set 6 (.int .i64 x.c6)
  have q7 : Blk _ (w.heap.size + 1) #[.int .i64 x.c0, .int .i64 x.c1, .int .i64 x.c2, .int .i64 x.c3, .int .i64 x.c4, .int .i64 x.c5, .int .i64 x.c6, .int .i64 x.c7, .int .i64 K10.z.c8, .int .i64 K10.z.c9] 29 := q6.set 7 (.int .i64 x.c7)
  have q8 : Blk _ (w.heap.size + 1) #[.int .i64 x.c0, .int .i64 x.c1, .int .i64 x.c2, .int .i64 x.c3, .int .i64 x.c4, .int .i64 x.c5, .int .i64 x.c6, .int .i64 x.c7, .int .i64 x.c8, .int .i64 K10.z.c9] 29 := q7.set 8 (.int .i64 x.c8)
  have q9 : Blk _ (w.heap.size + 1) #[.int .i64 x.c0, .int .i64 x.c1, .int .i64 x.c2, .int .i64 x.c3, .int .i64 x.c4, .int .i64 x.c5, .int .i64 x.c6, .int .i64 x.c7, .int .i64 x.c8, .int .i64 x.c9] 29 := q8.set 9 (.int .i64 x.c9)
  have R5 := ((((((((((R4.setOther (a := ⟨w.heap.size + 1, 0, none⟩) (by show w.heap.size ≠ w.heap.size + 1; omega) (.int .i64 x.c0)).setOther (a := ⟨w.heap.size + 1, 1, none⟩) (by show w.heap.size ≠ w.heap.size + 1; omega) (.int .i64 x.c1)).setOther (a := ⟨w.heap.size + 1, 2, none⟩) (by show w.heap.size ≠ w.heap.size + 1; omega) (.int .i64 x.c2)).setOther (a := ⟨w.heap.size + 1, 3, none⟩) (by show w.heap.size ≠ w.heap.size + 1; omega) (.int .i64 x.c3)).setOther (a := ⟨w.heap.size + 1, 4, none⟩) (by show w.heap.size ≠ w.heap.size + 1; omega) (.int .i64 x.c4)).setOther (a := ⟨w.heap.size + 1, 5, none⟩) (by show w.heap.size ≠ w.heap.size + 1; omega) (.int .i64 x.c5)).setOther (a := ⟨w.heap.size + 1, 6, none⟩) (by show w.heap.size ≠ w.heap.size + 1; omega) (.int .i64 x.c6)).setOther (a := ⟨w.heap.size + 1, 7, none⟩) (by show w.heap.size ≠ w.heap.size + 1; omega) (.int .i64 x.c7)).setOther (a := ⟨w.heap.size + 1, 8, none⟩) (by show w.heap.size ≠ w.heap.size + 1; omega) (.int .i64 x.c8)).setOther (a := ⟨w.heap.size + 1, 9, none⟩) (by show w.heap.size ≠ w.heap.size + 1; omega) (.int .i64 x.c9))
  have B5 := (bel_set (bel_set (bel_set (bel_set (bel_set (bel_set (bel_set (bel_set (bel_set (bel_set B4 (w.heap.size + 1) 0 (by omega) (.int .i64 x.c0)) (w.heap.size + 1) 1 (by omega) (.int .i64 x.c1)) (w.heap.size + 1) 2 (by omega) (.int .i64 x.c2)) (w.heap.size + 1) 3 (by omega) (.int .i64 x.c3)) (w.heap.size + 1) 4 (by omega) (.int .i64 x.c4)) (w.heap.size + 1) 5 (by omega) (.int .i64 x.c5)) (w.heap.size + 1) 6 (by omega) (.int .i64 x.c6)) (w.heap.size + 1) 7 (by omega) (.int .i64 x.c7)) (w.heap.size + 1) 8 (by omega) (.int .i64 x.c8)) (w.heap.size + 1) 9 (by omega) (.int .i64 x.c9))
  have S5 := ((((((((((S4.set (b := w.heap.size + 1) (o := 0) hQ1 (.int .i64 x.c0)).set (b := w.heap.size + 1) (o := 1) hQ1 (.int .i64 x.c1)).set (b := w.heap.size + 1) (o := 2) hQ1 (.int .i64 x.c2)).set (b := w.heap.size + 1) (o := 3) hQ1 (.int .i64 x.c3)).set (b := w.heap.size + 1) (o := 4) hQ1 (.int .i64 x.c4)).set (b := w.heap.size + 1) (o := 5) hQ1 (.int .i64 x.c5)).set (b := w.heap.size + 1) (o := 6) hQ1 (.int .i64 x.c6)).set (b := w.heap.size + 1) (o := 7) hQ1 (.int .i64 x.c7)).set (b := w.heap.size + 1) (o := 8) hQ1 (.int .i64 x.c8)).set (b := w.heap.size + 1) (o := 9) hQ1 (.int .i64 x.c9)).mono hw1
  have F5 := ((((((((((F4.set (b := w.heap.size + 1) (o := 0) hQ1 (.int .i64 x.c0)).set (b := w.heap.size + 1) (o := 1) hQ1 (.int .i64 x.c1)).set (b := w.heap.size + 1) (o := 2) hQ1 (.int .i64 x.c2)).set (b := w.heap.size + 1) (o := 3) hQ1 (.int .i64 x.c3)).set (b := w.heap.size + 1) (o := 4) hQ1 (.int .i64 x.c4)).set (b := w.heap.size + 1) (o := 5) hQ1 (.int .i64 x.c5)).set (b := w.heap.size + 1) (o := 6) hQ1 (.int .i64 x.c6)).set (b := w.heap.size + 1) (o := 7) hQ1 (.int .i64 x.c7)).set (b := w.heap.size + 1) (o := 8) hQ1 (.int .i64 x.c8)).set (b := w.heap.size + 1) (o := 9) hQ1 (.int .i64 x.c9)).mono hw1
  obtain ⟨t0, t1, t2, t3, t4, t5, t6, t7, t8, t9, tl⟩ := (show Blk _ (w.heap.size + 1) x.v 29 from q9).unit
  have b0 := R5.cell (i := 0) rfl
  have b1 := R5.cell (i := 1) rfl
  refine bodyPost_ret (v := .tuple #[.agg #[.slice pv nv cv, .slice pf nf cf], .agg x.v]) ?_ rfl ⟨_, _, us, fs, x, rfl, S5, F5, hus, hfs, B5⟩
  simp [results, Try.results12, go_sem, t0, t1, t2, t3, t4, t5, t6, t7, t8, t9, b0, b1]
  done
set_option maxRecDepth 20000 in
set_option maxHeartbeats 4000000 in
theorem dDrawOwnedBy_c (w : World) (a : Option Addr) (len cap : Nat) (hb : Bytes w a len w.heap.size) (hl : len ≤ 1048576) :
    Calls Try.prog 14 #[.slice a len cap] w fun e w' => ∃ v f us fs i, e = .returned (.tuple #[.agg #[v, f], .int .i64 i]) ∧ SlU w' w.heap.size v us ∧ SlF w' w.heap.size f fs ∧ us.length ≤ 8 ∧ fs.length ≤ 5 ∧ PSmall i ∧ Below w.heap.size w w' := by
  have A0 : Below w.heap.size w (w.alloc Z2) := (Below.refl _ _).alloc (Nat.le_refl _) _
  have R0 := Blk.new w #[.slice none 0 0, .slice none 0 0] 27
  have hb1 := hb.later A0
  obtain ⟨W0, hW⟩ : ∃ W0, Hid (W0 = w.alloc Z2) := ⟨_, rfl⟩
  have hW' : W0 = w.alloc Z2 := hW
  rw [← hW'] at A0 R0 hb1
  clear hW'
  have cx : Cx W0 a len := ⟨hb1, hl⟩
  go_enter Try.func14, Try.ntmps14
  go_wp2_with fail
  show Calls _ _ _ (w.alloc Z2) _
  have hW' : W0 = w.alloc Z2 := hW
  rw [← hW']
  clear hW hW'
  refine (source W0 a len cap).mono ?_
  rintro e w1 ⟨rfl, st1⟩
  have d1 := Dn.start st1
  go_wp2_with fail
  refine (l4Bent_c cx d1 (by omega)).mono ?_
  rintro e w2 ⟨v, f, us, fs, rfl, S2, F2, hus, hfs, d2⟩
  go_wp2_with fail
  refine (pickD PSmall cx rfl d2 (by omega) (by omega) (by omega) (by simp [IntRow, PSmall]) (by rfl)).mono ?_
  rintro e w3 ⟨i, rfl, hp, d3, g3⟩
  have hi : PSmall i := hp
  have S3 := S2.drawn g3 d1.lt
  have F3 := F2.drawn g3 d1.lt
  have R3 := R0.old d3
  have hw1 : w.heap.size ≤ w1.heap.size := Nat.le_of_lt (Nat.lt_of_le_of_lt A0.size d1.lt)
  have B3 := A0.trans (d3.below.mono A0.size)
  replace S3 := S3.mono hw1
  replace F3 := F3.mono hw1
  clear S2 F2 d2 g3 d3 R0 A0 hb1 st1
  obtain ⟨pv, cv, nv, rfl⟩ := S3.frm
  obtain ⟨pf, cf, nf, rfl⟩ := F3.frm
  have r0 := R3.cell (i := 0) rfl
  have r1 := R3.cell (i := 1) rfl
  have z0 := R3.frozen 0
  have z1 := R3.frozen 1
  have rl := R3.lt
  go_wp2_with fail
  have R4 : Blk ((w3.setCell ⟨w.heap.size, 0, none⟩ (.slice pv nv cv)).setCell ⟨w.heap.size, 1, none⟩ (.slice pf nf cf)) w.heap.size #[.slice pv nv cv, .slice pf nf cf] 27 := (R3.set 0 (.slice pv nv cv)).set 1 (.slice pf nf cf)
  have R3' := R3.set 0 (.slice pv nv cv)
  have S4 := (S3.setB (o := 0) R3 (by decide) (.slice pv nv cv)).setB (o := 1) R3' (by decide) (.slice pf nf cf)
  have F4 := (F3.setB (o := 0) R3 (by decide) (.slice pv nv cv)).setB (o := 1) R3' (by decide) (.slice pf nf cf)
  have B4 := bel_set (bel_set B3 w.heap.size 0 (Nat.le_refl _) (.slice pv nv cv)) w.heap.size 1 (Nat.le_refl _) (.slice pf nf cf)
  have b0 := R4.cell (i := 0) rfl
  have b1 := R4.cell (i := 1) rfl
  refine bodyPost_ret (v := .tuple #[.agg #[.slice pv nv cv, .slice pf nf cf], .int .i64 i]) ?_ rfl ⟨_, _, us, fs, i, rfl, S4, F4, hus, hfs, hi, B4⟩
  simp [results, Try.results14, go_sem, b0, b1]
  done
set_option maxRecDepth 20000 in
set_option maxHeartbeats 4000000 in
theorem dDrawUnitOf_c (w : World) (a : Option Addr) (len cap : Nat) (hb : Bytes w a len w.heap.size) (hl : len ≤ 1048576) :
    Calls Try.prog 16 #[.slice a len cap] w fun e w' => ∃ v f us fs i, e = .returned (.tuple #[.agg #[v, f], .int .i64 i]) ∧ SlU w' w.heap.size v us ∧ SlF w' w.heap.size f fs ∧ us.length ≤ 8 ∧ fs.length ≤ 5 ∧ PSmall i ∧ Below w.heap.size w w' := by
  have A0 : Below w.heap.size w (w.alloc Z2) := (Below.refl _ _).alloc (Nat.le_refl _) _
  have R0 := Blk.new w #[.slice none 0 0, .slice none 0 0] 27
  have hb1 := hb.later A0
  obtain ⟨W0, hW⟩ : ∃ W0, Hid (W0 = w.alloc Z2) := ⟨_, rfl⟩
  have hW' : W0 = w.alloc Z2 := hW
  rw [← hW'] at A0 R0 hb1
  clear hW'
  have cx : Cx W0 a len := ⟨hb1, hl⟩
  go_enter Try.func16, Try.ntmps16
  go_wp2_with fail
  show Calls _ _ _ (w.alloc Z2) _
  have hW' : W0 = w.alloc Z2 := hW
  rw [← hW']
  clear hW hW'
  refine (source W0 a len cap).mono ?_
  rintro e w1 ⟨rfl, st1⟩
  have d1 := Dn.start st1
  go_wp2_with fail
  refine (l4Bent_c cx d1 (by omega)).mono ?_
  rintro e w2 ⟨v, f, us, fs, rfl, S2, F2, hus, hfs, d2⟩
  go_wp2_with fail
  refine (drawsD cx d2 9 (by omega) (by omega) (by omega)).mono ?_
  rintro e w3 ⟨i, rfl, i0, i1, d3, g3⟩
  have hi : PSmall i := ⟨by omega, by omega⟩
  have S3 := S2.drawn g3 d1.lt
  have F3 := F2.drawn g3 d1.lt
  have R3 := R0.old d3
  have hw1 : w.heap.size ≤ w1.heap.size := Nat.le_of_lt (Nat.lt_of_le_of_lt A0.size d1.lt)
  have B3 := A0.trans (d3.below.mono A0.size)
  replace S3 := S3.mono hw1
  replace F3 := F3.mono hw1
  clear S2 F2 d2 g3 d3 R0 A0 hb1 st1
  obtain ⟨pv, cv, nv, rfl⟩ := S3.frm
  obtain ⟨pf, cf, nf, rfl⟩ := F3.frm
  have r0 := R3.cell (i := 0) rfl
  have r1 := R3.cell (i := 1) rfl
  have z0 := R3.frozen 0
  have z1 := R3.frozen 1
  have rl := R3.lt
  go_wp2_with fail
  have R4 : Blk ((w3.setCell ⟨w.heap.size, 0, none⟩ (.slice pv nv cv)).setCell ⟨w.heap.size, 1, none⟩ (.slice pf nf cf)) w.heap.size #[.slice pv nv cv, .slice pf nf cf] 27 := (R3.set 0 (.slice pv nv cv)).set 1 (.slice pf nf cf)
  have R3' := R3.set 0 (.slice pv nv cv)
  have S4 := (S3.setB (o := 0) R3 (by decide) (.slice pv nv cv)).setB (o := 1) R3' (by decide) (.slice pf nf cf)
  have F4 := (F3.setB (o := 0) R3 (by decide) (.slice pv nv cv)).setB (o := 1) R3' (by decide) (.slice pf nf cf)
  have B4 := bel_set (bel_set B3 w.heap.size 0 (Nat.le_refl _) (.slice pv nv cv)) w.heap.size 1 (Nat.le_refl _) (.slice pf nf cf)
  have b0 := R4.cell (i := 0) rfl
  have b1 := R4.cell (i := 1) rfl
  refine bodyPost_ret (v := .tuple #[.agg #[.slice pv nv cv, .slice pf nf cf], .int .i64 i]) ?_ rfl ⟨_, _, us, fs, i, rfl, S4, F4, hus, hfs, hi, B4⟩
  simp [results, Try.results16, go_sem, b0, b1]
  done
end Go.Proofs.Ytibkdkjcncfmgaa
