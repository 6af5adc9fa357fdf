/- Texts of mine put together (a claim holds at most 60 files): BrdDraws4. -/
import Derived.Test.YtmfdggaijbcijaaGreatPartQ11

/- BrdDraws4 -/
/- Contracts of the draws of a bent board: two lists of one's own, maybe nil, and nothing that was there turns but the source. Condition: the code has at most 1048576 bytes, which can be read. -/
section
namespace Go.Proofs.YtmfdggaijbcijaaGreat
open Go.ChangeShapes Go.WideShapes Go.ChangeAt Go.RowKit
set_option linter.unusedVariables false

theorem SlU.mono' {w : World} {base base' : Nat} {v : Value} {l : List K10} (h : SlU w base v l) (hb : base' ≤ base) : SlU w base' v l := h.mono hb
theorem five_new {w : World} {base : Nat} (hb : base ≤ w.heap.size) : SlF (w.alloc (.cells (madeCells K3.z.v 15) 118)) base (.slice (some ⟨w.heap.size, 0, none⟩) 5 5) [K3.z, K3.z, K3.z, K3.z, K3.z] := by
  refine ⟨rfl, .inr ⟨w.heap.size, 5, madeCells K3.z.v 15, rfl, hb, ?_, Nat.le_refl _, by unfold maxLen; omega, size_madeCells _ _, ?_⟩⟩
  · show (w.heap.push _)[w.heap.size]? = _
    simp
  · first | kernel_rfl | (simp [madeCells, flatF, K3.z, K3.v, List.range, List.range.loop]; done)
set_option maxRecDepth 20000 in
set_option maxHeartbeats 8000000 in
theorem l4Bent_c {w0 w : World} {a : Option Addr} {len cap : Nat} {n : Int} (cx : Cx w0 a len) (d : Dn w0 w w a len cap n) (hn : n ≤ 500000) :
    Calls Tryz.prog 77 #[.pointer (some ⟨w0.heap.size, 0, none⟩)] w fun e w' => ∃ v f us fs, e = .returned (.agg #[v, f]) ∧ SlU w' w.heap.size v us ∧ SlF w' w.heap.size f fs ∧ us.length ≤ 8 ∧ fs.length ≤ 5 ∧ Dn w0 w w' a len cap (n + 300) := by
  have hlt := d.lt
  have R0 := Blk.new w #[.slice none 0 0, .slice none 0 0] 27
  have d0 := d.alloc (.cells #[.slice none 0 0, .slice none 0 0] 27)
  have hneR : some w.heap.size ≠ some w0.heap.size := by simp; omega
  have hmk : ∀ W : World, (Instr.makeSlice 25 (.int .i64 5) (.int .i64 5)).run Tryz.prog W = .ok (.slice (some ⟨W.heap.size, 0, none⟩) 5 5) (W.alloc (.cells (madeCells K3.z.v 15) 118)) := fun W => makeF 5 (by omega) W
  go_enter Tryz.func77, Tryz.ntmps77
  go_wp2_with fail
  refine (l4Draw_c cx d0.self (by omega)).mono ?_
  rintro e w1 ⟨v, f, us, fs, rfl, S, F, hus, hfs, e1⟩
  rw [size_new] at S F
  replace S := S.mono (Nat.le_succ w.heap.size)
  replace F := F.mono (Nat.le_succ w.heap.size)
  have dr := d0.trans e1
  have R := R0.grown e1.gr hneR
  have hRl : w.heap.size < w1.heap.size := R.lt
  obtain ⟨pv, cv, nv, rfl⟩ := S.frm
  obtain ⟨pf, cf, nf, rfl⟩ := F.frm
  have B := Blk.new w1 #[.slice pv nv cv, .slice pf nf cf] 27
  have hneB : some w1.heap.size ≠ some w0.heap.size := by have := dr.le; simp; omega
  have hRB : w.heap.size ≠ w1.heap.size := by omega
  replace R := R.alloc (.cells #[.slice pv nv cv, .slice pf nf cf] 27)
  replace S := S.alloc (.cells #[.slice pv nv cv, .slice pf nf cf] 27)
  replace F := F.alloc (.cells #[.slice pv nv cv, .slice pf nf cf] 27)
  replace dr := dr.alloc (.cells #[.slice pv nv cv, .slice pf nf cf] 27)
  clear R0 d0 e1
  go_wp2_with fail
  refine (drawsD cx dr 12 (by omega) (by omega) (by omega)).mono ?_
  rintro e wr ⟨r, rfl, r0, r1, d1, g1⟩
  replace R := R.grown g1 hneR
  replace B := B.grown g1 hneB
  replace S := S.drawn g1 hlt
  replace F := F.drawn g1 hlt
  clear dr g1
  have hwl := d1.le
  have hr : r = 0 ∨ r = 1 ∨ r = 2 ∨ r = 3 ∨ ((r == 0) = false ∧ (r == 1) = false ∧ (r == 2) = false ∧ (r == 3) = false) := by
    by_cases e0 : r = 0
    · exact .inl e0
    by_cases e1 : r = 1
    · exact .inr (.inl e1)
    by_cases e2 : r = 2
    · exact .inr (.inr (.inl e2))
    by_cases e3 : r = 3
    · exact .inr (.inr (.inr (.inl e3)))
    exact .inr (.inr (.inr (.inr ⟨beq_false_of_ne e0, beq_false_of_ne e1, beq_false_of_ne e2, beq_false_of_ne e3⟩)))
  rcases hr with rfl | rfl | rfl | rfl | ⟨e0, e1, e2, e3⟩
  · clear r0 r1
    have p0 := B.cell (i := 0) rfl
    have bl := B.lt
    have dD := d1.drew
    go_upto_region 4 with fail
    go_region_law (first
      | (refine step_pushU rfl (.tmp 12) (.tmp 15) rfl w2.heap.size x w.heap.size _ us (by simp [Act.eval]; done) (S2.alloc _) (by simp [Act.eval]; done) (Blk.new w2 x.v 113) (by omega) (by have := d2.gr.size; rw [size_new]; omega) ?_; intro v3 w3 S3 g3; obtain ⟨p3, c3, n3, rfl⟩ := S3.frm; have B3 := (B2.alloc (.cells x.v 113)).grown g3 (S2.ne B2 (by decide)); have R3 := (R2.alloc (.cells x.v 113)).grown g3 (S2.ne R2 (by decide)); have F3 := (F2.alloc (.cells x.v 113)).apart (S2.alloc (.cells x.v 113)) g3; have d3 := (d2.alloc (.cells x.v 113)).push g3 (fun q hq => (S2.lt q hq).1); have p0 := B3.cell (i := 0) rfl; have z0 := B3.frozen 0; have bl := B3.lt)
      | (refine step_call rfl 105 #[.pointer (some ⟨w0.heap.size, 0, none⟩)] (by first | kernel_rfl | (simp [execOp, resolve, invoke, Act.eval, go_sem]; done)) _ (l4BentUnit_c cx dD.self (by omega)) ?_; rintro e w2 ⟨x, rfl, e2⟩; refine ⟨_, rfl, ?_⟩; have d2 := dD.trans e2; have R2 := R.drew.grown e2.gr hneR; have B2 := B.drew.grown e2.gr hneB; have S2 := SlU.drawn (w := wr.drew) S e2.gr hlt; have F2 := SlF.drawn (w := wr.drew) F e2.gr hlt; have p0 := B2.cell (i := 0) rfl; have bl := B2.lt))
    all_goals
      have B4 : Blk (w3.setCell ⟨w1.heap.size, 0, none⟩ (.slice p3 n3 c3)) w1.heap.size #[.slice p3 n3 c3, .slice pf nf cf] 27 := B3.set 0 (.slice p3 n3 c3)
      have R4 := R3.setOther (a := ⟨w1.heap.size, 0, none⟩) hRB (.slice p3 n3 c3)
      have S4 := S3.setB (o := 0) B3 (by decide) (.slice p3 n3 c3)
      have F4 := F3.setB (o := 0) B3 (by decide) (.slice p3 n3 c3)
      have d4 := d3.set (p := ⟨w1.heap.size, 0, none⟩) (Nat.le_of_lt hRl) (.slice p3 n3 c3)
      obtain ⟨W5, HW5⟩ : ∃ W5, Hid (W5 = w3.setCell ⟨w1.heap.size, 0, none⟩ (.slice p3 n3 c3)) := ⟨_, rfl⟩
      rw [← HW5.out] at B4 R4 S4 F4 d4
      clear p0 bl z0 B3 R3 S3 F3 d3
      try rw [← HW5.out]
      have q0 := B4.cell (i := 0) rfl
      have q1 := B4.cell (i := 1) rfl
      have bl := B4.lt
      have u0 := R4.cell (i := 0) rfl
      have u1 := R4.cell (i := 1) rfl
      have z0 := R4.frozen 0
      have z1 := R4.frozen 1
      have rl := R4.lt
      go_wp2_with fail
      have RR4 : Blk ((W5.setCell ⟨w.heap.size, 0, none⟩ (.slice p3 n3 c3)).setCell ⟨w.heap.size, 1, none⟩ (.slice pf nf cf)) w.heap.size #[.slice p3 n3 c3, .slice pf nf cf] 27 := (R4.set 0 (.slice p3 n3 c3)).set 1 (.slice pf nf cf)
      have RR3 := R4.set 0 (.slice p3 n3 c3)
      have dd4 := (d4.set (p := ⟨w.heap.size, 0, none⟩) (Nat.le_refl _) (.slice p3 n3 c3)).set (p := ⟨w.heap.size, 1, none⟩) (Nat.le_refl _) (.slice pf nf cf)
      exact bodyPost_ret (v := .agg #[.slice p3 n3 c3, .slice pf nf cf]) (resultB Tryz.results77 RR4 ⟨_, _, _, rfl⟩ ⟨_, _, _, rfl⟩ _ rfl) rfl ⟨_, _, (us ++ [x]), fs, rfl, (S4.setB R4 (by decide) _).setB RR3 (by decide) _, (F4.setB R4 (by decide) _).setB RR3 (by decide) _, by first | omega | (rw [List.length_append]; simp; omega), by first | omega | (rw [List.length_append]; simp; omega) | simp, dd4.mono (by omega)⟩
  · clear r0 r1
    have p1 := B.cell (i := 1) rfl
    have bl := B.lt
    have dD := d1.drew
    have hneWr : some wr.heap.size ≠ some w0.heap.size := by simp; omega
    have hneWr1 : some (wr.heap.size + 1) ≠ some w0.heap.size := by simp; omega
    go_upto_region 6 with fail
    go_region_law (first
      | (refine step_pushF rfl (.tmp 21) (.tmp 29) rfl wb.heap.size ⟨xa, 0, xb⟩ w.heap.size _ fs (by simp [Act.eval]; done) (Fb.alloc _) (by simp [Act.eval]; done) (Blk.new wb (K3.v ⟨xa, 0, xb⟩) 118) (by omega) (by have := db.gr.size; rw [size_new]; omega) ?_; intro v3 w3 F3 g3; obtain ⟨p3, c3, n3, rfl⟩ := F3.frm; have B3 := (Bb.alloc (.cells (K3.v ⟨xa, 0, xb⟩) 118)).grown g3 (Fb.ne Bb (by decide)); have R3 := (Rb.alloc (.cells (K3.v ⟨xa, 0, xb⟩) 118)).grown g3 (Fb.ne Rb (by decide)); have S3 := (Sb.alloc (.cells (K3.v ⟨xa, 0, xb⟩) 118)).apart (Fb.alloc (.cells (K3.v ⟨xa, 0, xb⟩) 118)) g3; have d3 := (db.alloc (.cells (K3.v ⟨xa, 0, xb⟩) 118)).push g3 (fun q hq => (Fb.lt q hq).1); have p1 := B3.cell (i := 1) rfl; have z1 := B3.frozen 1; have bl := B3.lt)
      | (refine step_call rfl 66 #[.pointer (some ⟨w0.heap.size, 0, none⟩), .slice (some ⟨wr.heap.size, 0, none⟩) 2 2] (by first | kernel_rfl | (simp [execOp, resolve, invoke, Act.eval, go_sem]; done)) _ (pickR PAny cx da La2 hneWr (by omega) (by omega) (by omega) (by simp [IntRow, PAny]) (by rfl)) ?_; rintro e wb ⟨xb, rfl, _, db, gb⟩; refine ⟨_, rfl, ?_⟩; have Rb := Ra.grown gb hneR; have Bb := Ba.grown gb hneB; have Sb := Sa.drawn gb hlt; have Fb := Fa.drawn gb hlt; have p1 := Bb.cell (i := 1) rfl; have bl := Bb.lt)
      | (refine step_call rfl 66 #[.pointer (some ⟨w0.heap.size, 0, none⟩), .slice (some ⟨wr.heap.size + 1, 0, none⟩) 2 2] (by first | kernel_rfl | (simp [execOp, resolve, invoke, Act.eval, go_sem]; done)) _ (pickR PAny cx da La3 hneWr1 (by omega) (by omega) (by omega) (by simp [IntRow, PAny]) (by rfl)) ?_; rintro e wb ⟨xb, rfl, _, db, gb⟩; refine ⟨_, rfl, ?_⟩; have Rb := Ra.grown gb hneR; have Bb := Ba.grown gb hneB; have Sb := Sa.drawn gb hlt; have Fb := Fa.drawn gb hlt; have p1 := Bb.cell (i := 1) rfl; have bl := Bb.lt)
      | (refine step_call rfl 66 #[.pointer (some ⟨w0.heap.size, 0, none⟩), .slice (some ⟨wa.heap.size, 0, none⟩) 2 2] (by first | kernel_rfl | (simp [execOp, resolve, invoke, Act.eval, go_sem]; done)) _ (pickD PAny cx rfl da (by omega) (by omega) (by omega) (by simp [IntRow, PAny]) (by rfl)) ?_; rintro e wb ⟨xb, rfl, _, db, gb⟩; refine ⟨_, rfl, ?_⟩; have Rb := Ra.grown gb hneR; have Bb := Ba.grown gb hneB; have Sb := Sa.drawn gb hlt; have Fb := Fa.drawn gb hlt; have p1 := Bb.cell (i := 1) rfl; have bl := Bb.lt)
      | (refine step_call rfl 66 #[.pointer (some ⟨w0.heap.size, 0, none⟩), .slice (some ⟨wr.heap.size, 0, none⟩) 2 2] (by first | kernel_rfl | (simp [execOp, resolve, invoke, Act.eval, go_sem]; done)) _ (pickR PAny cx ((dD.alloc (.cells #[.int .i64 1, .int .i64 12] 2)).alloc (.cells #[.int .i64 5, .int .i64 10001] 2)) ((Blk.new wr.drew #[.int .i64 1, .int .i64 12] 2).alloc (.cells #[.int .i64 5, .int .i64 10001] 2)) hneWr (by omega) (by omega) (by omega) (by simp [IntRow, PAny]) (by rfl)) ?_; rintro e wa ⟨xa, rfl, _, da, ga⟩; refine ⟨_, rfl, ?_⟩; have Ra := ((R.drew.alloc (.cells #[.int .i64 1, .int .i64 12] 2)).alloc (.cells #[.int .i64 5, .int .i64 10001] 2)).grown ga hneR; have Ba := ((B.drew.alloc (.cells #[.int .i64 1, .int .i64 12] 2)).alloc (.cells #[.int .i64 5, .int .i64 10001] 2)).grown ga hneB; have Sa := (((show SlU wr.drew w.heap.size _ us from S).alloc (.cells #[.int .i64 1, .int .i64 12] 2)).alloc (.cells #[.int .i64 5, .int .i64 10001] 2)).drawn ga hlt; have Fa := (((show SlF wr.drew w.heap.size _ fs from F).alloc (.cells #[.int .i64 1, .int .i64 12] 2)).alloc (.cells #[.int .i64 5, .int .i64 10001] 2)).drawn ga hlt; have p1 := Ba.cell (i := 1) rfl; have bl := Ba.lt; have La3 : Blk wa (wr.heap.size + 1) #[.int .i64 5, .int .i64 10001] 2 := (show Blk _ (wr.heap.size + 1) _ _ from (size_new wr.drew (.cells #[.int .i64 1, .int .i64 12] 2) ▸ Blk.new (wr.drew.alloc (.cells #[.int .i64 1, .int .i64 12] 2)) #[.int .i64 5, .int .i64 10001] 2)).grown ga hneWr1)
      | (refine step_call rfl 66 #[.pointer (some ⟨w0.heap.size, 0, none⟩), .slice (some ⟨wr.heap.size + 1, 0, none⟩) 2 2] (by first | kernel_rfl | (simp [execOp, resolve, invoke, Act.eval, go_sem]; done)) _ (pickD PAny cx (size_new wr.drew (.cells #[.int .i64 5, .int .i64 10001] 2)) (dD.alloc (.cells #[.int .i64 5, .int .i64 10001] 2)) (by omega) (by omega) (by omega) (by simp [IntRow, PAny]) (by rfl)) ?_; rintro e wa ⟨xa, rfl, _, da, ga⟩; refine ⟨_, rfl, ?_⟩; have Ra := (R.drew.alloc (.cells #[.int .i64 5, .int .i64 10001] 2)).grown ga hneR; have Ba := (B.drew.alloc (.cells #[.int .i64 5, .int .i64 10001] 2)).grown ga hneB; have Sa := ((show SlU wr.drew w.heap.size _ us from S).alloc (.cells #[.int .i64 5, .int .i64 10001] 2)).drawn ga hlt; have Fa := ((show SlF wr.drew w.heap.size _ fs from F).alloc (.cells #[.int .i64 5, .int .i64 10001] 2)).drawn ga hlt; have p1 := Ba.cell (i := 1) rfl; have bl := Ba.lt; have La2 : Blk wa wr.heap.size #[.int .i64 5, .int .i64 10001] 2 := (Blk.new wr.drew #[.int .i64 5, .int .i64 10001] 2).grown ga hneWr)
      | (refine step_call rfl 66 #[.pointer (some ⟨w0.heap.size, 0, none⟩), .slice (some ⟨wr.heap.size, 0, none⟩) 2 2] (by first | kernel_rfl | (simp [execOp, resolve, invoke, Act.eval, go_sem]; done)) _ (pickD PAny cx rfl dD (by omega) (by omega) (by omega) (by simp [IntRow, PAny]) (by rfl)) ?_; rintro e wa ⟨xa, rfl, _, da, ga⟩; refine ⟨_, rfl, ?_⟩; have Ra := R.drew.grown ga hneR; have Ba := B.drew.grown ga hneB; have Sa := (show SlU wr.drew w.heap.size _ us from S).drawn ga hlt; have Fa := (show SlF wr.drew w.heap.size _ fs from F).drawn ga hlt; have p1 := Ba.cell (i := 1) rfl; have bl := Ba.lt))
    all_goals
      have B4 : Blk (w3.setCell ⟨w1.heap.size, 1, none⟩ (.slice p3 n3 c3)) w1.heap.size #[.slice pv nv cv, .slice p3 n3 c3] 27 := B3.set 1 (.slice p3 n3 c3)
      have R4 := R3.setOther (a := ⟨w1.heap.size, 1, none⟩) hRB (.slice p3 n3 c3)
      have S4 := S3.setB (o := 1) B3 (by decide) (.slice p3 n3 c3)
      have F4 := F3.setB (o := 1) B3 (by decide) (.slice p3 n3 c3)
      have d4 := d3.set (p := ⟨w1.heap.size, 1, none⟩) (Nat.le_of_lt hRl) (.slice p3 n3 c3)
      obtain ⟨W5, HW5⟩ : ∃ W5, Hid (W5 = w3.setCell ⟨w1.heap.size, 1, none⟩ (.slice p3 n3 c3)) := ⟨_, rfl⟩
      rw [← HW5.out] at B4 R4 S4 F4 d4
      clear p1 bl z1 B3 R3 S3 F3 d3
      try rw [← HW5.out]
      have q0 := B4.cell (i := 0) rfl
      have q1 := B4.cell (i := 1) rfl
      have bl := B4.lt
      have u0 := R4.cell (i := 0) rfl
      have u1 := R4.cell (i := 1) rfl
      have z0 := R4.frozen 0
      have z1 := R4.frozen 1
      have rl := R4.lt
      go_wp2_with fail
      have RR4 : Blk ((W5.setCell ⟨w.heap.size, 0, none⟩ (.slice pv nv cv)).setCell ⟨w.heap.size, 1, none⟩ (.slice p3 n3 c3)) w.heap.size #[.slice pv nv cv, .slice p3 n3 c3] 27 := (R4.set 0 (.slice pv nv cv)).set 1 (.slice p3 n3 c3)
      have RR3 := R4.set 0 (.slice pv nv cv)
      have dd4 := (d4.set (p := ⟨w.heap.size, 0, none⟩) (Nat.le_refl _) (.slice pv nv cv)).set (p := ⟨w.heap.size, 1, none⟩) (Nat.le_refl _) (.slice p3 n3 c3)
      exact bodyPost_ret (v := .agg #[.slice pv nv cv, .slice p3 n3 c3]) (resultB Tryz.results77 RR4 ⟨_, _, _, rfl⟩ ⟨_, _, _, rfl⟩ _ rfl) rfl ⟨_, _, us, (fs ++ [⟨xa, 0, xb⟩]), rfl, (S4.setB R4 (by decide) _).setB RR3 (by decide) _, (F4.setB R4 (by decide) _).setB RR3 (by decide) _, by first | omega | (rw [List.length_append]; simp; omega), by first | omega | (rw [List.length_append]; simp; omega) | simp, dd4.mono (by omega)⟩
  · clear r0 r1
    have p1 := B.cell (i := 1) rfl
    have z1 := B.frozen 1
    have bl := B.lt
    obtain ⟨W4, HW4⟩ : ∃ W4, Hid (W4 = wr.setCell ⟨w1.heap.size, 1, none⟩ (.slice (some ⟨wr.heap.size, 0, none⟩) 5 5)) := ⟨_, rfl⟩
    have hs4 : W4.heap.size = wr.heap.size := by rw [HW4.out]; simp [World.setCell]
    have B3 : Blk W4 w1.heap.size #[.slice pv nv cv, (.slice (some ⟨wr.heap.size, 0, none⟩) 5 5)] 27 := by rw [HW4.out]; exact B.set 1 (.slice (some ⟨wr.heap.size, 0, none⟩) 5 5)
    have R3 : Blk W4 w.heap.size #[.slice none 0 0, .slice none 0 0] 27 := by rw [HW4.out]; exact R.setOther (a := ⟨w1.heap.size, 1, none⟩) hRB (.slice (some ⟨wr.heap.size, 0, none⟩) 5 5)
    have S3 : SlU W4 w.heap.size (.slice pv nv cv) us := by rw [HW4.out]; exact S.setB (o := 1) B (by decide) (.slice (some ⟨wr.heap.size, 0, none⟩) 5 5)
    have d3 : Dn w0 w W4 a len cap (n + 100 + 1) := by rw [HW4.out]; exact d1.set (p := ⟨w1.heap.size, 1, none⟩) (Nat.le_of_lt hRl) (.slice (some ⟨wr.heap.size, 0, none⟩) 5 5)
    have F4 : SlF (W4.alloc (.cells (madeCells K3.z.v 15) 118)) w.heap.size (.slice (some ⟨wr.heap.size, 0, none⟩) 5 5) [K3.z, K3.z, K3.z, K3.z, K3.z] := by rw [← hs4]; exact five_new d3.gr.size
    have B4 := B3.alloc (.cells (madeCells K3.z.v 15) 118)
    have R4 := R3.alloc (.cells (madeCells K3.z.v 15) 118)
    have S4 := S3.alloc (.cells (madeCells K3.z.v 15) 118)
    have d4 := d3.alloc (.cells (madeCells K3.z.v 15) 118)
    obtain ⟨W5, HW5⟩ : ∃ W5, Hid (W5 = (wr.setCell ⟨w1.heap.size, 1, none⟩ (.slice (some ⟨wr.heap.size, 0, none⟩) 5 5)).alloc (.cells (madeCells K3.z.v 15) 118)) := ⟨_, rfl⟩
    have hW5 : W4.alloc (.cells (madeCells K3.z.v 15) 118) = W5 := by rw [HW5.out, HW4.out]
    rw [hW5] at B4 R4 S4 F4 d4
    clear hW5
    go_upto_region 14 with fail
    rw [← HW5.out]
    clear p1 bl z1 B3 R3 S3 d3 hs4
    have q0 := B4.cell (i := 0) rfl
    have q1 := B4.cell (i := 1) rfl
    have bl := B4.lt
    have u0 := R4.cell (i := 0) rfl
    have u1 := R4.cell (i := 1) rfl
    have z0 := R4.frozen 0
    have z1 := R4.frozen 1
    have rl := R4.lt
    go_wp2_with fail
    have RR4 : Blk ((W5.setCell ⟨w.heap.size, 0, none⟩ (.slice pv nv cv)).setCell ⟨w.heap.size, 1, none⟩ (.slice (some ⟨wr.heap.size, 0, none⟩) 5 5)) w.heap.size #[.slice pv nv cv, .slice (some ⟨wr.heap.size, 0, none⟩) 5 5] 27 := (R4.set 0 (.slice pv nv cv)).set 1 (.slice (some ⟨wr.heap.size, 0, none⟩) 5 5)
    have RR3 := R4.set 0 (.slice pv nv cv)
    have dd4 := (d4.set (p := ⟨w.heap.size, 0, none⟩) (Nat.le_refl _) (.slice pv nv cv)).set (p := ⟨w.heap.size, 1, none⟩) (Nat.le_refl _) (.slice (some ⟨wr.heap.size, 0, none⟩) 5 5)
    exact bodyPost_ret (v := .agg #[.slice pv nv cv, .slice (some ⟨wr.heap.size, 0, none⟩) 5 5]) (resultB Tryz.results77 RR4 ⟨_, _, _, rfl⟩ ⟨_, _, _, rfl⟩ _ rfl) rfl ⟨_, _, us, [K3.z, K3.z, K3.z, K3.z, K3.z], rfl, (S4.setB R4 (by decide) _).setB RR3 (by decide) _, (F4.setB R4 (by decide) _).setB RR3 (by decide) _, by first | omega | (rw [List.length_append]; simp; omega), by first | omega | (rw [List.length_append]; simp; omega) | simp, dd4.mono (by omega)⟩
  · clear r0 r1
    obtain ⟨L0, HL0⟩ : ∃ L0, Hid (us.length = L0) := ⟨_, rfl⟩
    rw [HL0.out] at hus
    go_wp2_with fail
    go_loopw [4] (fun i wr => ∃ (j : Nat) (v : Value) (us : List K10), j + L0 ≤ 8 ∧ i = .int .i64 (20 + (j : Int)) ∧ Hid (us.length = L0 + j) ∧ Blk wr w.heap.size #[.slice none 0 0, .slice none 0 0] 27 ∧ Blk wr w1.heap.size #[v, .slice pf nf cf] 27 ∧ SlU wr w.heap.size v us ∧ SlF wr w.heap.size (.slice pf nf cf) fs ∧ Dn w0 w wr a len cap (n + 150 + 9 * j)) (fun i _ => 30 - (intOf i).toNat)
    case atStart => exact ⟨0, _, us, by omega, by go_num, HL0, R, B, S, F, d1.mono (by omega)⟩
    case round =>
      obtain ⟨j, v, us, hj, rfl, Hus, R, B, S, F, dr⟩ := hrel
      obtain ⟨pq, cq, hvq, _⟩ := S.form
      rw [Hus.out] at hvq
      subst hvq
      have p0 := B.cell (i := 0) rfl
      have bl := B.lt
      by_cases hj8 : L0 + j < 8
      · have hlt8 : ((L0 + j : Nat) : Int) < 8 := by omega
        have dD := dr.drew
        go_upto_region 13 with fail
        go_region_law (first
          | (refine step_pushU rfl (.tmp 45) (.tmp 49) rfl w2.heap.size x w.heap.size _ us (by simp [Act.eval]; done) (S2.alloc _) (by simp [Act.eval]; done) (Blk.new w2 x.v 113) (by have := Hus.out; omega) (by have := d2.gr.size; rw [size_new]; omega) ?_; intro v3 w3 S3 g3; obtain ⟨p3, c3, n3, rfl⟩ := S3.frm; have B3 := (B2.alloc (.cells x.v 113)).grown g3 (S2.ne B2 (by decide)); have R3 := (R2.alloc (.cells x.v 113)).grown g3 (S2.ne R2 (by decide)); have F3 := (F2.alloc (.cells x.v 113)).apart (S2.alloc (.cells x.v 113)) g3; have d3 := (d2.alloc (.cells x.v 113)).push g3 (fun q hq => (S2.lt q hq).1); have p0 := B3.cell (i := 0) rfl; have z0 := B3.frozen 0; have bl := B3.lt)
          | (refine step_call rfl 106 #[.pointer (some ⟨w0.heap.size, 0, none⟩), .int .i64 (20 + (j : Int))] (by first | kernel_rfl | (simp [execOp, resolve, invoke, Act.eval, go_sem]; done)) _ (l4DrawUnit_c cx dD.self _ (by omega) (by omega) (by omega)) ?_; rintro e w2 ⟨x, rfl, e2⟩; refine ⟨_, rfl, ?_⟩; have d2 := dD.trans e2; have R2 := R.drew.grown e2.gr hneR; have B2 := B.drew.grown e2.gr hneB; have S2 := SlU.drawn (w := wr.drew) S e2.gr hlt; have F2 := SlF.drawn (w := wr.drew) F e2.gr hlt; have p0 := B2.cell (i := 0) rfl; have bl := B2.lt))
        all_goals
          go_wp2_with fail
          go_roundw
          case rel =>
            have hB4 : Blk (w3.setCell ⟨w1.heap.size, 0, none⟩ (.slice p3 n3 c3)) w1.heap.size #[.slice p3 n3 c3, .slice pf nf cf] 27 := B3.set 0 (.slice p3 n3 c3)
            exact ⟨j + 1, _, us ++ [x], by omega, by go_num, by show _ = _; rw [List.length_append, Hus.out]; simp; omega, R3.setOther (a := ⟨w1.heap.size, 0, none⟩) hRB _, hB4, S3.setB B3 (by decide) _, F3.setB B3 (by decide) _, (d3.set (p := ⟨w1.heap.size, 0, none⟩) (Nat.le_of_lt hRl) _).mono (by omega)⟩
          case measure => simp [intOf]; omega
      · have hge8 : decide (((L0 + j : Nat) : Int) < 8) = false := decide_eq_false (by omega)
        have hul : us.length ≤ 8 := by have := Hus.out; omega
        have q0 := B.cell (i := 0) rfl
        have q1 := B.cell (i := 1) rfl
        have bl := B.lt
        have u0 := R.cell (i := 0) rfl
        have u1 := R.cell (i := 1) rfl
        have z0 := R.frozen 0
        have z1 := R.frozen 1
        have rl := R.lt
        go_wp2_with fail
        have RR4 : Blk ((wr.setCell ⟨w.heap.size, 0, none⟩ (.slice pq (L0 + j) cq)).setCell ⟨w.heap.size, 1, none⟩ (.slice pf nf cf)) w.heap.size #[.slice pq (L0 + j) cq, .slice pf nf cf] 27 := (R.set 0 (.slice pq (L0 + j) cq)).set 1 (.slice pf nf cf)
        have RR3 := R.set 0 (.slice pq (L0 + j) cq)
        have dd4 := (dr.set (p := ⟨w.heap.size, 0, none⟩) (Nat.le_refl _) (.slice pq (L0 + j) cq)).set (p := ⟨w.heap.size, 1, none⟩) (Nat.le_refl _) (.slice pf nf cf)
        exact bodyPost_ret (v := .agg #[.slice pq (L0 + j) cq, .slice pf nf cf]) (resultB Tryz.results77 RR4 ⟨_, _, _, rfl⟩ ⟨_, _, _, rfl⟩ _ rfl) rfl ⟨_, _, us, fs, rfl, (S.setB R (by decide) _).setB RR3 (by decide) _, (F.setB R (by decide) _).setB RR3 (by decide) _, by first | omega | (rw [List.length_append]; simp; omega), by first | omega | (rw [List.length_append]; simp; omega) | simp, dd4.mono (by omega)⟩
  · clear r0 r1
    have q0 := B.cell (i := 0) rfl
    have q1 := B.cell (i := 1) rfl
    have bl := B.lt
    have u0 := R.cell (i := 0) rfl
    have u1 := R.cell (i := 1) rfl
    have z0 := R.frozen 0
    have z1 := R.frozen 1
    have rl := R.lt
    go_wp2_with fail
    have RR4 : Blk ((wr.setCell ⟨w.heap.size, 0, none⟩ (.slice pv nv cv)).setCell ⟨w.heap.size, 1, none⟩ (.slice pf nf cf)) w.heap.size #[.slice pv nv cv, .slice pf nf cf] 27 := (R.set 0 (.slice pv nv cv)).set 1 (.slice pf nf cf)
    have RR3 := R.set 0 (.slice pv nv cv)
    have dd4 := (d1.set (p := ⟨w.heap.size, 0, none⟩) (Nat.le_refl _) (.slice pv nv cv)).set (p := ⟨w.heap.size, 1, none⟩) (Nat.le_refl _) (.slice pf nf cf)
    exact bodyPost_ret (v := .agg #[.slice pv nv cv, .slice pf nf cf]) (resultB Tryz.results77 RR4 ⟨_, _, _, rfl⟩ ⟨_, _, _, rfl⟩ _ rfl) rfl ⟨_, _, us, fs, rfl, (S.setB R (by decide) _).setB RR3 (by decide) _, (F.setB R (by decide) _).setB RR3 (by decide) _, by first | omega | (rw [List.length_append]; simp; omega), by first | omega | (rw [List.length_append]; simp; omega) | simp, dd4.mono (by omega)⟩
end Go.Proofs.YtmfdggaijbcijaaGreat
end
