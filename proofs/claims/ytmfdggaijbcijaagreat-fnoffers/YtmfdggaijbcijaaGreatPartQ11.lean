/- Texts of mine put together (a claim holds at most 60 files): BrdDraws3. -/
import Derived.Test.YtmfdggaijbcijaaGreatPartQ09
import Derived.Deep.RegionLaw

/- BrdDraws3 -/
/- Contracts of the draws of a board: two lists of one's own, maybe nil, and nothing that was there turns but the source. Condition: the code has at most 1048576 bytes, which can be read. -/
section
namespace Go.Proofs.YtmfdggaijbcijaaGreat
open Go.ChangeShapes Go.WideShapes Go.ChangeAt Go.RowKit
set_option linter.unusedVariables false

/- a call of a Go function by its contract, as one step of a region that draws its order -/
theorem step_call {ops : Array Oper} {o : Oper} {a : Act} {W : World} {K : Act → World → Prop} {Q : Exit → Act → World → Prop} {E : Prop} (hgd : o.guard = none) (f : FuncId) (args : Array Value)
    (hrun : (execOp a.eval o).run Tryz.prog W = .ok (.enter f args) W) (post : Ending → World → Prop) (hc : Calls Tryz.prog f args W post) (h : ∀ e w', post e w' → ∃ v, e = .returned v ∧ K (a.put o.dst v) w') :
    if Region.wanted o (yielded ops a.tmps) = true then Oper.wp Tryz.prog o a W K Q else E := by
  have hw : Region.wanted o (yielded ops a.tmps) = true := by simp [Region.wanted, hgd]
  rw [if_pos hw]
  unfold Oper.wp
  rw [hrun, Oper.upon_enter]
  refine hc.mono fun e w' hp => ?_
  obtain ⟨v, rfl, hk⟩ := h e w' hp
  exact hk
theorem pickR (P : Int → Prop) {w0 w W : World} {l : List Value} {T : TypeId} {q m m' : Nat} {a : Option Addr} {len cap : Nat} {n : Int} (cx : Cx w0 a len) (d : Dn w0 w W a len cap n) (hL : Blk W q l.toArray T) (hq : some q ≠ some w0.heap.size)
    (hn : n ≤ 900000) (hm : 1 ≤ m) (hm2 : m ≤ 1000000) (hr : IntRow P l) (hlm : l.length = m) :
    Calls Tryz.prog 66 #[.pointer (some ⟨w0.heap.size, 0, none⟩), .slice (some ⟨q, 0, none⟩) m m'] W fun e w' => ∃ r : Int, e = .returned (.int .i64 r) ∧ P r ∧ Dn w0 w w' a len cap (n + 1) ∧ W.grownBy w' (some w0.heap.size) := by
  obtain ⟨t, h0, h1, s⟩ := d.st
  refine (pick P _ w0.heap.size q m m' a len cap t s.src (cx.hb.kept s.bel) cx.hl h0 (by omega) hm hm2 (fun e => hq (by rw [e])) ?_).mono ?_
  · intro i hi
    obtain ⟨x, hx, e⟩ := hr.at i (by omega)
    exact ⟨x, hx, hL.cell (by simpa using e)⟩
  · rintro e w' ⟨r, rfl, hp, hs, hg⟩
    exact ⟨r, rfl, hp, ⟨d.lt, ⟨t + 1, by omega, by omega, ⟨hs, s.bel.trans (grown_below hg (Nat.le_of_lt s.src.lt))⟩⟩, grown_trans d.gr hg⟩, hg⟩
set_option maxRecDepth 20000 in
set_option maxHeartbeats 8000000 in
theorem l4Draw_c {w0 w : World} {a : Option Addr} {len cap : Nat} {n : Int} (cx : Cx w0 a len) (d : Dn w0 w w a len cap n) (hn : n ≤ 600000) :
    Calls Tryz.prog 103 #[.pointer (some ⟨w0.heap.size, 0, none⟩)] w fun e w' => ∃ v f us fs, e = .returned (.agg #[v, f]) ∧ SlU w' w.heap.size v us ∧ SlF w' w.heap.size f fs ∧ us.length ≤ 6 ∧ fs.length ≤ 3 ∧ Dn w0 w w' a len cap (n + 100) := by
  have hlt := d.lt
  have R0 := (Blk.new w #[.slice none 0 0, .slice none 0 0] 27).alloc (.cells #[.slice none 0 0, .slice none 0 0] 27)
  have B0 := Blk.new (w.alloc (.cells #[.slice none 0 0, .slice none 0 0] 27)) #[.slice none 0 0, .slice none 0 0] 27
  rw [size_new] at B0
  have d0 := (d.alloc (.cells #[.slice none 0 0, .slice none 0 0] 27)).alloc (.cells #[.slice none 0 0, .slice none 0 0] 27)
  have hneR : some w.heap.size ≠ some w0.heap.size := by simp; omega
  have hneB : some (w.heap.size + 1) ≠ some w0.heap.size := by simp; omega
  have hRB : w.heap.size ≠ w.heap.size + 1 := by omega
  go_enter Tryz.func103, Tryz.ntmps103
  go_wp2_with fail
  go_loopw [4] (fun i wr => ∃ (k : Nat) (v : Value) (us : List K10), k ≤ 6 ∧ i = .int .i64 ((k : Int) + 1) ∧ Blk wr w.heap.size #[.slice none 0 0, .slice none 0 0] 27 ∧ Blk wr (w.heap.size + 1) #[v, .slice none 0 0] 27 ∧ SlU wr w.heap.size v us ∧ us.length ≤ k ∧ Dn w0 w wr a len cap (n + 9 * k)) (fun i _ => 7 - (intOf i).toNat)
  case atStart => exact ⟨0, _, [], by omega, by go_num, R0, B0, SlU.none _ _, Nat.zero_le _, d0.mono (by omega)⟩
  case round =>
    obtain ⟨k, v, us, hk, rfl, R, B, S, hus, dr⟩ := hrel
    clear R0 B0 d0
    by_cases hk6 : k < 6
    · have hle : (k : Int) + 1 ≤ 6 := by omega
      go_wp2_with fail
      refine (chanceD cx dr 4 (by omega) (by omega) (by omega)).mono ?_
      rintro e w1 ⟨r, rfl, d1, g1⟩
      replace R := R.grown g1 hneR
      replace B := B.grown g1 hneB
      replace S := S.drawn g1 hlt
      clear dr g1
      cases r with
      | true =>
        go_wp2_with fail
        go_roundw
        case rel => exact ⟨k + 1, v, us, by omega, by go_num, R, B, S, by omega, d1.mono (by omega)⟩
        case measure => simp [intOf]; omega
      | false =>
        have p0 := B.cell (i := 0) rfl
        have bl := B.lt
        have dD := d1.drew
        obtain ⟨pv, cv, nv, rfl⟩ := S.frm
        go_upto_region 6 with fail
        go_region_law (first
          | (refine step_pushU rfl (.tmp 15) (.tmp 19) rfl w2.heap.size x w.heap.size _ us (by simp [Act.eval]; done) (S2.alloc _) (by simp [Act.eval]; done) (Blk.new w2 x.v 113) (by omega) (by have := d2.gr.size; rw [size_new]; omega) ?_; intro v3 w3 S3 g3; obtain ⟨p3, c3, n3, rfl⟩ := S3.frm; have B3 := (B2.alloc (.cells x.v 113)).grown g3 (S2.ne B2 (by decide)); have R3 := (R2.alloc (.cells x.v 113)).grown g3 (S2.ne R2 (by decide)); have d3 := (d2.alloc (.cells x.v 113)).push g3 (fun q hq => (S2.lt q hq).1); have p0 := B3.cell (i := 0) rfl; have z0 := B3.frozen 0; have bl := B3.lt)
          | (refine step_call rfl 106 #[.pointer (some ⟨w0.heap.size, 0, none⟩), .int .i64 ((k : Int) + 1)] (by first | kernel_rfl | (simp [execOp, resolve, invoke, Act.eval, go_sem]; done)) _ (l4DrawUnit_c cx dD.self _ (by omega) (by omega) (by omega)) ?_; rintro e w2 ⟨x, rfl, e2⟩; refine ⟨_, rfl, ?_⟩; have d2 := dD.trans e2; have R2 := R.drew.grown e2.gr hneR; have B2 := B.drew.grown e2.gr hneB; have S2 := SlU.drawn (w := w1.drew) S e2.gr hlt; have p0 := B2.cell (i := 0) rfl; have bl := B2.lt))
        all_goals
          go_wp2_with fail
          go_roundw
          case rel =>
            have hB4 : Blk (w3.setCell ⟨w.heap.size + 1, 0, none⟩ (.slice p3 n3 c3)) (w.heap.size + 1) #[.slice p3 n3 c3, .slice none 0 0] 27 := B3.set 0 (.slice p3 n3 c3)
            exact ⟨k + 1, _, us ++ [x], by omega, by go_num, R3.setOther (a := ⟨w.heap.size + 1, 0, none⟩) hRB _, hB4, S3.setB B3 (by decide) _, by rw [List.length_append]; simp; omega, (d3.set (p := ⟨w.heap.size + 1, 0, none⟩) (by show w.heap.size ≤ w.heap.size + 1; omega) _).mono (by omega)⟩
          case measure => simp [intOf]; omega
    · obtain rfl : k = 6 := by omega
      obtain ⟨pv, cv, nv, rfl⟩ := S.frm
      go_wp2_with fail
      refine (drawsD cx dr 4 (by omega) (by omega) (by omega)).mono ?_
      rintro e w1 ⟨r, rfl, r0, r1, d1, g1⟩
      replace R := R.grown g1 hneR
      replace B := B.grown g1 hneB
      replace S := S.drawn g1 hlt
      clear dr g1
      obtain ⟨kf, rfl⟩ : ∃ kf : Nat, r = (kf : Int) := ⟨r.toNat, by omega⟩
      go_wp2_with fail
      go_loopw [5] (fun i wr => ∃ (j : Nat) (f : Value) (fs : List K3), j ≤ 3 ∧ i = .int .i64 (j : Int) ∧ Blk wr w.heap.size #[.slice none 0 0, .slice none 0 0] 27 ∧ Blk wr (w.heap.size + 1) #[.slice pv nv cv, f] 27 ∧ SlU wr w.heap.size (.slice pv nv cv) us ∧ SlF wr w.heap.size f fs ∧ fs.length + j ≤ 3 ∧ Dn w0 w wr a len cap (n + 70 - 5 * j)) (fun i _ => (intOf i).toNat)
      case atStart => exact ⟨kf, _, [], by omega, rfl, R, B, S, SlF.none _ _, by simp; omega, d1.mono (by omega)⟩
      case round =>
        obtain ⟨j, f, fs, hj, rfl, R, B, S, F, hfs, dr⟩ := hrel
        by_cases hj0 : 0 < j
        · have hgt : (0 : Int) < (j : Int) := by omega
          obtain ⟨pf, cf, nf, rfl⟩ := F.frm
          have p1 := B.cell (i := 1) rfl
          have bl := B.lt
          have dD := dr.drew
          have hneWr : some wr.heap.size ≠ some w0.heap.size := by have := dr.le; simp; omega
          go_upto_region 10 with fail
          go_region_law (first
            | (refine step_pushF rfl (.tmp 29) (.tmp 38) rfl wc.heap.size ⟨xa, xb, xc⟩ w.heap.size _ fs (by simp [Act.eval]; done) (Fc.alloc _) (by simp [Act.eval]; done) (Blk.new wc (K3.v ⟨xa, xb, xc⟩) 118) (by omega) (by have := dc.gr.size; rw [size_new]; omega) ?_; intro v3 w3 F3 g3; obtain ⟨p3, c3, n3, rfl⟩ := F3.frm; have B3 := (Bc.alloc (.cells (K3.v ⟨xa, xb, xc⟩) 118)).grown g3 (Fc.ne Bc (by decide)); have R3 := (Rc.alloc (.cells (K3.v ⟨xa, xb, xc⟩) 118)).grown g3 (Fc.ne Rc (by decide)); have S3 := (Sc.alloc (.cells (K3.v ⟨xa, xb, xc⟩) 118)).apart (Fc.alloc (.cells (K3.v ⟨xa, xb, xc⟩) 118)) g3; have d3 := (dc.alloc (.cells (K3.v ⟨xa, xb, xc⟩) 118)).push g3 (fun q hq => (Fc.lt q hq).1); have p1 := B3.cell (i := 1) rfl; have z1 := B3.frozen 1; have bl := B3.lt)
            | (refine step_call rfl 66 #[.pointer (some ⟨w0.heap.size, 0, none⟩), .slice (some ⟨wr.heap.size, 0, none⟩) 4 4] (by first | kernel_rfl | (simp [execOp, resolve, invoke, Act.eval, go_sem]; done)) _ (pickR PAny cx db Lb hneWr (by omega) (by omega) (by omega) (by simp [IntRow, PAny]) (by rfl)) ?_; rintro e wc ⟨xc, rfl, _, dc, gc⟩; refine ⟨_, rfl, ?_⟩; have Rc := Rb.grown gc hneR; have Bc := Bb.grown gc hneB; have Sc := Sb.drawn gc hlt; have Fc := Fb.drawn gc hlt; have p1 := Bc.cell (i := 1) rfl; have bl := Bc.lt)
            | (refine step_call rfl 66 #[.pointer (some ⟨w0.heap.size, 0, none⟩), .slice (some ⟨wa.heap.size, 0, none⟩) 4 4] (by first | kernel_rfl | (simp [execOp, resolve, invoke, Act.eval, go_sem]; done)) _ (pickR PAny cx db Lb hneWa (by omega) (by omega) (by omega) (by simp [IntRow, PAny]) (by rfl)) ?_; rintro e wc ⟨xc, rfl, _, dc, gc⟩; refine ⟨_, rfl, ?_⟩; have Rc := Rb.grown gc hneR; have Bc := Bb.grown gc hneB; have Sc := Sb.drawn gc hlt; have Fc := Fb.drawn gc hlt; have p1 := Bc.cell (i := 1) rfl; have bl := Bc.lt)
            | (refine step_call rfl 66 #[.pointer (some ⟨w0.heap.size, 0, none⟩), .slice (some ⟨wb.heap.size, 0, none⟩) 4 4] (by first | kernel_rfl | (simp [execOp, resolve, invoke, Act.eval, go_sem]; done)) _ (pickD PAny cx rfl db (by omega) (by omega) (by omega) (by simp [IntRow, PAny]) (by rfl)) ?_; rintro e wc ⟨xc, rfl, _, dc, gc⟩; refine ⟨_, rfl, ?_⟩; have Rc := Rb.grown gc hneR; have Bc := Bb.grown gc hneB; have Sc := Sb.drawn gc hlt; have Fc := Fb.drawn gc hlt; have p1 := Bc.cell (i := 1) rfl; have bl := Bc.lt)
            | (refine step_call rfl 121 #[.pointer (some ⟨w0.heap.size, 0, none⟩)] (by first | kernel_rfl | (simp [execOp, resolve, invoke, Act.eval, go_sem]; done)) _ (tileD cx da (by omega)) ?_; rintro e wb ⟨xb, rfl, _, db, gb⟩; refine ⟨_, rfl, ?_⟩; have Rb := Ra.grown gb hneR; have Bb := Ba.grown gb hneB; have Sb := Sa.drawn gb hlt; have Fb := Fa.drawn gb hlt; have p1 := Bb.cell (i := 1) rfl; have bl := Bb.lt; try (have Lb := La.grown gb hneWr))
            | (refine step_call rfl 121 #[.pointer (some ⟨w0.heap.size, 0, none⟩)] (by first | kernel_rfl | (simp [execOp, resolve, invoke, Act.eval, go_sem]; done)) _ (tileD cx (da.alloc (.cells #[.int .i64 0, .int .i64 3, .int .i64 100, .int .i64 10000] 2)) (by omega)) ?_; rintro e wb ⟨xb, rfl, _, db, gb⟩; refine ⟨_, rfl, ?_⟩; have Rb := (Ra.alloc (.cells #[.int .i64 0, .int .i64 3, .int .i64 100, .int .i64 10000] 2)).grown gb hneR; have Bb := (Ba.alloc (.cells #[.int .i64 0, .int .i64 3, .int .i64 100, .int .i64 10000] 2)).grown gb hneB; have Sb := (Sa.alloc (.cells #[.int .i64 0, .int .i64 3, .int .i64 100, .int .i64 10000] 2)).drawn gb hlt; have Fb := (Fa.alloc (.cells #[.int .i64 0, .int .i64 3, .int .i64 100, .int .i64 10000] 2)).drawn gb hlt; have p1 := Bb.cell (i := 1) rfl; have bl := Bb.lt; have hneWa : some wa.heap.size ≠ some w0.heap.size := (by have := da.le; simp; omega); have Lb := (Blk.new wa #[.int .i64 0, .int .i64 3, .int .i64 100, .int .i64 10000] 2).grown gb hneWa)
            | (refine step_call rfl 121 #[.pointer (some ⟨w0.heap.size, 0, none⟩)] (by first | kernel_rfl | (simp [execOp, resolve, invoke, Act.eval, go_sem]; done)) _ (tileD cx dD (by omega)) ?_; rintro e wa ⟨xa, rfl, _, da, ga⟩; refine ⟨_, rfl, ?_⟩; have Ra := R.drew.grown ga hneR; have Ba := B.drew.grown ga hneB; have Sa := (show SlU wr.drew w.heap.size _ us from S).drawn ga hlt; have Fa := (show SlF wr.drew w.heap.size _ fs from F).drawn ga hlt; have p1 := Ba.cell (i := 1) rfl; have bl := Ba.lt)
            | (refine step_call rfl 121 #[.pointer (some ⟨w0.heap.size, 0, none⟩)] (by first | kernel_rfl | (simp [execOp, resolve, invoke, Act.eval, go_sem]; done)) _ (tileD cx (dD.alloc (.cells #[.int .i64 0, .int .i64 3, .int .i64 100, .int .i64 10000] 2)) (by omega)) ?_; rintro e wa ⟨xa, rfl, _, da, ga⟩; refine ⟨_, rfl, ?_⟩; have Ra := (R.drew.alloc (.cells #[.int .i64 0, .int .i64 3, .int .i64 100, .int .i64 10000] 2)).grown ga hneR; have Ba := (B.drew.alloc (.cells #[.int .i64 0, .int .i64 3, .int .i64 100, .int .i64 10000] 2)).grown ga hneB; have Sa := ((show SlU wr.drew w.heap.size _ us from S).alloc (.cells #[.int .i64 0, .int .i64 3, .int .i64 100, .int .i64 10000] 2)).drawn ga hlt; have Fa := ((show SlF wr.drew w.heap.size _ fs from F).alloc (.cells #[.int .i64 0, .int .i64 3, .int .i64 100, .int .i64 10000] 2)).drawn ga hlt; have p1 := Ba.cell (i := 1) rfl; have bl := Ba.lt; have La : Blk wa wr.heap.size #[.int .i64 0, .int .i64 3, .int .i64 100, .int .i64 10000] 2 := (Blk.new wr.drew #[.int .i64 0, .int .i64 3, .int .i64 100, .int .i64 10000] 2).grown ga hneWr))
          all_goals
            go_wp2_with fail
            go_roundw
            case rel =>
              have hB4 : Blk (w3.setCell ⟨w.heap.size + 1, 1, none⟩ (.slice p3 n3 c3)) (w.heap.size + 1) #[.slice pv nv cv, .slice p3 n3 c3] 27 := B3.set 1 (.slice p3 n3 c3)
              exact ⟨j - 1, _, fs ++ [⟨xa, xb, xc⟩], by omega, by rw [show (((j - 1 : Nat) : Int)) = (j : Int) - 1 from by omega], R3.setOther (a := ⟨w.heap.size + 1, 1, none⟩) hRB _, hB4, S3.setB B3 (by decide) _, F3.setB B3 (by decide) _, by rw [List.length_append]; simp; omega, (d3.set (p := ⟨w.heap.size + 1, 1, none⟩) (by show w.heap.size ≤ w.heap.size + 1; omega) _).mono (by omega)⟩
            case measure => simp [intOf]; omega
        · obtain rfl : j = 0 := by omega
          obtain ⟨pf, cf, nf, rfl⟩ := F.frm
          have q0 := B.cell (i := 0) rfl
          have q1 := B.cell (i := 1) rfl
          have bl := B.lt
          have u0 := R.cell (i := 0) rfl
          have u1 := R.cell (i := 1) rfl
          have z0 := R.frozen 0
          have z1 := R.frozen 1
          have rl := R.lt
          go_wp2_with fail
          have R4 : Blk ((wr.setCell ⟨w.heap.size, 0, none⟩ (.slice pv nv cv)).setCell ⟨w.heap.size, 1, none⟩ (.slice pf nf cf)) w.heap.size #[.slice pv nv cv, .slice pf nf cf] 27 := (R.set 0 (.slice pv nv cv)).set 1 (.slice pf nf cf)
          have R3 := R.set 0 (.slice pv nv cv)
          have d4 := (dr.set (p := ⟨w.heap.size, 0, none⟩) (Nat.le_refl _) (.slice pv nv cv)).set (p := ⟨w.heap.size, 1, none⟩) (Nat.le_refl _) (.slice pf nf cf)
          exact bodyPost_ret (v := .agg #[.slice pv nv cv, .slice pf nf cf]) (resultB Tryz.results103 R4 ⟨_, _, _, rfl⟩ ⟨_, _, _, rfl⟩ _ rfl) rfl ⟨_, _, us, fs, rfl, (S.setB R (by decide) _).setB R3 (by decide) _, (F.setB R (by decide) _).setB R3 (by decide) _, hus, by omega, d4.mono (by omega)⟩
end Go.Proofs.YtmfdggaijbcijaaGreat
end
