/- Texts of mine put together (a claim holds at most 60 files): WsImpl3. -/
import Derived.Test.YtmfdggaijbcijaaGreatPartQ26
import Derived.Test.YtmfdggaijbcijaaGreatPartQ30

/- WsImpl3 -/
/- The contract of result. Condition: the state lies in memory. -/
section
namespace Go.Proofs.YtmfdggaijbcijaaGreat
open Go.ChangeShapes Go.WideShapes Go.ChangeAt Go.RowKit
open Bd
set_option linter.unusedVariables false

abbrev v8 (c t s : Int) (u : Option Addr) (mu uc : Nat) (f : Option Addr) (mf fc : Nat) (a : Option Addr) (ma ac : Nat) (q : Option Addr) (ms qc : Nat) (r : Option Addr) (mo rc : Nat) : Array Value := #[.int .i64 c, .int .i64 t, .int .i64 s, .slice u mu uc, .slice f mf fc, .slice a ma ac, .slice q ms qc, .slice r mo rc]
theorem result8v {w : World} {p : Nat} {c t s : Int} {u f a q r : Option Addr} {mu uc mf fc ma ac ms qc mo rc : Nat} {fn : Func} {k : Nat} (hf : fn.results = #[.cell k 36]) (h : Blk w p (v8 c t s u mu uc f mf fc a ma ac q ms qc r mo rc) 36) (T : Array Value) (hT : T[k]?.getD undef = .pointer (some ⟨p, 0, none⟩)) :
    (results fn T).run Tryz.prog w = .ok (.agg (v8 c t s u mu uc f mf fc a ma ac q ms qc r mo rc)) w := by
  have c0 := h.cell (i := 0) rfl
  have c1 := h.cell (i := 1) rfl
  have c2 := h.cell (i := 2) rfl
  have c3 := h.cell (i := 3) rfl
  have c4 := h.cell (i := 4) rfl
  have c5 := h.cell (i := 5) rfl
  have c6 := h.cell (i := 6) rfl
  have c7 := h.cell (i := 7) rfl
  simp [results, hf, go_sem, hT, c0, c1, c2, c3, c4, c5, c6, c7]
set_option maxRecDepth 20000 in
set_option maxHeartbeats 16000000 in
theorem result_v (g : Nat) (t s : Int) (u : Option Addr) (mu uc : Nat) (f : Option Addr) (mf fc : Nat) (a : Option Addr) (ma ac : Nat) (q : Option Addr) (ms qc : Nat) (r : Option Addr) (mo rc : Nat) (w : World) (h : Blk w g #[.slice u mu uc, .slice f mf fc, .int .i64 t, .int .i64 s, .slice a ma ac, .slice q ms qc, .slice r mo rc] 66) :
    Calls Tryz.prog 37 #[.pointer (some ⟨g, 0, none⟩)] w fun e w' => e = .returned (.agg (v8 0 t s u mu uc f mf fc a ma ac q ms qc r mo rc)) ∧ Below w.heap.size w w' := by
  obtain ⟨W1, HW⟩ : ∃ W1, Hid (W1 = w.alloc (.cells z8 36)) := ⟨_, rfl⟩
  have B1 : Below w.heap.size w W1 := by rw [HW.out]; exact (Below.refl _ _).alloc (Nat.le_refl _) _
  have R : Blk W1 w.heap.size z8 36 := by rw [HW.out]; exact Blk.new w z8 36
  have G := h.below B1
  have HG : Hid (Blk W1 g _ _) := G
  have hgw : g ≠ w.heap.size := by have := h.lt; omega
  have gc0 := G.cell (i := 0) rfl
  have gc1 := G.cell (i := 1) rfl
  have gc2 := G.cell (i := 2) rfl
  have gc3 := G.cell (i := 3) rfl
  have gc4 := G.cell (i := 4) rfl
  have gc5 := G.cell (i := 5) rfl
  have gc6 := G.cell (i := 6) rfl
  have gl := G.lt
  obtain ⟨r0, r1, r2, r3, r4, r5, r6, r7, y0, y1, y2, y3, y4, y5, y6, y7, rl⟩ := R.z8
  have HR : Hid (Blk W1 w.heap.size z8 36) := R
  clear G h R
  go_enter Tryz.func37, Tryz.ntmps37
  go_upto_region 1 with fail
  rw [← HW.out]
  obtain ⟨VV, HVV⟩ : ∃ V : List Value, Hid (V = [.pointer (some ⟨g, 0, none⟩), .pointer (some ⟨g, 0, none⟩), .pointer (some ⟨g, 2, none⟩), .int .i64 t, .pointer (some ⟨g, 0, none⟩), .pointer (some ⟨g, 0, none⟩), .pointer (some ⟨g, 3, none⟩), .int .i64 s, .pointer (some ⟨g, 0, none⟩), .pointer (some ⟨g, 0, none⟩), .pointer (some ⟨g, 0, none⟩), .agg #[.slice u mu uc, .slice f mf fc], .pointer (some ⟨g, 0, none⟩), .pointer (some ⟨g, 0, none⟩), .pointer (some ⟨g, 4, none⟩), .slice a ma ac, .pointer (some ⟨g, 0, none⟩), .pointer (some ⟨g, 0, none⟩), .pointer (some ⟨g, 5, none⟩), .slice q ms qc, .pointer (some ⟨g, 0, none⟩), .pointer (some ⟨g, 0, none⟩), .pointer (some ⟨g, 6, none⟩), .slice r mo rc, .agg #[.int .i64 t, .int .i64 s, .slice u mu uc, .slice f mf fc, .slice a ma ac, .slice q ms qc, .slice r mo rc], .agg #[.int .i64 0, .int .i64 t, .int .i64 s, .slice u mu uc, .slice f mf fc, .slice a ma ac, .slice q ms qc, .slice r mo rc]]) := ⟨_, rfl⟩
  refine wp_region_slots (by kernel_rfl) 3 (fun d xs W => (∃ x3 x4 x5 x6 x7 x8 x9 x10 x11 x12 x13 x14 x15 x16 x17 x18 x19 x20 x21 x22 x23 x24 x25 x26 x27 x28 : Value, xs = [x3, x4, x5, x6, x7, x8, x9, x10, x11, x12, x13, x14, x15, x16, x17, x18, x19, x20, x21, x22, x23, x24, x25, x26, x27, x28] ∧ SlotsAt VV d xs) ∧ (d 26 = false → W = W1.drew) ∧ (d 26 = true → W = (set8 W1 w.heap.size (.int .i64 0) (.int .i64 t) (.int .i64 s) (.slice u mu uc) (.slice f mf fc) (.slice a ma ac) (.slice q ms qc) (.slice r mo rc)).drew)) (by kernel_rfl) [_, _, _, _, _, _, _, _, _, _, _, _, _, _, _, _, _, _, _, _, _, _, _, _, _, _] rfl ?_ ?_ ?_
  · exact ⟨⟨_, _, _, _, _, _, _, _, _, _, _, _, _, _, _, _, _, _, _, _, _, _, _, _, _, _, rfl, SlotsAt.start (by rw [HVV.out]; rfl)⟩, fun _ => rfl, fun h => by cases h⟩
  · rintro d xs W i K hi hd hdep hcl ⟨⟨x3, x4, x5, x6, x7, x8, x9, x10, x11, x12, x13, x14, x15, x16, x17, x18, x19, x20, x21, x22, x23, x24, x25, x26, x27, x28, rfl, J⟩, J1, J2⟩ hK
    have hi' : i < 27 := hi
    have hdp : ∀ j, (depsOf _ i).contains j = true → d j = true := fun j hj => hdep j (by simpa using hj)
    clear hi hdep
    have h18 : i = 0 ∨ i = 1 ∨ i = 2 ∨ i = 3 ∨ i = 4 ∨ i = 5 ∨ i = 6 ∨ i = 7 ∨ i = 8 ∨ i = 9 ∨ i = 10 ∨ i = 11 ∨ i = 12 ∨ i = 13 ∨ i = 14 ∨ i = 15 ∨ i = 16 ∨ i = 17 ∨ i = 18 ∨ i = 19 ∨ i = 20 ∨ i = 21 ∨ i = 22 ∨ i = 23 ∨ i = 24 ∨ i = 25 ∨ i = 26 := by omega
    rcases h18 with rfl | rfl | rfl | rfl | rfl | rfl | rfl | rfl | rfl | rfl | rfl | rfl | rfl | rfl | rfl | rfl | rfl | rfl | rfl | rfl | rfl | rfl | rfl | rfl | rfl | rfl | rfl
    · obtain rfl := J1 (hcl.no 27 hd (by kernel_rfl))
      refine wpOp_of rfl rfl ?_
      dsimp only [win, List.take_succ_cons, List.take_zero, List.drop_succ_cons, List.drop_zero, List.cons_append, List.nil_append, List.length_cons, List.length_nil, Nat.reduceAdd]
      go_simp
      exact hK [(.pointer (some ⟨g, 0, none⟩)), (x4), (x5), (x6), (x7), (x8), (x9), (x10), (x11), (x12), (x13), (x14), (x15), (x16), (x17), (x18), (x19), (x20), (x21), (x22), (x23), (x24), (x25), (x26), (x27), (x28)] _ ⟨⟨_, _, _, _, _, _, _, _, _, _, _, _, _, _, _, _, _, _, _, _, _, _, _, _, _, _, rfl, J.set (v := .pointer (some ⟨g, 0, none⟩)) 0 (by rw [HVV.out]; rfl)⟩, fun _ => rfl, fun h => by have := hcl.no 27 hd (i := 26) (by kernel_rfl); exact absurd h (by show ¬ (upd d 0 26) = true; simp [upd, this])⟩
    · obtain rfl := J1 (hcl.no 27 hd (by kernel_rfl))
      obtain rfl : x3 = .pointer (some ⟨g, 0, none⟩) := J.get 0 (hdp 0 (by kernel_rfl)) (by rw [HVV.out]; rfl) rfl
      refine wpOp_of rfl rfl ?_
      dsimp only [win, List.take_succ_cons, List.take_zero, List.drop_succ_cons, List.drop_zero, List.cons_append, List.nil_append, List.length_cons, List.length_nil, Nat.reduceAdd]
      go_simp
      exact hK [(.pointer (some ⟨g, 0, none⟩)), (.pointer (some ⟨g, 0, none⟩)), (x5), (x6), (x7), (x8), (x9), (x10), (x11), (x12), (x13), (x14), (x15), (x16), (x17), (x18), (x19), (x20), (x21), (x22), (x23), (x24), (x25), (x26), (x27), (x28)] _ ⟨⟨_, _, _, _, _, _, _, _, _, _, _, _, _, _, _, _, _, _, _, _, _, _, _, _, _, _, rfl, J.set (v := .pointer (some ⟨g, 0, none⟩)) 1 (by rw [HVV.out]; rfl)⟩, fun _ => rfl, fun h => by have := hcl.no 27 hd (i := 26) (by kernel_rfl); exact absurd h (by show ¬ (upd d 1 26) = true; simp [upd, this])⟩
    · obtain rfl := J1 (hcl.no 27 hd (by kernel_rfl))
      obtain rfl : x4 = .pointer (some ⟨g, 0, none⟩) := J.get 1 (hdp 1 (by kernel_rfl)) (by rw [HVV.out]; rfl) rfl
      refine wpOp_of rfl rfl ?_
      dsimp only [win, List.take_succ_cons, List.take_zero, List.drop_succ_cons, List.drop_zero, List.cons_append, List.nil_append, List.length_cons, List.length_nil, Nat.reduceAdd]
      go_simp
      exact hK [(x3), (.pointer (some ⟨g, 0, none⟩)), (.pointer (some ⟨g, 2, none⟩)), (x6), (x7), (x8), (x9), (x10), (x11), (x12), (x13), (x14), (x15), (x16), (x17), (x18), (x19), (x20), (x21), (x22), (x23), (x24), (x25), (x26), (x27), (x28)] _ ⟨⟨_, _, _, _, _, _, _, _, _, _, _, _, _, _, _, _, _, _, _, _, _, _, _, _, _, _, rfl, J.set (v := .pointer (some ⟨g, 2, none⟩)) 2 (by rw [HVV.out]; rfl)⟩, fun _ => rfl, fun h => by have := hcl.no 27 hd (i := 26) (by kernel_rfl); exact absurd h (by show ¬ (upd d 2 26) = true; simp [upd, this])⟩
    · obtain rfl := J1 (hcl.no 27 hd (by kernel_rfl))
      obtain rfl : x5 = .pointer (some ⟨g, 2, none⟩) := J.get 2 (hdp 2 (by kernel_rfl)) (by rw [HVV.out]; rfl) rfl
      refine wpOp_of rfl rfl ?_
      dsimp only [win, List.take_succ_cons, List.take_zero, List.drop_succ_cons, List.drop_zero, List.cons_append, List.nil_append, List.length_cons, List.length_nil, Nat.reduceAdd]
      go_simp
      exact hK [(x3), (x4), (.pointer (some ⟨g, 2, none⟩)), (.int .i64 t), (x7), (x8), (x9), (x10), (x11), (x12), (x13), (x14), (x15), (x16), (x17), (x18), (x19), (x20), (x21), (x22), (x23), (x24), (x25), (x26), (x27), (x28)] _ ⟨⟨_, _, _, _, _, _, _, _, _, _, _, _, _, _, _, _, _, _, _, _, _, _, _, _, _, _, rfl, J.set (v := .int .i64 t) 3 (by rw [HVV.out]; rfl)⟩, fun _ => rfl, fun h => by have := hcl.no 27 hd (i := 26) (by kernel_rfl); exact absurd h (by show ¬ (upd d 3 26) = true; simp [upd, this])⟩
    · obtain rfl := J1 (hcl.no 27 hd (by kernel_rfl))
      refine wpOp_of rfl rfl ?_
      dsimp only [win, List.take_succ_cons, List.take_zero, List.drop_succ_cons, List.drop_zero, List.cons_append, List.nil_append, List.length_cons, List.length_nil, Nat.reduceAdd]
      go_simp
      exact hK [(x3), (x4), (x5), (x6), (.pointer (some ⟨g, 0, none⟩)), (x8), (x9), (x10), (x11), (x12), (x13), (x14), (x15), (x16), (x17), (x18), (x19), (x20), (x21), (x22), (x23), (x24), (x25), (x26), (x27), (x28)] _ ⟨⟨_, _, _, _, _, _, _, _, _, _, _, _, _, _, _, _, _, _, _, _, _, _, _, _, _, _, rfl, J.set (v := .pointer (some ⟨g, 0, none⟩)) 4 (by rw [HVV.out]; rfl)⟩, fun _ => rfl, fun h => by have := hcl.no 27 hd (i := 26) (by kernel_rfl); exact absurd h (by show ¬ (upd d 4 26) = true; simp [upd, this])⟩
    · obtain rfl := J1 (hcl.no 27 hd (by kernel_rfl))
      obtain rfl : x7 = .pointer (some ⟨g, 0, none⟩) := J.get 4 (hdp 4 (by kernel_rfl)) (by rw [HVV.out]; rfl) rfl
      refine wpOp_of rfl rfl ?_
      dsimp only [win, List.take_succ_cons, List.take_zero, List.drop_succ_cons, List.drop_zero, List.cons_append, List.nil_append, List.length_cons, List.length_nil, Nat.reduceAdd]
      go_simp
      exact hK [(x3), (x4), (x5), (x6), (.pointer (some ⟨g, 0, none⟩)), (.pointer (some ⟨g, 0, none⟩)), (x9), (x10), (x11), (x12), (x13), (x14), (x15), (x16), (x17), (x18), (x19), (x20), (x21), (x22), (x23), (x24), (x25), (x26), (x27), (x28)] _ ⟨⟨_, _, _, _, _, _, _, _, _, _, _, _, _, _, _, _, _, _, _, _, _, _, _, _, _, _, rfl, J.set (v := .pointer (some ⟨g, 0, none⟩)) 5 (by rw [HVV.out]; rfl)⟩, fun _ => rfl, fun h => by have := hcl.no 27 hd (i := 26) (by kernel_rfl); exact absurd h (by show ¬ (upd d 5 26) = true; simp [upd, this])⟩
    · obtain rfl := J1 (hcl.no 27 hd (by kernel_rfl))
      obtain rfl : x8 = .pointer (some ⟨g, 0, none⟩) := J.get 5 (hdp 5 (by kernel_rfl)) (by rw [HVV.out]; rfl) rfl
      refine wpOp_of rfl rfl ?_
      dsimp only [win, List.take_succ_cons, List.take_zero, List.drop_succ_cons, List.drop_zero, List.cons_append, List.nil_append, List.length_cons, List.length_nil, Nat.reduceAdd]
      go_simp
      exact hK [(x3), (x4), (x5), (x6), (x7), (.pointer (some ⟨g, 0, none⟩)), (.pointer (some ⟨g, 3, none⟩)), (x10), (x11), (x12), (x13), (x14), (x15), (x16), (x17), (x18), (x19), (x20), (x21), (x22), (x23), (x24), (x25), (x26), (x27), (x28)] _ ⟨⟨_, _, _, _, _, _, _, _, _, _, _, _, _, _, _, _, _, _, _, _, _, _, _, _, _, _, rfl, J.set (v := .pointer (some ⟨g, 3, none⟩)) 6 (by rw [HVV.out]; rfl)⟩, fun _ => rfl, fun h => by have := hcl.no 27 hd (i := 26) (by kernel_rfl); exact absurd h (by show ¬ (upd d 6 26) = true; simp [upd, this])⟩
    · obtain rfl := J1 (hcl.no 27 hd (by kernel_rfl))
      obtain rfl : x9 = .pointer (some ⟨g, 3, none⟩) := J.get 6 (hdp 6 (by kernel_rfl)) (by rw [HVV.out]; rfl) rfl
      refine wpOp_of rfl rfl ?_
      dsimp only [win, List.take_succ_cons, List.take_zero, List.drop_succ_cons, List.drop_zero, List.cons_append, List.nil_append, List.length_cons, List.length_nil, Nat.reduceAdd]
      go_simp
      exact hK [(x3), (x4), (x5), (x6), (x7), (x8), (.pointer (some ⟨g, 3, none⟩)), (.int .i64 s), (x11), (x12), (x13), (x14), (x15), (x16), (x17), (x18), (x19), (x20), (x21), (x22), (x23), (x24), (x25), (x26), (x27), (x28)] _ ⟨⟨_, _, _, _, _, _, _, _, _, _, _, _, _, _, _, _, _, _, _, _, _, _, _, _, _, _, rfl, J.set (v := .int .i64 s) 7 (by rw [HVV.out]; rfl)⟩, fun _ => rfl, fun h => by have := hcl.no 27 hd (i := 26) (by kernel_rfl); exact absurd h (by show ¬ (upd d 7 26) = true; simp [upd, this])⟩
    · obtain rfl := J1 (hcl.no 27 hd (by kernel_rfl))
      refine wpOp_of rfl rfl ?_
      dsimp only [win, List.take_succ_cons, List.take_zero, List.drop_succ_cons, List.drop_zero, List.cons_append, List.nil_append, List.length_cons, List.length_nil, Nat.reduceAdd]
      go_simp
      exact hK [(x3), (x4), (x5), (x6), (x7), (x8), (x9), (x10), (.pointer (some ⟨g, 0, none⟩)), (x12), (x13), (x14), (x15), (x16), (x17), (x18), (x19), (x20), (x21), (x22), (x23), (x24), (x25), (x26), (x27), (x28)] _ ⟨⟨_, _, _, _, _, _, _, _, _, _, _, _, _, _, _, _, _, _, _, _, _, _, _, _, _, _, rfl, J.set (v := .pointer (some ⟨g, 0, none⟩)) 8 (by rw [HVV.out]; rfl)⟩, fun _ => rfl, fun h => by have := hcl.no 27 hd (i := 26) (by kernel_rfl); exact absurd h (by show ¬ (upd d 8 26) = true; simp [upd, this])⟩
    · obtain rfl := J1 (hcl.no 27 hd (by kernel_rfl))
      obtain rfl : x11 = .pointer (some ⟨g, 0, none⟩) := J.get 8 (hdp 8 (by kernel_rfl)) (by rw [HVV.out]; rfl) rfl
      refine wpOp_of rfl rfl ?_
      dsimp only [win, List.take_succ_cons, List.take_zero, List.drop_succ_cons, List.drop_zero, List.cons_append, List.nil_append, List.length_cons, List.length_nil, Nat.reduceAdd]
      go_simp
      exact hK [(x3), (x4), (x5), (x6), (x7), (x8), (x9), (x10), (.pointer (some ⟨g, 0, none⟩)), (.pointer (some ⟨g, 0, none⟩)), (x13), (x14), (x15), (x16), (x17), (x18), (x19), (x20), (x21), (x22), (x23), (x24), (x25), (x26), (x27), (x28)] _ ⟨⟨_, _, _, _, _, _, _, _, _, _, _, _, _, _, _, _, _, _, _, _, _, _, _, _, _, _, rfl, J.set (v := .pointer (some ⟨g, 0, none⟩)) 9 (by rw [HVV.out]; rfl)⟩, fun _ => rfl, fun h => by have := hcl.no 27 hd (i := 26) (by kernel_rfl); exact absurd h (by show ¬ (upd d 9 26) = true; simp [upd, this])⟩
    · obtain rfl := J1 (hcl.no 27 hd (by kernel_rfl))
      obtain rfl : x12 = .pointer (some ⟨g, 0, none⟩) := J.get 9 (hdp 9 (by kernel_rfl)) (by rw [HVV.out]; rfl) rfl
      refine wpOp_of rfl rfl ?_
      dsimp only [win, List.take_succ_cons, List.take_zero, List.drop_succ_cons, List.drop_zero, List.cons_append, List.nil_append, List.length_cons, List.length_nil, Nat.reduceAdd]
      go_simp
      exact hK [(x3), (x4), (x5), (x6), (x7), (x8), (x9), (x10), (x11), (.pointer (some ⟨g, 0, none⟩)), (.pointer (some ⟨g, 0, none⟩)), (x14), (x15), (x16), (x17), (x18), (x19), (x20), (x21), (x22), (x23), (x24), (x25), (x26), (x27), (x28)] _ ⟨⟨_, _, _, _, _, _, _, _, _, _, _, _, _, _, _, _, _, _, _, _, _, _, _, _, _, _, rfl, J.set (v := .pointer (some ⟨g, 0, none⟩)) 10 (by rw [HVV.out]; rfl)⟩, fun _ => rfl, fun h => by have := hcl.no 27 hd (i := 26) (by kernel_rfl); exact absurd h (by show ¬ (upd d 10 26) = true; simp [upd, this])⟩
    · obtain rfl := J1 (hcl.no 27 hd (by kernel_rfl))
      obtain rfl : x13 = .pointer (some ⟨g, 0, none⟩) := J.get 10 (hdp 10 (by kernel_rfl)) (by rw [HVV.out]; rfl) rfl
      refine wpOp_of rfl rfl ?_
      dsimp only [win, List.take_succ_cons, List.take_zero, List.drop_succ_cons, List.drop_zero, List.cons_append, List.nil_append, List.length_cons, List.length_nil, Nat.reduceAdd]
      go_simp
      exact hK [(x3), (x4), (x5), (x6), (x7), (x8), (x9), (x10), (x11), (x12), (.pointer (some ⟨g, 0, none⟩)), (.agg #[.slice u mu uc, .slice f mf fc]), (x15), (x16), (x17), (x18), (x19), (x20), (x21), (x22), (x23), (x24), (x25), (x26), (x27), (x28)] _ ⟨⟨_, _, _, _, _, _, _, _, _, _, _, _, _, _, _, _, _, _, _, _, _, _, _, _, _, _, rfl, J.set (v := .agg #[.slice u mu uc, .slice f mf fc]) 11 (by rw [HVV.out]; rfl)⟩, fun _ => rfl, fun h => by have := hcl.no 27 hd (i := 26) (by kernel_rfl); exact absurd h (by show ¬ (upd d 11 26) = true; simp [upd, this])⟩
    · obtain rfl := J1 (hcl.no 27 hd (by kernel_rfl))
      refine wpOp_of rfl rfl ?_
      dsimp only [win, List.take_succ_cons, List.take_zero, List.drop_succ_cons, List.drop_zero, List.cons_append, List.nil_append, List.length_cons, List.length_nil, Nat.reduceAdd]
      go_simp
      exact hK [(x3), (x4), (x5), (x6), (x7), (x8), (x9), (x10), (x11), (x12), (x13), (x14), (.pointer (some ⟨g, 0, none⟩)), (x16), (x17), (x18), (x19), (x20), (x21), (x22), (x23), (x24), (x25), (x26), (x27), (x28)] _ ⟨⟨_, _, _, _, _, _, _, _, _, _, _, _, _, _, _, _, _, _, _, _, _, _, _, _, _, _, rfl, J.set (v := .pointer (some ⟨g, 0, none⟩)) 12 (by rw [HVV.out]; rfl)⟩, fun _ => rfl, fun h => by have := hcl.no 27 hd (i := 26) (by kernel_rfl); exact absurd h (by show ¬ (upd d 12 26) = true; simp [upd, this])⟩
    · obtain rfl := J1 (hcl.no 27 hd (by kernel_rfl))
      obtain rfl : x15 = .pointer (some ⟨g, 0, none⟩) := J.get 12 (hdp 12 (by kernel_rfl)) (by rw [HVV.out]; rfl) rfl
      refine wpOp_of rfl rfl ?_
      dsimp only [win, List.take_succ_cons, List.take_zero, List.drop_succ_cons, List.drop_zero, List.cons_append, List.nil_append, List.length_cons, List.length_nil, Nat.reduceAdd]
      go_simp
      exact hK [(x3), (x4), (x5), (x6), (x7), (x8), (x9), (x10), (x11), (x12), (x13), (x14), (.pointer (some ⟨g, 0, none⟩)), (.pointer (some ⟨g, 0, none⟩)), (x17), (x18), (x19), (x20), (x21), (x22), (x23), (x24), (x25), (x26), (x27), (x28)] _ ⟨⟨_, _, _, _, _, _, _, _, _, _, _, _, _, _, _, _, _, _, _, _, _, _, _, _, _, _, rfl, J.set (v := .pointer (some ⟨g, 0, none⟩)) 13 (by rw [HVV.out]; rfl)⟩, fun _ => rfl, fun h => by have := hcl.no 27 hd (i := 26) (by kernel_rfl); exact absurd h (by show ¬ (upd d 13 26) = true; simp [upd, this])⟩
    · obtain rfl := J1 (hcl.no 27 hd (by kernel_rfl))
      obtain rfl : x16 = .pointer (some ⟨g, 0, none⟩) := J.get 13 (hdp 13 (by kernel_rfl)) (by rw [HVV.out]; rfl) rfl
      refine wpOp_of rfl rfl ?_
      dsimp only [win, List.take_succ_cons, List.take_zero, List.drop_succ_cons, List.drop_zero, List.cons_append, List.nil_append, List.length_cons, List.length_nil, Nat.reduceAdd]
      go_simp
      exact hK [(x3), (x4), (x5), (x6), (x7), (x8), (x9), (x10), (x11), (x12), (x13), (x14), (x15), (.pointer (some ⟨g, 0, none⟩)), (.pointer (some ⟨g, 4, none⟩)), (x18), (x19), (x20), (x21), (x22), (x23), (x24), (x25), (x26), (x27), (x28)] _ ⟨⟨_, _, _, _, _, _, _, _, _, _, _, _, _, _, _, _, _, _, _, _, _, _, _, _, _, _, rfl, J.set (v := .pointer (some ⟨g, 4, none⟩)) 14 (by rw [HVV.out]; rfl)⟩, fun _ => rfl, fun h => by have := hcl.no 27 hd (i := 26) (by kernel_rfl); exact absurd h (by show ¬ (upd d 14 26) = true; simp [upd, this])⟩
    · obtain rfl := J1 (hcl.no 27 hd (by kernel_rfl))
      obtain rfl : x17 = .pointer (some ⟨g, 4, none⟩) := J.get 14 (hdp 14 (by kernel_rfl)) (by rw [HVV.out]; rfl) rfl
      refine wpOp_of rfl rfl ?_
      dsimp only [win, List.take_succ_cons, List.take_zero, List.drop_succ_cons, List.drop_zero, List.cons_append, List.nil_append, List.length_cons, List.length_nil, Nat.reduceAdd]
      go_simp
      exact hK [(x3), (x4), (x5), (x6), (x7), (x8), (x9), (x10), (x11), (x12), (x13), (x14), (x15), (x16), (.pointer (some ⟨g, 4, none⟩)), (.slice a ma ac), (x19), (x20), (x21), (x22), (x23), (x24), (x25), (x26), (x27), (x28)] _ ⟨⟨_, _, _, _, _, _, _, _, _, _, _, _, _, _, _, _, _, _, _, _, _, _, _, _, _, _, rfl, J.set (v := .slice a ma ac) 15 (by rw [HVV.out]; rfl)⟩, fun _ => rfl, fun h => by have := hcl.no 27 hd (i := 26) (by kernel_rfl); exact absurd h (by show ¬ (upd d 15 26) = true; simp [upd, this])⟩
    · obtain rfl := J1 (hcl.no 27 hd (by kernel_rfl))
      refine wpOp_of rfl rfl ?_
      dsimp only [win, List.take_succ_cons, List.take_zero, List.drop_succ_cons, List.drop_zero, List.cons_append, List.nil_append, List.length_cons, List.length_nil, Nat.reduceAdd]
      go_simp
      exact hK [(x3), (x4), (x5), (x6), (x7), (x8), (x9), (x10), (x11), (x12), (x13), (x14), (x15), (x16), (x17), (x18), (.pointer (some ⟨g, 0, none⟩)), (x20), (x21), (x22), (x23), (x24), (x25), (x26), (x27), (x28)] _ ⟨⟨_, _, _, _, _, _, _, _, _, _, _, _, _, _, _, _, _, _, _, _, _, _, _, _, _, _, rfl, J.set (v := .pointer (some ⟨g, 0, none⟩)) 16 (by rw [HVV.out]; rfl)⟩, fun _ => rfl, fun h => by have := hcl.no 27 hd (i := 26) (by kernel_rfl); exact absurd h (by show ¬ (upd d 16 26) = true; simp [upd, this])⟩
    · obtain rfl := J1 (hcl.no 27 hd (by kernel_rfl))
      obtain rfl : x19 = .pointer (some ⟨g, 0, none⟩) := J.get 16 (hdp 16 (by kernel_rfl)) (by rw [HVV.out]; rfl) rfl
      refine wpOp_of rfl rfl ?_
      dsimp only [win, List.take_succ_cons, List.take_zero, List.drop_succ_cons, List.drop_zero, List.cons_append, List.nil_append, List.length_cons, List.length_nil, Nat.reduceAdd]
      go_simp
      exact hK [(x3), (x4), (x5), (x6), (x7), (x8), (x9), (x10), (x11), (x12), (x13), (x14), (x15), (x16), (x17), (x18), (.pointer (some ⟨g, 0, none⟩)), (.pointer (some ⟨g, 0, none⟩)), (x21), (x22), (x23), (x24), (x25), (x26), (x27), (x28)] _ ⟨⟨_, _, _, _, _, _, _, _, _, _, _, _, _, _, _, _, _, _, _, _, _, _, _, _, _, _, rfl, J.set (v := .pointer (some ⟨g, 0, none⟩)) 17 (by rw [HVV.out]; rfl)⟩, fun _ => rfl, fun h => by have := hcl.no 27 hd (i := 26) (by kernel_rfl); exact absurd h (by show ¬ (upd d 17 26) = true; simp [upd, this])⟩
    · obtain rfl := J1 (hcl.no 27 hd (by kernel_rfl))
      obtain rfl : x20 = .pointer (some ⟨g, 0, none⟩) := J.get 17 (hdp 17 (by kernel_rfl)) (by rw [HVV.out]; rfl) rfl
      refine wpOp_of rfl rfl ?_
      dsimp only [win, List.take_succ_cons, List.take_zero, List.drop_succ_cons, List.drop_zero, List.cons_append, List.nil_append, List.length_cons, List.length_nil, Nat.reduceAdd]
      go_simp
      exact hK [(x3), (x4), (x5), (x6), (x7), (x8), (x9), (x10), (x11), (x12), (x13), (x14), (x15), (x16), (x17), (x18), (x19), (.pointer (some ⟨g, 0, none⟩)), (.pointer (some ⟨g, 5, none⟩)), (x22), (x23), (x24), (x25), (x26), (x27), (x28)] _ ⟨⟨_, _, _, _, _, _, _, _, _, _, _, _, _, _, _, _, _, _, _, _, _, _, _, _, _, _, rfl, J.set (v := .pointer (some ⟨g, 5, none⟩)) 18 (by rw [HVV.out]; rfl)⟩, fun _ => rfl, fun h => by have := hcl.no 27 hd (i := 26) (by kernel_rfl); exact absurd h (by show ¬ (upd d 18 26) = true; simp [upd, this])⟩
    · obtain rfl := J1 (hcl.no 27 hd (by kernel_rfl))
      obtain rfl : x21 = .pointer (some ⟨g, 5, none⟩) := J.get 18 (hdp 18 (by kernel_rfl)) (by rw [HVV.out]; rfl) rfl
      refine wpOp_of rfl rfl ?_
      dsimp only [win, List.take_succ_cons, List.take_zero, List.drop_succ_cons, List.drop_zero, List.cons_append, List.nil_append, List.length_cons, List.length_nil, Nat.reduceAdd]
      go_simp
      exact hK [(x3), (x4), (x5), (x6), (x7), (x8), (x9), (x10), (x11), (x12), (x13), (x14), (x15), (x16), (x17), (x18), (x19), (x20), (.pointer (some ⟨g, 5, none⟩)), (.slice q ms qc), (x23), (x24), (x25), (x26), (x27), (x28)] _ ⟨⟨_, _, _, _, _, _, _, _, _, _, _, _, _, _, _, _, _, _, _, _, _, _, _, _, _, _, rfl, J.set (v := .slice q ms qc) 19 (by rw [HVV.out]; rfl)⟩, fun _ => rfl, fun h => by have := hcl.no 27 hd (i := 26) (by kernel_rfl); exact absurd h (by show ¬ (upd d 19 26) = true; simp [upd, this])⟩
    · obtain rfl := J1 (hcl.no 27 hd (by kernel_rfl))
      refine wpOp_of rfl rfl ?_
      dsimp only [win, List.take_succ_cons, List.take_zero, List.drop_succ_cons, List.drop_zero, List.cons_append, List.nil_append, List.length_cons, List.length_nil, Nat.reduceAdd]
      go_simp
      exact hK [(x3), (x4), (x5), (x6), (x7), (x8), (x9), (x10), (x11), (x12), (x13), (x14), (x15), (x16), (x17), (x18), (x19), (x20), (x21), (x22), (.pointer (some ⟨g, 0, none⟩)), (x24), (x25), (x26), (x27), (x28)] _ ⟨⟨_, _, _, _, _, _, _, _, _, _, _, _, _, _, _, _, _, _, _, _, _, _, _, _, _, _, rfl, J.set (v := .pointer (some ⟨g, 0, none⟩)) 20 (by rw [HVV.out]; rfl)⟩, fun _ => rfl, fun h => by have := hcl.no 27 hd (i := 26) (by kernel_rfl); exact absurd h (by show ¬ (upd d 20 26) = true; simp [upd, this])⟩
    · obtain rfl := J1 (hcl.no 27 hd (by kernel_rfl))
      obtain rfl : x23 = .pointer (some ⟨g, 0, none⟩) := J.get 20 (hdp 20 (by kernel_rfl)) (by rw [HVV.out]; rfl) rfl
      refine wpOp_of rfl rfl ?_
      dsimp only [win, List.take_succ_cons, List.take_zero, List.drop_succ_cons, List.drop_zero, List.cons_append, List.nil_append, List.length_cons, List.length_nil, Nat.reduceAdd]
      go_simp
      exact hK [(x3), (x4), (x5), (x6), (x7), (x8), (x9), (x10), (x11), (x12), (x13), (x14), (x15), (x16), (x17), (x18), (x19), (x20), (x21), (x22), (.pointer (some ⟨g, 0, none⟩)), (.pointer (some ⟨g, 0, none⟩)), (x25), (x26), (x27), (x28)] _ ⟨⟨_, _, _, _, _, _, _, _, _, _, _, _, _, _, _, _, _, _, _, _, _, _, _, _, _, _, rfl, J.set (v := .pointer (some ⟨g, 0, none⟩)) 21 (by rw [HVV.out]; rfl)⟩, fun _ => rfl, fun h => by have := hcl.no 27 hd (i := 26) (by kernel_rfl); exact absurd h (by show ¬ (upd d 21 26) = true; simp [upd, this])⟩
    · obtain rfl := J1 (hcl.no 27 hd (by kernel_rfl))
      obtain rfl : x24 = .pointer (some ⟨g, 0, none⟩) := J.get 21 (hdp 21 (by kernel_rfl)) (by rw [HVV.out]; rfl) rfl
      refine wpOp_of rfl rfl ?_
      dsimp only [win, List.take_succ_cons, List.take_zero, List.drop_succ_cons, List.drop_zero, List.cons_append, List.nil_append, List.length_cons, List.length_nil, Nat.reduceAdd]
      go_simp
      exact hK [(x3), (x4), (x5), (x6), (x7), (x8), (x9), (x10), (x11), (x12), (x13), (x14), (x15), (x16), (x17), (x18), (x19), (x20), (x21), (x22), (x23), (.pointer (some ⟨g, 0, none⟩)), (.pointer (some ⟨g, 6, none⟩)), (x26), (x27), (x28)] _ ⟨⟨_, _, _, _, _, _, _, _, _, _, _, _, _, _, _, _, _, _, _, _, _, _, _, _, _, _, rfl, J.set (v := .pointer (some ⟨g, 6, none⟩)) 22 (by rw [HVV.out]; rfl)⟩, fun _ => rfl, fun h => by have := hcl.no 27 hd (i := 26) (by kernel_rfl); exact absurd h (by show ¬ (upd d 22 26) = true; simp [upd, this])⟩
    · obtain rfl := J1 (hcl.no 27 hd (by kernel_rfl))
      obtain rfl : x25 = .pointer (some ⟨g, 6, none⟩) := J.get 22 (hdp 22 (by kernel_rfl)) (by rw [HVV.out]; rfl) rfl
      refine wpOp_of rfl rfl ?_
      dsimp only [win, List.take_succ_cons, List.take_zero, List.drop_succ_cons, List.drop_zero, List.cons_append, List.nil_append, List.length_cons, List.length_nil, Nat.reduceAdd]
      go_simp
      exact hK [(x3), (x4), (x5), (x6), (x7), (x8), (x9), (x10), (x11), (x12), (x13), (x14), (x15), (x16), (x17), (x18), (x19), (x20), (x21), (x22), (x23), (x24), (.pointer (some ⟨g, 6, none⟩)), (.slice r mo rc), (x27), (x28)] _ ⟨⟨_, _, _, _, _, _, _, _, _, _, _, _, _, _, _, _, _, _, _, _, _, _, _, _, _, _, rfl, J.set (v := .slice r mo rc) 23 (by rw [HVV.out]; rfl)⟩, fun _ => rfl, fun h => by have := hcl.no 27 hd (i := 26) (by kernel_rfl); exact absurd h (by show ¬ (upd d 23 26) = true; simp [upd, this])⟩
    · obtain rfl := J1 (hcl.no 27 hd (by kernel_rfl))
      obtain rfl : x6 = .int .i64 t := J.get 3 (hdp 3 (by kernel_rfl)) (by rw [HVV.out]; rfl) rfl
      obtain rfl : x10 = .int .i64 s := J.get 7 (hdp 7 (by kernel_rfl)) (by rw [HVV.out]; rfl) rfl
      obtain rfl : x14 = .agg #[.slice u mu uc, .slice f mf fc] := J.get 11 (hdp 11 (by kernel_rfl)) (by rw [HVV.out]; rfl) rfl
      obtain rfl : x18 = .slice a ma ac := J.get 15 (hdp 15 (by kernel_rfl)) (by rw [HVV.out]; rfl) rfl
      obtain rfl : x22 = .slice q ms qc := J.get 19 (hdp 19 (by kernel_rfl)) (by rw [HVV.out]; rfl) rfl
      obtain rfl : x26 = .slice r mo rc := J.get 23 (hdp 23 (by kernel_rfl)) (by rw [HVV.out]; rfl) rfl
      refine wpOp_of rfl rfl ?_
      dsimp only [win, List.take_succ_cons, List.take_zero, List.drop_succ_cons, List.drop_zero, List.cons_append, List.nil_append, List.length_cons, List.length_nil, Nat.reduceAdd]
      go_simp
      exact hK [(x3), (x4), (x5), (.int .i64 t), (x7), (x8), (x9), (.int .i64 s), (x11), (x12), (x13), (.agg #[.slice u mu uc, .slice f mf fc]), (x15), (x16), (x17), (.slice a ma ac), (x19), (x20), (x21), (.slice q ms qc), (x23), (x24), (x25), (.slice r mo rc), (.agg #[.int .i64 t, .int .i64 s, .slice u mu uc, .slice f mf fc, .slice a ma ac, .slice q ms qc, .slice r mo rc]), (x28)] _ ⟨⟨_, _, _, _, _, _, _, _, _, _, _, _, _, _, _, _, _, _, _, _, _, _, _, _, _, _, rfl, J.set (v := .agg #[.int .i64 t, .int .i64 s, .slice u mu uc, .slice f mf fc, .slice a ma ac, .slice q ms qc, .slice r mo rc]) 24 (by rw [HVV.out]; rfl)⟩, fun _ => rfl, fun h => by have := hcl.no 27 hd (i := 26) (by kernel_rfl); exact absurd h (by show ¬ (upd d 24 26) = true; simp [upd, this])⟩
    · obtain rfl := J1 (hcl.no 27 hd (by kernel_rfl))
      obtain rfl : x27 = .agg #[.int .i64 t, .int .i64 s, .slice u mu uc, .slice f mf fc, .slice a ma ac, .slice q ms qc, .slice r mo rc] := J.get 24 (hdp 24 (by kernel_rfl)) (by rw [HVV.out]; rfl) rfl
      refine wpOp_of rfl rfl ?_
      dsimp only [win, List.take_succ_cons, List.take_zero, List.drop_succ_cons, List.drop_zero, List.cons_append, List.nil_append, List.length_cons, List.length_nil, Nat.reduceAdd]
      go_simp
      exact hK [(x3), (x4), (x5), (x6), (x7), (x8), (x9), (x10), (x11), (x12), (x13), (x14), (x15), (x16), (x17), (x18), (x19), (x20), (x21), (x22), (x23), (x24), (x25), (x26), (.agg #[.int .i64 t, .int .i64 s, .slice u mu uc, .slice f mf fc, .slice a ma ac, .slice q ms qc, .slice r mo rc]), (.agg #[.int .i64 0, .int .i64 t, .int .i64 s, .slice u mu uc, .slice f mf fc, .slice a ma ac, .slice q ms qc, .slice r mo rc])] _ ⟨⟨_, _, _, _, _, _, _, _, _, _, _, _, _, _, _, _, _, _, _, _, _, _, _, _, _, _, rfl, J.set (v := .agg #[.int .i64 0, .int .i64 t, .int .i64 s, .slice u mu uc, .slice f mf fc, .slice a ma ac, .slice q ms qc, .slice r mo rc]) 25 (by rw [HVV.out]; rfl)⟩, fun _ => rfl, fun h => by have := hcl.no 27 hd (i := 26) (by kernel_rfl); exact absurd h (by show ¬ (upd d 25 26) = true; simp [upd, this])⟩
    · obtain rfl := J1 hd
      obtain rfl : x28 = .agg #[.int .i64 0, .int .i64 t, .int .i64 s, .slice u mu uc, .slice f mf fc, .slice a ma ac, .slice q ms qc, .slice r mo rc] := J.get 25 (hdp 25 (by kernel_rfl)) (by rw [HVV.out]; rfl) rfl
      refine wpOp_of rfl rfl ?_
      dsimp only [win, List.take_succ_cons, List.take_zero, List.drop_succ_cons, List.drop_zero, List.cons_append, List.nil_append, List.length_cons, List.length_nil, Nat.reduceAdd]
      go_simp
      exact hK [(x3), (x4), (x5), (x6), (x7), (x8), (x9), (x10), (x11), (x12), (x13), (x14), (x15), (x16), (x17), (x18), (x19), (x20), (x21), (x22), (x23), (x24), (x25), (x26), (x27), (.agg #[.int .i64 0, .int .i64 t, .int .i64 s, .slice u mu uc, .slice f mf fc, .slice a ma ac, .slice q ms qc, .slice r mo rc])] _ ⟨⟨_, _, _, _, _, _, _, _, _, _, _, _, _, _, _, _, _, _, _, _, _, _, _, _, _, _, rfl, J.none 26 (by rw [HVV.out]; exact Nat.le_refl _)⟩, fun h => by simp [upd] at h, fun _ => rfl⟩
  · rintro d xs W hall ⟨⟨x3, x4, x5, x6, x7, x8, x9, x10, x11, x12, x13, x14, x15, x16, x17, x18, x19, x20, x21, x22, x23, x24, x25, x26, x27, x28, rfl, J⟩, J1, J2⟩
    obtain rfl := J2 (hall 26 (by decide))
    clear J J1 J2 hall
    dsimp only [win, List.take_succ_cons, List.take_zero, List.drop_succ_cons, List.drop_zero, List.cons_append, List.nil_append, List.length_cons, List.length_nil, Nat.reduceAdd]
    have F := (set8_blk HR.out (.int .i64 0) (.int .i64 t) (.int .i64 s) (.slice u mu uc) (.slice f mf fc) (.slice a ma ac) (.slice q ms qc) (.slice r mo rc)).drew
    have BE := (set8_below B1 (Nat.le_refl _) (.int .i64 0) (.int .i64 t) (.int .i64 s) (.slice u mu uc) (.slice f mf fc) (.slice a ma ac) (.slice q ms qc) (.slice r mo rc)).drew
    go_wp2_with fail
    exact bodyPost_ret (v := .agg (v8 0 t s u mu uc f mf fc a ma ac q ms qc r mo rc)) (result8v Tryz.results37 F _ rfl) rfl ⟨rfl, BE⟩
theorem result_c (g base : Nat) (p : WP) (x : KW) (w : World) (h : WS w base g p x) :
    Calls Tryz.prog 37 #[.pointer (some ⟨g, 0, none⟩)] w fun e w' => e = .returned (.agg (r8 0 p x)) ∧ OwW w' base p x ∧ Below w.heap.size w w' := by
  refine (result_v g x.t x.s p.u x.us.length p.uc p.f x.fs.length p.fc p.a x.fa.length p.ac p.s x.se.length p.sc p.o x.oo.length p.oc w h.b).mono ?_
  rintro e w' ⟨rfl, hb⟩
  exact ⟨rfl, h.o.later hb, hb⟩
end Go.Proofs.YtmfdggaijbcijaaGreat
end
