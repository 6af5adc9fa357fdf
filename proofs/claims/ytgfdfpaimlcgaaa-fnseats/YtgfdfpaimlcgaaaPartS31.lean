/- Texts of mine put together (a claim holds at most 60 files): WldDraws2. -/
import Derived.Test.YtgfdfpaimlcgaaaPartS29

/- WldDraws2 -/
/- Contracts of the draws of worlds: a new world, two who are made allies. No condition. -/
section
namespace Go.Proofs.Ytgfdfpaimlcgaaa
open Go.ChangeShapes Go.WideShapes Go.ChangeAt Go.RowKit
set_option linter.unusedVariables false

abbrev F12 : Array Value := #[.int .i64 0, .bool false, .int .i64 0, .int .i64 0, .bool false, .int .i64 0, .int .i64 0, .bool false, .int .i64 0, .int .i64 0, .bool false, .int .i64 0]
theorem made12' : madeCells KA.z.v 12 = F12 := by kernel_rfl
theorem mk4' (W : World) : (Instr.makeSlice 28 (.int .i64 4) (.int .i64 4)).run Try.prog W = .ok (.slice (some ⟨W.heap.size, 0, none⟩) 4 4) (W.alloc (.cells F12 63)) := by
  have h := makeA 4 (by omega) W
  rw [show 4 * 3 = 12 from rfl, made12'] at h
  exact h
abbrev w7' (g : Nat) : Array Value := wV 0 0 (.slice none 0 0) (.slice none 0 0) g (.slice none 0 0) (.slice none 0 0)
set_option maxRecDepth 20000 in
set_option maxHeartbeats 1000000 in
theorem l6New_w (w : World) : Calls Try.prog 74 #[] w fun e w' => ∃ g, e = .returned (.agg (w7' g)) ∧ Blk w' g (flatA [KA.z, KA.z, KA.z, KA.z]).toArray 63 ∧ w.heap.size ≤ g ∧ Below w.heap.size w w' := by
  have hmk := fun W => mk4' W
  have R : Blk ((w.alloc (.cells (w7' (w.heap.size + 1)) 32)).alloc (.cells F12 63)) w.heap.size (w7' (w.heap.size + 1)) 32 := (Blk.new w _ _).alloc _
  have FB : Blk ((w.alloc (.cells (w7' (w.heap.size + 1)) 32)).alloc (.cells F12 63)) (w.heap.size + 1) F12 63 := by have h := Blk.new (w.alloc (.cells (w7' (w.heap.size + 1)) 32)) F12 63; rw [size_new] at h; exact h
  have B : Below w.heap.size w ((w.alloc (.cells (w7' (w.heap.size + 1)) 32)).alloc (.cells F12 63)) := ((Below.refl _ _).alloc (Nat.le_refl _) _).alloc (by rw [size_new]; omega) _
  go_enter Try.func74, Try.ntmps74
  go_wp2
  have c0 : World.cell? _ ⟨w.heap.size, 0, none⟩ = some (.int .i64 0) := R.cell (i := 0) rfl
  have c1 : World.cell? _ ⟨w.heap.size, 1, none⟩ = some (.int .i64 0) := R.cell (i := 1) rfl
  have c2 : World.cell? _ ⟨w.heap.size, 2, none⟩ = some (.slice none 0 0) := R.cell (i := 2) rfl
  have c3 : World.cell? _ ⟨w.heap.size, 3, none⟩ = some (.slice none 0 0) := R.cell (i := 3) rfl
  have c4 : World.cell? _ ⟨w.heap.size, 4, none⟩ = some (.slice (some ⟨w.heap.size + 1, 0, none⟩) 4 4) := R.cell (i := 4) rfl
  have c5 : World.cell? _ ⟨w.heap.size, 5, none⟩ = some (.slice none 0 0) := R.cell (i := 5) rfl
  have c6 : World.cell? _ ⟨w.heap.size, 6, none⟩ = some (.slice none 0 0) := R.cell (i := 6) rfl
  refine bodyPost_ret (v := .agg (w7' (w.heap.size + 1))) ?_ rfl ⟨w.heap.size + 1, rfl, FB, by omega, B⟩
  simp [results, Try.results74, go_sem, c0, c1, c2, c3, c4, c5, c6]
  done
theorem or_fin : ∀ k : Fin 32, (0 ≤ bits BinOp.or IntKind.i64 (k.val : Int) 1 ∧ bits BinOp.or IntKind.i64 (k.val : Int) 1 < 32) ∧ (0 ≤ bits BinOp.or IntKind.i64 (k.val : Int) 2 ∧ bits BinOp.or IntKind.i64 (k.val : Int) 2 < 32) ∧ (0 ≤ bits BinOp.or IntKind.i64 (k.val : Int) 4 ∧ bits BinOp.or IntKind.i64 (k.val : Int) 4 < 32) := by decide +kernel
theorem or_bd {x : Int} (h0 : 0 ≤ x) (h1 : x < 32) : (0 ≤ bits BinOp.or IntKind.i64 x 1 ∧ bits BinOp.or IntKind.i64 x 1 < 32) ∧ (0 ≤ bits BinOp.or IntKind.i64 x 2 ∧ bits BinOp.or IntKind.i64 x 2 < 32) ∧ (0 ≤ bits BinOp.or IntKind.i64 x 4 ∧ bits BinOp.or IntKind.i64 x 4 < 32) := by
  obtain ⟨k, rfl⟩ : ∃ k : Nat, x = k := ⟨x.toNat, by omega⟩
  exact or_fin ⟨k, by omega⟩
set_option maxRecDepth 20000 in
set_option maxHeartbeats 8000000 in
theorem l6Ally_c {w0 w W : World} {a : Option Addr} {len cap : Nat} {n : Int} {rb wb fb : Nat} {t s : Int} {vu vf vs vo : Value} {us : List K10} {fs : List K3} {fa : List KA} {se : List K4} {oo : List K2} (h : WD w0 w W a len cap n rb wb fb t s vu vf vs vo us fs fa se oo) (k : Nat) (hk : k = 1 ∨ k = 2) :
    Calls Try.prog 77 #[.pointer (some ⟨wb, 0, none⟩), .int .i64 0, .int .i64 (k : Int)] W fun e w' => e = .returned (.tuple #[]) ∧ ∃ fa', WD w0 w w' a len cap n rb wb fb t s vu vf vs vo us fs fa' se oo := by
  obtain ⟨x, hx', x0, x1⟩ := h.f4.at (k := 0) (by omega)
  obtain ⟨y, hy', y0, y1⟩ := h.f4.at (k := k) (by omega)
  obtain ⟨_, _, a2'⟩ := h.fac hx'
  obtain ⟨_, _, b2⟩ := h.fac hy'
  have a2 : W.cell? ⟨fb, 2, none⟩ = some (.int .i64 x.c2) := by simpa using a2'
  have p4 : W.cell? ⟨wb, 4, none⟩ = some (.slice (some ⟨fb, 0, none⟩) 4 4) := h.B.cell (i := 4) rfl
  have pl := h.B.lt
  have fl := h.A.lt
  have z2 : W.frozen? ⟨fb, 2, none⟩ = false := h.A.frozen _
  have zk := h.A.frozen (k * 3 + 2)
  have H : Hid (WD w0 w W a len cap n rb wb fb t s vu vf vs vo us fs fa se oo) := h
  have hx : Hid (fa[0]? = some x) := hx'
  have hy : Hid (fa[k]? = some y) := hy'
  clear h hx' hy' a2'
  rcases hk with rfl | rfl
  · go_enter Try.func77, Try.ntmps77
    go_wp2_with fail
    go_region
    all_goals
      have D1 := H.out.setA (0 * 3 + 2) (.int .i64 (bits BinOp.or IntKind.i64 x.c2 2)) (flatA_set2 fa 0 x _ hx.out) (H.out.f4.set 0 (u := ⟨x.c0, x.c1, bits BinOp.or IntKind.i64 x.c2 2⟩) (or_bd x0 x1).2.1)
      obtain ⟨W1, HW1⟩ : ∃ W1, Hid (W1 = (W.setCell ⟨fb, 2, none⟩ (.int .i64 (bits BinOp.or IntKind.i64 x.c2 2))).drew) := ⟨_, rfl⟩
      have D2 : WD w0 w W1 a len cap n rb wb fb t s vu vf vs vo us fs (fa.set 0 ⟨x.c0, x.c1, bits BinOp.or IntKind.i64 x.c2 2⟩) se oo := by rw [HW1.out]; exact D1.drew
      clear a2 b2 p4 pl fl z2 zk D1
      rw [← HW1.out]
      have hy2 : (fa.set 0 ⟨x.c0, x.c1, bits BinOp.or IntKind.i64 x.c2 2⟩)[1]? = some y := by rw [List.getElem?_set, if_neg (by omega)]; exact hy.out
      obtain ⟨_, _, b2⟩ := D2.fac hy2
      have b2' : W1.cell? ⟨fb, 5, none⟩ = some (.int .i64 y.c2) := b2
      have p4 : W1.cell? ⟨wb, 4, none⟩ = some (.slice (some ⟨fb, 0, none⟩) 4 4) := D2.B.cell (i := 4) rfl
      have pl := D2.B.lt
      have fl := D2.A.lt
      have zk : W1.frozen? ⟨fb, 5, none⟩ = false := D2.A.frozen _
      have HD2 : Hid (WD w0 w W1 a len cap n rb wb fb t s vu vf vs vo us fs (fa.set 0 ⟨x.c0, x.c1, bits BinOp.or IntKind.i64 x.c2 2⟩) se oo) := D2
      have Hy2 : Hid _ := hy2
      clear b2 hy2 D2
      go_wp2_with fail
      go_region
      all_goals
        have D3 := (HD2.out.setA (1 * 3 + 2) (.int .i64 (bits BinOp.or IntKind.i64 y.c2 1)) (flatA_set2 _ 1 y _ Hy2.out) (HD2.out.f4.set 1 (u := ⟨y.c0, y.c1, bits BinOp.or IntKind.i64 y.c2 1⟩) (or_bd y0 y1).1)).drew
        go_wp2_with fail
        go_end0
        exact ⟨rfl, _, D3⟩
  · go_enter Try.func77, Try.ntmps77
    go_wp2_with fail
    go_region
    all_goals
      have D1 := H.out.setA (0 * 3 + 2) (.int .i64 (bits BinOp.or IntKind.i64 x.c2 4)) (flatA_set2 fa 0 x _ hx.out) (H.out.f4.set 0 (u := ⟨x.c0, x.c1, bits BinOp.or IntKind.i64 x.c2 4⟩) (or_bd x0 x1).2.2)
      obtain ⟨W1, HW1⟩ : ∃ W1, Hid (W1 = (W.setCell ⟨fb, 2, none⟩ (.int .i64 (bits BinOp.or IntKind.i64 x.c2 4))).drew) := ⟨_, rfl⟩
      have D2 : WD w0 w W1 a len cap n rb wb fb t s vu vf vs vo us fs (fa.set 0 ⟨x.c0, x.c1, bits BinOp.or IntKind.i64 x.c2 4⟩) se oo := by rw [HW1.out]; exact D1.drew
      clear a2 b2 p4 pl fl z2 zk D1
      rw [← HW1.out]
      have hy2 : (fa.set 0 ⟨x.c0, x.c1, bits BinOp.or IntKind.i64 x.c2 4⟩)[2]? = some y := by rw [List.getElem?_set, if_neg (by omega)]; exact hy.out
      obtain ⟨_, _, b2⟩ := D2.fac hy2
      have b2' : W1.cell? ⟨fb, 8, none⟩ = some (.int .i64 y.c2) := b2
      have p4 : W1.cell? ⟨wb, 4, none⟩ = some (.slice (some ⟨fb, 0, none⟩) 4 4) := D2.B.cell (i := 4) rfl
      have pl := D2.B.lt
      have fl := D2.A.lt
      have zk : W1.frozen? ⟨fb, 8, none⟩ = false := D2.A.frozen _
      have HD2 : Hid (WD w0 w W1 a len cap n rb wb fb t s vu vf vs vo us fs (fa.set 0 ⟨x.c0, x.c1, bits BinOp.or IntKind.i64 x.c2 4⟩) se oo) := D2
      have Hy2 : Hid _ := hy2
      clear b2 hy2 D2
      go_wp2_with fail
      go_region
      all_goals
        have D3 := (HD2.out.setA (2 * 3 + 2) (.int .i64 (bits BinOp.or IntKind.i64 y.c2 1)) (flatA_set2 _ 2 y _ Hy2.out) (HD2.out.f4.set 2 (u := ⟨y.c0, y.c1, bits BinOp.or IntKind.i64 y.c2 1⟩) (or_bd y0 y1).1)).drew
        go_wp2_with fail
        go_end0
        exact ⟨rfl, _, D3⟩
end Go.Proofs.Ytgfdfpaimlcgaaa
end
