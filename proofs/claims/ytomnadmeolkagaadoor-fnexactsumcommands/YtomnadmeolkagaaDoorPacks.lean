/- Contracts of PackCommand and of its model. Condition, for the program's own: its table of counts holds what its initialiser lays. -/
import Derived.Test.YtomnadmeolkagaaDoorByteRows
import Derived.Test.YtomnadmeolkagaaDoorCmdFault2
namespace Go.Proofs.YtomnadmeolkagaaDoor
open Go.ChangeShapes Go.WideShapes Go.ChangeAt Go.RowKit
open Cm
set_option linter.unusedVariables false

/- a block of memory is these cells -/
def Blk (w : World) (g : Nat) (cs : Array Value) (t : TypeId) : Prop := w.heap[g]? = some (Obj.cells cs t (0, 0))
theorem Blk.lt {w : World} {g : Nat} {cs : Array Value} {t : TypeId} (h : Blk w g cs t) : g < w.heap.size := (Array.getElem?_eq_some_iff.1 h).1
theorem Blk.cell {w : World} {g : Nat} {cs : Array Value} {t : TypeId} (h : Blk w g cs t) {i : Nat} {v : Value} (hi : cs[i]? = some v) : w.cell? ⟨g, i, none⟩ = some v := by
  unfold Blk at h
  simp [World.cell?, h, hi]
theorem Blk.frozen {w : World} {g : Nat} {cs : Array Value} {t : TypeId} (h : Blk w g cs t) (i : Nat) : w.frozen? ⟨g, i, none⟩ = false := by
  unfold Blk at h
  simp [World.frozen?, h]
theorem Blk.keeps {w w' : World} {g : Nat} {cs : Array Value} {t : TypeId} (h : Blk w g cs t) (hk : Keeps w w') (ht : t ≠ 5) : Blk w' g cs t := hk g cs t _ h ht
theorem Blk.below {w w' : World} {g : Nat} {cs : Array Value} {t : TypeId} (h : Blk w g cs t) (hb : Below w.heap.size w w') : Blk w' g cs t := by
  unfold Blk; rw [hb.block g h.lt]; exact h
theorem Blk.new (w : World) (cs : Array Value) (t : TypeId) : Blk (w.alloc (.cells cs t)) w.heap.size cs t := by
  show (w.heap.push _)[w.heap.size]? = _
  simp
theorem Blk.alloc {w : World} {g : Nat} {cs : Array Value} {t : TypeId} (h : Blk w g cs t) (o : Obj) : Blk (w.alloc o) g cs t := h.below ((Below.refl _ _).alloc (Nat.le_refl _) o)
theorem Blk.cmd {w : World} {g : Nat} {cl sq k a b c : Int} {t : TypeId} (h : Blk w g (cmdV cl sq k a b c) t) : Cmd w g cl sq k a b c :=
  ⟨h.cell rfl, h.cell rfl, h.cell rfl, h.cell rfl, h.cell rfl, h.cell rfl, h.lt⟩

set_option maxHeartbeats 1000000 in
theorem paramsIn_c (cl sq k a b c : Int) (h1 : 1 ≤ k) (h2 : k ≤ 11) (w : World) (hL : PcAt w) :
    Calls Tryd.prog 23 #[.agg (cmdV cl sq k a b c)] w fun e w' => e = .returned (.slice (some ⟨w.heap.size + 1, 0, none⟩) (pc k) 3) ∧ w' = (w.alloc (.cells (cmdV cl sq k a b c) 36)).alloc (.cells #[.int .i64 a, .int .i64 b, .int .i64 c] 54) := by
  have hc := hL.c k h1 h2
  have hlt := hL.lt
  rcases pc_cases k with hn | hn | hn | hn
  all_goals
    rw [hn] at hc ⊢
    go_enter Tryd.func23, Tryd.ntmps23
    go_wp2
    go_ret
    exact ⟨rfl, rfl⟩
theorem implPack_no (cl sq k a b c : Int) (h : (flt cl sq k a b c != 0) = true) (w : World) (hL : PcAt w) :
    Calls Tryd.prog 14 #[.agg (cmdV cl sq k a b c)] w fun e w' => e = .returned (.agg #[.int .i64 (flt cl sq k a b c), .slice none 0 0]) ∧ Below w.heap.size w w' := by
  have c1 := fun w hL => implCommandFault cl sq k a b c w hL
  generalize flt cl sq k a b c = F at c1 h ⊢
  have A0 : Below w.heap.size w ((w.alloc (.cells (cmdV cl sq k a b c) 36)).alloc (.cells #[.int .i64 0, .slice none 0 0] 42)) := ((Below.refl w.heap.size w).alloc (Nat.le_refl _) _).alloc (by simp only [size_new]; omega) _
  have R0 := Blk.new (w.alloc (.cells (cmdV cl sq k a b c) 36)) #[.int .i64 0, .slice none 0 0] 42
  rw [size_new] at R0
  go_enter Tryd.func14, Tryd.ntmps14
  go_wp2_with fail
  refine (c1 _ (hL.later A0)).mono ?_
  rintro e w1 ⟨rfl, b1⟩
  have A1 := A0.trans (b1.mono A0.size)
  have R1 := R0.below b1
  have r0 := R1.cell (i := 0) rfl
  have r1 := R1.cell (i := 1) rfl
  have f0 := R1.frozen 0
  have f1 := R1.frozen 1
  have rl := R1.lt
  go_wp2
  refine bodyPost_ret (v := .agg #[.int .i64 F, .slice none 0 0]) ?_ rfl ⟨rfl, ?_⟩
  · simp [results, Tryd.results14, go_sem, r0, r1]
    done
  · exact (A1.setCell (by show w.heap.size ≤ w.heap.size + 1; omega) _).setCell (by show w.heap.size ≤ w.heap.size + 1; omega) _
end Go.Proofs.YtomnadmeolkagaaDoor
