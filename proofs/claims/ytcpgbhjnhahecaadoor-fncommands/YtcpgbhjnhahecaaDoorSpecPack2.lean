/- The contract of the model of PackCommand where the command has no fault. No condition. -/
import Derived.Test.YtcpgbhjnhahecaaDoorSpecPack
namespace Go.Proofs.YtcpgbhjnhahecaaDoor
open Go.ChangeShapes Go.WideShapes Go.ChangeAt Go.RowKit
open Cm
set_option linter.unusedVariables false

theorem BRow.ne {w : World} {base g n cap L : Nat} {l : List Int} {cs : Array Value} {t : TypeId} (h : BRow w base (.slice (some ⟨g, 0, none⟩) n cap) l) (hL : Blk w L cs t) (ht : t ≠ 5) : g ≠ L := by
  intro e
  rcases h.2 with ⟨h0, _⟩ | ⟨g', cap', cur, hv, _, hgg, _⟩
  · cases h0
  · simp only [Value.slice.injEq, Option.some.injEq, Addr.mk.injEq, and_true] at hv
    rw [← hv.1, e] at hgg
    have := hL.symm.trans hgg
    injection this with this
    injection this with _ h2 _
    exact ht h2
theorem BRow.mono {w : World} {base base' : Nat} {v : Value} {l : List Int} (h : BRow w base v l) (hb : base' ≤ base) : BRow w base' v l :=
  ⟨h.1, h.2.imp id fun ⟨g, cap, cur, h1, h2, h3⟩ => ⟨g, cap, cur, h1, Nat.le_trans hb h2, h3⟩⟩
set_option maxHeartbeats 1000000 in
theorem specPack_yes (cl sq k a b c : Int) (h : flt cl sq k a b c = 0) (w : World) :
    Calls Tryd.prog 17 #[.agg (cmdV cl sq k a b c)] w fun e w' => ∃ g cap, e = .returned (.agg #[.int .i64 0, .slice (some ⟨g, 0, none⟩) (6 + 3 * pc k) cap]) ∧ BRow w' w.heap.size (.slice (some ⟨g, 0, none⟩) (6 + 3 * pc k) cap) (pk cl sq k a b c) ∧ Below w.heap.size w w' := by
  have A0 : Below w.heap.size w ((w.alloc (.cells (cmdV cl sq k a b c) 26)).alloc (.cells #[.int .i64 0, .slice none 0 0] 32)) := ((Below.refl w.heap.size w).alloc (Nat.le_refl _) _).alloc (by simp only [size_new]; omega) _
  have R0 := Blk.new (w.alloc (.cells (cmdV cl sq k a b c) 26)) #[.int .i64 0, .slice none 0 0] 32
  rw [size_new] at R0
  have C0 := (Blk.new w (cmdV cl sq k a b c) 26).alloc (.cells #[.int .i64 0, .slice none 0 0] 32)
  have c1 := l3Fault_c w.heap.size cl sq k a b c _ C0.cmd
  rw [h] at c1
  have c2 := fun (w1 : World) (hC : Blk w1 w.heap.size (cmdV cl sq k a b c) 26) => l3Pack_c w.heap.size cl sq k a b c 26 h w1 hC (by decide)
  generalize pk cl sq k a b c = L at c2 ⊢
  clear h
  go_enter Tryd.func17, Tryd.ntmps17
  go_wp2_with fail
  refine c1.mono ?_
  rintro e w1 ⟨rfl, b1⟩
  have A1 := A0.trans (b1.mono A0.size)
  have R1 := R0.below b1
  have C1 := C0.below b1
  go_wp2_with fail
  refine (c2 _ C1).mono ?_
  rintro e w2 ⟨g, cap, rfl, O2, q2⟩
  have A2 := A1.trans (q2.mono A1.size)
  have R2 := R1.below q2
  have hne := O2.ne R2 (by decide)
  replace O2 := O2.mono A1.size
  have r0 := R2.cell (i := 0) rfl
  have r1 := R2.cell (i := 1) rfl
  have f0 := R2.frozen 0
  have f1 := R2.frozen 1
  have rl := R2.lt
  clear c1 c2 A0 R0 C0
  go_wp2
  refine bodyPost_ret (v := .agg #[.int .i64 0, .slice (some ⟨g, 0, none⟩) (6 + 3 * pc k) cap]) ?_ rfl ⟨g, cap, rfl, ?_, ?_⟩
  · simp [results, Tryd.results17, go_sem, r0, r1]
    done
  · exact (O2.setOther (by exact hne) _).setOther (by exact hne) _
  · exact (A2.setCell (by show w.heap.size ≤ w.heap.size + 1; omega) _).setCell (by show w.heap.size ≤ w.heap.size + 1; omega) _
end Go.Proofs.YtcpgbhjnhahecaaDoor
