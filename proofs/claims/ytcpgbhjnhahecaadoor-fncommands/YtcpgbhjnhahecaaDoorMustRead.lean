/- The contract of mustRead. Condition: the table of counts holds what its initialiser lays. -/
import Derived.Test.YtcpgbhjnhahecaaDoorReadNum
import Derived.Test.YtcpgbhjnhahecaaDoorReads
import Derived.Test.YtcpgbhjnhahecaaDoorPacks2
import Derived.Deep.RegionHeld3
import Derived.Deep.Cut
import Derived.Deep.CutRange
namespace Go.Proofs.YtcpgbhjnhahecaaDoor
open Go.ChangeShapes Go.WideShapes Go.ChangeAt Go.RowKit
open Cm
set_option linter.unusedVariables false

/- a call that panics with a value of its own -/
def Pan (e : Ending) : Prop := ∃ u pv, e = .panicked [{ v := .iface u pv, recovered := false }]
def MR (b : Bool) (v : Array Value) (e : Ending) : Prop := if b = true then e = .returned (.agg v) else Pan e
theorem MR.yes {b : Bool} {v : Array Value} (h : b = true) : MR b v (.returned (.agg v)) := by unfold MR; rw [if_pos h]
theorem MR.no {b : Bool} {v : Array Value} {e : Ending} (h : b = false) (p : Pan e) : MR b v e := by unfold MR; rw [h, if_neg (by decide)]; exact p
theorem Blk.set {w : World} {g : Nat} {cs : Array Value} {t : TypeId} (h : Blk w g cs t) (i : Nat) (v : Value) : Blk (w.setCell ⟨g, i, none⟩ v) g (cs.setIfInBounds i v) t := by
  unfold Blk at *
  simp [World.setCell, Array.getElem?_modify, h]
theorem Blk.setOther {w : World} {g : Nat} {cs : Array Value} {t : TypeId} (h : Blk w g cs t) {a : Addr} (ha : g ≠ a.block) (v : Value) : Blk (w.setCell a v) g cs t := by
  unfold Blk at *
  rw [Below.heap_setCell _ _ _ _ ha]; exact h
theorem i64_byte {d : Int} (h : 0 ≤ d ∧ d ≤ 255) : IntKind.i64.wrap d = d := by rw [IntKind.wrap_i64]; omega
theorem mustRead_short (g cap m : Nat) (hm : m < 4) (w : World) :
    Calls Tryd.prog 26 #[.slice (some ⟨g, 0, none⟩) m cap] w fun e w' => Pan e ∧ Below w.heap.size w w' := by
  have hm' : (m : Int) < 4 := by omega
  go_enter Tryd.func26, Tryd.ntmps26
  go_wp2
  exact ⟨rfl, ⟨_, _, rfl⟩, (Below.refl _ _).alloc (Nat.le_refl _) _⟩

set_option maxRecDepth 100000 in
set_option maxHeartbeats 2000000 in
theorem mustRead_bad (g cap m : Nat) (hm : 4 ≤ m) (hcap : m ≤ cap) (hcm : cap ≤ maxLen) (d0 d1 d2 d3 : Int) (b0 : 0 ≤ d0 ∧ d0 ≤ 255) (b1 : 0 ≤ d1 ∧ d1 ≤ 255) (b2 : 0 ≤ d2 ∧ d2 ≤ 255) (b3 : 0 ≤ d3 ∧ d3 ≤ 255) (hk : inb d1 1 11 = false ∨ (inb d1 1 11 = true ∧ m ≠ 6 + 3 * pc d1)) (w : World) (hL : PcAt w) (hg : g < w.heap.size) (c0 : w.cell? ⟨g, 0, none⟩ = some (.int .u8 d0)) (c1 : w.cell? ⟨g, 1, none⟩ = some (.int .u8 d1)) (c2 : w.cell? ⟨g, 2, none⟩ = some (.int .u8 d2)) (c3 : w.cell? ⟨g, 3, none⟩ = some (.int .u8 d3)) :
    Calls Tryd.prog 26 #[.slice (some ⟨g, 0, none⟩) m cap] w fun e w' => Pan e ∧ Below w.heap.size w w' := by
  have e0 := i64_byte b0
  have e1 := i64_byte b1
  have hm0n : 0 < m := by omega
  have hm1 : (0 : Int) < (m : Int) := by omega
  have hm2 : (1 : Int) < (m : Int) := by omega
  have hm3 : (4 : Int) ≤ (cap : Int) := by omega
  have hm' : decide ((m : Int) < 4) = false := decide_eq_false (by omega)
  have n2 : ¬ cap = 2 := by omega
  go_enter Tryd.func26, Tryd.ntmps26
  go_upto_region 3 with fail
  go_cut [3] from 8 (fun s3 wx => s3 = .pointer (some ⟨w.heap.size + 1, 0, none⟩) ∧ wx = ((w.alloc (.cells (cmdV 0 0 0 0 0 0) 26)).alloc (.cells (cmdV d0 (256 * d2 + d3) d1 0 0 0) 26)).drew)
  case first =>
    go_region_held3 (fun w' => w'.cell? ⟨g, 0, none⟩ = some (.int .u8 d0) ∧ w'.cell? ⟨g, 1, none⟩ = some (.int .u8 d1) ∧ w'.cell? ⟨g, 2, none⟩ = some (.int .u8 d2) ∧ w'.cell? ⟨g, 3, none⟩ = some (.int .u8 d3)) (go_keep) (first | (go_at_call 42; refine (numberIn_2 g 2 (cap - 2) d2 d3 b2.1 b2.2 b3.1 b3.2 _ (by simp [*]) (by simp [*])).mono ?_; rintro e w' ⟨rfl, rfl⟩))
    all_goals
      go_wp2_with fail
      go_meet
      case rel => exact ⟨rfl, rfl⟩
  case rest =>
    obtain ⟨rfl, rfl⟩ := hcut
    clear e0 e1 hm'
    have A1 : Below w.heap.size w ((w.alloc (.cells (cmdV 0 0 0 0 0 0) 26)).alloc (.cells (cmdV d0 (256 * d2 + d3) d1 0 0 0) 26)).drew := (((Below.refl w.heap.size w).alloc (Nat.le_refl _) _).alloc (by rw [size_new]; omega) _).drew
    have C1 : Blk ((w.alloc (.cells (cmdV 0 0 0 0 0 0) 26)).alloc (.cells (cmdV d0 (256 * d2 + d3) d1 0 0 0) 26)).drew (w.heap.size + 1) (cmdV d0 (256 * d2 + d3) d1 0 0 0) 26 := by have h := Blk.new (w.alloc (.cells (cmdV 0 0 0 0 0 0) 26)) (cmdV d0 (256 * d2 + d3) d1 0 0 0) 26; rw [size_new] at h; exact h
    have R1 : Blk ((w.alloc (.cells (cmdV 0 0 0 0 0 0) 26)).alloc (.cells (cmdV d0 (256 * d2 + d3) d1 0 0 0) 26)).drew w.heap.size (cmdV 0 0 0 0 0 0) 26 := (Blk.new w (cmdV 0 0 0 0 0 0) 26).alloc _
    have cP := implParamsOf d1 _ (hL.later A1)
    go_wp2_with fail
    rcases hk with hk | ⟨hk, hne⟩
    · rcases po_cases d1 with ⟨h, q1, q2⟩ | ⟨h, q1, q2⟩
      · rw [q1, q2] at cP
        clear q1 q2
        refine cP.mono ?_
        rintro e w2 ⟨rfl, k2⟩
        go_wp2
        exact ⟨rfl, ⟨_, _, rfl⟩, (A1.trans (k2.mono A1.size)).alloc (A1.trans (k2.mono A1.size)).size _⟩
      · rw [h] at hk; cases hk
    · rcases po_cases d1 with ⟨h, q1, q2⟩ | ⟨h, q1, q2⟩
      · rw [h] at hk; cases hk
      · rw [q1, q2] at cP
        have hpl := pc_le d1
        have hne' : ((m : Int) != 4 + (pc d1 : Int) * 3 + 2) = true := by simp; omega
        clear q1 q2 hne
        refine cP.mono ?_
        rintro e w2 ⟨rfl, k2⟩
        go_wp2
        exact ⟨rfl, ⟨_, _, rfl⟩, (A1.trans (k2.mono A1.size)).alloc (A1.trans (k2.mono A1.size)).size _⟩
end Go.Proofs.YtcpgbhjnhahecaaDoor
