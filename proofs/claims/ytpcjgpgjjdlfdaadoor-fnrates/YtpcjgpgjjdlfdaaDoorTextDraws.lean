/- Contracts of the draws of chapter 2's texts: each hands back a short text, and nothing that was there turns. Condition: the code has at most 1048576 bytes, which can be read. -/
import Derived.Test.YtpcjgpgjjdlfdaaDoorRateDraws
import Derived.Test.YtpcjgpgjjdlfdaaDoorCells
import Derived.Laws.Concat
namespace Go.Proofs.YtpcjgpgjjdlfdaaDoor
open Go.ChangeShapes Go.WideShapes Go.ChangeAt Go.RowKit
set_option linter.unusedVariables false

/- a list of texts, none longer than m -/
def StrRow (m : Nat) : List Value → Prop
  | [] => True
  | v :: r => (∃ s : ByteArray, v = .string s ∧ s.size ≤ m) ∧ StrRow m r
theorem StrRow.at {m : Nat} : ∀ {l : List Value} (_ : StrRow m l) (i : Nat) (_ : i < l.length), ∃ s : ByteArray, s.size ≤ m ∧ l[i]? = some (.string s)
  | v :: r, h, 0, _ => by obtain ⟨⟨x, rfl, hx⟩, _⟩ := h; exact ⟨x, hx, rfl⟩
  | v :: r, h, i + 1, hi => by obtain ⟨_, h2⟩ := h; exact StrRow.at h2 i (by simpa using hi)
theorem str_new {m : Nat} {l : List Value} (h : StrRow m l) (w : World) (t : TypeId) (i : Nat) (hi : i < l.length) : ∃ s : ByteArray, s.size ≤ m ∧ (w.alloc (.cells l.toArray t)).cell? ⟨w.heap.size, i, none⟩ = some (.string s) := by
  obtain ⟨s, hs, e⟩ := h.at i hi
  exact ⟨s, hs, cell_new _ _ _ _ _ (by simpa using e)⟩

theorem str_after {w w3 : World} {l : Array Value} {t : TypeId} {p m : Nat} (hg : (w.alloc (.cells l t)).grownBy w3 (some p)) (hp : p ≠ w.heap.size) (h : StrRow m l.toList) (i : Nat) (hi : i < l.size) :
    ∃ s : ByteArray, s.size ≤ m ∧ w3.cell? ⟨w.heap.size, i, none⟩ = some (.string s) := by
  obtain ⟨s, hs, hc⟩ := str_new h w t i (by simpa using hi)
  exact ⟨s, hs, hg.cell (by simpa using hc) (by simpa using fun e => hp e.symm)⟩

set_option maxHeartbeats 1000000 in
theorem drawRateOf (w : World) (a : Option Addr) (len cap : Nat) (hb : Bytes w a len w.heap.size) (hl : len ≤ 1048576) :
    Calls Tryd.prog 7 #[.slice a len cap] w fun e w' => ∃ t : ByteArray, e = .returned (.string t) ∧ t.size ≤ 20 ∧ Below w.heap.size w w' := by
  go_enter Tryd.func7, Tryd.ntmps7
  go_wp2_with fail
  refine (source w a len cap).mono ?_
  rintro e w1 ⟨rfl, st1⟩
  go_wp2_with fail
  have stA := st1.alloc (.cells #[.string ⟨#[]⟩, .string ⟨#[45]⟩] 9)
  refine (draws _ w.heap.size a len cap 0 2 stA.src (hb.kept stA.bel) hl (by omega) (by omega) (by omega) (by omega)).mono ?_
  rintro e w2 ⟨r, rfl, r0, r1, hs2, hg⟩
  have hlt := st1.src.lt
  obtain ⟨s, hs, hc2⟩ := str_after (m := 1) hg (by omega) (by repeat (first | exact trivial | refine ⟨⟨_, rfl, by decide⟩, ?_⟩)) r.toNat (by simp; omega)
  have stB : St w w2 a len cap (0 + 1) := ⟨hs2, stA.bel.trans (grown_below hg (Nat.le_of_lt stA.src.lt))⟩
  clear hg hs2 stA st1
  go_wp2_with fail
  have stC := stB.alloc (.cells #[.string ⟨#[110, 97, 110]⟩, .string ⟨#[105, 110, 102]⟩, .string ⟨#[48]⟩, .string ⟨#[49, 46, 53]⟩, .string ⟨#[49, 50, 46, 50, 53]⟩, .string ⟨#[57, 57, 57, 57, 46, 55, 53]⟩, .string ⟨#[49, 48, 48, 48, 48]⟩, .string ⟨#[49, 46, 53, 48]⟩, .string ⟨#[49, 46, 53, 48, 48]⟩, .string ⟨#[49, 46, 50]⟩, .string ⟨#[48, 48, 55]⟩, .string ⟨#[46, 53]⟩, .string ⟨#[49, 46]⟩, .string ⟨#[120]⟩, .string ⟨#[]⟩, .string ⟨#[48, 46, 55, 53, 48]⟩, .string ⟨#[49, 46, 53, 46, 53]⟩] 9)
  refine (draws _ w.heap.size a len cap (0 + 1) 17 stC.src (hb.kept stC.bel) hl (by omega) (by omega) (by omega) (by omega)).mono ?_
  rintro e w3 ⟨r2, rfl, r20, r21, hs3, hg⟩
  have hlt2 := stB.src.lt
  obtain ⟨s2, hs2, hc3⟩ := str_after (m := 7) hg (by omega) (by repeat (first | exact trivial | refine ⟨⟨_, rfl, by decide⟩, ?_⟩)) r2.toNat (by simp; omega)
  have hB : Below w.heap.size w w3 := stC.bel.trans (grown_below hg (Nat.le_of_lt stC.src.lt))
  clear hg hs3 stB stC
  have hadd := fun w => run_string_add_sum (P := Tryd.prog) w s s2 (by omega)
  go_wp2_with fail
  go_ret
  exact ⟨_, rfl, by rw [ByteArray.size_append]; omega, hB⟩
theorem drawGainText (w : World) (a : Option Addr) (len cap : Nat) (hb : Bytes w a len w.heap.size) (hl : len ≤ 1048576) :
    Calls Tryd.prog 13 #[.slice a len cap] w fun e w' => ∃ t : ByteArray, e = .returned (.string t) ∧ t.size ≤ 20 ∧ Below w.heap.size w w' := by
  go_enter Tryd.func13, Tryd.ntmps13
  go_wp2_with fail
  refine (drawRateOf w a len cap hb hl).mono ?_
  rintro e w1 ⟨t, rfl, ht, hb1⟩
  go_wp2_with fail
  go_ret
  exact ⟨t, rfl, ht, hb1⟩
end Go.Proofs.YtpcjgpgjjdlfdaaDoor
