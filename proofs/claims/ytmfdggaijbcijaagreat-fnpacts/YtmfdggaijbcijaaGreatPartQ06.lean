/- Texts of mine put together (a claim holds at most 60 files): BrdDraws. -/
import Derived.Test.YtmfdggaijbcijaaGreatPartQ02
import Derived.Test.YtmfdggaijbcijaaGreatPartQ05
import Derived.Deep.RegionHeld3
import Derived.Deep.Cut
import Derived.Deep.CutRange

/- BrdDraws -/
/- Contracts of the draws of a unit: it is ten numbers, and nothing that was there turns but the source. Condition: the code has at most 1048576 bytes, which can be read. -/
section
namespace Go.Proofs.YtmfdggaijbcijaaGreat
open Go.ChangeShapes Go.WideShapes Go.ChangeAt Go.RowKit
set_option linter.unusedVariables false

/- a block of memory is these cells -/
def Blk (w : World) (g : Nat) (cs : Array Value) (t : TypeId) : Prop := w.heap[g]? = some (Obj.cells cs t (0, 0))
theorem Blk.lt {w : World} {g : Nat} {cs : Array Value} {t : TypeId} (h : Blk w g cs t) : g < w.heap.size := (Array.getElem?_eq_some_iff.1 h).1
theorem Blk.cell {w : World} {g : Nat} {cs : Array Value} {t : TypeId} (h : Blk w g cs t) {i : Nat} {v : Value} (hi : cs[i]? = some v) : w.cell? ⟨g, i, none⟩ = some v := by
  unfold Blk at h
  simp [World.cell?, h, hi]
theorem Blk.frozen {w : World} {g : Nat} {cs : Array Value} {t : TypeId} (h : Blk w g cs t) (i : Nat) : w.frozen? ⟨g, i, none⟩ = false := by
  unfold Blk at h
  simp [World.frozen?, h]
theorem Blk.below {w w' : World} {g : Nat} {cs : Array Value} {t : TypeId} (h : Blk w g cs t) (hb : Below w.heap.size w w') : Blk w' g cs t := by
  unfold Blk; rw [hb.block g h.lt]; exact h
theorem Blk.new (w : World) (cs : Array Value) (t : TypeId) : Blk (w.alloc (.cells cs t)) w.heap.size cs t := by
  show (w.heap.push _)[w.heap.size]? = _
  simp
theorem Blk.alloc {w : World} {g : Nat} {cs : Array Value} {t : TypeId} (h : Blk w g cs t) (o : Obj) : Blk (w.alloc o) g cs t := h.below ((Below.refl _ _).alloc (Nat.le_refl _) o)
theorem Blk.drew {w : World} {g : Nat} {cs : Array Value} {t : TypeId} (h : Blk w g cs t) : Blk w.drew g cs t := h
theorem Blk.set {w : World} {g : Nat} {cs : Array Value} {t : TypeId} (h : Blk w g cs t) (i : Nat) (v : Value) : Blk (w.setCell ⟨g, i, none⟩ v) g (cs.setIfInBounds i v) t := by
  unfold Blk at *
  simp [World.setCell, Array.getElem?_modify, h]
theorem Blk.setOther {w : World} {g : Nat} {cs : Array Value} {t : TypeId} (h : Blk w g cs t) {a : Addr} (ha : g ≠ a.block) (v : Value) : Blk (w.setCell a v) g cs t := by
  unfold Blk at *
  rw [Below.heap_setCell _ _ _ _ ha]; exact h
theorem Blk.grown {w w' : World} {g : Nat} {cs : Array Value} {t : TypeId} {row : Option Nat} (h : Blk w g cs t) (hg : w.grownBy w' row) (hne : some g ≠ row) : Blk w' g cs t := by
  unfold Blk; rw [hg.block g h.lt hne]; exact h
theorem Blk.unit {w : World} {g : Nat} {x : K10} {t : TypeId} (h : Blk w g x.v t) : U1 w g 0 x :=
  ⟨h.cell rfl, h.cell rfl, h.cell rfl, h.cell rfl, h.cell rfl, h.cell rfl, h.cell rfl, h.cell rfl, h.cell rfl, h.cell rfl, h.lt⟩
theorem grown_at {w W : World} {row : Option Nat} (h : w.grownBy W row) {a : Addr} (ha : w.heap.size ≤ a.block) (v : Value) : w.grownBy (W.setCell a v) row := by
  obtain ⟨h1, h2, h3, h4, h5⟩ := h
  exact ⟨h1, h2, h3, by simpa [World.setCell] using h4, fun i hi hn => by rw [Below.heap_setCell _ _ _ _ (by omega)]; exact h5 i hi hn⟩

/- a code that can be read -/
structure Cx (w0 : World) (a : Option Addr) (len : Nat) : Prop where
  hb : Bytes w0 a len w0.heap.size
  hl : len ≤ 1048576
/- behind the start w of a draw out of the source of w0: it has drawn at most n times, and nothing of w turned but the source -/
structure Dn (w0 w W : World) (a : Option Addr) (len cap : Nat) (n : Int) : Prop where
  lt : w0.heap.size < w.heap.size
  st : ∃ t : Int, 0 ≤ t ∧ t ≤ n ∧ St w0 W a len cap t
  gr : w.grownBy W (some w0.heap.size)
theorem Dn.le {w0 w W : World} {a : Option Addr} {len cap : Nat} {n : Int} (h : Dn w0 w W a len cap n) : w0.heap.size < W.heap.size := Nat.lt_of_lt_of_le h.lt h.gr.size
theorem Dn.self {w0 w W : World} {a : Option Addr} {len cap : Nat} {n : Int} (h : Dn w0 w W a len cap n) : Dn w0 W W a len cap n := ⟨h.le, h.st, grown_refl _ _⟩
theorem Dn.trans {w0 w W W' : World} {a : Option Addr} {len cap : Nat} {n m : Int} (h : Dn w0 w W a len cap n) (k : Dn w0 W W' a len cap m) : Dn w0 w W' a len cap m := ⟨h.lt, k.st, grown_trans h.gr k.gr⟩
theorem Dn.mono {w0 w W : World} {a : Option Addr} {len cap : Nat} {n m : Int} (h : Dn w0 w W a len cap n) (hm : n ≤ m) : Dn w0 w W a len cap m := by
  obtain ⟨t, h0, h1, s⟩ := h.st
  exact ⟨h.lt, ⟨t, h0, by omega, s⟩, h.gr⟩
theorem Dn.alloc {w0 w W : World} {a : Option Addr} {len cap : Nat} {n : Int} (h : Dn w0 w W a len cap n) (o : Obj) : Dn w0 w (W.alloc o) a len cap n := by
  obtain ⟨t, h0, h1, s⟩ := h.st
  exact ⟨h.lt, ⟨t, h0, h1, s.alloc o⟩, grown_trans h.gr (World.grownBy_alloc W o _)⟩
theorem Dn.drew {w0 w W : World} {a : Option Addr} {len cap : Nat} {n : Int} (h : Dn w0 w W a len cap n) : Dn w0 w W.drew a len cap n := by
  obtain ⟨t, h0, h1, s⟩ := h.st
  exact ⟨h.lt, ⟨t, h0, h1, ⟨s.src, s.bel.drew⟩⟩, ⟨h.gr.os, h.gr.tape, h.gr.output, h.gr.size, h.gr.block⟩⟩
theorem Dn.set {w0 w W : World} {a : Option Addr} {len cap : Nat} {n : Int} (h : Dn w0 w W a len cap n) {p : Addr} (hp : w.heap.size ≤ p.block) (v : Value) : Dn w0 w (W.setCell p v) a len cap n := by
  obtain ⟨t, h0, h1, s⟩ := h.st
  have hl := h.lt
  refine ⟨h.lt, ⟨t, h0, h1, ⟨?_, s.bel.setCell (by omega) v⟩⟩, grown_at h.gr hp v⟩
  unfold Src
  rw [Below.heap_setCell _ _ _ _ (by omega)]; exact s.src
/- a list of one's own has grown -/
theorem Dn.push {w0 w W W' : World} {a : Option Addr} {len cap : Nat} {n : Int} {r : Option Nat} (h : Dn w0 w W a len cap n) (k : W.grownBy W' r) (hr : ∀ q, r = some q → w.heap.size ≤ q) : Dn w0 w W' a len cap n := by
  obtain ⟨t, h0, h1, s⟩ := h.st
  have hl := h.lt
  have hle := h.le
  refine ⟨h.lt, ⟨t, h0, h1, ⟨s.src.kept k (fun e => by have := hr _ e.symm; omega), s.bel.grown k (Nat.le_of_lt hle) (fun q hq => by have := hr q hq; omega)⟩⟩, ?_⟩
  exact ⟨k.os.trans h.gr.os, k.tape.trans h.gr.tape, k.output.trans h.gr.output, Nat.le_trans h.gr.size k.size, fun i hi hne => (k.block i (Nat.lt_of_lt_of_le hi h.gr.size) (fun e => by have := hr i e.symm; omega)).trans (h.gr.block i hi hne)⟩
theorem Dn.below {w0 w W : World} {a : Option Addr} {len cap : Nat} {n : Int} (h : Dn w0 w W a len cap n) : Below w0.heap.size w0 W := by
  obtain ⟨t, h0, h1, s⟩ := h.st
  exact s.bel

theorem drawsD {w0 w W : World} {a : Option Addr} {len cap : Nat} {n : Int} (cx : Cx w0 a len) (d : Dn w0 w W a len cap n) (k : Int) (hn : n ≤ 900000) (hk : 1 ≤ k) (hk2 : k ≤ 1000000000) :
    Calls Tryz.prog 41 #[.pointer (some ⟨w0.heap.size, 0, none⟩), .int .i64 k] W fun e w' => ∃ r : Int, e = .returned (.int .i64 r) ∧ 0 ≤ r ∧ r < k ∧ Dn w0 w w' a len cap (n + 1) ∧ W.grownBy w' (some w0.heap.size) := by
  obtain ⟨t, h0, h1, s⟩ := d.st
  refine (draws W w0.heap.size a len cap t k s.src (cx.hb.kept s.bel) cx.hl h0 (by omega) hk hk2).mono ?_
  rintro e w' ⟨r, rfl, hp, hp2, hs, hg⟩
  exact ⟨r, rfl, hp, hp2, ⟨d.lt, ⟨t + 1, by omega, by omega, ⟨hs, s.bel.trans (grown_below hg (Nat.le_of_lt s.src.lt))⟩⟩, grown_trans d.gr hg⟩, hg⟩
theorem pickD (P : Int → Prop) {w0 w W : World} {l : List Value} {T : TypeId} {q m m' : Nat} {a : Option Addr} {len cap : Nat} {n : Int} (cx : Cx w0 a len) (hq : W.heap.size = q) (d : Dn w0 w W a len cap n)
    (hn : n ≤ 900000) (hm : 1 ≤ m) (hm2 : m ≤ 1000000) (hr : IntRow P l) (hlm : l.length = m) :
    Calls Tryz.prog 66 #[.pointer (some ⟨w0.heap.size, 0, none⟩), .slice (some ⟨q, 0, none⟩) m m'] (W.alloc (.cells l.toArray T)) fun e w' => ∃ r : Int, e = .returned (.int .i64 r) ∧ P r ∧ Dn w0 w w' a len cap (n + 1) ∧ W.grownBy w' (some w0.heap.size) := by
  subst hq
  obtain ⟨t, h0, h1, s⟩ := d.st
  have s' := s.alloc (.cells l.toArray T)
  refine (pick P _ w0.heap.size W.heap.size m m' a len cap t s'.src (cx.hb.kept s'.bel) cx.hl h0 (by omega) hm hm2 (by have := d.le; omega) (row_new hr _ _ _ hlm.symm)).mono ?_
  rintro e w' ⟨r, rfl, hp, hs, hg⟩
  have hg' := grown_trans (World.grownBy_alloc W (.cells l.toArray T) _) hg
  exact ⟨r, rfl, hp, ⟨d.lt, ⟨t + 1, by omega, by omega, ⟨hs, s'.bel.trans (grown_below hg (Nat.le_of_lt s'.src.lt))⟩⟩, grown_trans d.gr hg'⟩, hg'⟩
def PAny (x : Int) : Prop := True
def PTile (x : Int) : Prop := 0 ≤ x ∧ x ≤ 11
theorem tileD {w0 w W : World} {a : Option Addr} {len cap : Nat} {n : Int} (cx : Cx w0 a len) (d : Dn w0 w W a len cap n) (hn : n ≤ 900000) :
    Calls Tryz.prog 121 #[.pointer (some ⟨w0.heap.size, 0, none⟩)] W fun e w' => ∃ r : Int, e = .returned (.int .i64 r) ∧ PTile r ∧ Dn w0 w w' a len cap (n + 1) ∧ W.grownBy w' (some w0.heap.size) := by
  go_enter Tryz.func121, Tryz.ntmps121
  go_wp2_with fail
  refine (pickD PTile cx rfl d hn (by omega) (by omega) (by simp [IntRow, PTile]) (by rfl)).mono ?_
  rintro e w1 ⟨r, rfl, hp, d1, g1⟩
  go_wp2_with fail
  go_ret
  exact ⟨r, rfl, hp, d1, g1⟩
theorem chanceD {w0 w W : World} {a : Option Addr} {len cap : Nat} {n : Int} (cx : Cx w0 a len) (d : Dn w0 w W a len cap n) (k : Int) (hn : n ≤ 900000) (hk : 1 ≤ k) (hk2 : k ≤ 1000000000) :
    Calls Tryz.prog 67 #[.pointer (some ⟨w0.heap.size, 0, none⟩), .int .i64 k] W fun e w' => ∃ r : Bool, e = .returned (.bool r) ∧ Dn w0 w w' a len cap (n + 1) ∧ W.grownBy w' (some w0.heap.size) := by
  go_enter Tryz.func67, Tryz.ntmps67
  go_wp2_with fail
  refine (drawsD cx d k hn hk hk2).mono ?_
  rintro e w1 ⟨r, rfl, _, _, d1, g1⟩
  go_wp2_with fail
  go_ret
  exact ⟨_, rfl, d1, g1⟩
theorem resultU {w : World} {p : Nat} {x : K10} {f : Func} {k : Nat} (hf : f.results = #[.cell k 113]) (h : Blk w p x.v 113) (T : Array Value) (hT : T[k]?.getD undef = .pointer (some ⟨p, 0, none⟩)) :
    (results f T).run Tryz.prog w = .ok (.agg x.v) w := by
  obtain ⟨c0, c1, c2, c3, c4, c5, c6, c7, c8, c9, _⟩ := h.unit
  simp [results, hf, go_sem, hT, c0, c1, c2, c3, c4, c5, c6, c7, c8, c9]
abbrev set10 (W : World) (g : Nat) (x : K10) : World := (((((((((W.setCell ⟨g, 0, none⟩ (.int .i64 x.c0)).setCell ⟨g, 1, none⟩ (.int .i64 x.c1)).setCell ⟨g, 2, none⟩ (.int .i64 x.c2)).setCell ⟨g, 3, none⟩ (.int .i64 x.c3)).setCell ⟨g, 4, none⟩ (.int .i64 x.c4)).setCell ⟨g, 5, none⟩ (.int .i64 x.c5)).setCell ⟨g, 6, none⟩ (.int .i64 x.c6)).setCell ⟨g, 7, none⟩ (.int .i64 x.c7)).setCell ⟨g, 8, none⟩ (.int .i64 x.c8)).setCell ⟨g, 9, none⟩ (.int .i64 x.c9)
theorem fillU {w0 w W : World} {a : Option Addr} {len cap : Nat} {n : Int} (d : Dn w0 w W a len cap n) {g : Nat} (hg : w.heap.size ≤ g) {y : K10} {t : TypeId} (R : Blk W g y.v t) (x : K10) :
    Dn w0 w (set10 W g x) a len cap n ∧ Blk (set10 W g x) g x.v t := by
  refine ⟨((((((((((d.set (p := ⟨g, 0, none⟩) hg _).set (p := ⟨g, 1, none⟩) hg _).set (p := ⟨g, 2, none⟩) hg _).set (p := ⟨g, 3, none⟩) hg _).set (p := ⟨g, 4, none⟩) hg _).set (p := ⟨g, 5, none⟩) hg _).set (p := ⟨g, 6, none⟩) hg _).set (p := ⟨g, 7, none⟩) hg _).set (p := ⟨g, 8, none⟩) hg _).set (p := ⟨g, 9, none⟩) hg _), ?_⟩
  have s0 : Blk _ g #[.int .i64 x.c0, .int .i64 y.c1, .int .i64 y.c2, .int .i64 y.c3, .int .i64 y.c4, .int .i64 y.c5, .int .i64 y.c6, .int .i64 y.c7, .int .i64 y.c8, .int .i64 y.c9] t := R.set 0 (.int .i64 x.c0)
  have s1 : Blk _ g #[.int .i64 x.c0, .int .i64 x.c1, .int .i64 y.c2, .int .i64 y.c3, .int .i64 y.c4, .int .i64 y.c5, .int .i64 y.c6, .int .i64 y.c7, .int .i64 y.c8, .int .i64 y.c9] t := s0.set 1 (.int .i64 x.c1)
  have s2 : Blk _ g #[.int .i64 x.c0, .int .i64 x.c1, .int .i64 x.c2, .int .i64 y.c3, .int .i64 y.c4, .int .i64 y.c5, .int .i64 y.c6, .int .i64 y.c7, .int .i64 y.c8, .int .i64 y.c9] t := s1.set 2 (.int .i64 x.c2)
  have s3 : Blk _ g #[.int .i64 x.c0, .int .i64 x.c1, .int .i64 x.c2, .int .i64 x.c3, .int .i64 y.c4, .int .i64 y.c5, .int .i64 y.c6, .int .i64 y.c7, .int .i64 y.c8, .int .i64 y.c9] t := s2.set 3 (.int .i64 x.c3)
  have s4 : Blk _ g #[.int .i64 x.c0, .int .i64 x.c1, .int .i64 x.c2, .int .i64 x.c3, .int .i64 x.c4, .int .i64 y.c5, .int .i64 y.c6, .int .i64 y.c7, .int .i64 y.c8, .int .i64 y.c9] t := s3.set 4 (.int .i64 x.c4)
  have s5 : Blk _ g #[.int .i64 x.c0, .int .i64 x.c1, .int .i64 x.c2, .int .i64 x.c3, .int .i64 x.c4, .int .i64 x.c5, .int .i64 y.c6, .int .i64 y.c7, .int .i64 y.c8, .int .i64 y.c9] t := s4.set 5 (.int .i64 x.c5)
  have s6 : Blk _ g #[.int .i64 x.c0, .int .i64 x.c1, .int .i64 x.c2, .int .i64 x.c3, .int .i64 x.c4, .int .i64 x.c5, .int .i64 x.c6, .int .i64 y.c7, .int .i64 y.c8, .int .i64 y.c9] t := s5.set 6 (.int .i64 x.c6)
  have s7 : Blk _ g #[.int .i64 x.c0, .int .i64 x.c1, .int .i64 x.c2, .int .i64 x.c3, .int .i64 x.c4, .int .i64 x.c5, .int .i64 x.c6, .int .i64 x.c7, .int .i64 y.c8, .int .i64 y.c9] t := s6.set 7 (.int .i64 x.c7)
  have s8 : Blk _ g #[.int .i64 x.c0, .int .i64 x.c1, .int .i64 x.c2, .int .i64 x.c3, .int .i64 x.c4, .int .i64 x.c5, .int .i64 x.c6, .int .i64 x.c7, .int .i64 x.c8, .int .i64 y.c9] t := s7.set 8 (.int .i64 x.c8)
  have s9 : Blk _ g #[.int .i64 x.c0, .int .i64 x.c1, .int .i64 x.c2, .int .i64 x.c3, .int .i64 x.c4, .int .i64 x.c5, .int .i64 x.c6, .int .i64 x.c7, .int .i64 x.c8, .int .i64 x.c9] t := s8.set 9 (.int .i64 x.c9)
  exact s9
set_option maxRecDepth 20000 in
set_option maxHeartbeats 8000000 in
theorem l4DrawUnit_c {w0 w : World} {a : Option Addr} {len cap : Nat} {n : Int} (cx : Cx w0 a len) (d : Dn w0 w w a len cap n) (id : Int) (hn : n ≤ 800000) (i0 : 0 ≤ id) (i1 : id ≤ 1000) :
    Calls Tryz.prog 106 #[.pointer (some ⟨w0.heap.size, 0, none⟩), .int .i64 id] w fun e w' => ∃ x : K10, e = .returned (.agg x.v) ∧ Dn w0 w w' a len cap (n + 8) := by
  have R0 := Blk.new w K10.z.v 113
  have hne : some w.heap.size ≠ some w0.heap.size := by have := d.lt; simp; omega
  have dA := d.alloc (.cells K10.z.v 113)
  go_enter Tryz.func106, Tryz.ntmps106
  go_wp2_with fail
  refine (pickD PAny cx (size_new w (.cells K10.z.v 113)) dA (by omega) (by omega) (by omega) (by simp [IntRow, PAny]) (by rfl)).mono ?_
  rintro e w1 ⟨o, rfl, _, d1, g1⟩
  have R1 := R0.grown g1 hne
  clear R0 dA g1
  go_wp2_with fail
  refine (tileD cx d1 (by omega)).mono ?_
  rintro e w2 ⟨x, rfl, _, d2, g2⟩
  have R2 := R1.grown g2 hne
  clear R1 d1 g2
  go_wp2_with fail
  refine (tileD cx d2 (by omega)).mono ?_
  rintro e w3 ⟨y, rfl, _, d3, g3⟩
  have R3 := R2.grown g3 hne
  clear R2 d2 g3
  go_wp2_with fail
  refine (pickD PAny cx rfl d3 (by omega) (by omega) (by omega) (by simp [IntRow, PAny]) (by rfl)).mono ?_
  rintro e w4 ⟨l, rfl, _, d4, g4⟩
  have R4 := R3.grown g4 hne
  clear R3 d3 g4
  go_wp2_with fail
  refine (pickD PAny cx rfl d4 (by omega) (by omega) (by omega) (by simp [IntRow, PAny]) (by rfl)).mono ?_
  rintro e w5 ⟨c, rfl, _, d5, g5⟩
  have R5 := (R4.grown g5 hne).alloc (.cells (K10.v ⟨id, o, x, y, l, c, 0, 0, 0, 0⟩) 113)
  have hRC : w.heap.size < w5.heap.size := (R4.grown g5 hne).lt
  have C5 := Blk.new w5 (K10.v ⟨id, o, x, y, l, c, 0, 0, 0, 0⟩) 113
  have hne5 : some w5.heap.size ≠ some w0.heap.size := by have := d5.le; simp; omega
  replace d5 := d5.alloc (.cells (K10.v ⟨id, o, x, y, l, c, 0, 0, 0, 0⟩) 113)
  have hRC2 : w.heap.size ≠ w5.heap.size := by omega
  clear R4 d4 g5
  go_wp2_with fail
  refine (drawsD cx d5 5 (by omega) (by omega) (by omega)).mono ?_
  rintro e w6 ⟨r, rfl, r0, r1, d6, g6⟩
  have R6 := R5.grown g6 hne
  have C6 := C5.grown g6 hne5
  clear R5 C5 d5 g6
  have hr : r = 0 ∨ r = 1 ∨ r = 2 ∨ ((r == 0) = false ∧ (r == 1) = false ∧ (r == 2) = false) := by
    by_cases e0 : r = 0
    · exact .inl e0
    by_cases e1 : r = 1
    · exact .inr (.inl e1)
    by_cases e2 : r = 2
    · exact .inr (.inr (.inl e2))
    exact .inr (.inr (.inr ⟨beq_false_of_ne e0, beq_false_of_ne e1, beq_false_of_ne e2⟩))
  rcases hr with rfl | rfl | rfl | ⟨e0, e1, e2⟩
  · clear r0 r1
    have p6 := C6.cell (i := 6) rfl
    have f6 := C6.frozen 6
    have l6 := C6.lt
    have C7 : Blk (w6.setCell ⟨w5.heap.size, 6, none⟩ (.int .i64 1)) w5.heap.size (K10.v ⟨id, o, x, y, l, c, 1, 0, 0, 0⟩) 113 := C6.set 6 (.int .i64 1)
    have R7 := R6.setOther (a := ⟨w5.heap.size, 6, none⟩) hRC2 (.int .i64 1)
    have d7 := d6.set (p := ⟨w5.heap.size, 6, none⟩) (Nat.le_of_lt hRC) (.int .i64 1)
    clear C6 R6 d6
    go_wp2_with fail
    refine (tileD cx d7 (by omega)).mono ?_
    rintro e w8 ⟨tx, rfl, _, d8, g8⟩
    have R8 := R7.grown g8 hne
    have C8 := C7.grown g8 hne5
    clear C7 R7 d7 g8 p6 f6 l6
    have p7 := C8.cell (i := 7) rfl
    have f7 := C8.frozen 7
    have l7 := C8.lt
    have C9 : Blk (w8.setCell ⟨w5.heap.size, 7, none⟩ (.int .i64 tx)) w5.heap.size (K10.v ⟨id, o, x, y, l, c, 1, tx, 0, 0⟩) 113 := C8.set 7 (.int .i64 tx)
    have R9' := R8.setOther (a := ⟨w5.heap.size, 7, none⟩) hRC2 (.int .i64 tx)
    have d9 := d8.set (p := ⟨w5.heap.size, 7, none⟩) (Nat.le_of_lt hRC) (.int .i64 tx)
    clear C8 R8 d8
    go_wp2_with fail
    refine (tileD cx d9 (by omega)).mono ?_
    rintro e w10 ⟨ty, rfl, _, d10, g10⟩
    have R8 := R9'.grown g10 hne
    have C8 := C9.grown g10 hne5
    clear C9 R9' d9 g10 p7 f7 l7
    have C9 : Blk (w10.setCell ⟨w5.heap.size, 8, none⟩ (.int .i64 ty)) w5.heap.size (K10.v ⟨id, o, x, y, l, c, 1, tx, ty, 0⟩) 113 := C8.set 8 (.int .i64 ty)
    have R9 := R8.setOther (a := ⟨w5.heap.size, 8, none⟩) hRC2 (.int .i64 ty)
    have d11 := d10.set (p := ⟨w5.heap.size, 8, none⟩) (Nat.le_of_lt hRC) (.int .i64 ty)
    obtain ⟨q0, q1, q2, q3, q4, q5, q6, q7, q8, q9, ql⟩ := C8.unit
    obtain ⟨u0, u1, u2, u3, u4, u5, u6, u7, u8, u9, ul⟩ := R8.unit
    have f8 := C8.frozen 8
    have z0 := R8.frozen 0
    have z1 := R8.frozen 1
    have z2 := R8.frozen 2
    have z3 := R8.frozen 3
    have z4 := R8.frozen 4
    have z5 := R8.frozen 5
    have z6 := R8.frozen 6
    have z7 := R8.frozen 7
    have z8 := R8.frozen 8
    have z9 := R8.frozen 9
    go_wp2_with fail
    obtain ⟨D9, R10⟩ := fillU d11 (Nat.le_refl _) R9 ⟨id, o, x, y, l, c, 1, tx, ty, 0⟩
    exact bodyPost_ret (v := .agg (K10.v ⟨id, o, x, y, l, c, 1, tx, ty, 0⟩)) (resultU Tryz.results106 R10 _ rfl) rfl ⟨_, rfl, D9.mono (by omega)⟩
  · clear r0 r1
    have p6 := C6.cell (i := 6) rfl
    have f6 := C6.frozen 6
    have l6 := C6.lt
    have C7 : Blk (w6.setCell ⟨w5.heap.size, 6, none⟩ (.int .i64 2)) w5.heap.size (K10.v ⟨id, o, x, y, l, c, 2, 0, 0, 0⟩) 113 := C6.set 6 (.int .i64 2)
    have R7 := R6.setOther (a := ⟨w5.heap.size, 6, none⟩) hRC2 (.int .i64 2)
    have d7 := d6.set (p := ⟨w5.heap.size, 6, none⟩) (Nat.le_of_lt hRC) (.int .i64 2)
    clear C6 R6 d6
    go_wp2_with fail
    refine (drawsD cx d7 3 (by omega) (by omega) (by omega)).mono ?_
    rintro e w8 ⟨py, rfl, _, _, d8, g8⟩
    have R8 := R7.grown g8 hne
    have C8 := C7.grown g8 hne5
    clear C7 R7 d7 g8 p6 f6 l6
    have C9 : Blk (w8.setCell ⟨w5.heap.size, 9, none⟩ (.int .i64 py)) w5.heap.size (K10.v ⟨id, o, x, y, l, c, 2, 0, 0, py⟩) 113 := C8.set 9 (.int .i64 py)
    have R9 := R8.setOther (a := ⟨w5.heap.size, 9, none⟩) hRC2 (.int .i64 py)
    have d11 := d8.set (p := ⟨w5.heap.size, 9, none⟩) (Nat.le_of_lt hRC) (.int .i64 py)
    obtain ⟨q0, q1, q2, q3, q4, q5, q6, q7, q8, q9, ql⟩ := C8.unit
    obtain ⟨u0, u1, u2, u3, u4, u5, u6, u7, u8, u9, ul⟩ := R8.unit
    have f9 := C8.frozen 9
    have z0 := R8.frozen 0
    have z1 := R8.frozen 1
    have z2 := R8.frozen 2
    have z3 := R8.frozen 3
    have z4 := R8.frozen 4
    have z5 := R8.frozen 5
    have z6 := R8.frozen 6
    have z7 := R8.frozen 7
    have z8 := R8.frozen 8
    have z9 := R8.frozen 9
    go_wp2_with fail
    obtain ⟨D9, R10⟩ := fillU d11 (Nat.le_refl _) R9 ⟨id, o, x, y, l, c, 2, 0, 0, py⟩
    exact bodyPost_ret (v := .agg (K10.v ⟨id, o, x, y, l, c, 2, 0, 0, py⟩)) (resultU Tryz.results106 R10 _ rfl) rfl ⟨_, rfl, D9.mono (by omega)⟩
  · clear r0 r1
    obtain ⟨py, Hpy⟩ : ∃ py : Int, Hid (py = id % 6 + 1) := ⟨_, rfl⟩
    have C9 : Blk ((w6.setCell ⟨w5.heap.size, 6, none⟩ (.int .i64 3)).setCell ⟨w5.heap.size, 9, none⟩ (.int .i64 (id % 6 + 1))) w5.heap.size (K10.v ⟨id, o, x, y, l, c, 3, 0, 0, id % 6 + 1⟩) 113 := (C6.set 6 (.int .i64 3)).set 9 (.int .i64 (id % 6 + 1))
    have R9 := (R6.setOther (a := ⟨w5.heap.size, 6, none⟩) hRC2 (.int .i64 3)).setOther (a := ⟨w5.heap.size, 9, none⟩) hRC2 (.int .i64 (id % 6 + 1))
    have d11 := (d6.set (p := ⟨w5.heap.size, 6, none⟩) (Nat.le_of_lt hRC) (.int .i64 3)).set (p := ⟨w5.heap.size, 9, none⟩) (Nat.le_of_lt hRC) (.int .i64 (id % 6 + 1))
    obtain ⟨q0, q1, q2, q3, q4, q5, q6, q7, q8, q9, ql⟩ := C6.unit
    obtain ⟨u0, u1, u2, u3, u4, u5, u6, u7, u8, u9, ul⟩ := R6.unit
    have f6 := C6.frozen 6
    have f9 := C6.frozen 9
    have z0 := R6.frozen 0
    have z1 := R6.frozen 1
    have z2 := R6.frozen 2
    have z3 := R6.frozen 3
    have z4 := R6.frozen 4
    have z5 := R6.frozen 5
    have z6 := R6.frozen 6
    have z7 := R6.frozen 7
    have z8 := R6.frozen 8
    have z9 := R6.frozen 9
    go_wp2_with fail
    obtain ⟨D9, R10⟩ := fillU d11 (Nat.le_refl _) R9 ⟨id, o, x, y, l, c, 3, 0, 0, id % 6 + 1⟩
    exact bodyPost_ret (v := .agg (K10.v ⟨id, o, x, y, l, c, 3, 0, 0, id % 6 + 1⟩)) (resultU Tryz.results106 R10 _ rfl) rfl ⟨_, rfl, D9.mono (by omega)⟩
  · clear r0 r1
    obtain ⟨q0, q1, q2, q3, q4, q5, q6, q7, q8, q9, ql⟩ := C6.unit
    obtain ⟨u0, u1, u2, u3, u4, u5, u6, u7, u8, u9, ul⟩ := R6.unit
    have z0 := R6.frozen 0
    have z1 := R6.frozen 1
    have z2 := R6.frozen 2
    have z3 := R6.frozen 3
    have z4 := R6.frozen 4
    have z5 := R6.frozen 5
    have z6 := R6.frozen 6
    have z7 := R6.frozen 7
    have z8 := R6.frozen 8
    have z9 := R6.frozen 9
    go_wp2_with fail
    obtain ⟨D9, R10⟩ := fillU d6 (Nat.le_refl _) R6 ⟨id, o, x, y, l, c, 0, 0, 0, 0⟩
    exact bodyPost_ret (v := .agg (K10.v ⟨id, o, x, y, l, c, 0, 0, 0, 0⟩)) (resultU Tryz.results106 R10 _ rfl) rfl ⟨_, rfl, D9.mono (by omega)⟩
end Go.Proofs.YtmfdggaijbcijaaGreat
end
