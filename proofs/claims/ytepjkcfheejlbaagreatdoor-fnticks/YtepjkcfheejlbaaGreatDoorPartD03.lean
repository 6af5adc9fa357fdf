/- Texts of mine put together (a claim holds at most 60 files): TickDraws, TickDraws2, BrdDraws5, TickDraws3. -/
import Derived.Test.YtepjkcfheejlbaaGreatDoorPartD02
import Derived.Test.YtepjkcfheejlbaaGreatDoorPartT09
import Derived.Deep.CutRange
import Derived.Test.YtepjkcfheejlbaaGreatDoorPartT22

/- TickDraws -/
/- Contracts of the draws of chapter 5: a board on which something may happen, rooms. Condition: the code has at most 1048576 bytes, which can be read. -/
section
namespace Go.Proofs.YtepjkcfheejlbaaGreatDoor
open Go.ChangeShapes Go.WideShapes Go.ChangeAt Go.RowKit
open Bd
set_option linter.unusedVariables false

theorem l5Home_any (v : Int) (h0 : -3 ≤ v) (h1 : v ≤ 3) (w : World) :
    Calls Tryz.prog 53 #[.int .i64 v] w fun e w' => ∃ x y : Int, e = .returned (.tuple #[.int .i64 x, .int .i64 y]) ∧ w' = w := by
  have h : v = -3 ∨ v = -2 ∨ v = -1 ∨ v = 0 ∨ v = 1 ∨ v = 2 ∨ v = 3 := by omega
  clear h0 h1
  rcases h with rfl | rfl | rfl | rfl | rfl | rfl | rfl
  all_goals
    go_enter Tryz.func53, Tryz.ntmps53
    go_wp2
    go_ret2
    exact ⟨_, _, rfl, rfl⟩
/- a store into the first unit -/
theorem first_set {w0 w W : World} {a : Option Addr} {len cap : Nat} {n : Int} {g c rb bb f : Nat} {us : List K10} {u : K10} {fs : List K3} {vf : Value} {cs cs' : Array Value} (A : AtU W w.heap.size g c 0 us u) (F : SlF W w.heap.size vf fs) (R : Blk W rb cs 27) (B : Blk W bb cs' 27) (d : Dn w0 w W a len cap n) (hf : f < 10) (x : Int) :
    AtU (W.setCell ⟨g, f, none⟩ (.int .i64 x)) w.heap.size g c 0 (us.set 0 (u.upd f x)) (u.upd f x) ∧ SlF (W.setCell ⟨g, f, none⟩ (.int .i64 x)) w.heap.size vf fs ∧ Blk (W.setCell ⟨g, f, none⟩ (.int .i64 x)) rb cs 27 ∧ Blk (W.setCell ⟨g, f, none⟩ (.int .i64 x)) bb cs' 27 ∧ Dn w0 w (W.setCell ⟨g, f, none⟩ (.int .i64 x)) a len cap n := by
  obtain ⟨cur, hg, _⟩ := A.blk
  have hs := A.set f hf x
  rw [Nat.zero_mul, Nat.zero_add] at hs
  refine ⟨hs, F.of_block (fun q hq => Below.heap_setCell _ _ _ _ ?_), R.setOther (a := ⟨g, f, none⟩) (blk_ne R hg (by decide)) _, B.setOther (a := ⟨g, f, none⟩) (blk_ne B hg (by decide)) _, d.set (p := ⟨g, f, none⟩) A.b _⟩
  rcases F.2 with ⟨h1, _⟩ | ⟨g', cap', cur', hv, _, hg', _⟩
  · rw [h1] at hq; cases hq
  · rw [hv] at hq
    have e : g' = q := Option.some.inj hq
    subst e
    exact blk_ne hg' hg (by decide)
/- a board that is being drawn: the answer's block, its own block, its lists -/
structure BD (w0 w W : World) (a : Option Addr) (len cap : Nat) (n : Int) (rb bb m m' : Nat) (pv pf : Option Addr) (cv cf : Nat) (us : List K10) (fs : List K3) : Prop where
  R : Blk W rb #[.slice none 0 0, .slice none 0 0] 27
  B : Blk W bb #[.slice pv m cv, .slice pf m' cf] 27
  S : SlU W w.heap.size (.slice pv m cv) us
  F : SlF W w.heap.size (.slice pf m' cf) fs
  l : us.length = m
  l' : fs.length = m'
  d : Dn w0 w W a len cap n
theorem BD.grow {w0 w W W' : World} {a : Option Addr} {len cap : Nat} {n n' : Int} {rb bb m m' : Nat} {pv pf : Option Addr} {cv cf : Nat} {us : List K10} {fs : List K3} (h : BD w0 w W a len cap n rb bb m m' pv pf cv cf us fs) (hr : some rb ≠ some w0.heap.size) (hb : some bb ≠ some w0.heap.size) (hl : w0.heap.size < w.heap.size) (g : W.grownBy W' (some w0.heap.size)) (d : Dn w0 w W' a len cap n') : BD w0 w W' a len cap n' rb bb m m' pv pf cv cf us fs :=
  ⟨h.R.grown g hr, h.B.grown g hb, h.S.drawn g hl, h.F.drawn g hl, h.l, h.l', d⟩
theorem BD.drew {w0 w W : World} {a : Option Addr} {len cap : Nat} {n : Int} {rb bb m m' : Nat} {pv pf : Option Addr} {cv cf : Nat} {us : List K10} {fs : List K3} (h : BD w0 w W a len cap n rb bb m m' pv pf cv cf us fs) : BD w0 w W.drew a len cap n rb bb m m' pv pf cv cf us fs :=
  ⟨h.R.drew, h.B.drew, h.S, h.F, h.l, h.l', h.d.drew⟩
theorem BD.set {w0 w W : World} {a : Option Addr} {len cap : Nat} {n : Int} {rb bb m m' g : Nat} {pf : Option Addr} {cv cf : Nat} {us : List K10} {fs : List K3} (h : BD w0 w W a len cap n rb bb m m' (some ⟨g, 0, none⟩) pf cv cf us fs) (hm : 0 < m) (f : Nat) (hf : f < 10) (x : Int) :
    ∃ us', BD w0 w (W.setCell ⟨g, f, none⟩ (.int .i64 x)) a len cap n rb bb m m' (some ⟨g, 0, none⟩) pf cv cf us' fs := by
  obtain ⟨u, hu⟩ : ∃ u, us[0]? = some u := ⟨_, List.getElem?_eq_getElem (by have := h.l; omega)⟩
  obtain ⟨g', c', e, A⟩ := h.S.at hu
  simp only [Value.slice.injEq, Option.some.injEq, Addr.mk.injEq] at e
  obtain ⟨⟨rfl, _⟩, _, rfl⟩ := e
  obtain ⟨A', F', R', B', d'⟩ := first_set A h.F h.R h.B h.d hf x
  have S' := A'.s
  rw [List.length_set, h.l] at S'
  exact ⟨_, R', B', S', F', by rw [List.length_set]; exact h.l, h.l', d'⟩
theorem BD.addr {w0 w W : World} {a : Option Addr} {len cap : Nat} {n : Int} {rb bb m m' : Nat} {pv pf : Option Addr} {cv cf : Nat} {us : List K10} {fs : List K3} (h : BD w0 w W a len cap n rb bb m m' pv pf cv cf us fs) (hm : 0 < m) : ∃ g, pv = some ⟨g, 0, none⟩ ∧ g < W.heap.size ∧ ∀ i, W.frozen? ⟨g, i, none⟩ = false := by
  obtain ⟨u, hu⟩ : ∃ u, us[0]? = some u := ⟨_, List.getElem?_eq_getElem (by have := h.l; omega)⟩
  obtain ⟨g', c', e, A⟩ := h.S.at hu
  simp only [Value.slice.injEq] at e
  obtain ⟨rfl, _, rfl⟩ := e
  exact ⟨g', rfl, A.lt, A.frozen⟩
theorem BD.unit {w0 w W : World} {a : Option Addr} {len cap : Nat} {n : Int} {rb bb m m' g : Nat} {pf : Option Addr} {cv cf : Nat} {us : List K10} {fs : List K3} (h : BD w0 w W a len cap n rb bb m m' (some ⟨g, 0, none⟩) pf cv cf us fs) {k : Nat} (hk : k < m) : ∃ u : K10, U1 W g (k * 10) u := by
  obtain ⟨u, hu⟩ : ∃ u, us[k]? = some u := ⟨_, List.getElem?_eq_getElem (by have := h.l; omega)⟩
  obtain ⟨g', c', e, A⟩ := h.S.at hu
  simp only [Value.slice.injEq, Option.some.injEq, Addr.mk.injEq] at e
  obtain ⟨⟨rfl, _⟩, _, rfl⟩ := e
  exact ⟨u, A.one⟩
theorem BD.field {w0 w W : World} {a : Option Addr} {len cap : Nat} {n : Int} {rb bb m m' : Nat} {pv pf : Option Addr} {cv cf : Nat} {us : List K10} {fs : List K3} (h : BD w0 w W a len cap n rb bb m m' pv pf cv cf us fs) (hm : 0 < m') : ∃ (g : Nat) (x y : Int), pf = some ⟨g, 0, none⟩ ∧ g < W.heap.size ∧ W.cell? ⟨g, 0, none⟩ = some (.int .i64 x) ∧ W.cell? ⟨g, 1, none⟩ = some (.int .i64 y) := by
  obtain ⟨u, hu⟩ : ∃ u, fs[0]? = some u := ⟨_, List.getElem?_eq_getElem (by have := h.l'; omega)⟩
  obtain ⟨g', c', e, A⟩ := h.F.at hu
  simp only [Value.slice.injEq] at e
  obtain ⟨rfl, _, rfl⟩ := e
  have o := A.one
  rw [Nat.zero_mul] at o
  exact ⟨g', _, _, rfl, A.lt, o.1, by simpa using o.2.1⟩
/- the cells that a phase reads -/
theorem BD.two {w0 w W : World} {a : Option Addr} {len cap : Nat} {n : Int} {rb bb m m' g : Nat} {pf : Option Addr} {cv cf : Nat} {us : List K10} {fs : List K3} (h : BD w0 w W a len cap n rb bb m m' (some ⟨g, 0, none⟩) pf cv cf us fs) (h1 : 1 < m) :
    ∃ x y z t : Int, W.cell? ⟨g, 12, none⟩ = some (.int .i64 x) ∧ W.cell? ⟨g, 13, none⟩ = some (.int .i64 y) ∧ bb < W.heap.size ∧ W.cell? ⟨bb, 0, none⟩ = some (.slice (some ⟨g, 0, none⟩) m cv) ∧ W.cell? ⟨g, 2, none⟩ = some (.int .i64 z) ∧ W.cell? ⟨g, 3, none⟩ = some (.int .i64 t) := by
  obtain ⟨u, hu⟩ := h.unit (k := 1) h1
  obtain ⟨u0, hu0⟩ := h.unit (k := 0) (by omega)
  rw [Nat.zero_mul] at hu0
  rw [Nat.one_mul] at hu
  exact ⟨_, _, _, _, hu.c2, hu.c3, h.B.lt, h.B.cell (i := 0) rfl, by simpa using hu0.c2, by simpa using hu0.c3⟩
theorem BD.one {w0 w W : World} {a : Option Addr} {len cap : Nat} {n : Int} {rb bb m m' g : Nat} {pf : Option Addr} {cv cf : Nat} {us : List K10} {fs : List K3} (h : BD w0 w W a len cap n rb bb m m' (some ⟨g, 0, none⟩) pf cv cf us fs) (h1 : 0 < m) :
    ∃ o z t y : Int, bb < W.heap.size ∧ W.cell? ⟨bb, 0, none⟩ = some (.slice (some ⟨g, 0, none⟩) m cv) ∧ W.cell? ⟨bb, 1, none⟩ = some (.slice pf m' cf) ∧ W.cell? ⟨g, 1, none⟩ = some (.int .i64 o) ∧ W.cell? ⟨g, 2, none⟩ = some (.int .i64 z) ∧ W.cell? ⟨g, 3, none⟩ = some (.int .i64 t) ∧ W.cell? ⟨g, 5, none⟩ = some (.int .i64 y) := by
  obtain ⟨u0, hu0⟩ := h.unit (k := 0) (by omega)
  rw [Nat.zero_mul] at hu0
  exact ⟨_, _, _, _, h.B.lt, h.B.cell (i := 0) rfl, h.B.cell (i := 1) rfl, by simpa using hu0.c1, by simpa using hu0.c2, by simpa using hu0.c3, by simpa using hu0.c5⟩
theorem BD.frz {w0 w W : World} {a : Option Addr} {len cap : Nat} {n : Int} {rb bb m m' g : Nat} {pf : Option Addr} {cv cf : Nat} {us : List K10} {fs : List K3} (h : BD w0 w W a len cap n rb bb m m' (some ⟨g, 0, none⟩) pf cv cf us fs) : ∀ i, W.frozen? ⟨g, i, none⟩ = false := by
  intro i
  rcases h.S.2 with ⟨h1, _⟩ | ⟨g', cap', cur, hv, _, hg, _⟩
  · simp at h1
  · simp only [Value.slice.injEq, Option.some.injEq, Addr.mk.injEq] at hv
    obtain ⟨⟨rfl, _⟩, _, rfl⟩ := hv
    simp [World.frozen?, hg]
end Go.Proofs.YtepjkcfheejlbaaGreatDoor
end

/- TickDraws2 -/
/- Contracts of the draws of chapter 5: a board on which something may happen, rooms. Condition: the code has at most 1048576 bytes, which can be read. -/
section
namespace Go.Proofs.YtepjkcfheejlbaaGreatDoor
open Go.ChangeShapes Go.WideShapes Go.ChangeAt Go.RowKit
open Bd
set_option linter.unusedVariables false

theorem iat4 {w : World} {g : Nat} {a b c d : Int} {t : TypeId} (h : Blk w g #[.int .i64 a, .int .i64 b, .int .i64 c, .int .i64 d] t) : IAt w g 0 [a, b, c, d] := by
  intro i x hi
  rw [Nat.zero_add]
  rcases i with _ | _ | _ | _ | i
  · simp at hi; subst hi; exact h.cell rfl
  · simp at hi; subst hi; exact h.cell rfl
  · simp at hi; subst hi; exact h.cell rfl
  · simp at hi; subst hi; exact h.cell rfl
  · simp at hi
theorem iat3 {w : World} {g : Nat} {a b c d : Int} {t : TypeId} (h : Blk w g #[.int .i64 a, .int .i64 b, .int .i64 c, .int .i64 d] t) : IAt w g 1 [b, c, d] := by
  intro i x hi
  rw [Nat.add_comm]
  exact iat4 h (i + 1) x (by simpa using hi) |> fun e => by simpa using e
theorem tmod4 (o : Int) : -3 ≤ o.tmod 4 ∧ o.tmod 4 ≤ 3 := by
  rcases Int.le_total 0 o with h | h
  · rw [Int.tmod_eq_emod_of_nonneg h]; omega
  · have e : o.tmod 4 = -((-o).tmod 4) := by rw [Int.neg_tmod, Int.neg_neg]
    rw [e, Int.tmod_eq_emod_of_nonneg (by omega)]; omega
set_option maxRecDepth 20000 in
set_option maxHeartbeats 8000000 in
theorem l5Draw_c {w0 w : World} {a : Option Addr} {len cap : Nat} {n : Int} (cx : Cx w0 a len) (d : Dn w0 w w a len cap n) (hn : n ≤ 400000) :
    Calls Tryz.prog 36 #[.pointer (some ⟨w0.heap.size, 0, none⟩)] w fun e w' => ∃ v f us fs, e = .returned (.agg #[v, f]) ∧ SlU w' w.heap.size v us ∧ SlF w' w.heap.size f fs ∧ us.length ≤ 8 ∧ fs.length ≤ 5 ∧ Dn w0 w w' a len cap (n + 303) := by
  have hlt := d.lt
  have R0 := Blk.new w #[.slice none 0 0, .slice none 0 0] 27
  have d0 := d.alloc (.cells #[.slice none 0 0, .slice none 0 0] 27)
  have hneR : some w.heap.size ≠ some w0.heap.size := by simp; omega
  obtain ⟨W1, HW1⟩ : ∃ W1, Hid (W1 = w.alloc (.cells #[.slice none 0 0, .slice none 0 0] 27)) := ⟨_, rfl⟩
  rw [← HW1.out] at R0 d0
  have hs1 : w.heap.size ≤ W1.heap.size := d0.gr.size
  go_enter Tryz.func36, Tryz.ntmps36
  go_wp2_with fail
  rw [← HW1.out]
  refine (l4Bent_c cx d0.self (by omega)).mono ?_
  rintro e w2 ⟨v, f, us, fs, rfl, S2, F2, hus, hfs, e2⟩
  have d2 := d0.trans e2
  have R2 := R0.grown e2.gr hneR
  obtain ⟨pv, cv, hv, _⟩ := S2.form
  obtain ⟨pf, cf, hf, _⟩ := F2.form
  obtain ⟨m, Hm⟩ : ∃ m, Hid (us.length = m) := ⟨_, rfl⟩
  obtain ⟨m', Hm'⟩ : ∃ m, Hid (fs.length = m) := ⟨_, rfl⟩
  rw [Hm.out] at hv hus
  rw [Hm'.out] at hf hfs
  subst hv hf
  obtain ⟨W3, HW3⟩ : ∃ W3, Hid (W3 = w2.alloc (.cells #[.slice pv m cv, .slice pf m' cf] 27)) := ⟨_, rfl⟩
  have hneB : some w2.heap.size ≠ some w0.heap.size := by have := d2.le; simp; omega
  have D3 : Hid (BD w0 w W3 a len cap (n + 300) w.heap.size w2.heap.size m m' pv pf cv cf us fs) := by
    rw [HW3.out]
    exact ⟨R2.alloc _, Blk.new w2 _ _, (S2.mono hs1).alloc _, (F2.mono hs1).alloc _, Hm.out, Hm'.out, d2.alloc _⟩
  clear S2 F2 R2 R0 e2 d2
  go_upto_region 2 with fail
  rw [← HW3.out]
  -- the first test
  go_cut [15] from 8 to 15 (fun s wx => ∃ r : Bool, s = .bool r ∧ (r = true → 1 < m) ∧ Hid (BD w0 w wx a len cap (n + 301) w.heap.size w2.heap.size m m' pv pf cv cf us fs))
  case first =>
    have b0 := D3.out.B.cell (i := 0) rfl
    have bl := D3.out.B.lt
    by_cases h1 : 1 < m
    · have h1' : (1 : Int) < (m : Int) := by omega
      go_wp2_with fail
      refine (chanceD cx D3.out.d 2 (by omega) (by omega) (by omega)).mono ?_
      rintro e w4 ⟨r, rfl, d4, g4⟩
      go_wp2_with fail
      go_meet
      case rel => exact ⟨r, rfl, fun _ => h1, D3.out.grow hneR hneB hlt g4 (d4.mono (by omega))⟩
    · have h1' : decide ((1 : Int) < (m : Int)) = false := decide_eq_false (by omega)
      go_wp2_with fail
      go_meet
      case rel => exact ⟨false, rfl, (fun h => by cases h), ⟨D3.out.R, D3.out.B, D3.out.S, D3.out.F, D3.out.l, D3.out.l', D3.out.d.mono (by omega)⟩⟩
  case rest =>
    obtain ⟨r, rfl, hr, D4⟩ := hcut
    obtain ⟨w4, hw4⟩ : ∃ y : World, y = wc := ⟨_, rfl⟩
    subst hw4
    clear D3
    go_upto_if 15 with fail
    go_cut [] from 16 to 33 (fun wx => ∃ us', Hid (BD w0 w wx a len cap (n + 301) w.heap.size w2.heap.size m m' pv pf cv cf us' fs))
    case first =>
      cases r
      · go_wp2_with fail
        go_meet
        case rel => exact ⟨us, D4⟩
      · have h1 := hr rfl
        clear hr
        obtain ⟨g, rfl, gl, fz⟩ := D4.out.addr (by omega)
        obtain ⟨x, y, z, t, x2, x3, bl, b0, y2, y3⟩ := D4.out.two h1
        have f2 := fz 2
        go_upto_region 3 with fail
        go_region
        all_goals
          obtain ⟨us5, D5'⟩ := D4.out.set (by omega) 2 (by omega) x
          have D5 := D5'.drew
          clear D5'
          obtain ⟨w5, hw5⟩ : ∃ y, Hid (y = (w4.setCell ⟨g, 2, none⟩ (.int .i64 x)).drew) := ⟨_, rfl⟩
          rw [← hw5.out] at D5
          have fz5 := D5.frz
          try rw [← hw5.out]
          clear x2 x3 bl b0 y2 y3 f2 fz gl D4
          obtain ⟨x', y', z', t', x2, x3, bl, b0, y2, y3⟩ := D5.two h1
          have f3 := fz5 3
          go_upto_region 4 with fail
          go_region
          all_goals
            obtain ⟨us6, D6⟩ := D5.set (by omega) 3 (by omega) y'
            go_wp2_with fail
            go_meet
            case rel => exact ⟨us6, D6.drew⟩
    case rest =>
      obtain ⟨us7, D7⟩ := hcut
      obtain ⟨w7, hw7⟩ : ∃ y : World, y = wc := ⟨_, rfl⟩
      subst hw7
      clear D4 hr
      go_upto_region 5 with fail
      go_cut [47] from 34 to 47 (fun s wx => ∃ r : Bool, s = .bool r ∧ (r = true → 0 < m ∧ 0 < m') ∧ Hid (BD w0 w wx a len cap (n + 302) w.heap.size w2.heap.size m m' pv pf cv cf us7 fs))
      case first =>
        have b0 := D7.out.B.cell (i := 0) rfl
        have b1 := D7.out.B.cell (i := 1) rfl
        have bl := D7.out.B.lt
        by_cases h1 : 0 < m
        · have h1' : (0 : Int) < (m : Int) := by omega
          by_cases h2 : 0 < m'
          · have h2' : (0 : Int) < (m' : Int) := by omega
            go_wp2_with fail
            refine (chanceD cx D7.out.d 3 (by omega) (by omega) (by omega)).mono ?_
            rintro e w8 ⟨r, rfl, d8, g8⟩
            go_wp2_with fail
            go_meet
            case rel => exact ⟨r, rfl, fun _ => ⟨h1, h2⟩, D7.out.grow hneR hneB hlt g8 (d8.mono (by omega))⟩
          · have h2' : decide ((0 : Int) < (m' : Int)) = false := decide_eq_false (by omega)
            go_wp2_with fail
            go_meet
            case rel => exact ⟨false, rfl, (fun h => by cases h), ⟨D7.out.R, D7.out.B, D7.out.S, D7.out.F, D7.out.l, D7.out.l', D7.out.d.mono (by omega)⟩⟩
        · have h1' : decide ((0 : Int) < (m : Int)) = false := decide_eq_false (by omega)
          go_wp2_with fail
          go_meet
          case rel => exact ⟨false, rfl, (fun h => by cases h), ⟨D7.out.R, D7.out.B, D7.out.S, D7.out.F, D7.out.l, D7.out.l', D7.out.d.mono (by omega)⟩⟩
      case rest =>
        obtain ⟨r2, rfl, hr2, D8⟩ := hcut
        obtain ⟨w8, hw8⟩ : ∃ y : World, y = wc := ⟨_, rfl⟩
        subst hw8
        clear D7
        go_upto_if 47 with fail
        go_cut [] from 48 to 65 (fun wx => ∃ us', Hid (BD w0 w wx a len cap (n + 302) w.heap.size w2.heap.size m m' pv pf cv cf us' fs))
        case first =>
          cases r2
          · go_wp2_with fail
            go_meet
            case rel => exact ⟨us7, D8⟩
          · obtain ⟨h1, h2⟩ := hr2 rfl
            clear hr2
            obtain ⟨g, rfl, gl, fz⟩ := D8.out.addr h1
            obtain ⟨o, z, t, y, bl, b0, b1, y1, y2, y3, y5⟩ := D8.out.one h1
            obtain ⟨gf, fx, fy, rfl, gfl, c0, c1⟩ := D8.out.field h2
            have f2 := fz 2
            have h1' : (0 : Int) < (m : Int) := by omega
            have h2' : (0 : Int) < (m' : Int) := by omega
            go_upto_region 6 with fail
            go_region
            all_goals
              obtain ⟨us9, D9'⟩ := D8.out.set h1 2 (by omega) fx
              have D9 := D9'.drew
              clear D9'
              obtain ⟨w9, hw9⟩ : ∃ y, Hid (y = (w8.setCell ⟨g, 2, none⟩ (.int .i64 fx)).drew) := ⟨_, rfl⟩
              rw [← hw9.out] at D9
              have fz9 := D9.frz
              try rw [← hw9.out]
              clear bl b0 b1 y1 y2 y3 y5 f2 fz gl c0 c1 gfl D8
              obtain ⟨o', z', t', y', bl, b0, b1, y1, y2, y3, y5⟩ := D9.one h1
              obtain ⟨gf', fx', fy', egf, gfl, c0, c1⟩ := D9.field h2
              simp only [Option.some.injEq, Addr.mk.injEq, and_true] at egf
              subst egf
              have f3 := fz9 3
              go_upto_region 7 with fail
              go_region
              all_goals
                obtain ⟨us10, D10⟩ := D9.set h1 3 (by omega) fy'
                go_wp2_with fail
                go_meet
                case rel => exact ⟨us10, D10.drew⟩
        case rest =>
          obtain ⟨us11, D11⟩ := hcut
          obtain ⟨w11, hw11⟩ : ∃ y : World, y = wc := ⟨_, rfl⟩
          subst hw11
          clear D8 hr2
          go_upto_region 8 with fail
          go_cut [73] from 66 to 73 (fun s wx => ∃ r : Bool, s = .bool r ∧ (r = true → 0 < m) ∧ Hid (BD w0 w wx a len cap (n + 303) w.heap.size w2.heap.size m m' pv pf cv cf us11 fs))
          case first =>
            have b0 := D11.out.B.cell (i := 0) rfl
            have bl := D11.out.B.lt
            by_cases h1 : 0 < m
            · have h1' : (0 : Int) < (m : Int) := by omega
              go_wp2_with fail
              refine (chanceD cx D11.out.d 3 (by omega) (by omega) (by omega)).mono ?_
              rintro e w12 ⟨r, rfl, d12, g12⟩
              go_wp2_with fail
              go_meet
              case rel => exact ⟨r, rfl, fun _ => h1, D11.out.grow hneR hneB hlt g12 (d12.mono (by omega))⟩
            · have h1' : decide ((0 : Int) < (m : Int)) = false := decide_eq_false (by omega)
              go_wp2_with fail
              go_meet
              case rel => exact ⟨false, rfl, (fun h => by cases h), ⟨D11.out.R, D11.out.B, D11.out.S, D11.out.F, D11.out.l, D11.out.l', D11.out.d.mono (by omega)⟩⟩
          case rest =>
            obtain ⟨r3, rfl, hr3, D12⟩ := hcut
            obtain ⟨w12, hw12⟩ : ∃ y : World, y = wc := ⟨_, rfl⟩
            subst hw12
            clear D11
            go_upto_if 73 with fail
            go_cut [4, 5] from 74 to 97 (fun s4 s5 wx => ∃ us', Hid (BD w0 w wx a len cap (n + 303) w.heap.size w2.heap.size m m' pv pf cv cf us' fs))
            case first =>
              cases r3
              · go_wp2_with fail
                go_meet
                case rel => exact ⟨us11, D12⟩
              · have h1 := hr3 rfl
                clear hr3
                have h1' : (0 : Int) < (m : Int) := by omega
                obtain ⟨g, rfl, gl, fz⟩ := D12.out.addr h1
                obtain ⟨o, z, t, y, bl, b0, b1, y1, y2, y3, y5⟩ := D12.out.one h1
                have hq := tmod4 o
                go_wp2_with fail
                refine (l5Home_any _ hq.1 hq.2 _).mono ?_
                rintro e wq ⟨x, y, rfl, hwq⟩
                obtain rfl := hwq.symm
                have f2 := fz 2
                go_upto_region 11 with fail
                obtain ⟨us14, D14⟩ := D12.out.set h1 2 (by omega) x
                obtain ⟨w14, hw14⟩ : ∃ y, Hid (y = w12.setCell ⟨g, 2, none⟩ (.int .i64 x)) := ⟨_, rfl⟩
                rw [← hw14.out] at D14
                rw [← hw14.out]
                have f3 := D14.frz 3
                clear bl b0 b1 y1 y2 y3 y5 f2 fz gl D12
                obtain ⟨o', z', t', y', bl, b0, b1, y1, y2, y3, y5⟩ := D14.one h1
                go_upto_region 12 with fail
                obtain ⟨us15, D15⟩ := D14.set h1 3 (by omega) y
                obtain ⟨w15, hw15⟩ : ∃ z, Hid (z = w14.setCell ⟨g, 3, none⟩ (.int .i64 y)) := ⟨_, rfl⟩
                rw [← hw15.out] at D15
                rw [← hw15.out]
                have f5 := D15.frz 5
                clear bl b0 b1 y1 y2 y3 y5 f3 D14
                obtain ⟨o2, z2, t2, y2', bl, b0, b1, y1, y2, y3, y5⟩ := D15.one h1
                go_wp2_with fail
                obtain ⟨us16, D16⟩ := D15.set h1 5 (by omega) 20
                go_meet
                case rel => exact ⟨us16, D16⟩
            case rest =>
              obtain ⟨us13, D13⟩ := hcut
              obtain ⟨w13, hw13⟩ : ∃ y : World, y = wc := ⟨_, rfl⟩
              subst hw13
              have hus13 : us13.length ≤ 8 := by have := D13.out.l; omega
              have hfs13 : fs.length ≤ 5 := by have := Hm'.out; omega
              have q0 := D13.out.B.cell (i := 0) rfl
              have q1 := D13.out.B.cell (i := 1) rfl
              have bl := D13.out.B.lt
              have v0 := D13.out.R.cell (i := 0) rfl
              have v1 := D13.out.R.cell (i := 1) rfl
              have z0 := D13.out.R.frozen 0
              have z1 := D13.out.R.frozen 1
              have rl := D13.out.R.lt
              go_wp2_with fail
              have RR4 : Blk ((w13.setCell ⟨w.heap.size, 0, none⟩ (.slice pv m cv)).setCell ⟨w.heap.size, 1, none⟩ (.slice pf m' cf)) w.heap.size #[.slice pv m cv, .slice pf m' cf] 27 := (D13.out.R.set 0 (.slice pv m cv)).set 1 (.slice pf m' cf)
              have RR3 := D13.out.R.set 0 (.slice pv m cv)
              have dd4 := (D13.out.d.set (p := ⟨w.heap.size, 0, none⟩) (Nat.le_refl _) (.slice pv m cv)).set (p := ⟨w.heap.size, 1, none⟩) (Nat.le_refl _) (.slice pf m' cf)
              exact bodyPost_ret (v := .agg #[.slice pv m cv, .slice pf m' cf]) (resultB Tryz.results36 RR4 ⟨_, _, _, rfl⟩ ⟨_, _, _, rfl⟩ _ rfl) rfl ⟨_, _, us13, fs, rfl, (D13.out.S.setB D13.out.R (by decide) _).setB RR3 (by decide) _, (D13.out.F.setB D13.out.R (by decide) _).setB RR3 (by decide) _, hus13, hfs13, dd4⟩
set_option maxRecDepth 20000 in
set_option maxHeartbeats 8000000 in
theorem l5DrawRooms_c {w0 w : World} {a : Option Addr} {len cap : Nat} {n : Int} (cx : Cx w0 a len) (d : Dn w0 w w a len cap n) (hn : n ≤ 600000) :
    Calls Tryz.prog 37 #[.pointer (some ⟨w0.heap.size, 0, none⟩)] w fun e w' => ∃ gr og mr cr rm, e = .returned (.slice (some ⟨gr, og, none⟩) mr cr) ∧ rm.length = mr ∧ mr ≤ 4 ∧ IAt w' gr og rm ∧ w.heap.size ≤ gr ∧ gr < w'.heap.size ∧ Dn w0 w w' a len cap (n + 4) := by
  have hlt := d.lt
  go_enter Tryz.func37, Tryz.ntmps37
  go_wp2_with fail
  refine (pickD PAny cx rfl d (by omega) (by omega) (by omega) (by simp [IntRow, PAny]) (by rfl)).mono ?_
  rintro e w1 ⟨x, rfl, _, d1, g1⟩
  go_wp2_with fail
  refine (pickD PAny cx rfl d1 (by omega) (by omega) (by omega) (by simp [IntRow, PAny]) (by rfl)).mono ?_
  rintro e w2 ⟨y, rfl, _, d2, g2⟩
  obtain ⟨W3, HW3⟩ : ∃ W3, Hid (W3 = w2.alloc (.cells #[.int .i64 x, .int .i64 1000000, .int .i64 y, .int .i64 1000] 2)) := ⟨_, rfl⟩
  have R3 : Blk W3 w2.heap.size #[.int .i64 x, .int .i64 1000000, .int .i64 y, .int .i64 1000] 2 := by rw [HW3.out]; exact Blk.new w2 _ _
  have d3 : Dn w0 w W3 a len cap (n + 1 + 1) := by rw [HW3.out]; exact d2.alloc _
  have hne : some w2.heap.size ≠ some w0.heap.size := by have := d2.le; simp; omega
  have hw2 : w.heap.size ≤ w2.heap.size := d2.gr.size
  go_upto_region 2 with fail
  rw [← HW3.out]
  go_wp2_with fail
  refine (drawsD cx d3 14 (by omega) (by omega) (by omega)).mono ?_
  rintro e w4 ⟨r, rfl, r0, r1, d4, g4⟩
  have R4 := R3.grown g4 hne
  clear R3 d3 g4 g1 g2 d1
  by_cases h0 : r = 0
  · subst h0
    go_wp2_with fail
    refine (pickD PAny cx rfl d4 (by omega) (by omega) (by omega) (by simp [IntRow, PAny]) (by rfl)).mono ?_
    rintro e w5 ⟨z, rfl, _, d5, g5⟩
    have R5 := R4.grown g5 hne
    have c2 := R5.cell (i := 2) rfl
    have f2 := R5.frozen 2
    have bl := R5.lt
    have R6 : Blk (w5.setCell ⟨w2.heap.size, 2, none⟩ (.int .i64 z)) w2.heap.size #[.int .i64 x, .int .i64 1000000, .int .i64 z, .int .i64 1000] 2 := R5.set 2 (.int .i64 z)
    have d6 := d5.set (p := ⟨w2.heap.size, 2, none⟩) hw2 (.int .i64 z)
    go_wp2_with fail
    go_ret
    exact ⟨_, 0, 4, 4, [x, 1000000, z, 1000], rfl, rfl, by omega, iat4 R6, hw2, R6.lt, d6.mono (by omega)⟩
  · have h0' : (r == 0) = false := by simpa using h0
    by_cases h1 : r = 1
    · subst h1
      clear h0 h0'
      go_wp2_with fail
      go_ret
      exact ⟨_, 1, 3, 3, [1000000, y, 1000], rfl, rfl, by omega, iat3 R4, hw2, R4.lt, d4.mono (by omega)⟩
    · have h1' : (r == 1) = false := by simpa using h1
      go_wp2_with fail
      go_ret
      exact ⟨_, 0, 4, 4, [x, 1000000, y, 1000], rfl, rfl, by omega, iat4 R4, hw2, R4.lt, d4.mono (by omega)⟩
end Go.Proofs.YtepjkcfheejlbaaGreatDoor
end

/- BrdDraws5 -/
/- Contracts of the draws of PutUnit, OwnedBy and UnitOf: boards in memory of their own, a unit, a number. Condition: the code has at most 1048576 bytes, which can be read. -/
section
namespace Go.Proofs.YtepjkcfheejlbaaGreatDoor
open Go.ChangeShapes Go.WideShapes Go.ChangeAt Go.RowKit
set_option linter.unusedVariables false

theorem Dn.start {w0 w1 : World} {a : Option Addr} {len cap : Nat} (st : St w0 w1 a len cap 0) : Dn w0 w1 w1 a len cap 0 := ⟨st.src.lt, ⟨0, by omega, by omega, st⟩, grown_refl _ _⟩
theorem Blk.old {w0 w W : World} {a : Option Addr} {len cap : Nat} {n : Int} {g : Nat} {cs : Array Value} {t : TypeId} (h : Blk w0 g cs t) (d : Dn w0 w W a len cap n) : Blk W g cs t := by
  unfold Blk; rw [d.below.block g h.lt]; exact h
def PSmall (x : Int) : Prop := -100 ≤ x ∧ x ≤ 100
abbrev Z2 : Obj := .cells #[.slice none 0 0, .slice none 0 0] 27
end Go.Proofs.YtepjkcfheejlbaaGreatDoor
end

/- TickDraws3 -/
/- Contracts of the draws of TickBoard, TickMany, TickUnit and HomeOf: a board and rooms in memory of their own. Condition: the code has at most 1048576 bytes, which can be read. -/
section
namespace Go.Proofs.YtepjkcfheejlbaaGreatDoor
open Go.ChangeShapes Go.WideShapes Go.ChangeAt Go.RowKit
open Bd
set_option linter.unusedVariables false

theorem IAt.other {w : World} {g off : Nat} {l : List Int} (h : IAt w g off l) {b o : Nat} (hb : g ≠ b) (v : Value) : IAt (w.setCell ⟨b, o, none⟩ v) g off l := fun i x hi => by
  rw [World.cell?_of_block (a := ⟨g, off + i, none⟩) (Below.heap_setCell w ⟨b, o, none⟩ v g hb)]; exact h i x hi
theorem IAt.grown {w w' : World} {g off s : Nat} {l : List Int} (h : IAt w g off l) (k : w.grownBy w' (some s)) (hs : g ≠ s) : IAt w' g off l := fun i x hi => k.cell (h i x hi) (by simp; omega)
set_option maxRecDepth 20000 in
set_option maxHeartbeats 4000000 in
theorem drawTickBoard_c (w : World) (a : Option Addr) (len cap : Nat) (hb : Bytes w a len w.heap.size) (hl : len ≤ 1048576) :
    Calls Tryz.prog 21 #[.slice a len cap] w fun e w' => ∃ v f us fs gr og mr cr rm, e = .returned (.tuple #[.agg #[v, f], .slice (some ⟨gr, og, none⟩) mr cr]) ∧ SlU w' w.heap.size v us ∧ SlF w' w.heap.size f fs ∧ us.length ≤ 8 ∧ fs.length ≤ 5 ∧ rm.length = mr ∧ mr ≤ 4 ∧ IAt w' gr og rm ∧ gr < w'.heap.size ∧ Below w.heap.size w w' := by
  have A0 : Below w.heap.size w (w.alloc Z2) := (Below.refl _ _).alloc (Nat.le_refl _) _
  have R0 := Blk.new w #[.slice none 0 0, .slice none 0 0] 27
  have hb1 := hb.later A0
  obtain ⟨W0, hW⟩ : ∃ W0, Hid (W0 = w.alloc Z2) := ⟨_, rfl⟩
  have hW' : W0 = w.alloc Z2 := hW
  rw [← hW'] at A0 R0 hb1
  clear hW'
  have cx : Cx W0 a len := ⟨hb1, hl⟩
  go_enter Tryz.func21, Tryz.ntmps21
  go_wp2_with fail
  show Calls _ _ _ (w.alloc Z2) _
  have hW' : W0 = w.alloc Z2 := hW
  rw [← hW']
  clear hW hW'
  refine (source W0 a len cap).mono ?_
  rintro e w1 ⟨rfl, st1⟩
  have d1 := Dn.start st1
  go_wp2_with fail
  refine (l5Draw_c cx d1 (by omega)).mono ?_
  rintro e w2 ⟨v, f, us, fs, rfl, S2, F2, hus, hfs, d2⟩
  go_wp2_with fail
  refine (l5DrawRooms_c cx d2.self (by omega)).mono ?_
  rintro e wr ⟨gr, og, mr, cr, rm, rfl, hrm, hmr, Ir, hgr0, hgr, er⟩
  have d3 := d2.trans er
  have S3 := S2.drawn er.gr d1.lt
  have F3 := F2.drawn er.gr d1.lt
  have I3 := Ir
  have hg3 := hgr
  have hgl : w1.heap.size ≤ gr := Nat.le_trans d2.gr.size hgr0
  obtain ⟨wl, hwl⟩ : ∃ y : World, y = wr := ⟨_, rfl⟩
  subst hwl
  have R3 := R0.old d3
  have hw1 : w.heap.size ≤ w1.heap.size := Nat.le_of_lt (Nat.lt_of_le_of_lt A0.size d1.lt)
  have B3 := A0.trans (d3.below.mono A0.size)
  replace S3 := S3.mono hw1
  replace F3 := F3.mono hw1
  have hgw : gr ≠ w.heap.size := by have := d1.lt; have := A0.size; omega
  clear S2 F2 d2 d3 R0 A0 hb1 st1
  obtain ⟨pv, cv, nv, rfl⟩ := S3.frm
  obtain ⟨pf, cf, nf, rfl⟩ := F3.frm
  have r0 := R3.cell (i := 0) rfl
  have r1 := R3.cell (i := 1) rfl
  have z0 := R3.frozen 0
  have z1 := R3.frozen 1
  have rl := R3.lt
  go_wp2_with fail
  have R4 : Blk ((wl.setCell ⟨w.heap.size, 0, none⟩ (.slice pv nv cv)).setCell ⟨w.heap.size, 1, none⟩ (.slice pf nf cf)) w.heap.size #[.slice pv nv cv, .slice pf nf cf] 27 := (R3.set 0 (.slice pv nv cv)).set 1 (.slice pf nf cf)
  have R3' := R3.set 0 (.slice pv nv cv)
  have S4 := (S3.setB (o := 0) R3 (by decide) (.slice pv nv cv)).setB (o := 1) R3' (by decide) (.slice pf nf cf)
  have F4 := (F3.setB (o := 0) R3 (by decide) (.slice pv nv cv)).setB (o := 1) R3' (by decide) (.slice pf nf cf)
  have B4 := bel_set (bel_set B3 w.heap.size 0 (Nat.le_refl _) (.slice pv nv cv)) w.heap.size 1 (Nat.le_refl _) (.slice pf nf cf)
  have I4 := (I3.other (o := 0) hgw (.slice pv nv cv)).other (o := 1) hgw (.slice pf nf cf)
  have hg4 : gr < ((wl.setCell ⟨w.heap.size, 0, none⟩ (.slice pv nv cv)).setCell ⟨w.heap.size, 1, none⟩ (.slice pf nf cf)).heap.size := by simpa [World.setCell] using hg3
  have b0 := R4.cell (i := 0) rfl
  have b1 := R4.cell (i := 1) rfl
  refine bodyPost_ret (v := .tuple #[.agg #[.slice pv nv cv, .slice pf nf cf], .slice (some ⟨gr, og, none⟩) mr cr]) ?_ rfl ⟨_, _, us, fs, gr, og, mr, cr, rm, rfl, S4, F4, hus, hfs, hrm, hmr, I4, hg4, B4⟩
  simp [results, Tryz.results21, go_sem, b0, b1]
  done
set_option maxRecDepth 20000 in
set_option maxHeartbeats 4000000 in
theorem drawTickMany_c (w : World) (a : Option Addr) (len cap : Nat) (hb : Bytes w a len w.heap.size) (hl : len ≤ 1048576) :
    Calls Tryz.prog 9 #[.slice a len cap] w fun e w' => ∃ v f us fs gr og mr cr rm i, e = .returned (.tuple #[.agg #[v, f], .slice (some ⟨gr, og, none⟩) mr cr, .int .i64 i]) ∧ SlU w' w.heap.size v us ∧ SlF w' w.heap.size f fs ∧ us.length ≤ 8 ∧ fs.length ≤ 5 ∧ rm.length = mr ∧ mr ≤ 4 ∧ IAt w' gr og rm ∧ gr < w'.heap.size ∧ Below w.heap.size w w' := by
  have A0 : Below w.heap.size w (w.alloc Z2) := (Below.refl _ _).alloc (Nat.le_refl _) _
  have R0 := Blk.new w #[.slice none 0 0, .slice none 0 0] 27
  have hb1 := hb.later A0
  obtain ⟨W0, hW⟩ : ∃ W0, Hid (W0 = w.alloc Z2) := ⟨_, rfl⟩
  have hW' : W0 = w.alloc Z2 := hW
  rw [← hW'] at A0 R0 hb1
  clear hW'
  have cx : Cx W0 a len := ⟨hb1, hl⟩
  go_enter Tryz.func9, Tryz.ntmps9
  go_wp2_with fail
  show Calls _ _ _ (w.alloc Z2) _
  have hW' : W0 = w.alloc Z2 := hW
  rw [← hW']
  clear hW hW'
  refine (source W0 a len cap).mono ?_
  rintro e w1 ⟨rfl, st1⟩
  have d1 := Dn.start st1
  go_wp2_with fail
  refine (l5Draw_c cx d1 (by omega)).mono ?_
  rintro e w2 ⟨v, f, us, fs, rfl, S2, F2, hus, hfs, d2⟩
  go_wp2_with fail
  refine (l5DrawRooms_c cx d2.self (by omega)).mono ?_
  rintro e wr ⟨gr, og, mr, cr, rm, rfl, hrm, hmr, Ir, hgr0, hgr, er⟩
  have d3r := d2.trans er
  have Sr := S2.drawn er.gr d1.lt
  have Fr := F2.drawn er.gr d1.lt
  have hgl : w1.heap.size ≤ gr := Nat.le_trans d2.gr.size hgr0
  go_wp2_with fail
  refine (pickD PAny cx rfl d3r (by omega) (by omega) (by omega) (by simp [IntRow, PAny]) (by rfl)).mono ?_
  rintro e wl ⟨i, rfl, _, d3, gl⟩
  have S3 := Sr.drawn gl d1.lt
  have F3 := Fr.drawn gl d1.lt
  have I3 := Ir.grown gl (by have := d1.lt; omega)
  have hg3 : gr < wl.heap.size := Nat.lt_of_lt_of_le hgr gl.size
  clear d3r Sr Fr
  have R3 := R0.old d3
  have hw1 : w.heap.size ≤ w1.heap.size := Nat.le_of_lt (Nat.lt_of_le_of_lt A0.size d1.lt)
  have B3 := A0.trans (d3.below.mono A0.size)
  replace S3 := S3.mono hw1
  replace F3 := F3.mono hw1
  have hgw : gr ≠ w.heap.size := by have := d1.lt; have := A0.size; omega
  clear S2 F2 d2 d3 R0 A0 hb1 st1
  obtain ⟨pv, cv, nv, rfl⟩ := S3.frm
  obtain ⟨pf, cf, nf, rfl⟩ := F3.frm
  have r0 := R3.cell (i := 0) rfl
  have r1 := R3.cell (i := 1) rfl
  have z0 := R3.frozen 0
  have z1 := R3.frozen 1
  have rl := R3.lt
  go_wp2_with fail
  have R4 : Blk ((wl.setCell ⟨w.heap.size, 0, none⟩ (.slice pv nv cv)).setCell ⟨w.heap.size, 1, none⟩ (.slice pf nf cf)) w.heap.size #[.slice pv nv cv, .slice pf nf cf] 27 := (R3.set 0 (.slice pv nv cv)).set 1 (.slice pf nf cf)
  have R3' := R3.set 0 (.slice pv nv cv)
  have S4 := (S3.setB (o := 0) R3 (by decide) (.slice pv nv cv)).setB (o := 1) R3' (by decide) (.slice pf nf cf)
  have F4 := (F3.setB (o := 0) R3 (by decide) (.slice pv nv cv)).setB (o := 1) R3' (by decide) (.slice pf nf cf)
  have B4 := bel_set (bel_set B3 w.heap.size 0 (Nat.le_refl _) (.slice pv nv cv)) w.heap.size 1 (Nat.le_refl _) (.slice pf nf cf)
  have I4 := (I3.other (o := 0) hgw (.slice pv nv cv)).other (o := 1) hgw (.slice pf nf cf)
  have hg4 : gr < ((wl.setCell ⟨w.heap.size, 0, none⟩ (.slice pv nv cv)).setCell ⟨w.heap.size, 1, none⟩ (.slice pf nf cf)).heap.size := by simpa [World.setCell] using hg3
  have b0 := R4.cell (i := 0) rfl
  have b1 := R4.cell (i := 1) rfl
  refine bodyPost_ret (v := .tuple #[.agg #[.slice pv nv cv, .slice pf nf cf], .slice (some ⟨gr, og, none⟩) mr cr, .int .i64 i]) ?_ rfl ⟨_, _, us, fs, gr, og, mr, cr, rm, i, rfl, S4, F4, hus, hfs, hrm, hmr, I4, hg4, B4⟩
  simp [results, Tryz.results9, go_sem, b0, b1]
  done
set_option maxRecDepth 20000 in
set_option maxHeartbeats 4000000 in
theorem drawTickUnit_c (w : World) (a : Option Addr) (len cap : Nat) (hb : Bytes w a len w.heap.size) (hl : len ≤ 1048576) :
    Calls Tryz.prog 11 #[.slice a len cap] w fun e w' => ∃ v f us fs gr og mr cr rm i, e = .returned (.tuple #[.agg #[v, f], .int .i64 i, .slice (some ⟨gr, og, none⟩) mr cr]) ∧ SlU w' w.heap.size v us ∧ SlF w' w.heap.size f fs ∧ us.length ≤ 8 ∧ fs.length ≤ 5 ∧ rm.length = mr ∧ mr ≤ 4 ∧ IAt w' gr og rm ∧ gr < w'.heap.size ∧ 1 ≤ i ∧ i ≤ 7 ∧ Below w.heap.size w w' := by
  have A0 : Below w.heap.size w (w.alloc Z2) := (Below.refl _ _).alloc (Nat.le_refl _) _
  have R0 := Blk.new w #[.slice none 0 0, .slice none 0 0] 27
  have hb1 := hb.later A0
  obtain ⟨W0, hW⟩ : ∃ W0, Hid (W0 = w.alloc Z2) := ⟨_, rfl⟩
  have hW' : W0 = w.alloc Z2 := hW
  rw [← hW'] at A0 R0 hb1
  clear hW'
  have cx : Cx W0 a len := ⟨hb1, hl⟩
  go_enter Tryz.func11, Tryz.ntmps11
  go_wp2_with fail
  show Calls _ _ _ (w.alloc Z2) _
  have hW' : W0 = w.alloc Z2 := hW
  rw [← hW']
  clear hW hW'
  refine (source W0 a len cap).mono ?_
  rintro e w1 ⟨rfl, st1⟩
  have d1 := Dn.start st1
  go_wp2_with fail
  refine (l5Draw_c cx d1 (by omega)).mono ?_
  rintro e w2 ⟨v, f, us, fs, rfl, S2, F2, hus, hfs, d2⟩
  go_wp2_with fail
  refine (drawsD cx d2 7 (by omega) (by omega) (by omega)).mono ?_
  rintro e wi ⟨i, rfl, i0, i1, d2i, gi⟩
  have Si := S2.drawn gi d1.lt
  have Fi := F2.drawn gi d1.lt
  go_wp2_with fail
  refine (l5DrawRooms_c cx d2i.self (by omega)).mono ?_
  rintro e wr ⟨gr, og, mr, cr, rm, rfl, hrm, hmr, Ir, hgr0, hgr, er⟩
  have d3 := d2i.trans er
  have S3 := Si.drawn er.gr d1.lt
  have F3 := Fi.drawn er.gr d1.lt
  have I3 := Ir
  have hg3 := hgr
  have hgl : w1.heap.size ≤ gr := Nat.le_trans d2i.gr.size hgr0
  obtain ⟨wl, hwl⟩ : ∃ y : World, y = wr := ⟨_, rfl⟩
  subst hwl
  clear Si Fi d2i
  have R3 := R0.old d3
  have hw1 : w.heap.size ≤ w1.heap.size := Nat.le_of_lt (Nat.lt_of_le_of_lt A0.size d1.lt)
  have B3 := A0.trans (d3.below.mono A0.size)
  replace S3 := S3.mono hw1
  replace F3 := F3.mono hw1
  have hgw : gr ≠ w.heap.size := by have := d1.lt; have := A0.size; omega
  clear S2 F2 d2 d3 R0 A0 hb1 st1
  obtain ⟨pv, cv, nv, rfl⟩ := S3.frm
  obtain ⟨pf, cf, nf, rfl⟩ := F3.frm
  have r0 := R3.cell (i := 0) rfl
  have r1 := R3.cell (i := 1) rfl
  have z0 := R3.frozen 0
  have z1 := R3.frozen 1
  have rl := R3.lt
  go_wp2_with fail
  have R4 : Blk ((wl.setCell ⟨w.heap.size, 0, none⟩ (.slice pv nv cv)).setCell ⟨w.heap.size, 1, none⟩ (.slice pf nf cf)) w.heap.size #[.slice pv nv cv, .slice pf nf cf] 27 := (R3.set 0 (.slice pv nv cv)).set 1 (.slice pf nf cf)
  have R3' := R3.set 0 (.slice pv nv cv)
  have S4 := (S3.setB (o := 0) R3 (by decide) (.slice pv nv cv)).setB (o := 1) R3' (by decide) (.slice pf nf cf)
  have F4 := (F3.setB (o := 0) R3 (by decide) (.slice pv nv cv)).setB (o := 1) R3' (by decide) (.slice pf nf cf)
  have B4 := bel_set (bel_set B3 w.heap.size 0 (Nat.le_refl _) (.slice pv nv cv)) w.heap.size 1 (Nat.le_refl _) (.slice pf nf cf)
  have I4 := (I3.other (o := 0) hgw (.slice pv nv cv)).other (o := 1) hgw (.slice pf nf cf)
  have hg4 : gr < ((wl.setCell ⟨w.heap.size, 0, none⟩ (.slice pv nv cv)).setCell ⟨w.heap.size, 1, none⟩ (.slice pf nf cf)).heap.size := by simpa [World.setCell] using hg3
  have b0 := R4.cell (i := 0) rfl
  have b1 := R4.cell (i := 1) rfl
  refine bodyPost_ret (v := .tuple #[.agg #[.slice pv nv cv, .slice pf nf cf], .int .i64 (1 + i), .slice (some ⟨gr, og, none⟩) mr cr]) ?_ rfl ⟨_, _, us, fs, gr, og, mr, cr, rm, 1 + i, rfl, S4, F4, hus, hfs, hrm, hmr, I4, hg4, by omega, by omega, B4⟩
  simp [results, Tryz.results11, go_sem, b0, b1]
  done
theorem drawHomeOf_c (w : World) (a : Option Addr) (len cap : Nat) (hb : Bytes w a len w.heap.size) (hl : len ≤ 1048576) :
    Calls Tryz.prog 13 #[.slice a len cap] w fun e w' => ∃ i : Int, e = .returned (.int .i64 i) ∧ -1 ≤ i ∧ i ≤ 4 ∧ Below w.heap.size w w' := by
  have cx : Cx w a len := ⟨hb, hl⟩
  go_enter Tryz.func13, Tryz.ntmps13
  go_wp2_with fail
  refine (source w a len cap).mono ?_
  rintro e w1 ⟨rfl, st1⟩
  have d1 := Dn.start st1
  go_wp2_with fail
  refine (drawsD cx d1 6 (by omega) (by omega) (by omega)).mono ?_
  rintro e w2 ⟨i, rfl, i0, i1, d2, g2⟩
  go_wp2_with fail
  go_ret
  exact ⟨_, rfl, by omega, by omega, d2.below⟩
end Go.Proofs.YtepjkcfheejlbaaGreatDoor
end
