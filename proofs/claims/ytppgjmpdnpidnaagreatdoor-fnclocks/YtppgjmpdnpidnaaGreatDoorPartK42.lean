/- Texts of mine put together (a claim holds at most 60 files): TickDraws, TickDraws2, ClockDraw. -/
import Derived.Test.YtppgjmpdnpidnaaGreatDoorPartK37
import Derived.Test.YtppgjmpdnpidnaaGreatDoorPartK14
import Derived.Deep.CutRange
import Derived.Test.YtppgjmpdnpidnaaGreatDoorPartK20
import Derived.Test.YtppgjmpdnpidnaaGreatDoorPartK39

/- TickDraws -/
/- Contracts of the draws of chapter 5: a board on which something may happen, rooms. Condition: the code has at most 1048576 bytes, which can be read. -/
section
namespace Go.Proofs.YtppgjmpdnpidnaaGreatDoor
open Go.ChangeShapes Go.WideShapes Go.ChangeAt Go.RowKit
open Bd
set_option linter.unusedVariables false

theorem l5Home_any (v : Int) (h0 : -3 ≤ v) (h1 : v ≤ 3) (w : World) :
    Calls Tryz.prog 40 #[.int .i64 v] w fun e w' => ∃ x y : Int, e = .returned (.tuple #[.int .i64 x, .int .i64 y]) ∧ w' = w := by
  have h : v = -3 ∨ v = -2 ∨ v = -1 ∨ v = 0 ∨ v = 1 ∨ v = 2 ∨ v = 3 := by omega
  clear h0 h1
  rcases h with rfl | rfl | rfl | rfl | rfl | rfl | rfl
  all_goals
    go_enter Tryz.func40, Tryz.ntmps40
    go_wp2
    go_ret2
    exact ⟨_, _, rfl, rfl⟩
/- a store into the first unit -/
theorem first_set {w0 w W : World} {a : Option Addr} {len cap : Nat} {n : Int} {g c rb bb f : Nat} {us : List K10} {u : K10} {fs : List K3} {vf : Value} {cs cs' : Array Value} (A : AtU W w.heap.size g c 0 us u) (F : SlF W w.heap.size vf fs) (R : Blk W rb cs 27) (B : Blk W bb cs' 27) (d : Dn w0 w W a len cap n) (hf : f < 10) (x : Int) :
    AtU (W.setCell ⟨g, f, none⟩ (.int .i64 x)) w.heap.size g c 0 (us.set 0 (u.upd f x)) (u.upd f x) ∧ SlF (W.setCell ⟨g, f, none⟩ (.int .i64 x)) w.heap.size vf fs ∧ Blk (W.setCell ⟨g, f, none⟩ (.int .i64 x)) rb cs 27 ∧ Blk (W.setCell ⟨g, f, none⟩ (.int .i64 x)) bb cs' 27 ∧ Dn w0 w (W.setCell ⟨g, f, none⟩ (.int .i64 x)) a len cap n := by
  obtain ⟨cur, hg, _⟩ := A.blk
  have hs := A.set f hf x
  rw [Nat.zero_mul, Nat.zero_add] at hs
  refine ⟨hs, F.of_block (fun q hq => Below.heap_setCell _ _ _ _ ?_), R.setOther (a := ⟨g, f, none⟩) (blk_ne R hg (by decide)) _, B.setOther (a := ⟨g, f, none⟩) (blk_ne B hg (by decide)) _, d.set (p := ⟨g, f, none⟩) A.b _⟩
  rcases F.2 with ⟨h1, _⟩ | ⟨g', cap', cur', hv, _, hg', _⟩
  · rw [h1] at hq; cases hq
  · rw [hv] at hq
    have e : g' = q := Option.some.inj hq
    subst e
    exact blk_ne hg' hg (by decide)
/- a board that is being drawn: the answer's block, its own block, its lists -/
structure BD (w0 w W : World) (a : Option Addr) (len cap : Nat) (n : Int) (rb bb m m' : Nat) (pv pf : Option Addr) (cv cf : Nat) (us : List K10) (fs : List K3) : Prop where
  R : Blk W rb #[.slice none 0 0, .slice none 0 0] 27
  B : Blk W bb #[.slice pv m cv, .slice pf m' cf] 27
  S : SlU W w.heap.size (.slice pv m cv) us
  F : SlF W w.heap.size (.slice pf m' cf) fs
  l : us.length = m
  l' : fs.length = m'
  d : Dn w0 w W a len cap n
theorem BD.grow {w0 w W W' : World} {a : Option Addr} {len cap : Nat} {n n' : Int} {rb bb m m' : Nat} {pv pf : Option Addr} {cv cf : Nat} {us : List K10} {fs : List K3} (h : BD w0 w W a len cap n rb bb m m' pv pf cv cf us fs) (hr : some rb ≠ some w0.heap.size) (hb : some bb ≠ some w0.heap.size) (hl : w0.heap.size < w.heap.size) (g : W.grownBy W' (some w0.heap.size)) (d : Dn w0 w W' a len cap n') : BD w0 w W' a len cap n' rb bb m m' pv pf cv cf us fs :=
  ⟨h.R.grown g hr, h.B.grown g hb, h.S.drawn g hl, h.F.drawn g hl, h.l, h.l', d⟩
theorem BD.drew {w0 w W : World} {a : Option Addr} {len cap : Nat} {n : Int} {rb bb m m' : Nat} {pv pf : Option Addr} {cv cf : Nat} {us : List K10} {fs : List K3} (h : BD w0 w W a len cap n rb bb m m' pv pf cv cf us fs) : BD w0 w W.drew a len cap n rb bb m m' pv pf cv cf us fs :=
  ⟨h.R.drew, h.B.drew, h.S, h.F, h.l, h.l', h.d.drew⟩
theorem BD.set {w0 w W : World} {a : Option Addr} {len cap : Nat} {n : Int} {rb bb m m' g : Nat} {pf : Option Addr} {cv cf : Nat} {us : List K10} {fs : List K3} (h : BD w0 w W a len cap n rb bb m m' (some ⟨g, 0, none⟩) pf cv cf us fs) (hm : 0 < m) (f : Nat) (hf : f < 10) (x : Int) :
    ∃ us', BD w0 w (W.setCell ⟨g, f, none⟩ (.int .i64 x)) a len cap n rb bb m m' (some ⟨g, 0, none⟩) pf cv cf us' fs := by
  obtain ⟨u, hu⟩ : ∃ u, us[0]? = some u := ⟨_, List.getElem?_eq_getElem (by have := h.l; omega)⟩
  obtain ⟨g', c', e, A⟩ := h.S.at hu
  simp only [Value.slice.injEq, Option.some.injEq, Addr.mk.injEq] at e
  obtain ⟨⟨rfl, _⟩, _, rfl⟩ := e
  obtain ⟨A', F', R', B', d'⟩ := first_set A h.F h.R h.B h.d hf x
  have S' := A'.s
  rw [List.length_set, h.l] at S'
  exact ⟨_, R', B', S', F', by rw [List.length_set]; exact h.l, h.l', d'⟩
theorem BD.addr {w0 w W : World} {a : Option Addr} {len cap : Nat} {n : Int} {rb bb m m' : Nat} {pv pf : Option Addr} {cv cf : Nat} {us : List K10} {fs : List K3} (h : BD w0 w W a len cap n rb bb m m' pv pf cv cf us fs) (hm : 0 < m) : ∃ g, pv = some ⟨g, 0, none⟩ ∧ g < W.heap.size ∧ ∀ i, W.frozen? ⟨g, i, none⟩ = false := by
  obtain ⟨u, hu⟩ : ∃ u, us[0]? = some u := ⟨_, List.getElem?_eq_getElem (by have := h.l; omega)⟩
  obtain ⟨g', c', e, A⟩ := h.S.at hu
  simp only [Value.slice.injEq] at e
  obtain ⟨rfl, _, rfl⟩ := e
  exact ⟨g', rfl, A.lt, A.frozen⟩
theorem BD.unit {w0 w W : World} {a : Option Addr} {len cap : Nat} {n : Int} {rb bb m m' g : Nat} {pf : Option Addr} {cv cf : Nat} {us : List K10} {fs : List K3} (h : BD w0 w W a len cap n rb bb m m' (some ⟨g, 0, none⟩) pf cv cf us fs) {k : Nat} (hk : k < m) : ∃ u : K10, U1 W g (k * 10) u := by
  obtain ⟨u, hu⟩ : ∃ u, us[k]? = some u := ⟨_, List.getElem?_eq_getElem (by have := h.l; omega)⟩
  obtain ⟨g', c', e, A⟩ := h.S.at hu
  simp only [Value.slice.injEq, Option.some.injEq, Addr.mk.injEq] at e
  obtain ⟨⟨rfl, _⟩, _, rfl⟩ := e
  exact ⟨u, A.one⟩
theorem BD.field {w0 w W : World} {a : Option Addr} {len cap : Nat} {n : Int} {rb bb m m' : Nat} {pv pf : Option Addr} {cv cf : Nat} {us : List K10} {fs : List K3} (h : BD w0 w W a len cap n rb bb m m' pv pf cv cf us fs) (hm : 0 < m') : ∃ (g : Nat) (x y : Int), pf = some ⟨g, 0, none⟩ ∧ g < W.heap.size ∧ W.cell? ⟨g, 0, none⟩ = some (.int .i64 x) ∧ W.cell? ⟨g, 1, none⟩ = some (.int .i64 y) := by
  obtain ⟨u, hu⟩ : ∃ u, fs[0]? = some u := ⟨_, List.getElem?_eq_getElem (by have := h.l'; omega)⟩
  obtain ⟨g', c', e, A⟩ := h.F.at hu
  simp only [Value.slice.injEq] at e
  obtain ⟨rfl, _, rfl⟩ := e
  have o := A.one
  rw [Nat.zero_mul] at o
  exact ⟨g', _, _, rfl, A.lt, o.1, by simpa using o.2.1⟩
/- the cells that a phase reads -/
theorem BD.two {w0 w W : World} {a : Option Addr} {len cap : Nat} {n : Int} {rb bb m m' g : Nat} {pf : Option Addr} {cv cf : Nat} {us : List K10} {fs : List K3} (h : BD w0 w W a len cap n rb bb m m' (some ⟨g, 0, none⟩) pf cv cf us fs) (h1 : 1 < m) :
    ∃ x y z t : Int, W.cell? ⟨g, 12, none⟩ = some (.int .i64 x) ∧ W.cell? ⟨g, 13, none⟩ = some (.int .i64 y) ∧ bb < W.heap.size ∧ W.cell? ⟨bb, 0, none⟩ = some (.slice (some ⟨g, 0, none⟩) m cv) ∧ W.cell? ⟨g, 2, none⟩ = some (.int .i64 z) ∧ W.cell? ⟨g, 3, none⟩ = some (.int .i64 t) := by
  obtain ⟨u, hu⟩ := h.unit (k := 1) h1
  obtain ⟨u0, hu0⟩ := h.unit (k := 0) (by omega)
  rw [Nat.zero_mul] at hu0
  rw [Nat.one_mul] at hu
  exact ⟨_, _, _, _, hu.c2, hu.c3, h.B.lt, h.B.cell (i := 0) rfl, by simpa using hu0.c2, by simpa using hu0.c3⟩
theorem BD.one {w0 w W : World} {a : Option Addr} {len cap : Nat} {n : Int} {rb bb m m' g : Nat} {pf : Option Addr} {cv cf : Nat} {us : List K10} {fs : List K3} (h : BD w0 w W a len cap n rb bb m m' (some ⟨g, 0, none⟩) pf cv cf us fs) (h1 : 0 < m) :
    ∃ o z t y : Int, bb < W.heap.size ∧ W.cell? ⟨bb, 0, none⟩ = some (.slice (some ⟨g, 0, none⟩) m cv) ∧ W.cell? ⟨bb, 1, none⟩ = some (.slice pf m' cf) ∧ W.cell? ⟨g, 1, none⟩ = some (.int .i64 o) ∧ W.cell? ⟨g, 2, none⟩ = some (.int .i64 z) ∧ W.cell? ⟨g, 3, none⟩ = some (.int .i64 t) ∧ W.cell? ⟨g, 5, none⟩ = some (.int .i64 y) := by
  obtain ⟨u0, hu0⟩ := h.unit (k := 0) (by omega)
  rw [Nat.zero_mul] at hu0
  exact ⟨_, _, _, _, h.B.lt, h.B.cell (i := 0) rfl, h.B.cell (i := 1) rfl, by simpa using hu0.c1, by simpa using hu0.c2, by simpa using hu0.c3, by simpa using hu0.c5⟩
theorem BD.frz {w0 w W : World} {a : Option Addr} {len cap : Nat} {n : Int} {rb bb m m' g : Nat} {pf : Option Addr} {cv cf : Nat} {us : List K10} {fs : List K3} (h : BD w0 w W a len cap n rb bb m m' (some ⟨g, 0, none⟩) pf cv cf us fs) : ∀ i, W.frozen? ⟨g, i, none⟩ = false := by
  intro i
  rcases h.S.2 with ⟨h1, _⟩ | ⟨g', cap', cur, hv, _, hg, _⟩
  · simp at h1
  · simp only [Value.slice.injEq, Option.some.injEq, Addr.mk.injEq] at hv
    obtain ⟨⟨rfl, _⟩, _, rfl⟩ := hv
    simp [World.frozen?, hg]
end Go.Proofs.YtppgjmpdnpidnaaGreatDoor
end

/- TickDraws2 -/
/- Contracts of the draws of chapter 5: a board on which something may happen, rooms. Condition: the code has at most 1048576 bytes, which can be read. -/
section
namespace Go.Proofs.YtppgjmpdnpidnaaGreatDoor
open Go.ChangeShapes Go.WideShapes Go.ChangeAt Go.RowKit
open Bd
set_option linter.unusedVariables false

theorem tmod4 (o : Int) : -3 ≤ o.tmod 4 ∧ o.tmod 4 ≤ 3 := by
  rcases Int.le_total 0 o with h | h
  · rw [Int.tmod_eq_emod_of_nonneg h]; omega
  · have e : o.tmod 4 = -((-o).tmod 4) := by rw [Int.neg_tmod, Int.neg_neg]
    rw [e, Int.tmod_eq_emod_of_nonneg (by omega)]; omega
set_option maxRecDepth 20000 in
set_option maxHeartbeats 8000000 in
theorem l5Draw_c {w0 w : World} {a : Option Addr} {len cap : Nat} {n : Int} (cx : Cx w0 a len) (d : Dn w0 w w a len cap n) (hn : n ≤ 400000) :
    Calls Tryz.prog 18 #[.pointer (some ⟨w0.heap.size, 0, none⟩)] w fun e w' => ∃ v f us fs, e = .returned (.agg #[v, f]) ∧ SlU w' w.heap.size v us ∧ SlF w' w.heap.size f fs ∧ us.length ≤ 8 ∧ fs.length ≤ 5 ∧ Dn w0 w w' a len cap (n + 303) := by
  have hlt := d.lt
  have R0 := Blk.new w #[.slice none 0 0, .slice none 0 0] 27
  have d0 := d.alloc (.cells #[.slice none 0 0, .slice none 0 0] 27)
  have hneR : some w.heap.size ≠ some w0.heap.size := by simp; omega
  obtain ⟨W1, HW1⟩ : ∃ W1, Hid (W1 = w.alloc (.cells #[.slice none 0 0, .slice none 0 0] 27)) := ⟨_, rfl⟩
  rw [← HW1.out] at R0 d0
  have hs1 : w.heap.size ≤ W1.heap.size := d0.gr.size
  go_enter Tryz.func18, Tryz.ntmps18
  go_wp2_with fail
  rw [← HW1.out]
  refine (l4Bent_c cx d0.self (by omega)).mono ?_
  rintro e w2 ⟨v, f, us, fs, rfl, S2, F2, hus, hfs, e2⟩
  have d2 := d0.trans e2
  have R2 := R0.grown e2.gr hneR
  obtain ⟨pv, cv, hv, _⟩ := S2.form
  obtain ⟨pf, cf, hf, _⟩ := F2.form
  obtain ⟨m, Hm⟩ : ∃ m, Hid (us.length = m) := ⟨_, rfl⟩
  obtain ⟨m', Hm'⟩ : ∃ m, Hid (fs.length = m) := ⟨_, rfl⟩
  rw [Hm.out] at hv hus
  rw [Hm'.out] at hf hfs
  subst hv hf
  obtain ⟨W3, HW3⟩ : ∃ W3, Hid (W3 = w2.alloc (.cells #[.slice pv m cv, .slice pf m' cf] 27)) := ⟨_, rfl⟩
  have hneB : some w2.heap.size ≠ some w0.heap.size := by have := d2.le; simp; omega
  have D3 : Hid (BD w0 w W3 a len cap (n + 300) w.heap.size w2.heap.size m m' pv pf cv cf us fs) := by
    rw [HW3.out]
    exact ⟨R2.alloc _, Blk.new w2 _ _, (S2.mono hs1).alloc _, (F2.mono hs1).alloc _, Hm.out, Hm'.out, d2.alloc _⟩
  clear S2 F2 R2 R0 e2 d2
  go_upto_region 2 with fail
  rw [← HW3.out]
  -- the first test
  go_cut [15] from 8 to 15 (fun s wx => ∃ r : Bool, s = .bool r ∧ (r = true → 1 < m) ∧ Hid (BD w0 w wx a len cap (n + 301) w.heap.size w2.heap.size m m' pv pf cv cf us fs))
  case first =>
    have b0 := D3.out.B.cell (i := 0) rfl
    have bl := D3.out.B.lt
    by_cases h1 : 1 < m
    · have h1' : (1 : Int) < (m : Int) := by omega
      go_wp2_with fail
      refine (chanceD cx D3.out.d 2 (by omega) (by omega) (by omega)).mono ?_
      rintro e w4 ⟨r, rfl, d4, g4⟩
      go_wp2_with fail
      go_meet
      case rel => exact ⟨r, rfl, fun _ => h1, D3.out.grow hneR hneB hlt g4 (d4.mono (by omega))⟩
    · have h1' : decide ((1 : Int) < (m : Int)) = false := decide_eq_false (by omega)
      go_wp2_with fail
      go_meet
      case rel => exact ⟨false, rfl, (fun h => by cases h), ⟨D3.out.R, D3.out.B, D3.out.S, D3.out.F, D3.out.l, D3.out.l', D3.out.d.mono (by omega)⟩⟩
  case rest =>
    obtain ⟨r, rfl, hr, D4⟩ := hcut
    obtain ⟨w4, hw4⟩ : ∃ y : World, y = wc := ⟨_, rfl⟩
    subst hw4
    clear D3
    go_upto_if 15 with fail
    go_cut [] from 16 to 33 (fun wx => ∃ us', Hid (BD w0 w wx a len cap (n + 301) w.heap.size w2.heap.size m m' pv pf cv cf us' fs))
    case first =>
      cases r
      · go_wp2_with fail
        go_meet
        case rel => exact ⟨us, D4⟩
      · have h1 := hr rfl
        clear hr
        obtain ⟨g, rfl, gl, fz⟩ := D4.out.addr (by omega)
        obtain ⟨x, y, z, t, x2, x3, bl, b0, y2, y3⟩ := D4.out.two h1
        have f2 := fz 2
        go_upto_region 3 with fail
        go_region
        all_goals
          obtain ⟨us5, D5'⟩ := D4.out.set (by omega) 2 (by omega) x
          have D5 := D5'.drew
          clear D5'
          obtain ⟨w5, hw5⟩ : ∃ y, Hid (y = (w4.setCell ⟨g, 2, none⟩ (.int .i64 x)).drew) := ⟨_, rfl⟩
          rw [← hw5.out] at D5
          have fz5 := D5.frz
          try rw [← hw5.out]
          clear x2 x3 bl b0 y2 y3 f2 fz gl D4
          obtain ⟨x', y', z', t', x2, x3, bl, b0, y2, y3⟩ := D5.two h1
          have f3 := fz5 3
          go_upto_region 4 with fail
          go_region
          all_goals
            obtain ⟨us6, D6⟩ := D5.set (by omega) 3 (by omega) y'
            go_wp2_with fail
            go_meet
            case rel => exact ⟨us6, D6.drew⟩
    case rest =>
      obtain ⟨us7, D7⟩ := hcut
      obtain ⟨w7, hw7⟩ : ∃ y : World, y = wc := ⟨_, rfl⟩
      subst hw7
      clear D4 hr
      go_upto_region 5 with fail
      go_cut [47] from 34 to 47 (fun s wx => ∃ r : Bool, s = .bool r ∧ (r = true → 0 < m ∧ 0 < m') ∧ Hid (BD w0 w wx a len cap (n + 302) w.heap.size w2.heap.size m m' pv pf cv cf us7 fs))
      case first =>
        have b0 := D7.out.B.cell (i := 0) rfl
        have b1 := D7.out.B.cell (i := 1) rfl
        have bl := D7.out.B.lt
        by_cases h1 : 0 < m
        · have h1' : (0 : Int) < (m : Int) := by omega
          by_cases h2 : 0 < m'
          · have h2' : (0 : Int) < (m' : Int) := by omega
            go_wp2_with fail
            refine (chanceD cx D7.out.d 3 (by omega) (by omega) (by omega)).mono ?_
            rintro e w8 ⟨r, rfl, d8, g8⟩
            go_wp2_with fail
            go_meet
            case rel => exact ⟨r, rfl, fun _ => ⟨h1, h2⟩, D7.out.grow hneR hneB hlt g8 (d8.mono (by omega))⟩
          · have h2' : decide ((0 : Int) < (m' : Int)) = false := decide_eq_false (by omega)
            go_wp2_with fail
            go_meet
            case rel => exact ⟨false, rfl, (fun h => by cases h), ⟨D7.out.R, D7.out.B, D7.out.S, D7.out.F, D7.out.l, D7.out.l', D7.out.d.mono (by omega)⟩⟩
        · have h1' : decide ((0 : Int) < (m : Int)) = false := decide_eq_false (by omega)
          go_wp2_with fail
          go_meet
          case rel => exact ⟨false, rfl, (fun h => by cases h), ⟨D7.out.R, D7.out.B, D7.out.S, D7.out.F, D7.out.l, D7.out.l', D7.out.d.mono (by omega)⟩⟩
      case rest =>
        obtain ⟨r2, rfl, hr2, D8⟩ := hcut
        obtain ⟨w8, hw8⟩ : ∃ y : World, y = wc := ⟨_, rfl⟩
        subst hw8
        clear D7
        go_upto_if 47 with fail
        go_cut [] from 48 to 65 (fun wx => ∃ us', Hid (BD w0 w wx a len cap (n + 302) w.heap.size w2.heap.size m m' pv pf cv cf us' fs))
        case first =>
          cases r2
          · go_wp2_with fail
            go_meet
            case rel => exact ⟨us7, D8⟩
          · obtain ⟨h1, h2⟩ := hr2 rfl
            clear hr2
            obtain ⟨g, rfl, gl, fz⟩ := D8.out.addr h1
            obtain ⟨o, z, t, y, bl, b0, b1, y1, y2, y3, y5⟩ := D8.out.one h1
            obtain ⟨gf, fx, fy, rfl, gfl, c0, c1⟩ := D8.out.field h2
            have f2 := fz 2
            have h1' : (0 : Int) < (m : Int) := by omega
            have h2' : (0 : Int) < (m' : Int) := by omega
            go_upto_region 6 with fail
            go_region
            all_goals
              obtain ⟨us9, D9'⟩ := D8.out.set h1 2 (by omega) fx
              have D9 := D9'.drew
              clear D9'
              obtain ⟨w9, hw9⟩ : ∃ y, Hid (y = (w8.setCell ⟨g, 2, none⟩ (.int .i64 fx)).drew) := ⟨_, rfl⟩
              rw [← hw9.out] at D9
              have fz9 := D9.frz
              try rw [← hw9.out]
              clear bl b0 b1 y1 y2 y3 y5 f2 fz gl c0 c1 gfl D8
              obtain ⟨o', z', t', y', bl, b0, b1, y1, y2, y3, y5⟩ := D9.one h1
              obtain ⟨gf', fx', fy', egf, gfl, c0, c1⟩ := D9.field h2
              simp only [Option.some.injEq, Addr.mk.injEq, and_true] at egf
              subst egf
              have f3 := fz9 3
              go_upto_region 7 with fail
              go_region
              all_goals
                obtain ⟨us10, D10⟩ := D9.set h1 3 (by omega) fy'
                go_wp2_with fail
                go_meet
                case rel => exact ⟨us10, D10.drew⟩
        case rest =>
          obtain ⟨us11, D11⟩ := hcut
          obtain ⟨w11, hw11⟩ : ∃ y : World, y = wc := ⟨_, rfl⟩
          subst hw11
          clear D8 hr2
          go_upto_region 8 with fail
          go_cut [73] from 66 to 73 (fun s wx => ∃ r : Bool, s = .bool r ∧ (r = true → 0 < m) ∧ Hid (BD w0 w wx a len cap (n + 303) w.heap.size w2.heap.size m m' pv pf cv cf us11 fs))
          case first =>
            have b0 := D11.out.B.cell (i := 0) rfl
            have bl := D11.out.B.lt
            by_cases h1 : 0 < m
            · have h1' : (0 : Int) < (m : Int) := by omega
              go_wp2_with fail
              refine (chanceD cx D11.out.d 3 (by omega) (by omega) (by omega)).mono ?_
              rintro e w12 ⟨r, rfl, d12, g12⟩
              go_wp2_with fail
              go_meet
              case rel => exact ⟨r, rfl, fun _ => h1, D11.out.grow hneR hneB hlt g12 (d12.mono (by omega))⟩
            · have h1' : decide ((0 : Int) < (m : Int)) = false := decide_eq_false (by omega)
              go_wp2_with fail
              go_meet
              case rel => exact ⟨false, rfl, (fun h => by cases h), ⟨D11.out.R, D11.out.B, D11.out.S, D11.out.F, D11.out.l, D11.out.l', D11.out.d.mono (by omega)⟩⟩
          case rest =>
            obtain ⟨r3, rfl, hr3, D12⟩ := hcut
            obtain ⟨w12, hw12⟩ : ∃ y : World, y = wc := ⟨_, rfl⟩
            subst hw12
            clear D11
            go_upto_if 73 with fail
            go_cut [4, 5] from 74 to 97 (fun s4 s5 wx => ∃ us', Hid (BD w0 w wx a len cap (n + 303) w.heap.size w2.heap.size m m' pv pf cv cf us' fs))
            case first =>
              cases r3
              · go_wp2_with fail
                go_meet
                case rel => exact ⟨us11, D12⟩
              · have h1 := hr3 rfl
                clear hr3
                have h1' : (0 : Int) < (m : Int) := by omega
                obtain ⟨g, rfl, gl, fz⟩ := D12.out.addr h1
                obtain ⟨o, z, t, y, bl, b0, b1, y1, y2, y3, y5⟩ := D12.out.one h1
                have hq := tmod4 o
                go_wp2_with fail
                refine (l5Home_any _ hq.1 hq.2 _).mono ?_
                rintro e wq ⟨x, y, rfl, hwq⟩
                obtain rfl := hwq.symm
                have f2 := fz 2
                go_upto_region 11 with fail
                obtain ⟨us14, D14⟩ := D12.out.set h1 2 (by omega) x
                obtain ⟨w14, hw14⟩ : ∃ y, Hid (y = w12.setCell ⟨g, 2, none⟩ (.int .i64 x)) := ⟨_, rfl⟩
                rw [← hw14.out] at D14
                rw [← hw14.out]
                have f3 := D14.frz 3
                clear bl b0 b1 y1 y2 y3 y5 f2 fz gl D12
                obtain ⟨o', z', t', y', bl, b0, b1, y1, y2, y3, y5⟩ := D14.one h1
                go_upto_region 12 with fail
                obtain ⟨us15, D15⟩ := D14.set h1 3 (by omega) y
                obtain ⟨w15, hw15⟩ : ∃ z, Hid (z = w14.setCell ⟨g, 3, none⟩ (.int .i64 y)) := ⟨_, rfl⟩
                rw [← hw15.out] at D15
                rw [← hw15.out]
                have f5 := D15.frz 5
                clear bl b0 b1 y1 y2 y3 y5 f3 D14
                obtain ⟨o2, z2, t2, y2', bl, b0, b1, y1, y2, y3, y5⟩ := D15.one h1
                go_wp2_with fail
                obtain ⟨us16, D16⟩ := D15.set h1 5 (by omega) 20
                go_meet
                case rel => exact ⟨us16, D16⟩
            case rest =>
              obtain ⟨us13, D13⟩ := hcut
              obtain ⟨w13, hw13⟩ : ∃ y : World, y = wc := ⟨_, rfl⟩
              subst hw13
              have hus13 : us13.length ≤ 8 := by have := D13.out.l; omega
              have hfs13 : fs.length ≤ 5 := by have := Hm'.out; omega
              have q0 := D13.out.B.cell (i := 0) rfl
              have q1 := D13.out.B.cell (i := 1) rfl
              have bl := D13.out.B.lt
              have v0 := D13.out.R.cell (i := 0) rfl
              have v1 := D13.out.R.cell (i := 1) rfl
              have z0 := D13.out.R.frozen 0
              have z1 := D13.out.R.frozen 1
              have rl := D13.out.R.lt
              go_wp2_with fail
              have RR4 : Blk ((w13.setCell ⟨w.heap.size, 0, none⟩ (.slice pv m cv)).setCell ⟨w.heap.size, 1, none⟩ (.slice pf m' cf)) w.heap.size #[.slice pv m cv, .slice pf m' cf] 27 := (D13.out.R.set 0 (.slice pv m cv)).set 1 (.slice pf m' cf)
              have RR3 := D13.out.R.set 0 (.slice pv m cv)
              have dd4 := (D13.out.d.set (p := ⟨w.heap.size, 0, none⟩) (Nat.le_refl _) (.slice pv m cv)).set (p := ⟨w.heap.size, 1, none⟩) (Nat.le_refl _) (.slice pf m' cf)
              exact bodyPost_ret (v := .agg #[.slice pv m cv, .slice pf m' cf]) (resultB Tryz.results18 RR4 ⟨_, _, _, rfl⟩ ⟨_, _, _, rfl⟩ _ rfl) rfl ⟨_, _, us13, fs, rfl, (D13.out.S.setB D13.out.R (by decide) _).setB RR3 (by decide) _, (D13.out.F.setB D13.out.R (by decide) _).setB RR3 (by decide) _, hus13, hfs13, dd4⟩
end Go.Proofs.YtppgjmpdnpidnaaGreatDoor
end

/- ClockDraw -/
/- The draw of a world that is ticked. Condition: the code has at most 1048576 bytes, which can be read. -/
section
namespace Go.Proofs.YtppgjmpdnpidnaaGreatDoor
open Go.ChangeShapes Go.WideShapes Go.ChangeAt Go.RowKit
open Bd
set_option linter.unusedVariables false

abbrev st7 (W : World) (rb : Nat) (p : WP) (x : KW) : World := set7 W rb (.int .i64 x.t) (.int .i64 x.s) (.slice p.u x.us.length p.uc) (.slice p.f x.fs.length p.fc) (.slice p.a x.fa.length p.ac) (.slice p.s x.se.length p.sc) (.slice p.o x.oo.length p.oc)
set_option maxRecDepth 20000 in
set_option maxHeartbeats 16000000 in
theorem drawTickWorld_c (w : World) (a0 : Option Addr) (len cap : Nat) (hb : Bytes w a0 len w.heap.size) (hl : len ≤ 1048576) :
    Calls Tryz.prog 5 #[.slice a0 len cap] w fun e w' => ∃ p x, e = .returned (.agg (WP.v p x)) ∧ OwW w' w.heap.size p x ∧ DW x ∧ Below w.heap.size w w' := by
  obtain ⟨W1, HW1⟩ : ∃ W1, Hid (W1 = w.alloc (.cells zW 32)) := ⟨_, rfl⟩
  have A0 : Below w.heap.size w W1 := by rw [HW1.out]; exact (Below.refl _ _).alloc (Nat.le_refl _) _
  have R0 : Blk W1 w.heap.size zW 32 := by rw [HW1.out]; exact Blk.new w zW 32
  have cx : Cx W1 a0 len := ⟨hb.later A0, hl⟩
  have hR := R0.lt
  go_enter Tryz.func5, Tryz.ntmps5
  go_upto_region 1 with fail
  rw [← HW1.out]
  go_wp2_with fail
  refine (source W1 a0 len cap).mono ?_
  rintro e w1 ⟨rfl, st1⟩
  have d1 := Dn.start st1
  go_wp2_with fail
  refine (l6Bent_c cx d1 (by omega)).mono ?_
  rintro e w2 ⟨t, s, vu, vf, fb, vs, vo, us, fs, fa, se, oo, rfl, A2, f4, U2, F2, S2, O2, hfb, lus, lfs, lse, loo, d2⟩
  have SA := A2.slA hfb f4
  obtain ⟨pu, cu, rfl⟩ := U2.fm
  obtain ⟨pf, cf, rfl⟩ := F2.fm
  obtain ⟨ps, cs, rfl⟩ := S2.fm
  obtain ⟨po, co, rfl⟩ := O2.fm
  have R2 := R0.old d2
  obtain ⟨W3, HW3⟩ : ∃ W3, Hid (W3 = w2.alloc (.cells (wV t s (.slice pu us.length cu) (.slice pf fs.length cf) fb (.slice ps se.length cs) (.slice po oo.length co)) 32)) := ⟨_, rfl⟩
  have h4 := f4.l
  have D3 : VD W1 w1 W3 a0 len cap 1000 w.heap.size w2.heap.size ⟨pu, cu, pf, cf, some ⟨fb, 0, none⟩, 4, ps, cs, po, co⟩ ⟨t, s, us, fs, fa, se, oo⟩ := by
    rw [HW3.out]
    refine ⟨R2.alloc _, ?_, OwW.alloc ⟨U2, F2, SA, S2, O2⟩ _, by have := d1.lt; omega, d2.gr.size, hR, (d2.mono (by omega)).alloc _⟩
    show Blk _ _ (wv t s pu us.length cu pf fs.length cf (some ⟨fb, 0, none⟩) fa.length 4 ps se.length cs po oo.length co) _
    rw [h4]
    exact Blk.new w2 _ _
  have dw : DW ⟨t, s, us, fs, fa, se, oo⟩ := ⟨lus, lfs, f4, lse, loo⟩
  have hw1 : w.heap.size ≤ w1.heap.size := by have := d1.lt; omega
  have Hdw : Hid (DW ⟨t, s, us, fs, fa, se, oo⟩) := dw
  have Hb1 : Hid (Below w.heap.size w W1) := A0
  clear R0 R2 A2 U2 F2 SA S2 O2 d2 f4 dw A0 lus lfs lse loo
  go_upto_region 3 with fail
  rw [← HW3.out]
  go_wp2_with fail
  refine (chanceD cx D3.d 2 (by omega) (by omega) (by omega)).mono ?_
  rintro e w4 ⟨b, rfl, d4, g4⟩
  have D4 := D3.grow g4 d4
  clear D3 d4 g4
  cases b
  · have hc : C7 w4 w2.heap.size t s (.slice pu us.length cu) (.slice pf fs.length cf) (.slice (some ⟨fb, 0, none⟩) fa.length 4) (.slice ps se.length cs) (.slice po oo.length co) := D4.B.c7
    rw [h4] at hc
    obtain ⟨q0, q1, q2, q3, q4, q5, q6, bl⟩ := hc
    obtain ⟨y0, y1, y2, y3, y4, y5, y6, z0, z1, z2, z3, z4, z5, z6, rl⟩ := D4.R.z7
    obtain ⟨F1, F2, F3⟩ := D4.store (v := w) (n0 := w.heap.size) (Hb1.out.trans (D4.d.below.mono (by omega))) (Nat.le_refl _) hw1
    dsimp only at F1 F2 F3
    rw [h4] at F1 F2 F3
    go_wp2_with fail
    refine bodyPost_ret (v := .agg (wV t s (.slice pu us.length cu) (.slice pf fs.length cf) fb (.slice ps se.length cs) (.slice po oo.length co))) ?_ rfl ⟨⟨pu, cu, pf, cf, some ⟨fb, 0, none⟩, 4, ps, cs, po, co⟩, ⟨t, s, us, fs, fa, se, oo⟩, by show _ = Ending.returned (.agg (wv t s pu us.length cu pf fs.length cf (some ⟨fb, 0, none⟩) fa.length 4 ps se.length cs po oo.length co)); rw [h4], F2, Hdw.out, F3⟩
    obtain ⟨c0, c1, c2, c3, c4, c5, c6, cl⟩ := F1.c7
    simp [results, Tryz.results5, go_sem, c0, c1, c2, c3, c4, c5, c6]
    exact h4
  · have D5 := D4.d.self
    go_wp2_with fail
    refine (l5Draw_c cx D5 (by omega)).mono ?_
    rintro e w5 ⟨v, f, us', fs', rfl, S5, F5, lus, lfs, e5⟩
    obtain ⟨pv, cv, rfl⟩ := S5.fm
    obtain ⟨pg, cg, rfl⟩ := F5.fm
    have d5 := D4.d.trans e5
    have D6 := D4.grow e5.gr d5
    have hs4 : w1.heap.size ≤ w4.heap.size := D4.d.gr.size
    have S6 : SlU w5 w1.heap.size (.slice pv us'.length cv) us' := S5.mono hs4
    have F6 : SlF w5 w1.heap.size (.slice pg fs'.length cg) fs' := F5.mono hs4
    have b0 := D6.B
    have b1 := b0.set 2 (.slice pv us'.length cv)
    have b2 : Blk ((w5.setCell ⟨w2.heap.size, 2, none⟩ (.slice pv us'.length cv)).setCell ⟨w2.heap.size, 3, none⟩ (.slice pg fs'.length cg)) w2.heap.size (wv t s pv us'.length cv pg fs'.length cg (some ⟨fb, 0, none⟩) fa.length 4 ps se.length cs po oo.length co) 32 := b1.set 3 (.slice pg fs'.length cg)
    have O6 : OwW ((w5.setCell ⟨w2.heap.size, 2, none⟩ (.slice pv us'.length cv)).setCell ⟨w2.heap.size, 3, none⟩ (.slice pg fs'.length cg)) w1.heap.size ⟨pv, cv, pg, cg, some ⟨fb, 0, none⟩, 4, ps, cs, po, co⟩ ⟨t, s, us', fs', fa, se, oo⟩ :=
      ⟨(S6.setB (o := 2) b0 (by decide) _).setB (o := 3) b1 (by decide) _, (F6.setB (o := 2) b0 (by decide) _).setB (o := 3) b1 (by decide) _, (D6.o.a.setB (o := 2) b0 (by decide) _).setB (o := 3) b1 (by decide) _, (D6.o.s.setB (o := 2) b0 (by decide) _).setB (o := 3) b1 (by decide) _, (D6.o.o.setB (o := 2) b0 (by decide) _).setB (o := 3) b1 (by decide) _⟩
    have hne : w.heap.size ≠ w2.heap.size := by have := D6.bw; have := D6.rl; omega
    have R6 : Blk ((w5.setCell ⟨w2.heap.size, 2, none⟩ (.slice pv us'.length cv)).setCell ⟨w2.heap.size, 3, none⟩ (.slice pg fs'.length cg)) w.heap.size zW 32 := (D6.R.setOther (a := ⟨w2.heap.size, 2, none⟩) hne _).setOther (a := ⟨w2.heap.size, 3, none⟩) hne _
    have dw : DW ⟨t, s, us', fs', fa, se, oo⟩ := ⟨lus, lfs, Hdw.out.a, Hdw.out.s, Hdw.out.o⟩
    have B6 : Below w.heap.size w ((w5.setCell ⟨w2.heap.size, 2, none⟩ (.slice pv us'.length cv)).setCell ⟨w2.heap.size, 3, none⟩ (.slice pg fs'.length cg)) := bel_set (bel_set (Hb1.out.trans (d5.below.mono (by omega))) w2.heap.size 2 (by have := D6.bw; omega) _) w2.heap.size 3 (by have := D6.bw; omega) _
    have z2' := b0.frozen 2
    have z3' := b0.frozen 3
    have g2 := b0.cell (i := 2) rfl
    have g3 := b0.cell (i := 3) rfl
    have bl := b0.lt
    obtain ⟨W7, HW7⟩ : ∃ W7, Hid (W7 = (w5.setCell ⟨w2.heap.size, 2, none⟩ (.slice pv us'.length cv)).setCell ⟨w2.heap.size, 3, none⟩ (.slice pg fs'.length cg)) := ⟨_, rfl⟩
    rw [← HW7.out] at b2 O6 R6 B6
    have Hdw2 : Hid (DW ⟨t, s, us', fs', fa, se, oo⟩) := dw
    rw [h4] at b2
    obtain ⟨q0, q1, q2, q3, q4, q5, q6, bl2⟩ := b2.c7
    obtain ⟨y0, y1, y2, y3, y4, y5, y6, z0, z1, z2, z3, z4, z5, z6, rl⟩ := R6.z7
    obtain ⟨F1, F2, F3⟩ : Blk (st7 W7 w.heap.size ⟨pv, cv, pg, cg, some ⟨fb, 0, none⟩, 4, ps, cs, po, co⟩ ⟨t, s, us', fs', fa, se, oo⟩) w.heap.size (WP.v ⟨pv, cv, pg, cg, some ⟨fb, 0, none⟩, 4, ps, cs, po, co⟩ ⟨t, s, us', fs', fa, se, oo⟩) 32 ∧ OwW (st7 W7 w.heap.size ⟨pv, cv, pg, cg, some ⟨fb, 0, none⟩, 4, ps, cs, po, co⟩ ⟨t, s, us', fs', fa, se, oo⟩) w.heap.size ⟨pv, cv, pg, cg, some ⟨fb, 0, none⟩, 4, ps, cs, po, co⟩ ⟨t, s, us', fs', fa, se, oo⟩ ∧ Below w.heap.size w (st7 W7 w.heap.size ⟨pv, cv, pg, cg, some ⟨fb, 0, none⟩, 4, ps, cs, po, co⟩ ⟨t, s, us', fs', fa, se, oo⟩) :=
      ⟨set7_blk R6 _ _ _ _ _ _ _, (O6.of_block R6 (by decide) (by decide) (by decide) (by decide) (by decide) (set7_other _ _ _ _ _ _ _)).mono hw1, set7_below B6 (Nat.le_refl _) _ _ _ _ _ _ _⟩
    dsimp only [st7] at F1 F2 F3
    rw [h4] at F1 F2 F3
    clear D6 D4 D5 S5 F5 S6 F6 b0 b1 b2 O6 R6 B6 d5 e5 dw
    go_upto_region 5 with fail
    rw [← HW7.out]
    clear z2' z3' bl g2 g3
    go_wp2_with fail
    refine bodyPost_ret (v := .agg (wV t s (.slice pv us'.length cv) (.slice pg fs'.length cg) fb (.slice ps se.length cs) (.slice po oo.length co))) ?_ rfl ⟨⟨pv, cv, pg, cg, some ⟨fb, 0, none⟩, 4, ps, cs, po, co⟩, ⟨t, s, us', fs', fa, se, oo⟩, by show _ = Ending.returned (.agg (wv t s pv us'.length cv pg fs'.length cg (some ⟨fb, 0, none⟩) fa.length 4 ps se.length cs po oo.length co)); rw [h4], F2, Hdw2.out, F3⟩
    obtain ⟨c0, c1, c2, c3, c4, c5, c6, cl⟩ := F1.c7
    simp [results, Tryz.results5, go_sem, c0, c1, c2, c3, c4, c5, c6]
    exact h4
end Go.Proofs.YtppgjmpdnpidnaaGreatDoor
end
