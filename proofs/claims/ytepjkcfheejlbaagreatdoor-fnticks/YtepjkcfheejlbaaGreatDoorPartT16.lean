/- Texts of mine put together (a claim holds at most 60 files): TickSpec, TickImpl. -/
import Derived.Test.YtepjkcfheejlbaaGreatDoorPartT09
import Derived.Test.YtepjkcfheejlbaaGreatDoorPartT15
import Derived.Test.YtepjkcfheejlbaaGreatDoorPartT06
import Derived.Test.YtepjkcfheejlbaaGreatDoorPartT14
import Derived.RegionTactic
import Derived.BigRegion

/- TickSpec -/
/- Contracts of the model's parts of ticks that turn one unit. Condition: the unit lies in a list of one's own. -/
section
namespace Go.Proofs.YtepjkcfheejlbaaGreatDoor
open Go.ChangeShapes Go.WideShapes Go.ChangeAt Go.RowKit
open Bd
set_option linter.unusedVariables false

theorem l5Home_c (o : Int) (h0 : 0 ≤ o) (h1 : o ≤ 3) (w : World) :
    Calls Tryz.prog 53 #[.int .i64 o] w fun e w' => e = .returned (.tuple #[.int .i64 (hmX o), .int .i64 (hmY o)]) ∧ w' = w := by
  have h : o = 0 ∨ o = 1 ∨ o = 2 ∨ o = 3 := by omega
  rcases h with rfl | rfl | rfl | rfl
  all_goals
    go_enter Tryz.func53, Tryz.ntmps53
    go_wp2
    go_ret2
    exact ⟨rfl, rfl⟩
theorem specMin (a b : Int) (w : World) :
    Calls Tryz.prog 113 #[.int .i64 a, .int .i64 b] w fun e w' => e = .returned (.int .i64 (mn a b)) ∧ w' = w := by
  unfold mn
  by_cases h : a < b
  · rw [if_pos h]
    go_enter Tryz.func113, Tryz.ntmps113
    go_wp2
    go_ret
    exact ⟨rfl, rfl⟩
  · rw [if_neg h]
    have hd : decide (a < b) = false := decide_eq_false h
    go_enter Tryz.func113, Tryz.ntmps113
    go_wp2
    go_ret
    exact ⟨rfl, rfl⟩
theorem idle_upd (u : K10) : (((u.upd 6 0).upd 7 0).upd 8 0).upd 9 0 = idle u := rfl
theorem goTo_upd (u : K10) (x y : Int) : (u.upd 2 (Nums.near u.c2 x)).upd 3 (Nums.near u.c3 y) = goTo u x y := rfl
theorem carr_upd (u : K10) (x : Int) : u.upd 5 x = carr u x := rfl
theorem life_upd (u : K10) (x : Int) : u.upd 4 x = life u x := rfl
/- what became of the unit: its list, nothing else -/
def Turned (w w' : World) (base g cap k : Nat) (us : List K10) (u' : K10) : Prop := AtU w' base g cap k (us.set k u') u' ∧ KeptS (fun b => b = g) w w'
set_option maxHeartbeats 2000000 in
theorem l5Idle_c (base g cap k : Nat) (us : List K10) (u : K10) (w : World) (h : AtU w base g cap k us u) :
    Calls Tryz.prog 81 #[.pointer (some ⟨g, k * 10, none⟩)] w fun e w' => e = .returned (.tuple #[]) ∧ Turned w w' base g cap k us (idle u) := by
  have H : Hid (AtU w base g cap k us u) := h
  obtain ⟨c0, c1, c2, c3, c4, c5, c6, c7, c8, c9, cl⟩ := h.one
  have z6 := h.frozen (k * 10 + 6)
  have z7 := h.frozen (k * 10 + 7)
  have z8 := h.frozen (k * 10 + 8)
  have z9 := h.frozen (k * 10 + 9)
  have T : AtU _ base g cap k _ _ := (((h.set 6 (by omega) 0).set 7 (by omega) 0).set 8 (by omega) 0).set 9 (by omega) 0
  rw [List.set_set, List.set_set, List.set_set, idle_upd] at T
  have K : KeptS (fun b => b = g) w _ := ((((KeptS.refl (fun b => b = g) w).set (g := g) (o := k * 10 + 6) rfl (.int .i64 0)).set (g := g) (o := k * 10 + 7) rfl (.int .i64 0)).set (g := g) (o := k * 10 + 8) rfl (.int .i64 0)).set (g := g) (o := k * 10 + 9) rfl (.int .i64 0)
  clear h
  go_enter Tryz.func81, Tryz.ntmps81
  go_wp2
  go_end0
  exact ⟨rfl, T, K⟩
set_option maxHeartbeats 2000000 in
theorem l5Walk_c (base g cap k : Nat) (us : List K10) (u : K10) (x y : Int) (gu : GU u) (h0 : 0 ≤ x) (h1 : x ≤ 11) (h2 : 0 ≤ y) (h3 : y ≤ 11) (w : World) (h : AtU w base g cap k us u) :
    Calls Tryz.prog 82 #[.pointer (some ⟨g, k * 10, none⟩), .int .i64 x, .int .i64 y] w fun e w' => e = .returned (.tuple #[]) ∧ Turned w w' base g cap k us (goTo u x y) := by
  obtain ⟨c0, c1, c2, c3, c4, c5, c6, c7, c8, c9, cl⟩ := h.one
  have z2 := h.frozen (k * 10 + 2)
  have z3 := h.frozen (k * 10 + 3)
  have cX := fun w => specNear u.c2 x w gu.x0 gu.x1 h0 h1
  have cY := fun w => specNear u.c3 y w gu.y0 gu.y1 h2 h3
  have T : AtU _ base g cap k _ _ := (h.set 2 (by omega) (Nums.near u.c2 x)).set 3 (by omega) (Nums.near u.c3 y)
  rw [List.set_set, goTo_upd] at T
  have K : KeptS (fun b => b = g) w _ := ((KeptS.refl (fun b => b = g) w).set (g := g) (o := k * 10 + 2) rfl (.int .i64 (Nums.near u.c2 x))).set (g := g) (o := k * 10 + 3) rfl (.int .i64 (Nums.near u.c3 y))
  clear h
  go_enter Tryz.func82, Tryz.ntmps82
  go_wp2_with fail
  refine (cX _).mono ?_
  rintro e w1 ⟨rfl, rfl⟩
  go_wp2_with fail
  refine (cY _).mono ?_
  rintro e w1 ⟨rfl, rfl⟩
  go_wp2_with fail
  go_end0
  exact ⟨rfl, T, K⟩
theorem at2_cases (a b x y : Int) : (at2 a b x y = true ∧ (a != x) = false ∧ (b != y) = false ∧ (a == x) = true ∧ (b == y) = true) ∨ (at2 a b x y = false ∧ (((a != x) = true ∧ (a == x) = false) ∨ ((a != x) = false ∧ (b != y) = true ∧ (a == x) = true ∧ (b == y) = false))) := by
  unfold at2
  by_cases h1 : a = x <;> by_cases h2 : b = y <;> simp [h1, h2]
/- what a unit that brings home becomes; what it gives -/
def brU (u : K10) (room : Int) : K10 := if at2 u.c2 u.c3 (hmX u.c1) (hmY u.c1) = true then carr u (u.c5 - mn u.c5 room) else goTo u (hmX u.c1) (hmY u.c1)
def brG (u : K10) (room : Int) : Int := if at2 u.c2 u.c3 (hmX u.c1) (hmY u.c1) = true then mn u.c5 room else 0
theorem tkBring_eq (us : List K10) (fs : List K3) (u : K10) (room : Int) : tkBring us fs u room = ⟨putU (brU u room) us, fs, brG u room, 0⟩ := by
  unfold tkBring brU brG
  split <;> rfl
theorem brU_id (u : K10) (room : Int) : (brU u room).c0 = u.c0 := by unfold brU; split <;> rfl
set_option maxHeartbeats 4000000 in
theorem l5Bring_c (base g cap k : Nat) (us : List K10) (u : K10) (room : Int) (gu : GU u) (ho : u.c1 ≠ 9) (h0 : 0 ≤ room) (h1 : room ≤ 1000000) (w : World) (h : AtU w base g cap k us u) :
    Calls Tryz.prog 112 #[.pointer (some ⟨g, k * 10, none⟩), .int .i64 room] w fun e w' => e = .returned (.int .i64 (brG u room)) ∧ Turned w w' base g cap k us (brU u room) := by
  have ho' : 0 ≤ u.c1 ∧ u.c1 ≤ 3 := by rcases gu.o with h | h; exact h; exact absurd h ho
  have cH := fun w => l5Home_c u.c1 ho'.1 ho'.2 w
  obtain ⟨b0, b1, b2, b3⟩ := hm_bd u.c1
  have H : Hid (AtU w base g cap k us u) := h
  have cW := fun w h => l5Walk_c base g cap k us u (hmX u.c1) (hmY u.c1) gu b0 b1 b2 b3 w h
  have g0 := gu.c0
  have g1 := gu.c1
  have m := mn_bd u.c5 room
  obtain ⟨c0, c1, c2, c3, c4, c5, c6, c7, c8, c9, cl⟩ := h.one
  rcases at2_cases u.c2 u.c3 (hmX u.c1) (hmY u.c1) with ⟨e, n1, n2, _, _⟩ | ⟨e, hn⟩
  · have eU : brU u room = carr u (u.c5 - mn u.c5 room) := by unfold brU; rw [if_pos e]
    have eG : brG u room = mn u.c5 room := by unfold brG; rw [if_pos e]
    rw [eU, eG]
    have cM := fun w => specMin u.c5 room w
    generalize hmX u.c1 = X at cH n1
    generalize hmY u.c1 = Y at cH n2
    have z5 := h.frozen (k * 10 + 5)
    have T : AtU _ base g cap k _ _ := h.set 5 (by omega) (u.c5 - mn u.c5 room)
    rw [carr_upd] at T
    have K : KeptS (fun b => b = g) w _ := (KeptS.refl (fun b => b = g) w).set (g := g) (o := k * 10 + 5) rfl (.int .i64 (u.c5 - mn u.c5 room))
    generalize mn u.c5 room = M at cM T K m
    clear h cW e eU eG b0 b1 b2 b3
    go_enter Tryz.func112, Tryz.ntmps112
    go_wp2_with fail
    refine (cH _).mono ?_
    rintro e w1 ⟨rfl, rfl⟩
    go_wp2_with fail
    refine (cM _).mono ?_
    rintro e w1 ⟨rfl, rfl⟩
    go_wp2_with fail
    go_ret
    exact ⟨rfl, T, K⟩
  · have eU : brU u room = goTo u (hmX u.c1) (hmY u.c1) := by unfold brU; rw [if_neg (by rw [e]; simp)]
    have eG : brG u room = 0 := by unfold brG; rw [if_neg (by rw [e]; simp)]
    rw [eU, eG]
    generalize hmX u.c1 = X at cH hn cW
    generalize hmY u.c1 = Y at cH hn cW
    clear h e eU eG b0 b1 b2 b3
    rcases hn with ⟨n1, _⟩ | ⟨n1, n2, _, _⟩
    all_goals
      go_enter Tryz.func112, Tryz.ntmps112
      go_wp2_with fail
      refine (cH _).mono ?_
      rintro e w1 ⟨rfl, rfl⟩
      go_wp2_with fail
      refine (cW _ H.out).mono ?_
      rintro e w1 ⟨rfl, T⟩
      go_wp2_with fail
      go_ret
      exact ⟨rfl, T⟩
end Go.Proofs.YtepjkcfheejlbaaGreatDoor
end

/- TickImpl -/
/- Contracts of the program's parts of ticks: the state, a unit put into it, a job that ends, a step. Condition: the state is the call's own. -/
section
namespace Go.Proofs.YtepjkcfheejlbaaGreatDoor
open Go.ChangeShapes Go.WideShapes Go.ChangeAt Go.RowKit
open Bd
set_option linter.unusedVariables false

abbrev stV (mb : Nat) (vf : Value) (gr cr gg cg : Nat) (lost : Int) : Array Value := #[.map (some mb), vf, .slice (some ⟨gr, 0, none⟩) 4 cr, .slice (some ⟨gg, 0, none⟩) 4 cg, .int .i64 lost]
/- the program's state in memory -/
structure ST (w : World) (base T mb : Nat) (vf : Value) (gr cr gg cg : Nat) (s : TS) : Prop where
  row : w.rowIs T 77 5 (fun i => (stV mb vf gr cr gg cg s.lost)[i]!)
  m : MapAt w mb s.us
  f : SlF w base vf s.fs
  r : Lst w gr cr s.rm
  g : Lst w gg cg s.gn
  ne : gr ≠ gg
  bT : base ≤ T
  bm : base ≤ mb
  br : base ≤ gr
  bg : base ≤ gg
theorem MapAt.ne_cells {w : World} {mb b : Nat} {l : List K10} {c : Array Value} {t : TypeId} (h : MapAt w mb l) (hb : w.heap[b]? = some (.cells c t (0, 0))) : mb ≠ b := by
  intro e
  subst e
  obtain ⟨es, clock, h1, _⟩ := h
  rw [h1] at hb
  simp at hb
theorem SlF.blk {w : World} {base : Nat} {v : Value} {l : List K3} (h : SlF w base v l) {q : Nat} (hq : v.ownBlock = some q) : ∃ c, w.heap[q]? = some (.cells c 90 (0, 0)) := by
  rcases h.2 with ⟨rfl, _⟩ | ⟨g, cap, cur, rfl, _, hg, _⟩
  · cases hq
  · cases hq; exact ⟨cur, hg⟩
structure Sep (T mb : Nat) (vf : Value) (gr gg : Nat) : Prop where
  tm : T ≠ mb
  tr : T ≠ gr
  tg : T ≠ gg
  mr : mb ≠ gr
  mg : mb ≠ gg
  rg : gr ≠ gg
  f : ∀ q, vf.ownBlock = some q → q ≠ T ∧ q ≠ mb ∧ q ≠ gr ∧ q ≠ gg
theorem ST.sep {w : World} {base T mb : Nat} {vf : Value} {gr cr gg cg : Nat} {s : TS} (h : ST w base T mb vf gr cr gg cg s) : Sep T mb vf gr gg := by
  obtain ⟨ct, ht, _⟩ := h.row
  obtain ⟨c1, h1, _⟩ := h.r
  obtain ⟨c2, h2, _⟩ := h.g
  refine ⟨(h.m.ne_cells ht).symm, blk_ne ht h1 (by decide), blk_ne ht h2 (by decide), h.m.ne_cells h1, h.m.ne_cells h2, h.ne, fun q hq => ?_⟩
  obtain ⟨c, hc⟩ := h.f.blk hq
  exact ⟨blk_ne hc ht (by decide), (h.m.ne_cells hc).symm, blk_ne hc h1 (by decide), blk_ne hc h2 (by decide)⟩
theorem ST.later {w w' : World} {base T mb : Nat} {vf : Value} {gr cr gg cg : Nat} {s : TS} (h : ST w base T mb vf gr cr gg cg s) (hb : Below w.heap.size w w') : ST w' base T mb vf gr cr gg cg s :=
  ⟨row_later h.row hb, h.m.later hb, h.f.below hb, h.r.below hb, h.g.below hb, h.ne, h.bT, h.bm, h.br, h.bg⟩
theorem ST.base {w : World} {base T mb : Nat} {vf : Value} {gr cr gg cg : Nat} {s : TS} (h : ST w base T mb vf gr cr gg cg s) : base ≤ w.heap.size := Nat.le_trans h.bT (Nat.le_of_lt h.row.lt)
theorem ST.cells {w : World} {base T mb : Nat} {vf : Value} {gr cr gg cg : Nat} {s : TS} (h : ST w base T mb vf gr cr gg cg s) : w.cell? ⟨T, 0, none⟩ = some (.map (some mb)) ∧ w.cell? ⟨T, 1, none⟩ = some vf ∧ w.cell? ⟨T, 2, none⟩ = some (.slice (some ⟨gr, 0, none⟩) 4 cr) ∧ w.cell? ⟨T, 3, none⟩ = some (.slice (some ⟨gg, 0, none⟩) 4 cg) ∧ w.cell? ⟨T, 4, none⟩ = some (.int .i64 s.lost) ∧ T < w.heap.size :=
  ⟨h.row.cell (i := 0) (by omega), h.row.cell (i := 1) (by omega), h.row.cell (i := 2) (by omega), h.row.cell (i := 3) (by omega), h.row.cell (i := 4) (by omega), h.row.lt⟩
/- the map has turned -/
theorem ST.turnM {w w' : World} {base T mb : Nat} {vf : Value} {gr cr gg cg : Nat} {s : TS} {us' : List K10} (h : ST w base T mb vf gr cr gg cg s) (k : w.grownBy w' (some mb)) (m' : MapAt w' mb us') : ST w' base T mb vf gr cr gg cg ⟨us', s.fs, s.rm, s.gn, s.lost⟩ := by
  have sp := h.sep
  have kb : ∀ q, q < w.heap.size → q ≠ mb → w'.heap[q]? = w.heap[q]? := fun q hq hn => k.block q hq (fun e => hn (Option.some.inj e))
  exact ⟨h.row.of_block (kb T h.row.lt sp.tm), m', h.f.of_block (fun q hq => kb q (h.f.lt q hq).2 (sp.f q hq).2.1), h.r.of_block (kb gr h.r.lt sp.mr.symm), h.g.of_block (kb gg h.g.lt sp.mg.symm), h.ne, h.bT, h.bm, h.br, h.bg⟩
/- what a turn of the state leaves as it was: all below its base, and all blocks but its own -/
def ownS (T mb : Nat) (vf : Value) (gr gg : Nat) (q : Nat) : Prop := q = T ∨ q = mb ∨ vf.ownBlock = some q ∨ q = gr ∨ q = gg
structure KB (base T mb : Nat) (vf : Value) (gr gg : Nat) (w w' : World) : Prop where
  bel : Below base w w'
  kept : KeptS (ownS T mb vf gr gg) w w'
theorem KB.of {base T mb : Nat} {vf : Value} {gr gg : Nat} {w w' : World} (h : Below w.heap.size w w') (hb : base ≤ w.heap.size) : KB base T mb vf gr gg w w' := ⟨h.mono hb, KeptS.of_below h⟩
theorem KB.trans {base T mb : Nat} {vf : Value} {gr gg : Nat} {a b c : World} (h : KB base T mb vf gr gg a b) (k : KB base T mb vf gr gg b c) : KB base T mb vf gr gg a c := ⟨h.bel.trans k.bel, h.kept.trans k.kept⟩
theorem KB.drew {base T mb : Nat} {vf : Value} {gr gg : Nat} {a b : World} (h : KB base T mb vf gr gg a b) : KB base T mb vf gr gg a b.drew := ⟨h.bel.drew, h.kept.trans (KeptS.of_below ((Below.refl _ _).drew))⟩
theorem KB.set {base T mb : Nat} {vf : Value} {gr gg : Nat} {a b : World} (h : KB base T mb vf gr gg a b) (g o : Nat) (hg : base ≤ g) (hs : ownS T mb vf gr gg g) (v : Value) : KB base T mb vf gr gg a (b.setCell ⟨g, o, none⟩ v) := ⟨bel_set h.bel g o hg v, h.kept.set hs v⟩
theorem KB.grown {base T mb : Nat} {vf : Value} {gr gg : Nat} {a b c : World} (h : KB base T mb vf gr gg a b) (k : b.grownBy c (some mb)) (hb : base ≤ b.heap.size) (hm : base ≤ mb) : KB base T mb vf gr gg a c :=
  ⟨h.bel.grown k hb (fun q hq => by cases hq; exact hm), h.kept.grown k (fun q hq _ => by cases hq; exact .inr (.inl rfl))⟩
def stPut (s : TS) (u : K10) : TS := ⟨putU u s.us, s.fs, s.rm, s.gn, s.lost⟩
theorem boxU (w : World) (u : K10) : ∃ W, Hid (W = w.alloc (.cells u.v 87)) ∧ Below w.heap.size w W ∧ U1 W w.heap.size 0 u ∧ W.rowIs w.heap.size 87 10 (fun i => u.v[i]!) := by
  refine ⟨_, rfl, (Below.refl _ _).alloc (Nat.le_refl _) _, U1.new w u _, ?_⟩
  refine ⟨u.v, ?_, rfl, fun i hi => ?_⟩
  · show (w.heap.push _)[w.heap.size]? = _
    simp
  · have h6 : i = 0 ∨ i = 1 ∨ i = 2 ∨ i = 3 ∨ i = 4 ∨ i = 5 ∨ i = 6 ∨ i = 7 ∨ i = 8 ∨ i = 9 := by omega
    rcases h6 with rfl | rfl | rfl | rfl | rfl | rfl | rfl | rfl | rfl | rfl <;> rfl
set_option maxRecDepth 20000 in
set_option maxHeartbeats 8000000 in
theorem put_c (base T mb : Nat) (vf : Value) (gr cr gg cg : Nat) (s : TS) (u : K10) (hr : Rise s.us) (hn : s.us.length ≤ 8) (hi0 : 1 ≤ u.c0) (hi1 : u.c0 ≤ 99) (w : World) (h : ST w base T mb vf gr cr gg cg s) :
    Calls Tryz.prog 139 #[.pointer (some ⟨T, 0, none⟩), .agg u.v] w fun e w' => e = .returned (.tuple #[]) ∧ ST w' base T mb vf gr cr gg cg (stPut s u) ∧ KB base T mb vf gr gg w w' := by
  obtain ⟨W1, HW1, B1, U0, _⟩ := boxU w u
  obtain ⟨W6, HW6⟩ : ∃ W6, Hid (W6 = ((W1.alloc (.cells u.v 87)).alloc (.cells u.v 73)).drew) := ⟨_, rfl⟩
  have k6 : Below W1.heap.size W1 W6 := by rw [HW6.out]; exact (((Below.refl _ _).alloc (Nat.le_refl _) _).alloc (by rw [size_new]; exact Nat.le_succ _) _).drew
  have h6 := (h.later B1).later k6
  obtain ⟨w7, hrun, M7, hg7⟩ := h6.m.update hr (by omega) u (wf_int (by omega) (by omega))
  have S7 : ST w7 base T mb vf gr cr gg cg (stPut s u) := h6.turnM hg7 M7
  have U7 : U1 w7 w.heap.size 0 u := (U0.later k6).of_block (hg7.block _ (U0.later k6).lt (by intro e; have := Option.some.inj e; have := h.m.lt; omega)) (by have := (U0.later k6).lt; have := hg7.size; omega)
  obtain ⟨r0, r1, r2, r3, r4, r5, r6, r7, r8, r9, rl7⟩ := U7
  obtain ⟨y0, y1, y2, y3, y4, yl⟩ := S7.cells
  have B6 := B1.trans (k6.mono B1.size)
  have B7 : KB base T mb vf gr gg w w7 := (KB.of B6 h.base).grown hg7 (Nat.le_trans h.base B6.size) h.bm
  rw [HW6.out] at hrun
  have cO := fun w => rowOf_c u w
  obtain ⟨s0, s1, s2, s3, s4, s5, s6, s7, s8, s9, sl⟩ := U0
  obtain ⟨t0, t1, t2, t3, t4, tl⟩ := (h.later B1).cells
  clear h h6 M7 hg7 k6 B6
  go_enter Tryz.func139, Tryz.ntmps139
  go_upto_region 1 with fail
  rw [← HW1.out]
  go_region_held3 (fun w' => w'.cell? ⟨w.heap.size, 0, none⟩ = some (.int .i64 u.c0) ∧ w'.cell? ⟨w.heap.size, 1, none⟩ = some (.int .i64 u.c1) ∧ w'.cell? ⟨w.heap.size, 2, none⟩ = some (.int .i64 u.c2) ∧ w'.cell? ⟨w.heap.size, 3, none⟩ = some (.int .i64 u.c3) ∧ w'.cell? ⟨w.heap.size, 4, none⟩ = some (.int .i64 u.c4) ∧ w'.cell? ⟨w.heap.size, 5, none⟩ = some (.int .i64 u.c5) ∧ w'.cell? ⟨w.heap.size, 6, none⟩ = some (.int .i64 u.c6) ∧ w'.cell? ⟨w.heap.size, 7, none⟩ = some (.int .i64 u.c7) ∧ w'.cell? ⟨w.heap.size, 8, none⟩ = some (.int .i64 u.c8) ∧ w'.cell? ⟨w.heap.size, 9, none⟩ = some (.int .i64 u.c9) ∧ w'.cell? ⟨T, 0, none⟩ = some (.map (some mb))) (go_keep) (first | (go_at_call 100; refine (cO _).mono ?_; rintro e w1 ⟨rfl, rfl⟩))
  all_goals
    go_end0
    exact ⟨rfl, S7, B7⟩
end Go.Proofs.YtepjkcfheejlbaaGreatDoor
end
