/- Texts of mine put together (a claim holds at most 60 files): TickSpec, TickImpl, TickImpl2, TickHome. -/
import Derived.Test.YtppgjmpdnpidnaaGreatDoorPartK14
import Derived.Test.YtppgjmpdnpidnaaGreatDoorPartK15
import Derived.Test.YtppgjmpdnpidnaaGreatDoorPartK05
import Derived.Test.YtppgjmpdnpidnaaGreatDoorPartK13
import Derived.RegionTactic
import Derived.BigRegion
import Derived.Test.YtppgjmpdnpidnaaGreatDoorPartK12

/- TickSpec -/
/- Contracts of the model's parts of ticks that turn one unit. Condition: the unit lies in a list of one's own. -/
section
namespace Go.Proofs.YtppgjmpdnpidnaaGreatDoor
open Go.ChangeShapes Go.WideShapes Go.ChangeAt Go.RowKit
open Bd
set_option linter.unusedVariables false

theorem l5Home_c (o : Int) (h0 : 0 ≤ o) (h1 : o ≤ 3) (w : World) :
    Calls Tryz.prog 40 #[.int .i64 o] w fun e w' => e = .returned (.tuple #[.int .i64 (hmX o), .int .i64 (hmY o)]) ∧ w' = w := by
  have h : o = 0 ∨ o = 1 ∨ o = 2 ∨ o = 3 := by omega
  rcases h with rfl | rfl | rfl | rfl
  all_goals
    go_enter Tryz.func40, Tryz.ntmps40
    go_wp2
    go_ret2
    exact ⟨rfl, rfl⟩
theorem specMin (a b : Int) (w : World) :
    Calls Tryz.prog 113 #[.int .i64 a, .int .i64 b] w fun e w' => e = .returned (.int .i64 (mn a b)) ∧ w' = w := by
  unfold mn
  by_cases h : a < b
  · rw [if_pos h]
    go_enter Tryz.func113, Tryz.ntmps113
    go_wp2
    go_ret
    exact ⟨rfl, rfl⟩
  · rw [if_neg h]
    have hd : decide (a < b) = false := decide_eq_false h
    go_enter Tryz.func113, Tryz.ntmps113
    go_wp2
    go_ret
    exact ⟨rfl, rfl⟩
theorem idle_upd (u : K10) : (((u.upd 6 0).upd 7 0).upd 8 0).upd 9 0 = idle u := rfl
theorem goTo_upd (u : K10) (x y : Int) : (u.upd 2 (Nums.near u.c2 x)).upd 3 (Nums.near u.c3 y) = goTo u x y := rfl
theorem carr_upd (u : K10) (x : Int) : u.upd 5 x = carr u x := rfl
/- what became of the unit: its list, nothing else -/
def Turned (w w' : World) (base g cap k : Nat) (us : List K10) (u' : K10) : Prop := AtU w' base g cap k (us.set k u') u' ∧ KeptS (fun b => b = g) w w'
set_option maxHeartbeats 2000000 in
theorem l5Idle_c (base g cap k : Nat) (us : List K10) (u : K10) (w : World) (h : AtU w base g cap k us u) :
    Calls Tryz.prog 101 #[.pointer (some ⟨g, k * 10, none⟩)] w fun e w' => e = .returned (.tuple #[]) ∧ Turned w w' base g cap k us (idle u) := by
  have H : Hid (AtU w base g cap k us u) := h
  obtain ⟨c0, c1, c2, c3, c4, c5, c6, c7, c8, c9, cl⟩ := h.one
  have z6 := h.frozen (k * 10 + 6)
  have z7 := h.frozen (k * 10 + 7)
  have z8 := h.frozen (k * 10 + 8)
  have z9 := h.frozen (k * 10 + 9)
  have T : AtU _ base g cap k _ _ := (((h.set 6 (by omega) 0).set 7 (by omega) 0).set 8 (by omega) 0).set 9 (by omega) 0
  rw [List.set_set, List.set_set, List.set_set, idle_upd] at T
  have K : KeptS (fun b => b = g) w _ := ((((KeptS.refl (fun b => b = g) w).set (g := g) (o := k * 10 + 6) rfl (.int .i64 0)).set (g := g) (o := k * 10 + 7) rfl (.int .i64 0)).set (g := g) (o := k * 10 + 8) rfl (.int .i64 0)).set (g := g) (o := k * 10 + 9) rfl (.int .i64 0)
  clear h
  go_enter Tryz.func101, Tryz.ntmps101
  go_wp2
  go_end0
  exact ⟨rfl, T, K⟩
set_option maxHeartbeats 2000000 in
theorem l5Walk_c (base g cap k : Nat) (us : List K10) (u : K10) (x y : Int) (gu : GU u) (h0 : 0 ≤ x) (h1 : x ≤ 11) (h2 : 0 ≤ y) (h3 : y ≤ 11) (w : World) (h : AtU w base g cap k us u) :
    Calls Tryz.prog 102 #[.pointer (some ⟨g, k * 10, none⟩), .int .i64 x, .int .i64 y] w fun e w' => e = .returned (.tuple #[]) ∧ Turned w w' base g cap k us (goTo u x y) := by
  obtain ⟨c0, c1, c2, c3, c4, c5, c6, c7, c8, c9, cl⟩ := h.one
  have z2 := h.frozen (k * 10 + 2)
  have z3 := h.frozen (k * 10 + 3)
  have cX := fun w => specNear u.c2 x w gu.x0 gu.x1 h0 h1
  have cY := fun w => specNear u.c3 y w gu.y0 gu.y1 h2 h3
  have T : AtU _ base g cap k _ _ := (h.set 2 (by omega) (Nums.near u.c2 x)).set 3 (by omega) (Nums.near u.c3 y)
  rw [List.set_set, goTo_upd] at T
  have K : KeptS (fun b => b = g) w _ := ((KeptS.refl (fun b => b = g) w).set (g := g) (o := k * 10 + 2) rfl (.int .i64 (Nums.near u.c2 x))).set (g := g) (o := k * 10 + 3) rfl (.int .i64 (Nums.near u.c3 y))
  clear h
  go_enter Tryz.func102, Tryz.ntmps102
  go_wp2_with fail
  refine (cX _).mono ?_
  rintro e w1 ⟨rfl, rfl⟩
  go_wp2_with fail
  refine (cY _).mono ?_
  rintro e w1 ⟨rfl, rfl⟩
  go_wp2_with fail
  go_end0
  exact ⟨rfl, T, K⟩
theorem at2_cases (a b x y : Int) : (at2 a b x y = true ∧ (a != x) = false ∧ (b != y) = false ∧ (a == x) = true ∧ (b == y) = true) ∨ (at2 a b x y = false ∧ (((a != x) = true ∧ (a == x) = false) ∨ ((a != x) = false ∧ (b != y) = true ∧ (a == x) = true ∧ (b == y) = false))) := by
  unfold at2
  by_cases h1 : a = x <;> by_cases h2 : b = y <;> simp [h1, h2]
/- what a unit that brings home becomes; what it gives -/
def brU (u : K10) (room : Int) : K10 := if at2 u.c2 u.c3 (hmX u.c1) (hmY u.c1) = true then carr u (u.c5 - mn u.c5 room) else goTo u (hmX u.c1) (hmY u.c1)
def brG (u : K10) (room : Int) : Int := if at2 u.c2 u.c3 (hmX u.c1) (hmY u.c1) = true then mn u.c5 room else 0
theorem tkBring_eq (us : List K10) (fs : List K3) (u : K10) (room : Int) : tkBring us fs u room = ⟨putU (brU u room) us, fs, brG u room, 0⟩ := by
  unfold tkBring brU brG
  split <;> rfl
theorem brU_id (u : K10) (room : Int) : (brU u room).c0 = u.c0 := by unfold brU; split <;> rfl
set_option maxHeartbeats 4000000 in
theorem l5Bring_c (base g cap k : Nat) (us : List K10) (u : K10) (room : Int) (gu : GU u) (ho : u.c1 ≠ 9) (h0 : 0 ≤ room) (h1 : room ≤ 1000000) (w : World) (h : AtU w base g cap k us u) :
    Calls Tryz.prog 112 #[.pointer (some ⟨g, k * 10, none⟩), .int .i64 room] w fun e w' => e = .returned (.int .i64 (brG u room)) ∧ Turned w w' base g cap k us (brU u room) := by
  have ho' : 0 ≤ u.c1 ∧ u.c1 ≤ 3 := by rcases gu.o with h | h; exact h; exact absurd h ho
  have cH := fun w => l5Home_c u.c1 ho'.1 ho'.2 w
  obtain ⟨b0, b1, b2, b3⟩ := hm_bd u.c1
  have H : Hid (AtU w base g cap k us u) := h
  have cW := fun w h => l5Walk_c base g cap k us u (hmX u.c1) (hmY u.c1) gu b0 b1 b2 b3 w h
  have g0 := gu.c0
  have g1 := gu.c1
  have m := mn_bd u.c5 room
  obtain ⟨c0, c1, c2, c3, c4, c5, c6, c7, c8, c9, cl⟩ := h.one
  rcases at2_cases u.c2 u.c3 (hmX u.c1) (hmY u.c1) with ⟨e, n1, n2, _, _⟩ | ⟨e, hn⟩
  · have eU : brU u room = carr u (u.c5 - mn u.c5 room) := by unfold brU; rw [if_pos e]
    have eG : brG u room = mn u.c5 room := by unfold brG; rw [if_pos e]
    rw [eU, eG]
    have cM := fun w => specMin u.c5 room w
    generalize hmX u.c1 = X at cH n1
    generalize hmY u.c1 = Y at cH n2
    have z5 := h.frozen (k * 10 + 5)
    have T : AtU _ base g cap k _ _ := h.set 5 (by omega) (u.c5 - mn u.c5 room)
    rw [carr_upd] at T
    have K : KeptS (fun b => b = g) w _ := (KeptS.refl (fun b => b = g) w).set (g := g) (o := k * 10 + 5) rfl (.int .i64 (u.c5 - mn u.c5 room))
    generalize mn u.c5 room = M at cM T K m
    clear h cW e eU eG b0 b1 b2 b3
    go_enter Tryz.func112, Tryz.ntmps112
    go_wp2_with fail
    refine (cH _).mono ?_
    rintro e w1 ⟨rfl, rfl⟩
    go_wp2_with fail
    refine (cM _).mono ?_
    rintro e w1 ⟨rfl, rfl⟩
    go_wp2_with fail
    go_ret
    exact ⟨rfl, T, K⟩
  · have eU : brU u room = goTo u (hmX u.c1) (hmY u.c1) := by unfold brU; rw [if_neg (by rw [e]; simp)]
    have eG : brG u room = 0 := by unfold brG; rw [if_neg (by rw [e]; simp)]
    rw [eU, eG]
    generalize hmX u.c1 = X at cH hn cW
    generalize hmY u.c1 = Y at cH hn cW
    clear h e eU eG b0 b1 b2 b3
    rcases hn with ⟨n1, _⟩ | ⟨n1, n2, _, _⟩
    all_goals
      go_enter Tryz.func112, Tryz.ntmps112
      go_wp2_with fail
      refine (cH _).mono ?_
      rintro e w1 ⟨rfl, rfl⟩
      go_wp2_with fail
      refine (cW _ H.out).mono ?_
      rintro e w1 ⟨rfl, T⟩
      go_wp2_with fail
      go_ret
      exact ⟨rfl, T⟩
end Go.Proofs.YtppgjmpdnpidnaaGreatDoor
end

/- TickImpl -/
/- Contracts of the program's parts of ticks: the state, a unit put into it, a job that ends, a step. Condition: the state is the call's own. -/
section
namespace Go.Proofs.YtppgjmpdnpidnaaGreatDoor
open Go.ChangeShapes Go.WideShapes Go.ChangeAt Go.RowKit
open Bd
set_option linter.unusedVariables false

abbrev stV (mb : Nat) (vf : Value) (gr cr gg cg : Nat) (lost : Int) : Array Value := #[.map (some mb), vf, .slice (some ⟨gr, 0, none⟩) 4 cr, .slice (some ⟨gg, 0, none⟩) 4 cg, .int .i64 lost]
/- the program's state in memory -/
structure ST (w : World) (base T mb : Nat) (vf : Value) (gr cr gg cg : Nat) (s : TS) : Prop where
  row : w.rowIs T 127 5 (fun i => (stV mb vf gr cr gg cg s.lost)[i]!)
  m : MapAt w mb s.us
  f : SlF w base vf s.fs
  r : Lst w gr cr s.rm
  g : Lst w gg cg s.gn
  ne : gr ≠ gg
  bT : base ≤ T
  bm : base ≤ mb
  br : base ≤ gr
  bg : base ≤ gg
theorem MapAt.ne_cells {w : World} {mb b : Nat} {l : List K10} {c : Array Value} {t : TypeId} (h : MapAt w mb l) (hb : w.heap[b]? = some (.cells c t (0, 0))) : mb ≠ b := by
  intro e
  subst e
  obtain ⟨es, clock, h1, _⟩ := h
  rw [h1] at hb
  simp at hb
theorem SlF.blk {w : World} {base : Nat} {v : Value} {l : List K3} (h : SlF w base v l) {q : Nat} (hq : v.ownBlock = some q) : ∃ c, w.heap[q]? = some (.cells c 78 (0, 0)) := by
  rcases h.2 with ⟨rfl, _⟩ | ⟨g, cap, cur, rfl, _, hg, _⟩
  · cases hq
  · cases hq; exact ⟨cur, hg⟩
structure Sep (T mb : Nat) (vf : Value) (gr gg : Nat) : Prop where
  tm : T ≠ mb
  tr : T ≠ gr
  tg : T ≠ gg
  mr : mb ≠ gr
  mg : mb ≠ gg
  rg : gr ≠ gg
  f : ∀ q, vf.ownBlock = some q → q ≠ T ∧ q ≠ mb ∧ q ≠ gr ∧ q ≠ gg
theorem ST.sep {w : World} {base T mb : Nat} {vf : Value} {gr cr gg cg : Nat} {s : TS} (h : ST w base T mb vf gr cr gg cg s) : Sep T mb vf gr gg := by
  obtain ⟨ct, ht, _⟩ := h.row
  obtain ⟨c1, h1, _⟩ := h.r
  obtain ⟨c2, h2, _⟩ := h.g
  refine ⟨(h.m.ne_cells ht).symm, blk_ne ht h1 (by decide), blk_ne ht h2 (by decide), h.m.ne_cells h1, h.m.ne_cells h2, h.ne, fun q hq => ?_⟩
  obtain ⟨c, hc⟩ := h.f.blk hq
  exact ⟨blk_ne hc ht (by decide), (h.m.ne_cells hc).symm, blk_ne hc h1 (by decide), blk_ne hc h2 (by decide)⟩
theorem ST.later {w w' : World} {base T mb : Nat} {vf : Value} {gr cr gg cg : Nat} {s : TS} (h : ST w base T mb vf gr cr gg cg s) (hb : Below w.heap.size w w') : ST w' base T mb vf gr cr gg cg s :=
  ⟨row_later h.row hb, h.m.later hb, h.f.below hb, h.r.below hb, h.g.below hb, h.ne, h.bT, h.bm, h.br, h.bg⟩
theorem ST.base {w : World} {base T mb : Nat} {vf : Value} {gr cr gg cg : Nat} {s : TS} (h : ST w base T mb vf gr cr gg cg s) : base ≤ w.heap.size := Nat.le_trans h.bT (Nat.le_of_lt h.row.lt)
theorem ST.cells {w : World} {base T mb : Nat} {vf : Value} {gr cr gg cg : Nat} {s : TS} (h : ST w base T mb vf gr cr gg cg s) : w.cell? ⟨T, 0, none⟩ = some (.map (some mb)) ∧ w.cell? ⟨T, 1, none⟩ = some vf ∧ w.cell? ⟨T, 2, none⟩ = some (.slice (some ⟨gr, 0, none⟩) 4 cr) ∧ w.cell? ⟨T, 3, none⟩ = some (.slice (some ⟨gg, 0, none⟩) 4 cg) ∧ w.cell? ⟨T, 4, none⟩ = some (.int .i64 s.lost) ∧ T < w.heap.size :=
  ⟨h.row.cell (i := 0) (by omega), h.row.cell (i := 1) (by omega), h.row.cell (i := 2) (by omega), h.row.cell (i := 3) (by omega), h.row.cell (i := 4) (by omega), h.row.lt⟩
/- the map has turned -/
theorem ST.turnM {w w' : World} {base T mb : Nat} {vf : Value} {gr cr gg cg : Nat} {s : TS} {us' : List K10} (h : ST w base T mb vf gr cr gg cg s) (k : w.grownBy w' (some mb)) (m' : MapAt w' mb us') : ST w' base T mb vf gr cr gg cg ⟨us', s.fs, s.rm, s.gn, s.lost⟩ := by
  have sp := h.sep
  have kb : ∀ q, q < w.heap.size → q ≠ mb → w'.heap[q]? = w.heap[q]? := fun q hq hn => k.block q hq (fun e => hn (Option.some.inj e))
  exact ⟨h.row.of_block (kb T h.row.lt sp.tm), m', h.f.of_block (fun q hq => kb q (h.f.lt q hq).2 (sp.f q hq).2.1), h.r.of_block (kb gr h.r.lt sp.mr.symm), h.g.of_block (kb gg h.g.lt sp.mg.symm), h.ne, h.bT, h.bm, h.br, h.bg⟩
/- what a turn of the state leaves as it was: all below its base, and all blocks but its own -/
def ownS (T mb : Nat) (vf : Value) (gr gg : Nat) (q : Nat) : Prop := q = T ∨ q = mb ∨ vf.ownBlock = some q ∨ q = gr ∨ q = gg
structure KB (base T mb : Nat) (vf : Value) (gr gg : Nat) (w w' : World) : Prop where
  bel : Below base w w'
  kept : KeptS (ownS T mb vf gr gg) w w'
theorem KB.of {base T mb : Nat} {vf : Value} {gr gg : Nat} {w w' : World} (h : Below w.heap.size w w') (hb : base ≤ w.heap.size) : KB base T mb vf gr gg w w' := ⟨h.mono hb, KeptS.of_below h⟩
theorem KB.trans {base T mb : Nat} {vf : Value} {gr gg : Nat} {a b c : World} (h : KB base T mb vf gr gg a b) (k : KB base T mb vf gr gg b c) : KB base T mb vf gr gg a c := ⟨h.bel.trans k.bel, h.kept.trans k.kept⟩
theorem KB.drew {base T mb : Nat} {vf : Value} {gr gg : Nat} {a b : World} (h : KB base T mb vf gr gg a b) : KB base T mb vf gr gg a b.drew := ⟨h.bel.drew, h.kept.trans (KeptS.of_below ((Below.refl _ _).drew))⟩
theorem KB.set {base T mb : Nat} {vf : Value} {gr gg : Nat} {a b : World} (h : KB base T mb vf gr gg a b) (g o : Nat) (hg : base ≤ g) (hs : ownS T mb vf gr gg g) (v : Value) : KB base T mb vf gr gg a (b.setCell ⟨g, o, none⟩ v) := ⟨bel_set h.bel g o hg v, h.kept.set hs v⟩
theorem KB.grown {base T mb : Nat} {vf : Value} {gr gg : Nat} {a b c : World} (h : KB base T mb vf gr gg a b) (k : b.grownBy c (some mb)) (hb : base ≤ b.heap.size) (hm : base ≤ mb) : KB base T mb vf gr gg a c :=
  ⟨h.bel.grown k hb (fun q hq => by cases hq; exact hm), h.kept.grown k (fun q hq _ => by cases hq; exact .inr (.inl rfl))⟩
def stPut (s : TS) (u : K10) : TS := ⟨putU u s.us, s.fs, s.rm, s.gn, s.lost⟩
theorem boxU (w : World) (u : K10) : ∃ W, Hid (W = w.alloc (.cells u.v 75)) ∧ Below w.heap.size w W ∧ U1 W w.heap.size 0 u ∧ W.rowIs w.heap.size 75 10 (fun i => u.v[i]!) := by
  refine ⟨_, rfl, (Below.refl _ _).alloc (Nat.le_refl _) _, U1.new w u _, ?_⟩
  refine ⟨u.v, ?_, rfl, fun i hi => ?_⟩
  · show (w.heap.push _)[w.heap.size]? = _
    simp
  · have h6 : i = 0 ∨ i = 1 ∨ i = 2 ∨ i = 3 ∨ i = 4 ∨ i = 5 ∨ i = 6 ∨ i = 7 ∨ i = 8 ∨ i = 9 := by omega
    rcases h6 with rfl | rfl | rfl | rfl | rfl | rfl | rfl | rfl | rfl | rfl <;> rfl
set_option maxRecDepth 20000 in
set_option maxHeartbeats 8000000 in
theorem put_c (base T mb : Nat) (vf : Value) (gr cr gg cg : Nat) (s : TS) (u : K10) (hr : Rise s.us) (hn : s.us.length ≤ 8) (hi0 : 1 ≤ u.c0) (hi1 : u.c0 ≤ 99) (w : World) (h : ST w base T mb vf gr cr gg cg s) :
    Calls Tryz.prog 146 #[.pointer (some ⟨T, 0, none⟩), .agg u.v] w fun e w' => e = .returned (.tuple #[]) ∧ ST w' base T mb vf gr cr gg cg (stPut s u) ∧ KB base T mb vf gr gg w w' := by
  obtain ⟨W1, HW1, B1, U0, _⟩ := boxU w u
  obtain ⟨W6, HW6⟩ : ∃ W6, Hid (W6 = ((W1.alloc (.cells u.v 75)).alloc (.cells u.v 133)).drew) := ⟨_, rfl⟩
  have k6 : Below W1.heap.size W1 W6 := by rw [HW6.out]; exact (((Below.refl _ _).alloc (Nat.le_refl _) _).alloc (by rw [size_new]; exact Nat.le_succ _) _).drew
  have h6 := (h.later B1).later k6
  obtain ⟨w7, hrun, M7, hg7⟩ := h6.m.update hr (by omega) u (wf_int (by omega) (by omega))
  have S7 : ST w7 base T mb vf gr cr gg cg (stPut s u) := h6.turnM hg7 M7
  have U7 : U1 w7 w.heap.size 0 u := (U0.later k6).of_block (hg7.block _ (U0.later k6).lt (by intro e; have := Option.some.inj e; have := h.m.lt; omega)) (by have := (U0.later k6).lt; have := hg7.size; omega)
  obtain ⟨r0, r1, r2, r3, r4, r5, r6, r7, r8, r9, rl7⟩ := U7
  obtain ⟨y0, y1, y2, y3, y4, yl⟩ := S7.cells
  have B6 := B1.trans (k6.mono B1.size)
  have B7 : KB base T mb vf gr gg w w7 := (KB.of B6 h.base).grown hg7 (Nat.le_trans h.base B6.size) h.bm
  rw [HW6.out] at hrun
  have cO := fun w => rowOf_c u w
  obtain ⟨s0, s1, s2, s3, s4, s5, s6, s7, s8, s9, sl⟩ := U0
  obtain ⟨t0, t1, t2, t3, t4, tl⟩ := (h.later B1).cells
  clear h h6 M7 hg7 k6 B6
  go_enter Tryz.func146, Tryz.ntmps146
  go_upto_region 1 with fail
  rw [← HW1.out]
  go_region_held3 (fun w' => w'.cell? ⟨w.heap.size, 0, none⟩ = some (.int .i64 u.c0) ∧ w'.cell? ⟨w.heap.size, 1, none⟩ = some (.int .i64 u.c1) ∧ w'.cell? ⟨w.heap.size, 2, none⟩ = some (.int .i64 u.c2) ∧ w'.cell? ⟨w.heap.size, 3, none⟩ = some (.int .i64 u.c3) ∧ w'.cell? ⟨w.heap.size, 4, none⟩ = some (.int .i64 u.c4) ∧ w'.cell? ⟨w.heap.size, 5, none⟩ = some (.int .i64 u.c5) ∧ w'.cell? ⟨w.heap.size, 6, none⟩ = some (.int .i64 u.c6) ∧ w'.cell? ⟨w.heap.size, 7, none⟩ = some (.int .i64 u.c7) ∧ w'.cell? ⟨w.heap.size, 8, none⟩ = some (.int .i64 u.c8) ∧ w'.cell? ⟨w.heap.size, 9, none⟩ = some (.int .i64 u.c9) ∧ w'.cell? ⟨T, 0, none⟩ = some (.map (some mb))) (go_keep) (first | (go_at_call 105; refine (cO _).mono ?_; rintro e w1 ⟨rfl, rfl⟩))
  all_goals
    go_end0
    exact ⟨rfl, S7, B7⟩
end Go.Proofs.YtppgjmpdnpidnaaGreatDoor
end

/- TickImpl2 -/
/- Contracts of the program's parts of ticks: a job that ends, a step, homes. Condition: the state is the call's own; the homes lie in their variable. -/
section
namespace Go.Proofs.YtppgjmpdnpidnaaGreatDoor
open Go.ChangeShapes Go.WideShapes Go.ChangeAt Go.RowKit
open Bd
set_option linter.unusedVariables false

theorem U1.of_row {w : World} {g : Nat} {t : TypeId} {f : Nat → Value} {x : K10} (h : w.rowIs g t 10 f) (e : ∀ i, i < 10 → f i = .int .i64 (x.f i)) : U1 w g 0 x := by
  have c : ∀ i, i < 10 → w.cell? ⟨g, 0 + i, none⟩ = some (.int .i64 (x.f i)) := fun i hi => by rw [Nat.zero_add, h.cell hi, e i hi]
  exact ⟨c 0 (by omega), c 1 (by omega), c 2 (by omega), c 3 (by omega), c 4 (by omega), c 5 (by omega), c 6 (by omega), c 7 (by omega), c 8 (by omega), c 9 (by omega), h.lt⟩
theorem ten {i : Nat} (h : i < 10) : i = 0 ∨ i = 1 ∨ i = 2 ∨ i = 3 ∨ i = 4 ∨ i = 5 ∨ i = 6 ∨ i = 7 ∨ i = 8 ∨ i = 9 := by omega
set_option maxRecDepth 20000 in
set_option maxHeartbeats 8000000 in
theorem withoutJob_c (u : K10) (w : World) :
    Calls Tryz.prog 147 #[.agg u.v] w fun e w' => e = .returned (.agg (idle u).v) ∧ Below w.heap.size w w' := by
  obtain ⟨W0, HW0, B0, U0, row0⟩ := boxU w u
  obtain ⟨W1, HW1⟩ : ∃ W1, Hid (W1 = (w.alloc (.cells u.v 75)).alloc (.cells #[.int .i64 0, .int .i64 0, .int .i64 0, .int .i64 0, .int .i64 0, .int .i64 0, .int .i64 0, .int .i64 0, .int .i64 0, .int .i64 0] 75)) := ⟨_, rfl⟩
  have hs0 : W0.heap.size = w.heap.size + 1 := by rw [HW0.out]; exact size_new _ _
  have e1 : W1 = W0.alloc (.cells K10.z.v 75) := by rw [HW1.out, HW0.out]; rfl
  have k1 : Below W0.heap.size W0 W1 := by rw [e1]; exact (Below.refl _ _).alloc (Nat.le_refl _) _
  have B1 := B0.trans (k1.mono B0.size)
  have row := row_later row0 k1
  have rr : W1.rowIs (w.heap.size + 1) 75 10 (fun i => K10.z.v[i]!) := by
    obtain ⟨Y, hY, bY, uY, rY⟩ := boxU W0 K10.z
    rw [e1, ← hs0, ← hY.out]
    exact rY
  replace U0 := U0.later k1
  obtain ⟨W2, HW2⟩ : ∃ W2, Hid (W2 = (((W1.setCell ⟨w.heap.size, 6, none⟩ (.int .i64 0)).setCell ⟨w.heap.size, 7, none⟩ (.int .i64 0)).setCell ⟨w.heap.size, 8, none⟩ (.int .i64 0)).setCell ⟨w.heap.size, 9, none⟩ (.int .i64 0)) := ⟨_, rfl⟩
  have row2 := (((row.set 6 (.int .i64 0)).set 7 (.int .i64 0)).set 8 (.int .i64 0)).set 9 (.int .i64 0)
  have hne : w.heap.size + 1 ≠ w.heap.size := by omega
  have rr2 := row_other (row_other (row_other (row_other rr (a := ⟨w.heap.size, 6, none⟩) hne (.int .i64 0)) (a := ⟨w.heap.size, 7, none⟩) hne (.int .i64 0)) (a := ⟨w.heap.size, 8, none⟩) hne (.int .i64 0)) (a := ⟨w.heap.size, 9, none⟩) hne (.int .i64 0)
  rw [← HW2.out] at row2 rr2
  have U2 : U1 W2 w.heap.size 0 (idle u) := U1.of_row row2 (fun i hi => by rcases ten hi with rfl | rfl | rfl | rfl | rfl | rfl | rfl | rfl | rfl | rfl <;> rfl)
  have B2 : Below w.heap.size w W2 := by rw [HW2.out]; exact bel_set (bel_set (bel_set (bel_set B1 _ _ (Nat.le_refl _) _) _ _ (Nat.le_refl _) _) _ _ (Nat.le_refl _) _) _ _ (Nat.le_refl _) _
  have row3 := ((((((((((rr2.set 0 (.int .i64 u.c0)).set 1 (.int .i64 u.c1)).set 2 (.int .i64 u.c2)).set 3 (.int .i64 u.c3)).set 4 (.int .i64 u.c4)).set 5 (.int .i64 u.c5)).set 6 (.int .i64 0)).set 7 (.int .i64 0)).set 8 (.int .i64 0)).set 9 (.int .i64 0))
  have U3 := U1.of_row (x := idle u) row3 (fun i hi => by rcases ten hi with rfl | rfl | rfl | rfl | rfl | rfl | rfl | rfl | rfl | rfl <;> rfl)
  have B3 := (bel_set (bel_set (bel_set (bel_set (bel_set (bel_set (bel_set (bel_set (bel_set (bel_set B2 (w.heap.size + 1) 0 (by omega) (.int .i64 u.c0)) (w.heap.size + 1) 1 (by omega) (.int .i64 u.c1)) (w.heap.size + 1) 2 (by omega) (.int .i64 u.c2)) (w.heap.size + 1) 3 (by omega) (.int .i64 u.c3)) (w.heap.size + 1) 4 (by omega) (.int .i64 u.c4)) (w.heap.size + 1) 5 (by omega) (.int .i64 u.c5)) (w.heap.size + 1) 6 (by omega) (.int .i64 0)) (w.heap.size + 1) 7 (by omega) (.int .i64 0)) (w.heap.size + 1) 8 (by omega) (.int .i64 0)) (w.heap.size + 1) 9 (by omega) (.int .i64 0))
  have z6 := row.frozen 6
  have z7 := row.frozen 7
  have z8 := row.frozen 8
  have z9 := row.frozen 9
  obtain ⟨s0, s1, s2, s3, s4, s5, s6, s7, s8, s9, sl⟩ := U0
  clear row row2 B1 B0 row0 row3 rr e1 hs0 k1 HW0
  go_enter Tryz.func147, Tryz.ntmps147
  go_upto_region 1 with fail
  rw [← HW1.out]
  go_upto_region 2 with fail
  rw [← HW2.out]
  clear s0 s1 s2 s3 s4 s5 s6 s7 s8 s9 sl z6 z7 z8 z9
  obtain ⟨s0, s1, s2, s3, s4, s5, s6, s7, s8, s9, sl⟩ := U2
  have y0 := rr2.frozen 0
  have y1 := rr2.frozen 1
  have y2 := rr2.frozen 2
  have y3 := rr2.frozen 3
  have y4 := rr2.frozen 4
  have y5 := rr2.frozen 5
  have y6 := rr2.frozen 6
  have y7 := rr2.frozen 7
  have y8 := rr2.frozen 8
  have y9 := rr2.frozen 9
  have d0 : W2.cell? ⟨w.heap.size + 1, 0, none⟩ = some (.int .i64 0) := rr2.cell (i := 0) (by omega)
  have d1 : W2.cell? ⟨w.heap.size + 1, 1, none⟩ = some (.int .i64 0) := rr2.cell (i := 1) (by omega)
  have d2 : W2.cell? ⟨w.heap.size + 1, 2, none⟩ = some (.int .i64 0) := rr2.cell (i := 2) (by omega)
  have d3 : W2.cell? ⟨w.heap.size + 1, 3, none⟩ = some (.int .i64 0) := rr2.cell (i := 3) (by omega)
  have d4 : W2.cell? ⟨w.heap.size + 1, 4, none⟩ = some (.int .i64 0) := rr2.cell (i := 4) (by omega)
  have d5 : W2.cell? ⟨w.heap.size + 1, 5, none⟩ = some (.int .i64 0) := rr2.cell (i := 5) (by omega)
  have d6 : W2.cell? ⟨w.heap.size + 1, 6, none⟩ = some (.int .i64 0) := rr2.cell (i := 6) (by omega)
  have d7 : W2.cell? ⟨w.heap.size + 1, 7, none⟩ = some (.int .i64 0) := rr2.cell (i := 7) (by omega)
  have d8 : W2.cell? ⟨w.heap.size + 1, 8, none⟩ = some (.int .i64 0) := rr2.cell (i := 8) (by omega)
  have d9 : W2.cell? ⟨w.heap.size + 1, 9, none⟩ = some (.int .i64 0) := rr2.cell (i := 9) (by omega)
  have dl := rr2.lt
  obtain ⟨t0, t1, t2, t3, t4, t5, t6, t7, t8, t9, tl⟩ := U3
  go_wp2_with fail
  refine bodyPost_ret (v := .agg (idle u).v) ?_ rfl ⟨rfl, B3⟩
  simp [results, Tryz.results147, go_sem, idle, t0, t1, t2, t3, t4, t5, t6, t7, t8, t9]
  done
set_option maxRecDepth 20000 in
set_option maxHeartbeats 8000000 in
theorem endJob_c (base T mb : Nat) (vf : Value) (gr cr gg cg : Nat) (s : TS) (u : K10) (hr : Rise s.us) (hn : s.us.length ≤ 8) (hi0 : 1 ≤ u.c0) (hi1 : u.c0 ≤ 99) (w : World) (h : ST w base T mb vf gr cr gg cg s) :
    Calls Tryz.prog 134 #[.pointer (some ⟨T, 0, none⟩), .agg u.v] w fun e w' => e = .returned (.tuple #[]) ∧ ST w' base T mb vf gr cr gg cg (stPut s (idle u)) ∧ KB base T mb vf gr gg w w' := by
  obtain ⟨W1, HW1, B1, U0, row⟩ := boxU w u
  have cW := withoutJob_c u W1
  have cP := fun W hB => put_c base T mb vf gr cr gg cg s (idle u) hr hn hi0 hi1 W (h.later hB)
  have hb := h.base
  obtain ⟨s0, s1, s2, s3, s4, s5, s6, s7, s8, s9, sl⟩ := U0
  clear h row
  go_enter Tryz.func134, Tryz.ntmps134
  go_upto_region 1 with fail
  rw [← HW1.out]
  go_wp2_with fail
  refine cW.mono ?_
  rintro e w2 ⟨rfl, k2⟩
  have B2 := B1.trans (k2.mono B1.size)
  have B2b : KB base T mb vf gr gg w w2 := KB.of B2 hb
  clear s0 s1 s2 s3 s4 s5 s6 s7 s8 s9 sl
  go_wp2_with fail
  refine (cP _ B2).mono ?_
  rintro e w3 ⟨rfl, S3, B3⟩
  go_wp2_with fail
  go_end0
  exact ⟨rfl, S3, B2b.trans B3⟩
abbrev tileV (x y : Int) : Array Value := #[.int .i64 0, .int .i64 x, .int .i64 y]
theorem tile_of {u : K10} (g : GU u) : Nums.tileB u.c2 u.c3 = true := (Nums.tile_iff _ _).2 ⟨g.x0, g.x1, g.y0, g.y1⟩
theorem step_in {u : K10} (g : GU u) {x y : Int} (h0 : 0 ≤ x) (h1 : x ≤ 11) (h2 : 0 ≤ y) (h3 : y ≤ 11) : Nums.faC u.c2 u.c3 x y = 0 ∧ Nums.stX u.c2 u.c3 x y = Nums.near u.c2 x ∧ Nums.stY u.c2 u.c3 x y = Nums.near u.c3 y ∧ Nums.faV u.c2 u.c3 x y = Nums.mx (Nums.gap u.c2 x) (Nums.gap u.c3 y) := by
  have t : (Nums.tileB u.c2 u.c3 && Nums.tileB x y) = true := by rw [tile_of g, (Nums.tile_iff x y).2 ⟨h0, h1, h2, h3⟩]; rfl
  unfold Nums.faC Nums.stX Nums.stY Nums.faV
  rw [if_pos t, if_pos t, if_pos t, if_pos t]
  exact ⟨rfl, rfl, rfl, rfl⟩
set_option maxRecDepth 20000 in
set_option maxHeartbeats 8000000 in
theorem step_c (base T mb : Nat) (vf : Value) (gr cr gg cg : Nat) (s : TS) (u : K10) (x y : Int) (hr : Rise s.us) (hn : s.us.length ≤ 8) (gu : GU u) (h0 : 0 ≤ x) (h1 : x ≤ 11) (h2 : 0 ≤ y) (h3 : y ≤ 11) (w : World) (h : ST w base T mb vf gr cr gg cg s) :
    Calls Tryz.prog 135 #[.pointer (some ⟨T, 0, none⟩), .agg u.v, .int .i64 x, .int .i64 y] w fun e w' => e = .returned (.tuple #[]) ∧ ST w' base T mb vf gr cr gg cg (stPut s (goTo u x y)) ∧ KB base T mb vf gr gg w w' := by
  obtain ⟨W1, HW1, B1, U0, row⟩ := boxU w u
  have cS := fun W => implStepTo u.c2 u.c3 x y W
  obtain ⟨e1, e2, e3, _⟩ := step_in gu h0 h1 h2 h3
  rw [e1, e2, e3] at cS
  clear e1 e2 e3
  have HX : Hid (Nums.near u.c2 x = (goTo u x y).c2) := rfl
  have HY : Hid (Nums.near u.c3 y = (goTo u x y).c3) := rfl
  have cP := fun W hS => put_c base T mb vf gr cr gg cg s (goTo u x y) hr hn gu.i0 gu.i1 W hS
  have E0 : Hid (∀ N M, N = Nums.near u.c2 x → M = Nums.near u.c3 y → goTo u x y = ⟨u.c0, u.c1, N, M, u.c4, u.c5, u.c6, u.c7, u.c8, u.c9⟩) := fun N M a b => by rw [a, b]; rfl
  obtain ⟨N, HN⟩ : ∃ N, Hid (N = Nums.near u.c2 x) := ⟨_, rfl⟩
  obtain ⟨M, HM⟩ : ∃ M, Hid (M = Nums.near u.c3 y) := ⟨_, rfl⟩
  rw [← HN.out, ← HM.out] at cS
  rw [E0.out N M HN.out HM.out] at cP ⊢
  obtain ⟨W2, HW2⟩ : ∃ W2, Hid (W2 = (W1.alloc (.cells (tileV N M) 179)).alloc (.cells (tileV N M) 179)) := ⟨_, rfl⟩
  obtain ⟨nb, Hnb⟩ : ∃ nb, Hid (nb = W1.heap.size + 1) := ⟨_, rfl⟩
  have K2 : Below W1.heap.size W1 W2 := by rw [HW2.out]; exact ((Below.refl _ _).alloc (Nat.le_refl _) _).alloc (by rw [size_new]; omega) _
  have B2 := B1.trans (K2.mono B1.size)
  have hsz : (W1.alloc (.cells (tileV N M) 179)).heap.size = nb := by rw [size_new, Hnb.out]
  have n1 : W2.cell? ⟨nb, 1, none⟩ = some (.int .i64 N) := by rw [HW2.out, ← hsz]; exact cell_new _ _ _ _ _ rfl
  have n2 : W2.cell? ⟨nb, 2, none⟩ = some (.int .i64 M) := by rw [HW2.out, ← hsz]; exact cell_new _ _ _ _ _ rfl
  have nl : nb < W2.heap.size := by rw [HW2.out, size_new, size_new, Hnb.out]; omega
  clear hsz
  have nu : w.heap.size ≠ nb := by have := row.lt; rw [Hnb.out]; omega
  have U2 := U0.later K2
  have row2 := row_later row K2
  have H : Hid (ST w base T mb vf gr cr gg cg s) := h
  have hb := h.base
  obtain ⟨s0, s1, s2, s3, s4, s5, s6, s7, s8, s9, sl⟩ := U0
  clear h row B1
  go_enter Tryz.func135, Tryz.ntmps135
  go_upto_region 1 with fail
  rw [← HW1.out]
  go_wp2_with (first | (go_at_call 148; refine (cS _).mono ?_; rintro e w1 ⟨rfl, rfl⟩))
  rw [← HW2.out, ← Hnb.out]
  clear s0 s1 s2 s3 s4 s5 s6 s7 s8 s9 sl
  obtain ⟨s0, s1, s2, s3, s4, s5, s6, s7, s8, s9, sl⟩ := U2
  have z2 := row2.frozen 2
  have z3 := row2.frozen 3
  have B3 : Below w.heap.size w (((W2.setCell ⟨w.heap.size, 2, none⟩ (.int .i64 N)).setCell ⟨w.heap.size, 3, none⟩ (.int .i64 M)).drew) := (bel_set (bel_set B2 _ _ (Nat.le_refl _) _) _ _ (Nat.le_refl _) _).drew
  have m2 : (W2.setCell ⟨w.heap.size, 2, none⟩ (.int .i64 N)).cell? ⟨nb, 2, none⟩ = some (.int .i64 M) := by rw [World.cell?_setCell_far _ _ _ _ nu]; exact n2
  clear row2
  go_region
  all_goals
    go_wp2_with fail
    refine (cP _ (H.out.later B3)).mono ?_
    rintro e w3 ⟨rfl, S3, B4⟩
    go_wp2_with fail
    go_end0
    exact ⟨rfl, S3, (KB.of B3 hb).trans B4⟩
end Go.Proofs.YtppgjmpdnpidnaaGreatDoor
end

/- TickHome -/
/- Contracts of the program's parts of ticks: homes, what is brought home. Condition: the state is the call's own; the homes lie in their variable. -/
section
namespace Go.Proofs.YtppgjmpdnpidnaaGreatDoor
open Go.ChangeShapes Go.WideShapes Go.ChangeAt Go.RowKit
open Bd
set_option linter.unusedVariables false

/- the homes, as their variable holds them -/
structure HmAt (w : World) : Prop where
  c : ∀ o : Nat, o < 4 → w.cell? ⟨0, o * 3, none⟩ = some (.int .i64 0) ∧ w.cell? ⟨0, o * 3 + 1, none⟩ = some (.int .i64 (hmX o)) ∧ w.cell? ⟨0, o * 3 + 2, none⟩ = some (.int .i64 (hmY o))
  lt : 0 < w.heap.size
theorem HmAt.below {w w' : World} {n : Nat} (h : HmAt w) (hb : Below n w w') (hn : 0 < n) : HmAt w' :=
  ⟨fun o ho => by have := h.c o ho; rw [hb.cell (p := ⟨0, o * 3, none⟩) hn, hb.cell (p := ⟨0, o * 3 + 1, none⟩) hn, hb.cell (p := ⟨0, o * 3 + 2, none⟩) hn]; exact this, Nat.lt_of_lt_of_le h.lt hb.size⟩
theorem HmAt.later {w w' : World} (h : HmAt w) (hb : Below w.heap.size w w') : HmAt w' := h.below hb h.lt
set_option maxRecDepth 20000 in
set_option maxHeartbeats 4000000 in
theorem homeOf_c (o : Nat) (ho : o < 4) (w : World) (hL : HmAt w) :
    Calls Tryz.prog 149 #[.int .i64 o] w fun e w' => e = .returned (.agg (tileV (hmX o) (hmY o))) ∧ Below w.heap.size w w' := by
  have hs := fun W => isSide_c (o : Int) W
  rw [inb_t (by omega) (by omega)] at hs
  have ho' : (o : Int) < 4 := by omega
  obtain ⟨W1, HW1⟩ : ∃ W1, Hid (W1 = w.alloc (.cells (tileV 0 0) 179)) := ⟨_, rfl⟩
  have B1 : Below w.heap.size w W1 := by rw [HW1.out]; exact (Below.refl _ _).alloc (Nat.le_refl _) _
  have rr : W1.rowIs w.heap.size 179 3 (fun i => (tileV 0 0)[i]!) := by rw [HW1.out]; exact rowAll w (tileV 0 0) _
  obtain ⟨g0, g1, g2⟩ := (hL.later B1).c o ho
  have gl := (hL.later B1).lt
  have e0 : W1.cell? ⟨w.heap.size, 0, none⟩ = some (.int .i64 0) := rr.cell (i := 0) (by omega)
  have e1 : W1.cell? ⟨w.heap.size, 1, none⟩ = some (.int .i64 0) := rr.cell (i := 1) (by omega)
  have e2 : W1.cell? ⟨w.heap.size, 2, none⟩ = some (.int .i64 0) := rr.cell (i := 2) (by omega)
  have z0 := rr.frozen 0
  have z1 := rr.frozen 1
  have z2 := rr.frozen 2
  have rl := rr.lt
  generalize hmX (o : Int) = X at g1 ⊢
  generalize hmY (o : Int) = Y at g2 ⊢
  have t := ((rr.set 0 (.int .i64 0)).set 1 (.int .i64 X)).set 2 (.int .i64 Y)
  have c0 := t.cell (i := 0) (by omega)
  have c1 := t.cell (i := 1) (by omega)
  have c2 := t.cell (i := 2) (by omega)
  have BZ := bel_set (bel_set (bel_set B1 w.heap.size 0 (Nat.le_refl _) (.int .i64 0)) w.heap.size 1 (Nat.le_refl _) (.int .i64 X)) w.heap.size 2 (Nat.le_refl _) (.int .i64 Y)
  clear rr hL
  go_enter Tryz.func149, Tryz.ntmps149
  go_upto_region 1 with fail
  rw [← HW1.out]
  go_wp2_with (first | (go_at_call 57; refine (hs _).mono ?_; rintro e w1 ⟨rfl, rfl⟩))
  refine bodyPost_ret (v := .agg (tileV X Y)) ?_ rfl ⟨rfl, BZ⟩
  simp [results, Tryz.results149, go_sem, c0, c1, c2]
  done
theorem homeOf_i (o : Int) (h0 : 0 ≤ o) (h3 : o ≤ 3) (w : World) (hL : HmAt w) :
    Calls Tryz.prog 149 #[.int .i64 o] w fun e w' => e = .returned (.agg (tileV (hmX o) (hmY o))) ∧ Below w.heap.size w w' := by
  obtain ⟨n, rfl⟩ : ∃ n : Nat, o = n := ⟨o.toNat, by omega⟩
  exact homeOf_c n (by omega) w hL
end Go.Proofs.YtppgjmpdnpidnaaGreatDoor
end
