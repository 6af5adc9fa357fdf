/- Texts of mine put together (a claim holds at most 60 files): TickRes, TickOne, TickAll, TickMany. -/
import Derived.Test.YtepjkcfheejlbaaDoorPartR16

/- TickRes -/
/- What ticks answer, as plain functions; the program's answer read out of its state. Condition: the state is the call's own. -/
section
namespace Go.Proofs.YtepjkcfheejlbaaDoor
open Go.ChangeShapes Go.WideShapes Go.ChangeAt Go.RowKit
open Bd
set_option linter.unusedVariables false

/- a TickResult -/
structure TR where
  c : Int
  g : List Int
  l : Int
  us : List K10
  fs : List K3
def TR.no (c : Int) : TR := ⟨c, [], 0, [], []⟩
def TR.of (s : TS) : TR := ⟨0, s.gn, s.lost, s.us, s.fs⟩
def tuR (us : List K10) (fs : List K3) (i : Int) (rm : List Int) : TR := if (tkF us fs rm == 0) = true then (match findU us i with | none => .no 4 | some _ => .of (tkS (ts0 us fs rm) i)) else .no (tkF us fs rm)
abbrev resV (C : Int) (g : Value) (L : Int) (v f : Value) : Array Value := #[.int .i64 C, g, .int .i64 L, v, f]
/- its lists, made behind base -/
structure RIs (w : World) (base : Nat) (r : TR) (g v f : Value) : Prop where
  g : SlI w base g r.g
  u : SlU w base v r.us
  f : SlF w base f r.fs
theorem RIs.later {w w' : World} {base : Nat} {r : TR} {g v f : Value} (h : RIs w base r g v f) (hb : Below w.heap.size w w') : RIs w' base r g v f := ⟨h.g.below hb, h.u.below hb, h.f.below hb⟩
theorem RIs.mono {w : World} {base base' : Nat} {r : TR} {g v f : Value} (h : RIs w base r g v f) (hb : base' ≤ base) : RIs w base' r g v f := ⟨h.g.mono hb, h.u.mono hb, h.f.mono hb⟩
theorem RIs.nil (w : World) (base : Nat) (c : Int) : RIs w base (.no c) (.slice none 0 0) (.slice none 0 0) (.slice none 0 0) := ⟨SlI.nil _ _, SlU.nil _ _, SlF.nil _ _⟩
theorem RIs.set {w : World} {base : Nat} {r : TR} {g v f : Value} (h : RIs w base r g v f) {b o : Nat} (hb : b < base) (x : Value) : RIs (w.setCell ⟨b, o, none⟩ x) base r g v f := ⟨h.g.set hb x, h.u.set hb x, h.f.set hb x⟩
abbrev zResV : Array Value := resV 0 (.slice none 0 0) 0 (.slice none 0 0) (.slice none 0 0)
/- a result's block, and what is stored there -/
theorem res_row (w : World) : (w.alloc (.cells zResV 33)).rowIs w.heap.size 33 5 (fun i => zResV[i]!) := rowAll w zResV _
structure RC (w : World) (S : Nat) : Prop where
  c0 : w.cell? ⟨S, 0, none⟩ = some (.int .i64 0)
  c1 : w.cell? ⟨S, 1, none⟩ = some (.slice none 0 0)
  c2 : w.cell? ⟨S, 2, none⟩ = some (.int .i64 0)
  c3 : w.cell? ⟨S, 3, none⟩ = some (.slice none 0 0)
  c4 : w.cell? ⟨S, 4, none⟩ = some (.slice none 0 0)
  z0 : w.frozen? ⟨S, 0, none⟩ = false
  z1 : w.frozen? ⟨S, 1, none⟩ = false
  z2 : w.frozen? ⟨S, 2, none⟩ = false
  z3 : w.frozen? ⟨S, 3, none⟩ = false
  z4 : w.frozen? ⟨S, 4, none⟩ = false
  lt : S < w.heap.size
theorem res_cells {w : World} {S : Nat} (h : w.rowIs S 33 5 (fun i => zResV[i]!)) : RC w S :=
  ⟨h.cell (i := 0) (by omega), h.cell (i := 1) (by omega), h.cell (i := 2) (by omega), h.cell (i := 3) (by omega), h.cell (i := 4) (by omega), h.frozen 0, h.frozen 1, h.frozen 2, h.frozen 3, h.frozen 4, h.lt⟩
abbrev stRes (w : World) (S : Nat) (C : Int) (g : Value) (L : Int) (v f : Value) : World := ((((w.setCell ⟨S, 0, none⟩ (.int .i64 C)).setCell ⟨S, 1, none⟩ g).setCell ⟨S, 2, none⟩ (.int .i64 L)).setCell ⟨S, 3, none⟩ v).setCell ⟨S, 4, none⟩ f
theorem setRes_row {w : World} {S : Nat} {t : TypeId} {f0 : Nat → Value} (h : w.rowIs S t 5 f0) (C : Int) (g : Value) (L : Int) (v f : Value) : (stRes w S C g L v f).rowIs S t 5 (fun i => (resV C g L v f)[i]!) :=
  (((((h.set 0 (.int .i64 C)).set 1 g).set 2 (.int .i64 L)).set 3 v).set 4 f).congr (fun i hi => by rcases i with _ | _ | _ | _ | _ | i <;> first | rfl | omega)
theorem setRes_cells {w : World} {S : Nat} {t : TypeId} {C : Int} {g : Value} {L : Int} {v f : Value} (h : w.rowIs S t 5 (fun i => (resV C g L v f)[i]!)) :
    w.cell? ⟨S, 0, none⟩ = some (.int .i64 C) ∧ w.cell? ⟨S, 1, none⟩ = some g ∧ w.cell? ⟨S, 2, none⟩ = some (.int .i64 L) ∧ w.cell? ⟨S, 3, none⟩ = some v ∧ w.cell? ⟨S, 4, none⟩ = some f :=
  ⟨h.cell (i := 0) (by omega), h.cell (i := 1) (by omega), h.cell (i := 2) (by omega), h.cell (i := 3) (by omega), h.cell (i := 4) (by omega)⟩
theorem setRes_bel {n : Nat} {w w' : World} (h : Below n w w') (S : Nat) (hb : n ≤ S) (C : Int) (g : Value) (L : Int) (v f : Value) : Below n w (stRes w' S C g L v f) :=
  bel_set (bel_set (bel_set (bel_set (bel_set h S 0 hb _) S 1 hb _) S 2 hb _) S 3 hb _) S 4 hb _
theorem RIs.setRes {w : World} {base : Nat} {r : TR} {g v f : Value} (h : RIs w base r g v f) {S : Nat} (hb : S < base) (C : Int) (g' : Value) (L : Int) (v' f' : Value) : RIs (stRes w S C g' L v' f') base r g v f :=
  ((((h.set hb _).set hb _).set hb _).set hb _).set hb _
theorem stRes_heap (w : World) (S : Nat) (C : Int) (g : Value) (L : Int) (v f : Value) {q : Nat} (hq : q ≠ S) : (stRes w S C g L v f).heap[q]? = w.heap[q]? :=
  ((((Below.heap_setCell _ _ _ _ hq).trans (Below.heap_setCell _ _ _ _ hq)).trans (Below.heap_setCell _ _ _ _ hq)).trans (Below.heap_setCell _ _ _ _ hq)).trans (Below.heap_setCell _ _ _ _ hq)
theorem SlI.of_blk {w w' : World} {base : Nat} {v : Value} {l : List Int} (h : SlI w base v l) (he : ∀ b, v.ownBlock = some b → w'.heap[b]? = w.heap[b]?) : SlI w' base v l := by
  rcases h with ⟨h1, h2⟩
  refine ⟨h1, ?_⟩
  rcases h2 with h2 | ⟨g, cap, cur, hv, hbb, hg, r⟩
  · exact .inl h2
  · exact .inr ⟨g, cap, cur, hv, hbb, (he g (by rw [hv]; rfl)).trans hg, r⟩
/- stores into a block that is no list of these -/
theorem RIs.apart {w : World} {base : Nat} {r : TR} {g v f : Value} (h : RIs w base r g v f) {S : Nat} {c : Array Value} (hS : w.heap[S]? = some (.cells c 33 (0, 0))) : g.ownBlock ≠ some S ∧ v.ownBlock ≠ some S ∧ f.ownBlock ≠ some S := by
  refine ⟨fun e => ?_, fun e => ?_, fun e => ?_⟩
  · rcases h.g.2 with ⟨h1, _⟩ | ⟨q, cap, cur, hv, _, hg, _⟩
    · rw [h1] at e; cases e
    · rw [hv] at e; cases e; exact blk_ne hg hS (by decide) rfl
  · rcases h.u.2 with ⟨h1, _⟩ | ⟨q, cap, cur, hv, _, hg, _⟩
    · rw [h1] at e; cases e
    · rw [hv] at e; cases e; exact blk_ne hg hS (by decide) rfl
  · rcases h.f.2 with ⟨h1, _⟩ | ⟨q, cap, cur, hv, _, hg, _⟩
    · rw [h1] at e; cases e
    · rw [hv] at e; cases e; exact blk_ne hg hS (by decide) rfl
theorem RIs.setResA {w : World} {base : Nat} {r : TR} {g v f : Value} (h : RIs w base r g v f) {S : Nat} {f0 : Nat → Value} (hr : w.rowIs S 33 5 f0) (C : Int) (g' : Value) (L : Int) (v' f' : Value) : RIs (stRes w S C g' L v' f') base r g v f := by
  obtain ⟨c, hS, _⟩ := hr
  obtain ⟨a1, a2, a3⟩ := h.apart hS
  have e : ∀ q, q ≠ S → (stRes w S C g' L v' f').heap[q]? = w.heap[q]? := fun q hq => stRes_heap w S C g' L v' f' hq
  exact ⟨h.g.of_blk (fun b hb => e b (by rintro rfl; exact a1 hb)), h.u.of_block (fun b hb => e b (by rintro rfl; exact a2 hb)), h.f.of_block (fun b hb => e b (by rintro rfl; exact a3 hb))⟩
set_option maxRecDepth 20000 in
set_option maxHeartbeats 16000000 in
theorem result_c (base T mb : Nat) (vf : Value) (gr cr gg cg : Nat) (s : TS) (tg : TG s) (w : World) (h : ST w base T mb vf gr cr gg cg s) :
    Calls Tryd.prog 22 #[.pointer (some ⟨T, 0, none⟩)] w fun e w' => ∃ g v f, e = .returned (.agg (resV 0 g s.lost v f)) ∧ RIs w' base (TR.of s) g v f ∧ Below w.heap.size w w' := by
  obtain ⟨W1, HW1⟩ : ∃ W1, Hid (W1 = w.alloc (.cells zResV 33)) := ⟨_, rfl⟩
  have B1 : Below w.heap.size w W1 := by rw [HW1.out]; exact (Below.refl _ _).alloc (Nat.le_refl _) _
  have rr : W1.rowIs w.heap.size 33 5 (fun i => zResV[i]!) := by rw [HW1.out]; exact res_row w
  have S1 := h.later B1
  have hb := h.base
  obtain ⟨m, Hm⟩ : ∃ m, Hid (s.us.length = m) := ⟨_, rfl⟩
  obtain ⟨af, cf, hvf, _⟩ := h.f.form
  obtain ⟨m', Hm'⟩ : ∃ m', Hid (s.fs.length = m') := ⟨_, rfl⟩
  rw [Hm'.out] at hvf
  subst hvf
  have D1 : Below W1.heap.size W1 W1.drew := (Below.refl _ _).drew
  have cU := fun W hM => risingUnits_c mb m s.us Hm.out (by have := tg.gd.n8; have := Hm.out; omega) tg.gd.r tg.gd.u W hM
  have cU1 := cU W1.drew (S1.later D1).m
  have Hrr : Hid (W1.rowIs w.heap.size 33 5 (fun i => zResV[i]!)) := rr
  have HS : Hid (ST W1 base T mb (.slice af m' cf) gr cr gg cg s) := S1
  have keep : ∀ w', Below W1.heap.size W1 w' → w'.cell? ⟨T, 0, none⟩ = some (.map (some mb)) ∧ w'.cell? ⟨T, 1, none⟩ = some (.slice af m' cf) ∧ w'.cell? ⟨T, 3, none⟩ = some (.slice (some ⟨gg, 0, none⟩) 4 cg) ∧ w'.cell? ⟨T, 4, none⟩ = some (.int .i64 s.lost) := fun w' hk => by
    obtain ⟨t0, t1, t2, t3, t4, tl⟩ := (HS.out.later hk).cells
    exact ⟨t0, t1, t3, t4⟩
  obtain ⟨t0, t1, t3, t4⟩ := keep _ (Below.refl _ _)
  have tl := HS.out.row.lt
  have tne : T ≠ w.heap.size := by have := h.row.lt; omega
  have Hgl : Hid (s.gn.length = 4) := tg.gl
  clear h S1 rr tg cU
  go_enter Tryd.func22, Tryd.ntmps22
  go_upto_region 1 with fail
  rw [← HW1.out]
  go_region_held3 (fun w' => w'.cell? ⟨T, 0, none⟩ = some (.map (some mb)) ∧ w'.cell? ⟨T, 1, none⟩ = some (.slice af m' cf) ∧ w'.cell? ⟨T, 3, none⟩ = some (.slice (some ⟨gg, 0, none⟩) 4 cg) ∧ w'.cell? ⟨T, 4, none⟩ = some (.int .i64 s.lost)) (first | (rw [cell_blk (stRes_heap _ _ _ _ _ _ _ tne), cell_blk (stRes_heap _ _ _ _ _ _ _ tne), cell_blk (stRes_heap _ _ _ _ _ _ _ tne), cell_blk (stRes_heap _ _ _ _ _ _ _ tne)]; exact ⟨t0, t1, t3, t4⟩) | go_keep) (first
    | (go_at_call 42; refine cU1.mono ?_; rintro e w2 ⟨v2, rfl, S2, k2⟩; have K2 := D1.trans (k2.mono D1.size); obtain ⟨t0, t1, t3, t4⟩ := keep _ K2; obtain ⟨a2, c2, hv2, _⟩ := S2.form; rw [Hm.out] at hv2; subst hv2; obtain ⟨e0, e1, e2, e3, e4, z0, z1, z2, z3, z4, el⟩ := res_cells (row_later Hrr.out K2)))
  all_goals
    have hr2 := row_later Hrr.out K2
    have hrow := setRes_row hr2 0 (.slice (some ⟨gg, 0, none⟩) 4 cg) s.lost (.slice a2 m c2) (.slice af m' cf)
    obtain ⟨x0, x1, x2, x3, x4⟩ := setRes_cells hrow
    have S3 := HS.out.later K2
    have G : SlI w2 base (.slice (some ⟨gg, 0, none⟩) 4 cg) s.gn := by
      have := SlI.of_lst S3.g S3.bg
      rwa [Hgl.out] at this
    have R : RIs w2 base (TR.of s) (.slice (some ⟨gg, 0, none⟩) 4 cg) (.slice a2 m c2) (.slice af m' cf) := ⟨G, S2.mono (by have := B1.size; show base ≤ W1.heap.size; omega), S3.f⟩
    have R' := R.setResA hr2 0 (.slice (some ⟨gg, 0, none⟩) 4 cg) s.lost (.slice a2 m c2) (.slice af m' cf)
    have BZ := setRes_bel (B1.trans (K2.mono B1.size)) w.heap.size (Nat.le_refl _) 0 (.slice (some ⟨gg, 0, none⟩) 4 cg) s.lost (.slice a2 m c2) (.slice af m' cf)
    go_wp2_with fail
    refine bodyPost_ret (v := .agg (resV 0 (.slice (some ⟨gg, 0, none⟩) 4 cg) s.lost (.slice a2 m c2) (.slice af m' cf))) ?_ rfl ⟨_, _, _, rfl, R', BZ⟩
    simp [results, Tryd.results22, go_sem, x0, x1, x2, x3, x4]
    done
end Go.Proofs.YtepjkcfheejlbaaDoor
end

/- TickOne -/
/- The contract of the program's TickUnit. Condition: the lists lie in memory as they were laid there; the homes lie in their variable. -/
section
namespace Go.Proofs.YtepjkcfheejlbaaDoor
open Go.ChangeShapes Go.WideShapes Go.ChangeAt Go.RowKit
open Bd
set_option linter.unusedVariables false

theorem two_res (w : World) (s f : Value) : ∃ W, Hid (W = (w.alloc (.cells #[s, f] 27)).alloc (.cells zResV 33)) ∧ W.rowIs w.heap.size 27 2 (fun i => if i = 0 then s else f) ∧ W.rowIs (w.heap.size + 1) 33 5 (fun i => zResV[i]!) ∧ Below w.heap.size w W := by
  refine ⟨_, rfl, ?_⟩
  have s1 : (w.alloc (.cells #[s, f] 27)).heap.size = w.heap.size + 1 := size_new _ _
  have r0 := rowTwo w s f 27
  have r1 := res_row (w.alloc (.cells #[s, f] 27))
  rw [s1] at r1
  have b1 : Below (w.alloc (.cells #[s, f] 27)).heap.size (w.alloc (.cells #[s, f] 27)) ((w.alloc (.cells #[s, f] 27)).alloc (.cells zResV 33)) := (Below.refl _ _).alloc (Nat.le_refl _) _
  exact ⟨r0.of_block (b1.block _ r0.lt), r1, ((Below.refl _ _).alloc (Nat.le_refl _) _).alloc (by rw [s1]; omega) _⟩
/- what a call of ticks is handed -/
structure TIn (w : World) (pu : Option Addr) (m c : Nat) (pf : Option Addr) (m' c' gr og mr cr : Nat) (us : List K10) (fs : List K3) (rm : List Int) : Prop where
  hl : us.length = m
  hl' : fs.length = m'
  hr : rm.length = mr
  mx : (mr : Int) ≤ 9223372036854775807
  u : InU w pu m c us
  f : InF w pf m' c' fs
  r : IAt w gr og rm
  lr : gr < w.heap.size
theorem TIn.later {w w' : World} {pu : Option Addr} {m c : Nat} {pf : Option Addr} {m' c' gr og mr cr : Nat} {us : List K10} {fs : List K3} {rm : List Int} (h : TIn w pu m c pf m' c' gr og mr cr us fs rm) (hb : Below w.heap.size w w') : TIn w' pu m c pf m' c' gr og mr cr us fs rm :=
  ⟨h.hl, h.hl', h.hr, h.mx, h.u.later hb, h.f.later hb, h.r.later h.lr hb, Nat.lt_of_lt_of_le h.lr hb.size⟩
theorem TIn.au {w : World} {pu : Option Addr} {m c : Nat} {pf : Option Addr} {m' c' gr og mr cr : Nat} {us : List K10} {fs : List K3} {rm : List Int} (h : TIn w pu m c pf m' c' gr og mr cr us fs rm) : ArgU w pu us := h.u.arg
theorem TIn.af {w : World} {pu : Option Addr} {m c : Nat} {pf : Option Addr} {m' c' gr og mr cr : Nat} {us : List K10} {fs : List K3} {rm : List Int} (h : TIn w pu m c pf m' c' gr og mr cr us fs rm) : ArgF w pf fs := h.f.arg
theorem TIn.ar {w : World} {pu : Option Addr} {m c : Nat} {pf : Option Addr} {m' c' gr og mr cr : Nat} {us : List K10} {fs : List K3} {rm : List Int} (h : TIn w pu m c pf m' c' gr og mr cr us fs rm) : ArgI w (some ⟨gr, og, none⟩) rm := .inr ⟨gr, og, rfl, h.lr, h.r⟩
theorem TIn.fault {w : World} {pu : Option Addr} {m c : Nat} {pf : Option Addr} {m' c' gr og mr cr : Nat} {us : List K10} {fs : List K3} {rm : List Int} (h : TIn w pu m c pf m' c' gr og mr cr us fs rm) :
    Calls Tryd.prog 19 #[.agg (brdV pu m c pf m' c'), .slice (some ⟨gr, og, none⟩) mr cr] w fun e w' => e = .returned (.int .i64 (tkF us fs rm)) ∧ Below w.heap.size w w' :=
  tickFault_c _ m c _ m' c' _ mr cr us fs rm h.hl h.hl' h.hr h.mx w h.au h.af h.ar
theorem TIn.new {w : World} {pu : Option Addr} {m c : Nat} {pf : Option Addr} {m' c' gr og mr cr : Nat} {us : List K10} {fs : List K3} {rm : List Int} (h : TIn w pu m c pf m' c' gr og mr cr us fs rm) (h0 : tkF us fs rm = 0) : ∀ hm : mr = 4,
    Calls Tryd.prog 20 #[.agg (brdV pu m c pf m' c'), .slice (some ⟨gr, og, none⟩) 4 cr] w fun e w' => ∃ T mb vf q1 c1 q2 c2, e = .returned (.pointer (some ⟨T, 0, none⟩)) ∧ ST w' w.heap.size T mb vf q1 c1 q2 c2 (ts0 us fs rm) ∧ Below w.heap.size w w' := by
  intro hm
  obtain ⟨h1, h2, h3⟩ := tkF_ok h0
  exact newTickState_c _ m c pf m' c' gr og cr us fs rm h.hl h.hl' (Gd.of h1) h2 w h.au h.f h.lr h.r
theorem tg0 {us : List K10} {fs : List K3} {rm : List Int} (h0 : tkF us fs rm = 0) : TG (ts0 us fs rm) := by
  obtain ⟨h1, h2, h3⟩ := tkF_ok h0
  exact TG.start (Gd.of h1) h2 h3
theorem tu_cases (us : List K10) (fs : List K3) (i : Int) (rm : List Int) : ((tkF us fs rm == 0) = false ∧ tuR us fs i rm = .no (tkF us fs rm)) ∨ (tkF us fs rm = 0 ∧ findU us i = none ∧ tuR us fs i rm = .no 4) ∨ (∃ u, tkF us fs rm = 0 ∧ findU us i = some u ∧ tuR us fs i rm = .of (tkS (ts0 us fs rm) i)) := by
  unfold tuR
  cases h : tkF us fs rm == 0
  · exact .inl ⟨rfl, by rw [if_neg (by simp)]⟩
  · have hz : tkF us fs rm = 0 := by simpa using h
    rw [if_pos rfl]
    cases hf : findU us i with
    | none => exact .inr (.inl ⟨hz, rfl, rfl⟩)
    | some u => exact .inr (.inr ⟨u, hz, rfl, rfl⟩)
end Go.Proofs.YtepjkcfheejlbaaDoor
end

/- TickAll -/
/- Contracts of the program's turn of a whole board, and of many. Condition: the state is the call's own; the homes lie in their variable. -/
section
namespace Go.Proofs.YtepjkcfheejlbaaDoor
open Go.ChangeShapes Go.WideShapes Go.ChangeAt Go.RowKit
open Bd
set_option linter.unusedVariables false

theorem ST.own_lt {w : World} {base T mb : Nat} {vf : Value} {gr cr gg cg : Nat} {s : TS} (h : ST w base T mb vf gr cr gg cg s) {q : Nat} (hq : ownS T mb vf gr gg q) : q < w.heap.size := by
  rcases hq with rfl | rfl | hq | rfl | rfl
  · exact h.row.lt
  · exact h.m.lt
  · exact (h.f.lt q hq).2
  · exact h.r.lt
  · exact h.g.lt
/- a list that is newer than the state is left as it was -/
theorem SlI.keptS {w a b : World} {base T mb : Nat} {vf : Value} {gr cr gg cg : Nat} {s : TS} (h : ST w base T mb vf gr cr gg cg s) (k : KB base T mb vf gr gg a b) {v : Value} {l : List Int} (hs : SlI a w.heap.size v l) : SlI b w.heap.size v l := by
  refine hs.of_blk (fun q hq => ?_)
  rcases hs.2 with ⟨rfl, _⟩ | ⟨g, cap, cur, rfl, hg, hc, _⟩
  · cases hq
  · cases hq
    refine k.kept.block g ?_ (fun e => by have := h.own_lt e; omega)
    exact (Array.getElem?_eq_some_iff.1 hc).1
set_option maxRecDepth 20000 in
set_option maxHeartbeats 8000000 in
theorem tickBoard_c (base T mb : Nat) (vf : Value) (gr cr gg cg : Nat) (s : TS) (w : World) (hL : HmAt w) (hG : 0 < base) (h : ST w base T mb vf gr cr gg cg s) (tg : TG s) :
    Calls Tryd.prog 21 #[.pointer (some ⟨T, 0, none⟩)] w fun e w' => e = .returned (.tuple #[]) ∧ ST w' base T mb vf gr cr gg cg (tkB s) ∧ KB base T mb vf gr gg w w' := by
  obtain ⟨n, Hn⟩ : ∃ n, Hid (s.us.length = n) := ⟨_, rfl⟩
  have H : Hid (ST w base T mb vf gr cr gg cg s) := h
  have HT : Hid (TG s) := tg
  have HL : Hid (HmAt w) := hL
  have n8 : n ≤ 8 := by have := tg.gd.n8; have := Hn.out; omega
  have cS := sorted_c mb s.us (by have := tg.gd.n8; omega) tg.gd.r w h.m
  have cK := keys_c (some mb)
  have hb := h.base
  obtain ⟨t0, t1, t2, t3, t4, tl⟩ := h.cells
  obtain ⟨ids, Hids⟩ : ∃ ids, Hid (ids = s.us.map K10.c0) := ⟨_, rfl⟩
  have Hil : Hid (ids.length = n) := by show _ = _; rw [Hids.out, List.length_map]; exact Hn.out
  have Hb : Hid (tkB s = tkL s (ids.take n)) := by show _ = _; rw [List.take_of_length_le (by have := Hil.out; omega), Hids.out]; rfl
  have Hid1 : Hid (∀ x ∈ ids, 1 ≤ x ∧ x ≤ 99) := by
    show ∀ x ∈ ids, _
    rw [Hids.out]
    intro x hx
    obtain ⟨u, hu, rfl⟩ := List.mem_map.1 hx
    have g := tg.gd.gu hu
    exact ⟨g.i0, g.i1⟩
  rw [← Hids.out] at cS
  clear h tg hL t1 t2 t3 t4
  go_enter Tryd.func21, Tryd.ntmps21
  go_wp2_with fail
  refine (cK _).mono ?_
  rintro e w2 ⟨rfl, rfl⟩
  go_wp2_with fail
  refine cS.mono ?_
  rintro e w3 ⟨vi, rfl, L3, k3⟩
  obtain ⟨ai, ci, hvi⟩ := L3.form
  rw [Hil.out] at hvi
  subst hvi
  have HS : Hid (SlI w3 w.heap.size (.slice ai n ci) ids) := L3
  have S3 : Hid (ST w3 base T mb vf gr cr gg cg (tkL s (ids.take 0))) := H.out.later k3
  have K3 : Hid (KB base T mb vf gr gg w w3) := KB.of k3 hb
  clear cK cS L3 t0 tl k3
  go_wp2_with fail
  go_loopw [11] (fun i wr => ∃ k : Nat, k ≤ n ∧ i = .int .i64 k ∧ Hid (ST wr base T mb vf gr cr gg cg (tkL s (ids.take k))) ∧ Hid (KB base T mb vf gr gg w wr) ∧ Hid (SlI wr w.heap.size (.slice ai n ci) ids)) (fun i _ => n - (intOf i).toNat)
  case atStart => exact ⟨0, Nat.zero_le _, rfl, S3, K3, HS⟩
  case round =>
    obtain ⟨k, hk, rfl, hS, hK, Hs⟩ := hrel
    by_cases hlt : k < n
    · have hlt' : (k : Int) < (n : Int) := by omega
      obtain ⟨x, hx⟩ : ∃ x, ids[k]? = some x := ⟨_, List.getElem?_eq_getElem (by have := Hil.out; omega)⟩
      have hid := Hid1.out x (List.mem_of_getElem? hx)
      have HE : Hid (tkL s (ids.take (k + 1)) = tkS (tkL s (ids.take k)) x) := tkL_take hx
      have cT := tickUnit_c base T mb vf gr cr gg cg (tkL s (ids.take k)) x (wf_int (by omega) (by omega)) wr (HL.out.below hK.out.bel hG) hS.out (HT.out.list _)
      rcases Hs.out.cases with ⟨h0, _⟩ | ⟨_, gi, ci', hv, hgi, Lx⟩
      · have := congrArg List.length h0
        rw [Hil.out] at this
        simp at this
        omega
      simp only [Value.slice.injEq] at hv
      obtain ⟨rfl, hnn, rfl⟩ := hv
      clear hnn
      have ic := Lx.cell (i := k) (x := x) hx
      have il := Lx.lt
      clear hx Lx hid
      go_wp2_with fail
      refine cT.mono ?_
      rintro e w4 ⟨rfl, S4, K4⟩
      have hs4 := SlI.keptS H.out K4 Hs.out
      go_wp2_with fail
      go_roundw
      case rel => exact ⟨k + 1, by omega, by go_num, by show ST _ _ _ _ _ _ _ _ _ _; rw [HE.out]; exact S4, hK.out.trans K4, hs4⟩
      case measure => simp [intOf]; omega
    · obtain rfl : k = n := by omega
      go_wp2_with fail
      go_end0
      exact ⟨rfl, by rw [Hb.out]; exact hS.out, hK.out⟩
end Go.Proofs.YtepjkcfheejlbaaDoor
end

/- TickMany -/
/- The contracts of the program's TickMany and TickBoard. Condition: the lists lie in memory as they were laid there; the homes lie in their variable. -/
section
namespace Go.Proofs.YtepjkcfheejlbaaDoor
open Go.ChangeShapes Go.WideShapes Go.ChangeAt Go.RowKit
open Bd
set_option linter.unusedVariables false

def tmR (us : List K10) (fs : List K3) (rm : List Int) (n : Int) : TR := if (tkF us fs rm == 0) = true then (if 0 ≤ n ∧ n ≤ 20 then .of (tkN n.toNat (ts0 us fs rm)) else .no 3) else .no (tkF us fs rm)
theorem tm_cases (us : List K10) (fs : List K3) (rm : List Int) (n : Int) : ((tkF us fs rm == 0) = false ∧ tmR us fs rm n = .no (tkF us fs rm)) ∨ (tkF us fs rm = 0 ∧ (n < 0 ∨ (0 ≤ n ∧ 20 < n)) ∧ tmR us fs rm n = .no 3) ∨ (tkF us fs rm = 0 ∧ (∃ k : Nat, n = k ∧ k ≤ 20 ∧ tmR us fs rm n = .of (tkN k (ts0 us fs rm)))) := by
  unfold tmR
  cases h : tkF us fs rm == 0
  · exact .inl ⟨rfl, by rw [if_neg (by simp)]⟩
  · have hz : tkF us fs rm = 0 := by simpa using h
    rw [if_pos rfl]
    by_cases hn : 0 ≤ n ∧ n ≤ 20
    · exact .inr (.inr ⟨hz, n.toNat, by omega, by omega, by rw [if_pos hn]⟩)
    · exact .inr (.inl ⟨hz, by omega, by rw [if_neg hn]⟩)
set_option maxRecDepth 20000 in
set_option maxHeartbeats 16000000 in
theorem implTickMany (pu : Option Addr) (m c : Nat) (pf : Option Addr) (m' c' gr og mr cr : Nat) (us : List K10) (fs : List K3) (n : Int) (rm : List Int) (w : World) (hL : HmAt w) (h : TIn w pu m c pf m' c' gr og mr cr us fs rm) :
    Calls Tryd.prog 9 #[.agg (brdV pu m c pf m' c'), .slice (some ⟨gr, og, none⟩) mr cr, .int .i64 n] w fun e w' => ∃ q v f, e = .returned (.agg (resV (tmR us fs rm n).c q (tmR us fs rm n).l v f)) ∧ RIs w' w.heap.size (tmR us fs rm n) q v f ∧ Below w.heap.size w w' := by
  obtain ⟨W1, HW1, rb, rr, B1⟩ := two_res w (.slice pu m c) (.slice pf m' c')
  have cF := (h.later B1).fault
  rcases tm_cases us fs rm n with ⟨h1, e⟩ | ⟨h1, hn, e⟩ | ⟨h1, k, rfl, hk, e⟩
  · rw [e]
    have h1' := bne_of h1
    generalize tkF us fs rm = R at h1 h1' cF ⊢
    obtain ⟨p0, p1, pl⟩ := row_brd rb
    clear h e hL
    go_enter Tryd.func9, Tryd.ntmps9
    go_upto_region 1 with fail
    rw [← HW1.out]
    go_wp2_with fail
    refine cF.mono ?_
    rintro e w2 ⟨rfl, k2⟩
    have B2 := B1.trans (k2.mono B1.size)
    have rr2 := row_later rr k2
    obtain ⟨e0, e1, e2, e3, e4, z0, z1, z2, z3, z4, el⟩ := res_cells rr2
    obtain ⟨x0, x1, x2, x3, x4⟩ := setRes_cells (setRes_row rr2 R (.slice none 0 0) 0 (.slice none 0 0) (.slice none 0 0))
    have BZ := setRes_bel B2 (w.heap.size + 1) (by omega) R (.slice none 0 0) 0 (.slice none 0 0) (.slice none 0 0)
    have RZ := RIs.nil (stRes w2 (w.heap.size + 1) R (.slice none 0 0) 0 (.slice none 0 0) (.slice none 0 0)) w.heap.size R
    clear p0 p1 pl
    go_wp2_with fail
    refine bodyPost_ret (v := .agg (resV R (.slice none 0 0) 0 (.slice none 0 0) (.slice none 0 0))) ?_ rfl ⟨_, _, _, rfl, RZ, BZ⟩
    simp [results, Tryd.results9, go_sem, x0, x1, x2, x3, x4]
    done
  · rw [e]
    rw [h1] at cF
    obtain ⟨p0, p1, pl⟩ := row_brd rb
    clear h e hL h1
    rcases hn with hn | ⟨hn0, hn⟩
    all_goals
      go_enter Tryd.func9, Tryd.ntmps9
      go_upto_region 1 with fail
      rw [← HW1.out]
      go_wp2_with fail
      refine cF.mono ?_
      rintro e w2 ⟨rfl, k2⟩
      have B2 := B1.trans (k2.mono B1.size)
      have rr2 := row_later rr k2
      obtain ⟨e0, e1, e2, e3, e4, z0, z1, z2, z3, z4, el⟩ := res_cells rr2
      obtain ⟨x0, x1, x2, x3, x4⟩ := setRes_cells (setRes_row rr2 3 (.slice none 0 0) 0 (.slice none 0 0) (.slice none 0 0))
      have BZ := setRes_bel B2 (w.heap.size + 1) (by omega) 3 (.slice none 0 0) 0 (.slice none 0 0) (.slice none 0 0)
      have RZ := RIs.nil (stRes w2 (w.heap.size + 1) 3 (.slice none 0 0) 0 (.slice none 0 0) (.slice none 0 0)) w.heap.size 3
      clear p0 p1 pl
      go_wp2_with fail
      refine bodyPost_ret (v := .agg (resV 3 (.slice none 0 0) 0 (.slice none 0 0) (.slice none 0 0))) ?_ rfl ⟨_, _, _, rfl, RZ, BZ⟩
      simp [results, Tryd.results9, go_sem, x0, x1, x2, x3, x4]
      done
  · rw [e]
    have hm : mr = 4 := by have := (tkF_ok h1).2.1; have := h.hr; omega
    subst hm
    have cN := fun W hB => (h.later (w' := W) hB).new h1 rfl
    have tg := tg0 h1
    rw [h1] at cF
    have HL : Hid (HmAt w) := hL
    obtain ⟨L, HLo⟩ : ∃ L, Hid ((tkN k (ts0 us fs rm)).lost = L) := ⟨_, rfl⟩
    have eL : (TR.of (tkN k (ts0 us fs rm))).l = L := HLo.out
    have eC : (TR.of (tkN k (ts0 us fs rm))).c = 0 := rfl
    rw [eL, eC]
    clear eL eC
    obtain ⟨p0, p1, pl⟩ := row_brd rb
    clear h e hL h1
    go_enter Tryd.func9, Tryd.ntmps9
    go_upto_region 1 with fail
    rw [← HW1.out]
    go_wp2_with fail
    refine cF.mono ?_
    rintro e w2 ⟨rfl, k2⟩
    have B2 := B1.trans (k2.mono B1.size)
    clear p0 p1 pl
    obtain ⟨p0, p1, pl⟩ := row_brd (row_later rb k2)
    go_wp2_with fail
    refine (cN _ B2).mono ?_
    rintro e w3 ⟨T, mb, vf, q1, c1, q2, c2, rfl, S3, k3⟩
    have B3 := B2.trans (k3.mono B2.size)
    have hS2 : w.heap.size + 1 < w2.heap.size := (row_later rr k2).lt
    have hG : 0 < w2.heap.size := (HL.out.later B2).lt
    have HS3 : Hid (ST w3 w2.heap.size T mb vf q1 c1 q2 c2 (tkN 0 (ts0 us fs rm))) := S3
    have HK3 : Hid (KB w2.heap.size T mb vf q1 q2 w3 w3) := KB.of (Below.refl _ _) (k3.size)
    have HL3 : Hid (HmAt w3) := HL.out.later B3
    have rr3 := row_later (row_later rr k2) k3
    have HT : Hid (TG (ts0 us fs rm)) := tg
    clear p0 p1 pl S3 tg
    go_wp2_with fail
    go_loopw [27] (fun i wr => ∃ j : Nat, j ≤ k ∧ i = .int .i64 j ∧ Hid (ST wr w2.heap.size T mb vf q1 c1 q2 c2 (tkN j (ts0 us fs rm))) ∧ Hid (KB w2.heap.size T mb vf q1 q2 w3 wr)) (fun i _ => k - (intOf i).toNat)
    case atStart => exact ⟨0, Nat.zero_le _, rfl, HS3, HK3⟩
    case round =>
      obtain ⟨j, hj, rfl, hS, hK⟩ := hrel
      by_cases hlt : j < k
      · have hlt' : (j : Int) < (k : Int) := by omega
        have cT := tickBoard_c w2.heap.size T mb vf q1 c1 q2 c2 _ wr (HL3.out.below hK.out.bel hG) hG hS.out (HT.out.ticks j)
        rw [← tkN_next] at cT
        go_wp2_with fail
        refine cT.mono ?_
        rintro e w4 ⟨rfl, S4, K4⟩
        go_wp2_with fail
        go_roundw
        case rel => exact ⟨j + 1, by omega, by go_num, S4, hK.out.trans K4⟩
        case measure => simp [intOf]; omega
      · obtain rfl : j = k := by omega
        have S5 := hS.out
        have k5 := hK.out.bel
        have cR := result_c w2.heap.size T mb vf q1 c1 q2 c2 _ (HT.out.ticks j) wr S5
        rw [HLo.out] at cR
        have rr5 := rr3.of_block (k5.block _ hS2)
        have B5 : Below w.heap.size w wr := B3.trans (k5.mono (by omega))
        go_wp2_with fail
        refine cR.mono ?_
        rintro e w6 ⟨q, v, f, rfl, R6, k6⟩
        have B6 := B5.trans (k6.mono B5.size)
        have rr6 := row_later rr5 k6
        obtain ⟨aq, cq, hq⟩ := R6.g.form
        obtain ⟨av, cv, hv, _⟩ := R6.u.form
        obtain ⟨af, cf, hf, _⟩ := R6.f.form
        obtain ⟨lq, Hlq⟩ : ∃ n, Hid ((TR.of (tkN j (ts0 us fs rm))).g.length = n) := ⟨_, rfl⟩
        obtain ⟨lv, Hlv⟩ : ∃ n, Hid ((TR.of (tkN j (ts0 us fs rm))).us.length = n) := ⟨_, rfl⟩
        obtain ⟨lf, Hlf⟩ : ∃ n, Hid ((TR.of (tkN j (ts0 us fs rm))).fs.length = n) := ⟨_, rfl⟩
        rw [Hlq.out] at hq
        rw [Hlv.out] at hv
        rw [Hlf.out] at hf
        subst hq hv hf
        obtain ⟨e0, e1, e2, e3, e4, z0, z1, z2, z3, z4, el⟩ := res_cells rr6
        obtain ⟨x0, x1, x2, x3, x4⟩ := setRes_cells (setRes_row rr6 0 (.slice aq lq cq) L (.slice av lv cv) (.slice af lf cf))
        have BZ := setRes_bel B6 (w.heap.size + 1) (by omega) 0 (.slice aq lq cq) L (.slice av lv cv) (.slice af lf cf)
        have RZ := (R6.setRes hS2 0 (.slice aq lq cq) L (.slice av lv cv) (.slice af lf cf)).mono (base' := w.heap.size) (by omega)
        go_wp2_with fail
        refine bodyPost_ret (v := .agg (resV 0 (.slice aq lq cq) L (.slice av lv cv) (.slice af lf cf))) ?_ rfl ⟨_, _, _, rfl, RZ, BZ⟩
        simp [results, Tryd.results9, go_sem, x0, x1, x2, x3, x4]
        done
end Go.Proofs.YtepjkcfheejlbaaDoor
end
