/- Texts of mine put together (a claim holds at most 60 files): TickRes, TickOne. -/
import Derived.Test.YtepjkcfheejlbaaGreatDoorPartT25

/- TickRes -/
/- What ticks answer, as plain functions; the program's answer read out of its state. Condition: the state is the call's own. -/
section
namespace Go.Proofs.YtepjkcfheejlbaaGreatDoor
open Go.ChangeShapes Go.WideShapes Go.ChangeAt Go.RowKit
open Bd
set_option linter.unusedVariables false

/- a TickResult -/
structure TR where
  c : Int
  g : List Int
  l : Int
  us : List K10
  fs : List K3
def TR.no (c : Int) : TR := ⟨c, [], 0, [], []⟩
def TR.of (s : TS) : TR := ⟨0, s.gn, s.lost, s.us, s.fs⟩
def tuR (us : List K10) (fs : List K3) (i : Int) (rm : List Int) : TR := if (tkF us fs rm == 0) = true then (match findU us i with | none => .no 4 | some _ => .of (tkS (ts0 us fs rm) i)) else .no (tkF us fs rm)
abbrev resV (C : Int) (g : Value) (L : Int) (v f : Value) : Array Value := #[.int .i64 C, g, .int .i64 L, v, f]
/- its lists, made behind base -/
structure RIs (w : World) (base : Nat) (r : TR) (g v f : Value) : Prop where
  g : SlI w base g r.g
  u : SlU w base v r.us
  f : SlF w base f r.fs
theorem RIs.later {w w' : World} {base : Nat} {r : TR} {g v f : Value} (h : RIs w base r g v f) (hb : Below w.heap.size w w') : RIs w' base r g v f := ⟨h.g.below hb, h.u.below hb, h.f.below hb⟩
theorem RIs.mono {w : World} {base base' : Nat} {r : TR} {g v f : Value} (h : RIs w base r g v f) (hb : base' ≤ base) : RIs w base' r g v f := ⟨h.g.mono hb, h.u.mono hb, h.f.mono hb⟩
theorem RIs.nil (w : World) (base : Nat) (c : Int) : RIs w base (.no c) (.slice none 0 0) (.slice none 0 0) (.slice none 0 0) := ⟨SlI.nil _ _, SlU.nil _ _, SlF.nil _ _⟩
theorem RIs.set {w : World} {base : Nat} {r : TR} {g v f : Value} (h : RIs w base r g v f) {b o : Nat} (hb : b < base) (x : Value) : RIs (w.setCell ⟨b, o, none⟩ x) base r g v f := ⟨h.g.set hb x, h.u.set hb x, h.f.set hb x⟩
abbrev zResV : Array Value := resV 0 (.slice none 0 0) 0 (.slice none 0 0) (.slice none 0 0)
/- a result's block, and what is stored there -/
theorem res_row (w : World) : (w.alloc (.cells zResV 32)).rowIs w.heap.size 32 5 (fun i => zResV[i]!) := rowAll w zResV _
structure RC (w : World) (S : Nat) : Prop where
  c0 : w.cell? ⟨S, 0, none⟩ = some (.int .i64 0)
  c1 : w.cell? ⟨S, 1, none⟩ = some (.slice none 0 0)
  c2 : w.cell? ⟨S, 2, none⟩ = some (.int .i64 0)
  c3 : w.cell? ⟨S, 3, none⟩ = some (.slice none 0 0)
  c4 : w.cell? ⟨S, 4, none⟩ = some (.slice none 0 0)
  z0 : w.frozen? ⟨S, 0, none⟩ = false
  z1 : w.frozen? ⟨S, 1, none⟩ = false
  z2 : w.frozen? ⟨S, 2, none⟩ = false
  z3 : w.frozen? ⟨S, 3, none⟩ = false
  z4 : w.frozen? ⟨S, 4, none⟩ = false
  lt : S < w.heap.size
theorem res_cells {w : World} {S : Nat} (h : w.rowIs S 32 5 (fun i => zResV[i]!)) : RC w S :=
  ⟨h.cell (i := 0) (by omega), h.cell (i := 1) (by omega), h.cell (i := 2) (by omega), h.cell (i := 3) (by omega), h.cell (i := 4) (by omega), h.frozen 0, h.frozen 1, h.frozen 2, h.frozen 3, h.frozen 4, h.lt⟩
abbrev stRes (w : World) (S : Nat) (C : Int) (g : Value) (L : Int) (v f : Value) : World := ((((w.setCell ⟨S, 0, none⟩ (.int .i64 C)).setCell ⟨S, 1, none⟩ g).setCell ⟨S, 2, none⟩ (.int .i64 L)).setCell ⟨S, 3, none⟩ v).setCell ⟨S, 4, none⟩ f
theorem setRes_row {w : World} {S : Nat} {t : TypeId} {f0 : Nat → Value} (h : w.rowIs S t 5 f0) (C : Int) (g : Value) (L : Int) (v f : Value) : (stRes w S C g L v f).rowIs S t 5 (fun i => (resV C g L v f)[i]!) :=
  (((((h.set 0 (.int .i64 C)).set 1 g).set 2 (.int .i64 L)).set 3 v).set 4 f).congr (fun i hi => by rcases i with _ | _ | _ | _ | _ | i <;> first | rfl | omega)
theorem setRes_cells {w : World} {S : Nat} {t : TypeId} {C : Int} {g : Value} {L : Int} {v f : Value} (h : w.rowIs S t 5 (fun i => (resV C g L v f)[i]!)) :
    w.cell? ⟨S, 0, none⟩ = some (.int .i64 C) ∧ w.cell? ⟨S, 1, none⟩ = some g ∧ w.cell? ⟨S, 2, none⟩ = some (.int .i64 L) ∧ w.cell? ⟨S, 3, none⟩ = some v ∧ w.cell? ⟨S, 4, none⟩ = some f :=
  ⟨h.cell (i := 0) (by omega), h.cell (i := 1) (by omega), h.cell (i := 2) (by omega), h.cell (i := 3) (by omega), h.cell (i := 4) (by omega)⟩
theorem setRes_bel {n : Nat} {w w' : World} (h : Below n w w') (S : Nat) (hb : n ≤ S) (C : Int) (g : Value) (L : Int) (v f : Value) : Below n w (stRes w' S C g L v f) :=
  bel_set (bel_set (bel_set (bel_set (bel_set h S 0 hb _) S 1 hb _) S 2 hb _) S 3 hb _) S 4 hb _
theorem RIs.setRes {w : World} {base : Nat} {r : TR} {g v f : Value} (h : RIs w base r g v f) {S : Nat} (hb : S < base) (C : Int) (g' : Value) (L : Int) (v' f' : Value) : RIs (stRes w S C g' L v' f') base r g v f :=
  ((((h.set hb _).set hb _).set hb _).set hb _).set hb _
theorem stRes_heap (w : World) (S : Nat) (C : Int) (g : Value) (L : Int) (v f : Value) {q : Nat} (hq : q ≠ S) : (stRes w S C g L v f).heap[q]? = w.heap[q]? :=
  ((((Below.heap_setCell _ _ _ _ hq).trans (Below.heap_setCell _ _ _ _ hq)).trans (Below.heap_setCell _ _ _ _ hq)).trans (Below.heap_setCell _ _ _ _ hq)).trans (Below.heap_setCell _ _ _ _ hq)
theorem SlI.of_blk {w w' : World} {base : Nat} {v : Value} {l : List Int} (h : SlI w base v l) (he : ∀ b, v.ownBlock = some b → w'.heap[b]? = w.heap[b]?) : SlI w' base v l := by
  rcases h with ⟨h1, h2⟩
  refine ⟨h1, ?_⟩
  rcases h2 with h2 | ⟨g, cap, cur, hv, hbb, hg, r⟩
  · exact .inl h2
  · exact .inr ⟨g, cap, cur, hv, hbb, (he g (by rw [hv]; rfl)).trans hg, r⟩
/- stores into a block that is no list of these -/
theorem RIs.apart {w : World} {base : Nat} {r : TR} {g v f : Value} (h : RIs w base r g v f) {S : Nat} {c : Array Value} (hS : w.heap[S]? = some (.cells c 32 (0, 0))) : g.ownBlock ≠ some S ∧ v.ownBlock ≠ some S ∧ f.ownBlock ≠ some S := by
  refine ⟨fun e => ?_, fun e => ?_, fun e => ?_⟩
  · rcases h.g.2 with ⟨h1, _⟩ | ⟨q, cap, cur, hv, _, hg, _⟩
    · rw [h1] at e; cases e
    · rw [hv] at e; cases e; exact blk_ne hg hS (by decide) rfl
  · rcases h.u.2 with ⟨h1, _⟩ | ⟨q, cap, cur, hv, _, hg, _⟩
    · rw [h1] at e; cases e
    · rw [hv] at e; cases e; exact blk_ne hg hS (by decide) rfl
  · rcases h.f.2 with ⟨h1, _⟩ | ⟨q, cap, cur, hv, _, hg, _⟩
    · rw [h1] at e; cases e
    · rw [hv] at e; cases e; exact blk_ne hg hS (by decide) rfl
theorem RIs.setResA {w : World} {base : Nat} {r : TR} {g v f : Value} (h : RIs w base r g v f) {S : Nat} {f0 : Nat → Value} (hr : w.rowIs S 32 5 f0) (C : Int) (g' : Value) (L : Int) (v' f' : Value) : RIs (stRes w S C g' L v' f') base r g v f := by
  obtain ⟨c, hS, _⟩ := hr
  obtain ⟨a1, a2, a3⟩ := h.apart hS
  have e : ∀ q, q ≠ S → (stRes w S C g' L v' f').heap[q]? = w.heap[q]? := fun q hq => stRes_heap w S C g' L v' f' hq
  exact ⟨h.g.of_blk (fun b hb => e b (by rintro rfl; exact a1 hb)), h.u.of_block (fun b hb => e b (by rintro rfl; exact a2 hb)), h.f.of_block (fun b hb => e b (by rintro rfl; exact a3 hb))⟩
set_option maxRecDepth 20000 in
set_option maxHeartbeats 16000000 in
theorem result_c (base T mb : Nat) (vf : Value) (gr cr gg cg : Nat) (s : TS) (tg : TG s) (w : World) (h : ST w base T mb vf gr cr gg cg s) :
    Calls Tryz.prog 42 #[.pointer (some ⟨T, 0, none⟩)] w fun e w' => ∃ g v f, e = .returned (.agg (resV 0 g s.lost v f)) ∧ RIs w' base (TR.of s) g v f ∧ Below w.heap.size w w' := by
  obtain ⟨W1, HW1⟩ : ∃ W1, Hid (W1 = w.alloc (.cells zResV 32)) := ⟨_, rfl⟩
  have B1 : Below w.heap.size w W1 := by rw [HW1.out]; exact (Below.refl _ _).alloc (Nat.le_refl _) _
  have rr : W1.rowIs w.heap.size 32 5 (fun i => zResV[i]!) := by rw [HW1.out]; exact res_row w
  have S1 := h.later B1
  have hb := h.base
  obtain ⟨m, Hm⟩ : ∃ m, Hid (s.us.length = m) := ⟨_, rfl⟩
  obtain ⟨af, cf, hvf, _⟩ := h.f.form
  obtain ⟨m', Hm'⟩ : ∃ m', Hid (s.fs.length = m') := ⟨_, rfl⟩
  rw [Hm'.out] at hvf
  subst hvf
  have D1 : Below W1.heap.size W1 W1.drew := (Below.refl _ _).drew
  have cU := fun W hM => risingUnits_c mb m s.us Hm.out (by have := tg.gd.n8; have := Hm.out; omega) tg.gd.r tg.gd.u W hM
  have cU1 := cU W1.drew (S1.later D1).m
  have Hrr : Hid (W1.rowIs w.heap.size 32 5 (fun i => zResV[i]!)) := rr
  have HS : Hid (ST W1 base T mb (.slice af m' cf) gr cr gg cg s) := S1
  have keep : ∀ w', Below W1.heap.size W1 w' → w'.cell? ⟨T, 0, none⟩ = some (.map (some mb)) ∧ w'.cell? ⟨T, 1, none⟩ = some (.slice af m' cf) ∧ w'.cell? ⟨T, 3, none⟩ = some (.slice (some ⟨gg, 0, none⟩) 4 cg) ∧ w'.cell? ⟨T, 4, none⟩ = some (.int .i64 s.lost) := fun w' hk => by
    obtain ⟨t0, t1, t2, t3, t4, tl⟩ := (HS.out.later hk).cells
    exact ⟨t0, t1, t3, t4⟩
  obtain ⟨t0, t1, t3, t4⟩ := keep _ (Below.refl _ _)
  have tl := HS.out.row.lt
  have tne : T ≠ w.heap.size := by have := h.row.lt; omega
  have Hgl : Hid (s.gn.length = 4) := tg.gl
  clear h S1 rr tg cU
  go_enter Tryz.func42, Tryz.ntmps42
  go_upto_region 1 with fail
  rw [← HW1.out]
  go_region_held3 (fun w' => w'.cell? ⟨T, 0, none⟩ = some (.map (some mb)) ∧ w'.cell? ⟨T, 1, none⟩ = some (.slice af m' cf) ∧ w'.cell? ⟨T, 3, none⟩ = some (.slice (some ⟨gg, 0, none⟩) 4 cg) ∧ w'.cell? ⟨T, 4, none⟩ = some (.int .i64 s.lost)) (first | (rw [cell_blk (stRes_heap _ _ _ _ _ _ _ tne), cell_blk (stRes_heap _ _ _ _ _ _ _ tne), cell_blk (stRes_heap _ _ _ _ _ _ _ tne), cell_blk (stRes_heap _ _ _ _ _ _ _ tne)]; exact ⟨t0, t1, t3, t4⟩) | go_keep) (first
    | (go_at_call 76; refine cU1.mono ?_; rintro e w2 ⟨v2, rfl, S2, k2⟩; have K2 := D1.trans (k2.mono D1.size); obtain ⟨t0, t1, t3, t4⟩ := keep _ K2; obtain ⟨a2, c2, hv2, _⟩ := S2.form; rw [Hm.out] at hv2; subst hv2; obtain ⟨e0, e1, e2, e3, e4, z0, z1, z2, z3, z4, el⟩ := res_cells (row_later Hrr.out K2)))
  all_goals
    have hr2 := row_later Hrr.out K2
    have hrow := setRes_row hr2 0 (.slice (some ⟨gg, 0, none⟩) 4 cg) s.lost (.slice a2 m c2) (.slice af m' cf)
    obtain ⟨x0, x1, x2, x3, x4⟩ := setRes_cells hrow
    have S3 := HS.out.later K2
    have G : SlI w2 base (.slice (some ⟨gg, 0, none⟩) 4 cg) s.gn := by
      have := SlI.of_lst S3.g S3.bg
      rwa [Hgl.out] at this
    have R : RIs w2 base (TR.of s) (.slice (some ⟨gg, 0, none⟩) 4 cg) (.slice a2 m c2) (.slice af m' cf) := ⟨G, S2.mono (by have := B1.size; show base ≤ W1.heap.size; omega), S3.f⟩
    have R' := R.setResA hr2 0 (.slice (some ⟨gg, 0, none⟩) 4 cg) s.lost (.slice a2 m c2) (.slice af m' cf)
    have BZ := setRes_bel (B1.trans (K2.mono B1.size)) w.heap.size (Nat.le_refl _) 0 (.slice (some ⟨gg, 0, none⟩) 4 cg) s.lost (.slice a2 m c2) (.slice af m' cf)
    go_wp2_with fail
    refine bodyPost_ret (v := .agg (resV 0 (.slice (some ⟨gg, 0, none⟩) 4 cg) s.lost (.slice a2 m c2) (.slice af m' cf))) ?_ rfl ⟨_, _, _, rfl, R', BZ⟩
    simp [results, Tryz.results42, go_sem, x0, x1, x2, x3, x4]
    done
end Go.Proofs.YtepjkcfheejlbaaGreatDoor
end

/- TickOne -/
/- The contract of the program's TickUnit. Condition: the lists lie in memory as they were laid there; the homes lie in their variable. -/
section
namespace Go.Proofs.YtepjkcfheejlbaaGreatDoor
open Go.ChangeShapes Go.WideShapes Go.ChangeAt Go.RowKit
open Bd
set_option linter.unusedVariables false

theorem two_res (w : World) (s f : Value) : ∃ W, Hid (W = (w.alloc (.cells #[s, f] 27)).alloc (.cells zResV 32)) ∧ W.rowIs w.heap.size 27 2 (fun i => if i = 0 then s else f) ∧ W.rowIs (w.heap.size + 1) 32 5 (fun i => zResV[i]!) ∧ Below w.heap.size w W := by
  refine ⟨_, rfl, ?_⟩
  have s1 : (w.alloc (.cells #[s, f] 27)).heap.size = w.heap.size + 1 := size_new _ _
  have r0 := rowTwo w s f 27
  have r1 := res_row (w.alloc (.cells #[s, f] 27))
  rw [s1] at r1
  have b1 : Below (w.alloc (.cells #[s, f] 27)).heap.size (w.alloc (.cells #[s, f] 27)) ((w.alloc (.cells #[s, f] 27)).alloc (.cells zResV 32)) := (Below.refl _ _).alloc (Nat.le_refl _) _
  exact ⟨r0.of_block (b1.block _ r0.lt), r1, ((Below.refl _ _).alloc (Nat.le_refl _) _).alloc (by rw [s1]; omega) _⟩
/- what a call of ticks is handed -/
structure TIn (w : World) (pu : Option Addr) (m c : Nat) (pf : Option Addr) (m' c' gr og mr cr : Nat) (us : List K10) (fs : List K3) (rm : List Int) : Prop where
  hl : us.length = m
  hl' : fs.length = m'
  hr : rm.length = mr
  mx : (mr : Int) ≤ 9223372036854775807
  u : InU w pu m c us
  f : InF w pf m' c' fs
  r : IAt w gr og rm
  lr : gr < w.heap.size
theorem TIn.later {w w' : World} {pu : Option Addr} {m c : Nat} {pf : Option Addr} {m' c' gr og mr cr : Nat} {us : List K10} {fs : List K3} {rm : List Int} (h : TIn w pu m c pf m' c' gr og mr cr us fs rm) (hb : Below w.heap.size w w') : TIn w' pu m c pf m' c' gr og mr cr us fs rm :=
  ⟨h.hl, h.hl', h.hr, h.mx, h.u.later hb, h.f.later hb, h.r.later h.lr hb, Nat.lt_of_lt_of_le h.lr hb.size⟩
theorem TIn.au {w : World} {pu : Option Addr} {m c : Nat} {pf : Option Addr} {m' c' gr og mr cr : Nat} {us : List K10} {fs : List K3} {rm : List Int} (h : TIn w pu m c pf m' c' gr og mr cr us fs rm) : ArgU w pu us := h.u.arg
theorem TIn.af {w : World} {pu : Option Addr} {m c : Nat} {pf : Option Addr} {m' c' gr og mr cr : Nat} {us : List K10} {fs : List K3} {rm : List Int} (h : TIn w pu m c pf m' c' gr og mr cr us fs rm) : ArgF w pf fs := h.f.arg
theorem TIn.ar {w : World} {pu : Option Addr} {m c : Nat} {pf : Option Addr} {m' c' gr og mr cr : Nat} {us : List K10} {fs : List K3} {rm : List Int} (h : TIn w pu m c pf m' c' gr og mr cr us fs rm) : ArgI w (some ⟨gr, og, none⟩) rm := .inr ⟨gr, og, rfl, h.lr, h.r⟩
theorem TIn.fault {w : World} {pu : Option Addr} {m c : Nat} {pf : Option Addr} {m' c' gr og mr cr : Nat} {us : List K10} {fs : List K3} {rm : List Int} (h : TIn w pu m c pf m' c' gr og mr cr us fs rm) :
    Calls Tryz.prog 39 #[.agg (brdV pu m c pf m' c'), .slice (some ⟨gr, og, none⟩) mr cr] w fun e w' => e = .returned (.int .i64 (tkF us fs rm)) ∧ Below w.heap.size w w' :=
  tickFault_c _ m c _ m' c' _ mr cr us fs rm h.hl h.hl' h.hr h.mx w h.au h.af h.ar
theorem TIn.new {w : World} {pu : Option Addr} {m c : Nat} {pf : Option Addr} {m' c' gr og mr cr : Nat} {us : List K10} {fs : List K3} {rm : List Int} (h : TIn w pu m c pf m' c' gr og mr cr us fs rm) (h0 : tkF us fs rm = 0) : ∀ hm : mr = 4,
    Calls Tryz.prog 40 #[.agg (brdV pu m c pf m' c'), .slice (some ⟨gr, og, none⟩) 4 cr] w fun e w' => ∃ T mb vf q1 c1 q2 c2, e = .returned (.pointer (some ⟨T, 0, none⟩)) ∧ ST w' w.heap.size T mb vf q1 c1 q2 c2 (ts0 us fs rm) ∧ Below w.heap.size w w' := by
  intro hm
  obtain ⟨h1, h2, h3⟩ := tkF_ok h0
  exact newTickState_c _ m c pf m' c' gr og cr us fs rm h.hl h.hl' (Gd.of h1) h2 w h.au h.f h.lr h.r
theorem tg0 {us : List K10} {fs : List K3} {rm : List Int} (h0 : tkF us fs rm = 0) : TG (ts0 us fs rm) := by
  obtain ⟨h1, h2, h3⟩ := tkF_ok h0
  exact TG.start (Gd.of h1) h2 h3
theorem tu_cases (us : List K10) (fs : List K3) (i : Int) (rm : List Int) : ((tkF us fs rm == 0) = false ∧ tuR us fs i rm = .no (tkF us fs rm)) ∨ (tkF us fs rm = 0 ∧ findU us i = none ∧ tuR us fs i rm = .no 4) ∨ (∃ u, tkF us fs rm = 0 ∧ findU us i = some u ∧ tuR us fs i rm = .of (tkS (ts0 us fs rm) i)) := by
  unfold tuR
  cases h : tkF us fs rm == 0
  · exact .inl ⟨rfl, by rw [if_neg (by simp)]⟩
  · have hz : tkF us fs rm = 0 := by simpa using h
    rw [if_pos rfl]
    cases hf : findU us i with
    | none => exact .inr (.inl ⟨hz, rfl, rfl⟩)
    | some u => exact .inr (.inr ⟨u, hz, rfl, rfl⟩)
set_option maxRecDepth 20000 in
set_option maxHeartbeats 16000000 in
theorem implTickUnit (pu : Option Addr) (m c : Nat) (pf : Option Addr) (m' c' gr og mr cr : Nat) (us : List K10) (fs : List K3) (i : Int) (hw : (Lit.int .i64 i).wf = true) (rm : List Int) (w : World) (hL : HmAt w) (h : TIn w pu m c pf m' c' gr og mr cr us fs rm) :
    Calls Tryz.prog 12 #[.agg (brdV pu m c pf m' c'), .int .i64 i, .slice (some ⟨gr, og, none⟩) mr cr] w fun e w' => ∃ q v f, e = .returned (.agg (resV (tuR us fs i rm).c q (tuR us fs i rm).l v f)) ∧ RIs w' w.heap.size (tuR us fs i rm) q v f ∧ Below w.heap.size w w' := by
  obtain ⟨W1, HW1, rb, rr, B1⟩ := two_res w (.slice pu m c) (.slice pf m' c')
  have cF := (h.later B1).fault
  rcases tu_cases us fs i rm with ⟨h1, e⟩ | ⟨h1, hf, e⟩ | ⟨u, h1, hf, e⟩
  · rw [e]
    have h1' := bne_of h1
    generalize tkF us fs rm = R at h1 h1' cF ⊢
    obtain ⟨p0, p1, pl⟩ := row_brd rb
    clear h e hL
    go_enter Tryz.func12, Tryz.ntmps12
    go_upto_region 1 with fail
    rw [← HW1.out]
    go_wp2_with fail
    refine cF.mono ?_
    rintro e w2 ⟨rfl, k2⟩
    have B2 := B1.trans (k2.mono B1.size)
    have rr2 := row_later rr k2
    obtain ⟨e0, e1, e2, e3, e4, z0, z1, z2, z3, z4, el⟩ := res_cells rr2
    obtain ⟨x0, x1, x2, x3, x4⟩ := setRes_cells (setRes_row rr2 R (.slice none 0 0) 0 (.slice none 0 0) (.slice none 0 0))
    have BZ := setRes_bel B2 (w.heap.size + 1) (by omega) R (.slice none 0 0) 0 (.slice none 0 0) (.slice none 0 0)
    have RZ := RIs.nil (stRes w2 (w.heap.size + 1) R (.slice none 0 0) 0 (.slice none 0 0) (.slice none 0 0)) w.heap.size R
    clear p0 p1 pl
    go_wp2_with fail
    refine bodyPost_ret (v := .agg (resV R (.slice none 0 0) 0 (.slice none 0 0) (.slice none 0 0))) ?_ rfl ⟨_, _, _, rfl, RZ, BZ⟩
    simp [results, Tryz.results12, go_sem, x0, x1, x2, x3, x4]
    done
  · rw [e]
    have hm : mr = 4 := by have := (tkF_ok h1).2.1; have := h.hr; omega
    subst hm
    have cN := fun W hB => (h.later (w' := W) hB).new h1 rfl
    rw [h1] at cF
    have HF : Hid (findU us i = none) := hf
    obtain ⟨p0, p1, pl⟩ := row_brd rb
    clear h e hL h1 hf
    go_enter Tryz.func12, Tryz.ntmps12
    go_upto_region 1 with fail
    rw [← HW1.out]
    go_wp2_with fail
    refine cF.mono ?_
    rintro e w2 ⟨rfl, k2⟩
    have B2 := B1.trans (k2.mono B1.size)
    clear p0 p1 pl
    obtain ⟨p0, p1, pl⟩ := row_brd (row_later rb k2)
    go_wp2_with fail
    refine (cN _ B2).mono ?_
    rintro e w3 ⟨T, mb, vf, q1, c1, q2, c2, rfl, S3, k3⟩
    have B3 := B2.trans (k3.mono B2.size)
    have hlook := S3.m.look i hw
    have ets : (ts0 us fs rm).us = us := rfl
    rw [ets, HF.out] at hlook
    dsimp only [K10.z, K10.v] at hlook
    obtain ⟨t0, t1, t2, t3, t4, tl⟩ := S3.cells
    obtain ⟨W4, HW4⟩ : ∃ W4, Hid (W4 = w3.alloc (.cells #[.int .i64 0, .int .i64 0, .int .i64 0, .int .i64 0, .int .i64 0, .int .i64 0, .int .i64 0, .int .i64 0, .int .i64 0, .int .i64 0] 73)) := ⟨_, rfl⟩
    have k4 : Below w3.heap.size w3 W4 := by rw [HW4.out]; exact (Below.refl _ _).alloc (Nat.le_refl _) _
    have B4 := B3.trans (k4.mono B3.size)
    have rr4 := row_later (row_later (row_later rr k2) k3) k4
    clear p0 p1 pl t1 t2 t3 t4 ets
    go_upto_region 6 with fail
    rw [← HW4.out]
    clear t0 tl hlook
    obtain ⟨e0, e1, e2, e3, e4, z0, z1, z2, z3, z4, el⟩ := res_cells rr4
    obtain ⟨x0, x1, x2, x3, x4⟩ := setRes_cells (setRes_row rr4 4 (.slice none 0 0) 0 (.slice none 0 0) (.slice none 0 0))
    have BZ := setRes_bel B4 (w.heap.size + 1) (by omega) 4 (.slice none 0 0) 0 (.slice none 0 0) (.slice none 0 0)
    have RZ := RIs.nil (stRes W4 (w.heap.size + 1) 4 (.slice none 0 0) 0 (.slice none 0 0) (.slice none 0 0)) w.heap.size 4
    go_wp2_with fail
    refine bodyPost_ret (v := .agg (resV 4 (.slice none 0 0) 0 (.slice none 0 0) (.slice none 0 0))) ?_ rfl ⟨_, _, _, rfl, RZ, BZ⟩
    simp [results, Tryz.results12, go_sem, x0, x1, x2, x3, x4]
    done
  · rw [e]
    have hm : mr = 4 := by have := (tkF_ok h1).2.1; have := h.hr; omega
    subst hm
    have cN := fun W hB => (h.later (w' := W) hB).new h1 rfl
    have tg := tg0 h1
    rw [h1] at cF
    have HF : Hid (findU us i = some u) := hf
    have HL : Hid (HmAt w) := hL
    obtain ⟨L, HLo⟩ : ∃ L, Hid ((tkS (ts0 us fs rm) i).lost = L) := ⟨_, rfl⟩
    have eL : (TR.of (tkS (ts0 us fs rm) i)).l = L := HLo.out
    have eC : (TR.of (tkS (ts0 us fs rm) i)).c = 0 := rfl
    rw [eL, eC]
    clear eL eC
    obtain ⟨p0, p1, pl⟩ := row_brd rb
    clear h e hL h1 hf
    go_enter Tryz.func12, Tryz.ntmps12
    go_upto_region 1 with fail
    rw [← HW1.out]
    go_wp2_with fail
    refine cF.mono ?_
    rintro e w2 ⟨rfl, k2⟩
    have B2 := B1.trans (k2.mono B1.size)
    clear p0 p1 pl
    obtain ⟨p0, p1, pl⟩ := row_brd (row_later rb k2)
    go_wp2_with fail
    refine (cN _ B2).mono ?_
    rintro e w3 ⟨T, mb, vf, q1, c1, q2, c2, rfl, S3, k3⟩
    have B3 := B2.trans (k3.mono B2.size)
    have hlook := S3.m.look i hw
    have ets : (ts0 us fs rm).us = us := rfl
    rw [ets, HF.out] at hlook
    dsimp only at hlook
    obtain ⟨t0, t1, t2, t3, t4, tl⟩ := S3.cells
    obtain ⟨W4, HW4⟩ : ∃ W4, Hid (W4 = w3.alloc (.cells u.v 73)) := ⟨_, rfl⟩
    have k4 : Below w3.heap.size w3 W4 := by rw [HW4.out]; exact (Below.refl _ _).alloc (Nat.le_refl _) _
    have B4 := B3.trans (k4.mono B3.size)
    have rr4 := row_later (row_later (row_later rr k2) k3) k4
    have S4 := S3.later k4
    have hS2 : w.heap.size + 1 < w2.heap.size := (row_later rr k2).lt
    have cT := tickUnit_c w2.heap.size T mb vf q1 c1 q2 c2 (ts0 us fs rm) i hw W4 (HL.out.later B4) S4 tg
    clear p0 p1 pl t1 t2 t3 t4 ets
    go_upto_region 6 with fail
    rw [← HW4.out]
    clear t0 tl hlook
    go_wp2_with fail
    refine cT.mono ?_
    rintro e w5 ⟨rfl, S5, K5⟩
    have k5 := K5.bel
    have cR := result_c w2.heap.size T mb vf q1 c1 q2 c2 _ (tg.step i) w5 S5
    rw [HLo.out] at cR
    have rr5 := rr4.of_block (k5.block _ hS2)
    have B5 : Below w.heap.size w w5 := B4.trans (k5.mono (by omega))
    go_wp2_with fail
    refine cR.mono ?_
    rintro e w6 ⟨q, v, f, rfl, R6, k6⟩
    have B6 := B5.trans (k6.mono B5.size)
    have rr6 := row_later rr5 k6
    obtain ⟨aq, cq, hq⟩ := R6.g.form
    obtain ⟨av, cv, hv, _⟩ := R6.u.form
    obtain ⟨af, cf, hf, _⟩ := R6.f.form
    obtain ⟨lq, Hlq⟩ : ∃ n, Hid ((TR.of (tkS (ts0 us fs rm) i)).g.length = n) := ⟨_, rfl⟩
    obtain ⟨lv, Hlv⟩ : ∃ n, Hid ((TR.of (tkS (ts0 us fs rm) i)).us.length = n) := ⟨_, rfl⟩
    obtain ⟨lf, Hlf⟩ : ∃ n, Hid ((TR.of (tkS (ts0 us fs rm) i)).fs.length = n) := ⟨_, rfl⟩
    rw [Hlq.out] at hq
    rw [Hlv.out] at hv
    rw [Hlf.out] at hf
    subst hq hv hf
    obtain ⟨e0, e1, e2, e3, e4, z0, z1, z2, z3, z4, el⟩ := res_cells rr6
    obtain ⟨x0, x1, x2, x3, x4⟩ := setRes_cells (setRes_row rr6 0 (.slice aq lq cq) L (.slice av lv cv) (.slice af lf cf))
    have BZ := setRes_bel B6 (w.heap.size + 1) (by omega) 0 (.slice aq lq cq) L (.slice av lv cv) (.slice af lf cf)
    have RZ := (R6.setRes hS2 0 (.slice aq lq cq) L (.slice av lv cv) (.slice af lf cf)).mono (base' := w.heap.size) (by omega)
    go_wp2_with fail
    refine bodyPost_ret (v := .agg (resV 0 (.slice aq lq cq) L (.slice av lv cv) (.slice af lf cf))) ?_ rfl ⟨_, _, _, rfl, RZ, BZ⟩
    simp [results, Tryz.results12, go_sem, x0, x1, x2, x3, x4]
    done
end Go.Proofs.YtepjkcfheejlbaaGreatDoor
end
