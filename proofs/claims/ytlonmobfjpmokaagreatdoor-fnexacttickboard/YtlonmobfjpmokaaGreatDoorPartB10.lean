/- Texts of mine put together (a claim holds at most 60 files): TickRes. -/
import Derived.Test.YtlonmobfjpmokaaGreatDoorPartB09

/- TickRes -/
/- What ticks answer, as plain functions; the program's answer read out of its state. Condition: the state is the call's own. -/
section
namespace Go.Proofs.YtlonmobfjpmokaaGreatDoor
open Go.ChangeShapes Go.WideShapes Go.ChangeAt Go.RowKit
open Bd
set_option linter.unusedVariables false

/- a TickResult -/
structure TR where
  c : Int
  g : List Int
  l : Int
  us : List K10
  fs : List K3
def TR.no (c : Int) : TR := ⟨c, [], 0, [], []⟩
def TR.of (s : TS) : TR := ⟨0, s.gn, s.lost, s.us, s.fs⟩
def tuR (us : List K10) (fs : List K3) (i : Int) (rm : List Int) : TR := if (tkF us fs rm == 0) = true then (match findU us i with | none => .no 4 | some _ => .of (tkS (ts0 us fs rm) i)) else .no (tkF us fs rm)
abbrev resV (C : Int) (g : Value) (L : Int) (v f : Value) : Array Value := #[.int .i64 C, g, .int .i64 L, v, f]
/- its lists, made behind base -/
structure RIs (w : World) (base : Nat) (r : TR) (g v f : Value) : Prop where
  g : SlI w base g r.g
  u : SlU w base v r.us
  f : SlF w base f r.fs
theorem RIs.later {w w' : World} {base : Nat} {r : TR} {g v f : Value} (h : RIs w base r g v f) (hb : Below w.heap.size w w') : RIs w' base r g v f := ⟨h.g.below hb, h.u.below hb, h.f.below hb⟩
theorem RIs.mono {w : World} {base base' : Nat} {r : TR} {g v f : Value} (h : RIs w base r g v f) (hb : base' ≤ base) : RIs w base' r g v f := ⟨h.g.mono hb, h.u.mono hb, h.f.mono hb⟩
theorem RIs.nil (w : World) (base : Nat) (c : Int) : RIs w base (.no c) (.slice none 0 0) (.slice none 0 0) (.slice none 0 0) := ⟨SlI.nil _ _, SlU.nil _ _, SlF.nil _ _⟩
theorem RIs.set {w : World} {base : Nat} {r : TR} {g v f : Value} (h : RIs w base r g v f) {b o : Nat} (hb : b < base) (x : Value) : RIs (w.setCell ⟨b, o, none⟩ x) base r g v f := ⟨h.g.set hb x, h.u.set hb x, h.f.set hb x⟩
abbrev zResV : Array Value := resV 0 (.slice none 0 0) 0 (.slice none 0 0) (.slice none 0 0)
/- a result's block, and what is stored there -/
theorem res_row (w : World) : (w.alloc (.cells zResV 32)).rowIs w.heap.size 32 5 (fun i => zResV[i]!) := rowAll w zResV _
structure RC (w : World) (S : Nat) : Prop where
  c0 : w.cell? ⟨S, 0, none⟩ = some (.int .i64 0)
  c1 : w.cell? ⟨S, 1, none⟩ = some (.slice none 0 0)
  c2 : w.cell? ⟨S, 2, none⟩ = some (.int .i64 0)
  c3 : w.cell? ⟨S, 3, none⟩ = some (.slice none 0 0)
  c4 : w.cell? ⟨S, 4, none⟩ = some (.slice none 0 0)
  z0 : w.frozen? ⟨S, 0, none⟩ = false
  z1 : w.frozen? ⟨S, 1, none⟩ = false
  z2 : w.frozen? ⟨S, 2, none⟩ = false
  z3 : w.frozen? ⟨S, 3, none⟩ = false
  z4 : w.frozen? ⟨S, 4, none⟩ = false
  lt : S < w.heap.size
theorem res_cells {w : World} {S : Nat} (h : w.rowIs S 32 5 (fun i => zResV[i]!)) : RC w S :=
  ⟨h.cell (i := 0) (by omega), h.cell (i := 1) (by omega), h.cell (i := 2) (by omega), h.cell (i := 3) (by omega), h.cell (i := 4) (by omega), h.frozen 0, h.frozen 1, h.frozen 2, h.frozen 3, h.frozen 4, h.lt⟩
abbrev stRes (w : World) (S : Nat) (C : Int) (g : Value) (L : Int) (v f : Value) : World := ((((w.setCell ⟨S, 0, none⟩ (.int .i64 C)).setCell ⟨S, 1, none⟩ g).setCell ⟨S, 2, none⟩ (.int .i64 L)).setCell ⟨S, 3, none⟩ v).setCell ⟨S, 4, none⟩ f
theorem setRes_row {w : World} {S : Nat} {t : TypeId} {f0 : Nat → Value} (h : w.rowIs S t 5 f0) (C : Int) (g : Value) (L : Int) (v f : Value) : (stRes w S C g L v f).rowIs S t 5 (fun i => (resV C g L v f)[i]!) :=
  (((((h.set 0 (.int .i64 C)).set 1 g).set 2 (.int .i64 L)).set 3 v).set 4 f).congr (fun i hi => by rcases i with _ | _ | _ | _ | _ | i <;> first | rfl | omega)
theorem setRes_cells {w : World} {S : Nat} {t : TypeId} {C : Int} {g : Value} {L : Int} {v f : Value} (h : w.rowIs S t 5 (fun i => (resV C g L v f)[i]!)) :
    w.cell? ⟨S, 0, none⟩ = some (.int .i64 C) ∧ w.cell? ⟨S, 1, none⟩ = some g ∧ w.cell? ⟨S, 2, none⟩ = some (.int .i64 L) ∧ w.cell? ⟨S, 3, none⟩ = some v ∧ w.cell? ⟨S, 4, none⟩ = some f :=
  ⟨h.cell (i := 0) (by omega), h.cell (i := 1) (by omega), h.cell (i := 2) (by omega), h.cell (i := 3) (by omega), h.cell (i := 4) (by omega)⟩
theorem setRes_bel {n : Nat} {w w' : World} (h : Below n w w') (S : Nat) (hb : n ≤ S) (C : Int) (g : Value) (L : Int) (v f : Value) : Below n w (stRes w' S C g L v f) :=
  bel_set (bel_set (bel_set (bel_set (bel_set h S 0 hb _) S 1 hb _) S 2 hb _) S 3 hb _) S 4 hb _
theorem RIs.setRes {w : World} {base : Nat} {r : TR} {g v f : Value} (h : RIs w base r g v f) {S : Nat} (hb : S < base) (C : Int) (g' : Value) (L : Int) (v' f' : Value) : RIs (stRes w S C g' L v' f') base r g v f :=
  ((((h.set hb _).set hb _).set hb _).set hb _).set hb _
theorem stRes_heap (w : World) (S : Nat) (C : Int) (g : Value) (L : Int) (v f : Value) {q : Nat} (hq : q ≠ S) : (stRes w S C g L v f).heap[q]? = w.heap[q]? :=
  ((((Below.heap_setCell _ _ _ _ hq).trans (Below.heap_setCell _ _ _ _ hq)).trans (Below.heap_setCell _ _ _ _ hq)).trans (Below.heap_setCell _ _ _ _ hq)).trans (Below.heap_setCell _ _ _ _ hq)
theorem SlI.of_blk {w w' : World} {base : Nat} {v : Value} {l : List Int} (h : SlI w base v l) (he : ∀ b, v.ownBlock = some b → w'.heap[b]? = w.heap[b]?) : SlI w' base v l := by
  rcases h with ⟨h1, h2⟩
  refine ⟨h1, ?_⟩
  rcases h2 with h2 | ⟨g, cap, cur, hv, hbb, hg, r⟩
  · exact .inl h2
  · exact .inr ⟨g, cap, cur, hv, hbb, (he g (by rw [hv]; rfl)).trans hg, r⟩
/- stores into a block that is no list of these -/
theorem RIs.apart {w : World} {base : Nat} {r : TR} {g v f : Value} (h : RIs w base r g v f) {S : Nat} {c : Array Value} (hS : w.heap[S]? = some (.cells c 32 (0, 0))) : g.ownBlock ≠ some S ∧ v.ownBlock ≠ some S ∧ f.ownBlock ≠ some S := by
  refine ⟨fun e => ?_, fun e => ?_, fun e => ?_⟩
  · rcases h.g.2 with ⟨h1, _⟩ | ⟨q, cap, cur, hv, _, hg, _⟩
    · rw [h1] at e; cases e
    · rw [hv] at e; cases e; exact blk_ne hg hS (by decide) rfl
  · rcases h.u.2 with ⟨h1, _⟩ | ⟨q, cap, cur, hv, _, hg, _⟩
    · rw [h1] at e; cases e
    · rw [hv] at e; cases e; exact blk_ne hg hS (by decide) rfl
  · rcases h.f.2 with ⟨h1, _⟩ | ⟨q, cap, cur, hv, _, hg, _⟩
    · rw [h1] at e; cases e
    · rw [hv] at e; cases e; exact blk_ne hg hS (by decide) rfl
theorem RIs.setResA {w : World} {base : Nat} {r : TR} {g v f : Value} (h : RIs w base r g v f) {S : Nat} {f0 : Nat → Value} (hr : w.rowIs S 32 5 f0) (C : Int) (g' : Value) (L : Int) (v' f' : Value) : RIs (stRes w S C g' L v' f') base r g v f := by
  obtain ⟨c, hS, _⟩ := hr
  obtain ⟨a1, a2, a3⟩ := h.apart hS
  have e : ∀ q, q ≠ S → (stRes w S C g' L v' f').heap[q]? = w.heap[q]? := fun q hq => stRes_heap w S C g' L v' f' hq
  exact ⟨h.g.of_blk (fun b hb => e b (by rintro rfl; exact a1 hb)), h.u.of_block (fun b hb => e b (by rintro rfl; exact a2 hb)), h.f.of_block (fun b hb => e b (by rintro rfl; exact a3 hb))⟩
set_option maxRecDepth 20000 in
set_option maxHeartbeats 16000000 in
theorem result_c (base T mb : Nat) (vf : Value) (gr cr gg cg : Nat) (s : TS) (tg : TG s) (w : World) (h : ST w base T mb vf gr cr gg cg s) :
    Calls Tryz.prog 42 #[.pointer (some ⟨T, 0, none⟩)] w fun e w' => ∃ g v f, e = .returned (.agg (resV 0 g s.lost v f)) ∧ RIs w' base (TR.of s) g v f ∧ Below w.heap.size w w' := by
  obtain ⟨W1, HW1⟩ : ∃ W1, Hid (W1 = w.alloc (.cells zResV 32)) := ⟨_, rfl⟩
  have B1 : Below w.heap.size w W1 := by rw [HW1.out]; exact (Below.refl _ _).alloc (Nat.le_refl _) _
  have rr : W1.rowIs w.heap.size 32 5 (fun i => zResV[i]!) := by rw [HW1.out]; exact res_row w
  have S1 := h.later B1
  have hb := h.base
  obtain ⟨m, Hm⟩ : ∃ m, Hid (s.us.length = m) := ⟨_, rfl⟩
  obtain ⟨af, cf, hvf, _⟩ := h.f.form
  obtain ⟨m', Hm'⟩ : ∃ m', Hid (s.fs.length = m') := ⟨_, rfl⟩
  rw [Hm'.out] at hvf
  subst hvf
  have D1 : Below W1.heap.size W1 W1.drew := (Below.refl _ _).drew
  have cU := fun W hM => risingUnits_c mb m s.us Hm.out (by have := tg.gd.n8; have := Hm.out; omega) tg.gd.r tg.gd.u W hM
  have cU1 := cU W1.drew (S1.later D1).m
  have Hrr : Hid (W1.rowIs w.heap.size 32 5 (fun i => zResV[i]!)) := rr
  have HS : Hid (ST W1 base T mb (.slice af m' cf) gr cr gg cg s) := S1
  have keep : ∀ w', Below W1.heap.size W1 w' → w'.cell? ⟨T, 0, none⟩ = some (.map (some mb)) ∧ w'.cell? ⟨T, 1, none⟩ = some (.slice af m' cf) ∧ w'.cell? ⟨T, 3, none⟩ = some (.slice (some ⟨gg, 0, none⟩) 4 cg) ∧ w'.cell? ⟨T, 4, none⟩ = some (.int .i64 s.lost) := fun w' hk => by
    obtain ⟨t0, t1, t2, t3, t4, tl⟩ := (HS.out.later hk).cells
    exact ⟨t0, t1, t3, t4⟩
  obtain ⟨t0, t1, t3, t4⟩ := keep _ (Below.refl _ _)
  have tl := HS.out.row.lt
  have tne : T ≠ w.heap.size := by have := h.row.lt; omega
  have Hgl : Hid (s.gn.length = 4) := tg.gl
  clear h S1 rr tg cU
  go_enter Tryz.func42, Tryz.ntmps42
  go_upto_region 1 with fail
  rw [← HW1.out]
  go_region_held3 (fun w' => w'.cell? ⟨T, 0, none⟩ = some (.map (some mb)) ∧ w'.cell? ⟨T, 1, none⟩ = some (.slice af m' cf) ∧ w'.cell? ⟨T, 3, none⟩ = some (.slice (some ⟨gg, 0, none⟩) 4 cg) ∧ w'.cell? ⟨T, 4, none⟩ = some (.int .i64 s.lost)) (first | (rw [cell_blk (stRes_heap _ _ _ _ _ _ _ tne), cell_blk (stRes_heap _ _ _ _ _ _ _ tne), cell_blk (stRes_heap _ _ _ _ _ _ _ tne), cell_blk (stRes_heap _ _ _ _ _ _ _ tne)]; exact ⟨t0, t1, t3, t4⟩) | go_keep) (first
    | (go_at_call 76; refine cU1.mono ?_; rintro e w2 ⟨v2, rfl, S2, k2⟩; have K2 := D1.trans (k2.mono D1.size); obtain ⟨t0, t1, t3, t4⟩ := keep _ K2; obtain ⟨a2, c2, hv2, _⟩ := S2.form; rw [Hm.out] at hv2; subst hv2; obtain ⟨e0, e1, e2, e3, e4, z0, z1, z2, z3, z4, el⟩ := res_cells (row_later Hrr.out K2)))
  all_goals
    have hr2 := row_later Hrr.out K2
    have hrow := setRes_row hr2 0 (.slice (some ⟨gg, 0, none⟩) 4 cg) s.lost (.slice a2 m c2) (.slice af m' cf)
    obtain ⟨x0, x1, x2, x3, x4⟩ := setRes_cells hrow
    have S3 := HS.out.later K2
    have G : SlI w2 base (.slice (some ⟨gg, 0, none⟩) 4 cg) s.gn := by
      have := SlI.of_lst S3.g S3.bg
      rwa [Hgl.out] at this
    have R : RIs w2 base (TR.of s) (.slice (some ⟨gg, 0, none⟩) 4 cg) (.slice a2 m c2) (.slice af m' cf) := ⟨G, S2.mono (by have := B1.size; show base ≤ W1.heap.size; omega), S3.f⟩
    have R' := R.setResA hr2 0 (.slice (some ⟨gg, 0, none⟩) 4 cg) s.lost (.slice a2 m c2) (.slice af m' cf)
    have BZ := setRes_bel (B1.trans (K2.mono B1.size)) w.heap.size (Nat.le_refl _) 0 (.slice (some ⟨gg, 0, none⟩) 4 cg) s.lost (.slice a2 m c2) (.slice af m' cf)
    go_wp2_with fail
    refine bodyPost_ret (v := .agg (resV 0 (.slice (some ⟨gg, 0, none⟩) 4 cg) s.lost (.slice a2 m c2) (.slice af m' cf))) ?_ rfl ⟨_, _, _, rfl, R', BZ⟩
    simp [results, Tryz.results42, go_sem, x0, x1, x2, x3, x4]
    done
end Go.Proofs.YtlonmobfjpmokaaGreatDoor
end
