/- The walk of the exact law of HomeOf. Condition: the homes lie in their variable. -/
import Derived.Test.YtlonmobfjpmokaaDoorBrdNums
import Derived.Test.YtlonmobfjpmokaaDoorOpenCmd
import Derived.Test.YtlonmobfjpmokaaDoorOne
import Derived.LaidMore
import Derived.LaidLaws
import Derived.Lib.LaidTab
import Derived.Stop.Joined
import Derived.Stop.LaidErr
import Derived.ChangeSlices
namespace Go.Proofs.YtlonmobfjpmokaaDoor
open Go.ChangeShapes Go.WideShapes Go.ChangeAt Go.RowKit
open Bd
set_option linter.unusedVariables false

def hmX (o : Int) : Int := if o = 1 ∨ o = 3 then 11 else 0
def hmY (o : Int) : Int := if o = 2 ∨ o = 3 then 11 else 0
abbrev tileV (x y : Int) : Array Value := #[.int .i64 0, .int .i64 x, .int .i64 y]
theorem rowAll (w : World) (cs : Array Value) (t : TypeId) : (w.alloc (.cells cs t)).rowIs w.heap.size t cs.size (fun i => cs[i]!) := by
  refine ⟨cs, ?_, rfl, fun i hi => ?_⟩
  · show (w.heap.push _)[w.heap.size]? = _
    simp
  · show cs[i]? = some cs[i]!
    rw [getElem!_pos cs i hi]; exact Array.getElem?_eq_getElem hi
theorem bel_set {n : Nat} {w w' : World} (h : Below n w w') (b o : Nat) (hb : n ≤ b) (v : Value) : Below n w (w'.setCell ⟨b, o, none⟩ v) := h.setCell hb v
theorem l5Home_c (o : Int) (h0 : 0 ≤ o) (h1 : o ≤ 3) (w : World) :
    Calls Tryd.prog 32 #[.int .i64 o] w fun e w' => e = .returned (.tuple #[.int .i64 (hmX o), .int .i64 (hmY o)]) ∧ w' = w := by
  have h : o = 0 ∨ o = 1 ∨ o = 2 ∨ o = 3 := by omega
  rcases h with rfl | rfl | rfl | rfl
  all_goals
    go_enter Tryd.func32, Tryd.ntmps32
    go_wp2
    go_ret2
    exact ⟨rfl, rfl⟩
/- the homes, as their variable holds them -/
structure HmAt (w : World) : Prop where
  c : ∀ o : Nat, o < 4 → w.cell? ⟨0, o * 3, none⟩ = some (.int .i64 0) ∧ w.cell? ⟨0, o * 3 + 1, none⟩ = some (.int .i64 (hmX o)) ∧ w.cell? ⟨0, o * 3 + 2, none⟩ = some (.int .i64 (hmY o))
  lt : 0 < w.heap.size
theorem HmAt.below {w w' : World} {n : Nat} (h : HmAt w) (hb : Below n w w') (hn : 0 < n) : HmAt w' :=
  ⟨fun o ho => by have := h.c o ho; rw [hb.cell (p := ⟨0, o * 3, none⟩) hn, hb.cell (p := ⟨0, o * 3 + 1, none⟩) hn, hb.cell (p := ⟨0, o * 3 + 2, none⟩) hn]; exact this, Nat.lt_of_lt_of_le h.lt hb.size⟩
theorem HmAt.later {w w' : World} (h : HmAt w) (hb : Below w.heap.size w w') : HmAt w' := h.below hb h.lt
set_option maxRecDepth 20000 in
set_option maxHeartbeats 4000000 in
theorem homeOf_c (o : Nat) (ho : o < 4) (w : World) (hL : HmAt w) :
    Calls Tryd.prog 15 #[.int .i64 o] w fun e w' => e = .returned (.agg (tileV (hmX o) (hmY o))) ∧ Below w.heap.size w w' := by
  have hs := fun W => isSide_c (o : Int) W
  rw [inb_t (by omega) (by omega)] at hs
  have ho' : (o : Int) < 4 := by omega
  obtain ⟨W1, HW1⟩ : ∃ W1, Hid (W1 = w.alloc (.cells (tileV 0 0) 45)) := ⟨_, rfl⟩
  have B1 : Below w.heap.size w W1 := by rw [HW1.out]; exact (Below.refl _ _).alloc (Nat.le_refl _) _
  have rr : W1.rowIs w.heap.size 45 3 (fun i => (tileV 0 0)[i]!) := by rw [HW1.out]; exact rowAll w (tileV 0 0) _
  obtain ⟨g0, g1, g2⟩ := (hL.later B1).c o ho
  have gl := (hL.later B1).lt
  have e0 : W1.cell? ⟨w.heap.size, 0, none⟩ = some (.int .i64 0) := rr.cell (i := 0) (by omega)
  have e1 : W1.cell? ⟨w.heap.size, 1, none⟩ = some (.int .i64 0) := rr.cell (i := 1) (by omega)
  have e2 : W1.cell? ⟨w.heap.size, 2, none⟩ = some (.int .i64 0) := rr.cell (i := 2) (by omega)
  have z0 := rr.frozen 0
  have z1 := rr.frozen 1
  have z2 := rr.frozen 2
  have rl := rr.lt
  generalize hmX (o : Int) = X at g1 ⊢
  generalize hmY (o : Int) = Y at g2 ⊢
  have t := ((rr.set 0 (.int .i64 0)).set 1 (.int .i64 X)).set 2 (.int .i64 Y)
  have c0 := t.cell (i := 0) (by omega)
  have c1 := t.cell (i := 1) (by omega)
  have c2 := t.cell (i := 2) (by omega)
  have BZ := bel_set (bel_set (bel_set B1 w.heap.size 0 (Nat.le_refl _) (.int .i64 0)) w.heap.size 1 (Nat.le_refl _) (.int .i64 X)) w.heap.size 2 (Nat.le_refl _) (.int .i64 Y)
  clear rr hL
  go_enter Tryd.func15, Tryd.ntmps15
  go_upto_region 1 with fail
  rw [← HW1.out]
  go_wp2_with (first | (go_at_call 33; refine (hs _).mono ?_; rintro e w1 ⟨rfl, rfl⟩))
  refine bodyPost_ret (v := .agg (tileV X Y)) ?_ rfl ⟨rfl, BZ⟩
  simp [results, Tryd.results15, go_sem, c0, c1, c2]
  done
theorem homeOf_i (o : Int) (h0 : 0 ≤ o) (h3 : o ≤ 3) (w : World) (hL : HmAt w) :
    Calls Tryd.prog 15 #[.int .i64 o] w fun e w' => e = .returned (.agg (tileV (hmX o) (hmY o))) ∧ Below w.heap.size w w' := by
  obtain ⟨n, rfl⟩ : ∃ n : Nat, o = n := ⟨o.toNat, by omega⟩
  exact homeOf_c n (by omega) w hL
theorem eqTileResult_same (c x y : Int) (w : World) :
    Calls Tryd.prog 16 #[.agg #[.int .i64 c, .int .i64 x, .int .i64 y], .agg #[.int .i64 c, .int .i64 x, .int .i64 y]] w fun e w' => e = .returned (.bool true) ∧ w' = (w.alloc (.cells #[.int .i64 c, .int .i64 x, .int .i64 y] 45)).alloc (.cells #[.int .i64 c, .int .i64 x, .int .i64 y] 45) := by
  go_enter Tryd.func16, Tryd.ntmps16
  go_wp2
  go_ret
  exact ⟨rfl, rfl⟩
def lits3 {H : Type} (z : Int × Int × Int) : DataW H := .agg [.lit (.int .i64 z.1), .lit (.int .i64 z.2.1), .lit (.int .i64 z.2.2)]
theorem cells3 {H : Type} {enc : TypeId × Value → H} {P : Program} {w : World} {base : Nat} {sp : Nat → Bool} {held : Bool} {fuel : Nat} {t e : TypeId} {fs : Array Field} {cs : List Value} {z : Int × Int × Int} {p : List MemPlace}
    (ht : P.underlying t = some (.struct fs)) (he : P.underlying e = some (.int .i64)) (hce : P.cellsOf e = 1) (hct : P.cellsOf t = fs.size) (hs : fs.size = 3) (hok : i64Fields e fs = true)
    (h : DataW.trod enc P w base sp held fuel t cs = some (lits3 z, p)) : cs = [.int .i64 z.1, .int .i64 z.2.1, .int .i64 z.2.2] := by
  generalize hx : ((lits3 z : DataW H), p) = x at h
  obtain ⟨xs, n, _, rfl, hl, hlen, hf⟩ := DataW.trod_struct ht h
  rw [hct, hs] at hl
  have hxs : xs.map Prod.fst = [.lit (.int .i64 z.1), .lit (.int .i64 z.2.1), .lit (.int .i64 z.2.2)] := by
    have := congrArg Prod.fst hx
    simpa [lits3] using this.symm
  have key : ∀ i (v : Int), (xs.map Prod.fst)[i]? = some (.lit (.int .i64 v)) → i < 3 → cs[i]? = some (.int .i64 v) := by
    intro i v hv hi
    obtain ⟨f, hfi, ho, hty⟩ := i64Fields.at hok (show i < fs.size by omega)
    have h1 := hf i f hfi
    rw [ho, hty, hce, List.getElem?_eq_getElem (by omega)] at h1
    obtain ⟨y, hc, hd, hw⟩ := DataW.trod_int he h1
    have e1 : (xs.map Prod.fst)[i]? = some (.lit (.int .i64 y)) := by
      rw [List.getElem?_map, List.getElem?_eq_getElem (by omega)]
      simp [hd]
    rw [e1] at hv
    simp at hv
    subst hv
    have := congrArg (·[0]?) hc
    simpa [List.getElem?_take, List.getElem?_drop] using this
  have k0 := key 0 z.1 (by rw [hxs]; rfl) (by omega)
  have k1 := key 1 z.2.1 (by rw [hxs]; rfl) (by omega)
  have k2 := key 2 z.2.2 (by rw [hxs]; rfl) (by omega)
  obtain ⟨c0, c1, c2, rfl⟩ : ∃ c0 c1 c2, cs = [c0, c1, c2] := by
    match cs, hl with
    | [a, b, c], _ => exact ⟨a, b, c, rfl⟩
  simp at k0 k1 k2
  rw [k0, k1, k2]
theorem cells_of_rows {H : Type} {enc : TypeId × Value → H} {P : Program} {w : World} {base : Nat} {sp : Nat → Bool} {held : Bool} {fuel : Nat} {t e i64 : TypeId} {fs : Array Field} {n : Nat} {cs : List Value} {zs : List (Int × Int × Int)} {p : List MemPlace}
    (ht : P.underlying t = some (.array n e)) (hes : P.underlying e = some (.struct fs)) (he : P.underlying i64 = some (.int .i64)) (hc1 : P.cellsOf i64 = 1) (hce : P.cellsOf e = 3) (hs : fs.size = 3) (hok : i64Fields i64 fs = true) (hct : P.cellsOf t = n * 3)
    (h : DataW.trod enc P w base sp held fuel t cs = some (.agg (zs.map lits3), p)) : ∀ i z, zs[i]? = some z → (cs.drop (i * 3)).take 3 = [.int .i64 z.1, .int .i64 z.2.1, .int .i64 z.2.2] := by
  cases fuel with
  | zero => simp [DataW.trod] at h
  | succ fuel =>
    simp only [DataW.trod, ht, hce, hct] at h
    split at h
    · rename_i hl
      obtain ⟨xs, hm, hx⟩ := Option.map_eq_some_iff.1 h
      have hxs : xs.map (·.1) = zs.map lits3 := by
        have := congrArg Prod.fst hx
        simpa using this
      have hxl : xs.length = n := by simpa using Lib.mapM_length hm
      intro i z hz
      have hi : i < n := by
        have := congrArg List.length hxs
        simp at this
        have := (List.getElem?_eq_some_iff.1 hz).1
        omega
      obtain ⟨b, hb, hf⟩ := Lib.mapM_at hm i i (by simp [hi])
      have hb1 : b.1 = lits3 z := by
        have e1 : (xs.map (·.1))[i]? = some b.1 := by simp [hb]
        rw [hxs] at e1
        simp [hz] at e1
        exact e1.symm
      obtain ⟨b1, b2⟩ := b
      simp only at hb1
      subst hb1
      exact cells3 hes he hc1 (by rw [hce, hs]) hs hok hf
    · cases h
def homes : List (Int × Int × Int) := [(0, 0, 0), (0, 11, 0), (0, 0, 11), (0, 11, 11)]
theorem hmAt_head {W : World} {rest : List (String × DataW Unit)} (h : laidMet Tryd.prog (("loop.example/g00646/impl.homeTiles", .agg (homes.map lits3)) :: rest) W) : HmAt W := by
  obtain ⟨ps, ⟨g', t', cs, fuel, p, q, hg', ht', hvar, hd, _, _⟩, _⟩ := h
  have hg : Tryd.prog.globalNamed "loop.example/g00646/impl.homeTiles" = some 0 := by kernel_rfl
  obtain rfl := Option.some.inj (hg.symm.trans hg')
  obtain rfl : 74 = t' := Option.some.inj ((show (Tryd.prog.globals[0]?).map (·.type) = some 74 by kernel_rfl).symm.trans ht')
  have key := cells_of_rows (e := 45) (i64 := 2) (n := 4) (zs := homes) Tryd.underlying74 Tryd.underlying45 Tryd.underlying2 (by kernel_rfl) (by kernel_rfl) (by kernel_rfl) (by kernel_rfl) (by kernel_rfl) hd
  have cell : ∀ o f : Nat, ∀ z, homes[o]? = some z → f < 3 → W.cell? ⟨0, o * 3 + f, none⟩ = [Value.int .i64 z.1, .int .i64 z.2.1, .int .i64 z.2.2][f]? := by
    intro o f z hz hf
    have := World.var?_cell hg hvar (o * 3 + f)
    rw [this, ← key o z hz, List.getElem?_take, if_pos hf, List.getElem?_drop]
    simp
  have hc : ∀ o : Nat, o < 4 → W.cell? ⟨0, o * 3, none⟩ = some (.int .i64 0) ∧ W.cell? ⟨0, o * 3 + 1, none⟩ = some (.int .i64 (hmX o)) ∧ W.cell? ⟨0, o * 3 + 2, none⟩ = some (.int .i64 (hmY o)) := by
    intro o ho
    have : o = 0 ∨ o = 1 ∨ o = 2 ∨ o = 3 := by omega
    rcases this with rfl | rfl | rfl | rfl
    · exact ⟨cell 0 0 _ rfl (by omega), cell 0 1 _ rfl (by omega), cell 0 2 _ rfl (by omega)⟩
    · exact ⟨cell 1 0 _ rfl (by omega), cell 1 1 _ rfl (by omega), cell 1 2 _ rfl (by omega)⟩
    · exact ⟨cell 2 0 _ rfl (by omega), cell 2 1 _ rfl (by omega), cell 2 2 _ rfl (by omega)⟩
    · exact ⟨cell 3 0 _ rfl (by omega), cell 3 1 _ rfl (by omega), cell 3 2 _ rfl (by omega)⟩
  exact ⟨hc, cell_lt2 (hc 0 (by omega)).1⟩
theorem hmAt {W : World} (h : laidMetH Tryd.prog Rows.fnExactHomeOfRow.laid W) : HmAt W := by
  rw [MakeChecks.laidMetH_plain _ _ _ (by kernel_rfl)] at h
  exact hmAt_head h
set_option maxRecDepth 20000 in
set_option maxHeartbeats 4000000 in
theorem specHomeOf_c (o : Int) (h0 : 0 ≤ o) (h3 : o ≤ 3) (w : World) :
    Calls Tryd.prog 14 #[.int .i64 o] w fun e w' => e = .returned (.agg (tileV (hmX o) (hmY o))) ∧ Below w.heap.size w w' := by
  have hs := fun W => l1In_c o 0 3 W
  rw [inb_t (by omega) (by omega)] at hs
  have hh := fun W => l5Home_c o h0 h3 W
  obtain ⟨W1, HW1⟩ : ∃ W1, Hid (W1 = w.alloc (.cells (tileV 0 0) 45)) := ⟨_, rfl⟩
  have B1 : Below w.heap.size w W1 := by rw [HW1.out]; exact (Below.refl _ _).alloc (Nat.le_refl _) _
  have rr : W1.rowIs w.heap.size 45 3 (fun i => (tileV 0 0)[i]!) := by rw [HW1.out]; exact rowAll w (tileV 0 0) _
  have z0 := rr.frozen 0
  have z1 := rr.frozen 1
  have z2 := rr.frozen 2
  have e0 : W1.cell? ⟨w.heap.size, 0, none⟩ = some (.int .i64 0) := rr.cell (i := 0) (by omega)
  have e1 : W1.cell? ⟨w.heap.size, 1, none⟩ = some (.int .i64 0) := rr.cell (i := 1) (by omega)
  have e2 : W1.cell? ⟨w.heap.size, 2, none⟩ = some (.int .i64 0) := rr.cell (i := 2) (by omega)
  have rl := rr.lt
  generalize hmX o = X at hh ⊢
  generalize hmY o = Y at hh ⊢
  have t := ((rr.set 0 (.int .i64 0)).set 1 (.int .i64 X)).set 2 (.int .i64 Y)
  have c0 := t.cell (i := 0) (by omega)
  have c1 := t.cell (i := 1) (by omega)
  have c2 := t.cell (i := 2) (by omega)
  have BZ := bel_set (bel_set (bel_set B1 w.heap.size 0 (Nat.le_refl _) (.int .i64 0)) w.heap.size 1 (Nat.le_refl _) (.int .i64 X)) w.heap.size 2 (Nat.le_refl _) (.int .i64 Y)
  clear rr
  go_enter Tryd.func14, Tryd.ntmps14
  go_upto_region 1 with fail
  rw [← HW1.out]
  go_wp2_with (first | (go_at_call 31; refine (hs _).mono ?_; rintro e w1 ⟨rfl, rfl⟩) | (go_at_call 32; refine (hh _).mono ?_; rintro e w1 ⟨rfl, rfl⟩))
  refine bodyPost_ret (v := .agg (tileV X Y)) ?_ rfl ⟨rfl, BZ⟩
  simp [results, Tryd.results14, go_sem, c0, c1, c2]
  done
theorem specHomeOf_no (o : Int) (h : o < 0 ∨ 3 < o) (w : World) :
    Calls Tryd.prog 14 #[.int .i64 o] w fun e w' => e = .returned (.agg #[.int .i64 3, .int .i64 0, .int .i64 0]) ∧ Below w.heap.size w w' := by
  have hs := fun W => l1In_c o 0 3 W
  rw [inb_f (by omega)] at hs
  go_enter Tryd.func14, Tryd.ntmps14
  go_wp2_with (first | (go_at_call 31; refine (hs _).mono ?_; rintro e w1 ⟨rfl, rfl⟩))
  refine bodyPost_ret (v := .agg #[.int .i64 3, .int .i64 0, .int .i64 0]) (by simp [results, Tryd.results14, go_sem]) rfl ⟨rfl, ?_⟩
  exact (Below.refl _ _).alloc (Nat.le_refl _) _
theorem homeOf_no (o : Int) (h : o < 0 ∨ 3 < o) (w : World) :
    Calls Tryd.prog 15 #[.int .i64 o] w fun e w' => e = .returned (.agg #[.int .i64 3, .int .i64 0, .int .i64 0]) ∧ Below w.heap.size w w' := by
  have hs := fun W => isSide_c o W
  rw [inb_f (by omega)] at hs
  go_enter Tryd.func15, Tryd.ntmps15
  go_wp2_with (first | (go_at_call 33; refine (hs _).mono ?_; rintro e w1 ⟨rfl, rfl⟩))
  refine bodyPost_ret (v := .agg #[.int .i64 3, .int .i64 0, .int .i64 0]) (by simp [results, Tryd.results15, go_sem]) rfl ⟨rfl, ?_⟩
  exact (Below.refl _ _).alloc (Nat.le_refl _) _
theorem homeLaw (o c x y : Int) (w : World) (hL : HmAt w)
    (s : ∀ W, Calls Tryd.prog 14 #[.int .i64 o] W fun e w' => e = .returned (.agg #[.int .i64 c, .int .i64 x, .int .i64 y]) ∧ Below W.heap.size W w')
    (g : ∀ W, HmAt W → Calls Tryd.prog 15 #[.int .i64 o] W fun e w' => e = .returned (.agg #[.int .i64 c, .int .i64 x, .int .i64 y]) ∧ Below W.heap.size W w') :
    Calls Tryd.prog 4 #[.int .i64 o] w fun e w' => e = .returned (.bool true) ∧ Below w.heap.size w w' := by
  go_enter Tryd.func4, Tryd.ntmps4
  go_wp2_with (first | (go_at_call 14; refine (s _).mono ?_; rintro e w1 ⟨rfl, b1⟩))
  obtain ⟨W1, HW1⟩ : ∃ W1, Hid (W1 = w1.alloc (.cells #[.int .i64 c, .int .i64 x, .int .i64 y] 45)) := ⟨_, rfl⟩
  rw [← HW1.out]
  have B1 : Below w.heap.size w W1 := by rw [HW1.out]; exact b1.alloc b1.size _
  have r1 : W1.rowIs w1.heap.size 45 3 (fun i => (#[.int .i64 c, .int .i64 x, .int .i64 y] : Array Value)[i]!) := by rw [HW1.out]; exact rowAll w1 _ _
  refine (g _ (hL.later B1)).mono ?_
  rintro e w2 ⟨rfl, b2⟩
  have s1 := r1.lt
  have a0 := r1.cell (i := 0) (by omega)
  have a1 := r1.cell (i := 1) (by omega)
  have a2 := r1.cell (i := 2) (by omega)
  have B2 : Below w.heap.size w w2 := B1.trans (b2.mono B1.size)
  obtain ⟨W2, HW2⟩ : ∃ W2, Hid (W2 = w2.alloc (.cells #[.int .i64 c, .int .i64 x, .int .i64 y] 45)) := ⟨_, rfl⟩
  have B3 : Below w.heap.size w W2 := by rw [HW2.out]; exact B2.alloc B2.size _
  have r2 : W2.rowIs w2.heap.size 45 3 (fun i => (#[.int .i64 c, .int .i64 x, .int .i64 y] : Array Value)[i]!) := by rw [HW2.out]; exact rowAll w2 _ _
  have b3 : Below W1.heap.size W1 W2 := by rw [HW2.out]; exact b2.alloc b2.size _
  rw [← b3.cell (p := ⟨w1.heap.size, 0, none⟩) s1] at a0
  rw [← b3.cell (p := ⟨w1.heap.size, 1, none⟩) s1] at a1
  rw [← b3.cell (p := ⟨w1.heap.size, 2, none⟩) s1] at a2
  have d0 := r2.cell (i := 0) (by omega)
  have d1 := r2.cell (i := 1) (by omega)
  have d2 := r2.cell (i := 2) (by omega)
  go_upto_region 3 with fail
  rw [← HW2.out]
  go_wp2_with (first | (go_at_call 16; refine (eqTileResult_same c x y _).mono ?_; rintro e w3 ⟨rfl, rfl⟩))
  go_ret
  exact ⟨rfl, (B3.alloc B3.size _).alloc (by have := B3.size; simp only [size_new]; omega) _⟩
theorem walk_fnExactHomeOf (o : Int) (w : World) (hL : HmAt w) :
    Calls Tryd.prog 4 #[.int .i64 o] w fun e w' => e = .returned (.bool true) ∧ Below w.heap.size w w' := by
  by_cases h : 0 ≤ o ∧ o ≤ 3
  · exact homeLaw o 0 (hmX o) (hmY o) w hL (fun W => specHomeOf_c o h.1 h.2 W) (fun W hW => homeOf_i o h.1 h.2 W hW)
  · exact homeLaw o 3 0 0 w hL (fun W => specHomeOf_no o (by omega) W) (fun W _ => homeOf_no o (by omega) W)
end Go.Proofs.YtlonmobfjpmokaaDoor
