/- Texts of mine put together (a claim holds at most 60 files): WldDraws, WldDraws2, RegionInv. -/
import Derived.Test.YtmfdggaijbcijaaGreatPartQ10
import Derived.Test.YtmfdggaijbcijaaGreatPartQ11
import Derived.Deep.CutRange
import Derived.Test.YtmfdggaijbcijaaGreatRows
import Derived.WalkKit
import Derived.Below
import Derived.Orders

/- WldDraws -/
/- A world that is being drawn: its blocks and lists, and what a draw, a store and one more behind a list leave. No condition. -/
section
namespace Go.Proofs.YtmfdggaijbcijaaGreat
open Go.ChangeShapes Go.WideShapes Go.ChangeAt Go.RowKit
set_option linter.unusedVariables false

abbrev zW : Array Value := #[.int .i64 0, .int .i64 0, .slice none 0 0, .slice none 0 0, .slice none 0 0, .slice none 0 0, .slice none 0 0]
abbrev wV (t s : Int) (vu vf : Value) (fb : Nat) (vs vo : Value) : Array Value := #[.int .i64 t, .int .i64 s, vu, vf, .slice (some ⟨fb, 0, none⟩) 4 4, vs, vo]
theorem bk_ne {w : World} {b b' : Nat} {c c' : Array Value} {t t' : TypeId} (h : Blk w b c t) (h' : Blk w b' c' t') (ht : t ≠ t') : b ≠ b' := by
  intro e
  subst e
  unfold Blk at h h'
  rw [h] at h'
  simp at h'
  exact ht h'.2
theorem flatA_set0 : ∀ (l : List KA) (k : Nat) (u : KA) (x : Int), l[k]? = some u → (flatA l).set (k * 3) (.int .i64 x) = flatA (l.set k ⟨x, u.c1, u.c2⟩)
  | [], k, u, x, h => by simp at h
  | y :: l, 0, u, x, h => by
    have e : y = u := by simpa using h
    subst e
    rfl
  | y :: l, k + 1, u, x, h => by
    show (y.v.toList ++ flatA l).set ((k + 1) * 3) _ = y.v.toList ++ flatA (l.set k ⟨x, u.c1, u.c2⟩)
    have e : (y.v.toList).length = 3 := rfl
    rw [List.set_append_right _ _ (by rw [e]; omega), e, show (k + 1) * 3 - 3 = k * 3 from by omega, flatA_set0 l k u x (by simpa using h)]
theorem flatA_set1 : ∀ (l : List KA) (k : Nat) (u : KA) (x : Bool), l[k]? = some u → (flatA l).set (k * 3 + 1) (.bool x) = flatA (l.set k ⟨u.c0, x, u.c2⟩)
  | [], k, u, x, h => by simp at h
  | y :: l, 0, u, x, h => by
    have e : y = u := by simpa using h
    subst e
    rfl
  | y :: l, k + 1, u, x, h => by
    show (y.v.toList ++ flatA l).set ((k + 1) * 3 + 1) _ = y.v.toList ++ flatA (l.set k ⟨u.c0, x, u.c2⟩)
    have e : (y.v.toList).length = 3 := rfl
    rw [List.set_append_right _ _ (by rw [e]; omega), e, show (k + 1) * 3 + 1 - 3 = k * 3 + 1 from by omega, flatA_set1 l k u x (by simpa using h)]
theorem flatA_set2 : ∀ (l : List KA) (k : Nat) (u : KA) (x : Int), l[k]? = some u → (flatA l).set (k * 3 + 2) (.int .i64 x) = flatA (l.set k ⟨u.c0, u.c1, x⟩)
  | [], k, u, x, h => by simp at h
  | y :: l, 0, u, x, h => by
    have e : y = u := by simpa using h
    subst e
    rfl
  | y :: l, k + 1, u, x, h => by
    show (y.v.toList ++ flatA l).set ((k + 1) * 3 + 2) _ = y.v.toList ++ flatA (l.set k ⟨u.c0, u.c1, x⟩)
    have e : (y.v.toList).length = 3 := rfl
    rw [List.set_append_right _ _ (by rw [e]; omega), e, show (k + 1) * 3 + 2 - 3 = k * 3 + 2 from by omega, flatA_set2 l k u x (by simpa using h)]
/- four factions, none with an Allies below 0 -/
structure Fac4 (fa : List KA) : Prop where
  l : fa.length = 4
  p : ∀ x ∈ fa, 0 ≤ x.c2 ∧ x.c2 < 32
theorem Fac4.at {fa : List KA} (h : Fac4 fa) {k : Nat} (hk : k < 4) : ∃ u, fa[k]? = some u ∧ 0 ≤ u.c2 ∧ u.c2 < 32 := by
  have e : fa[k]? = some (fa[k]'(by rw [h.l]; exact hk)) := List.getElem?_eq_getElem _
  exact ⟨_, e, h.p _ (List.mem_of_getElem? e)⟩
theorem Fac4.set {fa : List KA} (h : Fac4 fa) (k : Nat) {u : KA} (hu : 0 ≤ u.c2 ∧ u.c2 < 32) : Fac4 (fa.set k u) :=
  ⟨by rw [List.length_set]; exact h.l, fun x hx => by rcases List.mem_or_eq_of_mem_set hx with hx | rfl; exact h.p x hx; exact hu⟩
theorem Fac4.z : Fac4 [KA.z, KA.z, KA.z, KA.z] := ⟨rfl, fun x hx => by simp at hx; subst hx; exact ⟨Int.le_refl _, by show (0 : Int) < 32; omega⟩⟩
structure WD (w0 w W : World) (a : Option Addr) (len cap : Nat) (n : Int) (rb wb fb : Nat) (t s : Int) (vu vf vs vo : Value) (us : List K10) (fs : List K3) (fa : List KA) (se : List K4) (oo : List K2) : Prop where
  R : Blk W rb zW 32
  B : Blk W wb (wV t s vu vf fb vs vo) 32
  A : Blk W fb (flatA fa).toArray 64
  f4 : Fac4 fa
  U : SlU W w.heap.size vu us
  F : SlF W w.heap.size vf fs
  S : SlS W w.heap.size vs se
  O : SlO W w.heap.size vo oo
  ne : rb ≠ wb
  br : w.heap.size ≤ rb
  bw : w.heap.size ≤ wb
  bf : w.heap.size ≤ fb
  d : Dn w0 w W a len cap n
theorem WD.grow {w0 w W W' : World} {a : Option Addr} {len cap : Nat} {n n' : Int} {rb wb fb : Nat} {t s : Int} {vu vf vs vo : Value} {us : List K10} {fs : List K3} {fa : List KA} {se : List K4} {oo : List K2} (h : WD w0 w W a len cap n rb wb fb t s vu vf vs vo us fs fa se oo) (g : W.grownBy W' (some w0.heap.size)) (d : Dn w0 w W' a len cap n') : WD w0 w W' a len cap n' rb wb fb t s vu vf vs vo us fs fa se oo := by
  have hl := h.d.lt
  have ne : ∀ b, w.heap.size ≤ b → some b ≠ some w0.heap.size := fun b hb e => by have := Option.some.inj e; omega
  exact ⟨h.R.grown g (ne _ h.br), h.B.grown g (ne _ h.bw), h.A.grown g (ne _ h.bf), h.f4, h.U.drawn g hl, h.F.drawn g hl, h.S.drawn g hl, h.O.drawn g hl, h.ne, h.br, h.bw, h.bf, d⟩
theorem WD.alloc {w0 w W : World} {a : Option Addr} {len cap : Nat} {n : Int} {rb wb fb : Nat} {t s : Int} {vu vf vs vo : Value} {us : List K10} {fs : List K3} {fa : List KA} {se : List K4} {oo : List K2} (h : WD w0 w W a len cap n rb wb fb t s vu vf vs vo us fs fa se oo) (o : Obj) : WD w0 w (W.alloc o) a len cap n rb wb fb t s vu vf vs vo us fs fa se oo :=
  ⟨h.R.alloc o, h.B.alloc o, h.A.alloc o, h.f4, h.U.alloc o, h.F.alloc o, h.S.alloc o, h.O.alloc o, h.ne, h.br, h.bw, h.bf, h.d.alloc o⟩
theorem WD.drew {w0 w W : World} {a : Option Addr} {len cap : Nat} {n : Int} {rb wb fb : Nat} {t s : Int} {vu vf vs vo : Value} {us : List K10} {fs : List K3} {fa : List KA} {se : List K4} {oo : List K2} (h : WD w0 w W a len cap n rb wb fb t s vu vf vs vo us fs fa se oo) : WD w0 w W.drew a len cap n rb wb fb t s vu vf vs vo us fs fa se oo :=
  ⟨h.R.drew, h.B.drew, h.A.drew, h.f4, h.U, h.F, h.S, h.O, h.ne, h.br, h.bw, h.bf, h.d.drew⟩
theorem WD.mono {w0 w W : World} {a : Option Addr} {len cap : Nat} {n n' : Int} {rb wb fb : Nat} {t s : Int} {vu vf vs vo : Value} {us : List K10} {fs : List K3} {fa : List KA} {se : List K4} {oo : List K2} (h : WD w0 w W a len cap n rb wb fb t s vu vf vs vo us fs fa se oo) (hn : n ≤ n') : WD w0 w W a len cap n' rb wb fb t s vu vf vs vo us fs fa se oo :=
  ⟨h.R, h.B, h.A, h.f4, h.U, h.F, h.S, h.O, h.ne, h.br, h.bw, h.bf, h.d.mono hn⟩
/- a store into the world's own block -/
theorem WD.setW {w0 w W : World} {a : Option Addr} {len cap : Nat} {n : Int} {rb wb fb : Nat} {t s t' s' : Int} {vu vf vs vo vu' vf' vs' vo' : Value} {us us' : List K10} {fs fs' : List K3} {fa : List KA} {se se' : List K4} {oo oo' : List K2} (h : WD w0 w W a len cap n rb wb fb t s vu vf vs vo us fs fa se oo) (i : Nat) (v : Value)
    (hc : (wV t s vu vf fb vs vo).setIfInBounds i v = wV t' s' vu' vf' fb vs' vo') (U : SlU W w.heap.size vu' us') (F : SlF W w.heap.size vf' fs') (S : SlS W w.heap.size vs' se') (O : SlO W w.heap.size vo' oo') : WD w0 w (W.setCell ⟨wb, i, none⟩ v) a len cap n rb wb fb t' s' vu' vf' vs' vo' us' fs' fa se' oo' := by
  have B' := h.B.set i v
  rw [hc] at B'
  exact ⟨h.R.setOther (a := ⟨wb, i, none⟩) h.ne v, B', h.A.setOther (a := ⟨wb, i, none⟩) (bk_ne h.A h.B (by decide)) v, h.f4, U.setB h.B (by decide) v, F.setB h.B (by decide) v, S.setB h.B (by decide) v, O.setB h.B (by decide) v, h.ne, h.br, h.bw, h.bf, h.d.set (p := ⟨wb, i, none⟩) h.bw v⟩
/- a store into a faction -/
theorem WD.setA {w0 w W : World} {a : Option Addr} {len cap : Nat} {n : Int} {rb wb fb : Nat} {t s : Int} {vu vf vs vo : Value} {us : List K10} {fs : List K3} {fa fa' : List KA} {se : List K4} {oo : List K2} (h : WD w0 w W a len cap n rb wb fb t s vu vf vs vo us fs fa se oo) (i : Nat) (v : Value)
    (hc : (flatA fa).set i v = flatA fa') (f4 : Fac4 fa') : WD w0 w (W.setCell ⟨fb, i, none⟩ v) a len cap n rb wb fb t s vu vf vs vo us fs fa' se oo := by
  have A' := h.A.set i v
  rw [show (flatA fa).toArray.setIfInBounds i v = ((flatA fa).set i v).toArray from by simp, hc] at A'
  exact ⟨h.R.setOther (a := ⟨fb, i, none⟩) (bk_ne h.R h.A (by decide)) v, h.B.setOther (a := ⟨fb, i, none⟩) (bk_ne h.B h.A (by decide)) v, A', f4, h.U.setB h.A (by decide) v, h.F.setB h.A (by decide) v, h.S.setB h.A (by decide) v, h.O.setB h.A (by decide) v, h.ne, h.br, h.bw, h.bf, h.d.set (p := ⟨fb, i, none⟩) h.bf v⟩
/- a faction's cells -/
theorem WD.fac {w0 w W : World} {a : Option Addr} {len cap : Nat} {n : Int} {rb wb fb : Nat} {t s : Int} {vu vf vs vo : Value} {us : List K10} {fs : List K3} {fa : List KA} {se : List K4} {oo : List K2} (h : WD w0 w W a len cap n rb wb fb t s vu vf vs vo us fs fa se oo) {k : Nat} {u : KA} (hu : fa[k]? = some u) :
    W.cell? ⟨fb, k * 3, none⟩ = some (.int .i64 u.c0) ∧ W.cell? ⟨fb, k * 3 + 1, none⟩ = some (.bool u.c1) ∧ W.cell? ⟨fb, k * 3 + 2, none⟩ = some (.int .i64 u.c2) := by
  have g := fun f hf => flatA_get fa k u f hu hf
  exact ⟨h.A.cell (by simpa [KA.f] using g 0 (by omega)), h.A.cell (by simpa [KA.f] using g 1 (by omega)), h.A.cell (by simpa [KA.f] using g 2 (by omega))⟩
/- one more offer, one more seat -/
theorem WD.pushO {w0 w W W' : World} {a : Option Addr} {len cap : Nat} {n : Int} {rb wb fb : Nat} {t s : Int} {vu vf vs vo vo' : Value} {us : List K10} {fs : List K3} {fa : List KA} {se : List K4} {oo oo' : List K2} (h : WD w0 w W a len cap n rb wb fb t s vu vf vs vo us fs fa se oo) (g : W.grownBy W' vo.ownBlock) (O : SlO W' w.heap.size vo' oo') :
    Blk W' rb zW 32 ∧ Blk W' wb (wV t s vu vf fb vs vo) 32 ∧ Blk W' fb (flatA fa).toArray 64 ∧ SlU W' w.heap.size vu us ∧ SlF W' w.heap.size vf fs ∧ SlS W' w.heap.size vs se ∧ Dn w0 w W' a len cap n := by
  have hd := h.d.push g (fun q hq => (h.O.lt q hq).1)
  have nb : ∀ {b cs t}, Blk W b cs t → 49 ≠ t → some b ≠ vo.ownBlock := fun hb ht => h.O.ne hb ht
  refine ⟨h.R.grown g (nb h.R (by decide)), h.B.grown g (nb h.B (by decide)), h.A.grown g (nb h.A (by decide)), ?_, ?_, ?_, hd⟩
  · exact h.U.of_block (fun b hb => by
      rcases h.U.2 with ⟨h1, _⟩ | ⟨q, c, cur, hv, _, hq, _⟩
      · rw [h1] at hb; cases hb
      · rw [hv] at hb
        have e : q = b := Option.some.inj hb
        subst e
        exact g.block _ (Array.getElem?_eq_some_iff.1 hq).1 (nb (cs := cur) hq (by decide)))
  · exact h.F.of_block (fun b hb => by
      rcases h.F.2 with ⟨h1, _⟩ | ⟨q, c, cur, hv, _, hq, _⟩
      · rw [h1] at hb; cases hb
      · rw [hv] at hb
        have e : q = b := Option.some.inj hb
        subst e
        exact g.block _ (Array.getElem?_eq_some_iff.1 hq).1 (nb (cs := cur) hq (by decide)))
  · exact h.S.of_block (fun b hb => by
      obtain ⟨cs, hk⟩ := h.S.blk hb
      exact g.block _ hk.lt (nb hk (by decide)))
theorem WD.pushS {w0 w W W' : World} {a : Option Addr} {len cap : Nat} {n : Int} {rb wb fb : Nat} {t s : Int} {vu vf vs vo vs' : Value} {us : List K10} {fs : List K3} {fa : List KA} {se se' : List K4} {oo : List K2} (h : WD w0 w W a len cap n rb wb fb t s vu vf vs vo us fs fa se oo) (g : W.grownBy W' vs.ownBlock) (S : SlS W' w.heap.size vs' se') :
    Blk W' rb zW 32 ∧ Blk W' wb (wV t s vu vf fb vs vo) 32 ∧ Blk W' fb (flatA fa).toArray 64 ∧ SlU W' w.heap.size vu us ∧ SlF W' w.heap.size vf fs ∧ SlO W' w.heap.size vo oo ∧ Dn w0 w W' a len cap n := by
  have hd := h.d.push g (fun q hq => (h.S.lt q hq).1)
  have nb : ∀ {b cs t}, Blk W b cs t → 88 ≠ t → some b ≠ vs.ownBlock := fun hb ht => h.S.ne hb ht
  refine ⟨h.R.grown g (nb h.R (by decide)), h.B.grown g (nb h.B (by decide)), h.A.grown g (nb h.A (by decide)), ?_, ?_, ?_, hd⟩
  · exact h.U.of_block (fun b hb => by
      rcases h.U.2 with ⟨h1, _⟩ | ⟨q, c, cur, hv, _, hq, _⟩
      · rw [h1] at hb; cases hb
      · rw [hv] at hb
        have e : q = b := Option.some.inj hb
        subst e
        exact g.block _ (Array.getElem?_eq_some_iff.1 hq).1 (nb (cs := cur) hq (by decide)))
  · exact h.F.of_block (fun b hb => by
      rcases h.F.2 with ⟨h1, _⟩ | ⟨q, c, cur, hv, _, hq, _⟩
      · rw [h1] at hb; cases hb
      · rw [hv] at hb
        have e : q = b := Option.some.inj hb
        subst e
        exact g.block _ (Array.getElem?_eq_some_iff.1 hq).1 (nb (cs := cur) hq (by decide)))
  · exact h.O.of_block (fun b hb => by
      obtain ⟨cs, hk⟩ := h.O.blk hb
      exact g.block _ hk.lt (nb hk (by decide)))
end Go.Proofs.YtmfdggaijbcijaaGreat
end

/- WldDraws2 -/
/- Contracts of the draws of worlds: a new world, two who are made allies. No condition. -/
section
namespace Go.Proofs.YtmfdggaijbcijaaGreat
open Go.ChangeShapes Go.WideShapes Go.ChangeAt Go.RowKit
set_option linter.unusedVariables false

abbrev F12 : Array Value := #[.int .i64 0, .bool false, .int .i64 0, .int .i64 0, .bool false, .int .i64 0, .int .i64 0, .bool false, .int .i64 0, .int .i64 0, .bool false, .int .i64 0]
theorem made12' : madeCells KA.z.v 12 = F12 := by kernel_rfl
theorem mk4' (W : World) : (Instr.makeSlice 28 (.int .i64 4) (.int .i64 4)).run Tryz.prog W = .ok (.slice (some ⟨W.heap.size, 0, none⟩) 4 4) (W.alloc (.cells F12 64)) := by
  have h := makeA 4 (by omega) W
  rw [show 4 * 3 = 12 from rfl, made12'] at h
  exact h
abbrev w7' (g : Nat) : Array Value := wV 0 0 (.slice none 0 0) (.slice none 0 0) g (.slice none 0 0) (.slice none 0 0)
set_option maxRecDepth 20000 in
set_option maxHeartbeats 1000000 in
theorem l6New_w (w : World) : Calls Tryz.prog 102 #[] w fun e w' => ∃ g, e = .returned (.agg (w7' g)) ∧ Blk w' g (flatA [KA.z, KA.z, KA.z, KA.z]).toArray 64 ∧ w.heap.size ≤ g ∧ Below w.heap.size w w' := by
  have hmk := fun W => mk4' W
  have R : Blk ((w.alloc (.cells (w7' (w.heap.size + 1)) 32)).alloc (.cells F12 64)) w.heap.size (w7' (w.heap.size + 1)) 32 := (Blk.new w _ _).alloc _
  have FB : Blk ((w.alloc (.cells (w7' (w.heap.size + 1)) 32)).alloc (.cells F12 64)) (w.heap.size + 1) F12 64 := by have h := Blk.new (w.alloc (.cells (w7' (w.heap.size + 1)) 32)) F12 64; rw [size_new] at h; exact h
  have B : Below w.heap.size w ((w.alloc (.cells (w7' (w.heap.size + 1)) 32)).alloc (.cells F12 64)) := ((Below.refl _ _).alloc (Nat.le_refl _) _).alloc (by rw [size_new]; omega) _
  go_enter Tryz.func102, Tryz.ntmps102
  go_wp2
  have c0 : World.cell? _ ⟨w.heap.size, 0, none⟩ = some (.int .i64 0) := R.cell (i := 0) rfl
  have c1 : World.cell? _ ⟨w.heap.size, 1, none⟩ = some (.int .i64 0) := R.cell (i := 1) rfl
  have c2 : World.cell? _ ⟨w.heap.size, 2, none⟩ = some (.slice none 0 0) := R.cell (i := 2) rfl
  have c3 : World.cell? _ ⟨w.heap.size, 3, none⟩ = some (.slice none 0 0) := R.cell (i := 3) rfl
  have c4 : World.cell? _ ⟨w.heap.size, 4, none⟩ = some (.slice (some ⟨w.heap.size + 1, 0, none⟩) 4 4) := R.cell (i := 4) rfl
  have c5 : World.cell? _ ⟨w.heap.size, 5, none⟩ = some (.slice none 0 0) := R.cell (i := 5) rfl
  have c6 : World.cell? _ ⟨w.heap.size, 6, none⟩ = some (.slice none 0 0) := R.cell (i := 6) rfl
  refine bodyPost_ret (v := .agg (w7' (w.heap.size + 1))) ?_ rfl ⟨w.heap.size + 1, rfl, FB, by omega, B⟩
  simp [results, Tryz.results102, go_sem, c0, c1, c2, c3, c4, c5, c6]
  done
theorem or_fin : ∀ k : Fin 32, (0 ≤ bits BinOp.or IntKind.i64 (k.val : Int) 1 ∧ bits BinOp.or IntKind.i64 (k.val : Int) 1 < 32) ∧ (0 ≤ bits BinOp.or IntKind.i64 (k.val : Int) 2 ∧ bits BinOp.or IntKind.i64 (k.val : Int) 2 < 32) ∧ (0 ≤ bits BinOp.or IntKind.i64 (k.val : Int) 4 ∧ bits BinOp.or IntKind.i64 (k.val : Int) 4 < 32) := by decide +kernel
theorem or_bd {x : Int} (h0 : 0 ≤ x) (h1 : x < 32) : (0 ≤ bits BinOp.or IntKind.i64 x 1 ∧ bits BinOp.or IntKind.i64 x 1 < 32) ∧ (0 ≤ bits BinOp.or IntKind.i64 x 2 ∧ bits BinOp.or IntKind.i64 x 2 < 32) ∧ (0 ≤ bits BinOp.or IntKind.i64 x 4 ∧ bits BinOp.or IntKind.i64 x 4 < 32) := by
  obtain ⟨k, rfl⟩ : ∃ k : Nat, x = k := ⟨x.toNat, by omega⟩
  exact or_fin ⟨k, by omega⟩
set_option maxRecDepth 20000 in
set_option maxHeartbeats 8000000 in
theorem l6Ally_c {w0 w W : World} {a : Option Addr} {len cap : Nat} {n : Int} {rb wb fb : Nat} {t s : Int} {vu vf vs vo : Value} {us : List K10} {fs : List K3} {fa : List KA} {se : List K4} {oo : List K2} (h : WD w0 w W a len cap n rb wb fb t s vu vf vs vo us fs fa se oo) (k : Nat) (hk : k = 1 ∨ k = 2) :
    Calls Tryz.prog 104 #[.pointer (some ⟨wb, 0, none⟩), .int .i64 0, .int .i64 (k : Int)] W fun e w' => e = .returned (.tuple #[]) ∧ ∃ fa', WD w0 w w' a len cap n rb wb fb t s vu vf vs vo us fs fa' se oo := by
  obtain ⟨x, hx', x0, x1⟩ := h.f4.at (k := 0) (by omega)
  obtain ⟨y, hy', y0, y1⟩ := h.f4.at (k := k) (by omega)
  obtain ⟨_, _, a2'⟩ := h.fac hx'
  obtain ⟨_, _, b2⟩ := h.fac hy'
  have a2 : W.cell? ⟨fb, 2, none⟩ = some (.int .i64 x.c2) := by simpa using a2'
  have p4 : W.cell? ⟨wb, 4, none⟩ = some (.slice (some ⟨fb, 0, none⟩) 4 4) := h.B.cell (i := 4) rfl
  have pl := h.B.lt
  have fl := h.A.lt
  have z2 : W.frozen? ⟨fb, 2, none⟩ = false := h.A.frozen _
  have zk := h.A.frozen (k * 3 + 2)
  have H : Hid (WD w0 w W a len cap n rb wb fb t s vu vf vs vo us fs fa se oo) := h
  have hx : Hid (fa[0]? = some x) := hx'
  have hy : Hid (fa[k]? = some y) := hy'
  clear h hx' hy' a2'
  rcases hk with rfl | rfl
  · go_enter Tryz.func104, Tryz.ntmps104
    go_wp2_with fail
    go_region
    all_goals
      have D1 := H.out.setA (0 * 3 + 2) (.int .i64 (bits BinOp.or IntKind.i64 x.c2 2)) (flatA_set2 fa 0 x _ hx.out) (H.out.f4.set 0 (u := ⟨x.c0, x.c1, bits BinOp.or IntKind.i64 x.c2 2⟩) (or_bd x0 x1).2.1)
      obtain ⟨W1, HW1⟩ : ∃ W1, Hid (W1 = (W.setCell ⟨fb, 2, none⟩ (.int .i64 (bits BinOp.or IntKind.i64 x.c2 2))).drew) := ⟨_, rfl⟩
      have D2 : WD w0 w W1 a len cap n rb wb fb t s vu vf vs vo us fs (fa.set 0 ⟨x.c0, x.c1, bits BinOp.or IntKind.i64 x.c2 2⟩) se oo := by rw [HW1.out]; exact D1.drew
      clear a2 b2 p4 pl fl z2 zk D1
      rw [← HW1.out]
      have hy2 : (fa.set 0 ⟨x.c0, x.c1, bits BinOp.or IntKind.i64 x.c2 2⟩)[1]? = some y := by rw [List.getElem?_set, if_neg (by omega)]; exact hy.out
      obtain ⟨_, _, b2⟩ := D2.fac hy2
      have b2' : W1.cell? ⟨fb, 5, none⟩ = some (.int .i64 y.c2) := b2
      have p4 : W1.cell? ⟨wb, 4, none⟩ = some (.slice (some ⟨fb, 0, none⟩) 4 4) := D2.B.cell (i := 4) rfl
      have pl := D2.B.lt
      have fl := D2.A.lt
      have zk : W1.frozen? ⟨fb, 5, none⟩ = false := D2.A.frozen _
      have HD2 : Hid (WD w0 w W1 a len cap n rb wb fb t s vu vf vs vo us fs (fa.set 0 ⟨x.c0, x.c1, bits BinOp.or IntKind.i64 x.c2 2⟩) se oo) := D2
      have Hy2 : Hid _ := hy2
      clear b2 hy2 D2
      go_wp2_with fail
      go_region
      all_goals
        have D3 := (HD2.out.setA (1 * 3 + 2) (.int .i64 (bits BinOp.or IntKind.i64 y.c2 1)) (flatA_set2 _ 1 y _ Hy2.out) (HD2.out.f4.set 1 (u := ⟨y.c0, y.c1, bits BinOp.or IntKind.i64 y.c2 1⟩) (or_bd y0 y1).1)).drew
        go_wp2_with fail
        go_end0
        exact ⟨rfl, _, D3⟩
  · go_enter Tryz.func104, Tryz.ntmps104
    go_wp2_with fail
    go_region
    all_goals
      have D1 := H.out.setA (0 * 3 + 2) (.int .i64 (bits BinOp.or IntKind.i64 x.c2 4)) (flatA_set2 fa 0 x _ hx.out) (H.out.f4.set 0 (u := ⟨x.c0, x.c1, bits BinOp.or IntKind.i64 x.c2 4⟩) (or_bd x0 x1).2.2)
      obtain ⟨W1, HW1⟩ : ∃ W1, Hid (W1 = (W.setCell ⟨fb, 2, none⟩ (.int .i64 (bits BinOp.or IntKind.i64 x.c2 4))).drew) := ⟨_, rfl⟩
      have D2 : WD w0 w W1 a len cap n rb wb fb t s vu vf vs vo us fs (fa.set 0 ⟨x.c0, x.c1, bits BinOp.or IntKind.i64 x.c2 4⟩) se oo := by rw [HW1.out]; exact D1.drew
      clear a2 b2 p4 pl fl z2 zk D1
      rw [← HW1.out]
      have hy2 : (fa.set 0 ⟨x.c0, x.c1, bits BinOp.or IntKind.i64 x.c2 4⟩)[2]? = some y := by rw [List.getElem?_set, if_neg (by omega)]; exact hy.out
      obtain ⟨_, _, b2⟩ := D2.fac hy2
      have b2' : W1.cell? ⟨fb, 8, none⟩ = some (.int .i64 y.c2) := b2
      have p4 : W1.cell? ⟨wb, 4, none⟩ = some (.slice (some ⟨fb, 0, none⟩) 4 4) := D2.B.cell (i := 4) rfl
      have pl := D2.B.lt
      have fl := D2.A.lt
      have zk : W1.frozen? ⟨fb, 8, none⟩ = false := D2.A.frozen _
      have HD2 : Hid (WD w0 w W1 a len cap n rb wb fb t s vu vf vs vo us fs (fa.set 0 ⟨x.c0, x.c1, bits BinOp.or IntKind.i64 x.c2 4⟩) se oo) := D2
      have Hy2 : Hid _ := hy2
      clear b2 hy2 D2
      go_wp2_with fail
      go_region
      all_goals
        have D3 := (HD2.out.setA (2 * 3 + 2) (.int .i64 (bits BinOp.or IntKind.i64 y.c2 1)) (flatA_set2 _ 2 y _ Hy2.out) (HD2.out.f4.set 2 (u := ⟨y.c0, y.c1, bits BinOp.or IntKind.i64 y.c2 1⟩) (or_bd y0 y1).1)).drew
        go_wp2_with fail
        go_end0
        exact ⟨rfl, _, D3⟩
end Go.Proofs.YtmfdggaijbcijaaGreat
end

/- RegionInv -/
/- A region that draws its order, by an invariant: what holds of the slots that are done and of the world, whatever the order was. No condition. -/
section
namespace Go.Proofs.YtmfdggaijbcijaaGreat
open Go.RowKit
set_option linter.unusedVariables false

/- how many operations are still to be done -/
def todo (l : Array Bool) : Nat := l.toList.count false
theorem todo_set {l : Array Bool} {i : Nat} (hi : l[i]? = some false) : todo (l.setIfInBounds i true) + 1 = todo l := by
  obtain ⟨l⟩ := l
  unfold todo
  simp only [List.setIfInBounds_toArray]
  have h : l[i]? = some false := by simpa using hi
  clear hi
  induction l generalizing i with
  | nil => simp at h
  | cons x l ih =>
    cases i with
    | zero =>
      have e : x = false := by simpa using h
      subst e
      simp
    | succ i =>
      have := ih (i := i) (by simpa using h)
      simp only [List.set_cons_succ, List.count_cons] at *
      omega
theorem ready_false {md : Region.Mode} {ops : Array Oper} {l : Array Bool} {i : Nat} (h : i ∈ Region.ready md ops l) : l[i]? = some false := by
  unfold Region.ready at h
  have h2 := (List.mem_filter.1 h).2
  simp only [Bool.and_eq_true, Bool.not_eq_true'] at h2
  have h3 := h2.1
  rw [Array.getD_eq_getD_getElem?] at h3
  cases hl : l[i]? with
  | none => rw [hl] at h3; simp at h3
  | some b => rw [hl] at h3; simp at h3; rw [h3]
theorem ready_none {md : Region.Mode} {ops : Array Oper} {l : Array Bool} (h : todo l = 0) : Region.ready md ops l = [] := by
  rw [List.eq_nil_iff_forall_not_mem]
  intro i hi
  have := todo_set (ready_false hi)
  omega
theorem wpAny_inv {P : Program} {ops : Array Oper} {Q : Exit → Act → World → Prop} {md : Region.Mode} (I : Array Bool → Act → World → Prop)
    (step : ∀ l a w i, I l a w → i ∈ Region.ready md ops l → wpOp P ops Q i (fun a' w' => I (l.setIfInBounds i true) a' w') a w)
    (fin : ∀ l a w, I l a w → Region.ready md ops l = [] → Q .normal a w) : ∀ (fuel : Nat) (l : Array Bool) (a : Act) (w : World), todo l ≤ fuel → I l a w → wpAny P md ops Q fuel l a w := by
  intro fuel
  induction fuel with
  | zero =>
    intro l a w hf h
    have hr := ready_none (md := md) (ops := ops) (l := l) (by omega)
    exact ⟨hr, fin l a w h hr⟩
  | succ fuel ih =>
    intro l a w hf h
    refine ⟨fun hr => fin l a w h hr, fun i hi => ?_⟩
    refine wpOp_mono (fun a' w' h' => ih _ a' w' ?_ h') (step l a w i h hi)
    have := todo_set (ready_false hi)
    omega
theorem todo_new (n : Nat) : todo (Array.replicate n false) ≤ n := by
  unfold todo
  simp
/- the law: a region whose operations keep an invariant in whatever order -/
theorem wp_region_inv {P : Program} {id : Nat} {ops : Array Oper} {Q : Exit → Act → World → Prop} {a : Act} {w : World} (hm : P.follows .mixedOrders = true) (I : Array Bool → Act → World → Prop)
    (start : I (Array.replicate ops.size false) a w.drew)
    (step : ∀ l a w i, I l a w → i ∈ Region.ready .any ops l → wpOp P ops Q i (fun a' w' => I (l.setIfInBounds i true) a' w') a w)
    (fin : ∀ l a w, I l a w → Region.ready .any ops l = [] → Q .normal a w) : (Code.region id ops true).wp P Q a w :=
  wp_region_any hm (wpAny_inv I step fin _ _ _ _ (todo_new _) start)
end Go.Proofs.YtmfdggaijbcijaaGreat
end
