/- Texts of mine put together (a claim holds at most 60 files): WRes, WsImpl, WsImpl2. -/
import Derived.Test.YtgfdfpaimlcgaaaPartS22
import Derived.Test.YtgfdfpaimlcgaaaPartS20
import Derived.Test.YtgfdfpaimlcgaaaPartS17
import Derived.Deep.RegionHeld3

/- WRes -/
/- Worlds of a call's own: what an answer's block holds, and what a store into a block of another type leaves. No condition. -/
section
namespace Go.Proofs.Ytgfdfpaimlcgaaa
open Go.ChangeShapes Go.WideShapes Go.ChangeAt Go.RowKit
set_option linter.unusedVariables false

abbrev r8 (c : Int) (p : WP) (x : KW) : Array Value := #[.int .i64 c, .int .i64 x.t, .int .i64 x.s, .slice p.u x.us.length p.uc, .slice p.f x.fs.length p.fc, .slice p.a x.fa.length p.ac, .slice p.s x.se.length p.sc, .slice p.o x.oo.length p.oc]
def wpz : WP := ⟨none, 0, none, 0, none, 0, none, 0, none, 0⟩
abbrev set8 (W : World) (g : Nat) (v0 v1 v2 v3 v4 v5 v6 v7 : Value) : World := (((((((W.setCell ⟨g, 0, none⟩ v0).setCell ⟨g, 1, none⟩ v1).setCell ⟨g, 2, none⟩ v2).setCell ⟨g, 3, none⟩ v3).setCell ⟨g, 4, none⟩ v4).setCell ⟨g, 5, none⟩ v5).setCell ⟨g, 6, none⟩ v6).setCell ⟨g, 7, none⟩ v7
/- five lists of a call's own -/
structure OwW (w : World) (base : Nat) (p : WP) (x : KW) : Prop where
  u : SlU w base (.slice p.u x.us.length p.uc) x.us
  f : SlF w base (.slice p.f x.fs.length p.fc) x.fs
  a : SlA w base (.slice p.a x.fa.length p.ac) x.fa
  s : SlS w base (.slice p.s x.se.length p.sc) x.se
  o : SlO w base (.slice p.o x.oo.length p.oc) x.oo
theorem OwW.z (w : World) (base : Nat) : OwW w base wpz kz := ⟨⟨rfl, .inl ⟨rfl, rfl⟩⟩, ⟨rfl, .inl ⟨rfl, rfl⟩⟩, ⟨rfl, .inl ⟨rfl, rfl⟩⟩, ⟨rfl, .inl ⟨rfl, rfl⟩⟩, ⟨rfl, .inl ⟨rfl, rfl⟩⟩⟩
theorem OwW.in {w : World} {base : Nat} {p : WP} {x : KW} (h : OwW w base p x) : InW w p x := by
  obtain ⟨pu, cu, e1, U⟩ := h.u.in
  obtain ⟨pf, cf, e2, F⟩ := h.f.in
  obtain ⟨pa, ca, e3, a1, a2, A⟩ := h.a.in
  obtain ⟨ps, cs, e4, s1, s2, S⟩ := h.s.in
  obtain ⟨po, co, e5, o1, o2, O⟩ := h.o.in
  injection e1 with u1 u2 u3
  injection e2 with f1 f2 f3
  injection e3 with b1 b2 b3
  injection e4 with t1 t2 t3
  injection e5 with q1 q2 q3
  exact ⟨by rw [u1, u3]; exact U, by rw [f1, f3]; exact F, by rw [b1, b3]; exact A, by rw [t1, t3]; exact S, by rw [q1, q3]; exact O, by rw [q3]; exact o1, by rw [q3]; exact o2⟩
theorem OwW.later {w w' : World} {base : Nat} {p : WP} {x : KW} (h : OwW w base p x) (hb : Below w.heap.size w w') : OwW w' base p x := ⟨h.u.below hb, h.f.below hb, h.a.below hb, h.s.below hb, h.o.below hb⟩
theorem OwW.mono {w : World} {base base' : Nat} {p : WP} {x : KW} (h : OwW w base p x) (hb : base' ≤ base) : OwW w base' p x := ⟨h.u.mono hb, h.f.mono hb, h.a.mono hb, h.s.mono hb, h.o.mono hb⟩
theorem OwW.setB {w : World} {base b : Nat} {p : WP} {x : KW} (h : OwW w base p x) {cs : Array Value} {t : TypeId} (hb : Blk w b cs t) (h1 : 100 ≠ t) (h2 : 105 ≠ t) (h3 : 63 ≠ t) (h4 : 47 ≠ t) (h5 : 87 ≠ t) (o : Nat) (v : Value) : OwW (w.setCell ⟨b, o, none⟩ v) base p x :=
  ⟨h.u.setB hb h1 v, h.f.setB hb h2 v, h.a.setB hb h3 v, h.s.setB hb h4 v, h.o.setB hb h5 v⟩
theorem OwW.of_block {w w' : World} {base g : Nat} {p : WP} {x : KW} (h : OwW w base p x) {cs : Array Value} {t : TypeId} (hb : Blk w g cs t) (h1 : 100 ≠ t) (h2 : 105 ≠ t) (h3 : 63 ≠ t) (h4 : 47 ≠ t) (h5 : 87 ≠ t) (he : ∀ q, q ≠ g → w'.heap[q]? = w.heap[q]?) : OwW w' base p x :=
  ⟨h.u.of_block (fun q hq => he q (fun e => h.u.ne hb h1 (by rw [hq, e]))), h.f.of_block (fun q hq => he q (fun e => h.f.ne hb h2 (by rw [hq, e]))), h.a.of_block (fun q hq => he q (fun e => h.a.ne hb h3 (by rw [hq, e]))), h.s.of_block (fun q hq => he q (fun e => h.s.ne hb h4 (by rw [hq, e]))), h.o.of_block (fun q hq => he q (fun e => h.o.ne hb h5 (by rw [hq, e])))⟩
/- the answer's block is filled -/
theorem set8_blk {W : World} {g : Nat} {c0 c1 c2 c3 c4 c5 c6 c7 : Value} {t : TypeId} (h : Blk W g #[c0, c1, c2, c3, c4, c5, c6, c7] t) (v0 v1 v2 v3 v4 v5 v6 v7 : Value) : Blk (set8 W g v0 v1 v2 v3 v4 v5 v6 v7) g #[v0, v1, v2, v3, v4, v5, v6, v7] t := by
  have q0 : Blk _ g #[v0, c1, c2, c3, c4, c5, c6, c7] t := h.set 0 v0
  have q1 : Blk _ g #[v0, v1, c2, c3, c4, c5, c6, c7] t := q0.set 1 v1
  have q2 : Blk _ g #[v0, v1, v2, c3, c4, c5, c6, c7] t := q1.set 2 v2
  have q3 : Blk _ g #[v0, v1, v2, v3, c4, c5, c6, c7] t := q2.set 3 v3
  have q4 : Blk _ g #[v0, v1, v2, v3, v4, c5, c6, c7] t := q3.set 4 v4
  have q5 : Blk _ g #[v0, v1, v2, v3, v4, v5, c6, c7] t := q4.set 5 v5
  have q6 : Blk _ g #[v0, v1, v2, v3, v4, v5, v6, c7] t := q5.set 6 v6
  have q7 : Blk _ g #[v0, v1, v2, v3, v4, v5, v6, v7] t := q6.set 7 v7
  exact q7
theorem set8_other {W : World} {g : Nat} (v0 v1 v2 v3 v4 v5 v6 v7 : Value) (q : Nat) (hq : q ≠ g) : (set8 W g v0 v1 v2 v3 v4 v5 v6 v7).heap[q]? = W.heap[q]? :=
  (Below.heap_setCell _ _ _ _ hq).trans ((Below.heap_setCell _ _ _ _ hq).trans ((Below.heap_setCell _ _ _ _ hq).trans ((Below.heap_setCell _ _ _ _ hq).trans ((Below.heap_setCell _ _ _ _ hq).trans ((Below.heap_setCell _ _ _ _ hq).trans ((Below.heap_setCell _ _ _ _ hq).trans (Below.heap_setCell _ _ _ _ hq)))))))
theorem set8_below {n : Nat} {w W : World} {g : Nat} (h : Below n w W) (hg : n ≤ g) (v0 v1 v2 v3 v4 v5 v6 v7 : Value) : Below n w (set8 W g v0 v1 v2 v3 v4 v5 v6 v7) :=
  bel_set (bel_set (bel_set (bel_set (bel_set (bel_set (bel_set (bel_set h g 0 hg v0) g 1 hg v1) g 2 hg v2) g 3 hg v3) g 4 hg v4) g 5 hg v5) g 6 hg v6) g 7 hg v7
theorem result8 {w : World} {p : Nat} {c : Int} {q : WP} {x : KW} {fn : Func} {k : Nat} (hf : fn.results = #[.cell k 36]) (h : Blk w p (r8 c q x) 36) (T : Array Value) (hT : T[k]?.getD undef = .pointer (some ⟨p, 0, none⟩)) :
    (results fn T).run Try.prog w = .ok (.agg (r8 c q x)) w := by
  have c0 := h.cell (i := 0) rfl
  have c1 := h.cell (i := 1) rfl
  have c2 := h.cell (i := 2) rfl
  have c3 := h.cell (i := 3) rfl
  have c4 := h.cell (i := 4) rfl
  have c5 := h.cell (i := 5) rfl
  have c6 := h.cell (i := 6) rfl
  have c7 := h.cell (i := 7) rfl
  simp [results, hf, go_sem, hT, c0, c1, c2, c3, c4, c5, c6, c7]
/- what a walk wants of an answer's block that is still as it was made -/
structure Z8 (w : World) (g : Nat) : Prop where
  c0 : w.cell? ⟨g, 0, none⟩ = some (.int .i64 0)
  c1 : w.cell? ⟨g, 1, none⟩ = some (.int .i64 0)
  c2 : w.cell? ⟨g, 2, none⟩ = some (.int .i64 0)
  c3 : w.cell? ⟨g, 3, none⟩ = some (.slice none 0 0)
  c4 : w.cell? ⟨g, 4, none⟩ = some (.slice none 0 0)
  c5 : w.cell? ⟨g, 5, none⟩ = some (.slice none 0 0)
  c6 : w.cell? ⟨g, 6, none⟩ = some (.slice none 0 0)
  c7 : w.cell? ⟨g, 7, none⟩ = some (.slice none 0 0)
  f0 : w.frozen? ⟨g, 0, none⟩ = false
  f1 : w.frozen? ⟨g, 1, none⟩ = false
  f2 : w.frozen? ⟨g, 2, none⟩ = false
  f3 : w.frozen? ⟨g, 3, none⟩ = false
  f4 : w.frozen? ⟨g, 4, none⟩ = false
  f5 : w.frozen? ⟨g, 5, none⟩ = false
  f6 : w.frozen? ⟨g, 6, none⟩ = false
  f7 : w.frozen? ⟨g, 7, none⟩ = false
  lt : g < w.heap.size
abbrev z8 : Array Value := #[.int .i64 0, .int .i64 0, .int .i64 0, .slice none 0 0, .slice none 0 0, .slice none 0 0, .slice none 0 0, .slice none 0 0]
theorem Blk.z8 {w : World} {g : Nat} (h : Blk w g z8 36) : Z8 w g :=
  ⟨h.cell rfl, h.cell rfl, h.cell rfl, h.cell rfl, h.cell rfl, h.cell rfl, h.cell rfl, h.cell rfl, h.frozen _, h.frozen _, h.frozen _, h.frozen _, h.frozen _, h.frozen _, h.frozen _, h.frozen _, h.lt⟩
/- a list of factions of a call's own whose block is told -/
theorem SlA.of_blk {w : World} {g : Nat} {l : List KA} {base : Nat} (h : Blk w g (flatA l).toArray 63) (hb : base ≤ g) (hl : l.length ≤ 100) : SlA w base (.slice (some ⟨g, 0, none⟩) l.length l.length) l :=
  ⟨flatA_len l, .inr ⟨g, l.length, (flatA l).toArray, rfl, hb, h, Nat.le_refl _, by unfold maxLen; omega, by simp [flatA_len], by rw [List.take_of_length_le (by simp [flatA_len])]⟩⟩
/- a store into a cell of such a list -/
theorem take_set {l : List Value} {n i : Nat} {v : Value} (h : i < n) : (l.set i v).take n = (l.take n).set i v := by
  apply List.ext_getElem?
  intro j
  rw [List.getElem?_take, List.getElem?_set, List.getElem?_set, List.getElem?_take]
  by_cases hj : j < n
  · rw [if_pos hj, if_pos hj]
    by_cases e : i = j
    · subst e
      rw [if_pos rfl, if_pos rfl, List.length_take]
      by_cases hl : i < l.length
      · rw [if_pos hl, if_pos (by omega)]
      · rw [if_neg hl, if_neg (by omega)]
    · rw [if_neg e, if_neg e]
  · rw [if_neg hj, if_neg (by omega), if_neg hj]
theorem SlA.setCell {w : World} {base g n c : Nat} {l l' : List KA} (h : SlA w base (.slice (some ⟨g, 0, none⟩) n c) l) (i : Nat) (v : Value) (hi : i < l.length * 3) (hc : (flatA l).set i v = flatA l') : SlA (w.setCell ⟨g, i, none⟩ v) base (.slice (some ⟨g, 0, none⟩) n c) l' := by
  have hl : l'.length = l.length := by
    have h1 := congrArg List.length hc
    rw [List.length_set, flatA_len, flatA_len] at h1
    omega
  obtain ⟨h1, h2 | ⟨g', cap, cur, hv, hb, hg, h4, h5, h6, h7⟩⟩ := h
  · cases h2.1
  · injection hv with e1 e2 e3
    have eg : g = g' := by have := Option.some.inj e1; injection this
    subst eg e2 e3
    refine ⟨flatA_len l', .inr ⟨g, c, cur.setIfInBounds i v, by rw [hl], hb, ?_, by rw [hl]; exact h4, h5, by simpa using h6, ?_⟩⟩
    · simp [World.setCell, Array.getElem?_modify, hg]
    · rw [hl, ← hc, ← h7]
      rw [show (cur.setIfInBounds i v).toList = cur.toList.set i v from by simp]
      exact take_set hi
end Go.Proofs.Ytgfdfpaimlcgaaa
end

/- WsImpl -/
/- A world that is worked on: the contracts of copied, newWorldState and result. Condition: the lists are short. -/
section
namespace Go.Proofs.Ytgfdfpaimlcgaaa
open Go.ChangeShapes Go.WideShapes Go.ChangeAt Go.RowKit
open Bd
set_option linter.unusedVariables false

theorem SlU.fm {w : World} {base : Nat} {v : Value} {l : List K10} (h : SlU w base v l) : ∃ p c, v = .slice p l.length c := by obtain ⟨p, c, e, _⟩ := h.form; exact ⟨p, c, e⟩
theorem SlF.fm {w : World} {base : Nat} {v : Value} {l : List K3} (h : SlF w base v l) : ∃ p c, v = .slice p l.length c := by obtain ⟨p, c, e, _⟩ := h.form; exact ⟨p, c, e⟩
theorem SlA.fm {w : World} {base : Nat} {v : Value} {l : List KA} (h : SlA w base v l) : ∃ p c, v = .slice p l.length c := by obtain ⟨p, c, e, _⟩ := h.form; exact ⟨p, c, e⟩
theorem SlS.fm {w : World} {base : Nat} {v : Value} {l : List K4} (h : SlS w base v l) : ∃ p c, v = .slice p l.length c := by obtain ⟨p, c, e, _⟩ := h.form; exact ⟨p, c, e⟩
theorem SlO.fm {w : World} {base : Nat} {v : Value} {l : List K2} (h : SlO w base v l) : ∃ p c, v = .slice p l.length c := by obtain ⟨p, c, e, _⟩ := h.form; exact ⟨p, c, e⟩
set_option maxRecDepth 20000 in
set_option maxHeartbeats 8000000 in
theorem copied_c (u : Option Addr) (mu uc : Nat) (f : Option Addr) (mf fc : Nat) (us : List K10) (fs : List K3) (hu : us.length = mu) (hf : fs.length = mf) (h8 : mu ≤ 100) (h4 : mf ≤ 4) (w : World) (U : InU w u mu uc us) (F : InF w f mf fc fs) :
    Calls Try.prog 55 #[.agg #[.slice u mu uc, .slice f mf fc]] w fun e w' => ∃ p c p' c', e = .returned (.agg #[.slice p us.length c, .slice p' fs.length c']) ∧ SlU w' w.heap.size (.slice p us.length c) us ∧ SlF w' w.heap.size (.slice p' fs.length c') fs ∧ Below w.heap.size w w' := by
  obtain ⟨W, HW⟩ : ∃ W, Hid (W = (w.alloc (.cells #[.slice u mu uc, .slice f mf fc] 27)).alloc (.cells #[.slice none 0 0, .slice none 0 0] 27)) := ⟨_, rfl⟩
  have B1 : Below w.heap.size w W := by rw [HW.out]; exact ((Below.refl _ _).alloc (Nat.le_refl _) _).alloc (by rw [size_new]; omega) _
  have P : Blk W w.heap.size #[.slice u mu uc, .slice f mf fc] 27 := by rw [HW.out]; exact (Blk.new w _ _).alloc _
  have R : Blk W (w.heap.size + 1) #[.slice none 0 0, .slice none 0 0] 27 := by rw [HW.out]; have h := Blk.new (w.alloc (.cells #[.slice u mu uc, .slice f mf fc] 27)) #[.slice none 0 0, .slice none 0 0] 27; rw [size_new] at h; exact h
  have cU := fun W' (b : Below W.heap.size W W') => cloneU_i u uc mu us hu h8 W' (U.later (B1.trans (b.mono B1.size)))
  have cF := fun W' (b : Below W.heap.size W W') => cloneF_i f fc mf fs hf (by omega) W' (F.later (B1.trans (b.mono B1.size)))
  have keep : ∀ w', Below W.heap.size W w' → w'.cell? ⟨w.heap.size, 0, none⟩ = some (.slice u mu uc) ∧ w'.cell? ⟨w.heap.size, 1, none⟩ = some (.slice f mf fc) ∧ w'.cell? ⟨w.heap.size + 1, 0, none⟩ = some (.slice none 0 0) ∧ w'.cell? ⟨w.heap.size + 1, 1, none⟩ = some (.slice none 0 0) ∧ w'.frozen? ⟨w.heap.size + 1, 0, none⟩ = false ∧ w'.frozen? ⟨w.heap.size + 1, 1, none⟩ = false := fun w' hb => by
    have q1 := P.below hb
    have b1 := R.below hb
    exact ⟨q1.cell rfl, q1.cell rfl, b1.cell rfl, b1.cell rfl, b1.frozen _, b1.frozen _⟩
  have hB := B1.size
  have Bc : Below W.heap.size W W.drew := (Below.refl _ _).drew
  obtain ⟨x0, x1, y0, y1, z0, z1⟩ := keep _ (Below.refl _ _)
  clear U F hu hf
  go_enter Try.func55, Try.ntmps55
  go_upto_region 1 with fail
  rw [← HW.out]
  go_region_held3 (fun w' => w'.cell? ⟨w.heap.size, 0, none⟩ = some (.slice u mu uc) ∧ w'.cell? ⟨w.heap.size, 1, none⟩ = some (.slice f mf fc) ∧ w'.frozen? ⟨w.heap.size + 1, 0, none⟩ = false ∧ w'.frozen? ⟨w.heap.size + 1, 1, none⟩ = false) (first | exact ⟨x0, x1, z0, z1⟩ | go_keep) (first
    | (go_at_call 81; refine (cU _ Bc).mono ?_; rintro e w2 ⟨v2, rfl, S2, k2⟩; obtain ⟨p2, c2, rfl⟩ := S2.fm; have h2 := Bc.size; have Bc := Bc.trans (k2.mono Bc.size); obtain ⟨x0, x1, y0, y1, z0, z1⟩ := keep _ Bc)
    | (go_at_call 82; refine (cF _ Bc).mono ?_; rintro e w3 ⟨v3, rfl, S3, k3⟩; obtain ⟨p3, c3, rfl⟩ := S3.fm; have h3 := Bc.size; have S2 := S2.below k3; have Bc := Bc.trans (k3.mono Bc.size); obtain ⟨x0, x1, y0, y1, z0, z1⟩ := keep _ Bc))
  all_goals
    have R3 := R.below Bc
    have q0 : Blk _ (w.heap.size + 1) #[.slice p2 us.length c2, .slice none 0 0] 27 := R3.set 0 (.slice p2 us.length c2)
    have q1 : Blk _ (w.heap.size + 1) #[.slice p2 us.length c2, .slice p3 fs.length c3] 27 := q0.set 1 (.slice p3 fs.length c3)
    have U2 := (S2.setB (o := 0) R3 (by decide) (.slice p2 us.length c2)).setB (o := 1) q0 (by decide) (.slice p3 fs.length c3)
    have F2 := (S3.setB (o := 0) R3 (by decide) (.slice p2 us.length c2)).setB (o := 1) q0 (by decide) (.slice p3 fs.length c3)
    have BE := bel_set (bel_set (B1.trans (Bc.mono B1.size)) (w.heap.size + 1) 0 (by omega) (.slice p2 us.length c2)) (w.heap.size + 1) 1 (by omega) (.slice p3 fs.length c3)
    go_wp2_with fail
    exact bodyPost_ret (v := .agg #[.slice p2 us.length c2, .slice p3 fs.length c3]) (resultB Try.results55 q1 ⟨_, _, _, rfl⟩ ⟨_, _, _, rfl⟩ _ rfl) rfl ⟨_, _, _, _, rfl, U2.mono (by omega), F2.mono (by omega), BE⟩
/- the state in memory -/
structure WS (w : World) (base g : Nat) (p : WP) (x : KW) : Prop where
  b : Blk w g #[.slice p.u x.us.length p.uc, .slice p.f x.fs.length p.fc, .int .i64 x.t, .int .i64 x.s, .slice p.a x.fa.length p.ac, .slice p.s x.se.length p.sc, .slice p.o x.oo.length p.oc] 70
  o : OwW w base p x
  bg : base ≤ g
theorem WS.later {w w' : World} {base g : Nat} {p : WP} {x : KW} (h : WS w base g p x) (hb : Below w.heap.size w w') : WS w' base g p x := ⟨h.b.below hb, h.o.later hb, h.bg⟩
end Go.Proofs.Ytgfdfpaimlcgaaa
end

/- WsImpl2 -/
/- The contract of newWorldState. Condition: the lists are short. -/
section
namespace Go.Proofs.Ytgfdfpaimlcgaaa
open Go.ChangeShapes Go.WideShapes Go.ChangeAt Go.RowKit
open Bd
set_option linter.unusedVariables false

set_option maxRecDepth 20000 in
set_option maxHeartbeats 16000000 in
theorem newWorldState_c (p : WP) (x : KW) (hu : x.us.length ≤ 8) (hf : x.fs.length ≤ 4) (ha : x.fa.length ≤ 4) (hs : x.se.length ≤ 6) (ho : x.oo.length ≤ 6) (w : World) (h : InW w p x) :
    Calls Try.prog 28 #[.agg (p.v x)] w fun e w' => ∃ g p', e = .returned (.pointer (some ⟨g, 0, none⟩)) ∧ WS w' w.heap.size g p' x ∧ Below w.heap.size w w' := by
  obtain ⟨t, s, us, fs, fa, se, oo⟩ := x
  obtain ⟨u, uc, f, fc, a, ac, q, qc, r, rc⟩ := p
  dsimp only at hu hf ha hs ho
  show Calls Try.prog 28 #[.agg (wv t s u us.length uc f fs.length fc a fa.length ac q se.length qc r oo.length rc)] w _
  obtain ⟨W, HW⟩ : ∃ W, Hid (W = w.alloc (.cells (wv t s u us.length uc f fs.length fc a fa.length ac q se.length qc r oo.length rc) 32)) := ⟨_, rfl⟩
  have B1 : Below w.heap.size w W := by rw [HW.out]; exact (Below.refl _ _).alloc (Nat.le_refl _) _
  have P : Bk W w.heap.size (wv t s u us.length uc f fs.length fc a fa.length ac q se.length qc r oo.length rc) 32 := by rw [HW.out]; exact Bk.new w _ _
  have cB := fun W' (b : Below W.heap.size W W') => copied_c u us.length uc f fs.length fc us fs rfl rfl (by omega) hf W' (h.later (B1.trans (b.mono B1.size))).u (h.later (B1.trans (b.mono B1.size))).f
  have cA := fun W' (b : Below W.heap.size W W') => cloneA_i a ac fa.length fa rfl (by omega) W' (h.later (B1.trans (b.mono B1.size))).a
  have cS := fun W' (b : Below W.heap.size W W') => cloneS_i q qc se.length se rfl (by omega) W' (h.later (B1.trans (b.mono B1.size))).s
  have cO := fun W' (b : Below W.heap.size W W') => cloneO_i r rc oo.length oo rfl (by omega) W' (h.later (B1.trans (b.mono B1.size))).o
  have hB := B1.size
  clear h hu hf ha hs ho
  obtain ⟨mu, Hu⟩ : ∃ m, Hid (us.length = m) := ⟨_, rfl⟩
  obtain ⟨mf, Hf⟩ : ∃ m, Hid (fs.length = m) := ⟨_, rfl⟩
  obtain ⟨ma, Ha⟩ : ∃ m, Hid (fa.length = m) := ⟨_, rfl⟩
  obtain ⟨ms, Hs⟩ : ∃ m, Hid (se.length = m) := ⟨_, rfl⟩
  obtain ⟨mo, Ho⟩ : ∃ m, Hid (oo.length = m) := ⟨_, rfl⟩
  rw [Hu.out, Hf.out, Ha.out, Hs.out, Ho.out] at P HW
  rw [Hu.out, Hf.out] at cB
  rw [Ha.out] at cA
  rw [Hs.out] at cS
  rw [Ho.out] at cO
  rw [Hu.out, Hf.out, Ha.out, Hs.out, Ho.out]
  have keep : ∀ w', Below W.heap.size W w' → w'.cell? ⟨w.heap.size, 0, none⟩ = some (.int .i64 t) ∧ w'.cell? ⟨w.heap.size, 1, none⟩ = some (.int .i64 s) ∧ w'.cell? ⟨w.heap.size, 2, none⟩ = some (.slice u mu uc) ∧ w'.cell? ⟨w.heap.size, 3, none⟩ = some (.slice f mf fc) ∧ w'.cell? ⟨w.heap.size, 4, none⟩ = some (.slice a ma ac) ∧ w'.cell? ⟨w.heap.size, 5, none⟩ = some (.slice q ms qc) ∧ w'.cell? ⟨w.heap.size, 6, none⟩ = some (.slice r mo rc) := fun w' hb => by
    have q := P.below hb
    exact ⟨q.cell rfl, q.cell rfl, q.cell rfl, q.cell rfl, q.cell rfl, q.cell rfl, q.cell rfl⟩
  have Bc : Below W.heap.size W W.drew := (Below.refl _ _).drew
  obtain ⟨x0, x1, x2, x3, x4, x5, x6⟩ := keep _ (Below.refl _ _)
  go_enter Try.func28, Try.ntmps28
  go_upto_region 1 with fail
  rw [← HW.out]
  go_region_held3 (fun w' => w'.cell? ⟨w.heap.size, 0, none⟩ = some (.int .i64 t) ∧ w'.cell? ⟨w.heap.size, 1, none⟩ = some (.int .i64 s) ∧ w'.cell? ⟨w.heap.size, 2, none⟩ = some (.slice u mu uc) ∧ w'.cell? ⟨w.heap.size, 3, none⟩ = some (.slice f mf fc) ∧ w'.cell? ⟨w.heap.size, 4, none⟩ = some (.slice a ma ac) ∧ w'.cell? ⟨w.heap.size, 5, none⟩ = some (.slice q ms qc) ∧ w'.cell? ⟨w.heap.size, 6, none⟩ = some (.slice r mo rc)) (first | exact keep _ Bc | go_keep) (first
    | (go_at_call 55; refine (cB _ Bc).mono ?_; rintro e w2 ⟨p2, c2, p3, c3, rfl, U2, F2, k2⟩; have h2 := Bc.size; have Bc := Bc.trans (k2.mono Bc.size); obtain ⟨x0, x1, x2, x3, x4, x5, x6⟩ := keep _ Bc)
    | (go_at_call 56; refine (cA _ Bc).mono ?_; rintro e w4 ⟨v4, rfl, A4, k4⟩; obtain ⟨p4, c4, rfl⟩ := A4.fm; rw [Ha.out] at A4 ⊢; have U2 := U2.below k4; have F2 := F2.below k4; have h4 := Bc.size; have Bc := Bc.trans (k4.mono Bc.size); obtain ⟨x0, x1, x2, x3, x4, x5, x6⟩ := keep _ Bc)
    | (go_at_call 57; refine (cS _ Bc).mono ?_; rintro e w5 ⟨v5, rfl, S5, k5⟩; obtain ⟨p5, c5, rfl⟩ := S5.fm; rw [Hs.out] at S5 ⊢; have U2 := U2.below k5; have F2 := F2.below k5; have A4 := A4.below k5; have h5 := Bc.size; have Bc := Bc.trans (k5.mono Bc.size); obtain ⟨x0, x1, x2, x3, x4, x5, x6⟩ := keep _ Bc)
    | (go_at_call 58; refine (cO _ Bc).mono ?_; rintro e w6 ⟨v6, rfl, O6, k6⟩; obtain ⟨p6, c6, rfl⟩ := O6.fm; rw [Ho.out] at O6 ⊢; have U2 := U2.below k6; have F2 := F2.below k6; have A4 := A4.below k6; have S5 := S5.below k6; have h6 := Bc.size; have Bc := Bc.trans (k6.mono Bc.size); obtain ⟨x0, x1, x2, x3, x4, x5, x6⟩ := keep _ Bc))
  all_goals
    have kz : Below w6.heap.size w6 (w6.alloc (.cells #[.slice p2 mu c2, .slice p3 mf c3, .int .i64 t, .int .i64 s, .slice p4 ma c4, .slice p5 ms c5, .slice p6 mo c6] 70)) := (Below.refl _ _).alloc (Nat.le_refl _) _
    have G : Blk (w6.alloc (.cells #[.slice p2 mu c2, .slice p3 mf c3, .int .i64 t, .int .i64 s, .slice p4 ma c4, .slice p5 ms c5, .slice p6 mo c6] 70)) w6.heap.size #[.slice p2 mu c2, .slice p3 mf c3, .int .i64 t, .int .i64 s, .slice p4 ma c4, .slice p5 ms c5, .slice p6 mo c6] 70 := Blk.new w6 _ _
    have h7 := Bc.size
    go_wp2_with fail
    go_ret
    refine ⟨w6.heap.size, ⟨p2, c2, p3, c3, p4, c4, p5, c5, p6, c6⟩, rfl, ⟨?_, ⟨?_, ?_, ?_, ?_, ?_⟩, by omega⟩, B1.trans ((Bc.alloc h7 _).mono B1.size)⟩
    · show Blk _ _ #[.slice p2 us.length c2, .slice p3 fs.length c3, .int .i64 t, .int .i64 s, .slice p4 fa.length c4, .slice p5 se.length c5, .slice p6 oo.length c6] _
      rw [Hu.out, Hf.out, Ha.out, Hs.out, Ho.out]
      exact G
    · show SlU _ _ (.slice p2 us.length c2) us
      rw [Hu.out]
      exact (U2.below kz).mono (by omega)
    · show SlF _ _ (.slice p3 fs.length c3) fs
      rw [Hf.out]
      exact (F2.below kz).mono (by omega)
    · show SlA _ _ (.slice p4 fa.length c4) fa
      rw [Ha.out]
      exact (A4.below kz).mono (by omega)
    · show SlS _ _ (.slice p5 se.length c5) se
      rw [Hs.out]
      exact (S5.below kz).mono (by omega)
    · show SlO _ _ (.slice p6 oo.length c6) oo
      rw [Ho.out]
      exact (O6.below kz).mono (by omega)
end Go.Proofs.Ytgfdfpaimlcgaaa
end
