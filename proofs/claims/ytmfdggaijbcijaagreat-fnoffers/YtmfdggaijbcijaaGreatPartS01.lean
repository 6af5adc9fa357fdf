/- Texts of mine put together (a claim holds at most 60 files): HeirWalk. -/
import Derived.Test.YtmfdggaijbcijaaGreatPartS00
import Derived.Test.YtmfdggaijbcijaaGreatPartQ29
import Derived.Test.YtmfdggaijbcijaaGreatPartQ24
import Derived.Test.YtmfdggaijbcijaaGreatPartQ41
import Derived.Test.YtmfdggaijbcijaaGreatPartQ44

/- HeirWalk -/
/- The contracts of AlliesOf and HeirsOf, the program's and the model's. Condition: the world's lists lie in memory as they were laid there. -/
section
namespace Go.Proofs.YtmfdggaijbcijaaGreat
open Go.ChangeShapes Go.WideShapes Go.ChangeAt Go.RowKit
open Bd
set_option linter.unusedVariables false

abbrev zi2 : Array Value := #[.int .i64 0, .slice none 0 0]
abbrev seti2 (W : World) (g : Nat) (v0 v1 : Value) : World := (W.setCell ⟨g, 0, none⟩ v0).setCell ⟨g, 1, none⟩ v1
theorem seti2_blk {W : World} {g : Nat} {c0 c1 : Value} {t : TypeId} (h : Blk W g #[c0, c1] t) (v0 v1 : Value) : Blk (seti2 W g v0 v1) g #[v0, v1] t := by
  have q0 : Blk _ g #[v0, c1] t := h.set 0 v0
  have q1 : Blk _ g #[v0, v1] t := q0.set 1 v1
  exact q1
theorem seti2_other {W : World} {g : Nat} (v0 v1 : Value) (q : Nat) (hq : q ≠ g) : (seti2 W g v0 v1).heap[q]? = W.heap[q]? :=
  (Below.heap_setCell _ _ _ _ hq).trans (Below.heap_setCell _ _ _ _ hq)
theorem seti2_below {n : Nat} {w W : World} {g : Nat} (h : Below n w W) (hg : n ≤ g) (v0 v1 : Value) : Below n w (seti2 W g v0 v1) :=
  bel_set (bel_set (h) g 0 hg v0) g 1 hg v1
structure Zi2 (w : World) (g : Nat) : Prop where
  c0 : w.cell? ⟨g, 0, none⟩ = some (.int .i64 0)
  c1 : w.cell? ⟨g, 1, none⟩ = some (.slice none 0 0)
  f0 : w.frozen? ⟨g, 0, none⟩ = false
  f1 : w.frozen? ⟨g, 1, none⟩ = false
  lt : g < w.heap.size
theorem Blk.zi2 {w : World} {g : Nat} {t : TypeId} (h : Blk w g zi2 t) : Zi2 w g :=
  ⟨h.cell rfl, h.cell rfl, h.frozen _, h.frozen _, h.lt⟩
theorem resulti2 {w : World} {p : Nat} {v0 v1 : Value} {fn : Func} {k : Nat} (hf : fn.results = #[.cell k 45]) (h : Blk w p #[v0, v1] 45) (T : Array Value) (hT : T[k]?.getD undef = .pointer (some ⟨p, 0, none⟩)) :
    (results fn T).run Tryz.prog w = .ok (.agg #[v0, v1]) w := by
  have c0 := h.cell (i := 0) rfl
  have c1 := h.cell (i := 1) rfl
  simp [results, hf, go_sem, hT, c0, c1]

/- who the allies of a side are, told with a code -/
def alL (h : Int → Int → Bool) (x : KW) (i : Int) : List Int := if (sfF h x i == 0) = true then sdL h (allyA x.fa i) else []
theorem sfF_zero {h : Int → Int → Bool} {x : KW} {i : Int} : sfF h x i = 0 ↔ wf h x = 0 ∧ inb i 0 3 = true := by
  unfold sfF
  by_cases e : wf h x = 0
  · cases e1 : inb i 0 3 <;> simp [e]
  · simp [e]
theorem SlI.ne {w : World} {base : Nat} {v : Value} {l : List Int} (s : SlI w base v l) {r : Nat} (hr : r < base) {w' : World} (he : ∀ q, q ≠ r → w'.heap[q]? = w.heap[q]?) : SlI w' base v l :=
  s.of_blockI fun b hb => he b (by have := (s.lt b hb).1; omega)
theorem SlI.mono' {w : World} {base base' : Nat} {v : Value} {l : List Int} (s : SlI w base v l) (h : base' ≤ base) : SlI w base' v l := by
  rcases s with ⟨h1, h2⟩
  refine ⟨h1, ?_⟩
  rcases h2 with h2 | ⟨b, cap, cur, hv, hbb, q⟩
  · exact .inl h2
  · exact .inr ⟨b, cap, cur, hv, Nat.le_trans h hbb, q⟩
set_option maxHeartbeats 4000000 in
theorem l7Allies_c (g : Nat) (a : Option Addr) (ac : Nat) (fa : List KA) (h4 : fa.length = 4) (i : Int) (i0 : 0 ≤ i) (i3 : i ≤ 3) (w : World) (hg : w.cell? ⟨g, 4, none⟩ = some (.slice a 4 ac)) (hgl : g < w.heap.size) (hA : ArgA w a fa) :
    Calls Tryz.prog 64 #[.pointer (some ⟨g, 0, none⟩), .int .i64 i] w fun e w' => ∃ v, e = .returned v ∧ SlI w' w.heap.size v (sdL hasS (allyA fa i)) ∧ Below w.heap.size w w' := by
  obtain ⟨i0', hi, hz0, hz1, hz2⟩ := info_parts info64
  rw [← sdT_all]
  obtain ⟨y, hy, _, hya⟩ := side_at h4 i0 i3
  rw [hya]
  obtain ⟨m, Hm⟩ : ∃ m, Hid (y.c2 = m) := ⟨_, rfl⟩
  obtain ⟨b, o, rfl, hb, hat⟩ := hA.at hy
  have keep : ∀ w', Below w.heap.size w w' → w'.cell? ⟨g, 4, none⟩ = some (.slice (some ⟨b, o, none⟩) 4 ac) ∧ w'.cell? ⟨b, o + i.toNat * 3 + 2, none⟩ = some (.int .i64 m) := fun w' h => by
    have q := ((hat.later hb h).one (Nat.lt_of_lt_of_le hb h.size) hy).c2
    rw [Hm.out] at q
    exact ⟨by rw [h.cell hgl]; exact hg, q⟩
  rw [Hm.out]
  have i4 : i < 4 := by omega
  clear hat hy hA hya
  go_enter Tryz.func64, Tryz.ntmps64
  go_wp2_with fail
  go_loopw [5, 6] (fun v j wr => ∃ k : Nat, k ≤ 4 ∧ j = .int .i64 k ∧ Hid (wr.ownsRow w.heap.size 2 1 v (sdT hasS m k).length ((sdT hasS m k).map (Value.int .i64))) ∧ Below w.heap.size w wr) (fun _ j _ => 4 - (intOf j).toNat)
  case atStart => exact ⟨0, Nat.zero_le _, rfl, World.ownsRow_made w #[] 0 (Nat.le_refl _) (by unfold maxLen; omega) rfl, (Below.refl _ _).alloc (Nat.le_refl _) _⟩
  case round =>
    obtain ⟨k, hk, rfl, Hown, kb⟩ := hrel
    obtain ⟨p4, y2⟩ := keep _ kb
    by_cases hlt : k < 4
    · have hlt' : (k : Int) < 4 := by omega
      have HS : Hid (sdT hasS m (k + 1) = sdT hasS m k ++ (if hasS m (k : Int) = true then [(k : Int)] else [])) := sdT_step hlt
      have hlen : (sdT hasS m k).length ≤ 4 := sdT_len _ _ _
      have q0 := fun w => l6Has_c m (k : Int) (by omega) (by omega) w
      cases hq : hasS m (k : Int)
      · rw [hq] at q0
        have ho1 : Hid (wr.ownsRow w.heap.size 2 1 u5 (sdT hasS m (k + 1)).length ((sdT hasS m (k + 1)).map (Value.int .i64))) := by
          show World.ownsRow _ _ _ _ _ _ _
          rw [HS.out, hq]; simpa using Hown.out
        go_wp2_with (go_at_call 45; refine (q0 _).mono ?_; rintro e w1 ⟨rfl, hw1⟩; obtain rfl := hw1.symm)
        go_roundw
        case rel => exact ⟨k + 1, by omega, by go_num, ho1, kb⟩
        case measure => simp [intOf]; omega
      · rw [hq] at q0
        have hown := Hown.out
        go_wp2_with (first | (go_at_call 45; refine (q0 _).mono ?_; rintro e w1 ⟨rfl, hw1⟩; obtain rfl := hw1.symm) | (at_builtin; refine wpList_append_own _ rfl _ _ 43 rfl w.heap.size 2 i0' (.int .i64 0) 1 8 Tryz.underlying43 hi hz0 hz1 hz2 rfl (by decide) _ _ _ rfl (hown.alloc _) ⟨wr.heap.size, 0, none⟩ 1 1 [.int .i64 k] rfl rfl (one_new _ _ _) (one_cell _ _) (by unfold maxLen; omega) (by omega) (by have := kb.size; simp; omega) ?_))
        intro v' w1 hown' hgrow _
        have hb1 : Below w.heap.size w w1 := (kb.alloc kb.size _).grown hgrow (by have := kb.size; simp; omega) (fun k' hk' => (hown.lt k' hk').1)
        have ho1 : Hid (w1.ownsRow w.heap.size 2 1 v' (sdT hasS m (k + 1)).length ((sdT hasS m (k + 1)).map (Value.int .i64))) := by
          show World.ownsRow _ _ _ _ _ _ _
          rw [HS.out, if_pos hq]; simpa using hown'
        clear hown' hgrow hown
        go_wp2_with fail
        go_roundw
        case rel => exact ⟨k + 1, by omega, by go_num, ho1, hb1⟩
        case measure => simp [intOf]; omega
    · obtain rfl : k = 4 := by omega
      have hlt' : ¬ ((4 : Nat) : Int) < 4 := by omega
      have hown' := SlI.of Hown.out
      clear Hown
      go_wp2_with fail
      go_ret
      exact ⟨_, rfl, hown', kb⟩
set_option maxRecDepth 20000 in
set_option maxHeartbeats 16000000 in
theorem implAlliesOf (p : WP) (x : KW) (w : World) (h : InW w p x) (i : Int) :
    Calls Tryz.prog 20 #[.agg (p.v x), .int .i64 i] w fun e w' => ∃ v, e = .returned (.agg #[.int .i64 (sfF hasI x i), v]) ∧ SlI w' w.heap.size v (alL hasI x i) ∧ Below w.heap.size w w' := by
  obtain ⟨t, s, us, fs, fa, se, oo⟩ := x
  obtain ⟨u, uc, f, fc, a, ac, q, qc, r, rc⟩ := p
  obtain ⟨W, HW⟩ : ∃ W, Hid (W = (w.alloc (.cells (wv t s u us.length uc f fs.length fc a fa.length ac q se.length qc r oo.length rc) 32)).alloc (.cells zi2 45)) := ⟨_, rfl⟩
  have B1 : Below w.heap.size w W := by rw [HW.out]; exact ((Below.refl _ _).alloc (Nat.le_refl _) _).alloc (by rw [size_new]; omega) _
  have P : Bk W w.heap.size (wv t s u us.length uc f fs.length fc a fa.length ac q se.length qc r oo.length rc) 32 := by rw [HW.out]; exact (Bk.new w (wv t s u us.length uc f fs.length fc a fa.length ac q se.length qc r oo.length rc) 32).alloc _
  have R : Blk W (w.heap.size + 1) zi2 45 := by rw [HW.out]; have h := Blk.new (w.alloc (.cells (wv t s u us.length uc f fs.length fc a fa.length ac q se.length qc r oo.length rc) 32)) zi2 45; rw [size_new] at h; exact h
  have HN : Hid (InW W ⟨u, uc, f, fc, a, ac, q, qc, r, rc⟩ ⟨t, s, us, fs, fa, se, oo⟩) := h.later B1
  have HR : Hid (Blk W (w.heap.size + 1) zi2 45) := R
  have hB := B1.size
  show Calls Tryz.prog 20 #[.agg (wv t s u us.length uc f fs.length fc a fa.length ac q se.length qc r oo.length rc), .int .i64 i] w _
  have cF := fun W' (h : Below W.heap.size W W') => implSideFault ⟨u, uc, f, fc, a, ac, q, qc, r, rc⟩ ⟨t, s, us, fs, fa, se, oo⟩ HN.out.o1 HN.out.o2 W' (HN.out.later h).arg i
  replace cF : ∀ W', Below W.heap.size W W' → Calls Tryz.prog 62 #[.agg (wv t s u us.length uc f fs.length fc a fa.length ac q se.length qc r oo.length rc), .int .i64 i] W' fun e w' => e = .returned (.int .i64 (sfF hasI ⟨t, s, us, fs, fa, se, oo⟩ i)) ∧ Below W'.heap.size W' w' := cF
  have HL : Hid (alL hasI ⟨t, s, us, fs, fa, se, oo⟩ i = if (sfF hasI ⟨t, s, us, fs, fa, se, oo⟩ i == 0) = true then sdL hasI (allyA fa i) else []) := rfl
  have HG : Hid (sfF hasI ⟨t, s, us, fs, fa, se, oo⟩ i = 0 → GdW hasI ⟨t, s, us, fs, fa, se, oo⟩ ∧ inb i 0 3 = true) := fun e => ⟨(gdW_iff hasI _).1 (sfF_zero.1 e).1, (sfF_zero.1 e).2⟩
  generalize alL hasI ⟨t, s, us, fs, fa, se, oo⟩ i = L at HL ⊢
  generalize sfF hasI ⟨t, s, us, fs, fa, se, oo⟩ i = F at cF HL HG ⊢
  have HW2 : Hid (W.heap.size = w.heap.size + 2) := by show _ = _; rw [HW.out, size_new, size_new]
  obtain ⟨mu, Hmu⟩ : ∃ m, Hid (us.length = m) := ⟨_, rfl⟩
  obtain ⟨mf, Hmf⟩ : ∃ m, Hid (fs.length = m) := ⟨_, rfl⟩
  obtain ⟨ma, Hma⟩ : ∃ m, Hid (fa.length = m) := ⟨_, rfl⟩
  obtain ⟨ms, Hms⟩ : ∃ m, Hid (se.length = m) := ⟨_, rfl⟩
  obtain ⟨mo, Hmo⟩ : ∃ m, Hid (oo.length = m) := ⟨_, rfl⟩
  rw [Hmu.out, Hmf.out, Hma.out, Hms.out, Hmo.out] at P HW ⊢
  rw [Hmu.out, Hmf.out, Hma.out, Hms.out, Hmo.out] at cF
  clear h R
  have keep : ∀ w', Below W.heap.size W w' → w'.cell? ⟨w.heap.size, 0, none⟩ = some (.int .i64 t) ∧ w'.cell? ⟨w.heap.size, 1, none⟩ = some (.int .i64 s) ∧ w'.cell? ⟨w.heap.size, 2, none⟩ = some (.slice u mu uc) ∧ w'.cell? ⟨w.heap.size, 3, none⟩ = some (.slice f mf fc) ∧ w'.cell? ⟨w.heap.size, 4, none⟩ = some (.slice a ma ac) ∧ w'.cell? ⟨w.heap.size, 5, none⟩ = some (.slice q ms qc) ∧ w'.cell? ⟨w.heap.size, 6, none⟩ = some (.slice r mo rc) ∧ w.heap.size < w'.heap.size := fun w' hb => by
    have q := P.below hb
    exact ⟨q.cell rfl, q.cell rfl, q.cell rfl, q.cell rfl, q.cell rfl, q.cell rfl, q.cell rfl, q.lt⟩
  have Bc : Below W.heap.size W W := Below.refl _ _
  obtain ⟨p0, p1, p2, p3, p4, p5, p6, pl⟩ := keep _ Bc
  cases e2 : F == 0
  · have n7 : (F != 0) = true := by simp only [bne, e2]; rfl
    have HR1 : Hid (F = F ∧ L = []) := ⟨rfl, by rw [HL.out, e2]; rfl⟩
    clear HL HG e2
    go_enter Tryz.func20, Tryz.ntmps20
    go_upto_region 1 with fail
    rw [← HW.out]
    go_wp2_with fail
    refine (cF _ Bc).mono ?_
    rintro e wn ⟨rfl, kn⟩
    have Bc := Bc.trans (kn.mono Bc.size)
    clear p0 p1 p2 p3 p4 p5 p6 pl
    have R1 := HR.out.below Bc
    obtain ⟨r0, r1, y0, y1, rl⟩ := R1.zi2
    have Fz := seti2_blk R1 (.int .i64 F) (.slice none 0 0)
    have BE := seti2_below (B1.trans (Bc.mono hB)) (show w.heap.size ≤ w.heap.size + 1 by omega) (.int .i64 F) (.slice none 0 0)
    clear R1
    go_wp2_with fail
    rw [HR1.out.2]
    exact bodyPost_ret (v := .agg #[.int .i64 F, .slice none 0 0]) (resulti2 Tryz.results20 Fz _ rfl) rfl ⟨_, rfl, SlI.nil _ _, BE⟩
  · obtain rfl : F = 0 := by simpa using e2
    have G := (HG.out rfl).1
    obtain ⟨i0, i3⟩ := inb_i (HG.out rfl).2
    have h4 : ma = 4 := by rw [← Hma.out]; exact G.a4
    subst h4
    have HR2 : Hid ((0 : Int) = 0 ∧ L = L) := ⟨rfl, rfl⟩
    have eL : sdL hasI (allyA fa i) = L := by rw [HL.out]; rfl
    obtain ⟨y, hy, _, hya⟩ := side_at Hma.out i0 i3
    have Hy : Hid (fa[i.toNat]? = some y) := hy
    have keepY : ∀ w', Below W.heap.size W w' → ∃ b o, a = some ⟨b, o, none⟩ ∧ A1 w' b (o + i.toNat * 3) y := fun w' hb => by
      obtain ⟨b, o, hpa, hbl, hat⟩ := (HN.out.later hb).arg.a.atP Hy.out
      exact ⟨b, o, hpa, hat.one hbl Hy.out⟩
    have i4 : i < 4 := by omega
    rw [hya] at eL
    have cA := fun w => sidesIn_c y.c2 w
    rw [eL] at cA
    clear HL HG G e2 eL hy hya
    go_enter Tryz.func20, Tryz.ntmps20
    go_upto_region 1 with fail
    rw [← HW.out]
    go_wp2_with fail
    refine (cF _ Bc).mono ?_
    rintro e wn ⟨rfl, kn⟩
    have Bc := Bc.trans (kn.mono Bc.size)
    clear p0 p1 p2 p3 p4 p5 p6 pl
    obtain ⟨p0, p1, p2, p3, p4, p5, p6, pl⟩ := keep _ Bc
    obtain ⟨b, o, rfl, x0, x1, x2, xl⟩ := keepY _ Bc
    go_wp2_with fail
    refine (cA _).mono ?_
    rintro e w3 ⟨v, rfl, Sv, k3⟩
    clear x0 x1 x2 xl
    clear p0 p1 p2 p3 p4 p5 p6 pl
    obtain ⟨pv, cv, hv⟩ := Sv.form
    obtain ⟨n9, Hn9⟩ : ∃ n9, Hid (L.length = n9) := ⟨_, rfl⟩
    rw [Hn9.out] at hv
    subst hv
    have Ow := ((Sv.mono' (show w.heap.size + 2 ≤ _ by have := Bc.size; have := HW2.out; omega)).ne (show w.heap.size + 1 < w.heap.size + 2 by omega) (w' := seti2 w3 (w.heap.size + 1) (.int .i64 0) (.slice pv n9 cv)) (seti2_other (W := w3) (g := w.heap.size + 1) (.int .i64 0) (.slice pv n9 cv))).mono' (show w.heap.size ≤ w.heap.size + 2 by omega)
    have Bc := Bc.trans (k3.mono Bc.size)
    clear Sv k3
    have R1 := HR.out.below Bc
    obtain ⟨r0, r1, y0, y1, rl⟩ := R1.zi2
    have Fz := seti2_blk R1 (.int .i64 0) (.slice pv n9 cv)
    have BE := seti2_below (B1.trans (Bc.mono hB)) (show w.heap.size ≤ w.heap.size + 1 by omega) (.int .i64 0) (.slice pv n9 cv)
    clear R1
    go_wp2_with fail
    exact bodyPost_ret (v := .agg #[.int .i64 0, .slice pv n9 cv]) (resulti2 Tryz.results20 Fz _ rfl) rfl ⟨_, rfl, Ow, BE⟩
set_option maxRecDepth 20000 in
set_option maxHeartbeats 16000000 in
theorem specAlliesOf (p : WP) (x : KW) (w : World) (h : InW w p x) (i : Int) :
    Calls Tryz.prog 24 #[.agg (p.v x), .int .i64 i] w fun e w' => ∃ v, e = .returned (.agg #[.int .i64 (sfF hasS x i), v]) ∧ SlI w' w.heap.size v (alL hasS x i) ∧ Below w.heap.size w w' := by
  obtain ⟨t, s, us, fs, fa, se, oo⟩ := x
  obtain ⟨u, uc, f, fc, a, ac, q, qc, r, rc⟩ := p
  obtain ⟨W, HW⟩ : ∃ W, Hid (W = (w.alloc (.cells (wv t s u us.length uc f fs.length fc a fa.length ac q se.length qc r oo.length rc) 32)).alloc (.cells zi2 45)) := ⟨_, rfl⟩
  have B1 : Below w.heap.size w W := by rw [HW.out]; exact ((Below.refl _ _).alloc (Nat.le_refl _) _).alloc (by rw [size_new]; omega) _
  have P : Bk W w.heap.size (wv t s u us.length uc f fs.length fc a fa.length ac q se.length qc r oo.length rc) 32 := by rw [HW.out]; exact (Bk.new w (wv t s u us.length uc f fs.length fc a fa.length ac q se.length qc r oo.length rc) 32).alloc _
  have R : Blk W (w.heap.size + 1) zi2 45 := by rw [HW.out]; have h := Blk.new (w.alloc (.cells (wv t s u us.length uc f fs.length fc a fa.length ac q se.length qc r oo.length rc) 32)) zi2 45; rw [size_new] at h; exact h
  have HN : Hid (InW W ⟨u, uc, f, fc, a, ac, q, qc, r, rc⟩ ⟨t, s, us, fs, fa, se, oo⟩) := h.later B1
  have HR : Hid (Blk W (w.heap.size + 1) zi2 45) := R
  have hB := B1.size
  show Calls Tryz.prog 24 #[.agg (wv t s u us.length uc f fs.length fc a fa.length ac q se.length qc r oo.length rc), .int .i64 i] w _
  have cF := fun W' (h : Below W.heap.size W W') => l6Fault_c w.heap.size t s u us.length uc f fs.length fc a fa.length ac q se.length qc r oo.length rc us fs fa se oo rfl rfl rfl rfl rfl HN.out.o1 HN.out.o2 W' ⟨(P.below h).cell rfl, (P.below h).cell rfl, (P.below h).cell rfl, (P.below h).cell rfl, (P.below h).cell rfl, (P.below h).cell rfl, (P.below h).cell rfl, (P.below h).lt⟩ (HN.out.later h).arg.u (HN.out.later h).arg.f (HN.out.later h).arg.a (HN.out.later h).arg.s (HN.out.later h).arg.o
  have HL : Hid (alL hasS ⟨t, s, us, fs, fa, se, oo⟩ i = if (sfF hasS ⟨t, s, us, fs, fa, se, oo⟩ i == 0) = true then sdL hasS (allyA fa i) else []) := rfl
  have HG : Hid (sfF hasS ⟨t, s, us, fs, fa, se, oo⟩ i = 0 → GdW hasS ⟨t, s, us, fs, fa, se, oo⟩ ∧ inb i 0 3 = true) := fun e => ⟨(gdW_iff hasS _).1 (sfF_zero.1 e).1, (sfF_zero.1 e).2⟩
  generalize alL hasS ⟨t, s, us, fs, fa, se, oo⟩ i = L at HL ⊢
  have HF : Hid (sfF hasS ⟨t, s, us, fs, fa, se, oo⟩ i = if (wf hasS ⟨t, s, us, fs, fa, se, oo⟩ == 0) = false then wf hasS ⟨t, s, us, fs, fa, se, oo⟩ else if inb i 0 3 = false then 3 else 0) := rfl
  generalize sfF hasS ⟨t, s, us, fs, fa, se, oo⟩ i = F at HF HL HG ⊢
  generalize wf hasS ⟨t, s, us, fs, fa, se, oo⟩ = F0 at cF HF
  have HW2 : Hid (W.heap.size = w.heap.size + 2) := by show _ = _; rw [HW.out, size_new, size_new]
  obtain ⟨mu, Hmu⟩ : ∃ m, Hid (us.length = m) := ⟨_, rfl⟩
  obtain ⟨mf, Hmf⟩ : ∃ m, Hid (fs.length = m) := ⟨_, rfl⟩
  obtain ⟨ma, Hma⟩ : ∃ m, Hid (fa.length = m) := ⟨_, rfl⟩
  obtain ⟨ms, Hms⟩ : ∃ m, Hid (se.length = m) := ⟨_, rfl⟩
  obtain ⟨mo, Hmo⟩ : ∃ m, Hid (oo.length = m) := ⟨_, rfl⟩
  rw [Hmu.out, Hmf.out, Hma.out, Hms.out, Hmo.out] at P HW ⊢
  clear h R
  have keep : ∀ w', Below W.heap.size W w' → w'.cell? ⟨w.heap.size, 0, none⟩ = some (.int .i64 t) ∧ w'.cell? ⟨w.heap.size, 1, none⟩ = some (.int .i64 s) ∧ w'.cell? ⟨w.heap.size, 2, none⟩ = some (.slice u mu uc) ∧ w'.cell? ⟨w.heap.size, 3, none⟩ = some (.slice f mf fc) ∧ w'.cell? ⟨w.heap.size, 4, none⟩ = some (.slice a ma ac) ∧ w'.cell? ⟨w.heap.size, 5, none⟩ = some (.slice q ms qc) ∧ w'.cell? ⟨w.heap.size, 6, none⟩ = some (.slice r mo rc) ∧ w.heap.size < w'.heap.size := fun w' hb => by
    have q := P.below hb
    exact ⟨q.cell rfl, q.cell rfl, q.cell rfl, q.cell rfl, q.cell rfl, q.cell rfl, q.cell rfl, q.lt⟩
  have Bc : Below W.heap.size W W := Below.refl _ _
  obtain ⟨p0, p1, p2, p3, p4, p5, p6, pl⟩ := keep _ Bc
  cases e2 : F0 == 0
  · have n7 : (F0 != 0) = true := by simp only [bne, e2]; rfl
    have eF : F = F0 := by rw [HF.out, e2]; rfl
    subst eF
    have HR1 : Hid (F = F ∧ L = []) := ⟨rfl, by rw [HL.out, e2]; rfl⟩
    clear HL HG e2 HF
    go_enter Tryz.func24, Tryz.ntmps24
    go_upto_region 1 with fail
    rw [← HW.out]
    go_wp2_with fail
    refine (cF _ Bc).mono ?_
    rintro e wn ⟨rfl, kn⟩
    have Bc := Bc.trans (kn.mono Bc.size)
    clear p0 p1 p2 p3 p4 p5 p6 pl
    have R1 := HR.out.below Bc
    obtain ⟨r0, r1, y0, y1, rl⟩ := R1.zi2
    have Fz := seti2_blk R1 (.int .i64 F) (.slice none 0 0)
    have BE := seti2_below (B1.trans (Bc.mono hB)) (show w.heap.size ≤ w.heap.size + 1 by omega) (.int .i64 F) (.slice none 0 0)
    clear R1
    go_wp2_with fail
    rw [HR1.out.2]
    exact bodyPost_ret (v := .agg #[.int .i64 F, .slice none 0 0]) (resulti2 Tryz.results24 Fz _ rfl) rfl ⟨_, rfl, SlI.nil _ _, BE⟩
  · obtain rfl : F0 = 0 := by simpa using e2
    replace HF : Hid (F = if inb i 0 3 = false then 3 else 0) := HF
    have qS := fun w => l6Side_s i w
    cases ib : inb i 0 3
    · obtain rfl : F = 3 := by rw [HF.out, ib]; rfl
      rw [ib] at qS
      have HR1 : Hid ((3 : Int) = 3 ∧ L = []) := ⟨rfl, by rw [HL.out]; rfl⟩
      clear HL HG e2 HF ib
      go_enter Tryz.func24, Tryz.ntmps24
      go_upto_region 1 with fail
      rw [← HW.out]
      go_wp2_with fail
      refine (cF _ Bc).mono ?_
      rintro e wn ⟨rfl, kn⟩
      have Bc := Bc.trans (kn.mono Bc.size)
      clear p0 p1 p2 p3 p4 p5 p6 pl
      have R1 := HR.out.below Bc
      obtain ⟨r0, r1, y0, y1, rl⟩ := R1.zi2
      have Fz := seti2_blk R1 (.int .i64 3) (.slice none 0 0)
      have BE := seti2_below (B1.trans (Bc.mono hB)) (show w.heap.size ≤ w.heap.size + 1 by omega) (.int .i64 3) (.slice none 0 0)
      clear R1
      go_wp2_with (go_at_call 43; refine (qS _).mono ?_; rintro e w1 ⟨rfl, hw1⟩; obtain rfl := hw1.symm)
      rw [HR1.out.2]
      exact bodyPost_ret (v := .agg #[.int .i64 3, .slice none 0 0]) (resulti2 Tryz.results24 Fz _ rfl) rfl ⟨_, rfl, SlI.nil _ _, BE⟩
    · obtain rfl : F = 0 := by rw [HF.out, ib]; rfl
      rw [ib] at qS
      have G := (HG.out rfl).1
      obtain ⟨i0, i3⟩ := inb_i (HG.out rfl).2
      have h4 : ma = 4 := by rw [← Hma.out]; exact G.a4
      subst h4
      have HR2 : Hid ((0 : Int) = 0 ∧ L = L) := ⟨rfl, rfl⟩
      have eL : sdL hasS (allyA fa i) = L := by rw [HL.out]; rfl
      have cA := fun W' (h : Below W.heap.size W W') => l7Allies_c w.heap.size a ac fa Hma.out i i0 i3 W' (keep W' h).2.2.2.2.1 (keep W' h).2.2.2.2.2.2.2 (HN.out.later h).arg.a
      rw [eL] at cA
      clear HL HG G e2 eL HF ib
      go_enter Tryz.func24, Tryz.ntmps24
      go_upto_region 1 with fail
      rw [← HW.out]
      go_wp2_with fail
      refine (cF _ Bc).mono ?_
      rintro e wn ⟨rfl, kn⟩
      have Bc := Bc.trans (kn.mono Bc.size)
      clear p0 p1 p2 p3 p4 p5 p6 pl
      go_wp2_with (go_at_call 43; refine (qS _).mono ?_; rintro e w1 ⟨rfl, hw1⟩; obtain rfl := hw1.symm)
      refine (cA _ Bc).mono ?_
      rintro e w3 ⟨v, rfl, Sv, k3⟩
      obtain ⟨pv, cv, hv⟩ := Sv.form
      obtain ⟨n9, Hn9⟩ : ∃ n9, Hid (L.length = n9) := ⟨_, rfl⟩
      rw [Hn9.out] at hv
      subst hv
      have Ow := ((Sv.mono' (show w.heap.size + 2 ≤ _ by have := Bc.size; have := HW2.out; omega)).ne (show w.heap.size + 1 < w.heap.size + 2 by omega) (w' := seti2 w3 (w.heap.size + 1) (.int .i64 0) (.slice pv n9 cv)) (seti2_other (W := w3) (g := w.heap.size + 1) (.int .i64 0) (.slice pv n9 cv))).mono' (show w.heap.size ≤ w.heap.size + 2 by omega)
      have Bc := Bc.trans (k3.mono Bc.size)
      clear Sv k3
      have R1 := HR.out.below Bc
      obtain ⟨r0, r1, y0, y1, rl⟩ := R1.zi2
      have Fz := seti2_blk R1 (.int .i64 0) (.slice pv n9 cv)
      have BE := seti2_below (B1.trans (Bc.mono hB)) (show w.heap.size ≤ w.heap.size + 1 by omega) (.int .i64 0) (.slice pv n9 cv)
      clear R1
      go_wp2_with fail
      exact bodyPost_ret (v := .agg #[.int .i64 0, .slice pv n9 cv]) (resulti2 Tryz.results24 Fz _ rfl) rfl ⟨_, rfl, Ow, BE⟩
end Go.Proofs.YtmfdggaijbcijaaGreat
end
