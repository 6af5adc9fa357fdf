/- Texts of mine put together (a claim holds at most 60 files): PutSpec2. -/
import Derived.Test.YtmfdggaijbcijaaGreatPartQ07

/- PutSpec2 -/
/- Contracts of the model of PutUnit. Condition: the board's lists lie in memory as they were laid there. -/
section
namespace Go.Proofs.YtmfdggaijbcijaaGreat
open Go.ChangeShapes Go.WideShapes Go.ChangeAt Go.RowKit
open Bd
set_option linter.unusedVariables false

theorem step_copyU {ops : Array Oper} {o : Oper} {a : Act} {W : World} {K : Act → World → Prop} {Q : Exit → Act → World → Prop} {E : Prop} (hgd : o.guard = none) (s x : Operand)
    (ho : o.op = .call { callee := .builtin .append, args := #[s, x], argTypes := #[24, 24] }) (base b : Nat) (l : List K10) (g off n c : Nat) (hn : l.length = n) (hat : UAt W g off l)
    (hs : a.eval s = .slice (some ⟨b, 0, none⟩) 0 0) (hb : W.heap[b]? = some (.cells #[] 113)) (hbase : base ≤ b) (hx : a.eval x = .slice (some ⟨g, off, none⟩) n c) (hlen : n ≤ 100)
    (h : ∀ v' w', SlU w' base v' l → W.grownBy w' (some b) → v' ≠ .slice none 0 0 → K (a.put o.dst v') w') :
    if Region.wanted o (yielded ops a.tmps) = true then Oper.wp Tryz.prog o a W K Q else E := by
  have hw : Region.wanted o (yielded ops a.tmps) = true := by simp [Region.wanted, hgd]
  rw [if_pos hw]
  obtain ⟨i0, hi, hz0, hz1, hz2⟩ := info_parts infoU
  have hbl : b < W.heap.size := (Array.getElem?_eq_some_iff.1 hb).1
  have hown : W.ownsRow base 113 10 (.slice (some ⟨b, 0, none⟩) 0 0) 0 [] := ⟨rfl, .inr ⟨b, 0, #[], rfl, hbase, hb, Nat.le_refl _, by unfold maxLen; omega, rfl, rfl⟩⟩
  refine wp_append_own _ s x 24 ho base 113 i0 (.agg K10.z.v) 10 80 Tryz.underlying24 hi hz0 hz1 hz2 rfl (by decide) _ 0 _ hs hown ⟨g, off, none⟩ n c (flatU l) hx (by rw [flatU_len, hn]) ?_ (flatU_one l) (by unfold maxLen; omega) (by omega) (by omega) ?_
  · intro j y hj
    rw [add_plain']
    have hjl : j < l.length * 10 := by rw [← flatU_len]; exact (List.getElem?_eq_some_iff.1 hj).1
    obtain ⟨z, hz⟩ : ∃ z, l[j / 10]? = some z := ⟨_, List.getElem?_eq_getElem (by omega)⟩
    have e := flatU_get l (j / 10) z (j % 10) hz (by omega)
    have hj2 : j / 10 * 10 + j % 10 = j := by omega
    rw [hj2, hj] at e
    have := hat (j / 10) z hz (j % 10) (by omega)
    rw [show off + j / 10 * 10 + j % 10 = off + j from by omega] at this
    rw [this, e]
  · intro v' w' h1 h2 h3
    refine h v' w' ?_ h2 (fun e => by have := (h3.1 e).1; simp at this)
    unfold SlU
    rw [hn]
    simpa using h1
theorem step_copyF {ops : Array Oper} {o : Oper} {a : Act} {W : World} {K : Act → World → Prop} {Q : Exit → Act → World → Prop} {E : Prop} (hgd : o.guard = none) (s x : Operand)
    (ho : o.op = .call { callee := .builtin .append, args := #[s, x], argTypes := #[25, 25] }) (base b : Nat) (l : List K3) (g off n c : Nat) (hn : l.length = n) (hat : FAt W g off l)
    (hs : a.eval s = .slice (some ⟨b, 0, none⟩) 0 0) (hb : W.heap[b]? = some (.cells #[] 118)) (hbase : base ≤ b) (hx : a.eval x = .slice (some ⟨g, off, none⟩) n c) (hlen : n ≤ 100)
    (h : ∀ v' w', SlF w' base v' l → W.grownBy w' (some b) → v' ≠ .slice none 0 0 → K (a.put o.dst v') w') :
    if Region.wanted o (yielded ops a.tmps) = true then Oper.wp Tryz.prog o a W K Q else E := by
  have hw : Region.wanted o (yielded ops a.tmps) = true := by simp [Region.wanted, hgd]
  rw [if_pos hw]
  obtain ⟨i0, hi, hz0, hz1, hz2⟩ := info_parts infoF
  have hbl : b < W.heap.size := (Array.getElem?_eq_some_iff.1 hb).1
  have hown : W.ownsRow base 118 3 (.slice (some ⟨b, 0, none⟩) 0 0) 0 [] := ⟨rfl, .inr ⟨b, 0, #[], rfl, hbase, hb, Nat.le_refl _, by unfold maxLen; omega, rfl, rfl⟩⟩
  refine wp_append_own _ s x 25 ho base 118 i0 (.agg K3.z.v) 3 24 Tryz.underlying25 hi hz0 hz1 hz2 rfl (by decide) _ 0 _ hs hown ⟨g, off, none⟩ n c (flatF l) hx (by rw [flatF_len, hn]) ?_ (flatF_one l) (by unfold maxLen; omega) (by omega) (by omega) ?_
  · intro j y hj
    rw [add_plain']
    have hjl : j < l.length * 3 := by rw [← flatF_len]; exact (List.getElem?_eq_some_iff.1 hj).1
    obtain ⟨z, hz⟩ : ∃ z, l[j / 3]? = some z := ⟨_, List.getElem?_eq_getElem (by omega)⟩
    have e := flatF_get l (j / 3) z (j % 3) hz (by omega)
    have hj2 : j / 3 * 3 + j % 3 = j := by omega
    rw [hj2, hj] at e
    have := hat (j / 3) z hz (j % 3) (by omega)
    rw [show off + j / 3 * 3 + j % 3 = off + j from by omega] at this
    rw [this, e]
  · intro v' w' h1 h2 h3
    refine h v' w' ?_ h2 (fun e => by have := (h3.1 e).1; simp at this)
    unfold SlF
    rw [hn]
    simpa using h1
theorem SlF.set {w : World} {base : Nat} {v : Value} {l : List K3} (h : SlF w base v l) {b o : Nat} (hb : b < base) (x : Value) : SlF (w.setCell ⟨b, o, none⟩ x) base v l := h.of_block (fun q hq => Below.heap_setCell _ ⟨b, o, none⟩ x q (by have := (h.lt q hq).1; show q ≠ b; omega))
theorem SlU.set {w : World} {base : Nat} {v : Value} {l : List K10} (h : SlU w base v l) {b o : Nat} (hb : b < base) (x : Value) : SlU (w.setCell ⟨b, o, none⟩ x) base v l := h.of_block (fun q hq => Below.heap_setCell _ ⟨b, o, none⟩ x q (by have := (h.lt q hq).1; show q ≠ b; omega))
theorem heap_at (w : World) (o : Obj) : (w.alloc o).heap[w.heap.size]? = some o := by
  show (w.heap.push _)[w.heap.size]? = _
  simp
theorem grown_bel {W w w' : World} {n b : Nat} (hb : Below n W w) (hn : n ≤ W.heap.size) (k : w.grownBy w' (some b)) (h : n ≤ b) : Below n W w' := hb.grown k (Nat.le_trans hn hb.size) (fun j hj => by cases hj; exact h)
theorem SlU.grownF {W w' : World} {base bF : Nat} {v : Value} {l : List K10} {c : Array Value} (h : SlU W base v l) (hb : W.heap[bF]? = some (.cells c 118)) (k : W.grownBy w' (some bF)) : SlU w' base v l := by
  refine h.of_block (fun q hq => k.block q (h.lt q hq).2 (fun e => ?_))
  have e' : q = bF := Option.some.inj e
  subst e'
  rcases h.2 with ⟨rfl, _⟩ | ⟨g, cap, cur, rfl, _, hg, _⟩
  · cases hq
  · have : g = q := Option.some.inj hq
    subst this
    rw [hg] at hb
    simp at hb
/- a copy of a board, in memory of its own -/
theorem step_copyUI {ops : Array Oper} {o : Oper} {a : Act} {W : World} {K : Act → World → Prop} {Q : Exit → Act → World → Prop} {E : Prop} (hgd : o.guard = none) (s x : Operand)
    (ho : o.op = .call { callee := .builtin .append, args := #[s, x], argTypes := #[24, 24] }) (base b : Nat) (l : List K10) (p : Option Addr) (n c : Nat) (hn : l.length = n) (hat : InU W p n c l)
    (hs : a.eval s = .slice (some ⟨b, 0, none⟩) 0 0) (hb : W.heap[b]? = some (.cells #[] 113)) (hbase : base ≤ b) (hx : a.eval x = .slice p n c) (hlen : n ≤ 100)
    (h : ∀ v' w', SlU w' base v' l → W.grownBy w' (some b) → v' ≠ .slice none 0 0 → K (a.put o.dst v') w') :
    if Region.wanted o (yielded ops a.tmps) = true then Oper.wp Tryz.prog o a W K Q else E := by
  rcases hat with ⟨rfl, rfl, rfl, rfl⟩ | ⟨g, off, rfl, hg, hat⟩
  · have hw : Region.wanted o (yielded ops a.tmps) = true := by simp [Region.wanted, hgd]
    rw [if_pos hw]
    obtain ⟨i0, hi, hz0, hz1, hz2⟩ := info_parts infoU
    have hown : W.ownsRow base 113 10 (.slice (some ⟨b, 0, none⟩) 0 0) 0 [] := ⟨rfl, .inr ⟨b, 0, #[], rfl, hbase, hb, Nat.le_refl _, by unfold maxLen; omega, rfl, rfl⟩⟩
    have hrun := run_append_owned_none (P := Tryz.prog) (w := W) base 24 o.type 113 i0 10 Tryz.underlying24 hi _ 0 [] hown
    unfold Oper.wp
    simp [execOp, ho, resolve, invoke, builtin, hs, hx, hrun, Result.andThen]
    exact h _ _ hown (grown_refl _ _) (by simp)
  · exact step_copyU hgd s x ho base b l g off n c hn hat hs hb hbase hx hlen h
theorem step_copyFI {ops : Array Oper} {o : Oper} {a : Act} {W : World} {K : Act → World → Prop} {Q : Exit → Act → World → Prop} {E : Prop} (hgd : o.guard = none) (s x : Operand)
    (ho : o.op = .call { callee := .builtin .append, args := #[s, x], argTypes := #[25, 25] }) (base b : Nat) (l : List K3) (p : Option Addr) (n c : Nat) (hn : l.length = n) (hat : InF W p n c l)
    (hs : a.eval s = .slice (some ⟨b, 0, none⟩) 0 0) (hb : W.heap[b]? = some (.cells #[] 118)) (hbase : base ≤ b) (hx : a.eval x = .slice p n c) (hlen : n ≤ 100)
    (h : ∀ v' w', SlF w' base v' l → W.grownBy w' (some b) → v' ≠ .slice none 0 0 → K (a.put o.dst v') w') :
    if Region.wanted o (yielded ops a.tmps) = true then Oper.wp Tryz.prog o a W K Q else E := by
  rcases hat with ⟨rfl, rfl, rfl, rfl⟩ | ⟨g, off, rfl, hg, hat⟩
  · have hw : Region.wanted o (yielded ops a.tmps) = true := by simp [Region.wanted, hgd]
    rw [if_pos hw]
    obtain ⟨i0, hi, hz0, hz1, hz2⟩ := info_parts infoF
    have hown : W.ownsRow base 118 3 (.slice (some ⟨b, 0, none⟩) 0 0) 0 [] := ⟨rfl, .inr ⟨b, 0, #[], rfl, hbase, hb, Nat.le_refl _, by unfold maxLen; omega, rfl, rfl⟩⟩
    have hrun := run_append_owned_none (P := Tryz.prog) (w := W) base 25 o.type 118 i0 3 Tryz.underlying25 hi _ 0 [] hown
    unfold Oper.wp
    simp [execOp, ho, resolve, invoke, builtin, hs, hx, hrun, Result.andThen]
    exact h _ _ hown (grown_refl _ _) (by simp)
  · exact step_copyF hgd s x ho base b l g off n c hn hat hs hb hbase hx hlen h
set_option maxRecDepth 20000 in
set_option maxHeartbeats 4000000 in
theorem l4Copy2_i (p : Option Addr) (c m : Nat) (p' : Option Addr) (c' m' : Nat) (us : List K10) (fs : List K3) (hl : us.length = m) (hm : m ≤ 8) (hl' : fs.length = m') (hm' : m' ≤ 4) (w : World) (hat : InU w p m c us) (hat' : InF w p' m' c' fs) :
    Calls Tryz.prog 110 #[.agg (brdV p m c p' m' c')] w fun e w' => ∃ v f, e = .returned (.agg #[v, f]) ∧ SlU w' w.heap.size v us ∧ SlF w' w.heap.size f fs ∧ v ≠ .slice none 0 0 ∧ f ≠ .slice none 0 0 ∧ Below w.heap.size w w' := by
  obtain ⟨W1, HW1⟩ : ∃ W1, Hid (W1 = (w.alloc (.cells (brdV p m c p' m' c') 27)).alloc (.cells #[.slice none 0 0, .slice none 0 0] 27)) := ⟨_, rfl⟩
  obtain ⟨rb, rr, k0, S0⟩ := two_two w (.slice p m c) (.slice p' m' c') (.slice none 0 0) (.slice none 0 0) 27 27
  rw [← HW1.out] at rb rr k0 S0
  have Hat : Hid (InU W1 p m c us) := hat.later k0
  have Hat' : Hid (InF W1 p' m' c' fs) := hat'.later k0
  have keep : ∀ w', Below W1.heap.size W1 w' → w'.cell? ⟨w.heap.size, 0, none⟩ = some (.slice p m c) ∧ w'.cell? ⟨w.heap.size, 1, none⟩ = some (.slice p' m' c') ∧ w'.cell? ⟨w.heap.size + 1, 0, none⟩ = some (.slice none 0 0) ∧ w'.cell? ⟨w.heap.size + 1, 1, none⟩ = some (.slice none 0 0) ∧ w'.frozen? ⟨w.heap.size + 1, 0, none⟩ = false ∧ w'.frozen? ⟨w.heap.size + 1, 1, none⟩ = false := fun w' hb => by
    have r1 := row_later rb hb
    have r2 := row_later rr hb
    exact ⟨r1.cell (i := 0) (by omega), r1.cell (i := 1) (by omega), r2.cell (i := 0) (by omega), r2.cell (i := 1) (by omega), r2.frozen 0, r2.frozen 1⟩
  clear hat hat'
  obtain ⟨p0, p1, e0, e1, z0, z1⟩ := keep _ (Below.refl _ _)
  have rl := rr.lt
  have bU : Below W1.heap.size W1 (W1.alloc (.cells #[] 113)) := (Below.refl _ _).alloc (Nat.le_refl _) _
  have bF : Below W1.heap.size W1 (W1.alloc (.cells #[] 118)) := (Below.refl _ _).alloc (Nat.le_refl _) _
  have bUF : Below W1.heap.size W1 ((W1.alloc (.cells #[] 113)).alloc (.cells #[] 118)) := bU.alloc bU.size _
  have bFU : Below W1.heap.size W1 ((W1.alloc (.cells #[] 118)).alloc (.cells #[] 113)) := bF.alloc bF.size _
  have hU2 : ((W1.alloc (.cells #[] 113)).alloc (.cells #[] 118)).heap[W1.heap.size]? = some (.cells #[] 113) := (((Below.refl _ _).alloc (Nat.le_refl _) (.cells #[] 118)).block W1.heap.size (by rw [size_new]; omega)).trans (heap_at W1 (.cells #[] 113))
  have hF2 : ((W1.alloc (.cells #[] 113)).alloc (.cells #[] 118)).heap[W1.heap.size + 1]? = some (.cells #[] 118) := by have h := heap_at (W1.alloc (.cells #[] 113)) (.cells #[] 118); rw [size_new] at h; exact h
  have hF3 : ((W1.alloc (.cells #[] 118)).alloc (.cells #[] 113)).heap[W1.heap.size]? = some (.cells #[] 118) := (((Below.refl _ _).alloc (Nat.le_refl _) (.cells #[] 113)).block W1.heap.size (by rw [size_new]; omega)).trans (heap_at W1 (.cells #[] 118))
  have hU3 : ((W1.alloc (.cells #[] 118)).alloc (.cells #[] 113)).heap[W1.heap.size + 1]? = some (.cells #[] 113) := by have h := heap_at (W1.alloc (.cells #[] 118)) (.cells #[] 113); rw [size_new] at h; exact h
  have sU : W1.heap.size + 1 < ((W1.alloc (.cells #[] 113)).alloc (.cells #[] 118)).heap.size := by simp only [size_new]; omega
  have sF : W1.heap.size < ((W1.alloc (.cells #[] 118)).alloc (.cells #[] 113)).heap.size := by simp only [size_new]; omega
  clear S0 rb
  go_enter Tryz.func110, Tryz.ntmps110
  go_upto_region 1 with fail
  rw [← HW1.out]
  go_region_held3 (fun w' => w'.cell? ⟨w.heap.size, 0, none⟩ = some (.slice p m c) ∧ w'.cell? ⟨w.heap.size, 1, none⟩ = some (.slice p' m' c')) (go_keep) (first
    | (refine step_copyUI rfl (.tmp 3) (.tmp 5) rfl W1.heap.size W1.heap.size us p m c hl (Hat.out.later bU.drew) (by simp [Act.eval]; done) (heap_at W1 _) (Nat.le_refl _) (by simp [Act.eval]; done) (by omega) ?_; intro v2 w2 hS2 hg2 nn2; have HB2 := grown_bel bU.drew (Nat.le_refl _) hg2 (by omega); obtain ⟨p0, p1, e0, e1, z0, z1⟩ := keep _ HB2; obtain ⟨a2, cc2, hv2, _⟩ := hS2.form; rw [hl] at hv2; subst hv2)
    | (refine step_copyUI rfl (.tmp 3) (.tmp 5) rfl W1.heap.size W1.heap.size us p m c hl (Hat.out.later bUF.drew) (by simp [Act.eval]; done) hU2 (Nat.le_refl _) (by simp [Act.eval]; done) (by omega) ?_; intro v2 w2 hS2 hg2 nn2; have HB2 := grown_bel bUF.drew (Nat.le_refl _) hg2 (by omega); obtain ⟨p0, p1, e0, e1, z0, z1⟩ := keep _ HB2; obtain ⟨a2, cc2, hv2, _⟩ := hS2.form; rw [hl] at hv2; subst hv2; have hFb := (hg2.block (W1.heap.size + 1) sU (by simp)).trans hF2)
    | (refine step_copyUI rfl (.tmp 3) (.tmp 5) rfl W1.heap.size (W1.heap.size + 1) us p m c hl (Hat.out.later bFU.drew) (by simp [Act.eval]; done) hU3 (by omega) (by simp [Act.eval]; done) (by omega) ?_; intro v2 w2 hS2 hg2 nn2; have HB2 := grown_bel bFU.drew (Nat.le_refl _) hg2 (by omega); obtain ⟨p0, p1, e0, e1, z0, z1⟩ := keep _ HB2; obtain ⟨a2, cc2, hv2, _⟩ := hS2.form; rw [hl] at hv2; subst hv2; have hFb := (hg2.block W1.heap.size sF (by simp)).trans hF3)
    | (refine step_copyFI rfl (.tmp 7) (.tmp 9) rfl W1.heap.size w2.heap.size fs p' m' c' hl' (Hat'.out.later (HB2.alloc HB2.size _)) (by simp [Act.eval]; done) (heap_at w2 _) HB2.size (by simp [Act.eval]; done) (by omega) ?_; intro v3 w3 hS3 hg3 nn3; have hU3' : SlU w3 W1.heap.size _ us := (by first | exact (hS2.below ((Below.refl _ _).alloc (Nat.le_refl _) (.cells #[] 118))).grownF (heap_at w2 _) hg3 | exact hS2.grownF hFb hg3); have HB3 := grown_bel (HB2.alloc HB2.size (.cells #[] 118)) (Nat.le_refl _) hg3 HB2.size; obtain ⟨p0, p1, e0, e1, z0, z1⟩ := keep _ HB3; obtain ⟨a3, cc3, hv3, _⟩ := hS3.form; rw [hl'] at hv3; subst hv3)
    | (refine step_copyFI rfl (.tmp 7) (.tmp 9) rfl W1.heap.size (W1.heap.size + 1) fs p' m' c' hl' (Hat'.out.later HB2) (by simp [Act.eval]; done) hFb (by omega) (by simp [Act.eval]; done) (by omega) ?_; intro v3 w3 hS3 hg3 nn3; have hU3' : SlU w3 W1.heap.size _ us := (by first | exact (hS2.below ((Below.refl _ _).alloc (Nat.le_refl _) (.cells #[] 118))).grownF (heap_at w2 _) hg3 | exact hS2.grownF hFb hg3); have HB3 := grown_bel HB2 (Nat.le_refl _) hg3 (by omega); obtain ⟨p0, p1, e0, e1, z0, z1⟩ := keep _ HB3; obtain ⟨a3, cc3, hv3, _⟩ := hS3.form; rw [hl'] at hv3; subst hv3)
    | (refine step_copyFI rfl (.tmp 7) (.tmp 9) rfl W1.heap.size W1.heap.size fs p' m' c' hl' (Hat'.out.later HB2) (by simp [Act.eval]; done) hFb (Nat.le_refl _) (by simp [Act.eval]; done) (by omega) ?_; intro v3 w3 hS3 hg3 nn3; have hU3' : SlU w3 W1.heap.size _ us := (by first | exact (hS2.below ((Below.refl _ _).alloc (Nat.le_refl _) (.cells #[] 118))).grownF (heap_at w2 _) hg3 | exact hS2.grownF hFb hg3); have HB3 := grown_bel HB2 (Nat.le_refl _) hg3 (by omega); obtain ⟨p0, p1, e0, e1, z0, z1⟩ := keep _ HB3; obtain ⟨a3, cc3, hv3, _⟩ := hS3.form; rw [hl'] at hv3; subst hv3))
  all_goals
    have rr3 := row_later rr HB3
    have t := (rr3.set 0 (.slice a2 m cc2)).set 1 (.slice a3 m' cc3)
    have c0 := t.cell (i := 0) (by omega)
    have c1 := t.cell (i := 1) (by omega)
    have B4 := bel_set (bel_set (k0.trans (HB3.mono k0.size)) (w.heap.size + 1) 0 (by omega) (.slice a2 m cc2)) (w.heap.size + 1) 1 (by omega) (.slice a3 m' cc3)
    have S4 := (SlF.set (SlF.set hS3 (b := w.heap.size + 1) (o := 0) rl (.slice a2 m cc2)) (b := w.heap.size + 1) (o := 1) rl (.slice a3 m' cc3)).mono k0.size
    have U4 := (SlU.set (SlU.set hU3' (b := w.heap.size + 1) (o := 0) rl (.slice a2 m cc2)) (b := w.heap.size + 1) (o := 1) rl (.slice a3 m' cc3)).mono k0.size
    go_wp2_with fail
    refine bodyPost_ret (v := .agg #[.slice a2 m cc2, .slice a3 m' cc3]) ?_ rfl ⟨_, _, rfl, U4, S4, nn2, nn3, B4⟩
    simp [results, Tryz.results110, go_sem, c0, c1]
    done
end Go.Proofs.YtmfdggaijbcijaaGreat
end
