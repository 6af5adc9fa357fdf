/- Texts of mine put together (a claim holds at most 60 files): DelFunc. -/
import Derived.Test.YtlfnnobkgbfdgaaGreatPartH26
import Derived.Test.YtlfnnobkgbfdgaaGreatPartH35
import Derived.Test.YtlfnnobkgbfdgaaGreatPartH05

/- DelFunc -/
/- The contracts of IndexFunc, DeleteFunc and ContainsFunc at the program's closures over seats and offers. Condition: what a closure holds lies in memory as it was laid there. -/
section
namespace Go.Proofs.YtlfnnobkgbfdgaaGreat
open Go.ChangeShapes Go.WideShapes Go.ChangeAt Go.RowKit
open Bd
set_option linter.unusedVariables false

/- the first place at which p holds -/
def ixP {α : Type} (p : α → Bool) (l : List α) (r : Int) : Prop := (r = -1 ∧ ∀ x ∈ l, p x = false) ∨ ∃ k x, r = (k : Nat) ∧ l[k]? = some x ∧ p x = true ∧ ∀ y ∈ l.take k, p y = false
theorem take_all {α : Type} {p : α → Bool} {l : List α} {k : Nat} {x : α} (h : ∀ y ∈ l.take k, p y = false) (hx : l[k]? = some x) (hp : p x = false) : ∀ y ∈ l.take (k + 1), p y = false := by
  intro y hy
  rw [List.take_add_one, hx] at hy
  rcases List.mem_append.1 hy with hy | hy
  · exact h y hy
  · have : y = x := by simpa using hy
    rw [this]; exact hp
/- a row that is being shortened: i kept so far, j looked at -/
structure KpL {α : Type} (p : α → Bool) (l dk : List α) (i j : Nat) : Prop where
  n : dk.length = l.length
  ij : i < j
  k : dk.take i = (l.take j).filter (fun x => !p x)
  d : dk.drop j = l.drop j
theorem KpL.start {α : Type} {p : α → Bool} {l : List α} {k : Nat} {x : α} (h : ∀ y ∈ l.take k, p y = false) (hx : l[k]? = some x) (hp : p x = true) : KpL p l l k (k + 1) := by
  refine ⟨rfl, by omega, ?_, rfl⟩
  rw [List.take_add_one, hx, List.filter_append]
  have e1 : (l.take k).filter (fun x => !p x) = l.take k := by rw [List.filter_eq_self]; intro y hy; rw [h y hy]; rfl
  rw [e1]
  simp [hp]
theorem KpL.at {α : Type} {p : α → Bool} {l dk : List α} {i j : Nat} (h : KpL p l dk i j) {x : α} (hx : l[j]? = some x) : dk[j]? = some x := by
  have e : (dk.drop j)[0]? = (l.drop j)[0]? := by rw [h.d]
  rw [List.getElem?_drop, List.getElem?_drop] at e
  rw [show j + 0 = j from rfl] at e
  rw [e, hx]
theorem KpL.skip {α : Type} {p : α → Bool} {l dk : List α} {i j : Nat} (h : KpL p l dk i j) {x : α} (hx : l[j]? = some x) (hp : p x = true) : KpL p l dk i (j + 1) := by
  refine ⟨h.n, by have := h.ij; omega, ?_, ?_⟩
  · rw [List.take_add_one, hx, List.filter_append, h.k]
    simp [hp]
  · rw [← List.drop_drop, ← List.drop_drop, h.d]
theorem KpL.keep {α : Type} {p : α → Bool} {l dk : List α} {i j : Nat} (h : KpL p l dk i j) {x : α} (hx : l[j]? = some x) (hp : p x = false) : KpL p l (dk.set i x) (i + 1) (j + 1) := by
  have hj : j < l.length := (List.getElem?_eq_some_iff.1 hx).1
  have hi : i < dk.length := by have := h.ij; have := h.n; omega
  refine ⟨by rw [List.length_set]; exact h.n, by have := h.ij; omega, ?_, ?_⟩
  · rw [List.take_add_one (l := l), hx, List.filter_append, ← h.k, List.take_add_one, List.getElem?_set, if_pos rfl, if_pos hi, List.take_set_of_le (by omega)]
    simp [hp]
  · rw [List.drop_set_of_lt (by have := h.ij; omega), ← List.drop_drop, ← List.drop_drop, h.d]
theorem KpL.done {α : Type} {p : α → Bool} {l dk : List α} {i j : Nat} (h : KpL p l dk i j) (hj : l.length ≤ j) : dk.take i = l.filter (fun x => !p x) := by rw [h.k, List.take_of_length_le hj]
theorem d1_c (x : K4) (f0 : Nat) (fa : Int) (W : World) (hf : Blk W f0 #[.int .i64 fa] 2) :
    Calls Tryz.prog 52 #[.agg x.v, .pointer (some ⟨f0, 0, none⟩)] W fun e w' => e = .returned (.bool ((fun (s : K4) => s.c1 == fa) x)) ∧ Below W.heap.size W w' := by
  have h0 := hf.cell (i := 0) rfl
  have hl := hf.lt
  have hne : f0 ≠ W.heap.size := by omega
  go_enter Tryz.func52, Tryz.ntmps52
  go_wp2_with fail
  go_ret
  exact ⟨rfl, (Below.refl _ _).alloc (Nat.le_refl _) _⟩
set_option maxHeartbeats 8000000 in
theorem index_d1 (a : Option Addr) (m c : Nat) (l : List K4) (hl : l.length = m) (hm : m ≤ 6) (f0 : Nat) (fa : Int) (w : World) (hf : (fun W => Blk W f0 #[.int .i64 fa] 2) w) (hS : ArgS w a l) :
    Calls Tryz.prog 91 #[.slice a m c, .func (.func 52) #[] #[.pointer (some ⟨f0, 0, none⟩)]] w fun e w' => ∃ r : Int, e = .returned (.int .i64 r) ∧ ixP (fun (s : K4) => s.c1 == fa) l r ∧ Below w.heap.size w w' := by
  have qc := fun (x : K4) W (h : Below w.heap.size w W) => d1_c x f0 fa W (Blk.below hf h)
  have Hl : Hid (l.length = m) := hl
  have HS : Hid (ArgS w a l) := hS
  have HI : Hid (∀ r, ixP (fun (s : K4) => s.c1 == fa) l r = _) := fun _ => rfl
  obtain ⟨p, Hp⟩ : ∃ p : K4 → Bool, Hid (p = fun (s : K4) => s.c1 == fa) := ⟨_, rfl⟩
  rw [← Hp.out] at HI ⊢
  replace qc : ∀ (x : K4) W, Below w.heap.size w W → Calls Tryz.prog 52 #[.agg x.v, .pointer (some ⟨f0, 0, none⟩)] W fun e w' => e = .returned (.bool (p x)) ∧ Below W.heap.size W w' := by rw [Hp.out]; exact qc
  clear hl hS hf Hp
  go_enter Tryz.func91, Tryz.ntmps91
  go_wp2_with fail
  go_loopw [8] (fun j wr => ∃ k : Nat, k ≤ m ∧ j = .int .i64 k ∧ Hid (∀ y ∈ l.take k, p y = false) ∧ Below w.heap.size w wr) (fun j _ => m - (intOf j).toNat)
  case atStart => exact ⟨0, Nat.zero_le _, rfl, (by intro y hy; simp at hy), Below.refl _ _⟩
  case round =>
    obtain ⟨k, hk, rfl, Hk, kb⟩ := hrel
    by_cases hlt : k < m
    · have hlt' : (k : Int) < (m : Int) := by omega
      obtain ⟨x, hx⟩ : ∃ x, l[k]? = some x := ⟨_, List.getElem?_eq_getElem (by have := Hl.out; omega)⟩
      obtain ⟨b, off, rfl, hb, hat⟩ := HS.out.at hx
      obtain ⟨x0, x1, x2, x3, xl⟩ := (hat.later hb kb).one (Nat.lt_of_lt_of_le hb kb.size) hx
      have Hx : Hid (l[k]? = some x) := hx
      have qx := qc x wr kb
      clear hx hat
      cases ep : p x
      · rw [ep] at qx
        have HE : Hid (∀ y ∈ l.take (k + 1), p y = false) := take_all Hk.out Hx.out ep
        go_wp2_with (go_at_call 52; refine qx.mono ?_; rintro e w1 ⟨rfl, b1⟩)
        go_roundw
        case rel => exact ⟨k + 1, by omega, by go_num, HE, kb.trans (b1.mono kb.size)⟩
        case measure => simp [intOf]; omega
      · rw [ep] at qx
        have HE : Hid (ixP p l (k : Int)) := .inr ⟨k, x, rfl, Hx.out, ep, Hk.out⟩
        go_wp2_with (go_at_call 52; refine qx.mono ?_; rintro e w1 ⟨rfl, b1⟩)
        go_ret
        exact ⟨_, rfl, HE.out, kb.trans (b1.mono kb.size)⟩
    · obtain rfl : m = k := by omega
      have hlt' : ¬ (m : Int) < (m : Int) := by omega
      have HE : Hid (ixP p l (-1)) := .inl ⟨rfl, fun y hy => Hk.out y (by rw [List.take_of_length_le (by have := Hl.out; omega)]; exact hy)⟩
      go_wp2_with fail
      go_ret
      exact ⟨_, rfl, HE.out, kb⟩
set_option maxRecDepth 20000 in
set_option maxHeartbeats 16000000 in
theorem delete_d1 (base : Nat) (v : Value) (l : List K4) (hl : l.length ≤ 6) (f0 : Nat) (fa : Int) (w : World) (hb : base ≤ w.heap.size) (hf : (fun W => Blk W f0 #[.int .i64 fa] 2) w) (hS : SlS w base v l) :
    Calls Tryz.prog 51 #[v, .func (.func 52) #[] #[.pointer (some ⟨f0, 0, none⟩)]] w fun e w' => ∃ v', e = .returned v' ∧ SlS w' base v' (l.filter (fun x => !(fun (s : K4) => s.c1 == fa) x)) ∧ KT (fun t => t == 74) base w w' := by
  obtain ⟨a0, cap0, rfl, hA⟩ := hS.form
  have cI := index_d1 a0 l.length cap0 l rfl hl f0 fa w hf hA
  have qc := fun (x : K4) W (h : KT (fun t => t == 74) base w W) => d1_c x f0 fa W (KT.blk h hf (by decide))
  obtain ⟨p, Hp⟩ : ∃ p : K4 → Bool, Hid (p = fun (s : K4) => s.c1 == fa) := ⟨_, rfl⟩
  rw [← Hp.out] at cI
  show Calls Tryz.prog 51 #[.slice a0 l.length cap0, .func (.func 52) #[] #[.pointer (some ⟨f0, 0, none⟩)]] w fun e w' => ∃ v', e = .returned v' ∧ SlS w' base v' (l.filter (fun x => !(fun (s : K4) => s.c1 == fa) x)) ∧ KT (fun t => t == 74) base w w'
  rw [← Hp.out]
  replace qc : ∀ (x : K4) W, KT (fun t => t == 74) base w W → Calls Tryz.prog 52 #[.agg x.v, .pointer (some ⟨f0, 0, none⟩)] W fun e w' => e = .returned (.bool (p x)) ∧ Below W.heap.size W w' := by rw [Hp.out]; exact qc
  have HS : Hid (SlS w base (.slice a0 l.length cap0) l) := hS
  have K0 : KT (fun t => t == 74) base w w := KT.refl _ _ _
  have HF : Hid (∀ w' v', (∃ l', SlS w' base v' l' ∧ l' = l.filter (fun x => !p x)) → SlS w' base v' (l.filter (fun x => !p x))) := fun w' v' ⟨l', h, e⟩ => e ▸ h
  obtain ⟨m, Hm⟩ : ∃ m, Hid (l.length = m) := ⟨_, rfl⟩
  have hm6 : m ≤ 6 := by rw [← Hm.out]; exact hl
  have hi : ∀ r, ixP p l r → r = -1 ∨ 0 ≤ r := fun r h => by rcases h with ⟨h, _⟩ | ⟨k, x, h, _⟩ <;> omega
  rw [Hm.out] at cI HS ⊢
  clear hf hS hA Hp hl
  go_enter Tryz.func51, Tryz.ntmps51
  go_wp2_with fail
  refine cI.mono ?_
  rintro e w1 ⟨r, rfl, hr, b1⟩
  have K1 := K0.step hb b1
  rcases hr with ⟨rfl, hall⟩ | ⟨k, x, rfl, hx, hpx, hbef⟩
  · have HE : Hid (l.filter (fun x => !p x) = l) := by
      show List.filter _ _ = _
      rw [List.filter_eq_self]; intro y hy; rw [hall y hy]; rfl
    have HQ : Hid (SlS w1 base (.slice a0 m cap0) l) := HS.out.below b1
    clear hall hi HF
    go_wp2_with fail
    go_ret
    exact ⟨_, rfl, by rw [HE.out]; exact HQ.out, K1⟩
  · have hkm : k < m := by rw [← Hm.out]; exact (List.getElem?_eq_some_iff.1 hx).1
    have hQ := HS.out.below b1
    rcases hQ.row with ⟨h1, h2⟩ | ⟨g, cap, cur, h1, hbg, hR⟩
    · rw [h2] at hx; simp at hx
    rw [Hm.out] at h1
    injection h1 with e1 e2 e3
    subst e1 e3
    have HK : Hid (KpL p l l k (k + 1)) := KpL.start hbef hx hpx
    have HR : Hid (RwS w1 g cap0 cur l) := hR
    have hk1 : ((k : Int) == -1) = false := beq_eq_false_iff_ne.2 (by omega)
    have hcapm : m ≤ cap0 := by rw [← Hm.out]; exact hR.le
    clear hQ HS hx hpx hbef hR hi
    go_wp2_with fail
    go_loopw [5, 6, 7] (fun s5 s6 _ wr => ∃ (i j : Nat) (dk : List K4) (cur : Array Value), s5 = .int .i64 i ∧ s6 = .int .i64 j ∧ j ≤ m ∧ i < j ∧ Hid (KpL p l dk i j) ∧ Hid (RwS wr g cap0 cur dk) ∧ KT (fun t => t == 74) base w wr) (fun _ s6 _ _ => m - (intOf s6).toNat)
    case atStart => exact ⟨k, k + 1, l, cur, rfl, by go_num, by omega, by omega, HK, HR, K1⟩
    case round =>
      obtain ⟨i, j, dk, cur, rfl, rfl, hj, hij, HK, HR, KK⟩ := hrel
      by_cases hlt : j < m
      · have hlt' : (j : Int) < (m : Int) := by omega
        obtain ⟨x, hx⟩ : ∃ x, l[j]? = some x := ⟨_, List.getElem?_eq_getElem (by have := Hm.out; omega)⟩
        have hdn : dk.length = m := by rw [HK.out.n]; exact Hm.out
        obtain ⟨x0, x1, x2, x3, xl⟩ := (HR.out.at.one HR.out.b.lt (HK.out.at hx))
        rw [Nat.zero_add] at x0 x1 x2 x3
        have Hx : Hid (l[j]? = some x) := hx
        obtain ⟨W4, HW4⟩ : ∃ W4, Hid (W4 = wr.alloc (.cells x.v 74)) := ⟨_, rfl⟩
        have b4 : Below wr.heap.size wr W4 := by rw [HW4.out]; exact (Below.refl _ _).alloc (Nat.le_refl _) _
        have Z4 : Blk W4 wr.heap.size x.v 74 := by rw [HW4.out]; exact Blk.new wr _ _
        have K4' := KK.step (Nat.le_trans hb KK.size) b4
        have qx := qc x W4 K4'
        have R4 := HR.out.below b4
        clear hx
        obtain ⟨z0, z1, z2, z3⟩ := (⟨Z4.cell rfl, Z4.cell rfl, Z4.cell rfl, Z4.cell rfl⟩ : W4.cell? ⟨wr.heap.size, 0, none⟩ = some (.int .i64 x.c0) ∧ W4.cell? ⟨wr.heap.size, 1, none⟩ = some (.int .i64 x.c1) ∧ W4.cell? ⟨wr.heap.size, 2, none⟩ = some (.int .i64 x.c2) ∧ W4.cell? ⟨wr.heap.size, 3, none⟩ = some (.int .i64 x.c3))
        have zl := Z4.lt
        cases ep : p x
        · rw [ep] at qx
          go_upto_region 8 with fail
          rw [← HW4.out]
          go_wp2_with fail
          refine qx.mono ?_
          rintro e w5 ⟨rfl, b5⟩
          have K5 := K4'.step (Nat.le_trans hb K4'.size) b5
          have R5 := R4.below b5
          have Z5 := Z4.below b5
          clear z0 z1 z2 z3 zl xl x0 x1 x2 x3
          obtain ⟨z0, z1, z2, z3⟩ := (⟨Z5.cell rfl, Z5.cell rfl, Z5.cell rfl, Z5.cell rfl⟩ : w5.cell? ⟨wr.heap.size, 0, none⟩ = some (.int .i64 x.c0) ∧ w5.cell? ⟨wr.heap.size, 1, none⟩ = some (.int .i64 x.c1) ∧ w5.cell? ⟨wr.heap.size, 2, none⟩ = some (.int .i64 x.c2) ∧ w5.cell? ⟨wr.heap.size, 3, none⟩ = some (.int .i64 x.c3))
          have zl := Z5.lt
          have hi4 : i < dk.length := by omega
          obtain ⟨cur2, R6⟩ := R5.setAll i x hi4
          have HK2 : Hid (KpL p l (dk.set i x) (i + 1) (j + 1)) := HK.out.keep Hx.out ep
          have hgz : g ≠ wr.heap.size := by have := HR.out.b.lt; omega
          obtain ⟨y, hy⟩ : ∃ y, dk[i]? = some y := ⟨_, List.getElem?_eq_getElem hi4⟩
          obtain ⟨y0, y1, y2, y3, yl⟩ := R5.at.one R5.b.lt hy
          rw [Nat.zero_add] at y0 y1 y2 y3
          have fz0 := R5.b.frozen (i * 4)
          have fz1 := R5.b.frozen (i * 4 + 1)
          have fz2 := R5.b.frozen (i * 4 + 2)
          have fz3 := R5.b.frozen (i * 4 + 3)
          have HR6 : Hid _ := R6
          have HK6 : Hid _ := ((((K5).set (R5.b) (by decide) hbg (i * 4) (.int .i64 x.c0)).set ((R5.b).set (i * 4) (.int .i64 x.c0)) (by decide) hbg (i * 4 + 1) (.int .i64 x.c1)).set (((R5.b).set (i * 4) (.int .i64 x.c0)).set (i * 4 + 1) (.int .i64 x.c1)) (by decide) hbg (i * 4 + 2) (.int .i64 x.c2)).set ((((R5.b).set (i * 4) (.int .i64 x.c0)).set (i * 4 + 1) (.int .i64 x.c1)).set (i * 4 + 2) (.int .i64 x.c2)) (by decide) hbg (i * 4 + 3) (.int .i64 x.c3)
          have him : (i : Int) < (m : Int) := by omega
          clear hy R6
          go_wp2_with fail
          go_roundw
          case rel => exact ⟨i + 1, j + 1, dk.set i x, cur2, by go_num, by go_num, by omega, by omega, HK2, HR6, HK6.out⟩
          case measure => simp [intOf]; omega
        · rw [ep] at qx
          have HK2 : Hid (KpL p l dk i (j + 1)) := HK.out.skip Hx.out ep
          go_upto_region 8 with fail
          rw [← HW4.out]
          go_wp2_with fail
          refine qx.mono ?_
          rintro e w5 ⟨rfl, b5⟩
          have K5 := K4'.step (Nat.le_trans hb K4'.size) b5
          have R5 : Hid (RwS w5 g cap0 cur dk) := R4.below b5
          go_wp2_with fail
          go_roundw
          case rel => exact ⟨i, j + 1, dk, cur, rfl, by go_num, by omega, by omega, HK2, R5, K5⟩
          case measure => simp [intOf]; omega
      · obtain rfl : j = m := by omega
        have hlt' : ¬ (j : Int) < (j : Int) := by omega
        have hdn : dk.length = j := by rw [HK.out.n]; exact Hm.out
        have hT := HR.out.take i (by omega)
        have hTl : (dk.take i).length = i := by rw [List.length_take]; omega
        have hbd : ∀ t, t < (j - i) * 4 → i * 4 + t < cap0 * 4 := fun t ht => by
          have h0 := HR.out.le
          have h1 : i * 4 + (j - i) * 4 = j * 4 := by rw [← Nat.add_mul]; congr 1; omega
          have h2 : j * 4 ≤ cap0 * 4 := Nat.mul_le_mul_right _ (by omega)
          omega
        obtain ⟨LL, hL1, hL2, hcl⟩ := run_clear_struct (P := Tryz.prog) wr 29 74 K4.z.v 4 Tryz.underlying29 (fun w => by kernel_rfl) rfl (by omega) (by intro u hu; simp [K4.z] at hu; subst hu; rfl) g (i * 4) (j - i) (cap0 - i) (by omega) (fun t ht => HR.out.some _ (hbd t ht)) (fun t ht => HR.out.b.frozen _)
        obtain ⟨cur2, R6⟩ := RwS.clear LL wr cur (i * 4) hT (by rw [hTl]; exact Nat.le_refl _)
        have K6 := KT.setCells (T := fun t => t == 74) (by decide) hbg LL wr cur (i * 4) HR.out.b KK
        have HE : Hid (dk.take i = l.filter (fun x => !p x)) := HK.out.done (by rw [Hm.out]; exact Nat.le_refl _)
        have S6 := R6.sl hbg
        rw [hTl] at S6
        have HS6 : Hid (SlS (wr.setCells g (i * 4) LL) base (.slice (some ⟨g, 0, none⟩) i cap0) (dk.take i)) := S6
        have HK6 : Hid (KT (fun t => t == 74) base w (wr.setCells g (i * 4) LL)) := K6
        have hic : ¬ cap0 = i := by have := HR.out.le; omega
        have hic2 : ¬ i = cap0 := fun e => hic e.symm
        have hij2 : (i : Int) ≤ (j : Int) := by omega
        have hjc : (j : Int) ≤ (cap0 : Int) := by have := HR.out.le; omega
        have hicap : (i : Int) ≤ (cap0 : Int) := by omega
        clear S6 K6 R6 hT hL1 hL2 hbd hTl hdn
        go_wp2_with fail
        go_ret
        exact ⟨_, rfl, by rw [← HE.out]; exact HS6.out, HK6.out⟩
theorem d2_c (x : K2) (f0 : Nat) (fa : Int) (W : World) (hf : Blk W f0 #[.int .i64 fa] 2) :
    Calls Tryz.prog 54 #[.agg x.v, .pointer (some ⟨f0, 0, none⟩)] W fun e w' => e = .returned (.bool ((x.c0 == fa) || (x.c1 == fa))) ∧ Below W.heap.size W w' := by
  have h0 := hf.cell (i := 0) rfl
  have hl := hf.lt
  have hne : f0 ≠ W.heap.size := by omega
  cases e0 : x.c0 == fa
  · cases e1 : x.c1 == fa
    · go_enter Tryz.func54, Tryz.ntmps54
      go_wp2_with fail
      go_ret
      exact ⟨rfl, (Below.refl _ _).alloc (Nat.le_refl _) _⟩
    · go_enter Tryz.func54, Tryz.ntmps54
      go_wp2_with fail
      go_ret
      exact ⟨rfl, (Below.refl _ _).alloc (Nat.le_refl _) _⟩
  · go_enter Tryz.func54, Tryz.ntmps54
    go_wp2_with fail
    go_ret
    exact ⟨rfl, (Below.refl _ _).alloc (Nat.le_refl _) _⟩
set_option maxHeartbeats 8000000 in
theorem index_d2 (a : Option Addr) (m c : Nat) (l : List K2) (hl : l.length = m) (hm : m ≤ 6) (f0 : Nat) (fa : Int) (w : World) (hf : (fun W => Blk W f0 #[.int .i64 fa] 2) w) (hS : ArgO w a l) :
    Calls Tryz.prog 92 #[.slice a m c, .func (.func 54) #[] #[.pointer (some ⟨f0, 0, none⟩)]] w fun e w' => ∃ r : Int, e = .returned (.int .i64 r) ∧ ixP (fun (o : K2) => (o.c0 == fa) || (o.c1 == fa)) l r ∧ Below w.heap.size w w' := by
  have qc := fun (x : K2) W (h : Below w.heap.size w W) => d2_c x f0 fa W (Blk.below hf h)
  have Hl : Hid (l.length = m) := hl
  have HS : Hid (ArgO w a l) := hS
  have HI : Hid (∀ r, ixP (fun (o : K2) => (o.c0 == fa) || (o.c1 == fa)) l r = _) := fun _ => rfl
  obtain ⟨p, Hp⟩ : ∃ p : K2 → Bool, Hid (p = fun (o : K2) => (o.c0 == fa) || (o.c1 == fa)) := ⟨_, rfl⟩
  rw [← Hp.out] at HI ⊢
  replace qc : ∀ (x : K2) W, Below w.heap.size w W → Calls Tryz.prog 54 #[.agg x.v, .pointer (some ⟨f0, 0, none⟩)] W fun e w' => e = .returned (.bool (p x)) ∧ Below W.heap.size W w' := by rw [Hp.out]; exact qc
  clear hl hS hf Hp
  go_enter Tryz.func92, Tryz.ntmps92
  go_wp2_with fail
  go_loopw [8] (fun j wr => ∃ k : Nat, k ≤ m ∧ j = .int .i64 k ∧ Hid (∀ y ∈ l.take k, p y = false) ∧ Below w.heap.size w wr) (fun j _ => m - (intOf j).toNat)
  case atStart => exact ⟨0, Nat.zero_le _, rfl, (by intro y hy; simp at hy), Below.refl _ _⟩
  case round =>
    obtain ⟨k, hk, rfl, Hk, kb⟩ := hrel
    by_cases hlt : k < m
    · have hlt' : (k : Int) < (m : Int) := by omega
      obtain ⟨x, hx⟩ : ∃ x, l[k]? = some x := ⟨_, List.getElem?_eq_getElem (by have := Hl.out; omega)⟩
      obtain ⟨b, off, rfl, hb, hat⟩ := HS.out.at hx
      obtain ⟨x0, x1, xl⟩ := (hat.later hb kb).one (Nat.lt_of_lt_of_le hb kb.size) hx
      have Hx : Hid (l[k]? = some x) := hx
      have qx := qc x wr kb
      clear hx hat
      cases ep : p x
      · rw [ep] at qx
        have HE : Hid (∀ y ∈ l.take (k + 1), p y = false) := take_all Hk.out Hx.out ep
        go_wp2_with (go_at_call 54; refine qx.mono ?_; rintro e w1 ⟨rfl, b1⟩)
        go_roundw
        case rel => exact ⟨k + 1, by omega, by go_num, HE, kb.trans (b1.mono kb.size)⟩
        case measure => simp [intOf]; omega
      · rw [ep] at qx
        have HE : Hid (ixP p l (k : Int)) := .inr ⟨k, x, rfl, Hx.out, ep, Hk.out⟩
        go_wp2_with (go_at_call 54; refine qx.mono ?_; rintro e w1 ⟨rfl, b1⟩)
        go_ret
        exact ⟨_, rfl, HE.out, kb.trans (b1.mono kb.size)⟩
    · obtain rfl : m = k := by omega
      have hlt' : ¬ (m : Int) < (m : Int) := by omega
      have HE : Hid (ixP p l (-1)) := .inl ⟨rfl, fun y hy => Hk.out y (by rw [List.take_of_length_le (by have := Hl.out; omega)]; exact hy)⟩
      go_wp2_with fail
      go_ret
      exact ⟨_, rfl, HE.out, kb⟩
set_option maxRecDepth 20000 in
set_option maxHeartbeats 16000000 in
theorem delete_d2 (base : Nat) (v : Value) (l : List K2) (hl : l.length ≤ 6) (f0 : Nat) (fa : Int) (w : World) (hb : base ≤ w.heap.size) (hf : (fun W => Blk W f0 #[.int .i64 fa] 2) w) (hS : SlO w base v l) :
    Calls Tryz.prog 53 #[v, .func (.func 54) #[] #[.pointer (some ⟨f0, 0, none⟩)]] w fun e w' => ∃ v', e = .returned v' ∧ SlO w' base v' (l.filter (fun x => !(fun (o : K2) => (o.c0 == fa) || (o.c1 == fa)) x)) ∧ KT (fun t => t == 77) base w w' := by
  obtain ⟨a0, cap0, rfl, hA⟩ := hS.form
  have cI := index_d2 a0 l.length cap0 l rfl hl f0 fa w hf hA
  have qc := fun (x : K2) W (h : KT (fun t => t == 77) base w W) => d2_c x f0 fa W (KT.blk h hf (by decide))
  obtain ⟨p, Hp⟩ : ∃ p : K2 → Bool, Hid (p = fun (o : K2) => (o.c0 == fa) || (o.c1 == fa)) := ⟨_, rfl⟩
  rw [← Hp.out] at cI
  show Calls Tryz.prog 53 #[.slice a0 l.length cap0, .func (.func 54) #[] #[.pointer (some ⟨f0, 0, none⟩)]] w fun e w' => ∃ v', e = .returned v' ∧ SlO w' base v' (l.filter (fun x => !(fun (o : K2) => (o.c0 == fa) || (o.c1 == fa)) x)) ∧ KT (fun t => t == 77) base w w'
  rw [← Hp.out]
  replace qc : ∀ (x : K2) W, KT (fun t => t == 77) base w W → Calls Tryz.prog 54 #[.agg x.v, .pointer (some ⟨f0, 0, none⟩)] W fun e w' => e = .returned (.bool (p x)) ∧ Below W.heap.size W w' := by rw [Hp.out]; exact qc
  have HS : Hid (SlO w base (.slice a0 l.length cap0) l) := hS
  have K0 : KT (fun t => t == 77) base w w := KT.refl _ _ _
  have HF : Hid (∀ w' v', (∃ l', SlO w' base v' l' ∧ l' = l.filter (fun x => !p x)) → SlO w' base v' (l.filter (fun x => !p x))) := fun w' v' ⟨l', h, e⟩ => e ▸ h
  obtain ⟨m, Hm⟩ : ∃ m, Hid (l.length = m) := ⟨_, rfl⟩
  have hm6 : m ≤ 6 := by rw [← Hm.out]; exact hl
  have hi : ∀ r, ixP p l r → r = -1 ∨ 0 ≤ r := fun r h => by rcases h with ⟨h, _⟩ | ⟨k, x, h, _⟩ <;> omega
  rw [Hm.out] at cI HS ⊢
  clear hf hS hA Hp hl
  go_enter Tryz.func53, Tryz.ntmps53
  go_wp2_with fail
  refine cI.mono ?_
  rintro e w1 ⟨r, rfl, hr, b1⟩
  have K1 := K0.step hb b1
  rcases hr with ⟨rfl, hall⟩ | ⟨k, x, rfl, hx, hpx, hbef⟩
  · have HE : Hid (l.filter (fun x => !p x) = l) := by
      show List.filter _ _ = _
      rw [List.filter_eq_self]; intro y hy; rw [hall y hy]; rfl
    have HQ : Hid (SlO w1 base (.slice a0 m cap0) l) := HS.out.below b1
    clear hall hi HF
    go_wp2_with fail
    go_ret
    exact ⟨_, rfl, by rw [HE.out]; exact HQ.out, K1⟩
  · have hkm : k < m := by rw [← Hm.out]; exact (List.getElem?_eq_some_iff.1 hx).1
    have hQ := HS.out.below b1
    rcases hQ.row with ⟨h1, h2⟩ | ⟨g, cap, cur, h1, hbg, hR⟩
    · rw [h2] at hx; simp at hx
    rw [Hm.out] at h1
    injection h1 with e1 e2 e3
    subst e1 e3
    have HK : Hid (KpL p l l k (k + 1)) := KpL.start hbef hx hpx
    have HR : Hid (RwO w1 g cap0 cur l) := hR
    have hk1 : ((k : Int) == -1) = false := beq_eq_false_iff_ne.2 (by omega)
    have hcapm : m ≤ cap0 := by rw [← Hm.out]; exact hR.le
    clear hQ HS hx hpx hbef hR hi
    go_wp2_with fail
    go_loopw [5, 6, 7] (fun s5 s6 _ wr => ∃ (i j : Nat) (dk : List K2) (cur : Array Value), s5 = .int .i64 i ∧ s6 = .int .i64 j ∧ j ≤ m ∧ i < j ∧ Hid (KpL p l dk i j) ∧ Hid (RwO wr g cap0 cur dk) ∧ KT (fun t => t == 77) base w wr) (fun _ s6 _ _ => m - (intOf s6).toNat)
    case atStart => exact ⟨k, k + 1, l, cur, rfl, by go_num, by omega, by omega, HK, HR, K1⟩
    case round =>
      obtain ⟨i, j, dk, cur, rfl, rfl, hj, hij, HK, HR, KK⟩ := hrel
      by_cases hlt : j < m
      · have hlt' : (j : Int) < (m : Int) := by omega
        obtain ⟨x, hx⟩ : ∃ x, l[j]? = some x := ⟨_, List.getElem?_eq_getElem (by have := Hm.out; omega)⟩
        have hdn : dk.length = m := by rw [HK.out.n]; exact Hm.out
        obtain ⟨x0, x1, xl⟩ := (HR.out.at.one HR.out.b.lt (HK.out.at hx))
        rw [Nat.zero_add] at x0 x1
        have Hx : Hid (l[j]? = some x) := hx
        obtain ⟨W4, HW4⟩ : ∃ W4, Hid (W4 = wr.alloc (.cells x.v 77)) := ⟨_, rfl⟩
        have b4 : Below wr.heap.size wr W4 := by rw [HW4.out]; exact (Below.refl _ _).alloc (Nat.le_refl _) _
        have Z4 : Blk W4 wr.heap.size x.v 77 := by rw [HW4.out]; exact Blk.new wr _ _
        have K4' := KK.step (Nat.le_trans hb KK.size) b4
        have qx := qc x W4 K4'
        have R4 := HR.out.below b4
        clear hx
        obtain ⟨z0, z1⟩ := (⟨Z4.cell rfl, Z4.cell rfl⟩ : W4.cell? ⟨wr.heap.size, 0, none⟩ = some (.int .i64 x.c0) ∧ W4.cell? ⟨wr.heap.size, 1, none⟩ = some (.int .i64 x.c1))
        have zl := Z4.lt
        cases ep : p x
        · rw [ep] at qx
          go_upto_region 8 with fail
          rw [← HW4.out]
          go_wp2_with fail
          refine qx.mono ?_
          rintro e w5 ⟨rfl, b5⟩
          have K5 := K4'.step (Nat.le_trans hb K4'.size) b5
          have R5 := R4.below b5
          have Z5 := Z4.below b5
          clear z0 z1 zl xl x0 x1
          obtain ⟨z0, z1⟩ := (⟨Z5.cell rfl, Z5.cell rfl⟩ : w5.cell? ⟨wr.heap.size, 0, none⟩ = some (.int .i64 x.c0) ∧ w5.cell? ⟨wr.heap.size, 1, none⟩ = some (.int .i64 x.c1))
          have zl := Z5.lt
          have hi4 : i < dk.length := by omega
          obtain ⟨cur2, R6⟩ := R5.setAll i x hi4
          have HK2 : Hid (KpL p l (dk.set i x) (i + 1) (j + 1)) := HK.out.keep Hx.out ep
          have hgz : g ≠ wr.heap.size := by have := HR.out.b.lt; omega
          obtain ⟨y, hy⟩ : ∃ y, dk[i]? = some y := ⟨_, List.getElem?_eq_getElem hi4⟩
          obtain ⟨y0, y1, yl⟩ := R5.at.one R5.b.lt hy
          rw [Nat.zero_add] at y0 y1
          have fz0 := R5.b.frozen (i * 2)
          have fz1 := R5.b.frozen (i * 2 + 1)
          have HR6 : Hid _ := R6
          have HK6 : Hid _ := ((K5).set (R5.b) (by decide) hbg (i * 2) (.int .i64 x.c0)).set ((R5.b).set (i * 2) (.int .i64 x.c0)) (by decide) hbg (i * 2 + 1) (.int .i64 x.c1)
          have him : (i : Int) < (m : Int) := by omega
          clear hy R6
          go_wp2_with fail
          go_roundw
          case rel => exact ⟨i + 1, j + 1, dk.set i x, cur2, by go_num, by go_num, by omega, by omega, HK2, HR6, HK6.out⟩
          case measure => simp [intOf]; omega
        · rw [ep] at qx
          have HK2 : Hid (KpL p l dk i (j + 1)) := HK.out.skip Hx.out ep
          go_upto_region 8 with fail
          rw [← HW4.out]
          go_wp2_with fail
          refine qx.mono ?_
          rintro e w5 ⟨rfl, b5⟩
          have K5 := K4'.step (Nat.le_trans hb K4'.size) b5
          have R5 : Hid (RwO w5 g cap0 cur dk) := R4.below b5
          go_wp2_with fail
          go_roundw
          case rel => exact ⟨i, j + 1, dk, cur, rfl, by go_num, by omega, by omega, HK2, R5, K5⟩
          case measure => simp [intOf]; omega
      · obtain rfl : j = m := by omega
        have hlt' : ¬ (j : Int) < (j : Int) := by omega
        have hdn : dk.length = j := by rw [HK.out.n]; exact Hm.out
        have hT := HR.out.take i (by omega)
        have hTl : (dk.take i).length = i := by rw [List.length_take]; omega
        have hbd : ∀ t, t < (j - i) * 2 → i * 2 + t < cap0 * 2 := fun t ht => by
          have h0 := HR.out.le
          have h1 : i * 2 + (j - i) * 2 = j * 2 := by rw [← Nat.add_mul]; congr 1; omega
          have h2 : j * 2 ≤ cap0 * 2 := Nat.mul_le_mul_right _ (by omega)
          omega
        obtain ⟨LL, hL1, hL2, hcl⟩ := run_clear_struct (P := Tryz.prog) wr 30 77 K2.z.v 2 Tryz.underlying30 (fun w => by kernel_rfl) rfl (by omega) (by intro u hu; simp [K2.z] at hu; subst hu; rfl) g (i * 2) (j - i) (cap0 - i) (by omega) (fun t ht => HR.out.some _ (hbd t ht)) (fun t ht => HR.out.b.frozen _)
        obtain ⟨cur2, R6⟩ := RwO.clear LL wr cur (i * 2) hT (by rw [hTl]; exact Nat.le_refl _)
        have K6 := KT.setCells (T := fun t => t == 77) (by decide) hbg LL wr cur (i * 2) HR.out.b KK
        have HE : Hid (dk.take i = l.filter (fun x => !p x)) := HK.out.done (by rw [Hm.out]; exact Nat.le_refl _)
        have S6 := R6.sl hbg
        rw [hTl] at S6
        have HS6 : Hid (SlO (wr.setCells g (i * 2) LL) base (.slice (some ⟨g, 0, none⟩) i cap0) (dk.take i)) := S6
        have HK6 : Hid (KT (fun t => t == 77) base w (wr.setCells g (i * 2) LL)) := K6
        have hic : ¬ cap0 = i := by have := HR.out.le; omega
        have hic2 : ¬ i = cap0 := fun e => hic e.symm
        have hij2 : (i : Int) ≤ (j : Int) := by omega
        have hjc : (j : Int) ≤ (cap0 : Int) := by have := HR.out.le; omega
        have hicap : (i : Int) ≤ (cap0 : Int) := by omega
        clear S6 K6 R6 hT hL1 hL2 hbd hTl hdn
        go_wp2_with fail
        go_ret
        exact ⟨_, rfl, by rw [← HE.out]; exact HS6.out, HK6.out⟩
end Go.Proofs.YtlfnnobkgbfdgaaGreat
end
