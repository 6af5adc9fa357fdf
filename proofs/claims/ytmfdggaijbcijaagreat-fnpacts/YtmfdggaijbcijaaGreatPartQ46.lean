/- Texts of mine put together (a claim holds at most 60 files): SameWI. -/
import Derived.Test.YtmfdggaijbcijaaGreatPartQ45
import Derived.Test.YtmfdggaijbcijaaGreatPartQ01

/- SameWI -/
/- The contract of SameWorlds at two worlds that have the same, whose lists may be nil. Condition: the lists are short. -/
section
namespace Go.Proofs.YtmfdggaijbcijaaGreat
open Go.ChangeShapes Go.WideShapes Go.ChangeAt Go.RowKit
open Bd
set_option linter.unusedVariables false

theorem ArgA.at' {w : World} {a : Option Addr} {l : List KA} (h : ArgA w a l) {i : Nat} {x : KA} (hi : l[i]? = some x) : ∃ b off, a = some ⟨b, off, none⟩ ∧ b < w.heap.size ∧ AAt w b off l := by
  rcases h with rfl | h
  · simp at hi
  · exact h
theorem ArgA.drewN' {w : World} {a : Option Addr} {l : List KA} (h : ArgA w a l) (n : Nat) : ArgA (w.drewN n) a l := h.later (below_drewN _ _)
set_option maxHeartbeats 2000000 in
theorem eqA_same (w : World) (a1 a2 : Option Addr) (m c1 c2 : Nat) (l : List KA) (hl : l.length = m) (hm : m ≤ 1000) (h1 : ArgA w a1 l) (h2 : ArgA w a2 l) :
    Calls Tryz.prog 58 #[.slice a1 m c1, .slice a2 m c2] w fun e w' => e = .returned (.bool true) ∧ ∃ nq, w' = w.drewN nq := by
  have H1 : Hid (ArgA w a1 l) := h1
  have H2 : Hid (ArgA w a2 l) := h2
  have Hl : Hid (l.length = m) := hl
  clear h1 h2 hl
  go_enter Tryz.func58, Tryz.ntmps58
  go_wp2
  go_loopw [13] (fun i wr => ∃ k : Nat, k ≤ m ∧ i = .int .i64 k ∧ ∃ nq, wr = w.drewN nq) (fun i _ => m - (intOf i).toNat)
  case atStart => exact ⟨0, Nat.zero_le _, rfl, 0, rfl⟩
  case round =>
    obtain ⟨k, hk, rfl, nq0, rfl⟩ := hrel
    by_cases hlt : k < m
    · have hlt' : (k : Int) < (m : Int) := by omega
      obtain ⟨x, hx⟩ : ∃ x, l[k]? = some x := ⟨_, List.getElem?_eq_getElem (by have := Hl.out; omega)⟩
      obtain ⟨b, off, rfl, hb, hat⟩ := H1.out.at' hx
      obtain ⟨b', off', rfl, hb', hat'⟩ := H2.out.at' hx
      obtain ⟨a0, a1, a2⟩ := hat.all hx
      obtain ⟨b0, b1, b2⟩ := hat'.all hx
      have hne := neqA x x
      rw [KA.b_self] at hne
      clear hx hat hat'
      go_wp2
      go_quiet (fail)
      go_wp2
      go_roundw
      case rel => first | exact ⟨k + 1, by omega, by go_num, _, rfl⟩ | exact ⟨k + 1, by omega, by go_num, _, drewN_trans _ _ _⟩
      case measure => simp [intOf]; omega
    · obtain rfl : k = m := by omega
      go_wp2
      go_ret
      exact ⟨rfl, nq0, rfl⟩
theorem ArgS.at' {w : World} {a : Option Addr} {l : List K4} (h : ArgS w a l) {i : Nat} {x : K4} (hi : l[i]? = some x) : ∃ b off, a = some ⟨b, off, none⟩ ∧ b < w.heap.size ∧ SAt w b off l := by
  rcases h with rfl | h
  · simp at hi
  · exact h
theorem ArgS.drewN' {w : World} {a : Option Addr} {l : List K4} (h : ArgS w a l) (n : Nat) : ArgS (w.drewN n) a l := h.later (below_drewN _ _)
set_option maxHeartbeats 2000000 in
theorem eqS_same (w : World) (a1 a2 : Option Addr) (m c1 c2 : Nat) (l : List K4) (hl : l.length = m) (hm : m ≤ 1000) (h1 : ArgS w a1 l) (h2 : ArgS w a2 l) :
    Calls Tryz.prog 59 #[.slice a1 m c1, .slice a2 m c2] w fun e w' => e = .returned (.bool true) ∧ ∃ nq, w' = w.drewN nq := by
  have H1 : Hid (ArgS w a1 l) := h1
  have H2 : Hid (ArgS w a2 l) := h2
  have Hl : Hid (l.length = m) := hl
  clear h1 h2 hl
  go_enter Tryz.func59, Tryz.ntmps59
  go_wp2
  go_loopw [13] (fun i wr => ∃ k : Nat, k ≤ m ∧ i = .int .i64 k ∧ ∃ nq, wr = w.drewN nq) (fun i _ => m - (intOf i).toNat)
  case atStart => exact ⟨0, Nat.zero_le _, rfl, 0, rfl⟩
  case round =>
    obtain ⟨k, hk, rfl, nq0, rfl⟩ := hrel
    by_cases hlt : k < m
    · have hlt' : (k : Int) < (m : Int) := by omega
      obtain ⟨x, hx⟩ : ∃ x, l[k]? = some x := ⟨_, List.getElem?_eq_getElem (by have := Hl.out; omega)⟩
      obtain ⟨b, off, rfl, hb, hat⟩ := H1.out.at' hx
      obtain ⟨b', off', rfl, hb', hat'⟩ := H2.out.at' hx
      obtain ⟨a0, a1, a2, a3⟩ := hat.all hx
      obtain ⟨b0, b1, b2, b3⟩ := hat'.all hx
      have hne := neqS x x
      rw [K4.b_self] at hne
      clear hx hat hat'
      go_wp2
      go_quiet (fail)
      go_wp2
      go_roundw
      case rel => first | exact ⟨k + 1, by omega, by go_num, _, rfl⟩ | exact ⟨k + 1, by omega, by go_num, _, drewN_trans _ _ _⟩
      case measure => simp [intOf]; omega
    · obtain rfl : k = m := by omega
      go_wp2
      go_ret
      exact ⟨rfl, nq0, rfl⟩
theorem ArgO.at' {w : World} {a : Option Addr} {l : List K2} (h : ArgO w a l) {i : Nat} {x : K2} (hi : l[i]? = some x) : ∃ b off, a = some ⟨b, off, none⟩ ∧ b < w.heap.size ∧ OAt w b off l := by
  rcases h with rfl | h
  · simp at hi
  · exact h
theorem ArgO.drewN' {w : World} {a : Option Addr} {l : List K2} (h : ArgO w a l) (n : Nat) : ArgO (w.drewN n) a l := h.later (below_drewN _ _)
set_option maxHeartbeats 2000000 in
theorem eqO_same (w : World) (a1 a2 : Option Addr) (m c1 c2 : Nat) (l : List K2) (hl : l.length = m) (hm : m ≤ 1000) (h1 : ArgO w a1 l) (h2 : ArgO w a2 l) :
    Calls Tryz.prog 60 #[.slice a1 m c1, .slice a2 m c2] w fun e w' => e = .returned (.bool true) ∧ ∃ nq, w' = w.drewN nq := by
  have H1 : Hid (ArgO w a1 l) := h1
  have H2 : Hid (ArgO w a2 l) := h2
  have Hl : Hid (l.length = m) := hl
  clear h1 h2 hl
  go_enter Tryz.func60, Tryz.ntmps60
  go_wp2
  go_loopw [13] (fun i wr => ∃ k : Nat, k ≤ m ∧ i = .int .i64 k ∧ ∃ nq, wr = w.drewN nq) (fun i _ => m - (intOf i).toNat)
  case atStart => exact ⟨0, Nat.zero_le _, rfl, 0, rfl⟩
  case round =>
    obtain ⟨k, hk, rfl, nq0, rfl⟩ := hrel
    by_cases hlt : k < m
    · have hlt' : (k : Int) < (m : Int) := by omega
      obtain ⟨x, hx⟩ : ∃ x, l[k]? = some x := ⟨_, List.getElem?_eq_getElem (by have := Hl.out; omega)⟩
      obtain ⟨b, off, rfl, hb, hat⟩ := H1.out.at' hx
      obtain ⟨b', off', rfl, hb', hat'⟩ := H2.out.at' hx
      obtain ⟨a0, a1⟩ := hat.all hx
      obtain ⟨b0, b1⟩ := hat'.all hx
      have hne := neqO x x
      rw [K2.b_self] at hne
      clear hx hat hat'
      go_wp2
      go_quiet (fail)
      go_wp2
      go_roundw
      case rel => first | exact ⟨k + 1, by omega, by go_num, _, rfl⟩ | exact ⟨k + 1, by omega, by go_num, _, drewN_trans _ _ _⟩
      case measure => simp [intOf]; omega
    · obtain rfl : k = m := by omega
      go_wp2
      go_ret
      exact ⟨rfl, nq0, rfl⟩
set_option maxRecDepth 20000 in
set_option maxHeartbeats 16000000 in
theorem sameW_in (p p' : WP) (x : KW) (w : World) (h : ArgW w p x) (h' : ArgW w p' x) (hu : x.us.length ≤ 1000) (hf : x.fs.length ≤ 1000) (ha : x.fa.length ≤ 1000) (hs : x.se.length ≤ 1000) (ho : x.oo.length ≤ 1000) :
    Calls Tryz.prog 16 #[.agg (p.v x), .agg (p'.v x)] w fun e w' => e = .returned (.bool true) ∧ Below w.heap.size w w' := by
  obtain ⟨t, s, us, fs, fa, se, oo⟩ := x
  obtain ⟨u, uc, f, fc, a, ac, q, qc, r, rc⟩ := p
  obtain ⟨u', uc', f', fc', a', ac', q', qc', r', rc'⟩ := p'
  dsimp only at hu hf ha hs ho
  show Calls Tryz.prog 16 #[.agg (wv t s u us.length uc f fs.length fc a fa.length ac q se.length qc r oo.length rc), .agg (wv t s u' us.length uc' f' fs.length fc' a' fa.length ac' q' se.length qc' r' oo.length rc')] w _
  have cB := fun W (b : Below w.heap.size w W) => sameB_in W u f u' f' us.length fs.length uc fc uc' fc' us fs rfl rfl hu hf (h.later b).u (h.later b).f (h'.later b).u (h'.later b).f
  have cA := fun W (b : Below w.heap.size w W) => eqA_same W a a' fa.length ac ac' fa rfl ha (h.later b).a (h'.later b).a
  have cS := fun W (b : Below w.heap.size w W) => eqS_same W q q' se.length qc qc' se rfl hs (h.later b).s (h'.later b).s
  have cO := fun W (b : Below w.heap.size w W) => eqO_same W r r' oo.length rc rc' oo rfl ho (h.later b).o (h'.later b).o
  generalize us.length = mu at cB ⊢
  generalize fs.length = mf at cB ⊢
  generalize fa.length = ma at cA ⊢
  generalize se.length = ms at cS ⊢
  generalize oo.length = mo at cO ⊢
  clear h h' hu hf ha hs ho
  obtain ⟨W, HW⟩ : ∃ W, Hid (W = (w.alloc (.cells (wv t s u mu uc f mf fc a ma ac q ms qc r mo rc) 32)).alloc (.cells (wv t s u' mu uc' f' mf fc' a' ma ac' q' ms qc' r' mo rc') 32)) := ⟨_, rfl⟩
  have B2 : Below w.heap.size w W := by rw [HW.out]; exact ((Below.refl _ _).alloc (Nat.le_refl _) _).alloc (by rw [size_new]; omega) _
  have P : Bk W w.heap.size (wv t s u mu uc f mf fc a ma ac q ms qc r mo rc) 32 := by rw [HW.out]; exact (Bk.new w (wv t s u mu uc f mf fc a ma ac q ms qc r mo rc) 32).alloc _
  have Q : Bk W (w.heap.size + 1) (wv t s u' mu uc' f' mf fc' a' ma ac' q' ms qc' r' mo rc') 32 := by rw [HW.out]; have h := Bk.new (w.alloc (.cells (wv t s u mu uc f mf fc a ma ac q ms qc r mo rc) 32)) (wv t s u' mu uc' f' mf fc' a' ma ac' q' ms qc' r' mo rc') 32; rw [size_new] at h; exact h
  have keep : ∀ w', Below W.heap.size W w' → w'.cell? ⟨w.heap.size, 0, none⟩ = some (.int .i64 t) ∧ w'.cell? ⟨w.heap.size, 1, none⟩ = some (.int .i64 s) ∧ w'.cell? ⟨w.heap.size, 2, none⟩ = some (.slice u mu uc) ∧ w'.cell? ⟨w.heap.size, 3, none⟩ = some (.slice f mf fc) ∧ w'.cell? ⟨w.heap.size, 4, none⟩ = some (.slice a ma ac) ∧ w'.cell? ⟨w.heap.size, 5, none⟩ = some (.slice q ms qc) ∧ w'.cell? ⟨w.heap.size, 6, none⟩ = some (.slice r mo rc) ∧ w'.cell? ⟨w.heap.size + 1, 0, none⟩ = some (.int .i64 t) ∧ w'.cell? ⟨w.heap.size + 1, 1, none⟩ = some (.int .i64 s) ∧ w'.cell? ⟨w.heap.size + 1, 2, none⟩ = some (.slice u' mu uc') ∧ w'.cell? ⟨w.heap.size + 1, 3, none⟩ = some (.slice f' mf fc') ∧ w'.cell? ⟨w.heap.size + 1, 4, none⟩ = some (.slice a' ma ac') ∧ w'.cell? ⟨w.heap.size + 1, 5, none⟩ = some (.slice q' ms qc') ∧ w'.cell? ⟨w.heap.size + 1, 6, none⟩ = some (.slice r' mo rc') ∧ w.heap.size < w'.heap.size ∧ w.heap.size + 1 < w'.heap.size := fun w' hb => by
    have q1 := P.below hb
    have b1 := Q.below hb
    exact ⟨q1.cell rfl, q1.cell rfl, q1.cell rfl, q1.cell rfl, q1.cell rfl, q1.cell rfl, q1.cell rfl, b1.cell rfl, b1.cell rfl, b1.cell rfl, b1.cell rfl, b1.cell rfl, b1.cell rfl, b1.cell rfl, q1.lt, b1.lt⟩
  obtain ⟨x0, x1, x2, x3, x4, x5, x6, y0, y1, y2, y3, y4, y5, y6, xl, yl⟩ := keep _ (Below.refl _ _)
  have Bc : Below W.heap.size W W := Below.refl _ _
  clear P Q
  go_enter Tryz.func16, Tryz.ntmps16
  go_upto_region 1 with fail
  rw [← HW.out]
  try simp only [List.append]
  go_wp2_with (first | (go_at_call 57; refine (cB _ (B2.trans (Bc.mono B2.size))).mono ?_; rintro e wn ⟨rfl, kn⟩; have Bc := Bc.trans (kn.mono Bc.size); obtain ⟨x0, x1, x2, x3, x4, x5, x6, y0, y1, y2, y3, y4, y5, y6, xl, yl⟩ := keep _ Bc) | (go_at_call 58; refine (cA _ (B2.trans (Bc.mono B2.size))).mono ?_; rintro e wn ⟨rfl, nq, hnq⟩; have kn : Below _ _ wn := hnq ▸ below_drewN _ nq; clear hnq; have Bc := Bc.trans (kn.mono Bc.size); obtain ⟨x0, x1, x2, x3, x4, x5, x6, y0, y1, y2, y3, y4, y5, y6, xl, yl⟩ := keep _ Bc) | (go_at_call 59; refine (cS _ (B2.trans (Bc.mono B2.size))).mono ?_; rintro e wn ⟨rfl, nq, hnq⟩; have kn : Below _ _ wn := hnq ▸ below_drewN _ nq; clear hnq; have Bc := Bc.trans (kn.mono Bc.size); obtain ⟨x0, x1, x2, x3, x4, x5, x6, y0, y1, y2, y3, y4, y5, y6, xl, yl⟩ := keep _ Bc) | (go_at_call 60; refine (cO _ (B2.trans (Bc.mono B2.size))).mono ?_; rintro e wn ⟨rfl, nq, hnq⟩; have kn : Below _ _ wn := hnq ▸ below_drewN _ nq; clear hnq; have Bc := Bc.trans (kn.mono Bc.size); obtain ⟨x0, x1, x2, x3, x4, x5, x6, y0, y1, y2, y3, y4, y5, y6, xl, yl⟩ := keep _ Bc))
  go_ret
  exact ⟨rfl, B2.trans (Bc.mono B2.size)⟩
end Go.Proofs.YtmfdggaijbcijaaGreat
end
