/- Texts of mine put together (a claim holds at most 60 files): BoardWalks2, SumWalks, MapU, PutSpec, OneWalks. -/
import Derived.Test.YtmfdggaijbcijaaGreatPartQ04
import Derived.Test.YtmfdggaijbcijaaGreatPartQ00
import Derived.Maps.Own
import Derived.Maps.Views
import Derived.Test.YtmfdggaijbcijaaGreatPartQ05
import Derived.Deep.RegionHeld3
import Derived.Deep.Cut
import Derived.Deep.CutRange
import Derived.Outline

/- BoardWalks2 -/
/- The contract of the program's BoardFault. Condition: the board's two lists lie in memory as they were laid there. -/
section
namespace Go.Proofs.YtmfdggaijbcijaaGreat
open Go.ChangeShapes Go.WideShapes Go.ChangeAt Go.RowKit
open Bd
set_option linter.unusedVariables false

set_option maxHeartbeats 4000000 in
theorem implBoardFault (a : Option Addr) (m c : Nat) (a' : Option Addr) (m' c' : Nat) (us : List K10) (fs : List K3) (hl : us.length = m) (hl' : fs.length = m') (w0 : World) (hU0 : ArgU w0 a us) (hF0 : ArgF w0 a' fs) :
    Calls Tryz.prog 50 #[.agg #[.slice a m c, .slice a' m' c']] w0 fun e w' => e = .returned (.int .i64 (bf us fs)) ∧ Below w0.heap.size w0 w' := by
  obtain ⟨w, Hw⟩ : ∃ w, Hid (w = w0.alloc (.cells #[.slice a m c, .slice a' m' c'] 27)) := ⟨_, rfl⟩
  have hB0 : Below w0.heap.size w0 w := by rw [Hw.out]; exact (Below.refl _ _).alloc (Nat.le_refl _) _
  have hB : BrdAt w w0.heap.size (.slice a m c) (.slice a' m' c') := by rw [Hw.out]; exact BrdAt.new w0 _ _ _
  have HB : Hid (BrdAt w w0.heap.size (.slice a m c) (.slice a' m' c')) := hB
  have HU : Hid (ArgU w a us) := hU0.later hB0
  have HF : Hid (ArgF w a' fs) := hF0.later hB0
  have Hl : Hid (us.length = m) := hl
  have Hl' : Hid (fs.length = m') := hl'
  obtain ⟨b0, b1, blt⟩ := hB
  clear hU0 hF0
  by_cases h8 : 8 < m
  · have e : bf us fs = 2 := by unfold bf; rw [if_pos (by omega)]
    rw [e]
    clear e hl hl'
    have d : (8 : Int) < (m : Int) := by omega
    go_enter Tryz.func50, Tryz.ntmps50
    go_wp2
    go_ret
    exact ⟨rfl, (Below.refl _ _).alloc (Nat.le_refl _) _⟩
  by_cases h4 : 4 < m'
  · have e : bf us fs = 2 := by unfold bf; rw [if_pos (by omega)]
    rw [e]
    clear e hl hl'
    have d0 : decide ((8 : Int) < (m : Int)) = false := decide_eq_false (by omega)
    have d : (4 : Int) < (m' : Int) := by omega
    go_enter Tryz.func50, Tryz.ntmps50
    go_wp2
    go_ret
    exact ⟨rfl, (Below.refl _ _).alloc (Nat.le_refl _) _⟩
  have e : bf us fs = ufs (prevId us 0) (ffs fs) (us.drop 0) := by unfold bf prevId; rw [if_neg (by omega), if_pos rfl]; rfl
  obtain ⟨R, HR⟩ : ∃ R : Int, Hid (R = bf us fs) := ⟨_, rfl⟩
  rw [← HR.out]
  have HR0 : Hid (R = ufs (prevId us 0) (ffs fs) (us.drop 0)) := by show _ = _; rw [HR.out, e]
  clear e hl hl' HR
  have d8 : decide ((8 : Int) < (m : Int)) = false := decide_eq_false (by omega)
  have d4 : decide ((4 : Int) < (m' : Int)) = false := decide_eq_false (by omega)
  obtain ⟨G, HG⟩ : ∃ G : Nat, Hid (G = w0.heap.size) := ⟨_, rfl⟩
  go_enter Tryz.func50, Tryz.ntmps50
  go_wp2
  rw [← Hw.out, ← HG.out]
  replace HB : Hid (BrdAt w G (.slice a m c) (.slice a' m' c')) := by rw [HG.out]; exact HB
  clear b0 b1 blt
  go_loopw [21] (fun i wr => ∃ k : Nat, k ≤ m ∧ i = .int .i64 k ∧ Hid (R = ufs (prevId us k) (ffs fs) (us.drop k)) ∧ Below w.heap.size w wr) (fun i _ => m - (intOf i).toNat)
  case atStart => exact ⟨0, Nat.zero_le _, rfl, HR0, Below.refl _ _⟩
  case round =>
    obtain ⟨k, hk, rfl, Hk, hbel⟩ := hrel
    obtain ⟨b0, b1, blt⟩ := HB.out.later hbel
    by_cases hlt : k < m
    · have hlt' : (k : Int) < (m : Int) := by omega
      obtain ⟨x, hx⟩ : ∃ x, us[k]? = some x := ⟨_, List.getElem?_eq_getElem (by have := Hl.out; omega)⟩
      obtain ⟨b, off, rfl, hb, hat⟩ := HU.out.at hx
      obtain ⟨x0, x1, x2, x3, x4, x5, x6, x7, x8, x9, xl⟩ := (hat.later hb hbel).one (Nat.lt_of_lt_of_le hb hbel.size) hx
      have cU := fun w => implUnitFault x w
      have HS : Hid (R = if (uf x == 0) = false then uf x else if leP (prevId us k) x.c0 = true then 1 else ufs (some x.c0) (ffs fs) (us.drop (k + 1))) := by show _ = _; rw [Hk.out, ufs_step hx]
      have Hx : Hid (us[k]? = some x) := hx
      have Hat : Hid (UAt w b off us) := hat
      have B1 : Below wr.heap.size wr (wr.alloc (.cells x.v 113)) := (Below.refl _ _).alloc (Nat.le_refl _) _
      have S1 := (U1.new wr x 113)
      clear hx hat
      go_wp2_with fail
      refine (cU _).mono ?_
      rintro e w1 ⟨rfl, k1⟩
      obtain ⟨v0, v1, v2, v3, v4, v5, v6, v7, v8, v9, vl⟩ := S1.later k1
      have hbel1 := hbel.trans ((B1.trans (k1.mono B1.size)).mono hbel.size)
      obtain ⟨b0, b1, blt⟩ := HB.out.later hbel1
      clear cU k1 B1 S1 x0 x1 x2 x3 x4 x5 x6 x7 x8 x9 v1 v2 v3 v4 v5 v6 v7 v8 v9
      cases hq : uf x == 0
      · have HE : Hid (R = uf x) := by show _ = _; rw [HS.out, if_pos hq]
        have hq' := bne_of hq
        go_wp2
        go_ret
        exact ⟨by rw [HE.out]; rfl, hB0.trans (hbel1.mono hB0.size)⟩
      · have hz : uf x = 0 := by simpa using hq
        have hq' : (uf x != 0) = false := by simp only [bne, hq]; rfl
        have HN : Hid (prevId us (k + 1) = some x.c0) := prevId_next Hx.out
        rcases k with _ | k
        · have HE : Hid (R = ufs (prevId us (0 + 1)) (ffs fs) (us.drop (0 + 1))) := by show _ = _; rw [HS.out, if_neg (by rw [hq]; simp), HN.out]; rfl
          go_wp2
          go_quiet (fail)
          go_wp2
          go_roundw
          case rel => exact ⟨0 + 1, by omega, by go_num, HE, hbel1.trans ((below_drewN _ _).mono hbel1.size)⟩
          case measure => simp [intOf]; omega
        · obtain ⟨y, hy⟩ : ∃ y, us[k]? = some y := ⟨_, List.getElem?_eq_getElem (by have := Hl.out; omega)⟩
          have HP : Hid (prevId us (k + 1) = some y.c0) := prevId_next hy
          have a1 := (Hat.out.later hb hbel1).all hy |>.1
          clear hy
          cases hd : decide (x.c0 ≤ y.c0)
          · have HE : Hid (R = ufs (prevId us (k + 1 + 1)) (ffs fs) (us.drop (k + 1 + 1))) := by
              show _ = _
              rw [HS.out, if_neg (by rw [hq]; simp), HN.out, HP.out, if_neg (by show ¬ decide (x.c0 ≤ y.c0) = true; rw [hd]; simp)]
            go_wp2
            go_quiet (fail)
            go_wp2
            go_roundw
            case rel => exact ⟨k + 1 + 1, by omega, by go_num, HE, hbel1.trans ((below_drewN _ _).mono hbel1.size)⟩
            case measure => simp [intOf]; omega
          · have HE : Hid (R = 1) := by
              show _ = _
              rw [HS.out, if_neg (by rw [hq]; simp), HP.out, if_pos (show leP (some y.c0) x.c0 = true from hd)]
            go_wp2
            go_quiet (fail)
            go_wp2
            go_ret
            exact ⟨by rw [HE.out]; rfl, hB0.trans ((hbel1.trans ((below_drewN _ _).mono hbel1.size)).mono hB0.size)⟩
    · obtain rfl : k = m := by omega
      have HE : Hid (R = ffs (fs.drop 0)) := by show _ = _; rw [Hk.out, List.drop_of_length_le (by have := Hl.out; omega)]; rfl
      clear Hk
      go_wp2
      go_loopw [49] (fun i wr => ∃ k : Nat, k ≤ m' ∧ i = .int .i64 k ∧ Hid (R = ffs (fs.drop k)) ∧ Below w.heap.size w wr) (fun i _ => m' - (intOf i).toNat)
      case atStart => exact ⟨0, Nat.zero_le _, rfl, HE, hbel⟩
      case round =>
        obtain ⟨j, hj, rfl, Hj, hbel⟩ := hrel
        obtain ⟨b0, b1, blt⟩ := HB.out.later hbel
        by_cases hlt : j < m'
        · have hlt' : (j : Int) < (m' : Int) := by omega
          obtain ⟨x, hx⟩ : ∃ x, fs[j]? = some x := ⟨_, List.getElem?_eq_getElem (by have := Hl'.out; omega)⟩
          obtain ⟨b, off, rfl, hb, hat⟩ := HF.out.at hx
          have HS : Hid (R = if ff x = false then 3 else ffs (fs.drop (j + 1))) := by show _ = _; rw [Hj.out, ffs_step hx]
          obtain ⟨x0, x1, x2, xl⟩ := (hat.later hb hbel).one (Nat.lt_of_lt_of_le hb hbel.size) hx
          have q1 := fun w => isTile_c x.c0 x.c1 w
          have hb2 := hbel.trans (((Below.refl _ _).alloc (Nat.le_refl _) (.cells x.v 118)).mono hbel.size)
          clear hx hat
          have hff : (tile x.c0 x.c1 = false ∧ ff x = false) ∨ (tile x.c0 x.c1 = true ∧ x.c2 < 0 ∧ ff x = false) ∨ (tile x.c0 x.c1 = true ∧ decide (x.c2 < 0) = false ∧ 10000 < x.c2 ∧ ff x = false) ∨ (tile x.c0 x.c1 = true ∧ decide (x.c2 < 0) = false ∧ decide (10000 < x.c2) = false ∧ ff x = true) := by
            unfold ff inb
            cases tile x.c0 x.c1
            · exact .inl ⟨rfl, rfl⟩
            · by_cases h1 : x.c2 < 0
              · exact .inr (.inl ⟨rfl, h1, by simp; omega⟩)
              · by_cases h2 : 10000 < x.c2
                · exact .inr (.inr (.inl ⟨rfl, by simp; omega, h2, by simp; omega⟩))
                · exact .inr (.inr (.inr ⟨rfl, by simp; omega, by simp; omega, by simp; omega⟩))
          rcases hff with ⟨e1, ef⟩ | ⟨e1, e2, ef⟩ | ⟨e1, e2, e3, ef⟩ | ⟨e1, e2, e3, ef⟩
          · have HE : Hid (R = 3) := by show _ = _; rw [HS.out, if_pos ef]
            rw [e1] at q1
            go_wp2_with (go_at_call 86; refine (q1 _).mono ?_; rintro e w1 ⟨rfl, rfl⟩)
            go_ret
            exact ⟨by rw [HE.out]; rfl, hB0.trans (hb2.mono hB0.size)⟩
          · have HE : Hid (R = 3) := by show _ = _; rw [HS.out, if_pos ef]
            rw [e1] at q1
            go_wp2_with (go_at_call 86; refine (q1 _).mono ?_; rintro e w1 ⟨rfl, rfl⟩)
            go_ret
            exact ⟨by rw [HE.out]; rfl, hB0.trans (hb2.mono hB0.size)⟩
          · have HE : Hid (R = 3) := by show _ = _; rw [HS.out, if_pos ef]
            rw [e1] at q1
            go_wp2_with (go_at_call 86; refine (q1 _).mono ?_; rintro e w1 ⟨rfl, rfl⟩)
            go_ret
            exact ⟨by rw [HE.out]; rfl, hB0.trans (hb2.mono hB0.size)⟩
          · have HE : Hid (R = ffs (fs.drop (j + 1))) := by show _ = _; rw [HS.out, if_neg (by rw [ef]; simp)]
            rw [e1] at q1
            go_wp2_with (go_at_call 86; refine (q1 _).mono ?_; rintro e w1 ⟨rfl, rfl⟩)
            go_roundw
            case rel => exact ⟨j + 1, by omega, by go_num, HE, hb2⟩
            case measure => simp [intOf]; omega
        · obtain rfl : j = m' := by omega
          have HE : Hid (R = 0) := by show _ = _; rw [Hj.out, List.drop_of_length_le (by have := Hl'.out; omega)]; rfl
          go_wp2
          go_ret
          exact ⟨by rw [HE.out]; rfl, hB0.trans (hbel.mono hB0.size)⟩
end Go.Proofs.YtmfdggaijbcijaaGreat
end

/- SumWalks -/
/- Contracts of LeftIn and CarriedBy and of their models. Condition: the board's two lists lie in memory as they were laid there. -/
section
namespace Go.Proofs.YtmfdggaijbcijaaGreat
open Go.ChangeShapes Go.WideShapes Go.ChangeAt Go.RowKit
open Bd
set_option linter.unusedVariables false

/- what the fields hold together; what an owner's units carry together -/
def sumF : List K3 → Int
  | [] => 0
  | f :: l => f.c2 + sumF l
def carry (o : Int) : List K10 → Int
  | [] => 0
  | u :: l => if (u.c1 == o) = true then u.c5 + carry o l else carry o l
/- the codes and the values -/
def lfV (us : List K10) (fs : List K3) : Int := if (bf us fs == 0) = true then sumF fs else 0
def owC (us : List K10) (fs : List K3) (o : Int) : Int := if (bf us fs == 0) = true then (if own o = true then 0 else 3) else bf us fs
def cbV (us : List K10) (fs : List K3) (o : Int) : Int := if (bf us fs == 0 && own o) = true then carry o us else 0
theorem two_two (w : World) (s f z z' : Value) (t t2 : TypeId) : let W := (w.alloc (.cells #[s, f] t)).alloc (.cells #[z, z'] t2)
    W.rowIs w.heap.size t 2 (fun i => if i = 0 then s else f) ∧ W.rowIs (w.heap.size + 1) t2 2 (fun i => if i = 0 then z else z') ∧ Below w.heap.size w W ∧ W.heap.size = w.heap.size + 1 + 1 := by
  intro W
  have s1 : (w.alloc (.cells #[s, f] t)).heap.size = w.heap.size + 1 := size_new _ _
  have s2 : W.heap.size = w.heap.size + 1 + 1 := by show (World.alloc _ _).heap.size = _; rw [size_new, s1]
  have b1 : Below (w.alloc (.cells #[s, f] t)).heap.size (w.alloc (.cells #[s, f] t)) W := (Below.refl _ _).alloc (Nat.le_refl _) _
  have r0 := rowTwo w s f t
  have r1 := rowTwo (w.alloc (.cells #[s, f] t)) z z' t2
  rw [s1] at r1
  exact ⟨r0.of_block (b1.block _ r0.lt), r1, ((Below.refl _ _).alloc (Nat.le_refl _) _).alloc (by rw [s1]; omega) _, s2⟩
theorem row_brd {w : World} {p : Nat} {s f : Value} {t : TypeId} (h : w.rowIs p t 2 (fun i => if i = 0 then s else f)) : BrdAt w p s f :=
  ⟨h.cell (i := 0) (by omega), h.cell (i := 1) (by omega), h.lt⟩
theorem row_later {w w' : World} {g n : Nat} {t : TypeId} {f : Nat → Value} (h : w.rowIs g t n f) (hb : Below w.heap.size w w') : w'.rowIs g t n f := h.of_block (hb.block g h.lt)

end Go.Proofs.YtmfdggaijbcijaaGreat
end

/- MapU -/
/- Maps from numbers to rows of ten numbers: what they hold, as a rising list of units. No condition. -/
section
namespace Go.Proofs.YtmfdggaijbcijaaGreat
open Go.ChangeShapes Go.WideShapes Go.ChangeAt Go.RowKit
open Bd
set_option linter.unusedVariables false

open Classical in
/- how such a row reads -/
def rdU (v : Value) : Option (DataW K10 × List MemPlace) :=
  match v with
  | .agg a =>
    match a.toList with
    | [.int .i64 c0, .int .i64 c1, .int .i64 c2, .int .i64 c3, .int .i64 c4, .int .i64 c5, .int .i64 c6, .int .i64 c7, .int .i64 c8, .int .i64 c9] => some (.held ⟨c0, c1, c2, c3, c4, c5, c6, c7, c8, c9⟩, [])
    | _ => none
  | _ => none
def ent (u : K10) : Lit × DataW K10 := (.int .i64 u.c0, .held u)
/- a unit put among others that rise -/
def putU (u : K10) : List K10 → List K10
  | [] => [u]
  | x :: l => if u.c0 < x.c0 then u :: x :: l else if u.c0 = x.c0 then u :: l else x :: putU u l
abbrev Rise (l : List K10) : Prop := l.Pairwise (fun a b => a.c0 < b.c0)
theorem putU_mem {u y : K10} : ∀ {l : List K10}, y ∈ putU u l → y = u ∨ y ∈ l
  | [], h => by simp [putU] at h; exact .inl h
  | x :: l, h => by
    unfold putU at h
    split at h
    · rcases List.mem_cons.1 h with h | h
      · exact .inl h
      · exact .inr h
    · split at h
      · rcases List.mem_cons.1 h with h | h
        · exact .inl h
        · exact .inr (List.mem_cons_of_mem _ h)
      · rcases List.mem_cons.1 h with h | h
        · exact .inr (by rw [h]; exact List.mem_cons_self)
        · rcases putU_mem h with h | h
          · exact .inl h
          · exact .inr (List.mem_cons_of_mem _ h)
theorem putU_rise {u : K10} : ∀ {l : List K10}, Rise l → Rise (putU u l)
  | [], _ => by simp [putU, Rise]
  | x :: l, h => by
    obtain ⟨h1, h2⟩ := List.pairwise_cons.1 h
    unfold putU
    split
    · rename_i hlt
      refine List.pairwise_cons.2 ⟨fun y hy => ?_, h⟩
      rcases List.mem_cons.1 hy with rfl | hy
      · exact hlt
      · have := h1 y hy; omega
    · split
      · rename_i he
        exact List.pairwise_cons.2 ⟨fun y hy => by have := h1 y hy; omega, h2⟩
      · rename_i h3 h4
        refine List.pairwise_cons.2 ⟨fun y hy => ?_, putU_rise h2⟩
        rcases putU_mem hy with rfl | hy
        · omega
        · exact h1 y hy
/- the unit with an Id -/
def findU (l : List K10) (i : Int) : Option K10 := l.find? (fun x => x.c0 == i)
/- the map in memory -/
def MapAt (w : World) (b : Nat) (l : List K10) : Prop := w.ownsMap Tryz.prog 2 rdU b l.length (.map (l.map ent))
theorem MapAt.lt {w : World} {b : Nat} {l : List K10} (h : MapAt w b l) : b < w.heap.size := World.ownsMap.lt h
theorem MapAt.later {w w' : World} {b : Nat} {l : List K10} (h : MapAt w b l) (hb : Below w.heap.size w w') : MapAt w' b l := by
  have hlt := h.lt
  obtain ⟨es, clock, h1, F, hs, hD⟩ := h
  exact ⟨es, clock, (hb.block b hlt).trans h1, F, hs, hD⟩
theorem MapAt.of_block {w w' : World} {b : Nat} {l : List K10} (h : MapAt w b l) (e : w'.heap[b]? = w.heap[b]?) : MapAt w' b l := by
  obtain ⟨es, clock, h1, F, hs, hD⟩ := h
  exact ⟨es, clock, e.trans h1, F, hs, hD⟩
theorem MapAt.new (w : World) : MapAt (w.alloc (.map #[] 0)) w.heap.size [] := World.ownsMap_made w Tryz.prog 2 rdU
theorem find_id {l : List K10} {i : Int} {x : K10} (h : findU l i = some x) : x ∈ l ∧ x.c0 = i := by
  unfold findU at h
  exact ⟨List.mem_of_find?_eq_some h, by simpa using List.find?_some h⟩
end Go.Proofs.YtmfdggaijbcijaaGreat
end

/- PutSpec -/
/- Contracts of the model of PutUnit's parts. Condition: the board's lists rise and lie in memory as they were laid there. -/
section
namespace Go.Proofs.YtmfdggaijbcijaaGreat
open Go.ChangeShapes Go.WideShapes Go.ChangeAt Go.RowKit
open Bd
set_option linter.unusedVariables false

theorem SlU.mono {w : World} {base base' : Nat} {v : Value} {l : List K10} (h : SlU w base v l) (hb : base' ≤ base) : SlU w base' v l := by
  rcases h with ⟨h1, h2⟩
  refine ⟨h1, ?_⟩
  rcases h2 with h2 | ⟨g, cap, cur, hv, hbb, r⟩
  · exact .inl h2
  · exact .inr ⟨g, cap, cur, hv, Nat.le_trans hb hbb, r⟩
theorem SlF.mono {w : World} {base base' : Nat} {v : Value} {l : List K3} (h : SlF w base v l) (hb : base' ≤ base) : SlF w base' v l := by
  rcases h with ⟨h1, h2⟩
  refine ⟨h1, ?_⟩
  rcases h2 with h2 | ⟨g, cap, cur, hv, hbb, r⟩
  · exact .inl h2
  · exact .inr ⟨g, cap, cur, hv, Nat.le_trans hb hbb, r⟩
/- what is out behind k units: d: u is among them -/
def lp (u : K10) (us : List K10) (d : Bool) (k : Nat) : List K10 := if d = true then putU u (us.take k) else us.take k
def lc (u : K10) (us : List K10) (d : Bool) (k : Nat) : Prop := (d = false ∧ ∀ x ∈ us.take k, x.c0 < u.c0) ∨ (d = true ∧ ∃ x ∈ us.take k, u.c0 ≤ x.c0)
end Go.Proofs.YtmfdggaijbcijaaGreat
end

/- OneWalks -/
/- Contracts of UnitOf and of its model, and of the program's map of rows by Id. Condition: the board's two lists lie in memory as they were laid there. -/
section
namespace Go.Proofs.YtmfdggaijbcijaaGreat
open Go.ChangeShapes Go.WideShapes Go.ChangeAt Go.RowKit
open Bd
set_option linter.unusedVariables false

theorem cell_of_block {w w' : World} {g : Nat} (e : w'.heap[g]? = w.heap[g]?) (o : Nat) : w'.cell? ⟨g, o, none⟩ = w.cell? ⟨g, o, none⟩ := by
  unfold World.cell?
  rw [e]
theorem U1.of_block {w w' : World} {g off : Nat} {x : K10} (h : U1 w g off x) (e : w'.heap[g]? = w.heap[g]?) (hl : g < w'.heap.size) : U1 w' g off x :=
  ⟨(cell_of_block e _).trans h.c0, (cell_of_block e _).trans h.c1, (cell_of_block e _).trans h.c2, (cell_of_block e _).trans h.c3, (cell_of_block e _).trans h.c4, (cell_of_block e _).trans h.c5, (cell_of_block e _).trans h.c6, (cell_of_block e _).trans h.c7, (cell_of_block e _).trans h.c8, (cell_of_block e _).trans h.c9, hl⟩
/- where a unit with an Id lies -/
def atU (l : List K10) (i : Int) : Option Nat := l.findIdx? (fun x => x.c0 == i)
def atI (l : List K10) (i : Int) : Int := match atU l i with | some k => (k : Int) | none => -1
end Go.Proofs.YtmfdggaijbcijaaGreat
end
