/- Texts of mine put together (a claim holds at most 60 files): BrdPlain0, TickSum, Draws, TickLaws0. -/
import Derived.Test.YtepjkcfheejlbaaDoorPartR04
import Derived.Test.YtepjkcfheejlbaaDoorPartR17
import Derived.Test.YtepjkcfheejlbaaDoorRows
import Derived.WalkKit
import Derived.ProofKit
import Derived.OpenShut
import Derived.ShutString
import Derived.WalkLawsBesides
import Derived.ChangeOld
import Derived.Below
import Derived.OwnWalk
import Derived.Deep.QuietTactic
import Derived.BigQuiet
import Derived.Test.YtepjkcfheejlbaaDoorPartR06

/- BrdPlain0 -/
/- Plain facts: a board whose parts are right has no fault. No condition. -/
section
namespace Go.Proofs.YtepjkcfheejlbaaDoor
open Bd
set_option linter.unusedVariables false

theorem ffs_mk : ∀ {l : List K3}, (∀ f ∈ l, ff f = true) → ffs l = 0
  | [], _ => rfl
  | f :: l, h => by
    unfold ffs
    rw [if_neg (by rw [h f (by simp)]; simp)]
    exact ffs_mk (fun x hx => h x (List.mem_cons_of_mem _ hx))
theorem ufs_mk {F : Int} (hF : F = 0) : ∀ {l : List K10} {p : Option Int}, (∀ u ∈ l, uf u = 0) → (∀ q, p = some q → ∀ u ∈ l, q < u.c0) → Rise l → ufs p F l = 0
  | [], _, _, _, _ => hF
  | a :: l, p, h, hp, hr => by
    unfold ufs
    rw [if_neg (by rw [h a (by simp)]; simp)]
    have hl : leP p a.c0 = false := by
      cases p with
      | none => rfl
      | some q => have := hp q rfl a (by simp); simp [leP]; omega
    rw [if_neg (by rw [hl]; simp)]
    have hr' := List.pairwise_cons.1 hr
    exact ufs_mk hF (fun x hx => h x (List.mem_cons_of_mem _ hx)) (fun q hq u hu => by cases hq; exact hr'.1 u hu) hr'.2
theorem bf_mk {us : List K10} {fs : List K3} (h1 : us.length ≤ 8) (h2 : fs.length ≤ 4) (h3 : ∀ u ∈ us, uf u = 0) (h4 : ∀ f ∈ fs, ff f = true) (h5 : Rise us) : bf us fs = 0 := by
  unfold bf
  rw [if_neg (by omega)]
  exact ufs_mk (ffs_mk h4) h3 (fun q hq => by cases hq) h5
end Go.Proofs.YtepjkcfheejlbaaDoor
end

/- TickSum -/
/- Plain facts of chapter 5 (ticks): what there is together, two parts as one, who rests. No condition. -/
section
namespace Go.Proofs.YtepjkcfheejlbaaDoor
open Bd
set_option linter.unusedVariables false

def hldU : List K10 → Int
  | [] => 0
  | x :: l => x.c5 + hldU l
def hldF : List K3 → Int
  | [] => 0
  | x :: l => x.c2 + hldF l
def hldI : List Int → Int
  | [] => 0
  | x :: l => x + hldI l
theorem hldU_app (a b : List K10) : hldU (a ++ b) = hldU a + hldU b := by
  induction a with
  | nil => simp [hldU]
  | cons x l ih => show x.c5 + hldU (l ++ b) = x.c5 + hldU l + hldU b; rw [ih]; omega
theorem hldF_app (a b : List K3) : hldF (a ++ b) = hldF a + hldF b := by
  induction a with
  | nil => simp [hldF]
  | cons x l ih => show x.c2 + hldF (l ++ b) = x.c2 + hldF l + hldF b; rw [ih]; omega
theorem hldU_set {l : List K10} {k : Nat} {u : K10} (h : l[k]? = some u) (x : K10) : hldU (l.set k x) = hldU l - u.c5 + x.c5 := by
  induction l generalizing k with
  | nil => simp at h
  | cons y l ih =>
    cases k with
    | zero =>
      have e : y = u := by simpa using h
      subst e
      show x.c5 + hldU l = y.c5 + hldU l - y.c5 + x.c5
      omega
    | succ k =>
      show y.c5 + hldU (l.set k x) = y.c5 + hldU l - u.c5 + x.c5
      rw [ih (by simpa using h)]; omega
theorem hldF_set {l : List K3} {k : Nat} {u : K3} (h : l[k]? = some u) (x : K3) : hldF (l.set k x) = hldF l - u.c2 + x.c2 := by
  induction l generalizing k with
  | nil => simp at h
  | cons y l ih =>
    cases k with
    | zero =>
      have e : y = u := by simpa using h
      subst e
      show x.c2 + hldF l = y.c2 + hldF l - y.c2 + x.c2
      omega
    | succ k =>
      show y.c2 + hldF (l.set k x) = y.c2 + hldF l - u.c2 + x.c2
      rw [ih (by simpa using h)]; omega
theorem hldI_at : ∀ (l : List Int) (o : Nat) (x : Int), o < l.length → hldI (addAt l o x) = hldI l + x
  | [], o, x, h => by simp at h
  | y :: l, 0, x, _ => by show (y + x) + hldI l = y + hldI l + x; omega
  | y :: l, o + 1, x, h => by
    have := hldI_at l o x (by simpa using h)
    show y + hldI (addAt l o x) = y + hldI l + x
    omega
theorem hldU_put {us : List K10} (hr : Rise us) {u u' : K10} (hu : u ∈ us) (he : u'.c0 = u.c0) : hldU (putU u' us) = hldU us - u.c5 + u'.c5 := by
  obtain ⟨k, hk, rfl⟩ := List.getElem_of_mem hu
  rw [← set_put hr (List.getElem?_eq_getElem hk) he, hldU_set (List.getElem?_eq_getElem hk)]
theorem hldU_del {us : List K10} (hr : Rise us) {u : K10} (hu : u ∈ us) : hldU (delU us u.c0) = hldU us - u.c5 := by
  obtain ⟨k, hk, rfl⟩ := List.getElem_of_mem hu
  rw [← cut_del hr (List.getElem?_eq_getElem hk), hldU_app]
  have e : hldU us = hldU (us.take k ++ us.drop k) := by rw [List.take_append_drop]
  rw [e, hldU_app, List.drop_eq_getElem_cons hk]
  show _ = hldU (us.take k) + (us[k].c5 + hldU (us.drop (k + 1))) - us[k].c5
  omega
/- a unit's turn keeps what there is together -/
theorem tk1_sum {us : List K10} {fs : List K3} {u : K10} {room : Int} (h : Gd us fs) (hu : u ∈ us) : hldU (tk1 us fs u room).us + hldF (tk1 us fs u room).fs + (tk1 us fs u room).give + (tk1 us fs u room).lost = hldU us + hldF fs := by
  have keep : ∀ u', u'.c0 = u.c0 → u'.c5 = u.c5 → hldU (putU u' us) + hldF fs + 0 + 0 = hldU us + hldF fs := fun u' e e5 => by rw [hldU_put h.r hu e, e5]; omega
  have hid := keep (idle u) rfl rfl
  have hgo : ∀ x y, hldU (putU (goTo u x y) us) + hldF fs + 0 + 0 = hldU us + hldF fs := fun x y => keep (goTo u x y) rfl rfl
  have hself : hldU us + hldF fs + 0 + 0 = hldU us + hldF fs := by omega
  unfold tk1
  split
  · exact hself
  split
  · unfold tkMove
    split
    · exact hid
    · exact hgo _ _
  split
  · unfold tkHarv
    cases hf : fs[u.c9.toNat]? with
    | none => exact hid
    | some f =>
      dsimp only
      split
      · unfold tkBring
        split
        · show hldU (putU (carr u (u.c5 - mn u.c5 room)) us) + hldF fs + mn u.c5 room + 0 = _
          rw [hldU_put h.r (u' := carr u (u.c5 - mn u.c5 room)) hu rfl]
          show hldU us - u.c5 + (u.c5 - mn u.c5 room) + hldF fs + mn u.c5 room + 0 = _
          omega
        · exact hgo _ _
      · split
        · exact hid
        · unfold tkTake
          split
          · show hldU (putU (carr u (u.c5 + tkn u f)) us) + hldF (fs.set u.c9.toNat (leftF f (f.c2 - tkn u f))) + 0 + 0 = _
            rw [hldU_put h.r (u' := carr u (u.c5 + tkn u f)) hu rfl, hldF_set hf]
            show hldU us - u.c5 + (u.c5 + tkn u f) + (hldF fs - f.c2 + (f.c2 - tkn u f)) + 0 + 0 = _
            omega
          · exact hgo _ _
  split
  · unfold tkAtk
    cases hp : findU us u.c9 with
    | none => exact hid
    | some p =>
      have hpm := find_mem' hp
      dsimp only
      split
      · exact hid
      · split
        · exact hgo _ _
        · unfold tkHit
          split
          · show hldU (delU us p.c0) + hldF fs + 0 + p.c5 = _
            rw [hldU_del h.r hpm]; omega
          · show hldU (putU (life p (p.c4 - 7)) us) + hldF fs + 0 + 0 = _
            rw [hldU_put h.r (u' := life p (p.c4 - 7)) hpm rfl]
            show hldU us - p.c5 + p.c5 + hldF fs + 0 + 0 = _
            omega
  · exact hself
def tot (s : TS) : Int := hldU s.us + hldF s.fs + hldI s.gn + s.lost
theorem tot_step {s : TS} (h : TG s) (i : Int) : tot (tkS s i) = tot s := by
  unfold tkS
  cases hf : findU s.us i with
  | none => rfl
  | some u =>
    have hu := find_mem' hf
    have t := tk1_sum (room := s.rm.getD u.c1.toNat 0) h.gd hu
    have g := h.gd.gu hu
    by_cases h9 : u.c1 = 9
    · rw [tk1_nobody h9] at t
      dsimp only
      rw [tk1_nobody h9]
      simp only [Int.neg_zero, addAt_zero, Int.add_zero]
      try rfl
    · have ho : u.c1.toNat < 4 := by rcases g.o with h | h; omega; exact absurd h h9
      show hldU (tk1 s.us s.fs u (s.rm.getD u.c1.toNat 0)).us + hldF (tk1 s.us s.fs u (s.rm.getD u.c1.toNat 0)).fs + hldI (addAt s.gn u.c1.toNat (tk1 s.us s.fs u (s.rm.getD u.c1.toNat 0)).give) + (s.lost + (tk1 s.us s.fs u (s.rm.getD u.c1.toNat 0)).lost) = hldU s.us + hldF s.fs + hldI s.gn + s.lost
      rw [hldI_at _ _ _ (by rw [h.gl]; exact ho)]
      omega
theorem tot_list {s : TS} (h : TG s) (ids : List Int) : tot (tkL s ids) = tot s := by
  unfold tkL
  induction ids generalizing s with
  | nil => rfl
  | cons i l ih => exact (ih (h.step i)).trans (tot_step h i)
theorem tot_tick {s : TS} (h : TG s) : tot (tkB s) = tot s := tot_list h _
theorem tot_ticks {s : TS} (h : TG s) (n : Nat) : tot (tkN n s) = tot s := by
  induction n generalizing s with
  | zero => rfl
  | succ n ih => exact (ih h.tick).trans (tot_tick h)
theorem Gd.bf {us : List K10} {fs : List K3} (h : Gd us fs) : Bd.bf us fs = 0 := bf_mk h.n8 h.n4 h.u h.f h.r
/- what there is in a right board is small -/
theorem hldU_bd {us : List K10} (h : ∀ u ∈ us, uf u = 0) : 0 ≤ hldU us ∧ hldU us ≤ 20 * (us.length : Int) := by
  induction us with
  | nil => exact ⟨Int.le_refl _, Int.le_refl _⟩
  | cons x l ih =>
    have g := (uf_iff x).1 (h x (List.mem_cons_self ..))
    have := ih (fun u hu => h u (List.mem_cons_of_mem _ hu))
    have := g.c0; have := g.c1
    show 0 ≤ x.c5 + hldU l ∧ x.c5 + hldU l ≤ 20 * ((l.length + 1 : Nat) : Int)
    omega
theorem hldF_bd {fs : List K3} (h : ∀ f ∈ fs, ff f = true) : 0 ≤ hldF fs ∧ hldF fs ≤ 10000 * (fs.length : Int) := by
  induction fs with
  | nil => exact ⟨Int.le_refl _, Int.le_refl _⟩
  | cons x l ih =>
    have g := (ff_iff x).1 (h x (List.mem_cons_self ..))
    have := ih (fun u hu => h u (List.mem_cons_of_mem _ hu))
    have := g.l0; have := g.l1
    show 0 ≤ x.c2 + hldF l ∧ x.c2 + hldF l ≤ 10000 * ((l.length + 1 : Nat) : Int)
    omega
theorem purs_of {l : List Int} (h : ∀ x ∈ l, 0 ≤ x ∧ x ≤ 1000000) : purs l = 0 := by
  induction l with
  | nil => rfl
  | cons a l ih =>
    have := h a (List.mem_cons_self ..)
    unfold purs
    rw [if_pos (inb_t (by omega) (by omega))]
    exact ih (fun x hx => h x (List.mem_cons_of_mem _ hx))
theorem tkF_of {us : List K10} {fs : List K3} {rm : List Int} (h : Gd us fs) (hl : rm.length = 4) (hr : ∀ x ∈ rm, 0 ≤ x ∧ x ≤ 1000000) : tkF us fs rm = 0 := by
  unfold tkF rmF
  rw [h.bf, if_pos (show ((0 : Int) == 0) = true from rfl), if_pos hl, purs_of hr]
theorem tmR_of {us : List K10} {fs : List K3} {rm : List Int} (h : tkF us fs rm = 0) {n : Nat} (hn : n ≤ 20) : tmR us fs rm (n : Int) = .of (tkN n (ts0 us fs rm)) := by
  unfold tmR
  rw [h, if_pos (show ((0 : Int) == 0) = true from rfl), if_pos ⟨by omega, by omega⟩]
  rfl
/- what is gained is what the rooms have less -/
theorem ticks_room {us : List K10} {fs : List K3} {rm : List Int} (hl : rm.length = 4) (n : Nat) : (tkN n (ts0 us fs rm)).rm = subL rm (tkN n (ts0 us fs rm)).gn := by
  have k := (Shift.start (us := us) (fs := fs) (rm := rm) (gn := z4) (l := 0) hl rfl).ticks n
  exact k.r
theorem gain_le {us : List K10} {fs : List K3} {rm : List Int} (h : tkF us fs rm = 0) (n : Nat) {k : Nat} (hk : k < 4) :
    0 ≤ (tkN n (ts0 us fs rm)).gn.getD k 0 ∧ (tkN n (ts0 us fs rm)).gn.getD k 0 ≤ rm.getD k 0 ∧ rm.getD k 0 - (tkN n (ts0 us fs rm)).gn.getD k 0 = (tkN n (ts0 us fs rm)).rm.getD k 0 := by
  have tg := (tg0 h).ticks n
  obtain ⟨_, hl, _⟩ := tkF_ok h
  have e := ticks_room (us := us) (fs := fs) hl n
  have g4 := tg.gl
  have r0 := tg.r _ (getD_mem (l := (tkN n (ts0 us fs rm)).rm) (k := k) (by rw [tg.rl]; exact hk))
  have g0 := tg.g _ (getD_mem (l := (tkN n (ts0 us fs rm)).gn) (k := k) (by rw [tg.gl]; exact hk))
  generalize (tkN n (ts0 us fs rm)).gn = gn at *
  rw [e] at r0 ⊢
  obtain ⟨a, b, c, d, rfl⟩ := four hl
  obtain ⟨p, q, r, s, rfl⟩ := four g4
  rcases k with _ | _ | _ | _ | k
  · simp [subL] at *; omega
  · simp [subL] at *; omega
  · simp [subL] at *; omega
  · simp [subL] at *; omega
  · omega
/- ticks in two parts -/
theorem halves {us : List K10} {fs : List K3} {rm : List Int} (h : tkF us fs rm = 0) (n m : Nat) :
    (tkN (n + m) (ts0 us fs rm)).us = (tkN m (ts0 (tkN n (ts0 us fs rm)).us (tkN n (ts0 us fs rm)).fs (tkN n (ts0 us fs rm)).rm)).us ∧ (tkN (n + m) (ts0 us fs rm)).fs = (tkN m (ts0 (tkN n (ts0 us fs rm)).us (tkN n (ts0 us fs rm)).fs (tkN n (ts0 us fs rm)).rm)).fs ∧
    (tkN (n + m) (ts0 us fs rm)).lost = (tkN n (ts0 us fs rm)).lost + (tkN m (ts0 (tkN n (ts0 us fs rm)).us (tkN n (ts0 us fs rm)).fs (tkN n (ts0 us fs rm)).rm)).lost ∧ tkF (tkN n (ts0 us fs rm)).us (tkN n (ts0 us fs rm)).fs (tkN n (ts0 us fs rm)).rm = 0 := by
  have tg := (tg0 h).ticks n
  have k := (Shift.start (us := (tkN n (ts0 us fs rm)).us) (fs := (tkN n (ts0 us fs rm)).fs) (l := (tkN n (ts0 us fs rm)).lost) tg.rl tg.gl).ticks m
  have e : tkN (n + m) (ts0 us fs rm) = tkN m ⟨(tkN n (ts0 us fs rm)).us, (tkN n (ts0 us fs rm)).fs, (tkN n (ts0 us fs rm)).rm, (tkN n (ts0 us fs rm)).gn, (tkN n (ts0 us fs rm)).lost⟩ := tkN_add n m _
  rw [e]
  exact ⟨k.us, k.fs, k.lost, tkF_of tg.gd tg.rl tg.r⟩
end Go.Proofs.YtepjkcfheejlbaaDoor
end

/- Draws -/
/- Contracts of the draws: a number out of the bytes of a code is within its bounds, and a pick out of a list is one of that list; nothing turns but the source's own block. Conditions: the code's bytes can be read, and the source's place is small. -/
section
namespace Go.Proofs.YtepjkcfheejlbaaDoor
open Go.ChangeShapes Go.WideShapes Go.ChangeAt Go.RowKit
set_option linter.unusedVariables false

def IsRow (k : IntKind) (w : World) (a : Option Addr) (len cap : Nat) (zs : List Int) : Prop :=
  (a = none ∧ len = 0 ∧ cap = 0 ∧ zs = []) ∨
  ∃ x, a = some x ∧ len ≤ cap ∧ cap ≤ maxLen ∧ zs.length = cap ∧ (∀ i, i < zs.length → w.cell? (x.add i) = some (.int k (zs.getD i 0))) ∧ ∀ n ∈ zs, (Lit.int k n).wf = true

/- a slice of bytes below block p: each of its elements can be read -/
def Bytes (w : World) (a : Option Addr) (len : Nat) (p : Nat) : Prop :=
  len = 0 ∨ ∃ b off, a = some ⟨b, off, none⟩ ∧ b < p ∧ ∀ i, i < len → ∃ z : Int, 0 ≤ z ∧ z ≤ 255 ∧ w.cell? ⟨b, off + i, none⟩ = some (.int .u8 z)

theorem cell_lt {w : World} {a : Addr} {v : Value} (h : w.cell? a = some v) : a.block < w.heap.size := by
  unfold World.cell? at h
  by_cases hb : a.block < w.heap.size
  · exact hb
  · rw [Array.getElem?_eq_none (by omega)] at h
    cases h

theorem Bytes.of_row {w : World} {a : Option Addr} {len cap : Nat} {zs : List Int} (h : IsRow .u8 w a len cap zs) : Bytes w a len w.heap.size := by
  rcases h with ⟨rfl, rfl, rfl, rfl⟩ | ⟨x, rfl, hl, hm, hz, hcell, hwz⟩
  · exact .inl rfl
  · by_cases h0 : len = 0
    · exact .inl h0
    · obtain ⟨b, off, spot⟩ := x
      have hc := hcell 0 (by omega)
      have hspot : spot = none := by simpa [Addr.add] using World.cell?_spot hc
      subst hspot
      refine .inr ⟨b, off, rfl, ?_, ?_⟩
      · have := cell_lt hc
        simpa [Addr.add] using this
      · intro i hi
        have hci := hcell i (by omega)
        have hmem : zs.getD i 0 ∈ zs := by
          have hi' : i < zs.length := by omega
          have e : zs.getD i 0 = zs[i] := by simp [List.getD_eq_getElem?_getD, List.getElem?_eq_getElem hi']
          rw [e]
          exact List.getElem_mem _
        have hw := hwz _ hmem
        have hbd := bounds_u8 hw
        refine ⟨zs.getD i 0, hbd.1, hbd.2, ?_⟩
        by_cases hi0 : i = 0
        · subst hi0; simpa [Addr.add] using hci
        · simpa [Addr.add, hi0] using hci

theorem Bytes.kept {w w' : World} {a : Option Addr} {len p : Nat} (h : Bytes w a len p) (hb : Below p w w') : Bytes w' a len p := by
  rcases h with h | ⟨b, off, rfl, hlt, hc⟩
  · exact .inl h
  · refine .inr ⟨b, off, rfl, hlt, fun i hi => ?_⟩
    obtain ⟨z, h0, h1, h2⟩ := hc i hi
    exact ⟨z, h0, h1, by rw [hb.cell (p := ⟨b, off + i, none⟩) hlt]; exact h2⟩

/- the source: a block of its own, the code and the place -/
def Src (w : World) (p : Nat) (c : Value) (n : Int) : Prop := w.heap[p]? = some (.cells #[c, .int .i64 n] 71)

theorem Src.lt {w : World} {p : Nat} {c : Value} {n : Int} (h : Src w p c n) : p < w.heap.size := by
  by_cases hb : p < w.heap.size
  · exact hb
  · unfold Src at h
    rw [Array.getElem?_eq_none (by omega)] at h
    cases h
theorem Src.cell0 {w : World} {p : Nat} {c : Value} {n : Int} (h : Src w p c n) : w.cell? ⟨p, 0, none⟩ = some c := by
  unfold Src at h
  simp [World.cell?, h]
theorem Src.cell1 {w : World} {p : Nat} {c : Value} {n : Int} (h : Src w p c n) : w.cell? ⟨p, 1, none⟩ = some (.int .i64 n) := by
  unfold Src at h
  simp [World.cell?, h]
theorem Src.frozen {w : World} {p : Nat} {c : Value} {n : Int} (h : Src w p c n) : w.frozen? ⟨p, 1, none⟩ = false := by
  unfold Src at h
  simp [World.frozen?, h]
theorem Src.set {w : World} {p : Nat} {c : Value} {n : Int} (h : Src w p c n) (m : Int) (k : Nat) : Src ((w.setCell ⟨p, 1, none⟩ (.int .i64 m)).drewN k) p c m := by
  unfold Src at *
  simp [World.setCell, World.drewN, Array.getElem?_modify, h]
theorem Src.kept {w w' : World} {p : Nat} {c : Value} {n : Int} {row : Option Nat} (h : Src w p c n) (hg : w.grownBy w' row) (hne : some p ≠ row) : Src w' p c n := by
  unfold Src at *
  rw [hg.block p (Src.lt h) hne]; exact h
theorem grown_set (w : World) (p : Nat) (v : Value) (k : Nat) : w.grownBy ((w.setCell ⟨p, 1, none⟩ v).drewN k) (some p) :=
  ⟨rfl, rfl, rfl, by simp [World.setCell, World.drewN], fun i _ hi => Below.heap_setCell _ _ _ _ (fun e => hi (by rw [e]))⟩
theorem grown_trans {a b c : World} {row : Option Nat} (h : a.grownBy b row) (k : b.grownBy c row) : a.grownBy c row :=
  ⟨k.os.trans h.os, k.tape.trans h.tape, k.output.trans h.output, Nat.le_trans h.size k.size, fun i hi hne => (k.block i (Nat.lt_of_lt_of_le hi h.size) hne).trans (h.block i hi hne)⟩
theorem grown_below {w w' : World} {p : Nat} (h : w.grownBy w' (some p)) (hp : p ≤ w.heap.size) : Below p w w' :=
  ⟨h.os, h.tape, h.output, h.size, fun k hk => h.block k (by omega) (fun e => by cases e; omega)⟩

set_option maxHeartbeats 2000000 in
theorem draws (w : World) (p : Nat) (a : Option Addr) (len cap : Nat) (t n : Int) (hs : Src w p (.slice a len cap) t) (hb : Bytes w a len p)
    (hl : len ≤ 1048576) (h0 : 0 ≤ t) (h1 : t ≤ 1000000) (hn : 1 ≤ n) (hn2 : n ≤ 1000000000) :
    Calls Tryd.prog 28 #[.pointer (some ⟨p, 0, none⟩), .int .i64 n] w fun e w' => ∃ r : Int, e = .returned (.int .i64 r) ∧ 0 ≤ r ∧ r < n ∧ Src w' p (.slice a len cap) (t + 1) ∧ w.grownBy w' (some p) := by
  have c0 := hs.cell0
  have c1 := hs.cell1
  have fz := hs.frozen
  by_cases hz : len = 0
  · subst hz
    go_enter Tryd.func28, Tryd.ntmps28
    go_wp2
    go_ret
    exact ⟨_, rfl, Int.emod_nonneg _ (by omega), Int.emod_lt_of_pos _ (by omega), hs.set _ 0, grown_set _ _ _ 0⟩
  · rcases hb with hb | ⟨b, off, rfl, hlt, hc⟩
    · exact absurd hb hz
    have hne : b ≠ p := by omega
    have hp : (0 : Int) < (len : Int) := by omega
    have hz' : ((len : Int) == 0) = false := by simp; omega
    have m0 := Int.emod_nonneg t (b := (len : Int)) (by omega)
    have m1 := Int.emod_lt_of_pos t (b := (len : Int)) (by omega)
    have n0 := Int.emod_nonneg (t + 1) (b := (len : Int)) (by omega)
    have n1 := Int.emod_lt_of_pos (t + 1) (b := (len : Int)) (by omega)
    have d0 := Int.ediv_nonneg (a := t) (b := (len : Int)) h0 (by omega)
    have d1 := Int.ediv_le_self (a := t) (len : Int) h0
    obtain ⟨z, z0, z1, hz1⟩ := hc (t % (len : Int)).toNat (by omega)
    obtain ⟨y, y0, y1, hy1⟩ := hc ((t + 1) % (len : Int)).toNat (by omega)
    by_cases hbig : 200 < n
    · go_enter Tryd.func28, Tryd.ntmps28
      go_wp2
      go_quiet (fail)
      go_wp2
      go_quiet (fail)
      go_wp2
      go_ret
      exact ⟨_, rfl, Int.emod_nonneg _ (by omega), Int.emod_lt_of_pos _ (by omega), hs.set _ _, grown_set _ _ _ _⟩
    · have hbig' : decide (200 < n) = false := decide_eq_false hbig
      go_enter Tryd.func28, Tryd.ntmps28
      go_wp2
      go_quiet (fail)
      go_wp2
      go_ret
      exact ⟨_, rfl, Int.emod_nonneg _ (by omega), Int.emod_lt_of_pos _ (by omega), hs.set _ _, grown_set _ _ _ _⟩

/- a list of numbers, each of which meets P -/
def IntRow (P : Int → Prop) : List Value → Prop
  | [] => True
  | v :: r => (∃ x, v = .int .i64 x ∧ P x) ∧ IntRow P r
theorem IntRow.at {P : Int → Prop} : ∀ {l : List Value} (_ : IntRow P l) (i : Nat) (_ : i < l.length), ∃ x, P x ∧ l[i]? = some (.int .i64 x)
  | v :: r, h, 0, _ => by obtain ⟨⟨x, rfl, hx⟩, _⟩ := h; exact ⟨x, hx, rfl⟩
  | v :: r, h, i + 1, hi => by obtain ⟨_, h2⟩ := h; exact IntRow.at h2 i (by simpa using hi)
theorem heap_new (w : World) (o : Obj) : (w.alloc o).heap[w.heap.size]? = some o := by
  show (w.heap.push o)[w.heap.size]? = _
  simp
def Row (P : Int → Prop) (w : World) (q m : Nat) : Prop := ∀ i, i < m → ∃ x : Int, P x ∧ w.cell? ⟨q, i, none⟩ = some (.int .i64 x)
theorem row_new {P : Int → Prop} {l : List Value} (h : IntRow P l) (w : World) (t : TypeId) (m : Nat) (hm : m = l.length) : Row P (w.alloc (.cells l.toArray t)) w.heap.size m := by
  intro i hi
  obtain ⟨x, hx, e⟩ := h.at i (by omega)
  refine ⟨x, hx, ?_⟩
  unfold World.cell?
  rw [heap_new]
  simp [e]
theorem src_new (w : World) (c : Value) : Src (w.alloc (.cells #[c, .int .i64 0] 71)) w.heap.size c 0 := by
  unfold Src
  exact heap_new _ _
theorem Src.alloc {w : World} {p : Nat} {c : Value} {n : Int} (h : Src w p c n) (o : Obj) : Src (w.alloc o) p c n := h.kept (World.grownBy_alloc w o none) (by simp)

def I64 (x : Int) : Prop := -9223372036854775808 ≤ x ∧ x ≤ 9223372036854775807

set_option maxHeartbeats 1000000 in
theorem pick (P : Int → Prop) (w : World) (p q m m' : Nat) (a : Option Addr) (len cap : Nat) (t : Int) (hs : Src w p (.slice a len cap) t) (hb : Bytes w a len p)
    (hl : len ≤ 1048576) (h0 : 0 ≤ t) (h1 : t ≤ 1000000) (hm : 1 ≤ m) (hm2 : m ≤ 1000000) (hq : p ≠ q) (hr : Row P w q m) :
    Calls Tryd.prog 30 #[.pointer (some ⟨p, 0, none⟩), .slice (some ⟨q, 0, none⟩) m m'] w fun e w' => ∃ r : Int, e = .returned (.int .i64 r) ∧ P r ∧ Src w' p (.slice a len cap) (t + 1) ∧ w.grownBy w' (some p) := by
  go_enter Tryd.func30, Tryd.ntmps30
  go_wp2_with fail
  refine (draws w p a len cap t _ hs hb hl h0 h1 (by omega) (by omega)).mono ?_
  rintro e w1 ⟨r, rfl, hr0, hr1, hs1, hg⟩
  obtain ⟨x, hx, hc⟩ := hr r.toNat (by omega)
  have hc1 : w1.cell? ⟨q, r.toNat, none⟩ = some (.int .i64 x) := hg.cell hc (by simp; omega)
  clear hc
  go_wp2
  go_ret
  exact ⟨x, rfl, hx, hs1, hg⟩

/- behind the start w0 of a draw: the source lies in the first new block, what was there is as it was -/
structure St (w0 w : World) (a : Option Addr) (len cap : Nat) (t : Int) : Prop where
  src : Src w w0.heap.size (.slice a len cap) t
  bel : Below w0.heap.size w0 w

theorem St.alloc {w0 w : World} {a : Option Addr} {len cap : Nat} {t : Int} (h : St w0 w a len cap t) (o : Obj) : St w0 (w.alloc o) a len cap t :=
  ⟨h.src.alloc o, h.bel.alloc (Nat.le_of_lt h.src.lt) o⟩

theorem pickSt (P : Int → Prop) {w0 w : World} {q m m' : Nat} {a : Option Addr} {len cap : Nat} {t : Int} (st : St w0 w a len cap t) (hb : Bytes w0 a len w0.heap.size)
    (hl : len ≤ 1048576) (h0 : 0 ≤ t) (h1 : t ≤ 1000000) (hm : 1 ≤ m) (hm2 : m ≤ 1000000) (hq : w0.heap.size < q) (hr : Row P w q m) :
    Calls Tryd.prog 30 #[.pointer (some ⟨w0.heap.size, 0, none⟩), .slice (some ⟨q, 0, none⟩) m m'] w fun e w' => ∃ r : Int, e = .returned (.int .i64 r) ∧ P r ∧ St w0 w' a len cap (t + 1) := by
  refine (pick P w w0.heap.size q m m' a len cap t st.src (hb.kept st.bel) hl h0 h1 hm hm2 (by omega) hr).mono ?_
  rintro e w' ⟨r, rfl, hp, hs, hg⟩
  exact ⟨r, rfl, hp, hs, st.bel.trans (grown_below hg (Nat.le_of_lt st.src.lt))⟩

theorem drawsSt {w0 w : World} {n : Int} {a : Option Addr} {len cap : Nat} {t : Int} (st : St w0 w a len cap t) (hb : Bytes w0 a len w0.heap.size)
    (hl : len ≤ 1048576) (h0 : 0 ≤ t) (h1 : t ≤ 1000000) (hm : 1 ≤ n) (hm2 : n ≤ 1000000000) :
    Calls Tryd.prog 28 #[.pointer (some ⟨w0.heap.size, 0, none⟩), .int .i64 n] w fun e w' => ∃ r : Int, e = .returned (.int .i64 r) ∧ 0 ≤ r ∧ r < n ∧ St w0 w' a len cap (t + 1) := by
  refine (draws w w0.heap.size a len cap t n st.src (hb.kept st.bel) hl h0 h1 hm hm2).mono ?_
  rintro e w' ⟨r, rfl, hp, hp2, hs, hg⟩
  exact ⟨r, rfl, hp, hp2, hs, st.bel.trans (grown_below hg (Nat.le_of_lt st.src.lt))⟩

theorem source (w : World) (a : Option Addr) (len cap : Nat) :
    Calls Tryd.prog 14 #[.slice a len cap] w fun e w' => e = .returned (.pointer (some ⟨w.heap.size, 0, none⟩)) ∧ St w w' a len cap 0 := by
  go_enter Tryd.func14, Tryd.ntmps14
  go_wp2
  go_ret
  exact ⟨rfl, src_new _ _, (Below.refl _ _).alloc (Nat.le_refl _) _⟩

theorem Bytes.mono {w : World} {a : Option Addr} {len p p' : Nat} (h : Bytes w a len p) (hp : p ≤ p') : Bytes w a len p' := by
  rcases h with h | ⟨b, off, rfl, hlt, hc⟩
  · exact .inl h
  · exact .inr ⟨b, off, rfl, by omega, hc⟩

/- the same bytes in a later world -/
theorem Bytes.later {w w' : World} {a : Option Addr} {len : Nat} (h : Bytes w a len w.heap.size) (hb : Below w.heap.size w w') : Bytes w' a len w'.heap.size :=
  (h.kept hb).mono hb.size

theorem bcell {W w1 : World} (hb : Below W.heap.size W w1) : (∀ b o, b < W.heap.size → w1.cell? ⟨b, o, none⟩ = W.cell? ⟨b, o, none⟩) ∧ (∀ b o, b < W.heap.size → w1.frozen? ⟨b, o, none⟩ = W.frozen? ⟨b, o, none⟩) :=
  ⟨fun b o h => hb.cell (p := ⟨b, o, none⟩) h, fun b o h => hb.frozen (p := ⟨b, o, none⟩) h⟩

theorem lwBig_no (w : World) (a : Option Addr) (len cap : Nat) (h : len ≤ 1048576) :
    Calls Tryd.prog 4 #[.slice a len cap] w fun e w' => e = .returned (.bool false) ∧ w' = w := by
  have h2 : decide (1048576 < (len : Int)) = false := decide_eq_false (by omega)
  go_enter Tryd.func4, Tryd.ntmps4
  go_wp2
  go_ret
  exact ⟨rfl, rfl⟩
theorem lwBig_yes (w : World) (a : Option Addr) (len cap : Nat) (h : 1048576 < len) :
    Calls Tryd.prog 4 #[.slice a len cap] w fun e w' => e = .returned (.bool true) ∧ w' = w := by
  have h2 : (1048576 : Int) < (len : Int) := by omega
  go_enter Tryd.func4, Tryd.ntmps4
  go_wp2
  go_ret
  exact ⟨rfl, rfl⟩

end Go.Proofs.YtepjkcfheejlbaaDoor
end

/- TickLaws0 -/
/- Contracts of the laws' own helpers: a choice that the bytes make, what a board holds. Condition: the code has at most 1048576 bytes, which can be read; the board is right. -/
section
namespace Go.Proofs.YtepjkcfheejlbaaDoor
open Go.ChangeShapes Go.WideShapes Go.ChangeAt Go.RowKit
open Bd
set_option linter.unusedVariables false

set_option maxHeartbeats 2000000 in
theorem lwAt_c (w : World) (a : Option Addr) (len cap : Nat) (hb : Bytes w a len w.heap.size) (hl : len ≤ 1048576) (i n : Int) (i0 : 0 ≤ i) (i1 : i ≤ 100) (n0 : 2 ≤ n) (n1 : n ≤ 200) :
    Calls Tryd.prog 10 #[.slice a len cap, .int .i64 i, .int .i64 n] w fun e w' => ∃ r : Int, e = .returned (.int .i64 r) ∧ 0 ≤ r ∧ r < n ∧ Below w.heap.size w w' := by
  have hn1 : decide (n ≤ 1) = false := decide_eq_false (by omega)
  by_cases hz : len = 0
  · subst hz
    go_enter Tryd.func10, Tryd.ntmps10
    go_wp2
    go_ret
    exact ⟨_, rfl, Int.emod_nonneg _ (by omega), Int.emod_lt_of_pos _ (by omega), Below.refl _ _⟩
  · rcases hb with hb | ⟨b, off, rfl, hlt, hc⟩
    · exact absurd hb hz
    have hp : (0 : Int) < (len : Int) := by omega
    have hz' : ((len : Int) == 0) = false := by simp; omega
    have m0 := Int.emod_nonneg i (b := (len : Int)) (by omega)
    have m1 := Int.emod_lt_of_pos i (b := (len : Int)) (by omega)
    have d0 := Int.ediv_nonneg (a := i) (b := (len : Int)) i0 (by omega)
    have d1 := Int.ediv_le_self (a := i) (len : Int) i0
    obtain ⟨z, z0, z1, hz1⟩ := hc (i % (len : Int)).toNat (by omega)
    have hbig' : decide (200 < n) = false := decide_eq_false (by omega)
    go_enter Tryd.func10, Tryd.ntmps10
    go_wp2
    go_quiet (fail)
    go_wp2
    go_ret
    exact ⟨_, rfl, Int.emod_nonneg _ (by omega), Int.emod_lt_of_pos _ (by omega), below_drewN _ _⟩
theorem hldU_take {l : List K10} {k : Nat} {x : K10} (h : l[k]? = some x) : hldU (l.take (k + 1)) = hldU (l.take k) + x.c5 := by
  rw [List.take_add_one, h, hldU_app]
  show _ + (x.c5 + 0) = _
  omega
theorem hldF_take {l : List K3} {k : Nat} {x : K3} (h : l[k]? = some x) : hldF (l.take (k + 1)) = hldF (l.take k) + x.c2 := by
  rw [List.take_add_one, h, hldF_app]
  show _ + (x.c2 + 0) = _
  omega
theorem hldU_part {us : List K10} {fs : List K3} (h : Gd us fs) (k : Nat) : 0 ≤ hldU (us.take k) ∧ hldU (us.take k) ≤ 160 := by
  have a := hldU_bd (us := us.take k) (fun u hu => h.u u (List.mem_of_mem_take hu))
  have := h.n8
  have : (us.take k).length ≤ us.length := by rw [List.length_take]; omega
  omega
theorem hldF_part {us : List K10} {fs : List K3} (h : Gd us fs) (k : Nat) : 0 ≤ hldF (fs.take k) ∧ hldF (fs.take k) ≤ 40000 := by
  have a := hldF_bd (fs := fs.take k) (fun u hu => h.f u (List.mem_of_mem_take hu))
  have := h.n4
  have : (fs.take k).length ≤ fs.length := by rw [List.length_take]; omega
  omega
end Go.Proofs.YtepjkcfheejlbaaDoor
end
