/- Texts of mine put together (a claim holds at most 60 files): OwnLaw, PutImpl, PutImpl2, BrdPlain0, BrdPlain, GdBf, GfGive, Tick2. -/
import Derived.Test.YtppgjmpdnpidnaaGreatDoorPartK11
import Derived.Test.YtppgjmpdnpidnaaGreatDoorPartK12
import Derived.Deep.Cut
import Derived.Deep.CutRange
import Derived.Maps.OwnSet
import Derived.Test.YtppgjmpdnpidnaaGreatDoorPartK09
import Derived.Test.YtppgjmpdnpidnaaGreatDoorPartK10
import Derived.Test.YtppgjmpdnpidnaaGreatDoorPartK08

/- OwnLaw -/
/- The walk of the exact law of OwnedBy. No condition. -/
section
namespace Go.Proofs.YtppgjmpdnpidnaaGreatDoor
open Go.ChangeShapes Go.WideShapes Go.ChangeAt Go.RowKit
open Bd
set_option linter.unusedVariables false

/- all blocks below n are as they were, and so are those at n or above that are not g or h -/
structure Kept2 (w w' : World) (g h : Nat) : Prop where
  os : w'.os = w.os
  tape : w'.tape = w.tape
  output : w'.output = w.output
  size : w.heap.size ≤ w'.heap.size
  block : ∀ i, i < w.heap.size → i ≠ g → i ≠ h → w'.heap[i]? = w.heap[i]?
theorem Kept2.row {w w' : World} {g h b n : Nat} {t : TypeId} {f : Nat → Value} (k : Kept2 w w' g h) (r : w.rowIs b t n f) (h1 : b ≠ g) (h2 : b ≠ h) : w'.rowIs b t n f := r.of_block (k.block b r.lt h1 h2)
theorem Kept2.below {W w w' : World} {n g h : Nat} (k : Kept2 w w' g h) (hb : Below n W w) (hn : n ≤ W.heap.size) (h1 : n ≤ g) (h2 : n ≤ h) : Below n W w' :=
  hb.trans ⟨k.os, k.tape, k.output, k.size, fun i hi => k.block i (Nat.lt_of_lt_of_le hi (Nat.le_trans hn hb.size)) (by omega) (by omega)⟩
theorem Kept2.sl {w w' : World} {g h base : Nat} {v : Value} {l : List Int} (k : Kept2 w w' g h) (s : SlI w base v l) (hx : ∀ b, v.ownBlock = some b → b ≠ g ∧ b ≠ h) : SlI w' base v l := by
  rcases s with ⟨h1, h2⟩
  refine ⟨h1, ?_⟩
  rcases h2 with h2 | ⟨b, cap, cur, hv, hbb, hg, r⟩
  · exact .inl h2
  · obtain ⟨x1, x2⟩ := hx b (by rw [hv]; rfl)
    exact .inr ⟨b, cap, cur, hv, hbb, (k.block b (Array.getElem?_eq_some_iff.1 hg).1 x1 x2).trans hg, r⟩
theorem SlI.lt {w : World} {base : Nat} {v : Value} {l : List Int} (s : SlI w base v l) : ∀ b, v.ownBlock = some b → base ≤ b ∧ b < w.heap.size := by
  intro b hb
  rcases s.2 with ⟨h1, h2⟩ | ⟨g, cap, cur, hv, hbb, hg, r⟩
  · rw [h1] at hb; cases hb
  · rw [hv] at hb
    have : g = b := Option.some.inj hb
    subst this
    exact ⟨hbb, (Array.getElem?_eq_some_iff.1 hg).1⟩
theorem SlI.cases {w : World} {base : Nat} {v : Value} {l : List Int} (s : SlI w base v l) : (l = [] ∧ ∃ a cap, v = .slice a 0 cap) ∨ (l ≠ [] ∧ ∃ g cap, v = .slice (some ⟨g, 0, none⟩) l.length cap ∧ base ≤ g ∧ Lst w g cap l) := by
  by_cases h : l = []
  · subst h
    obtain ⟨a, cap, hv⟩ := s.form
    exact .inl ⟨rfl, a, cap, hv⟩
  · have h0 : 0 < l.length := by cases l with | nil => exact absurd rfl h | cons _ _ => simp
    exact .inr ⟨h, Lst.of_owns s h0⟩
theorem SlI.of_lst {w : World} {base g cap : Nat} {l : List Int} (h : Lst w g cap l) (hb : base ≤ g) : SlI w base (.slice (some ⟨g, 0, none⟩) l.length cap) l := by
  obtain ⟨cur, h1, h2, h3, h4, h5⟩ := h
  exact ⟨by simp, .inr ⟨g, cap, cur, rfl, hb, h1, h2, h3, by simpa using h4, by simpa using h5⟩⟩
theorem SlI.grown {w w' : World} {base : Nat} {v : Value} {l : List Int} {r : Option Nat} (s : SlI w base v l) (k : w.grownBy w' r) (hx : ∀ b, v.ownBlock = some b → some b ≠ r) : SlI w' base v l := by
  rcases s with ⟨h1, h2⟩
  refine ⟨h1, ?_⟩
  rcases h2 with h2 | ⟨b, cap, cur, hv, hbb, hg, q⟩
  · exact .inl h2
  · exact .inr ⟨b, cap, cur, hv, hbb, (k.block b (Array.getElem?_eq_some_iff.1 hg).1 (hx b (by rw [hv]; rfl))).trans hg, q⟩
theorem Kept2.of_grown {w w' : World} {g h : Nat} (k : w.grownBy w' (some g)) : Kept2 w w' g h := ⟨k.os, k.tape, k.output, k.size, fun i hi h1 _ => k.block i hi (fun e => h1 (Option.some.inj e))⟩
theorem Kept2.trans {a b c : World} {g h : Nat} (k : Kept2 a b g h) (l : Kept2 b c g h) : Kept2 a c g h := ⟨l.os.trans k.os, l.tape.trans k.tape, l.output.trans k.output, Nat.le_trans k.size l.size, fun i hi h1 h2 => (l.block i (Nat.lt_of_lt_of_le hi k.size) h1 h2).trans (k.block i hi h1 h2)⟩
theorem Kept2.alloc (w : World) (g h : Nat) (o : Obj) : Kept2 w (w.alloc o) g h := Kept2.of_grown (World.grownBy_alloc w o _)
end Go.Proofs.YtppgjmpdnpidnaaGreatDoor
end

/- PutImpl -/
/- Contracts of the program's parts of PutUnit: the map's rows as rising units, a copy of the fields. Condition: the map is the call's own. -/
section
namespace Go.Proofs.YtppgjmpdnpidnaaGreatDoor
open Go.ChangeShapes Go.WideShapes Go.ChangeAt Go.RowKit
open Bd
set_option linter.unusedVariables false

theorem MapAt.size {w : World} {b : Nat} {l : List K10} (h : MapAt w b l) : ∃ es clock, w.heap[b]? = some (.map es clock) ∧ es.size = l.length := by
  obtain ⟨es, clock, hb, F, hs, hD⟩ := h
  refine ⟨es, clock, hb, ?_⟩
  have := congrArg (fun d => match d with | DataW.map x => x.length | _ => 0) hD
  simp only at this
  rw [List.length_map, length_sorted] at this
  simpa using this.symm
theorem rise_inj {l : List K10} (h : Rise l) {x y : K10} (hx : x ∈ l) (hy : y ∈ l) (he : x.c0 = y.c0) : x = y := by
  obtain ⟨i, hi, rfl⟩ := List.getElem_of_mem hx
  obtain ⟨j, hj, rfl⟩ := List.getElem_of_mem hy
  by_cases hij : i = j
  · subst hij; rfl
  · rcases Nat.lt_or_gt_of_ne hij with h1 | h1
    · have := List.pairwise_iff_getElem.1 h i j hi hj h1; omega
    · have := List.pairwise_iff_getElem.1 h j i hj hi h1; omega
theorem find_mem {l : List K10} (h : Rise l) {x : K10} (hx : x ∈ l) : findU l x.c0 = some x := by
  cases hf : findU l x.c0 with
  | none =>
    unfold findU at hf
    have := List.find?_eq_none.1 hf x hx
    simp at this
  | some y =>
    obtain ⟨h1, h2⟩ := find_id hf
    rw [rise_inj h h1 hx h2]
theorem makeU0 (n : Nat) (hn : n ≤ 1048576) (w : World) : (Instr.makeSlice 24 (.int .i64 0) (.int .i64 (n : Int))).run Tryz.prog w = .ok (.slice (some ⟨w.heap.size, 0, none⟩) 0 n) (w.alloc (.cells (madeCells K10.z.v (n * 10)) 75)) := by
  obtain ⟨i0, hi, hz0, hz1, hz2⟩ := info_parts infoU
  have h := run_make (P := Tryz.prog) w 24 75 i0 (.agg K10.z.v) Tryz.underlying24 hi hz0 .i64 .i64 (0 : Int) (n : Int) (by omega) (by omega) (by rw [hz2]; omega) (by omega)
  rw [hz1, Int.toNat_natCast] at h
  exact h
theorem MapAt.len {w : World} {b n : Nat} {l : List K10} (h : MapAt w b l) (hn : l.length = n) (ty : TypeId) : (Builtin.len_ #[124] ty #[.map (some b)]).run Tryz.prog w = .ok (.int .i64 (n : Int)) w := by
  have := World.ownsMap.len h Tryz.underlying124 ty
  rw [Maps.size_eq, List.length_map, hn] at this
  exact this
theorem wpList_pushU2 {ops : Array Oper} {rest : List Oper} {o : Oper} {a : Act} {Q : Exit → Act → World → Prop} (hgd : o.guard = none) (s x : Operand)
    (ho : o.op = .call { callee := .builtin .append, args := #[s, x], argTypes := #[24, 24] }) (w0 : World) (u : K10) (base : Nat) (v : Value) (l : List K10) (hs : a.eval s = v) (hown : SlU w0 base v l)
    (hx : a.eval x = .slice (some ⟨w0.heap.size, 0, none⟩) 1 1) (hlen : l.length ≤ 100) (hbase : base ≤ w0.heap.size)
    (h : ∀ v' w', SlU w' base v' (l ++ [u]) → Below base w0 w' → (w0.alloc (.cells u.v 75)).grownBy w' v.ownBlock → wpList Tryz.prog ops Q rest (a.put o.dst v') w') :
    wpList Tryz.prog ops Q (o :: rest) a (w0.alloc (.cells u.v 75)) := by
  obtain ⟨i0, hi, hz0, hz1, hz2⟩ := info_parts infoU
  have hown' : SlU (w0.alloc (.cells u.v 75)) base v l := hown.below ((Below.refl _ _).alloc (Nat.le_refl _) _)
  refine wpList_append_own _ hgd s x 24 ho base 75 i0 (.agg K10.z.v) 10 80 Tryz.underlying24 hi hz0 hz1 hz2 rfl (by decide) v l.length _ hs hown' ⟨w0.heap.size, 0, none⟩ 1 1 u.v.toList hx (by rfl) ?_ ?_ (by unfold maxLen; omega) (by omega) (by rw [size_new]; omega) ?_
  · intro j y hj
    rw [add_plain', Nat.zero_add]
    exact cell_new _ _ _ _ _ (by simpa using hj)
  · intro y hy
    exact flatU_one [u] y (by unfold flatU; exact List.mem_append_left _ hy)
  · intro v' w' h1 h2 _
    refine h v' w' ?_ (((Below.refl base w0).alloc hbase _).grown h2 (by rw [size_new]; omega) (fun k' hk' => (hown.lt k' hk').1)) h2
    unfold SlU
    rw [flatU_app, List.length_append]
    exact h1
theorem own_apart {w : World} {b1 b2 : Nat} {v v' : Value} {l : List K10} {l' : List Int} (h : SlU w b1 v l) (h' : SlI w b2 v' l') : ∀ q, v'.ownBlock = some q → some q ≠ v.ownBlock := by
  intro q hq e
  rcases h.2 with ⟨rfl, _⟩ | ⟨g, cap, cur, rfl, _, hg, _⟩
  · cases e
  · rcases h'.2 with ⟨rfl, _⟩ | ⟨g', cap', cur', rfl, _, hg', _⟩
    · cases hq
    · have e1 : g' = q := Option.some.inj hq
      have e2 : q = g := Option.some.inj e
      subst e1 e2
      rw [hg] at hg'
      injection hg' with hg'
      injection hg' with _ ht _
      exact absurd ht (by decide)
set_option maxRecDepth 20000 in
set_option maxHeartbeats 8000000 in
theorem risingUnits_c (b n : Nat) (l : List K10) (hn : l.length = n) (hl : n ≤ 9) (hr : Rise l) (hi : ∀ x ∈ l, uf x = 0) (w : World) (h : MapAt w b l) :
    Calls Tryz.prog 97 #[.map (some b)] w fun e w' => ∃ v, e = .returned v ∧ SlU w' w.heap.size v l ∧ Below w.heap.size w w' := by
  have hlm := fun ty => h.len hn ty
  have H : Hid (MapAt w b l) := h
  have Hr : Hid (Rise l) := hr
  have Hi : Hid (∀ x ∈ l, uf x = 0) := hi
  have Hn : Hid (l.length = n) := hn
  have hmk := fun (W : World) => makeU0 n (by omega) W
  clear h hr hi hn
  obtain ⟨W1, HW1⟩ : ∃ W1, Hid (W1 = w.alloc (.cells (madeCells K10.z.v (n * 10)) 75)) := ⟨_, rfl⟩
  have k1 : Below w.heap.size w W1 := by rw [HW1.out]; exact (Below.refl _ _).alloc (Nat.le_refl _) _
  have S1 : SlU W1 w.heap.size (.slice (some ⟨w.heap.size, 0, none⟩) 0 n) [] := by rw [HW1.out]; exact World.ownsRow_made w _ n (Nat.le_refl _) (by unfold maxLen; omega) (size_madeCells _ _)
  have M1 := H.out.later k1
  have cS := sorted_c b l (by have := Hn.out; omega) Hr.out W1 M1
  have cK := keys_c (some b)
  go_enter Tryz.func97, Tryz.ntmps97
  go_upto_region 2 with fail
  rw [← HW1.out]
  clear hlm hmk
  go_wp2_with fail
  refine (cK _).mono ?_
  rintro e w2 ⟨rfl, rfl⟩
  go_wp2_with fail
  refine cS.mono ?_
  rintro e w3 ⟨vi, rfl, L3, k3⟩
  obtain ⟨ai, ci, hvi⟩ := L3.form
  rw [List.length_map, Hn.out] at hvi
  subst hvi
  have HL : Hid (SlI w3 W1.heap.size (.slice ai n ci) (l.map K10.c0)) := L3
  have HM : Hid (MapAt w3 b l) := M1.later k3
  have S3 := S1.below k3
  have B3 := k1.trans (k3.mono k1.size)
  clear cK cS L3 M1 S1
  go_wp2_with fail
  go_loopw [3, 13] (fun v i wr => ∃ k : Nat, k ≤ n ∧ i = .int .i64 k ∧ SlU wr w.heap.size v (l.take k) ∧ Below w.heap.size w wr ∧ Hid (MapAt wr b l) ∧ Hid (SlI wr W1.heap.size (.slice ai n ci) (l.map K10.c0)) ∧ w3.heap.size ≤ wr.heap.size) (fun _ i _ => n - (intOf i).toNat)
  case atStart => exact ⟨0, Nat.zero_le _, rfl, S3, B3, HM, HL, Nat.le_refl _⟩
  case round =>
    obtain ⟨k, hk, rfl, hS, hbel, Hm, Hs, hsz⟩ := hrel
    by_cases hlt : k < n
    · have hlt' : (k : Int) < (n : Int) := by omega
      obtain ⟨x, hx⟩ : ∃ x, l[k]? = some x := ⟨_, List.getElem?_eq_getElem (by have := Hn.out; omega)⟩
      have hid := uf_id (Hi.out x (List.mem_of_getElem? hx))
      have hlk := Hm.out.look1 x.c0 (wf_int (by omega) (by omega)) (find_mem Hr.out (List.mem_of_getElem? hx))
      have HE : Hid (l.take (k + 1) = l.take k ++ [x]) := take_next hx
      have hlen : (l.take k).length ≤ 100 := by rw [List.length_take]; omega
      have hbW : b < w.heap.size := H.out.lt
      rcases Hs.out.cases with ⟨h0, _⟩ | ⟨_, gi, ci', hv, hgi, Lx⟩
      · have := congrArg List.length h0
        rw [List.length_map, Hn.out] at this
        simp at this
        omega
      simp only [Value.slice.injEq] at hv
      obtain ⟨rfl, hnn, rfl⟩ := hv
      clear hnn
      have ic := Lx.cell (i := k) (x := x.c0) (by rw [List.getElem?_map, hx]; rfl)
      have cI := fun w => unitIn_c x w
      clear hx Lx
      go_wp2_with fail
      refine (cI _).mono ?_
      rintro e w4 ⟨rfl, hw4⟩
      have k4 : Below wr.heap.size wr w4 := by rw [hw4]; exact ((Below.refl _ _).alloc (Nat.le_refl _) _).alloc (by simp only [size_new]; omega) _
      have hS4 := hS.below k4
      have hM4 := Hm.out.later k4
      have hs4 := Hs.out.below k4
      have hbel4 := hbel.trans (k4.mono hbel.size)
      clear hw4 ic hlk
      go_wp2_with (first | (at_builtin; refine wpList_pushU2 rfl _ _ rfl _ x w.heap.size _ (l.take k) rfl (by exact hS4) rfl (by omega) (by exact hbel4.size) ?_))
      intro v5 w5 hS5 hb5 hg5
      have k5 : Below w4.heap.size w4 (w4.alloc (.cells x.v 75)) := (Below.refl _ _).alloc (Nat.le_refl _) _
      have hM5 : MapAt w5 b l := (hM4.later k5).of_block (hg5.block b (hM4.later k5).lt (fun e => by have := (hS4.lt b e.symm).1; omega))
      have hs5 : SlI w5 W1.heap.size (.slice (some ⟨gi, 0, none⟩) n ci) (l.map K10.c0) := (hs4.below k5).grown hg5 (own_apart (hS4.below k5) (hs4.below k5))
      have hbel5 := hbel4.trans hb5
      have hsz5 : w3.heap.size ≤ w5.heap.size := by have := hg5.size; rw [size_new] at this; have := k4.size; omega
      go_wp2_with fail
      go_roundw
      case rel => exact ⟨k + 1, by omega, by go_num, by rw [HE.out]; exact hS5, hbel5, hM5, hs5, hsz5⟩
      case measure => simp [intOf]; omega
    · obtain rfl : k = n := by omega
      rw [List.take_of_length_le (by have := Hn.out; omega)] at hS
      go_wp2_with fail
      go_ret
      exact ⟨_, rfl, hS, hbel⟩
/- a copy of the fields -/
set_option maxRecDepth 20000 in
set_option maxHeartbeats 2000000 in
theorem clone_c (g off c n : Nat) (fs : List K3) (hn : fs.length = n) (hl : n ≤ 4) (w : World) (hg : g < w.heap.size) (hat : FAt w g off fs) :
    Calls Tryz.prog 74 #[.slice (some ⟨g, off, none⟩) n c] w fun e w' => ∃ v, e = .returned v ∧ SlF w' w.heap.size v fs ∧ Below w.heap.size w w' := by
  have Hn : Hid (fs.length = n) := hn
  have Hat : Hid (FAt w g off fs) := hat
  have hnil : ∀ W, (binOp .eql 25 (.slice (some ⟨g, off, none⟩) n c) (.slice none 0 0)).run Tryz.prog W = .ok (.bool false) W := fun W => by kernel_rfl
  clear hn hat
  go_enter Tryz.func74, Tryz.ntmps74
  go_wp2_with (first | (at_builtin; refine wpList_copyF rfl _ _ rfl w fs g off n c Hn.out Hat.out hg rfl rfl (by omega) ?_))
  intro v2 w2 hS2 hb2
  go_wp2_with fail
  go_ret
  exact ⟨_, rfl, hS2, hb2⟩
set_option maxRecDepth 20000 in
set_option maxHeartbeats 2000000 in
theorem clone_i (p : Option Addr) (c n : Nat) (fs : List K3) (hn : fs.length = n) (hl : n ≤ 4) (w : World) (hat : InF w p n c fs) :
    Calls Tryz.prog 74 #[.slice p n c] w fun e w' => ∃ v, e = .returned v ∧ SlF w' w.heap.size v fs ∧ Below w.heap.size w w' := by
  rcases hat with ⟨rfl, rfl, rfl, rfl⟩ | ⟨g, off, rfl, hg, hat⟩
  · have hnil : ∀ W, (binOp .eql 25 (.slice none 0 0) (.slice none 0 0)).run Tryz.prog W = .ok (.bool true) W := fun W => by kernel_rfl
    go_enter Tryz.func74, Tryz.ntmps74
    go_wp2
    go_ret
    exact ⟨_, rfl, ⟨rfl, .inl ⟨rfl, rfl⟩⟩, Below.refl _ _⟩
  · exact clone_c g off c n fs hn hl w hg hat
end Go.Proofs.YtppgjmpdnpidnaaGreatDoor
end

/- PutImpl2 -/
/- The contract of the program's PutUnit. Condition: the board's lists lie in memory as they were laid there. -/
section
namespace Go.Proofs.YtppgjmpdnpidnaaGreatDoor
open Go.ChangeShapes Go.WideShapes Go.ChangeAt Go.RowKit
open Bd
set_option linter.unusedVariables false

end Go.Proofs.YtppgjmpdnpidnaaGreatDoor
end

/- BrdPlain0 -/
/- Plain facts: a board whose parts are right has no fault. No condition. -/
section
namespace Go.Proofs.YtppgjmpdnpidnaaGreatDoor
open Bd
set_option linter.unusedVariables false

theorem ffs_mk : ∀ {l : List K3}, (∀ f ∈ l, ff f = true) → ffs l = 0
  | [], _ => rfl
  | f :: l, h => by
    unfold ffs
    rw [if_neg (by rw [h f (by simp)]; simp)]
    exact ffs_mk (fun x hx => h x (List.mem_cons_of_mem _ hx))
theorem ufs_mk {F : Int} (hF : F = 0) : ∀ {l : List K10} {p : Option Int}, (∀ u ∈ l, uf u = 0) → (∀ q, p = some q → ∀ u ∈ l, q < u.c0) → Rise l → ufs p F l = 0
  | [], _, _, _, _ => hF
  | a :: l, p, h, hp, hr => by
    unfold ufs
    rw [if_neg (by rw [h a (by simp)]; simp)]
    have hl : leP p a.c0 = false := by
      cases p with
      | none => rfl
      | some q => have := hp q rfl a (by simp); simp [leP]; omega
    rw [if_neg (by rw [hl]; simp)]
    have hr' := List.pairwise_cons.1 hr
    exact ufs_mk hF (fun x hx => h x (List.mem_cons_of_mem _ hx)) (fun q hq u hu => by cases hq; exact hr'.1 u hu) hr'.2
theorem bf_mk {us : List K10} {fs : List K3} (h1 : us.length ≤ 8) (h2 : fs.length ≤ 4) (h3 : ∀ u ∈ us, uf u = 0) (h4 : ∀ f ∈ fs, ff f = true) (h5 : Rise us) : bf us fs = 0 := by
  unfold bf
  rw [if_neg (by omega)]
  exact ufs_mk (ffs_mk h4) h3 (fun q hq => by cases hq) h5
end Go.Proofs.YtppgjmpdnpidnaaGreatDoor
end

/- BrdPlain -/
/- Plain facts: a unit that was put is there, all others are as they were, and the board has no fault. No condition. -/
section
namespace Go.Proofs.YtppgjmpdnpidnaaGreatDoor
open Bd
set_option linter.unusedVariables false

end Go.Proofs.YtppgjmpdnpidnaaGreatDoor
end

/- GdBf -/
/- A right board has no fault. No condition. -/
section
namespace Go.Proofs.YtppgjmpdnpidnaaGreatDoor
open Bd
set_option linter.unusedVariables false

theorem Gd.bf {us : List K10} {fs : List K3} (h : Gd us fs) : Bd.bf us fs = 0 := bf_mk h.n8 h.n4 h.u h.f h.r
end Go.Proofs.YtppgjmpdnpidnaaGreatDoor
end

/- GfGive -/
/- Plain facts of gifts: a unit that is given away, the board and the world behind it, what there is together, whose the units are. No condition. -/
section
namespace Go.Proofs.YtppgjmpdnpidnaaGreatDoor
open Bd
set_option linter.unusedVariables false

/- a unit handed to another owner: it has no job any more -/
def handed (u : K10) (o : Int) : K10 := ⟨u.c0, o, u.c2, u.c3, u.c4, u.c5, 0, 0, 0, 0⟩
def givC (h : Int → Int → Bool) (x : KW) (a i b : Int) : Int := if (prF h x a b == 0) = false then prF h x a b else match findU x.us i with | none => 4 | some u => if (u.c1 == a) = true then 0 else 9
def givU (x : KW) (i b : Int) : List K10 := match findU x.us i with | none => x.us | some u => putU (handed u b) x.us
def givX (h : Int → Int → Bool) (x : KW) (a i b : Int) : KW := if (givC h x a i b == 0) = true then ⟨x.t, x.s, givU x i b, x.fs, x.fa, x.se, x.oo⟩ else kz
def crU : List K10 → Int
  | [] => 0
  | u :: l => u.c5 + crU l
/- what there is together -/
def totF (x : KW) : Int := x.s + crU x.us + sumF x.fs + purS x.fa
theorem GU.handed {u : K10} (g : GU u) {b : Int} (h : (0 ≤ b ∧ b ≤ 3) ∨ b = 9) : GU (handed u b) := ⟨g.i0, g.i1, h, g.x0, g.x1, g.y0, g.y1, g.l0, g.l1, g.c0, g.c1, .inl ⟨rfl, rfl, rfl, rfl⟩⟩
structure GivG (h : Int → Int → Bool) (x : KW) (a i b : Int) : Prop where
  at' : ∃ k u, x.us[k]? = some u ∧ u.c0 = i ∧ u.c1 = a ∧ (givX h x a i b).us = x.us.set k (handed u b)
  fnd : ∃ u, findU (givX h x a i b).us i = some (handed u b)
  wf0 : wf h (givX h x a i b) = 0
  tot : totF (givX h x a i b) = totF x
  ids : (idsOf b (givX h x a i b).us).length = (idsOf b x.us).length + 1
  bx : Bd.bf x.us x.fs = 0
  bg : Bd.bf (givX h x a i b).us x.fs = 0
  ob : own b = true
  len : (givX h x a i b).us.length = x.us.length
  oth : ∀ (j : Nat) (y : K10), x.us[j]? = some y → y.c0 ≠ i → (givX h x a i b).us[j]? = some y
end Go.Proofs.YtppgjmpdnpidnaaGreatDoor
end

/- Tick2 -/
/- Plain facts of chapter 5 (ticks): ticks that are added up. No condition. -/
section
namespace Go.Proofs.YtppgjmpdnpidnaaGreatDoor
open Bd
set_option linter.unusedVariables false

def addL (a b : List Int) : List Int := List.zipWith (fun x y => x + y) a b
def subL (a b : List Int) : List Int := List.zipWith (fun x y => x - y) a b
def z4 : List Int := [0, 0, 0, 0]
theorem addL_at {a b : List Int} (h : a.length = b.length) (o : Nat) (x : Int) : addL a (addAt b o x) = addAt (addL a b) o x := by
  apply List.ext_getElem?
  intro i
  unfold addL addAt
  rw [List.getElem?_set, List.getElem?_zipWith, List.getElem?_set, List.getElem?_zipWith, List.length_zipWith]
  by_cases ho : o < b.length
  · by_cases e : o = i
    · subst e
      rw [if_pos rfl, if_pos rfl, if_pos ho, if_pos (by omega), List.getD_eq_getElem?_getD, List.getD_eq_getElem?_getD, List.getElem?_zipWith, List.getElem?_eq_getElem ho, List.getElem?_eq_getElem (l := a) (by omega)]
      simp [Int.add_assoc]
    · rw [if_neg e, if_neg e]
  · by_cases e : o = i
    · subst e
      rw [if_pos rfl, if_pos rfl, if_neg ho, if_neg (by omega)]
      have : a[o]? = none := List.getElem?_eq_none (by omega)
      rw [this]
    · rw [if_neg e, if_neg e]
theorem subL_at {a b : List Int} (h : a.length = b.length) (o : Nat) (x : Int) : subL a (addAt b o x) = addAt (subL a b) o (-x) := by
  apply List.ext_getElem?
  intro i
  unfold subL addAt
  rw [List.getElem?_set, List.getElem?_zipWith, List.getElem?_set, List.getElem?_zipWith, List.length_zipWith]
  by_cases ho : o < b.length
  · by_cases e : o = i
    · subst e
      rw [if_pos rfl, if_pos rfl, if_pos ho, if_pos (by omega), List.getD_eq_getElem?_getD, List.getD_eq_getElem?_getD, List.getElem?_zipWith, List.getElem?_eq_getElem ho, List.getElem?_eq_getElem (l := a) (by omega)]
      simp; omega
    · rw [if_neg e, if_neg e]
  · by_cases e : o = i
    · subst e
      rw [if_pos rfl, if_pos rfl, if_neg ho, if_neg (by omega)]
      have : a[o]? = none := List.getElem?_eq_none (by omega)
      rw [this]
    · rw [if_neg e, if_neg e]
theorem four {l : List Int} (h : l.length = 4) : ∃ a b c d, l = [a, b, c, d] := by
  match l, h with
  | [a, b, c, d], _ => exact ⟨a, b, c, d, rfl⟩
theorem addL_z {a : List Int} (h : a.length = 4) : addL a z4 = a := by
  obtain ⟨a, b, c, d, rfl⟩ := four h
  simp [addL, z4]
theorem subL_z {a : List Int} (h : a.length = 4) : subL a z4 = a := by
  obtain ⟨a, b, c, d, rfl⟩ := four h
  simp [subL, z4]
/- two states that are one but for what was got and lost ahead -/
structure Shift (g r0 : List Int) (l : Int) (s t : TS) : Prop where
  us : t.us = s.us
  fs : t.fs = s.fs
  rm : t.rm = s.rm
  gn : t.gn = addL g s.gn
  lost : t.lost = l + s.lost
  r : s.rm = subL r0 s.gn
  n : s.gn.length = g.length
  n' : s.gn.length = r0.length
theorem Shift.step {g r0 : List Int} {l : Int} {s t : TS} (h : Shift g r0 l s t) (i : Int) : Shift g r0 l (tkS s i) (tkS t i) := by
  unfold tkS
  rw [h.us]
  cases hf : findU s.us i with
  | none => exact h
  | some u =>
    dsimp only
    rw [h.fs, h.rm]
    refine ⟨rfl, rfl, rfl, ?_, ?_, ?_, ?_, ?_⟩
    · dsimp only; rw [h.gn, addL_at h.n.symm]
    · dsimp only; rw [h.lost]; omega
    · dsimp only; rw [subL_at h.n'.symm, ← h.r]
    · dsimp only; rw [addAt_len]; exact h.n
    · dsimp only; rw [addAt_len]; exact h.n'
theorem Shift.list {g r0 : List Int} {l : Int} {s t : TS} (h : Shift g r0 l s t) (ids : List Int) : Shift g r0 l (tkL s ids) (tkL t ids) := by
  unfold tkL
  induction ids generalizing s t with
  | nil => exact h
  | cons i ids ih => exact ih (h.step i)
theorem Shift.tick {g r0 : List Int} {l : Int} {s t : TS} (h : Shift g r0 l s t) : Shift g r0 l (tkB s) (tkB t) := by
  unfold tkB
  rw [h.us]
  exact h.list _
theorem Shift.ticks {g r0 : List Int} {l : Int} {s t : TS} (h : Shift g r0 l s t) (n : Nat) : Shift g r0 l (tkN n s) (tkN n t) := by
  induction n generalizing s t with
  | zero => exact h
  | succ n ih => exact ih h.tick
/- the beginning of ticks -/
def ts0 (us : List K10) (fs : List K3) (rm : List Int) : TS := ⟨us, fs, rm, z4, 0⟩
theorem Shift.start {us : List K10} {fs : List K3} {rm gn : List Int} {l : Int} (h : rm.length = 4) (h' : gn.length = 4) : Shift gn rm l (ts0 us fs rm) ⟨us, fs, rm, gn, l⟩ :=
  ⟨rfl, rfl, rfl, (addL_z h').symm, by show l = l + 0; omega, (subL_z h).symm, h'.symm, h.symm⟩
theorem tkN_next (n : Nat) (s : TS) : tkN (n + 1) s = tkB (tkN n s) := by
  induction n generalizing s with
  | zero => rfl
  | succ n ih => exact ih (tkB s)
theorem TG.start {us : List K10} {fs : List K3} {rm : List Int} (h : Gd us fs) (hl : rm.length = 4) (hr : ∀ x ∈ rm, 0 ≤ x ∧ x ≤ 1000000) : TG (ts0 us fs rm) :=
  ⟨h, hl, rfl, hr, fun x hx => by simp [ts0, z4] at hx; omega, fun k hk => by
    have e : (z4).getD k 0 = 0 := by rcases k with _ | _ | _ | _ | k <;> first | rfl | omega
    show rm.getD k 0 + (z4).getD k 0 ≤ _
    rw [e]
    have := (hr _ (getD_mem (l := rm) (k := k) (by omega))).2
    omega, Int.le_refl _, by have := h.n8; show 0 + 20 * (us.length : Int) ≤ 160; omega⟩
theorem tkL_take {s : TS} {ids : List Int} {k : Nat} {i : Int} (h : ids[k]? = some i) : tkL s (ids.take (k + 1)) = tkS (tkL s (ids.take k)) i := by
  rw [List.take_add_one, h]
  unfold tkL
  rw [List.foldl_append]; rfl
end Go.Proofs.YtppgjmpdnpidnaaGreatDoor
end
