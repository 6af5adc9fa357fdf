/- Texts of mine put together (a claim holds at most 60 files): TickFault, TickNew, TickRes. -/
import Derived.Test.YtppgjmpdnpidnaaGreatDoorPartK21
import Derived.Test.YtppgjmpdnpidnaaGreatDoorPartK05
import Derived.Test.YtppgjmpdnpidnaaGreatDoorPartK12

/- TickFault -/
/- Contracts of the codes of rooms, the model's and the program's. Condition: the lists lie in memory as they were laid there. -/
section
namespace Go.Proofs.YtppgjmpdnpidnaaGreatDoor
open Go.ChangeShapes Go.WideShapes Go.ChangeAt Go.RowKit
open Bd
set_option linter.unusedVariables false

def purs : List Int → Int
  | [] => 0
  | x :: l => if inb x 0 1000000 = true then purs l else 3
def rmF (rm : List Int) : Int := if rm.length = 4 then purs rm else 2
def tkF (us : List K10) (fs : List K3) (rm : List Int) : Int := if (bf us fs == 0) = true then rmF rm else bf us fs
theorem purs_step {l : List Int} {k : Nat} {x : Int} (h : l[k]? = some x) : purs (l.drop k) = if inb x 0 1000000 = true then purs (l.drop (k + 1)) else 3 := by
  have h' := List.getElem?_eq_some_iff.1 h
  rw [List.drop_eq_getElem_cons h'.1, h'.2]; rfl
theorem purs_ok {l : List Int} (h : purs l = 0) : ∀ x ∈ l, 0 ≤ x ∧ x ≤ 1000000 := by
  induction l with
  | nil => intro x hx; cases hx
  | cons a l ih =>
    unfold purs at h
    split at h
    · rename_i q
      intro x hx
      rcases List.mem_cons.1 hx with rfl | hx
      · exact inb_i q
      · exact ih h x hx
    · cases h
theorem tkF_ok {us : List K10} {fs : List K3} {rm : List Int} (h : tkF us fs rm = 0) : bf us fs = 0 ∧ rm.length = 4 ∧ ∀ x ∈ rm, 0 ≤ x ∧ x ≤ 1000000 := by
  unfold tkF at h
  cases hq : bf us fs == 0
  · rw [hq] at h
    simp at h
    rw [h] at hq
    simp at hq
  · rw [hq] at h
    have hz : bf us fs = 0 := by simpa using hq
    unfold rmF at h
    simp only [if_true] at h
    split at h
    · rename_i q
      exact ⟨hz, q, purs_ok h⟩
    · cases h
/- a list of numbers that came in -/
def ArgI (w : World) (a : Option Addr) (l : List Int) : Prop := l = [] ∨ ∃ b off, a = some ⟨b, off, none⟩ ∧ b < w.heap.size ∧ IAt w b off l
theorem ArgI.later {w w' : World} {a : Option Addr} {l : List Int} (h : ArgI w a l) (hb : Below w.heap.size w w') : ArgI w' a l := by
  rcases h with h | ⟨b, off, h1, h2, h3⟩
  · exact .inl h
  · exact .inr ⟨b, off, h1, Nat.lt_of_lt_of_le h2 hb.size, h3.later h2 hb⟩
theorem ArgI.at {w : World} {a : Option Addr} {l : List Int} (h : ArgI w a l) {i : Nat} {x : Int} (hi : l[i]? = some x) : ∃ b off, a = some ⟨b, off, none⟩ ∧ b < w.heap.size ∧ IAt w b off l := by
  rcases h with h | h
  · rw [h] at hi; simp at hi
  · exact h
theorem isPurse_c (v : Int) (w : World) :
    Calls Tryz.prog 54 #[.int .i64 v] w fun e w' => e = .returned (.bool (inb v 0 1000000)) ∧ w' = w := by
  by_cases h1 : 0 ≤ v
  · by_cases h2 : v ≤ 1000000
    · rw [inb_t h1 h2]
      go_enter Tryz.func54, Tryz.ntmps54
      go_wp2
      go_ret
      exact ⟨rfl, rfl⟩
    · rw [inb_f (by omega)]
      have d2 : decide (v ≤ 1000000) = false := decide_eq_false h2
      go_enter Tryz.func54, Tryz.ntmps54
      go_wp2
      go_ret
      exact ⟨rfl, rfl⟩
  · rw [inb_f (by omega)]
    have d2 : decide (0 ≤ v) = false := decide_eq_false h1
    go_enter Tryz.func54, Tryz.ntmps54
    go_wp2
    go_ret
    exact ⟨rfl, rfl⟩
set_option maxRecDepth 20000 in
set_option maxHeartbeats 4000000 in
theorem tickFault_c (a : Option Addr) (m c : Nat) (a' : Option Addr) (m' c' : Nat) (ar : Option Addr) (mr cr : Nat) (us : List K10) (fs : List K3) (rm : List Int) (hl : us.length = m) (hl' : fs.length = m') (hr : rm.length = mr) (hmx : (mr : Int) ≤ 9223372036854775807) (w : World) (hU : ArgU w a us) (hF : ArgF w a' fs) (hR : ArgI w ar rm) :
    Calls Tryz.prog 64 #[.agg #[.slice a m c, .slice a' m' c'], .slice ar mr cr] w fun e w' => e = .returned (.int .i64 (tkF us fs rm)) ∧ Below w.heap.size w w' := by
  have B1 : Below w.heap.size w (w.alloc (.cells #[.slice a m c, .slice a' m' c'] 27)) := (Below.refl _ _).alloc (Nat.le_refl _) _
  have cF := implBoardFault a m c a' m' c' us fs hl hl' _ (hU.later B1) (hF.later B1)
  have HR : Hid (ArgI w ar rm) := hR
  unfold tkF
  cases hq : bf us fs == 0
  · rw [if_neg (by simp)]
    have hq' := bne_of hq
    generalize bf us fs = R at hq hq' cF
    clear hR hU hF hl hl' hr
    go_enter Tryz.func64, Tryz.ntmps64
    go_wp2_with fail
    refine cF.mono ?_
    rintro e w1 ⟨rfl, k1⟩
    have B2 := B1.trans (k1.mono B1.size)
    go_wp2_with fail
    go_ret
    exact ⟨rfl, B2⟩
  · rw [if_pos rfl]
    have hz : bf us fs = 0 := by simpa using hq
    rw [hz] at cF
    by_cases h4 : mr = 4
    · subst h4
      have e : rmF rm = purs rm := by unfold rmF; rw [if_pos hr]
      obtain ⟨R, HRR⟩ : ∃ R, Hid (R = purs rm) := ⟨_, rfl⟩
      rw [e, ← HRR.out]
      have Hl : Hid (rm.length = 4) := hr
      have cP := fun v W => isPurse_c v W
      clear hR hU hF hl hl' hr hq hz e
      go_enter Tryz.func64, Tryz.ntmps64
      go_wp2_with fail
      refine cF.mono ?_
      rintro e w1 ⟨rfl, k1⟩
      have B2 := B1.trans (k1.mono B1.size)
      have HB2 : Hid (Below w.heap.size w w1) := B2
      clear cF k1 B2 B1
      go_wp2_with fail
      go_loopw [18] (fun i wr => ∃ k : Nat, k ≤ 4 ∧ i = .int .i64 k ∧ Hid (R = purs (rm.drop k)) ∧ wr = w1) (fun i _ => 4 - (intOf i).toNat)
      case atStart => exact ⟨0, by omega, rfl, HRR, rfl⟩
      case round =>
        obtain ⟨k, hk, rfl, Hk, rfl⟩ := hrel
        have hB2 := HB2.out
        by_cases hlt : k < 4
        · have hlt' : (k : Int) < 4 := by omega
          obtain ⟨x, hx⟩ : ∃ x, rm[k]? = some x := ⟨_, List.getElem?_eq_getElem (by have := Hl.out; omega)⟩
          obtain ⟨b, off, rfl, hb, hat⟩ := (HR.out.later HB2.out).at hx
          have x0 := hat k x hx
          have hs := purs_step hx
          have cx := fun W => cP x W
          clear cP hx hat
          cases hq : inb x 0 1000000
          · have HE : Hid (R = 3) := by show _ = _; rw [Hk.out, hs, hq]; rfl
            rw [hq] at cx
            clear hs hq
            go_wp2_with (first | (go_at_call 54; refine (cx _).mono ?_; rintro e w2 ⟨rfl, rfl⟩))
            go_ret
            exact ⟨by rw [HE.out]; rfl, hB2⟩
          · have HE : Hid (R = purs (rm.drop (k + 1))) := by show _ = _; rw [Hk.out, hs, hq]; rfl
            rw [hq] at cx
            clear hs hq
            go_wp2_with (first | (go_at_call 54; refine (cx _).mono ?_; rintro e w2 ⟨rfl, rfl⟩))
            go_roundw
            case rel => exact ⟨k + 1, by omega, by go_num, HE, trivial⟩
            case measure => simp [intOf]; omega
        · obtain rfl : k = 4 := by omega
          have HE : Hid (R = 0) := by show _ = _; rw [Hk.out, List.drop_of_length_le (by have := Hl.out; omega)]; rfl
          go_wp2_with fail
          go_ret
          exact ⟨by rw [HE.out]; rfl, hB2⟩
    · have e : rmF rm = 2 := by unfold rmF; rw [if_neg (by omega)]
      rw [e]
      have hd : ((mr : Int) != 4) = true := by simp; omega
      clear hR hU hF hl hl' hr hq hz e h4
      go_enter Tryz.func64, Tryz.ntmps64
      go_wp2_with fail
      refine cF.mono ?_
      rintro e w1 ⟨rfl, k1⟩
      have B2 := B1.trans (k1.mono B1.size)
      go_wp2_with fail
      go_ret
      exact ⟨rfl, B2⟩
end Go.Proofs.YtppgjmpdnpidnaaGreatDoor
end

/- TickNew -/
/- Contracts of the program's state, made and read out. Condition: the lists lie in memory as they were laid there. -/
section
namespace Go.Proofs.YtppgjmpdnpidnaaGreatDoor
open Go.ChangeShapes Go.WideShapes Go.ChangeAt Go.RowKit
open Bd
set_option linter.unusedVariables false

/- a copy of numbers -/
theorem wpList_copyI {ops : Array Oper} {rest : List Oper} {o : Oper} {a : Act} {Q : Exit → Act → World → Prop} (hgd : o.guard = none) (s x : Operand)
    (ho : o.op = .call { callee := .builtin .append, args := #[s, x], argTypes := #[37, 37] }) (w0 : World) (l : List Int) (g off n c : Nat) (hn : l.length = n) (hat : IAt w0 g off l) (hg : g < w0.heap.size)
    (hs : a.eval s = .slice (some ⟨w0.heap.size, 0, none⟩) 0 0) (hx : a.eval x = .slice (some ⟨g, off, none⟩) n c) (hlen : n ≤ 100)
    (h : ∀ v' w', SlI w' w0.heap.size v' l → Below w0.heap.size w0 w' → v' ≠ .slice none 0 0 → wpList Tryz.prog ops Q rest (a.put o.dst v') w') :
    wpList Tryz.prog ops Q (o :: rest) a (w0.alloc (.cells #[] 2)) := by
  obtain ⟨i0, hi, hz0, hz1, hz2⟩ := info_parts info64
  have hown : (w0.alloc (.cells #[] 2)).ownsRow w0.heap.size 2 1 (.slice (some ⟨w0.heap.size, 0, none⟩) 0 0) 0 [] := World.ownsRow_made w0 #[] 0 (Nat.le_refl _) (by unfold maxLen; omega) rfl
  refine wpList_append_own _ hgd s x 37 ho w0.heap.size 2 i0 (.int .i64 0) 1 8 Tryz.underlying37 hi hz0 hz1 hz2 rfl (by decide) _ 0 _ hs hown ⟨g, off, none⟩ n c (l.map (Value.int .i64)) hx (by rw [List.length_map, hn, Nat.mul_one]) ?_ ?_ (by unfold maxLen; omega) (by omega) (by rw [size_new]; omega) ?_
  · intro j y hj
    rw [add_plain', cell_old _ _ _ _ hg]
    rw [List.getElem?_map] at hj
    obtain ⟨z, hz, rfl⟩ := Option.map_eq_some_iff.1 hj
    exact hat j z hz
  · intro y hy
    obtain ⟨z, _, rfl⟩ := List.mem_map.1 hy
    rfl
  · intro v' w' h1 h2 h3
    refine h v' w' ?_ (((Below.refl _ w0).alloc (Nat.le_refl _) _).grown h2 (by rw [size_new]; omega) (fun k' hk' => by cases hk'; exact Nat.le_refl _)) (fun e => by have := (h3.1 e).1; simp at this)
    unfold SlI
    rw [hn]
    simpa using h1
theorem SlI.addr {w : World} {base : Nat} {v : Value} {l : List Int} (h : SlI w base v l) (hn : v ≠ .slice none 0 0) : ∃ g cap, v = .slice (some ⟨g, 0, none⟩) l.length cap ∧ base ≤ g ∧ Lst w g cap l := by
  rcases h.2 with ⟨h1, _⟩ | ⟨g, cap, cur, hv, hb, hg, hc, hm, hs, ht⟩
  · exact absurd h1 hn
  · exact ⟨g, cap, hv, hb, cur, hg, hc, hm, by simpa using hs, by simpa using ht⟩
set_option maxRecDepth 20000 in
set_option maxHeartbeats 2000000 in
theorem cloneI_c (g off c n : Nat) (l : List Int) (hn : l.length = n) (hl : n ≤ 4) (w : World) (hg : g < w.heap.size) (hat : IAt w g off l) :
    Calls Tryz.prog 93 #[.slice (some ⟨g, off, none⟩) n c] w fun e w' => ∃ q cap, e = .returned (.slice (some ⟨q, 0, none⟩) n cap) ∧ w.heap.size ≤ q ∧ Lst w' q cap l ∧ Below w.heap.size w w' := by
  have Hn : Hid (l.length = n) := hn
  have Hat : Hid (IAt w g off l) := hat
  have hnil : ∀ W, (binOp .eql 37 (.slice (some ⟨g, off, none⟩) n c) (.slice none 0 0)).run Tryz.prog W = .ok (.bool false) W := fun W => by kernel_rfl
  clear hn hat
  go_enter Tryz.func93, Tryz.ntmps93
  go_wp2_with (first | (at_builtin; refine wpList_copyI rfl _ _ rfl w l g off n c Hn.out Hat.out hg rfl rfl (by omega) ?_))
  intro v2 w2 hS2 hb2 nn
  obtain ⟨q, cap, rfl, hq, L⟩ := hS2.addr nn
  rw [Hn.out]
  go_wp2_with fail
  go_ret
  exact ⟨_, _, rfl, hq, L, hb2⟩
set_option maxRecDepth 20000 in
set_option maxHeartbeats 2000000 in
theorem l1Ints_c (g off c n : Nat) (l : List Int) (hn : l.length = n) (hl : n ≤ 4) (w : World) (hg : g < w.heap.size) (hat : IAt w g off l) :
    Calls Tryz.prog 82 #[.slice (some ⟨g, off, none⟩) n c] w fun e w' => ∃ q cap, e = .returned (.slice (some ⟨q, 0, none⟩) n cap) ∧ w.heap.size ≤ q ∧ Lst w' q cap l ∧ Below w.heap.size w w' := by
  have Hn : Hid (l.length = n) := hn
  have Hat : Hid (IAt w g off l) := hat
  clear hn hat
  go_enter Tryz.func82, Tryz.ntmps82
  go_wp2_with (first | (at_builtin; refine wpList_copyI rfl _ _ rfl w l g off n c Hn.out Hat.out hg rfl rfl (by omega) ?_))
  intro v2 w2 hS2 hb2 nn
  obtain ⟨q, cap, rfl, hq, L⟩ := hS2.addr nn
  rw [Hn.out]
  go_wp2_with fail
  go_ret
  exact ⟨_, _, rfl, hq, L, hb2⟩
theorem make4 (w : World) : (Instr.makeSlice 37 (.int .i64 4) (.int .i64 4)).run Tryz.prog w = .ok (.slice (some ⟨w.heap.size, 0, none⟩) 4 4) (w.alloc G4) := by
  obtain ⟨i0, hi, hz0, hz1, hz2⟩ := info_parts info64
  have h := run_make (P := Tryz.prog) w 37 2 i0 (.int .i64 0) Tryz.underlying37 hi hz0 .i64 .i64 4 4 (by omega) (by omega) (by rw [hz2]; omega) (by omega)
  rw [hz1, show madeCells (Value.int IntKind.i64 0).cells (Int.toNat 4 * 1) = #[.int .i64 0, .int .i64 0, .int .i64 0, .int .i64 0] from by kernel_rfl] at h
  exact h
theorem mkST {X : World} {base mb q1 c1 q2 c2 : Nat} {vf : Value} {us : List K10} {fs : List K3} {rm : List Int} (m : MapAt X mb us) (f : SlF X base vf fs) (r : Lst X q1 c1 rm) (g : Lst X q2 c2 z4) (ne : q1 ≠ q2) (hm : base ≤ mb) (h1 : base ≤ q1) (h2 : base ≤ q2) {T : Nat} (hT : X.heap.size = T) (hX : base ≤ T) :
    ST (X.alloc (.cells (stV mb vf q1 c1 q2 c2 0) 127)) base T mb vf q1 c1 q2 c2 (ts0 us fs rm) := by
  subst hT
  have B : Below X.heap.size X (X.alloc (.cells (stV mb vf q1 c1 q2 c2 0) 127)) := (Below.refl _ _).alloc (Nat.le_refl _) _
  exact ⟨rowAll X (stV mb vf q1 c1 q2 c2 0) _, m.later B, f.below B, r.below B, g.below B, ne, hX, hm, h1, h2⟩
set_option maxRecDepth 20000 in
set_option maxHeartbeats 16000000 in
theorem newTickState_c (a : Option Addr) (m c : Nat) (pf : Option Addr) (m' c' gr offr cr : Nat) (us : List K10) (fs : List K3) (rm : List Int) (hl : us.length = m) (hl' : fs.length = m') (gd : Gd us fs) (hr : rm.length = 4) (w : World) (hU : ArgU w a us) (hF : InF w pf m' c' fs) (hgr : gr < w.heap.size) (hR : IAt w gr offr rm) :
    Calls Tryz.prog 65 #[.agg #[.slice a m c, .slice pf m' c'], .slice (some ⟨gr, offr, none⟩) 4 cr] w fun e w' => ∃ T mb vf q1 c1 q2 c2, e = .returned (.pointer (some ⟨T, 0, none⟩)) ∧ ST w' w.heap.size T mb vf q1 c1 q2 c2 (ts0 us fs rm) ∧ Below w.heap.size w w' := by
  obtain ⟨W1, HW1⟩ : ∃ W1, Hid (W1 = w.alloc (.cells #[.slice a m c, .slice pf m' c'] 27)) := ⟨_, rfl⟩
  have B1 : Below w.heap.size w W1 := by rw [HW1.out]; exact (Below.refl _ _).alloc (Nat.le_refl _) _
  have rb : W1.rowIs w.heap.size 27 2 (fun i => if i = 0 then .slice a m c else .slice pf m' c') := by rw [HW1.out]; exact rowTwo w _ _ _
  have cR := fun W (h : Below W1.heap.size W1 W) => rowsById_c a m c us hl (by have := gd.n8; omega) gd.u gd.r W (hU.later (B1.trans (h.mono B1.size)))
  have cF := fun W (h : Below W1.heap.size W1 W) => clone_i pf c' m' fs hl' (by have := gd.n4; omega) W (hF.later (B1.trans (h.mono B1.size)))
  have cI := fun W (h : Below W1.heap.size W1 W) => cloneI_c gr offr cr 4 rm hr (by omega) W (Nat.lt_of_lt_of_le hgr (B1.trans (h.mono B1.size)).size) (hR.later hgr (B1.trans (h.mono B1.size)))
  obtain ⟨p0, p1, pl⟩ := row_brd rb
  have keep : ∀ w', Below W1.heap.size W1 w' → w'.cell? ⟨w.heap.size, 0, none⟩ = some (.slice a m c) ∧ w'.cell? ⟨w.heap.size, 1, none⟩ = some (.slice pf m' c') := fun w' hb => by
    have r1 := row_later rb hb
    exact ⟨r1.cell (i := 0) (by omega), r1.cell (i := 1) (by omega)⟩
  have D1 : Below W1.heap.size W1 W1.drew := (Below.refl _ _).drew
  have E1 : Below W1.heap.size W1 (W1.alloc G4).drew := ((Below.refl _ _).alloc (Nat.le_refl _) _).drew
  have E1s : (W1.alloc G4).drew.heap.size = W1.heap.size + 1 := size_new W1 G4
  have hmk := fun W => make4 W
  have G1 : Lst (W1.alloc G4).drew W1.heap.size 4 z4 := g4_new W1
  clear rb hU hF hR hgr hl hl' hr gd
  go_enter Tryz.func65, Tryz.ntmps65
  go_upto_region 1 with fail
  rw [← HW1.out]
  go_region_held3 (fun w' => w'.cell? ⟨w.heap.size, 0, none⟩ = some (.slice a m c) ∧ w'.cell? ⟨w.heap.size, 1, none⟩ = some (.slice pf m' c')) (first | exact keep _ (K4.alloc K4.size _) | exact keep _ ((K4.alloc K4.size _).alloc (K4.alloc K4.size _).size _) | exact keep _ (K3.alloc K3.size _) | exact keep _ (K2.alloc K2.size _) | go_keep) (first
    | (go_at_call 92; refine (cR _ D1).mono ?_; rintro e w2 ⟨rfl, M2, k2⟩; replace M2 : MapAt w2 W1.heap.size us := M2; have K2 := D1.trans (k2.mono D1.size); obtain ⟨p0, p1⟩ := keep _ K2; have hmb : w.heap.size ≤ W1.heap.size := B1.size)
    | (go_at_call 92; refine (cR _ E1).mono ?_; rintro e w2 ⟨rfl, M2, k2⟩; have K2 := E1.trans (k2.mono E1.size); obtain ⟨p0, p1⟩ := keep _ K2; have G2 := G1.below k2; rw [E1s] at M2; have hmb : w.heap.size ≤ W1.heap.size := B1.size)
    | (go_at_call 74; refine (cF w2 K2).mono ?_; rintro e w3 ⟨v3, rfl, S3, k3⟩; have K3 := K2.trans (k3.mono K2.size); obtain ⟨p0, p1⟩ := keep _ K3; obtain ⟨a3, c3, hv3, _⟩ := S3.form; subst hv3; have M3 := M2.later k3; try (have G3 := G2.below k3); have hs3 : w.heap.size ≤ w2.heap.size := Nat.le_trans B1.size K2.size)
    | (go_at_call 74; refine (cF (w2.alloc G4) (K2.alloc K2.size _)).mono ?_; rintro e w3 ⟨v3, rfl, S3, k3⟩; have kz := (Below.refl w2.heap.size w2).alloc (Nat.le_refl _) G4; have k3' := kz.trans (k3.mono kz.size); have K3 := K2.trans (k3'.mono K2.size); obtain ⟨p0, p1⟩ := keep _ K3; obtain ⟨a3, c3, hv3, _⟩ := S3.form; subst hv3; have M3 := M2.later k3'; have G3 := (g4_new w2).below k3; have hs3 : w.heap.size ≤ (w2.alloc G4).heap.size := Nat.le_trans B1.size (K2.alloc K2.size G4).size)
    | (go_at_call 93; refine (cI w3 K3).mono ?_; rintro e w4 ⟨q1, cq1, rfl, hq1, L4, k4⟩; have K4 := K3.trans (k4.mono K3.size); obtain ⟨p0, p1⟩ := keep _ K4; have M4 := M3.later k4; have S4 := S3.below k4; have hs4 : w.heap.size ≤ w3.heap.size := Nat.le_trans B1.size K3.size; try (have G4' := G3.below k4; have hg3 := G3.lt))
    | (go_at_call 93; refine (cI (w3.alloc G4) (K3.alloc K3.size _)).mono ?_; rintro e w4 ⟨q1, cq1, rfl, hq1, L4, k4⟩; have kz := (Below.refl w3.heap.size w3).alloc (Nat.le_refl _) G4; have k4' := kz.trans (k4.mono kz.size); have K4 := K3.trans (k4'.mono K3.size); obtain ⟨p0, p1⟩ := keep _ K4; have M4 := M3.later k4'; have S4 := S3.below k4'; have hs4 : w.heap.size ≤ (w3.alloc G4).heap.size := Nat.le_trans B1.size (K3.alloc K3.size G4).size; have G4' := (g4_new w3).below k4; have hg3 := (g4_new w3).lt))
  all_goals
    have bs := B1.size
    have h2s := K2.size
    have h3s := K3.size
    have h4s := K4.size
    go_wp2_with fail
    go_ret
    first
      | exact ⟨_, _, _, _, _, _, _, rfl, mkST M4 (S4.mono (by omega)) L4 G4' (by omega) (by omega) (by omega) (by omega) rfl (by omega), B1.trans ((K4.alloc K4.size _).mono B1.size)⟩
      | exact ⟨_, _, _, _, _, _, _, rfl, mkST (M4.later ((Below.refl _ _).alloc (Nat.le_refl _) _)) ((S4.below ((Below.refl _ _).alloc (Nat.le_refl _) _)).mono (by omega)) (L4.below ((Below.refl _ _).alloc (Nat.le_refl _) _)) (g4_new w4) (by have := L4.lt; omega) (by omega) (by omega) (by omega) (size_new w4 G4) (by omega), B1.trans (((K4.alloc K4.size _).alloc (K4.alloc K4.size _).size _).mono B1.size)⟩
end Go.Proofs.YtppgjmpdnpidnaaGreatDoor
end

/- TickRes -/
/- What ticks answer, as plain functions; the program's answer read out of its state. Condition: the state is the call's own. -/
section
namespace Go.Proofs.YtppgjmpdnpidnaaGreatDoor
open Go.ChangeShapes Go.WideShapes Go.ChangeAt Go.RowKit
open Bd
set_option linter.unusedVariables false

/- a TickResult -/
structure TR where
  c : Int
  g : List Int
  l : Int
  us : List K10
  fs : List K3
def TR.no (c : Int) : TR := ⟨c, [], 0, [], []⟩
def TR.of (s : TS) : TR := ⟨0, s.gn, s.lost, s.us, s.fs⟩
def tuR (us : List K10) (fs : List K3) (i : Int) (rm : List Int) : TR := if (tkF us fs rm == 0) = true then (match findU us i with | none => .no 4 | some _ => .of (tkS (ts0 us fs rm) i)) else .no (tkF us fs rm)
abbrev resV (C : Int) (g : Value) (L : Int) (v f : Value) : Array Value := #[.int .i64 C, g, .int .i64 L, v, f]
/- its lists, made behind base -/
structure RIs (w : World) (base : Nat) (r : TR) (g v f : Value) : Prop where
  g : SlI w base g r.g
  u : SlU w base v r.us
  f : SlF w base f r.fs
theorem RIs.later {w w' : World} {base : Nat} {r : TR} {g v f : Value} (h : RIs w base r g v f) (hb : Below w.heap.size w w') : RIs w' base r g v f := ⟨h.g.below hb, h.u.below hb, h.f.below hb⟩
theorem RIs.mono {w : World} {base base' : Nat} {r : TR} {g v f : Value} (h : RIs w base r g v f) (hb : base' ≤ base) : RIs w base' r g v f := ⟨h.g.mono hb, h.u.mono hb, h.f.mono hb⟩
theorem RIs.nil (w : World) (base : Nat) (c : Int) : RIs w base (.no c) (.slice none 0 0) (.slice none 0 0) (.slice none 0 0) := ⟨SlI.nil _ _, SlU.nil _ _, SlF.nil _ _⟩
theorem RIs.set {w : World} {base : Nat} {r : TR} {g v f : Value} (h : RIs w base r g v f) {b o : Nat} (hb : b < base) (x : Value) : RIs (w.setCell ⟨b, o, none⟩ x) base r g v f := ⟨h.g.set hb x, h.u.set hb x, h.f.set hb x⟩
abbrev zResV : Array Value := resV 0 (.slice none 0 0) 0 (.slice none 0 0) (.slice none 0 0)
/- a result's block, and what is stored there -/
theorem res_row (w : World) : (w.alloc (.cells zResV 48)).rowIs w.heap.size 48 5 (fun i => zResV[i]!) := rowAll w zResV _
structure RC (w : World) (S : Nat) : Prop where
  c0 : w.cell? ⟨S, 0, none⟩ = some (.int .i64 0)
  c1 : w.cell? ⟨S, 1, none⟩ = some (.slice none 0 0)
  c2 : w.cell? ⟨S, 2, none⟩ = some (.int .i64 0)
  c3 : w.cell? ⟨S, 3, none⟩ = some (.slice none 0 0)
  c4 : w.cell? ⟨S, 4, none⟩ = some (.slice none 0 0)
  z0 : w.frozen? ⟨S, 0, none⟩ = false
  z1 : w.frozen? ⟨S, 1, none⟩ = false
  z2 : w.frozen? ⟨S, 2, none⟩ = false
  z3 : w.frozen? ⟨S, 3, none⟩ = false
  z4 : w.frozen? ⟨S, 4, none⟩ = false
  lt : S < w.heap.size
theorem res_cells {w : World} {S : Nat} (h : w.rowIs S 48 5 (fun i => zResV[i]!)) : RC w S :=
  ⟨h.cell (i := 0) (by omega), h.cell (i := 1) (by omega), h.cell (i := 2) (by omega), h.cell (i := 3) (by omega), h.cell (i := 4) (by omega), h.frozen 0, h.frozen 1, h.frozen 2, h.frozen 3, h.frozen 4, h.lt⟩
abbrev stRes (w : World) (S : Nat) (C : Int) (g : Value) (L : Int) (v f : Value) : World := ((((w.setCell ⟨S, 0, none⟩ (.int .i64 C)).setCell ⟨S, 1, none⟩ g).setCell ⟨S, 2, none⟩ (.int .i64 L)).setCell ⟨S, 3, none⟩ v).setCell ⟨S, 4, none⟩ f
theorem setRes_row {w : World} {S : Nat} {t : TypeId} {f0 : Nat → Value} (h : w.rowIs S t 5 f0) (C : Int) (g : Value) (L : Int) (v f : Value) : (stRes w S C g L v f).rowIs S t 5 (fun i => (resV C g L v f)[i]!) :=
  (((((h.set 0 (.int .i64 C)).set 1 g).set 2 (.int .i64 L)).set 3 v).set 4 f).congr (fun i hi => by rcases i with _ | _ | _ | _ | _ | i <;> first | rfl | omega)
theorem setRes_cells {w : World} {S : Nat} {t : TypeId} {C : Int} {g : Value} {L : Int} {v f : Value} (h : w.rowIs S t 5 (fun i => (resV C g L v f)[i]!)) :
    w.cell? ⟨S, 0, none⟩ = some (.int .i64 C) ∧ w.cell? ⟨S, 1, none⟩ = some g ∧ w.cell? ⟨S, 2, none⟩ = some (.int .i64 L) ∧ w.cell? ⟨S, 3, none⟩ = some v ∧ w.cell? ⟨S, 4, none⟩ = some f :=
  ⟨h.cell (i := 0) (by omega), h.cell (i := 1) (by omega), h.cell (i := 2) (by omega), h.cell (i := 3) (by omega), h.cell (i := 4) (by omega)⟩
theorem setRes_bel {n : Nat} {w w' : World} (h : Below n w w') (S : Nat) (hb : n ≤ S) (C : Int) (g : Value) (L : Int) (v f : Value) : Below n w (stRes w' S C g L v f) :=
  bel_set (bel_set (bel_set (bel_set (bel_set h S 0 hb _) S 1 hb _) S 2 hb _) S 3 hb _) S 4 hb _
theorem RIs.setRes {w : World} {base : Nat} {r : TR} {g v f : Value} (h : RIs w base r g v f) {S : Nat} (hb : S < base) (C : Int) (g' : Value) (L : Int) (v' f' : Value) : RIs (stRes w S C g' L v' f') base r g v f :=
  ((((h.set hb _).set hb _).set hb _).set hb _).set hb _
theorem stRes_heap (w : World) (S : Nat) (C : Int) (g : Value) (L : Int) (v f : Value) {q : Nat} (hq : q ≠ S) : (stRes w S C g L v f).heap[q]? = w.heap[q]? :=
  ((((Below.heap_setCell _ _ _ _ hq).trans (Below.heap_setCell _ _ _ _ hq)).trans (Below.heap_setCell _ _ _ _ hq)).trans (Below.heap_setCell _ _ _ _ hq)).trans (Below.heap_setCell _ _ _ _ hq)
theorem SlI.of_blk {w w' : World} {base : Nat} {v : Value} {l : List Int} (h : SlI w base v l) (he : ∀ b, v.ownBlock = some b → w'.heap[b]? = w.heap[b]?) : SlI w' base v l := by
  rcases h with ⟨h1, h2⟩
  refine ⟨h1, ?_⟩
  rcases h2 with h2 | ⟨g, cap, cur, hv, hbb, hg, r⟩
  · exact .inl h2
  · exact .inr ⟨g, cap, cur, hv, hbb, (he g (by rw [hv]; rfl)).trans hg, r⟩
/- stores into a block that is no list of these -/
theorem RIs.apart {w : World} {base : Nat} {r : TR} {g v f : Value} (h : RIs w base r g v f) {S : Nat} {c : Array Value} (hS : w.heap[S]? = some (.cells c 48 (0, 0))) : g.ownBlock ≠ some S ∧ v.ownBlock ≠ some S ∧ f.ownBlock ≠ some S := by
  refine ⟨fun e => ?_, fun e => ?_, fun e => ?_⟩
  · rcases h.g.2 with ⟨h1, _⟩ | ⟨q, cap, cur, hv, _, hg, _⟩
    · rw [h1] at e; cases e
    · rw [hv] at e; cases e; exact blk_ne hg hS (by decide) rfl
  · rcases h.u.2 with ⟨h1, _⟩ | ⟨q, cap, cur, hv, _, hg, _⟩
    · rw [h1] at e; cases e
    · rw [hv] at e; cases e; exact blk_ne hg hS (by decide) rfl
  · rcases h.f.2 with ⟨h1, _⟩ | ⟨q, cap, cur, hv, _, hg, _⟩
    · rw [h1] at e; cases e
    · rw [hv] at e; cases e; exact blk_ne hg hS (by decide) rfl
theorem RIs.setResA {w : World} {base : Nat} {r : TR} {g v f : Value} (h : RIs w base r g v f) {S : Nat} {f0 : Nat → Value} (hr : w.rowIs S 48 5 f0) (C : Int) (g' : Value) (L : Int) (v' f' : Value) : RIs (stRes w S C g' L v' f') base r g v f := by
  obtain ⟨c, hS, _⟩ := hr
  obtain ⟨a1, a2, a3⟩ := h.apart hS
  have e : ∀ q, q ≠ S → (stRes w S C g' L v' f').heap[q]? = w.heap[q]? := fun q hq => stRes_heap w S C g' L v' f' hq
  exact ⟨h.g.of_blk (fun b hb => e b (by rintro rfl; exact a1 hb)), h.u.of_block (fun b hb => e b (by rintro rfl; exact a2 hb)), h.f.of_block (fun b hb => e b (by rintro rfl; exact a3 hb))⟩
set_option maxRecDepth 20000 in
set_option maxHeartbeats 16000000 in
theorem tresult_c (base T mb : Nat) (vf : Value) (gr cr gg cg : Nat) (s : TS) (tg : TG s) (w : World) (h : ST w base T mb vf gr cr gg cg s) :
    Calls Tryz.prog 67 #[.pointer (some ⟨T, 0, none⟩)] w fun e w' => ∃ g v f, e = .returned (.agg (resV 0 g s.lost v f)) ∧ RIs w' base (TR.of s) g v f ∧ Below w.heap.size w w' := by
  obtain ⟨W1, HW1⟩ : ∃ W1, Hid (W1 = w.alloc (.cells zResV 48)) := ⟨_, rfl⟩
  have B1 : Below w.heap.size w W1 := by rw [HW1.out]; exact (Below.refl _ _).alloc (Nat.le_refl _) _
  have rr : W1.rowIs w.heap.size 48 5 (fun i => zResV[i]!) := by rw [HW1.out]; exact res_row w
  have S1 := h.later B1
  have hb := h.base
  obtain ⟨m, Hm⟩ : ∃ m, Hid (s.us.length = m) := ⟨_, rfl⟩
  obtain ⟨af, cf, hvf, _⟩ := h.f.form
  obtain ⟨m', Hm'⟩ : ∃ m', Hid (s.fs.length = m') := ⟨_, rfl⟩
  rw [Hm'.out] at hvf
  subst hvf
  have D1 : Below W1.heap.size W1 W1.drew := (Below.refl _ _).drew
  have cU := fun W hM => risingUnits_c mb m s.us Hm.out (by have := tg.gd.n8; have := Hm.out; omega) tg.gd.r tg.gd.u W hM
  have cU1 := cU W1.drew (S1.later D1).m
  have Hrr : Hid (W1.rowIs w.heap.size 48 5 (fun i => zResV[i]!)) := rr
  have HS : Hid (ST W1 base T mb (.slice af m' cf) gr cr gg cg s) := S1
  have keep : ∀ w', Below W1.heap.size W1 w' → w'.cell? ⟨T, 0, none⟩ = some (.map (some mb)) ∧ w'.cell? ⟨T, 1, none⟩ = some (.slice af m' cf) ∧ w'.cell? ⟨T, 3, none⟩ = some (.slice (some ⟨gg, 0, none⟩) 4 cg) ∧ w'.cell? ⟨T, 4, none⟩ = some (.int .i64 s.lost) := fun w' hk => by
    obtain ⟨t0, t1, t2, t3, t4, tl⟩ := (HS.out.later hk).cells
    exact ⟨t0, t1, t3, t4⟩
  obtain ⟨t0, t1, t3, t4⟩ := keep _ (Below.refl _ _)
  have tl := HS.out.row.lt
  have tne : T ≠ w.heap.size := by have := h.row.lt; omega
  have Hgl : Hid (s.gn.length = 4) := tg.gl
  clear h S1 rr tg cU
  go_enter Tryz.func67, Tryz.ntmps67
  go_upto_region 1 with fail
  rw [← HW1.out]
  go_region_held3 (fun w' => w'.cell? ⟨T, 0, none⟩ = some (.map (some mb)) ∧ w'.cell? ⟨T, 1, none⟩ = some (.slice af m' cf) ∧ w'.cell? ⟨T, 3, none⟩ = some (.slice (some ⟨gg, 0, none⟩) 4 cg) ∧ w'.cell? ⟨T, 4, none⟩ = some (.int .i64 s.lost)) (first | (rw [cell_blk (stRes_heap _ _ _ _ _ _ _ tne), cell_blk (stRes_heap _ _ _ _ _ _ _ tne), cell_blk (stRes_heap _ _ _ _ _ _ _ tne), cell_blk (stRes_heap _ _ _ _ _ _ _ tne)]; exact ⟨t0, t1, t3, t4⟩) | go_keep) (first
    | (go_at_call 97; refine cU1.mono ?_; rintro e w2 ⟨v2, rfl, S2, k2⟩; have K2 := D1.trans (k2.mono D1.size); obtain ⟨t0, t1, t3, t4⟩ := keep _ K2; obtain ⟨a2, c2, hv2, _⟩ := S2.form; rw [Hm.out] at hv2; subst hv2; obtain ⟨e0, e1, e2, e3, e4, z0, z1, z2, z3, z4, el⟩ := res_cells (row_later Hrr.out K2)))
  all_goals
    have hr2 := row_later Hrr.out K2
    have hrow := setRes_row hr2 0 (.slice (some ⟨gg, 0, none⟩) 4 cg) s.lost (.slice a2 m c2) (.slice af m' cf)
    obtain ⟨x0, x1, x2, x3, x4⟩ := setRes_cells hrow
    have S3 := HS.out.later K2
    have G : SlI w2 base (.slice (some ⟨gg, 0, none⟩) 4 cg) s.gn := by
      have := SlI.of_lst S3.g S3.bg
      rwa [Hgl.out] at this
    have R : RIs w2 base (TR.of s) (.slice (some ⟨gg, 0, none⟩) 4 cg) (.slice a2 m c2) (.slice af m' cf) := ⟨G, S2.mono (by have := B1.size; show base ≤ W1.heap.size; omega), S3.f⟩
    have R' := R.setResA hr2 0 (.slice (some ⟨gg, 0, none⟩) 4 cg) s.lost (.slice a2 m c2) (.slice af m' cf)
    have BZ := setRes_bel (B1.trans (K2.mono B1.size)) w.heap.size (Nat.le_refl _) 0 (.slice (some ⟨gg, 0, none⟩) 4 cg) s.lost (.slice a2 m c2) (.slice af m' cf)
    go_wp2_with fail
    refine bodyPost_ret (v := .agg (resV 0 (.slice (some ⟨gg, 0, none⟩) 4 cg) s.lost (.slice a2 m c2) (.slice af m' cf))) ?_ rfl ⟨_, _, _, rfl, R', BZ⟩
    simp [results, Tryz.results67, go_sem, x0, x1, x2, x3, x4]
    done
end Go.Proofs.YtppgjmpdnpidnaaGreatDoor
end
