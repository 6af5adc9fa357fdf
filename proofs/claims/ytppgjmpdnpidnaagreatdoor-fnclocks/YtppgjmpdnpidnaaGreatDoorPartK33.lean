/- Texts of mine put together (a claim holds at most 60 files): TickAllS. -/
import Derived.Test.YtppgjmpdnpidnaaGreatDoorPartK32

/- TickAllS -/
/- The contract of the model's turn of a whole board. Condition: the board has no fault, rooms are four purses; the lists lie in memory as they were laid there. -/
section
namespace Go.Proofs.YtppgjmpdnpidnaaGreatDoor
open Go.ChangeShapes Go.WideShapes Go.ChangeAt Go.RowKit
open Bd
set_option linter.unusedVariables false

theorem tk_no {s : TS} {i : Int} (h : findU s.us i = none) : tkS s i = s := by unfold tkS; rw [h]
theorem z4_getD (k : Nat) : z4.getD k 0 = 0 := by
  rcases k with _ | _ | _ | _ | k <;> rfl
theorem gl_len (o : Nat) (x : Int) : (addAt z4 o x).length = 4 := by rw [addAt_len]; rfl
theorem gl_bd (o k : Nat) {x : Int} (h0 : 0 ≤ x) (h1 : x ≤ 1000000) : 0 ≤ (addAt z4 o x).getD k 0 ∧ (addAt z4 o x).getD k 0 ≤ 1000000 := by
  unfold addAt
  rw [z4_getD, List.getD_eq_getElem?_getD, List.getElem?_set]
  have := z4_getD k
  rw [List.getD_eq_getElem?_getD] at this
  split
  · split
    · simp only [Option.getD_some]; omega
    · simp
  · rw [this]; omega
theorem TG.bd {s : TS} (h : TG s) {k : Nat} (hk : k < 4) : 0 ≤ s.gn.getD k 0 ∧ s.gn.getD k 0 ≤ 1000000 ∧ 0 ≤ s.rm.getD k 0 ∧ s.rm.getD k 0 ≤ 1000000 := by
  have a := h.g _ (getD_mem (l := s.gn) (k := k) (by rw [h.gl]; exact hk))
  have b := h.r _ (getD_mem (l := s.rm) (k := k) (by rw [h.rl]; exact hk))
  have c := h.rg k hk
  omega
theorem tk_sum {s : TS} {i : Int} {u : K10} (h : findU s.us i = some u) (hg : s.gn.length = 4) (hr : s.rm.length = 4) : tkS s i = ⟨(tk1 s.us s.fs u (s.rm.getD u.c1.toNat 0)).us, (tk1 s.us s.fs u (s.rm.getD u.c1.toNat 0)).fs, subL s.rm (addAt z4 u.c1.toNat (tk1 s.us s.fs u (s.rm.getD u.c1.toNat 0)).give), addL s.gn (addAt z4 u.c1.toNat (tk1 s.us s.fs u (s.rm.getD u.c1.toNat 0)).give), s.lost + (tk1 s.us s.fs u (s.rm.getD u.c1.toNat 0)).lost⟩ := by
  rw [addL_at (by rw [hg]; rfl), subL_at (by rw [hr]; rfl), addL_z hg, subL_z hr]
  unfold tkS
  rw [h]
set_option maxRecDepth 20000 in
set_option maxHeartbeats 16000000 in
theorem l5Tick_c (p o : Nat) (pu : Option Addr) (m c : Nat) (pf : Option Addr) (m' c' gr og cr : Nat) (us : List K10) (fs : List K3) (rm : List Int) (w : World) (h : LIn w p o pu m c pf m' c' gr og us fs rm) (tg : TG (ts0 us fs rm)) :
    Calls Tryz.prog 50 #[.pointer (some ⟨p, o, none⟩), .slice (some ⟨gr, og, none⟩) 4 cr] w fun e w' => ∃ q v f, e = .returned (.agg (resV 0 q (tkB (ts0 us fs rm)).lost v f)) ∧ RIs w' w.heap.size (TR.of (tkB (ts0 us fs rm))) q v f ∧ v ≠ .slice none 0 0 ∧ f ≠ .slice none 0 0 ∧ Below w.heap.size w w' := by
  obtain ⟨W1, HW1⟩ : ∃ W1, Hid (W1 = w.alloc (.cells zResV 48)) := ⟨_, rfl⟩
  have B1 : Below w.heap.size w W1 := by rw [HW1.out]; exact (Below.refl _ _).alloc (Nat.le_refl _) _
  have rr : Hid (W1.rowIs w.heap.size 48 5 (fun i => zResV[i]!)) := by show World.rowIs _ _ _ _ _; rw [HW1.out]; exact res_row w
  obtain ⟨W2, HW2⟩ : ∃ W2, Hid (W2 = W1.alloc G4) := ⟨_, rfl⟩
  have B2 : Below W1.heap.size W1 W2 := by rw [HW2.out]; exact (Below.refl _ _).alloc (Nat.le_refl _) _
  have h1 := h.below B1
  have h2 := h1.below B2
  have G2 : Hid (Lst W2 W1.heap.size 4 z4) := by show Lst _ _ _ _; rw [HW2.out]; exact g4_new W1
  have m8 : m ≤ 8 := by have e := tg.gd.n8; change us.length ≤ 8 at e; have := h.hl; omega
  have m4 : m' ≤ 4 := by have e := tg.gd.n4; change fs.length ≤ 4 at e; have := h.hl'; omega
  have cC := l4Copy2_i pu c m pf c' m' us fs h.hl m8 h.hl' m4 W2 h2.u h2.f
  have H1 : Hid (LIn W1 p o pu m c pf m' c' gr og us fs rm) := h1
  obtain ⟨ids, Hids⟩ : ∃ ids, Hid (ids = us.map K10.c0) := ⟨_, rfl⟩
  have Hb : Hid (tkB (ts0 us fs rm) = tkL (ts0 us fs rm) (ids.take m)) := by
    show _ = _
    rw [List.take_of_length_le (by rw [Hids.out, List.length_map]; exact Nat.le_of_eq h.hl), Hids.out]
    rfl
  obtain ⟨s0, Hs0⟩ : ∃ s0, Hid (s0 = ts0 us fs rm) := ⟨_, rfl⟩
  have HT : Hid (TG s0) := by show TG _; rw [Hs0.out]; exact tg
  have pc0 := h1.c0
  have pc1 := h1.c1
  have pl := h1.lp
  have hb1 : w.heap.size < W1.heap.size := by rw [HW1.out, size_new]; omega
  obtain ⟨sE, HsE⟩ : ∃ sE, Hid (sE = tkB (ts0 us fs rm)) := ⟨_, rfl⟩
  obtain ⟨L, HL⟩ : ∃ L, Hid (sE.lost = L) := ⟨_, rfl⟩
  rw [← HsE.out, HL.out]
  clear h h1 tg
  go_enter Tryz.func50, Tryz.ntmps50
  go_upto_region 1 with fail
  rw [← HW1.out]
  go_wp2_with fail
  rw [← HW2.out]
  refine cC.mono ?_
  rintro e w3 ⟨v, f, rfl, SU, SF, nv, nf, k3⟩
  obtain ⟨g1, c1, hv1, hg1, lg1, _⟩ := SU.addr nv
  obtain ⟨g2, c2, hv2, hg2, lg2, _⟩ := SF.addr nf
  rw [H1.out.hl] at hv1
  rw [H1.out.hl'] at hv2
  subst hv1 hv2
  obtain ⟨W4, HW4⟩ : ∃ W4, Hid (W4 = w3.alloc (.cells (resV 0 (.slice (some ⟨W1.heap.size, 0, none⟩) 4 4) 0 (.slice (some ⟨g1, 0, none⟩) m c1) (.slice (some ⟨g2, 0, none⟩) m' c2)) 48)) := ⟨_, rfl⟩
  obtain ⟨S, HS⟩ : ∃ S, Hid (S = w3.heap.size) := ⟨_, rfl⟩
  have k4 : Below w3.heap.size w3 W4 := by rw [HW4.out]; exact (Below.refl _ _).alloc (Nat.le_refl _) _
  have rS : W4.rowIs S 48 5 (fun i => (resV 0 (.slice (some ⟨W1.heap.size, 0, none⟩) 4 4) 0 (.slice (some ⟨g1, 0, none⟩) m c1) (.slice (some ⟨g2, 0, none⟩) m' c2))[i]!) := by rw [HW4.out, HS.out]; exact rowAll w3 _ _
  have K3 := B2.trans (k3.mono B2.size)
  have K4 := K3.trans (k4.mono K3.size)
  have h4 := H1.out.below K4
  have cL := l1Ints_c gr og cr 4 rm h4.hr (by omega) W4 h4.lr h4.r
  go_upto_region 2 with fail
  rw [← HW4.out, ← HS.out]
  clear pc0 pc1 pl
  go_wp2_with fail
  refine cL.mono ?_
  rintro e w5 ⟨ql, cl, rfl, hql, L5, k5⟩
  have K5 := K4.trans (k5.mono K4.size)
  have hm4 : m' ≤ 4 := m4
  have T5 : Hid (TB w5 W1.heap.size S W1.heap.size 4 ql cl (.slice (some ⟨g1, 0, none⟩) m c1) (.slice (some ⟨g2, 0, none⟩) m' c2) us fs z4 rm 0) :=
    ⟨row_later rS k5, ((SU.below k4).below k5).mono B2.size, ((SF.below k4).below k5).mono B2.size, ((G2.out.below k3).below k4).below k5, L5, by have := K4.size; have := (G2.out.lt); have := k3.size; have := k4.size; omega, nv, by have := K3.size; have := HS.out; omega, Nat.le_refl _, by have := K4.size; omega⟩
  have HK5 : Hid (Below W1.heap.size W1 w5) := K5
  have T5' : Hid (TB w5 W1.heap.size S W1.heap.size 4 ql cl (.slice (some ⟨g1, 0, none⟩) m c1) (.slice (some ⟨g2, 0, none⟩) m' c2) (tkL s0 (ids.take 0)).us (tkL s0 (ids.take 0)).fs (tkL s0 (ids.take 0)).gn (tkL s0 (ids.take 0)).rm (tkL s0 (ids.take 0)).lost) := by
    show TB _ _ _ _ _ _ _ _ _ _ _ _ _ _
    rw [Hs0.out]
    exact T5.out
  clear cC cL SU SF rS L5 h2 h4 K3 K4 K5 T5
  go_wp2_with fail
  go_loopw [7] (fun i wr => ∃ k : Nat, k ≤ m ∧ i = .int .i64 k ∧ (∃ vu, Hid (TB wr W1.heap.size S W1.heap.size 4 ql cl vu (.slice (some ⟨g2, 0, none⟩) m' c2) (tkL s0 (ids.take k)).us (tkL s0 (ids.take k)).fs (tkL s0 (ids.take k)).gn (tkL s0 (ids.take k)).rm (tkL s0 (ids.take k)).lost)) ∧ Hid (Below W1.heap.size W1 wr)) (fun i _ => m - (intOf i).toNat)
  case atStart => exact ⟨0, Nat.zero_le _, rfl, ⟨_, T5'⟩, HK5⟩
  case round =>
    obtain ⟨k, hk, rfl, ⟨vu, hT⟩, hK⟩ := hrel
    have hin := H1.out.below hK.out
    have pc0 := hin.c0
    have pl := hin.lp
    by_cases hlt : k < m
    · have hlt' : (k : Int) < (m : Int) := by omega
      obtain ⟨x, hx⟩ : ∃ x, us[k]? = some x := ⟨_, List.getElem?_eq_getElem (by have := H1.out.hl; omega)⟩
      have hxi : ids[k]? = some x.c0 := by rw [Hids.out, List.getElem?_map, hx]; rfl
      have HE : Hid (tkL s0 (ids.take (k + 1)) = tkS (tkL s0 (ids.take k)) x.c0) := tkL_take hxi
      obtain ⟨s, Hs⟩ : ∃ s, Hid (s = tkL s0 (ids.take k)) := ⟨_, rfl⟩
      rw [← Hs.out] at hT HE
      have tgs : Hid (TG s) := by show TG _; rw [Hs.out]; exact HT.out.list _
      obtain ⟨gu, cu, hvu, hgu, lgu, hUA⟩ := hT.out.u.addr hT.out.nn
      obtain ⟨n, Hn⟩ : ∃ n, Hid (s.us.length = n) := ⟨_, rfl⟩
      rw [Hn.out] at hvu
      subst hvu
      have n8 : n ≤ 8 := by have := tgs.out.gd.n8; have := Hn.out; omega
      have cA := fun W hU => l4At_c (some ⟨gu, 0, none⟩) n cu s.us x.c0 Hn.out n8 W hU
      have hA0 : ArgU wr (some ⟨gu, 0, none⟩) s.us := .inr ⟨gu, 0, rfl, lgu, hUA⟩
      have HA : Hid (∀ j, ArgU (wr.drewN j) (some ⟨gu, 0, none⟩) s.us) := fun j => hA0.drewN j
      obtain ⟨g, og', rfl, il, hUk⟩ := hin.u.at hx
      have ic : wr.cell? ⟨g, og' + k * 10, none⟩ = some (.int .i64 x.c0) := (hUk.all hx).1
      have r3 : wr.cell? ⟨S, 3, none⟩ = some (.slice (some ⟨gu, 0, none⟩) n cu) := hT.out.row.cell (i := 3) (by omega)
      have rl := hT.out.row.lt
      clear hin hx hxi hA0 hUA lgu hUk
      rcases atU_find s.us x.c0 with ⟨a1, a2⟩ | ⟨k2, u, a1, a2, a3⟩
      · have hq : atI s.us x.c0 = -1 := by unfold atI; rw [a1]
        rw [hq] at cA
        have HE' : Hid (tkL s0 (ids.take (k + 1)) = s) := by show _ = _; rw [HE.out, tk_no a2]
        clear hq a1 a2
        go_wp2_with fail
        go_quiet (first | (go_at_call 83; refine (cA _ (HA.out _)).mono (fun _ _ h => ⟨h.1, _, h.2⟩)))
        go_wp2_with fail
        go_roundw
        case rel => exact ⟨k + 1, by omega, by go_num, ⟨_, by show TB _ _ _ _ _ _ _ _ _ _ _ _ _ _; rw [HE'.out]; exact hT.out.later (below_drewN _ _)⟩, hK.out.trans ((below_drewN _ _).mono hK.out.size)⟩
        case measure => simp [intOf]; omega
      · have hq : atI s.us x.c0 = (k2 : Int) := by unfold atI; rw [a1]
        rw [hq] at cA
        have hkd : decide ((k2 : Int) < 0) = false := decide_eq_false (by omega)
        have eS := tk_sum a3 tgs.out.gl tgs.out.rl
        have hroom : 0 ≤ s.rm.getD u.c1.toNat 0 ∧ s.rm.getD u.c1.toNat 0 ≤ 1000000 := by
          by_cases h4 : u.c1.toNat < 4
          · have := tgs.out.bd h4; omega
          · rw [List.getD_eq_getElem?_getD, List.getElem?_eq_none (by rw [tgs.out.rl]; omega)]; simp
        have tok := tk1_ok tgs.out.gd (find_mem' a3) hroom.1
        have cU := fun W (hB : Below wr.heap.size wr W) => l5Unit_c W1.heap.size S 3 gu cu k2 n (.slice (some ⟨g2, 0, none⟩) m' c2) s.us s.fs u ql 0 cl s.rm W ⟨(hT.out.later hB).sb, tgs.out.gd, a2, Hn.out, tgs.out.rl, tgs.out.r, (hT.out.l.below hB).iat, (hT.out.l.below hB).lt⟩
        obtain ⟨t, Ht⟩ : ∃ t, Hid (t = tk1 s.us s.fs u (s.rm.getD u.c1.toNat 0)) := ⟨_, rfl⟩
        rw [← Ht.out] at eS tok cU
        have hgiv : 0 ≤ t.give ∧ t.give ≤ 1000000 := ⟨tok.g0, by have := tok.g1; omega⟩
        have hlo : 0 ≤ s.lost ∧ s.lost ≤ 160 ∧ 0 ≤ t.lost ∧ t.lost ≤ 160 := by
          have a := tgs.out.l0; have b := tgs.out.l1; have c := tok.l0; have d := tok.l1; have := Hn.out; omega
        obtain ⟨gl, Hgl⟩ : ∃ gl, Hid (gl = addAt z4 u.c1.toNat t.give) := ⟨_, rfl⟩
        have hgl4 : gl.length = 4 := by rw [Hgl.out]; exact gl_len _ _
        have HE' : Hid (tkL s0 (ids.take (k + 1)) = ⟨t.us, t.fs, subL s.rm gl, addL s.gn gl, s.lost + t.lost⟩) := by show _ = _; rw [HE.out, eS, Hgl.out]
        have hbd : Hid (∀ j, j < 4 → (0 ≤ s.gn.getD j 0 ∧ s.gn.getD j 0 ≤ 1000000 ∧ 0 ≤ s.rm.getD j 0 ∧ s.rm.getD j 0 ≤ 1000000) ∧ 0 ≤ gl.getD j 0 ∧ gl.getD j 0 ≤ 1000000) := fun j hj => ⟨tgs.out.bd hj, by rw [Hgl.out]; exact gl_bd _ _ hgiv.1 hgiv.2⟩
        clear hq a1 a2 a3 eS tok hroom hgiv
        go_wp2_with fail
        go_quiet (first | (go_at_call 83; refine (cA _ (HA.out _)).mono (fun _ _ h => ⟨h.1, _, h.2⟩)))
        go_wp2_with fail
        refine (cU _ (below_drewN _ _)).mono ?_
        rintro e w6 ⟨gv, rfl, O6⟩
        obtain ⟨vu', T6, I6, K6⟩ := (hT.out.later (below_drewN _ _)).turn O6
        rw [← Hgl.out] at I6
        rcases I6.cases with ⟨h0, _⟩ | ⟨_, qv, cv, hgv, hqv, Lv⟩
        · rw [h0] at hgl4; cases hgl4
        rw [hgl4] at hgv
        subst hgv
        have hqv' : wr.heap.size ≤ qv := Nat.le_trans (below_drewN _ _).size hqv
        have hK6 : Hid (Below W1.heap.size W1 w6) := K6.below (hK.out.trans ((below_drewN _ _).mono hK.out.size)) (Nat.le_trans hK.out.size (below_drewN _ _).size) (fun q _ e => by
          rcases e with e | e | e
          · rw [e]; exact hT.out.bS
          · rw [e]; exact hgu
          · have : g2 = q := Option.some.inj e
            have := B2.size
            omega)
        have nv1 : qv ≠ W1.heap.size := by have := hT.out.g.lt; omega
        have nv2 : qv ≠ ql := by have := hT.out.l.lt; omega
        have nv3 : qv ≠ S := by omega
        have T6' : Hid (TB w6 W1.heap.size S W1.heap.size 4 ql cl vu' (.slice (some ⟨g2, 0, none⟩) m' c2) t.us t.fs (mixF (· + ·) s.gn gl 0) (mixF (· - ·) s.rm gl 0) s.lost) := by show TB _ _ _ _ _ _ _ _ _ _ _ _ _ _; rw [mix_start, mix_start]; exact T6
        have hLv : Hid (Lst w6 qv cv gl) := Lv
        clear T6 I6 K6 Lv hqv O6 cU cA HA ic il r3 rl pc0 pl
        go_wp2_with fail
        go_loopw [11] (fun i wq => ∃ j : Nat, j ≤ 4 ∧ i = .int .i64 j ∧ Hid (TB wq W1.heap.size S W1.heap.size 4 ql cl vu' (.slice (some ⟨g2, 0, none⟩) m' c2) t.us t.fs (mixF (· + ·) s.gn gl j) (mixF (· - ·) s.rm gl j) s.lost) ∧ Hid (Lst wq qv cv gl) ∧ Hid (Below W1.heap.size W1 wq)) (fun i _ => 4 - (intOf i).toNat)
        case atStart => exact ⟨0, by omega, rfl, T6', hLv, hK6⟩
        case round =>
          obtain ⟨j, hj, rfl, hTq, hLq, hKq⟩ := hrel
          by_cases hj4 : j < 4
          · have hj' : (j : Int) < 4 := by omega
            obtain ⟨m1, m2, m3⟩ := mix_step (· + ·) tgs.out.gl hgl4 hj4
            obtain ⟨l1, _, l3⟩ := mix_step (· - ·) tgs.out.rl hgl4 hj4
            obtain ⟨⟨b1, b2, b3, b4⟩, b5, b6⟩ := hbd.out j hj4
            have M3 : Hid _ := m3
            have L3 : Hid _ := l3
            have L1 : Hid _ := l1
            obtain ⟨X, HX⟩ : ∃ X, Hid (X = s.gn.getD j 0) := ⟨_, rfl⟩
            obtain ⟨Y, HY⟩ : ∃ Y, Hid (Y = gl.getD j 0) := ⟨_, rfl⟩
            obtain ⟨Z, HZ⟩ : ∃ Z, Hid (Z = s.rm.getD j 0) := ⟨_, rfl⟩
            have r1 : wr.cell? ⟨S, 1, none⟩ = some (.slice (some ⟨W1.heap.size, 0, none⟩) 4 4) := hTq.out.row.cell (i := 1) (by omega)
            have rl := hTq.out.row.lt
            have gc := hTq.out.g.cell m1
            have gz := hTq.out.g.frozen j
            have gll := hTq.out.g.lt
            have vc := hLq.out.cell m2
            have vl := hLq.out.lt
            rw [← HX.out] at gc b1 b2
            rw [← HY.out] at vc b5 b6
            rw [← HZ.out] at b3 b4
            clear m1 m2 m3 l1 l3
            obtain ⟨W7, HW7⟩ : ∃ W7, Hid (W7 = (wr.setCell ⟨W1.heap.size, j, none⟩ (.int .i64 (X + Y))).drew) := ⟨_, rfl⟩
            have T7 : TB W7 W1.heap.size S W1.heap.size 4 ql cl vu' (.slice (some ⟨g2, 0, none⟩) m' c2) t.us t.fs (mixF (· + ·) s.gn gl (j + 1)) (mixF (· - ·) s.rm gl j) s.lost := by
              have := (hTq.out.setG j (X + Y)).later ((Below.refl _ _).drew)
              rw [← HW7.out, HX.out, HY.out] at this
              rw [← M3.out]; exact this
            have V7 : Lst W7 qv cv gl := by rw [HW7.out]; exact (hLq.out.setOther (a := ⟨W1.heap.size, j, none⟩) nv1 _).below ((Below.refl _ _).drew)
            have K7 : Below W1.heap.size W1 W7 := by rw [HW7.out]; exact (bel_set hKq.out _ _ (Nat.le_refl _) _).drew
            go_wp2_with fail
            go_region
            all_goals
              rw [← HW7.out]
              clear r1 rl gc gz gll vc vl
              have lc := T7.l.cell L1.out
              have lz := T7.l.frozen j
              have lll := T7.l.lt
              have vc := V7.cell (mix_step (· + ·) tgs.out.gl hgl4 hj4).2.1
              have vl := V7.lt
              rw [← HZ.out] at lc
              rw [← HY.out] at vc
              obtain ⟨W8, HW8⟩ : ∃ W8, Hid (W8 = (W7.setCell ⟨ql, j, none⟩ (.int .i64 (Z - Y))).drew) := ⟨_, rfl⟩
              have T8 : TB W8 W1.heap.size S W1.heap.size 4 ql cl vu' (.slice (some ⟨g2, 0, none⟩) m' c2) t.us t.fs (mixF (· + ·) s.gn gl (j + 1)) (mixF (· - ·) s.rm gl (j + 1)) s.lost := by
                have := (T7.setL j (Z - Y)).later ((Below.refl _ _).drew)
                rw [← HW8.out, HZ.out, HY.out] at this
                rw [← L3.out]; exact this
              have V8 : Lst W8 qv cv gl := by rw [HW8.out]; exact (V7.setOther (a := ⟨ql, j, none⟩) nv2 _).below ((Below.refl _ _).drew)
              have K8 : Below W1.heap.size W1 W8 := by rw [HW8.out]; exact (bel_set K7 _ _ T7.bl _).drew
              go_wp2_with fail
              go_region
              all_goals
                rw [← HW8.out]
                go_wp2_with fail
                go_roundw
                case rel => exact ⟨j + 1, by omega, by go_num, T8, V8, K8⟩
                case measure => simp [intOf]; omega
          · obtain rfl : j = 4 := by omega
            have TE := hTq.out
            rw [mix_end tgs.out.gl hgl4, mix_end tgs.out.rl hgl4] at TE
            have c2' : wr.cell? ⟨S, 2, none⟩ = some (.int .i64 s.lost) := TE.row.cell (i := 2) (by omega)
            have z2 := TE.row.frozen 2
            have rl := TE.row.lt
            have T9 := TE.setLost (s.lost + t.lost)
            have K9 : Below W1.heap.size W1 (wr.setCell ⟨S, 2, none⟩ (.int .i64 (s.lost + t.lost))) := bel_set hKq.out _ _ TE.bS _
            obtain ⟨h1, h2, h3, h4⟩ := hlo
            go_wp2_with fail
            go_roundw
            case rel => exact ⟨k + 1, by omega, by go_num, ⟨_, by show TB _ _ _ _ _ _ _ _ _ _ _ _ _ _; rw [HE'.out]; exact T9⟩, K9⟩
            case measure => simp [intOf]; omega
    · obtain rfl : k = m := by omega
      obtain ⟨s, Hs⟩ : ∃ s, Hid (s = tkL s0 (ids.take k)) := ⟨_, rfl⟩
      rw [← Hs.out] at hT
      obtain rfl : s = sE := by rw [HsE.out, Hb.out, Hs.out, Hs0.out]
      obtain ⟨gu, cu, hvu, hgu, lgu, hUA⟩ := hT.out.u.addr hT.out.nn
      obtain ⟨n, Hn⟩ : ∃ n, Hid (s.us.length = n) := ⟨_, rfl⟩
      rw [Hn.out] at hvu
      subst hvu
      have rS := hT.out.row
      rw [HL.out] at rS
      have q0 : wr.cell? ⟨S, 0, none⟩ = some (.int .i64 0) := rS.cell (i := 0) (by omega)
      have q1 : wr.cell? ⟨S, 1, none⟩ = some (.slice (some ⟨W1.heap.size, 0, none⟩) 4 4) := rS.cell (i := 1) (by omega)
      have q2 : wr.cell? ⟨S, 2, none⟩ = some (.int .i64 L) := rS.cell (i := 2) (by omega)
      have q3 : wr.cell? ⟨S, 3, none⟩ = some (.slice (some ⟨gu, 0, none⟩) n cu) := rS.cell (i := 3) (by omega)
      have q4 : wr.cell? ⟨S, 4, none⟩ = some (.slice (some ⟨g2, 0, none⟩) m' c2) := rS.cell (i := 4) (by omega)
      have ql' := rS.lt
      have rr6 := rr.out.of_block (hK.out.block _ hb1)
      have R6 : RIs wr W1.heap.size (TR.of s) (.slice (some ⟨W1.heap.size, 0, none⟩) 4 4) (.slice (some ⟨gu, 0, none⟩) n cu) (.slice (some ⟨g2, 0, none⟩) m' c2) := by
        refine ⟨?_, hT.out.u, hT.out.f⟩
        have := SlI.of_lst hT.out.g (Nat.le_refl W1.heap.size)
        have e4 : s.gn.length = 4 := by rw [Hs.out]; exact (HT.out.list _).gl
        rwa [e4] at this
      have B6 : Below w.heap.size w wr := B1.trans (hK.out.mono (by omega))
      obtain ⟨e0, e1, e2, e3, e4, z0, z1, z2, z3, z4, el⟩ := res_cells rr6
      obtain ⟨x0, x1, x2, x3, x4⟩ := setRes_cells (setRes_row rr6 0 (.slice (some ⟨W1.heap.size, 0, none⟩) 4 4) L (.slice (some ⟨gu, 0, none⟩) n cu) (.slice (some ⟨g2, 0, none⟩) m' c2))
      have BZ := setRes_bel B6 w.heap.size (by omega) 0 (.slice (some ⟨W1.heap.size, 0, none⟩) 4 4) L (.slice (some ⟨gu, 0, none⟩) n cu) (.slice (some ⟨g2, 0, none⟩) m' c2)
      have RZ := (R6.setRes hb1 0 (.slice (some ⟨W1.heap.size, 0, none⟩) 4 4) L (.slice (some ⟨gu, 0, none⟩) n cu) (.slice (some ⟨g2, 0, none⟩) m' c2)).mono (base' := w.heap.size) (by omega)
      clear rS hUA lgu
      go_wp2_with fail
      refine bodyPost_ret (v := .agg (resV 0 (.slice (some ⟨W1.heap.size, 0, none⟩) 4 4) L (.slice (some ⟨gu, 0, none⟩) n cu) (.slice (some ⟨g2, 0, none⟩) m' c2))) ?_ rfl ⟨_, _, _, rfl, RZ, by simp, by simp, BZ⟩
      simp [results, Tryz.results50, go_sem, x0, x1, x2, x3, x4]
      done
end Go.Proofs.YtppgjmpdnpidnaaGreatDoor
end
