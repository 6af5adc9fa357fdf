/- Texts of mine put together (a claim holds at most 60 files): LeaveSide. -/
import Derived.Test.YtlfnnobkgbfdgaaGreatPartH32
import Derived.Test.YtlfnnobkgbfdgaaGreatPartH35
import Derived.Test.YtlfnnobkgbfdgaaGreatPartH36
import Derived.Deep.CutRange
import Derived.Deep.RegionHeld3

/- LeaveSide -/
/- The contract of leaveSide: a side that goes. Condition: the world that is worked on lies in memory and has no fault. -/
section
namespace Go.Proofs.YtlfnnobkgbfdgaaGreat
open Go.ChangeShapes Go.WideShapes Go.ChangeAt Go.RowKit
open Bd
set_option linter.unusedVariables false

theorem WS.ofS {w w' : World} {base g : Nat} {p : WP} {x : KW} (h : WS w base g p x) (k : KT (fun t => t == 74) base w w') {q : Option Addr} {c : Nat} {l' : List K4} (hs : SlS w' base (.slice q l'.length c) l') :
    WS (w'.setCell ⟨g, 5, none⟩ (.slice q l'.length c)) base g ⟨p.u, p.uc, p.f, p.fc, p.a, p.ac, q, c, p.o, p.oc⟩ ⟨x.t, x.s, x.us, x.fs, x.fa, l', x.oo⟩ := by
  have hb := k.blk h.b (by decide)
  exact ⟨hb.set 5 (.slice q l'.length c), ⟨(k.slU h.o.u (by decide)).setB hb (by decide) _, (k.slF h.o.f (by decide)).setB hb (by decide) _, (k.slA h.o.a (by decide)).setB hb (by decide) _, hs.setB hb (by decide) _, (k.slO h.o.o (by decide)).setB hb (by decide) _⟩, h.bg⟩
theorem WS.ofO {w w' : World} {base g : Nat} {p : WP} {x : KW} (h : WS w base g p x) (k : KT (fun t => t == 77) base w w') {q : Option Addr} {c : Nat} {l' : List K2} (hs : SlO w' base (.slice q l'.length c) l') :
    WS (w'.setCell ⟨g, 6, none⟩ (.slice q l'.length c)) base g ⟨p.u, p.uc, p.f, p.fc, p.a, p.ac, p.s, p.sc, q, c⟩ ⟨x.t, x.s, x.us, x.fs, x.fa, x.se, l'⟩ := by
  have hb := k.blk h.b (by decide)
  exact ⟨hb.set 6 (.slice q l'.length c), ⟨(k.slU h.o.u (by decide)).setB hb (by decide) _, (k.slF h.o.f (by decide)).setB hb (by decide) _, (k.slA h.o.a (by decide)).setB hb (by decide) _, (k.slS h.o.s (by decide)).setB hb (by decide) _, hs.setB hb (by decide) _⟩, h.bg⟩
theorem clB_bits : ∀ (m : Fin 16) (k : Fin 4), bits .andNot .i64 (m.val : Int) (wrap64 (2 ^ k.val)) = clB (m.val : Int) (k.val : Int) := by decide +kernel
theorem clB_run {m a : Int} (hm : inb m 0 15 = true) (a0 : 0 ≤ a) (a3 : a ≤ 3) : bits .andNot .i64 m (wrap64 (2 ^ a.toNat)) = clB m a := by
  have := inb_i hm
  obtain ⟨m', rfl⟩ : ∃ n : Nat, m = n := ⟨m.toNat, by omega⟩
  obtain ⟨k', rfl⟩ : ∃ n : Nat, a = n := ⟨a.toNat, by omega⟩
  exact clB_bits ⟨m', by omega⟩ ⟨k', by omega⟩
/- all that a side that goes may turn -/
abbrev TL : TypeId → Bool := fun t => t == 46 || t == 88 || t == 68 || t == 74 || t == 77
theorem tl_p (t : TypeId) (h : TL t = false) : TP t = false := by
  simp only [TL, TP, Bool.or_eq_false_iff] at h ⊢; exact h.1.1.1
theorem tl_u (t : TypeId) (h : TL t = false) : TU t = false := by
  simp only [TL, TU, Bool.or_eq_false_iff] at h ⊢; exact h.1.1.2
theorem tl_s (t : TypeId) (h : TL t = false) : (fun t : TypeId => t == 74) t = false := by
  simp only [TL, Bool.or_eq_false_iff] at h ⊢; exact h.1.2
theorem tl_o (t : TypeId) (h : TL t = false) : (fun t : TypeId => t == 77) t = false := by
  simp only [TL, Bool.or_eq_false_iff] at h ⊢; exact h.2
/- a faction's Allies, turned in memory -/
theorem setC_flat {fa : List KA} {k : Int} {y : KA} (v : Int) (h : fa[k.toNat]? = some y) : (flatA fa).set (k.toNat * 3 + 2) (.int .i64 v) = flatA (setC fa k v) := by
  rw [flatA_set2 fa k.toNat y v h]
  unfold setC
  rw [getD_z, h]
theorem ally_get {fa : List KA} {i : Int} {y : KA} (h : fa[i.toNat]? = some y) : allyA fa i = y.c2 := by unfold allyA; rw [getD_z, h]
set_option maxRecDepth 20000 in
set_option maxHeartbeats 16000000 in
theorem leaveSide_c (g base : Nat) (p : WP) (t s : Int) (us : List K10) (fs : List K3) (fa : List KA) (se : List K4) (oo : List K2) (a : Int) (w : World) (hw : WS w base g p ⟨t, s, us, fs, fa, se, oo⟩) (G : GdW hasI ⟨t, s, us, fs, fa, se, oo⟩) (hb : base ≤ w.heap.size) (a0 : 0 ≤ a) (a3 : a ≤ 3) :
    Calls Tryz.prog 19 #[.pointer (some ⟨g, 0, none⟩), .int .i64 a] w fun e w' => e = .returned (.tuple #[]) ∧ (∃ p', WS w' base g p' ⟨t, leaS hasI ⟨t, s, us, fs, fa, se, oo⟩ a, shU a (heirs hasI ⟨t, s, us, fs, fa, se, oo⟩ a) 0 us, fs, leaF hasI ⟨t, s, us, fs, fa, se, oo⟩ a, seF' a se, ooF' a oo⟩) ∧ KT TL base w w' := by
  have h4 : fa.length = 4 := G.a4
  obtain ⟨y, hy⟩ : ∃ y, fa[a.toNat]? = some y := ⟨_, List.getElem?_eq_getElem (by omega)⟩
  have hm : allyA fa a = y.c2 := ally_get hy
  have hmb : inb y.c2 0 15 = true := by rw [← hm]; exact (gd_fac G a0 a3).m
  have hA := hw.o.a
  obtain ⟨ga, hpa, hgb, hgl, hat, e9, hfz⟩ := hA.blk0 (show 0 < fa.length by omega)
  obtain ⟨W, HW⟩ : ∃ W, Hid (W = w.alloc (.cells #[.int .i64 a] 2)) := ⟨_, rfl⟩
  have B1 : Below w.heap.size w W := by rw [HW.out]; exact (Below.refl _ _).alloc (Nat.le_refl _) _
  have F1 : Blk W w.heap.size #[.int .i64 a] 2 := by rw [HW.out]; exact Blk.new w _ _
  have hWz : W.heap.size = w.heap.size + 1 := by rw [HW.out, size_new]
  have Hw1 : Hid (WS W base g p ⟨t, s, us, fs, fa, se, oo⟩) := hw.later B1
  have HF1 : Hid (Blk W w.heap.size #[.int .i64 a] 2) := F1
  have K1 : KT TL base w W := (KT.refl _ _ _).step hb B1
  have keep : ∀ w', Below W.heap.size W w' → w'.cell? ⟨g, 4, none⟩ = some (.slice (some ⟨ga, 0, none⟩) 4 p.ac) ∧ w'.cell? ⟨w.heap.size, 0, none⟩ = some (.int .i64 a) ∧ w'.cell? ⟨ga, a.toNat * 3 + 2, none⟩ = some (.int .i64 y.c2) := fun w' h => by
    have q := (Hw1.out.later h).b.cell (i := 4) rfl
    have q2 : w'.cell? ⟨g, 4, none⟩ = some (.slice p.a fa.length p.ac) := q
    rw [hpa, h4] at q2
    obtain ⟨c0, c1, c2, cl⟩ := (hat.later hgl (B1.trans (h.mono B1.size))).one (Nat.lt_of_lt_of_le hgl (B1.trans (h.mono B1.size)).size) hy
    rw [Nat.zero_add] at c2
    exact ⟨q2, (HF1.out.below h).cell (i := 0) rfl, c2⟩
  have Bc : Below W.heap.size W W.drew := (Below.refl _ _).drew
  obtain ⟨k0, k1, k2⟩ := keep _ (Below.refl _ _)
  have bl := Hw1.out.b.lt
  have fl := F1.lt
  have gl : ga < W.heap.size := Nat.lt_of_lt_of_le hgl B1.size
  have a4 : a < 4 := by omega
  have cH := fun W => sidesIn_c y.c2 W
  obtain ⟨hs, Hs⟩ : ∃ hs, Hid (hs = sdL hasI y.c2) := ⟨_, rfl⟩
  have hkk : ∀ k ∈ hs, 0 ≤ k ∧ k ≤ 3 := fun k hk => by rw [Hs.out] at hk; have := mem_sdL.1 hk; exact ⟨this.1, this.2.1⟩
  have hl4 : hs.length ≤ 4 := by rw [Hs.out]; exact len_sdL _ _
  have hpur := purse_in G
  have hS := inb_i G.s
  /- what comes of it all -/
  have HLS : Hid (leaS hasI ⟨t, s, us, fs, fa, se, oo⟩ a = s + (purA fa a - shT (purA fa a) hs.length 0 hs fa)) := by rw [Hs.out, ← hm]; rfl
  have HLU : Hid (shU a (heirs hasI ⟨t, s, us, fs, fa, se, oo⟩ a) 0 us = shU a hs 0 us) := by rw [Hs.out, ← hm]; rfl
  have HLF : Hid (leaF hasI ⟨t, s, us, fs, fa, se, oo⟩ a = (clA a hs (shA (purA fa a) hs.length 0 hs fa)).set a.toNat ⟨0, true, 0⟩) := by rw [Hs.out, ← hm]; rfl
  have hga : eqGA fa (shA (purA fa a) hs.length 0 hs fa) := shA_eq (eqGA.refl fa)
  have hl1 : (shA (purA fa a) hs.length 0 hs fa).length = 4 := by rw [← hga.1]; exact h4
  have Hal : Hid (∀ j, 0 ≤ j → j ≤ 3 → inb (allyA (shA (purA fa a) hs.length 0 hs fa) j) 0 15 = true) := fun j j0 j3 => by rw [← hga.ally]; exact (gd_fac G j0 j3).m
  have hu8 := (Gd8 G.b).1
  have hs6 := G.s6
  have ho6 := G.o6
  dsimp only at hs6 ho6
  have cP := fun (w2 : World) (b0 : Nat) (vh : Value) (h1 : WS w2 base g p ⟨t, s, us, fs, fa, se, oo⟩) (h2 : SlI w2 b0 vh hs) (h3 : base ≤ w2.heap.size) => leavePurse_c g base b0 p t s us fs fa se oo a hs vh w2 h1 h2 h3 h4 hpur a0 a3 hkk hl4 hS.1 hS.2
  rw [HLS.out, HLU.out, HLF.out]
  generalize s + (purA fa a - shT (purA fa a) hs.length 0 hs fa) = S1 at cP ⊢
  generalize shA (purA fa a) hs.length 0 hs fa = FA1 at cP hl1 Hal hga ⊢
  have cU := fun (w3 : World) (b0 : Nat) (vh : Value) (h1 : WS w3 base g p ⟨t, S1, us, fs, FA1, se, oo⟩) (h2 : SlI w3 b0 vh hs) (h3 : base ≤ w3.heap.size) => leaveUnits_c g base b0 p t S1 us fs FA1 se oo a hs vh w3 h1 h2 h3 hu8 hl4
  generalize shU a hs 0 us = U1 at cU ⊢
  obtain ⟨RA, HRA⟩ : ∃ R, Hid (R = clA a (hs.drop 0) FA1) := ⟨_, rfl⟩
  rw [show clA a hs FA1 = RA from HRA.out.symm]
  clear HLS HLU HLF hga hpur hS hm hmb hy hat e9 hfz G h4
  go_enter Tryz.func19, Tryz.ntmps19
  go_upto_region 1 with fail
  rw [← HW.out]
  go_region_held3 (fun w' => w'.cell? ⟨g, 4, none⟩ = some (.slice (some ⟨ga, 0, none⟩) 4 p.ac) ∧ w'.cell? ⟨w.heap.size, 0, none⟩ = some (.int .i64 a) ∧ w'.cell? ⟨ga, a.toNat * 3 + 2, none⟩ = some (.int .i64 y.c2)) (first | exact keep _ Bc | go_keep) (first | (go_at_call 48; refine (cH _).mono ?_; rintro e w2 ⟨vh, rfl, hSI, kn⟩; have Bc := Bc.trans (kn.mono Bc.size); obtain ⟨k0, k1, k2⟩ := keep _ Bc))
  rw [← Hs.out] at hSI
  have hB2 : base ≤ w2.heap.size := Nat.le_trans hb (Nat.le_trans B1.size Bc.size)
  have K2 := K1.step (Nat.le_trans hb B1.size) Bc
  have cP := cP w2 _ vh (Hw1.out.later Bc) hSI hB2
  clear k0 k1 k2
  go_wp2_with fail
  refine cP.mono ?_
  rintro e w3 ⟨rfl, Hw3, K3⟩
  have hSI3 := K3.slI hSI (by decide)
  have F3 := K3.blk (HF1.out.below Bc) (by decide)
  have K3' := K2.trans (K3.more tl_p (Nat.le_refl _))
  have hB3 : base ≤ w3.heap.size := Nat.le_trans hB2 K3.size
  have cU := cU w3 _ vh Hw3 hSI3 hB3
  have e1 : w3.cell? ⟨w.heap.size, 0, none⟩ = some (.int .i64 a) := F3.cell (i := 0) rfl
  have fl := F3.lt
  clear cP
  go_wp2_with fail
  refine cU.mono ?_
  rintro e w4 ⟨rfl, Hw4, K4⟩
  have hSI4 := K4.slI hSI3 (by decide)
  have F4 := K4.blk F3 (by decide)
  have K4' := K3'.trans (K4.more tl_u (Nat.le_refl _))
  have hB4 : base ≤ w4.heap.size := Nat.le_trans hB3 K4.size
  obtain ⟨vq, vc, rfl⟩ := SlI.form hSI4
  have HI4 : Hid (SlI w4 _ (.slice vq hs.length vc) hs) := hSI4
  have HF4 : Hid (Blk w4 w.heap.size #[.int .i64 a] 2) := F4
  have Hw4' : Hid (WS w4 base g p ⟨t, S1, U1, fs, FA1, se, oo⟩) := Hw4
  have Hkk : Hid (∀ k ∈ hs, 0 ≤ k ∧ k ≤ 3) := hkk
  obtain ⟨n, Hn⟩ : ∃ n, Hid (hs.length = n) := ⟨_, rfl⟩
  rw [Hn.out] at HI4
  have hn4 : n ≤ 4 := by rw [← Hn.out]; exact hl4
  have Hl1 : Hid (FA1.length = 4) := hl1
  have Hpa : Hid (p.a = some ⟨ga, 0, none⟩) := hpa
  clear cU e1 fl hSI hSI3 hSI4 hkk hl4 hl1 Hw4 Hw3 F3 F4 Hs hA hpa
  simp only [Hn.out]
  go_wp2_with fail
  go_loopw [26] (fun x wr => ∃ (i : Nat) (fi : List KA), x = .int .i64 i ∧ i ≤ n ∧ Hid (RA = clA a (hs.drop i) fi) ∧ Hid (fi.length = 4) ∧ Hid (∀ j, 0 ≤ j → j ≤ 3 → inb (allyA fi j) 0 15 = true) ∧ Hid (WS wr base g p ⟨t, S1, U1, fs, fi, se, oo⟩) ∧ KT TP base w4 wr) (fun x _ => n - (intOf x).toNat)
  case atStart => exact ⟨0, FA1, rfl, Nat.zero_le _, HRA, Hl1, Hal, Hw4', KT.refl _ _ _⟩
  case round =>
    obtain ⟨i, fi, rfl, hi, HA, Hl, Hm, Hw, KK⟩ := hrel
    have F5 := KK.blk HF4.out (by decide)
    have d1 : wr.cell? ⟨w.heap.size, 0, none⟩ = some (.int .i64 a) := F5.cell (i := 0) rfl
    have dl := F5.lt
    have d4 : wr.cell? ⟨g, 4, none⟩ = some (.slice p.a fi.length p.ac) := Hw.out.b.cell (i := 4) rfl
    have gl2 := Hw.out.b.lt
    rw [Hpa.out, Hl.out] at d4
    have hA2 := Hw.out.o.a
    obtain ⟨ga2, hpa2, _, hgl2, hat2, _, hfz2⟩ := hA2.blk0 (show 0 < fi.length by have := Hl.out; omega)
    have hgg : ga = ga2 := by have h := Hpa.out.symm.trans hpa2; have := Option.some.inj h; injection this
    subst hgg
    by_cases hlt : i < n
    · have hlt' : (i : Int) < (n : Int) := by omega
      obtain ⟨k, hk⟩ : ∃ k, hs[i]? = some k := ⟨_, List.getElem?_eq_getElem (by have := Hn.out; omega)⟩
      obtain ⟨k0, k3⟩ := Hkk.out k (List.mem_of_getElem? hk)
      rcases (KK.slI HI4.out (by decide)).read with ⟨_, he⟩ | ⟨qh, cap, hv, _, hql, hcell⟩
      · rw [he] at hk; simp at hk
      injection hv with v1 v2 v3
      subst v1
      have c1 := hcell i k hk
      obtain ⟨z, hz⟩ : ∃ z, fi[k.toNat]? = some z := ⟨_, List.getElem?_eq_getElem (by have := Hl.out; omega)⟩
      obtain ⟨z0, z1, z2, zl⟩ := hat2.one hgl2 hz
      rw [Nat.zero_add] at z2
      have hal : allyA fi k = z.c2 := ally_get hz
      have hzb : inb z.c2 0 15 = true := by rw [← hal]; exact Hm.out k k0 k3
      have hbit := clB_run hzb a0 a3
      have fz := hfz2 (k.toNat * 3 + 2)
      have k4 : k < 4 := by omega
      have HA2 : Hid (RA = clA a (hs.drop (i + 1)) (setC fi k (clB z.c2 a))) := by
        show _ = _
        rw [HA.out, drop_cons hk]
        show clA a (hs.drop (i + 1)) (setC fi k (clB (allyA fi k) a)) = _
        rw [hal]
      have hzs : (flatA fi).set (k.toNat * 3 + 2) (.int .i64 (clB z.c2 a)) = flatA (setC fi k (clB z.c2 a)) := setC_flat _ hz
      have Hw5 := Hw.out.setA Hpa.out (k.toNat * 3 + 2) (.int .i64 (clB z.c2 a)) _ (by have := Hl.out; dsimp only; omega) hzs
      have HW5 : Hid (WS (wr.setCell ⟨ga, k.toNat * 3 + 2, none⟩ (.int .i64 (clB z.c2 a))) base g p ⟨t, S1, U1, fs, setC fi k (clB z.c2 a), se, oo⟩) := Hw5
      obtain ⟨csA, hbA⟩ := (show SlA wr base (.slice (some ⟨ga, 0, none⟩) fi.length p.ac) fi from by have := Hw.out.o.a; rw [Hpa.out] at this; exact this).blk (q := ga) rfl
      have HK5 : Hid (KT TP base w4 (wr.setCell ⟨ga, k.toNat * 3 + 2, none⟩ (.int .i64 (clB z.c2 a)))) := KK.set hbA (by decide) hgb _ _
      have Hl5 : Hid ((setC fi k (clB z.c2 a)).length = 4) := by show _ = _; rw [setC_len]; exact Hl.out
      have Hm5 : Hid (∀ j, 0 ≤ j → j ≤ 3 → inb (allyA (setC fi k (clB z.c2 a)) j) 0 15 = true) := fun j j0 j3 => by
        rw [(setC_get k0 j0 (by have := Hl.out; omega)).2.2]
        by_cases e : j = k
        · rw [if_pos e]; exact (cl_law hzb a0 a3 a0 a3).2
        · rw [if_neg e]; exact Hm.out j j0 j3
      have a62 : a ≤ 62 := by omega
      clear hk hcell hz hal hzs Hw5 hbA hat2 hfz2 hpa2 hA2 F5 z0 z1 cap v2 v3
      go_upto_region 7 with fail
      go_region
      all_goals
        try rw [hbit]
        go_wp2_with fail
        go_roundw
        case rel => exact ⟨i + 1, _, by go_num, by omega, HA2, Hl5, Hm5, HW5.out.drew, HK5.out.drew⟩
        case measure => simp [intOf]; omega
    · obtain rfl : i = n := by omega
      have hlt' : ¬ (i : Int) < (i : Int) := by omega
      have hd : hs.drop i = [] := List.drop_of_length_le (by have := Hn.out; omega)
      obtain rfl : RA = fi := by rw [HA.out, hd]; rfl
      obtain ⟨z, hz⟩ : ∃ z, RA[a.toNat]? = some z := ⟨_, List.getElem?_eq_getElem (by have := Hl.out; omega)⟩
      have K5 := K4'.trans (KK.more tl_p (Nat.le_refl _))
      have hB5 : base ≤ wr.heap.size := Nat.le_trans hB4 KK.size
      have hA3 : SlA wr base (.slice (some ⟨ga, 0, none⟩) RA.length p.ac) RA := by have := Hw.out.o.a; rw [Hpa.out] at this; exact this
      obtain ⟨g', cap, cur, h1, _, hR⟩ : ∃ g' cap cur, (Value.slice (some ⟨ga, 0, none⟩) RA.length p.ac) = .slice (some ⟨g', 0, none⟩) RA.length cap ∧ base ≤ g' ∧ RwA wr g' cap cur RA := by
        rcases hA3.row with ⟨h1, _⟩ | h
        · cases h1
        · exact h
      injection h1 with h1 h2 h3
      have hgg : ga = g' := by have := Option.some.inj h1; injection this
      subst hgg
      subst h3
      have h4c : 4 ≤ p.ac := by have := hR.le; have := Hl.out; omega
      clear hd hA2 hat2 hfz2 hpa2 h1 h2
      go_wp2_with fail
      have BcZ : KT TL base w wr := K5
      have s1 : a + 1 ≤ (p.ac : Int) := by omega
      have s2 : ¬ (a + 1 < a) := by omega
      have s3 : ¬ (p.ac = a.toNat) := by omega
      have s4 : ¬ (a.toNat = p.ac) := by omega
      have s5 : 0 ≤ a + 1 := by omega
      have s6 : a ≤ a + 1 := by omega
      have s7 : (a + 1).toNat - a.toNat = 1 := by omega
      have s8 : (a + 1).toNat = a.toNat + 1 := by omega
      have s9 : a ≤ (p.ac : Int) := by omega
      have s10 : IntKind.i64.wrap (a + 1) = a + 1 := by rw [IntKind.wrap_i64]; omega
      have hbd : ∀ t, t < 1 * 3 → a.toNat * 3 + t < p.ac * 3 := fun t ht => by omega
      have hRd : RwA wr.drew ga p.ac cur RA := hR.below (Below.refl _ _).drew
      obtain ⟨L, hL1, hL2, hcl⟩ := run_clear_struct (P := Tryz.prog) wr.drew 28 46 KA.z.v 3 Tryz.underlying28 (fun w => by kernel_rfl) rfl (by omega) (by intro u hu; simp [KA.z] at hu; rcases hu with rfl | rfl | rfl <;> rfl) ga (a.toNat * 3) 1 (p.ac - a.toNat) (by omega) (fun t ht => hRd.some _ (hbd t ht)) (fun t ht => hRd.b.frozen _)
      have hL : L = [.int .i64 0, .bool false, .int .i64 0] := by
        apply List.ext_getElem?
        intro j
        match j with
        | 0 => rw [hL2 0 (by omega)]; rfl
        | 1 => rw [hL2 1 (by omega)]; rfl
        | 2 => rw [hL2 2 (by omega)]; rfl
        | j + 3 => rw [List.getElem?_eq_none (by omega), List.getElem?_eq_none (by simp)]
      subst hL
      obtain ⟨W9, HW9⟩ : ∃ W9, Hid (W9 = wr.drew.setCells ga (a.toNat * 3) [.int .i64 0, .bool false, .int .i64 0]) := ⟨_, rfl⟩
      rw [← HW9.out] at hcl
      have hW9 : W9 = ((wr.drew.setCell ⟨ga, a.toNat * 3, none⟩ (.int .i64 0)).setCell ⟨ga, a.toNat * 3 + 1, none⟩ (.bool false)).setCell ⟨ga, a.toNat * 3 + 2, none⟩ (.int .i64 0) := HW9.out
      have q1 := ((Hw.out.drew).setA Hpa.out (a.toNat * 3) (.int .i64 0) (RA.set a.toNat ⟨0, z.c1, z.c2⟩) (by have := Hl.out; dsimp only; omega) (flatA_set0 RA a.toNat z 0 hz))
      have hz1 : (RA.set a.toNat ⟨0, z.c1, z.c2⟩)[a.toNat]? = some ⟨0, z.c1, z.c2⟩ := by rw [List.getElem?_set, if_pos rfl, if_pos (by have := Hl.out; omega)]
      have q2 := q1.setA Hpa.out (a.toNat * 3 + 1) (.bool false) ((RA.set a.toNat ⟨0, z.c1, z.c2⟩).set a.toNat ⟨0, false, z.c2⟩) (by have := Hl.out; dsimp only; rw [List.length_set]; omega) (flatA_set1 _ a.toNat _ false hz1)
      rw [List.set_set] at q2
      have hz2 : (RA.set a.toNat ⟨0, false, z.c2⟩)[a.toNat]? = some ⟨0, false, z.c2⟩ := by rw [List.getElem?_set, if_pos rfl, if_pos (by have := Hl.out; omega)]
      have q3 := q2.setA Hpa.out (a.toNat * 3 + 2) (.int .i64 0) ((RA.set a.toNat ⟨0, false, z.c2⟩).set a.toNat ⟨0, false, 0⟩) (by have := Hl.out; dsimp only; rw [List.length_set]; omega) (flatA_set2 _ a.toNat _ 0 hz2)
      rw [List.set_set, ← hW9] at q3
      have K9 : KT TL base w W9 := by rw [HW9.out]; exact KT.setCells (T := TL) (t := 46) (by decide) hgb _ _ cur _ hRd.b K5.drew
      have F9 : Blk W9 w.heap.size #[.int .i64 a] 2 := by
        have hne : w.heap.size ≠ ga := by omega
        rw [hW9]
        exact (((show Blk wr.drew w.heap.size _ _ from F5).setOther (a := ⟨ga, _, none⟩) hne _).setOther (a := ⟨ga, _, none⟩) hne _).setOther (a := ⟨ga, _, none⟩) hne _
      have g9 : W9.cell? ⟨g, 4, none⟩ = some (.slice p.a (RA.set a.toNat ⟨0, false, 0⟩).length p.ac) := q3.b.cell (i := 4) rfl
      rw [Hpa.out, List.length_set, Hl.out] at g9
      have f9 : W9.cell? ⟨w.heap.size, 0, none⟩ = some (.int .i64 a) := F9.cell (i := 0) rfl
      have l9 := q3.b.lt
      have lf9 := F9.lt
      have hW9q : Hid (WS W9 base g p ⟨t, S1, U1, fs, RA.set a.toNat ⟨0, false, 0⟩, se, oo⟩) := q3
      have HF9 : Hid (Blk W9 w.heap.size #[.int .i64 a] 2) := F9
      have HK9 : Hid (KT TL base w W9) := K9
      have hz3 : (RA.set a.toNat ⟨0, false, 0⟩)[a.toNat]? = some ⟨0, false, 0⟩ := by rw [List.getElem?_set, if_pos rfl, if_pos (by have := Hl.out; omega)]
      have hA9 := q3.o.a
      rw [Hpa.out] at hA9
      obtain ⟨csA9, hbA9⟩ := hA9.blk (q := ga) rfl
      obtain ⟨gb9, e9, _, hgl9, hat9, _, hfz9⟩ := (show SlA W9 base (.slice (some ⟨ga, 0, none⟩) (RA.set a.toNat ⟨0, false, 0⟩).length p.ac) (RA.set a.toNat ⟨0, false, 0⟩) from hA9).blk0 (by rw [List.length_set]; have := Hl.out; omega)
      have e9' : ga = gb9 := by have := Option.some.inj e9; injection this
      subst e9'
      obtain ⟨u0, u1, u2, ul⟩ := hat9.one hgl9 hz3
      rw [Nat.zero_add] at u1
      have fz9 := hfz9 (a.toNat * 3 + 1)
      have HX10 := q3.setA Hpa.out (a.toNat * 3 + 1) (.bool true) ((RA.set a.toNat ⟨0, false, 0⟩).set a.toNat ⟨0, true, 0⟩) (by have := Hl.out; dsimp only; rw [List.length_set]; omega) (flatA_set1 _ a.toNat _ true hz3)
      rw [List.set_set] at HX10
      have HW10 : Hid (WS (W9.setCell ⟨ga, a.toNat * 3 + 1, none⟩ (.bool true)).drew base g p ⟨t, S1, U1, fs, RA.set a.toNat ⟨0, true, 0⟩, se, oo⟩) := HX10.drew
      have HK10 : Hid (KT TL base w (W9.setCell ⟨ga, a.toNat * 3 + 1, none⟩ (.bool true)).drew) := (K9.set hbA9 (by decide) hgb _ _).drew
      have HF10 : Hid (Blk (W9.setCell ⟨ga, a.toNat * 3 + 1, none⟩ (.bool true)).drew w.heap.size #[.int .i64 a] 2) := F9.setOther (a := ⟨ga, _, none⟩) (by show w.heap.size ≠ ga; omega) _
      have hneg : g ≠ ga := bk_ne q3.b hbA9 (by decide)
      have hnef : w.heap.size ≠ ga := by omega
      clear q1 q2 q3 K9 F9 hz1 hz2 hz3 hA9 hbA9 e9 hat9 hfz9 u0 u2 hL1 hL2 hbd hRd HX10 hW9 hA3 hR F5 K5 hz
      go_region_held3 (fun w' => w'.cell? ⟨g, 4, none⟩ = some (.slice (some ⟨ga, 0, none⟩) 4 p.ac) ∧ w'.cell? ⟨w.heap.size, 0, none⟩ = some (.int .i64 a)) (first | exact ⟨g9, f9⟩ | go_keep) (fail)
      go_upto_region 10 with fail
      obtain ⟨W10, HX⟩ : ∃ W10, Hid (W10 = (W9.setCell ⟨ga, a.toNat * 3 + 1, none⟩ (.bool true)).drew) := ⟨_, rfl⟩
      have g10 : (W9.setCell ⟨ga, a.toNat * 3 + 1, none⟩ (.bool true)).drew.cell? ⟨g, 4, none⟩ = some (.slice (some ⟨ga, 0, none⟩) 4 p.ac) := by
        have q : (W9.setCell ⟨ga, a.toNat * 3 + 1, none⟩ (.bool true)).drew.cell? ⟨g, 4, none⟩ = some (.slice p.a (RA.set a.toNat ⟨0, true, 0⟩).length p.ac) := HW10.out.b.cell (i := 4) rfl
        rw [Hpa.out, List.length_set, Hl.out] at q
        exact q
      have f10 : (W9.setCell ⟨ga, a.toNat * 3 + 1, none⟩ (.bool true)).drew.cell? ⟨w.heap.size, 0, none⟩ = some (.int .i64 a) := HF10.out.cell (i := 0) rfl
      go_region_held3 (fun w' => w'.cell? ⟨g, 4, none⟩ = some (.slice (some ⟨ga, 0, none⟩) 4 p.ac) ∧ w'.cell? ⟨w.heap.size, 0, none⟩ = some (.int .i64 a)) (first | exact ⟨g10, f10⟩ | go_keep) (fail)
      go_upto_region 11 with fail
      rw [← HX.out]
      rw [← HX.out] at HW10 HK10 HF10
      clear g10 f10 g9 f9 u1 fz9
      have hB10 : base ≤ W10.heap.size := Nat.le_trans hb HK10.out.size
      have hSs := HW10.out.o.s
      have d5 : W10.cell? ⟨g, 5, none⟩ = some (.slice p.s se.length p.sc) := HW10.out.b.cell (i := 5) rfl
      have l10 := HW10.out.b.lt
      have lf10 := HF10.out.lt
      have fzg := HW10.out.b.frozen 5
      have cD := delete_d1 base (.slice p.s se.length p.sc) se hs6 w.heap.size a W10 hB10 HF10.out hSs
      go_wp2_with fail
      refine cD.mono ?_
      rintro e w11 ⟨v11, rfl, hS11, K11⟩
      obtain ⟨q11, c11, rfl⟩ := hS11.fm
      have b11 := K11.blk HW10.out.b (by decide)
      have e5 : w11.cell? ⟨g, 5, none⟩ = some (.slice p.s se.length p.sc) := b11.cell (i := 5) rfl
      have ef5 := b11.frozen 5
      have el5 := b11.lt
      have hW12 := HW10.out.ofS K11 hS11
      have K12 : KT TL base w (w11.setCell ⟨g, 5, none⟩ (.slice q11 (se.filter (fun x => !(x.c1 == a))).length c11)) := (HK10.out.trans (K11.more tl_s (Nat.le_refl _))).set b11 (by decide) HW10.out.bg 5 _
      have F12 : Blk (w11.setCell ⟨g, 5, none⟩ (.slice q11 (se.filter (fun x => !(x.c1 == a))).length c11)) w.heap.size #[.int .i64 a] 2 := (K11.blk HF10.out (by decide)).setOther (a := ⟨g, 5, none⟩) (bk_ne (K11.blk HF10.out (by decide)) b11 (by decide)) _
      obtain ⟨W12, HX12⟩ : ∃ W12, Hid (W12 = w11.setCell ⟨g, 5, none⟩ (.slice q11 (se.filter (fun x => !(x.c1 == a))).length c11)) := ⟨_, rfl⟩
      rw [← HX12.out] at hW12 K12 F12
      have HW12 : Hid _ := hW12
      have HK12 : Hid (KT TL base w W12) := K12
      have HF12 : Hid (Blk W12 w.heap.size #[.int .i64 a] 2) := F12
      clear cD hSs d5 fzg hW12 K12 F12
      go_upto_region 12 with fail
      try rw [← HX12.out]
      clear e5 ef5 el5
      have hB12 : base ≤ W12.heap.size := Nat.le_trans hb HK12.out.size
      have hSo := HW12.out.o.o
      have d6 : W12.cell? ⟨g, 6, none⟩ = some (.slice p.o oo.length p.oc) := HW12.out.b.cell (i := 6) rfl
      have l12 := HW12.out.b.lt
      have lf12 := HF12.out.lt
      have cD := delete_d2 base (.slice p.o oo.length p.oc) oo ho6 w.heap.size a W12 hB12 HF12.out hSo
      go_wp2_with fail
      refine cD.mono ?_
      rintro e w13 ⟨v13, rfl, hS13, K13⟩
      obtain ⟨l13, Hl13⟩ : ∃ l, Hid (l = oo.filter (fun x => !((x.c0 == a) || (x.c1 == a)))) := ⟨_, rfl⟩
      replace hS13 : SlO w13 base v13 l13 := by rw [Hl13.out]; exact hS13
      obtain ⟨q13, c13, rfl⟩ := hS13.fm
      have b13 := K13.blk HW12.out.b (by decide)
      have e6 : w13.cell? ⟨g, 6, none⟩ = some (.slice p.o oo.length p.oc) := b13.cell (i := 6) rfl
      have ef6 := b13.frozen 6
      have el6 := b13.lt
      have hW14 := HW12.out.ofO K13 hS13
      have K14 := (HK12.out.trans (K13.more tl_o (Nat.le_refl _))).set b13 (by decide) HW12.out.bg 6 (.slice q13 l13.length c13)
      have HW14 : Hid _ := hW14
      have HK14 : Hid _ := K14
      clear cD hSo d6 hW14 K14
      go_wp2_with fail
      go_end0
      have hoo : ooF' a oo = l13 := Hl13.out.symm
      exact ⟨rfl, ⟨_, by rw [hoo]; exact HW14.out⟩, HK14.out⟩
end Go.Proofs.YtlfnnobkgbfdgaaGreat
end
