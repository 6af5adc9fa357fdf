/- Texts of mine put together (a claim holds at most 60 files): ByPlace, AccPlain. -/
import Derived.Test.YtmfdggaijbcijaaGreatPartQ37
import Derived.Test.YtmfdggaijbcijaaGreatPartQ26
import Derived.Test.YtmfdggaijbcijaaGreatPartQ27

/- ByPlace -/
/- offersByPlace: the offers of the program's map in the order of their places. No condition. -/
section
namespace Go.Proofs.YtmfdggaijbcijaaGreat
open Go.ChangeShapes Go.WideShapes Go.ChangeAt Go.RowKit Go.Shelf Go.Lib Go.Sort
set_option linter.unusedVariables false

theorem bitsLen_c (n : Nat) (h : n ≤ 12) (W : World) : Calls Tryz.prog 120 #[.int .u64 n] W fun e w' => (∃ k : Int, e = .returned (.int .i64 k)) ∧ w' = W :=
  (Any.bits_Len Tryz.bitsLenO n W (by omega) (by omega)).mono fun _ _ ⟨he, hw⟩ => ⟨⟨_, he⟩, hw⟩
theorem insert_none (W : World) (g : Value) : Calls Tryz.prog 124 #[.slice none 0 0, .int .i64 0, .int .i64 0, g] W fun e w' => e = .returned (.tuple #[]) ∧ w' = W := by
  go_enter Tryz.func124, Tryz.ntmps124
  go_wp2
  refine wp_loop_rounds 1 ?_
  rw [rounds_succ]
  go_wp2
  go_end0
  exact ⟨rfl, rfl⟩
theorem pdq_none (W : World) (g : Value) (k : Int) : Calls Tryz.prog 119 #[.slice none 0 0, .int .i64 0, .int .i64 0, .int .i64 k, g] W fun e w' => e = .returned (.tuple #[]) ∧ w' = W := by
  have c := insert_none W g
  go_enter Tryz.func119, Tryz.ntmps119
  go_wp2
  refine wp_loop_rounds 1 ?_
  rw [rounds_succ]
  go_wp2_with (refine c.mono ?_; rintro e w' ⟨rfl, rfl⟩)
  (try simp only [Exit.inBlock, Exit.then]); refine bodyPost_ret (results_none rfl _ _ _) rfl ?_
  exact ⟨rfl, rfl⟩
theorem sortFunc_none (W : World) (g : Value) : Calls Tryz.prog 99 #[.slice none 0 0, g] W fun e w' => e = .returned (.tuple #[]) ∧ w' = W := by
  have c1 := bitsLen_c 0 (by omega) W
  have c2 := fun k => pdq_none W g k
  go_enter Tryz.func99, Tryz.ntmps99
  go_wp2_with (first | (go_at_call 120; refine c1.mono ?_; rintro e w' ⟨⟨k, rfl⟩, rfl⟩) | (go_at_call 119; refine (c2 _).mono ?_; rintro e w' ⟨rfl, rfl⟩))
  go_end0
  exact ⟨rfl, rfl⟩
/- a list of entries whose places rise, no offer twice: sorted by place it is what it was -/
theorem plc_at {l : List EO} (hk : (l.map EO.k).Nodup) {e : EO} (he : e ∈ l) : plcO e.k l = e.v := by
  induction l with
  | nil => cases he
  | cons x r ih =>
    simp only [List.map_cons, List.nodup_cons] at hk
    unfold plcO
    rcases List.mem_cons.1 he with rfl | h
    · rw [if_pos (K2.b_self _)]
    · rw [if_neg, ih hk.2 h]
      intro hb
      exact hk.1 (by rw [← K2.b_eq hb]; exact List.mem_map_of_mem h)
theorem sorted_ent {l : List EO} (hk : (l.map EO.k).Nodup) (hr : l.Pairwise (fun a b => a.v < b.v)) {ds : List K2} (hp : ds.Perm (l.map EO.k)) (hs : ds.Pairwise (fun a b => plcO a l ≤ plcO b l)) : ds = l.map EO.k := by
  have h2 : (l.map EO.k).Pairwise (fun a b => plcO a l ≤ plcO b l) := by
    rw [List.pairwise_map]
    refine hr.imp_of_mem fun {a b} ha hb hab => ?_
    rw [plc_at hk ha, plc_at hk hb]; omega
  refine List.Perm.eq_of_pairwise (fun a b ha hb h3 h4 => ?_) hs h2 hp
  obtain ⟨x, hx, rfl⟩ := List.mem_map.1 (hp.mem_iff.1 ha)
  obtain ⟨y, hy, rfl⟩ := List.mem_map.1 hb
  rw [plc_at hk hx, plc_at hk hy] at h3 h4
  have hv : x.v = y.v := by omega
  have : x = y := by
    obtain ⟨i, hi, rfl⟩ := List.getElem_of_mem hx
    obtain ⟨j, hj, rfl⟩ := List.getElem_of_mem hy
    rcases Nat.lt_trichotomy i j with h | h | h
    · have := List.pairwise_iff_getElem.1 hr i j hi hj h; omega
    · subst h; rfl
    · have := List.pairwise_iff_getElem.1 hr j i hj hi h; omega
  rw [this]
set_option maxRecDepth 100000 in
set_option maxHeartbeats 2000000 in
theorem sortedFuncO (Bm Bk b nn : Nat) (l : List EO) (hN : l.length ≤ 12) (W : World) (hM : MapO W b l nn) (hcm : W.cell? ⟨Bm, 0, none⟩ = some (.map (some b))) (hck : W.cell? ⟨Bk, 0, none⟩ = some (.map (some b)))
    (hnd : (l.map EO.b).Nodup) (hlt : ∀ e ∈ l, e.b < nn) (hk : (l.map EO.k).Nodup) (hr : l.Pairwise (fun a b => a.v < b.v)) :
    Calls Tryz.prog 72 #[.func (.func 100) #[] #[.pointer (some ⟨Bk, 0, none⟩)], .func (.func 74) #[] #[.pointer (some ⟨Bm, 0, none⟩)]] W fun e w' => ∃ v, e = .returned v ∧ SlO w' W.heap.size v (l.map EO.k) ∧ Below W.heap.size W w' := by
  have hseq := keysO_stops Fence.wide 3 trivial rfl (by omega) Bk b nn l W (cell_lt2 hck) hck hM hnd hlt
  have cC := collectO Fence.wide 5 trivial trivial trivial rfl (by omega) #[.pointer (some ⟨Bk, 0, none⟩)] _ _ l.length (by omega) W hseq
  replace cC := (callsIn_wide (n := 5)).1 cC
  have eg : ∀ args w, (callFunc 74 args).run Tryz.prog w = .ok (.enter 74 args) w := enters_of Tryz.func74 (by kernel_rfl) rfl
  have hml := hM.lt
  have hcl := cell_lt2 hcm
  have key : ∀ (W1 : World) (v : Value) (ks : List K2), ks.Perm (l.map EO.k) → SlO W1 W.heap.size v ks → Below W.heap.size W W1 →
      Calls Tryz.prog 99 #[v, .func (.func 74) #[] #[.pointer (some ⟨Bm, 0, none⟩)]] W1 fun e w' => e = .returned (.tuple #[]) ∧ SlO w' W.heap.size v (l.map EO.k) ∧ Below W.heap.size W w' := by
    intro W1 v ks hp hS hB
    rcases hS.parts with ⟨rfl, rfl⟩ | ⟨g, cap, cur, rfl, hbg, hg, h1, h2, h3, h4⟩
    · refine (sortFunc_none W1 _).mono ?_
      rintro e w' ⟨rfl, rfl⟩
      rw [List.perm_nil.1 hp.symm]
      exact ⟨rfl, hS, hB⟩
    · letI : Inhabited K2 := ⟨K2.z⟩
      have hsz : ks.length = l.length := by simpa using hp.length_eq
      have hcmp : CmpLays Tryz.prog 74 #[.pointer (some ⟨Bm, 0, none⟩)] encO 2 (cmpO l) g 0 ks.toArray.size W1 := by
        intro m os dk hdk x y
        have hB2 := (sortedO (n := m) (os := os) hbg hg h1 h2 h3 (ds := dk.toList) (by simpa using hdk)).2
        simp only [Array.toArray_toList] at hB2
        exact closureO Bm b nn l x y _ ((hB2.cell (p := ⟨Bm, 0, none⟩) hcl).trans ((hB.cell (p := ⟨Bm, 0, none⟩) hcl).trans hcm)) ((hB2.block b hml).trans ((hB.block b hml).trans hM))
      have con := AnyQ.slices_SortFunc_small_sorted Tryz.sortOff 2 Tryz.isAgg49 Tryz.sizeOf49 encO (fun _ => rfl) (fun x v hv => by simp [encO] at hv; rcases hv with rfl | rfl <;> rfl) (cmpO l) 74 #[.pointer (some ⟨Bm, 0, none⟩)] (swoO l) g 0 cap ks.toArray W1 eg hcmp (holdsO hg h4) (Array.getElem?_eq_some_iff.1 hg).1 (by simp; omega) (fun n W h => bitsLen_c n h W)
      change Calls Tryz.prog 99 #[.slice (some ⟨g, 0, none⟩) ks.length cap, _] W1 _ at con
      refine con.mono ?_
      rintro e w' ⟨rfl, d', n, os, hP, hQ, rfl⟩
      obtain ⟨hp1, _, hp3⟩ := hP
      have hpd : d'.toList.Perm ks := by
        have e1 : d'.extract 0 ks.toArray.size = d' := by rw [← hp1, Array.extract_size]
        rw [e1, Array.extract_size] at hp3
        exact hp3
      have hso : d'.toList.Pairwise (fun a b => plcO a l ≤ plcO b l) := by
        rw [List.pairwise_iff_getElem]
        intro i j hi hj hij
        have hi' : i < d'.size := by simpa using hi
        have hj' : j < d'.size := by simpa using hj
        have := hQ i j (Nat.zero_le _) hij (by rw [← hp1]; exact hj')
        rw [ltO, getElem!_pos d' i hi', getElem!_pos d' j hj'] at this
        simp at this ⊢
        omega
      have hds := sorted_ent hk hr (hpd.trans hp) hso
      have hfin := sortedO (n := n) (os := os) hbg hg h1 h2 h3 (ds := d'.toList) hpd.length_eq
      simp only [Array.toArray_toList] at hfin
      refine ⟨rfl, ?_, hB.trans hfin.2⟩
      rw [← hds]
      exact hfin.1
  clear hseq hck hM hcm hnd hlt hk hr
  go_enter Tryz.func72, Tryz.ntmps72
  go_wp2_with fail
  refine cC.mono ?_
  rintro e W1 ⟨v, ks, rfl, hp, hS, _, hB⟩
  have c2 := key W1 v ks hp hS hB
  clear cC key
  go_wp2_with fail
  refine c2.mono ?_
  rintro e W2 ⟨rfl, hS2, hB2⟩
  go_wp2
  go_ret
  exact ⟨v, rfl, hS2, hB2⟩
theorem keysO_c (b : Nat) (W : World) : Calls Tryz.prog 73 #[.map (some b)] W fun e w' => e = .returned (.func (.func 100) #[] #[.pointer (some ⟨W.heap.size, 0, none⟩)]) ∧ w' = W.alloc (.cells #[.map (some b)] 54) := by
  go_enter Tryz.func73, Tryz.ntmps73
  go_wp2
  go_ret
  exact ⟨rfl, rfl⟩
set_option maxHeartbeats 1000000 in
theorem offersByPlace_c (b nn : Nat) (l : List EO) (hN : l.length ≤ 12) (W : World) (hM : MapO W b l nn)
    (hnd : (l.map EO.b).Nodup) (hlt : ∀ e ∈ l, e.b < nn) (hk : (l.map EO.k).Nodup) (hr : l.Pairwise (fun a b => a.v < b.v)) :
    Calls Tryz.prog 36 #[.map (some b)] W fun e w' => ∃ v, e = .returned v ∧ SlO w' W.heap.size v (l.map EO.k) ∧ Below W.heap.size W w' := by
  have M1 := hM.alloc (.cells #[.map (some b)] 54)
  have M2 := M1.alloc (.cells #[.map (some b)] 54)
  have k1 := keysO_c b (W.alloc (.cells #[.map (some b)] 54))
  have e0 : ((W.alloc (.cells #[.map (some b)] 54)).alloc (.cells #[.map (some b)] 54)).cell? ⟨W.heap.size, 0, none⟩ = some (.map (some b)) := by
    rw [Below.cell ((Below.refl _ _).alloc (Nat.le_refl _) _) (by show W.heap.size < _; rw [size_new]; omega)]
    exact cell_new _ _ _ _ _ rfl
  have e1 : ((W.alloc (.cells #[.map (some b)] 54)).alloc (.cells #[.map (some b)] 54)).cell? ⟨(W.alloc (.cells #[.map (some b)] 54)).heap.size, 0, none⟩ = some (.map (some b)) := cell_new _ _ _ _ _ rfl
  rw [size_new] at e1 k1
  have c := sortedFuncO W.heap.size (W.heap.size + 1) b nn l hN _ M2 e0 e1 hnd hlt hk hr
  have A2 : Below W.heap.size W ((W.alloc (.cells #[.map (some b)] 54)).alloc (.cells #[.map (some b)] 54)) := ((Below.refl _ _).alloc (Nat.le_refl _) _).alloc (by rw [size_new]; omega) _
  clear e0 e1 hM M1 M2 hnd hlt hk hr
  go_enter Tryz.func36, Tryz.ntmps36
  go_wp2_with fail
  refine k1.mono ?_
  rintro e w1 ⟨rfl, rfl⟩
  go_wp2_with fail
  refine c.mono ?_
  rintro e w2 ⟨v, rfl, hS, hB⟩
  go_wp2
  go_ret
  exact ⟨v, rfl, hS.mono A2.size, A2.trans (hB.mono A2.size)⟩
end Go.Proofs.YtmfdggaijbcijaaGreat
end

/- AccPlain -/
/- Facts for AcceptPact: the map of offers' places behind deletes, and a state's offers laid anew. No condition. -/
section
namespace Go.Proofs.YtmfdggaijbcijaaGreat
open Go.ChangeShapes Go.WideShapes Go.ChangeAt Go.RowKit
set_option linter.unusedVariables false

theorem K2.b_sym (x y : K2) : x.b y = y.b x := by
  unfold K2.b
  rw [Bool.eq_iff_iff]
  simp
  constructor <;> rintro ⟨h1, h2⟩ <;> exact ⟨h1.symm, h2.symm⟩
theorem K2.b_ne {x y : K2} (h : x ≠ y) : x.b y = false := by
  cases hb : x.b y
  · rfl
  · exact absurd (K2.b_eq hb) h
theorem entO_keys : ∀ (l : List K2) (j : Nat), (entO j l).map EO.k = l
  | [], _ => rfl
  | k :: r, j => by simp [entO, entO_keys r (j + 1)]
theorem entO_b : ∀ (l : List K2) (j : Nat) (e : EO), e ∈ entO j l → j ≤ e.b ∧ e.b < j + l.length ∧ e.v = (e.b : Int)
  | k :: r, j, e, h => by
    unfold entO at h
    rcases List.mem_cons.1 h with rfl | h
    · simp
    · have := entO_b r (j + 1) e h
      simp; omega
theorem entO_rise : ∀ (l : List K2) (j : Nat), (entO j l).Pairwise (fun a b => a.b < b.b ∧ a.v < b.v)
  | [], _ => List.Pairwise.nil
  | k :: r, j => by
    unfold entO
    refine List.pairwise_cons.2 ⟨fun e he => ?_, entO_rise r (j + 1)⟩
    have := entO_b r (j + 1) e he
    simp; omega
/- what is asked of entries whose offers are sorted by place -/
structure GoodO (l : List EO) (n : Nat) : Prop where
  nb : (l.map EO.b).Nodup
  lt : ∀ e ∈ l, e.b < n
  nk : (l.map EO.k).Nodup
  rv : l.Pairwise (fun a b => a.v < b.v)
theorem GoodO.ent {l : List K2} (h : l.Nodup) : GoodO (entO 0 l) l.length := by
  refine ⟨?_, fun e he => by have := entO_b l 0 e he; omega, by rw [entO_keys]; exact h, (entO_rise l 0).imp (fun h => h.2)⟩
  rw [List.nodup_iff_pairwise_ne, List.pairwise_map]
  exact (entO_rise l 0).imp (fun {a b} h => by have := h.1; omega)
theorem GoodO.filter {l : List EO} {n : Nat} (h : GoodO l n) (p : EO → Bool) : GoodO (l.filter p) n :=
  ⟨h.nb.sublist (List.Sublist.map _ List.filter_sublist), fun e he => h.lt e (List.mem_filter.1 he).1, h.nk.sublist (List.Sublist.map _ List.filter_sublist), h.rv.filter p⟩
theorem GoodO.kp {l : List EO} {n : Nat} (h : GoodO l n) : l.Pairwise (fun a b => a.k.b b.k = false) := by
  have := h.nk
  rw [List.nodup_iff_pairwise_ne, List.pairwise_map] at this
  exact this.imp (fun h => K2.b_ne h)
def kx (k : K2) (e : EO) : Bool := !k.b e.k
theorem run_delO' {w : World} {b n : Nat} {l : List EO} (h : MapO w b l n) (k : K2) (ty : TypeId) (hg : GoodO l n) :
    (Builtin.delete_ #[54, 49] ty #[.map (some b), .agg k.v]).run Tryz.prog w = .ok (.tuple #[]) (w.putObj b (.map ((l.filter (kx k)).map EO.m).toArray n)) := by
  rw [run_delO h k ty]
  have := fndO_del (k := k) (j := 0) hg.kp
  cases hf : fndO k l 0 with
  | none => rw [hf] at this; simp only at this ⊢; rw [show l.filter (kx k) = l from this.symm]
  | some x => obtain ⟨i, v⟩ := x; rw [hf] at this; simp only at this ⊢; rw [show l.filter (kx k) = l.eraseIdx i from this.2.symm]
theorem keys_left (oo : List K2) (a b : Int) : (((entO 0 oo).filter (kx ⟨a, b⟩)).filter (kx ⟨b, a⟩)).map EO.k = oo.filter (notP a b) := by
  rw [List.filter_filter]
  have h1 : oo.filter (notP a b) = ((entO 0 oo).map EO.k).filter (notP a b) := by rw [entO_keys]
  rw [h1, List.filter_map]
  congr 1
  apply List.filter_congr
  intro e _
  unfold kx notP
  rw [Function.comp_apply, K2.b_sym e.k, K2.b_sym e.k]
  cases K2.b ⟨a, b⟩ e.k <;> cases K2.b ⟨b, a⟩ e.k <;> rfl
theorem found_mem (oo : List K2) (k : K2) : (fndO k (entO 0 oo) 0).isSome = memO oo k := by
  rw [fndO_ent, Bool.eq_iff_iff, memO_iff, List.any_eq_true]
  constructor
  · rintro ⟨x, hx, hb⟩
    rw [K2.b_eq hb]; exact hx
  · intro h
    exact ⟨k, h, K2.b_self k⟩
theorem MapO.setCell {w : World} {b n : Nat} {l : List EO} (h : MapO w b l n) {a : Addr} (hne : b ≠ a.block) (v : Value) : MapO (w.setCell a v) b l n := (Below.heap_setCell _ _ _ _ hne).trans h
theorem OwW.ext {w w' : World} {base : Nat} {p : WP} {x : KW} (h : OwW w base p x) (he : ∀ q, base ≤ q → w'.heap[q]? = w.heap[q]?) : OwW w' base p x :=
  ⟨h.u.of_block fun b hb => he b (h.u.lt b hb).1, h.f.of_block fun b hb => he b (h.f.lt b hb).1, h.a.of_block fun b hb => he b (h.a.lt b hb).1, h.s.of_block fun b hb => he b (h.s.lt b hb).1, h.o.of_block fun b hb => he b (h.o.lt b hb).1⟩
theorem WS.putObj {w : World} {base g b : Nat} {p : WP} {x : KW} (h : WS w base g p x) (hb : b < base) (o : Obj) : WS (w.putObj b o) base g p x :=
  ⟨(World.putObj_heap_other (by have := h.bg; omega)).trans h.b, h.o.ext fun q hq => World.putObj_heap_other (by omega), h.bg⟩
theorem WS.putO {w : World} {base g : Nat} {p : WP} {x : KW} (h : WS w base g p x) {a : Option Addr} {c : Nat} {l : List K2} (hO : SlO w base (.slice a l.length c) l) :
    WS (w.setCell ⟨g, 6, none⟩ (.slice a l.length c)) base g ⟨p.u, p.uc, p.f, p.fc, p.a, p.ac, p.s, p.sc, a, c⟩ ⟨x.t, x.s, x.us, x.fs, x.fa, x.se, l⟩ :=
  ⟨h.b.set 6 (.slice a l.length c), ⟨h.o.u.setB h.b (by decide) _, h.o.f.setB h.b (by decide) _, h.o.a.setB h.b (by decide) _, h.o.s.setB h.b (by decide) _, hO.setB h.b (by decide) _⟩, h.bg⟩
theorem oo_nodup {h : Int → Int → Bool} {x : KW} (g : GdW h x) : x.oo.Nodup := (ndF_iff.1 (ofF_iff.1 g.oo).1).1
end Go.Proofs.YtmfdggaijbcijaaGreat
end
