/- Contracts of SameWorlds and of its model. Condition: the lists have at most 1048576 members together. -/
import Derived.Test.YtibkdkjcncfmgabSameW
import Derived.Test.YtibkdkjcncfmgabLater
namespace Go.Proofs.Ytibkdkjcncfmgab
open Go.ChangeShapes Go.WideShapes Go.ChangeAt Go.RowKit
set_option linter.unusedVariables false

def sameW (x y : KW) : Bool := (x.t == y.t) && ((x.s == y.s) && ((allU x.us y.us && allF x.fs y.fs) && (allA x.fa y.fa && (allS x.se y.se && allO x.oo y.oo))))
theorem sw_cases (x y : KW) :
    ((x.t == y.t) = false ∧ sameW x y = false) ∨ ((x.t == y.t) = true ∧ (x.s == y.s) = false ∧ sameW x y = false) ∨
    ((x.t == y.t) = true ∧ (x.s == y.s) = true ∧ (allU x.us y.us && allF x.fs y.fs) = false ∧ sameW x y = false) ∨
    ((x.t == y.t) = true ∧ (x.s == y.s) = true ∧ (allU x.us y.us && allF x.fs y.fs) = true ∧ sameW x y = (allA x.fa y.fa && (allS x.se y.se && allO x.oo y.oo))) := by
  unfold sameW
  cases x.t == y.t <;> cases x.s == y.s <;> cases (allU x.us y.us && allF x.fs y.fs) <;> simp
theorem bne_f {x y : Int} (h : (x == y) = true) : (x != y) = false := by simp only [bne, h]; rfl
theorem bne_t {x y : Int} (h : (x == y) = false) : (x != y) = true := by simp only [bne, h]; rfl
structure At7 (w : World) (g : Nat) (t s : Int) (vu vf va vs vo : Value) : Prop where
  c0 : w.cell? ⟨g, 0, none⟩ = some (.int .i64 t)
  c1 : w.cell? ⟨g, 1, none⟩ = some (.int .i64 s)
  c2 : w.cell? ⟨g, 2, none⟩ = some vu
  c3 : w.cell? ⟨g, 3, none⟩ = some vf
  c4 : w.cell? ⟨g, 4, none⟩ = some va
  c5 : w.cell? ⟨g, 5, none⟩ = some vs
  c6 : w.cell? ⟨g, 6, none⟩ = some vo
  lt : g < w.heap.size
theorem At7.later {w w' : World} {g : Nat} {t s : Int} {vu vf va vs vo : Value} (h : At7 w g t s vu vf va vs vo) (hb : Below w.heap.size w w') : At7 w' g t s vu vf va vs vo :=
  ⟨by rw [hb.cell h.lt]; exact h.c0, by rw [hb.cell h.lt]; exact h.c1, by rw [hb.cell h.lt]; exact h.c2, by rw [hb.cell h.lt]; exact h.c3, by rw [hb.cell h.lt]; exact h.c4, by rw [hb.cell h.lt]; exact h.c5, by rw [hb.cell h.lt]; exact h.c6, Nat.lt_of_lt_of_le h.lt hb.size⟩
theorem At7.new (w : World) (t s : Int) (vu vf va vs vo : Value) (ty : TypeId) : At7 (w.alloc (.cells #[.int .i64 t, .int .i64 s, vu, vf, va, vs, vo] ty)) w.heap.size t s vu vf va vs vo :=
  ⟨cell_new _ _ _ _ _ rfl, cell_new _ _ _ _ _ rfl, cell_new _ _ _ _ _ rfl, cell_new _ _ _ _ _ rfl, cell_new _ _ _ _ _ rfl, cell_new _ _ _ _ _ rfl, cell_new _ _ _ _ _ rfl, by rw [size_new]; omega⟩
set_option maxRecDepth 20000 in
set_option maxHeartbeats 8000000 in
theorem l6Same_c (p q : Nat) (gu gf ga gs go hu hf ha hs ho mu mf ma ms mo nu nf na ns no : Nat) (x y : KW) (w : World) (lu : x.us.length = mu) (lf : x.fs.length = mf) (la : x.fa.length = ma) (ls : x.se.length = ms) (lo : x.oo.length = mo) (ku : y.us.length = nu) (kf : y.fs.length = nf) (ka : y.fa.length = na) (ks : y.se.length = ns) (ko : y.oo.length = no)
    (hm : x.n ≤ 1048576) (hn : y.n ≤ 1048576) (P : At7 w p x.t x.s (.slice (some ⟨gu, 0, none⟩) mu mu) (.slice (some ⟨gf, 0, none⟩) mf mf) (.slice (some ⟨ga, 0, none⟩) ma ma) (.slice (some ⟨gs, 0, none⟩) ms ms) (.slice (some ⟨go, 0, none⟩) mo mo)) (Q : At7 w q y.t y.s (.slice (some ⟨hu, 0, none⟩) nu nu) (.slice (some ⟨hf, 0, none⟩) nf nf) (.slice (some ⟨ha, 0, none⟩) na na) (.slice (some ⟨hs, 0, none⟩) ns ns) (.slice (some ⟨ho, 0, none⟩) no no))
    (hgs : gu < w.heap.size ∧ gf < w.heap.size ∧ ga < w.heap.size ∧ gs < w.heap.size ∧ go < w.heap.size) (hhs : hu < w.heap.size ∧ hf < w.heap.size ∧ ha < w.heap.size ∧ hs < w.heap.size ∧ ho < w.heap.size)
    (u1 : UAt w gu 0 x.us) (f1 : FAt w gf 0 x.fs) (a1 : AAt w ga 0 x.fa) (s1 : SAt w gs 0 x.se) (o1 : OAt w go 0 x.oo) (u2 : UAt w hu 0 y.us) (f2 : FAt w hf 0 y.fs) (a2 : AAt w ha 0 y.fa) (s2 : SAt w hs 0 y.se) (o2 : OAt w ho 0 y.oo) :
    Calls Try.prog 13 #[.pointer (some ⟨p, 0, none⟩), .pointer (some ⟨q, 0, none⟩)] w fun e w' => e = .returned (.bool (sameW x y)) ∧ Below w.heap.size w w' := by
  unfold KW.n at hm hn
  have hb4 : mu ≤ 1048576 ∧ mf ≤ 1048576 ∧ ma ≤ 1048576 ∧ ms ≤ 1048576 ∧ mo ≤ 1048576 ∧ nu ≤ 1048576 ∧ nf ≤ 1048576 ∧ na ≤ 1048576 ∧ ns ≤ 1048576 ∧ no ≤ 1048576 := ⟨by omega, by omega, by omega, by omega, by omega, by omega, by omega, by omega, by omega, by omega⟩
  have cL : ∀ n : Later w, Calls Try.prog 28 #[.pointer (some ⟨p, 2, none⟩), .pointer (some ⟨q, 2, none⟩)] n.at fun e w' => e = .returned (.bool (allU x.us y.us && allF x.fs y.fs)) ∧ Below n.at.heap.size n.at w' := fun n => by
    have P1 := P.later n.bel
    have Q1 := Q.later n.bel
    refine (l4Same2_c p q gu 0 mu gf 0 mf hu 0 nu hf 0 nf mu mf nu nf x.us x.fs y.us y.fs lu lf ku kf n.at hb4.1 hb4.2.1 hb4.2.2.2.2.2.1 hb4.2.2.2.2.2.2.1 ⟨P1.c2, P1.c3, P1.lt⟩ ⟨Q1.c2, Q1.c3, Q1.lt⟩ (u1.later hgs.1 n.bel) (f1.later hgs.2.1 n.bel) (u2.later hhs.1 n.bel) (f2.later hhs.2.1 n.bel)).mono ?_
    rintro e w' ⟨he, nq, rfl⟩
    exact ⟨he, below_drewN _ _⟩
  have HP : Hid (At7 w p x.t x.s (.slice (some ⟨gu, 0, none⟩) mu mu) (.slice (some ⟨gf, 0, none⟩) mf mf) (.slice (some ⟨ga, 0, none⟩) ma ma) (.slice (some ⟨gs, 0, none⟩) ms ms) (.slice (some ⟨go, 0, none⟩) mo mo)) := P
  have HQ : Hid (At7 w q y.t y.s (.slice (some ⟨hu, 0, none⟩) nu nu) (.slice (some ⟨hf, 0, none⟩) nf nf) (.slice (some ⟨ha, 0, none⟩) na na) (.slice (some ⟨hs, 0, none⟩) ns ns) (.slice (some ⟨ho, 0, none⟩) no no)) := Q
  obtain ⟨p0, p1, p2, p3, p4, p5, p6, pl⟩ := P
  obtain ⟨q0, q1, q2, q3, q4, q5, q6, ql⟩ := Q
  have P0 := fun n => Later.cell pl p0 n
  have P1 := fun n => Later.cell pl p1 n
  have P2 := fun n => Later.cell pl p2 n
  have P3 := fun n => Later.cell pl p3 n
  have P4 := fun n => Later.cell pl p4 n
  have P5 := fun n => Later.cell pl p5 n
  have P6 := fun n => Later.cell pl p6 n
  have Q0 := fun n => Later.cell ql q0 n
  have Q1 := fun n => Later.cell ql q1 n
  have Q2 := fun n => Later.cell ql q2 n
  have Q3 := fun n => Later.cell ql q3 n
  have Q4 := fun n => Later.cell ql q4 n
  have Q5 := fun n => Later.cell ql q5 n
  have Q6 := fun n => Later.cell ql q6 n
  rcases sw_cases x y with ⟨e1, e⟩ | ⟨e1, e2, e⟩ | ⟨e1, e2, e3, e⟩ | ⟨e1, e2, e3, e⟩
  · rw [e]
    have n1 := bne_t e1
    clear e e1
    go_enter Try.func13, Try.ntmps13
    go_wp2_with fail
    simp only [List.append]
    refine wp_region_later (by kernel_rfl) (by kernel_rfl) (fun hne => ?_)
    repeat (go_big_quiet_step (first | (go_at_call 28; exact Later.call (cL _))))
    refine wpQuiet_nil ?_
    rintro _ ⟨nn, rfl⟩
    clear P0 P1 P2 P3 P4 P5 P6 Q0 Q1 Q2 Q3 Q4 Q5 Q6 hne cL
    go_wp2_with fail
    go_ret
    exact ⟨rfl, nn.bel⟩
  · rw [e]
    have n1 := bne_f e1
    have n2 := bne_t e2
    clear e e1 e2
    go_enter Try.func13, Try.ntmps13
    go_wp2_with fail
    simp only [List.append]
    refine wp_region_later (by kernel_rfl) (by kernel_rfl) (fun hne => ?_)
    repeat (go_big_quiet_step (first | (go_at_call 28; exact Later.call (cL _))))
    refine wpQuiet_nil ?_
    rintro _ ⟨nn, rfl⟩
    clear P0 P1 P2 P3 P4 P5 P6 Q0 Q1 Q2 Q3 Q4 Q5 Q6 hne cL
    go_wp2_with fail
    go_ret
    exact ⟨rfl, nn.bel⟩
  · rw [e]
    rw [e3] at cL
    have n1 := bne_f e1
    have n2 := bne_f e2
    clear e e1 e2 e3
    go_enter Try.func13, Try.ntmps13
    go_wp2_with fail
    simp only [List.append]
    refine wp_region_later (by kernel_rfl) (by kernel_rfl) (fun hne => ?_)
    repeat (go_big_quiet_step (first | (go_at_call 28; exact Later.call (cL _))))
    refine wpQuiet_nil ?_
    rintro _ ⟨nn, rfl⟩
    clear P0 P1 P2 P3 P4 P5 P6 Q0 Q1 Q2 Q3 Q4 Q5 Q6 hne cL
    go_wp2_with fail
    go_ret
    exact ⟨rfl, nn.bel⟩
  · rw [e]
    rw [e3] at cL
    have n1 := bne_f e1
    have n2 := bne_f e2
    clear e e1 e2 e3
    by_cases da : ma = na
    · by_cases ds : ms = ns
      · by_cases dd : mo = no
        · subst da ds dd
          have n4 : ((ma : Int) != (ma : Int)) = false := by simp
          have n5 : ((ms : Int) != (ms : Int)) = false := by simp
          have n6 : ((mo : Int) != (mo : Int)) = false := by simp
          have Ka : Hid (AAt w ga 0 x.fa) := a1
          have Ka2 : Hid (AAt w ha 0 y.fa) := a2
          have Ks : Hid (SAt w gs 0 x.se) := s1
          have Ks2 : Hid (SAt w hs 0 y.se) := s2
          have Ko : Hid (OAt w go 0 x.oo) := o1
          have Ko2 : Hid (OAt w ho 0 y.oo) := o2
          have Hla : Hid (x.fa.length = ma) := la
          have Hka : Hid (y.fa.length = ma) := ka
          have Hls : Hid (x.se.length = ms) := ls
          have Hks : Hid (y.se.length = ms) := ks
          have Hlo : Hid (x.oo.length = mo) := lo
          have Hko : Hid (y.oo.length = mo) := ko
          have bma : ma ≤ 1048576 := hb4.2.2.1
          have bms : ms ≤ 1048576 := hb4.2.2.2.1
          have bmo : mo ≤ 1048576 := hb4.2.2.2.2.1
          have Hgs : Hid (gu < w.heap.size ∧ gf < w.heap.size ∧ ga < w.heap.size ∧ gs < w.heap.size ∧ go < w.heap.size) := hgs
          have Hhs : Hid (hu < w.heap.size ∧ hf < w.heap.size ∧ ha < w.heap.size ∧ hs < w.heap.size ∧ ho < w.heap.size) := hhs
          obtain ⟨R, HR⟩ : ∃ R : Bool, Hid (R = (allA x.fa y.fa && (allS x.se y.se && allO x.oo y.oo))) := ⟨_, rfl⟩
          rw [← HR.out]
          have HR0 : Hid (R = (allA (x.fa.drop 0) (y.fa.drop 0) && (allS x.se y.se && allO x.oo y.oo))) := HR
          clear u1 u2 f1 f2 a1 a2 s1 s2 o1 o2 lu lf la ls lo ku kf ka ks ko hm hn hb4 hgs hhs
          go_enter Try.func13, Try.ntmps13
          go_wp2_with fail
          simp only [List.append]
          refine wp_region_later (by kernel_rfl) (by kernel_rfl) (fun hne => ?_)
          repeat (go_big_quiet_step (first | (go_at_call 28; exact Later.call (cL _))))
          refine wpQuiet_nil ?_
          rintro _ ⟨nn, rfl⟩
          clear P0 P1 P2 P3 P4 P5 P6 Q0 Q1 Q2 Q3 Q4 Q5 Q6 hne cL
          go_wp2_with fail
          go_loopw [5] (fun i wr => ∃ k : Nat, k ≤ ma ∧ i = .int .i64 k ∧ Hid (R = (allA (x.fa.drop k) (y.fa.drop k) && (allS x.se y.se && allO x.oo y.oo))) ∧ Below w.heap.size w wr) (fun i _ => ma - (intOf i).toNat)
          case atStart => exact ⟨0, Nat.zero_le _, rfl, HR0, nn.bel⟩
          case round =>
            obtain ⟨k, hk, rfl, Hk, hbel⟩ := hrel
            obtain ⟨p0, p1, p2, p3, p4, p5, p6, pl⟩ := HP.out.later hbel
            obtain ⟨q0, q1, q2, q3, q4, q5, q6, ql⟩ := HQ.out.later hbel
            by_cases hlt : k < ma
            · have hlt' : (k : Int) < (ma : Int) := by omega
              obtain ⟨z, hz⟩ : ∃ z, x.fa[k]? = some z := ⟨_, List.getElem?_eq_getElem (by have := Hla.out; omega)⟩
              obtain ⟨v, hv⟩ : ∃ v, y.fa[k]? = some v := ⟨_, List.getElem?_eq_getElem (by have := Hka.out; omega)⟩
              obtain ⟨a0, a1, a2⟩ := (Ka.out.later Hgs.out.2.2.1 hbel).all hz
              obtain ⟨b0, b1, b2⟩ := (Ka2.out.later Hhs.out.2.2.1 hbel).all hv
              simp only [Nat.zero_add] at a0 b0 a1 b1 a2 b2
              have lg : ga < wr.heap.size := Nat.lt_of_lt_of_le Hgs.out.2.2.1 hbel.size
              have lh : ha < wr.heap.size := Nat.lt_of_lt_of_le Hhs.out.2.2.1 hbel.size
              have hne := neqA z v
              have HS : Hid (R = (z.b v && (allA (x.fa.drop (k + 1)) (y.fa.drop (k + 1)) && (allS x.se y.se && allO x.oo y.oo)))) := by show _ = _; rw [Hk.out, allA_step hz hv]; rw [Bool.and_assoc]
              clear hz hv
              cases hq : z.b v
              · have HE : Hid (R = false) := by show _ = _; rw [HS.out, hq]; rfl
                go_wp2
                go_quiet (fail)
                go_wp2
                go_ret
                exact ⟨by rw [HE.out]; rfl, hbel.trans ((below_drewN _ _).mono hbel.size)⟩
              · have HE : Hid (R = (allA (x.fa.drop (k + 1)) (y.fa.drop (k + 1)) && (allS x.se y.se && allO x.oo y.oo))) := by show _ = _; rw [HS.out, hq]; rfl
                go_wp2
                go_quiet (fail)
                go_wp2
                go_roundw
                case rel => exact ⟨k + 1, by omega, by go_num, HE, hbel.trans ((below_drewN _ _).mono hbel.size)⟩
                case measure => simp [intOf]; omega
            · obtain rfl : ma = k := by omega
              have HR0 : Hid (R = (allS (x.se.drop 0) (y.se.drop 0) && allO x.oo y.oo)) := by show _ = _; rw [Hk.out, List.drop_of_length_le (by have := Hla.out; omega), List.drop_of_length_le (by have := Hka.out; omega)]; rfl
              clear Hk
              go_wp2_with fail
              go_loopw [6] (fun i wr => ∃ k : Nat, k ≤ ms ∧ i = .int .i64 k ∧ Hid (R = (allS (x.se.drop k) (y.se.drop k) && allO x.oo y.oo)) ∧ Below w.heap.size w wr) (fun i _ => ms - (intOf i).toNat)
              case atStart => exact ⟨0, Nat.zero_le _, rfl, HR0, hbel⟩
              case round =>
                obtain ⟨k, hk, rfl, Hk, hbel⟩ := hrel
                obtain ⟨p0, p1, p2, p3, p4, p5, p6, pl⟩ := HP.out.later hbel
                obtain ⟨q0, q1, q2, q3, q4, q5, q6, ql⟩ := HQ.out.later hbel
                by_cases hlt : k < ms
                · have hlt' : (k : Int) < (ms : Int) := by omega
                  obtain ⟨z, hz⟩ : ∃ z, x.se[k]? = some z := ⟨_, List.getElem?_eq_getElem (by have := Hls.out; omega)⟩
                  obtain ⟨v, hv⟩ : ∃ v, y.se[k]? = some v := ⟨_, List.getElem?_eq_getElem (by have := Hks.out; omega)⟩
                  obtain ⟨a0, a1, a2, a3⟩ := (Ks.out.later Hgs.out.2.2.2.1 hbel).all hz
                  obtain ⟨b0, b1, b2, b3⟩ := (Ks2.out.later Hhs.out.2.2.2.1 hbel).all hv
                  simp only [Nat.zero_add] at a0 b0 a1 b1 a2 b2 a3 b3
                  have lg : gs < wr.heap.size := Nat.lt_of_lt_of_le Hgs.out.2.2.2.1 hbel.size
                  have lh : hs < wr.heap.size := Nat.lt_of_lt_of_le Hhs.out.2.2.2.1 hbel.size
                  have hne := neqS z v
                  have HS : Hid (R = (z.b v && (allS (x.se.drop (k + 1)) (y.se.drop (k + 1)) && allO x.oo y.oo))) := by show _ = _; rw [Hk.out, allS_step hz hv]; rw [Bool.and_assoc]
                  clear hz hv
                  cases hq : z.b v
                  · have HE : Hid (R = false) := by show _ = _; rw [HS.out, hq]; rfl
                    go_wp2
                    go_quiet (fail)
                    go_wp2
                    go_ret
                    exact ⟨by rw [HE.out]; rfl, hbel.trans ((below_drewN _ _).mono hbel.size)⟩
                  · have HE : Hid (R = (allS (x.se.drop (k + 1)) (y.se.drop (k + 1)) && allO x.oo y.oo)) := by show _ = _; rw [HS.out, hq]; rfl
                    go_wp2
                    go_quiet (fail)
                    go_wp2
                    go_roundw
                    case rel => exact ⟨k + 1, by omega, by go_num, HE, hbel.trans ((below_drewN _ _).mono hbel.size)⟩
                    case measure => simp [intOf]; omega
                · obtain rfl : ms = k := by omega
                  have HR0 : Hid (R = (allO (x.oo.drop 0) (y.oo.drop 0))) := by show _ = _; rw [Hk.out, List.drop_of_length_le (by have := Hls.out; omega), List.drop_of_length_le (by have := Hks.out; omega)]; rfl
                  clear Hk
                  go_wp2_with fail
                  go_loopw [7] (fun i wr => ∃ k : Nat, k ≤ mo ∧ i = .int .i64 k ∧ Hid (R = (allO (x.oo.drop k) (y.oo.drop k))) ∧ Below w.heap.size w wr) (fun i _ => mo - (intOf i).toNat)
                  case atStart => exact ⟨0, Nat.zero_le _, rfl, HR0, hbel⟩
                  case round =>
                    obtain ⟨k, hk, rfl, Hk, hbel⟩ := hrel
                    obtain ⟨p0, p1, p2, p3, p4, p5, p6, pl⟩ := HP.out.later hbel
                    obtain ⟨q0, q1, q2, q3, q4, q5, q6, ql⟩ := HQ.out.later hbel
                    by_cases hlt : k < mo
                    · have hlt' : (k : Int) < (mo : Int) := by omega
                      obtain ⟨z, hz⟩ : ∃ z, x.oo[k]? = some z := ⟨_, List.getElem?_eq_getElem (by have := Hlo.out; omega)⟩
                      obtain ⟨v, hv⟩ : ∃ v, y.oo[k]? = some v := ⟨_, List.getElem?_eq_getElem (by have := Hko.out; omega)⟩
                      obtain ⟨a0, a1⟩ := (Ko.out.later Hgs.out.2.2.2.2 hbel).all hz
                      obtain ⟨b0, b1⟩ := (Ko2.out.later Hhs.out.2.2.2.2 hbel).all hv
                      simp only [Nat.zero_add] at a0 b0 a1 b1
                      have lg : go < wr.heap.size := Nat.lt_of_lt_of_le Hgs.out.2.2.2.2 hbel.size
                      have lh : ho < wr.heap.size := Nat.lt_of_lt_of_le Hhs.out.2.2.2.2 hbel.size
                      have hne := neqO z v
                      have HS : Hid (R = (z.b v && (allO (x.oo.drop (k + 1)) (y.oo.drop (k + 1))))) := by show _ = _; rw [Hk.out, allO_step hz hv]
                      clear hz hv
                      cases hq : z.b v
                      · have HE : Hid (R = false) := by show _ = _; rw [HS.out, hq]; rfl
                        go_wp2
                        go_quiet (fail)
                        go_wp2
                        go_ret
                        exact ⟨by rw [HE.out]; rfl, hbel.trans ((below_drewN _ _).mono hbel.size)⟩
                      · have HE : Hid (R = (allO (x.oo.drop (k + 1)) (y.oo.drop (k + 1)))) := by show _ = _; rw [HS.out, hq]; rfl
                        go_wp2
                        go_quiet (fail)
                        go_wp2
                        go_roundw
                        case rel => exact ⟨k + 1, by omega, by go_num, HE, hbel.trans ((below_drewN _ _).mono hbel.size)⟩
                        case measure => simp [intOf]; omega
                    · obtain rfl : mo = k := by omega
                      have HE : Hid (R = true) := by show _ = _; rw [Hk.out, List.drop_of_length_le (by have := Hlo.out; omega), List.drop_of_length_le (by have := Hko.out; omega)]; rfl
                      go_wp2
                      go_ret
                      exact ⟨by rw [HE.out]; rfl, hbel⟩
        · rw [allO_ne x.oo y.oo (by omega), Bool.and_false, Bool.and_false]
          subst da ds
          have n4 : ((ma : Int) != (ma : Int)) = false := by simp
          have n5 : ((ms : Int) != (ms : Int)) = false := by simp
          have n6 : ((mo : Int) != (no : Int)) = true := by simp; omega
          go_enter Try.func13, Try.ntmps13
          go_wp2_with fail
          simp only [List.append]
          refine wp_region_later (by kernel_rfl) (by kernel_rfl) (fun hne => ?_)
          repeat (go_big_quiet_step (first | (go_at_call 28; exact Later.call (cL _))))
          refine wpQuiet_nil ?_
          rintro _ ⟨nn, rfl⟩
          clear P0 P1 P2 P3 P4 P5 P6 Q0 Q1 Q2 Q3 Q4 Q5 Q6 hne cL
          go_wp2_with fail
          go_ret
          exact ⟨rfl, nn.bel⟩
      · rw [allS_ne x.se y.se (by omega), Bool.false_and, Bool.and_false]
        subst da
        have n4 : ((ma : Int) != (ma : Int)) = false := by simp
        have n5 : ((ms : Int) != (ns : Int)) = true := by simp; omega
        go_enter Try.func13, Try.ntmps13
        go_wp2_with fail
        simp only [List.append]
        refine wp_region_later (by kernel_rfl) (by kernel_rfl) (fun hne => ?_)
        repeat (go_big_quiet_step (first | (go_at_call 28; exact Later.call (cL _))))
        refine wpQuiet_nil ?_
        rintro _ ⟨nn, rfl⟩
        clear P0 P1 P2 P3 P4 P5 P6 Q0 Q1 Q2 Q3 Q4 Q5 Q6 hne cL
        go_wp2_with fail
        go_ret
        exact ⟨rfl, nn.bel⟩
    · rw [allA_ne x.fa y.fa (by omega), Bool.false_and]
      have n4 : ((ma : Int) != (na : Int)) = true := by simp; omega
      go_enter Try.func13, Try.ntmps13
      go_wp2_with fail
      simp only [List.append]
      refine wp_region_later (by kernel_rfl) (by kernel_rfl) (fun hne => ?_)
      repeat (go_big_quiet_step (first | (go_at_call 28; exact Later.call (cL _))))
      refine wpQuiet_nil ?_
      rintro _ ⟨nn, rfl⟩
      clear P0 P1 P2 P3 P4 P5 P6 Q0 Q1 Q2 Q3 Q4 Q5 Q6 hne cL
      go_wp2_with fail
      go_ret
      exact ⟨rfl, nn.bel⟩
end Go.Proofs.Ytibkdkjcncfmgab
