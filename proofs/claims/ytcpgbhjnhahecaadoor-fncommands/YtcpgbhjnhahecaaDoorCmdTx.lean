/- The contracts of CommandText and of its model. Conditions: for the program's own: its tables of counts and of texts and the library's table of powers hold what their initialisers lay. -/
import Derived.Test.YtcpgbhjnhahecaaDoorPacks
import Derived.Test.YtcpgbhjnhahecaaDoorDigits
import Derived.Test.YtcpgbhjnhahecaaDoorShelf
import Derived.Lib.AppendIntMem
namespace Go.Proofs.YtcpgbhjnhahecaaDoor
open Go.ChangeShapes Go.WideShapes Go.ChangeAt Go.RowKit
open Cm
set_option linter.unusedVariables false

theorem cat (x y : List UInt8) : (⟨x.toArray⟩ : ByteArray) ++ (⟨y.toArray⟩ : ByteArray) = ⟨(x ++ y).toArray⟩ := ByteArray.mk_append_mk x y
theorem size_mk (x : List UInt8) : (⟨x.toArray⟩ : ByteArray).size = x.length := by simp [ByteArray.size]
/- the word of a kind -/
def kw (k : Int) : List UInt8 := if k = 1 then [109, 111, 118, 101] else if k = 2 then [104, 97, 114, 118, 101, 115, 116] else if k = 3 then [97, 116, 116, 97, 99, 107] else if k = 4 then [116, 114, 105, 98, 117, 116, 101] else if k = 5 then [103, 105, 102, 116] else if k = 6 then [111, 102, 102, 101, 114] else if k = 7 then [97, 99, 99, 101, 112, 116] else if k = 8 then [98, 114, 101, 97, 107] else if k = 9 then [109, 97, 115, 107] else if k = 10 then [115, 117, 114, 114, 101, 110, 100, 101, 114] else [108, 101, 97, 118, 101]
theorem kw_cases {k : Int} (h1 : 1 ≤ k) (h2 : k ≤ 11) : (k = 1 ∧ kw k = [109, 111, 118, 101]) ∨ (k = 2 ∧ kw k = [104, 97, 114, 118, 101, 115, 116]) ∨ (k = 3 ∧ kw k = [97, 116, 116, 97, 99, 107]) ∨ (k = 4 ∧ kw k = [116, 114, 105, 98, 117, 116, 101]) ∨ (k = 5 ∧ kw k = [103, 105, 102, 116]) ∨ (k = 6 ∧ kw k = [111, 102, 102, 101, 114]) ∨ (k = 7 ∧ kw k = [97, 99, 99, 101, 112, 116]) ∨ (k = 8 ∧ kw k = [98, 114, 101, 97, 107]) ∨ (k = 9 ∧ kw k = [109, 97, 115, 107]) ∨ (k = 10 ∧ kw k = [115, 117, 114, 114, 101, 110, 100, 101, 114]) ∨ (k = 11 ∧ kw k = [108, 101, 97, 118, 101]) := by
  have h : k = 1 ∨ k = 2 ∨ k = 3 ∨ k = 4 ∨ k = 5 ∨ k = 6 ∨ k = 7 ∨ k = 8 ∨ k = 9 ∨ k = 10 ∨ k = 11 := by omega
  rcases h with rfl | rfl | rfl | rfl | rfl | rfl | rfl | rfl | rfl | rfl | rfl <;> simp [kw]
theorem kw_len {k : Int} (h1 : 1 ≤ k) (h2 : k ≤ 11) : (kw k).length ≤ 9 := by
  rcases kw_cases h1 h2 with ⟨rfl, e⟩ | ⟨rfl, e⟩ | ⟨rfl, e⟩ | ⟨rfl, e⟩ | ⟨rfl, e⟩ | ⟨rfl, e⟩ | ⟨rfl, e⟩ | ⟨rfl, e⟩ | ⟨rfl, e⟩ | ⟨rfl, e⟩ | ⟨rfl, e⟩
  all_goals rw [e]; decide
/- the text with the first j numbers -/
def tx (k : Int) (j : Nat) (a b c : Int) : List UInt8 := kw k ++ ([a, b, c].take j).flatMap fun p => 32 :: Lib.decDigits p.toNat
theorem tx_succ (k : Int) (j : Nat) (hj : j < 3) (a b c : Int) : tx k (j + 1) a b c = tx k j a b c ++ (32 :: Lib.decDigits (([a, b, c] : List Int).getD j 0).toNat) := by
  unfold tx
  match j, hj with
  | 0, _ => simp
  | 1, _ => simp
  | 2, _ => simp
theorem dd_len {x : Int} (h0 : 0 ≤ x) (h1 : x ≤ 1000000) : (Lib.decDigits x.toNat).length ≤ 19 := decDigits_len 18 x.toNat (by omega)
theorem tx_len {k a b c : Int} (h1 : 1 ≤ k) (h2 : k ≤ 11) (a0 : 0 ≤ a ∧ a ≤ 1000000) (b0 : 0 ≤ b ∧ b ≤ 1000000) (c0 : 0 ≤ c ∧ c ≤ 1000000) (j : Nat) (hj : j ≤ 3) : (tx k j a b c).length ≤ 9 + 20 * j := by
  have hk := kw_len h1 h2
  have ha := dd_len a0.1 a0.2
  have hb := dd_len b0.1 b0.2
  have hc := dd_len c0.1 c0.2
  unfold tx
  match j, hj with
  | 0, _ => simp; omega
  | 1, _ => simp; omega
  | 2, _ => simp; omega
  | 3, _ => simp; omega

def kwO : Obj := .cells #[.string ⟨#[]⟩, .string ⟨#[109, 111, 118, 101]⟩, .string ⟨#[104, 97, 114, 118, 101, 115, 116]⟩, .string ⟨#[97, 116, 116, 97, 99, 107]⟩, .string ⟨#[116, 114, 105, 98, 117, 116, 101]⟩, .string ⟨#[103, 105, 102, 116]⟩, .string ⟨#[111, 102, 102, 101, 114]⟩, .string ⟨#[97, 99, 99, 101, 112, 116]⟩, .string ⟨#[98, 114, 101, 97, 107]⟩, .string ⟨#[109, 97, 115, 107]⟩, .string ⟨#[115, 117, 114, 114, 101, 110, 100, 101, 114]⟩, .string ⟨#[108, 101, 97, 118, 101]⟩] 9
set_option maxHeartbeats 1000000 in
theorem l3Word_c (k : Int) (h1 : 1 ≤ k) (h2 : k ≤ 11) (w : World) :
    Calls Tryd.prog 37 #[.int .i64 k] w fun e w' => e = .returned (.string ⟨(kw k).toArray⟩) ∧ w' = w.alloc kwO := by
  rcases kw_cases h1 h2 with ⟨rfl, e⟩ | ⟨rfl, e⟩ | ⟨rfl, e⟩ | ⟨rfl, e⟩ | ⟨rfl, e⟩ | ⟨rfl, e⟩ | ⟨rfl, e⟩ | ⟨rfl, e⟩ | ⟨rfl, e⟩ | ⟨rfl, e⟩ | ⟨rfl, e⟩
  all_goals
    rw [e]
    clear e h1 h2
    go_enter Tryd.func37, Tryd.ntmps37
    go_wp2
    go_ret
    exact ⟨rfl, rfl⟩

/- What the program's tables and the library's table of powers hold. -/
structure TxAt (w : World) : Prop where
  pow : Lib.TabIs Tryd.prog w "internal/strconv.uint64pow10" .u64 Lib.pow10Tab
  pcs : PcAt w
  kt : ∀ k : Int, 1 ≤ k → k ≤ 11 → w.cell? ⟨1, k.toNat, none⟩ = some (.string ⟨(kw k).toArray⟩)
  lt : 1 < w.heap.size
theorem TxAt.later {w w' : World} (h : TxAt w) (hb : Below w.heap.size w w') : TxAt w' :=
  ⟨(Lib.tabBelow_of_tabIs h.pow) w' hb, h.pcs.later hb, fun k h1 h2 => by rw [hb.cell h.lt]; exact h.kt k h1 h2, Nat.lt_of_lt_of_le h.lt hb.size⟩
theorem grow_below (w : World) (k : Nat) (os : Array Obj) : Below w.heap.size w (Go.Sort.grow (w.drewN k) os) :=
  ⟨rfl, rfl, rfl, by simp [Go.Sort.grow, World.drewN], fun i hi => by
    show (w.heap ++ os)[i]? = _
    rw [Array.getElem?_append_left hi]⟩
theorem formatInt_c (n : Int) (w : World) (h0 : 0 ≤ n) (h1 : n ≤ 9223372036854775807) (hL : TxAt w) :
    Calls Tryd.prog 35 #[.int .i64 n, .int .i64 10] w fun e w' => e = .returned (.string ⟨(Lib.decDigits n.toNat).toArray⟩) ∧ Below w.heap.size w w' := by
  have c := Tryd.internal_strconv_FormatInt_10 n (by omega) h1 w hL.pow
  rw [show Lib.itoa n = Lib.decDigits n.toNat from by unfold Lib.itoa; rw [if_neg (by omega)]] at c
  go_enter Tryd.func35, Tryd.ntmps35
  go_wp2_with fail
  refine c.mono ?_
  rintro e w1 ⟨rfl, k, os, rfl⟩
  go_wp2_with fail
  go_ret
  exact ⟨rfl, grow_below w k os⟩
theorem param_at' {n : Nat} {a b c : Int} (hn : n < 3) : ∃ x, ([a, b, c] : List Int).getD n 0 = x ∧ (#[Value.int .i64 a, .int .i64 b, .int .i64 c] : Array Value)[n]? = some (.int .i64 x) ∧ (x = a ∨ x = b ∨ x = c) := by
  match n, hn with
  | 0, _ => exact ⟨a, rfl, rfl, .inl rfl⟩
  | 1, _ => exact ⟨b, rfl, rfl, .inr (.inl rfl)⟩
  | 2, _ => exact ⟨c, rfl, rfl, .inr (.inr rfl)⟩

theorem implText_no (cl sq k a b c : Int) (h : (flt cl sq k a b c != 0) = true) (w : World) (hL : PcAt w) :
    Calls Tryd.prog 15 #[.agg (cmdV cl sq k a b c)] w fun e w' => e = .returned (.agg #[.int .i64 (flt cl sq k a b c), .string ⟨#[]⟩]) ∧ Below w.heap.size w w' := by
  have c1 := fun w hL => implCommandFault cl sq k a b c w hL
  generalize flt cl sq k a b c = F at c1 h ⊢
  have A0 : Below w.heap.size w ((w.alloc (.cells (cmdV cl sq k a b c) 26)).alloc (.cells #[.int .i64 0, .string ⟨#[]⟩] 40)) := ((Below.refl w.heap.size w).alloc (Nat.le_refl _) _).alloc (by simp only [size_new]; omega) _
  have R0 := Blk.new (w.alloc (.cells (cmdV cl sq k a b c) 26)) #[.int .i64 0, .string ⟨#[]⟩] 40
  rw [size_new] at R0
  go_enter Tryd.func15, Tryd.ntmps15
  go_wp2_with fail
  refine (c1 _ (hL.later A0)).mono ?_
  rintro e w1 ⟨rfl, b1⟩
  have A1 := A0.trans (b1.mono A0.size)
  have R1 := R0.below b1
  have r0 := R1.cell (i := 0) rfl
  have r1 := R1.cell (i := 1) rfl
  have f0 := R1.frozen 0
  have f1 := R1.frozen 1
  have rl := R1.lt
  go_wp2
  refine bodyPost_ret (v := .agg #[.int .i64 F, .string ⟨#[]⟩]) ?_ rfl ⟨rfl, ?_⟩
  · simp [results, Tryd.results15, go_sem, r0, r1]
    done
  · exact (A1.setCell (by show w.heap.size ≤ w.heap.size + 1; omega) _).setCell (by show w.heap.size ≤ w.heap.size + 1; omega) _
theorem specText_no (cl sq k a b c : Int) (h : (flt cl sq k a b c != 0) = true) (w : World) :
    Calls Tryd.prog 16 #[.agg (cmdV cl sq k a b c)] w fun e w' => e = .returned (.agg #[.int .i64 (flt cl sq k a b c), .string ⟨#[]⟩]) ∧ Below w.heap.size w w' := by
  have A0 : Below w.heap.size w ((w.alloc (.cells (cmdV cl sq k a b c) 26)).alloc (.cells #[.int .i64 0, .string ⟨#[]⟩] 40)) := ((Below.refl w.heap.size w).alloc (Nat.le_refl _) _).alloc (by simp only [size_new]; omega) _
  have R0 := Blk.new (w.alloc (.cells (cmdV cl sq k a b c) 26)) #[.int .i64 0, .string ⟨#[]⟩] 40
  rw [size_new] at R0
  have C0 := (Blk.new w (cmdV cl sq k a b c) 26).alloc (.cells #[.int .i64 0, .string ⟨#[]⟩] 40)
  have c1 := l3Fault_c w.heap.size cl sq k a b c _ C0.cmd
  generalize flt cl sq k a b c = F at c1 h ⊢
  go_enter Tryd.func16, Tryd.ntmps16
  go_wp2_with fail
  refine c1.mono ?_
  rintro e w1 ⟨rfl, b1⟩
  have A1 := A0.trans (b1.mono A0.size)
  have R1 := R0.below b1
  have r0 := R1.cell (i := 0) rfl
  have r1 := R1.cell (i := 1) rfl
  have f0 := R1.frozen 0
  have f1 := R1.frozen 1
  have rl := R1.lt
  go_wp2
  refine bodyPost_ret (v := .agg #[.int .i64 F, .string ⟨#[]⟩]) ?_ rfl ⟨rfl, ?_⟩
  · simp [results, Tryd.results16, go_sem, r0, r1]
    done
  · exact (A1.setCell (by show w.heap.size ≤ w.heap.size + 1; omega) _).setCell (by show w.heap.size ≤ w.heap.size + 1; omega) _

set_option maxRecDepth 100000 in
set_option maxHeartbeats 4000000 in
theorem implText_yes (cl sq k a b c : Int) (h : flt cl sq k a b c = 0) (w : World) (hL : TxAt w) :
    Calls Tryd.prog 15 #[.agg (cmdV cl sq k a b c)] w fun e w' => e = .returned (.agg #[.int .i64 0, .string ⟨(tx k (pc k) a b c).toArray⟩]) ∧ Below w.heap.size w w' := by
  have c1 := fun w hL => implCommandFault cl sq k a b c w hL
  rw [h] at c1
  obtain ⟨h1, h2, h3, h4, h5, h6, a1, a2, b1, b2, z1, z2, _⟩ := flt_zero h
  have c2 := fun w hL => paramsIn_c cl sq k a b c h5 h6 w hL
  have HT : Hid (∀ j, j ≤ 3 → (tx k j a b c).length ≤ 9 + 20 * j) := tx_len h5 h6 ⟨a1, a2⟩ ⟨b1, b2⟩ ⟨z1, z2⟩
  have hpl := pc_le k
  have A0 : Below w.heap.size w ((w.alloc (.cells (cmdV cl sq k a b c) 26)).alloc (.cells #[.int .i64 0, .string ⟨#[]⟩] 40)) := ((Below.refl w.heap.size w).alloc (Nat.le_refl _) _).alloc (by simp only [size_new]; omega) _
  have R0 := Blk.new (w.alloc (.cells (cmdV cl sq k a b c) 26)) #[.int .i64 0, .string ⟨#[]⟩] 40
  rw [size_new] at R0
  have C0 := (Blk.new w (cmdV cl sq k a b c) 26).alloc (.cells #[.int .i64 0, .string ⟨#[]⟩] 40)
  clear h
  go_enter Tryd.func15, Tryd.ntmps15
  go_wp2_with fail
  refine (c1 _ (hL.pcs.later A0)).mono ?_
  rintro e w1 ⟨rfl, q1⟩
  have A1 := A0.trans (q1.mono A0.size)
  have R1 := R0.below q1
  have C1 := C0.below q1
  have L1 := hL.later A1
  have kt := L1.kt k h5 h6
  obtain ⟨e0, e1, e2, e3, e4, e5, el⟩ := C1.cmd
  obtain ⟨T0, HT0⟩ : ∃ T : ByteArray, Hid (T = ⟨(kw k).toArray⟩) := ⟨_, rfl⟩
  rw [← HT0.out] at kt
  go_wp2_with fail
  refine (c2 _ L1.pcs).mono ?_
  rintro e w3 ⟨rfl, rfl⟩
  have A3 := (A1.alloc A1.size (.cells (cmdV cl sq k a b c) 26)).alloc (by have := A1.size; rw [size_new]; omega) (.cells #[.int .i64 a, .int .i64 b, .int .i64 c] 64)
  have R3 := (R1.alloc (.cells (cmdV cl sq k a b c) 26)).alloc (.cells #[.int .i64 a, .int .i64 b, .int .i64 c] 64)
  have P3 := Blk.new (w1.alloc (.cells (cmdV cl sq k a b c) 26)) #[.int .i64 a, .int .i64 b, .int .i64 c] 64
  rw [size_new] at P3
  clear e0 e1 e2 e3 e4 e5 el R1 C1 A1 c1 c2 kt L1
  obtain ⟨n, hn⟩ : ∃ n, n = pc k := ⟨_, rfl⟩
  have Hn : Hid (n = pc k) := hn
  rw [← hn] at hpl ⊢
  clear hn
  go_wp2_with fail
  go_loopw [4, 20] (fun v i wr => ∃ (j : Nat) (T : ByteArray), j ≤ n ∧ i = .int .i64 j ∧ v = .string T ∧ Hid (T = ⟨(tx k j a b c).toArray⟩) ∧ Below w.heap.size w wr ∧ Blk wr (w.heap.size + 1) #[.int .i64 0, .string ⟨#[]⟩] 40 ∧ Blk wr (w1.heap.size + 1) #[.int .i64 a, .int .i64 b, .int .i64 c] 64) (fun _ i _ => n - (intOf i).toNat)
  case atStart => exact ⟨0, T0, Nat.zero_le _, rfl, rfl, by show _ = _; rw [HT0.out]; simp [tx], A3, R3, P3⟩
  case round =>
    obtain ⟨j, T, hj, rfl, rfl, HTj, A4, R4, P4⟩ := hrel
    by_cases hlt : j < n
    · have hlt' : (j : Int) < (n : Int) := by omega
      obtain ⟨x, hx1, hx2, hx3⟩ := param_at' (n := j) (a := a) (b := b) (c := c) (by omega)
      have x0 : 0 ≤ x ∧ x ≤ 1000000 := by rcases hx3 with rfl | rfl | rfl <;> omega
      have u1 := P4.cell hx2
      have hlen := HT.out j (by omega)
      have hdl := dd_len x0.1 x0.2
      have HX : Hid (tx k (j + 1) a b c = tx k j a b c ++ (32 :: Lib.decDigits x.toNat)) := by show _ = _; rw [tx_succ k j (by omega), hx1]
      have cF := formatInt_c x wr x0.1 (by omega) (hL.later A4)
      obtain ⟨D, HD⟩ : ∃ D : ByteArray, Hid (D = ⟨(Lib.decDigits x.toNat).toArray⟩) := ⟨_, rfl⟩
      have hDs : D.size ≤ 19 := by rw [HD.out, size_mk]; exact hdl
      have hTs : T.size ≤ 69 := by rw [HTj.out, size_mk]; omega
      rw [← HD.out] at cF
      have hadd := fun w => run_string_add_sum (P := Tryd.prog) w ⟨#[32]⟩ D (by rw [show (ByteArray.mk #[32]).size = 1 from rfl]; omega)
      have hadd2 := fun w => run_string_add_sum (P := Tryd.prog) w T (⟨#[32]⟩ ++ D) (by rw [ByteArray.size_append, show (ByteArray.mk #[32]).size = 1 from rfl]; omega)
      have HE : Hid (T ++ (⟨#[32]⟩ ++ D) = ⟨(tx k (j + 1) a b c).toArray⟩) := by
        show _ = _
        rw [HX.out, HTj.out, HD.out, show (⟨#[32]⟩ : ByteArray) = ⟨([32] : List UInt8).toArray⟩ from rfl, cat [32] (Lib.decDigits x.toNat), cat]
        rfl
      clear hx1 hx2 hx3 hlen hdl
      go_wp2_with fail
      refine cF.mono ?_
      rintro e w5 ⟨rfl, q5⟩
      have A5 := A4.trans (q5.mono A4.size)
      have R5 := R4.below q5
      have P5 := P4.below q5
      clear u1 cF
      go_wp2_with fail
      go_roundw
      case rel => exact ⟨j + 1, _, by omega, by go_num, rfl, HE, A5, R5, P5⟩
      case measure => simp [intOf]; omega
    · obtain rfl : j = n := by omega
      have r0 := R4.cell (i := 0) rfl
      have r1 := R4.cell (i := 1) rfl
      have f0 := R4.frozen 0
      have f1 := R4.frozen 1
      have rl := R4.lt
      go_wp2
      refine bodyPost_ret (v := .agg #[.int .i64 0, .string T]) ?_ rfl ⟨?_, ?_⟩
      · simp [results, Tryd.results15, go_sem, r0, r1]
        done
      · rw [HTj.out, Hn.out]
      · exact (A4.setCell (by show w.heap.size ≤ w.heap.size + 1; omega) _).setCell (by show w.heap.size ≤ w.heap.size + 1; omega) _

set_option maxRecDepth 100000 in
set_option maxHeartbeats 4000000 in
theorem specText_yes (cl sq k a b c : Int) (h : flt cl sq k a b c = 0) (w : World) :
    Calls Tryd.prog 16 #[.agg (cmdV cl sq k a b c)] w fun e w' => e = .returned (.agg #[.int .i64 0, .string ⟨(tx k (pc k) a b c).toArray⟩]) ∧ Below w.heap.size w w' := by
  obtain ⟨h1, h2, h3, h4, h5, h6, a1, a2, b1, b2, z1, z2, _⟩ := flt_zero h
  have HT : Hid (∀ j, j ≤ 3 → (tx k j a b c).length ≤ 9 + 20 * j) := tx_len h5 h6 ⟨a1, a2⟩ ⟨b1, b2⟩ ⟨z1, z2⟩
  have hpl := pc_le k
  have A0 : Below w.heap.size w ((w.alloc (.cells (cmdV cl sq k a b c) 26)).alloc (.cells #[.int .i64 0, .string ⟨#[]⟩] 40)) := ((Below.refl w.heap.size w).alloc (Nat.le_refl _) _).alloc (by simp only [size_new]; omega) _
  have R0 := Blk.new (w.alloc (.cells (cmdV cl sq k a b c) 26)) #[.int .i64 0, .string ⟨#[]⟩] 40
  rw [size_new] at R0
  have C0 := (Blk.new w (cmdV cl sq k a b c) 26).alloc (.cells #[.int .i64 0, .string ⟨#[]⟩] 40)
  have c1 := l3Fault_c w.heap.size cl sq k a b c _ C0.cmd
  rw [h] at c1
  have cW := fun w => l3Word_c k h5 h6 w
  obtain ⟨T0, HT0⟩ : ∃ T : ByteArray, Hid (T = ⟨(kw k).toArray⟩) := ⟨_, rfl⟩
  rw [← HT0.out] at cW
  clear h
  go_enter Tryd.func16, Tryd.ntmps16
  go_wp2_with fail
  refine c1.mono ?_
  rintro e w1 ⟨rfl, q1⟩
  have A1 := A0.trans (q1.mono A0.size)
  have R1 := R0.below q1
  have C1 := C0.below q1
  obtain ⟨e0, e1, e2, e3, e4, e5, el⟩ := C1.cmd
  go_wp2_with fail
  refine (cW _).mono ?_
  rintro e w' ⟨rfl, rfl⟩
  have A2 := A1.alloc A1.size kwO
  have R2 := R1.alloc kwO
  have C2 := C1.alloc kwO
  clear e0 e1 e2 e3 e4 e5 el A1 R1 C1 cW c1
  have cL := l3List_c w.heap.size cl sq k a b c _ C2.cmd
  go_wp2_with fail
  refine cL.mono ?_
  clear cL
  rintro e w3 ⟨rfl, hw3⟩
  have q3 : Below (w1.alloc kwO).heap.size (w1.alloc kwO) w3 := by rw [hw3]; exact ((Below.refl _ _).alloc (Nat.le_refl _) _).drew
  have P3 : Blk w3 (w1.heap.size + 1) #[.int .i64 a, .int .i64 b, .int .i64 c] 2 := by rw [hw3]; have h := Blk.new (w1.alloc kwO) #[.int .i64 a, .int .i64 b, .int .i64 c] 2; rw [size_new] at h; exact h
  have A3 := A2.trans (q3.mono A2.size)
  have R3 := R2.below q3
  have C3 := C2.below q3
  clear hw3 q3 A2 R2 C2
  have cP := fun w => l3Params_c k h5 h6 w
  obtain ⟨n, hn⟩ : ∃ n, n = pc k := ⟨_, rfl⟩
  have Hn : Hid (n = pc k) := hn
  rw [← hn] at hpl cP
  clear hn
  go_wp2_with fail
  go_loopw [4, 6] (fun v i wr => ∃ (j : Nat) (T : ByteArray), j ≤ n ∧ i = .int .i64 j ∧ v = .string T ∧ Hid (T = ⟨(tx k j a b c).toArray⟩) ∧ Below w.heap.size w wr ∧ Blk wr (w.heap.size + 1) #[.int .i64 0, .string ⟨#[]⟩] 40 ∧ Blk wr (w1.heap.size + 1) #[.int .i64 a, .int .i64 b, .int .i64 c] 2 ∧ Blk wr w.heap.size (cmdV cl sq k a b c) 26) (fun _ i _ => n - (intOf i).toNat)
  case atStart => exact ⟨0, T0, Nat.zero_le _, rfl, rfl, by show _ = _; rw [HT0.out]; simp [tx], A3, R3, P3, C3⟩
  case round =>
    obtain ⟨j, T, hj, rfl, rfl, HTj, A4, R4, P4, C4⟩ := hrel
    have kk := C4.cell (i := 2) rfl
    have kl := C4.lt
    by_cases hlt : j < n
    · have hlt' : (j : Int) < (n : Int) := by omega
      have hj3 : (j : Int) < 3 := by omega
      obtain ⟨x, hx1, hx2, hx3⟩ := param_at' (n := j) (a := a) (b := b) (c := c) (by omega)
      have x0 : 0 ≤ x ∧ x ≤ 1000000 := by rcases hx3 with rfl | rfl | rfl <;> omega
      have u1 := P4.cell hx2
      have ul := P4.lt
      have hlen := HT.out j (by omega)
      have hdl := dd_len x0.1 x0.2
      have HX : Hid (tx k (j + 1) a b c = tx k j a b c ++ (32 :: Lib.decDigits x.toNat)) := by show _ = _; rw [tx_succ k j (by omega), hx1]
      have cF := l1Digits_c x (wr.alloc pcO) x0.1 (by omega)
      obtain ⟨D, HD⟩ : ∃ D : ByteArray, Hid (D = ⟨(Lib.decDigits x.toNat).toArray⟩) := ⟨_, rfl⟩
      have hDs : D.size ≤ 19 := by rw [HD.out, size_mk]; exact hdl
      have hTs : T.size ≤ 69 := by rw [HTj.out, size_mk]; omega
      rw [← HD.out] at cF
      have hadd := fun w => run_string_add_sum (P := Tryd.prog) w T ⟨#[32]⟩ (by rw [show (ByteArray.mk #[32]).size = 1 from rfl]; omega)
      have hadd2 := fun w => run_string_add_sum (P := Tryd.prog) w (T ++ ⟨#[32]⟩) D (by rw [ByteArray.size_append, show (ByteArray.mk #[32]).size = 1 from rfl]; omega)
      have HE : Hid (T ++ ⟨#[32]⟩ ++ D = ⟨(tx k (j + 1) a b c).toArray⟩) := by
        show _ = _
        rw [HX.out, HTj.out, HD.out, show (⟨#[32]⟩ : ByteArray) = ⟨([32] : List UInt8).toArray⟩ from rfl, cat _ [32], cat, List.append_assoc]
        rfl
      clear hx1 hx2 hx3 hlen hdl
      go_wp2_with fail
      refine (cP _).mono ?_
      rintro e w' ⟨rfl, rfl⟩
      have B5 := A4.alloc A4.size pcO
      have R5 := R4.alloc pcO
      have P5 := P4.alloc pcO
      have C5 := C4.alloc pcO
      clear A4 R4 P4 C4
      go_wp2_with fail
      refine cF.mono ?_
      rintro e w5 ⟨rfl, q5⟩
      have A5 := B5.trans (q5.mono B5.size)
      have R6 := R5.below q5
      have P6 := P5.below q5
      have C6 := C5.below q5
      clear u1 cF kk kl ul
      go_wp2_with fail
      go_roundw
      case rel => exact ⟨j + 1, _, by omega, by go_num, rfl, HE, A5, R6, P6, C6⟩
      case measure => simp [intOf]; omega
    · obtain rfl : j = n := by omega
      go_wp2_with fail
      refine (cP _).mono ?_
      rintro e w' ⟨rfl, rfl⟩
      have B5 := A4.alloc A4.size pcO
      have R5 := R4.alloc pcO
      have r0 := R5.cell (i := 0) rfl
      have r1 := R5.cell (i := 1) rfl
      have f0 := R5.frozen 0
      have f1 := R5.frozen 1
      have rl := R5.lt
      go_wp2
      refine bodyPost_ret (v := .agg #[.int .i64 0, .string T]) ?_ rfl ⟨?_, ?_⟩
      · simp [results, Tryd.results16, go_sem, r0, r1]
        done
      · rw [HTj.out, Hn.out]
      · exact (B5.setCell (by show w.heap.size ≤ w.heap.size + 1; omega) _).setCell (by show w.heap.size ≤ w.heap.size + 1; omega) _
end Go.Proofs.YtcpgbhjnhahecaaDoor
