/- The walk of the law FnRates: its Go text returns true at every code. Condition: the listed package-level variables hold what their initialisers lay. -/
import Derived.Laws.StructEq
import Derived.Test.YtpcjgpgjjdlfdaaDoorRateRound
import Derived.Test.YtpcjgpgjjdlfdaaDoorTextDraws
import Derived.Test.YtpcjgpgjjdlfdaaDoorLater
namespace Go.Proofs.YtpcjgpgjjdlfdaaDoor
open Go.ChangeShapes Go.WideShapes Go.ChangeAt Go.RowKit
set_option linter.unusedVariables false

theorem rtS_size (b : Int) : (rtS b).size ≤ 30 := by
  unfold rtS
  rw [size_mk]
  have q1 := Rts.qt_bd (sz b)
  have hs : (sgx b).length ≤ 1 := by unfold sgx; split <;> simp
  rcases rt_cases b with ⟨_, _, e⟩ | ⟨_, _, e⟩ | ⟨_, _, _, e⟩ | ⟨_, h, _, e⟩ <;> rw [e]
  · simp
  · simp only [List.length_append, List.length_cons, List.length_nil]; omega
  · simp
  · have h1 := decDigits_len 18 (Rts.qt (sz b) / 4).toNat (by omega)
    have h2 : (qtx (Rts.qt (sz b) % 4)).length ≤ 3 := by rcases q4_cases (Rts.qt (sz b)) with ⟨_, e⟩ | ⟨_, e⟩ | ⟨_, e⟩ | ⟨_, e⟩ <;> rw [e] <;> simp
    simp only [List.length_append]; omega

/- Two cells of a block. -/
structure Two (w : World) (g : Nat) (x y : Value) : Prop where
  c0 : w.cell? ⟨g, 0, none⟩ = some x
  c1 : w.cell? ⟨g, 1, none⟩ = some y
  lt : g < w.heap.size
theorem Two.later {w w' : World} {g : Nat} {x y : Value} (h : Two w g x y) (hb : Below w.heap.size w w') : Two w' g x y :=
  ⟨by rw [hb.cell h.lt]; exact h.c0, by rw [hb.cell h.lt]; exact h.c1, Nat.lt_of_lt_of_le h.lt hb.size⟩
theorem Two.new (w : World) (x y : Value) (t : TypeId) : Two (w.alloc (.cells #[x, y] t)) w.heap.size x y :=
  ⟨cell_new _ _ _ _ _ rfl, cell_new _ _ _ _ _ rfl, by rw [size_new]; omega⟩
theorem Two.alloc {w : World} {g : Nat} {x y : Value} (h : Two w g x y) (o : Obj) : Two (w.alloc o) g x y := h.later ((Below.refl _ _).alloc (Nat.le_refl _) _)
theorem below_alloc {w w' : World} (h : Below w.heap.size w w') (o : Obj) : Below w.heap.size w (w'.alloc o) := h.alloc h.size o
theorem below_then {a b c : World} (h : Below a.heap.size a b) (k : Below b.heap.size b c) : Below a.heap.size a c := h.trans (k.mono h.size)
theorem partsNe2 (c : Int) (m : Bool) (x y : Int) (w : World) : (binOp .neq 37 (.agg #[.int .i64 c, .bool m, .int .i64 x, .int .i64 y]) (.agg #[.int .i64 c, .bool m, .int .i64 x, .int .i64 y])).run Tryd.prog w = .ok (.bool false) w := by
  rw [run_neq_struct, show (10000 : Nat) = 9999 + 1 from rfl, run_equalIn_agg w 9999 37 _ _ (by kernel_rfl) (by kernel_rfl)]
  simp only [Program.fieldsOf, Tryd.underlying37]
  go_simp

set_option maxHeartbeats 8000000 in
theorem rates_walk (w : World) (a : Option Addr) (len cap : Nat) (hb : Bytes w a len w.heap.size) (hl : len ≤ 1048576) (hL : LaidAt w) :
    Calls Tryd.prog 3 #[.slice a len cap] w fun e w' => e = .returned (.bool true) ∧ Below w.heap.size w w' := by
  have hf0 : ∀ (s u : Value) (w : World), (Instr.field 26 (.agg #[s, u]) 0).run Tryd.prog w = .ok s w := fun _ _ _ => by kernel_rfl
  have hf1 : ∀ (s u : Value) (w : World), (Instr.field 26 (.agg #[s, u]) 1).run Tryd.prog w = .ok u w := fun _ _ _ => by kernel_rfl
  have hg0 : ∀ (s u : Value) (w : World), (Instr.field 30 (.agg #[s, u]) 0).run Tryd.prog w = .ok s w := fun _ _ _ => by kernel_rfl
  have hg1 : ∀ (s u : Value) (w : World), (Instr.field 30 (.agg #[s, u]) 1).run Tryd.prog w = .ok u w := fun _ _ _ => by kernel_rfl
  go_enter Tryd.func3, Tryd.ntmps3
  go_wp2_with fail
  refine (lwBig_no w a len cap hl).mono ?_
  rintro e w1 ⟨rfl, rfl⟩
  go_wp2_with fail
  refine (drawRateOf _ a len cap hb hl).mono ?_
  rintro e w2 ⟨t, rfl, ht, hB2⟩
  have ht' : t.size ≤ maxLen := by unfold maxLen; omega
  go_wp2_with fail
  refine (implRateOf t _ ht').mono ?_
  rintro e w3 ⟨rfl, hB3⟩
  go_wp2_with fail
  have hA3 := below_alloc (below_then hB2 hB3) (.cells #[.int .i64 (ofC t), .int .i64 (ofV t)] 26)
  refine (drawRateText _ a len cap (hb.later hA3) hl).mono ?_
  rintro e w4 ⟨b, rfl, hb1, hb2, hB4⟩
  have hA4 := below_then hA3 hB4
  have R4 := (Two.new w3 (.int .i64 (ofC t)) (.int .i64 (ofV t)) 26).later hB4
  go_wp2_with fail
  refine (implRateText b hb1 hb2 _ (hL.later hA4)).mono ?_
  rintro e w5 ⟨rfl, hB5⟩
  have R5 := (R4.later hB5).alloc (.cells #[.int .i64 (rtC b), .string (rtS b)] 30)
  have T5 := Two.new w5 (.int .i64 (rtC b)) (.string (rtS b)) 30
  have hA5 := below_alloc (below_then hA4 hB5) (.cells #[.int .i64 (rtC b), .string (rtS b)] 30)
  clear hA3 hA4 R4 hB2 hB3 hB4 hB5
  go_wp2_with fail
  refine (drawRateBits _ a len cap (hb.later hA5) hl).mono ?_
  rintro e w6 ⟨m, wh, qu, rfl, hwh, hqu, hB6⟩
  have R6 := R5.later hB6
  have T6 := T5.later hB6
  have hA6 := below_then hA5 hB6
  clear R5 T5 hA5 hB6
  go_wp2_with fail
  refine (implRateBits m wh qu _).mono ?_
  rintro e w7 ⟨rfl, rfl⟩
  have R7 := (R6.alloc (.cells #[.int .i64 (rbC wh qu), .int .i64 (rbV m wh qu)] 26)).alloc (.cells #[.int .i64 (rbC wh qu), .int .i64 (rbV m wh qu)] 26)
  have T7 := (T6.alloc (.cells #[.int .i64 (rbC wh qu), .int .i64 (rbV m wh qu)] 26)).alloc (.cells #[.int .i64 (rbC wh qu), .int .i64 (rbV m wh qu)] 26)
  have B7 := Two.new (w6.alloc (.cells #[.int .i64 (rbC wh qu), .int .i64 (rbV m wh qu)] 26)) (.int .i64 (rbC wh qu)) (.int .i64 (rbV m wh qu)) 26
  rw [size_new] at B7
  have hA7 := below_alloc (below_alloc hA6 (.cells #[.int .i64 (rbC wh qu), .int .i64 (rbV m wh qu)] 26)) (.cells #[.int .i64 (rbC wh qu), .int .i64 (rbV m wh qu)] 26)
  clear R6 T6 hA6
  go_wp2_with fail
  refine (drawGainText _ a len cap (hb.later hA7) hl).mono ?_
  rintro e w8 ⟨g, rfl, hg, hB8⟩
  have hg' : g.size ≤ maxLen := by unfold maxLen; omega
  have R8 := R7.later hB8
  have T8 := T7.later hB8
  have B8 := B7.later hB8
  have hA8 := below_then hA7 hB8
  clear R7 T7 B7 hA7 hB8
  go_wp2_with fail
  refine (implGainText g _ hg' (hL.later hA8)).mono ?_
  rintro e w9 ⟨rfl, hB9⟩
  have R9 := (R8.later hB9).alloc (.cells #[.int .i64 (gtC g), .string (gtS g)] 30)
  have T9 := (T8.later hB9).alloc (.cells #[.int .i64 (gtC g), .string (gtS g)] 30)
  have B9 := (B8.later hB9).alloc (.cells #[.int .i64 (gtC g), .string (gtS g)] 30)
  have X9 := Two.new w9 (.int .i64 (gtC g)) (.string (gtS g)) 30
  have hA9 := below_alloc (below_then hA8 hB9) (.cells #[.int .i64 (gtC g), .string (gtS g)] 30)
  clear R8 T8 B8 hA8 hB9 hb
  have S1 := fun w => specRateOf t w ht'
  have S2 := fun w => specRateText b w
  have S3 := fun w => specRateBits m wh qu w
  have S4 := fun w => specGainText g w hg'
  have I1 := fun w hL => implRateText (ofV t) (ofV_bd t).1 (ofV_bd t).2 w hL
  have K1 : Hid (ofC t = 0 → rtC (ofV t) = 0 ∧ ofV (rtS (ofV t)) = ofV t) := fun h => ⟨(canon_of t h).1, by rw [(text_back _ (canon_of t h).1).2, (canon_of t h).2]⟩
  have I2 := fun w => implRateOf (rtS (ofV t)) w (by have := rtS_size (ofV t); unfold maxLen; omega)
  have I3 := fun w => implRateOf (rtS b) w (by have := rtS_size b; unfold maxLen; omega)
  have I4 := fun w hL => implRateText (ofV (rtS b)) (ofV_bd (rtS b)).1 (ofV_bd (rtS b)).2 w hL
  have K2 : Hid (rtC b = 0 → rtS (ofV (rtS b)) = rtS b) := fun h => by rw [(text_back b h).2]; exact text_canon b h
  have I5 := fun (h : rbC wh qu = 0) w => implRateParts (rbV m wh qu) (parts_back (m := m) h).2.1 (parts_back (m := m) h).2.2 w
  have K3 : Hid (rbC wh qu = 0 → partsA (rbV m wh qu) = #[.int .i64 0, .bool m, .int .i64 wh, .int .i64 qu]) := fun h => (parts_back (m := m) h).1
  generalize gtC g = gc at *
  generalize gtS g = gs at *
  go_wp2_with fail
  have r0 := fun n => Later.cell R9.lt R9.c0 n
  have t0 := fun n => Later.cell T9.lt T9.c0 n
  have t1 := fun n => Later.cell T9.lt T9.c1 n
  have b0 := fun n => Later.cell B9.lt B9.c0 n
  have x0 := fun n => Later.cell X9.lt X9.c0 n
  have x1 := fun n => Later.cell X9.lt X9.c1 n
  refine wp_region_later (by kernel_rfl) (by kernel_rfl) (fun hne => ?_)
  repeat (go_big_quiet_step ((first | (go_at_call 15; exact Later.call1 (S1 _)) | (go_at_call 16; exact Later.call (S2 _)) | (go_at_call 17; exact Later.call1 (S3 _)) | (go_at_call 18; exact Later.call (S4 _)))))
  refine wpQuiet_nil ?_
  rintro _ ⟨n, rfl⟩
  have hLn := hL.later (below_then hA9 n.bel)
  have Rn := R9.later n.bel
  have Tn := T9.later n.bel
  have Bn := B9.later n.bel
  have hAn := below_then hA9 n.bel
  clear r0 t0 t1 b0 x0 x1 R9 T9 B9 X9 hA9 S1 S2 S3 S4 hne hL
  generalize n.at = W at *
  clear n
  have hrb : (rbC wh qu == 0) = true ∨ (rbC wh qu == 0) = false := by cases (rbC wh qu == 0) <;> simp
  have hof : (ofC t == 0) = true ∨ (ofC t == 0) = false := by cases (ofC t == 0) <;> simp
  have hrt : (rtC b != 0) = true ∨ ((rtC b != 0) = false ∧ Hid (rtC b = 0)) := by
    cases h : (rtC b != 0)
    · exact .inr ⟨rfl, show rtC b = 0 by simpa using h⟩
    · exact .inl rfl
  have b0 := Bn.c0
  have b1 := Bn.c1
  rcases hrb with hq | hq
  · have hq0 : rbC wh qu = 0 := by simpa using hq
    have I5' := I5 hq0
    rw [K3.out hq0] at I5'
    have hne2 := partsNe2 0 m wh qu
    clear I5 K3 hq0
    go_wp2_with fail
    refine (I5' _).mono ?_
    rintro e wp ⟨rfl, rfl⟩
    have Rp := Rn.alloc (.cells #[.int .i64 0, .bool m, .int .i64 wh, .int .i64 qu] 37)
    have Tp := Tn.alloc (.cells #[.int .i64 0, .bool m, .int .i64 wh, .int .i64 qu] 37)
    have hAp := below_alloc hAn (.cells #[.int .i64 0, .bool m, .int .i64 wh, .int .i64 qu] 37)
    have hLp := hLn.later ((Below.refl _ _).alloc (Nat.le_refl _) (.cells #[.int .i64 0, .bool m, .int .i64 wh, .int .i64 qu] 37))
    clear Rn Tn Bn hAn hLn b0 b1 I5'
    generalize W.alloc (.cells #[.int .i64 0, .bool m, .int .i64 wh, .int .i64 qu] 37) = V at *
    rcases hof with ho | ho
    · have ho0 : ofC t = 0 := by simpa using ho
      obtain ⟨kk1, kk2⟩ := K1.out ho0
      rw [kk1] at I1
      rw [kk2] at I2
      clear kk1 kk2 ho0
      have r0 := Rp.c0
      have r1 := Rp.c1
      go_wp2_with fail
      refine (I1 _ hLp).mono ?_
      rintro e w10 ⟨rfl, hB10⟩
      have U10 := Two.new w10 (.int .i64 0) (.string (rtS (ofV t))) 30
      have R10 := (Rp.later hB10).alloc (.cells #[.int .i64 0, .string (rtS (ofV t))] 30)
      have T10 := (Tp.later hB10).alloc (.cells #[.int .i64 0, .string (rtS (ofV t))] 30)
      have hA10 := below_alloc (below_then hAp hB10) (.cells #[.int .i64 0, .string (rtS (ofV t))] 30)
      have hL10 := hLp.later (below_alloc hB10 (.cells #[.int .i64 0, .string (rtS (ofV t))] 30))
      clear r0 r1
      go_wp2_with fail
      have u0 := fun n => Later.cell U10.lt U10.c0 n
      have u1 := fun n => Later.cell U10.lt U10.c1 n
      have v1 := fun n => Later.cell R10.lt R10.c1 n
      refine wp_region_later (by kernel_rfl) (by kernel_rfl) (fun hne => ?_)
      repeat (go_big_quiet_step ((first | (go_at_call 8; exact Later.call (I2 _)))))
      refine wpQuiet_nil ?_
      rintro _ ⟨n1, rfl⟩
      have T11 := T10.later n1.bel
      have hA11 := below_then hA10 n1.bel
      have hL11 := hL10.later n1.bel
      clear u0 u1 v1 hne U10 R10 T10 hA10 hL10
      generalize n1.at = W11 at *
      clear n1
      rcases hrt with ht1 | ⟨ht1, hrt0⟩
      · have t0 := T11.c0
        have t1 := T11.c1
        go_wp2_with fail
        have q0 := fun n => Later.cell T11.lt T11.c0 n
        refine wp_region_later (by kernel_rfl) (by kernel_rfl) (fun hne => ?_)
        repeat (go_big_quiet_step (fail))
        refine wpQuiet_nil ?_
        rintro _ ⟨n2, rfl⟩
        go_wp2_with fail
        go_ret
        exact ⟨rfl, below_then hA11 n2.bel⟩
      · have K2' := K2.out hrt0.out
        rw [K2'] at I4
        have I4' := fun (n : Later W11) => I4 n.at (hL11.later n.bel)
        have t0 := T11.c0
        have t1 := T11.c1
        clear K2'
        go_wp2_with fail
        have q0 := fun n => Later.cell T11.lt T11.c0 n
        have q1 := fun n => Later.cell T11.lt T11.c1 n
        refine wp_region_later (by kernel_rfl) (by kernel_rfl) (fun hne => ?_)
        repeat (go_big_quiet_step ((first | (go_at_call 8; exact Later.call (I3 _)) | (go_at_call 10; exact Later.call (I4' _)))))
        refine wpQuiet_nil ?_
        rintro _ ⟨n2, rfl⟩
        go_wp2_with fail
        go_ret
        exact ⟨rfl, below_then hA11 n2.bel⟩
    · have r0 := Rp.c0
      have ht0 := Tp.c0
      rcases hrt with ht1 | ⟨ht1, hrt0⟩
      · have t0 := Tp.c0
        have t1 := Tp.c1
        go_wp2_with fail
        have q0 := fun n => Later.cell Tp.lt Tp.c0 n
        refine wp_region_later (by kernel_rfl) (by kernel_rfl) (fun hne => ?_)
        repeat (go_big_quiet_step (fail))
        refine wpQuiet_nil ?_
        rintro _ ⟨n2, rfl⟩
        go_wp2_with fail
        go_ret
        exact ⟨rfl, below_then hAp n2.bel⟩
      · have K2' := K2.out hrt0.out
        rw [K2'] at I4
        have I4' := fun (n : Later V) => I4 n.at (hLp.later n.bel)
        have t0 := Tp.c0
        have t1 := Tp.c1
        clear K2'
        go_wp2_with fail
        have q0 := fun n => Later.cell Tp.lt Tp.c0 n
        have q1 := fun n => Later.cell Tp.lt Tp.c1 n
        refine wp_region_later (by kernel_rfl) (by kernel_rfl) (fun hne => ?_)
        repeat (go_big_quiet_step ((first | (go_at_call 8; exact Later.call (I3 _)) | (go_at_call 10; exact Later.call (I4' _)))))
        refine wpQuiet_nil ?_
        rintro _ ⟨n2, rfl⟩
        go_wp2_with fail
        go_ret
        exact ⟨rfl, below_then hAp n2.bel⟩
  · clear I5 K3 Bn
    rcases hof with ho | ho
    · have ho0 : ofC t = 0 := by simpa using ho
      obtain ⟨kk1, kk2⟩ := K1.out ho0
      rw [kk1] at I1
      rw [kk2] at I2
      clear kk1 kk2 ho0
      have r0 := Rn.c0
      have r1 := Rn.c1
      go_wp2_with fail
      refine (I1 _ hLn).mono ?_
      rintro e w10 ⟨rfl, hB10⟩
      have U10 := Two.new w10 (.int .i64 0) (.string (rtS (ofV t))) 30
      have R10 := (Rn.later hB10).alloc (.cells #[.int .i64 0, .string (rtS (ofV t))] 30)
      have T10 := (Tn.later hB10).alloc (.cells #[.int .i64 0, .string (rtS (ofV t))] 30)
      have hA10 := below_alloc (below_then hAn hB10) (.cells #[.int .i64 0, .string (rtS (ofV t))] 30)
      have hL10 := hLn.later (below_alloc hB10 (.cells #[.int .i64 0, .string (rtS (ofV t))] 30))
      clear r0 r1
      go_wp2_with fail
      have u0 := fun n => Later.cell U10.lt U10.c0 n
      have u1 := fun n => Later.cell U10.lt U10.c1 n
      have v1 := fun n => Later.cell R10.lt R10.c1 n
      refine wp_region_later (by kernel_rfl) (by kernel_rfl) (fun hne => ?_)
      repeat (go_big_quiet_step ((first | (go_at_call 8; exact Later.call (I2 _)))))
      refine wpQuiet_nil ?_
      rintro _ ⟨n1, rfl⟩
      have T11 := T10.later n1.bel
      have hA11 := below_then hA10 n1.bel
      have hL11 := hL10.later n1.bel
      clear u0 u1 v1 hne U10 R10 T10 hA10 hL10
      generalize n1.at = W11 at *
      clear n1
      rcases hrt with ht1 | ⟨ht1, hrt0⟩
      · have t0 := T11.c0
        have t1 := T11.c1
        go_wp2_with fail
        have q0 := fun n => Later.cell T11.lt T11.c0 n
        refine wp_region_later (by kernel_rfl) (by kernel_rfl) (fun hne => ?_)
        repeat (go_big_quiet_step (fail))
        refine wpQuiet_nil ?_
        rintro _ ⟨n2, rfl⟩
        go_wp2_with fail
        go_ret
        exact ⟨rfl, below_then hA11 n2.bel⟩
      · have K2' := K2.out hrt0.out
        rw [K2'] at I4
        have I4' := fun (n : Later W11) => I4 n.at (hL11.later n.bel)
        have t0 := T11.c0
        have t1 := T11.c1
        clear K2'
        go_wp2_with fail
        have q0 := fun n => Later.cell T11.lt T11.c0 n
        have q1 := fun n => Later.cell T11.lt T11.c1 n
        refine wp_region_later (by kernel_rfl) (by kernel_rfl) (fun hne => ?_)
        repeat (go_big_quiet_step ((first | (go_at_call 8; exact Later.call (I3 _)) | (go_at_call 10; exact Later.call (I4' _)))))
        refine wpQuiet_nil ?_
        rintro _ ⟨n2, rfl⟩
        go_wp2_with fail
        go_ret
        exact ⟨rfl, below_then hA11 n2.bel⟩
    · have r0 := Rn.c0
      have ht0 := Tn.c0
      rcases hrt with ht1 | ⟨ht1, hrt0⟩
      · have t0 := Tn.c0
        have t1 := Tn.c1
        go_wp2_with fail
        have q0 := fun n => Later.cell Tn.lt Tn.c0 n
        refine wp_region_later (by kernel_rfl) (by kernel_rfl) (fun hne => ?_)
        repeat (go_big_quiet_step (fail))
        refine wpQuiet_nil ?_
        rintro _ ⟨n2, rfl⟩
        go_wp2_with fail
        go_ret
        exact ⟨rfl, below_then hAn n2.bel⟩
      · have K2' := K2.out hrt0.out
        rw [K2'] at I4
        have I4' := fun (n : Later W) => I4 n.at (hLn.later n.bel)
        have t0 := Tn.c0
        have t1 := Tn.c1
        clear K2'
        go_wp2_with fail
        have q0 := fun n => Later.cell Tn.lt Tn.c0 n
        have q1 := fun n => Later.cell Tn.lt Tn.c1 n
        refine wp_region_later (by kernel_rfl) (by kernel_rfl) (fun hne => ?_)
        repeat (go_big_quiet_step ((first | (go_at_call 8; exact Later.call (I3 _)) | (go_at_call 10; exact Later.call (I4' _)))))
        refine wpQuiet_nil ?_
        rintro _ ⟨n2, rfl⟩
        go_wp2_with fail
        go_ret
        exact ⟨rfl, below_then hAn n2.bel⟩

theorem walk_fnRates (a0 : Option Addr) (len0 cap0 : Nat) (z0 : List Int) (w : World) (w0 : IsRow .u8 w a0 len0 cap0 z0) (hL : LaidAt w) :
    Calls Tryd.prog 3 #[.slice a0 len0 cap0] w fun e w' => e = .returned (.bool true) ∧ Below w.heap.size w w' := by
  by_cases hbig : len0 ≤ 1048576
  · exact rates_walk w a0 len0 cap0 (Bytes.of_row w0) hbig hL
  · go_enter Tryd.func3, Tryd.ntmps3
    go_wp2_with fail
    refine (lwBig_yes w a0 len0 cap0 (by omega)).mono ?_
    rintro e w1 ⟨rfl, rfl⟩
    go_wp2_with fail
    go_ret
    exact ⟨rfl, Below.refl _ _⟩
end Go.Proofs.YtpcjgpgjjdlfdaaDoor
