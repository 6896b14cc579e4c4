/- keyHolds, the program's. -/
import Derived.Test.YtbgbmojoldkcfaaDoorRp
namespace Go.Proofs.YtbgbmojoldkcfaaDoor
open Go.RowKit

set_option maxRecDepth 100000
theorem within_t (n l m : Int) (h1 : l ≤ n) (h2 : n ≤ m) (w : World) : Calls Tryd.prog 40 #[.int .i64 n, .int .i64 l, .int .i64 m] w (RetV w (.bool true)) := by
  have t1 : decide (l ≤ n) = true := by simpa using h1
  have t2 : decide (n ≤ m) = true := by simpa using h2
  go_enter Tryd.func40, Tryd.ntmps40
  go_wp2_with fail
  go_ret
  exact ⟨rfl, rfl⟩
theorem within_f (n l m : Int) (h : ¬ (l ≤ n ∧ n ≤ m)) (w : World) : Calls Tryd.prog 40 #[.int .i64 n, .int .i64 l, .int .i64 m] w (RetV w (.bool false)) := by
  by_cases h1 : l ≤ n
  · have t1 : decide (l ≤ n) = true := by simpa using h1
    have t2 : decide (n ≤ m) = false := by rw [decide_eq_false_iff_not]; exact fun e => h ⟨h1, e⟩
    clear h
    go_enter Tryd.func40, Tryd.ntmps40
    go_wp2_with fail
    go_ret
    exact ⟨rfl, rfl⟩
  · have t1 : decide (l ≤ n) = false := by simpa using h1
    clear h
    go_enter Tryd.func40, Tryd.ntmps40
    go_wp2_with fail
    go_ret
    exact ⟨rfl, rfl⟩
theorem clr_low : ∀ m : Fin 1024, bits BinOp.andNot IntKind.u16 ((m.val : Nat) : Int) 1023 = 0 := by decide +kernel
theorem clr_big (m : Nat) (hm : m < 65536) (h : ¬ m < 1024) : ∃ d : Nat, bits BinOp.andNot IntKind.u16 (m : Int) 1023 = (d : Int) ∧ ((d : Int) == 0) = false := by
  refine ⟨m &&& 64512, u16_andNot_nat m 1023 hm (by omega), ?_⟩
  rw [beq_eq_false_iff_ne]
  intro e
  have e0 : m &&& 64512 = 0 := by omega
  have e1 : (m &&& 64512) >>> 10 = (m >>> 10) &&& 63 := Nat.shiftRight_and_distrib
  rw [e0, show (63 : Nat) = 2 ^ 6 - 1 from rfl, Nat.and_two_pow_sub_one_eq_mod, Nat.shiftRight_eq_div_pow] at e1
  simp at e1
  omega
def RetBk (w : World) (v : Value) (e : Ending) (w' : World) : Prop := e = .returned v ∧ Below w.heap.size w w'
set_option maxHeartbeats 3200000 in
theorem hol_f (f c ef ec : Int) (m : Nat) (b : Bool) (w : World) (h0 : ¬ (1 ≤ f ∧ f ≤ 2147483647)) : Calls Tryd.prog 27 #[.agg #[.int .i64 f, .int .i64 c, .int .i64 ef, .int .i64 ec, .int .u16 (m : Int), .bool b]] w (RetBk w (.bool false)) := by
  have H0 := Lib.hid (KtIn.start w f c ef ec m b)
  have W0 := Lib.hid (fun w => within_f f 1 2147483647 h0 w)
  clear h0
  go_enter Tryd.func27, Tryd.ntmps27
  go_wp2_with fail
  refine (W0.out _).mono ?_
  rintro e wq ⟨rfl, rfl⟩
  go_wp2_with (go_at_call 23; refine (TG.out _).mono ?_; rintro e wq ⟨rfl, rfl⟩)
  go_ret
  exact ⟨rfl, H0.out.below⟩
set_option maxHeartbeats 3200000 in
theorem hol_c (f c ef ec : Int) (m : Nat) (b : Bool) (w : World) (h0 : 1 ≤ f ∧ f ≤ 2147483647) (h1 : ¬ (1 ≤ c ∧ c ≤ 2147483647)) : Calls Tryd.prog 27 #[.agg #[.int .i64 f, .int .i64 c, .int .i64 ef, .int .i64 ec, .int .u16 (m : Int), .bool b]] w (RetBk w (.bool false)) := by
  have H0 := Lib.hid (KtIn.start w f c ef ec m b)
  have W0 := Lib.hid (fun w => within_t f 1 2147483647 h0.1 h0.2 w)
  have W1 := Lib.hid (fun w => within_f c 1 2147483647 h1 w)
  clear h0 h1
  go_enter Tryd.func27, Tryd.ntmps27
  go_wp2_with fail
  refine (W0.out _).mono ?_
  rintro e wq ⟨rfl, rfl⟩
  go_wp2_with fail
  refine (W1.out _).mono ?_
  rintro e wq ⟨rfl, rfl⟩
  go_wp2_with (go_at_call 23; refine (TG.out _).mono ?_; rintro e wq ⟨rfl, rfl⟩)
  go_ret
  exact ⟨rfl, H0.out.below⟩
set_option maxHeartbeats 3200000 in
theorem hol_e (f c ef ec : Int) (m : Nat) (b : Bool) (w : World) (h0 : 1 ≤ f ∧ f ≤ 2147483647) (h1 : 1 ≤ c ∧ c ≤ 2147483647) (h2 : ¬ (0 ≤ ef ∧ ef ≤ 2147483647)) : Calls Tryd.prog 27 #[.agg #[.int .i64 f, .int .i64 c, .int .i64 ef, .int .i64 ec, .int .u16 (m : Int), .bool b]] w (RetBk w (.bool false)) := by
  have H0 := Lib.hid (KtIn.start w f c ef ec m b)
  have W0 := Lib.hid (fun w => within_t f 1 2147483647 h0.1 h0.2 w)
  have W1 := Lib.hid (fun w => within_t c 1 2147483647 h1.1 h1.2 w)
  have W2 := Lib.hid (fun w => within_f ef 0 2147483647 h2 w)
  clear h0 h1 h2
  go_enter Tryd.func27, Tryd.ntmps27
  go_wp2_with fail
  refine (W0.out _).mono ?_
  rintro e wq ⟨rfl, rfl⟩
  go_wp2_with fail
  refine (W1.out _).mono ?_
  rintro e wq ⟨rfl, rfl⟩
  go_wp2_with fail
  refine (W2.out _).mono ?_
  rintro e wq ⟨rfl, rfl⟩
  go_wp2_with (go_at_call 23; refine (TG.out _).mono ?_; rintro e wq ⟨rfl, rfl⟩)
  go_ret
  exact ⟨rfl, H0.out.below⟩
set_option maxHeartbeats 3200000 in
theorem hol_d (f c ef ec : Int) (m : Nat) (b : Bool) (w : World) (h0 : 1 ≤ f ∧ f ≤ 2147483647) (h1 : 1 ≤ c ∧ c ≤ 2147483647) (h2 : 0 ≤ ef ∧ ef ≤ 2147483647) (h3 : ¬ (0 ≤ ec ∧ ec ≤ 2147483647)) : Calls Tryd.prog 27 #[.agg #[.int .i64 f, .int .i64 c, .int .i64 ef, .int .i64 ec, .int .u16 (m : Int), .bool b]] w (RetBk w (.bool false)) := by
  have H0 := Lib.hid (KtIn.start w f c ef ec m b)
  have W0 := Lib.hid (fun w => within_t f 1 2147483647 h0.1 h0.2 w)
  have W1 := Lib.hid (fun w => within_t c 1 2147483647 h1.1 h1.2 w)
  have W2 := Lib.hid (fun w => within_t ef 0 2147483647 h2.1 h2.2 w)
  have W3 := Lib.hid (fun w => within_f ec 0 2147483647 h3 w)
  clear h0 h1 h2 h3
  go_enter Tryd.func27, Tryd.ntmps27
  go_wp2_with fail
  refine (W0.out _).mono ?_
  rintro e wq ⟨rfl, rfl⟩
  go_wp2_with fail
  refine (W1.out _).mono ?_
  rintro e wq ⟨rfl, rfl⟩
  go_wp2_with fail
  refine (W2.out _).mono ?_
  rintro e wq ⟨rfl, rfl⟩
  go_wp2_with fail
  refine (W3.out _).mono ?_
  rintro e wq ⟨rfl, rfl⟩
  go_wp2_with (go_at_call 23; refine (TG.out _).mono ?_; rintro e wq ⟨rfl, rfl⟩)
  go_ret
  exact ⟨rfl, H0.out.below⟩
set_option maxHeartbeats 3200000 in
theorem hol_two1 (f c ef ec : Int) (m : Nat) (b : Bool) (w : World) (h0 : 1 ≤ f ∧ f ≤ 2147483647) (h1 : 1 ≤ c ∧ c ≤ 2147483647) (h2 : 0 ≤ ef ∧ ef ≤ 2147483647) (h3 : 0 ≤ ec ∧ ec ≤ 2147483647) (g_ef : ef = 0) (g_ec : ¬ ec = 0) : Calls Tryd.prog 27 #[.agg #[.int .i64 f, .int .i64 c, .int .i64 ef, .int .i64 ec, .int .u16 (m : Int), .bool b]] w (RetBk w (.bool false)) := by
  have H0 := Lib.hid (KtIn.start w f c ef ec m b)
  have W0 := Lib.hid (fun w => within_t f 1 2147483647 h0.1 h0.2 w)
  have W1 := Lib.hid (fun w => within_t c 1 2147483647 h1.1 h1.2 w)
  have W2 := Lib.hid (fun w => within_t ef 0 2147483647 h2.1 h2.2 w)
  have W3 := Lib.hid (fun w => within_t ec 0 2147483647 h3.1 h3.2 w)
  have t_ef : (ef != 0) = false := by rw [bne_eq_false_iff_eq]; exact g_ef
  have u_ec : (ec == 0) = false := by rw [beq_eq_false_iff_ne]; exact g_ec
  clear g_ef g_ec
  clear h0 h1 h2 h3
  go_enter Tryd.func27, Tryd.ntmps27
  go_wp2_with fail
  refine (W0.out _).mono ?_
  rintro e wq ⟨rfl, rfl⟩
  go_wp2_with fail
  refine (W1.out _).mono ?_
  rintro e wq ⟨rfl, rfl⟩
  go_wp2_with fail
  refine (W2.out _).mono ?_
  rintro e wq ⟨rfl, rfl⟩
  go_wp2_with fail
  refine (W3.out _).mono ?_
  rintro e wq ⟨rfl, rfl⟩
  go_wp2_with (go_at_call 23; refine (TG.out _).mono ?_; rintro e wq ⟨rfl, rfl⟩)
  go_ret
  exact ⟨rfl, H0.out.below⟩
set_option maxHeartbeats 3200000 in
theorem hol_two2 (f c ef ec : Int) (m : Nat) (b : Bool) (w : World) (h0 : 1 ≤ f ∧ f ≤ 2147483647) (h1 : 1 ≤ c ∧ c ≤ 2147483647) (h2 : 0 ≤ ef ∧ ef ≤ 2147483647) (h3 : 0 ≤ ec ∧ ec ≤ 2147483647) (g_ef : ef = 0) (g_ec : ec = 0) (g_b : b = true) : Calls Tryd.prog 27 #[.agg #[.int .i64 f, .int .i64 c, .int .i64 ef, .int .i64 ec, .int .u16 (m : Int), .bool b]] w (RetBk w (.bool false)) := by
  have H0 := Lib.hid (KtIn.start w f c ef ec m b)
  have W0 := Lib.hid (fun w => within_t f 1 2147483647 h0.1 h0.2 w)
  have W1 := Lib.hid (fun w => within_t c 1 2147483647 h1.1 h1.2 w)
  have W2 := Lib.hid (fun w => within_t ef 0 2147483647 h2.1 h2.2 w)
  have W3 := Lib.hid (fun w => within_t ec 0 2147483647 h3.1 h3.2 w)
  have t_ef : (ef != 0) = false := by rw [bne_eq_false_iff_eq]; exact g_ef
  have u_ec : (ec == 0) = true := by rw [beq_iff_eq]; exact g_ec
  subst g_b
  clear g_ef g_ec
  clear h0 h1 h2 h3
  go_enter Tryd.func27, Tryd.ntmps27
  go_wp2_with fail
  refine (W0.out _).mono ?_
  rintro e wq ⟨rfl, rfl⟩
  go_wp2_with fail
  refine (W1.out _).mono ?_
  rintro e wq ⟨rfl, rfl⟩
  go_wp2_with fail
  refine (W2.out _).mono ?_
  rintro e wq ⟨rfl, rfl⟩
  go_wp2_with fail
  refine (W3.out _).mono ?_
  rintro e wq ⟨rfl, rfl⟩
  go_wp2_with (go_at_call 23; refine (TG.out _).mono ?_; rintro e wq ⟨rfl, rfl⟩)
  go_ret
  exact ⟨rfl, H0.out.below⟩
set_option maxHeartbeats 3200000 in
theorem hol_big0 (f c ef ec : Int) (m : Nat) (b : Bool) (w : World) (h0 : 1 ≤ f ∧ f ≤ 2147483647) (h1 : 1 ≤ c ∧ c ≤ 2147483647) (h2 : 0 ≤ ef ∧ ef ≤ 2147483647) (h3 : 0 ≤ ec ∧ ec ≤ 2147483647) (g_ef : ¬ ef = 0) (hm : m < 65536) (hm2 : ¬ m < 1024) : Calls Tryd.prog 27 #[.agg #[.int .i64 f, .int .i64 c, .int .i64 ef, .int .i64 ec, .int .u16 (m : Int), .bool b]] w (RetBk w (.bool false)) := by
  have H0 := Lib.hid (KtIn.start w f c ef ec m b)
  have W0 := Lib.hid (fun w => within_t f 1 2147483647 h0.1 h0.2 w)
  have W1 := Lib.hid (fun w => within_t c 1 2147483647 h1.1 h1.2 w)
  have W2 := Lib.hid (fun w => within_t ef 0 2147483647 h2.1 h2.2 w)
  have W3 := Lib.hid (fun w => within_t ec 0 2147483647 h3.1 h3.2 w)
  have t_ef : (ef != 0) = true := by rw [bne_iff_ne]; exact g_ef
  clear g_ef
  obtain ⟨d, a1, a2⟩ := clr_big m hm hm2
  clear hm hm2
  clear h0 h1 h2 h3
  go_enter Tryd.func27, Tryd.ntmps27
  go_wp2_with fail
  refine (W0.out _).mono ?_
  rintro e wq ⟨rfl, rfl⟩
  go_wp2_with fail
  refine (W1.out _).mono ?_
  rintro e wq ⟨rfl, rfl⟩
  go_wp2_with fail
  refine (W2.out _).mono ?_
  rintro e wq ⟨rfl, rfl⟩
  go_wp2_with fail
  refine (W3.out _).mono ?_
  rintro e wq ⟨rfl, rfl⟩
  go_wp2_with (go_at_call 23; refine (TG.out _).mono ?_; rintro e wq ⟨rfl, rfl⟩)
  go_ret
  exact ⟨rfl, H0.out.below⟩
set_option maxHeartbeats 3200000 in
theorem hol_false0 (f c ef ec : Int) (m : Nat) (b : Bool) (w : World) (h0 : 1 ≤ f ∧ f ≤ 2147483647) (h1 : 1 ≤ c ∧ c ≤ 2147483647) (h2 : 0 ≤ ef ∧ ef ≤ 2147483647) (h3 : 0 ≤ ec ∧ ec ≤ 2147483647) (g_ef : ¬ ef = 0) (hm : m < 1024) (ht : togS m = false) : Calls Tryd.prog 27 #[.agg #[.int .i64 f, .int .i64 c, .int .i64 ef, .int .i64 ec, .int .u16 (m : Int), .bool b]] w (RetBk w (.bool false)) := by
  have H0 := Lib.hid (KtIn.start w f c ef ec m b)
  have W0 := Lib.hid (fun w => within_t f 1 2147483647 h0.1 h0.2 w)
  have W1 := Lib.hid (fun w => within_t c 1 2147483647 h1.1 h1.2 w)
  have W2 := Lib.hid (fun w => within_t ef 0 2147483647 h2.1 h2.2 w)
  have W3 := Lib.hid (fun w => within_t ec 0 2147483647 h3.1 h3.2 w)
  have t_ef : (ef != 0) = true := by rw [bne_iff_ne]; exact g_ef
  clear g_ef
  have a1 := clr_low ⟨m, hm⟩
  simp only at a1
  have TG := Lib.hid (fun w => show Calls Tryd.prog 23 #[.int .u16 (m : Int)] w (RetV w (.bool false)) from ht ▸ tog_ok m hm w)
  clear hm ht
  clear h0 h1 h2 h3
  go_enter Tryd.func27, Tryd.ntmps27
  go_wp2_with fail
  refine (W0.out _).mono ?_
  rintro e wq ⟨rfl, rfl⟩
  go_wp2_with fail
  refine (W1.out _).mono ?_
  rintro e wq ⟨rfl, rfl⟩
  go_wp2_with fail
  refine (W2.out _).mono ?_
  rintro e wq ⟨rfl, rfl⟩
  go_wp2_with fail
  refine (W3.out _).mono ?_
  rintro e wq ⟨rfl, rfl⟩
  go_wp2_with (go_at_call 23; refine (TG.out _).mono ?_; rintro e wq ⟨rfl, rfl⟩)
  go_ret
  exact ⟨rfl, H0.out.below⟩
set_option maxHeartbeats 3200000 in
theorem hol_true0 (f c ef ec : Int) (m : Nat) (b : Bool) (w : World) (h0 : 1 ≤ f ∧ f ≤ 2147483647) (h1 : 1 ≤ c ∧ c ≤ 2147483647) (h2 : 0 ≤ ef ∧ ef ≤ 2147483647) (h3 : 0 ≤ ec ∧ ec ≤ 2147483647) (g_ef : ¬ ef = 0) (hm : m < 1024) (ht : togS m = true) : Calls Tryd.prog 27 #[.agg #[.int .i64 f, .int .i64 c, .int .i64 ef, .int .i64 ec, .int .u16 (m : Int), .bool b]] w (RetBk w (.bool true)) := by
  have H0 := Lib.hid (KtIn.start w f c ef ec m b)
  have W0 := Lib.hid (fun w => within_t f 1 2147483647 h0.1 h0.2 w)
  have W1 := Lib.hid (fun w => within_t c 1 2147483647 h1.1 h1.2 w)
  have W2 := Lib.hid (fun w => within_t ef 0 2147483647 h2.1 h2.2 w)
  have W3 := Lib.hid (fun w => within_t ec 0 2147483647 h3.1 h3.2 w)
  have t_ef : (ef != 0) = true := by rw [bne_iff_ne]; exact g_ef
  clear g_ef
  have a1 := clr_low ⟨m, hm⟩
  simp only at a1
  have TG := Lib.hid (fun w => show Calls Tryd.prog 23 #[.int .u16 (m : Int)] w (RetV w (.bool true)) from ht ▸ tog_ok m hm w)
  clear hm ht
  clear h0 h1 h2 h3
  go_enter Tryd.func27, Tryd.ntmps27
  go_wp2_with fail
  refine (W0.out _).mono ?_
  rintro e wq ⟨rfl, rfl⟩
  go_wp2_with fail
  refine (W1.out _).mono ?_
  rintro e wq ⟨rfl, rfl⟩
  go_wp2_with fail
  refine (W2.out _).mono ?_
  rintro e wq ⟨rfl, rfl⟩
  go_wp2_with fail
  refine (W3.out _).mono ?_
  rintro e wq ⟨rfl, rfl⟩
  go_wp2_with (go_at_call 23; refine (TG.out _).mono ?_; rintro e wq ⟨rfl, rfl⟩)
  go_ret
  exact ⟨rfl, H0.out.below⟩
set_option maxHeartbeats 3200000 in
theorem hol_big1 (f c ef ec : Int) (m : Nat) (b : Bool) (w : World) (h0 : 1 ≤ f ∧ f ≤ 2147483647) (h1 : 1 ≤ c ∧ c ≤ 2147483647) (h2 : 0 ≤ ef ∧ ef ≤ 2147483647) (h3 : 0 ≤ ec ∧ ec ≤ 2147483647) (g_ef : ef = 0) (g_ec : ec = 0) (g_b : b = false) (hm : m < 65536) (hm2 : ¬ m < 1024) : Calls Tryd.prog 27 #[.agg #[.int .i64 f, .int .i64 c, .int .i64 ef, .int .i64 ec, .int .u16 (m : Int), .bool b]] w (RetBk w (.bool false)) := by
  have H0 := Lib.hid (KtIn.start w f c ef ec m b)
  have W0 := Lib.hid (fun w => within_t f 1 2147483647 h0.1 h0.2 w)
  have W1 := Lib.hid (fun w => within_t c 1 2147483647 h1.1 h1.2 w)
  have W2 := Lib.hid (fun w => within_t ef 0 2147483647 h2.1 h2.2 w)
  have W3 := Lib.hid (fun w => within_t ec 0 2147483647 h3.1 h3.2 w)
  have t_ef : (ef != 0) = false := by rw [bne_eq_false_iff_eq]; exact g_ef
  have u_ec : (ec == 0) = true := by rw [beq_iff_eq]; exact g_ec
  subst g_b
  clear g_ef g_ec
  obtain ⟨d, a1, a2⟩ := clr_big m hm hm2
  clear hm hm2
  clear h0 h1 h2 h3
  go_enter Tryd.func27, Tryd.ntmps27
  go_wp2_with fail
  refine (W0.out _).mono ?_
  rintro e wq ⟨rfl, rfl⟩
  go_wp2_with fail
  refine (W1.out _).mono ?_
  rintro e wq ⟨rfl, rfl⟩
  go_wp2_with fail
  refine (W2.out _).mono ?_
  rintro e wq ⟨rfl, rfl⟩
  go_wp2_with fail
  refine (W3.out _).mono ?_
  rintro e wq ⟨rfl, rfl⟩
  go_wp2_with (go_at_call 23; refine (TG.out _).mono ?_; rintro e wq ⟨rfl, rfl⟩)
  go_ret
  exact ⟨rfl, H0.out.below⟩
set_option maxHeartbeats 3200000 in
theorem hol_false1 (f c ef ec : Int) (m : Nat) (b : Bool) (w : World) (h0 : 1 ≤ f ∧ f ≤ 2147483647) (h1 : 1 ≤ c ∧ c ≤ 2147483647) (h2 : 0 ≤ ef ∧ ef ≤ 2147483647) (h3 : 0 ≤ ec ∧ ec ≤ 2147483647) (g_ef : ef = 0) (g_ec : ec = 0) (g_b : b = false) (hm : m < 1024) (ht : togS m = false) : Calls Tryd.prog 27 #[.agg #[.int .i64 f, .int .i64 c, .int .i64 ef, .int .i64 ec, .int .u16 (m : Int), .bool b]] w (RetBk w (.bool false)) := by
  have H0 := Lib.hid (KtIn.start w f c ef ec m b)
  have W0 := Lib.hid (fun w => within_t f 1 2147483647 h0.1 h0.2 w)
  have W1 := Lib.hid (fun w => within_t c 1 2147483647 h1.1 h1.2 w)
  have W2 := Lib.hid (fun w => within_t ef 0 2147483647 h2.1 h2.2 w)
  have W3 := Lib.hid (fun w => within_t ec 0 2147483647 h3.1 h3.2 w)
  have t_ef : (ef != 0) = false := by rw [bne_eq_false_iff_eq]; exact g_ef
  have u_ec : (ec == 0) = true := by rw [beq_iff_eq]; exact g_ec
  subst g_b
  clear g_ef g_ec
  have a1 := clr_low ⟨m, hm⟩
  simp only at a1
  have TG := Lib.hid (fun w => show Calls Tryd.prog 23 #[.int .u16 (m : Int)] w (RetV w (.bool false)) from ht ▸ tog_ok m hm w)
  clear hm ht
  clear h0 h1 h2 h3
  go_enter Tryd.func27, Tryd.ntmps27
  go_wp2_with fail
  refine (W0.out _).mono ?_
  rintro e wq ⟨rfl, rfl⟩
  go_wp2_with fail
  refine (W1.out _).mono ?_
  rintro e wq ⟨rfl, rfl⟩
  go_wp2_with fail
  refine (W2.out _).mono ?_
  rintro e wq ⟨rfl, rfl⟩
  go_wp2_with fail
  refine (W3.out _).mono ?_
  rintro e wq ⟨rfl, rfl⟩
  go_wp2_with (go_at_call 23; refine (TG.out _).mono ?_; rintro e wq ⟨rfl, rfl⟩)
  go_ret
  exact ⟨rfl, H0.out.below⟩
set_option maxHeartbeats 3200000 in
theorem hol_true1 (f c ef ec : Int) (m : Nat) (b : Bool) (w : World) (h0 : 1 ≤ f ∧ f ≤ 2147483647) (h1 : 1 ≤ c ∧ c ≤ 2147483647) (h2 : 0 ≤ ef ∧ ef ≤ 2147483647) (h3 : 0 ≤ ec ∧ ec ≤ 2147483647) (g_ef : ef = 0) (g_ec : ec = 0) (g_b : b = false) (hm : m < 1024) (ht : togS m = true) : Calls Tryd.prog 27 #[.agg #[.int .i64 f, .int .i64 c, .int .i64 ef, .int .i64 ec, .int .u16 (m : Int), .bool b]] w (RetBk w (.bool true)) := by
  have H0 := Lib.hid (KtIn.start w f c ef ec m b)
  have W0 := Lib.hid (fun w => within_t f 1 2147483647 h0.1 h0.2 w)
  have W1 := Lib.hid (fun w => within_t c 1 2147483647 h1.1 h1.2 w)
  have W2 := Lib.hid (fun w => within_t ef 0 2147483647 h2.1 h2.2 w)
  have W3 := Lib.hid (fun w => within_t ec 0 2147483647 h3.1 h3.2 w)
  have t_ef : (ef != 0) = false := by rw [bne_eq_false_iff_eq]; exact g_ef
  have u_ec : (ec == 0) = true := by rw [beq_iff_eq]; exact g_ec
  subst g_b
  clear g_ef g_ec
  have a1 := clr_low ⟨m, hm⟩
  simp only at a1
  have TG := Lib.hid (fun w => show Calls Tryd.prog 23 #[.int .u16 (m : Int)] w (RetV w (.bool true)) from ht ▸ tog_ok m hm w)
  clear hm ht
  clear h0 h1 h2 h3
  go_enter Tryd.func27, Tryd.ntmps27
  go_wp2_with fail
  refine (W0.out _).mono ?_
  rintro e wq ⟨rfl, rfl⟩
  go_wp2_with fail
  refine (W1.out _).mono ?_
  rintro e wq ⟨rfl, rfl⟩
  go_wp2_with fail
  refine (W2.out _).mono ?_
  rintro e wq ⟨rfl, rfl⟩
  go_wp2_with fail
  refine (W3.out _).mono ?_
  rintro e wq ⟨rfl, rfl⟩
  go_wp2_with (go_at_call 23; refine (TG.out _).mono ?_; rintro e wq ⟨rfl, rfl⟩)
  go_ret
  exact ⟨rfl, H0.out.below⟩
end Go.Proofs.YtbgbmojoldkcfaaDoor
