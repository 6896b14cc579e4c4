/- keyspec's together, within and keyHolds: carried over from the seat of stage 4. -/
import Derived.Test.YtnpnccjeapejdaaGreatDoorNw
import Derived.Laws.BitsAllLaws
namespace Go.Proofs.YtnpnccjeapejdaaGreatDoor
open Go.RowKit

set_option maxRecDepth 100000
theorem and_nat (m b : Nat) (hm : m < 65536) (hb : b < 65536) : bits BinOp.and IntKind.u16 (m : Int) (b : Int) = ((m &&& b : Nat) : Int) := u16_and_nat m b hm hb
/-- Which modifiers go together. -/
def kindN (m : Nat) : Nat := (if m &&& 16 = 0 then 0 else 1) + (if m &&& 32 = 0 then 0 else 1) + (if m &&& 64 = 0 then 0 else 1) + (if m &&& 128 = 0 then 0 else 1) + (if m &&& 256 = 0 then 0 else 1)
def togS (m : Nat) : Bool := kindN m == 0 || (kindN m == 1 && (m &&& 2 == 0 && m &&& 8 == 0))
def togP (m : Nat) : Bool := (m &&& 496 == 0) || (((m &&& 496) &&& ((m &&& 496) - 1) == 0) && (m &&& 10 == 0))
theorem togP_all : ∀ m : Fin 1024, togP m.val = togS m.val := by decide +kernel
theorem tog_ok (m : Nat) (hm : m < 1024) (w : World) : Calls Tryz.prog 76 #[.int .u16 m] w (RetV w (.bool (togS m))) := by
  have HP := Lib.hid (togP_all ⟨m, hm⟩)
  have hk : m &&& 496 < 1024 := Nat.and_lt_two_pow (n := 10) m (by omega)
  have a1 : bits BinOp.and IntKind.u16 (m : Int) 496 = ((m &&& 496 : Nat) : Int) := and_nat m 496 (by omega) (by omega)
  have a2 : bits BinOp.and IntKind.u16 (m : Int) 10 = ((m &&& 10 : Nat) : Int) := and_nat m 10 (by omega) (by omega)
  have HPP := Lib.hid (show togS m = ((m &&& 496 == 0) || (((m &&& 496) &&& ((m &&& 496) - 1) == 0) && (m &&& 10 == 0))) from HP.out.symm)
  generalize hkd : m &&& 496 = k at *
  generalize m &&& 10 = t at *
  by_cases h1 : k = 0
  · have u1 : ((k : Int) == 0) = true := by rw [beq_iff_eq]; omega
    have H := Lib.hid h1
    clear h1 hkd
    go_enter Tryz.func76, Tryz.ntmps76
    go_wp2_with fail
    go_ret
    exact ⟨by rw [HPP.out, H.out]; rfl, rfl⟩
  · have u1 : ((k : Int) == 0) = false := by rw [beq_eq_false_iff_ne]; omega
    have hs : IntKind.u16.wrap ((k : Int) - 1) = ((k - 1 : Nat) : Int) := by simp [IntKind.wrap, IntKind.bits, IntKind.signed]; omega
    have a3 : bits BinOp.and IntKind.u16 (k : Int) ((k - 1 : Nat) : Int) = ((k &&& (k - 1) : Nat) : Int) := and_nat k (k - 1) (by omega) (by omega)
    have H1 := Lib.hid h1
    clear h1 hkd
    generalize k &&& (k - 1) = j at a3 HPP
    by_cases h2 : j = 0
    · have u2 : ((j : Int) == 0) = true := by rw [beq_iff_eq]; omega
      have H2 := Lib.hid h2
      clear h2
      by_cases h3 : t = 0
      · have u3 : ((t : Int) == 0) = true := by rw [beq_iff_eq]; omega
        have H3 := Lib.hid h3
        clear h3
        go_enter Tryz.func76, Tryz.ntmps76
        go_wp2_with fail
        go_ret
        exact ⟨by rw [HPP.out, beq_eq_false_iff_ne.2 H1.out, H2.out, H3.out]; rfl, rfl⟩
      · have u3 : ((t : Int) == 0) = false := by rw [beq_eq_false_iff_ne]; omega
        have H3 := Lib.hid h3
        clear h3
        go_enter Tryz.func76, Tryz.ntmps76
        go_wp2_with fail
        go_ret
        exact ⟨by rw [HPP.out, beq_eq_false_iff_ne.2 H1.out, H2.out, beq_eq_false_iff_ne.2 H3.out]; rfl, rfl⟩
    · have u2 : ((j : Int) == 0) = false := by rw [beq_eq_false_iff_ne]; omega
      have H2 := Lib.hid h2
      clear h2
      go_enter Tryz.func76, Tryz.ntmps76
      go_wp2_with fail
      go_ret
      exact ⟨by rw [HPP.out, beq_eq_false_iff_ne.2 H1.out, beq_eq_false_iff_ne.2 H2.out]; rfl, rfl⟩
structure Holds (f c ef ec : Int) (m : Nat) (b : Bool) : Prop where
  f1 : 1 ≤ f
  f2 : f ≤ 2147483647
  c1 : 1 ≤ c
  c2 : c ≤ 2147483647
  e1 : 0 ≤ ef
  e2 : ef ≤ 2147483647
  d1 : 0 ≤ ec
  d2 : ec ≤ 2147483647
  two : ef ≠ 0 ∨ (ec = 0 ∧ b = false)
  m1 : m < 1024
  tog : togS m = true
def kI (f c ef ec : Int) (m : Nat) (b : Bool) : List Value := [.int .i64 f, .int .i64 c, .int .i64 ef, .int .i64 ec, .int .u16 (m : Int), .bool b]
/-- Within keyText: the key's block. -/
structure KtIn (w : World) (f c ef ec : Int) (m : Nat) (b : Bool) (wr : World) : Prop where
  key : CellsAt wr w.heap.size (kI f c ef ec m b)
  below : Below w.heap.size w wr
theorem KtIn.step {w : World} {f c ef ec : Int} {m : Nat} {b : Bool} {wr w' : World} (h : KtIn w f c ef ec m b wr) (k : Below wr.heap.size wr w') : KtIn w f c ef ec m b w' := ⟨h.key.step k, h.below.trans (k.mono h.below.size)⟩
theorem KtIn.start (w : World) (f c ef ec : Int) (m : Nat) (b : Bool) : KtIn w f c ef ec m b (w.alloc (.cells (kI f c ef ec m b).toArray 54)) := ⟨CellsAt.new w _ 54, (Below.refl _ _).alloc (Nat.le_refl _) _⟩
theorem within_t (n l m : Int) (h1 : l ≤ n) (h2 : n ≤ m) (w : World) : Calls Tryz.prog 72 #[.int .i64 n, .int .i64 l, .int .i64 m] w (RetV w (.bool true)) := by
  have t1 : decide (l ≤ n) = true := by simpa using h1
  have t2 : decide (n ≤ m) = true := by simpa using h2
  go_enter Tryz.func72, Tryz.ntmps72
  go_wp2_with fail
  go_ret
  exact ⟨rfl, rfl⟩
theorem within_f (n l m : Int) (h : ¬ (l ≤ n ∧ n ≤ m)) (w : World) : Calls Tryz.prog 72 #[.int .i64 n, .int .i64 l, .int .i64 m] w (RetV w (.bool false)) := by
  by_cases h1 : l ≤ n
  · have t1 : decide (l ≤ n) = true := by simpa using h1
    have t2 : decide (n ≤ m) = false := by rw [decide_eq_false_iff_not]; exact fun e => h ⟨h1, e⟩
    clear h
    go_enter Tryz.func72, Tryz.ntmps72
    go_wp2_with fail
    go_ret
    exact ⟨rfl, rfl⟩
  · have t1 : decide (l ≤ n) = false := by simpa using h1
    clear h
    go_enter Tryz.func72, Tryz.ntmps72
    go_wp2_with fail
    go_ret
    exact ⟨rfl, rfl⟩
theorem clr_low : ∀ m : Fin 1024, bits BinOp.andNot IntKind.u16 ((m.val : Nat) : Int) 1023 = 0 := by decide +kernel
theorem clr_big (m : Nat) (hm : m < 65536) (h : ¬ m < 1024) : ∃ d : Nat, bits BinOp.andNot IntKind.u16 (m : Int) 1023 = (d : Int) ∧ ((d : Int) == 0) = false := by
  refine ⟨m &&& 64512, u16_andNot_nat m 1023 hm (by omega), ?_⟩
  rw [beq_eq_false_iff_ne]
  intro e
  have e0 : m &&& 64512 = 0 := by omega
  have e1 : (m &&& 64512) >>> 10 = (m >>> 10) &&& 63 := Nat.shiftRight_and_distrib
  rw [e0, show (63 : Nat) = 2 ^ 6 - 1 from rfl, Nat.and_two_pow_sub_one_eq_mod, Nat.shiftRight_eq_div_pow] at e1
  simp at e1
  omega
def RetBk (w : World) (v : Value) (e : Ending) (w' : World) : Prop := e = .returned v ∧ Below w.heap.size w w'
set_option maxHeartbeats 3200000 in
theorem hol_f (f c ef ec : Int) (m : Nat) (b : Bool) (w : World) (h0 : ¬ (1 ≤ f ∧ f ≤ 2147483647)) : Calls Tryz.prog 71 #[.agg #[.int .i64 f, .int .i64 c, .int .i64 ef, .int .i64 ec, .int .u16 (m : Int), .bool b]] w (RetBk w (.bool false)) := by
  have H0 := Lib.hid (KtIn.start w f c ef ec m b)
  have W0 := Lib.hid (fun w => within_f f 1 2147483647 h0 w)
  clear h0
  go_enter Tryz.func71, Tryz.ntmps71
  go_wp2_with fail
  refine (W0.out _).mono ?_
  rintro e wq ⟨rfl, rfl⟩
  go_wp2_with (go_at_call 76; refine (TG.out _).mono ?_; rintro e wq ⟨rfl, rfl⟩)
  go_ret
  exact ⟨rfl, H0.out.below⟩
set_option maxHeartbeats 3200000 in
theorem hol_c (f c ef ec : Int) (m : Nat) (b : Bool) (w : World) (h0 : 1 ≤ f ∧ f ≤ 2147483647) (h1 : ¬ (1 ≤ c ∧ c ≤ 2147483647)) : Calls Tryz.prog 71 #[.agg #[.int .i64 f, .int .i64 c, .int .i64 ef, .int .i64 ec, .int .u16 (m : Int), .bool b]] w (RetBk w (.bool false)) := by
  have H0 := Lib.hid (KtIn.start w f c ef ec m b)
  have W0 := Lib.hid (fun w => within_t f 1 2147483647 h0.1 h0.2 w)
  have W1 := Lib.hid (fun w => within_f c 1 2147483647 h1 w)
  clear h0 h1
  go_enter Tryz.func71, Tryz.ntmps71
  go_wp2_with fail
  refine (W0.out _).mono ?_
  rintro e wq ⟨rfl, rfl⟩
  go_wp2_with fail
  refine (W1.out _).mono ?_
  rintro e wq ⟨rfl, rfl⟩
  go_wp2_with (go_at_call 76; refine (TG.out _).mono ?_; rintro e wq ⟨rfl, rfl⟩)
  go_ret
  exact ⟨rfl, H0.out.below⟩
set_option maxHeartbeats 3200000 in
theorem hol_e (f c ef ec : Int) (m : Nat) (b : Bool) (w : World) (h0 : 1 ≤ f ∧ f ≤ 2147483647) (h1 : 1 ≤ c ∧ c ≤ 2147483647) (h2 : ¬ (0 ≤ ef ∧ ef ≤ 2147483647)) : Calls Tryz.prog 71 #[.agg #[.int .i64 f, .int .i64 c, .int .i64 ef, .int .i64 ec, .int .u16 (m : Int), .bool b]] w (RetBk w (.bool false)) := by
  have H0 := Lib.hid (KtIn.start w f c ef ec m b)
  have W0 := Lib.hid (fun w => within_t f 1 2147483647 h0.1 h0.2 w)
  have W1 := Lib.hid (fun w => within_t c 1 2147483647 h1.1 h1.2 w)
  have W2 := Lib.hid (fun w => within_f ef 0 2147483647 h2 w)
  clear h0 h1 h2
  go_enter Tryz.func71, Tryz.ntmps71
  go_wp2_with fail
  refine (W0.out _).mono ?_
  rintro e wq ⟨rfl, rfl⟩
  go_wp2_with fail
  refine (W1.out _).mono ?_
  rintro e wq ⟨rfl, rfl⟩
  go_wp2_with fail
  refine (W2.out _).mono ?_
  rintro e wq ⟨rfl, rfl⟩
  go_wp2_with (go_at_call 76; refine (TG.out _).mono ?_; rintro e wq ⟨rfl, rfl⟩)
  go_ret
  exact ⟨rfl, H0.out.below⟩
set_option maxHeartbeats 3200000 in
theorem hol_d (f c ef ec : Int) (m : Nat) (b : Bool) (w : World) (h0 : 1 ≤ f ∧ f ≤ 2147483647) (h1 : 1 ≤ c ∧ c ≤ 2147483647) (h2 : 0 ≤ ef ∧ ef ≤ 2147483647) (h3 : ¬ (0 ≤ ec ∧ ec ≤ 2147483647)) : Calls Tryz.prog 71 #[.agg #[.int .i64 f, .int .i64 c, .int .i64 ef, .int .i64 ec, .int .u16 (m : Int), .bool b]] w (RetBk w (.bool false)) := by
  have H0 := Lib.hid (KtIn.start w f c ef ec m b)
  have W0 := Lib.hid (fun w => within_t f 1 2147483647 h0.1 h0.2 w)
  have W1 := Lib.hid (fun w => within_t c 1 2147483647 h1.1 h1.2 w)
  have W2 := Lib.hid (fun w => within_t ef 0 2147483647 h2.1 h2.2 w)
  have W3 := Lib.hid (fun w => within_f ec 0 2147483647 h3 w)
  clear h0 h1 h2 h3
  go_enter Tryz.func71, Tryz.ntmps71
  go_wp2_with fail
  refine (W0.out _).mono ?_
  rintro e wq ⟨rfl, rfl⟩
  go_wp2_with fail
  refine (W1.out _).mono ?_
  rintro e wq ⟨rfl, rfl⟩
  go_wp2_with fail
  refine (W2.out _).mono ?_
  rintro e wq ⟨rfl, rfl⟩
  go_wp2_with fail
  refine (W3.out _).mono ?_
  rintro e wq ⟨rfl, rfl⟩
  go_wp2_with (go_at_call 76; refine (TG.out _).mono ?_; rintro e wq ⟨rfl, rfl⟩)
  go_ret
  exact ⟨rfl, H0.out.below⟩
set_option maxHeartbeats 3200000 in
theorem hol_two1 (f c ef ec : Int) (m : Nat) (b : Bool) (w : World) (h0 : 1 ≤ f ∧ f ≤ 2147483647) (h1 : 1 ≤ c ∧ c ≤ 2147483647) (h2 : 0 ≤ ef ∧ ef ≤ 2147483647) (h3 : 0 ≤ ec ∧ ec ≤ 2147483647) (g_ef : ef = 0) (g_ec : ¬ ec = 0) : Calls Tryz.prog 71 #[.agg #[.int .i64 f, .int .i64 c, .int .i64 ef, .int .i64 ec, .int .u16 (m : Int), .bool b]] w (RetBk w (.bool false)) := by
  have H0 := Lib.hid (KtIn.start w f c ef ec m b)
  have W0 := Lib.hid (fun w => within_t f 1 2147483647 h0.1 h0.2 w)
  have W1 := Lib.hid (fun w => within_t c 1 2147483647 h1.1 h1.2 w)
  have W2 := Lib.hid (fun w => within_t ef 0 2147483647 h2.1 h2.2 w)
  have W3 := Lib.hid (fun w => within_t ec 0 2147483647 h3.1 h3.2 w)
  have t_ef : (ef != 0) = false := by rw [bne_eq_false_iff_eq]; exact g_ef
  have u_ec : (ec == 0) = false := by rw [beq_eq_false_iff_ne]; exact g_ec
  clear g_ef g_ec
  clear h0 h1 h2 h3
  go_enter Tryz.func71, Tryz.ntmps71
  go_wp2_with fail
  refine (W0.out _).mono ?_
  rintro e wq ⟨rfl, rfl⟩
  go_wp2_with fail
  refine (W1.out _).mono ?_
  rintro e wq ⟨rfl, rfl⟩
  go_wp2_with fail
  refine (W2.out _).mono ?_
  rintro e wq ⟨rfl, rfl⟩
  go_wp2_with fail
  refine (W3.out _).mono ?_
  rintro e wq ⟨rfl, rfl⟩
  go_wp2_with (go_at_call 76; refine (TG.out _).mono ?_; rintro e wq ⟨rfl, rfl⟩)
  go_ret
  exact ⟨rfl, H0.out.below⟩
set_option maxHeartbeats 3200000 in
theorem hol_two2 (f c ef ec : Int) (m : Nat) (b : Bool) (w : World) (h0 : 1 ≤ f ∧ f ≤ 2147483647) (h1 : 1 ≤ c ∧ c ≤ 2147483647) (h2 : 0 ≤ ef ∧ ef ≤ 2147483647) (h3 : 0 ≤ ec ∧ ec ≤ 2147483647) (g_ef : ef = 0) (g_ec : ec = 0) (g_b : b = true) : Calls Tryz.prog 71 #[.agg #[.int .i64 f, .int .i64 c, .int .i64 ef, .int .i64 ec, .int .u16 (m : Int), .bool b]] w (RetBk w (.bool false)) := by
  have H0 := Lib.hid (KtIn.start w f c ef ec m b)
  have W0 := Lib.hid (fun w => within_t f 1 2147483647 h0.1 h0.2 w)
  have W1 := Lib.hid (fun w => within_t c 1 2147483647 h1.1 h1.2 w)
  have W2 := Lib.hid (fun w => within_t ef 0 2147483647 h2.1 h2.2 w)
  have W3 := Lib.hid (fun w => within_t ec 0 2147483647 h3.1 h3.2 w)
  have t_ef : (ef != 0) = false := by rw [bne_eq_false_iff_eq]; exact g_ef
  have u_ec : (ec == 0) = true := by rw [beq_iff_eq]; exact g_ec
  subst g_b
  clear g_ef g_ec
  clear h0 h1 h2 h3
  go_enter Tryz.func71, Tryz.ntmps71
  go_wp2_with fail
  refine (W0.out _).mono ?_
  rintro e wq ⟨rfl, rfl⟩
  go_wp2_with fail
  refine (W1.out _).mono ?_
  rintro e wq ⟨rfl, rfl⟩
  go_wp2_with fail
  refine (W2.out _).mono ?_
  rintro e wq ⟨rfl, rfl⟩
  go_wp2_with fail
  refine (W3.out _).mono ?_
  rintro e wq ⟨rfl, rfl⟩
  go_wp2_with (go_at_call 76; refine (TG.out _).mono ?_; rintro e wq ⟨rfl, rfl⟩)
  go_ret
  exact ⟨rfl, H0.out.below⟩
set_option maxHeartbeats 3200000 in
theorem hol_big0 (f c ef ec : Int) (m : Nat) (b : Bool) (w : World) (h0 : 1 ≤ f ∧ f ≤ 2147483647) (h1 : 1 ≤ c ∧ c ≤ 2147483647) (h2 : 0 ≤ ef ∧ ef ≤ 2147483647) (h3 : 0 ≤ ec ∧ ec ≤ 2147483647) (g_ef : ¬ ef = 0) (hm : m < 65536) (hm2 : ¬ m < 1024) : Calls Tryz.prog 71 #[.agg #[.int .i64 f, .int .i64 c, .int .i64 ef, .int .i64 ec, .int .u16 (m : Int), .bool b]] w (RetBk w (.bool false)) := by
  have H0 := Lib.hid (KtIn.start w f c ef ec m b)
  have W0 := Lib.hid (fun w => within_t f 1 2147483647 h0.1 h0.2 w)
  have W1 := Lib.hid (fun w => within_t c 1 2147483647 h1.1 h1.2 w)
  have W2 := Lib.hid (fun w => within_t ef 0 2147483647 h2.1 h2.2 w)
  have W3 := Lib.hid (fun w => within_t ec 0 2147483647 h3.1 h3.2 w)
  have t_ef : (ef != 0) = true := by rw [bne_iff_ne]; exact g_ef
  clear g_ef
  obtain ⟨d, a1, a2⟩ := clr_big m hm hm2
  clear hm hm2
  clear h0 h1 h2 h3
  go_enter Tryz.func71, Tryz.ntmps71
  go_wp2_with fail
  refine (W0.out _).mono ?_
  rintro e wq ⟨rfl, rfl⟩
  go_wp2_with fail
  refine (W1.out _).mono ?_
  rintro e wq ⟨rfl, rfl⟩
  go_wp2_with fail
  refine (W2.out _).mono ?_
  rintro e wq ⟨rfl, rfl⟩
  go_wp2_with fail
  refine (W3.out _).mono ?_
  rintro e wq ⟨rfl, rfl⟩
  go_wp2_with (go_at_call 76; refine (TG.out _).mono ?_; rintro e wq ⟨rfl, rfl⟩)
  go_ret
  exact ⟨rfl, H0.out.below⟩
set_option maxHeartbeats 3200000 in
theorem hol_false0 (f c ef ec : Int) (m : Nat) (b : Bool) (w : World) (h0 : 1 ≤ f ∧ f ≤ 2147483647) (h1 : 1 ≤ c ∧ c ≤ 2147483647) (h2 : 0 ≤ ef ∧ ef ≤ 2147483647) (h3 : 0 ≤ ec ∧ ec ≤ 2147483647) (g_ef : ¬ ef = 0) (hm : m < 1024) (ht : togS m = false) : Calls Tryz.prog 71 #[.agg #[.int .i64 f, .int .i64 c, .int .i64 ef, .int .i64 ec, .int .u16 (m : Int), .bool b]] w (RetBk w (.bool false)) := by
  have H0 := Lib.hid (KtIn.start w f c ef ec m b)
  have W0 := Lib.hid (fun w => within_t f 1 2147483647 h0.1 h0.2 w)
  have W1 := Lib.hid (fun w => within_t c 1 2147483647 h1.1 h1.2 w)
  have W2 := Lib.hid (fun w => within_t ef 0 2147483647 h2.1 h2.2 w)
  have W3 := Lib.hid (fun w => within_t ec 0 2147483647 h3.1 h3.2 w)
  have t_ef : (ef != 0) = true := by rw [bne_iff_ne]; exact g_ef
  clear g_ef
  have a1 := clr_low ⟨m, hm⟩
  simp only at a1
  have TG := Lib.hid (fun w => show Calls Tryz.prog 76 #[.int .u16 (m : Int)] w (RetV w (.bool false)) from ht ▸ tog_ok m hm w)
  clear hm ht
  clear h0 h1 h2 h3
  go_enter Tryz.func71, Tryz.ntmps71
  go_wp2_with fail
  refine (W0.out _).mono ?_
  rintro e wq ⟨rfl, rfl⟩
  go_wp2_with fail
  refine (W1.out _).mono ?_
  rintro e wq ⟨rfl, rfl⟩
  go_wp2_with fail
  refine (W2.out _).mono ?_
  rintro e wq ⟨rfl, rfl⟩
  go_wp2_with fail
  refine (W3.out _).mono ?_
  rintro e wq ⟨rfl, rfl⟩
  go_wp2_with (go_at_call 76; refine (TG.out _).mono ?_; rintro e wq ⟨rfl, rfl⟩)
  go_ret
  exact ⟨rfl, H0.out.below⟩
set_option maxHeartbeats 3200000 in
theorem hol_true0 (f c ef ec : Int) (m : Nat) (b : Bool) (w : World) (h0 : 1 ≤ f ∧ f ≤ 2147483647) (h1 : 1 ≤ c ∧ c ≤ 2147483647) (h2 : 0 ≤ ef ∧ ef ≤ 2147483647) (h3 : 0 ≤ ec ∧ ec ≤ 2147483647) (g_ef : ¬ ef = 0) (hm : m < 1024) (ht : togS m = true) : Calls Tryz.prog 71 #[.agg #[.int .i64 f, .int .i64 c, .int .i64 ef, .int .i64 ec, .int .u16 (m : Int), .bool b]] w (RetBk w (.bool true)) := by
  have H0 := Lib.hid (KtIn.start w f c ef ec m b)
  have W0 := Lib.hid (fun w => within_t f 1 2147483647 h0.1 h0.2 w)
  have W1 := Lib.hid (fun w => within_t c 1 2147483647 h1.1 h1.2 w)
  have W2 := Lib.hid (fun w => within_t ef 0 2147483647 h2.1 h2.2 w)
  have W3 := Lib.hid (fun w => within_t ec 0 2147483647 h3.1 h3.2 w)
  have t_ef : (ef != 0) = true := by rw [bne_iff_ne]; exact g_ef
  clear g_ef
  have a1 := clr_low ⟨m, hm⟩
  simp only at a1
  have TG := Lib.hid (fun w => show Calls Tryz.prog 76 #[.int .u16 (m : Int)] w (RetV w (.bool true)) from ht ▸ tog_ok m hm w)
  clear hm ht
  clear h0 h1 h2 h3
  go_enter Tryz.func71, Tryz.ntmps71
  go_wp2_with fail
  refine (W0.out _).mono ?_
  rintro e wq ⟨rfl, rfl⟩
  go_wp2_with fail
  refine (W1.out _).mono ?_
  rintro e wq ⟨rfl, rfl⟩
  go_wp2_with fail
  refine (W2.out _).mono ?_
  rintro e wq ⟨rfl, rfl⟩
  go_wp2_with fail
  refine (W3.out _).mono ?_
  rintro e wq ⟨rfl, rfl⟩
  go_wp2_with (go_at_call 76; refine (TG.out _).mono ?_; rintro e wq ⟨rfl, rfl⟩)
  go_ret
  exact ⟨rfl, H0.out.below⟩
set_option maxHeartbeats 3200000 in
theorem hol_big1 (f c ef ec : Int) (m : Nat) (b : Bool) (w : World) (h0 : 1 ≤ f ∧ f ≤ 2147483647) (h1 : 1 ≤ c ∧ c ≤ 2147483647) (h2 : 0 ≤ ef ∧ ef ≤ 2147483647) (h3 : 0 ≤ ec ∧ ec ≤ 2147483647) (g_ef : ef = 0) (g_ec : ec = 0) (g_b : b = false) (hm : m < 65536) (hm2 : ¬ m < 1024) : Calls Tryz.prog 71 #[.agg #[.int .i64 f, .int .i64 c, .int .i64 ef, .int .i64 ec, .int .u16 (m : Int), .bool b]] w (RetBk w (.bool false)) := by
  have H0 := Lib.hid (KtIn.start w f c ef ec m b)
  have W0 := Lib.hid (fun w => within_t f 1 2147483647 h0.1 h0.2 w)
  have W1 := Lib.hid (fun w => within_t c 1 2147483647 h1.1 h1.2 w)
  have W2 := Lib.hid (fun w => within_t ef 0 2147483647 h2.1 h2.2 w)
  have W3 := Lib.hid (fun w => within_t ec 0 2147483647 h3.1 h3.2 w)
  have t_ef : (ef != 0) = false := by rw [bne_eq_false_iff_eq]; exact g_ef
  have u_ec : (ec == 0) = true := by rw [beq_iff_eq]; exact g_ec
  subst g_b
  clear g_ef g_ec
  obtain ⟨d, a1, a2⟩ := clr_big m hm hm2
  clear hm hm2
  clear h0 h1 h2 h3
  go_enter Tryz.func71, Tryz.ntmps71
  go_wp2_with fail
  refine (W0.out _).mono ?_
  rintro e wq ⟨rfl, rfl⟩
  go_wp2_with fail
  refine (W1.out _).mono ?_
  rintro e wq ⟨rfl, rfl⟩
  go_wp2_with fail
  refine (W2.out _).mono ?_
  rintro e wq ⟨rfl, rfl⟩
  go_wp2_with fail
  refine (W3.out _).mono ?_
  rintro e wq ⟨rfl, rfl⟩
  go_wp2_with (go_at_call 76; refine (TG.out _).mono ?_; rintro e wq ⟨rfl, rfl⟩)
  go_ret
  exact ⟨rfl, H0.out.below⟩
set_option maxHeartbeats 3200000 in
theorem hol_false1 (f c ef ec : Int) (m : Nat) (b : Bool) (w : World) (h0 : 1 ≤ f ∧ f ≤ 2147483647) (h1 : 1 ≤ c ∧ c ≤ 2147483647) (h2 : 0 ≤ ef ∧ ef ≤ 2147483647) (h3 : 0 ≤ ec ∧ ec ≤ 2147483647) (g_ef : ef = 0) (g_ec : ec = 0) (g_b : b = false) (hm : m < 1024) (ht : togS m = false) : Calls Tryz.prog 71 #[.agg #[.int .i64 f, .int .i64 c, .int .i64 ef, .int .i64 ec, .int .u16 (m : Int), .bool b]] w (RetBk w (.bool false)) := by
  have H0 := Lib.hid (KtIn.start w f c ef ec m b)
  have W0 := Lib.hid (fun w => within_t f 1 2147483647 h0.1 h0.2 w)
  have W1 := Lib.hid (fun w => within_t c 1 2147483647 h1.1 h1.2 w)
  have W2 := Lib.hid (fun w => within_t ef 0 2147483647 h2.1 h2.2 w)
  have W3 := Lib.hid (fun w => within_t ec 0 2147483647 h3.1 h3.2 w)
  have t_ef : (ef != 0) = false := by rw [bne_eq_false_iff_eq]; exact g_ef
  have u_ec : (ec == 0) = true := by rw [beq_iff_eq]; exact g_ec
  subst g_b
  clear g_ef g_ec
  have a1 := clr_low ⟨m, hm⟩
  simp only at a1
  have TG := Lib.hid (fun w => show Calls Tryz.prog 76 #[.int .u16 (m : Int)] w (RetV w (.bool false)) from ht ▸ tog_ok m hm w)
  clear hm ht
  clear h0 h1 h2 h3
  go_enter Tryz.func71, Tryz.ntmps71
  go_wp2_with fail
  refine (W0.out _).mono ?_
  rintro e wq ⟨rfl, rfl⟩
  go_wp2_with fail
  refine (W1.out _).mono ?_
  rintro e wq ⟨rfl, rfl⟩
  go_wp2_with fail
  refine (W2.out _).mono ?_
  rintro e wq ⟨rfl, rfl⟩
  go_wp2_with fail
  refine (W3.out _).mono ?_
  rintro e wq ⟨rfl, rfl⟩
  go_wp2_with (go_at_call 76; refine (TG.out _).mono ?_; rintro e wq ⟨rfl, rfl⟩)
  go_ret
  exact ⟨rfl, H0.out.below⟩
set_option maxHeartbeats 3200000 in
theorem hol_true1 (f c ef ec : Int) (m : Nat) (b : Bool) (w : World) (h0 : 1 ≤ f ∧ f ≤ 2147483647) (h1 : 1 ≤ c ∧ c ≤ 2147483647) (h2 : 0 ≤ ef ∧ ef ≤ 2147483647) (h3 : 0 ≤ ec ∧ ec ≤ 2147483647) (g_ef : ef = 0) (g_ec : ec = 0) (g_b : b = false) (hm : m < 1024) (ht : togS m = true) : Calls Tryz.prog 71 #[.agg #[.int .i64 f, .int .i64 c, .int .i64 ef, .int .i64 ec, .int .u16 (m : Int), .bool b]] w (RetBk w (.bool true)) := by
  have H0 := Lib.hid (KtIn.start w f c ef ec m b)
  have W0 := Lib.hid (fun w => within_t f 1 2147483647 h0.1 h0.2 w)
  have W1 := Lib.hid (fun w => within_t c 1 2147483647 h1.1 h1.2 w)
  have W2 := Lib.hid (fun w => within_t ef 0 2147483647 h2.1 h2.2 w)
  have W3 := Lib.hid (fun w => within_t ec 0 2147483647 h3.1 h3.2 w)
  have t_ef : (ef != 0) = false := by rw [bne_eq_false_iff_eq]; exact g_ef
  have u_ec : (ec == 0) = true := by rw [beq_iff_eq]; exact g_ec
  subst g_b
  clear g_ef g_ec
  have a1 := clr_low ⟨m, hm⟩
  simp only at a1
  have TG := Lib.hid (fun w => show Calls Tryz.prog 76 #[.int .u16 (m : Int)] w (RetV w (.bool true)) from ht ▸ tog_ok m hm w)
  clear hm ht
  clear h0 h1 h2 h3
  go_enter Tryz.func71, Tryz.ntmps71
  go_wp2_with fail
  refine (W0.out _).mono ?_
  rintro e wq ⟨rfl, rfl⟩
  go_wp2_with fail
  refine (W1.out _).mono ?_
  rintro e wq ⟨rfl, rfl⟩
  go_wp2_with fail
  refine (W2.out _).mono ?_
  rintro e wq ⟨rfl, rfl⟩
  go_wp2_with fail
  refine (W3.out _).mono ?_
  rintro e wq ⟨rfl, rfl⟩
  go_wp2_with (go_at_call 76; refine (TG.out _).mono ?_; rintro e wq ⟨rfl, rfl⟩)
  go_ret
  exact ⟨rfl, H0.out.below⟩
theorem hol_yes (f c ef ec : Int) (m : Nat) (b : Bool) (w : World) (h : Holds f c ef ec m b) : Calls Tryz.prog 71 #[.agg #[.int .i64 f, .int .i64 c, .int .i64 ef, .int .i64 ec, .int .u16 (m : Int), .bool b]] w (RetBk w (.bool true)) := by
  by_cases he : ef = 0
  · rcases h.two with h2 | ⟨h2, h3⟩
    · exact absurd he h2
    · exact hol_true1 f c ef ec m b w ⟨h.f1, h.f2⟩ ⟨h.c1, h.c2⟩ ⟨h.e1, h.e2⟩ ⟨h.d1, h.d2⟩ he h2 h3 h.m1 h.tog
  · exact hol_true0 f c ef ec m b w ⟨h.f1, h.f2⟩ ⟨h.c1, h.c2⟩ ⟨h.e1, h.e2⟩ ⟨h.d1, h.d2⟩ he h.m1 h.tog
theorem hol_no (f c ef ec : Int) (m : Nat) (hm : m < 65536) (b : Bool) (w : World) (h : ¬ Holds f c ef ec m b) : Calls Tryz.prog 71 #[.agg #[.int .i64 f, .int .i64 c, .int .i64 ef, .int .i64 ec, .int .u16 (m : Int), .bool b]] w (RetBk w (.bool false)) := by
  by_cases hf : 1 ≤ f ∧ f ≤ 2147483647
  · by_cases hc : 1 ≤ c ∧ c ≤ 2147483647
    · by_cases he : 0 ≤ ef ∧ ef ≤ 2147483647
      · by_cases hd : 0 ≤ ec ∧ ec ≤ 2147483647
        · by_cases h0 : ef = 0
          · by_cases h1 : ec = 0
            · cases b with
              | true => exact hol_two2 f c ef ec m true w hf hc he hd h0 h1 rfl
              | false =>
                by_cases hm1 : m < 1024
                · cases ht : togS m with
                  | true => exact absurd ⟨hf.1, hf.2, hc.1, hc.2, he.1, he.2, hd.1, hd.2, Or.inr ⟨h1, rfl⟩, hm1, ht⟩ h
                  | false => exact hol_false1 f c ef ec m false w hf hc he hd h0 h1 rfl hm1 ht
                · exact hol_big1 f c ef ec m false w hf hc he hd h0 h1 rfl hm hm1
            · exact hol_two1 f c ef ec m b w hf hc he hd h0 h1
          · by_cases hm1 : m < 1024
            · cases ht : togS m with
              | true => exact absurd ⟨hf.1, hf.2, hc.1, hc.2, he.1, he.2, hd.1, hd.2, Or.inl h0, hm1, ht⟩ h
              | false => exact hol_false0 f c ef ec m b w hf hc he hd h0 hm1 ht
            · exact hol_big0 f c ef ec m b w hf hc he hd h0 hm hm1
        · exact hol_d f c ef ec m b w hf hc he hd
      · exact hol_e f c ef ec m b w hf hc he
    · exact hol_c f c ef ec m b w hf hc
  · exact hol_f f c ef ec m b w hf
end Go.Proofs.YtnpnccjeapejdaaGreatDoor
