/- numeral's exponent: the walk through its labels. -/
import Derived.Test.YtpbbgmfjdachnaaDoorVer
import Derived.Test.YtpbbgmfjdachnaaDoorEmb
import Derived.Test.YtpbbgmfjdachnaaDoorGoto
namespace Go.Proofs.YtpbbgmfjdachnaaDoor
open Go.RowKit

def expL (s : ByteArray) (b : Nat) : List UInt8 := s.data.toList.drop b
/-- What stands behind the sign. -/
def expR (s : ByteArray) (b : Nat) : List UInt8 := (expL s b).drop (1 + expSg (expL s b))
def expD (s : ByteArray) (b : Nat) : List UInt8 := (expR s b).takeWhile isDig
def expNeg (s : ByteArray) (b : Nat) : Bool := atB (expL s b) 1 == 45

theorem satS_snoc : ∀ (l : List UInt8) (e : Nat) (c : UInt8), satS e (l ++ [c]) = min (10 * satS e l + (c.toNat - 48)) 1099511627776
  | [], _, _ => rfl
  | _ :: l, _, c => satS_snoc l _ c
theorem satS_le : ∀ (l : List UInt8) (e : Nat), e ≤ 1099511627776 → satS e l ≤ 1099511627776
  | [], _, h => h
  | _ :: l, _, _ => satS_le l _ (Nat.min_le_right _ _)
theorem take_run {p : UInt8 → Bool} {l : List UInt8} {k : Nat} (h : k < (l.takeWhile p).length) : (l.takeWhile p).take (k + 1) = (l.takeWhile p).take k ++ [atB l k] ∧ p (atB l k) = true := by
  have e1 : (l.takeWhile p)[k] = atB l k := by
    have hp : l.takeWhile p <+: l := List.takeWhile_prefix p
    obtain ⟨t, ht⟩ := hp
    have : l[k]? = some (l.takeWhile p)[k] := by
      conv => lhs; rw [← ht]
      rw [List.getElem?_append_left h, List.getElem?_eq_getElem h]
    unfold atB
    rw [List.getD_eq_getElem?_getD, this]; rfl
  refine ⟨by rw [List.take_succ_eq_append_getElem h, e1], ?_⟩
  rw [← e1]
  exact mem_takeWhile (List.getElem_mem h)
theorem spanN_stop (p : UInt8 → Bool) : ∀ (l : List UInt8), p 0 = false → p (atB l (l.takeWhile p).length) = false
  | [], h => h
  | x :: r, h => by
    by_cases e : p x = true
    · have := spanN_stop p r h
      simpa [List.takeWhile, e, atB] using this
    · simp [List.takeWhile, e, atB]
theorem expD_len (s : ByteArray) (b k : Nat) (h : k < (expD s b).length) : b + 1 + expSg (expL s b) + k < s.size := by
  have h1 := (List.takeWhile_sublist (l := expR s b) isDig).length_le
  have h2 : (expR s b).length = s.size - b - (1 + expSg (expL s b)) := by unfold expR expL; rw [List.length_drop, List.length_drop, ← Lib.size_eq]
  unfold expD at h
  omega
theorem expR_at (s : ByteArray) (b k : Nat) : atB s.data.toList (b + 1 + expSg (expL s b) + k) = atB (expR s b) k := by
  unfold expR expL
  rw [drop_atB, drop_atB]
  congr 1; omega

def ExJ (s : ByteArray) (b : Nat) (w0 : World) (l : Nat) (a : Act) (w : World) : Prop :=
  (l = 0 ∧ w = w0 ∧ ∃ (e t : Int) (u2 u3 u4 u5 u8 u9 u10 u11 u12 u13 u14 u15 u16 u17 u18 u19 u20 u21 u22 u23 u24 u25 u26 u27 u28 u29 u30 u31 u32 u33 u34 u35 u36 u37 u38 u39 u40 u41 u42 u43 u44 u45 u46 u47 u48 u49 u50 u51 u52 u53 u54 : Value), a = { tmps := #[.string s, .int .i64 (b : Nat), u2, u3, u4, u5, .int .i64 e, .int .i64 t, u8, u9, u10, u11, u12, u13, u14, u15, u16, u17, u18, u19, u20, u21, u22, u23, u24, u25, u26, u27, u28, u29, u30, u31, u32, u33, u34, u35, u36, u37, u38, u39, u40, u41, u42, u43, u44, u45, u46, u47, u48, u49, u50, u51, u52, u53, u54], defers := [] } ∧ e = (expS (expL s b)).1 ∧ t = b + (expS (expL s b)).2) ∨
  (l = 1 ∧ w = w0 ∧ (atB (expL s b) 0 = 101 ∨ atB (expL s b) 0 = 69) ∧ ∃ (k : Nat) (e i : Int) (ng : Bool) (u2 u3 u4 u5 u10 u11 u12 u13 u14 u15 u16 u17 u18 u19 u20 u21 u22 u23 u24 u25 u26 u27 u28 u29 u30 u31 u32 u33 u34 u35 u36 u37 u38 u39 u40 u41 u42 u43 u44 u45 u46 u47 u48 u49 u50 u51 u52 u53 u54 : Value), a = { tmps := #[.string s, .int .i64 (b : Nat), u2, u3, u4, u5, .int .i64 e, .int .i64 i, .bool ng, .int .i64 i, u10, u11, u12, u13, u14, u15, u16, u17, u18, u19, u20, u21, u22, u23, u24, u25, u26, u27, u28, u29, u30, u31, u32, u33, u34, u35, u36, u37, u38, u39, u40, u41, u42, u43, u44, u45, u46, u47, u48, u49, u50, u51, u52, u53, u54], defers := [] } ∧ ng = expNeg s b ∧ 1 ≤ k ∧ k ≤ (expD s b).length ∧ e = satS 0 ((expD s b).take k) ∧ i = b + 1 + expSg (expL s b) + k)
def ExM (s : ByteArray) (l : Nat) (a : Act) (_ : World) : Nat := if l = 0 then 0 else s.size + 1 - (intOf (a.tmps.getD 9 undef)).toNat

def RetSame (w : World) (v : Value) (e : Ending) (w' : World) : Prop := e = .returned v ∧ w = w'
theorem RetSame.mk {w : World} {v v' : Value} (h : v = v') : RetSame w v' (.returned v) w := ⟨by rw [h], rfl⟩
theorem pair_eq {a b c d : Int} (h1 : a = c) (h2 : b = d) : Value.tuple #[.int .i64 a, .int .i64 b] = .tuple #[.int .i64 c, .int .i64 d] := by rw [h1, h2]

/-- What the exponent is, where there are k digits in all. -/
theorem expS_of (s : ByteArray) (b : Nat) (h : atB (expL s b) 0 = 101 ∨ atB (expL s b) 0 = 69) :
    ((expD s b).length = 0 → expS (expL s b) = (0, 0)) ∧ ((expD s b).length ≠ 0 → (expS (expL s b)).1 = (if expNeg s b then - (satS 0 (expD s b) : Int) else satS 0 (expD s b)) ∧ (expS (expL s b)).2 = 1 + expSg (expL s b) + (expD s b).length) := by
  have e0 : (atB (expL s b) 0 == 101 || atB (expL s b) 0 == 69) = true := by simpa using h
  have e1 : spanN isDig ((expL s b).drop (1 + expSg (expL s b))) = (expD s b).length := rfl
  constructor
  · intro hz
    unfold expS
    rw [if_pos e0, e1, if_pos hz]
  · intro hz
    unfold expS
    rw [if_pos e0, e1, if_neg hz]
    exact ⟨rfl, rfl⟩

set_option maxRecDepth 100000 in
set_option maxHeartbeats 3200000 in
theorem exponent_ok (s : ByteArray) (b : Nat) (w : World) (hs : s.size ≤ 1125899906842624) (hb : b ≤ s.size) :
    Calls Tryd.prog 69 #[.string s, .int .i64 b] w (RetSame w (.tuple #[.int .i64 (expS (expL s b)).1, .int .i64 (b + (expS (expL s b)).2 : Int)])) := by
  have a0 := Lib.hid (show atB s.data.toList b = atB (expL s b) 0 by unfold expL; rw [drop_atB]; rfl)
  have a1 := Lib.hid (show atB s.data.toList (b + 1) = atB (expL s b) 1 by unfold expL; rw [drop_atB])
  go_enter Tryd.func69, Tryd.ntmps69
  go_wp2_with fail
  refine wp_scope_labels (ExJ s b w) (ExM s) ?_ ?_
  · by_cases hc : atB (expL s b) 0 = 101 ∨ atB (expL s b) 0 = 69
    · have HC := Lib.hid hc
      have byte_lit : ∀ (x : UInt8) (n : Nat), n < 256 → ((x.toNat : Int) == (n : Int)) = (x == UInt8.ofNat n) := fun x n hn => by
        rw [Bool.eq_iff_iff, beq_iff_eq, beq_iff_eq, ← UInt8.toNat_inj]
        have : (UInt8.ofNat n).toNat = n := by simp; omega
        rw [this]; omega
      have tc : (((atB (expL s b) 0).toNat : Int) != 101) = false ∨ ((((atB (expL s b) 0).toNat : Int) != 101) = true ∧ (((atB (expL s b) 0).toNat : Int) != 69) = false) := by
        rcases hc with h | h
        · left; rw [h]; rfl
        · right; rw [h]; exact ⟨rfl, rfl⟩
      clear hc
      cases h45 : (atB (expL s b) 1 == 45) with
      | true =>
        rcases tc with t1 | ⟨t1, t2⟩
        · have HSG := Lib.hid (show expSg (expL s b) = 1 by unfold expSg; rw [h45]; rfl)
          have HNEG := Lib.hid (show expNeg s b = true by unfold expNeg; exact h45)
          have fb := Lib.hid (show atB s.data.toList (b + 1 + 1) = atB (expR s b) 0 by have := expR_at s b 0; rw [HSG.out] at this; exact this)
          have u45 : (((atB (expL s b) 1).toNat : Int) == 45) = true := by rw [← h45]; exact byte_lit _ 45 (by omega)
          have hlen := Lib.hid (expD_len s b 0)
          clear h45
          by_cases hk : 0 < (expD s b).length
          · obtain ⟨g1, g2⟩ := take_run (p := isDig) (l := expR s b) (k := 0) hk
            have hns : b + 1 + 1 < s.size := by have := hlen.out hk; rw [HSG.out] at this; omega
            have G1 := Lib.hid (show satS 0 ((expD s b).take 1) = min (10 * 0 + ((atB (expR s b) 0).toNat - 48)) 1099511627776 by
              rw [show satS 0 ((expD s b).take 1) = satS 0 ([] ++ [atB (expR s b) 0]) from congrArg (satS 0) g1, satS_snoc]; rfl)
            have G2 := Lib.hid g2
            have d1 : (48 : Int) ≤ ((atB (expR s b) 0).toNat : Int) ∧ ((atB (expR s b) 0).toNat : Int) ≤ 57 := by unfold isDig at g2; simp at g2; omega
            obtain ⟨d1, d2⟩ := d1
            clear g1 g2
            go_wp2_with (first | (go_at_call 66; refine (at_ok s _ _).mono ?_; rintro e w' ⟨rfl, rfl⟩; first | rw [a0.out] | rw [a1.out] | rw [fb.out]) | (go_at_call 68; refine (isDigit_ok _ _).mono ?_; rintro e w' ⟨rfl, rfl⟩; rw [G2.out]))
            go_step3
            go_wp2_with (first | (go_at_call 66; refine (at_ok s _ _).mono ?_; rintro e w' ⟨rfl, rfl⟩; first | rw [a0.out] | rw [a1.out] | rw [fb.out]) | (go_at_call 68; refine (isDigit_ok _ _).mono ?_; rintro e w' ⟨rfl, rfl⟩; rw [G2.out]))
            go_step3
            refine Or.inr ⟨rfl, rfl, HC.out, 1, _, _, _, _, _, _, _, _, _, _, _, _, _, _, _, _, _, _, _, _, _, _, _, _, _, _, _, _, _, _, _, _, _, _, _, _, _, _, _, _, _, _, _, _, _, _, _, _, _, _, _, _, rfl, HNEG.out.symm, by omega, by omega, ?_, ?_⟩
            · rw [G1.out]; omega
            · rw [HSG.out]; omega
          · have hz : (expD s b).length = 0 := by omega
            have hnd : isDig (atB (expR s b) 0) = false := by
              have := spanN_stop isDig (expR s b) rfl
              rw [show ((expR s b).takeWhile isDig).length = 0 from hz] at this; exact this
            have G2 := Lib.hid hnd
            have R := Lib.hid ((expS_of s b HC.out).1 hz)
            clear hnd hz hk
            go_wp2_with (first | (go_at_call 66; refine (at_ok s _ _).mono ?_; rintro e w' ⟨rfl, rfl⟩; first | rw [a0.out] | rw [a1.out] | rw [fb.out]) | (go_at_call 68; refine (isDigit_ok _ _).mono ?_; rintro e w' ⟨rfl, rfl⟩; rw [G2.out]))
            go_step3
            go_wp2_with (first | (go_at_call 66; refine (at_ok s _ _).mono ?_; rintro e w' ⟨rfl, rfl⟩; first | rw [a0.out] | rw [a1.out] | rw [fb.out]) | (go_at_call 68; refine (isDigit_ok _ _).mono ?_; rintro e w' ⟨rfl, rfl⟩; rw [G2.out]))
            go_step3
            go_wp2_with fail
            simp only [jumps]
            go_ret2
            refine RetSame.mk (pair_eq ?_ ?_)
            · rw [R.out]; try rfl
            · rw [R.out]; try simp
        · have HSG := Lib.hid (show expSg (expL s b) = 1 by unfold expSg; rw [h45]; rfl)
          have HNEG := Lib.hid (show expNeg s b = true by unfold expNeg; exact h45)
          have fb := Lib.hid (show atB s.data.toList (b + 1 + 1) = atB (expR s b) 0 by have := expR_at s b 0; rw [HSG.out] at this; exact this)
          have u45 : (((atB (expL s b) 1).toNat : Int) == 45) = true := by rw [← h45]; exact byte_lit _ 45 (by omega)
          have hlen := Lib.hid (expD_len s b 0)
          clear h45
          by_cases hk : 0 < (expD s b).length
          · obtain ⟨g1, g2⟩ := take_run (p := isDig) (l := expR s b) (k := 0) hk
            have hns : b + 1 + 1 < s.size := by have := hlen.out hk; rw [HSG.out] at this; omega
            have G1 := Lib.hid (show satS 0 ((expD s b).take 1) = min (10 * 0 + ((atB (expR s b) 0).toNat - 48)) 1099511627776 by
              rw [show satS 0 ((expD s b).take 1) = satS 0 ([] ++ [atB (expR s b) 0]) from congrArg (satS 0) g1, satS_snoc]; rfl)
            have G2 := Lib.hid g2
            have d1 : (48 : Int) ≤ ((atB (expR s b) 0).toNat : Int) ∧ ((atB (expR s b) 0).toNat : Int) ≤ 57 := by unfold isDig at g2; simp at g2; omega
            obtain ⟨d1, d2⟩ := d1
            clear g1 g2
            go_wp2_with (first | (go_at_call 66; refine (at_ok s _ _).mono ?_; rintro e w' ⟨rfl, rfl⟩; first | rw [a0.out] | rw [a1.out] | rw [fb.out]) | (go_at_call 68; refine (isDigit_ok _ _).mono ?_; rintro e w' ⟨rfl, rfl⟩; rw [G2.out]))
            go_step3
            go_wp2_with (first | (go_at_call 66; refine (at_ok s _ _).mono ?_; rintro e w' ⟨rfl, rfl⟩; first | rw [a0.out] | rw [a1.out] | rw [fb.out]) | (go_at_call 68; refine (isDigit_ok _ _).mono ?_; rintro e w' ⟨rfl, rfl⟩; rw [G2.out]))
            go_step3
            refine Or.inr ⟨rfl, rfl, HC.out, 1, _, _, _, _, _, _, _, _, _, _, _, _, _, _, _, _, _, _, _, _, _, _, _, _, _, _, _, _, _, _, _, _, _, _, _, _, _, _, _, _, _, _, _, _, _, _, _, _, _, _, _, _, rfl, HNEG.out.symm, by omega, by omega, ?_, ?_⟩
            · rw [G1.out]; omega
            · rw [HSG.out]; omega
          · have hz : (expD s b).length = 0 := by omega
            have hnd : isDig (atB (expR s b) 0) = false := by
              have := spanN_stop isDig (expR s b) rfl
              rw [show ((expR s b).takeWhile isDig).length = 0 from hz] at this; exact this
            have G2 := Lib.hid hnd
            have R := Lib.hid ((expS_of s b HC.out).1 hz)
            clear hnd hz hk
            go_wp2_with (first | (go_at_call 66; refine (at_ok s _ _).mono ?_; rintro e w' ⟨rfl, rfl⟩; first | rw [a0.out] | rw [a1.out] | rw [fb.out]) | (go_at_call 68; refine (isDigit_ok _ _).mono ?_; rintro e w' ⟨rfl, rfl⟩; rw [G2.out]))
            go_step3
            go_wp2_with (first | (go_at_call 66; refine (at_ok s _ _).mono ?_; rintro e w' ⟨rfl, rfl⟩; first | rw [a0.out] | rw [a1.out] | rw [fb.out]) | (go_at_call 68; refine (isDigit_ok _ _).mono ?_; rintro e w' ⟨rfl, rfl⟩; rw [G2.out]))
            go_step3
            go_wp2_with fail
            simp only [jumps]
            go_ret2
            refine RetSame.mk (pair_eq ?_ ?_)
            · rw [R.out]; try rfl
            · rw [R.out]; try simp
      | false =>
        cases h43 : (atB (expL s b) 1 == 43) with
        | true =>
          rcases tc with t1 | ⟨t1, t2⟩
          · have HSG := Lib.hid (show expSg (expL s b) = 1 by unfold expSg; rw [h45, h43]; rfl)
            have HNEG := Lib.hid (show expNeg s b = false by unfold expNeg; exact h45)
            have fb := Lib.hid (show atB s.data.toList (b + 1 + 1) = atB (expR s b) 0 by have := expR_at s b 0; rw [HSG.out] at this; exact this)
            have u45 : (((atB (expL s b) 1).toNat : Int) == 45) = false := by rw [← h45]; exact byte_lit _ 45 (by omega)
            have u43 : (((atB (expL s b) 1).toNat : Int) == 43) = true := by rw [← h43]; exact byte_lit _ 43 (by omega)
            have hlen := Lib.hid (expD_len s b 0)
            clear h45 h43
            by_cases hk : 0 < (expD s b).length
            · obtain ⟨g1, g2⟩ := take_run (p := isDig) (l := expR s b) (k := 0) hk
              have hns : b + 1 + 1 < s.size := by have := hlen.out hk; rw [HSG.out] at this; omega
              have G1 := Lib.hid (show satS 0 ((expD s b).take 1) = min (10 * 0 + ((atB (expR s b) 0).toNat - 48)) 1099511627776 by
                rw [show satS 0 ((expD s b).take 1) = satS 0 ([] ++ [atB (expR s b) 0]) from congrArg (satS 0) g1, satS_snoc]; rfl)
              have G2 := Lib.hid g2
              have d1 : (48 : Int) ≤ ((atB (expR s b) 0).toNat : Int) ∧ ((atB (expR s b) 0).toNat : Int) ≤ 57 := by unfold isDig at g2; simp at g2; omega
              obtain ⟨d1, d2⟩ := d1
              clear g1 g2
              go_wp2_with (first | (go_at_call 66; refine (at_ok s _ _).mono ?_; rintro e w' ⟨rfl, rfl⟩; first | rw [a0.out] | rw [a1.out] | rw [fb.out]) | (go_at_call 68; refine (isDigit_ok _ _).mono ?_; rintro e w' ⟨rfl, rfl⟩; rw [G2.out]))
              go_step3
              go_wp2_with (first | (go_at_call 66; refine (at_ok s _ _).mono ?_; rintro e w' ⟨rfl, rfl⟩; first | rw [a0.out] | rw [a1.out] | rw [fb.out]) | (go_at_call 68; refine (isDigit_ok _ _).mono ?_; rintro e w' ⟨rfl, rfl⟩; rw [G2.out]))
              go_step3
              refine Or.inr ⟨rfl, rfl, HC.out, 1, _, _, _, _, _, _, _, _, _, _, _, _, _, _, _, _, _, _, _, _, _, _, _, _, _, _, _, _, _, _, _, _, _, _, _, _, _, _, _, _, _, _, _, _, _, _, _, _, _, _, _, _, rfl, HNEG.out.symm, by omega, by omega, ?_, ?_⟩
              · rw [G1.out]; omega
              · rw [HSG.out]; omega
            · have hz : (expD s b).length = 0 := by omega
              have hnd : isDig (atB (expR s b) 0) = false := by
                have := spanN_stop isDig (expR s b) rfl
                rw [show ((expR s b).takeWhile isDig).length = 0 from hz] at this; exact this
              have G2 := Lib.hid hnd
              have R := Lib.hid ((expS_of s b HC.out).1 hz)
              clear hnd hz hk
              go_wp2_with (first | (go_at_call 66; refine (at_ok s _ _).mono ?_; rintro e w' ⟨rfl, rfl⟩; first | rw [a0.out] | rw [a1.out] | rw [fb.out]) | (go_at_call 68; refine (isDigit_ok _ _).mono ?_; rintro e w' ⟨rfl, rfl⟩; rw [G2.out]))
              go_step3
              go_wp2_with (first | (go_at_call 66; refine (at_ok s _ _).mono ?_; rintro e w' ⟨rfl, rfl⟩; first | rw [a0.out] | rw [a1.out] | rw [fb.out]) | (go_at_call 68; refine (isDigit_ok _ _).mono ?_; rintro e w' ⟨rfl, rfl⟩; rw [G2.out]))
              go_step3
              go_wp2_with fail
              simp only [jumps]
              go_ret2
              refine RetSame.mk (pair_eq ?_ ?_)
              · rw [R.out]; try rfl
              · rw [R.out]; try simp
          · have HSG := Lib.hid (show expSg (expL s b) = 1 by unfold expSg; rw [h45, h43]; rfl)
            have HNEG := Lib.hid (show expNeg s b = false by unfold expNeg; exact h45)
            have fb := Lib.hid (show atB s.data.toList (b + 1 + 1) = atB (expR s b) 0 by have := expR_at s b 0; rw [HSG.out] at this; exact this)
            have u45 : (((atB (expL s b) 1).toNat : Int) == 45) = false := by rw [← h45]; exact byte_lit _ 45 (by omega)
            have u43 : (((atB (expL s b) 1).toNat : Int) == 43) = true := by rw [← h43]; exact byte_lit _ 43 (by omega)
            have hlen := Lib.hid (expD_len s b 0)
            clear h45 h43
            by_cases hk : 0 < (expD s b).length
            · obtain ⟨g1, g2⟩ := take_run (p := isDig) (l := expR s b) (k := 0) hk
              have hns : b + 1 + 1 < s.size := by have := hlen.out hk; rw [HSG.out] at this; omega
              have G1 := Lib.hid (show satS 0 ((expD s b).take 1) = min (10 * 0 + ((atB (expR s b) 0).toNat - 48)) 1099511627776 by
                rw [show satS 0 ((expD s b).take 1) = satS 0 ([] ++ [atB (expR s b) 0]) from congrArg (satS 0) g1, satS_snoc]; rfl)
              have G2 := Lib.hid g2
              have d1 : (48 : Int) ≤ ((atB (expR s b) 0).toNat : Int) ∧ ((atB (expR s b) 0).toNat : Int) ≤ 57 := by unfold isDig at g2; simp at g2; omega
              obtain ⟨d1, d2⟩ := d1
              clear g1 g2
              go_wp2_with (first | (go_at_call 66; refine (at_ok s _ _).mono ?_; rintro e w' ⟨rfl, rfl⟩; first | rw [a0.out] | rw [a1.out] | rw [fb.out]) | (go_at_call 68; refine (isDigit_ok _ _).mono ?_; rintro e w' ⟨rfl, rfl⟩; rw [G2.out]))
              go_step3
              go_wp2_with (first | (go_at_call 66; refine (at_ok s _ _).mono ?_; rintro e w' ⟨rfl, rfl⟩; first | rw [a0.out] | rw [a1.out] | rw [fb.out]) | (go_at_call 68; refine (isDigit_ok _ _).mono ?_; rintro e w' ⟨rfl, rfl⟩; rw [G2.out]))
              go_step3
              refine Or.inr ⟨rfl, rfl, HC.out, 1, _, _, _, _, _, _, _, _, _, _, _, _, _, _, _, _, _, _, _, _, _, _, _, _, _, _, _, _, _, _, _, _, _, _, _, _, _, _, _, _, _, _, _, _, _, _, _, _, _, _, _, _, rfl, HNEG.out.symm, by omega, by omega, ?_, ?_⟩
              · rw [G1.out]; omega
              · rw [HSG.out]; omega
            · have hz : (expD s b).length = 0 := by omega
              have hnd : isDig (atB (expR s b) 0) = false := by
                have := spanN_stop isDig (expR s b) rfl
                rw [show ((expR s b).takeWhile isDig).length = 0 from hz] at this; exact this
              have G2 := Lib.hid hnd
              have R := Lib.hid ((expS_of s b HC.out).1 hz)
              clear hnd hz hk
              go_wp2_with (first | (go_at_call 66; refine (at_ok s _ _).mono ?_; rintro e w' ⟨rfl, rfl⟩; first | rw [a0.out] | rw [a1.out] | rw [fb.out]) | (go_at_call 68; refine (isDigit_ok _ _).mono ?_; rintro e w' ⟨rfl, rfl⟩; rw [G2.out]))
              go_step3
              go_wp2_with (first | (go_at_call 66; refine (at_ok s _ _).mono ?_; rintro e w' ⟨rfl, rfl⟩; first | rw [a0.out] | rw [a1.out] | rw [fb.out]) | (go_at_call 68; refine (isDigit_ok _ _).mono ?_; rintro e w' ⟨rfl, rfl⟩; rw [G2.out]))
              go_step3
              go_wp2_with fail
              simp only [jumps]
              go_ret2
              refine RetSame.mk (pair_eq ?_ ?_)
              · rw [R.out]; try rfl
              · rw [R.out]; try simp
        | false =>
          rcases tc with t1 | ⟨t1, t2⟩
          · have HSG := Lib.hid (show expSg (expL s b) = 0 by unfold expSg; rw [h45, h43]; rfl)
            have HNEG := Lib.hid (show expNeg s b = false by unfold expNeg; exact h45)
            have fb := Lib.hid (show atB s.data.toList (b + 1) = atB (expR s b) 0 by have := expR_at s b 0; rw [HSG.out] at this; exact this)
            have heq : atB (expR s b) 0 = atB (expL s b) 1 := by unfold expR; rw [drop_atB, HSG.out]
            have u45 : (((atB (expL s b) 1).toNat : Int) == 45) = false := by rw [← h45]; exact byte_lit _ 45 (by omega)
            have u43 : (((atB (expL s b) 1).toNat : Int) == 43) = false := by rw [← h43]; exact byte_lit _ 43 (by omega)
            have hlen := Lib.hid (expD_len s b 0)
            clear h45 h43
            by_cases hk : 0 < (expD s b).length
            · obtain ⟨g1, g2⟩ := take_run (p := isDig) (l := expR s b) (k := 0) hk
              rw [heq] at g1 g2
              have hns : b + 1 < s.size := by have := hlen.out hk; rw [HSG.out] at this; omega
              have G1 := Lib.hid (show satS 0 ((expD s b).take 1) = min (10 * 0 + ((atB (expL s b) 1).toNat - 48)) 1099511627776 by
                rw [show satS 0 ((expD s b).take 1) = satS 0 ([] ++ [atB (expL s b) 1]) from congrArg (satS 0) g1, satS_snoc]; rfl)
              have G2 := Lib.hid g2
              have d1 : (48 : Int) ≤ ((atB (expL s b) 1).toNat : Int) ∧ ((atB (expL s b) 1).toNat : Int) ≤ 57 := by unfold isDig at g2; simp at g2; omega
              obtain ⟨d1, d2⟩ := d1
              clear g1 g2 heq
              go_wp2_with (first | (go_at_call 66; refine (at_ok s _ _).mono ?_; rintro e w' ⟨rfl, rfl⟩; first | rw [a0.out] | rw [a1.out] | rw [fb.out]) | (go_at_call 68; refine (isDigit_ok _ _).mono ?_; rintro e w' ⟨rfl, rfl⟩; rw [G2.out]))
              go_step3
              go_wp2_with (first | (go_at_call 66; refine (at_ok s _ _).mono ?_; rintro e w' ⟨rfl, rfl⟩; first | rw [a0.out] | rw [a1.out] | rw [fb.out]) | (go_at_call 68; refine (isDigit_ok _ _).mono ?_; rintro e w' ⟨rfl, rfl⟩; rw [G2.out]))
              go_step3
              refine Or.inr ⟨rfl, rfl, HC.out, 1, _, _, _, _, _, _, _, _, _, _, _, _, _, _, _, _, _, _, _, _, _, _, _, _, _, _, _, _, _, _, _, _, _, _, _, _, _, _, _, _, _, _, _, _, _, _, _, _, _, _, _, _, rfl, HNEG.out.symm, by omega, by omega, ?_, ?_⟩
              · rw [G1.out]; omega
              · rw [HSG.out]; omega
            · have hz : (expD s b).length = 0 := by omega
              have hnd : isDig (atB (expL s b) 1) = false := by
                have := spanN_stop isDig (expR s b) rfl
                rw [show ((expR s b).takeWhile isDig).length = 0 from hz] at this; rw [heq] at this; exact this
              have G2 := Lib.hid hnd
              have R := Lib.hid ((expS_of s b HC.out).1 hz)
              clear hnd hz hk heq
              go_wp2_with (first | (go_at_call 66; refine (at_ok s _ _).mono ?_; rintro e w' ⟨rfl, rfl⟩; first | rw [a0.out] | rw [a1.out] | rw [fb.out]) | (go_at_call 68; refine (isDigit_ok _ _).mono ?_; rintro e w' ⟨rfl, rfl⟩; rw [G2.out]))
              go_step3
              go_wp2_with (first | (go_at_call 66; refine (at_ok s _ _).mono ?_; rintro e w' ⟨rfl, rfl⟩; first | rw [a0.out] | rw [a1.out] | rw [fb.out]) | (go_at_call 68; refine (isDigit_ok _ _).mono ?_; rintro e w' ⟨rfl, rfl⟩; rw [G2.out]))
              go_step3
              go_wp2_with fail
              simp only [jumps]
              go_ret2
              refine RetSame.mk (pair_eq ?_ ?_)
              · rw [R.out]; try rfl
              · rw [R.out]; try simp
          · have HSG := Lib.hid (show expSg (expL s b) = 0 by unfold expSg; rw [h45, h43]; rfl)
            have HNEG := Lib.hid (show expNeg s b = false by unfold expNeg; exact h45)
            have fb := Lib.hid (show atB s.data.toList (b + 1) = atB (expR s b) 0 by have := expR_at s b 0; rw [HSG.out] at this; exact this)
            have heq : atB (expR s b) 0 = atB (expL s b) 1 := by unfold expR; rw [drop_atB, HSG.out]
            have u45 : (((atB (expL s b) 1).toNat : Int) == 45) = false := by rw [← h45]; exact byte_lit _ 45 (by omega)
            have u43 : (((atB (expL s b) 1).toNat : Int) == 43) = false := by rw [← h43]; exact byte_lit _ 43 (by omega)
            have hlen := Lib.hid (expD_len s b 0)
            clear h45 h43
            by_cases hk : 0 < (expD s b).length
            · obtain ⟨g1, g2⟩ := take_run (p := isDig) (l := expR s b) (k := 0) hk
              rw [heq] at g1 g2
              have hns : b + 1 < s.size := by have := hlen.out hk; rw [HSG.out] at this; omega
              have G1 := Lib.hid (show satS 0 ((expD s b).take 1) = min (10 * 0 + ((atB (expL s b) 1).toNat - 48)) 1099511627776 by
                rw [show satS 0 ((expD s b).take 1) = satS 0 ([] ++ [atB (expL s b) 1]) from congrArg (satS 0) g1, satS_snoc]; rfl)
              have G2 := Lib.hid g2
              have d1 : (48 : Int) ≤ ((atB (expL s b) 1).toNat : Int) ∧ ((atB (expL s b) 1).toNat : Int) ≤ 57 := by unfold isDig at g2; simp at g2; omega
              obtain ⟨d1, d2⟩ := d1
              clear g1 g2 heq
              go_wp2_with (first | (go_at_call 66; refine (at_ok s _ _).mono ?_; rintro e w' ⟨rfl, rfl⟩; first | rw [a0.out] | rw [a1.out] | rw [fb.out]) | (go_at_call 68; refine (isDigit_ok _ _).mono ?_; rintro e w' ⟨rfl, rfl⟩; rw [G2.out]))
              go_step3
              go_wp2_with (first | (go_at_call 66; refine (at_ok s _ _).mono ?_; rintro e w' ⟨rfl, rfl⟩; first | rw [a0.out] | rw [a1.out] | rw [fb.out]) | (go_at_call 68; refine (isDigit_ok _ _).mono ?_; rintro e w' ⟨rfl, rfl⟩; rw [G2.out]))
              go_step3
              refine Or.inr ⟨rfl, rfl, HC.out, 1, _, _, _, _, _, _, _, _, _, _, _, _, _, _, _, _, _, _, _, _, _, _, _, _, _, _, _, _, _, _, _, _, _, _, _, _, _, _, _, _, _, _, _, _, _, _, _, _, _, _, _, _, rfl, HNEG.out.symm, by omega, by omega, ?_, ?_⟩
              · rw [G1.out]; omega
              · rw [HSG.out]; omega
            · have hz : (expD s b).length = 0 := by omega
              have hnd : isDig (atB (expL s b) 1) = false := by
                have := spanN_stop isDig (expR s b) rfl
                rw [show ((expR s b).takeWhile isDig).length = 0 from hz] at this; rw [heq] at this; exact this
              have G2 := Lib.hid hnd
              have R := Lib.hid ((expS_of s b HC.out).1 hz)
              clear hnd hz hk heq
              go_wp2_with (first | (go_at_call 66; refine (at_ok s _ _).mono ?_; rintro e w' ⟨rfl, rfl⟩; first | rw [a0.out] | rw [a1.out] | rw [fb.out]) | (go_at_call 68; refine (isDigit_ok _ _).mono ?_; rintro e w' ⟨rfl, rfl⟩; rw [G2.out]))
              go_step3
              go_wp2_with (first | (go_at_call 66; refine (at_ok s _ _).mono ?_; rintro e w' ⟨rfl, rfl⟩; first | rw [a0.out] | rw [a1.out] | rw [fb.out]) | (go_at_call 68; refine (isDigit_ok _ _).mono ?_; rintro e w' ⟨rfl, rfl⟩; rw [G2.out]))
              go_step3
              go_wp2_with fail
              simp only [jumps]
              go_ret2
              refine RetSame.mk (pair_eq ?_ ?_)
              · rw [R.out]; try rfl
              · rw [R.out]; try simp
    · have E := Lib.hid (show expS (expL s b) = (0, 0) by
        unfold expS
        rw [if_neg]
        simp only [Bool.or_eq_true, beq_iff_eq]
        exact hc)
      have t1 : (((atB (expL s b) 0).toNat : Int) != 101) = true := by
        rw [bne_iff_ne]; intro h; exact hc (Or.inl (UInt8.toNat_inj.1 (by show _ = (101 : UInt8).toNat; simp; omega)))
      have t2 : (((atB (expL s b) 0).toNat : Int) != 69) = true := by
        rw [bne_iff_ne]; intro h; exact hc (Or.inr (UInt8.toNat_inj.1 (by show _ = (69 : UInt8).toNat; simp; omega)))
      have HC := Lib.hid hc
      clear hc
      go_wp2_with (refine (at_ok s b _).mono ?_; rintro e w' ⟨rfl, rfl⟩; rw [a0.out])
      go_step3
      exact Or.inl ⟨rfl, rfl, 0, b, _, _, _, _, _, _, _, _, _, _, _, _, _, _, _, _, _, _, _, _, _, _, _, _, _, _, _, _, _, _, _, _, _, _, _, _, _, _, _, _, _, _, _, _, _, _, _, _, _, _, _, rfl, by rw [E.out], by rw [E.out]; simp⟩
  · rintro l a w' (⟨rfl, rfl, e, t, u2, u3, u4, u5, u8, u9, u10, u11, u12, u13, u14, u15, u16, u17, u18, u19, u20, u21, u22, u23, u24, u25, u26, u27, u28, u29, u30, u31, u32, u33, u34, u35, u36, u37, u38, u39, u40, u41, u42, u43, u44, u45, u46, u47, u48, u49, u50, u51, u52, u53, u54, rfl, he, ht⟩ | ⟨rfl, rfl, hc, k, e, i, ng, u2, u3, u4, u5, u10, u11, u12, u13, u14, u15, u16, u17, u18, u19, u20, u21, u22, u23, u24, u25, u26, u27, u28, u29, u30, u31, u32, u33, u34, u35, u36, u37, u38, u39, u40, u41, u42, u43, u44, u45, u46, u47, u48, u49, u50, u51, u52, u53, u54, rfl, rfl, hk1, hk2, he, hi⟩)
    · refine ⟨_, rfl, ?_⟩
      have HE := Lib.hid he
      have HT := Lib.hid ht
      clear he ht
      go_wp2_with fail
      simp only [jumps]
      go_ret2
      exact ⟨by rw [HE.out, HT.out]; rfl, rfl⟩
    · refine ⟨_, rfl, ?_⟩
      obtain ⟨n, hn⟩ : ∃ n : Nat, n = b + 1 + expSg (expL s b) + k := ⟨_, rfl⟩
      obtain ⟨en, hen⟩ : ∃ en : Nat, en = satS 0 ((expD s b).take k) := ⟨_, rfl⟩
      obtain rfl : i = (n : Int) := by omega
      obtain rfl : e = (en : Int) := by omega
      have hel : en ≤ 1099511627776 := by rw [hen]; exact satS_le _ _ (by omega)
      have fb := Lib.hid (show atB s.data.toList n = atB (expR s b) k by rw [hn]; exact expR_at s b k)
      have HC := Lib.hid hc
      have HN := Lib.hid hn
      have HEN := Lib.hid hen
      clear hc hn hen he hi
      by_cases hk : k < (expD s b).length
      · obtain ⟨g1, g2⟩ := take_run (p := isDig) (l := expR s b) (k := k) hk
        have hns : n < s.size := by rw [HN.out]; exact expD_len s b k hk
        have G1 := Lib.hid (show satS 0 ((expD s b).take (k + 1)) = min (10 * en + ((atB (expR s b) k).toNat - 48)) 1099511627776 by
          rw [HEN.out, ← satS_snoc]; exact congrArg (satS 0) g1)
        have G2 := Lib.hid g2
        have d1 : (48 : Int) ≤ ((atB (expR s b) k).toNat : Int) ∧ ((atB (expR s b) k).toNat : Int) ≤ 57 := by unfold isDig at g2; simp at g2; omega
        obtain ⟨d1, d2⟩ := d1
        clear g1 g2
        go_wp2_with (first | (go_at_call 66; refine (at_ok s n _).mono ?_; rintro e w' ⟨rfl, rfl⟩; rw [fb.out]) | (go_at_call 68; refine (isDigit_ok _ _).mono ?_; rintro e w' ⟨rfl, rfl⟩; rw [G2.out]))
        go_step3
        refine ⟨Or.inr ⟨rfl, rfl, HC.out, k + 1, _, _, _, _, _, _, _, _, _, _, _, _, _, _, _, _, _, _, _, _, _, _, _, _, _, _, _, _, _, _, _, _, _, _, _, _, _, _, _, _, _, _, _, _, _, _, _, _, _, _, _, _, rfl, rfl, by omega, by omega, ?_, ?_⟩, ?_⟩
        · rw [G1.out]; omega
        · have := HN.out; omega
        · show s.size + 1 - (intOf (.int .i64 ((n : Int) + 1))).toNat < s.size + 1 - (intOf (.int .i64 (n : Int))).toNat
          simp [intOf]; omega
      · have hke : k = (expD s b).length := by omega
        have hnd : isDig (atB (expR s b) k) = false := by
          rw [hke]
          exact spanN_stop isDig (expR s b) rfl
        have G2 := Lib.hid hnd
        obtain ⟨r1, r2⟩ := (expS_of s b HC.out).2 (by omega)
        have R1 := Lib.hid r1
        have R2 := Lib.hid r2
        have ht : (expD s b).take k = expD s b := List.take_of_length_le (by omega)
        have HT := Lib.hid (show en = satS 0 (expD s b) by rw [HEN.out, ht])
        have HKE := Lib.hid hke
        clear hnd r1 r2 ht hke
        cases hneg : expNeg s b with
        | true =>
          have HNEG := Lib.hid hneg
          clear hneg
          go_wp2_with (first | (go_at_call 66; refine (at_ok s n _).mono ?_; rintro e w' ⟨rfl, rfl⟩; rw [fb.out]) | (go_at_call 68; refine (isDigit_ok _ _).mono ?_; rintro e w' ⟨rfl, rfl⟩; rw [G2.out]))
          go_step3
          go_wp2_with fail
          simp only [jumps]
          go_ret2
          refine RetSame.mk (pair_eq ?_ ?_)
          · rw [R1.out, HNEG.out, ← HT.out]; rfl
          · rw [R2.out]; have := HN.out; have := HKE.out; omega
        | false =>
          have HNEG := Lib.hid hneg
          clear hneg
          go_wp2_with (first | (go_at_call 66; refine (at_ok s n _).mono ?_; rintro e w' ⟨rfl, rfl⟩; rw [fb.out]) | (go_at_call 68; refine (isDigit_ok _ _).mono ?_; rintro e w' ⟨rfl, rfl⟩; rw [G2.out]))
          go_step3
          go_wp2_with fail
          simp only [jumps]
          go_ret2
          refine RetSame.mk (pair_eq ?_ ?_)
          · rw [R1.out, HNEG.out, ← HT.out]; rfl
          · rw [R2.out]; have := HN.out; have := HKE.out; omega
end Go.Proofs.YtpbbgmfjdachnaaDoor
