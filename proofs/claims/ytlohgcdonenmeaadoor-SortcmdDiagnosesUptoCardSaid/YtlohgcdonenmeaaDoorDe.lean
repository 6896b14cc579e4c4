import Derived.Test.YtlohgcdonenmeaaDoorDe1
namespace Go.Proofs.YtlohgcdonenmeaaDoor
open Go.RowKit
set_option maxRecDepth 100000
set_option maxHeartbeats 2000000 in
theorem decimal_ok : ∀ (N : Nat) (n : Int), n.natAbs ≤ N → -9223372036854775808 ≤ n → n ≤ 9223372036854775807 → ∀ w, Calls Tryd.prog 12 #[.int .i64 n] w (RetBelow w (.string (bs (dcS n)))) := by
  intro N
  induction N with
  | zero =>
    intro n hn _ _ w
    obtain rfl : n = 0 := by omega
    go_enter Tryd.func12, Tryd.ntmps12
    go_wp2_with fail
    go_ret
    refine ⟨?_, Below.refl _ _⟩
    show Ending.returned (.string (Utf8.encode 48)) = _
    rw [enc_digit 48 48 rfl (by decide), dc_small (by omega) (by omega)]
    rfl
  | succ N ih =>
    intro n hn h0 h1 w
    have IH := Lib.hid ih
    clear ih
    by_cases hA : n ≤ -10
    · have tA : decide (n ≤ -10) = true := decide_eq_true hA
      obtain ⟨m, hm⟩ : ∃ m : Int, m = -((n.natAbs / 10 : Nat) : Int) := ⟨_, rfl⟩
      obtain ⟨r, hr⟩ : ∃ r : Nat, r = n.natAbs % 10 := ⟨_, rfl⟩
      have hq : n.tdiv 10 = m := by rw [(tdiv_neg (by omega)).1, hm]
      obtain ⟨t, ht⟩ : ∃ t : Int, t = -(r : Int) := ⟨_, rfl⟩
      obtain ⟨z, hz⟩ : ∃ z : Int, z = 48 - t := ⟨_, rfl⟩
      have hr1 : n.tmod 10 = t := by rw [(tdiv_neg (by omega)).2, ht, hr]
      have hr9 : r < 10 := by omega
      have hD := Lib.hid (show dcS n = dcS m ++ [UInt8.ofNat (48 + r)] by rw [dc_low hA, ← hm, ← hr])
      have HI := Lib.hid (IH.out m (by omega) (by omega) (by omega))
      have hL := Lib.hid (dc_len m (by omega) (by omega))
      have hE := Lib.hid (enc_digit z (48 + r) (by omega) (by omega))
      have hw : wrap64 m = m := by unfold wrap64; omega
      have hw2 : wrap64 (48 - t) = z := by unfold wrap64; omega
      have hw3 : wrap32 z = z := by unfold wrap32; omega
      have HZ := Lib.hid hw3
      clear IH hm hr hA hn h0 h1 ht hz hr9 hw3
      go_enter Tryd.func12, Tryd.ntmps12
      go_wp2_with (go_at_call 12; refine (HI.out _).mono ?_)
      rintro e w1 ⟨rfl, b1⟩
      have B1 := Lib.hid b1
      clear b1 HI
      generalize hM : bs (dcS m) = M at *
      generalize hX : Utf8.encode z = X at *
      have w3 := HZ.out
      have z1 : ¬ 9223372036854775807 < M.size + X.size := by rw [hE.out, bs_size]; have := hL.out; simp; omega
      have HM := Lib.hid hM
      have HX := Lib.hid hX
      have HE := Lib.hid hE.out
      clear hM
      go_wp2_with fail
      go_ret
      exact ⟨by rw [hD.out, ← bs_cat, HM.out, ← HE.out]; rfl, B1.out⟩
    · have tA : decide (n ≤ -10) = false := decide_eq_false hA
      by_cases hN : n < 0
      · have tN : decide (n < 0) = true := decide_eq_true hN
        obtain ⟨r, hr⟩ : ∃ r : Nat, r = n.natAbs := ⟨_, rfl⟩
        obtain ⟨z, hz⟩ : ∃ z : Int, z = 48 - n := ⟨_, rfl⟩
        have hD := Lib.hid (show dcS n = [45] ++ [UInt8.ofNat (48 + r)] by rw [dc_neg (by omega) hN, ← hr])
        have hE := Lib.hid (enc_digit z (48 + r) (by omega) (by omega))
        have hw2 : wrap64 (48 - n) = z := by unfold wrap64; omega
        have hw3 : wrap32 z = z := by unfold wrap32; omega
        clear IH hr hA hN hn h0 h1 hz
        generalize hX : Utf8.encode z = X at *
        have z1 : ¬ 9223372036854775807 < (⟨#[45]⟩ : ByteArray).size + X.size := by rw [hE.out, bs_size]; show ¬ 9223372036854775807 < 1 + 1; decide
        have HX := Lib.hid hX
        go_enter Tryd.func12, Tryd.ntmps12
        go_wp2_with fail
        go_ret
        exact ⟨by rw [hD.out, ← bs_cat, ← hE.out]; rfl, Below.refl _ _⟩
      · have tN : decide (n < 0) = false := decide_eq_false hN
        by_cases hT : n < 10
        · have tT : decide (n < 10) = true := decide_eq_true hT
          obtain ⟨r, hr⟩ : ∃ r : Nat, r = n.toNat := ⟨_, rfl⟩
          obtain ⟨z, hz⟩ : ∃ z : Int, z = 48 + n := ⟨_, rfl⟩
          have hD := Lib.hid (show dcS n = [UInt8.ofNat (48 + r)] by rw [dc_small (by omega) hT, ← hr])
          have hE := Lib.hid (enc_digit z (48 + r) (by omega) (by omega))
          have hw2 : wrap64 (48 + n) = z := by unfold wrap64; omega
          have hw3 : wrap32 z = z := by unfold wrap32; omega
          clear IH hr hA hN hn h0 h1 hz hT
          generalize hX : Utf8.encode z = X at *
          have HX := Lib.hid hX
          go_enter Tryd.func12, Tryd.ntmps12
          go_wp2_with fail
          go_ret
          exact ⟨by rw [hD.out, ← hE.out]; rfl, Below.refl _ _⟩
        · have tT : decide (n < 10) = false := decide_eq_false hT
          obtain ⟨m, hm⟩ : ∃ m : Int, m = n / 10 := ⟨_, rfl⟩
          obtain ⟨r, hr⟩ : ∃ r : Nat, r = n.toNat % 10 := ⟨_, rfl⟩
          have hq : n.tdiv 10 = m := by rw [(tdiv_pos (by omega)).1, hm]
          obtain ⟨t, ht⟩ : ∃ t : Int, t = (r : Int) := ⟨_, rfl⟩
          obtain ⟨z, hz⟩ : ∃ z : Int, z = 48 + t := ⟨_, rfl⟩
          have hr1 : n.tmod 10 = t := by rw [(tdiv_pos (by omega)).2, ht, hr]; omega
          have hr9 : r < 10 := by omega
          have hD := Lib.hid (show dcS n = dcS m ++ [UInt8.ofNat (48 + r)] by rw [dc_big (by omega), ← hm, ← hr])
          have HI := Lib.hid (IH.out m (by omega) (by omega) (by omega))
          have hL := Lib.hid (dc_len m (by omega) (by omega))
          have hE := Lib.hid (enc_digit z (48 + r) (by omega) (by omega))
          have hw : wrap64 m = m := by unfold wrap64; omega
          have hw2 : wrap64 (48 + t) = z := by unfold wrap64; omega
          have hw3 : wrap32 z = z := by unfold wrap32; omega
          have HZ := Lib.hid hw3
          clear IH hm hr hA hn h0 h1 ht hz hr9 hw3 hN hT
          go_enter Tryd.func12, Tryd.ntmps12
          go_wp2_with (go_at_call 12; refine (HI.out _).mono ?_)
          rintro e w1 ⟨rfl, b1⟩
          have B1 := Lib.hid b1
          clear b1 HI
          generalize hM : bs (dcS m) = M at *
          generalize hX : Utf8.encode z = X at *
          have w3 := HZ.out
          have z1 : ¬ 9223372036854775807 < M.size + X.size := by rw [hE.out, bs_size]; have := hL.out; simp; omega
          have HM := Lib.hid hM
          have HX := Lib.hid hX
          have HE := Lib.hid hE.out
          clear hM
          go_wp2_with fail
          go_ret
          exact ⟨by rw [hD.out, ← bs_cat, HM.out, ← HE.out]; rfl, B1.out⟩
end Go.Proofs.YtlohgcdonenmeaaDoor
