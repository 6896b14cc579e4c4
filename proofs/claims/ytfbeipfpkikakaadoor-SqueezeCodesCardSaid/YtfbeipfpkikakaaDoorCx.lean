/- The document's lengths: do they make a code. -/
import Derived.Test.YtfbeipfpkikakaaDoorCy
namespace Go.Proofs.YtfbeipfpkikakaaDoor
open Go.RowKit

set_option maxRecDepth 100000
set_option maxHeartbeats 1600000 in
theorem makes_ok {a : Option Addr} {c : Nat} {ls : List Nat} (h16 : ∀ x ∈ ls, x < 16) (hlen : ls.length ≤ 512) (w : World) (hc : SlI w (.slice a ls.length c) ls) :
    Calls Tryd.prog 33 #[.slice a ls.length c] w (Same w (.bool (isCode (cnt ls)))) := by
  have HC := Lib.hid hc
  have H16 := Lib.hid h16
  have US := Lib.hid (used_ok h16 hlen w hc)
  have MK := Lib.hid (mk_is ls)
  clear hc h16
  go_enter Tryd.func33, Tryd.ntmps33
  go_wp2_with fail
  go_loop [3, 4] (fun s i => ∃ k : Nat, k ≤ ls.length ∧ i = .int .i64 (k : Int) ∧ s = .int .i64 ((roomN (cnt (ls.take k)) 15 : Nat) : Int)) (fun _ i => (ls.length - (intOf i).toNat))
  case atStart => exact ⟨0, Nat.zero_le _, rfl, by rw [List.take_zero, roomL_nil]; rfl⟩
  case round =>
    obtain ⟨k, hk, rfl, rfl⟩ := hrel
    by_cases hlt : k < ls.length
    · obtain ⟨b, off, rfl⟩ := HC.out.at (List.ne_nil_of_length_pos (by omega))
      have cx := HC.out.get.2 k ls[k] (List.getElem?_eq_getElem hlt)
      have hx := H16.out ls[k] (List.getElem_mem hlt)
      have SE := take_snoc' hlt
      have sl := roomL_le (ls.take k)
      have lt' : (ls.take k).length ≤ 512 := by simp; omega
      have TS := Lib.hid (show roomN (cnt (ls.take (k + 1))) 15 = roomN (cnt (ls.take k)) 15 + if 1 ≤ ls[k] ∧ ls[k] ≤ 15 then 2 ^ (15 - ls[k]) else 0 by rw [SE, room_cons])
      have ME := Lib.hid (show ls.length - ((k : Int) + 1).toNat < ls.length - (k : Int).toNat by omega)
      have sl2 : roomN (cnt (ls.take k)) 15 ≤ 8388608 := Nat.le_trans sl (by omega)
      clear SE sl
      generalize roomN (cnt (ls.take k)) 15 = s at *
      generalize ls[k] = x at *
      have k1 : (k : Int) < (ls.length : Int) := by omega
      have k2 : (0 : Int) ≤ (k : Int) := by omega
      have t1 : decide ((k : Int) < (ls.length : Int)) = true := decide_eq_true k1
      have t1n : decide (k < ls.length) = true := decide_eq_true hlt
      have s1 : decide ((x : Int) < 0) = false := decide_eq_false (by omega)
      have s2 : decide (15 < (x : Int)) = false := decide_eq_false (by omega)
      by_cases hx0 : x = 0
      · have TS' := Lib.hid (show roomN (cnt (ls.take (k + 1))) 15 = s by rw [TS.out, if_neg (by omega)]; rfl)
        subst hx0
        have KK := Lib.hid (show ∃ k2 : Nat, k2 ≤ ls.length ∧ (.int .i64 ((k : Int) + 1) : Value) = .int .i64 (k2 : Int) ∧ (.int .i64 (s : Int) : Value) = .int .i64 ((roomN (cnt (ls.take k2)) 15 : Nat) : Int) from ⟨k + 1, hlt, by go_num, by rw [TS'.out]⟩)
        clear TS TS'
        go_wp2_with fail
        exact ⟨KK.out, ME.out⟩
      · obtain ⟨y, hy⟩ : ∃ y, y = 15 - x := ⟨_, rfl⟩
        have TS' := Lib.hid (show roomN (cnt (ls.take (k + 1))) 15 = s + 2 ^ y by rw [TS.out, if_pos (by omega), hy])
        have hp : 2 ^ y ≤ 16384 := by rw [hy]; exact pow_le14 (by omega)
        have e1 : 15 - (x : Int) = (y : Int) := by omega
        have n0 : decide ((0 : Int) < (x : Int)) = true := decide_eq_true (by omega)
        have n0n : decide (0 < x) = true := decide_eq_true (by omega)
        have y15 : y ≤ 14 := by omega
        have KK := Lib.hid (show ∃ k2 : Nat, k2 ≤ ls.length ∧ (.int .i64 ((k : Int) + 1) : Value) = .int .i64 (k2 : Int) ∧ (.int .i64 ((s : Int) + 2 ^ y) : Value) = .int .i64 ((roomN (cnt (ls.take k2)) 15 : Nat) : Int) from ⟨k + 1, hlt, by go_num, by rw [TS'.out, Int.natCast_add, Int.natCast_pow]; rfl⟩)
        have pc : ((2 : Int) ^ y) = ((2 ^ y : Nat) : Int) := by rw [Int.natCast_pow]; rfl
        have pl : ((2 : Int) ^ y) ≤ 16384 := by rw [pc]; exact Int.ofNat_le.2 hp
        have pn : (0 : Int) ≤ ((2 : Int) ^ y) := by rw [pc]; exact Int.natCast_nonneg _
        clear pc hp
        have w1 : IntKind.i64.wrap ((2 : Int) ^ y) = (2 : Int) ^ y := by generalize (2 : Int) ^ y = q at *; exact IntWalk.i64_in _ (by omega)
        have w2 : IntKind.i64.wrap ((s : Int) + (2 : Int) ^ y) = (s : Int) + (2 : Int) ^ y := by generalize (2 : Int) ^ y = q at *; exact IntWalk.i64_in _ (by omega)
        clear TS TS' hy
        go_wp2_with fail
        exact ⟨KK.out, ME.out⟩
    · obtain rfl : k = ls.length := by omega
      rw [List.take_length]
      have t1 : decide ((ls.length : Int) < (ls.length : Int)) = false := decide_eq_false (by omega)
      have mk := MK.out
      clear MK
      generalize symsN (cnt ls) 15 = u at *
      generalize roomN (cnt ls) 15 = s at *
      by_cases u1 : u = 1
      · have e1 : ((u : Int) == 1) = true := by rw [beq_iff_eq]; omega
        have e1n : (u == 1) = true := by rw [beq_iff_eq]; exact u1
        by_cases s1 : s = 16384
        · have e2 : ((s : Int) == 16384) = true := by rw [beq_iff_eq]; omega
          have e2n : (s == 16384) = true := by rw [beq_iff_eq]; exact s1
          have R := Lib.hid (mk.2 (.inl ⟨u1, s1⟩))
          clear u1 s1 mk
          go_wp2_with (go_at_call 47; refine US.out.mono ?_; rintro e w' ⟨rfl, rfl⟩)
          go_ret
          exact ⟨by rw [R.out]; rfl, rfl⟩
        · have e2 : ((s : Int) == 16384) = false := by rw [beq_eq_false_iff_ne]; omega
          have e2n : (s == 16384) = false := by rw [beq_eq_false_iff_ne]; exact s1
          have u0 : decide ((0 : Int) < (u : Int)) = true := decide_eq_true (by omega)
          have u0n : decide (0 < u) = true := decide_eq_true (by omega)
          by_cases s2 : s = 32768
          · have e3 : ((s : Int) == 32768) = true := by rw [beq_iff_eq]; omega
            have R := Lib.hid (mk.2 (.inr ⟨by omega, s2⟩))
            clear u1 s1 s2 mk
            go_wp2_with (go_at_call 47; refine US.out.mono ?_; rintro e w' ⟨rfl, rfl⟩)
            go_ret
            exact ⟨by rw [R.out]; rfl, rfl⟩
          · have e3 : ((s : Int) == 32768) = false := by rw [beq_eq_false_iff_ne]; omega
            have R := Lib.hid (show isCode (cnt ls) = false from by
              rcases h : isCode (cnt ls) with _ | _
              · rfl
              · rcases mk.1 h with h | h
                · exact absurd h.2 s1
                · exact absurd h.2 s2)
            clear u1 s1 s2 mk
            go_wp2_with (go_at_call 47; refine US.out.mono ?_; rintro e w' ⟨rfl, rfl⟩)
            go_ret
            exact ⟨by rw [R.out]; rfl, rfl⟩
      · have e1 : ((u : Int) == 1) = false := by rw [beq_eq_false_iff_ne]; omega
        have e1n : (u == 1) = false := by rw [beq_eq_false_iff_ne]; exact u1
        by_cases u0 : 0 < u
        · have f0 : decide ((0 : Int) < (u : Int)) = true := decide_eq_true (by omega)
          have f0n : decide (0 < u) = true := decide_eq_true u0
          by_cases s2 : s = 32768
          · have e3 : ((s : Int) == 32768) = true := by rw [beq_iff_eq]; omega
            have R := Lib.hid (mk.2 (.inr ⟨u0, s2⟩))
            clear u1 u0 s2 mk
            go_wp2_with (go_at_call 47; refine US.out.mono ?_; rintro e w' ⟨rfl, rfl⟩)
            go_ret
            exact ⟨by rw [R.out]; rfl, rfl⟩
          · have e3 : ((s : Int) == 32768) = false := by rw [beq_eq_false_iff_ne]; omega
            have R := Lib.hid (show isCode (cnt ls) = false from by
              rcases h : isCode (cnt ls) with _ | _
              · rfl
              · rcases mk.1 h with h | h
                · exact absurd h.1 u1
                · exact absurd h.2 s2)
            clear u1 u0 s2 mk
            go_wp2_with (go_at_call 47; refine US.out.mono ?_; rintro e w' ⟨rfl, rfl⟩)
            go_ret
            exact ⟨by rw [R.out]; rfl, rfl⟩
        · have f0 : decide ((0 : Int) < (u : Int)) = false := decide_eq_false (by omega)
          have f0n : decide (0 < u) = false := decide_eq_false u0
          have R := Lib.hid (show isCode (cnt ls) = false from by
            rcases h : isCode (cnt ls) with _ | _
            · rfl
            · rcases mk.1 h with h | h
              · exact absurd h.1 u1
              · exact absurd h.1 u0)
          clear u1 u0 mk
          go_wp2_with (go_at_call 47; refine US.out.mono ?_; rintro e w' ⟨rfl, rfl⟩)
          go_ret
          exact ⟨by rw [R.out]; rfl, rfl⟩
set_option maxHeartbeats 1600000 in
theorem makes_bad {a : Option Addr} {c : Nat} {zs : List Int} (k0 : Nat) (h0 : k0 < zs.length) (hbad : BadZ zs[k0]) (hgood : ∀ i (h : i < k0), ¬ BadZ (zs[i]'(by omega))) (hlen : zs.length ≤ 512) (w : World) (hc : SlZ w (.slice a zs.length c) zs) :
    Calls Tryd.prog 33 #[.slice a zs.length c] w (Same w (.bool false)) := by
  have HC := Lib.hid hc
  have HB := Lib.hid hbad
  have HG := Lib.hid hgood
  clear hc hbad hgood
  obtain ⟨b, off, rfl, hb, _⟩ := HC.out.get (List.getElem?_eq_getElem h0)
  go_enter Tryd.func33, Tryd.ntmps33
  go_wp2_with fail
  go_loop [3, 4] (fun s i => ∃ k : Nat, k ≤ k0 ∧ i = .int .i64 (k : Int) ∧ ∃ r : Nat, s = .int .i64 (r : Int) ∧ r ≤ k * 16384) (fun _ i => (zs.length - (intOf i).toNat))
  case atStart => exact ⟨0, Nat.zero_le _, rfl, 0, rfl, Nat.le_refl _⟩
  case round =>
    obtain ⟨k, hk, rfl, r, rfl, hr⟩ := hrel
    have hlt : k < zs.length := by omega
    obtain ⟨b', off', e, _, cx⟩ := HC.out.get (List.getElem?_eq_getElem hlt)
    injection e with e
    injection e with e1 e2
    subst e1 e2
    have k1 : (k : Int) < (zs.length : Int) := by omega
    have k2 : (0 : Int) ≤ (k : Int) := by omega
    have t1 : decide ((k : Int) < (zs.length : Int)) = true := decide_eq_true k1
    have t1n : decide (k < zs.length) = true := decide_eq_true hlt
    by_cases hkk : k < k0
    · have hg := HG.out k hkk
      have ME := Lib.hid (show zs.length - ((k : Int) + 1).toNat < zs.length - (k : Int).toNat by omega)
      unfold BadZ at hg
      generalize zs[k] = z at *
      have s1 : decide (z < 0) = false := decide_eq_false (by omega)
      have s2 : decide (15 < z) = false := decide_eq_false (by omega)
      by_cases hz : 0 < z
      · have n0 : decide (0 < z) = true := decide_eq_true hz
        obtain ⟨y, hy⟩ : ∃ y : Nat, 15 - z = (y : Int) := ⟨(15 - z).toNat, by omega⟩
        have y15 : y ≤ 14 := by omega
        have hp : 2 ^ y ≤ 16384 := by
          have : (2 : Nat) ^ y ≤ 2 ^ 14 := Nat.pow_le_pow_right (by omega) y15
          simpa using this
        have KK := Lib.hid (show ∃ k2 : Nat, k2 ≤ k0 ∧ (.int .i64 ((k : Int) + 1) : Value) = .int .i64 (k2 : Int) ∧ ∃ r2 : Nat, (.int .i64 ((r : Int) + 2 ^ y) : Value) = .int .i64 (r2 : Int) ∧ r2 ≤ k2 * 16384 from ⟨k + 1, by omega, by go_num, r + 2 ^ y, by rw [Int.natCast_add, Int.natCast_pow]; rfl, by rw [Nat.add_mul]; omega⟩)
        have pc : ((2 : Int) ^ y) = ((2 ^ y : Nat) : Int) := by rw [Int.natCast_pow]; rfl
        have pl : ((2 : Int) ^ y) ≤ 16384 := by rw [pc]; exact Int.ofNat_le.2 hp
        have pn : (0 : Int) ≤ ((2 : Int) ^ y) := by rw [pc]; exact Int.natCast_nonneg _
        clear pc hp
        have r8 : r ≤ 8388608 := by omega
        have w1 : IntKind.i64.wrap ((2 : Int) ^ y) = (2 : Int) ^ y := by generalize (2 : Int) ^ y = q at *; exact IntWalk.i64_in _ (by omega)
        have w2 : IntKind.i64.wrap ((r : Int) + (2 : Int) ^ y) = (r : Int) + (2 : Int) ^ y := by generalize (2 : Int) ^ y = q at *; exact IntWalk.i64_in _ (by omega)
        clear hr
        go_wp2_with fail
        exact ⟨KK.out, ME.out⟩
      · have n0 : decide (0 < z) = false := decide_eq_false hz
        have KK := Lib.hid (show ∃ k2 : Nat, k2 ≤ k0 ∧ (.int .i64 ((k : Int) + 1) : Value) = .int .i64 (k2 : Int) ∧ ∃ r2 : Nat, (.int .i64 (r : Int) : Value) = .int .i64 (r2 : Int) ∧ r2 ≤ k2 * 16384 from ⟨k + 1, by omega, by go_num, r, rfl, by rw [Nat.add_mul]; omega⟩)
        clear hr
        go_wp2_with fail
        exact ⟨KK.out, ME.out⟩
    · obtain rfl : k = k0 := by omega
      have hbz := HB.out
      unfold BadZ at hbz
      generalize zs[k] = z at *
      by_cases hz : z < 0
      · have s1 : decide (z < 0) = true := decide_eq_true hz
        go_wp2_with fail
        go_ret
        exact ⟨rfl, rfl⟩
      · have s1 : decide (z < 0) = false := decide_eq_false hz
        have s2 : decide (15 < z) = true := decide_eq_true (by omega)
        go_wp2_with fail
        go_ret
        exact ⟨rfl, rfl⟩
end Go.Proofs.YtfbeipfpkikakaaDoor
