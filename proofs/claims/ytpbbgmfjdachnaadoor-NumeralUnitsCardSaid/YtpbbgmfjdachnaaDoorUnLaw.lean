/- NumeralUnits: the walk's premises. -/
import Derived.Test.YtpbbgmfjdachnaaDoorUnA
import Derived.Test.YtpbbgmfjdachnaaDoorUnB
import Derived.Test.YtpbbgmfjdachnaaDoorUnC
import Derived.Test.YtpbbgmfjdachnaaDoorDeciU
namespace Go.Proofs.YtpbbgmfjdachnaaDoor
open Go.RowKit

theorem ext_mark (i : Nat) (h : i ≤ 9) : ((⟨#[75, 77, 71, 84, 80, 69, 90, 89, 82, 81]⟩ : ByteArray).extract i (i + 1)).data.toList = markL (i + 1) := by
  have : i = 0 ∨ i = 1 ∨ i = 2 ∨ i = 3 ∨ i = 4 ∨ i = 5 ∨ i = 6 ∨ i = 7 ∨ i = 8 ∨ i = 9 := by omega
  rcases this with rfl | rfl | rfl | rfl | rfl | rfl | rfl | rfl | rfl | rfl <;> rfl
theorem unit_numD (neg : Bool) (D : List UInt8) (ex : Int) (sz : Nat) (hD : trimL D ≠ []) : numD ⟨3, neg, D, [], ex, sz⟩ ≠ [] := by
  have eF : numF ⟨3, neg, D, [], ex, sz⟩ = [] := by
    unfold numF
    simp only [trimR_nil]
    split <;> rfl
  have e : numD ⟨3, neg, D, [], ex, sz⟩ = trimR (trimL D) := by
    unfold numD numW
    rw [eF]
    unfold numF at eF
    rw [if_pos eF, List.append_nil]
  rw [e]
  exact fun h => hD (trimR_trimL h)
theorem unit_hum {a : Int} (ha : 0 < a) {i : Nat} (hi : i ≤ 10) :
    (if numD (scanS (writ a 0 ++ markL i) false) = [] then (0 : Int) else (sufS (scanS (writ a 0 ++ markL i) false) (writ a 0 ++ markL i) : Nat)) = i := by
  obtain ⟨_, _, m3⟩ := mark_ok hi
  rw [unit_scan hi a 0]
  have hne : trimL (zdg 0 a.natAbs) ≠ [] := by rw [trimL_zdg]; exact fun h => by have := dgs_nil.1 h; omega
  rw [if_neg (unit_numD _ _ _ _ hne)]
  have e : sufS ⟨3, decide (a < 0), zdg 0 a.natAbs, [], 0, (writ a 0).length⟩ (writ a 0 ++ markL i) = rankOf (atB (markL i) 0) := by
    show (if (3 : Nat) = 0 then 0 else rankOf (atB (writ a 0 ++ markL i) (writ a 0).length)) = _
    rw [if_neg (by decide)]
    congr 1
    unfold atB
    rw [List.getD_eq_getElem?_getD, List.getD_eq_getElem?_getD, List.getElem?_append_right (Nat.le_refl _), Nat.sub_self]
  rw [e, m3]
theorem zero_hum {i : Nat} (hi : i ≤ 10) :
    (if numD (scanS (writ 0 0 ++ markL i) false) = [] then (0 : Int) else (sufS (scanS (writ 0 0 ++ markL i) false) (writ 0 0 ++ markL i) : Nat)) = 0 := by
  rw [unit_scan hi 0 0]
  have e : numD ⟨3, decide ((0 : Int) < 0), zdg 0 (0 : Int).natAbs, [], 0, (writ 0 0).length⟩ = [] := by kernel_rfl
  rw [if_pos e]

theorem thenC_neg (x y : Int) : thenC (-x) (-y) = - thenC x y := by
  unfold thenC
  by_cases h : x = 0
  · subst h; simp
  · rw [if_pos (by omega), if_pos h]
/-- What the calls of Compare and Human give. -/
structure UnPre (i : Nat) (v : Int) (X Y Q : ByteArray) : Prop where
  h1 : ∀ W, Tabs W → Calls Tryd.prog 23 #[.string X] W (RetHum W i)
  h2 : ∀ W, Tabs W → Calls Tryd.prog 23 #[.string Q] W (RetHum W 0)
  c1 : ∀ W, Tabs W → Calls Tryd.prog 21 #[.int .u16 64, .string X, .string Y] W (RetBelow W (.int .i64 v))
  c2 : ∀ W, Tabs W → Calls Tryd.prog 21 #[.int .u16 64, .string (⟨#[45]⟩ ++ X), .string (⟨#[45]⟩ ++ Y)] W (RetBelow W (.int .i64 (-v)))
  c3 : ∀ W, Tabs W → Calls Tryd.prog 21 #[.int .u16 64, .string (⟨#[45]⟩ ++ X), .string Y] W (RetBelow W (.int .i64 (-1)))
  c4 : ∀ W, Tabs W → Calls Tryd.prog 21 #[.int .u16 64, .string ⟨#[48, 81]⟩, .string X] W (RetBelow W (.int .i64 (-1)))
theorem un_pre {a b : Int} (ha : 0 < a ∧ a < 4611686018427387904) (hb : 0 < b ∧ b < 4611686018427387904) {i j k : Nat} (hi : i ≤ 10) (hj : j ≤ 10) (hk : k ≤ 10) (X Y Q : ByteArray)
    (hX : X.data.toList = writ a 0 ++ markL i) (hY : Y.data.toList = writ b 0 ++ markL j) (hQ : Q.data.toList = writ 0 0 ++ markL k) (v : Int) (hv : thenC (cmpI i j) (cmpI a b) = v) : UnPre i v X Y Q := by
  obtain ⟨u1, u2, u3, u4⟩ := units_of ha.1 hb.1 hi hj
  have mlen : ∀ k, (markL k).length ≤ 1 := fun k => by unfold markL; split <;> simp
  have wlen : ∀ n : Int, 0 ≤ n → n < 4611686018427387904 → (writ n 0).length ≤ 60 := fun n h0 h1 => by
    rw [writ_sg, List.length_append]
    have e1 : (sgL (decide (n < 0))).length ≤ 1 := by unfold sgL; split <;> simp
    have e2 : (zdg 0 n.natAbs).length = (dg n.natAbs).length := by unfold zdg; simp
    have e3 := dg_len n.natAbs (by omega)
    omega
  have sX : X.size ≤ 100 := by rw [Lib.size_eq, hX, List.length_append]; have := mlen i; have := wlen a (by omega) (by omega); omega
  have sY : Y.size ≤ 100 := by rw [Lib.size_eq, hY, List.length_append]; have := mlen j; have := wlen b (by omega) (by omega); omega
  have sQ : Q.size ≤ 100 := by rw [Lib.size_eq, hQ, List.length_append]; have := mlen k; have := wlen 0 (by omega) (by omega); omega
  have cat : ∀ x : ByteArray, (⟨#[45]⟩ ++ x : ByteArray).data.toList = 45 :: x.data.toList := fun x => by simp
  have hcat : ∀ x : ByteArray, (⟨#[45]⟩ ++ x : ByteArray).size = 1 + x.size := fun x => by simp; rfl
  have K : ∀ s t W, s.size ≤ 1000 → t.size ≤ 1000 → Tabs W → Calls Tryd.prog 21 #[.int .u16 64, .string s, .string t] W (RetBelow W (.int .i64 (cmpS 64 s.data.toList t.data.toList))) := fun s t W hs ht hT => compare_ok 64 s t W (by omega) (by omega) hT
  refine ⟨fun W hT => ?_, fun W hT => ?_, fun W hT => ?_, fun W hT => ?_, fun W hT => ?_, fun W hT => ?_⟩
  · have k := human_ok X W (by omega) hT
    rw [hX, unit_hum ha.1 hi] at k
    exact k
  · have k := human_ok Q W (by omega) hT
    rw [hQ, zero_hum hk] at k
    exact k
  · have k := K X Y W (by omega) (by omega) hT
    rw [hX, hY, u1, hv] at k
    exact k
  · have k := K (⟨#[45]⟩ ++ X) (⟨#[45]⟩ ++ Y) W (by rw [hcat]; omega) (by rw [hcat]; omega) hT
    rw [cat, cat, hX, hY, u2, cmpI_is.anti (i : Int) j, cmpI_is.anti a b, thenC_neg, hv] at k
    exact k
  · have k := K (⟨#[45]⟩ ++ X) Y W (by rw [hcat]; omega) (by omega) hT
    rw [cat, hX, hY, u3] at k
    exact k
  · have k := K ⟨#[48, 81]⟩ X W (by decide) (by omega) hT
    rw [hX] at k
    have e : (⟨#[48, 81]⟩ : ByteArray).data.toList = [48, 81] := rfl
    rw [e, u4] at k
    exact k

set_option maxHeartbeats 800000 in
theorem units_out (a b i j : Int) (w : World) (h : ¬ (¬ a ≤ 0 ∧ ¬ b ≤ 0 ∧ ¬ 4611686018427387904 ≤ a ∧ ¬ 4611686018427387904 ≤ b ∧ ¬ i < 0 ∧ ¬ j < 0 ∧ ¬ 10 < i ∧ ¬ 10 < j)) :
    Calls Tryd.prog 8 #[.int .i64 a, .int .i64 b, .int .i64 i, .int .i64 j] w (RetBelow w (.bool true)) := by
  by_cases c0 : a ≤ 0
  · clear h
    go_enter Tryd.func8, Tryd.ntmps8
    go_wp2_with fail
    go_ret
    exact ⟨rfl, Below.refl _ _⟩
  by_cases c1 : b ≤ 0
  · clear h
    go_enter Tryd.func8, Tryd.ntmps8
    go_wp2_with fail
    go_ret
    exact ⟨rfl, Below.refl _ _⟩
  by_cases c2 : 4611686018427387904 ≤ a
  · clear h
    go_enter Tryd.func8, Tryd.ntmps8
    go_wp2_with fail
    go_ret
    exact ⟨rfl, Below.refl _ _⟩
  by_cases c3 : 4611686018427387904 ≤ b
  · clear h
    go_enter Tryd.func8, Tryd.ntmps8
    go_wp2_with fail
    go_ret
    exact ⟨rfl, Below.refl _ _⟩
  by_cases c4 : i < 0
  · clear h
    go_enter Tryd.func8, Tryd.ntmps8
    go_wp2_with fail
    go_ret
    exact ⟨rfl, Below.refl _ _⟩
  by_cases c5 : j < 0
  · clear h
    go_enter Tryd.func8, Tryd.ntmps8
    go_wp2_with fail
    go_ret
    exact ⟨rfl, Below.refl _ _⟩
  by_cases c6 : 10 < i
  · clear h
    go_enter Tryd.func8, Tryd.ntmps8
    go_wp2_with fail
    go_ret
    exact ⟨rfl, Below.refl _ _⟩
  by_cases c7 : 10 < j
  · clear h
    go_enter Tryd.func8, Tryd.ntmps8
    go_wp2_with fail
    go_ret
    exact ⟨rfl, Below.refl _ _⟩
  exact absurd ⟨c0, c1, c2, c3, c4, c5, c6, c7⟩ h

theorem units_card (a b i j : Int) (_ : -9223372036854775808 ≤ a ∧ a ≤ 9223372036854775807) (_ : -9223372036854775808 ≤ b ∧ b ≤ 9223372036854775807) (_ : -9223372036854775808 ≤ i ∧ i ≤ 9223372036854775807) (_ : -9223372036854775808 ≤ j ∧ j ≤ 9223372036854775807) (w : World) (T : Tabs w) :
    Calls Tryd.prog 8 #[.int .i64 a, .int .i64 b, .int .i64 i, .int .i64 j] w (RetBelow w (.bool true)) := by
  by_cases h : ¬ a ≤ 0 ∧ ¬ b ≤ 0 ∧ ¬ 4611686018427387904 ≤ a ∧ ¬ 4611686018427387904 ≤ b ∧ ¬ i < 0 ∧ ¬ j < 0 ∧ ¬ 10 < i ∧ ¬ 10 < j
  · obtain ⟨h1, h2, h3, h4, h5, h6, h7, h8⟩ := h
    have ra : 0 < a ∧ a < 4611686018427387904 := ⟨by omega, by omega⟩
    have rb : 0 < b ∧ b < 4611686018427387904 := ⟨by omega, by omega⟩
    have len : ∀ n : Int, 0 < n ∧ n < 4611686018427387904 → (bs (writ n 0)).size ≤ 60 := fun n hn => by
      rw [bs_size, writ_sg, List.length_append]
      have e1 : (sgL (decide (n < 0))).length ≤ 1 := by unfold sgL; split <;> simp
      have e2 : (zdg 0 n.natAbs).length = (dg n.natAbs).length := by unfold zdg; simp
      have e3 := dg_len n.natAbs (by omega)
      omega
    have W1 := Lib.hid (fun W => written_ok a ⟨by omega, by omega⟩ 0 (by omega) W)
    have W2 := Lib.hid (fun W => written_ok b ⟨by omega, by omega⟩ 0 (by omega) W)
    have lS := len a ra
    have lR := len b rb
    have m0 : markL 0 = [] := rfl
    have x0 : ∀ n, (bs (writ n 0)).data.toList = writ n 0 ++ markL 0 := fun n => by rw [bs_list, m0, List.append_nil]
    have x1 : ∀ n (i : Nat), i ≤ 9 → (bs (writ n 0) ++ (⟨#[75, 77, 71, 84, 80, 69, 90, 89, 82, 81]⟩ : ByteArray).extract i (i + 1)).data.toList = writ n 0 ++ markL (i + 1) := fun n i hi => by
      have e : (bs (writ n 0) ++ (⟨#[75, 77, 71, 84, 80, 69, 90, 89, 82, 81]⟩ : ByteArray).extract i (i + 1)).data.toList = (bs (writ n 0)).data.toList ++ ((⟨#[75, 77, 71, 84, 80, 69, 90, 89, 82, 81]⟩ : ByteArray).extract i (i + 1)).data.toList := by simp
      rw [e, bs_list, ext_mark i hi]
    have q1 : ∀ i : Nat, i ≤ 9 → ((⟨#[48]⟩ : ByteArray) ++ (⟨#[75, 77, 71, 84, 80, 69, 90, 89, 82, 81]⟩ : ByteArray).extract i (i + 1)).data.toList = writ 0 0 ++ markL (i + 1) := fun i hi => by
      have e : ((⟨#[48]⟩ : ByteArray) ++ (⟨#[75, 77, 71, 84, 80, 69, 90, 89, 82, 81]⟩ : ByteArray).extract i (i + 1)).data.toList = (⟨#[48]⟩ : ByteArray).data.toList ++ ((⟨#[75, 77, 71, 84, 80, 69, 90, 89, 82, 81]⟩ : ByteArray).extract i (i + 1)).data.toList := by simp
      rw [e, ext_mark i hi]
      rfl
    have lt : ∀ x y : Int, x < y → cmpI x y = -1 := fun x y h => by unfold cmpI; rw [if_pos h]
    have gt : ∀ x y : Int, y < x → cmpI x y = 1 := fun x y h => by unfold cmpI; rw [if_neg (by omega), if_pos h]
    have n1 : ∀ y, thenC (-1) y = -1 := fun y => by unfold thenC; rw [if_pos (by omega)]
    have p1 : ∀ y, thenC 1 y = 1 := fun y => by unfold thenC; rw [if_pos (by omega)]
    by_cases hi : i = 0
    · subst hi
      by_cases hj : j = 0
      · subst hj
        by_cases hab : a < b
        · have u := un_pre ra rb (i := 0) (j := 0) (k := 1) (by omega) (by omega) (by omega) _ _ _ (x0 a) (x0 b) (q1 0 (by omega)) (-1) (by rw [cmpI_is.refl, thenC_zero, lt a b hab])
          exact units_00_eqlt a b _ _ lS lR w T ra rb hab W1 W2 (Lib.hid u.h1) (Lib.hid u.h2) (Lib.hid u.c1) (Lib.hid u.c2) (Lib.hid u.c3) (Lib.hid u.c4)
        · by_cases hba : b < a
          · have u := un_pre ra rb (i := 0) (j := 0) (k := 1) (by omega) (by omega) (by omega) _ _ _ (x0 a) (x0 b) (q1 0 (by omega)) 1 (by rw [cmpI_is.refl, thenC_zero, gt a b hba])
            exact units_00_eqgt a b _ _ lS lR w T ra rb hba W1 W2 (Lib.hid u.h1) (Lib.hid u.h2) (Lib.hid u.c1) (Lib.hid u.c2) (Lib.hid u.c3) (Lib.hid u.c4)
          · have e : a = b := by omega
            have u := un_pre ra rb (i := 0) (j := 0) (k := 1) (by omega) (by omega) (by omega) _ _ _ (x0 a) (x0 b) (q1 0 (by omega)) 0 (by rw [cmpI_is.refl, thenC_zero, e, cmpI_is.refl])
            exact units_00_eqeq a b _ _ lS lR w T ra rb e W1 W2 (Lib.hid u.h1) (Lib.hid u.h2) (Lib.hid u.c1) (Lib.hid u.c2) (Lib.hid u.c3) (Lib.hid u.c4)
      · obtain ⟨m, rfl⟩ : ∃ m : Nat, j = (m : Int) + 1 := ⟨(j - 1).toNat, by omega⟩
        have u := un_pre ra rb (i := 0) (j := m + 1) (k := 1) (by omega) (by omega) (by omega) _ _ _ (x0 a) (x1 b m (by omega)) (q1 0 (by omega)) (-1) (by rw [lt _ _ (by omega), n1])
        exact units_0j_lt a b m _ _ lS lR w T ra rb (by omega) W1 W2 (Lib.hid u.h1) (Lib.hid u.h2) (Lib.hid u.c1) (Lib.hid u.c2) (Lib.hid u.c3) (Lib.hid u.c4)
    · obtain ⟨n, rfl⟩ : ∃ n : Nat, i = (n : Int) + 1 := ⟨(i - 1).toNat, by omega⟩
      have hn9 : n ≤ 9 := by omega
      by_cases hj : j = 0
      · subst hj
        have u := un_pre ra rb (i := n + 1) (j := 0) (k := (n + 1) % 10 + 1) (by omega) (by omega) (by omega) _ _ _ (x1 a n hn9) (x0 b) (q1 ((n + 1) % 10) (by omega)) 1 (by rw [gt _ _ (by omega), p1])
        exact units_i0_gt a b n _ _ lS lR w T ra rb hn9 W1 W2 (Lib.hid u.h1) (Lib.hid u.h2) (Lib.hid u.c1) (Lib.hid u.c2) (Lib.hid u.c3) (Lib.hid u.c4)
      · obtain ⟨m, rfl⟩ : ∃ m : Nat, j = (m : Int) + 1 := ⟨(j - 1).toNat, by omega⟩
        have hm9 : m ≤ 9 := by omega
        by_cases hnm : n < m
        · have u := un_pre ra rb (i := n + 1) (j := m + 1) (k := (n + 1) % 10 + 1) (by omega) (by omega) (by omega) _ _ _ (x1 a n hn9) (x1 b m hm9) (q1 ((n + 1) % 10) (by omega)) (-1) (by rw [lt _ _ (by omega), n1])
          exact units_ij_lt a b n m _ _ lS lR w T ra rb hn9 hm9 hnm W1 W2 (Lib.hid u.h1) (Lib.hid u.h2) (Lib.hid u.c1) (Lib.hid u.c2) (Lib.hid u.c3) (Lib.hid u.c4)
        · by_cases hmn : m < n
          · have u := un_pre ra rb (i := n + 1) (j := m + 1) (k := (n + 1) % 10 + 1) (by omega) (by omega) (by omega) _ _ _ (x1 a n hn9) (x1 b m hm9) (q1 ((n + 1) % 10) (by omega)) 1 (by rw [gt _ _ (by omega), p1])
            exact units_ij_gt a b n m _ _ lS lR w T ra rb hn9 hm9 hmn W1 W2 (Lib.hid u.h1) (Lib.hid u.h2) (Lib.hid u.c1) (Lib.hid u.c2) (Lib.hid u.c3) (Lib.hid u.c4)
          · have e : m = n := by omega
            subst e
            by_cases hab : a < b
            · have u := un_pre ra rb (i := m + 1) (j := m + 1) (k := (m + 1) % 10 + 1) (by omega) (by omega) (by omega) _ _ _ (x1 a m hn9) (x1 b m hm9) (q1 ((m + 1) % 10) (by omega)) (-1) (by rw [cmpI_is.refl, thenC_zero, lt a b hab])
              exact units_ii_eqlt a b m _ _ lS lR w T ra rb hn9 hab W1 W2 (Lib.hid u.h1) (Lib.hid u.h2) (Lib.hid u.c1) (Lib.hid u.c2) (Lib.hid u.c3) (Lib.hid u.c4)
            · by_cases hba : b < a
              · have u := un_pre ra rb (i := m + 1) (j := m + 1) (k := (m + 1) % 10 + 1) (by omega) (by omega) (by omega) _ _ _ (x1 a m hn9) (x1 b m hm9) (q1 ((m + 1) % 10) (by omega)) 1 (by rw [cmpI_is.refl, thenC_zero, gt a b hba])
                exact units_ii_eqgt a b m _ _ lS lR w T ra rb hn9 hba W1 W2 (Lib.hid u.h1) (Lib.hid u.h2) (Lib.hid u.c1) (Lib.hid u.c2) (Lib.hid u.c3) (Lib.hid u.c4)
              · have e : a = b := by omega
                have u := un_pre ra rb (i := m + 1) (j := m + 1) (k := (m + 1) % 10 + 1) (by omega) (by omega) (by omega) _ _ _ (x1 a m hn9) (x1 b m hm9) (q1 ((m + 1) % 10) (by omega)) 0 (by rw [cmpI_is.refl, thenC_zero, e, cmpI_is.refl])
                exact units_ii_eqeq a b m _ _ lS lR w T ra rb hn9 e W1 W2 (Lib.hid u.h1) (Lib.hid u.h2) (Lib.hid u.c1) (Lib.hid u.c2) (Lib.hid u.c3) (Lib.hid u.c4)
  · exact units_out a b i j w h
end Go.Proofs.YtpbbgmfjdachnaaDoor
