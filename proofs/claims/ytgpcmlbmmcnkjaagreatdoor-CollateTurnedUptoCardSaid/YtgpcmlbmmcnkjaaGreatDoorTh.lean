/- CollateBlind's own helper: upper (19). -/
import Derived.Test.YtgpcmlbmmcnkjaaGreatDoorFxB
import Derived.Laws.IdiomStrings
namespace Go.Proofs.YtgpcmlbmmcnkjaaGreatDoor
section
open Go.RowKit
set_option maxRecDepth 100000

def DrRel (w : World) (lets : Nat) (s : ByteArray) (b i : Value) (wr : World) : Prop :=
  ∃ k : Nat, k ≤ s.size ∧ i = .int .i64 (k : Int) ∧ OwnB wr w.heap.size b (filtS lets false (s.data.toList.take k)) ∧ Below w.heap.size w wr
theorem filt_none {lets : Nat} {fold : Bool} {l : List UInt8} {i : Nat} (hi : i < l.length) (hc : cntB lets l[i] = false) : filtS lets fold (l.take (i + 1)) = filtS lets fold (l.take i) := by
  unfold filtS
  rw [List.take_succ_eq_append_getElem hi, List.filter_append, List.filter_cons, hc]
  simp
theorem filt_oneD {lets : Nat} {l : List UInt8} {i : Nat} (hi : i < l.length) (hc : cntB lets l[i] = true) : filtS lets false (l.take (i + 1)) = filtS lets false (l.take i) ++ [l[i]] := by
  rw [filt_one hi hc]; rfl

set_option maxHeartbeats 6400000 in
theorem dropI_ok (s : ByteArray) (hs : s.size ≤ 1048576) (w : World) : Calls Tryz.prog 18 #[.string s, .bool false] w (RetBk w (.string (bs (filtS 4 false s.data.toList)))) := by
  have HS := Lib.hid hs
  clear hs
  go_enter Tryz.func18, Tryz.ntmps18
  go_wp2_with fail
  go_loopw [5, 6] (fun b i wr => DrRel w 4 s b i wr) (fun _ i _ => s.size - (intOf i).toNat)
  case atStart => exact ⟨0, Nat.zero_le _, rfl, OwnB.nil w, Below.refl _ _⟩
  case round =>
    obtain ⟨k, hk, rfl, ho, hb⟩ := hrel
    have HB := Lib.hid hb
    have HO := Lib.hid ho
    clear hb ho
    have e2 : ∀ m : Nat, (intOf (.int .i64 (m : Int))).toNat = m := fun m => by show ((m : Int)).toNat = m; exact Int.toNat_natCast m
    have E2 := Lib.hid e2
    clear e2
    by_cases hlt : k < s.size
    · have t0 : decide (k < s.size) = true := decide_eq_true hlt
      have hk' : k < s.data.toList.length := by rw [← Lib.size_eq]; exact hlt
      have F1 := Lib.hid (fun h => filt_oneD (lets := 4) (l := s.data.toList) (i := k) hk' h)
      have F0 := Lib.hid (fun h => filt_none (lets := 4) (fold := false) (l := s.data.toList) (i := k) hk' h)
      have FL := Lib.hid (filt_len 4 false (s.data.toList.take k))
      have e1 : wrap64 ((k : Int) + 1) = ((k + 1 : Nat) : Int) := by have := HS.out; unfold wrap64; omega
      have hcc : s.data.toList[k] = s[k]'hlt := rfl
      rw [hcc] at F1 F0
      have hx := (s[k]'hlt).toNat_lt
      have hCN := Lib.hid (show cntB 4 (s[k]'hlt) = cntN 4 (s[k]'hlt).toNat from rfl)
      obtain ⟨c, hc⟩ : ∃ c, c = s[k]'hlt := ⟨_, rfl⟩
      rw [← hc] at F1 F0 hx hCN
      have HC := Lib.hid hc.symm
      have hcs : s[k]'hlt = c := hc.symm
      have hcs2 : ((s[k]'hlt).toNat : Int) = (c.toNat : Int) := by rw [← hc]
      obtain ⟨n, hn⟩ : ∃ n, n = c.toNat := ⟨_, rfl⟩
      have hnc : c.toNat = n := hn.symm
      rw [← hn] at hx hcs2 hCN
      clear hn hcc hc
      
      rcases (show (n < 32) ∨ (32 ≤ n ∧ n ≤ 126) ∨ (126 < n) by omega) with h | h | h
      · have hcnt : cntN 4 n = false := by simp only [cntN]; simp; omega
        have f0 : decide ((32 : Int) ≤ (n : Int)) = false := decide_eq_false (by omega)
        have g0 : decide (32 ≤ n) = false := decide_eq_false (by omega)
        rw [hcnt] at hCN
        clear h hcnt hx
        have F := Lib.hid (F0.out hCN.out)
        clear F1 F0 hCN
        have O' := Lib.hid (show OwnB wr w.heap.size u5 (filtS 4 false (s.data.toList.take (k + 1))) by rw [F.out]; exact HO.out)
        clear F
        go_wp2_with fail
        exact ⟨⟨k + 1, hlt, by rw [e1], O'.out, HB.out⟩, by first | (rw [e1, E2.out, E2.out]; omega) | (rw [E2.out, E2.out]; omega)⟩
      · have hcnt : cntN 4 n = true := by simp only [cntN]; simp; omega
        have f0 : decide ((32 : Int) ≤ (n : Int)) = true := decide_eq_true (by omega)
        have g0 : decide (32 ≤ n) = true := decide_eq_true (by omega)
        have f1 : decide ((n : Int) ≤ (126 : Int)) = true := decide_eq_true (by omega)
        have g1 : decide (n ≤ 126) = true := decide_eq_true (by omega)
        rw [hcnt] at hCN
        clear h hcnt hx
        have F := Lib.hid (F1.out hCN.out)
        clear F1 F0 hCN
        go_wp2_with (first | (guard_target =~ wpList _ _ _ (⟨_, Op.call { callee := .builtin .append, args := _, argTypes := #[71, 71] }, _, _, _, _⟩ :: _) _ _; refine wp_app rfl _ _ rfl w.heap.size _ _ rfl HO.out [c] _ (by simp [byV]; omega) rfl (by have h1 := FL.out; have h2 := HS.out; rw [List.length_take] at h1; simp; omega) ?_))
        intro v' w' o' b' _
        have O' := Lib.hid (show OwnB w' w.heap.size v' (filtS 4 false (s.data.toList.take (k + 1))) by rw [F.out]; exact o')
        have B' := Lib.hid (HB.out.trans b')
        clear o' b' F
        go_wp2_with fail
        exact ⟨⟨k + 1, hlt, by rw [e1], O'.out, B'.out⟩, by first | (rw [e1, E2.out, E2.out]; omega) | (rw [E2.out, E2.out]; omega)⟩
      · have hcnt : cntN 4 n = false := by simp only [cntN]; simp; omega
        have f0 : decide ((32 : Int) ≤ (n : Int)) = true := decide_eq_true (by omega)
        have g0 : decide (32 ≤ n) = true := decide_eq_true (by omega)
        have f1 : decide ((n : Int) ≤ (126 : Int)) = false := decide_eq_false (by omega)
        have g1 : decide (n ≤ 126) = false := decide_eq_false (by omega)
        rw [hcnt] at hCN
        clear h hcnt hx
        have F := Lib.hid (F0.out hCN.out)
        clear F1 F0 hCN
        have O' := Lib.hid (show OwnB wr w.heap.size u5 (filtS 4 false (s.data.toList.take (k + 1))) by rw [F.out]; exact HO.out)
        clear F
        go_wp2_with fail
        exact ⟨⟨k + 1, hlt, by rw [e1], O'.out, HB.out⟩, by first | (rw [e1, E2.out, E2.out]; omega) | (rw [E2.out, E2.out]; omega)⟩
    · have t0 : decide (k < s.size) = false := decide_eq_false hlt
      obtain rfl : k = s.size := by omega
      have hcv := HO.out.conv
      rw [Lib.size_eq, List.take_length] at hcv
      generalize hF : bs (filtS 4 false s.data.toList) = F at *
      clear hF
      go_wp2_with fail
      go_ret
      exact ⟨rfl, HB.out⟩
set_option maxHeartbeats 6400000 in
theorem dropD_ok (s : ByteArray) (hs : s.size ≤ 1048576) (w : World) : Calls Tryz.prog 18 #[.string s, .bool true] w (RetBk w (.string (bs (filtS 2 false s.data.toList)))) := by
  have HS := Lib.hid hs
  clear hs
  go_enter Tryz.func18, Tryz.ntmps18
  go_wp2_with fail
  go_loopw [5, 6] (fun b i wr => DrRel w 2 s b i wr) (fun _ i _ => s.size - (intOf i).toNat)
  case atStart => exact ⟨0, Nat.zero_le _, rfl, OwnB.nil w, Below.refl _ _⟩
  case round =>
    obtain ⟨k, hk, rfl, ho, hb⟩ := hrel
    have HB := Lib.hid hb
    have HO := Lib.hid ho
    clear hb ho
    have e2 : ∀ m : Nat, (intOf (.int .i64 (m : Int))).toNat = m := fun m => by show ((m : Int)).toNat = m; exact Int.toNat_natCast m
    have E2 := Lib.hid e2
    clear e2
    by_cases hlt : k < s.size
    · have t0 : decide (k < s.size) = true := decide_eq_true hlt
      have hk' : k < s.data.toList.length := by rw [← Lib.size_eq]; exact hlt
      have F1 := Lib.hid (fun h => filt_oneD (lets := 2) (l := s.data.toList) (i := k) hk' h)
      have F0 := Lib.hid (fun h => filt_none (lets := 2) (fold := false) (l := s.data.toList) (i := k) hk' h)
      have FL := Lib.hid (filt_len 2 false (s.data.toList.take k))
      have e1 : wrap64 ((k : Int) + 1) = ((k + 1 : Nat) : Int) := by have := HS.out; unfold wrap64; omega
      have hcc : s.data.toList[k] = s[k]'hlt := rfl
      rw [hcc] at F1 F0
      have hx := (s[k]'hlt).toNat_lt
      have hCN := Lib.hid (show cntB 2 (s[k]'hlt) = cntN 2 (s[k]'hlt).toNat from rfl)
      obtain ⟨c, hc⟩ : ∃ c, c = s[k]'hlt := ⟨_, rfl⟩
      rw [← hc] at F1 F0 hx hCN
      have HC := Lib.hid hc.symm
      have hcs : s[k]'hlt = c := hc.symm
      have hcs2 : ((s[k]'hlt).toNat : Int) = (c.toNat : Int) := by rw [← hc]
      obtain ⟨n, hn⟩ : ∃ n, n = c.toNat := ⟨_, rfl⟩
      have hnc : c.toNat = n := hn.symm
      rw [← hn] at hx hcs2 hCN
      clear hn hcc hc
      
      rcases (show (n = 32) ∨ (n = 9) ∨ (n < 32 ∧ n ≠ 9) ∨ (32 < n ∧ n < 48) ∨ (48 ≤ n ∧ n ≤ 57) ∨ (57 < n ∧ n < 65) ∨ (65 ≤ n ∧ n ≤ 90) ∨ (90 < n ∧ n < 97) ∨ (97 ≤ n ∧ n ≤ 122) ∨ (122 < n ∧ n ≤ 126) ∨ (126 < n) by omega) with h | h | h | h | h | h | h | h | h | h | h
      · have hcnt : cntN 2 n = true := by simp only [cntN]; simp; omega
        have f0 : decide ((32 : Int) ≤ (n : Int)) = true := decide_eq_true (by omega)
        have g0 : decide (32 ≤ n) = true := decide_eq_true (by omega)
        have f1 : decide ((n : Int) ≤ (126 : Int)) = true := decide_eq_true (by omega)
        have g1 : decide (n ≤ 126) = true := decide_eq_true (by omega)
        have f2 : ((n : Int) == 32) = true := by rw [beq_iff_eq]; omega
        have f3 : ((n : Int) == 9) = false := by rw [beq_eq_false_iff_ne]; omega
        have f4 : decide ((48 : Int) ≤ (n : Int)) = false := decide_eq_false (by omega)
        have g4 : decide (48 ≤ n) = false := decide_eq_false (by omega)
        have f5 : decide ((n : Int) ≤ (57 : Int)) = true := decide_eq_true (by omega)
        have g5 : decide (n ≤ 57) = true := decide_eq_true (by omega)
        have f6 : decide ((65 : Int) ≤ (n : Int)) = false := decide_eq_false (by omega)
        have g6 : decide (65 ≤ n) = false := decide_eq_false (by omega)
        have f7 : decide ((n : Int) ≤ (90 : Int)) = true := decide_eq_true (by omega)
        have g7 : decide (n ≤ 90) = true := decide_eq_true (by omega)
        have f8 : decide ((97 : Int) ≤ (n : Int)) = false := decide_eq_false (by omega)
        have g8 : decide (97 ≤ n) = false := decide_eq_false (by omega)
        have f9 : decide ((n : Int) ≤ (122 : Int)) = true := decide_eq_true (by omega)
        have g9 : decide (n ≤ 122) = true := decide_eq_true (by omega)
        rw [hcnt] at hCN
        clear h hcnt hx
        have F := Lib.hid (F1.out hCN.out)
        clear F1 F0 hCN
        go_wp2_with (first | (guard_target =~ wpList _ _ _ (⟨_, Op.call { callee := .builtin .append, args := _, argTypes := #[71, 71] }, _, _, _, _⟩ :: _) _ _; refine wp_app rfl _ _ rfl w.heap.size _ _ rfl HO.out [c] _ (by simp [byV]; omega) rfl (by have h1 := FL.out; have h2 := HS.out; rw [List.length_take] at h1; simp; omega) ?_))
        intro v' w' o' b' _
        have O' := Lib.hid (show OwnB w' w.heap.size v' (filtS 2 false (s.data.toList.take (k + 1))) by rw [F.out]; exact o')
        have B' := Lib.hid (HB.out.trans b')
        clear o' b' F
        go_wp2_with fail
        exact ⟨⟨k + 1, hlt, by rw [e1], O'.out, B'.out⟩, by first | (rw [e1, E2.out, E2.out]; omega) | (rw [E2.out, E2.out]; omega)⟩
      · have hcnt : cntN 2 n = true := by simp only [cntN]; simp; omega
        have f0 : decide ((32 : Int) ≤ (n : Int)) = false := decide_eq_false (by omega)
        have g0 : decide (32 ≤ n) = false := decide_eq_false (by omega)
        have f1 : decide ((n : Int) ≤ (126 : Int)) = true := decide_eq_true (by omega)
        have g1 : decide (n ≤ 126) = true := decide_eq_true (by omega)
        have f2 : ((n : Int) == 32) = false := by rw [beq_eq_false_iff_ne]; omega
        have f3 : ((n : Int) == 9) = true := by rw [beq_iff_eq]; omega
        have f4 : decide ((48 : Int) ≤ (n : Int)) = false := decide_eq_false (by omega)
        have g4 : decide (48 ≤ n) = false := decide_eq_false (by omega)
        have f5 : decide ((n : Int) ≤ (57 : Int)) = true := decide_eq_true (by omega)
        have g5 : decide (n ≤ 57) = true := decide_eq_true (by omega)
        have f6 : decide ((65 : Int) ≤ (n : Int)) = false := decide_eq_false (by omega)
        have g6 : decide (65 ≤ n) = false := decide_eq_false (by omega)
        have f7 : decide ((n : Int) ≤ (90 : Int)) = true := decide_eq_true (by omega)
        have g7 : decide (n ≤ 90) = true := decide_eq_true (by omega)
        have f8 : decide ((97 : Int) ≤ (n : Int)) = false := decide_eq_false (by omega)
        have g8 : decide (97 ≤ n) = false := decide_eq_false (by omega)
        have f9 : decide ((n : Int) ≤ (122 : Int)) = true := decide_eq_true (by omega)
        have g9 : decide (n ≤ 122) = true := decide_eq_true (by omega)
        rw [hcnt] at hCN
        clear h hcnt hx
        have F := Lib.hid (F1.out hCN.out)
        clear F1 F0 hCN
        go_wp2_with (first | (guard_target =~ wpList _ _ _ (⟨_, Op.call { callee := .builtin .append, args := _, argTypes := #[71, 71] }, _, _, _, _⟩ :: _) _ _; refine wp_app rfl _ _ rfl w.heap.size _ _ rfl HO.out [c] _ (by simp [byV]; omega) rfl (by have h1 := FL.out; have h2 := HS.out; rw [List.length_take] at h1; simp; omega) ?_))
        intro v' w' o' b' _
        have O' := Lib.hid (show OwnB w' w.heap.size v' (filtS 2 false (s.data.toList.take (k + 1))) by rw [F.out]; exact o')
        have B' := Lib.hid (HB.out.trans b')
        clear o' b' F
        go_wp2_with fail
        exact ⟨⟨k + 1, hlt, by rw [e1], O'.out, B'.out⟩, by first | (rw [e1, E2.out, E2.out]; omega) | (rw [E2.out, E2.out]; omega)⟩
      · have hcnt : cntN 2 n = false := by simp only [cntN]; simp; omega
        have f0 : decide ((32 : Int) ≤ (n : Int)) = false := decide_eq_false (by omega)
        have g0 : decide (32 ≤ n) = false := decide_eq_false (by omega)
        have f1 : decide ((n : Int) ≤ (126 : Int)) = true := decide_eq_true (by omega)
        have g1 : decide (n ≤ 126) = true := decide_eq_true (by omega)
        have f2 : ((n : Int) == 32) = false := by rw [beq_eq_false_iff_ne]; omega
        have f3 : ((n : Int) == 9) = false := by rw [beq_eq_false_iff_ne]; omega
        have f4 : decide ((48 : Int) ≤ (n : Int)) = false := decide_eq_false (by omega)
        have g4 : decide (48 ≤ n) = false := decide_eq_false (by omega)
        have f5 : decide ((n : Int) ≤ (57 : Int)) = true := decide_eq_true (by omega)
        have g5 : decide (n ≤ 57) = true := decide_eq_true (by omega)
        have f6 : decide ((65 : Int) ≤ (n : Int)) = false := decide_eq_false (by omega)
        have g6 : decide (65 ≤ n) = false := decide_eq_false (by omega)
        have f7 : decide ((n : Int) ≤ (90 : Int)) = true := decide_eq_true (by omega)
        have g7 : decide (n ≤ 90) = true := decide_eq_true (by omega)
        have f8 : decide ((97 : Int) ≤ (n : Int)) = false := decide_eq_false (by omega)
        have g8 : decide (97 ≤ n) = false := decide_eq_false (by omega)
        have f9 : decide ((n : Int) ≤ (122 : Int)) = true := decide_eq_true (by omega)
        have g9 : decide (n ≤ 122) = true := decide_eq_true (by omega)
        rw [hcnt] at hCN
        clear h hcnt hx
        have F := Lib.hid (F0.out hCN.out)
        clear F1 F0 hCN
        have O' := Lib.hid (show OwnB wr w.heap.size u5 (filtS 2 false (s.data.toList.take (k + 1))) by rw [F.out]; exact HO.out)
        clear F
        go_wp2_with fail
        exact ⟨⟨k + 1, hlt, by rw [e1], O'.out, HB.out⟩, by first | (rw [e1, E2.out, E2.out]; omega) | (rw [E2.out, E2.out]; omega)⟩
      · have hcnt : cntN 2 n = false := by simp only [cntN]; simp; omega
        have f0 : decide ((32 : Int) ≤ (n : Int)) = true := decide_eq_true (by omega)
        have g0 : decide (32 ≤ n) = true := decide_eq_true (by omega)
        have f1 : decide ((n : Int) ≤ (126 : Int)) = true := decide_eq_true (by omega)
        have g1 : decide (n ≤ 126) = true := decide_eq_true (by omega)
        have f2 : ((n : Int) == 32) = false := by rw [beq_eq_false_iff_ne]; omega
        have f3 : ((n : Int) == 9) = false := by rw [beq_eq_false_iff_ne]; omega
        have f4 : decide ((48 : Int) ≤ (n : Int)) = false := decide_eq_false (by omega)
        have g4 : decide (48 ≤ n) = false := decide_eq_false (by omega)
        have f5 : decide ((n : Int) ≤ (57 : Int)) = true := decide_eq_true (by omega)
        have g5 : decide (n ≤ 57) = true := decide_eq_true (by omega)
        have f6 : decide ((65 : Int) ≤ (n : Int)) = false := decide_eq_false (by omega)
        have g6 : decide (65 ≤ n) = false := decide_eq_false (by omega)
        have f7 : decide ((n : Int) ≤ (90 : Int)) = true := decide_eq_true (by omega)
        have g7 : decide (n ≤ 90) = true := decide_eq_true (by omega)
        have f8 : decide ((97 : Int) ≤ (n : Int)) = false := decide_eq_false (by omega)
        have g8 : decide (97 ≤ n) = false := decide_eq_false (by omega)
        have f9 : decide ((n : Int) ≤ (122 : Int)) = true := decide_eq_true (by omega)
        have g9 : decide (n ≤ 122) = true := decide_eq_true (by omega)
        rw [hcnt] at hCN
        clear h hcnt hx
        have F := Lib.hid (F0.out hCN.out)
        clear F1 F0 hCN
        have O' := Lib.hid (show OwnB wr w.heap.size u5 (filtS 2 false (s.data.toList.take (k + 1))) by rw [F.out]; exact HO.out)
        clear F
        go_wp2_with fail
        exact ⟨⟨k + 1, hlt, by rw [e1], O'.out, HB.out⟩, by first | (rw [e1, E2.out, E2.out]; omega) | (rw [E2.out, E2.out]; omega)⟩
      · have hcnt : cntN 2 n = true := by simp only [cntN]; simp; omega
        have f0 : decide ((32 : Int) ≤ (n : Int)) = true := decide_eq_true (by omega)
        have g0 : decide (32 ≤ n) = true := decide_eq_true (by omega)
        have f1 : decide ((n : Int) ≤ (126 : Int)) = true := decide_eq_true (by omega)
        have g1 : decide (n ≤ 126) = true := decide_eq_true (by omega)
        have f2 : ((n : Int) == 32) = false := by rw [beq_eq_false_iff_ne]; omega
        have f3 : ((n : Int) == 9) = false := by rw [beq_eq_false_iff_ne]; omega
        have f4 : decide ((48 : Int) ≤ (n : Int)) = true := decide_eq_true (by omega)
        have g4 : decide (48 ≤ n) = true := decide_eq_true (by omega)
        have f5 : decide ((n : Int) ≤ (57 : Int)) = true := decide_eq_true (by omega)
        have g5 : decide (n ≤ 57) = true := decide_eq_true (by omega)
        have f6 : decide ((65 : Int) ≤ (n : Int)) = false := decide_eq_false (by omega)
        have g6 : decide (65 ≤ n) = false := decide_eq_false (by omega)
        have f7 : decide ((n : Int) ≤ (90 : Int)) = true := decide_eq_true (by omega)
        have g7 : decide (n ≤ 90) = true := decide_eq_true (by omega)
        have f8 : decide ((97 : Int) ≤ (n : Int)) = false := decide_eq_false (by omega)
        have g8 : decide (97 ≤ n) = false := decide_eq_false (by omega)
        have f9 : decide ((n : Int) ≤ (122 : Int)) = true := decide_eq_true (by omega)
        have g9 : decide (n ≤ 122) = true := decide_eq_true (by omega)
        rw [hcnt] at hCN
        clear h hcnt hx
        have F := Lib.hid (F1.out hCN.out)
        clear F1 F0 hCN
        go_wp2_with (first | (guard_target =~ wpList _ _ _ (⟨_, Op.call { callee := .builtin .append, args := _, argTypes := #[71, 71] }, _, _, _, _⟩ :: _) _ _; refine wp_app rfl _ _ rfl w.heap.size _ _ rfl HO.out [c] _ (by simp [byV]; omega) rfl (by have h1 := FL.out; have h2 := HS.out; rw [List.length_take] at h1; simp; omega) ?_))
        intro v' w' o' b' _
        have O' := Lib.hid (show OwnB w' w.heap.size v' (filtS 2 false (s.data.toList.take (k + 1))) by rw [F.out]; exact o')
        have B' := Lib.hid (HB.out.trans b')
        clear o' b' F
        go_wp2_with fail
        exact ⟨⟨k + 1, hlt, by rw [e1], O'.out, B'.out⟩, by first | (rw [e1, E2.out, E2.out]; omega) | (rw [E2.out, E2.out]; omega)⟩
      · have hcnt : cntN 2 n = false := by simp only [cntN]; simp; omega
        have f0 : decide ((32 : Int) ≤ (n : Int)) = true := decide_eq_true (by omega)
        have g0 : decide (32 ≤ n) = true := decide_eq_true (by omega)
        have f1 : decide ((n : Int) ≤ (126 : Int)) = true := decide_eq_true (by omega)
        have g1 : decide (n ≤ 126) = true := decide_eq_true (by omega)
        have f2 : ((n : Int) == 32) = false := by rw [beq_eq_false_iff_ne]; omega
        have f3 : ((n : Int) == 9) = false := by rw [beq_eq_false_iff_ne]; omega
        have f4 : decide ((48 : Int) ≤ (n : Int)) = true := decide_eq_true (by omega)
        have g4 : decide (48 ≤ n) = true := decide_eq_true (by omega)
        have f5 : decide ((n : Int) ≤ (57 : Int)) = false := decide_eq_false (by omega)
        have g5 : decide (n ≤ 57) = false := decide_eq_false (by omega)
        have f6 : decide ((65 : Int) ≤ (n : Int)) = false := decide_eq_false (by omega)
        have g6 : decide (65 ≤ n) = false := decide_eq_false (by omega)
        have f7 : decide ((n : Int) ≤ (90 : Int)) = true := decide_eq_true (by omega)
        have g7 : decide (n ≤ 90) = true := decide_eq_true (by omega)
        have f8 : decide ((97 : Int) ≤ (n : Int)) = false := decide_eq_false (by omega)
        have g8 : decide (97 ≤ n) = false := decide_eq_false (by omega)
        have f9 : decide ((n : Int) ≤ (122 : Int)) = true := decide_eq_true (by omega)
        have g9 : decide (n ≤ 122) = true := decide_eq_true (by omega)
        rw [hcnt] at hCN
        clear h hcnt hx
        have F := Lib.hid (F0.out hCN.out)
        clear F1 F0 hCN
        have O' := Lib.hid (show OwnB wr w.heap.size u5 (filtS 2 false (s.data.toList.take (k + 1))) by rw [F.out]; exact HO.out)
        clear F
        go_wp2_with fail
        exact ⟨⟨k + 1, hlt, by rw [e1], O'.out, HB.out⟩, by first | (rw [e1, E2.out, E2.out]; omega) | (rw [E2.out, E2.out]; omega)⟩
      · have hcnt : cntN 2 n = true := by simp only [cntN]; simp; omega
        have f0 : decide ((32 : Int) ≤ (n : Int)) = true := decide_eq_true (by omega)
        have g0 : decide (32 ≤ n) = true := decide_eq_true (by omega)
        have f1 : decide ((n : Int) ≤ (126 : Int)) = true := decide_eq_true (by omega)
        have g1 : decide (n ≤ 126) = true := decide_eq_true (by omega)
        have f2 : ((n : Int) == 32) = false := by rw [beq_eq_false_iff_ne]; omega
        have f3 : ((n : Int) == 9) = false := by rw [beq_eq_false_iff_ne]; omega
        have f4 : decide ((48 : Int) ≤ (n : Int)) = true := decide_eq_true (by omega)
        have g4 : decide (48 ≤ n) = true := decide_eq_true (by omega)
        have f5 : decide ((n : Int) ≤ (57 : Int)) = false := decide_eq_false (by omega)
        have g5 : decide (n ≤ 57) = false := decide_eq_false (by omega)
        have f6 : decide ((65 : Int) ≤ (n : Int)) = true := decide_eq_true (by omega)
        have g6 : decide (65 ≤ n) = true := decide_eq_true (by omega)
        have f7 : decide ((n : Int) ≤ (90 : Int)) = true := decide_eq_true (by omega)
        have g7 : decide (n ≤ 90) = true := decide_eq_true (by omega)
        have f8 : decide ((97 : Int) ≤ (n : Int)) = false := decide_eq_false (by omega)
        have g8 : decide (97 ≤ n) = false := decide_eq_false (by omega)
        have f9 : decide ((n : Int) ≤ (122 : Int)) = true := decide_eq_true (by omega)
        have g9 : decide (n ≤ 122) = true := decide_eq_true (by omega)
        rw [hcnt] at hCN
        clear h hcnt hx
        have F := Lib.hid (F1.out hCN.out)
        clear F1 F0 hCN
        go_wp2_with (first | (guard_target =~ wpList _ _ _ (⟨_, Op.call { callee := .builtin .append, args := _, argTypes := #[71, 71] }, _, _, _, _⟩ :: _) _ _; refine wp_app rfl _ _ rfl w.heap.size _ _ rfl HO.out [c] _ (by simp [byV]; omega) rfl (by have h1 := FL.out; have h2 := HS.out; rw [List.length_take] at h1; simp; omega) ?_))
        intro v' w' o' b' _
        have O' := Lib.hid (show OwnB w' w.heap.size v' (filtS 2 false (s.data.toList.take (k + 1))) by rw [F.out]; exact o')
        have B' := Lib.hid (HB.out.trans b')
        clear o' b' F
        go_wp2_with fail
        exact ⟨⟨k + 1, hlt, by rw [e1], O'.out, B'.out⟩, by first | (rw [e1, E2.out, E2.out]; omega) | (rw [E2.out, E2.out]; omega)⟩
      · have hcnt : cntN 2 n = false := by simp only [cntN]; simp; omega
        have f0 : decide ((32 : Int) ≤ (n : Int)) = true := decide_eq_true (by omega)
        have g0 : decide (32 ≤ n) = true := decide_eq_true (by omega)
        have f1 : decide ((n : Int) ≤ (126 : Int)) = true := decide_eq_true (by omega)
        have g1 : decide (n ≤ 126) = true := decide_eq_true (by omega)
        have f2 : ((n : Int) == 32) = false := by rw [beq_eq_false_iff_ne]; omega
        have f3 : ((n : Int) == 9) = false := by rw [beq_eq_false_iff_ne]; omega
        have f4 : decide ((48 : Int) ≤ (n : Int)) = true := decide_eq_true (by omega)
        have g4 : decide (48 ≤ n) = true := decide_eq_true (by omega)
        have f5 : decide ((n : Int) ≤ (57 : Int)) = false := decide_eq_false (by omega)
        have g5 : decide (n ≤ 57) = false := decide_eq_false (by omega)
        have f6 : decide ((65 : Int) ≤ (n : Int)) = true := decide_eq_true (by omega)
        have g6 : decide (65 ≤ n) = true := decide_eq_true (by omega)
        have f7 : decide ((n : Int) ≤ (90 : Int)) = false := decide_eq_false (by omega)
        have g7 : decide (n ≤ 90) = false := decide_eq_false (by omega)
        have f8 : decide ((97 : Int) ≤ (n : Int)) = false := decide_eq_false (by omega)
        have g8 : decide (97 ≤ n) = false := decide_eq_false (by omega)
        have f9 : decide ((n : Int) ≤ (122 : Int)) = true := decide_eq_true (by omega)
        have g9 : decide (n ≤ 122) = true := decide_eq_true (by omega)
        rw [hcnt] at hCN
        clear h hcnt hx
        have F := Lib.hid (F0.out hCN.out)
        clear F1 F0 hCN
        have O' := Lib.hid (show OwnB wr w.heap.size u5 (filtS 2 false (s.data.toList.take (k + 1))) by rw [F.out]; exact HO.out)
        clear F
        go_wp2_with fail
        exact ⟨⟨k + 1, hlt, by rw [e1], O'.out, HB.out⟩, by first | (rw [e1, E2.out, E2.out]; omega) | (rw [E2.out, E2.out]; omega)⟩
      · have hcnt : cntN 2 n = true := by simp only [cntN]; simp; omega
        have f0 : decide ((32 : Int) ≤ (n : Int)) = true := decide_eq_true (by omega)
        have g0 : decide (32 ≤ n) = true := decide_eq_true (by omega)
        have f1 : decide ((n : Int) ≤ (126 : Int)) = true := decide_eq_true (by omega)
        have g1 : decide (n ≤ 126) = true := decide_eq_true (by omega)
        have f2 : ((n : Int) == 32) = false := by rw [beq_eq_false_iff_ne]; omega
        have f3 : ((n : Int) == 9) = false := by rw [beq_eq_false_iff_ne]; omega
        have f4 : decide ((48 : Int) ≤ (n : Int)) = true := decide_eq_true (by omega)
        have g4 : decide (48 ≤ n) = true := decide_eq_true (by omega)
        have f5 : decide ((n : Int) ≤ (57 : Int)) = false := decide_eq_false (by omega)
        have g5 : decide (n ≤ 57) = false := decide_eq_false (by omega)
        have f6 : decide ((65 : Int) ≤ (n : Int)) = true := decide_eq_true (by omega)
        have g6 : decide (65 ≤ n) = true := decide_eq_true (by omega)
        have f7 : decide ((n : Int) ≤ (90 : Int)) = false := decide_eq_false (by omega)
        have g7 : decide (n ≤ 90) = false := decide_eq_false (by omega)
        have f8 : decide ((97 : Int) ≤ (n : Int)) = true := decide_eq_true (by omega)
        have g8 : decide (97 ≤ n) = true := decide_eq_true (by omega)
        have f9 : decide ((n : Int) ≤ (122 : Int)) = true := decide_eq_true (by omega)
        have g9 : decide (n ≤ 122) = true := decide_eq_true (by omega)
        rw [hcnt] at hCN
        clear h hcnt hx
        have F := Lib.hid (F1.out hCN.out)
        clear F1 F0 hCN
        go_wp2_with (first | (guard_target =~ wpList _ _ _ (⟨_, Op.call { callee := .builtin .append, args := _, argTypes := #[71, 71] }, _, _, _, _⟩ :: _) _ _; refine wp_app rfl _ _ rfl w.heap.size _ _ rfl HO.out [c] _ (by simp [byV]; omega) rfl (by have h1 := FL.out; have h2 := HS.out; rw [List.length_take] at h1; simp; omega) ?_))
        intro v' w' o' b' _
        have O' := Lib.hid (show OwnB w' w.heap.size v' (filtS 2 false (s.data.toList.take (k + 1))) by rw [F.out]; exact o')
        have B' := Lib.hid (HB.out.trans b')
        clear o' b' F
        go_wp2_with fail
        exact ⟨⟨k + 1, hlt, by rw [e1], O'.out, B'.out⟩, by first | (rw [e1, E2.out, E2.out]; omega) | (rw [E2.out, E2.out]; omega)⟩
      · have hcnt : cntN 2 n = false := by simp only [cntN]; simp; omega
        have f0 : decide ((32 : Int) ≤ (n : Int)) = true := decide_eq_true (by omega)
        have g0 : decide (32 ≤ n) = true := decide_eq_true (by omega)
        have f1 : decide ((n : Int) ≤ (126 : Int)) = true := decide_eq_true (by omega)
        have g1 : decide (n ≤ 126) = true := decide_eq_true (by omega)
        have f2 : ((n : Int) == 32) = false := by rw [beq_eq_false_iff_ne]; omega
        have f3 : ((n : Int) == 9) = false := by rw [beq_eq_false_iff_ne]; omega
        have f4 : decide ((48 : Int) ≤ (n : Int)) = true := decide_eq_true (by omega)
        have g4 : decide (48 ≤ n) = true := decide_eq_true (by omega)
        have f5 : decide ((n : Int) ≤ (57 : Int)) = false := decide_eq_false (by omega)
        have g5 : decide (n ≤ 57) = false := decide_eq_false (by omega)
        have f6 : decide ((65 : Int) ≤ (n : Int)) = true := decide_eq_true (by omega)
        have g6 : decide (65 ≤ n) = true := decide_eq_true (by omega)
        have f7 : decide ((n : Int) ≤ (90 : Int)) = false := decide_eq_false (by omega)
        have g7 : decide (n ≤ 90) = false := decide_eq_false (by omega)
        have f8 : decide ((97 : Int) ≤ (n : Int)) = true := decide_eq_true (by omega)
        have g8 : decide (97 ≤ n) = true := decide_eq_true (by omega)
        have f9 : decide ((n : Int) ≤ (122 : Int)) = false := decide_eq_false (by omega)
        have g9 : decide (n ≤ 122) = false := decide_eq_false (by omega)
        rw [hcnt] at hCN
        clear h hcnt hx
        have F := Lib.hid (F0.out hCN.out)
        clear F1 F0 hCN
        have O' := Lib.hid (show OwnB wr w.heap.size u5 (filtS 2 false (s.data.toList.take (k + 1))) by rw [F.out]; exact HO.out)
        clear F
        go_wp2_with fail
        exact ⟨⟨k + 1, hlt, by rw [e1], O'.out, HB.out⟩, by first | (rw [e1, E2.out, E2.out]; omega) | (rw [E2.out, E2.out]; omega)⟩
      · have hcnt : cntN 2 n = false := by simp only [cntN]; simp; omega
        have f0 : decide ((32 : Int) ≤ (n : Int)) = true := decide_eq_true (by omega)
        have g0 : decide (32 ≤ n) = true := decide_eq_true (by omega)
        have f1 : decide ((n : Int) ≤ (126 : Int)) = false := decide_eq_false (by omega)
        have g1 : decide (n ≤ 126) = false := decide_eq_false (by omega)
        have f2 : ((n : Int) == 32) = false := by rw [beq_eq_false_iff_ne]; omega
        have f3 : ((n : Int) == 9) = false := by rw [beq_eq_false_iff_ne]; omega
        have f4 : decide ((48 : Int) ≤ (n : Int)) = true := decide_eq_true (by omega)
        have g4 : decide (48 ≤ n) = true := decide_eq_true (by omega)
        have f5 : decide ((n : Int) ≤ (57 : Int)) = false := decide_eq_false (by omega)
        have g5 : decide (n ≤ 57) = false := decide_eq_false (by omega)
        have f6 : decide ((65 : Int) ≤ (n : Int)) = true := decide_eq_true (by omega)
        have g6 : decide (65 ≤ n) = true := decide_eq_true (by omega)
        have f7 : decide ((n : Int) ≤ (90 : Int)) = false := decide_eq_false (by omega)
        have g7 : decide (n ≤ 90) = false := decide_eq_false (by omega)
        have f8 : decide ((97 : Int) ≤ (n : Int)) = true := decide_eq_true (by omega)
        have g8 : decide (97 ≤ n) = true := decide_eq_true (by omega)
        have f9 : decide ((n : Int) ≤ (122 : Int)) = false := decide_eq_false (by omega)
        have g9 : decide (n ≤ 122) = false := decide_eq_false (by omega)
        rw [hcnt] at hCN
        clear h hcnt hx
        have F := Lib.hid (F0.out hCN.out)
        clear F1 F0 hCN
        have O' := Lib.hid (show OwnB wr w.heap.size u5 (filtS 2 false (s.data.toList.take (k + 1))) by rw [F.out]; exact HO.out)
        clear F
        go_wp2_with fail
        exact ⟨⟨k + 1, hlt, by rw [e1], O'.out, HB.out⟩, by first | (rw [e1, E2.out, E2.out]; omega) | (rw [E2.out, E2.out]; omega)⟩
    · have t0 : decide (k < s.size) = false := decide_eq_false hlt
      obtain rfl : k = s.size := by omega
      have hcv := HO.out.conv
      rw [Lib.size_eq, List.take_length] at hcv
      generalize hF : bs (filtS 2 false s.data.toList) = F at *
      clear hF
      go_wp2_with fail
      go_ret
      exact ⟨rfl, HB.out⟩
theorem drop_ok (s : ByteArray) (d : Bool) (hs : s.size ≤ 1048576) (w : World) : Calls Tryz.prog 18 #[.string s, .bool d] w (RetBk w (.string (bs (filtS (if d then 2 else 4) false s.data.toList)))) := by
  cases d
  · exact dropI_ok s hs w
  · exact dropD_ok s hs w
end
section
open Go.RowKit
set_option maxRecDepth 100000
/-- Bytes of a block of the call's own. -/
structure UpB (W : World) (g : Nat) (l : List UInt8) : Prop where
  lt : g < W.heap.size
  cell : ∀ j (h : j < l.length), W.cell? ⟨g, j, none⟩ = some (.int .u8 (l[j].toNat : Int))
  free : ∀ j, j < l.length → W.frozen? ⟨g, j, none⟩ = false
theorem UpB.set {W : World} {g : Nat} {l : List UInt8} (h : UpB W g l) (j : Nat) (hj : j < l.length) (y : UInt8) : UpB (W.setCell ⟨g, j, none⟩ (.int .u8 (y.toNat : Int))) g (l.set j y) := by
  refine ⟨by simpa using h.lt, fun i hi => ?_, fun i hi => ?_⟩
  · by_cases e : j = i
    · subst e
      rw [World.cell?_setCell_same _ _ _ (h.cell j hj), List.getElem_set_self]
    · rw [World.cell?_setCell_other _ _ _ _ (fun q => e (congrArg Addr.off q)), List.getElem_set_ne e]
      exact h.cell i (by simpa using hi)
  · rw [World.frozen?_setCell]
    exact h.free i (by simpa using hi)
theorem UpB.conv {W : World} {g cap n : Nat} {l : List UInt8} (h : UpB W g l) (hn : n = l.length) : (convert 71 9 (.slice (some ⟨g, 0, none⟩) n cap)).run Tryz.prog W = .ok (.string (bs l)) W := by
  subst hn
  refine run_convert_bytes_back W 71 9 5 ⟨g, 0, none⟩ cap l Tryz.underlying71 Tryz.underlying5 Tryz.underlying9 (fun j hj => ?_)
  rw [add_plain, Nat.zero_add]
  exact h.cell j hj
theorem upB_new (w : World) (s : ByteArray) (cap : Nat) (hc : s.size ≤ cap) : UpB (w.drew.alloc (.cells (bytesRow s cap) 5 ((bytesRow s cap).size, (bytesRow s cap).size + 1))) w.heap.size s.data.toList := by
  have hz : (bytesRow s cap).size = cap := by unfold bytesRow; rw [Array.size_append, Array.size_map, Array.size_replicate]; show s.size + (cap - s.size) = cap; omega
  refine ⟨by simp, fun j hj => ?_, fun j hj => ?_⟩
  · have hj' : j < s.data.size := by simpa using hj
    have := World.cell?_alloc_mark w.drew (bytesRow s cap) 5 ((bytesRow s cap).size, (bytesRow s cap).size + 1) j
    rw [show w.drew.heap.size = w.heap.size from rfl] at this
    rw [this, bytesRow_at s cap j hj']
    simp
  · have hj' : j < s.size := by rw [Lib.size_eq]; exact hj
    have := World.frozen?_alloc_mark w.drew (bytesRow s cap) 5 (bytesRow s cap).size ((bytesRow s cap).size + 1) j
    rw [show w.drew.heap.size = w.heap.size from rfl] at this
    rw [this, hz, decide_eq_false (show ¬ cap ≤ j by omega), Bool.false_and]
/-- The first k bytes large, the others as they are. -/
def upL (k : Nat) (l : List UInt8) : List UInt8 := (l.take k).map (turnB true) ++ l.drop k
theorem upL_len (k : Nat) (l : List UInt8) : (upL k l).length = l.length := by
  unfold upL; rw [List.length_append, List.length_map, ← List.length_append, List.take_append_drop]
theorem upL_at {k : Nat} {l : List UInt8} (h : k < l.length) : (upL k l)[k]'(by rw [upL_len]; exact h) = l[k] := by
  unfold upL
  rw [List.getElem_append_right (by simp; omega)]
  simp [Nat.min_eq_left (Nat.le_of_lt h)]
theorem upL_next {k : Nat} {l : List UInt8} (h : k < l.length) : (upL k l).set k (turnB true l[k]) = upL (k + 1) l := by
  unfold upL
  rw [List.take_succ_eq_append_getElem h, List.map_append, List.drop_eq_getElem_cons h]
  have hl : ((l.take k).map (turnB true)).length = k := by simp; omega
  rw [List.set_append_right _ _ (by omega), hl, Nat.sub_self, List.set_cons_zero]
  simp
theorem upL_same {k : Nat} {l : List UInt8} (h : k < l.length) (hc : turnB true l[k] = l[k]) : upL k l = upL (k + 1) l := by
  rw [← upL_next h, hc]
  have := upL_at h
  conv => rhs; rw [← this]
  exact (List.set_getElem_self _).symm
theorem upL_end (l : List UInt8) : upL l.length l = l.map (turnB true) := by unfold upL; simp
def UpRel (w : World) (g : Nat) (s : ByteArray) (i : Value) (wr : World) : Prop :=
  ∃ k : Nat, k ≤ s.size ∧ i = .int .i64 (k : Int) ∧ UpB wr g (upL k s.data.toList) ∧ Below w.heap.size w wr
set_option maxHeartbeats 3200000 in
theorem upper_ok (s : ByteArray) (hs : s.size ≤ 1048576) (w : World) : Calls Tryz.prog 19 #[.string s] w (RetBk w (.string (bs (s.data.toList.map (turnB true))))) := by
  have HS := Lib.hid hs
  have HRUN := Lib.hid (run_bytes_of_string w 9 71 5 s Tryz.underlying9 Tryz.underlying71 Tryz.underlying5)
  have hcap : s.size ≤ grownCap w s.size 0 5 := grownCap_ge w s.size 0 5
  have U0 := Lib.hid (upB_new w s (grownCap w s.size 0 5) hcap)
  have B0 := Lib.hid ((below_drewN w 1).alloc (Nat.le_refl _) (.cells (bytesRow s (grownCap w s.size 0 5)) 5 ((bytesRow s (grownCap w s.size 0 5)).size, (bytesRow s (grownCap w s.size 0 5)).size + 1)))
  have hrun := HRUN.out
  generalize grownCap w s.size 0 5 = cap at *
  clear hs hcap HRUN
  have R0 := Lib.hid (show UpRel w w.heap.size s (.int .i64 0) (w.drew.alloc (.cells (bytesRow s cap) 5 ((bytesRow s cap).size, (bytesRow s cap).size + 1))) from ⟨0, Nat.zero_le _, rfl, U0.out, B0.out⟩)
  generalize hW : w.drew.alloc (.cells (bytesRow s cap) 5 ((bytesRow s cap).size, (bytesRow s cap).size + 1)) = W0 at *
  clear hW U0 B0
  go_enter Tryz.func19, Tryz.ntmps19
  go_wp2_with fail
  clear hrun
  go_loopw [4] (fun i wr => UpRel w w.heap.size s i wr) (fun i _ => s.size - (intOf i).toNat)
  case atStart => exact R0.out
  case round =>
    obtain ⟨k, hk, rfl, hu, hb⟩ := hrel
    have HB := Lib.hid hb
    have HU := Lib.hid hu
    clear hb hu R0
    have e2 : ∀ m : Nat, (intOf (.int .i64 (m : Int))).toNat = m := fun m => by show ((m : Int)).toNat = m; exact Int.toNat_natCast m
    have E2 := Lib.hid e2
    clear e2
    by_cases hlt : k < s.size
    · have t0 : decide (k < s.size) = true := decide_eq_true hlt
      have hk' : k < s.data.toList.length := by rw [← Lib.size_eq]; exact hlt
      have hk2 : k < (upL k s.data.toList).length := by rw [upL_len]; exact hk'
      have c0 := HU.out.cell k hk2
      rw [upL_at hk'] at c0
      have f0 := HU.out.free k hk2
      have e1 : wrap64 ((k : Int) + 1) = ((k + 1 : Nat) : Int) := by have := HS.out; unfold wrap64; omega
      have NX := Lib.hid (upL_next hk')
      have SM := Lib.hid (fun h => upL_same (l := s.data.toList) hk' h)
      have ST := Lib.hid (HU.out.set k hk2 (turnB true s.data.toList[k]))
      rw [NX.out] at ST
      obtain ⟨c, hc⟩ : ∃ c, c = s.data.toList[k] := ⟨_, rfl⟩
      rw [← hc] at c0 SM ST
      clear hc NX hk2 hk'
      have hx := c.toNat_lt
      have hlw := HU.out.lt
      by_cases h1 : 97 ≤ c.toNat
      · by_cases h2 : c.toNat ≤ 122
        · have E := (show ((turnB true c).toNat : Int) = (c.toNat : Int) - 32 by
            unfold turnB; rw [if_pos ⟨rfl, h1, h2⟩, UInt8.toNat_ofNat']; omega)
          rw [E] at ST
          have w1 : IntKind.u8.wrap ((c.toNat : Int) - 32) = (c.toNat : Int) - 32 := by simp [IntKind.wrap, IntKind.bits, IntKind.signed]; omega
          have t1 : decide ((97 : Int) ≤ (c.toNat : Int)) = true := decide_eq_true (by omega)
          have t2 : decide ((c.toNat : Int) ≤ 122) = true := decide_eq_true (by omega)
          have t3 : decide (97 ≤ c.toNat) = true := decide_eq_true h1
          have t4 : decide (c.toNat ≤ 122) = true := decide_eq_true h2
          have BS := Lib.hid (HB.out.setCell (p := ⟨w.heap.size, k, none⟩) (Nat.le_refl _) (.int .u8 ((c.toNat : Int) - 32)))
          clear h1 h2 E hx SM
          go_wp2_with fail
          exact ⟨⟨k + 1, hlt, by rw [e1], ST.out, BS.out⟩, by first | (rw [e1, E2.out, E2.out]; omega) | (rw [E2.out, E2.out]; omega)⟩
        · have E := SM.out (by unfold turnB; rw [if_neg (fun q => h2 q.2.2)])
          have t1 : decide ((97 : Int) ≤ (c.toNat : Int)) = true := decide_eq_true (by omega)
          have t2 : decide ((c.toNat : Int) ≤ 122) = false := decide_eq_false (by omega)
          have t3 : decide (97 ≤ c.toNat) = true := decide_eq_true h1
          have t4 : decide (c.toNat ≤ 122) = false := decide_eq_false h2
          have U2 := Lib.hid (show UpB wr w.heap.size (upL (k + 1) s.data.toList) by rw [← E]; exact HU.out)
          clear h1 h2 E hx SM ST
          go_wp2_with fail
          exact ⟨⟨k + 1, hlt, by rw [e1], U2.out, HB.out⟩, by first | (rw [e1, E2.out, E2.out]; omega) | (rw [E2.out, E2.out]; omega)⟩
      · have E := SM.out (by unfold turnB; rw [if_neg (fun q => h1 q.2.1)])
        have t1 : decide ((97 : Int) ≤ (c.toNat : Int)) = false := decide_eq_false (by omega)
        have t3 : decide (97 ≤ c.toNat) = false := decide_eq_false h1
        have U2 := Lib.hid (show UpB wr w.heap.size (upL (k + 1) s.data.toList) by rw [← E]; exact HU.out)
        clear h1 E hx SM ST
        go_wp2_with fail
        exact ⟨⟨k + 1, hlt, by rw [e1], U2.out, HB.out⟩, by first | (rw [e1, E2.out, E2.out]; omega) | (rw [E2.out, E2.out]; omega)⟩
    · have t0 : decide (k < s.size) = false := decide_eq_false hlt
      obtain rfl : k = s.size := by omega
      have hz : s.size = (upL s.size s.data.toList).length := by rw [upL_len, ← Lib.size_eq]
      have hcv := HU.out.conv (cap := cap) hz
      rw [show upL s.size s.data.toList = s.data.toList.map (turnB true) by rw [Lib.size_eq]; exact upL_end _] at hcv
      generalize hF : bs (s.data.toList.map (turnB true)) = F at *
      clear hF hz
      go_wp2_with fail
      go_ret
      exact ⟨rfl, HB.out⟩
end
end Go.Proofs.YtgpcmlbmmcnkjaaGreatDoor
