/- CollateBlind's own helpers: dropped (18), upper (19). -/
import Derived.Test.YtgpcmlbmmcnkjaaGreatDoorFxB
import Derived.Laws.IdiomStrings
namespace Go.Proofs.YtgpcmlbmmcnkjaaGreatDoor
open Go.RowKit
set_option maxRecDepth 100000

def DrRel (w : World) (lets : Nat) (s : ByteArray) (b i : Value) (wr : World) : Prop :=
  ∃ k : Nat, k ≤ s.size ∧ i = .int .i64 (k : Int) ∧ OwnB wr w.heap.size b (filtS lets false (s.data.toList.take k)) ∧ Below w.heap.size w wr
theorem filt_none {lets : Nat} {fold : Bool} {l : List UInt8} {i : Nat} (hi : i < l.length) (hc : cntB lets l[i] = false) : filtS lets fold (l.take (i + 1)) = filtS lets fold (l.take i) := by
  unfold filtS
  rw [List.take_succ_eq_append_getElem hi, List.filter_append, List.filter_cons, hc]
  simp
theorem filt_oneD {lets : Nat} {l : List UInt8} {i : Nat} (hi : i < l.length) (hc : cntB lets l[i] = true) : filtS lets false (l.take (i + 1)) = filtS lets false (l.take i) ++ [l[i]] := by
  rw [filt_one hi hc]; rfl

set_option maxHeartbeats 6400000 in
theorem dropI_ok (s : ByteArray) (hs : s.size ≤ 1048576) (w : World) : Calls Tryz.prog 18 #[.string s, .bool false] w (RetBk w (.string (bs (filtS 4 false s.data.toList)))) := by
  have HS := Lib.hid hs
  clear hs
  go_enter Tryz.func18, Tryz.ntmps18
  go_wp2_with fail
  go_loopw [5, 6] (fun b i wr => DrRel w 4 s b i wr) (fun _ i _ => s.size - (intOf i).toNat)
  case atStart => exact ⟨0, Nat.zero_le _, rfl, OwnB.nil w, Below.refl _ _⟩
  case round =>
    obtain ⟨k, hk, rfl, ho, hb⟩ := hrel
    have HB := Lib.hid hb
    have HO := Lib.hid ho
    clear hb ho
    have e2 : ∀ m : Nat, (intOf (.int .i64 (m : Int))).toNat = m := fun m => by show ((m : Int)).toNat = m; exact Int.toNat_natCast m
    have E2 := Lib.hid e2
    clear e2
    by_cases hlt : k < s.size
    · have t0 : decide (k < s.size) = true := decide_eq_true hlt
      have hk' : k < s.data.toList.length := by rw [← Lib.size_eq]; exact hlt
      have F1 := Lib.hid (fun h => filt_oneD (lets := 4) (l := s.data.toList) (i := k) hk' h)
      have F0 := Lib.hid (fun h => filt_none (lets := 4) (fold := false) (l := s.data.toList) (i := k) hk' h)
      have FL := Lib.hid (filt_len 4 false (s.data.toList.take k))
      have e1 : wrap64 ((k : Int) + 1) = ((k + 1 : Nat) : Int) := by have := HS.out; unfold wrap64; omega
      have hcc : s.data.toList[k] = s[k]'hlt := rfl
      rw [hcc] at F1 F0
      have hx := (s[k]'hlt).toNat_lt
      have hCN := Lib.hid (show cntB 4 (s[k]'hlt) = cntN 4 (s[k]'hlt).toNat from rfl)
      obtain ⟨c, hc⟩ : ∃ c, c = s[k]'hlt := ⟨_, rfl⟩
      rw [← hc] at F1 F0 hx hCN
      have HC := Lib.hid hc.symm
      have hcs : s[k]'hlt = c := hc.symm
      have hcs2 : ((s[k]'hlt).toNat : Int) = (c.toNat : Int) := by rw [← hc]
      obtain ⟨n, hn⟩ : ∃ n, n = c.toNat := ⟨_, rfl⟩
      have hnc : c.toNat = n := hn.symm
      rw [← hn] at hx hcs2 hCN
      clear hn hcc hc
      
      rcases (show (n < 32) ∨ (32 ≤ n ∧ n ≤ 126) ∨ (126 < n) by omega) with h | h | h
      · have hcnt : cntN 4 n = false := by simp only [cntN]; simp; omega
        have f0 : decide ((32 : Int) ≤ (n : Int)) = false := decide_eq_false (by omega)
        have g0 : decide (32 ≤ n) = false := decide_eq_false (by omega)
        rw [hcnt] at hCN
        clear h hcnt hx
        have F := Lib.hid (F0.out hCN.out)
        clear F1 F0 hCN
        have O' := Lib.hid (show OwnB wr w.heap.size u5 (filtS 4 false (s.data.toList.take (k + 1))) by rw [F.out]; exact HO.out)
        clear F
        go_wp2_with fail
        exact ⟨⟨k + 1, hlt, by rw [e1], O'.out, HB.out⟩, by first | (rw [e1, E2.out, E2.out]; omega) | (rw [E2.out, E2.out]; omega)⟩
      · have hcnt : cntN 4 n = true := by simp only [cntN]; simp; omega
        have f0 : decide ((32 : Int) ≤ (n : Int)) = true := decide_eq_true (by omega)
        have g0 : decide (32 ≤ n) = true := decide_eq_true (by omega)
        have f1 : decide ((n : Int) ≤ (126 : Int)) = true := decide_eq_true (by omega)
        have g1 : decide (n ≤ 126) = true := decide_eq_true (by omega)
        rw [hcnt] at hCN
        clear h hcnt hx
        have F := Lib.hid (F1.out hCN.out)
        clear F1 F0 hCN
        go_wp2_with (first | (guard_target =~ wpList _ _ _ (⟨_, Op.call { callee := .builtin .append, args := _, argTypes := #[71, 71] }, _, _, _, _⟩ :: _) _ _; refine wp_app rfl _ _ rfl w.heap.size _ _ rfl HO.out [c] _ (by simp [byV]; omega) rfl (by have h1 := FL.out; have h2 := HS.out; rw [List.length_take] at h1; simp; omega) ?_))
        intro v' w' o' b' _
        have O' := Lib.hid (show OwnB w' w.heap.size v' (filtS 4 false (s.data.toList.take (k + 1))) by rw [F.out]; exact o')
        have B' := Lib.hid (HB.out.trans b')
        clear o' b' F
        go_wp2_with fail
        exact ⟨⟨k + 1, hlt, by rw [e1], O'.out, B'.out⟩, by first | (rw [e1, E2.out, E2.out]; omega) | (rw [E2.out, E2.out]; omega)⟩
      · have hcnt : cntN 4 n = false := by simp only [cntN]; simp; omega
        have f0 : decide ((32 : Int) ≤ (n : Int)) = true := decide_eq_true (by omega)
        have g0 : decide (32 ≤ n) = true := decide_eq_true (by omega)
        have f1 : decide ((n : Int) ≤ (126 : Int)) = false := decide_eq_false (by omega)
        have g1 : decide (n ≤ 126) = false := decide_eq_false (by omega)
        rw [hcnt] at hCN
        clear h hcnt hx
        have F := Lib.hid (F0.out hCN.out)
        clear F1 F0 hCN
        have O' := Lib.hid (show OwnB wr w.heap.size u5 (filtS 4 false (s.data.toList.take (k + 1))) by rw [F.out]; exact HO.out)
        clear F
        go_wp2_with fail
        exact ⟨⟨k + 1, hlt, by rw [e1], O'.out, HB.out⟩, by first | (rw [e1, E2.out, E2.out]; omega) | (rw [E2.out, E2.out]; omega)⟩
    · have t0 : decide (k < s.size) = false := decide_eq_false hlt
      obtain rfl : k = s.size := by omega
      have hcv := HO.out.conv
      rw [Lib.size_eq, List.take_length] at hcv
      generalize hF : bs (filtS 4 false s.data.toList) = F at *
      clear hF
      go_wp2_with fail
      go_ret
      exact ⟨rfl, HB.out⟩
set_option maxHeartbeats 6400000 in
theorem dropD_ok (s : ByteArray) (hs : s.size ≤ 1048576) (w : World) : Calls Tryz.prog 18 #[.string s, .bool true] w (RetBk w (.string (bs (filtS 2 false s.data.toList)))) := by
  have HS := Lib.hid hs
  clear hs
  go_enter Tryz.func18, Tryz.ntmps18
  go_wp2_with fail
  go_loopw [5, 6] (fun b i wr => DrRel w 2 s b i wr) (fun _ i _ => s.size - (intOf i).toNat)
  case atStart => exact ⟨0, Nat.zero_le _, rfl, OwnB.nil w, Below.refl _ _⟩
  case round =>
    obtain ⟨k, hk, rfl, ho, hb⟩ := hrel
    have HB := Lib.hid hb
    have HO := Lib.hid ho
    clear hb ho
    have e2 : ∀ m : Nat, (intOf (.int .i64 (m : Int))).toNat = m := fun m => by show ((m : Int)).toNat = m; exact Int.toNat_natCast m
    have E2 := Lib.hid e2
    clear e2
    by_cases hlt : k < s.size
    · have t0 : decide (k < s.size) = true := decide_eq_true hlt
      have hk' : k < s.data.toList.length := by rw [← Lib.size_eq]; exact hlt
      have F1 := Lib.hid (fun h => filt_oneD (lets := 2) (l := s.data.toList) (i := k) hk' h)
      have F0 := Lib.hid (fun h => filt_none (lets := 2) (fold := false) (l := s.data.toList) (i := k) hk' h)
      have FL := Lib.hid (filt_len 2 false (s.data.toList.take k))
      have e1 : wrap64 ((k : Int) + 1) = ((k + 1 : Nat) : Int) := by have := HS.out; unfold wrap64; omega
      have hcc : s.data.toList[k] = s[k]'hlt := rfl
      rw [hcc] at F1 F0
      have hx := (s[k]'hlt).toNat_lt
      have hCN := Lib.hid (show cntB 2 (s[k]'hlt) = cntN 2 (s[k]'hlt).toNat from rfl)
      obtain ⟨c, hc⟩ : ∃ c, c = s[k]'hlt := ⟨_, rfl⟩
      rw [← hc] at F1 F0 hx hCN
      have HC := Lib.hid hc.symm
      have hcs : s[k]'hlt = c := hc.symm
      have hcs2 : ((s[k]'hlt).toNat : Int) = (c.toNat : Int) := by rw [← hc]
      obtain ⟨n, hn⟩ : ∃ n, n = c.toNat := ⟨_, rfl⟩
      have hnc : c.toNat = n := hn.symm
      rw [← hn] at hx hcs2 hCN
      clear hn hcc hc
      
      rcases (show (n = 32) ∨ (n = 9) ∨ (n < 32 ∧ n ≠ 9) ∨ (32 < n ∧ n < 48) ∨ (48 ≤ n ∧ n ≤ 57) ∨ (57 < n ∧ n < 65) ∨ (65 ≤ n ∧ n ≤ 90) ∨ (90 < n ∧ n < 97) ∨ (97 ≤ n ∧ n ≤ 122) ∨ (122 < n ∧ n ≤ 126) ∨ (126 < n) by omega) with h | h | h | h | h | h | h | h | h | h | h
      · have hcnt : cntN 2 n = true := by simp only [cntN]; simp; omega
        have f0 : decide ((32 : Int) ≤ (n : Int)) = true := decide_eq_true (by omega)
        have g0 : decide (32 ≤ n) = true := decide_eq_true (by omega)
        have f1 : decide ((n : Int) ≤ (126 : Int)) = true := decide_eq_true (by omega)
        have g1 : decide (n ≤ 126) = true := decide_eq_true (by omega)
        have f2 : ((n : Int) == 32) = true := by rw [beq_iff_eq]; omega
        have f3 : ((n : Int) == 9) = false := by rw [beq_eq_false_iff_ne]; omega
        have f4 : decide ((48 : Int) ≤ (n : Int)) = false := decide_eq_false (by omega)
        have g4 : decide (48 ≤ n) = false := decide_eq_false (by omega)
        have f5 : decide ((n : Int) ≤ (57 : Int)) = true := decide_eq_true (by omega)
        have g5 : decide (n ≤ 57) = true := decide_eq_true (by omega)
        have f6 : decide ((65 : Int) ≤ (n : Int)) = false := decide_eq_false (by omega)
        have g6 : decide (65 ≤ n) = false := decide_eq_false (by omega)
        have f7 : decide ((n : Int) ≤ (90 : Int)) = true := decide_eq_true (by omega)
        have g7 : decide (n ≤ 90) = true := decide_eq_true (by omega)
        have f8 : decide ((97 : Int) ≤ (n : Int)) = false := decide_eq_false (by omega)
        have g8 : decide (97 ≤ n) = false := decide_eq_false (by omega)
        have f9 : decide ((n : Int) ≤ (122 : Int)) = true := decide_eq_true (by omega)
        have g9 : decide (n ≤ 122) = true := decide_eq_true (by omega)
        rw [hcnt] at hCN
        clear h hcnt hx
        have F := Lib.hid (F1.out hCN.out)
        clear F1 F0 hCN
        go_wp2_with (first | (guard_target =~ wpList _ _ _ (⟨_, Op.call { callee := .builtin .append, args := _, argTypes := #[71, 71] }, _, _, _, _⟩ :: _) _ _; refine wp_app rfl _ _ rfl w.heap.size _ _ rfl HO.out [c] _ (by simp [byV]; omega) rfl (by have h1 := FL.out; have h2 := HS.out; rw [List.length_take] at h1; simp; omega) ?_))
        intro v' w' o' b' _
        have O' := Lib.hid (show OwnB w' w.heap.size v' (filtS 2 false (s.data.toList.take (k + 1))) by rw [F.out]; exact o')
        have B' := Lib.hid (HB.out.trans b')
        clear o' b' F
        go_wp2_with fail
        exact ⟨⟨k + 1, hlt, by rw [e1], O'.out, B'.out⟩, by first | (rw [e1, E2.out, E2.out]; omega) | (rw [E2.out, E2.out]; omega)⟩
      · have hcnt : cntN 2 n = true := by simp only [cntN]; simp; omega
        have f0 : decide ((32 : Int) ≤ (n : Int)) = false := decide_eq_false (by omega)
        have g0 : decide (32 ≤ n) = false := decide_eq_false (by omega)
        have f1 : decide ((n : Int) ≤ (126 : Int)) = true := decide_eq_true (by omega)
        have g1 : decide (n ≤ 126) = true := decide_eq_true (by omega)
        have f2 : ((n : Int) == 32) = false := by rw [beq_eq_false_iff_ne]; omega
        have f3 : ((n : Int) == 9) = true := by rw [beq_iff_eq]; omega
        have f4 : decide ((48 : Int) ≤ (n : Int)) = false := decide_eq_false (by omega)
        have g4 : decide (48 ≤ n) = false := decide_eq_false (by omega)
        have f5 : decide ((n : Int) ≤ (57 : Int)) = true := decide_eq_true (by omega)
        have g5 : decide (n ≤ 57) = true := decide_eq_true (by omega)
        have f6 : decide ((65 : Int) ≤ (n : Int)) = false := decide_eq_false (by omega)
        have g6 : decide (65 ≤ n) = false := decide_eq_false (by omega)
        have f7 : decide ((n : Int) ≤ (90 : Int)) = true := decide_eq_true (by omega)
        have g7 : decide (n ≤ 90) = true := decide_eq_true (by omega)
        have f8 : decide ((97 : Int) ≤ (n : Int)) = false := decide_eq_false (by omega)
        have g8 : decide (97 ≤ n) = false := decide_eq_false (by omega)
        have f9 : decide ((n : Int) ≤ (122 : Int)) = true := decide_eq_true (by omega)
        have g9 : decide (n ≤ 122) = true := decide_eq_true (by omega)
        rw [hcnt] at hCN
        clear h hcnt hx
        have F := Lib.hid (F1.out hCN.out)
        clear F1 F0 hCN
        go_wp2_with (first | (guard_target =~ wpList _ _ _ (⟨_, Op.call { callee := .builtin .append, args := _, argTypes := #[71, 71] }, _, _, _, _⟩ :: _) _ _; refine wp_app rfl _ _ rfl w.heap.size _ _ rfl HO.out [c] _ (by simp [byV]; omega) rfl (by have h1 := FL.out; have h2 := HS.out; rw [List.length_take] at h1; simp; omega) ?_))
        intro v' w' o' b' _
        have O' := Lib.hid (show OwnB w' w.heap.size v' (filtS 2 false (s.data.toList.take (k + 1))) by rw [F.out]; exact o')
        have B' := Lib.hid (HB.out.trans b')
        clear o' b' F
        go_wp2_with fail
        exact ⟨⟨k + 1, hlt, by rw [e1], O'.out, B'.out⟩, by first | (rw [e1, E2.out, E2.out]; omega) | (rw [E2.out, E2.out]; omega)⟩
      · have hcnt : cntN 2 n = false := by simp only [cntN]; simp; omega
        have f0 : decide ((32 : Int) ≤ (n : Int)) = false := decide_eq_false (by omega)
        have g0 : decide (32 ≤ n) = false := decide_eq_false (by omega)
        have f1 : decide ((n : Int) ≤ (126 : Int)) = true := decide_eq_true (by omega)
        have g1 : decide (n ≤ 126) = true := decide_eq_true (by omega)
        have f2 : ((n : Int) == 32) = false := by rw [beq_eq_false_iff_ne]; omega
        have f3 : ((n : Int) == 9) = false := by rw [beq_eq_false_iff_ne]; omega
        have f4 : decide ((48 : Int) ≤ (n : Int)) = false := decide_eq_false (by omega)
        have g4 : decide (48 ≤ n) = false := decide_eq_false (by omega)
        have f5 : decide ((n : Int) ≤ (57 : Int)) = true := decide_eq_true (by omega)
        have g5 : decide (n ≤ 57) = true := decide_eq_true (by omega)
        have f6 : decide ((65 : Int) ≤ (n : Int)) = false := decide_eq_false (by omega)
        have g6 : decide (65 ≤ n) = false := decide_eq_false (by omega)
        have f7 : decide ((n : Int) ≤ (90 : Int)) = true := decide_eq_true (by omega)
        have g7 : decide (n ≤ 90) = true := decide_eq_true (by omega)
        have f8 : decide ((97 : Int) ≤ (n : Int)) = false := decide_eq_false (by omega)
        have g8 : decide (97 ≤ n) = false := decide_eq_false (by omega)
        have f9 : decide ((n : Int) ≤ (122 : Int)) = true := decide_eq_true (by omega)
        have g9 : decide (n ≤ 122) = true := decide_eq_true (by omega)
        rw [hcnt] at hCN
        clear h hcnt hx
        have F := Lib.hid (F0.out hCN.out)
        clear F1 F0 hCN
        have O' := Lib.hid (show OwnB wr w.heap.size u5 (filtS 2 false (s.data.toList.take (k + 1))) by rw [F.out]; exact HO.out)
        clear F
        go_wp2_with fail
        exact ⟨⟨k + 1, hlt, by rw [e1], O'.out, HB.out⟩, by first | (rw [e1, E2.out, E2.out]; omega) | (rw [E2.out, E2.out]; omega)⟩
      · have hcnt : cntN 2 n = false := by simp only [cntN]; simp; omega
        have f0 : decide ((32 : Int) ≤ (n : Int)) = true := decide_eq_true (by omega)
        have g0 : decide (32 ≤ n) = true := decide_eq_true (by omega)
        have f1 : decide ((n : Int) ≤ (126 : Int)) = true := decide_eq_true (by omega)
        have g1 : decide (n ≤ 126) = true := decide_eq_true (by omega)
        have f2 : ((n : Int) == 32) = false := by rw [beq_eq_false_iff_ne]; omega
        have f3 : ((n : Int) == 9) = false := by rw [beq_eq_false_iff_ne]; omega
        have f4 : decide ((48 : Int) ≤ (n : Int)) = false := decide_eq_false (by omega)
        have g4 : decide (48 ≤ n) = false := decide_eq_false (by omega)
        have f5 : decide ((n : Int) ≤ (57 : Int)) = true := decide_eq_true (by omega)
        have g5 : decide (n ≤ 57) = true := decide_eq_true (by omega)
        have f6 : decide ((65 : Int) ≤ (n : Int)) = false := decide_eq_false (by omega)
        have g6 : decide (65 ≤ n) = false := decide_eq_false (by omega)
        have f7 : decide ((n : Int) ≤ (90 : Int)) = true := decide_eq_true (by omega)
        have g7 : decide (n ≤ 90) = true := decide_eq_true (by omega)
        have f8 : decide ((97 : Int) ≤ (n : Int)) = false := decide_eq_false (by omega)
        have g8 : decide (97 ≤ n) = false := decide_eq_false (by omega)
        have f9 : decide ((n : Int) ≤ (122 : Int)) = true := decide_eq_true (by omega)
        have g9 : decide (n ≤ 122) = true := decide_eq_true (by omega)
        rw [hcnt] at hCN
        clear h hcnt hx
        have F := Lib.hid (F0.out hCN.out)
        clear F1 F0 hCN
        have O' := Lib.hid (show OwnB wr w.heap.size u5 (filtS 2 false (s.data.toList.take (k + 1))) by rw [F.out]; exact HO.out)
        clear F
        go_wp2_with fail
        exact ⟨⟨k + 1, hlt, by rw [e1], O'.out, HB.out⟩, by first | (rw [e1, E2.out, E2.out]; omega) | (rw [E2.out, E2.out]; omega)⟩
      · have hcnt : cntN 2 n = true := by simp only [cntN]; simp; omega
        have f0 : decide ((32 : Int) ≤ (n : Int)) = true := decide_eq_true (by omega)
        have g0 : decide (32 ≤ n) = true := decide_eq_true (by omega)
        have f1 : decide ((n : Int) ≤ (126 : Int)) = true := decide_eq_true (by omega)
        have g1 : decide (n ≤ 126) = true := decide_eq_true (by omega)
        have f2 : ((n : Int) == 32) = false := by rw [beq_eq_false_iff_ne]; omega
        have f3 : ((n : Int) == 9) = false := by rw [beq_eq_false_iff_ne]; omega
        have f4 : decide ((48 : Int) ≤ (n : Int)) = true := decide_eq_true (by omega)
        have g4 : decide (48 ≤ n) = true := decide_eq_true (by omega)
        have f5 : decide ((n : Int) ≤ (57 : Int)) = true := decide_eq_true (by omega)
        have g5 : decide (n ≤ 57) = true := decide_eq_true (by omega)
        have f6 : decide ((65 : Int) ≤ (n : Int)) = false := decide_eq_false (by omega)
        have g6 : decide (65 ≤ n) = false := decide_eq_false (by omega)
        have f7 : decide ((n : Int) ≤ (90 : Int)) = true := decide_eq_true (by omega)
        have g7 : decide (n ≤ 90) = true := decide_eq_true (by omega)
        have f8 : decide ((97 : Int) ≤ (n : Int)) = false := decide_eq_false (by omega)
        have g8 : decide (97 ≤ n) = false := decide_eq_false (by omega)
        have f9 : decide ((n : Int) ≤ (122 : Int)) = true := decide_eq_true (by omega)
        have g9 : decide (n ≤ 122) = true := decide_eq_true (by omega)
        rw [hcnt] at hCN
        clear h hcnt hx
        have F := Lib.hid (F1.out hCN.out)
        clear F1 F0 hCN
        go_wp2_with (first | (guard_target =~ wpList _ _ _ (⟨_, Op.call { callee := .builtin .append, args := _, argTypes := #[71, 71] }, _, _, _, _⟩ :: _) _ _; refine wp_app rfl _ _ rfl w.heap.size _ _ rfl HO.out [c] _ (by simp [byV]; omega) rfl (by have h1 := FL.out; have h2 := HS.out; rw [List.length_take] at h1; simp; omega) ?_))
        intro v' w' o' b' _
        have O' := Lib.hid (show OwnB w' w.heap.size v' (filtS 2 false (s.data.toList.take (k + 1))) by rw [F.out]; exact o')
        have B' := Lib.hid (HB.out.trans b')
        clear o' b' F
        go_wp2_with fail
        exact ⟨⟨k + 1, hlt, by rw [e1], O'.out, B'.out⟩, by first | (rw [e1, E2.out, E2.out]; omega) | (rw [E2.out, E2.out]; omega)⟩
      · have hcnt : cntN 2 n = false := by simp only [cntN]; simp; omega
        have f0 : decide ((32 : Int) ≤ (n : Int)) = true := decide_eq_true (by omega)
        have g0 : decide (32 ≤ n) = true := decide_eq_true (by omega)
        have f1 : decide ((n : Int) ≤ (126 : Int)) = true := decide_eq_true (by omega)
        have g1 : decide (n ≤ 126) = true := decide_eq_true (by omega)
        have f2 : ((n : Int) == 32) = false := by rw [beq_eq_false_iff_ne]; omega
        have f3 : ((n : Int) == 9) = false := by rw [beq_eq_false_iff_ne]; omega
        have f4 : decide ((48 : Int) ≤ (n : Int)) = true := decide_eq_true (by omega)
        have g4 : decide (48 ≤ n) = true := decide_eq_true (by omega)
        have f5 : decide ((n : Int) ≤ (57 : Int)) = false := decide_eq_false (by omega)
        have g5 : decide (n ≤ 57) = false := decide_eq_false (by omega)
        have f6 : decide ((65 : Int) ≤ (n : Int)) = false := decide_eq_false (by omega)
        have g6 : decide (65 ≤ n) = false := decide_eq_false (by omega)
        have f7 : decide ((n : Int) ≤ (90 : Int)) = true := decide_eq_true (by omega)
        have g7 : decide (n ≤ 90) = true := decide_eq_true (by omega)
        have f8 : decide ((97 : Int) ≤ (n : Int)) = false := decide_eq_false (by omega)
        have g8 : decide (97 ≤ n) = false := decide_eq_false (by omega)
        have f9 : decide ((n : Int) ≤ (122 : Int)) = true := decide_eq_true (by omega)
        have g9 : decide (n ≤ 122) = true := decide_eq_true (by omega)
        rw [hcnt] at hCN
        clear h hcnt hx
        have F := Lib.hid (F0.out hCN.out)
        clear F1 F0 hCN
        have O' := Lib.hid (show OwnB wr w.heap.size u5 (filtS 2 false (s.data.toList.take (k + 1))) by rw [F.out]; exact HO.out)
        clear F
        go_wp2_with fail
        exact ⟨⟨k + 1, hlt, by rw [e1], O'.out, HB.out⟩, by first | (rw [e1, E2.out, E2.out]; omega) | (rw [E2.out, E2.out]; omega)⟩
      · have hcnt : cntN 2 n = true := by simp only [cntN]; simp; omega
        have f0 : decide ((32 : Int) ≤ (n : Int)) = true := decide_eq_true (by omega)
        have g0 : decide (32 ≤ n) = true := decide_eq_true (by omega)
        have f1 : decide ((n : Int) ≤ (126 : Int)) = true := decide_eq_true (by omega)
        have g1 : decide (n ≤ 126) = true := decide_eq_true (by omega)
        have f2 : ((n : Int) == 32) = false := by rw [beq_eq_false_iff_ne]; omega
        have f3 : ((n : Int) == 9) = false := by rw [beq_eq_false_iff_ne]; omega
        have f4 : decide ((48 : Int) ≤ (n : Int)) = true := decide_eq_true (by omega)
        have g4 : decide (48 ≤ n) = true := decide_eq_true (by omega)
        have f5 : decide ((n : Int) ≤ (57 : Int)) = false := decide_eq_false (by omega)
        have g5 : decide (n ≤ 57) = false := decide_eq_false (by omega)
        have f6 : decide ((65 : Int) ≤ (n : Int)) = true := decide_eq_true (by omega)
        have g6 : decide (65 ≤ n) = true := decide_eq_true (by omega)
        have f7 : decide ((n : Int) ≤ (90 : Int)) = true := decide_eq_true (by omega)
        have g7 : decide (n ≤ 90) = true := decide_eq_true (by omega)
        have f8 : decide ((97 : Int) ≤ (n : Int)) = false := decide_eq_false (by omega)
        have g8 : decide (97 ≤ n) = false := decide_eq_false (by omega)
        have f9 : decide ((n : Int) ≤ (122 : Int)) = true := decide_eq_true (by omega)
        have g9 : decide (n ≤ 122) = true := decide_eq_true (by omega)
        rw [hcnt] at hCN
        clear h hcnt hx
        have F := Lib.hid (F1.out hCN.out)
        clear F1 F0 hCN
        go_wp2_with (first | (guard_target =~ wpList _ _ _ (⟨_, Op.call { callee := .builtin .append, args := _, argTypes := #[71, 71] }, _, _, _, _⟩ :: _) _ _; refine wp_app rfl _ _ rfl w.heap.size _ _ rfl HO.out [c] _ (by simp [byV]; omega) rfl (by have h1 := FL.out; have h2 := HS.out; rw [List.length_take] at h1; simp; omega) ?_))
        intro v' w' o' b' _
        have O' := Lib.hid (show OwnB w' w.heap.size v' (filtS 2 false (s.data.toList.take (k + 1))) by rw [F.out]; exact o')
        have B' := Lib.hid (HB.out.trans b')
        clear o' b' F
        go_wp2_with fail
        exact ⟨⟨k + 1, hlt, by rw [e1], O'.out, B'.out⟩, by first | (rw [e1, E2.out, E2.out]; omega) | (rw [E2.out, E2.out]; omega)⟩
      · have hcnt : cntN 2 n = false := by simp only [cntN]; simp; omega
        have f0 : decide ((32 : Int) ≤ (n : Int)) = true := decide_eq_true (by omega)
        have g0 : decide (32 ≤ n) = true := decide_eq_true (by omega)
        have f1 : decide ((n : Int) ≤ (126 : Int)) = true := decide_eq_true (by omega)
        have g1 : decide (n ≤ 126) = true := decide_eq_true (by omega)
        have f2 : ((n : Int) == 32) = false := by rw [beq_eq_false_iff_ne]; omega
        have f3 : ((n : Int) == 9) = false := by rw [beq_eq_false_iff_ne]; omega
        have f4 : decide ((48 : Int) ≤ (n : Int)) = true := decide_eq_true (by omega)
        have g4 : decide (48 ≤ n) = true := decide_eq_true (by omega)
        have f5 : decide ((n : Int) ≤ (57 : Int)) = false := decide_eq_false (by omega)
        have g5 : decide (n ≤ 57) = false := decide_eq_false (by omega)
        have f6 : decide ((65 : Int) ≤ (n : Int)) = true := decide_eq_true (by omega)
        have g6 : decide (65 ≤ n) = true := decide_eq_true (by omega)
        have f7 : decide ((n : Int) ≤ (90 : Int)) = false := decide_eq_false (by omega)
        have g7 : decide (n ≤ 90) = false := decide_eq_false (by omega)
        have f8 : decide ((97 : Int) ≤ (n : Int)) = false := decide_eq_false (by omega)
        have g8 : decide (97 ≤ n) = false := decide_eq_false (by omega)
        have f9 : decide ((n : Int) ≤ (122 : Int)) = true := decide_eq_true (by omega)
        have g9 : decide (n ≤ 122) = true := decide_eq_true (by omega)
        rw [hcnt] at hCN
        clear h hcnt hx
        have F := Lib.hid (F0.out hCN.out)
        clear F1 F0 hCN
        have O' := Lib.hid (show OwnB wr w.heap.size u5 (filtS 2 false (s.data.toList.take (k + 1))) by rw [F.out]; exact HO.out)
        clear F
        go_wp2_with fail
        exact ⟨⟨k + 1, hlt, by rw [e1], O'.out, HB.out⟩, by first | (rw [e1, E2.out, E2.out]; omega) | (rw [E2.out, E2.out]; omega)⟩
      · have hcnt : cntN 2 n = true := by simp only [cntN]; simp; omega
        have f0 : decide ((32 : Int) ≤ (n : Int)) = true := decide_eq_true (by omega)
        have g0 : decide (32 ≤ n) = true := decide_eq_true (by omega)
        have f1 : decide ((n : Int) ≤ (126 : Int)) = true := decide_eq_true (by omega)
        have g1 : decide (n ≤ 126) = true := decide_eq_true (by omega)
        have f2 : ((n : Int) == 32) = false := by rw [beq_eq_false_iff_ne]; omega
        have f3 : ((n : Int) == 9) = false := by rw [beq_eq_false_iff_ne]; omega
        have f4 : decide ((48 : Int) ≤ (n : Int)) = true := decide_eq_true (by omega)
        have g4 : decide (48 ≤ n) = true := decide_eq_true (by omega)
        have f5 : decide ((n : Int) ≤ (57 : Int)) = false := decide_eq_false (by omega)
        have g5 : decide (n ≤ 57) = false := decide_eq_false (by omega)
        have f6 : decide ((65 : Int) ≤ (n : Int)) = true := decide_eq_true (by omega)
        have g6 : decide (65 ≤ n) = true := decide_eq_true (by omega)
        have f7 : decide ((n : Int) ≤ (90 : Int)) = false := decide_eq_false (by omega)
        have g7 : decide (n ≤ 90) = false := decide_eq_false (by omega)
        have f8 : decide ((97 : Int) ≤ (n : Int)) = true := decide_eq_true (by omega)
        have g8 : decide (97 ≤ n) = true := decide_eq_true (by omega)
        have f9 : decide ((n : Int) ≤ (122 : Int)) = true := decide_eq_true (by omega)
        have g9 : decide (n ≤ 122) = true := decide_eq_true (by omega)
        rw [hcnt] at hCN
        clear h hcnt hx
        have F := Lib.hid (F1.out hCN.out)
        clear F1 F0 hCN
        go_wp2_with (first | (guard_target =~ wpList _ _ _ (⟨_, Op.call { callee := .builtin .append, args := _, argTypes := #[71, 71] }, _, _, _, _⟩ :: _) _ _; refine wp_app rfl _ _ rfl w.heap.size _ _ rfl HO.out [c] _ (by simp [byV]; omega) rfl (by have h1 := FL.out; have h2 := HS.out; rw [List.length_take] at h1; simp; omega) ?_))
        intro v' w' o' b' _
        have O' := Lib.hid (show OwnB w' w.heap.size v' (filtS 2 false (s.data.toList.take (k + 1))) by rw [F.out]; exact o')
        have B' := Lib.hid (HB.out.trans b')
        clear o' b' F
        go_wp2_with fail
        exact ⟨⟨k + 1, hlt, by rw [e1], O'.out, B'.out⟩, by first | (rw [e1, E2.out, E2.out]; omega) | (rw [E2.out, E2.out]; omega)⟩
      · have hcnt : cntN 2 n = false := by simp only [cntN]; simp; omega
        have f0 : decide ((32 : Int) ≤ (n : Int)) = true := decide_eq_true (by omega)
        have g0 : decide (32 ≤ n) = true := decide_eq_true (by omega)
        have f1 : decide ((n : Int) ≤ (126 : Int)) = true := decide_eq_true (by omega)
        have g1 : decide (n ≤ 126) = true := decide_eq_true (by omega)
        have f2 : ((n : Int) == 32) = false := by rw [beq_eq_false_iff_ne]; omega
        have f3 : ((n : Int) == 9) = false := by rw [beq_eq_false_iff_ne]; omega
        have f4 : decide ((48 : Int) ≤ (n : Int)) = true := decide_eq_true (by omega)
        have g4 : decide (48 ≤ n) = true := decide_eq_true (by omega)
        have f5 : decide ((n : Int) ≤ (57 : Int)) = false := decide_eq_false (by omega)
        have g5 : decide (n ≤ 57) = false := decide_eq_false (by omega)
        have f6 : decide ((65 : Int) ≤ (n : Int)) = true := decide_eq_true (by omega)
        have g6 : decide (65 ≤ n) = true := decide_eq_true (by omega)
        have f7 : decide ((n : Int) ≤ (90 : Int)) = false := decide_eq_false (by omega)
        have g7 : decide (n ≤ 90) = false := decide_eq_false (by omega)
        have f8 : decide ((97 : Int) ≤ (n : Int)) = true := decide_eq_true (by omega)
        have g8 : decide (97 ≤ n) = true := decide_eq_true (by omega)
        have f9 : decide ((n : Int) ≤ (122 : Int)) = false := decide_eq_false (by omega)
        have g9 : decide (n ≤ 122) = false := decide_eq_false (by omega)
        rw [hcnt] at hCN
        clear h hcnt hx
        have F := Lib.hid (F0.out hCN.out)
        clear F1 F0 hCN
        have O' := Lib.hid (show OwnB wr w.heap.size u5 (filtS 2 false (s.data.toList.take (k + 1))) by rw [F.out]; exact HO.out)
        clear F
        go_wp2_with fail
        exact ⟨⟨k + 1, hlt, by rw [e1], O'.out, HB.out⟩, by first | (rw [e1, E2.out, E2.out]; omega) | (rw [E2.out, E2.out]; omega)⟩
      · have hcnt : cntN 2 n = false := by simp only [cntN]; simp; omega
        have f0 : decide ((32 : Int) ≤ (n : Int)) = true := decide_eq_true (by omega)
        have g0 : decide (32 ≤ n) = true := decide_eq_true (by omega)
        have f1 : decide ((n : Int) ≤ (126 : Int)) = false := decide_eq_false (by omega)
        have g1 : decide (n ≤ 126) = false := decide_eq_false (by omega)
        have f2 : ((n : Int) == 32) = false := by rw [beq_eq_false_iff_ne]; omega
        have f3 : ((n : Int) == 9) = false := by rw [beq_eq_false_iff_ne]; omega
        have f4 : decide ((48 : Int) ≤ (n : Int)) = true := decide_eq_true (by omega)
        have g4 : decide (48 ≤ n) = true := decide_eq_true (by omega)
        have f5 : decide ((n : Int) ≤ (57 : Int)) = false := decide_eq_false (by omega)
        have g5 : decide (n ≤ 57) = false := decide_eq_false (by omega)
        have f6 : decide ((65 : Int) ≤ (n : Int)) = true := decide_eq_true (by omega)
        have g6 : decide (65 ≤ n) = true := decide_eq_true (by omega)
        have f7 : decide ((n : Int) ≤ (90 : Int)) = false := decide_eq_false (by omega)
        have g7 : decide (n ≤ 90) = false := decide_eq_false (by omega)
        have f8 : decide ((97 : Int) ≤ (n : Int)) = true := decide_eq_true (by omega)
        have g8 : decide (97 ≤ n) = true := decide_eq_true (by omega)
        have f9 : decide ((n : Int) ≤ (122 : Int)) = false := decide_eq_false (by omega)
        have g9 : decide (n ≤ 122) = false := decide_eq_false (by omega)
        rw [hcnt] at hCN
        clear h hcnt hx
        have F := Lib.hid (F0.out hCN.out)
        clear F1 F0 hCN
        have O' := Lib.hid (show OwnB wr w.heap.size u5 (filtS 2 false (s.data.toList.take (k + 1))) by rw [F.out]; exact HO.out)
        clear F
        go_wp2_with fail
        exact ⟨⟨k + 1, hlt, by rw [e1], O'.out, HB.out⟩, by first | (rw [e1, E2.out, E2.out]; omega) | (rw [E2.out, E2.out]; omega)⟩
    · have t0 : decide (k < s.size) = false := decide_eq_false hlt
      obtain rfl : k = s.size := by omega
      have hcv := HO.out.conv
      rw [Lib.size_eq, List.take_length] at hcv
      generalize hF : bs (filtS 2 false s.data.toList) = F at *
      clear hF
      go_wp2_with fail
      go_ret
      exact ⟨rfl, HB.out⟩
theorem drop_ok (s : ByteArray) (d : Bool) (hs : s.size ≤ 1048576) (w : World) : Calls Tryz.prog 18 #[.string s, .bool d] w (RetBk w (.string (bs (filtS (if d then 2 else 4) false s.data.toList)))) := by
  cases d
  · exact dropI_ok s hs w
  · exact dropD_ok s hs w
end Go.Proofs.YtgpcmlbmmcnkjaaGreatDoor
