/- The document's answer for versions: Rank, pairs, Pairs, Versions. -/
import Derived.Test.YtgpcmlbmmcnkjaaGreatDoorNumRefGb
import Derived.OwnWalk
import Derived.Laws.OwnMore
import Derived.Deep.AppendLies
import Derived.StillTailTactics
namespace Go.Proofs.YtgpcmlbmmcnkjaaGreatDoor.Num
open Go.RowKit
section


set_option maxRecDepth 100000
/-- Is it counted by Rank? -/
def cntB (c : UInt8) : Bool := !(isDig c) && !(c == 126) && !(decide (97 ≤ (lowB c).toNat) && decide ((lowB c).toNat ≤ 122))
def cntN : Nat → Nat
  | 0 => 0
  | k + 1 => cntN k + if cntB (UInt8.ofNat k) then 1 else 0
theorem rank_cnt : ∀ c : UInt8, notDig c = true → c ≠ 126 → ¬ (65 ≤ c.toNat ∧ c.toNat ≤ 90) → ¬ (97 ≤ c.toNat ∧ c.toNat ≤ 122) → rankB c = 55 + cntN c.toNat := by
  have h : ∀ x : Fin 256, notDig (UInt8.ofNat x) = true → UInt8.ofNat x ≠ 126 → ¬ (65 ≤ (UInt8.ofNat x).toNat ∧ (UInt8.ofNat x).toNat ≤ 90) → ¬ (97 ≤ (UInt8.ofNat x).toNat ∧ (UInt8.ofNat x).toNat ≤ 122) → rankB (UInt8.ofNat x) = 55 + cntN (UInt8.ofNat x).toNat := by decide +kernel
  intro c
  have := h ⟨c.toNat, c.toNat_lt⟩
  simpa using this
theorem rank_hi : ∀ c : UInt8, 65 ≤ c.toNat → c.toNat ≤ 90 → rankB c = 3 + (c.toNat - 65) := by
  intro c h1 h2
  unfold rankB
  simp only
  rw [if_neg (by omega), if_neg (by omega), if_pos (by omega)]
theorem rank_lo : ∀ c : UInt8, 97 ≤ c.toNat → c.toNat ≤ 122 → rankB c = 29 + (c.toNat - 97) := by
  intro c h1 h2
  unfold rankB
  simp only
  rw [if_neg (by omega), if_neg (by omega), if_neg (by omega), if_neg (by omega), if_pos (by omega)]
theorem cntN_le : ∀ k, cntN k ≤ k
  | 0 => Nat.le_refl _
  | k + 1 => by have := cntN_le k; show cntN k + _ ≤ _; split <;> omega

set_option maxHeartbeats 1600000 in
theorem rankR_ok (c : UInt8) (hc : notDig c = true) (w : World) : Calls Tryz.prog 131 #[.int .u8 c.toNat] w (Same w (.int .i64 (rankB c))) := by
  have hlt := c.toNat_lt
  have hlt2 : (c.toNat : Int) < 256 := by omega
  have b126 := byte_is c 126 (by omega)
  by_cases h126 : c = 126
  · have t1 : ((c.toNat : Int) == 126) = true := b126.trans (by rw [h126]; rfl)
    have E := Lib.hid (show rankB c = 1 by rw [h126]; rfl)
    clear h126 b126 hc
    go_enter Tryz.func131, Tryz.ntmps131
    go_wp2_with fail
    go_ret
    exact ⟨by rw [E.out]; rfl, rfl⟩
  · have t1 : ((c.toNat : Int) == 126) = false := b126.trans (by simpa using h126)
    by_cases hU : 65 ≤ c.toNat ∧ c.toNat ≤ 90
    · obtain ⟨u1, u2⟩ := hU
      have E := Lib.hid (show (rankB c : Int) = 3 + ((c.toNat : Int) - 65) by rw [rank_hi c u1 u2]; omega)
      have q1 : IntKind.u8.wrap ((c.toNat : Int) - 65) = (c.toNat : Int) - 65 := by unfold IntKind.wrap; simp [IntKind.bits, IntKind.signed]; omega
      have v1 : (65 : Int) ≤ c.toNat := by omega
      have v2 : (c.toNat : Int) ≤ 90 := by omega
      clear b126 hc h126
      go_enter Tryz.func131, Tryz.ntmps131
      go_wp2_with fail
      go_ret
      exact ⟨by rw [E.out]; rfl, rfl⟩
    · by_cases hL : 97 ≤ c.toNat ∧ c.toNat ≤ 122
      · obtain ⟨u1, u2⟩ := hL
        have E := Lib.hid (show (rankB c : Int) = 29 + ((c.toNat : Int) - 97) by rw [rank_lo c u1 u2]; omega)
        have q1 : IntKind.u8.wrap ((c.toNat : Int) - 97) = (c.toNat : Int) - 97 := by unfold IntKind.wrap; simp [IntKind.bits, IntKind.signed]; omega
        have v0 : (65 : Int) ≤ c.toNat := by omega
        have v3 : decide ((c.toNat : Int) ≤ 90) = false := decide_eq_false (by omega)
        have v1 : (97 : Int) ≤ c.toNat := by omega
        have v2 : (c.toNat : Int) ≤ 122 := by omega
        clear b126 hc h126 hU
        go_enter Tryz.func131, Tryz.ntmps131
        go_wp2_with fail
        go_ret
        exact ⟨by rw [E.out]; rfl, rfl⟩
      · have E := Lib.hid (rank_cnt c hc h126 hU hL)
        have key : c.toNat < 65 ∨ (90 < c.toNat ∧ c.toNat < 97) ∨ 122 < c.toNat := by omega
        clear b126 hc h126 hL hU
        rcases key with k1 | ⟨k1, k2⟩ | k1
        · have e1 : decide ((65 : Int) ≤ c.toNat) = false := decide_eq_false (by omega)
          have e3 : decide ((97 : Int) ≤ c.toNat) = false := decide_eq_false (by omega)
          go_enter Tryz.func131, Tryz.ntmps131
          go_wp2_with fail
          clear t1 e1 e3
          go_loop [3, 4] (fun n i => ∃ k : Nat, k ≤ c.toNat ∧ i = .int .i64 k ∧ n = .int .i64 ((55 + cntN k : Nat) : Int)) (fun _ i => 256 - (intOf i).toNat)
          case atStart => exact ⟨0, Nat.zero_le _, rfl, rfl⟩
          case round =>
            obtain ⟨k, hk, rfl, rfl⟩ := hrel
            have hcl := cntN_le k
            by_cases hkl : k < c.toNat
            · have hk2 : (k : Int) < 256 := by omega
              have hkt : (UInt8.ofNat k).toNat = k := by rw [UInt8.toNat_ofNat', Nat.mod_eq_of_lt (by omega)]
              have DC := Lib.hid (fun W : World => isDigitR_ok (UInt8.ofNat k) W)
              have LC := Lib.hid (fun W : World => low_ok (UInt8.ofNat k) W)
              have TB := byte_is (UInt8.ofNat k) 126 (by omega)
              rw [hkt] at DC LC TB
              have HN : cntN (k + 1) = cntN k + if cntB (UInt8.ofNat k) then 1 else 0 := rfl
              have hll := (lowB (UInt8.ofNat k)).toNat_lt
              unfold cntB at HN
              clear hkt
              have wk : IntKind.u8.wrap (k : Int) = (k : Int) := by unfold IntKind.wrap; simp [IntKind.bits, IntKind.signed]; omega
              have rel_more : cntN (k + 1) = cntN k + 1 → ∃ k' : Nat, k' ≤ c.toNat ∧ Value.int .i64 ((k : Int) + 1) = .int .i64 k' ∧ Value.int .i64 (((55 + cntN k : Nat) : Int) + 1) = .int .i64 ((55 + cntN k' : Nat) : Int) := fun h => ⟨k + 1, hkl, by go_num, by rw [h]; go_num⟩
              have rel_same : cntN (k + 1) = cntN k → ∃ k' : Nat, k' ≤ c.toNat ∧ Value.int .i64 ((k : Int) + 1) = .int .i64 k' ∧ Value.int .i64 ((55 + cntN k : Nat) : Int) = .int .i64 ((55 + cntN k' : Nat) : Int) := fun h => ⟨k + 1, hkl, by go_num, by rw [h]⟩
              have RM := Lib.hid rel_more
              have RS := Lib.hid rel_same
              clear rel_more rel_same
              cases hd : isDig (UInt8.ofNat k) with
              | true =>
                rw [hd] at DC HN
                have HNN := Lib.hid (show cntN (k + 1) = cntN k from HN)
                clear HN hd TB
                generalize cntN k = cn at *
                go_wp2_with fail
                refine (DC.out _).mono ?_
                rintro e w1 ⟨rfl, rfl⟩
                go_wp2_with fail
                exact ⟨RS.out HNN.out, by simp [intOf]; omega⟩
              | false =>
                rw [hd] at DC HN
                by_cases h6 : UInt8.ofNat k = 126
                · have t6 : ((k : Int) == 126) = true := TB.trans (by rw [h6]; rfl)
                  rw [h6] at HN
                  have HNN := Lib.hid (show cntN (k + 1) = cntN k from HN)
                  clear HN hd TB h6
                  have t62 : ((k : Int) != 126) = false := by rw [bne, t6]; rfl
                  generalize cntN k = cn at *
                  go_wp2_with fail
                  refine (DC.out _).mono ?_
                  rintro e w1 ⟨rfl, rfl⟩
                  go_wp2_with fail
                  exact ⟨RS.out HNN.out, by simp [intOf]; omega⟩
                · have t6 : ((k : Int) == 126) = false := TB.trans (by simpa using h6)
                  have t62 : ((k : Int) != 126) = true := by rw [bne, t6]; rfl
                  have b6 : (UInt8.ofNat k == 126) = false := by simpa using h6
                  rw [b6] at HN
                  clear TB h6 hd b6 t6
                  generalize (lowB (UInt8.ofNat k)).toNat = L at *
                  by_cases l1 : 97 ≤ L
                  · by_cases l2 : L ≤ 122
                    · rw [decide_eq_true l1, decide_eq_true l2] at HN
                      have HNN := Lib.hid (show cntN (k + 1) = cntN k from HN)
                      have v1 : (97 : Int) ≤ (L : Int) := by omega
                      have v2 : (L : Int) ≤ 122 := by omega
                      clear HN
                      generalize cntN k = cn at *
                      go_wp2_with fail
                      refine (DC.out _).mono ?_
                      rintro e w1 ⟨rfl, rfl⟩
                      go_wp2_with fail
                      refine (LC.out _).mono ?_
                      rintro e w1 ⟨rfl, rfl⟩
                      go_wp2_with fail
                      refine (LC.out _).mono ?_
                      rintro e w1 ⟨rfl, rfl⟩
                      go_wp2_with fail
                      exact ⟨RS.out HNN.out, by simp [intOf]; omega⟩
                    · rw [decide_eq_true l1, decide_eq_false l2] at HN
                      have HNN := Lib.hid (show cntN (k + 1) = cntN k + 1 from HN)
                      have v1 : (97 : Int) ≤ (L : Int) := by omega
                      have v2 : decide ((L : Int) ≤ 122) = false := decide_eq_false (by omega)
                      clear HN
                      generalize cntN k = cn at *
                      go_wp2_with fail
                      refine (DC.out _).mono ?_
                      rintro e w1 ⟨rfl, rfl⟩
                      go_wp2_with fail
                      refine (LC.out _).mono ?_
                      rintro e w1 ⟨rfl, rfl⟩
                      go_wp2_with fail
                      refine (LC.out _).mono ?_
                      rintro e w1 ⟨rfl, rfl⟩
                      go_wp2_with fail
                      exact ⟨RM.out HNN.out, by simp [intOf]; omega⟩
                  · rw [decide_eq_false l1] at HN
                    have HNN := Lib.hid (show cntN (k + 1) = cntN k + 1 from HN)
                    have v1 : decide ((97 : Int) ≤ (L : Int)) = false := decide_eq_false (by omega)
                    clear HN
                    generalize cntN k = cn at *
                    go_wp2_with fail
                    refine (DC.out _).mono ?_
                    rintro e w1 ⟨rfl, rfl⟩
                    go_wp2_with fail
                    refine (LC.out _).mono ?_
                    rintro e w1 ⟨rfl, rfl⟩
                    go_wp2_with fail
                    exact ⟨RM.out HNN.out, by simp [intOf]; omega⟩
            · have ek : k = c.toNat := by omega
              have EK := Lib.hid (show ((55 + cntN k : Nat) : Int) = ((rankB c : Nat) : Int) by rw [E.out, ek])
              clear ek
              generalize cntN k = cn at *
              go_wp2_with fail
              go_ret
              exact ⟨by rw [← EK.out]; rfl, rfl⟩
        · have e1 : (65 : Int) ≤ c.toNat := by omega
          have e2 : decide ((c.toNat : Int) ≤ 90) = false := decide_eq_false (by omega)
          have e3 : decide ((97 : Int) ≤ c.toNat) = false := decide_eq_false (by omega)
          go_enter Tryz.func131, Tryz.ntmps131
          go_wp2_with fail
          clear t1 e1 e2 e3
          go_loop [3, 4] (fun n i => ∃ k : Nat, k ≤ c.toNat ∧ i = .int .i64 k ∧ n = .int .i64 ((55 + cntN k : Nat) : Int)) (fun _ i => 256 - (intOf i).toNat)
          case atStart => exact ⟨0, Nat.zero_le _, rfl, rfl⟩
          case round =>
            obtain ⟨k, hk, rfl, rfl⟩ := hrel
            have hcl := cntN_le k
            by_cases hkl : k < c.toNat
            · have hk2 : (k : Int) < 256 := by omega
              have hkt : (UInt8.ofNat k).toNat = k := by rw [UInt8.toNat_ofNat', Nat.mod_eq_of_lt (by omega)]
              have DC := Lib.hid (fun W : World => isDigitR_ok (UInt8.ofNat k) W)
              have LC := Lib.hid (fun W : World => low_ok (UInt8.ofNat k) W)
              have TB := byte_is (UInt8.ofNat k) 126 (by omega)
              rw [hkt] at DC LC TB
              have HN : cntN (k + 1) = cntN k + if cntB (UInt8.ofNat k) then 1 else 0 := rfl
              have hll := (lowB (UInt8.ofNat k)).toNat_lt
              unfold cntB at HN
              clear hkt
              have wk : IntKind.u8.wrap (k : Int) = (k : Int) := by unfold IntKind.wrap; simp [IntKind.bits, IntKind.signed]; omega
              have rel_more : cntN (k + 1) = cntN k + 1 → ∃ k' : Nat, k' ≤ c.toNat ∧ Value.int .i64 ((k : Int) + 1) = .int .i64 k' ∧ Value.int .i64 (((55 + cntN k : Nat) : Int) + 1) = .int .i64 ((55 + cntN k' : Nat) : Int) := fun h => ⟨k + 1, hkl, by go_num, by rw [h]; go_num⟩
              have rel_same : cntN (k + 1) = cntN k → ∃ k' : Nat, k' ≤ c.toNat ∧ Value.int .i64 ((k : Int) + 1) = .int .i64 k' ∧ Value.int .i64 ((55 + cntN k : Nat) : Int) = .int .i64 ((55 + cntN k' : Nat) : Int) := fun h => ⟨k + 1, hkl, by go_num, by rw [h]⟩
              have RM := Lib.hid rel_more
              have RS := Lib.hid rel_same
              clear rel_more rel_same
              cases hd : isDig (UInt8.ofNat k) with
              | true =>
                rw [hd] at DC HN
                have HNN := Lib.hid (show cntN (k + 1) = cntN k from HN)
                clear HN hd TB
                generalize cntN k = cn at *
                go_wp2_with fail
                refine (DC.out _).mono ?_
                rintro e w1 ⟨rfl, rfl⟩
                go_wp2_with fail
                exact ⟨RS.out HNN.out, by simp [intOf]; omega⟩
              | false =>
                rw [hd] at DC HN
                by_cases h6 : UInt8.ofNat k = 126
                · have t6 : ((k : Int) == 126) = true := TB.trans (by rw [h6]; rfl)
                  rw [h6] at HN
                  have HNN := Lib.hid (show cntN (k + 1) = cntN k from HN)
                  clear HN hd TB h6
                  have t62 : ((k : Int) != 126) = false := by rw [bne, t6]; rfl
                  generalize cntN k = cn at *
                  go_wp2_with fail
                  refine (DC.out _).mono ?_
                  rintro e w1 ⟨rfl, rfl⟩
                  go_wp2_with fail
                  exact ⟨RS.out HNN.out, by simp [intOf]; omega⟩
                · have t6 : ((k : Int) == 126) = false := TB.trans (by simpa using h6)
                  have t62 : ((k : Int) != 126) = true := by rw [bne, t6]; rfl
                  have b6 : (UInt8.ofNat k == 126) = false := by simpa using h6
                  rw [b6] at HN
                  clear TB h6 hd b6 t6
                  generalize (lowB (UInt8.ofNat k)).toNat = L at *
                  by_cases l1 : 97 ≤ L
                  · by_cases l2 : L ≤ 122
                    · rw [decide_eq_true l1, decide_eq_true l2] at HN
                      have HNN := Lib.hid (show cntN (k + 1) = cntN k from HN)
                      have v1 : (97 : Int) ≤ (L : Int) := by omega
                      have v2 : (L : Int) ≤ 122 := by omega
                      clear HN
                      generalize cntN k = cn at *
                      go_wp2_with fail
                      refine (DC.out _).mono ?_
                      rintro e w1 ⟨rfl, rfl⟩
                      go_wp2_with fail
                      refine (LC.out _).mono ?_
                      rintro e w1 ⟨rfl, rfl⟩
                      go_wp2_with fail
                      refine (LC.out _).mono ?_
                      rintro e w1 ⟨rfl, rfl⟩
                      go_wp2_with fail
                      exact ⟨RS.out HNN.out, by simp [intOf]; omega⟩
                    · rw [decide_eq_true l1, decide_eq_false l2] at HN
                      have HNN := Lib.hid (show cntN (k + 1) = cntN k + 1 from HN)
                      have v1 : (97 : Int) ≤ (L : Int) := by omega
                      have v2 : decide ((L : Int) ≤ 122) = false := decide_eq_false (by omega)
                      clear HN
                      generalize cntN k = cn at *
                      go_wp2_with fail
                      refine (DC.out _).mono ?_
                      rintro e w1 ⟨rfl, rfl⟩
                      go_wp2_with fail
                      refine (LC.out _).mono ?_
                      rintro e w1 ⟨rfl, rfl⟩
                      go_wp2_with fail
                      refine (LC.out _).mono ?_
                      rintro e w1 ⟨rfl, rfl⟩
                      go_wp2_with fail
                      exact ⟨RM.out HNN.out, by simp [intOf]; omega⟩
                  · rw [decide_eq_false l1] at HN
                    have HNN := Lib.hid (show cntN (k + 1) = cntN k + 1 from HN)
                    have v1 : decide ((97 : Int) ≤ (L : Int)) = false := decide_eq_false (by omega)
                    clear HN
                    generalize cntN k = cn at *
                    go_wp2_with fail
                    refine (DC.out _).mono ?_
                    rintro e w1 ⟨rfl, rfl⟩
                    go_wp2_with fail
                    refine (LC.out _).mono ?_
                    rintro e w1 ⟨rfl, rfl⟩
                    go_wp2_with fail
                    exact ⟨RM.out HNN.out, by simp [intOf]; omega⟩
            · have ek : k = c.toNat := by omega
              have EK := Lib.hid (show ((55 + cntN k : Nat) : Int) = ((rankB c : Nat) : Int) by rw [E.out, ek])
              clear ek
              generalize cntN k = cn at *
              go_wp2_with fail
              go_ret
              exact ⟨by rw [← EK.out]; rfl, rfl⟩
        · have e1 : (65 : Int) ≤ c.toNat := by omega
          have e2 : decide ((c.toNat : Int) ≤ 90) = false := decide_eq_false (by omega)
          have e3 : (97 : Int) ≤ c.toNat := by omega
          have e4 : decide ((c.toNat : Int) ≤ 122) = false := decide_eq_false (by omega)
          go_enter Tryz.func131, Tryz.ntmps131
          go_wp2_with fail
          clear t1 e1 e2 e3 e4
          go_loop [3, 4] (fun n i => ∃ k : Nat, k ≤ c.toNat ∧ i = .int .i64 k ∧ n = .int .i64 ((55 + cntN k : Nat) : Int)) (fun _ i => 256 - (intOf i).toNat)
          case atStart => exact ⟨0, Nat.zero_le _, rfl, rfl⟩
          case round =>
            obtain ⟨k, hk, rfl, rfl⟩ := hrel
            have hcl := cntN_le k
            by_cases hkl : k < c.toNat
            · have hk2 : (k : Int) < 256 := by omega
              have hkt : (UInt8.ofNat k).toNat = k := by rw [UInt8.toNat_ofNat', Nat.mod_eq_of_lt (by omega)]
              have DC := Lib.hid (fun W : World => isDigitR_ok (UInt8.ofNat k) W)
              have LC := Lib.hid (fun W : World => low_ok (UInt8.ofNat k) W)
              have TB := byte_is (UInt8.ofNat k) 126 (by omega)
              rw [hkt] at DC LC TB
              have HN : cntN (k + 1) = cntN k + if cntB (UInt8.ofNat k) then 1 else 0 := rfl
              have hll := (lowB (UInt8.ofNat k)).toNat_lt
              unfold cntB at HN
              clear hkt
              have wk : IntKind.u8.wrap (k : Int) = (k : Int) := by unfold IntKind.wrap; simp [IntKind.bits, IntKind.signed]; omega
              have rel_more : cntN (k + 1) = cntN k + 1 → ∃ k' : Nat, k' ≤ c.toNat ∧ Value.int .i64 ((k : Int) + 1) = .int .i64 k' ∧ Value.int .i64 (((55 + cntN k : Nat) : Int) + 1) = .int .i64 ((55 + cntN k' : Nat) : Int) := fun h => ⟨k + 1, hkl, by go_num, by rw [h]; go_num⟩
              have rel_same : cntN (k + 1) = cntN k → ∃ k' : Nat, k' ≤ c.toNat ∧ Value.int .i64 ((k : Int) + 1) = .int .i64 k' ∧ Value.int .i64 ((55 + cntN k : Nat) : Int) = .int .i64 ((55 + cntN k' : Nat) : Int) := fun h => ⟨k + 1, hkl, by go_num, by rw [h]⟩
              have RM := Lib.hid rel_more
              have RS := Lib.hid rel_same
              clear rel_more rel_same
              cases hd : isDig (UInt8.ofNat k) with
              | true =>
                rw [hd] at DC HN
                have HNN := Lib.hid (show cntN (k + 1) = cntN k from HN)
                clear HN hd TB
                generalize cntN k = cn at *
                go_wp2_with fail
                refine (DC.out _).mono ?_
                rintro e w1 ⟨rfl, rfl⟩
                go_wp2_with fail
                exact ⟨RS.out HNN.out, by simp [intOf]; omega⟩
              | false =>
                rw [hd] at DC HN
                by_cases h6 : UInt8.ofNat k = 126
                · have t6 : ((k : Int) == 126) = true := TB.trans (by rw [h6]; rfl)
                  rw [h6] at HN
                  have HNN := Lib.hid (show cntN (k + 1) = cntN k from HN)
                  clear HN hd TB h6
                  have t62 : ((k : Int) != 126) = false := by rw [bne, t6]; rfl
                  generalize cntN k = cn at *
                  go_wp2_with fail
                  refine (DC.out _).mono ?_
                  rintro e w1 ⟨rfl, rfl⟩
                  go_wp2_with fail
                  exact ⟨RS.out HNN.out, by simp [intOf]; omega⟩
                · have t6 : ((k : Int) == 126) = false := TB.trans (by simpa using h6)
                  have t62 : ((k : Int) != 126) = true := by rw [bne, t6]; rfl
                  have b6 : (UInt8.ofNat k == 126) = false := by simpa using h6
                  rw [b6] at HN
                  clear TB h6 hd b6 t6
                  generalize (lowB (UInt8.ofNat k)).toNat = L at *
                  by_cases l1 : 97 ≤ L
                  · by_cases l2 : L ≤ 122
                    · rw [decide_eq_true l1, decide_eq_true l2] at HN
                      have HNN := Lib.hid (show cntN (k + 1) = cntN k from HN)
                      have v1 : (97 : Int) ≤ (L : Int) := by omega
                      have v2 : (L : Int) ≤ 122 := by omega
                      clear HN
                      generalize cntN k = cn at *
                      go_wp2_with fail
                      refine (DC.out _).mono ?_
                      rintro e w1 ⟨rfl, rfl⟩
                      go_wp2_with fail
                      refine (LC.out _).mono ?_
                      rintro e w1 ⟨rfl, rfl⟩
                      go_wp2_with fail
                      refine (LC.out _).mono ?_
                      rintro e w1 ⟨rfl, rfl⟩
                      go_wp2_with fail
                      exact ⟨RS.out HNN.out, by simp [intOf]; omega⟩
                    · rw [decide_eq_true l1, decide_eq_false l2] at HN
                      have HNN := Lib.hid (show cntN (k + 1) = cntN k + 1 from HN)
                      have v1 : (97 : Int) ≤ (L : Int) := by omega
                      have v2 : decide ((L : Int) ≤ 122) = false := decide_eq_false (by omega)
                      clear HN
                      generalize cntN k = cn at *
                      go_wp2_with fail
                      refine (DC.out _).mono ?_
                      rintro e w1 ⟨rfl, rfl⟩
                      go_wp2_with fail
                      refine (LC.out _).mono ?_
                      rintro e w1 ⟨rfl, rfl⟩
                      go_wp2_with fail
                      refine (LC.out _).mono ?_
                      rintro e w1 ⟨rfl, rfl⟩
                      go_wp2_with fail
                      exact ⟨RM.out HNN.out, by simp [intOf]; omega⟩
                  · rw [decide_eq_false l1] at HN
                    have HNN := Lib.hid (show cntN (k + 1) = cntN k + 1 from HN)
                    have v1 : decide ((97 : Int) ≤ (L : Int)) = false := decide_eq_false (by omega)
                    clear HN
                    generalize cntN k = cn at *
                    go_wp2_with fail
                    refine (DC.out _).mono ?_
                    rintro e w1 ⟨rfl, rfl⟩
                    go_wp2_with fail
                    refine (LC.out _).mono ?_
                    rintro e w1 ⟨rfl, rfl⟩
                    go_wp2_with fail
                    exact ⟨RM.out HNN.out, by simp [intOf]; omega⟩
            · have ek : k = c.toNat := by omega
              have EK := Lib.hid (show ((55 + cntN k : Nat) : Int) = ((rankB c : Nat) : Int) by rw [E.out, ek])
              clear ek
              generalize cntN k = cn at *
              go_wp2_with fail
              go_ret
              exact ⟨by rw [← EK.out]; rfl, rfl⟩

set_option maxHeartbeats 400000 in
theorem rankAtR_ok (p : ByteArray) (i : Nat) (w : World) (hp : ∀ x ∈ p.data.toList, notDig x = true) : Calls Tryz.prog 117 #[.string p, .int .i64 i] w (Same w (.int .i64 (rankAtS p.data.toList i))) := by
  by_cases h : i < p.size
  · have h' : i < p.data.toList.length := by rw [← Lib.size_eq]; exact h
    have g : p.data.toList.getD i 0 = p[i] := get_atB p i h
    have E := Lib.hid (show rankAtS p.data.toList i = (rankB p[i] : Int) by unfold rankAtS; rw [if_pos h', g])
    have hn : notDig p[i] = true := hp _ (by
      rw [← g, List.getD_eq_getElem?_getD, List.getElem?_eq_getElem h']
      exact List.getElem_mem h')
    have RC := Lib.hid (fun W : World => rankR_ok p[i] hn W)
    clear g hn hp
    go_enter Tryz.func117, Tryz.ntmps117
    go_wp2_with fail
    refine (RC.out _).mono ?_
    rintro e w1 ⟨rfl, rfl⟩
    go_wp2_with fail
    go_ret
    exact ⟨by rw [E.out]; rfl, rfl⟩
  · have E := Lib.hid (show rankAtS p.data.toList i = 2 by unfold rankAtS; rw [if_neg (by rw [← Lib.size_eq]; exact h)])
    clear hp
    go_enter Tryz.func117, Tryz.ntmps117
    go_wp2_with fail
    go_ret
    exact ⟨by rw [E.out]; rfl, rfl⟩
end

section


set_option maxRecDepth 100000

set_option maxHeartbeats 800000 in
theorem one_ee (a b : ByteArray) (w : World) (g1 : a.toList.isEmpty = true) (g2 : (a.toList == []) = true) (g3 : a.toList = []) (h1 : b.toList.isEmpty = true) (h2 : (b.toList == []) = true) (h3 : b.toList = []) : Calls Tryz.prog 132 #[.string a, .string b] w (Same w (.int .i64 0)) := by
  go_enter Tryz.func132, Tryz.ntmps132
  go_wp2_with fail
  go_ret
  exact ⟨rfl, rfl⟩

set_option maxHeartbeats 800000 in
theorem numbers_ee (a b : ByteArray) (w : World) (g1 : a.toList.isEmpty = true) (g2 : (a.toList == []) = true) (g3 : a.toList = []) (h1 : b.toList.isEmpty = true) (h2 : (b.toList == []) = true) (h3 : b.toList = []) (za : a.size = 0) (zb : b.size = 0) :
    Calls Tryz.prog 118 #[.string a, .string b] w (RetBelow w (.int .i64 0)) := by
  have OC := Lib.hid (fun W : World => one_ee a b W g1 g2 g3 h1 h2 h3)
  have IC := Lib.hid (fun W : World => ints_ok (a.size : Int) (b.size : Int) W)
  have ei : cmpI (a.size : Int) (b.size : Int) = 0 := by unfold cmpI; rw [za, zb]; rfl
  rw [ei] at IC
  clear ei za zb
  go_enter Tryz.func118, Tryz.ntmps118
  go_wp2_with fail
  refine (IC.out _).mono ?_
  rintro e w1 ⟨rfl, rfl⟩
  go_wp2_with fail
  refine (OC.out _).mono ?_
  rintro e w1 ⟨rfl, rfl⟩
  go_wp2_with fail
  go_ret
  exact ⟨rfl, Below.refl _ _⟩

set_option maxHeartbeats 800000 in
theorem one_ef (a b : ByteArray) (w : World) (g1 : a.toList.isEmpty = true) (g2 : (a.toList == []) = true) (g3 : a.toList = []) (h1 : b.toList.isEmpty = false) (h2 : (b.toList == []) = false) (h3 : ¬ b.toList = []) : Calls Tryz.prog 132 #[.string a, .string b] w (Same w (.int .i64 1)) := by
  go_enter Tryz.func132, Tryz.ntmps132
  go_wp2_with fail
  go_ret
  exact ⟨rfl, rfl⟩

set_option maxHeartbeats 800000 in
theorem numbers_ef (a b : ByteArray) (w : World) (g1 : a.toList.isEmpty = true) (g2 : (a.toList == []) = true) (g3 : a.toList = []) (h1 : b.toList.isEmpty = false) (h2 : (b.toList == []) = false) (h3 : ¬ b.toList = []) (za : a.size = 0) (zb : 0 < b.size) (zb2 : b.size ≤ 2000000) :
    Calls Tryz.prog 118 #[.string a, .string b] w (RetBelow w (.int .i64 (-1))) := by
  have OC := Lib.hid (fun W : World => one_ef a b W g1 g2 g3 h1 h2 h3)
  have IC := Lib.hid (fun W : World => ints_ok (a.size : Int) (b.size : Int) W)
  have ei : cmpI (a.size : Int) (b.size : Int) = -1 := by unfold cmpI; rw [if_pos (by omega)]
  rw [ei] at IC
  clear ei za zb zb2
  go_enter Tryz.func118, Tryz.ntmps118
  go_wp2_with fail
  refine (IC.out _).mono ?_
  rintro e w1 ⟨rfl, rfl⟩
  go_wp2_with fail
  refine (OC.out _).mono ?_
  rintro e w1 ⟨rfl, rfl⟩
  go_wp2_with fail
  go_ret
  exact ⟨rfl, Below.refl _ _⟩

set_option maxHeartbeats 800000 in
theorem one_fe (a b : ByteArray) (w : World) (g1 : a.toList.isEmpty = false) (g2 : (a.toList == []) = false) (g3 : ¬ a.toList = []) (h1 : b.toList.isEmpty = true) (h2 : (b.toList == []) = true) (h3 : b.toList = []) : Calls Tryz.prog 132 #[.string a, .string b] w (Same w (.int .i64 1)) := by
  go_enter Tryz.func132, Tryz.ntmps132
  go_wp2_with fail
  go_ret
  exact ⟨rfl, rfl⟩

set_option maxHeartbeats 800000 in
theorem numbers_fe (a b : ByteArray) (w : World) (g1 : a.toList.isEmpty = false) (g2 : (a.toList == []) = false) (g3 : ¬ a.toList = []) (h1 : b.toList.isEmpty = true) (h2 : (b.toList == []) = true) (h3 : b.toList = []) (za : 0 < a.size) (za2 : a.size ≤ 2000000) (zb : b.size = 0) :
    Calls Tryz.prog 118 #[.string a, .string b] w (RetBelow w (.int .i64 1)) := by
  have OC := Lib.hid (fun W : World => one_fe a b W g1 g2 g3 h1 h2 h3)
  have IC := Lib.hid (fun W : World => ints_ok (a.size : Int) (b.size : Int) W)
  have ei : cmpI (a.size : Int) (b.size : Int) = 1 := by unfold cmpI; rw [if_neg (by omega), if_pos (by omega)]
  rw [ei] at IC
  clear ei za zb za2
  go_enter Tryz.func118, Tryz.ntmps118
  go_wp2_with fail
  refine (IC.out _).mono ?_
  rintro e w1 ⟨rfl, rfl⟩
  go_wp2_with fail
  refine (OC.out _).mono ?_
  rintro e w1 ⟨rfl, rfl⟩
  go_wp2_with fail
  go_ret
  exact ⟨rfl, Below.refl _ _⟩

set_option maxHeartbeats 800000 in
theorem numbers_ff (a b : ByteArray) (w : World) (g1 : a.toList.isEmpty = false) (g2 : (a.toList == []) = false) (g3 : ¬ a.toList = []) (h1 : b.toList.isEmpty = false) (h2 : (b.toList == []) = false) (h3 : ¬ b.toList = []) (za : 0 < a.size) (za2 : a.size ≤ 2000000) (zb : 0 < b.size) (zb2 : b.size ≤ 2000000) (ta tb : ByteArray) (x y : Nat) (hx : x ≤ a.size) (hy : y ≤ b.size) (ea : a.extract x a.size = ta) (eb : b.extract y b.size = tb) (sa : ta.size ≤ 2000000) (sb : tb.size ≤ 2000000)
    (Z1 : Hid (∀ W, Calls Tryz.prog 110 #[.string a] W (Same W (.int .i64 x)))) (Z2 : Hid (∀ W, Calls Tryz.prog 110 #[.string b] W (Same W (.int .i64 y)))) :
    Calls Tryz.prog 118 #[.string a, .string b] w (RetBelow w (.int .i64 (thenC (cmpI ta.size tb.size) (cmpL ta.data.toList tb.data.toList)))) := by
  have BC := Lib.hid (fun W : World => bytes_ok ta tb W (by omega) (by omega))
  have IC := Lib.hid (fun W : World => ints_ok (ta.size : Int) (tb.size : Int) W)
  generalize cmpL ta.data.toList tb.data.toList = c at *
  clear za zb
  by_cases hs : ta.size = tb.size
  · have t1 : ((ta.size : Int) != (tb.size : Int)) = false := by rw [hs]; simp
    have t1' : (ta.size != tb.size) = false := by rw [hs]; simp
    have ER := Lib.hid (show thenC (cmpI (ta.size : Int) (tb.size : Int)) c = c by rw [hs]; unfold cmpI; simp [thenC_zero])
    clear hs
    go_enter Tryz.func118, Tryz.ntmps118
    go_wp2_with fail
    refine (Z1.out _).mono ?_
    rintro e w1 ⟨rfl, rfl⟩
    go_wp2_with fail
    refine (Z2.out _).mono ?_
    rintro e w1 ⟨rfl, rfl⟩
    go_wp2_with fail
    refine (BC.out _).mono ?_
    rintro e w1 ⟨rfl, hb1⟩
    have HB := Lib.hid hb1
    clear hb1
    go_wp2_with fail
    go_ret
    exact ⟨by rw [ER.out]; rfl, HB.out⟩
  · have t1 : ((ta.size : Int) != (tb.size : Int)) = true := bne_iff_ne.2 (by omega)
    have t1' : (ta.size != tb.size) = true := bne_iff_ne.2 hs
    have ER := Lib.hid (show thenC (cmpI (ta.size : Int) (tb.size : Int)) c = cmpI (ta.size : Int) (tb.size : Int) from thenC_ne (fun h => hs (by have := cmpI_zero h; omega)) _)
    clear hs
    go_enter Tryz.func118, Tryz.ntmps118
    go_wp2_with fail
    refine (Z1.out _).mono ?_
    rintro e w1 ⟨rfl, rfl⟩
    go_wp2_with fail
    refine (Z2.out _).mono ?_
    rintro e w1 ⟨rfl, rfl⟩
    go_wp2_with fail
    refine (IC.out _).mono ?_
    rintro e w1 ⟨rfl, rfl⟩
    go_wp2_with fail
    go_ret
    exact ⟨by rw [ER.out]; rfl, Below.refl _ _⟩


theorem empT {x : ByteArray} (h : x.data.toList = []) : x.toList.isEmpty = true ∧ (x.toList == []) = true ∧ x.toList = [] ∧ x.size = 0 := by
  rw [Lib.toList_data, Lib.size_eq, h]; exact ⟨rfl, rfl, rfl, rfl⟩
theorem empF {x : ByteArray} (h : ¬ x.data.toList = []) : x.toList.isEmpty = false ∧ (x.toList == []) = false ∧ ¬ x.toList = [] ∧ 0 < x.size := by
  rw [Lib.toList_data, Lib.size_eq]
  exact ⟨by cases hx : x.data.toList <;> simp_all, by cases hx : x.data.toList <;> simp_all, h, List.length_pos_iff.2 h⟩
theorem numbers_ok (a b : ByteArray) (w : World) (ha : a.size ≤ 2000000) (hb : b.size ≤ 2000000) :
    Calls Tryz.prog 118 #[.string a, .string b] w (RetBelow w (.int .i64 (cmpNums a.data.toList b.data.toList))) := by
  unfold cmpNums
  by_cases h1 : a.data.toList = []
  · obtain ⟨g1, g2, g3, ga⟩ := empT h1
    by_cases h2 : b.data.toList = []
    · obtain ⟨k1, k2, k3, kb⟩ := empT h2
      rw [if_pos (Or.inl h1), h1, h2]
      exact numbers_ee a b w g1 g2 g3 k1 k2 k3 ga kb
    · obtain ⟨k1, k2, k3, kb⟩ := empF h2
      rw [if_pos (Or.inl h1), show cmpI (a.data.toList.length : Int) (b.data.toList.length : Int) = -1 by rw [← Lib.size_eq, ← Lib.size_eq]; unfold cmpI; rw [if_pos (by omega)]]
      exact numbers_ef a b w g1 g2 g3 k1 k2 k3 ga kb hb
  · obtain ⟨g1, g2, g3, ga⟩ := empF h1
    by_cases h2 : b.data.toList = []
    · obtain ⟨k1, k2, k3, kb⟩ := empT h2
      rw [if_pos (Or.inr h2), show cmpI (a.data.toList.length : Int) (b.data.toList.length : Int) = 1 by rw [← Lib.size_eq, ← Lib.size_eq]; unfold cmpI; rw [if_neg (by omega), if_pos (by omega)]]
      exact numbers_fe a b w g1 g2 g3 k1 k2 k3 ga ha kb
    · obtain ⟨k1, k2, k3, kb⟩ := empF h2
      rw [if_neg (by rintro (h | h); exact h1 h; exact h2 h)]
      have cut : ∀ x : ByteArray, x.extract (spanN isZero x.data.toList) x.size = bs (trimL x.data.toList) := fun x => by
        rw [extract_bs, trimL_span, List.take_of_length_le]
        rw [← trimL_span, List.length_drop, ← Lib.size_eq]; omega
      have z : ∀ x : ByteArray, x.size ≤ 2000000 → (bs (trimL x.data.toList)).size ≤ 2000000 := fun x hx => by rw [bs_size]; have := trimL_len x.data.toList; rw [← Lib.size_eq] at this; omega
      have := numbers_ff a b w g1 g2 g3 k1 k2 k3 ga ha kb hb _ _ _ _ (by rw [Lib.size_eq]; exact spanN_le _ _) (by rw [Lib.size_eq]; exact spanN_le _ _) (cut a) (cut b) (z a ha) (z b hb)
        (Lib.hid fun W => zeros_ok a W (by unfold maxLen; omega)) (Lib.hid fun W => zeros_ok b W (by unfold maxLen; omega))
      rw [bs_list, bs_list, bs_size, bs_size] at this
      exact this

/-- Both boxes of pairs. -/
structure PairW (w wr : World) (p1 d1 p2 d2 : ByteArray) : Prop where
  b : Below w.heap.size w wr
  c0 : wr.cell? ⟨w.heap.size, 0, none⟩ = some (.string p1)
  c1 : wr.cell? ⟨w.heap.size, 1, none⟩ = some (.string d1)
  c2 : wr.cell? ⟨w.heap.size + 1, 0, none⟩ = some (.string p2)
  c3 : wr.cell? ⟨w.heap.size + 1, 1, none⟩ = some (.string d2)
theorem PairW.drewN {w wr : World} {p1 d1 p2 d2 : ByteArray} (h : PairW w wr p1 d1 p2 d2) (n : Nat) : PairW w (wr.drewN n) p1 d1 p2 d2 :=
  ⟨bdrewB h.b n, h.c0, h.c1, h.c2, h.c3⟩
def PaRel (w : World) (P1 P2 : List UInt8) (p1 d1 p2 d2 : ByteArray) (i : Value) (wr : World) : Prop :=
  ∃ k : Nat, i = .int .i64 k ∧ k ≤ 4000000 ∧ PairW w wr p1 d1 p2 d2 ∧ ∀ j, j < k → cmpI (rankAtS P1 j) (rankAtS P2 j) = 0
theorem plain_stop {a b : List UInt8} (k : Nat) (h0 : ∀ j, j < k → cmpI (rankAtS a j) (rankAtS b j) = 0) (hk : cmpI (rankAtS a k) (rankAtS b k) ≠ 0) (hl : k < a.length ∨ k < b.length) : cmpPlain a b = cmpI (rankAtS a k) (rankAtS b k) :=
  firstN_stop (g := fun i => cmpI (rankAtS a i) (rankAtS b i)) k h0 hk _ (by omega)
theorem plain_end {a b : List UInt8} (k : Nat) (h0 : ∀ j, j < k → cmpI (rankAtS a j) (rankAtS b j) = 0) (h1 : a.length ≤ k) (h2 : b.length ≤ k) : cmpPlain a b = 0 :=
  firstN_zero (g := fun i => cmpI (rankAtS a i) (rankAtS b i)) _ (fun i hi => h0 i (by omega))

set_option maxHeartbeats 3200000 in
theorem pairs_ok (p1 d1 p2 d2 : ByteArray) (w : World) (hp1 : ∀ x ∈ p1.data.toList, notDig x = true) (hp2 : ∀ x ∈ p2.data.toList, notDig x = true) (s1 : p1.size ≤ 2000000) (s2 : p2.size ≤ 2000000) (s3 : d1.size ≤ 2000000) (s4 : d2.size ≤ 2000000) :
    Calls Tryz.prog 97 #[.agg #[.string p1, .string d1], .agg #[.string p2, .string d2]] w (RetBelow w (.int .i64 (thenC (cmpPlain p1.data.toList p2.data.toList) (cmpNums d1.data.toList d2.data.toList)))) := by
  have C1 := Lib.hid (fun (k : Nat) (W : World) => rankAtR_ok p1 k W hp1)
  have C2 := Lib.hid (fun (k : Nat) (W : World) => rankAtR_ok p2 k W hp2)
  have NC := Lib.hid (fun (W : World) => numbers_ok d1 d2 W s3 s4)
  have Z1 := Lib.hid (Lib.size_eq p1)
  have Z2 := Lib.hid (Lib.size_eq p2)
  generalize cmpNums d1.data.toList d2.data.toList = cn at *
  generalize p1.data.toList = P1 at *
  generalize p2.data.toList = P2 at *
  clear hp1 hp2 s3 s4
  have N1' := (CellsAt.new w [.string p1, .string d1] 125).alloc (Obj.cells #[.string p2, .string d2] 125)
  have N2' := CellsAt.new (w.alloc (Obj.cells #[.string p1, .string d1] 125)) [.string p2, .string d2] 125
  rw [show (w.alloc (Obj.cells #[.string p1, .string d1] 125)).heap.size = w.heap.size + 1 by simp] at N2'
  have N1 := Lib.hid N1'
  have N2 := Lib.hid N2'
  have B0 := Lib.hid (((Below.refl w.heap.size w).alloc (Nat.le_refl _) (Obj.cells #[.string p1, .string d1] 125)).alloc (by simp) (Obj.cells #[.string p2, .string d2] 125))
  clear N1' N2'
  go_enter Tryz.func97, Tryz.ntmps97
  go_upto_region 1 with fail
  generalize hX : (w.alloc (Obj.cells #[.string p1, .string d1] 125)).alloc (Obj.cells #[.string p2, .string d2] 125) = x at *
  clear hX
  go_wp2_with fail
  go_loopw [5] (fun i wr => PaRel w P1 P2 p1 d1 p2 d2 i wr) (fun i _ => 4000000 - (intOf i).toNat)
  case atStart => exact ⟨0, rfl, by omega, ⟨B0.out, N1.out.cell 0 _ rfl, N1.out.cell 1 _ rfl, N2.out.cell 0 _ rfl, N2.out.cell 1 _ rfl⟩, fun j hj => by omega⟩
  case round =>
    obtain ⟨k, rfl, hk, hbx, heq⟩ := hrel
    have HB := Lib.hid hbx
    have HE := Lib.hid heq
    have c0 := hbx.c0
    have c1 := hbx.c1
    have c2 := hbx.c2
    have c3 := hbx.c3
    clear hbx heq
    have K1 := Lib.hid (fun W => same_q (C1.out k W))
    have K2 := Lib.hid (fun W => same_q (C2.out k W))
    by_cases h1 : k < p1.size
    · have HIN := Lib.hid (show k < P1.length ∨ k < P2.length from Or.inl (by rw [← Z1.out]; exact h1))
      by_cases hz : rankAtS P1 k = rankAtS P2 k
      · have HZ := Lib.hid (show ∀ j, j < k + 1 → cmpI (rankAtS P1 j) (rankAtS P2 j) = 0 from fun j hj => by
          rcases Nat.lt_or_ge j k with h | h
          · exact HE.out j h
          · rw [show j = k by omega, hz]; unfold cmpI; simp)
        have t3 : (rankAtS P1 k != rankAtS P2 k) = false := by rw [hz]; simp
        clear hz
        generalize rankAtS P1 k = x1 at *
        generalize rankAtS P2 k = x2 at *
        go_wp2_with fail
        go_quiet ((go_at_call 117; first | with_reducible exact Calls.quiet_of_same (K1.out _) | with_reducible exact Calls.quiet_of_same (K2.out _)))
        go_wp2_with fail
        go_roundw
        case rel => exact ⟨k + 1, by go_num, by omega, HB.out.drewN _, HZ.out⟩
        case measure => simp [intOf]; omega
      · have HZ := Lib.hid (show cmpPlain P1 P2 = cmpI (rankAtS P1 k) (rankAtS P2 k) from plain_stop k HE.out (fun h => hz (cmpI_zero h)) HIN.out)
        have HZ2 := Lib.hid (show cmpI (rankAtS P1 k) (rankAtS P2 k) ≠ 0 from fun h => hz (cmpI_zero h))
        have t3 : (rankAtS P1 k != rankAtS P2 k) = true := bne_iff_ne.2 hz
        clear hz
        generalize rankAtS P1 k = x1 at *
        generalize rankAtS P2 k = x2 at *
        have HI := Lib.hid (fun W => ints_ok x1 x2 W)
        go_wp2_with fail
        go_quiet ((go_at_call 117; first | with_reducible exact Calls.quiet_of_same (K1.out _) | with_reducible exact Calls.quiet_of_same (K2.out _)))
        go_wp2_with fail
        have HB9 := Lib.hid (HB.out.drewN nq)
        generalize wr.drewN nq = w9 at *
        have c09 := HB9.out.c0
        have c29 := HB9.out.c2
        go_quiet ((first | (go_at_call 117; first | with_reducible exact Calls.quiet_of_same (K1.out _) | with_reducible exact Calls.quiet_of_same (K2.out _)) | (go_at_call 64; exact Calls.quiet_of_same ((HI.out _).mono fun _ _ h => ⟨h.1, h.2.symm⟩))))
        go_wp2_with fail
        go_ret
        exact ⟨by rw [HZ.out, thenC_ne HZ2.out]; rfl, (HB9.out.drewN _).b⟩
    · by_cases h2 : k < p2.size
      · have HIN := Lib.hid (show k < P1.length ∨ k < P2.length from Or.inr (by rw [← Z2.out]; exact h2))
        by_cases hz : rankAtS P1 k = rankAtS P2 k
        · have HZ := Lib.hid (show ∀ j, j < k + 1 → cmpI (rankAtS P1 j) (rankAtS P2 j) = 0 from fun j hj => by
            rcases Nat.lt_or_ge j k with h | h
            · exact HE.out j h
            · rw [show j = k by omega, hz]; unfold cmpI; simp)
          have t3 : (rankAtS P1 k != rankAtS P2 k) = false := by rw [hz]; simp
          clear hz
          generalize rankAtS P1 k = x1 at *
          generalize rankAtS P2 k = x2 at *
          go_wp2_with fail
          go_quiet ((go_at_call 117; first | with_reducible exact Calls.quiet_of_same (K1.out _) | with_reducible exact Calls.quiet_of_same (K2.out _)))
          go_wp2_with fail
          go_roundw
          case rel => exact ⟨k + 1, by go_num, by omega, HB.out.drewN _, HZ.out⟩
          case measure => simp [intOf]; omega
        · have HZ := Lib.hid (show cmpPlain P1 P2 = cmpI (rankAtS P1 k) (rankAtS P2 k) from plain_stop k HE.out (fun h => hz (cmpI_zero h)) HIN.out)
          have HZ2 := Lib.hid (show cmpI (rankAtS P1 k) (rankAtS P2 k) ≠ 0 from fun h => hz (cmpI_zero h))
          have t3 : (rankAtS P1 k != rankAtS P2 k) = true := bne_iff_ne.2 hz
          clear hz
          generalize rankAtS P1 k = x1 at *
          generalize rankAtS P2 k = x2 at *
          have HI := Lib.hid (fun W => ints_ok x1 x2 W)
          go_wp2_with fail
          go_quiet ((go_at_call 117; first | with_reducible exact Calls.quiet_of_same (K1.out _) | with_reducible exact Calls.quiet_of_same (K2.out _)))
          go_wp2_with fail
          have HB9 := Lib.hid (HB.out.drewN nq)
          generalize wr.drewN nq = w9 at *
          have c09 := HB9.out.c0
          have c29 := HB9.out.c2
          go_quiet ((first | (go_at_call 117; first | with_reducible exact Calls.quiet_of_same (K1.out _) | with_reducible exact Calls.quiet_of_same (K2.out _)) | (go_at_call 64; exact Calls.quiet_of_same ((HI.out _).mono fun _ _ h => ⟨h.1, h.2.symm⟩))))
          go_wp2_with fail
          go_ret
          exact ⟨by rw [HZ.out, thenC_ne HZ2.out]; rfl, (HB9.out.drewN _).b⟩
      · have HD := Lib.hid (plain_end k HE.out (by rw [← Z1.out]; omega) (by rw [← Z2.out]; omega))
        go_wp2_with fail
        refine (NC.out _).mono ?_
        rintro e w1 ⟨rfl, hb1⟩
        have B1 := Lib.hid (HB.out.b.trans (hb1.mono HB.out.b.size))
        clear hb1
        go_wp2_with fail
        go_ret
        exact ⟨by rw [HD.out, thenC_zero]; rfl, B1.out⟩

end

section


set_option maxRecDepth 100000
theorem infoPr : (Tryz.prog.info? 125).map (fun i => (i.zero, i.size, i.bytes)) = some (some (.agg #[.string ⟨#[]⟩, .string ⟨#[]⟩]), 2, 32) := by kernel_rfl
theorem restN_succ (n : Nat) : ∀ l, restN (n + 1) l = restOf (restN n l) := by
  induction n with
  | zero => intro l; rfl
  | succ n ih => intro l; exact ih (restOf l)
theorem restN_add (m : Nat) : ∀ n l, restN n l = [] → restN (n + m) l = [] := by
  induction m with
  | zero => intro n l h; exact h
  | succ m ih => intro n l h; rw [← Nat.add_assoc, restN_succ, ih n l h]; rfl
def prC (l : List UInt8) (j : Nat) : List Value := [.string (bs (plainOf (restN j l))), .string (bs (digsOf (restN j l)))]
def prV (l : List UInt8) (n : Nat) : List Value := (List.range n).flatMap (prC l)
theorem prV_succ (l : List UInt8) (n : Nat) : prV l (n + 1) = prV l n ++ prC l n := by
  unfold prV
  rw [List.range_succ, List.flatMap_append]
  simp
theorem prV_len (l : List UInt8) : ∀ n, (prV l n).length = 2 * n
  | 0 => rfl
  | n + 1 => by rw [prV_succ, List.length_append, prV_len l n]; show _ + 2 = _; omega
theorem prV_at (l : List UInt8) : ∀ n j, j < n → (prV l n)[2 * j]? = some (.string (bs (plainOf (restN j l)))) ∧ (prV l n)[2 * j + 1]? = some (.string (bs (digsOf (restN j l))))
  | 0, j, h => by omega
  | n + 1, j, h => by
    rw [prV_succ]
    have hl := prV_len l n
    rcases Nat.lt_or_ge j n with k | k
    · have := prV_at l n j k
      rw [List.getElem?_append_left (by omega), List.getElem?_append_left (by omega)]
      exact this
    · have : j = n := by omega
      subst this
      rw [List.getElem?_append_right (by omega), List.getElem?_append_right (by omega), hl]
      exact ⟨by rw [show 2 * j - 2 * j = 0 by omega]; rfl, by rw [show 2 * j + 1 - 2 * j = 1 by omega]; rfl⟩
theorem cell_two (w : World) (u v : Value) (t : TypeId) : ∀ j x, [u, v][j]? = some x → (w.alloc (.cells #[u, v] t)).cell? ((⟨w.heap.size, 0, none⟩ : Addr).add j) = some x := by
  intro j x hj
  match j, hj with
  | 0, hj => simp at hj; subst hj; simp [Addr.add, World.cell?_alloc_new]
  | 1, hj => simp at hj; subst hj; simp [Addr.add, World.cell?_alloc_new]
theorem grown_below {B : Nat} {w wr w1 : World} {o : Obj} {v : Value} {size n : Nat} {e : TypeId} {xs : List Value} (hk : Below B w wr) (hr : wr.ownsRow B e size v n xs) (hB : B ≤ wr.heap.size) (hg : (wr.alloc o).grownBy w1 v.ownBlock) : Below B w w1 :=
  have h1 : Below B w (wr.alloc o) := hk.alloc hB o
  ⟨hg.os.trans h1.os, hg.tape.trans h1.tape, hg.output.trans h1.output, Nat.le_trans h1.size hg.size, fun k hk2 => (hg.block k (by simp; omega) (fun hv => by have := (hr.lt k hv.symm).1; omega)).trans (h1.block k hk2)⟩
theorem row_drew {w : World} {B : Nat} {e : TypeId} {size n : Nat} {v : Value} {xs : List Value} (h : w.ownsRow B e size v n xs) : w.drew.ownsRow B e size v n xs := h

structure PwRel (w : World) (B : Nat) (s : ByteArray) (l i : Value) (wr : World) : Prop where
  ex : ∃ n k, i = .int .i64 ((k : Nat) : Int) ∧ k ≤ s.size ∧ n ≤ k ∧ s.data.toList.drop k = restN n s.data.toList ∧ (∀ j, j < n → restN j s.data.toList ≠ []) ∧ wr.ownsRow B 125 2 l n (prV s.data.toList n)
  heap : B ≤ wr.heap.size
  below : Below B w wr

/-- A list of pairs is answered. -/
def RetPairs (w : World) (l : List UInt8) (e : Ending) (w' : World) : Prop :=
  ∃ v n, e = .returned v ∧ restN n l = [] ∧ n ≤ l.length ∧ (∀ j, j < n → restN j l ≠ []) ∧ w'.ownsRow w.heap.size 125 2 v (n + 1) (prV l (n + 1)) ∧ Below w.heap.size w w'

theorem extP_span (p : UInt8 → Bool) (s : ByteArray) (i : Nat) : s.extract i (i + spanN p (s.data.toList.drop i)) = bs ((s.data.toList.drop i).takeWhile p) := by
  rw [extract_bs, show i + spanN p (s.data.toList.drop i) - i = spanN p (s.data.toList.drop i) by omega, take_spanN]
theorem spanN_more (l : List UInt8) (h : l ≠ []) : 0 < spanN notDig l + spanN isDig (l.drop (spanN notDig l)) := by
  cases l with
  | nil => exact absurd rfl h
  | cons x r =>
    cases hx : notDig x with
    | true => have : spanN notDig (x :: r) = spanN notDig r + 1 := by simp [spanN, List.takeWhile_cons, hx]
              omega
    | false =>
      have h0 : spanN notDig (x :: r) = 0 := by simp [spanN, List.takeWhile_cons, hx]
      have hd : isDig x = true := by unfold notDig at hx; simpa using hx
      rw [h0]
      simp [spanN, List.takeWhile_cons, hd]

set_option maxHeartbeats 3200000 in
theorem pairsOf_ok (s : ByteArray) (w : World) (hs : s.size ≤ 1048576) : Calls Tryz.prog 96 #[.string s] w (RetPairs w s.data.toList) := by
  have el := Lib.hid (Lib.size_eq s)
  have RUN := Lib.hid (fun (j : Nat) (hj : j ≤ s.size) (W : World) => run_ok s j W (by unfold maxLen; omega) hj)
  obtain ⟨B, hB⟩ : ∃ B, B = w.heap.size := ⟨_, rfl⟩
  have HB := Lib.hid hB
  clear hB
  go_enter Tryz.func96, Tryz.ntmps96
  go_wp2_with fail
  go_loopw [3, 4] (fun l i wr => PwRel w B s l i wr) (fun _ i _ => s.size - (intOf i).toNat)
  case atStart => exact ⟨⟨0, 0, rfl, Nat.zero_le _, Nat.le_refl _, rfl, (fun j hj => by omega), World.ownsRow_nil _ _ _ _⟩, by rw [HB.out]; exact Nat.le_refl _, by rw [HB.out]; exact Below.refl _ _⟩
  case round =>
    obtain ⟨⟨n, k, rfl, hk, hnk, hdr, hne, hrow⟩, hBs, hbl⟩ := hrel
    have Hne := Lib.hid hne
    clear hne
    have Hdr := Lib.hid hdr
    have Hrow := Lib.hid hrow
    have Hbl := Lib.hid hbl
    clear hdr hrow hbl
    obtain ⟨i0, hi, hz0, hz1, hz2⟩ := info_parts infoPr
    have Hi := Lib.hid hi
    have Hz0 := Lib.hid hz0
    have Hz1 := Lib.hid hz1
    have Hz2 := Lib.hid hz2
    clear hi hz0 hz1 hz2
    by_cases hlt : k < s.size
    · have Hne1 := Lib.hid (show ∀ j, j < n + 1 → restN j s.data.toList ≠ [] from fun j hj => by
        rcases Nat.lt_or_ge j n with h | h
        · exact Hne.out j h
        · rw [show j = n by omega, ← Hdr.out]
          intro h
          have := congrArg List.length h
          rw [List.length_drop, ← el.out] at this
          simp at this; omega)
      go_wp2_with fail
      go_loop [5] (fun x => ∃ m : Nat, k + m ≤ s.size ∧ x = .int .i64 ((k + m : Nat) : Int) ∧ m ≤ spanN notDig (s.data.toList.drop k)) (fun x => s.size - (intOf x).toNat)
      case atStart => exact ⟨0, by omega, rfl, Nat.zero_le _⟩
      case round =>
        obtain ⟨m, hm, rfl, hsp⟩ := hrel
        have HSP := Lib.hid hsp
        clear hsp
        obtain ⟨j, hj⟩ : ∃ j, j = k + m := ⟨_, rfl⟩
        rw [← hj] at hm ⊢
        have HJ := Lib.hid hj
        clear hj
        have tail : spanN notDig (s.data.toList.drop k) = m → j = k + spanN notDig (s.data.toList.drop k) ∧ s.extract k j = bs (plainOf (restN n s.data.toList)) ∧ ∃ q, q = j + spanN isDig (s.data.toList.drop j) ∧ q ≤ s.size ∧ j ≤ q ∧ k < q ∧ s.extract j q = bs (digsOf (restN n s.data.toList)) ∧ s.data.toList.drop q = restN (n + 1) s.data.toList := fun h => by
          have e1 : j = k + spanN notDig (s.data.toList.drop k) := by rw [h]; exact HJ.out
          have e2 : (s.data.toList.drop k).dropWhile notDig = s.data.toList.drop j := by rw [← drop_spanN, List.drop_drop, ← e1]
          refine ⟨e1, ?_, j + spanN isDig (s.data.toList.drop j), rfl, spanN_drop_le isDig s j hm, by omega, ?_, ?_, ?_⟩
          · rw [e1, extP_span, Hdr.out]; rfl
          · have hne : s.data.toList.drop k ≠ [] := fun h => by
              have := congrArg List.length h
              rw [List.length_drop, ← el.out] at this
              simp at this; omega
            have := spanN_more _ hne
            rw [List.drop_drop, ← e1] at this
            omega
          · rw [extP_span, ← e2, Hdr.out]; rfl
          · rw [restN_succ, ← Hdr.out, ← List.drop_drop, drop_spanN, ← e2]; rfl
        have TAIL := Lib.hid tail
        clear tail
        by_cases hltj : j < s.size
        · have g : atB (s.data.toList.drop k) m = s[j] := by rw [atB_drop, ← HJ.out]; exact get_atB s j hltj
          have C := Lib.hid (fun W : World => isDigitR_ok s[j] W)
          cases hc : isDig s[j] with
          | false =>
            have hn : notDig s[j] = true := by unfold notDig; rw [hc]; rfl
            have HN := Lib.hid (spanN_on' HSP.out (by rw [List.length_drop, ← el.out]; have := HJ.out; omega) (by rw [g]; exact hn))
            rw [hc] at C
            clear g hc hn
            go_wp2_with fail
            refine (C.out _).mono ?_
            rintro e w1 ⟨rfl, rfl⟩
            go_wp2_with fail
            go_round
            case rel => exact ⟨m + 1, by have := HJ.out; omega, by rw [show k + (m + 1) = j + 1 by have := HJ.out; omega]; go_num, HN.out⟩
            case measure => simp [intOf]; omega
          | true =>
            have hn : notDig s[j] = false := by unfold notDig; rw [hc]; rfl
            obtain ⟨t1, t2, q, t3, t4, t5, t6, t7, t8⟩ := TAIL.out (spanN_end HSP.out (by rw [g]; exact hn))
            have RC := Lib.hid (fun W : World => RUN.out j hm W)
            rw [← t3] at RC
            rw [hc] at C
            have T8 := Lib.hid t8
            have T2 := Lib.hid t2
            have T7 := Lib.hid t7
            have hkj : k ≤ j := by have := HJ.out; omega
            clear g hc hn t1 t2 t3 t7 t8 TAIL
            go_wp2_with fail
            refine (C.out _).mono ?_
            rintro e w1 ⟨rfl, rfl⟩
            go_wp2_with fail
            refine (RC.out _).mono ?_
            rintro e w1 ⟨rfl, rfl⟩
            have t2 := T2.out
            have t7 := T7.out
            have EP := Lib.hid (show prC s.data.toList n = [.string (bs (plainOf (restN n s.data.toList))), .string (bs (digsOf (restN n s.data.toList)))] from rfl)
            generalize bs (plainOf (restN n s.data.toList)) = P at *
            generalize bs (digsOf (restN n s.data.toList)) = D at *
            go_upto_region 8 with fail
            go_region_law (refine step_append_lies _ (by rfl) _ _ _ (by rfl) B 125 i0 _ 2 32 Tryz.underlying122 Hi.out Hz0.out Hz1.out Hz2.out rfl (by omega) _ n (prV s.data.toList n) (by rfl) ((row_drew Hrow.out).alloc _) ⟨wr.heap.size, 0, none⟩ 1 1 [.string P, .string D] (by rfl) (by rfl) (cell_two wr.drew _ _ _) (fun u hu => by simp at hu; rcases hu with rfl | rfl <;> rfl) (by omega) (by unfold maxLen; omega) (by omega) (Nat.le_trans (show B ≤ wr.heap.size from hBs) (by simp [World.drew])) (wr.heap.size + 1) (by simp [World.drew]) ?_; intro gg cap w5 hown5 hgrow5 hat5 hlt5; have hn5 : w5.ownsRow B 125 2 (.slice (some ⟨gg, 0, none⟩) (n + 1) cap) (n + 1) (prV s.data.toList (n + 1)) := (by rw [prV_succ, EP.out]; exact hown5); have hk5 : Below B w w5 := grown_below Hbl.out.drew (row_drew Hrow.out) (show B ≤ wr.heap.size from hBs) hgrow5; have hB5 : B ≤ w5.heap.size := (by have := hgrow5.size; simp at this; omega); have Hn5 := Lib.hid hn5; have Hk5 := Lib.hid hk5; clear hn5 hk5 hown5 hgrow5 hat5)
            all_goals
              go_wp2_with fail
              exact ⟨⟨⟨n + 1, q, by go_num, t4, by omega, T8.out, Hne1.out, Hn5.out⟩, hB5, Hk5.out⟩, by simp [intOf]; omega⟩
        · have hend : spanN notDig (s.data.toList.drop k) = m := by
            have h1 := spanN_le notDig (s.data.toList.drop k)
            rw [List.length_drop, ← el.out] at h1
            have h2 := HSP.out
            have h3 := HJ.out
            omega
          obtain ⟨t1, t2, q, t3, t4, t5, t6, t7, t8⟩ := TAIL.out (hend)
          have RC := Lib.hid (fun W : World => RUN.out j hm W)
          rw [← t3] at RC
          have T8 := Lib.hid t8
          have T2 := Lib.hid t2
          have T7 := Lib.hid t7
          have hkj : k ≤ j := by have := HJ.out; omega
          clear t1 t2 t3 t7 t8 TAIL
          go_wp2_with fail
          refine (RC.out _).mono ?_
          rintro e w1 ⟨rfl, rfl⟩
          have t2 := T2.out
          have t7 := T7.out
          have EP := Lib.hid (show prC s.data.toList n = [.string (bs (plainOf (restN n s.data.toList))), .string (bs (digsOf (restN n s.data.toList)))] from rfl)
          generalize bs (plainOf (restN n s.data.toList)) = P at *
          generalize bs (digsOf (restN n s.data.toList)) = D at *
          go_upto_region 8 with fail
          go_region_law (refine step_append_lies _ (by rfl) _ _ _ (by rfl) B 125 i0 _ 2 32 Tryz.underlying122 Hi.out Hz0.out Hz1.out Hz2.out rfl (by omega) _ n (prV s.data.toList n) (by rfl) ((row_drew Hrow.out).alloc _) ⟨wr.heap.size, 0, none⟩ 1 1 [.string P, .string D] (by rfl) (by rfl) (cell_two wr.drew _ _ _) (fun u hu => by simp at hu; rcases hu with rfl | rfl <;> rfl) (by omega) (by unfold maxLen; omega) (by omega) (Nat.le_trans (show B ≤ wr.heap.size from hBs) (by simp [World.drew])) (wr.heap.size + 1) (by simp [World.drew]) ?_; intro gg cap w5 hown5 hgrow5 hat5 hlt5; have hn5 : w5.ownsRow B 125 2 (.slice (some ⟨gg, 0, none⟩) (n + 1) cap) (n + 1) (prV s.data.toList (n + 1)) := (by rw [prV_succ, EP.out]; exact hown5); have hk5 : Below B w w5 := grown_below Hbl.out.drew (row_drew Hrow.out) (show B ≤ wr.heap.size from hBs) hgrow5; have hB5 : B ≤ w5.heap.size := (by have := hgrow5.size; simp at this; omega); have Hn5 := Lib.hid hn5; have Hk5 := Lib.hid hk5; clear hn5 hk5 hown5 hgrow5 hat5)
          all_goals
            go_wp2_with fail
            exact ⟨⟨⟨n + 1, q, by go_num, t4, by omega, T8.out, Hne1.out, Hn5.out⟩, hB5, Hk5.out⟩, by simp [intOf]; omega⟩
    · have hk' : k = s.size := by omega
      have hnil : restN n s.data.toList = [] := by rw [← Hdr.out, hk']; exact List.drop_eq_nil_of_le (by rw [← el.out]; omega)
      have HN := Lib.hid hnil
      have HP := Lib.hid (show prC s.data.toList n = [.string ⟨#[]⟩, .string ⟨#[]⟩] by unfold prC; rw [hnil]; rfl)
      have hnl : n ≤ s.data.toList.length := by rw [← el.out]; omega
      clear hk' hnil
      go_wp2_with (at_builtin; refine wpList_append_own _ rfl _ _ 122 rfl B 125 i0 (.agg #[.string ⟨#[]⟩, .string ⟨#[]⟩]) 2 32 Tryz.underlying122 Hi.out Hz0.out Hz1.out Hz2.out rfl (by decide) _ _ _ rfl (Hrow.out.alloc _) ⟨wr.heap.size, 0, none⟩ 1 1 [.string ⟨#[]⟩, .string ⟨#[]⟩] rfl rfl (cell_two _ _ _ _) (fun u hu => by simp at hu; rcases hu with rfl | rfl <;> rfl) (by unfold maxLen; omega) (by omega) (by simp; omega) ?_)
      intro v' w1 hown' hgrow _
      have hn1 : w1.ownsRow B 125 2 v' (n + 1) (prV s.data.toList (n + 1)) := by rw [prV_succ, HP.out]; exact hown'
      have hk1 : Below B w w1 := grown_below Hbl.out Hrow.out hBs hgrow
      have Hn := Lib.hid hn1
      have Hk1 := Lib.hid hk1
      clear hn1 hk1 hown' hgrow
      go_wp2_with fail
      go_ret
      exact ⟨v', n, rfl, HN.out, hnl, Hne.out, by rw [← HB.out]; exact Hn.out, by rw [← HB.out]; exact Hk1.out⟩
end

section


set_option maxRecDepth 100000
/-- A list of pairs that reads so. -/
structure PrAt (w : World) (g : Nat) (l : List UInt8) (n : Nat) : Prop where
  lt : g < w.heap.size
  c0 : ∀ j, j < n → w.cell? ⟨g, j * 2, none⟩ = some (.string (bs (plainOf (restN j l))))
  c1 : ∀ j, j < n → w.cell? ⟨g, j * 2 + 1, none⟩ = some (.string (bs (digsOf (restN j l))))
theorem PrAt.below {w w' : World} {g : Nat} {l : List UInt8} {n : Nat} (h : PrAt w g l n) (k : Below w.heap.size w w') : PrAt w' g l n :=
  ⟨Nat.lt_of_lt_of_le h.lt k.size, fun j hj => (k.cell (p := ⟨g, j * 2, none⟩) h.lt).trans (h.c0 j hj), fun j hj => (k.cell (p := ⟨g, j * 2 + 1, none⟩) h.lt).trans (h.c1 j hj)⟩
theorem PrAt.set {w : World} {g : Nat} {l : List UInt8} {n : Nat} (h : PrAt w g l n) {b : Nat} (hb : b ≠ g) (j : Nat) (x : Value) : PrAt (w.setCell ⟨b, j, none⟩ x) g l n :=
  ⟨by simpa using h.lt, fun i hi => by rw [World.cell?_setCell_other _ _ _ _ (fun e => hb (congrArg Addr.block e))]; exact h.c0 i hi, fun i hi => by rw [World.cell?_setCell_other _ _ _ _ (fun e => hb (congrArg Addr.block e))]; exact h.c1 i hi⟩
theorem add0 (g j : Nat) : (⟨g, 0, none⟩ : Addr).add j = ⟨g, j, none⟩ := by unfold Addr.add; split <;> simp_all
theorem PrAt.of {w : World} {B : Nat} {v : Value} {l : List UInt8} {n : Nat} (h : w.ownsRow B 125 2 v (n + 1) (prV l (n + 1))) : ∃ g cap, v = .slice (some ⟨g, 0, none⟩) (n + 1) cap ∧ PrAt w g l (n + 1) := by
  obtain ⟨g, cap, hv, _, _⟩ := h.form (by omega)
  have hc := h.cells (g := g) (by rw [hv]; rfl)
  refine ⟨g, cap, hv, (h.lt g (by rw [hv]; rfl)).2, fun j hj => ?_, fun j hj => ?_⟩
  · have := hc (2 * j) _ (prV_at l (n + 1) j hj).1
    rw [add0] at this
    rw [← this, Nat.mul_comm]
  · have := hc (2 * j + 1) _ (prV_at l (n + 1) j hj).2
    rw [add0] at this
    rw [← this, Nat.mul_comm]

def pairF (a b : List UInt8) (i : Nat) : Int := cmpPair (restN i a) (restN i b)
def VsRel (w : World) (a b : List UInt8) (g1 n1 g2 n2 : Nat) (i : Value) (wr : World) : Prop :=
  ∃ k : Nat, i = .int .i64 k ∧ k ≤ 4000000 ∧ Below w.heap.size w wr ∧ PrAt wr g1 a n1 ∧ PrAt wr g2 b n2 ∧ ∀ j, j < k → pairF a b j = 0
theorem ver_stop {a b : List UInt8} (k : Nat) (h0 : ∀ j, j < k → pairF a b j = 0) (hk : pairF a b k ≠ 0) : cmpVer a b = pairF a b k := by
  refine firstN_stop (g := pairF a b) k h0 hk _ ?_
  rcases Nat.lt_or_ge k (max a.length b.length) with h | h
  · exact h
  · exfalso
    apply hk
    unfold pairF
    rw [restN_end k a (by omega), restN_end k b (by omega)]
    rfl
theorem ver_end {a b : List UInt8} (k n1 n2 : Nat) (h0 : ∀ j, j < k → pairF a b j = 0) (e1 : restN n1 a = []) (e2 : restN n2 b = []) (h1 : n1 ≤ k) (h2 : n2 ≤ k) : cmpVer a b = 0 := by
  refine firstN_zero (g := pairF a b) _ (fun i _ => ?_)
  rcases Nat.lt_or_ge i k with h | h
  · exact h0 i h
  · unfold pairF
    have x1 := restN_add (i - n1) n1 a e1
    have x2 := restN_add (i - n2) n2 b e2
    rw [show n1 + (i - n1) = i by omega] at x1
    rw [show n2 + (i - n2) = i by omega] at x2
    rw [x1, x2]
    rfl

theorem restOf_len (l : List UInt8) : (restOf l).length ≤ l.length := by
  unfold restOf
  have h1 := (List.dropWhile_sublist (l := l.dropWhile notDig) isDig).length_le
  have h2 := (List.dropWhile_sublist (l := l) notDig).length_le
  omega
theorem restN_len : ∀ (k : Nat) (l : List UInt8), (restN k l).length ≤ l.length
  | 0, _ => Nat.le_refl _
  | k + 1, l => Nat.le_trans (restN_len k (restOf l)) (restOf_len l)
theorem plainOf_len2 (k : Nat) (l : List UInt8) (h : l.length ≤ 2000000) : (plainOf (restN k l)).length ≤ 2000000 := by
  have h1 := restN_len k l
  have h2 := (List.takeWhile_sublist (l := restN k l) notDig).length_le
  unfold plainOf; omega
theorem digsOf_len2 (k : Nat) (l : List UInt8) (h : l.length ≤ 2000000) : (digsOf (restN k l)).length ≤ 2000000 := by
  have h1 := restN_len k l
  have h2 := (List.takeWhile_sublist (l := (restN k l).dropWhile notDig) isDig).length_le
  have h3 := (List.dropWhile_sublist (l := restN k l) notDig).length_le
  unfold digsOf; omega
set_option maxHeartbeats 3200000 in
theorem ver_walk (s t : ByteArray) (hs : s.size ≤ 1048576) (ht : t.size ≤ 1048576) (w : World) : Calls Tryz.prog 67 #[.string s, .string t] w (RetBelow w (.int .i64 (cmpVer s.data.toList t.data.toList))) := by
  have P1 := Lib.hid (fun W => pairsOf_ok s W hs)
  have P2 := Lib.hid (fun W => pairsOf_ok t W ht)
  have PC := Lib.hid (fun (k : Nat) (W : World) => pairs_ok (bs (plainOf (restN k s.data.toList))) (bs (digsOf (restN k s.data.toList))) (bs (plainOf (restN k t.data.toList))) (bs (digsOf (restN k t.data.toList))) W
    (by rw [bs_list]; exact fun x hx => mem_tw hx) (by rw [bs_list]; exact fun x hx => mem_tw hx) (by rw [bs_size]; exact plainOf_len2 k s.data.toList (by rw [← Lib.size_eq]; omega)) (by rw [bs_size]; exact plainOf_len2 k t.data.toList (by rw [← Lib.size_eq]; omega)) (by rw [bs_size]; exact digsOf_len2 k s.data.toList (by rw [← Lib.size_eq]; omega)) (by rw [bs_size]; exact digsOf_len2 k t.data.toList (by rw [← Lib.size_eq]; omega)))
  simp only [bs_list] at PC
  have PF := Lib.hid (fun k : Nat => show thenC (cmpPlain (plainOf (restN k s.data.toList)) (plainOf (restN k t.data.toList))) (cmpNums (digsOf (restN k s.data.toList)) (digsOf (restN k t.data.toList))) = pairF s.data.toList t.data.toList k from rfl)
  have el1 := Lib.size_eq s
  have el2 := Lib.size_eq t
  rw [el1] at hs
  rw [el2] at ht
  clear el1 el2
  generalize s.data.toList = a at *
  generalize t.data.toList = b at *
  go_enter Tryz.func67, Tryz.ntmps67
  go_wp2_with fail
  refine (P1.out _).mono ?_
  rintro e w1 ⟨v1, n1, rfl, hn1, hl1, _, hrow1, hb1⟩
  obtain ⟨g1, c1, rfl, hA⟩ := PrAt.of hrow1
  have HA1 := Lib.hid hA
  have B1 := Lib.hid hb1
  have HN1 := Lib.hid hn1
  clear hA hrow1 hb1 hn1
  go_wp2_with fail
  refine (P2.out _).mono ?_
  rintro e w2 ⟨v2, n2, rfl, hn2, hl2, _, hrow2, hb2⟩
  obtain ⟨g2, c2, rfl, hA⟩ := PrAt.of hrow2
  have HA2 := Lib.hid (HA1.out.below hb2)
  have HB2 := Lib.hid hA
  have B2 := Lib.hid (B1.out.trans (hb2.mono B1.out.size))
  have HN2 := Lib.hid hn2
  clear hA hrow2 hb2 hn2 HA1
  have m1 : n1 ≤ 1048576 := Nat.le_trans hl1 hs
  have m2 : n2 ≤ 1048576 := Nat.le_trans hl2 ht
  go_wp2_with fail
  go_loopw [7] (fun i wr => VsRel w a b g1 (n1 + 1) g2 (n2 + 1) i wr) (fun i _ => 4000000 - (intOf i).toNat)
  case atStart => exact ⟨0, rfl, by omega, B2.out, HA2.out, HB2.out, fun j hj => by omega⟩
  case round =>
    obtain ⟨k, rfl, hk, hbl, hA, hB, heq⟩ := hrel
    have HA := Lib.hid hA
    have HB := Lib.hid hB
    have HL := Lib.hid hbl
    have HE := Lib.hid heq
    clear hA hB hbl heq
    have KC := Lib.hid (fun W => PC.out k W)
    rw [PF.out k] at KC
    have tn1 : decide ((k : Int) < (n1 : Int) + 1) = decide (k < n1 + 1) := decide_eq_decide.2 (by omega)
    have tn2 : decide ((k : Int) < (n2 : Int) + 1) = decide (k < n2 + 1) := decide_eq_decide.2 (by omega)
    by_cases h1 : k < n1 + 1
    · rw [decide_eq_true h1] at tn1
      by_cases h2 : k < n2 + 1
      · rw [decide_eq_true h2] at tn2
        have A8 := Lib.hid ((CellsAt.new wr [.string ⟨#[]⟩, .string ⟨#[]⟩] 125).alloc (Obj.cells #[.string ⟨#[]⟩, .string ⟨#[]⟩] 125))
        have A9' := CellsAt.new (wr.alloc (Obj.cells #[.string ⟨#[]⟩, .string ⟨#[]⟩] 125)) [.string ⟨#[]⟩, .string ⟨#[]⟩] 125
        rw [show (wr.alloc (Obj.cells #[.string ⟨#[]⟩, .string ⟨#[]⟩] 125)).heap.size = wr.heap.size + 1 by simp] at A9'
        have A9 := Lib.hid A9'
        have BB := ((Below.refl wr.heap.size wr).alloc (Nat.le_refl _) (Obj.cells #[.string ⟨#[]⟩, .string ⟨#[]⟩] 125)).alloc (by simp) (Obj.cells #[.string ⟨#[]⟩, .string ⟨#[]⟩] 125)
        have XA := Lib.hid (HA.out.below BB)
        have XB := Lib.hid (HB.out.below BB)
        have XL := Lib.hid (HL.out.trans (BB.mono HL.out.size))
        have lw := HL.out.size
        have la := HA.out.lt
        have lb := HB.out.lt
        clear A9' BB
        go_upto_region 8 with fail
        generalize hX : (wr.alloc (Obj.cells #[.string ⟨#[]⟩, .string ⟨#[]⟩] 125)).alloc (Obj.cells #[.string ⟨#[]⟩, .string ⟨#[]⟩] 125) = x at *
        clear hX
        have r0 := XA.out.c0 k h1
        have r1 := XA.out.c1 k h1
        have q0 := A8.out.cell 0 _ rfl
        have q1 := A8.out.cell 1 _ rfl
        have f0 := A8.out.free 0
        have f1 := A8.out.free 1
        have yM := Lib.hid ((A8.out.set 0 (.string (bs (plainOf (restN k a)))) (by simp)).set 1 (.string (bs (digsOf (restN k a)))) (by simp))
        have yO := Lib.hid ((A9.out.other (show wr.heap.size ≠ wr.heap.size + 1 by omega) 0 (.string (bs (plainOf (restN k a))))).other (show wr.heap.size ≠ wr.heap.size + 1 by omega) 1 (.string (bs (digsOf (restN k a)))))
        have yA := Lib.hid ((XA.out.set (show wr.heap.size ≠ g1 by omega) 0 (.string (bs (plainOf (restN k a))))).set (show wr.heap.size ≠ g1 by omega) 1 (.string (bs (digsOf (restN k a)))))
        have yB := Lib.hid ((XB.out.set (show wr.heap.size ≠ g2 by omega) 0 (.string (bs (plainOf (restN k a))))).set (show wr.heap.size ≠ g2 by omega) 1 (.string (bs (digsOf (restN k a)))))
        have yL := Lib.hid ((XL.out.setCell (p := ⟨wr.heap.size, 0, none⟩) (by simp; omega) (.string (bs (plainOf (restN k a))))).setCell (p := ⟨wr.heap.size, 1, none⟩) (by simp; omega) (.string (bs (digsOf (restN k a)))))
        go_upto_region 10 with fail
        generalize hX : (x.setCell ⟨wr.heap.size, 0, none⟩ (.string (bs (plainOf (restN k a))))).setCell ⟨wr.heap.size, 1, none⟩ (.string (bs (digsOf (restN k a)))) = y at *
        clear hX r0 r1 q0 q1 f0 f1
        have r0 := yB.out.c0 k h2
        have r1 := yB.out.c1 k h2
        have q0 := yO.out.cell 0 _ rfl
        have q1 := yO.out.cell 1 _ rfl
        have f0 := yO.out.free 0
        have f1 := yO.out.free 1
        have zM := Lib.hid ((yO.out.set 0 (.string (bs (plainOf (restN k b)))) (by simp)).set 1 (.string (bs (digsOf (restN k b)))) (by simp))
        have zO := Lib.hid ((yM.out.other (show wr.heap.size + 1 ≠ wr.heap.size by omega) 0 (.string (bs (plainOf (restN k b))))).other (show wr.heap.size + 1 ≠ wr.heap.size by omega) 1 (.string (bs (digsOf (restN k b)))))
        have zA := Lib.hid ((yA.out.set (show wr.heap.size + 1 ≠ g1 by omega) 0 (.string (bs (plainOf (restN k b))))).set (show wr.heap.size + 1 ≠ g1 by omega) 1 (.string (bs (digsOf (restN k b)))))
        have zB := Lib.hid ((yB.out.set (show wr.heap.size + 1 ≠ g2 by omega) 0 (.string (bs (plainOf (restN k b))))).set (show wr.heap.size + 1 ≠ g2 by omega) 1 (.string (bs (digsOf (restN k b)))))
        have zL := Lib.hid ((yL.out.setCell (p := ⟨wr.heap.size + 1, 0, none⟩) (by simp; omega) (.string (bs (plainOf (restN k b))))).setCell (p := ⟨wr.heap.size + 1, 1, none⟩) (by simp; omega) (.string (bs (digsOf (restN k b)))))
        go_upto_region 12 with fail
        generalize hX : (y.setCell ⟨wr.heap.size + 1, 0, none⟩ (.string (bs (plainOf (restN k b))))).setCell ⟨wr.heap.size + 1, 1, none⟩ (.string (bs (digsOf (restN k b)))) = z at *
        clear hX r0 r1 q0 q1 f0 f1
        have u0 := zO.out.cell 0 _ rfl
        have u1 := zO.out.cell 1 _ rfl
        have v0 := zM.out.cell 0 _ rfl
        have v1 := zM.out.cell 1 _ rfl
        go_wp2_with fail
        refine (KC.out _).mono ?_
        rintro e w5 ⟨rfl, hb5⟩
        have FA := Lib.hid (zA.out.below hb5)
        have FB := Lib.hid (zB.out.below hb5)
        have FL := Lib.hid (zL.out.trans (hb5.mono zL.out.size))
        clear hb5 u0 u1 v0 v1
        by_cases hz : pairF a b k = 0
        · have HZ := Lib.hid (show ∀ j, j < k + 1 → pairF a b j = 0 from fun j hj => by
            rcases Nat.lt_or_ge j k with h | h
            · exact HE.out j h
            · rw [show j = k by omega]; exact hz)
          have t9 : (pairF a b k != 0) = false := by rw [hz]; rfl
          clear hz
          generalize pairF a b k = c at *
          go_wp2_with fail
          exact ⟨⟨k + 1, by go_num, by omega, FL.out, FA.out, FB.out, HZ.out⟩, by simp [intOf]; omega⟩
        · have HZ := Lib.hid (ver_stop k HE.out hz)
          have t9 : (pairF a b k != 0) = true := bne_iff_ne.2 hz
          clear hz
          generalize pairF a b k = c at *
          go_wp2_with fail
          go_ret
          exact ⟨by rw [HZ.out]; rfl, FL.out⟩
      · rw [decide_eq_false h2] at tn2
        have A8 := Lib.hid ((CellsAt.new wr [.string ⟨#[]⟩, .string ⟨#[]⟩] 125).alloc (Obj.cells #[.string ⟨#[]⟩, .string ⟨#[]⟩] 125))
        have A9' := CellsAt.new (wr.alloc (Obj.cells #[.string ⟨#[]⟩, .string ⟨#[]⟩] 125)) [.string ⟨#[]⟩, .string ⟨#[]⟩] 125
        rw [show (wr.alloc (Obj.cells #[.string ⟨#[]⟩, .string ⟨#[]⟩] 125)).heap.size = wr.heap.size + 1 by simp] at A9'
        have A9 := Lib.hid A9'
        have BB := ((Below.refl wr.heap.size wr).alloc (Nat.le_refl _) (Obj.cells #[.string ⟨#[]⟩, .string ⟨#[]⟩] 125)).alloc (by simp) (Obj.cells #[.string ⟨#[]⟩, .string ⟨#[]⟩] 125)
        have XA := Lib.hid (HA.out.below BB)
        have XB := Lib.hid (HB.out.below BB)
        have XL := Lib.hid (HL.out.trans (BB.mono HL.out.size))
        have lw := HL.out.size
        have la := HA.out.lt
        have lb := HB.out.lt
        clear A9' BB
        go_upto_region 8 with fail
        generalize hX : (wr.alloc (Obj.cells #[.string ⟨#[]⟩, .string ⟨#[]⟩] 125)).alloc (Obj.cells #[.string ⟨#[]⟩, .string ⟨#[]⟩] 125) = x at *
        clear hX
        have r0 := XA.out.c0 k h1
        have r1 := XA.out.c1 k h1
        have q0 := A8.out.cell 0 _ rfl
        have q1 := A8.out.cell 1 _ rfl
        have f0 := A8.out.free 0
        have f1 := A8.out.free 1
        have yM := Lib.hid ((A8.out.set 0 (.string (bs (plainOf (restN k a)))) (by simp)).set 1 (.string (bs (digsOf (restN k a)))) (by simp))
        have yO := Lib.hid ((A9.out.other (show wr.heap.size ≠ wr.heap.size + 1 by omega) 0 (.string (bs (plainOf (restN k a))))).other (show wr.heap.size ≠ wr.heap.size + 1 by omega) 1 (.string (bs (digsOf (restN k a)))))
        have yA := Lib.hid ((XA.out.set (show wr.heap.size ≠ g1 by omega) 0 (.string (bs (plainOf (restN k a))))).set (show wr.heap.size ≠ g1 by omega) 1 (.string (bs (digsOf (restN k a)))))
        have yB := Lib.hid ((XB.out.set (show wr.heap.size ≠ g2 by omega) 0 (.string (bs (plainOf (restN k a))))).set (show wr.heap.size ≠ g2 by omega) 1 (.string (bs (digsOf (restN k a)))))
        have yL := Lib.hid ((XL.out.setCell (p := ⟨wr.heap.size, 0, none⟩) (by simp; omega) (.string (bs (plainOf (restN k a))))).setCell (p := ⟨wr.heap.size, 1, none⟩) (by simp; omega) (.string (bs (digsOf (restN k a)))))
        go_upto_region 10 with fail
        generalize hX : (x.setCell ⟨wr.heap.size, 0, none⟩ (.string (bs (plainOf (restN k a))))).setCell ⟨wr.heap.size, 1, none⟩ (.string (bs (digsOf (restN k a)))) = y at *
        clear hX r0 r1 q0 q1 f0 f1
        have eB : restN k b = [] := by have := restN_add (k - n2) n2 b HN2.out; rwa [show n2 + (k - n2) = k by omega] at this
        have EB := Lib.hid (show bs (plainOf (restN k b)) = ⟨#[]⟩ ∧ bs (digsOf (restN k b)) = ⟨#[]⟩ by rw [eB]; exact ⟨rfl, rfl⟩)
        rw [EB.out.1, EB.out.2] at KC
        clear eB
        have u0 := yM.out.cell 0 _ rfl
        have u1 := yM.out.cell 1 _ rfl
        have v0 := yO.out.cell 0 _ rfl
        have v1 := yO.out.cell 1 _ rfl
        go_wp2_with fail
        refine (KC.out _).mono ?_
        rintro e w5 ⟨rfl, hb5⟩
        have FA := Lib.hid (yA.out.below hb5)
        have FB := Lib.hid (yB.out.below hb5)
        have FL := Lib.hid (yL.out.trans (hb5.mono yL.out.size))
        clear hb5 u0 u1 v0 v1
        by_cases hz : pairF a b k = 0
        · have HZ := Lib.hid (show ∀ j, j < k + 1 → pairF a b j = 0 from fun j hj => by
            rcases Nat.lt_or_ge j k with h | h
            · exact HE.out j h
            · rw [show j = k by omega]; exact hz)
          have t9 : (pairF a b k != 0) = false := by rw [hz]; rfl
          clear hz
          generalize pairF a b k = c at *
          go_wp2_with fail
          exact ⟨⟨k + 1, by go_num, by omega, FL.out, FA.out, FB.out, HZ.out⟩, by simp [intOf]; omega⟩
        · have HZ := Lib.hid (ver_stop k HE.out hz)
          have t9 : (pairF a b k != 0) = true := bne_iff_ne.2 hz
          clear hz
          generalize pairF a b k = c at *
          go_wp2_with fail
          go_ret
          exact ⟨by rw [HZ.out]; rfl, FL.out⟩
    · rw [decide_eq_false h1] at tn1
      by_cases h2 : k < n2 + 1
      · rw [decide_eq_true h2] at tn2
        have A8 := Lib.hid ((CellsAt.new wr [.string ⟨#[]⟩, .string ⟨#[]⟩] 125).alloc (Obj.cells #[.string ⟨#[]⟩, .string ⟨#[]⟩] 125))
        have A9' := CellsAt.new (wr.alloc (Obj.cells #[.string ⟨#[]⟩, .string ⟨#[]⟩] 125)) [.string ⟨#[]⟩, .string ⟨#[]⟩] 125
        rw [show (wr.alloc (Obj.cells #[.string ⟨#[]⟩, .string ⟨#[]⟩] 125)).heap.size = wr.heap.size + 1 by simp] at A9'
        have A9 := Lib.hid A9'
        have BB := ((Below.refl wr.heap.size wr).alloc (Nat.le_refl _) (Obj.cells #[.string ⟨#[]⟩, .string ⟨#[]⟩] 125)).alloc (by simp) (Obj.cells #[.string ⟨#[]⟩, .string ⟨#[]⟩] 125)
        have XA := Lib.hid (HA.out.below BB)
        have XB := Lib.hid (HB.out.below BB)
        have XL := Lib.hid (HL.out.trans (BB.mono HL.out.size))
        have lw := HL.out.size
        have la := HA.out.lt
        have lb := HB.out.lt
        clear A9' BB
        go_upto_region 8 with fail
        generalize hX : (wr.alloc (Obj.cells #[.string ⟨#[]⟩, .string ⟨#[]⟩] 125)).alloc (Obj.cells #[.string ⟨#[]⟩, .string ⟨#[]⟩] 125) = x at *
        clear hX
        have r0 := XB.out.c0 k h2
        have r1 := XB.out.c1 k h2
        have q0 := A9.out.cell 0 _ rfl
        have q1 := A9.out.cell 1 _ rfl
        have f0 := A9.out.free 0
        have f1 := A9.out.free 1
        have zM := Lib.hid ((A9.out.set 0 (.string (bs (plainOf (restN k b)))) (by simp)).set 1 (.string (bs (digsOf (restN k b)))) (by simp))
        have zO := Lib.hid ((A8.out.other (show wr.heap.size + 1 ≠ wr.heap.size by omega) 0 (.string (bs (plainOf (restN k b))))).other (show wr.heap.size + 1 ≠ wr.heap.size by omega) 1 (.string (bs (digsOf (restN k b)))))
        have zA := Lib.hid ((XA.out.set (show wr.heap.size + 1 ≠ g1 by omega) 0 (.string (bs (plainOf (restN k b))))).set (show wr.heap.size + 1 ≠ g1 by omega) 1 (.string (bs (digsOf (restN k b)))))
        have zB := Lib.hid ((XB.out.set (show wr.heap.size + 1 ≠ g2 by omega) 0 (.string (bs (plainOf (restN k b))))).set (show wr.heap.size + 1 ≠ g2 by omega) 1 (.string (bs (digsOf (restN k b)))))
        have zL := Lib.hid ((XL.out.setCell (p := ⟨wr.heap.size + 1, 0, none⟩) (by simp; omega) (.string (bs (plainOf (restN k b))))).setCell (p := ⟨wr.heap.size + 1, 1, none⟩) (by simp; omega) (.string (bs (digsOf (restN k b)))))
        go_upto_region 12 with fail
        generalize hX : (x.setCell ⟨wr.heap.size + 1, 0, none⟩ (.string (bs (plainOf (restN k b))))).setCell ⟨wr.heap.size + 1, 1, none⟩ (.string (bs (digsOf (restN k b)))) = z at *
        clear hX r0 r1 q0 q1 f0 f1
        have eA : restN k a = [] := by have := restN_add (k - n1) n1 a HN1.out; rwa [show n1 + (k - n1) = k by omega] at this
        have EA := Lib.hid (show bs (plainOf (restN k a)) = ⟨#[]⟩ ∧ bs (digsOf (restN k a)) = ⟨#[]⟩ by rw [eA]; exact ⟨rfl, rfl⟩)
        rw [EA.out.1, EA.out.2] at KC
        clear eA
        have u0 := zO.out.cell 0 _ rfl
        have u1 := zO.out.cell 1 _ rfl
        have v0 := zM.out.cell 0 _ rfl
        have v1 := zM.out.cell 1 _ rfl
        go_wp2_with fail
        refine (KC.out _).mono ?_
        rintro e w5 ⟨rfl, hb5⟩
        have FA := Lib.hid (zA.out.below hb5)
        have FB := Lib.hid (zB.out.below hb5)
        have FL := Lib.hid (zL.out.trans (hb5.mono zL.out.size))
        clear hb5 u0 u1 v0 v1
        by_cases hz : pairF a b k = 0
        · have HZ := Lib.hid (show ∀ j, j < k + 1 → pairF a b j = 0 from fun j hj => by
            rcases Nat.lt_or_ge j k with h | h
            · exact HE.out j h
            · rw [show j = k by omega]; exact hz)
          have t9 : (pairF a b k != 0) = false := by rw [hz]; rfl
          clear hz
          generalize pairF a b k = c at *
          go_wp2_with fail
          exact ⟨⟨k + 1, by go_num, by omega, FL.out, FA.out, FB.out, HZ.out⟩, by simp [intOf]; omega⟩
        · have HZ := Lib.hid (ver_stop k HE.out hz)
          have t9 : (pairF a b k != 0) = true := bne_iff_ne.2 hz
          clear hz
          generalize pairF a b k = c at *
          go_wp2_with fail
          go_ret
          exact ⟨by rw [HZ.out]; rfl, FL.out⟩
      · rw [decide_eq_false h2] at tn2
        have HD := Lib.hid (ver_end k n1 n2 HE.out HN1.out HN2.out (by omega) (by omega))
        clear KC
        go_wp2_with fail
        go_ret
        exact ⟨by rw [HD.out]; rfl, HL.out⟩

end
end Go.Proofs.YtgpcmlbmmcnkjaaGreatDoor.Num
