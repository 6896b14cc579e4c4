/- NumeralParts: the walk. -/
import Derived.Test.YtpbbgmfjdachnaaDoorPt16
import Derived.Test.YtpbbgmfjdachnaaDoorPtI
namespace Go.Proofs.YtpbbgmfjdachnaaDoor
open Go.RowKit

set_option maxRecDepth 100000
set_option maxHeartbeats 12800000 in
theorem parts_II (B Z K : Nat) (neg : Bool) (whole frac : Int) (a a2 c : List UInt8) (w : World) (T : TabW w)
    (hB : B ≤ 20) (hZ : Z ≤ 20) (hK : K ≤ 20) (hw : 0 ≤ whole ∧ whole < 4611686018427387904) (hf : 0 ≤ frac ∧ frac < 4611686018427387904)
    (la : a.length ≤ 60) (la2 : a2.length ≤ 60) (lc : c.length ≤ 60)
    (W1 : Hid (∀ W, Calls Tryd.prog 15 #[.int .i64 whole, .int .i64 0] W (RetBelow W (.string (bs a)))))
    (W2 : Hid (∀ W, Calls Tryd.prog 15 #[.int .i64 frac, .int .i64 0] W (RetBelow W (.string (bs c)))))
    (W3 : Hid (∀ W, Calls Tryd.prog 15 #[.int .i64 whole, .int .i64 (Z : Int)] W (RetBelow W (.string (bs a2)))))
    (n : Nat) (hn : n = B + (sgL neg).length + a2.length + 1 + c.length + K) (dn : Bool) (DW DF GD : ByteArray) (ge : Int)
    (D1 : Hid (∀ p : List UInt8, p.length = B → (∀ x ∈ p, isBlank x = true) → ∀ W, TabW W → Calls Tryd.prog 16 #[.string (bs ((p ++ sgL neg ++ a2 ++ [46] ++ c ++ List.replicate K 48) ++ [120]))] W (RetBelow W (.agg #[.bool dn, .string DW, .string DF, .int .i64 (n : Int)]))))
    (G1 : Hid (∀ p : List UInt8, p.length = B → (∀ x ∈ p, isBlank x = true) → ∀ W, TabW W → Calls Tryd.prog 17 #[.string (bs ((p ++ sgL neg ++ a2 ++ [46] ++ c ++ List.replicate K 48) ++ [120]))] W (RetBelow W (.agg #[.int .u8 3, .bool dn, .string GD, .int .i64 ge, .int .i64 (n : Int)]))))
    (hw0 : whole = 0) (y : List UInt8) (hy0 : y = []) (HY : Hid (trimR c = y)) (rDW : DW = ⟨#[]⟩) (rDF : DF = ⟨#[]⟩) (rdn : false = dn) (rge : ge = 0) (rGD : GD = ⟨#[]⟩) :
    Calls Tryd.prog 3 #[.int .i64 (B : Int), .bool neg, .int .i64 (Z : Int), .int .i64 whole, .int .i64 frac, .int .i64 (K : Int)] w (RetBelow w (.bool true)) := by
  have HT := Lib.hid T
  have wt : (whole == 0) = true := by rw [beq_iff_eq]; exact hw0
  have wg : decide (0 < whole) = false := by simp only [decide_eq_false_iff_not]; omega
  have YB := Lib.hid (show bs y = ⟨#[]⟩ from by rw [hy0]; rfl)
  have RR := Lib.hid (show DW = ⟨#[]⟩ ∧ DF = ⟨#[]⟩ ∧ false = dn ∧ ge = 0 ∧ GD = ⟨#[]⟩ from ⟨rDW, rDF, rdn, rge, rGD⟩)
  clear rDW rDF rdn rge rGD hw0 hy0
  clear T
  have t0 : decide ((20 : Int) < (B : Int)) = false := by simp only [decide_eq_false_iff_not]; omega
  have t1 : decide ((20 : Int) < (Z : Int)) = false := by simp only [decide_eq_false_iff_not]; omega
  have t2 : decide ((20 : Int) < (K : Int)) = false := by simp only [decide_eq_false_iff_not]; omega
  go_enter Tryd.func3, Tryd.ntmps3
  go_wp2_with fail
  refine (W1.out _).mono ?_
  rintro e w1 ⟨rfl, hb⟩
  have B1 := Lib.hid hb
  clear hb
  go_wp2_with fail
  refine (W2.out _).mono ?_
  rintro e w2 ⟨rfl, hb⟩
  have B2 := Lib.hid (B1.out.trans (hb.mono B1.out.size))
  clear hb
  go_wp2_with fail
  go_loopw [15, 16] (fun s i wr => PtB w B s i wr) (fun _ i _ => B - (intOf i).toNat)
  case atStart => exact ⟨0, [], by omega, rfl, rfl, rfl, by simp, B2.out⟩
  case round =>
    obtain ⟨k, p, hk, rfl, rfl, hp, hpb, hbel⟩ := hrel
    have HB := Lib.hid hbel
    have HPB := Lib.hid hpb
    clear hbel hpb
    by_cases hlt : k < B
    · have d1 : decide (k < B) = true := by simpa using hlt
      rcases Nat.mod_two_eq_zero_or_one k with h2 | h2
      · have m2 : (k : Int) % 2 = 0 := by omega
        have hcv : (convert 23 9 (.slice (some ⟨wr.heap.size, 0, none⟩) 1 1)).run Tryd.prog (wr.alloc (.cells #[.int .u8 9] 5)) = .ok (.string (bs [9])) (wr.alloc (.cells #[.int .u8 9] 5)) := dig_back wr 9 (by omega)
        obtain ⟨e1, s1⟩ := bcat p [9] (by simp; omega)
        have N : PtB w B (.string (bs (p ++ [9]))) (.int .i64 ((k + 1 : Nat) : Int)) (wr.alloc (.cells #[.int .u8 9] 5)) := ⟨k + 1, _, by omega, rfl, rfl, by simp [hp], fun x hx => by
          rcases List.mem_append.1 hx with h | h
          · exact HPB.out x h
          · rw [List.mem_singleton.1 h]; decide, HB.out.alloc HB.out.size _⟩
        have HN := Lib.hid N
        clear N hp h2
        generalize bs (p ++ [9]) = S1 at *
        go_wp2_with fail
        refine ⟨HN.out, ?_⟩
        simp [intOf]; omega
      · have m2 : (k : Int) % 2 = 1 := by omega
        have hcv : (convert 23 9 (.slice (some ⟨wr.heap.size, 0, none⟩) 1 1)).run Tryd.prog (wr.alloc (.cells #[.int .u8 32] 5)) = .ok (.string (bs [32])) (wr.alloc (.cells #[.int .u8 32] 5)) := dig_back wr 32 (by omega)
        obtain ⟨e1, s1⟩ := bcat p [32] (by simp; omega)
        have N : PtB w B (.string (bs (p ++ [32]))) (.int .i64 ((k + 1 : Nat) : Int)) (wr.alloc (.cells #[.int .u8 32] 5)) := ⟨k + 1, _, by omega, rfl, rfl, by simp [hp], fun x hx => by
          rcases List.mem_append.1 hx with h | h
          · exact HPB.out x h
          · rw [List.mem_singleton.1 h]; decide, HB.out.alloc HB.out.size _⟩
        have HN := Lib.hid N
        clear N hp h2
        generalize bs (p ++ [32]) = S1 at *
        go_wp2_with fail
        refine ⟨HN.out, ?_⟩
        simp [intOf]; omega
    · have d1 : decide (k < B) = false := by simpa using hlt
      obtain rfl : k = B := by omega
      cases neg
      · have hlp : p.length ≤ 20 := by omega
        obtain ⟨q, hq⟩ : ∃ q, q = p := ⟨_, rfl⟩
        have HQ := Lib.hid (show q = p ++ sgL false by rw [hq]; exact (List.append_nil p).symm)
        have lq : q.length ≤ 21 := by rw [hq]; omega
        have e0 : bs p = bs q := by rw [hq]
        clear hq
        obtain ⟨e1, s1⟩ := bcat q a2 (by omega)
        obtain ⟨L1, hL1⟩ : ∃ L, L = q ++ a2 := ⟨_, rfl⟩
        have l1 : L1.length ≤ 81 := by rw [hL1, List.length_append]; omega
        rw [← hL1] at e1
        have HL1 := Lib.hid hL1
        clear hL1
        obtain ⟨e2, s2⟩ := bcat1 L1 46 (by omega)
        obtain ⟨L2, hL2⟩ : ∃ L, L = L1 ++ [46] := ⟨_, rfl⟩
        have l2 : L2.length ≤ 82 := by rw [hL2, List.length_append]; simp only [List.length_singleton]; omega
        rw [← hL2] at e2
        have HL2 := Lib.hid hL2
        clear hL2
        obtain ⟨e3, s3⟩ := bcat L2 c (by omega)
        obtain ⟨L3, hL3⟩ : ∃ L, L = L2 ++ c := ⟨_, rfl⟩
        have l3 : L3.length ≤ 142 := by rw [hL3, List.length_append]; omega
        rw [← hL3] at e3
        have HL3 := Lib.hid hL3
        clear hL3
        have HP := Lib.hid hp
        clear hp
        have HE0 := Lib.hid e0
        rw [e0]
        clear e0
        go_wp2_with fail
        refine (W3.out _).mono ?_
        rintro e w5 ⟨rfl, hb⟩
        have B5 := Lib.hid (HB.out.trans (hb.mono HB.out.size))
        clear hb
        go_wp2_with fail
        clear s1 s2 s3 e1 e2 e3
        go_loop [15, 17] (fun s i => PtZ L3 K s i) (fun _ i => K - (intOf i).toNat)
        case atStart => exact ⟨0, by omega, rfl, by rw [List.replicate_zero, List.append_nil]⟩
        case round =>
          obtain ⟨j, hj, rfl, rfl⟩ := hrel
          obtain ⟨M, hM⟩ : ∃ M, M = L3 ++ List.replicate j 48 := ⟨_, rfl⟩
          have lM : M.length ≤ 162 := by rw [hM, List.length_append, List.length_replicate]; omega
          rw [← hM]
          by_cases hlt2 : j < K
          · have d2 : decide (j < K) = true := by simpa using hlt2
            obtain ⟨e4, s4⟩ := bcat1 M 48 (by omega)
            have N := Lib.hid (show PtZ L3 K (.string (bs (M ++ [48]))) (.int .i64 ((j + 1 : Nat) : Int)) from ⟨j + 1, by omega, rfl, by rw [hM, List.append_assoc, List.replicate_succ']⟩)
            clear hM
            generalize bs (M ++ [48]) = S1 at *
            go_wp2_with fail
            go_round
            case rel => exact N.out
            case measure => simp [intOf]; omega
          · have d2 : decide (j < K) = false := by simpa using hlt2
            obtain rfl : j = K := by omega
            obtain ⟨e4, s4⟩ := bcat1 M 120 (by omega)
            have HM := Lib.hid (show M = p ++ sgL false ++ a2 ++ [46] ++ c ++ List.replicate j 48 from by rw [hM, HL3.out, HL2.out, HL1.out, HQ.out])
            have DD := Lib.hid (D1.out p HP.out HPB.out)
            have GG := Lib.hid (G1.out p HP.out HPB.out)
            rw [← HM.out] at DD GG
            have hnM : ((bs M).size : Int) = (n : Int) := by
              rw [bs_size, HM.out, hn, ← HP.out]; simp only [List.length_append, List.length_singleton, List.length_replicate] <;> omega
            have HNM := Lib.hid hnM
            clear hM hnM hn
            generalize bs (M ++ [120]) = SX at *
            go_wp2_with fail
            refine (DD.out _ (HT.out.below B5.out)).mono ?_
            rintro e w6 ⟨rfl, hb⟩
            have B6 := Lib.hid (B5.out.trans (hb.mono B5.out.size))
            clear hb
            have C6 := Lib.hid (CellsAt.new w6 [.bool dn, .string DW, .string DF, .int .i64 (n : Int)] 25)
            have B7 := Lib.hid (B6.out.alloc B6.out.size (.cells #[.bool dn, .string DW, .string DF, .int .i64 (n : Int)] 25))
            go_wp2_with fail
            change Hid (CellsAt (w6.alloc (.cells #[.bool dn, .string DW, .string DF, .int .i64 (n : Int)] 25)) w6.heap.size _) at C6
            generalize hw7 : w6.alloc (.cells #[.bool dn, .string DW, .string DF, .int .i64 (n : Int)] 25) = w7 at *
            generalize hH1 : w6.heap.size = H1 at *
            clear hw7 hH1
            refine (GG.out _ (HT.out.below B7.out)).mono ?_
            rintro e w8 ⟨rfl, hb⟩
            have B8 := Lib.hid (B7.out.trans (hb.mono B7.out.size))
            have C8 := Lib.hid (C6.out.step hb)
            clear hb
            have E8 := Lib.hid (CellsAt.new w8 [.int .u8 3, .bool dn, .string GD, .int .i64 ge, .int .i64 (n : Int)] 29)
            have B9 := Lib.hid (B8.out.alloc B8.out.size (.cells #[.int .u8 3, .bool dn, .string GD, .int .i64 ge, .int .i64 (n : Int)] 29))
            have C9 := Lib.hid (C8.out.alloc (.cells #[.int .u8 3, .bool dn, .string GD, .int .i64 ge, .int .i64 (n : Int)] 29))
            change Hid (CellsAt (w8.alloc (.cells #[.int .u8 3, .bool dn, .string GD, .int .i64 ge, .int .i64 (n : Int)] 29)) w8.heap.size _) at E8
            go_wp2_with fail
            generalize hw9 : w8.alloc (.cells #[.int .u8 3, .bool dn, .string GD, .int .i64 ge, .int .i64 (n : Int)] 29) = w9 at *
            generalize hH2 : w8.heap.size = H2 at *
            clear hw9 hH2
            go_loop [14] (fun f => PtF y f) (fun f => strSz f)
            case atStart => exact ⟨bs c, rfl, by rw [bs_list]; exact HY.out, by rw [bs_size]; exact lc⟩
            case round =>
              obtain ⟨S, rfl, hS, lS⟩ := hrel
              have HS := Lib.hid hS
              clear hS
              rcases Nat.eq_zero_or_pos S.size with hz | hz
              · have d3 : decide (0 < S.size) = false := by rw [hz]; rfl
                have d4 : decide ((0 : Int) < (S.size : Int)) = false := by rw [hz]; rfl
                obtain rfl : S = bs y := by
                  have e0 : S.data.toList = [] := List.eq_nil_of_length_eq_zero (by rw [← Lib.size_eq]; exact hz)
                  rw [← HS.out, e0, trimR_nil, ← e0, bs_back]
                clear hz
                go_upto_region 23 with fail
                have q0 := C9.out.cell 0 _ rfl
                have q1 := C9.out.cell 1 _ rfl
                have q2 := C9.out.cell 2 _ rfl
                have q3 := C9.out.cell 3 _ rfl
                have g0 := E8.out.cell 0 _ rfl
                have g1 := E8.out.cell 1 _ rfl
                have g2 := E8.out.cell 2 _ rfl
                have g3 := E8.out.cell 3 _ rfl
                have g4 := E8.out.cell 4 _ rfl
                obtain ⟨rfl, rfl, rfl, rfl, rfl⟩ := RR.out
                have yb := YB.out
                have hnM := HNM.out
                have eee : (ByteArray.mk #[]) ++ (ByteArray.mk #[]) = ByteArray.mk #[] := rfl
                go_wp2_with fail
                go_ret
                exact ⟨rfl, B9.out⟩
              · obtain ⟨m, hm⟩ : ∃ m, S.size = m + 1 := ⟨S.size - 1, by omega⟩
                have hlt3 : m < S.size := by omega
                have sn := snoc_of hlt3 hm
                have d3 : decide (0 < S.size) = true := by simp only [decide_eq_true_eq]; omega
                have d4 : decide ((0 : Int) < (S.size : Int)) = true := by simp only [decide_eq_true_eq]; omega
                have hc3 : (S.size : Int) - 1 = (m : Int) := by omega
                have HM3 := Lib.hid hm
                clear hm hz
                by_cases h48 : S[m] = 48
                · have t48 : ((S[m].toNat : Int) == 48) = true := by rw [h48]; rfl
                  have N := Lib.hid (show PtF y (.string (S.extract 0 m)) from ⟨_, rfl, by rw [← HS.out, sn, h48]; exact (trimR_more _ 1).symm, by rw [ByteArray.size_extract]; omega⟩)
                  have hsx : (S.extract 0 m).size < S.size := by rw [ByteArray.size_extract]; omega
                  clear sn h48
                  go_wp2_with fail
                  go_round
                  case rel => exact N.out
                  case measure => exact hsx
                · have t48 : ((S[m].toNat : Int) == 48) = false := by rw [beq_eq_false_iff_ne]; intro e; exact h48 (UInt8.toNat_inj.1 (by have e2 : (S[m].toNat : Int) = 48 := e; show S[m].toNat = 48; omega))
                  have hS2 : S = bs y := by rw [← HS.out, sn, trimR_keep _ _ h48, ← sn, bs_back]
                  clear sn h48
                  have hx := HM3.out
                  rw [hS2, YB.out] at hx
                  have h0 : (ByteArray.mk #[]).size = 0 := rfl
                  omega
      · have hlp : p.length ≤ 20 := by omega
        obtain ⟨e0, s0⟩ := bcat1 p 45 (by omega)
        obtain ⟨q, hq⟩ : ∃ q, q = p ++ [45] := ⟨_, rfl⟩
        have lq : q.length ≤ 21 := by rw [hq]; simp; omega
        rw [← hq] at e0
        have HQ := Lib.hid (show q = p ++ sgL true from hq)
        clear hq
        obtain ⟨e1, s1⟩ := bcat q a2 (by omega)
        obtain ⟨L1, hL1⟩ : ∃ L, L = q ++ a2 := ⟨_, rfl⟩
        have l1 : L1.length ≤ 81 := by rw [hL1, List.length_append]; omega
        rw [← hL1] at e1
        have HL1 := Lib.hid hL1
        clear hL1
        obtain ⟨e2, s2⟩ := bcat1 L1 46 (by omega)
        obtain ⟨L2, hL2⟩ : ∃ L, L = L1 ++ [46] := ⟨_, rfl⟩
        have l2 : L2.length ≤ 82 := by rw [hL2, List.length_append]; simp only [List.length_singleton]; omega
        rw [← hL2] at e2
        have HL2 := Lib.hid hL2
        clear hL2
        obtain ⟨e3, s3⟩ := bcat L2 c (by omega)
        obtain ⟨L3, hL3⟩ : ∃ L, L = L2 ++ c := ⟨_, rfl⟩
        have l3 : L3.length ≤ 142 := by rw [hL3, List.length_append]; omega
        rw [← hL3] at e3
        have HL3 := Lib.hid hL3
        clear hL3
        have HP := Lib.hid hp
        clear hp
        have HE0 := Lib.hid e0
        go_wp2_with fail
        refine (W3.out _).mono ?_
        rintro e w5 ⟨rfl, hb⟩
        have B5 := Lib.hid (HB.out.trans (hb.mono HB.out.size))
        clear hb
        go_wp2_with fail
        clear s0 s1 s2 s3 e0 e1 e2 e3
        go_loop [15, 17] (fun s i => PtZ L3 K s i) (fun _ i => K - (intOf i).toNat)
        case atStart => exact ⟨0, by omega, rfl, by rw [List.replicate_zero, List.append_nil]⟩
        case round =>
          obtain ⟨j, hj, rfl, rfl⟩ := hrel
          obtain ⟨M, hM⟩ : ∃ M, M = L3 ++ List.replicate j 48 := ⟨_, rfl⟩
          have lM : M.length ≤ 162 := by rw [hM, List.length_append, List.length_replicate]; omega
          rw [← hM]
          by_cases hlt2 : j < K
          · have d2 : decide (j < K) = true := by simpa using hlt2
            obtain ⟨e4, s4⟩ := bcat1 M 48 (by omega)
            have N := Lib.hid (show PtZ L3 K (.string (bs (M ++ [48]))) (.int .i64 ((j + 1 : Nat) : Int)) from ⟨j + 1, by omega, rfl, by rw [hM, List.append_assoc, List.replicate_succ']⟩)
            clear hM
            generalize bs (M ++ [48]) = S1 at *
            go_wp2_with fail
            go_round
            case rel => exact N.out
            case measure => simp [intOf]; omega
          · have d2 : decide (j < K) = false := by simpa using hlt2
            obtain rfl : j = K := by omega
            obtain ⟨e4, s4⟩ := bcat1 M 120 (by omega)
            have HM := Lib.hid (show M = p ++ sgL true ++ a2 ++ [46] ++ c ++ List.replicate j 48 from by rw [hM, HL3.out, HL2.out, HL1.out, HQ.out])
            have DD := Lib.hid (D1.out p HP.out HPB.out)
            have GG := Lib.hid (G1.out p HP.out HPB.out)
            rw [← HM.out] at DD GG
            have hnM : ((bs M).size : Int) = (n : Int) := by
              rw [bs_size, HM.out, hn, ← HP.out]; simp only [List.length_append, List.length_singleton, List.length_replicate] <;> omega
            have HNM := Lib.hid hnM
            clear hM hnM hn
            generalize bs (M ++ [120]) = SX at *
            go_wp2_with fail
            refine (DD.out _ (HT.out.below B5.out)).mono ?_
            rintro e w6 ⟨rfl, hb⟩
            have B6 := Lib.hid (B5.out.trans (hb.mono B5.out.size))
            clear hb
            have C6 := Lib.hid (CellsAt.new w6 [.bool dn, .string DW, .string DF, .int .i64 (n : Int)] 25)
            have B7 := Lib.hid (B6.out.alloc B6.out.size (.cells #[.bool dn, .string DW, .string DF, .int .i64 (n : Int)] 25))
            go_wp2_with fail
            change Hid (CellsAt (w6.alloc (.cells #[.bool dn, .string DW, .string DF, .int .i64 (n : Int)] 25)) w6.heap.size _) at C6
            generalize hw7 : w6.alloc (.cells #[.bool dn, .string DW, .string DF, .int .i64 (n : Int)] 25) = w7 at *
            generalize hH1 : w6.heap.size = H1 at *
            clear hw7 hH1
            refine (GG.out _ (HT.out.below B7.out)).mono ?_
            rintro e w8 ⟨rfl, hb⟩
            have B8 := Lib.hid (B7.out.trans (hb.mono B7.out.size))
            have C8 := Lib.hid (C6.out.step hb)
            clear hb
            have E8 := Lib.hid (CellsAt.new w8 [.int .u8 3, .bool dn, .string GD, .int .i64 ge, .int .i64 (n : Int)] 29)
            have B9 := Lib.hid (B8.out.alloc B8.out.size (.cells #[.int .u8 3, .bool dn, .string GD, .int .i64 ge, .int .i64 (n : Int)] 29))
            have C9 := Lib.hid (C8.out.alloc (.cells #[.int .u8 3, .bool dn, .string GD, .int .i64 ge, .int .i64 (n : Int)] 29))
            change Hid (CellsAt (w8.alloc (.cells #[.int .u8 3, .bool dn, .string GD, .int .i64 ge, .int .i64 (n : Int)] 29)) w8.heap.size _) at E8
            go_wp2_with fail
            generalize hw9 : w8.alloc (.cells #[.int .u8 3, .bool dn, .string GD, .int .i64 ge, .int .i64 (n : Int)] 29) = w9 at *
            generalize hH2 : w8.heap.size = H2 at *
            clear hw9 hH2
            go_loop [14] (fun f => PtF y f) (fun f => strSz f)
            case atStart => exact ⟨bs c, rfl, by rw [bs_list]; exact HY.out, by rw [bs_size]; exact lc⟩
            case round =>
              obtain ⟨S, rfl, hS, lS⟩ := hrel
              have HS := Lib.hid hS
              clear hS
              rcases Nat.eq_zero_or_pos S.size with hz | hz
              · have d3 : decide (0 < S.size) = false := by rw [hz]; rfl
                have d4 : decide ((0 : Int) < (S.size : Int)) = false := by rw [hz]; rfl
                obtain rfl : S = bs y := by
                  have e0 : S.data.toList = [] := List.eq_nil_of_length_eq_zero (by rw [← Lib.size_eq]; exact hz)
                  rw [← HS.out, e0, trimR_nil, ← e0, bs_back]
                clear hz
                go_upto_region 23 with fail
                have q0 := C9.out.cell 0 _ rfl
                have q1 := C9.out.cell 1 _ rfl
                have q2 := C9.out.cell 2 _ rfl
                have q3 := C9.out.cell 3 _ rfl
                have g0 := E8.out.cell 0 _ rfl
                have g1 := E8.out.cell 1 _ rfl
                have g2 := E8.out.cell 2 _ rfl
                have g3 := E8.out.cell 3 _ rfl
                have g4 := E8.out.cell 4 _ rfl
                obtain ⟨rfl, rfl, rfl, rfl, rfl⟩ := RR.out
                have yb := YB.out
                have hnM := HNM.out
                have eee : (ByteArray.mk #[]) ++ (ByteArray.mk #[]) = ByteArray.mk #[] := rfl
                go_wp2_with fail
                go_ret
                exact ⟨rfl, B9.out⟩
              · obtain ⟨m, hm⟩ : ∃ m, S.size = m + 1 := ⟨S.size - 1, by omega⟩
                have hlt3 : m < S.size := by omega
                have sn := snoc_of hlt3 hm
                have d3 : decide (0 < S.size) = true := by simp only [decide_eq_true_eq]; omega
                have d4 : decide ((0 : Int) < (S.size : Int)) = true := by simp only [decide_eq_true_eq]; omega
                have hc3 : (S.size : Int) - 1 = (m : Int) := by omega
                have HM3 := Lib.hid hm
                clear hm hz
                by_cases h48 : S[m] = 48
                · have t48 : ((S[m].toNat : Int) == 48) = true := by rw [h48]; rfl
                  have N := Lib.hid (show PtF y (.string (S.extract 0 m)) from ⟨_, rfl, by rw [← HS.out, sn, h48]; exact (trimR_more _ 1).symm, by rw [ByteArray.size_extract]; omega⟩)
                  have hsx : (S.extract 0 m).size < S.size := by rw [ByteArray.size_extract]; omega
                  clear sn h48
                  go_wp2_with fail
                  go_round
                  case rel => exact N.out
                  case measure => exact hsx
                · have t48 : ((S[m].toNat : Int) == 48) = false := by rw [beq_eq_false_iff_ne]; intro e; exact h48 (UInt8.toNat_inj.1 (by have e2 : (S[m].toNat : Int) = 48 := e; show S[m].toNat = 48; omega))
                  have hS2 : S = bs y := by rw [← HS.out, sn, trimR_keep _ _ h48, ← sn, bs_back]
                  clear sn h48
                  have hx := HM3.out
                  rw [hS2, YB.out] at hx
                  have h0 : (ByteArray.mk #[]).size = 0 := rfl
                  omega
end Go.Proofs.YtpbbgmfjdachnaaDoor
