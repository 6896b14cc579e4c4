/- Size, the document's. -/
import Derived.Test.YtbgbmojoldkcfaaDoorSz
namespace Go.Proofs.YtbgbmojoldkcfaaDoor
open Go.RowKit

theorem rest_one (s : ByteArray) (z : Nat) (h : s.size = z + 1) : s.data.toList.drop z = [s[z]] := by
  have hl : z < s.data.toList.length := by rw [← Lib.size_eq]; omega
  rw [List.drop_eq_getElem_cons hl, List.drop_eq_nil_of_le (by rw [← Lib.size_eq]; omega)]
  rfl
theorem rest_two (l : List UInt8) (z : Nat) (h : z + 1 < l.length) : unitS (l.drop z) = 0 := by
  rw [List.drop_eq_getElem_cons (by omega), List.drop_eq_getElem_cons h]
  rfl
theorem byte_ne {c : UInt8} {k : Nat} (hk : k < 256) (h : c.toNat ≠ k) : c ≠ UInt8.ofNat k := by
  intro e
  apply h
  rw [e]
  simp; omega

set_option maxHeartbeats 1600000 in
theorem refSize_ok (s : ByteArray) (w : World) (hs : s.size ≤ 140737488351232) :
    Calls Tryd.prog 7 #[.string s] w (RetSz w (sizeS s.data.toList) (sizeE s.data.toList)) := by
  have C := number_ok s 0 67108864 (by omega) (by omega) w hs
  rw [List.drop_zero, Nat.zero_add] at C
  have h1 := valS_le 67108864 s.data.toList 0 (by omega)
  have h2 := valS_len 67108864 s.data.toList 0
  rw [← Lib.size_eq] at h2
  have h3 := fun h => valS_none (b := 67108864) (l := s.data.toList) h
  have HS := Lib.hid (show sizeS s.data.toList = min ((valS 67108864 0 s.data.toList).1 * unitS (s.data.toList.drop (valS 67108864 0 s.data.toList).2)) 67108864 from rfl)
  have HE := Lib.hid (show sizeE s.data.toList = if sizeS s.data.toList = 0 then 44 else 0 from rfl)
  generalize sizeE s.data.toList = E at *
  generalize sizeS s.data.toList = S at *
  generalize hn : (valS 67108864 0 s.data.toList).1 = n at *
  generalize hz : (valS 67108864 0 s.data.toList).2 = z at *
  clear hn hz
  have HC := Lib.hid C
  clear C
  by_cases hz : z = 0
  · have h4 := h3 hz
    have t1 : ((z : Int) == 0) = true := by rw [beq_iff_eq]; omega
    have t2 : decide ((z : Int) = 0) = true := by simp only [decide_eq_true_eq]; omega
    have hS : S = 0 := by rw [HS.out, h4]; simp
    have HSS := Lib.hid hS
    clear hS HS h3 h4 hz
    go_enter Tryd.func7, Tryd.ntmps7
    go_wp2_with fail
    refine HC.out.mono ?_
    rintro e w' ⟨rfl, rfl⟩
    go_wp2_with fail
    go_ret2
    exact ⟨by rw [HE.out, HSS.out]; rfl, rfl⟩
  · have t1 : ((z : Int) == 0) = false := by rw [beq_eq_false_iff_ne]; omega
    have t2 : decide ((z : Int) = 0) = false := by simp only [decide_eq_false_iff_not]; omega
    by_cases hn : n = 0
    · have t3 : ((n : Int) == 0) = true := by rw [beq_iff_eq]; omega
      have t4 : decide ((n : Int) = 0) = true := by simp only [decide_eq_true_eq]; omega
      have hS : S = 0 := by rw [HS.out, hn]; simp
      have HSS := Lib.hid hS
      clear hS HS h3 hn hz
      go_enter Tryd.func7, Tryd.ntmps7
      go_wp2_with fail
      refine HC.out.mono ?_
      rintro e w' ⟨rfl, rfl⟩
      go_wp2_with fail
      go_ret2
      exact ⟨by rw [HE.out, HSS.out]; rfl, rfl⟩
    · have t3 : ((n : Int) == 0) = false := by rw [beq_eq_false_iff_ne]; omega
      have t4 : decide ((n : Int) = 0) = false := by simp only [decide_eq_false_iff_not]; omega
      by_cases hl : z + 1 < s.size
      · have t5 : decide ((z : Int) + 1 < (s.size : Int)) = true := by simp only [decide_eq_true_eq]; omega
        have t6 : decide (z + 1 < s.size) = true := by simp only [decide_eq_true_eq]; omega
        have hS : S = 0 := by rw [HS.out, rest_two _ _ (by rw [← Lib.size_eq]; exact hl)]; simp
        have HSS := Lib.hid hS
        clear hS HS h3 hn hz
        go_enter Tryd.func7, Tryd.ntmps7
        go_wp2_with fail
        refine HC.out.mono ?_
        rintro e w' ⟨rfl, rfl⟩
        go_wp2_with fail
        go_ret2
        exact ⟨by rw [HE.out, HSS.out]; rfl, rfl⟩
      · have t5 : decide ((z : Int) + 1 < (s.size : Int)) = false := by simp only [decide_eq_false_iff_not]; omega
        have t6 : decide (z + 1 < s.size) = false := by simp only [decide_eq_false_iff_not]; omega
        by_cases hq : z < s.size
        · have hlt := hq
          have hr := rest_one s z (by omega)
          have hc := s[z].toNat_lt
          by_cases hb98 : s[z].toNat = 98
          · have u98 : ((s[z].toNat : Int) == 98) = true := by rw [beq_iff_eq]; omega
            have hcc : s[z] = 98 := UInt8.toNat_inj.1 (by rw [hb98]; rfl)
            have HU := Lib.hid (HS.out.trans (by rw [hr, hcc, show unitS [98] = 1 from rfl]))
            clear HS h3 hz hr hcc hb98
            by_cases hov : 67108864 < n * 1
            · have t7 : decide ((67108864 : Int) < (n : Int) * 1) = true := by simp only [decide_eq_true_eq]; omega
              have t8 : decide ((67108864 : Int) < (n : Int)) = true := by simp only [decide_eq_true_eq]; omega
              have t9 : decide (67108864 < n) = true := by simp only [decide_eq_true_eq]; omega
              have HN := Lib.hid hn
              have HOV := Lib.hid hov
              clear hn hov
              go_enter Tryd.func7, Tryd.ntmps7
              go_wp2_with fail
              refine HC.out.mono ?_
              rintro e w' ⟨rfl, rfl⟩
              go_wp2_with fail
              go_ret2
              have hS : S = min (n * 1) 67108864 := HU.out
              have h0 := HN.out
              have h9 := HOV.out
              have hne : S ≠ 0 := by rw [hS]; omega
              exact ⟨by rw [HE.out, if_neg hne]; exact szEnd (by rw [hS, Nat.min_def]; split <;> omega), rfl⟩
            · have t7 : decide ((67108864 : Int) < (n : Int) * 1) = false := by simp only [decide_eq_false_iff_not]; omega
              have t8 : decide ((67108864 : Int) < (n : Int)) = false := by simp only [decide_eq_false_iff_not]; omega
              have t9 : decide (67108864 < n) = false := by simp only [decide_eq_false_iff_not]; omega
              have HN := Lib.hid hn
              have HOV := Lib.hid hov
              clear hn hov
              go_enter Tryd.func7, Tryd.ntmps7
              go_wp2_with fail
              refine HC.out.mono ?_
              rintro e w' ⟨rfl, rfl⟩
              go_wp2_with fail
              go_ret2
              have hS : S = min (n * 1) 67108864 := HU.out
              have h0 := HN.out
              have h9 := HOV.out
              have hne : S ≠ 0 := by rw [hS]; omega
              exact ⟨by rw [HE.out, if_neg hne]; exact szEnd (by rw [hS, Nat.min_def]; split <;> omega), rfl⟩
          · skip
            by_cases hb75 : s[z].toNat = 75
            · have u98 : ((s[z].toNat : Int) == 98) = false := by rw [beq_eq_false_iff_ne]; omega
              have u75 : ((s[z].toNat : Int) == 75) = true := by rw [beq_iff_eq]; omega
              have hcc : s[z] = 75 := UInt8.toNat_inj.1 (by rw [hb75]; rfl)
              have HU := Lib.hid (HS.out.trans (by rw [hr, hcc, show unitS [75] = 1024 from rfl]))
              clear HS h3 hz hr hcc hb98 hb75
              by_cases hov : 67108864 < n * 1024
              · have t7 : decide ((67108864 : Int) < (n : Int) * 1024) = true := by simp only [decide_eq_true_eq]; omega
                have HN := Lib.hid hn
                have HOV := Lib.hid hov
                clear hn hov
                go_enter Tryd.func7, Tryd.ntmps7
                go_wp2_with fail
                refine HC.out.mono ?_
                rintro e w' ⟨rfl, rfl⟩
                go_wp2_with fail
                go_ret2
                have hS : S = min (n * 1024) 67108864 := HU.out
                have h0 := HN.out
                have h9 := HOV.out
                have hne : S ≠ 0 := by rw [hS]; omega
                exact ⟨by rw [HE.out, if_neg hne]; exact szEnd (by rw [hS, Nat.min_def]; split <;> omega), rfl⟩
              · have t7 : decide ((67108864 : Int) < (n : Int) * 1024) = false := by simp only [decide_eq_false_iff_not]; omega
                have HN := Lib.hid hn
                have HOV := Lib.hid hov
                clear hn hov
                go_enter Tryd.func7, Tryd.ntmps7
                go_wp2_with fail
                refine HC.out.mono ?_
                rintro e w' ⟨rfl, rfl⟩
                go_wp2_with fail
                go_ret2
                have hS : S = min (n * 1024) 67108864 := HU.out
                have h0 := HN.out
                have h9 := HOV.out
                have hne : S ≠ 0 := by rw [hS]; omega
                exact ⟨by rw [HE.out, if_neg hne]; exact szEnd (by rw [hS, Nat.min_def]; split <;> omega), rfl⟩
            · skip
              by_cases hb77 : s[z].toNat = 77
              · have u98 : ((s[z].toNat : Int) == 98) = false := by rw [beq_eq_false_iff_ne]; omega
                have u75 : ((s[z].toNat : Int) == 75) = false := by rw [beq_eq_false_iff_ne]; omega
                have u77 : ((s[z].toNat : Int) == 77) = true := by rw [beq_iff_eq]; omega
                have hcc : s[z] = 77 := UInt8.toNat_inj.1 (by rw [hb77]; rfl)
                have HU := Lib.hid (HS.out.trans (by rw [hr, hcc, show unitS [77] = 1048576 from rfl]))
                clear HS h3 hz hr hcc hb98 hb75 hb77
                by_cases hov : 67108864 < n * 1048576
                · have t7 : decide ((67108864 : Int) < (n : Int) * 1048576) = true := by simp only [decide_eq_true_eq]; omega
                  have HN := Lib.hid hn
                  have HOV := Lib.hid hov
                  clear hn hov
                  go_enter Tryd.func7, Tryd.ntmps7
                  go_wp2_with fail
                  refine HC.out.mono ?_
                  rintro e w' ⟨rfl, rfl⟩
                  go_wp2_with fail
                  go_ret2
                  have hS : S = min (n * 1048576) 67108864 := HU.out
                  have h0 := HN.out
                  have h9 := HOV.out
                  have hne : S ≠ 0 := by rw [hS]; omega
                  exact ⟨by rw [HE.out, if_neg hne]; exact szEnd (by rw [hS, Nat.min_def]; split <;> omega), rfl⟩
                · have t7 : decide ((67108864 : Int) < (n : Int) * 1048576) = false := by simp only [decide_eq_false_iff_not]; omega
                  have HN := Lib.hid hn
                  have HOV := Lib.hid hov
                  clear hn hov
                  go_enter Tryd.func7, Tryd.ntmps7
                  go_wp2_with fail
                  refine HC.out.mono ?_
                  rintro e w' ⟨rfl, rfl⟩
                  go_wp2_with fail
                  go_ret2
                  have hS : S = min (n * 1048576) 67108864 := HU.out
                  have h0 := HN.out
                  have h9 := HOV.out
                  have hne : S ≠ 0 := by rw [hS]; omega
                  exact ⟨by rw [HE.out, if_neg hne]; exact szEnd (by rw [hS, Nat.min_def]; split <;> omega), rfl⟩
              · skip
                by_cases hb71 : s[z].toNat = 71
                · have u98 : ((s[z].toNat : Int) == 98) = false := by rw [beq_eq_false_iff_ne]; omega
                  have u75 : ((s[z].toNat : Int) == 75) = false := by rw [beq_eq_false_iff_ne]; omega
                  have u77 : ((s[z].toNat : Int) == 77) = false := by rw [beq_eq_false_iff_ne]; omega
                  have u71 : ((s[z].toNat : Int) == 71) = true := by rw [beq_iff_eq]; omega
                  have hcc : s[z] = 71 := UInt8.toNat_inj.1 (by rw [hb71]; rfl)
                  have HU := Lib.hid (HS.out.trans (by rw [hr, hcc, show unitS [71] = 1073741824 from rfl]))
                  clear HS h3 hz hr hcc hb98 hb75 hb77 hb71
                  by_cases hov : 67108864 < n * 1073741824
                  · have t7 : decide ((67108864 : Int) < (n : Int) * 1073741824) = true := by simp only [decide_eq_true_eq]; omega
                    have HN := Lib.hid hn
                    have HOV := Lib.hid hov
                    clear hn hov
                    go_enter Tryd.func7, Tryd.ntmps7
                    go_wp2_with fail
                    refine HC.out.mono ?_
                    rintro e w' ⟨rfl, rfl⟩
                    go_wp2_with fail
                    go_ret2
                    have hS : S = min (n * 1073741824) 67108864 := HU.out
                    have h0 := HN.out
                    have h9 := HOV.out
                    have hne : S ≠ 0 := by rw [hS]; omega
                    exact ⟨by rw [HE.out, if_neg hne]; exact szEnd (by rw [hS, Nat.min_def]; split <;> omega), rfl⟩
                  · have t7 : decide ((67108864 : Int) < (n : Int) * 1073741824) = false := by simp only [decide_eq_false_iff_not]; omega
                    have HN := Lib.hid hn
                    have HOV := Lib.hid hov
                    clear hn hov
                    go_enter Tryd.func7, Tryd.ntmps7
                    go_wp2_with fail
                    refine HC.out.mono ?_
                    rintro e w' ⟨rfl, rfl⟩
                    go_wp2_with fail
                    go_ret2
                    have hS : S = min (n * 1073741824) 67108864 := HU.out
                    have h0 := HN.out
                    have h9 := HOV.out
                    have hne : S ≠ 0 := by rw [hS]; omega
                    exact ⟨by rw [HE.out, if_neg hne]; exact szEnd (by rw [hS, Nat.min_def]; split <;> omega), rfl⟩
                · skip
                  have u98 : ((s[z].toNat : Int) == 98) = false := by rw [beq_eq_false_iff_ne]; omega
                  have u75 : ((s[z].toNat : Int) == 75) = false := by rw [beq_eq_false_iff_ne]; omega
                  have u77 : ((s[z].toNat : Int) == 77) = false := by rw [beq_eq_false_iff_ne]; omega
                  have u71 : ((s[z].toNat : Int) == 71) = false := by rw [beq_eq_false_iff_ne]; omega
                  have hS : S = 0 := by
                    rw [HS.out, hr]
                    have e : unitS [s[z]] = 0 := by
                      show (if s[z] = 98 then 1 else if s[z] = 75 then 1024 else if s[z] = 77 then 1048576 else if s[z] = 71 then 1073741824 else 0) = 0
                      rw [if_neg (show ¬ s[z] = 98 from byte_ne (k := 98) (by omega) hb98), if_neg (show ¬ s[z] = 75 from byte_ne (k := 75) (by omega) hb75), if_neg (show ¬ s[z] = 77 from byte_ne (k := 77) (by omega) hb77), if_neg (show ¬ s[z] = 71 from byte_ne (k := 71) (by omega) hb71)]
                    rw [e]; simp
                  have HSS := Lib.hid hS
                  clear hS HS h3 hn hz hr hb98 hb75 hb77 hb71
                  go_enter Tryd.func7, Tryd.ntmps7
                  go_wp2_with fail
                  refine HC.out.mono ?_
                  rintro e w' ⟨rfl, rfl⟩
                  go_wp2_with fail
                  go_ret2
                  exact ⟨by rw [HE.out, HSS.out]; rfl, rfl⟩
        · have hr : s.data.toList.drop z = [] := List.drop_eq_nil_of_le (by rw [← Lib.size_eq]; omega)
          have HU := Lib.hid (HS.out.trans (by rw [hr, show unitS [] = 1024 from rfl]))
          clear HS h3 hz hr
          by_cases hov : 67108864 < n * 1024
          · have t7 : decide ((67108864 : Int) < (n : Int) * 1024) = true := by simp only [decide_eq_true_eq]; omega
            have HN := Lib.hid hn
            have HOV := Lib.hid hov
            clear hn hov
            go_enter Tryd.func7, Tryd.ntmps7
            go_wp2_with fail
            refine HC.out.mono ?_
            rintro e w' ⟨rfl, rfl⟩
            go_wp2_with fail
            go_ret2
            have hS : S = min (n * 1024) 67108864 := HU.out
            have h0 := HN.out
            have h9 := HOV.out
            have hne : S ≠ 0 := by rw [hS]; omega
            exact ⟨by rw [HE.out, if_neg hne]; exact szEnd (by rw [hS, Nat.min_def]; split <;> omega), rfl⟩
          · have t7 : decide ((67108864 : Int) < (n : Int) * 1024) = false := by simp only [decide_eq_false_iff_not]; omega
            have HN := Lib.hid hn
            have HOV := Lib.hid hov
            clear hn hov
            go_enter Tryd.func7, Tryd.ntmps7
            go_wp2_with fail
            refine HC.out.mono ?_
            rintro e w' ⟨rfl, rfl⟩
            go_wp2_with fail
            go_ret2
            have hS : S = min (n * 1024) 67108864 := HU.out
            have h0 := HN.out
            have h9 := HOV.out
            have hne : S ≠ 0 := by rw [hS]; omega
            exact ⟨by rw [HE.out, if_neg hne]; exact szEnd (by rw [hS, Nat.min_def]; split <;> omega), rfl⟩
end Go.Proofs.YtbgbmojoldkcfaaDoor
