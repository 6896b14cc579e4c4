/- Codes: none is another's beginning: the walk. -/
import Derived.Test.YtfbeipfpkikakaaDoorCt
namespace Go.Proofs.YtfbeipfpkikakaaDoor
open Go.RowKit

set_option maxRecDepth 100000
set_option maxHeartbeats 6400000 in
theorem prefix_yes (a : Option Addr) (c : Nat) (ls : List Nat) (h16 : ∀ x ∈ ls, x < 16) (hl : ls.length ≤ 512) (hcode : isCode (cnt ls) = true) (w : World) (hz : SlZ w (.slice a ls.length c) (ls.map fun (x : Nat) => (x : Int))) (T : Tabs w) :
    Calls Tryd.prog 4 #[.slice a ls.length c] w (RetBelow w (.bool true)) := by
  have IN := Lib.hid (ints_ok _ (ls.map fun (x : Nat) => (x : Int)) w hz (by rw [List.length_map]; omega))
  have HZ := Lib.hid hz.sli
  have HT := Lib.hid T
  have H16 := Lib.hid h16
  have HCO := Lib.hid hcode
  have hne : ls ≠ [] := by
    intro e; rw [e] at hcode
    have : isCode (cnt []) = false := by decide
    rw [this] at hcode; cases hcode
  clear hz T h16 hcode
  go_enter Tryd.func4, Tryd.ntmps4
  go_wp2_with fail
  refine IN.out.mono ?_
  rintro e w1 ⟨v1, rfl, h1, hb1⟩
  have S1 := h1.slz.sli
  obtain ⟨a1, c1, rfl, hn | ⟨b, off, rfl, hb, hcell⟩⟩ := id S1
  · exact absurd hn hne
  · have C14 := Lib.hid (codes14_ok b off c1 ls.length ls rfl H16.out hl w1 hb hcell)
    have B1 := Lib.hid hb1
    clear h1 hb1 S1 hb hcell IN
    go_wp2_with fail
    refine C14.out.mono ?_
    rintro e w3 h2
    unfold RetCd at h2
    rw [if_pos HCO.out] at h2
    obtain ⟨g, rfl, hf, hg, hb2⟩ := h2
    have B3 := Lib.hid (B1.out.trans (hb2.mono B1.out.size))
    have F3 := Lib.hid hf
    have NM := Lib.hid (num_ok 0 (by omega) w3)
    have Z3 := Lib.hid (HZ.out.below B3.out)
    clear hf hg hb2 C14 B1
    obtain ⟨ob, oo, rfl⟩ := HZ.out.at hne
    have ST := Lib.hid (show CuRel w3 ls.length (.int .i64 0) w3 from ⟨0, Nat.zero_le _, rfl, 0, rfl⟩)
    go_wp2_with (go_at_call 16; refine NM.out.mono ?_; rintro e w4 ⟨rfl, rfl⟩)
    go_loopw [5, 6] (fun i _ wr => CuRel w3 ls.length i wr) (fun i _ _ => (ls.length - (intOf i).toNat))
    case atStart => exact ST.out
    case round =>
      clear ST
      obtain ⟨i, hi, rfl, d, rfl⟩ := hrel
      by_cases hlt : i < ls.length
      · have i1 : (i : Int) < (ls.length : Int) := by omega
        have i2 : (0 : Int) ≤ (i : Int) := by omega
        have t1 : decide ((i : Int) < (ls.length : Int)) = true := decide_eq_true i1
        have t1n : decide (i < ls.length) = true := decide_eq_true hlt
        have ST := Lib.hid (show CuRel w3 ls.length (.int .i64 0) (w3.drewN d) from ⟨0, Nat.zero_le _, rfl, d, rfl⟩)
        go_wp2_with fail
        go_loopw [6] (fun j wr => CuRel w3 ls.length j wr) (fun j _ => (ls.length - (intOf j).toNat))
        case atStart => exact ST.out
        case round =>
          clear ST
          obtain ⟨j, hj, rfl, d2, rfl⟩ := hrel
          by_cases hltj : j < ls.length
          · have j1 : (j : Int) < (ls.length : Int) := by omega
            have j2 : (0 : Int) ≤ (j : Int) := by omega
            have t2 : decide ((j : Int) < (ls.length : Int)) = true := decide_eq_true j1
            have t2n : decide (j < ls.length) = true := decide_eq_true hltj
            have ME := Lib.hid (show ls.length - ((j : Int) + 1).toNat < ls.length - (j : Int).toNat by omega)
            have KK := Lib.hid (fun (n : Nat) => show CuRel w3 ls.length (.int .i64 ((j : Int) + 1)) ((w3.drewN d2).drewN n) from ⟨j + 1, hltj, by congr 1, _, World.drewN_drewN w3 d2 n⟩)
            have ci : (w3.drewN d2).cell? ⟨g, i, none⟩ = some (.int .u32 ((codF ls ls.length i : Nat) : Int)) := F3.out.cell i hlt
            have cj : (w3.drewN d2).cell? ⟨g, j, none⟩ = some (.int .u32 ((codF ls ls.length j : Nat) : Int)) := F3.out.cell j hltj
            have li : (w3.drewN d2).cell? ⟨ob, oo + i, none⟩ = some (.int .i64 ((ls[i] : Nat) : Int)) := Z3.out.get.2 i ls[i] (List.getElem?_eq_getElem hlt)
            have lj : (w3.drewN d2).cell? ⟨ob, oo + j, none⟩ = some (.int .i64 ((ls[j] : Nat) : Int)) := Z3.out.get.2 j ls[j] (List.getElem?_eq_getElem hltj)
            have lg : g < (w3.drewN d2).heap.size := F3.out.lt
            have lo : ob < (w3.drewN d2).heap.size := Z3.out.get.1.resolve_left hne
            have x16 := H16.out ls[i] (List.getElem_mem hlt)
            have y16 := H16.out ls[j] (List.getElem_mem hltj)
            by_cases hij : i = j
            · subst hij
              have e1 : ((i : Int) == (i : Int)) = true := by simp
              have e1n : (i == i) = true := by simp
              generalize codF ls ls.length i = p at *
              generalize ls[i] = x at *
              generalize w3.drewN d2 = wd at *
              go_upto_region 12 with fail
              go_quiet (fail)
              go_wp2_with fail
              exact ⟨KK.out _, ME.out⟩
            · have e1 : ((i : Int) == (j : Int)) = false := by rw [beq_eq_false_iff_ne]; omega
              have e1n : (i == j) = false := by rw [beq_eq_false_iff_ne]; exact hij
              by_cases hx : ls[i] = 0
              · have e2 : (((ls[i] : Nat) : Int) == 0) = true := by rw [beq_iff_eq]; omega
                clear hx
                generalize codF ls ls.length i = p at *
                generalize codF ls ls.length j = q at *
                generalize ls[i] = x at *
                generalize ls[j] = y at *
                generalize w3.drewN d2 = wd at *
                go_upto_region 12 with fail
                go_quiet (fail)
                go_wp2_with fail
                exact ⟨KK.out _, ME.out⟩
              · have e2 : (((ls[i] : Nat) : Int) == 0) = false := by rw [beq_eq_false_iff_ne]; omega
                have e2n : (ls[i] == 0) = false := by rw [beq_eq_false_iff_ne]; exact hx
                by_cases hy : ls[j] = 0
                · have e3 : (((ls[j] : Nat) : Int) == 0) = true := by rw [beq_iff_eq]; omega
                  clear hx hy
                  generalize codF ls ls.length i = p at *
                  generalize codF ls ls.length j = q at *
                  generalize ls[i] = x at *
                  generalize ls[j] = y at *
                  generalize w3.drewN d2 = wd at *
                  go_upto_region 12 with fail
                  go_quiet (fail)
                  go_wp2_with fail
                  exact ⟨KK.out _, ME.out⟩
                · have e3 : (((ls[j] : Nat) : Int) == 0) = false := by rw [beq_eq_false_iff_ne]; omega
                  have e3n : (ls[j] == 0) = false := by rw [beq_eq_false_iff_ne]; exact hy
                  by_cases hxy : ls[j] < ls[i]
                  · have e4 : decide (((ls[j] : Nat) : Int) < ((ls[i] : Nat) : Int)) = true := decide_eq_true (by omega)
                    have e4n : decide (ls[j] < ls[i]) = true := decide_eq_true hxy
                    clear hx hy hxy
                    generalize codF ls ls.length i = p at *
                    generalize codF ls ls.length j = q at *
                    generalize ls[i] = x at *
                    generalize ls[j] = y at *
                    generalize w3.drewN d2 = wd at *
                    go_upto_region 12 with fail
                    go_quiet (fail)
                    go_wp2_with fail
                    exact ⟨KK.out _, ME.out⟩
                  · have e4 : decide (((ls[j] : Nat) : Int) < ((ls[i] : Nat) : Int)) = false := decide_eq_false (by omega)
                    have e4n : decide (ls[j] < ls[i]) = false := decide_eq_false hxy
                    obtain ⟨pi, pb⟩ := codF_code H16.out hl hlt (by omega)
                    obtain ⟨qi, qb⟩ := codF_code H16.out hl hltj (by omega)
                    rw [pi] at ci
                    rw [qi] at cj
                    by_cases hEq : ls[i] = ls[j]
                    · have ord : (i < j ∧ codeAt ls i < codeAt ls j) ∨ (j < i ∧ codeAt ls j < codeAt ls i) := by
                        rcases Nat.lt_or_ge i j with h | h
                        · exact .inl ⟨h, code_alike hlt hltj hEq h⟩
                        · exact .inr ⟨by omega, code_alike hltj hlt hEq.symm (by omega)⟩
                      rw [← hEq] at lj e3 e3n e4 e4n
                      clear hxy hx hy pi qi hEq y16
                      generalize codeAt ls i = p at *
                      generalize codeAt ls j = q at *
                      generalize ls[i] = x at *
                      have f1 : ((q : Int) == (p : Int)) = false := by rw [beq_eq_false_iff_ne]; omega
                      have f1n : (q == p) = false := by rw [beq_eq_false_iff_ne]; omega
                      rcases ord with ⟨o1, o2⟩ | ⟨o1, o2⟩
                      · have g1 : decide ((i : Int) < (j : Int)) = true := decide_eq_true (by omega)
                        have g1n : decide (i < j) = true := decide_eq_true o1
                        have g2 : decide ((p : Int) < (q : Int)) = true := decide_eq_true (by omega)
                        have g2n : decide (p < q) = true := decide_eq_true o2
                        clear o1 o2 hij
                        generalize w3.drewN d2 = wd at *
                        go_upto_region 12 with fail
                        go_quiet (fail)
                        go_upto_region 13 with fail
                        go_quiet (fail)
                        go_wp2_with fail
                        exact ⟨KK.out _, ME.out⟩
                      · have g1 : decide ((i : Int) < (j : Int)) = false := decide_eq_false (by omega)
                        have g1n : decide (i < j) = false := decide_eq_false (by omega)
                        have g2 : decide ((p : Int) < (q : Int)) = false := decide_eq_false (by omega)
                        have g2n : decide (p < q) = false := decide_eq_false (by omega)
                        clear o1 o2 hij
                        generalize w3.drewN d2 = wd at *
                        go_upto_region 12 with fail
                        go_quiet (fail)
                        go_upto_region 13 with fail
                        go_quiet (fail)
                        go_wp2_with fail
                        exact ⟨KK.out _, ME.out⟩
                    · have PX := Lib.hid (code_longer hlt hltj (by omega) (show ls[i] < ls[j] by omega))
                      clear hx hy pi qi
                      generalize codeAt ls i = p at *
                      generalize codeAt ls j = q at *
                      generalize ls[i] = x at *
                      generalize ls[j] = y at *
                      obtain ⟨k, hk⟩ : ∃ k, k = y - x := ⟨_, rfl⟩
                      have h5 : ((x : Int) == (y : Int)) = false := by rw [beq_eq_false_iff_ne]; omega
                      have h5n : (x == y) = false := by rw [beq_eq_false_iff_ne]; exact hEq
                      have px := PX.out
                      have f0 : ((q : Int) / 2 ^ (y - x) == (p : Int)) = false := by
                        rw [beq_eq_false_iff_ne]
                        have e : (q : Int) / 2 ^ (y - x) = ((q / 2 ^ (y - x) : Nat) : Int) := by rw [Int.natCast_ediv, Int.natCast_pow]; rfl
                        rw [e]; omega
                      have k1 : x ≤ y := by omega
                      have k2 : (x : Int) ≤ (y : Int) := by omega
                      have e9 : (y : Int) - (x : Int) = ((y - x : Nat) : Int) := by omega
                      clear px hk hxy hEq hij
                      generalize w3.drewN d2 = wd at *
                      go_upto_region 12 with fail
                      go_quiet (fail)
                      go_upto_region 13 with fail
                      go_quiet (fail)
                      go_wp2_with fail
                      exact ⟨KK.out _, ME.out⟩
          · obtain rfl : j = ls.length := by omega
            have t2 : decide ((ls.length : Int) < (ls.length : Int)) = false := decide_eq_false (by omega)
            have KK := Lib.hid (show CuRel w3 ls.length (.int .i64 ((i : Int) + 1)) (w3.drewN d2) from ⟨i + 1, hlt, by congr 1, d2, rfl⟩)
            have ME := Lib.hid (show ls.length - ((i : Int) + 1).toNat < ls.length - (i : Int).toNat by omega)
            go_wp2_with fail
            exact ⟨KK.out, ME.out⟩
      · obtain rfl : i = ls.length := by omega
        have t1 : decide ((ls.length : Int) < (ls.length : Int)) = false := decide_eq_false (by omega)
        have B4 := Lib.hid (bdrewB B3.out d)
        have AL := Lib.hid (alive_ok (w3.drewN d) (HT.out.below B4.out))
        generalize w3.drewN d = wd at *
        go_wp2_with (go_at_call 13; refine AL.out.mono ?_; rintro e w2 ⟨rfl, hb2⟩)
        go_ret
        exact ⟨rfl, B4.out.trans (hb2.mono B4.out.size)⟩
theorem prefix_card (a : Option Addr) (c : Nat) (zs : List Int) (w : World) (hz : SlZ w (.slice a zs.length c) zs) (hlen : zs.length * 8 ≤ 140737488355328) (T : Tabs w) : Calls Tryd.prog 4 #[.slice a zs.length c] w (RetBelow w (.bool true)) := by
  by_cases h512 : 512 < zs.length
  · refine prefix_no a c zs 2 (by omega) w hz hlen T (fun u W B hu => ?_)
    obtain ⟨ua, uc, rfl, _⟩ := hu.slz
    exact (codes14_long ua zs.length uc h512 (by omega) W).mono fun e w' h => h.nb
  · rcases first_bad zs with ⟨k, hk, hb, hg⟩ | ⟨ls, rfl, h16⟩
    · refine prefix_no a c zs 65 (by omega) w hz hlen T (fun u W B hu => ?_)
      obtain ⟨ua, uc, rfl, _⟩ := id hu.slz
      exact (codes14_bad k hk hb hg (by omega) W hu.slz).mono fun e w' h => h.nb
    · have hl : ls.length ≤ 512 := by rw [List.length_map] at h512; omega
      rcases hcode : isCode (cnt ls) with _ | _
      · refine prefix_no a c _ 65 (by omega) w hz hlen T (fun u W B hu => ?_)
        rcases hu.1.2 with ⟨hv, _⟩ | ⟨g, cap, cur, hv, _, hgg, _⟩
        · rw [hv]; exact codes14_nil W
        · obtain ⟨ua, uc, hv2, hn | ⟨b, off, rfl, hb, hcell⟩⟩ := id hu.slz.sli
          · subst hn
            rw [hv2] at hv
            injection hv with e1 e2 e3
            rw [hv2, e1, e3]
            refine (codes14_ok g 0 cap 0 [] rfl (fun x h => by cases h) (by omega) W (lt_of_heap hgg) (fun j x hx => by cases hx)).mono fun e w' h => ?_
            unfold RetCd at h
            rw [if_neg (by decide)] at h
            exact h
          · rw [hv2]
            refine (codes14_ok b off uc ls.length ls rfl h16 hl W hb hcell).mono fun e w' h => ?_
            unfold RetCd at h
            rw [if_neg (by rw [hcode]; decide)] at h
            exact h
      · have := prefix_yes a c ls h16 hl hcode w (by rw [List.length_map] at hz; exact hz) T
        rw [List.length_map]
        exact this
end Go.Proofs.YtfbeipfpkikakaaDoor
