/- NumeralScale: the walk's premises. -/
import Derived.Test.YtpbbgmfjdachnaaDoorScale
import Derived.Test.YtpbbgmfjdachnaaDoorGen
namespace Go.Proofs.YtpbbgmfjdachnaaDoor
open Go.RowKit

theorem general_ok (s : ByteArray) (w : World) (hs : s.size ≤ 1000000) (T : Tabs w) : Calls Tryd.prog 17 #[.string s] w (RetBelow w (genV (scanS s.data.toList true))) := by
  by_cases h : numD (scanS s.data.toList true) = []
  · exact general_zero s w hs T h
  · exact general_num s w hs T h
theorem hd_nums (neg : Bool) (D : List UInt8) (ex : Int) (sz : Nat) (hD : trimL D ≠ []) :
    numD ⟨3, neg, D, [], ex, sz⟩ = trimR (trimL D) ∧ numE ⟨3, neg, D, [], ex, sz⟩ = (trimL D).length + ex := by
  have eF : numF ⟨3, neg, D, [], ex, sz⟩ = [] := by
    unfold numF
    simp only [trimR_nil]
    split <;> rfl
  constructor
  · unfold numD numW
    rw [eF]
    unfold numF at eF
    rw [if_pos eF, List.append_nil]
  · unfold numE
    simp only
    rw [if_neg hD]
theorem genV_digs (neg : Bool) (D : List UInt8) (ex : Int) (sz : Nat) (hD : trimL D ≠ []) :
    genV ⟨3, neg, D, [], ex, sz⟩ = .agg #[.int .u8 3, .bool neg, .string (bs (trimR (trimL D))), .int .i64 ((trimL D).length + ex), .int .i64 sz] := by
  obtain ⟨h1, h2⟩ := hd_nums neg D ex sz hD
  unfold genV
  rw [h1, h2, if_neg (fun h => hD (trimR_trimL h))]
  rfl
theorem scan_pos {n : Int} (hn : 0 < n) (t : List UInt8) (ht : isDig (atB t 0) = false) (hd : (atB t 0 == 46) = false) :
    ∃ sz, scanS (writ n 0 ++ t) true = ⟨3, false, zdg 0 n.natAbs, [], (expS t).1, sz⟩ := by
  have e3 : fracS t = [] := by unfold fracS; rw [hd]; rfl
  have e4 : fracN t = 0 := by unfold fracN; rw [hd]; rfl
  have := scan_digs [] (by simp) (decide (n < 0)) (zdg 0 n.natAbs) (zdg_dig 0 n.natAbs) (zdg_ne 0 n.natAbs) t ht true
  rw [List.nil_append, e3, e4, List.drop_zero, if_pos rfl, if_pos rfl, decide_eq_false (by omega)] at this
  rw [writ_sg, List.append_assoc, decide_eq_false (by omega), this]
  exact ⟨_, rfl⟩
theorem gen_pos {n : Int} (hn : 0 < n) (t : List UInt8) (ht : isDig (atB t 0) = false) (hd : (atB t 0 == 46) = false) :
    ∃ sz : Int, genV (scanS (writ n 0 ++ t) true) = .agg #[.int .u8 3, .bool false, .string (bs (trimR (dgs n.natAbs))), .int .i64 (((dgs n.natAbs).length : Int) + (expS t).1), .int .i64 sz] := by
  obtain ⟨sz, h⟩ := scan_pos hn t ht hd
  have hne : trimL (zdg 0 n.natAbs) ≠ [] := by rw [trimL_zdg]; exact fun h => by have := dgs_nil.1 h; omega
  have := genV_digs false (zdg 0 n.natAbs) (expS t).1 sz hne
  rw [trimL_zdg] at this
  exact ⟨sz, by rw [h, this]⟩

set_option maxHeartbeats 800000 in
theorem scale_out (n e more : Int) (w : World) (h : ¬ (¬ n ≤ 0 ∧ ¬ 4611686018427387904 ≤ n ∧ ¬ e < -500 ∧ ¬ 500 < e ∧ ¬ more < 0 ∧ ¬ 500 < more)) :
    Calls Tryd.prog 7 #[.int .i64 n, .int .i64 e, .int .i64 more] w (RetBelow w (.bool true)) := by
  by_cases c0 : n ≤ 0
  · clear h
    go_enter Tryd.func7, Tryd.ntmps7
    go_wp2_with fail
    go_ret
    exact ⟨rfl, Below.refl _ _⟩
  by_cases c1 : 4611686018427387904 ≤ n
  · clear h
    go_enter Tryd.func7, Tryd.ntmps7
    go_wp2_with fail
    go_ret
    exact ⟨rfl, Below.refl _ _⟩
  by_cases c2 : e < -500
  · clear h
    go_enter Tryd.func7, Tryd.ntmps7
    go_wp2_with fail
    go_ret
    exact ⟨rfl, Below.refl _ _⟩
  by_cases c3 : 500 < e
  · clear h
    go_enter Tryd.func7, Tryd.ntmps7
    go_wp2_with fail
    go_ret
    exact ⟨rfl, Below.refl _ _⟩
  by_cases c4 : more < 0
  · clear h
    go_enter Tryd.func7, Tryd.ntmps7
    go_wp2_with fail
    go_ret
    exact ⟨rfl, Below.refl _ _⟩
  by_cases c5 : 500 < more
  · clear h
    go_enter Tryd.func7, Tryd.ntmps7
    go_wp2_with fail
    go_ret
    exact ⟨rfl, Below.refl _ _⟩
  exact absurd ⟨c0, c1, c2, c3, c4, c5⟩ h

theorem scale_card (n e more : Int) (_ : -9223372036854775808 ≤ n ∧ n ≤ 9223372036854775807) (_ : -9223372036854775808 ≤ e ∧ e ≤ 9223372036854775807) (_ : -9223372036854775808 ≤ more ∧ more ≤ 9223372036854775807) (w : World) (T : Tabs w) :
    Calls Tryd.prog 7 #[.int .i64 n, .int .i64 e, .int .i64 more] w (RetBelow w (.bool true)) := by
  by_cases h : ¬ n ≤ 0 ∧ ¬ 4611686018427387904 ≤ n ∧ ¬ e < -500 ∧ ¬ 500 < e ∧ ¬ more < 0 ∧ ¬ 500 < more
  · obtain ⟨h1, h2, h3, h4, h5, h6⟩ := h
    have hn0 : 0 < n := by omega
    have len : ∀ (n : Int) (z : Nat), -4611686018427387904 < n → n < 4611686018427387904 → z ≤ 40 → (bs (writ n z)).size ≤ 60 := fun n z h1 h2 h3 => by
      rw [bs_size, writ_sg, List.length_append]
      have e1 : (sgL (decide (n < 0))).length ≤ 1 := by unfold sgL; split <;> simp
      have e2 : (zdg z n.natAbs).length = z + (dg n.natAbs).length := by unfold zdg; simp
      have e3 := dg_len n.natAbs (by omega)
      omega
    have l1 := len n 0 (by omega) (by omega) (by omega)
    have l2 := len e 3 (by omega) (by omega) (by omega)
    have l3 := len e 0 (by omega) (by omega) (by omega)
    have l4 := len (e + more) 0 (by omega) (by omega) (by omega)
    have ld := dgs_len 19 n.natAbs (by omega)
    have cat : ∀ a b : ByteArray, (a ++ b).data.toList = a.data.toList ++ b.data.toList := fun a b => by simp
    have hcat : ∀ a b : ByteArray, (a ++ b).size = a.size + b.size := fun a b => by simp
    have z1 : (⟨#[101]⟩ : ByteArray).size = 1 := rfl
    have z2 : (⟨#[69, 43]⟩ : ByteArray).size = 2 := rfl
    have z3 : (⟨#[45]⟩ : ByteArray).size = 1 := rfl
    have cmp32 : ∀ x y, cmpS 32 x y = cmpVal (valS 32 x) (valS 32 y) := fun x y => by unfold cmpS; rw [if_pos (by simp)]
    obtain ⟨sz1, g1⟩ := gen_pos hn0 (101 :: writ e 3) rfl rfl
    obtain ⟨sz2, g2⟩ := gen_pos hn0 [] rfl rfl
    rw [exp_writ 101 (Or.inl rfl) e 3 (by omega)] at g1
    have e0 : (expS []).1 = 0 := rfl
    rw [e0, List.append_nil, Int.add_zero] at g2
    obtain ⟨x1, x2⟩ := valW_exp hn0 e (e + more)
    have K : ∀ s t W, s.size ≤ 1125899906842624 → t.size ≤ 1125899906842624 → Tabs W → Calls Tryd.prog 21 #[.int .u16 32, .string s, .string t] W (RetBelow W (.int .i64 (cmpS 32 s.data.toList t.data.toList))) := fun s t W hs ht hT => compare_ok 32 s t W hs ht hT
    refine scale_vals n e more (bs (writ n 0)) (bs (writ e 3)) (bs (writ e 0)) (bs (writ (e + more) 0)) (bs (trimR (dgs n.natAbs))) (dgs n.natAbs).length sz1 sz2 (cmpI e (e + more)) l1 l2 l3 l4 w T
      ⟨by omega, by omega⟩ ⟨by omega, by omega⟩ ⟨by omega, by omega⟩ ⟨by omega, by omega⟩
      (Lib.hid fun W => written_ok n ⟨by omega, by omega⟩ 0 (by omega) W) (Lib.hid fun W => written_ok e ⟨by omega, by omega⟩ 3 (by omega) W) (Lib.hid fun W => written_ok e ⟨by omega, by omega⟩ 0 (by omega) W) (Lib.hid fun W => written_ok (e + more) ⟨by omega, by omega⟩ 0 (by omega) W)
      (Lib.hid fun W hT => ?_) (Lib.hid fun W hT => ?_) (Lib.hid fun he Z hZ W hT => ?_) (Lib.hid fun W hT => ?_) (Lib.hid fun W hT => ?_) ?_
    · have k := general_ok (bs (writ n 0) ++ ⟨#[101]⟩ ++ bs (writ e 3)) W (by rw [hcat, hcat]; omega) hT
      have ed : (bs (writ n 0) ++ ⟨#[101]⟩ ++ bs (writ e 3) : ByteArray).data.toList = writ n 0 ++ 101 :: writ e 3 := by rw [cat, cat, bs_list, bs_list]; simp
      rw [ed, g1] at k
      exact k
    · have k := general_ok (bs (writ n 0)) W (by omega) hT
      rw [bs_list, g2] at k
      exact k
    · have ez := zrS_size hZ
      have k := K (bs (writ n 0) ++ ⟨#[69, 43]⟩ ++ bs (writ e 0)) Z W (by rw [hcat, hcat]; omega) (by omega) hT
      have we : writ e 0 = zdg 0 e.toNat := by
        rw [writ_zdg, if_neg (by omega), show e.natAbs = e.toNat by omega]; rfl
      have ed : (bs (writ n 0) ++ ⟨#[69, 43]⟩ ++ bs (writ e 0) : ByteArray).data.toList = writ n 0 ++ 69 :: 43 :: zdg 0 e.toNat := by rw [cat, cat, bs_list, bs_list, we]; simp
      have wn : writ n 0 = dgs n.natAbs := by
        rw [writ_zdg, if_neg (by omega)]
        unfold zdg dg
        rw [if_neg (by omega)]; rfl
      have ez2 : Z.data.toList = dgs n.natAbs ++ List.replicate e.toNat 48 := by rw [hZ]; unfold zrS; rw [bs_list, wn]
      have v1 := plus_val n e.toNat (by omega)
      have v2 := zeros_val n.natAbs (by omega) e.toNat
      have en : ((n.natAbs : Nat) : Int) = n := by omega
      rw [en] at v2
      rw [ed, ez2, cmp32, v1, v2, cmpVal_is.refl] at k
      exact k
    · have k := K (bs (writ n 0) ++ ⟨#[101]⟩ ++ bs (writ e 0)) (bs (writ n 0) ++ ⟨#[101]⟩ ++ bs (writ (e + more) 0)) W (by rw [hcat, hcat]; omega) (by rw [hcat, hcat]; omega) hT
      have ed : ∀ m, (bs (writ n 0) ++ ⟨#[101]⟩ ++ bs (writ m 0) : ByteArray).data.toList = writ n 0 ++ 101 :: writ m 0 := fun m => by rw [cat, cat, bs_list, bs_list]; simp
      rw [ed, ed, cmp32, exp_val n e 0 (by omega), exp_val n (e + more) 0 (by omega), x1] at k
      exact k
    · have k := K (⟨#[45]⟩ ++ bs (writ n 0) ++ ⟨#[101]⟩ ++ bs (writ e 0)) (⟨#[45]⟩ ++ bs (writ n 0) ++ ⟨#[101]⟩ ++ bs (writ (e + more) 0)) W (by rw [hcat, hcat, hcat]; omega) (by rw [hcat, hcat, hcat]; omega) hT
      have ed : ∀ m, (⟨#[45]⟩ ++ bs (writ n 0) ++ ⟨#[101]⟩ ++ bs (writ m 0) : ByteArray).data.toList = writ (-n) 0 ++ 101 :: writ m 0 := fun m => by rw [cat, cat, cat, bs_list, bs_list, writ_minus hn0]; simp
      have cm : cmpI (e + more) e = - cmpI e (e + more) := cmpI_is.anti e (e + more)
      rw [ed, ed, cmp32, exp_val (-n) e 0 (by omega), exp_val (-n) (e + more) 0 (by omega), x2, cm] at k
      exact k
    · by_cases hm : 0 < more
      · exact Or.inl ⟨hm, by unfold cmpI; rw [if_pos (by omega)]⟩
      · have : more = 0 := by omega
        subst this
        exact Or.inr ⟨rfl, by rw [Int.add_zero]; exact cmpI_is.refl e⟩
  · exact scale_out n e more w h
end Go.Proofs.YtpbbgmfjdachnaaDoor
