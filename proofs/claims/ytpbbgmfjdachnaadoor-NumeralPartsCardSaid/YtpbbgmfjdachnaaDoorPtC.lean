/- NumeralParts: for every input. -/
import Derived.Test.YtpbbgmfjdachnaaDoorPtII
import Derived.Test.YtpbbgmfjdachnaaDoorPtIII
namespace Go.Proofs.YtpbbgmfjdachnaaDoor
open Go.RowKit

set_option maxRecDepth 100000
theorem pt_text (p : List UInt8) (neg : Bool) (Z W F K : Nat) : (p ++ sgL neg ++ zdg Z W ++ [46] ++ dg F ++ List.replicate K 48) ++ [120] = ptT p neg Z W F K := by
  unfold ptT ptF
  simp
theorem pt_len (p : List UInt8) (hp : p.length ≤ 20) (neg : Bool) (Z W F K : Nat) (hZ : Z ≤ 20) (hK : K ≤ 20) (hW : W < 2 ^ 62) (hF : F < 2 ^ 62) : (ptT p neg Z W F K).length ≤ 200 := by
  have e1 : (sgL neg).length ≤ 1 := by unfold sgL; split <;> simp
  have e3 := dg_len W hW
  have e4 := dg_len F hF
  unfold ptT zdg ptF
  simp only [List.length_append, List.length_cons, List.length_replicate, List.length_nil]
  omega
theorem pt_dec (p : List UInt8) (hp : p.length ≤ 20) (hpb : ∀ x ∈ p, isBlank x = true) (neg : Bool) (Z W F K n : Nat) (hZ : Z ≤ 20) (hK : K ≤ 20) (hW : W < 2 ^ 62) (hF : F < 2 ^ 62)
    (hn : n = p.length + (sgL neg).length + (zdg Z W).length + 1 + (dg F).length + K) (w : World) (T : TabW w) :
    Calls Tryd.prog 16 #[.string (bs ((p ++ sgL neg ++ zdg Z W ++ [46] ++ dg F ++ List.replicate K 48) ++ [120]))] w (RetBelow w (.agg #[.bool (decNeg (ptH neg Z W F K n)), .string (bs (dgs W)), .string (bs (ptR F)), .int .i64 (n : Int)])) := by
  have h := dec16_ok (bs (ptT p neg Z W F K)) w (by rw [bs_size]; have := pt_len p hp neg Z W F K hZ hK hW hF; omega) T
  rw [bs_list, pt_scan p hpb neg Z W F K false] at h
  rw [pt_text]
  have en : p.length + (sgL neg).length + (zdg Z W).length + (1 + (ptF F K).length) = n := by rw [hn]; unfold ptF; simp only [List.length_append, List.length_replicate]; omega
  rw [en] at h
  have e : decV ⟨3, neg, zdg Z W, ptF F K, 0, n⟩ = .agg #[.bool (decNeg (ptH neg Z W F K n)), .string (bs (dgs W)), .string (bs (ptR F)), .int .i64 (n : Int)] := by
    unfold decV ptH
    simp only [trimL_zdg, ptF_R]
  rw [e] at h
  exact h
theorem pt_gen (p : List UInt8) (hp : p.length ≤ 20) (hpb : ∀ x ∈ p, isBlank x = true) (neg : Bool) (Z W F K n : Nat) (hZ : Z ≤ 20) (hK : K ≤ 20) (hW : W < 2 ^ 62) (hF : F < 2 ^ 62)
    (hn : n = p.length + (sgL neg).length + (zdg Z W).length + 1 + (dg F).length + K) (w : World) (T : TabW w) :
    Calls Tryd.prog 17 #[.string (bs ((p ++ sgL neg ++ zdg Z W ++ [46] ++ dg F ++ List.replicate K 48) ++ [120]))] w (RetBelow w (genV (ptH neg Z W F K n))) := by
  have h := general_okW (bs (ptT p neg Z W F K)) w (by rw [bs_size]; have := pt_len p hp neg Z W F K hZ hK hW hF; omega) T
  rw [bs_list, pt_scan p hpb neg Z W F K true] at h
  rw [pt_text]
  have en : p.length + (sgL neg).length + (zdg Z W).length + (1 + (ptF F K).length) = n := by rw [hn]; unfold ptF; simp only [List.length_append, List.length_replicate]; omega
  rw [en] at h
  exact h
theorem dg_dgs {W : Nat} (h : W ≠ 0) : dg W = dgs W := by unfold dg; rw [if_neg h]
theorem pt_in (B Z K : Nat) (neg : Bool) (whole frac : Int) (w : World) (T : TabW w) (hB : B ≤ 20) (hZ : Z ≤ 20) (hK : K ≤ 20) (hw : 0 ≤ whole ∧ whole < 4611686018427387904) (hf : 0 ≤ frac ∧ frac < 4611686018427387904) :
    Calls Tryd.prog 3 #[.int .i64 (B : Int), .bool neg, .int .i64 (Z : Int), .int .i64 whole, .int .i64 frac, .int .i64 (K : Int)] w (RetBelow w (.bool true)) := by
  obtain ⟨W, hW⟩ : ∃ W : Nat, W = whole.natAbs := ⟨_, rfl⟩
  obtain ⟨F, hF⟩ : ∃ F : Nat, F = frac.natAbs := ⟨_, rfl⟩
  have w62 : W < 2 ^ 62 := by omega
  have f62 : F < 2 ^ 62 := by omega
  have lw := dg_len W w62
  have lf := dg_len F f62
  have lz : (zdg Z W).length ≤ 60 := by unfold zdg; rw [List.length_append, List.length_replicate]; omega
  have wz : ∀ (x : Int) (z : Nat), 0 ≤ x → writ x z = zdg z x.natAbs := fun x z hx => by rw [writ_zdg, if_neg (by omega)]; rfl
  have z0 : ∀ m, zdg 0 m = dg m := fun m => rfl
  have c1 : ∀ V, Calls Tryd.prog 15 #[.int .i64 whole, .int .i64 0] V (RetBelow V (.string (bs (dg W)))) := fun V => by
    have := written_ok whole ⟨by omega, by omega⟩ 0 (by omega) V
    rwa [wz whole 0 hw.1, z0, ← hW] at this
  have c2 : ∀ V, Calls Tryd.prog 15 #[.int .i64 frac, .int .i64 0] V (RetBelow V (.string (bs (dg F)))) := fun V => by
    have := written_ok frac ⟨by omega, by omega⟩ 0 (by omega) V
    rwa [wz frac 0 hf.1, z0, ← hF] at this
  have c3 : ∀ V, Calls Tryd.prog 15 #[.int .i64 whole, .int .i64 (Z : Int)] V (RetBelow V (.string (bs (zdg Z W)))) := fun V => by
    have := written_ok whole ⟨by omega, by omega⟩ Z (by omega) V
    rwa [wz whole Z hw.1, ← hW] at this
  obtain ⟨n, hn⟩ : ∃ n, n = B + (sgL neg).length + (zdg Z W).length + 1 + (dg F).length + K := ⟨_, rfl⟩
  have d1 : ∀ p : List UInt8, p.length = B → (∀ x ∈ p, isBlank x = true) → ∀ V, TabW V → Calls Tryd.prog 16 #[.string (bs ((p ++ sgL neg ++ zdg Z W ++ [46] ++ dg F ++ List.replicate K 48) ++ [120]))] V (RetBelow V (.agg #[.bool (decNeg (ptH neg Z W F K n)), .string (bs (dgs W)), .string (bs (ptR F)), .int .i64 (n : Int)])) :=
    fun p hp hb V hV => pt_dec p (by omega) hb neg Z W F K n hZ hK w62 f62 (by rw [hp]; exact hn) V hV
  have g1 : ∀ p : List UInt8, p.length = B → (∀ x ∈ p, isBlank x = true) → ∀ V, TabW V → Calls Tryd.prog 17 #[.string (bs ((p ++ sgL neg ++ zdg Z W ++ [46] ++ dg F ++ List.replicate K 48) ++ [120]))] V (RetBelow V (genV (ptH neg Z W F K n))) :=
    fun p hp hb V hV => pt_gen p (by omega) hb neg Z W F K n hZ hK w62 f62 (by rw [hp]; exact hn) V hV
  have ly : (ptR F).length ≤ 60 := by
    have := trimR_split (dg F)
    obtain ⟨j, hj⟩ := this
    have := congrArg List.length hj
    rw [List.length_append] at this
    unfold ptR
    omega
  have hh : ∀ x, numD (ptH neg Z W F K n) = x → x ≠ [] → genV (ptH neg Z W F K n) = .agg #[.int .u8 3, .bool neg, .string (bs x), .int .i64 (numE (ptH neg Z W F K n)), .int .i64 (n : Int)] ∧ decNeg (ptH neg Z W F K n) = neg := fun x hx hx0 => by
    have h1 : ¬ numD (ptH neg Z W F K n) = [] := by rw [hx]; exact hx0
    refine ⟨?_, ?_⟩
    · unfold genV; rw [if_neg h1, hx]; rfl
    · unfold decNeg; rw [decide_eq_false h1]; show (neg && !false) = neg; simp
  by_cases hW0 : W = 0
  · have hw0 : whole = 0 := by omega
    subst hW0
    have dz : bs (dgs 0) = ⟨#[]⟩ := by rw [show dgs 0 = [] from dgs_nil.2 rfl]; rfl
    obtain ⟨nD, nE⟩ := ptH_zero neg Z F K n
    by_cases hy0 : ptR F = []
    · have hnil : numD (ptH neg Z 0 F K n) = [] := by rw [nD, hy0]; rfl
      have hg : genV (ptH neg Z 0 F K n) = .agg #[.int .u8 3, .bool false, .string ⟨#[]⟩, .int .i64 0, .int .i64 (n : Int)] := by unfold genV; rw [if_pos hnil]; rfl
      have hd : decNeg (ptH neg Z 0 F K n) = false := by unfold decNeg; rw [decide_eq_true hnil]; simp
      rw [hg] at g1
      rw [hd, dz, hy0] at d1
      exact parts_II B Z K neg whole frac (dg 0) (zdg Z 0) (dg F) w T hB hZ hK hw hf (by omega) lz (by omega) (Lib.hid c1) (Lib.hid c2) (Lib.hid c3) n hn false ⟨#[]⟩ ⟨#[]⟩ ⟨#[]⟩ 0 (Lib.hid d1) (Lib.hid g1) hw0 (ptR F) hy0 (Lib.hid rfl) rfl rfl rfl rfl rfl
    · obtain ⟨j, hj, hc⟩ := trimL_zeros (ptR F)
      have hne : trimL (ptR F) ≠ [] := fun e => hy0 (trimLR_nil e)
      obtain ⟨hg, hd⟩ := hh _ nD hne
      rw [nE] at hg
      cases ht : trimL (ptR F) with
      | nil => exact absurd ht hne
      | cons g0 gr =>
        rw [ht] at hj hg
        have he : (((g0 :: gr : List UInt8).length : Int)) - ((ptR F).length : Int) = -(j : Int) := by
          have := congrArg List.length hj
          rw [List.length_append, List.length_replicate] at this
          omega
        rw [he] at hg
        rw [hg] at g1
        rw [hd, dz] at d1
        exact parts_III B Z K neg whole frac (dg 0) (zdg Z 0) (dg F) w T hB hZ hK hw hf (by omega) lz (by omega) (Lib.hid c1) (Lib.hid c2) (Lib.hid c3) n hn neg ⟨#[]⟩ (bs (ptR F)) (bs (g0 :: gr)) (-(j : Int)) (Lib.hid d1) (Lib.hid g1) hw0 (ptR F) j g0 gr hj (hc g0 gr ht) ly (Lib.hid rfl) rfl rfl rfl rfl rfl
  · obtain ⟨nD, nE⟩ := ptH_pos neg Z W F K n hW0
    obtain ⟨j, hj⟩ := pt_begin neg Z W F K n hW0
    have hnn : numD (ptH neg Z W F K n) ≠ [] := fun e => by
      have := (pt_none neg Z W F K n).1 e
      exact hW0 (dgs_nil.1 (List.append_eq_nil_iff.1 this).1)
    obtain ⟨hg, hd⟩ := hh _ rfl hnn
    rw [nE] at hg
    generalize numD (ptH neg Z W F K n) = G at *
    rw [hg] at g1
    rw [hd] at d1
    have ed := dg_dgs hW0
    rw [ed] at c1 lw
    have hs : (bs (dgs W)).size = (dgs W).length := bs_size _
    exact parts_I B Z K neg whole frac (dgs W) (zdg Z W) (dg F) w T hB hZ hK hw hf (by omega) lz (by omega) (Lib.hid c1) (Lib.hid c2) (Lib.hid c3) n hn neg (bs (dgs W)) (bs (ptR F)) (bs G) (dgs W).length (Lib.hid d1) (Lib.hid g1) (by omega) (by omega) (ptR F) (dgs W ++ ptR F) (Lib.hid rfl) rfl ly (fun e => hW0 (dgs_nil.1 e)) rfl rfl rfl (by rw [hs])
      (by rw [bs_list, bs_list, hj]; unfold begS; simp)
      (by rw [bs_size, bs_size, hj]; simp)
      (by rw [Lib.extract_to_end, bs_list, bs_size, hj, List.drop_left]; simp)

set_option maxRecDepth 100000
set_option maxHeartbeats 3200000 in
theorem parts_out (blanks : Int) (neg : Bool) (zeros whole frac more : Int) (w : World) (h : ¬ (¬ blanks < 0 ∧ ¬ 20 < blanks ∧ ¬ zeros < 0 ∧ ¬ 20 < zeros ∧ ¬ more < 0 ∧ ¬ 20 < more ∧ ¬ whole < 0 ∧ ¬ frac < 0 ∧ ¬ 4611686018427387904 ≤ whole ∧ ¬ 4611686018427387904 ≤ frac)) :
    Calls Tryd.prog 3 #[.int .i64 blanks, .bool neg, .int .i64 zeros, .int .i64 whole, .int .i64 frac, .int .i64 more] w (RetBelow w (.bool true)) := by
  by_cases c0 : blanks < 0
  · clear h
    go_enter Tryd.func3, Tryd.ntmps3
    go_wp2_with fail
    go_ret
    exact ⟨rfl, Below.refl _ _⟩
  by_cases c1 : 20 < blanks
  · clear h
    go_enter Tryd.func3, Tryd.ntmps3
    go_wp2_with fail
    go_ret
    exact ⟨rfl, Below.refl _ _⟩
  by_cases c2 : zeros < 0
  · clear h
    go_enter Tryd.func3, Tryd.ntmps3
    go_wp2_with fail
    go_ret
    exact ⟨rfl, Below.refl _ _⟩
  by_cases c3 : 20 < zeros
  · clear h
    go_enter Tryd.func3, Tryd.ntmps3
    go_wp2_with fail
    go_ret
    exact ⟨rfl, Below.refl _ _⟩
  by_cases c4 : more < 0
  · clear h
    go_enter Tryd.func3, Tryd.ntmps3
    go_wp2_with fail
    go_ret
    exact ⟨rfl, Below.refl _ _⟩
  by_cases c5 : 20 < more
  · clear h
    go_enter Tryd.func3, Tryd.ntmps3
    go_wp2_with fail
    go_ret
    exact ⟨rfl, Below.refl _ _⟩
  by_cases c6 : whole < 0
  · clear h
    go_enter Tryd.func3, Tryd.ntmps3
    go_wp2_with fail
    go_ret
    exact ⟨rfl, Below.refl _ _⟩
  by_cases c7 : frac < 0
  · clear h
    go_enter Tryd.func3, Tryd.ntmps3
    go_wp2_with fail
    go_ret
    exact ⟨rfl, Below.refl _ _⟩
  by_cases c8 : 4611686018427387904 ≤ whole
  · clear h
    go_enter Tryd.func3, Tryd.ntmps3
    go_wp2_with fail
    go_ret
    exact ⟨rfl, Below.refl _ _⟩
  by_cases c9 : 4611686018427387904 ≤ frac
  · clear h
    go_enter Tryd.func3, Tryd.ntmps3
    go_wp2_with fail
    go_ret
    exact ⟨rfl, Below.refl _ _⟩
  exact absurd ⟨c0, c1, c2, c3, c4, c5, c6, c7, c8, c9⟩ h
theorem parts_card (blanks : Int) (neg : Bool) (zeros whole frac more : Int) (_ : -9223372036854775808 ≤ blanks ∧ blanks ≤ 9223372036854775807) (_ : -9223372036854775808 ≤ zeros ∧ zeros ≤ 9223372036854775807) (_ : -9223372036854775808 ≤ whole ∧ whole ≤ 9223372036854775807) (_ : -9223372036854775808 ≤ frac ∧ frac ≤ 9223372036854775807) (_ : -9223372036854775808 ≤ more ∧ more ≤ 9223372036854775807) (w : World) (T : TabW w) :
    Calls Tryd.prog 3 #[.int .i64 blanks, .bool neg, .int .i64 zeros, .int .i64 whole, .int .i64 frac, .int .i64 more] w (RetBelow w (.bool true)) := by
  by_cases h : ¬ blanks < 0 ∧ ¬ 20 < blanks ∧ ¬ zeros < 0 ∧ ¬ 20 < zeros ∧ ¬ more < 0 ∧ ¬ 20 < more ∧ ¬ whole < 0 ∧ ¬ frac < 0 ∧ ¬ 4611686018427387904 ≤ whole ∧ ¬ 4611686018427387904 ≤ frac
  · obtain ⟨h0, h1, h2, h3, h4, h5, h6, h7, h8, h9⟩ := h
    obtain ⟨B, rfl⟩ : ∃ B : Nat, blanks = B := ⟨blanks.toNat, by omega⟩
    obtain ⟨Z, rfl⟩ : ∃ B : Nat, zeros = B := ⟨zeros.toNat, by omega⟩
    obtain ⟨K, rfl⟩ : ∃ B : Nat, more = B := ⟨more.toNat, by omega⟩
    exact pt_in B Z K neg whole frac w T (by omega) (by omega) (by omega) ⟨by omega, by omega⟩ ⟨by omega, by omega⟩
  · exact parts_out blanks neg zeros whole frac more w h
end Go.Proofs.YtpbbgmfjdachnaaDoor
