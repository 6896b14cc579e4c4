/- The law TempTorn, walked. -/
import Derived.Test.YtlbekgcfafofdaaDoorTr
namespace Go.Proofs.YtlbekgcfafofdaaDoor
open Go.RowKit
set_option maxRecDepth 100000

def off (M : List Ent) (i : Nat) : Nat := (frs 0 (M.take i)).length
theorem off_zero (M : List Ent) : off M 0 = 0 := by simp [off, frs]
theorem off_all (M : List Ent) (i : Nat) (h : M.length ≤ i) : off M i = (frs 0 M).length := by unfold off; rw [List.take_of_length_le h]
theorem off_succ (M : List Ent) (i : Nat) (h : i < M.length) : off M (i + 1) = off M i + (15 + (bodyE M[i]).length) := by
  unfold off
  rw [List.take_succ_eq_append_getElem h, frs_snoc, List.length_append, frameE_len]
  omega
theorem ats_off (M : List Ent) (k i : Nat) (h : i ≤ k) : (ats M k)[i]? = some ((off M i : Nat) : Int) := by
  unfold ats off
  rw [List.getElem?_map, List.getElem?_range (by omega)]
  rfl
/-- What is left of a journal that was cut off. -/
theorem dec_cut (M : List Ent) (hM : FrsOk 0 M) (hm : ∀ e ∈ M, May e) (h32 : M.length < 4294967296) (t cut : Nat) (ht : t < M.length) (h1 : off M t ≤ cut) (h2 : cut < off M (t + 1)) :
    decC ((frs 0 M).take cut) 0 = (M.take t, off M t, if cut = off M t then 0 else 71) := by
  have e0 : frs 0 M = frs 0 (M.take t) ++ (frameE t (bodyE M[t]) ++ frs (t + 1) (M.drop (t + 1))) := by
    have : M = M.take t ++ (M[t] :: M.drop (t + 1)) := by rw [← List.drop_eq_getElem_cons ht, List.take_append_drop]
    conv => lhs; rw [this]
    rw [frs_app, frs, List.length_take, Nat.min_eq_left (by omega), Nat.zero_add]
  have hs := off_succ M t ht
  have hB := body_len (hm M[t] (List.getElem_mem ht))
  have hl : (frs 0 (M.take t)).length = off M t := rfl
  have e1 : (frs 0 M).take cut = frs 0 (M.take t) ++ (frameE t (bodyE M[t])).take (cut - off M t) := by
    rw [e0, List.take_append, hl, List.take_of_length_le (by omega), List.take_append_of_le_length (by rw [frameE_len]; omega)]
  have hok : FrsOk 0 (M.take t) := by
    have := hM
    rw [← List.take_append_drop t M] at this
    exact ((frsOk_app 0 _ _).1 this).1
  rw [e1, dec_frs 0 (M.take t) _ hok, List.length_take, Nat.min_eq_left (by omega), Nat.zero_add]
  by_cases hc : cut = off M t
  · rw [if_pos hc, hc, Nat.sub_self, List.take_zero, decC_nil]
    simp [hl]
  · rw [if_neg hc, dec_err (fr_torn t (bodyE M[t]) hB (by omega) (cut - off M t) (by omega) (by omega)) (by omega)]
    simp [hl]
theorem EsAt.take {w : World} {a : Option Addr} {n c : Nat} {l : List Ent} (h : EsAt w (.slice a n c) l) (k : Nat) (hk : k ≤ l.length) : EsAt w (.slice a k c) (l.take k) := by
  obtain ⟨a', c', hv, h1, h2, h3⟩ := h
  injection hv with e1 _ e3
  subst e1 e3
  refine ⟨a, c, by rw [List.length_take, Nat.min_eq_left hk], by rw [List.length_take]; omega, h2, ?_⟩
  rcases h3 with rfl | ⟨g, off, ha, hg, hc⟩
  · exact Or.inl (by simp)
  · exact Or.inr ⟨g, off, ha, hg, fun i e he => hc i e (by rw [List.getElem?_take] at he; split at he; exact he; cases he)⟩
/-- The search for the entry in which a place lies. -/
def WhRel (w : World) (M : List Ent) (cut : Nat) (x i : Value) (wr : World) : Prop :=
  ∃ (k t y : Nat), k ≤ M.length ∧ i = .int .i64 (k : Int) ∧ x = .int .i64 (t : Int) ∧ (t < k ∨ t = 0) ∧ off M t ≤ cut ∧ (∀ j, t < j → j < k → cut < off M j) ∧ wr = w.drewN y
set_option maxHeartbeats 2400000 in
theorem tempTorn_walk (w : World) (p : Nat) (hp : p < 18446744073709551616) (L : List Ent) (hE : ∀ e ∈ L, EntIs e) (v : Value) (cut : Int) (hcu : -9223372036854775808 ≤ cut ∧ cut ≤ 9223372036854775807) (h : EsAt w v L) (T : Tabs w) : Calls Tryd.prog 5 #[.int .u64 (p : Int), v, .int .i64 cut] w (RetTrue w) := by
  have HPR : Hid (Calls Tryd.prog 14 #[v] w (PrP w L)) := Lib.hid (by
    obtain ⟨a, c, rfl, h1, h2, h3⟩ := h
    exact proper_raw w L hE a _ c rfl (by omega) ⟨a, c, rfl, h1, h2, h3⟩)
  have HE := Lib.hid hE
  have HT := Lib.hid T
  have HP := Lib.hid hp
  have HCU := Lib.hid hcu
  clear h hE T hp hcu
  go_enter Tryd.func5, Tryd.ntmps5
  go_wp2_with fail
  with_reducible refine HPR.out.mono ?_
  rintro z w1 ⟨v1, us1, rfl, O1, b1⟩
  clear HPR
  have HCD := Lib.hid (coded_ok w1 p HP.out (pr L) (fun e he => HE.out e (pr_mem he).1) (fun e he => (pr_mem he).2.2) (pr_le L) O1.es (HT.out.below b1))
  have HO1 := Lib.hid O1
  have HB1 := Lib.hid b1
  clear O1 b1
  go_wp2_with fail
  with_reducible refine HCD.out.mono ?_
  rintro z w2 ⟨vb, va, rfl, OB, OA, b2⟩
  clear HCD
  have hjm : ∀ e ∈ jobE p :: pr L, May e := fun e he => by
    rcases List.mem_cons.1 he with rfl | he
    · exact jobE_may p
    · exact (pr_mem he).2.2
  have hji := job_is HP.out L HE.out
  have hjo := frsOk_job HP.out L HE.out
  have hjl : (jobE p :: pr L).length ≤ 201 := by have := pr_le L; rw [List.length_cons]; omega
  have hsm := frs_small p L
  have hl1 : (ats (jobE p :: pr L) (pr L).length).length = (jobE p :: pr L).length := by rw [ats_len, List.length_cons]
  obtain ⟨M, hM⟩ : ∃ M, M = jobE p :: pr L := ⟨_, rfl⟩
  obtain ⟨gb, bc, rfl⟩ : ∃ g c, vb = .slice (some ⟨g, 0, none⟩) (frs 0 M).length c := by
    rcases OB.1.2 with ⟨_, hn⟩ | ⟨g, cap, cur, hv, _⟩
    · exfalso
      rw [frs, List.length_append, frameE_len] at hn
      omega
    · exact ⟨g, cap, by rw [hM]; exact hv⟩
  obtain ⟨ga, ac, rfl⟩ : ∃ g c, va = .slice (some ⟨g, 0, none⟩) M.length c := by
    rcases OA.1.2 with ⟨_, hn⟩ | ⟨g, cap, cur, hv, _⟩
    · rw [hl1] at hn
      simp at hn
    · exact ⟨g, cap, by rw [hM, ← hl1]; exact hv⟩
  have hMp : M.length = (pr L).length + 1 := by rw [hM, List.length_cons]
  rw [← hM] at OB OA hjm hji hjo hjl hsm hl1
  have hat : ∀ i, i < M.length → w2.cell? ⟨ga, i, none⟩ = some (.int .i64 ((off M i : Nat) : Int)) := fun i hi => OA.own.cell i _ (ats_off M _ i (by omega))
  have gaL : ga < w2.heap.size := OA.own.lt rfl
  have HAT := Lib.hid hat
  have HGA := Lib.hid gaL
  have HSB := Lib.hid OB.slc
  have HB2 := Lib.hid (HB1.out.trans (b2.mono HB1.out.size))
  have HO2 := Lib.hid (HO1.out.below b2)
  have HJM := Lib.hid hjm
  have HJI := Lib.hid hji
  have HJO := Lib.hid hjo
  have HJL := Lib.hid hjl
  have HSM := Lib.hid hsm
  have HMM := Lib.hid hM
  clear OB OA hjm hji hjo hl1 hat gaL b2 HO1 HB1 hM
  obtain ⟨bl, hbl⟩ : ∃ bl, bl = (frs 0 M).length := ⟨_, rfl⟩
  rw [← hbl] at HSB hsm ⊢
  obtain ⟨ml, hml⟩ : ∃ ml, ml = M.length := ⟨_, rfl⟩
  rw [← hml] at hjl hMp ⊢
  have HBL := Lib.hid hbl
  have HML := Lib.hid hml
  have HMP := Lib.hid hMp
  have ibl : (bl : Int) ≤ 90000 := by omega
  have iml : (ml : Int) ≤ 201 := by omega
  clear hbl hml hMp hsm hjl
  by_cases hc0 : cut < 0
  · have d1 : decide (cut < 0) = true := decide_eq_true hc0
    clear hc0
    go_wp2_with fail
    go_ret
    exact ⟨rfl, HB2.out⟩
  · have d1 : decide (cut < 0) = false := decide_eq_false hc0
    obtain ⟨cu, rfl⟩ : ∃ c : Nat, cut = (c : Int) := ⟨cut.toNat, by omega⟩
    by_cases hcb : bl ≤ cu
    · have d2 : decide ((bl : Int) ≤ (cu : Int)) = true := decide_eq_true (by omega)
      have d3 : decide ((cu : Int) ≥ (bl : Int)) = true := decide_eq_true (by omega)
      have d4 : decide (bl ≤ cu) = true := decide_eq_true hcb
      clear hc0 hcb
      go_wp2_with fail
      go_ret
      exact ⟨rfl, HB2.out⟩
    · have d2 : decide ((bl : Int) ≤ (cu : Int)) = false := decide_eq_false (by omega)
      have d3 : decide ((cu : Int) ≥ (bl : Int)) = false := decide_eq_false (by omega)
      have d4 : decide (bl ≤ cu) = false := decide_eq_false hcb
      have HCB := Lib.hid hcb
      clear hc0 hcb
      go_wp2_with fail
      clear d1 d2 d3 d4
      go_loopw [10, 11] (fun x i wr => WhRel w2 M cu x i wr) (fun _ i _ => ml - (intOf i).toNat)
      case atStart => exact ⟨0, 0, 0, Nat.zero_le _, rfl, rfl, Or.inr rfl, by rw [off_zero]; exact Nat.zero_le _, fun j h1 h2 => by omega, rfl⟩
      case round =>
        obtain ⟨k, t, y, hk, rfl, rfl, htk, h1, h2, rfl⟩ := hrel
        by_cases hlt : k < ml
        · have hkM : k < M.length := by have := HML.out; omega
          have xk := ((bcell (below_drewN w2 y)).1 ga k HGA.out).trans (HAT.out k hkM)
          have ik : (k : Int) < (ml : Int) := by omega
          by_cases hle : off M k ≤ cu
          · have d1 : decide (((off M k : Nat) : Int) ≤ (cu : Int)) = true := decide_eq_true (by omega)
            have d2 : decide (off M k ≤ cu) = true := decide_eq_true hle
            have KEY := Lib.hid (show WhRel w2 M cu (.int .i64 (k : Int)) (.int .i64 ((k : Int) + 1)) (w2.drewN y) from ⟨k + 1, k, y, hkM, by go_num, rfl, Or.inl (Nat.lt_succ_self k), hle, fun j a b => by omega, rfl⟩)
            clear h1 h2 htk hle hkM hk
            generalize off M k = ok at *
            go_wp2_with fail
            exact ⟨KEY.out, by simp [intOf]; omega⟩
          · have d1 : decide (((off M k : Nat) : Int) ≤ (cu : Int)) = false := decide_eq_false (by omega)
            have d2 : decide (off M k ≤ cu) = false := decide_eq_false hle
            have KEY := Lib.hid (show WhRel w2 M cu (.int .i64 (t : Int)) (.int .i64 ((k : Int) + 1)) (w2.drewN y) from ⟨k + 1, t, y, hkM, by go_num, rfl, by omega, h1, fun j a b => by
              by_cases e : j = k
              · subst e; omega
              · exact h2 j a (by omega), rfl⟩)
            clear h1 h2 htk hle hkM hk
            generalize off M k = ok at *
            go_wp2_with fail
            exact ⟨KEY.out, by simp [intOf]; omega⟩
        · obtain rfl : k = ml := by have := HML.out; omega
          have ht : t < M.length := by have := HML.out; have := HMP.out; omega
          have hcut : cu < off M (t + 1) := by
            by_cases e : t + 1 < M.length
            · exact h2 (t + 1) (by omega) (by have := HML.out; omega)
            · rw [off_all M (t + 1) (by omega), ← HBL.out]; have := HCB.out; omega
          have hdec := dec_cut M HJO.out HJM.out (by have := HML.out; omega) t cu ht h1 hcut
          have hsl := HSB.out.take cu (by have := HBL.out; have := HCB.out; omega)
          have D := decode_ok (w2.drewN y) _ _ (hsl.below (below_drewN w2 y)) (by rw [List.length_take]; have := HSM.out; omega) (HT.out.below (HB2.out.trans ((below_drewN w2 y).mono HB2.out.size)))
          unfold DeP at D
          rw [hdec] at D
          obtain ⟨er, her⟩ : ∃ er, er = (if cu = off M t then 0 else 71) := ⟨_, rfl⟩
          rw [← her] at D
          have xt := (HAT.out t ht)
          have HXT := Lib.hid xt
          have HD := Lib.hid D
          have HER := Lib.hid her
          have HTM := Lib.hid ht
          have it : (t : Int) < (k : Int) := by have := HML.out; omega
          have icb : (cu : Int) ≤ (bc : Int) := by
            obtain ⟨_, q, _⟩ := HSB.out.lens
            have := HCB.out
            omega
          have H1 := Lib.hid h1
          obtain ⟨ot, hot⟩ : ∃ ot, ot = off M t := ⟨_, rfl⟩
          rw [← hot] at HXT HER HD H1
          clear h1 h2 htk hcut hdec hsl D her xt ht hlt hk hot
          go_wp2_with fail
          with_reducible refine HD.out.mono ?_
          rintro z w3 ⟨v3, us3, rfl, E3, b3⟩
          clear HD
          have c3 : Below w2.heap.size w2 w3 := (below_drewN w2 y).trans b3
          have xt := ((bcell c3).1 ga t HGA.out).trans HXT.out
          have q1 : ((ot : Int) != (ot : Int)) = false := by simp
          have HE3 := Lib.hid E3.es
          have HB3 := Lib.hid (HB2.out.trans (c3.mono HB2.out.size))
          have HJ := Lib.hid (job_ok w3 p (pr L) (pr_le L) _ _ _ (HO2.out.below c3))
          have HC3 := Lib.hid c3
          clear E3 b3 HO2 HB2 c3
          go_wp2_with fail
          with_reducible refine HJ.out.mono ?_
          rintro z w4 ⟨v4, us4, rfl, E4, b4⟩
          clear HJ xt
          obtain ⟨g4, c4, rfl⟩ : ∃ g c, v4 = .slice (some ⟨g, 0, none⟩) k c := by
            rcases E4.own.2 with ⟨_, hn⟩ | ⟨g, cap, cur, hv, _⟩
            · simp at hn
            · exact ⟨g, cap, by rw [HMP.out]; exact hv⟩
          have hkc : k ≤ c4 := by obtain ⟨a', c', hv, h1, _⟩ := E4.es; injection hv with e1 e2 e3; subst e3; have := HMP.out; rw [List.length_cons] at h1; omega
          have ikc : (k : Int) ≤ (c4 : Int) := by omega
          have itc : (t : Int) ≤ (c4 : Int) := by omega
          have E5 := E4.es
          rw [← HMM.out] at E5
          have HEN := Lib.hid (entries_ok w4 (M.take t) (M.take t) (fun e he => HJI.out e (List.mem_of_mem_take he)) (HE3.out.below b4) (E5.take t (by have := HTM.out; omega)) true (by simp))
          have HB4 := Lib.hid (HB3.out.trans (b4.mono HB3.out.size))
          have HC4 := Lib.hid (HC3.out.trans (b4.mono HC3.out.size))
          clear E4 E5 b4 HE3 HB3 HC3 hkc
          go_wp2_with fail
          with_reducible refine HEN.out.mono ?_
          rintro z w5 ⟨rfl, b5⟩
          clear HEN
          have c5 := HC4.out.trans (b5.mono HC4.out.size)
          have xt := ((bcell c5).1 ga t HGA.out).trans HXT.out
          have HB5 := Lib.hid (HB4.out.trans (b5.mono HB4.out.size))
          clear c5 b5 HC4 HB4
          by_cases hq : cu = ot
          · have r1 : ((cu : Int) == (ot : Int)) = true := by simp; omega
            have r2 : (cu == ot) = true := by simpa using hq
            have her := HER.out
            rw [if_pos hq] at her
            subst her
            clear hq HER
            go_wp2_with fail
            refine (num_ok _ w5).mono ?_
            rintro e w9 ⟨rfl, rfl⟩
            go_wp2_with fail
            go_ret
            exact ⟨rfl, HB5.out⟩
          · have r1 : ((cu : Int) == (ot : Int)) = false := by simp; omega
            have r2 : (cu == ot) = false := by simpa using hq
            have her := HER.out
            rw [if_neg hq] at her
            subst her
            clear hq HER
            go_wp2_with fail
            refine (num_ok _ w5).mono ?_
            rintro e w9 ⟨rfl, rfl⟩
            go_wp2_with fail
            go_ret
            exact ⟨rfl, HB5.out⟩
end Go.Proofs.YtlbekgcfafofdaaDoor
