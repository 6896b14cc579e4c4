/- CollateBlind, with the contracts laid in. -/
import Derived.Test.YtgpcmlbmmcnkjaaGreatDoorTi
namespace Go.Proofs.YtgpcmlbmmcnkjaaGreatDoor
open Go.RowKit
set_option maxRecDepth 100000
theorem sl_none (W : World) (B : Nat) : SlAt W B (.slice none 0 0) 6 ([] : List KeyL).length (ksV []) := ⟨rfl, Or.inl ⟨Or.inl rfl, rfl⟩⟩
theorem bs_toListB (l : List UInt8) : (bs l).toList = l := by rw [Lib.toList_data, bs_list]
theorem mb_of (M : Nat) (hM : M < 65536) (hd : docS [] M (-1) = true) (K1 : KeyL) (hE : effL [] M (-1) = [K1]) (hm : K1.m = M) (h1 : K1.f = 1) (h2 : K1.c = 1) (h3 : K1.ef = 0) (hb : bB K1.m = false) (h4 : M &&& 496 = 0) (h5 : M &&& 512 = 0)
    (a b x : ByteArray) (ha : a.size ≤ 1048576) (hbs : b.size ≤ 1048576) (hx : x.size ≤ 1048576) (hf : filtS (letsS M) (foldS M) x.data.toList = filtS (letsS M) (foldS M) a.data.toList) (W : World) (T : Tbs W) :
    Calls Tryz.prog 10 #[.agg (cM M).toArray] W (RetMB W a b x (Lib.compareBytes (filtS (letsS M) (foldS M) a.data.toList) (filtS (letsS M) (foldS M) b.data.toList))) := by
  refine (may_any (o3 M (-1)) [] (.slice none 0 0) (.slice none 0 0) W hM (fun k h => by cases h) (sl_none W _)).mono ?_
  rintro e w' ⟨cp, rfl, hb', h | ⟨_, P, gg, cap, D, rfl, hD, _, _, K⟩⟩
  · have h1 := h.1
    rw [show docS [] (o3 M (-1)).mods (o3 M (-1)).tab = docS [] M (-1) from rfl, hd] at h1
    cases h1
  · have hD2 : D.map Prod.fst = [K1] := hD.trans hE
    have EN : Nats (D.map Prod.fst) := by rw [hD2, ← hE]; exact eff_nats hd
    have hl : D.length ≤ 1099511627776 := by
      have := congrArg List.length hD2
      rw [List.length_map] at this
      rw [this]; show 1 ≤ _; omega
    have KT : OrdK w' P gg cap (!(o3 M (-1)).stable && !(o3 M (-1)).unique) (!decide ((o3 M (-1)).mods &&& 512 = 0)) D (tabI none) := K
    have ky : ∀ y : ByteArray, kyS none (D.map Prod.fst) a y = Lib.compareBytes (filtS (letsS M) (foldS M) a.data.toList) (filtS (letsS M) (foldS M) y.data.toList) := fun y => by
      rw [hD2, kyS_one]
      unfold cutL
      rw [spL_whole a none K1 h1 h2 h3 hb, spL_whole y none K1 h1 h2 h3 hb]
      simp only [ext_whole]
      unfold zK zB
      rw [hm, if_pos h5, if_pos h4]
    refine ⟨P, rfl, hb', fun W2 b2 => ⟨?_, ?_⟩⟩
    · rw [← ky b]
      exact (KT.step b2).keys EN hl a b ha hbs ((T.below hb').below b2)
    · have e0 := ky x
      rw [hf, cb_self] at e0
      rw [← e0]
      exact (KT.step b2).keys EN hl a x ha hx ((T.below hb').below b2)
theorem filt_size (lets : Nat) (fo : Bool) (s : ByteArray) (h : s.size ≤ 1048576) : (bs (filtS lets fo s.data.toList)).size ≤ 1048576 := by
  rw [bs_size]
  have := filt_len lets fo s.data.toList
  rw [← Lib.size_eq] at this
  omega
theorem filt_two (lets : Nat) (l : List UInt8) : (filtS lets false l).map (turnB true) = filtS lets true l := by
  unfold filtS
  rw [List.map_map]
  congr 1
theorem cb_ends (p q : List UInt8) : -1 ≤ Lib.compareBytes p q ∧ Lib.compareBytes p q ≤ 1 := cb_rng p q
theorem blind_ok (a b : ByteArray) (fold : Bool) (which : Int) (w : World) (ha : a.size ≤ 1048576) (hb : b.size ≤ 1048576) (T : Tbs w) :
    Calls Tryz.prog 7 #[.string a, .string b, .bool fold, .int .i64 which] w (RetBk w (.bool true)) := by
  have fact : ∀ (lets : Nat) (fo : Bool), ((bs (filtS lets fo a.data.toList)).toList == (bs (filtS lets fo b.data.toList)).toList) = decide (Lib.compareBytes (filtS lets fo a.data.toList) (filtS lets fo b.data.toList) = 0) ∧
      Op.bytesLess (bs (filtS lets fo a.data.toList)).toList (bs (filtS lets fo b.data.toList)).toList = decide (Lib.compareBytes (filtS lets fo a.data.toList) (filtS lets fo b.data.toList) = -1) := fun lets fo => by
    rw [bs_toListB, bs_toListB]
    exact ⟨eq_cb _ _, less_cb _ _⟩
  have up : ∀ (s : ByteArray) (lets : Nat), s.size ≤ 1048576 → ∀ W, Calls Tryz.prog 19 #[.string (bs (filtS lets false s.data.toList))] W (RetBk W (.string (bs (filtS lets true s.data.toList)))) := fun s lets hs W => by
    have := upper_ok (bs (filtS lets false s.data.toList)) (filt_size lets false s hs) W
    rw [bs_list, filt_two] at this
    exact this
  have idem : ∀ (lets : Nat) (hl : lets = 0 ∨ lets = 2 ∨ lets = 4) (fo : Bool), filtS lets fo (bs (filtS lets fo a.data.toList)).data.toList = filtS lets fo a.data.toList := fun lets hl fo => by
    rw [bs_list]; exact filt_idem lets hl fo _
  by_cases h1 : which = 1
  · subst h1
    cases fold with
    | false =>
      exact blind_1n a b _ _ _ w (Lib.hid (drop_ok a true ha)) (Lib.hid (drop_ok b true hb))
        (Lib.hid fun W bb => mb_of 2 (by omega) (by decide) ⟨1, 1, 0, 0, 2, false⟩ (by rfl) rfl rfl rfl rfl (by decide) (by decide) (by decide) a b _ ha hb (filt_size _ _ a ha) (idem 2 (by simp) false) W (T.below bb)) (cb_ends _ _) (fact 2 false).1 (fact 2 false).2
    | true =>
      exact blind_1f a b _ _ _ _ _ w (Lib.hid (drop_ok a true ha)) (Lib.hid (drop_ok b true hb)) (Lib.hid (up a 2 ha)) (Lib.hid (up b 2 hb))
        (Lib.hid fun W bb => mb_of 6 (by omega) (by decide) ⟨1, 1, 0, 0, 6, false⟩ (by rfl) rfl rfl rfl rfl (by decide) (by decide) (by decide) a b _ ha hb (filt_size _ _ a ha) (idem 2 (by simp) true) W (T.below bb)) (cb_ends _ _) (fact 2 true).1 (fact 2 true).2
  · by_cases h2 : which = 2
    · subst h2
      cases fold with
      | false =>
        exact blind_2n a b _ _ _ w (Lib.hid (drop_ok a false ha)) (Lib.hid (drop_ok b false hb))
          (Lib.hid fun W bb => mb_of 8 (by omega) (by decide) ⟨1, 1, 0, 0, 8, false⟩ (by rfl) rfl rfl rfl rfl (by decide) (by decide) (by decide) a b _ ha hb (filt_size _ _ a ha) (idem 4 (by simp) false) W (T.below bb)) (cb_ends _ _) (fact 4 false).1 (fact 4 false).2
      | true =>
        exact blind_2f a b _ _ _ _ _ w (Lib.hid (drop_ok a false ha)) (Lib.hid (drop_ok b false hb)) (Lib.hid (up a 4 ha)) (Lib.hid (up b 4 hb))
          (Lib.hid fun W bb => mb_of 12 (by omega) (by decide) ⟨1, 1, 0, 0, 12, false⟩ (by rfl) rfl rfl rfl rfl (by decide) (by decide) (by decide) a b _ ha hb (filt_size _ _ a ha) (idem 4 (by simp) true) W (T.below bb)) (cb_ends _ _) (fact 4 true).1 (fact 4 true).2
    · have f0 : ∀ s : ByteArray, bs (filtS 0 false s.data.toList) = s := fun s => by rw [filt_all, bs_of]
      cases fold with
      | false =>
        have h3 := fact 0 false
        rw [f0 a, f0 b] at h3
        exact blind_0n a b _ which h1 h2 w
          (Lib.hid fun W bb => mb_of 0 (by omega) (by decide) ⟨1, 1, 0, 0, 0, false⟩ (by rfl) rfl rfl rfl rfl (by decide) (by decide) (by decide) a b a ha hb ha rfl W (T.below bb)) (cb_ends _ _) h3.1 h3.2
      | true =>
        have u1 := up a 0 ha
        have u2 := up b 0 hb
        rw [f0 a] at u1
        rw [f0 b] at u2
        exact blind_0f a b _ _ _ which h1 h2 w (Lib.hid u1) (Lib.hid u2)
          (Lib.hid fun W bb => mb_of 4 (by omega) (by decide) ⟨1, 1, 0, 0, 4, false⟩ (by rfl) rfl rfl rfl rfl (by decide) (by decide) (by decide) a b _ ha hb (filt_size _ _ a ha) (idem 0 (by simp) true) W (T.below bb)) (cb_ends _ _) (fact 0 true).1 (fact 0 true).2
end Go.Proofs.YtgpcmlbmmcnkjaaGreatDoor
