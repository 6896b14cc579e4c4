/- A block of forty bytes comes back, and the sum of nine digits is what it is. -/
import Derived.Test.YtfbeipfpkikakaaDoorPa
import Derived.Test.YtfbeipfpkikakaaDoorLc
import Derived.Lib.SlBytesConst
namespace Go.Proofs.YtfbeipfpkikakaaDoor
open Go.RowKit

set_option maxRecDepth 100000
theorem aFrame_len : (frameN 2 40 aBody).length = 41 := by rw [frame_len, aBody_len]
theorem OwnB.put {w : World} {B : Nat} {v : Value} {l : List UInt8} (h : OwnB w B v l) (hne : l ≠ []) : ∃ g c, v = .slice (some ⟨g, 0, none⟩) l.length c ∧ g < w.heap.size ∧ l.length ≤ c ∧ c ≤ 9223372036854775807 ∧ ∀ (j : Nat) u, l[j]? = some u → w.cell? ⟨g, 0 + j, none⟩ = some (.int .u8 (u.toNat : Int)) := by
  rcases h.1.2 with ⟨_, hn⟩ | ⟨g, cap, cur, hv, hb, hg, h1, h2, h3, h4⟩
  · exact absurd (List.length_eq_zero_iff.1 hn) hne
  · refine ⟨g, cap, hv, lt_of_heap hg, h1, ?_, ?_⟩
    · unfold maxLen at h2; omega
    · intro j u hu
      rw [Nat.zero_add]
      have := h.1.cells (g := g) (by rw [hv]; rfl) j (.int .u8 u.toNat) (by unfold byV; simp [hu])
      rw [add_plain, Nat.zero_add] at this
      exact this
theorem dig_sum : sumN [49, 50, 51, 52, 53, 54, 55, 56, 57] = 3421780262 := by kernel_rfl
theorem aL_byt {j : Nat} (h : j < 40) : aL[j]? = some 97 := by unfold aL; rw [List.getElem?_replicate, if_pos h]
set_option maxHeartbeats 3200000 in
theorem alive_ok : AliveOk := by
  intro w T
  have HT := Lib.hid T
  clear T
  have kc := fun (w : World) (C : Array Value) (n c : Nat) => Lib.run_convert_bytes_const (P := Tryd.prog) w 23 5 C n c Tryd.underlying23 Tryd.underlying5
  go_enter Tryd.func13, Tryd.ntmps13
  go_upto_region 2 with fail
  change Code.wp _ _ _ _ (w.alloc (.cells (byV aL).toArray 5 (40, 41)))
  have B1 := Lib.hid (below_alloc w (.cells (byV aL).toArray 5 (40, 41)))
  have S1 := Lib.hid (show SlB (w.alloc (.cells (byV aL).toArray 5 (40, 41))) (.slice (some ⟨w.heap.size, 0, none⟩) aL.length 40) aL from ⟨_, _, rfl, fun h => (by cases h), .inr ⟨w.heap.size, 0, rfl, by simp, fun j u hu => by
    rw [Nat.zero_add, World.cell?_alloc_mark, List.getElem?_toArray]
    unfold byV
    rw [List.getElem?_map, hu]
    rfl⟩⟩)
  change Hid (SlB _ (.slice (some ⟨w.heap.size, 0, none⟩) 40 40) aL) at S1
  generalize w.alloc (.cells (byV aL).toArray 5 (40, 41)) = w1 at *
  obtain ⟨S, hS⟩ : ∃ S, S = w.heap.size := ⟨_, rfl⟩
  rw [← hS] at S1 ⊢
  clear hS
  have TW := Lib.hid (twin_ok _ aL w1 S1.out (by decide))
  go_wp2_with fail
  refine TW.out.mono ?_
  rintro e w2 ⟨v2, rfl, h2, hb2, _⟩
  obtain ⟨g, bc, hv, hg, _, _, hcell⟩ := h2.put (by decide)
  have hv' : v2 = .slice (some ⟨g, 0, none⟩) 40 bc := hv
  subst hv'
  clear hv
  have S2 := Lib.hid (S1.out.below (hb2.mono (Nat.le_refl _)))
  have B2 := Lib.hid (B1.out.trans (hb2.mono B1.out.size))
  have PK := Lib.hid (packA_ok (w := w2) (bb := g) (bo := 0) (bc := bc) hg (fun j hj => hcell j 97 (aL_byt hj)) (HT.out.below B2.out))
  change Hid (Calls Tryd.prog 28 #[.slice (some ⟨g, 0, none⟩) 40 bc] w2 (RetPk w2)) at PK
  clear h2 hb2 hg hcell S1 B1 TW
  go_wp2_with fail
  refine PK.out.mono ?_
  rintro e w3 ⟨v3, rfl, h3, hb3⟩
  obtain ⟨g3, c3, hv, hg3, hc3, hc3', hcell⟩ := h3.put (by rw [← List.length_pos_iff, aFrame_len]; omega)
  rw [frame_len] at hv hc3
  have S3 := Lib.hid (S2.out.below (hb3.mono (Nat.le_refl _)))
  have B3 := Lib.hid (B2.out.trans (hb3.mono B2.out.size))
  have HE := Lib.hid (show HeldB w3 g3 0 (frameN 2 40 aBody) from ⟨hg3, hcell⟩)
  have UP := Lib.hid (unpack_ok g3 0 c3 40 24 199 aBody aL 40 (by omega) (by rw [aBody_len]; omega) ⟨hc3, hc3'⟩ (by omega) w3 HE.out (HT.out.below B3.out) aDone (by rw [aBody_len]; omega) aCode1 (.inl aCode2) aDec aEnd aZero)
  have hv' : v3 = .slice (some ⟨g3, 0, none⟩) (16 + aBody.length) c3 := hv
  subst hv'
  clear h3 hb3 hg3 hc3 hc3' hcell hv PK HE S2 B2
  generalize 16 + aBody.length = n3 at *
  go_wp2_with fail
  refine UP.out.mono ?_
  rintro e w4 ⟨v4, rfl, h4, hb4⟩
  have S4 := Lib.hid (S3.out.below (hb4.mono (Nat.le_refl _)))
  have B4 := Lib.hid (B3.out.trans (hb4.mono B3.out.size))
  have O4 := Lib.hid h4.sl
  clear h4 hb4 UP S3 B3
  have N0 := Lib.hid (num_ok 0 (by omega) w4)
  have SA := Lib.hid (same_ok _ _ aL w4 O4.out S4.out)
  have SM := Lib.hid (sum_ok (.slice (some ⟨w4.heap.size, 0, none⟩) 9 9) [49, 50, 51, 52, 53, 54, 55, 56, 57] (w4.alloc (.cells #[.int .u8 49, .int .u8 50, .int .u8 51, .int .u8 52, .int .u8 53, .int .u8 54, .int .u8 55, .int .u8 56, .int .u8 57] 5 (9, 10))) (by decide)
    ⟨_, _, rfl, fun h => (by cases h), .inr ⟨w4.heap.size, 0, rfl, by simp, fun j u hu => by
      rw [Nat.zero_add, World.cell?_alloc_mark]
      match j, hu with
      | 0, hu => injection hu with hu; subst hu; rfl
      | 1, hu => injection hu with hu; subst hu; rfl
      | 2, hu => injection hu with hu; subst hu; rfl
      | 3, hu => injection hu with hu; subst hu; rfl
      | 4, hu => injection hu with hu; subst hu; rfl
      | 5, hu => injection hu with hu; subst hu; rfl
      | 6, hu => injection hu with hu; subst hu; rfl
      | 7, hu => injection hu with hu; subst hu; rfl
      | 8, hu => injection hu with hu; subst hu; rfl
      | j + 9, hu => cases hu⟩⟩ (HT.out.below (B4.out.trans ((below_alloc w4 _).mono B4.out.size))))
  rw [dig_sum] at SM
  go_wp2_with (first | (go_at_call 16; refine N0.out.mono ?_; rintro e w5 ⟨rfl, rfl⟩) | (go_at_call 25; refine SA.out.mono ?_; rintro e w5 ⟨rfl, rfl⟩))
  refine SM.out.mono ?_
  rintro e w5 ⟨rfl, rfl⟩
  go_wp2_with fail
  go_ret
  exact ⟨rfl, B4.out.trans ((below_alloc w4 _).mono B4.out.size)⟩
end Go.Proofs.YtfbeipfpkikakaaDoor
