/- May an entry be? The program's mayBe. -/
import Derived.Test.YtlbekgcfafofdaaDoorFj
import Derived.Deep.RegionHeld3
import Derived.Deep.DeepCutAuto
namespace Go.Proofs.YtlbekgcfafofdaaDoor
open Go.RowKit
set_option maxRecDepth 100000

theorem Tabs.use {w : World} (h : Tabs w) (k : Nat) (hk : k < 7) : w.cell? ⟨0, k, none⟩ = some (.int .u8 ((usesN k : Nat) : Int)) := by
  obtain ⟨t, fr, h0⟩ := h.uses
  rw [cell_of_row w 0 k _ t fr h0]
  have hj : k < usesL.length := hk
  have e : cUses[k]? = (usesL.map fun n : Nat => Value.int .u8 (n : Int))[k]? := List.getElem?_toArray
  rw [e, List.getElem?_map, List.getElem?_eq_getElem hj]
  unfold usesN
  rw [List.getD_eq_getElem?_getD, List.getElem?_eq_getElem hj]
  rfl
theorem usesN_lt (k : Nat) : usesN k < 256 := by
  unfold usesN
  by_cases h : k < 7
  · have : ∀ j : Fin 7, usesL.getD j.1 0 < 256 := by decide +kernel
    exact this ⟨k, h⟩
  · rw [List.getD_eq_getElem?_getD, List.getElem?_eq_none (by show 7 ≤ k; omega)]; decide
theorem filN_lt (e : Ent) : filN e < 256 := by
  unfold filN bitN
  repeat' split
  all_goals omega
/-- The cells of an entry in a box, and the byte of its kind's uses. -/
def EBox (b k pr : Nat) (s : ByteArray) (ru re li : Int) (su : Nat) (u : Value) (w : World) : Prop :=
  CellsAt w b [.int .u8 k, .int .u64 pr, .string s, .int .i64 ru, .int .i64 re, .int .i64 li, .int .u32 su, u]
set_option maxHeartbeats 3200000 in
theorem mayBe_raw (k pr : Nat) (s : ByteArray) (ru re li : Int) (su : Nat) (a : Option Addr) (n c : Nat) (w : World) (F : Nat) (hF : F < 256) (T : Tabs w)
    (M b1 b2 b3 z cl t1 t2 t3 t4 t5 : Bool) (hM : M = (b1 && ((b2 && b3) && ((z || cl) && (t1 && (t2 && (t3 && (t4 && t5))))))))
    (h1 : isKind k = b1) (h2 : hasN (usesN k) F = b2) (h3 : hasN F (usesN k &&& 66) = b3) (hz : s.toList.isEmpty = z) (hcl : cleanB s 64 = cl) (g1 : upTo ru 131071 = t1) (g2 : upTo re 1099511627776 = t2) (g3 : upTo li 1099511627776 = t3) (g4 : decide (n ≤ 64) = t4)
    (AR : ∀ W, Below w.heap.size w W → Calls Tryd.prog 35 #[.slice a n c] W (Same W (.bool t5)))
    (FI : ∀ W, Below w.heap.size w W → Calls Tryd.prog 31 #[.agg #[.int .u8 k, .int .u64 pr, .string s, .int .i64 ru, .int .i64 re, .int .i64 li, .int .u32 su, .slice a n c]] W (RetBelow W (.int .u8 (F : Int)))) :
    Calls Tryd.prog 20 #[.agg #[.int .u8 k, .int .u64 pr, .string s, .int .i64 ru, .int .i64 re, .int .i64 li, .int .u32 su, .slice a n c]] w (RetBelow w (.bool M)) := by
  have IK := Lib.hid (fun W => isKind_ok k W)
  rw [h1] at IK
  have U2 := Lib.hid (fun W => has_ok (usesN k) F (usesN_lt k) hF W)
  rw [h2] at U2
  have U3 := Lib.hid (fun W => has_ok F (usesN k &&& 66) hF (Nat.lt_of_le_of_lt Nat.and_le_left (usesN_lt k)) W)
  rw [h3] at U3
  have NM := Lib.hid (fun W => isName_ok s W)
  rw [hcl] at NM
  have R1 := Lib.hid (fun W => upTo_ok ru 131071 W)
  rw [g1] at R1
  have R2 := Lib.hid (fun W => upTo_ok re 1099511627776 W)
  rw [g2] at R2
  have R3 := Lib.hid (fun W => upTo_ok li 1099511627776 W)
  rw [g3] at R3
  have g4i : decide ((n : Int) ≤ 64) = t4 := by rw [← g4]; exact decide_eq_decide.2 (by omega)
  have HM := Lib.hid hM
  have HAR := Lib.hid AR
  have HFI := Lib.hid FI
  have HT := Lib.hid T
  have hk7 : b1 = true → k < 7 := by rw [← h1]; simp [isKind]; omega
  have AND := Lib.hid (u8_and_nat (usesN k) 66 (usesN_lt k) (by decide))
  have HU := Lib.hid (fun (W : World) (q : Below w.heap.size w W) (hk : k < 7) => (T.below q).use k hk)
  clear h1 h2 h3 hcl g1 g2 g3 hM AR FI T
  generalize usesN k &&& 66 = V at *
  generalize usesN k = U at *
  have EB := Lib.hid (show EBox w.heap.size k pr s ru re li su (.slice a n c) (w.alloc (.cells #[.int .u8 k, .int .u64 pr, .string s, .int .i64 ru, .int .i64 re, .int .i64 li, .int .u32 su, .slice a n c] 27)) from CellsAt.new w _ 27)
  have BE := Lib.hid (show Below w.heap.size w (w.alloc (.cells #[.int .u8 k, .int .u64 pr, .string s, .int .i64 ru, .int .i64 re, .int .i64 li, .int .u32 su, .slice a n c] 27)) from below_alloc w _)
  go_enter Tryd.func20, Tryd.ntmps20
  go_wp2_with fail
  generalize (w.alloc (.cells #[.int .u8 k, .int .u64 pr, .string s, .int .i64 ru, .int .i64 re, .int .i64 li, .int .u32 su, .slice a n c] 27)) = wx at *
  refine (IK.out wx).mono ?_
  rintro e w' ⟨rfl, rfl⟩
  cases b1 with
  | false =>
    go_wp2_with fail
    go_ret
    exact ⟨by rw [HM.out]; rfl, BE.out⟩
  | true =>
    have hk := hk7 rfl
    clear hk7
    go_upto_region 3 with fail
    have c0 := EB.out.cell 0 _ rfl
    have c1 := EB.out.cell 1 _ rfl
    have c2 := EB.out.cell 2 _ rfl
    have c3 := EB.out.cell 3 _ rfl
    have c4 := EB.out.cell 4 _ rfl
    have c5 := EB.out.cell 5 _ rfl
    have c6 := EB.out.cell 6 _ rfl
    have c7 := EB.out.cell 7 _ rfl
    have cu := HU.out wx BE.out hk
    have i0 : (0 : Int) ≤ (k : Int) := by omega
    have i1 : (k : Int) < 7 := by omega
    have KEEP : ∀ W : World, Below wx.drew.heap.size wx.drew W → (W.cell? ⟨w.heap.size, 0, none⟩ = some (.int .u8 (k : Int)) ∧ W.cell? ⟨w.heap.size, 1, none⟩ = some (.int .u64 (pr : Int)) ∧ W.cell? ⟨w.heap.size, 2, none⟩ = some (.string s) ∧ W.cell? ⟨w.heap.size, 3, none⟩ = some (.int .i64 ru) ∧ W.cell? ⟨w.heap.size, 4, none⟩ = some (.int .i64 re) ∧ W.cell? ⟨w.heap.size, 5, none⟩ = some (.int .i64 li) ∧ W.cell? ⟨w.heap.size, 6, none⟩ = some (.int .u32 (su : Int)) ∧ W.cell? ⟨w.heap.size, 7, none⟩ = some (.slice a n c) ∧ W.cell? ⟨0, k, none⟩ = some (.int .u8 (U : Int))) := fun W hW => by
      have hx : ∀ j v, wx.cell? ⟨w.heap.size, j, none⟩ = some v → W.cell? ⟨w.heap.size, j, none⟩ = some v := fun j v hv => ((bcell hW).1 _ j EB.out.lt).trans hv
      exact ⟨hx _ _ c0, hx _ _ c1, hx _ _ c2, hx _ _ c3, hx _ _ c4, hx _ _ c5, hx _ _ c6, hx _ _ c7, ((bcell hW).1 0 k (Nat.lt_of_le_of_lt (Nat.zero_le _) EB.out.lt)).trans cu⟩
    have KH := Lib.hid KEEP
    clear KEEP
    have FW := Lib.hid (HFI.out wx.drew (bdrewB BE.out 1))
    go_region_held3? (fun W => W.cell? ⟨w.heap.size, 0, none⟩ = some (.int .u8 (k : Int)) ∧ W.cell? ⟨w.heap.size, 1, none⟩ = some (.int .u64 (pr : Int)) ∧ W.cell? ⟨w.heap.size, 2, none⟩ = some (.string s) ∧ W.cell? ⟨w.heap.size, 3, none⟩ = some (.int .i64 ru) ∧ W.cell? ⟨w.heap.size, 4, none⟩ = some (.int .i64 re) ∧ W.cell? ⟨w.heap.size, 5, none⟩ = some (.int .i64 li) ∧ W.cell? ⟨w.heap.size, 6, none⟩ = some (.int .u32 (su : Int)) ∧ W.cell? ⟨w.heap.size, 7, none⟩ = some (.slice a n c) ∧ W.cell? ⟨0, k, none⟩ = some (.int .u8 (U : Int)))
      (first | go_keep | (exact KH.out _ (by assumption)))
      (first | (go_at_call 31; (with_reducible refine FW.out.mono ?_); rintro e w2 ⟨rfl, hb⟩))
    have EB2 := Lib.hid (show EBox w.heap.size k pr s ru re li su (.slice a n c) w2 from (EB.out.step (below_drewN wx 1)).step hb)
    have BE2 := Lib.hid (BE.out.trans ((below_drewN wx 1).trans (hb.mono (show wx.heap.size ≤ wx.drew.heap.size from Nat.le_refl _)) |>.mono BE.out.size))
    clear hb KH FW EB BE c0 c1 c2 c3 c4 c5 c6 c7 cu i0 i1 HFI HU IK
    have A66 : bits .and .u8 (U : Int) 66 = (V : Int) := AND.out
    have c2 := EB2.out.cell 2 _ rfl
    have c3 := EB2.out.cell 3 _ rfl
    have c4 := EB2.out.cell 4 _ rfl
    have c5 := EB2.out.cell 5 _ rfl
    have c7 := EB2.out.cell 7 _ rfl
    clear AND hk
    go_wp2_with fail
    refine (U2.out w2).mono ?_
    rintro e w' ⟨rfl, rfl⟩
    cases b2 with
    | false =>
      go_wp2_with fail
      go_ret
      exact ⟨by rw [HM.out]; rfl, BE2.out⟩
    | true =>
    go_wp2_with fail
    refine (U3.out w2).mono ?_
    rintro e w' ⟨rfl, rfl⟩
    cases b3 with
    | false =>
      go_wp2_with fail
      go_ret
      exact ⟨by rw [HM.out]; rfl, BE2.out⟩
    | true =>
    have fin : ∀ (q : Bool) (e : Ending) (W : World), e = .returned (.bool q) → w2 = W → M = q → RetBelow w (.bool M) e W := fun q e W he hW hq => ⟨by rw [he, hq], by rw [← hW]; exact BE2.out⟩
    have FIN := Lib.hid fin
    clear fin
    cases z with
    | true =>
      go_wp2_with fail
      refine (R1.out w2).mono ?_
      rintro e w' ⟨rfl, rfl⟩
      cases t1 with
      | false =>
        go_wp2_with fail
        go_ret
        exact FIN.out false _ _ rfl rfl (by rw [HM.out]; rfl)
      | true =>
      go_wp2_with fail
      refine (R2.out w2).mono ?_
      rintro e w' ⟨rfl, rfl⟩
      cases t2 with
      | false =>
        go_wp2_with fail
        go_ret
        exact FIN.out false _ _ rfl rfl (by rw [HM.out]; rfl)
      | true =>
      go_wp2_with fail
      refine (R3.out w2).mono ?_
      rintro e w' ⟨rfl, rfl⟩
      cases t3 with
      | false =>
        go_wp2_with fail
        go_ret
        exact FIN.out false _ _ rfl rfl (by rw [HM.out]; rfl)
      | true =>
      cases t4 with
      | false =>
        go_wp2_with fail
        go_ret
        exact FIN.out false _ _ rfl rfl (by rw [HM.out]; rfl)
      | true =>
      go_wp2_with fail
      refine (HAR.out w2 BE2.out).mono ?_
      rintro e w' ⟨rfl, rfl⟩
      cases t5 with
      | false =>
        go_wp2_with fail
        go_ret
        exact FIN.out false _ _ rfl rfl (by rw [HM.out]; rfl)
      | true =>
      go_wp2_with fail
      go_ret
      exact FIN.out true _ _ rfl rfl (by rw [HM.out]; rfl)
    | false =>
      go_wp2_with fail
      refine (NM.out w2).mono ?_
      rintro e w' ⟨rfl, rfl⟩
      cases cl with
      | false =>
        go_wp2_with fail
        go_ret
        exact FIN.out false _ _ rfl rfl (by rw [HM.out]; rfl)
      | true =>
      go_wp2_with fail
      refine (R1.out w2).mono ?_
      rintro e w' ⟨rfl, rfl⟩
      cases t1 with
      | false =>
        go_wp2_with fail
        go_ret
        exact FIN.out false _ _ rfl rfl (by rw [HM.out]; rfl)
      | true =>
      go_wp2_with fail
      refine (R2.out w2).mono ?_
      rintro e w' ⟨rfl, rfl⟩
      cases t2 with
      | false =>
        go_wp2_with fail
        go_ret
        exact FIN.out false _ _ rfl rfl (by rw [HM.out]; rfl)
      | true =>
      go_wp2_with fail
      refine (R3.out w2).mono ?_
      rintro e w' ⟨rfl, rfl⟩
      cases t3 with
      | false =>
        go_wp2_with fail
        go_ret
        exact FIN.out false _ _ rfl rfl (by rw [HM.out]; rfl)
      | true =>
      cases t4 with
      | false =>
        go_wp2_with fail
        go_ret
        exact FIN.out false _ _ rfl rfl (by rw [HM.out]; rfl)
      | true =>
      go_wp2_with fail
      refine (HAR.out w2 BE2.out).mono ?_
      rintro e w' ⟨rfl, rfl⟩
      cases t5 with
      | false =>
        go_wp2_with fail
        go_ret
        exact FIN.out false _ _ rfl rfl (by rw [HM.out]; rfl)
      | true =>
      go_wp2_with fail
      go_ret
      exact FIN.out true _ _ rfl rfl (by rw [HM.out]; rfl)

theorem mayBe_ok (e : Ent) (E : EntIs e) {u : Value} {w : World} (h : SlI w u e.inn) (T : Tabs w) : Calls Tryd.prog 20 #[eA e u] w (RetBelow w (.bool (mayP e))) := by
  have FI : ∀ W, Below w.heap.size w W → Calls Tryd.prog 31 #[eA e u] W (RetBelow W (.int .u8 (filN e : Nat))) := fun W q => filled_ok e (h.below q)
  have AR : ∀ W, Below w.heap.size w W → Calls Tryd.prog 35 #[u] W (Same W (.bool (runsUp (-1) e.inn))) := fun W q => areRuns_ok E.ii (h.below q)
  obtain ⟨a, c, rfl, _⟩ := h.form
  refine mayBe_raw e.k e.pr (bs e.nm) e.ru e.re e.li e.su a e.inn.length c w (filN e) (filN_lt e) T _ _ _ _ _ _ _ _ _ _ _ rfl rfl rfl rfl ?_ (clean_bs e.nm) rfl rfl rfl rfl AR FI
  rw [bs_toList, Bool.eq_iff_iff]; simp
end Go.Proofs.YtlbekgcfafofdaaDoor
