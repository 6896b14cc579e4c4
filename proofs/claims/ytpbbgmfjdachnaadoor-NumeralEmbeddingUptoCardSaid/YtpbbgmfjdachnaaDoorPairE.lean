/- numeral's appendTo of a pair. -/
import Derived.Test.YtpbbgmfjdachnaaDoorCnt
namespace Go.Proofs.YtpbbgmfjdachnaaDoor
open Go.RowKit

theorem Tabs.base {w w' : World} {B : Nat} (h : Tabs w) (hB : 4 < B) (k : Below B w w') : Tabs w' := by
  obtain ⟨⟨t, fr, h0⟩, ⟨t1, fr1, h1⟩, ⟨t2, fr2, h2⟩, ⟨t4, fr4, h4⟩⟩ := h
  exact ⟨⟨t, fr, (k.block 0 (by omega)).trans h0⟩, ⟨t1, fr1, (k.block 1 (by omega)).trans h1⟩, ⟨t2, fr2, (k.block 2 (by omega)).trans h2⟩, ⟨t4, fr4, (k.block 4 (by omega)).trans h4⟩⟩
def rkB (c : UInt8) : UInt8 := UInt8.ofNat (rankB c)
theorem rkB_nat (c : UInt8) : ((rkB c).toNat : Int) = rankB c := by unfold rkB; rw [rankB_byte]
theorem take_one {s : ByteArray} {k : Nat} (h : k < s.size) : (s.data.toList.take (k + 1)).map rkB = (s.data.toList.take k).map rkB ++ [rkB s[k]] := by
  have hg : s.data.toList[k]? = some s[k] := by rw [Array.getElem?_toList]; exact Array.getElem?_eq_getElem h
  rw [List.take_add_one, hg, List.map_append]; rfl
def PrRel (w : World) (B : Nat) (l : List UInt8) (p : ByteArray) (v i : Value) (wr : World) : Prop :=
  ∃ k : Nat, k ≤ p.size ∧ i = .int .i64 k ∧ OwnB wr B v (l ++ (p.data.toList.take k).map rkB) ∧ Below B w wr ∧ KeepB w wr
theorem PrRel.next {w wr w1 : World} {B : Nat} {l : List UInt8} {p : ByteArray} {v1 : Value} (k : Nat) (hk : k < p.size) (i : Value) (hi : i = .int .i64 ((k + 1 : Nat) : Int)) (hb : Below B w wr) (hp : KeepB w wr)
    (h1 : OwnB w1 B v1 (l ++ (p.data.toList.take k).map rkB ++ [rkB p[k]])) (h2 : Below B wr w1) (h3 : KeepB wr w1) : PrRel w B l p v1 i w1 := by
  refine ⟨k + 1, hk, hi, ?_, hb.trans h2, hp.trans h3⟩
  rw [take_one hk, ← List.append_assoc]
  exact h1

set_option maxRecDepth 100000
set_option maxHeartbeats 3200000 in
theorem pairAppend_ok (B : Nat) (hB4 : 4 < B) (v : Value) (l : List UInt8) (p d : ByteArray) (w : World) (T : Tabs w) (hown : OwnB w B v l) (hl : l.length ≤ 1000000000) (hp : p.size ≤ 1000000000) (hd : d.size ≤ 1000000000) :
    Calls Tryd.prog 85 #[.agg #[.string p, .string d], v] w (RetOwn B w (l ++ ((p.data.toList.map rkB ++ [2]) ++ numsE d.data.toList))) := by
  have HO := Lib.hid (hown.alloc (Obj.cells #[Value.string p, Value.string d] 102))
  have HB := Lib.hid ((Below.refl B w).alloc hown.2 (Obj.cells #[Value.string p, Value.string d] 102))
  have HP := Lib.hid (KeepB.below (below_alloc w (Obj.cells #[Value.string p, Value.string d] 102)))
  have HG : (w.alloc (Obj.cells #[Value.string p, Value.string d] 102)).heap[w.heap.size]? = some (.cells #[Value.string p, Value.string d] 102 (0, 0)) := heap_alloc_new w _
  have HGG := Lib.hid HG
  have HT := Lib.hid (T.base hB4 HB.out)
  clear hown HG T
  have c0 : ∀ w1, KeepB (w.alloc (Obj.cells #[Value.string p, Value.string d] 102)) w1 → w1.cell? ⟨w.heap.size, 0, none⟩ = some (.string p) ∧ w1.cell? ⟨w.heap.size, 1, none⟩ = some (.string d) := fun w1 h =>
    ⟨by rw [cell_of_row w1 w.heap.size 0 _ 102 (0, 0) (h _ 102 _ (by decide) HGG.out)]; rfl, by rw [cell_of_row w1 w.heap.size 1 _ 102 (0, 0) (h _ 102 _ (by decide) HGG.out)]; rfl⟩
  have HC := Lib.hid c0
  clear c0
  go_enter Tryd.func85, Tryd.ntmps85
  go_wp2_with fail
  generalize w.alloc (Obj.cells #[Value.string p, Value.string d] 102) = w0 at *
  go_loopw [1, 10] (fun v i wr => PrRel w0 B l p v i wr) (fun _ i _ => p.size - (intOf i).toNat)
  case atStart => exact ⟨0, by omega, rfl, by simpa using HO.out, Below.refl _ _, KeepB.refl _⟩
  case round =>
    obtain ⟨k, hk, rfl, ho, hb, hk2⟩ := hrel
    have HL := Lib.hid (show (l ++ (p.data.toList.take k).map rkB).length ≤ 2000000000 by simp; omega)
    have HO1 := Lib.hid ho
    have HB1 := Lib.hid hb
    have HK1 := Lib.hid hk2
    clear ho hb hk2
    obtain ⟨e0, e1⟩ := HC.out wr HK1.out
    by_cases hlt : k < p.size
    · have t1 : decide (k < p.size) = true := by simpa using hlt
      go_wp2_with fail
      refine (rank_ok p[k] wr (HT.out.base hB4 HB1.out)).mono ?_
      rintro e w2 ⟨rfl, nq, rfl⟩
      have HO2 := Lib.hid (HO1.out.below (below_drewN wr nq))
      have HB2 := Lib.hid ((below_drewN wr nq).mono HO1.out.2)
      have HK2 := Lib.hid (KeepB.below (below_drewN wr nq))
      generalize wr.drewN nq = w3 at *
      go_wp2_with (at_builtin; refine wp_app rfl _ _ rfl B _ _ rfl HO2.out [rkB p[k]] _ ?c1x1 rfl ?c2x1 ?c3x1)
      case c1x1 => simp [byV, rkB_nat]
      case c2x1 => have := HL.out; simp at this ⊢; omega
      · intro v1 w1 h1 h2 h3
        have H1 := Lib.hid h1
        have H2 := Lib.hid (HB2.out.trans h2)
        have H3 := Lib.hid (HK2.out.trans h3)
        have HLT := Lib.hid hlt
        clear h1 h2 h3
        go_wp2_with fail
        exact ⟨PrRel.next k HLT.out _ rfl HB1.out HK1.out (by simpa using H1.out) H2.out H3.out, by have := HLT.out; simp [intOf]; omega⟩
    · have hks : k = p.size := by omega
      subst hks
      clear hlt hk
      have hfull : (p.data.toList.take p.size).map rkB = p.data.toList.map rkB := by rw [Lib.size_eq, List.take_length]
      rw [hfull] at HO1 HL
      clear hfull
      go_wp2_with (at_builtin; refine wp_app rfl _ _ rfl B _ _ rfl HO1.out [2] _ rfl rfl ?c2x2 ?c3x2)
      case c2x2 => have := HL.out; simp at this ⊢; omega
      · intro v1 w1 h1 h2 h3
        have H1 := Lib.hid h1
        have H2 := Lib.hid (HB1.out.trans h2)
        have H3 := Lib.hid (HK1.out.trans h3)
        clear h1 h2 h3 e0 e1
        obtain ⟨e0, e1⟩ := HC.out w1 H3.out
        have HL1 := Lib.hid (show (l ++ p.data.toList.map rkB ++ [2]).length ≤ 2000000001 by have := HL.out; simp at this ⊢; omega)
        by_cases hde : d.data.toList = []
        · have x1 : d.toList = [] := by rw [Lib.toList_data]; exact hde
          have x2 : d.toList.isEmpty = true := by rw [x1]; rfl
          have HDE := Lib.hid hde
          clear hde
          go_wp2_with (at_builtin; refine wp_app rfl _ _ rfl B _ _ rfl H1.out [0] _ rfl rfl ?c2x3 ?c3x3)
          case c2x3 => have := HL1.out; simp at this ⊢; omega
          · intro v2 w2 h4 h5 h6
            have H4 := Lib.hid h4
            have H5 := Lib.hid (H2.out.trans h5)
            have H6 := Lib.hid (H3.out.trans h6)
            clear h4 h5 h6
            go_wp2_with fail
            go_ret
            refine ⟨_, rfl, ?_, HB.out.trans H5.out, HP.out.trans H6.out⟩
            have e := H4.out
            unfold numsE
            rw [if_pos HDE.out]
            simpa using e
        · have x1 : ¬ d.toList = [] := by rw [Lib.toList_data]; exact hde
          have x2 : d.toList.isEmpty = false := by rw [Lib.toList_data]; cases hx : d.data.toList <;> simp_all
          have HDE := Lib.hid hde
          clear hde
          have hrow : w1.heap[w.heap.size]? = some (.cells #[Value.string p, Value.string d] 102 (0, 0)) := H3.out _ 102 _ (by decide) HGG.out
          have HROW := Lib.hid hrow
          clear hrow
          go_wp2_with fail
          refine (pairNumber_ok p d _).mono ?_
          rintro e w2 ⟨rfl, hb2⟩
          have H1' := Lib.hid (H1.out.below hb2)
          have H2' := Lib.hid (H2.out.trans (hb2.mono H1.out.2))
          have H3' := Lib.hid (H3.out.trans (KeepB.below hb2))
          clear hb2
          have hts : (bs (trimL d.data.toList)).size ≤ 1000000000 := by rw [bs_size]; have := trimL_le d.data.toList; rw [← Lib.size_eq] at this; omega
          have HTS := Lib.hid hts
          have HTL := Lib.hid (bs_list (trimL d.data.toList))
          have HTZ := Lib.hid (bs_size (trimL d.data.toList))
          clear hts
          generalize bs (trimL d.data.toList) = N at *
          go_wp2_with (at_builtin; refine wp_app rfl _ _ rfl B _ _ rfl H1'.out [1] _ rfl rfl ?c2x4 ?c3x4)
          case c2x4 => have := HL1.out; simp at this ⊢; omega
          · intro v3 w3 h4 h5 h6
            have H4 := Lib.hid h4
            have H5 := Lib.hid (H2'.out.trans h5)
            have H6 := Lib.hid (H3'.out.trans h6)
            have hnk : 0 ≤ (N.size : Int) ∧ (N.size : Int) < 18446744073709551616 := by have := HTS.out; omega
            clear h4 h5 h6
            go_wp2_with fail
            have HL2 := Lib.hid (show (l ++ p.data.toList.map rkB ++ [2] ++ [1]).length ≤ 1000000000 + 1000000000 + 2 by have := HL1.out; simp at this ⊢; omega)
            refine (appendCount_ok B _ _ N.size (by have := HTS.out; omega) w3 H4.out (by have := HL2.out; simp at this ⊢; omega)).mono ?_
            rintro e w4 ⟨v4, rfl, h7, h8, h9⟩
            have H7 := Lib.hid h7
            have H8 := Lib.hid (H5.out.trans h8)
            have H9 := Lib.hid (H6.out.trans h9)
            clear h7 h8 h9
            go_wp2_with (at_builtin; refine wp_apps rfl _ _ rfl B _ _ rfl H7.out N rfl ?k1 ?k2)
            case k1 => have h1 := HL2.out; have h2 := HTS.out; rw [List.length_append, beN8 _ (by omega), List.length_map, List.length_range]; simp at h1 ⊢; omega
            · intro v5 w5 h10 h11 h12
              have H10 := Lib.hid h10
              have H11 := Lib.hid (H8.out.trans h11)
              have H12 := Lib.hid (H9.out.trans h12)
              clear h10 h11 h12
              go_wp2_with fail
              go_ret
              refine ⟨_, rfl, ?_, HB.out.trans H11.out, HP.out.trans H12.out⟩
              have e := H10.out
              unfold numsE
              rw [if_neg HDE.out]
              rw [HTL.out, HTZ.out] at e
              simpa using e
end Go.Proofs.YtpbbgmfjdachnaaDoor
