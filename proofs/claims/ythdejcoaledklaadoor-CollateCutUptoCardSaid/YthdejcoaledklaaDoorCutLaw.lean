/- CollateCut: the walk. -/
import Derived.Test.YthdejcoaledklaaDoorFLaw
import Derived.Test.YthdejcoaledklaaDoorCutM
import Derived.Laws.BytesArg
namespace Go.Proofs.YthdejcoaledklaaDoor
open Go.RowKit

def bs (l : List UInt8) : ByteArray := ⟨l.toArray⟩
theorem bs_list (l : List UInt8) : (bs l).data.toList = l := by simp [bs]
theorem bs_of (s : ByteArray) : bs s.data.toList = s := by simp [bs]
theorem bs_size (l : List UInt8) : (bs l).size = l.length := by rw [Lib.size_eq, bs_list]
theorem bs_app (a b : List UInt8) : bs a ++ bs b = bs (a ++ b) := by
  apply ByteArray.ext
  rw [ByteArray.data_append]
  simp [bs]
theorem extract_bs (s : ByteArray) (a b : Nat) : s.extract a b = bs ((s.data.toList.drop a).take (b - a)) := by
  rw [← bs_of (s.extract a b), Lib.extract_data]
theorem cellsOf_bs (w : World) (t : UInt8) : (convert 26 9 (.slice (some ⟨w.heap.size, 0, none⟩) 1 1)).run Tryd.prog (w.alloc (.cells #[.int .u8 t.toNat] 5)) = .ok (.string (bs [t])) (w.alloc (.cells #[.int .u8 t.toNat] 5)) := by
  have h := run_convert_bytes_arg (P := Tryd.prog) (w.alloc (.cells #[.int .u8 t.toNat] 5)) 26 5 Tryd.underlying26 Tryd.underlying5 w.heap.size 0 1 1 [(t.toNat : Int)] rfl (fun i hi => by
    obtain rfl : i = 0 := by simp at hi; exact hi
    simp [World.cell?_alloc_new]) 9 Tryd.underlying9
  have e : strOfNums [(t.toNat : Int)] = bs [t] := by unfold strOfNums bs; simp
  rw [e] at h
  exact h

theorem fields_no' (s : ByteArray) (h : s.size = 0) (w : World) : Calls Tryd.prog 5 #[.string s, .int .i64 (-1)] w (RetSpans w []) := by
  obtain rfl := empty_of s h
  exact fields_no w
theorem isBl_or {c : UInt8} (h : isBl c = true) : ((c.toNat : Int) == 32) = true ∨ (((c.toNat : Int) == 32) = false ∧ ((c.toNat : Int) == 9) = true) := by
  rw [isBl_nat] at h
  by_cases h1 : c.toNat = 32
  · exact Or.inl (by rw [beq_iff_eq]; omega)
  · refine Or.inr ⟨by rw [beq_eq_false_iff_ne]; omega, ?_⟩
    simp [h1] at h
    rw [beq_iff_eq]; omega
theorem isBl_not {c : UInt8} (h : isBl c = false) : ((c.toNat : Int) == 32) = false ∧ ((c.toNat : Int) == 9) = false := by
  rw [isBl_nat] at h
  simp at h
  exact ⟨by rw [beq_eq_false_iff_ne]; omega, by rw [beq_eq_false_iff_ne]; omega⟩
/-- A part of the line, by what stands in it. -/
structure Part (part : ByteArray) (b n m : Nat) : Prop where
  small : part.size ≤ 1048576
  le : b ≤ part.size
  blank : ∀ j (h : j < part.size), j < b → isBl part[j] = true
  other : ∀ j (h : j < part.size), b ≤ j → isBl part[j] = false
  first : 0 < n → 0 < b
  last : n + 1 < m → b < part.size
theorem part_of {s : ByteArray} {i k f : Nat} (h : Blanks s.data.toList i k f) (hs : s.size ≤ 1048575) : ∃ b, Part (s.extract k (fend s.data.toList none k)) b i (fieldsS s.data.toList none).length := by
  obtain ⟨b, h1, h2, h3, h4, h5⟩ := h.parts
  have hle := fend_le s.data.toList none k (Nat.le_of_lt h.lt)
  rw [← Lib.size_eq] at hle
  have hz : (s.extract k (fend s.data.toList none k)).size = fend s.data.toList none k - k := by rw [ByteArray.size_extract]; omega
  have hg : ∀ j (hj : j < (s.extract k (fend s.data.toList none k)).size), (s.extract k (fend s.data.toList none k))[j] = s.data.toList[k + j]'(by rw [← Lib.size_eq]; omega) := fun j hj => by
    rw [ByteArray.getElem_extract]; rfl
  refine ⟨b, by omega, by omega, fun j hj hb => ?_, fun j hj hb => ?_, h4, fun hi => by have := h5 hi; omega⟩
  · rw [hg j hj]; exact h2 j _ hb
  · rw [hg j hj]; exact h3 j _ hb (by omega)

/-- Ahead of field i, or behind the last. -/
def CutAt (s : ByteArray) (t : UInt8) (i : Nat) (str : List UInt8) : Prop :=
  (∃ k f, Ahead s.data.toList t i k f str) ∨ (i = (fieldsS s.data.toList (some t)).length ∧ str = s.data.toList)

set_option maxRecDepth 100000
set_option maxHeartbeats 3200000 in
theorem cut_ok (s : ByteArray) (t : UInt8) (w : World) (hs : s.size ≤ 1048575) (T : Tabs w) : Calls Tryd.prog 3 #[.string s, .int .u8 t.toNat] w (RetBelow w (.bool true)) := by
  have ht := t.toNat_lt
  have hw := wrap_byte t
  have hL : fieldsS s.data.toList (some t) = spans s.data.toList (some t) (s.size + 1) 0 := by rw [fieldsS, if_neg (by simp), Lib.size_eq]
  have c1 := fields_some (some t) s w (by omega) (fun h => by cases h) T
  rw [← hL] at c1
  have hpos := fieldsS_ne s.data.toList t
  have hln : (fieldsS s.data.toList (some t)).length ≤ s.size + 1 := by rw [hL]; exact spans_len _ _ _ _
  have C1 := Lib.hid c1
  have HT := Lib.hid T
  clear c1 T hL
  have HCA := Lib.hid (show CutAt s t 0 [] from Or.inl ⟨0, _, ahead_start _ _⟩)
  go_enter Tryd.func3, Tryd.ntmps3
  go_wp2_with fail
  refine C1.out.mono ?_
  rintro e w1 ⟨v1, rfl, h1, b1⟩
  obtain ⟨g, cp, rfl, _, hg, hr⟩ := own_row h1 (by omega)
  have HR := Lib.hid hr
  have B1 := Lib.hid b1
  clear h1 b1 hr
  go_wp2_with fail
  obtain ⟨m, hm⟩ : ∃ m, m = (fieldsS s.data.toList (some t)).length := ⟨_, rfl⟩
  have HM := Lib.hid hm
  rw [← hm]
  rw [← hm] at hpos hln
  clear hm
  go_loopw [6, 7] (fun st i wr => ∃ (n : Nat) (str : List UInt8), n ≤ m ∧ i = .int .i64 n ∧ st = .string (bs str) ∧ CutAt s t n str ∧ Below w1.heap.size w1 wr) (fun _ i _ => m - (intOf i).toNat)
  case atStart => exact ⟨0, [], by omega, rfl, rfl, HCA.out, Below.refl _ _⟩
  case round =>
    obtain ⟨n, str, hn, rfl, rfl, hca, hbl⟩ := hrel
    have HC := Lib.hid hca
    have HB := Lib.hid hbl
    clear hca hbl
    by_cases hlt : n < m
    · have tn : decide ((n : Int) < (m : Int)) = true := by simpa using hlt
      obtain ⟨k, f, hA⟩ : ∃ k f, Ahead s.data.toList t n k f str := HC.out.resolve_right (fun h => by have := HM.out; have := h.1; omega)
      have HA := Lib.hid hA
      have hat := hA.at
      have hk := hA.le
      have he1 := fend_ge s.data.toList (some t) k
      have he2 := fend_le s.data.toList (some t) k hk
      rw [← Lib.size_eq] at hk he2
      have hput := Lib.hid hA.put
      have hnx : CutAt s t (n + 1) (s.data.toList.take (fend s.data.toList (some t) k)) := by
        by_cases hend : fend s.data.toList (some t) k = s.data.toList.length
        · exact Or.inr ⟨hA.last hend, by rw [hend, List.take_length]⟩
        · exact Or.inl ⟨_, _, hA.next hend⟩
      have HNX := Lib.hid hnx
      clear hnx
      have hno := Lib.hid (fun j (h1 : k ≤ j) h2 h3 => Ahead.none_in (s := s.data.toList) (t := t) (k := k) j h1 h2 h3)
      have r := range_below HR.out HB.out hg
      have hg1 : (fieldsS s.data.toList (some t))[n]? = some (k, fend s.data.toList (some t) k) := hat
      obtain ⟨hnl, hge⟩ := List.getElem?_eq_some_iff.1 hg1
      have c0 := r (n * 2) _ (spV_at _ n hnl).1
      have c1 := r (n * 2 + 1) _ (spV_at _ n hnl).2
      rw [hge, Nat.zero_add] at c0 c1
      simp only at c0 c1
      clear hA hat hg1 hnl hge r
      generalize fend s.data.toList (some t) k = e at *
      have q1 : decide ((e : Int) < (k : Int)) = false := by simp only [decide_eq_false_iff_not]; omega
      have q2 : decide (e < k) = false := by simp only [decide_eq_false_iff_not]; omega
      have q3 : decide ((s.size : Int) < (e : Int)) = false := by simp only [decide_eq_false_iff_not]; omega
      have q4 : decide (s.size < e) = false := by simp only [decide_eq_false_iff_not]; omega
      have q5 : decide ((k : Int) < 0) = false := by simp only [decide_eq_false_iff_not]; omega
      have HNO := Lib.hid (show ∀ j (h : j < (s.extract k e).size), (((s.extract k e)[j].toNat : Int) == (t.toNat : Int)) = false from fun j h => by
        have hz : (s.extract k e).size = e - k := by rw [ByteArray.size_extract]; omega
        have h1 : j < e - k := by rw [← hz]; exact h
        have h2 := hno.out (k + j) (by omega) (by omega) (by rw [← Lib.size_eq]; omega)
        rw [beq_eq_false_iff_ne]
        intro hh
        apply h2
        have h3 : (s.extract k e)[j] = s.data.toList[k + j]'(by rw [← Lib.size_eq]; omega) := by
          rw [ByteArray.getElem_extract]; rfl
        rw [← h3]
        exact UInt8.toNat_inj.1 (by omega))
      clear hno
      have hps : (s.extract k e).size ≤ 1048576 := by rw [ByteArray.size_extract]; omega
      go_wp2_with fail
      go_quiet (fail)
      generalize hwq : wr.drewN _ = wq
      have HB2 := Lib.hid (show Below w1.heap.size w1 wq by rw [← hwq]; exact bdrew HB.out _)
      have c0 : wq.cell? ⟨g, n * 2, none⟩ = some (.int .i64 k) := by rw [← hwq]; exact c0
      have c1 : wq.cell? ⟨g, n * 2 + 1, none⟩ = some (.int .i64 e) := by rw [← hwq]; exact c1
      have hgq : g < wq.heap.size := Nat.lt_of_lt_of_le hg HB2.out.size
      clear hwq
      have z4 : (bs str).size ≤ 1048576 := by
        have h1 := congrArg List.length hput.out
        rw [bs_size]
        have h5 : str.length ≤ (if 0 < n then str ++ [t] else str).length := by split <;> simp
        generalize (if 0 < n then str ++ [t] else str) = Y at h1 h5
        simp only [List.length_append, List.length_take] at h1
        omega
      by_cases hn0 : 0 < n
      · have z1 : decide ((0 : Int) < (n : Int)) = true := by simp only [decide_eq_true_eq]; omega
        have z2 : decide (0 < n) = true := by simp only [decide_eq_true_eq]; omega
        have HP := Lib.hid (show bs str ++ bs [t] ++ s.extract k e = bs (s.data.toList.take e) by rw [extract_bs, bs_app, bs_app, ← hput.out, if_pos hn0])
        have hcv := cellsOf_bs wq t
        have z3 : (bs [t]).size ≤ 1 := by rw [bs_size]; simp
        clear hn0
        go_wp2_with fail
        have hb3 := Lib.hid ((HB2.out.alloc HB2.out.size (.cells #[.int .u8 t.toNat] 5)))
        have c0 : (wq.alloc (.cells #[.int .u8 t.toNat] 5)).cell? ⟨g, n * 2, none⟩ = some (.int .i64 k) := by rw [World.cell?_alloc_old _ _ _ (Nat.ne_of_lt hgq)]; exact c0
        have c1 : (wq.alloc (.cells #[.int .u8 t.toNat] 5)).cell? ⟨g, n * 2 + 1, none⟩ = some (.int .i64 e) := by rw [World.cell?_alloc_old _ _ _ (Nat.ne_of_lt hgq)]; exact c1
        clear hcv
        go_quiet (fail)
        generalize hwr : (wq.alloc (.cells #[.int .u8 t.toNat] 5)).drewN _ = wz
        have HB3 := Lib.hid (show Below w1.heap.size w1 wz by rw [← hwr]; exact bdrew hb3.out _)
        clear hwr
        go_wp2_with fail
        generalize s.extract k e = part at *
        go_loop [9] (fun x => ∃ j : Nat, j ≤ part.size ∧ x = .int .i64 j) (fun x => part.size - (intOf x).toNat)
        case atStart => exact ⟨0, by omega, rfl⟩
        case round =>
          obtain ⟨j, hj, rfl⟩ := hrel
          by_cases hjl : j < part.size
          · have x1 : ((part[j].toNat : Int) == (t.toNat : Int)) = false := HNO.out j hjl
            have x2 : decide ((j : Int) < (part.size : Int)) = true := by simpa using hjl
            go_wp2_with fail
            go_round
            case rel => exact ⟨j + 1, by omega, by go_num⟩
            case measure => simp [intOf]; omega
          · have x2 : decide ((j : Int) < (part.size : Int)) = false := by simpa using hjl
            go_wp2_with fail
            go_roundw
            case rel => exact ⟨n + 1, s.data.toList.take e, by omega, by go_num, congrArg Value.string HP.out, HNX.out, HB3.out⟩
            case measure => simp [intOf]; omega
      · have z1 : decide ((0 : Int) < (n : Int)) = false := by simp only [decide_eq_false_iff_not]; omega
        have z2 : decide (0 < n) = false := by simp only [decide_eq_false_iff_not]; omega
        have HP := Lib.hid (show bs str ++ s.extract k e = bs (s.data.toList.take e) by rw [extract_bs, bs_app, ← hput.out, if_neg hn0])
        clear hn0
        go_wp2_with fail
        go_quiet (fail)
        generalize hwr : wq.drewN _ = wz
        have HB3 := Lib.hid (show Below w1.heap.size w1 wz by rw [← hwr]; exact bdrew HB2.out _)
        clear hwr
        go_wp2_with fail
        generalize s.extract k e = part at *
        go_loop [9] (fun x => ∃ j : Nat, j ≤ part.size ∧ x = .int .i64 j) (fun x => part.size - (intOf x).toNat)
        case atStart => exact ⟨0, by omega, rfl⟩
        case round =>
          obtain ⟨j, hj, rfl⟩ := hrel
          by_cases hjl : j < part.size
          · have x1 : ((part[j].toNat : Int) == (t.toNat : Int)) = false := HNO.out j hjl
            have x2 : decide ((j : Int) < (part.size : Int)) = true := by simpa using hjl
            go_wp2_with fail
            go_round
            case rel => exact ⟨j + 1, by omega, by go_num⟩
            case measure => simp [intOf]; omega
          · have x2 : decide ((j : Int) < (part.size : Int)) = false := by simpa using hjl
            go_wp2_with fail
            go_roundw
            case rel => exact ⟨n + 1, s.data.toList.take e, by omega, by go_num, congrArg Value.string HP.out, HNX.out, HB3.out⟩
            case measure => simp [intOf]; omega
    · have x0 : decide ((n : Int) < (m : Int)) = false := by simpa using hlt
      have hstr : str = s.data.toList := by
        rcases HC.out with ⟨k, f, hA⟩ | ⟨_, h⟩
        · have := hA.lt; have := HM.out; omega
        · exact h
      subst hstr
      rw [bs_of]
      have x3 : ((m : Int) == 0) = false := by rw [beq_eq_false_iff_ne]; omega
      have x4 : decide ((m : Int) = 0) = false := by simp only [decide_eq_false_iff_not]; omega
      have hbw := B1.out.trans (HB.out.mono B1.out.size)
      have HBW := Lib.hid hbw
      clear hbw
      obtain ⟨wo, hwo⟩ : ∃ wo : World, wo = wr := ⟨_, rfl⟩
      subst hwo
      by_cases hz : s.size = 0
      · have C2 := Lib.hid (fields_no' s hz wo)
        have x5 : ((0 : Int) == (s.size : Int)) = true := by rw [hz]; rfl
        have x6 : (s.size == 0) = true := by rw [hz]; rfl
        clear hz
        go_wp2_with fail
        refine C2.out.mono ?_
        rintro e w2 ⟨v2, rfl, h2, b2⟩
        obtain ⟨ao, cc, rfl⟩ := own_slice h2
        have HB2 := Lib.hid (HBW.out.trans (b2.mono HBW.out.size))
        clear h2 b2
        go_wp2_with fail
        refine wp_loop_rounds 1 ?_
        rw [rounds_succ]
        go_wp2_with fail
        go_ret
        exact ⟨rfl, HB2.out⟩
      · have hL2 : fieldsS s.data.toList none = spans s.data.toList none (s.size + 1) 0 := by
          rw [fieldsS, if_neg (fun h => hz (by rw [Lib.size_eq, h.2]; rfl)), Lib.size_eq]
        have c2 := fields_some none s wo (by omega) (fun _ => hz) (HT.out.below HBW.out)
        rw [← hL2] at c2
        have C2 := Lib.hid (show Calls Tryd.prog 5 #[.string s, .int .i64 (-1)] wo (RetSpans wo (fieldsS s.data.toList none)) from c2)
        have hln2 : (fieldsS s.data.toList none).length ≤ s.size + 1 := by rw [hL2]; exact spans_len _ _ _ _
        have hbl0 := blanks_start s.data.toList (fun h => hz (by rw [Lib.size_eq, h]; rfl))
        have hpos2 := hbl0.ilt
        have HB0 := Lib.hid (show BlAt s.data.toList 0 0 from Or.inl ⟨_, hbl0⟩)
        clear c2 hL2 hbl0
        go_wp2_with fail
        refine C2.out.mono ?_
        rintro e w2 ⟨v2, rfl, h2, b2⟩
        obtain ⟨g2, cp2, rfl, _, hg2, hr2⟩ := own_row h2 (by omega)
        have HR2 := Lib.hid hr2
        have HB2 := Lib.hid (HBW.out.trans (b2.mono HBW.out.size))
        clear h2 b2 hr2
        go_wp2_with fail
        obtain ⟨m2, hm2⟩ : ∃ m2, m2 = (fieldsS s.data.toList none).length := ⟨_, rfl⟩
        have HM2 := Lib.hid hm2
        rw [← hm2]
        rw [← hm2] at hln2 hpos2
        clear hm2
        go_loopw [11, 12] (fun a i wr => ∃ (n2 k : Nat), n2 ≤ m2 ∧ i = .int .i64 n2 ∧ a = .int .i64 k ∧ BlAt s.data.toList n2 k ∧ Below w2.heap.size w2 wr) (fun _ i _ => m2 - (intOf i).toNat)
        case atStart => exact ⟨0, 0, by omega, rfl, rfl, HB0.out, Below.refl _ _⟩
        case round =>
          obtain ⟨n2, k, hn2, rfl, rfl, hba, hbl⟩ := hrel
          have HBA := Lib.hid hba
          have HBL := Lib.hid hbl
          clear hba hbl
          by_cases hlt2 : n2 < m2
          · have y0 : decide ((n2 : Int) < (m2 : Int)) = true := by simpa using hlt2
            obtain ⟨f, hA⟩ : ∃ f, Blanks s.data.toList n2 k f := HBA.out.resolve_right (fun h => by have := HM2.out; have := h.1; omega)
            have hat := hA.at
            have hk := hA.lt
            have he1 := hA.pos
            have he2 := fend_le s.data.toList none k (Nat.le_of_lt hk)
            rw [← Lib.size_eq] at hk he2
            have HON := Lib.hid hA.on
            obtain ⟨b, hpt⟩ := part_of hA hs
            rw [← HM2.out] at hpt
            have r := range_below HR2.out HBL.out hg2
            obtain ⟨hnl, hge⟩ := List.getElem?_eq_some_iff.1 hat
            have d0 := r (n2 * 2) _ (spV_at _ n2 hnl).1
            have d1 := r (n2 * 2 + 1) _ (spV_at _ n2 hnl).2
            rw [hge, Nat.zero_add] at d0 d1
            simp only at d0 d1
            clear hA hat hnl hge r
            generalize fend s.data.toList none k = e at *
            have HPT := Lib.hid hpt
            clear hpt
            have q1 : decide ((e : Int) ≤ (k : Int)) = false := by simp only [decide_eq_false_iff_not]; omega
            have q2 : decide (e ≤ k) = false := by simp only [decide_eq_false_iff_not]; omega
            have q3 : decide ((s.size : Int) < (e : Int)) = false := by simp only [decide_eq_false_iff_not]; omega
            have q4 : decide (s.size < e) = false := by simp only [decide_eq_false_iff_not]; omega
            go_wp2_with fail
            generalize s.extract k e = part at *
            have hps := HPT.out.small
            have hble := HPT.out.le
            have hlast := HPT.out.last
            have hfirst := HPT.out.first
            by_cases hn0 : 0 < n2
            · have z1 : decide ((0 : Int) < (n2 : Int)) = true := by simp only [decide_eq_true_eq]; omega
              have z2 : decide (0 < n2) = true := by simp only [decide_eq_true_eq]; omega
              have hb0 := hfirst hn0
              have z3 : ((b : Int) == 0) = false := by rw [beq_eq_false_iff_ne]; omega
              have z4 : decide (b = 0) = false := by simp only [decide_eq_false_iff_not]; omega
              by_cases hbs : b < part.size
              · by_cases hm : n2 + 1 < m2
                · have z5 : decide ((n2 : Int) + 1 < (m2 : Int)) = true := by simp only [decide_eq_true_eq]; omega
                  have z6 : decide (n2 + 1 < m2) = true := by simp only [decide_eq_true_eq]; omega
                  have z7 : ((b : Int) == (part.size : Int)) = false := by rw [beq_eq_false_iff_ne]; omega
                  clear hlast hfirst hn0 hm
                  go_loop [14] (fun x => ∃ j : Nat, j ≤ b ∧ x = .int .i64 j) (fun x => b - (intOf x).toNat)
                  case atStart => exact ⟨0, by omega, rfl⟩
                  case round =>
                    obtain ⟨j, hj, rfl⟩ := hrel
                    by_cases hjb : j < b
                    · have hjl : j < part.size := by omega
                      rcases isBl_or (HPT.out.blank j hjl hjb) with x1 | ⟨x1, x2⟩
                      · go_wp2_with fail
                        go_round
                        case rel => exact ⟨j + 1, by omega, by go_num⟩
                        case measure => simp [intOf]; omega
                      · go_wp2_with fail
                        go_round
                        case rel => exact ⟨j + 1, by omega, by go_num⟩
                        case measure => simp [intOf]; omega
                    · have hjb2 : j = b := by omega
                      subst hjb2
                      clear hjb
                      obtain ⟨x1, x2⟩ := isBl_not (HPT.out.other j hbs (Nat.le_refl _))
                      go_wp2_with fail
                      clear x1 x2
                      go_loop [14] (fun x => ∃ i : Nat, j ≤ i ∧ i ≤ part.size ∧ x = .int .i64 i) (fun x => part.size - (intOf x).toNat)
                      case atStart => exact ⟨j, by omega, by omega, rfl⟩
                      case round =>
                        obtain ⟨i, hi1, hi2, rfl⟩ := hrel
                        by_cases hil : i < part.size
                        · obtain ⟨x1, x2⟩ := isBl_not (HPT.out.other i hil hi1)
                          go_wp2_with fail
                          go_round
                          case rel => exact ⟨i + 1, by omega, by omega, by go_num⟩
                          case measure => simp [intOf]; omega
                        · go_wp2_with fail
                          go_roundw
                          case rel => exact ⟨n2 + 1, e, by omega, by go_num, rfl, HON.out, HBL.out⟩
                          case measure => simp [intOf]; omega
                · have z5 : decide ((n2 : Int) + 1 < (m2 : Int)) = false := by simp only [decide_eq_false_iff_not]; omega
                  have z6 : decide (n2 + 1 < m2) = false := by simp only [decide_eq_false_iff_not]; omega
                  have z7 : ((b : Int) == (part.size : Int)) = false := by rw [beq_eq_false_iff_ne]; omega
                  clear hlast hfirst hn0 hm
                  go_loop [14] (fun x => ∃ j : Nat, j ≤ b ∧ x = .int .i64 j) (fun x => b - (intOf x).toNat)
                  case atStart => exact ⟨0, by omega, rfl⟩
                  case round =>
                    obtain ⟨j, hj, rfl⟩ := hrel
                    by_cases hjb : j < b
                    · have hjl : j < part.size := by omega
                      rcases isBl_or (HPT.out.blank j hjl hjb) with x1 | ⟨x1, x2⟩
                      · go_wp2_with fail
                        go_round
                        case rel => exact ⟨j + 1, by omega, by go_num⟩
                        case measure => simp [intOf]; omega
                      · go_wp2_with fail
                        go_round
                        case rel => exact ⟨j + 1, by omega, by go_num⟩
                        case measure => simp [intOf]; omega
                    · have hjb2 : j = b := by omega
                      subst hjb2
                      clear hjb
                      obtain ⟨x1, x2⟩ := isBl_not (HPT.out.other j hbs (Nat.le_refl _))
                      go_wp2_with fail
                      clear x1 x2
                      go_loop [14] (fun x => ∃ i : Nat, j ≤ i ∧ i ≤ part.size ∧ x = .int .i64 i) (fun x => part.size - (intOf x).toNat)
                      case atStart => exact ⟨j, by omega, by omega, rfl⟩
                      case round =>
                        obtain ⟨i, hi1, hi2, rfl⟩ := hrel
                        by_cases hil : i < part.size
                        · obtain ⟨x1, x2⟩ := isBl_not (HPT.out.other i hil hi1)
                          go_wp2_with fail
                          go_round
                          case rel => exact ⟨i + 1, by omega, by omega, by go_num⟩
                          case measure => simp [intOf]; omega
                        · go_wp2_with fail
                          go_roundw
                          case rel => exact ⟨n2 + 1, e, by omega, by go_num, rfl, HON.out, HBL.out⟩
                          case measure => simp [intOf]; omega
              · have hm : ¬ n2 + 1 < m2 := fun h => hbs (hlast h)
                have z5 : decide ((n2 : Int) + 1 < (m2 : Int)) = false := by simp only [decide_eq_false_iff_not]; omega
                have z6 : decide (n2 + 1 < m2) = false := by simp only [decide_eq_false_iff_not]; omega
                clear hlast hfirst hn0 hm
                go_loop [14] (fun x => ∃ j : Nat, j ≤ b ∧ x = .int .i64 j) (fun x => b - (intOf x).toNat)
                case atStart => exact ⟨0, by omega, rfl⟩
                case round =>
                  obtain ⟨j, hj, rfl⟩ := hrel
                  by_cases hjb : j < b
                  · have hjl : j < part.size := by omega
                    rcases isBl_or (HPT.out.blank j hjl hjb) with x1 | ⟨x1, x2⟩
                    · go_wp2_with fail
                      go_round
                      case rel => exact ⟨j + 1, by omega, by go_num⟩
                      case measure => simp [intOf]; omega
                    · go_wp2_with fail
                      go_round
                      case rel => exact ⟨j + 1, by omega, by go_num⟩
                      case measure => simp [intOf]; omega
                  · have hjb2 : j = b := by omega
                    subst hjb2
                    clear hjb
                    go_wp2_with fail
                    go_loop [14] (fun x => ∃ i : Nat, j ≤ i ∧ i ≤ part.size ∧ x = .int .i64 i) (fun x => part.size - (intOf x).toNat)
                    case atStart => exact ⟨j, by omega, by omega, rfl⟩
                    case round =>
                      obtain ⟨i, hi1, hi2, rfl⟩ := hrel
                      by_cases hil : i < part.size
                      · obtain ⟨x1, x2⟩ := isBl_not (HPT.out.other i hil hi1)
                        go_wp2_with fail
                        go_round
                        case rel => exact ⟨i + 1, by omega, by omega, by go_num⟩
                        case measure => simp [intOf]; omega
                      · go_wp2_with fail
                        go_roundw
                        case rel => exact ⟨n2 + 1, e, by omega, by go_num, rfl, HON.out, HBL.out⟩
                        case measure => simp [intOf]; omega
            · have z1 : decide ((0 : Int) < (n2 : Int)) = false := by simp only [decide_eq_false_iff_not]; omega
              have z2 : decide (0 < n2) = false := by simp only [decide_eq_false_iff_not]; omega
              by_cases hbs : b < part.size
              · by_cases hm : n2 + 1 < m2
                · have z5 : decide ((n2 : Int) + 1 < (m2 : Int)) = true := by simp only [decide_eq_true_eq]; omega
                  have z6 : decide (n2 + 1 < m2) = true := by simp only [decide_eq_true_eq]; omega
                  have z7 : ((b : Int) == (part.size : Int)) = false := by rw [beq_eq_false_iff_ne]; omega
                  clear hlast hfirst hn0 hm
                  go_loop [14] (fun x => ∃ j : Nat, j ≤ b ∧ x = .int .i64 j) (fun x => b - (intOf x).toNat)
                  case atStart => exact ⟨0, by omega, rfl⟩
                  case round =>
                    obtain ⟨j, hj, rfl⟩ := hrel
                    by_cases hjb : j < b
                    · have hjl : j < part.size := by omega
                      rcases isBl_or (HPT.out.blank j hjl hjb) with x1 | ⟨x1, x2⟩
                      · go_wp2_with fail
                        go_round
                        case rel => exact ⟨j + 1, by omega, by go_num⟩
                        case measure => simp [intOf]; omega
                      · go_wp2_with fail
                        go_round
                        case rel => exact ⟨j + 1, by omega, by go_num⟩
                        case measure => simp [intOf]; omega
                    · have hjb2 : j = b := by omega
                      subst hjb2
                      clear hjb
                      obtain ⟨x1, x2⟩ := isBl_not (HPT.out.other j hbs (Nat.le_refl _))
                      go_wp2_with fail
                      clear x1 x2
                      go_loop [14] (fun x => ∃ i : Nat, j ≤ i ∧ i ≤ part.size ∧ x = .int .i64 i) (fun x => part.size - (intOf x).toNat)
                      case atStart => exact ⟨j, by omega, by omega, rfl⟩
                      case round =>
                        obtain ⟨i, hi1, hi2, rfl⟩ := hrel
                        by_cases hil : i < part.size
                        · obtain ⟨x1, x2⟩ := isBl_not (HPT.out.other i hil hi1)
                          go_wp2_with fail
                          go_round
                          case rel => exact ⟨i + 1, by omega, by omega, by go_num⟩
                          case measure => simp [intOf]; omega
                        · go_wp2_with fail
                          go_roundw
                          case rel => exact ⟨n2 + 1, e, by omega, by go_num, rfl, HON.out, HBL.out⟩
                          case measure => simp [intOf]; omega
                · have z5 : decide ((n2 : Int) + 1 < (m2 : Int)) = false := by simp only [decide_eq_false_iff_not]; omega
                  have z6 : decide (n2 + 1 < m2) = false := by simp only [decide_eq_false_iff_not]; omega
                  have z7 : ((b : Int) == (part.size : Int)) = false := by rw [beq_eq_false_iff_ne]; omega
                  clear hlast hfirst hn0 hm
                  go_loop [14] (fun x => ∃ j : Nat, j ≤ b ∧ x = .int .i64 j) (fun x => b - (intOf x).toNat)
                  case atStart => exact ⟨0, by omega, rfl⟩
                  case round =>
                    obtain ⟨j, hj, rfl⟩ := hrel
                    by_cases hjb : j < b
                    · have hjl : j < part.size := by omega
                      rcases isBl_or (HPT.out.blank j hjl hjb) with x1 | ⟨x1, x2⟩
                      · go_wp2_with fail
                        go_round
                        case rel => exact ⟨j + 1, by omega, by go_num⟩
                        case measure => simp [intOf]; omega
                      · go_wp2_with fail
                        go_round
                        case rel => exact ⟨j + 1, by omega, by go_num⟩
                        case measure => simp [intOf]; omega
                    · have hjb2 : j = b := by omega
                      subst hjb2
                      clear hjb
                      obtain ⟨x1, x2⟩ := isBl_not (HPT.out.other j hbs (Nat.le_refl _))
                      go_wp2_with fail
                      clear x1 x2
                      go_loop [14] (fun x => ∃ i : Nat, j ≤ i ∧ i ≤ part.size ∧ x = .int .i64 i) (fun x => part.size - (intOf x).toNat)
                      case atStart => exact ⟨j, by omega, by omega, rfl⟩
                      case round =>
                        obtain ⟨i, hi1, hi2, rfl⟩ := hrel
                        by_cases hil : i < part.size
                        · obtain ⟨x1, x2⟩ := isBl_not (HPT.out.other i hil hi1)
                          go_wp2_with fail
                          go_round
                          case rel => exact ⟨i + 1, by omega, by omega, by go_num⟩
                          case measure => simp [intOf]; omega
                        · go_wp2_with fail
                          go_roundw
                          case rel => exact ⟨n2 + 1, e, by omega, by go_num, rfl, HON.out, HBL.out⟩
                          case measure => simp [intOf]; omega
              · have hm : ¬ n2 + 1 < m2 := fun h => hbs (hlast h)
                have z5 : decide ((n2 : Int) + 1 < (m2 : Int)) = false := by simp only [decide_eq_false_iff_not]; omega
                have z6 : decide (n2 + 1 < m2) = false := by simp only [decide_eq_false_iff_not]; omega
                clear hlast hfirst hn0 hm
                go_loop [14] (fun x => ∃ j : Nat, j ≤ b ∧ x = .int .i64 j) (fun x => b - (intOf x).toNat)
                case atStart => exact ⟨0, by omega, rfl⟩
                case round =>
                  obtain ⟨j, hj, rfl⟩ := hrel
                  by_cases hjb : j < b
                  · have hjl : j < part.size := by omega
                    rcases isBl_or (HPT.out.blank j hjl hjb) with x1 | ⟨x1, x2⟩
                    · go_wp2_with fail
                      go_round
                      case rel => exact ⟨j + 1, by omega, by go_num⟩
                      case measure => simp [intOf]; omega
                    · go_wp2_with fail
                      go_round
                      case rel => exact ⟨j + 1, by omega, by go_num⟩
                      case measure => simp [intOf]; omega
                  · have hjb2 : j = b := by omega
                    subst hjb2
                    clear hjb
                    go_wp2_with fail
                    go_loop [14] (fun x => ∃ i : Nat, j ≤ i ∧ i ≤ part.size ∧ x = .int .i64 i) (fun x => part.size - (intOf x).toNat)
                    case atStart => exact ⟨j, by omega, by omega, rfl⟩
                    case round =>
                      obtain ⟨i, hi1, hi2, rfl⟩ := hrel
                      by_cases hil : i < part.size
                      · obtain ⟨x1, x2⟩ := isBl_not (HPT.out.other i hil hi1)
                        go_wp2_with fail
                        go_round
                        case rel => exact ⟨i + 1, by omega, by omega, by go_num⟩
                        case measure => simp [intOf]; omega
                      · go_wp2_with fail
                        go_roundw
                        case rel => exact ⟨n2 + 1, e, by omega, by go_num, rfl, HON.out, HBL.out⟩
                        case measure => simp [intOf]; omega
          · have y0 : decide ((n2 : Int) < (m2 : Int)) = false := by simpa using hlt2
            have hkn : k = s.size := by
              rcases HBA.out with ⟨f, hA⟩ | ⟨_, h⟩
              · have := hA.ilt; have := HM2.out; omega
              · rw [h, Lib.size_eq]
            subst hkn
            go_wp2_with fail
            go_ret
            exact ⟨rfl, HB2.out.trans (HBL.out.mono HB2.out.size)⟩
theorem collateCut_card (s : ByteArray) (I : Int) (hs : s.size ≤ 1048575) (hI : 0 ≤ I ∧ I < 256) (w : World) (T : Tabs w) : Calls Tryd.prog 3 #[.string s, .int .u8 I] w (RetBelow w (.bool true)) := by
  obtain ⟨t, rfl⟩ : ∃ t : UInt8, I = t.toNat := ⟨UInt8.ofNat I.toNat, by simp; omega⟩
  exact cut_ok s t w hs T
end Go.Proofs.YthdejcoaledklaaDoor
