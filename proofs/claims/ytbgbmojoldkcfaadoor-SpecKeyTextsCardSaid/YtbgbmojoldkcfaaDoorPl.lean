/- place, the document's. -/
import Derived.Test.YtbgbmojoldkcfaaDoorBit
import Derived.Lib.Split
import Derived.Lib.IndexBytes
namespace Go.Proofs.YtbgbmojoldkcfaaDoor
open Go.RowKit

def bsk (l : List UInt8) : ByteArray := ⟨l.toArray⟩
theorem bsk_list (l : List UInt8) : (bsk l).data.toList = l := by simp [bsk]
theorem bsk_size (l : List UInt8) : (bsk l).size = l.length := by rw [Lib.size_eq, bsk_list]
theorem bsk_app (a b : List UInt8) : bsk a ++ bsk b = bsk (a ++ b) := by
  apply ByteArray.ext
  rw [ByteArray.data_append]
  simp [bsk]
theorem extract_one (s : ByteArray) (k : Nat) (h : k < s.size) : s.extract k (k + 1) = bsk [s[k]] := by
  have hl : k < s.data.toList.length := by rw [← Lib.size_eq]; exact h
  have h1 : (s.extract k (k + 1)).data.toList = [s[k]] := by
    rw [Lib.extract_data, List.drop_eq_getElem_cons hl, show k + 1 - k = 1 by omega]
    rfl
  apply ByteArray.ext
  apply Array.toList_inj.1
  rw [h1, bsk_list]
/-- What place gives. -/
def placeV : PlaceR → Value
  | .bad a => .tuple #[.int .i64 0, .int .i64 0, .string ⟨#[]⟩, .int .i64 (a : Int), .int .i64 (a : Int)]
  | .good f c ms a => .tuple #[.int .i64 (f : Int), .int .i64 (c : Int), .string (bsk ms), .int .i64 (a : Int), .int .i64 (-1)]

/-- The end of place: the letters. -/
def PlEnd (l : List UInt8) (k0 : Nat) (av mv : Value) : Prop :=
  ∃ (k : Nat) (ms : List UInt8), k0 ≤ k ∧ k ≤ l.length ∧ ms.length ≤ k ∧ av = .int .i64 k ∧ mv = .string (bsk ms) ∧ ms ++ ltS (l.drop k) = ltS (l.drop k0) ∧ k + (ltS (l.drop k)).length = k0 + (ltS (l.drop k0)).length

theorem dot_yes {s : ByteArray} {k : Nat} {c : UInt8} (h : dotAt s.data.toList k c = true) : ∃ h : k < s.size, s[k] = c := by
  unfold dotAt at h
  rw [Bool.and_eq_true, decide_eq_true_eq, ← Lib.size_eq] at h
  refine ⟨h.1, ?_⟩
  have h2 := beq_iff_eq.1 h.2
  rw [List.getD_eq_getElem?_getD, List.getElem?_eq_getElem (by rw [← Lib.size_eq]; exact h.1)] at h2
  exact h2
theorem dot_no {s : ByteArray} {k : Nat} {c : UInt8} (h : dotAt s.data.toList k c = false) (hk : k < s.size) : s[k] ≠ c := by
  intro e
  unfold dotAt at h
  rw [decide_eq_true (by rw [← Lib.size_eq]; exact hk), Bool.true_and, List.getD_eq_getElem?_getD, List.getElem?_eq_getElem (by rw [← Lib.size_eq]; exact hk)] at h
  have h2 := beq_eq_false_iff_ne.1 h
  exact h2 e
set_option maxRecDepth 100000
set_option maxHeartbeats 3200000 in
theorem place_ok (s : ByteArray) (a none : Nat) (ha : a ≤ s.size) (hn : none ≤ 1) (w : World) (hs : s.size ≤ 140737488351232) :
    Calls Tryd.prog 24 #[.string s, .int .i64 a, .int .i64 none] w (RetV w (placeV (placeS s.data.toList a none))) := by
  have C := number_ok s a 2147483647 (by omega) ha w hs
  have b1 := valS_le 2147483647 (s.data.toList.drop a) 0 (by omega)
  have b2 := valS_len 2147483647 (s.data.toList.drop a) 0
  rw [List.length_drop, ← Lib.size_eq] at b2
  have HS := Lib.hid (show placeS s.data.toList a none = placeS s.data.toList a none from rfl)
  have C2 := Lib.hid (fun a1 (h : a1 ≤ s.size) w => number_ok s a1 2147483647 (by omega) h w hs)
  generalize hR : placeS s.data.toList a none = R
  unfold placeS at hR
  generalize (valS 2147483647 0 (s.data.toList.drop a)).1 = v at *
  generalize (valS 2147483647 0 (s.data.toList.drop a)).2 = z at *
  clear HS
  obtain ⟨a1, ha1⟩ : ∃ a1, a1 = a + z := ⟨_, rfl⟩
  rw [← ha1] at C hR
  have C := Lib.hid C
  have HR0 := Lib.hid hR
  clear hR
  by_cases h1 : z = 0
  · have HR := Lib.hid (show R = .bad a from by rw [← HR0.out, if_pos (Or.inl h1)])
    clear HR0
    have e : a1 = a := by omega
    subst e
    clear h1 ha1
    go_enter Tryd.func24, Tryd.ntmps24
    go_wp2_with fail
    refine C.out.mono ?_
    rintro e w' ⟨rfl, rfl⟩
    go_wp2_with fail
    exact bodyPost_ret (v := placeV (.bad a1)) (by simp [results, Tryd.results24, go_sem, placeV]) rfl ⟨by rw [HR.out], rfl⟩
  · have t1 : ((a1 : Int) == (a : Int)) = false := by rw [beq_eq_false_iff_ne]; omega
    have hlt1 : a < a1 := by omega
    have hle1 : a1 ≤ s.size := by omega
    have HA1 := Lib.hid ha1
    clear ha1
    by_cases h2 : v = 0
    · have HR := Lib.hid (show R = .bad a from by rw [← HR0.out, if_pos (Or.inr h2)])
      clear HR0
      have t2 : ((v : Int) == 0) = true := by rw [beq_iff_eq]; omega
      clear h1 h2
      go_enter Tryd.func24, Tryd.ntmps24
      go_wp2_with fail
      refine C.out.mono ?_
      rintro e w' ⟨rfl, rfl⟩
      go_wp2_with fail
      exact bodyPost_ret (v := placeV (.bad a)) (by simp [results, Tryd.results24, go_sem, placeV]) rfl ⟨by rw [HR.out], rfl⟩
    · have t2 : ((v : Int) == 0) = false := by rw [beq_eq_false_iff_ne]; omega
      have HR1 := Lib.hid (show _ from (if_neg (show ¬ (z = 0 ∨ v = 0) from fun h => h.elim h1 h2)).symm.trans HR0.out)
      clear HR0
      cases hd : dotAt s.data.toList a1 46 with
      | false =>
        have HR := Lib.hid (show R = placeEnd s.data.toList v none a1 from by have := HR1.out; rw [hd] at this; exact this.symm)
        clear HR1
        by_cases hlt : a1 < s.size
        · have hne := dot_no hd hlt
          have hc := s[a1].toNat_lt
          have t3 : ((s[a1].toNat : Int) == 46) = false := by
            rw [beq_eq_false_iff_ne]; intro e; exact hne (UInt8.toNat_inj.1 (by show s[a1].toNat = 46; omega))
          clear h1 h2 hd hne
          go_enter Tryd.func24, Tryd.ntmps24
          go_wp2_with fail
          refine C.out.mono ?_
          rintro e w' ⟨rfl, rfl⟩
          go_wp2_with fail
          go_loop [1, 14] (fun av mv => PlEnd s.data.toList a1 av mv) (fun i _ => s.size - (intOf i).toNat)
          case atStart => exact ⟨a1, [], Nat.le_refl _, by rw [← Lib.size_eq]; omega, by simp, rfl, rfl, rfl, rfl⟩
          case round =>
            obtain ⟨k, ms, hk0, hk, hml, rfl, rfl, hq1, hq2⟩ := hrel
            have HQ1 := Lib.hid hq1
            have HQ2 := Lib.hid hq2
            clear hq1 hq2
            rw [← Lib.size_eq] at hk
            by_cases hlt : k < s.size
            · have hkl : k < s.data.toList.length := by rw [← Lib.size_eq]; exact hlt
              have BT := Lib.hid (fun w => bit_ok s[k] w)
              by_cases hc : isLt s[k] = true
              · have E := Lib.hid (ltS_on hkl hc)
                have hb0 : bitS s[k] ≠ 0 := by simpa [isLt] using hc
                have x1 : (((bitS s[k] : Nat) : Int) != 0) = true := by simp only [bne_iff_ne, ne_eq]; omega
                have hz1 : (s.extract k (k + 1)).size ≤ 1 := by rw [ByteArray.size_extract]; omega
                have hz2 : (bsk ms).size ≤ s.size := by rw [bsk_size]; omega
                have HX := Lib.hid (extract_one s k hlt)
                clear hc hb0
                go_wp2_with fail
                refine (BT.out _).mono ?_
                rintro e w' ⟨rfl, rfl⟩
                go_wp2_with fail
                go_round
                case rel => exact ⟨k + 1, ms ++ [s[k]], by omega, by rw [← Lib.size_eq]; omega, by simp; omega, by go_num, congrArg Value.string (by rw [HX.out, bsk_app]), by rw [← HQ1.out, E.out, List.append_assoc]; rfl, by rw [← HQ2.out, E.out, List.length_cons]; omega⟩
                case measure => simp [intOf]; omega
              · have hc2 : isLt s[k] = false := by simpa using hc
                have E := Lib.hid (ltS_stop hkl hc2)
                have hb0 : bitS s[k] = 0 := by simpa [isLt] using hc2
                have x1 : (((bitS s[k] : Nat) : Int) != 0) = false := by rw [hb0]; rfl
                clear hc hc2 hb0
                go_wp2_with fail
                refine (BT.out _).mono ?_
                rintro e w' ⟨rfl, rfl⟩
                go_wp2_with fail
                have h1 := HQ1.out
                have h2 := HQ2.out
                rw [E.out] at h1 h2
                rw [List.append_nil] at h1
                rw [List.length_nil, Nat.add_zero] at h2
                exact bodyPost_ret (v := placeV (.good v none ms k)) (by simp [results, Tryd.results24, go_sem, placeV]) rfl ⟨by rw [HR.out, placeEnd, ← h1, show a1 + ms.length = k from by rw [h1]; exact h2.symm], rfl⟩
            · have E := Lib.hid (ltS_end (l := s.data.toList) (k := k) (by rw [← Lib.size_eq]; omega))
              go_wp2_with fail
              have h1 := HQ1.out
              have h2 := HQ2.out
              rw [E.out] at h1 h2
              rw [List.append_nil] at h1
              rw [List.length_nil, Nat.add_zero] at h2
              exact bodyPost_ret (v := placeV (.good v none ms k)) (by simp [results, Tryd.results24, go_sem, placeV]) rfl ⟨by rw [HR.out, placeEnd, ← h1, show a1 + ms.length = k from by rw [h1]; exact h2.symm], rfl⟩
        · clear h1 h2 hd
          go_enter Tryd.func24, Tryd.ntmps24
          go_wp2_with fail
          refine C.out.mono ?_
          rintro e w' ⟨rfl, rfl⟩
          go_wp2_with fail
          go_loop [1, 14] (fun av mv => PlEnd s.data.toList a1 av mv) (fun i _ => s.size - (intOf i).toNat)
          case atStart => exact ⟨a1, [], Nat.le_refl _, by rw [← Lib.size_eq]; omega, by simp, rfl, rfl, rfl, rfl⟩
          case round =>
            obtain ⟨k, ms, hk0, hk, hml, rfl, rfl, hq1, hq2⟩ := hrel
            have HQ1 := Lib.hid hq1
            have HQ2 := Lib.hid hq2
            clear hq1 hq2
            rw [← Lib.size_eq] at hk
            by_cases hlt : k < s.size
            · omega
            · have E := Lib.hid (ltS_end (l := s.data.toList) (k := k) (by rw [← Lib.size_eq]; omega))
              go_wp2_with fail
              have h1 := HQ1.out
              have h2 := HQ2.out
              rw [E.out] at h1 h2
              rw [List.append_nil] at h1
              rw [List.length_nil, Nat.add_zero] at h2
              exact bodyPost_ret (v := placeV (.good v none ms k)) (by simp [results, Tryd.results24, go_sem, placeV]) rfl ⟨by rw [HR.out, placeEnd, ← h1, show a1 + ms.length = k from by rw [h1]; exact h2.symm], rfl⟩
      | true =>
        obtain ⟨hlt, hcc⟩ := dot_yes hd
        have t3 : ((s[a1].toNat : Int) == 46) = true := by rw [hcc]; rfl
        have D2 := C2.out (a1 + 1) (by omega)
        have b3 := valS_le 2147483647 (s.data.toList.drop (a1 + 1)) 0 (by omega)
        have b4 := valS_len 2147483647 (s.data.toList.drop (a1 + 1)) 0
        rw [List.length_drop, ← Lib.size_eq] at b4
        have hR := HR1.out
        rw [hd] at hR
        clear HR1 hcc hd C2
        generalize (valS 2147483647 0 (s.data.toList.drop (a1 + 1))).1 = v2 at *
        generalize (valS 2147483647 0 (s.data.toList.drop (a1 + 1))).2 = z2 at *
        obtain ⟨a2, ha2⟩ : ∃ a2, a2 = a1 + 1 + z2 := ⟨_, rfl⟩
        rw [← ha2] at hR
        have hle2 : a2 ≤ s.size := by omega
        have HRR := Lib.hid hR
        clear hR
        have D3 := Lib.hid (fun w => show Calls Tryd.prog 16 #[.string s, .int .i64 ((a1 : Int) + 1), .int .i64 2147483647] w (RetNum w v2 a2) from by rw [ha2]; exact D2 w)
        clear D2
        have hz2 : z2 = 0 → a2 = a1 + 1 := fun h => by omega
        have hz3 : z2 ≠ 0 → a1 + 1 < a2 := fun h => by omega
        clear ha2
        by_cases h3 : z2 = 0
        · have HR := Lib.hid (show R = .bad (a1 + 1) from by rw [← HRR.out, if_pos rfl, if_pos (Or.inl h3)])
          have e2 := hz2 h3
          have t4 : ((a2 : Int) == (a1 : Int) + 1) = true := by rw [beq_iff_eq]; omega
          clear hz2 hz3 e2
          clear h1 h2 HRR h3
          go_enter Tryd.func24, Tryd.ntmps24
          go_wp2_with fail
          refine C.out.mono ?_
          rintro e w' ⟨rfl, rfl⟩
          go_wp2_with fail
          refine (D3.out _).mono ?_
          rintro e w' ⟨rfl, rfl⟩
          go_wp2_with fail
          exact bodyPost_ret (v := placeV (.bad (a1 + 1))) (by simp [results, Tryd.results24, go_sem, placeV]) rfl ⟨by rw [HR.out], rfl⟩
        · have hlt3 := hz3 h3
          have t4 : ((a2 : Int) == (a1 : Int) + 1) = false := by rw [beq_eq_false_iff_ne]; omega
          clear hz2 hz3
          by_cases h4 : v2 < none
          · have HR := Lib.hid (show R = .bad (a1 + 1) from by rw [← HRR.out, if_pos rfl, if_pos (Or.inr h4)])
            have t5 : decide ((v2 : Int) < (none : Int)) = true := by simp only [decide_eq_true_eq]; omega
            clear h1 h2 HRR h3
            go_enter Tryd.func24, Tryd.ntmps24
            go_wp2_with fail
            refine C.out.mono ?_
            rintro e w' ⟨rfl, rfl⟩
            go_wp2_with fail
            refine (D3.out _).mono ?_
            rintro e w' ⟨rfl, rfl⟩
            go_wp2_with fail
            exact bodyPost_ret (v := placeV (.bad (a1 + 1))) (by simp [results, Tryd.results24, go_sem, placeV]) rfl ⟨by rw [HR.out], rfl⟩
          · have HR := Lib.hid (show R = placeEnd s.data.toList v v2 a2 from by rw [← HRR.out, if_pos rfl, if_neg (fun h => h.elim h3 h4)])
            have t5 : decide ((v2 : Int) < (none : Int)) = false := by simp only [decide_eq_false_iff_not]; omega
            clear h1 h2 HRR h3
            go_enter Tryd.func24, Tryd.ntmps24
            go_wp2_with fail
            refine C.out.mono ?_
            rintro e w' ⟨rfl, rfl⟩
            go_wp2_with fail
            refine (D3.out _).mono ?_
            rintro e w' ⟨rfl, rfl⟩
            go_wp2_with fail
            go_loop [1, 14] (fun av mv => PlEnd s.data.toList a2 av mv) (fun i _ => s.size - (intOf i).toNat)
            case atStart => exact ⟨a2, [], Nat.le_refl _, by rw [← Lib.size_eq]; omega, by simp, rfl, rfl, rfl, rfl⟩
            case round =>
              obtain ⟨k, ms, hk0, hk, hml, rfl, rfl, hq1, hq2⟩ := hrel
              have HQ1 := Lib.hid hq1
              have HQ2 := Lib.hid hq2
              clear hq1 hq2
              rw [← Lib.size_eq] at hk
              by_cases hlt : k < s.size
              · have hkl : k < s.data.toList.length := by rw [← Lib.size_eq]; exact hlt
                have BT := Lib.hid (fun w => bit_ok s[k] w)
                by_cases hc : isLt s[k] = true
                · have E := Lib.hid (ltS_on hkl hc)
                  have hb0 : bitS s[k] ≠ 0 := by simpa [isLt] using hc
                  have x1 : (((bitS s[k] : Nat) : Int) != 0) = true := by simp only [bne_iff_ne, ne_eq]; omega
                  have hz1 : (s.extract k (k + 1)).size ≤ 1 := by rw [ByteArray.size_extract]; omega
                  have hz2 : (bsk ms).size ≤ s.size := by rw [bsk_size]; omega
                  have HX := Lib.hid (extract_one s k hlt)
                  clear hc hb0
                  go_wp2_with fail
                  refine (BT.out _).mono ?_
                  rintro e w' ⟨rfl, rfl⟩
                  go_wp2_with fail
                  go_round
                  case rel => exact ⟨k + 1, ms ++ [s[k]], by omega, by rw [← Lib.size_eq]; omega, by simp; omega, by go_num, congrArg Value.string (by rw [HX.out, bsk_app]), by rw [← HQ1.out, E.out, List.append_assoc]; rfl, by rw [← HQ2.out, E.out, List.length_cons]; omega⟩
                  case measure => simp [intOf]; omega
                · have hc2 : isLt s[k] = false := by simpa using hc
                  have E := Lib.hid (ltS_stop hkl hc2)
                  have hb0 : bitS s[k] = 0 := by simpa [isLt] using hc2
                  have x1 : (((bitS s[k] : Nat) : Int) != 0) = false := by rw [hb0]; rfl
                  clear hc hc2 hb0
                  go_wp2_with fail
                  refine (BT.out _).mono ?_
                  rintro e w' ⟨rfl, rfl⟩
                  go_wp2_with fail
                  have h1 := HQ1.out
                  have h2 := HQ2.out
                  rw [E.out] at h1 h2
                  rw [List.append_nil] at h1
                  rw [List.length_nil, Nat.add_zero] at h2
                  exact bodyPost_ret (v := placeV (.good v v2 ms k)) (by simp [results, Tryd.results24, go_sem, placeV]) rfl ⟨by rw [HR.out, placeEnd, ← h1, show a2 + ms.length = k from by rw [h1]; exact h2.symm], rfl⟩
              · have E := Lib.hid (ltS_end (l := s.data.toList) (k := k) (by rw [← Lib.size_eq]; omega))
                go_wp2_with fail
                have h1 := HQ1.out
                have h2 := HQ2.out
                rw [E.out] at h1 h2
                rw [List.append_nil] at h1
                rw [List.length_nil, Nat.add_zero] at h2
                exact bodyPost_ret (v := placeV (.good v v2 ms k)) (by simp [results, Tryd.results24, go_sem, placeV]) rfl ⟨by rw [HR.out, placeEnd, ← h1, show a2 + ms.length = k from by rw [h1]; exact h2.symm], rfl⟩
end Go.Proofs.YtbgbmojoldkcfaaDoor
