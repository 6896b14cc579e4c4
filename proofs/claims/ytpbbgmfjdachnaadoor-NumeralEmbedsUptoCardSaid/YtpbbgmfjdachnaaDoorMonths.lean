/- NumeralMonths: the walk. -/
import Derived.Test.YtpbbgmfjdachnaaDoorTabs
import Derived.Lib.ConvBytes
import Derived.Laws.IdiomStrings
import Derived.Laws.BytesArg
namespace Go.Proofs.YtpbbgmfjdachnaaDoor
open Go.RowKit

theorem compareInt_cmpI (x y : Int) : Lib.compareInt x y = cmpI x y := by
  unfold Lib.compareInt cmpI
  rfl

set_option maxHeartbeats 800000 in
theorem compare_months (s t : ByteArray) (w : World) (hs : s.size ≤ maxLen) (ht : t.size ≤ maxLen) (T : Tabs w) :
    Calls Tryd.prog 21 #[.int .u16 128, .string s, .string t] w (RetBelow w (.int .i64 (cmpI (monthS s.data.toList) (monthS t.data.toList)))) := by
  have HT := Lib.hid T
  clear T
  go_enter Tryd.func21, Tryd.ntmps21
  go_wp2_with fail
  with_reducible refine (month_ok s w hs HT.out).mono ?_
  rintro e w1 ⟨rfl, hb1⟩
  have T1 := Lib.hid (HT.out.below hb1)
  have B1 := Lib.hid hb1
  clear hb1
  go_wp2_with fail
  with_reducible refine (month_ok t w1 ht T1.out).mono ?_
  rintro e w2 ⟨rfl, hb2⟩
  have B2 := Lib.hid (B1.out.trans (hb2.mono B1.out.size))
  clear hb2
  go_wp2_with fail
  refine (Tryd.cmp_Compare_int _ _ _).mono ?_
  rintro e w3 ⟨rfl, rfl⟩
  go_wp2_with fail
  go_ret
  exact ⟨by rw [compareInt_cmpI]; rfl, B2.out⟩

/-- The names' text. -/
abbrev gNames : ByteArray := ⟨#[74, 65, 78, 70, 69, 66, 77, 65, 82, 65, 80, 82, 77, 65, 89, 74, 85, 78, 74, 85, 76, 65, 85, 71, 83, 69, 80, 79, 67, 84, 78, 79, 86, 68, 69, 67]⟩

/-- The three letters of a month, great. -/
def uM (m : Nat) : List UInt8 := (gNames.extract (3 * m) (3 * m + 3)).data.toList
def uAt (m j : Nat) : UInt8 := (uM m).getD j 0
def bitOf (small : UInt8) (j : Nat) : Bool := bits .and .u8 ((small.toNat : Int) / 2 ^ j) 1 == 1
def lowM (m : Nat) (b0 b1 b2 : Bool) : List UInt8 :=
  [uAt m 0 + (if b0 then 32 else 0), uAt m 1 + (if b1 then 32 else 0), uAt m 2 + (if b2 then 32 else 0)]
/-- Letter j behind k rounds. -/
def letter (m : Nat) (small : UInt8) (k j : Nat) : Int := (uAt m j).toNat + (if j < k ∧ bitOf small j = true then 32 else 0)

def MLRel (w : World) (m : Nat) (small : UInt8) (i : Value) (wr : World) : Prop :=
  ∃ k : Nat, k ≤ 3 ∧ i = .int .i64 k ∧ Below w.heap.size w wr ∧ w.heap.size < wr.heap.size ∧
    ∀ j, j < 3 → wr.cell? ⟨w.heap.size, j, none⟩ = some (.int .u8 (letter m small k j)) ∧ wr.frozen? ⟨w.heap.size, j, none⟩ = false

theorem below_bytes (w : World) (e : TypeId) (s : ByteArray) : Below w.heap.size w (Lib.bytesWorld w e s) :=
  ⟨rfl, rfl, rfl, by rw [Lib.bytesWorld_size]; omega, fun k hk => Lib.bytesWorld_at_old w e s k hk⟩
theorem bytes_frozen (w : World) (e : TypeId) (s : ByteArray) (j : Nat) (hj : j < s.size) : (Lib.bytesWorld w e s).frozen? ⟨w.heap.size, j, none⟩ = false := by
  have h := Lib.bytesWorld_at_new w e s
  have hz : s.size ≤ (Lib.bytesCells w e s).size := by simp [Lib.bytesCells]
  unfold World.frozen?
  simp only [h]
  simp
  omega
/-- A month's letters. -/
theorem uM_lt {m j : Nat} (hm : m ≤ 11) (hj : j < 3) : (uAt m j).toNat ≤ 90 := by
  obtain rfl | rfl | rfl : j = 0 ∨ j = 1 ∨ j = 2 := by omega
  all_goals
    obtain rfl | rfl | rfl | rfl | rfl | rfl | rfl | rfl | rfl | rfl | rfl | rfl : m = 0 ∨ m = 1 ∨ m = 2 ∨ m = 3 ∨ m = 4 ∨ m = 5 ∨ m = 6 ∨ m = 7 ∨ m = 8 ∨ m = 9 ∨ m = 10 ∨ m = 11 := by omega
  all_goals decide +kernel
theorem letter_lo (m : Nat) (small : UInt8) (k : Nat) : letter m small k k = (uAt m k).toNat := by
  unfold letter; rw [if_neg (by omega)]; omega
theorem letter_hit {m : Nat} {small : UInt8} {k : Nat} (h : bitOf small k = true) : letter m small (k + 1) k = (uAt m k).toNat + 32 := by
  unfold letter; rw [if_pos ⟨by omega, h⟩]
theorem letter_miss {m : Nat} {small : UInt8} {k : Nat} (h : bitOf small k = false) (j : Nat) : letter m small (k + 1) j = letter m small k j := by
  unfold letter
  by_cases e : j = k
  · subst e; rw [if_neg (by simp [h]), if_neg (by omega)]
  · by_cases e2 : j < k
    · simp [e2, show j < k + 1 by omega]
    · simp [e2, show ¬ j < k + 1 by omega]
theorem letter_other {m : Nat} {small : UInt8} {k j : Nat} (h : j ≠ k) : letter m small (k + 1) j = letter m small k j := by
  unfold letter
  by_cases e2 : j < k
  · simp [e2, show j < k + 1 by omega]
  · simp [e2, show ¬ j < k + 1 by omega]
/-- The letters as they stand behind the loop. -/
def wordM (m : Nat) (small : UInt8) : List UInt8 := lowM m (bitOf small 0) (bitOf small 1) (bitOf small 2)
theorem wordM_letter {m : Nat} (hm : m ≤ 11) (small : UInt8) (j : Nat) (hj : j < (wordM m small).length) : letter m small 3 j = ((wordM m small)[j]).toNat := by
  have hj3 : j < 3 := hj
  have h := uM_lt hm hj3
  have add : ∀ (u : UInt8) (b : Bool), u.toNat ≤ 90 → (((u + if b = true then 32 else 0 : UInt8).toNat : Nat) : Int) = (u.toNat : Int) + (if b = true then 32 else 0) := fun u b hu => by
    cases b
    · simp
    · simp [UInt8.toNat_add]; omega
  unfold letter
  obtain rfl | rfl | rfl : j = 0 ∨ j = 1 ∨ j = 2 := by omega
  all_goals simp only [show (0 : Nat) < 3 by omega, show (1 : Nat) < 3 by omega, show (2 : Nat) < 3 by omega, true_and]
  all_goals exact (add _ _ h).symm
theorem wordM_all {m : Nat} (hm : m ≤ 11) (small : UInt8) (tail : List UInt8) :
    monthS (wordM m small ++ tail) = m + 1 ∧ monthS ([32, 9] ++ (wordM m small ++ tail)) = m + 1 ∧ monthS ([120] ++ (wordM m small ++ tail)) = 0 ∧ monthS ((wordM m small).take 2 ++ ([45] ++ tail)) = 0 := by
  unfold wordM
  generalize bitOf small 0 = b0
  generalize bitOf small 1 = b1
  generalize bitOf small 2 = b2
  cases b0 <;> cases b1 <;> cases b2
  all_goals
    obtain rfl | rfl | rfl | rfl | rfl | rfl | rfl | rfl | rfl | rfl | rfl | rfl : m = 0 ∨ m = 1 ∨ m = 2 ∨ m = 3 ∨ m = 4 ∨ m = 5 ∨ m = 6 ∨ m = 7 ∨ m = 8 ∨ m = 9 ∨ m = 10 ∨ m = 11 := by omega
  all_goals exact ⟨by kernel_rfl, by kernel_rfl, by kernel_rfl, by kernel_rfl⟩
set_option maxRecDepth 100000
set_option maxHeartbeats 1600000 in
theorem months_law (m : Nat) (hm : m ≤ 11) (small : UInt8) (tail : ByteArray) (w : World) (hs : tail.size ≤ 140737488351232) (T : Tabs w) :
    Calls Tryd.prog 4 #[.int .i64 m, .int .u8 small.toNat, .string tail] w (RetBelow w (.bool true)) := by
  have HT := Lib.hid T
  clear T
  have hconv := fun (s : ByteArray) => Lib.run_convert_string_bytes (P := Tryd.prog) w 9 23 5 s Tryd.underlying9 Tryd.underlying23 Tryd.underlying5
  go_enter Tryd.func4, Tryd.ntmps4
  go_wp2_with fail
  clear hconv
  have hx3 : (gNames.extract (3 * m) (3 * m + 3)).size = 3 := by
    have : gNames.size = 36 := rfl
    rw [ByteArray.size_extract, this]; omega
  have hmin : min (3 * m + 3) 36 - 3 * m = 3 := by omega
  rw [hmin]
  clear hmin
  have hcells : ∀ j, j < 3 → (Lib.bytesWorld w 5 (gNames.extract (3 * m) (3 * m + 3))).cell? ⟨w.heap.size, j, none⟩ = some (.int .u8 (letter m small 0 j)) ∧ (Lib.bytesWorld w 5 (gNames.extract (3 * m) (3 * m + 3))).frozen? ⟨w.heap.size, j, none⟩ = false := fun j hj =>
    ⟨by rw [Lib.bytesWorld_cell w 5 _ j (by omega)]; simp [letter, uAt, uM], bytes_frozen w 5 _ j (by omega)⟩
  have hbel := below_bytes w 5 (gNames.extract (3 * m) (3 * m + 3))
  have hsz : w.heap.size < (Lib.bytesWorld w 5 (gNames.extract (3 * m) (3 * m + 3))).heap.size := by rw [Lib.bytesWorld_size]; omega
  have HC := Lib.hid hcells
  have HB := Lib.hid hbel
  clear hcells hbel hx3
  generalize Lib.bytesWorld w 5 (gNames.extract (3 * m) (3 * m + 3)) = w1 at *
  obtain ⟨B, hB⟩ : ∃ B, B = w.heap.size := ⟨_, rfl⟩
  have HB2 := Lib.hid hB
  rw [← hB]
  clear hB
  go_loopw [8] (fun i wr => MLRel w m small i wr) (fun i _ => 3 - (intOf i).toNat)
  case atStart => exact ⟨0, by omega, rfl, HB.out, hsz, HC.out⟩
  case round =>
    obtain ⟨k, hk, rfl, hb, hz, hc⟩ := hrel
    have HK := Lib.hid hb
    have HCC := Lib.hid hc
    clear hb hc
    by_cases hlt : k < 3
    · obtain ⟨hc1, hf1⟩ := HCC.out k hlt
      rw [← HB2.out] at hc1 hf1
      have hu := uM_lt hm hlt
      rw [letter_lo] at hc1
      cases hbit : bitOf small k with
      | true =>
        have t1 : (bits .and .u8 ((small.toNat : Int) / 2 ^ k) 1 == 1) = true := hbit
        have HBIT := Lib.hid hbit
        clear hbit
        go_wp2_with fail
        refine ⟨⟨k + 1, by omega, by go_num, ?_, ?_, fun j hj => ?_⟩, by simp [intOf]; omega⟩
        · exact HK.out.setCell (by rw [HB2.out]; exact Nat.le_refl _) _
        · simpa using hz
        · rw [← HB2.out]
          obtain ⟨d1, d2⟩ := HCC.out j hj
          rw [← HB2.out] at d1 d2
          by_cases e : j = k
          · subst e
            refine ⟨?_, by rw [World.frozen?_setCell]; exact d2⟩
            rw [World.cell?_setCell_same _ _ _ d1, letter_hit HBIT.out]
          · rw [letter_other e, World.frozen?_setCell, World.cell?_setCell_other _ _ _ _ (by simp; try omega)]
            exact ⟨d1, d2⟩
      | false =>
        have t1 : (bits .and .u8 ((small.toNat : Int) / 2 ^ k) 1 == 1) = false := hbit
        have HBIT := Lib.hid hbit
        clear hbit
        go_wp2_with fail
        exact ⟨⟨k + 1, by omega, by go_num, HK.out, hz, fun j hj => by rw [letter_miss HBIT.out]; exact HCC.out j hj⟩, by simp [intOf]; omega⟩
    · have hk' : k = 3 := by omega
      subst hk'
      have hback : ∀ c : Nat, (convert 23 9 (.slice (some ⟨B, 0, none⟩) 3 c)).run Tryd.prog wr = .ok (.string (bs (wordM m small))) wr := fun c =>
        run_convert_bytes_back (l := wordM m small) wr 23 9 5 ⟨B, 0, none⟩ c Tryd.underlying23 Tryd.underlying5 Tryd.underlying9 (fun j hj => by
          have h3 : j < 3 := hj
          have := (HCC.out j h3).1
          rw [wordM_letter hm small j hj, ← HB2.out] at this
          have e : (⟨B, 0, none⟩ : Addr).add j = ⟨B, j, none⟩ := by unfold Addr.add; split <;> simp_all
          rw [e]; exact this)
      have hl3 : (bs (wordM m small)).size = 3 := by rw [bs_size]; rfl
      obtain ⟨f1, f2, f3, f4⟩ := wordM_all hm small tail.data.toList
      have g1 : ∀ a b : ByteArray, (a ++ b).data.toList = a.data.toList ++ b.data.toList := fun a b => by simp
      have H1 := Lib.hid (show monthS (bs (wordM m small) ++ tail).data.toList = m + 1 by rw [g1, bs_list]; exact f1)
      have H2 := Lib.hid (show monthS (⟨#[32, 9]⟩ ++ bs (wordM m small) ++ tail).data.toList = m + 1 by rw [g1, g1, bs_list, List.append_assoc]; exact f2)
      have H3 := Lib.hid (show monthS (⟨#[120]⟩ ++ bs (wordM m small) ++ tail).data.toList = 0 by rw [g1, g1, bs_list, List.append_assoc]; exact f3)
      have H4 := Lib.hid (show monthS ((bs (wordM m small)).extract 0 2 ++ ⟨#[45]⟩ ++ tail).data.toList = 0 by rw [g1, g1, List.append_assoc]; exact f4)
      clear f1 f2 f3 f4 g1
      generalize bs (wordM m small) = word at *
      have hcat : ∀ a b : ByteArray, (a ++ b).size = a.size + b.size := fun a b => by simp
      have z0 : (⟨#[32, 9]⟩ : ByteArray).size = 2 := rfl
      have z1 : (⟨#[120]⟩ : ByteArray).size = 1 := rfl
      have z2 : (⟨#[45]⟩ : ByteArray).size = 1 := rfl
      have S2 := Lib.hid (show (⟨#[32, 9]⟩ ++ word ++ tail).size ≤ maxLen by rw [hcat, hcat, z0, hl3]; unfold maxLen; omega)
      have S3 := Lib.hid (show (⟨#[120]⟩ ++ word ++ tail).size ≤ maxLen by rw [hcat, hcat, z1, hl3]; unfold maxLen; omega)
      have S4 := Lib.hid (show (word.extract 0 2 ++ ⟨#[45]⟩ ++ tail).size ≤ maxLen by rw [hcat, hcat, z2, ByteArray.size_extract, hl3]; unfold maxLen; omega)
      have S1 := Lib.hid (show (word ++ tail).size ≤ maxLen by rw [hcat, hl3]; unfold maxLen; omega)
      clear hcat z0 z1 z2
      have T1 := HT.out.below HK.out
      have HT1 := Lib.hid T1
      clear T1
      go_wp2_with fail
      with_reducible refine (month_ok (word ++ tail) wr S1.out HT1.out).mono ?_
      rintro e w2 ⟨rfl, hb2⟩
      rw [H1.out]
      have HT2 := Lib.hid (HT1.out.below hb2)
      have B2 := Lib.hid (HK.out.trans (hb2.mono HK.out.size))
      clear hb2
      go_wp2_with fail
      with_reducible refine (month_ok (⟨#[32, 9]⟩ ++ word ++ tail) _ S2.out HT2.out).mono ?_
      rintro e w3 ⟨rfl, hb3⟩
      rw [H2.out]
      have HT3 := Lib.hid (HT2.out.below hb3)
      have B3 := Lib.hid (B2.out.trans (hb3.mono B2.out.size))
      clear hb3
      go_wp2_with fail
      with_reducible refine (month_ok (⟨#[120]⟩ ++ word ++ tail) _ S3.out HT3.out).mono ?_
      rintro e w4 ⟨rfl, hb4⟩
      rw [H3.out]
      have HT4 := Lib.hid (HT3.out.below hb4)
      have B4 := Lib.hid (B3.out.trans (hb4.mono B3.out.size))
      clear hb4
      go_wp2_with fail
      with_reducible refine (month_ok (word.extract 0 2 ++ ⟨#[45]⟩ ++ tail) _ S4.out HT4.out).mono ?_
      rintro e w5 ⟨rfl, hb5⟩
      rw [H4.out]
      have HT5 := Lib.hid (HT4.out.below hb5)
      have B5 := Lib.hid (B4.out.trans (hb5.mono B4.out.size))
      clear hb5
      go_wp2_with fail
      with_reducible refine (compare_months ⟨#[120]⟩ (word ++ tail) _ (by decide) S1.out HT5.out).mono ?_
      rintro e w6 ⟨rfl, hb6⟩
      have e6 : cmpI (monthS (⟨#[120]⟩ : ByteArray).data.toList) (monthS (word ++ tail).data.toList) = -1 := by
        rw [H1.out, show monthS (⟨#[120]⟩ : ByteArray).data.toList = 0 from by decide +kernel]
        unfold cmpI; rw [if_pos (by omega)]
      rw [e6]
      have B6 := Lib.hid (B5.out.trans (hb6.mono B5.out.size))
      clear hb6 e6
      go_wp2_with fail
      go_ret
      exact ⟨rfl, B6.out⟩
set_option maxHeartbeats 400000 in
theorem months_out (m : Int) (hm : m < 0 ∨ 11 < m) (small : Int) (tail : ByteArray) (w : World) :
    Calls Tryd.prog 4 #[.int .i64 m, .int .u8 small, .string tail] w (RetBelow w (.bool true)) := by
  rcases hm with h | h
  · go_enter Tryd.func4, Tryd.ntmps4
    go_wp2_with fail
    go_ret
    exact ⟨rfl, Below.refl _ _⟩
  · have h0 : ¬ m < 0 := by omega
    go_enter Tryd.func4, Tryd.ntmps4
    go_wp2_with fail
    go_ret
    exact ⟨rfl, Below.refl _ _⟩
theorem months_all (m : Int) (small : Int) (hs : 0 ≤ small ∧ small < 256) (tail : ByteArray) (w : World) (ht : tail.size ≤ 140737488351232) (T : Tabs w) :
    Calls Tryd.prog 4 #[.int .i64 m, .int .u8 small, .string tail] w (RetBelow w (.bool true)) := by
  by_cases h : 0 ≤ m ∧ m ≤ 11
  · obtain ⟨n, rfl⟩ : ∃ n : Nat, m = n := ⟨m.toNat, by omega⟩
    obtain ⟨u, rfl⟩ : ∃ u : UInt8, small = u.toNat := ⟨UInt8.ofNat small.toNat, by simp; omega⟩
    exact months_law n (by omega) u tail w ht T
  · exact months_out m (by omega) small tail w
theorem months_card (m small : Int) (tail : ByteArray) (_ : -9223372036854775808 ≤ m ∧ m ≤ 9223372036854775807) (hs : 0 ≤ small ∧ small < 256) (ht : tail.size ≤ 140737488351232) (w : World) (T : Tabs w) :
    Calls Tryd.prog 4 #[.int .i64 m, .int .u8 small, .string tail] w (RetBelow w (.bool true)) := months_all m small hs tail w ht T
end Go.Proofs.YtpbbgmfjdachnaaDoor
