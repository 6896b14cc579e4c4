/- A name in diagnostics: Shown of the document. -/
import Derived.Test.YtlohgcdonenmeaaDoorNm
namespace Go.Proofs.YtlohgcdonenmeaaDoor
open Go.RowKit
set_option maxRecDepth 100000

theorem bs_cat (a b : List UInt8) : bs a ++ bs b = bs (a ++ b) := by
  apply ByteArray.ext; simp [bs]
theorem hex_cut (k : Nat) (h : k < 16) : hexS.extract k (k + 1) = bs [hx k] := by
  obtain rfl | rfl | rfl | rfl | rfl | rfl | rfl | rfl | rfl | rfl | rfl | rfl | rfl | rfl | rfl | rfl : k = 0 ∨ k = 1 ∨ k = 2 ∨ k = 3 ∨ k = 4 ∨ k = 5 ∨ k = 6 ∨ k = 7 ∨ k = 8 ∨ k = 9 ∨ k = 10 ∨ k = 11 ∨ k = 12 ∨ k = 13 ∨ k = 14 ∨ k = 15 := by omega
  all_goals (apply ByteArray.ext; rfl)
theorem extract_one (s : ByteArray) (k : Nat) (h : k < s.size) : s.extract k (k + 1) = bs [s[k]] := by
  have hl : k < s.data.toList.length := by rw [← Lib.size_eq]; exact h
  have h1 : (s.extract k (k + 1)).data.toList = [s[k]] := by
    rw [Lib.extract_data, List.drop_eq_getElem_cons hl, show k + 1 - k = 1 by omega]
    rfl
  apply ByteArray.ext
  apply Array.toList_inj.1
  rw [h1, bs_list]
def ShRel (w : World) (s : ByteArray) (o i : Value) (wr : World) : Prop :=
  ∃ k, k ≤ s.size ∧ o = .string (bs (shS (s.data.toList.take k))) ∧ i = .int .i64 k ∧ Below w.heap.size w wr
set_option maxHeartbeats 4000000 in
theorem shown_ok (s : ByteArray) (hs : s.size ≤ 1099511627776) (w : World) : Calls Tryd.prog 11 #[.string s] w (RetBelow w (.string (bs (shS s.data.toList)))) := by
  have HS := Lib.hid hs
  clear hs
  go_enter Tryd.func11, Tryd.ntmps11
  go_wp2_with fail
  go_loopw [4, 5] (fun o i wr => ShRel w s o i wr) (fun _ i _ => s.size - (intOf i).toNat)
  case atStart => exact ⟨0, Nat.zero_le _, by simp [shS, bs], rfl, Below.refl _ _⟩
  case round =>
    obtain ⟨k, hk, rfl, rfl, hb⟩ := hrel
    have HB := Lib.hid hb
    clear hb
    by_cases hlt : k < s.size
    · have t0 : decide (k < s.size) = true := decide_eq_true hlt
      have hk' : k < s.data.toList.length := by rw [← Lib.size_eq]; exact hlt
      have hnx : shS (s.data.toList.take (k + 1)) = shS (s.data.toList.take k) ++ shB (s[k]'hlt) := by
        rw [List.take_succ_eq_append_getElem hk', shS_snoc]; rfl
      have hcut : s.extract k (k + 1) = bs [s[k]'hlt] := extract_one s k hlt
      have hln : (shS (s.data.toList.take k)).length ≤ 4398046511104 := by
        have := shS_len (s.data.toList.take k)
        have := HS.out
        rw [List.length_take, ← Lib.size_eq] at *
        omega
      have HN := Lib.hid hnx
      have HL := Lib.hid hln
      clear hnx hln hk'
      have hsz : ∀ l : List UInt8, l.length ≤ 4 → ¬ 9223372036854775807 < (bs l).size + (bs (shS (s.data.toList.take k))).size := by
        intro l hl; have := HL.out; rw [bs_size, bs_size]; omega
      have HZ := Lib.hid hsz
      clear hsz
      have hc256 := (s[k]'hlt).toNat_lt
      generalize shS (s.data.toList.take k) = A at *
      have fin : ∀ (wx : World), Below w.heap.size wr wx → ∀ (X : ByteArray), X = bs (A ++ shB (s[k]'hlt)) → ShRel w s (.string X) (.int .i64 (wrap64 ((k : Int) + 1))) wx ∧ s.size - (intOf (.int .i64 (wrap64 ((k : Int) + 1)))).toNat < s.size - (intOf (.int .i64 (k : Int))).toNat := by
        intro wx hb X hX
        have hs := HS.out
        have e : wrap64 ((k : Int) + 1) = ((k + 1 : Nat) : Int) := by unfold wrap64; omega
        rw [e]
        refine ⟨⟨k + 1, hlt, by rw [hX, HN.out], rfl, HB.out.trans hb⟩, ?_⟩
        have e1 : ∀ m : Nat, (intOf (.int .i64 (m : Int))).toNat = m := fun m => by show ((m : Int)).toNat = m; exact Int.toNat_natCast m
        rw [e1, e1]
        omega
      have FIN := Lib.hid fin
      clear fin HN
      by_cases e1 : (s[k]'hlt).toNat = 92
      · have t1 : decide (((s[k]'hlt).toNat : Int) = 92) = true := decide_eq_true (by omega)
        have t1' : (((s[k]'hlt).toNat : Int) == 92) = true := by simp; omega
        have E := Lib.hid (show shB (s[k]'hlt) = [92, 92] by unfold shB; rw [if_pos e1])
        have z1 : ¬ 9223372036854775807 < (⟨#[92, 92]⟩ : ByteArray).size + (bs A).size := HZ.out [92, 92] (by decide)
        clear e1
        go_wp2_with fail
        exact FIN.out _ (Below.refl _ _) _ (by rw [E.out, ← bs_cat]; rfl)
      · have f1 : decide (((s[k]'hlt).toNat : Int) = 92) = false := decide_eq_false (by omega)
        have f1' : (((s[k]'hlt).toNat : Int) == 92) = false := by simp; omega
        by_cases e2 : (s[k]'hlt).toNat < 32 ∨ 127 ≤ (s[k]'hlt).toNat
        · have E := Lib.hid (show shB (s[k]'hlt) = [92, 120, hx ((s[k]'hlt).toNat / 16), hx ((s[k]'hlt).toNat % 16)] by unfold shB; rw [if_neg e1, if_pos e2])
          have tt : (decide (((s[k]'hlt).toNat : Int) < 32) || decide (127 ≤ ((s[k]'hlt).toNat : Int))) = true := by
            rw [Bool.or_eq_true, decide_eq_true_eq, decide_eq_true_eq]; omega
          have z1 : ¬ 9223372036854775807 < (bs A).size + (⟨#[92, 120]⟩ : ByteArray).size := by have := HZ.out [92, 120] (by decide); rw [Nat.add_comm]; exact this
          have z2 : ∀ a : ByteArray, a.size ≤ 2 → ¬ 9223372036854775807 < (bs A ++ ⟨#[92, 120]⟩).size + a.size := by
            intro a ha; have := HL.out; rw [show (⟨#[92, 120]⟩ : ByteArray) = bs [92, 120] from rfl, bs_cat, bs_size]; simp; omega
          have z3 : ∀ a b : UInt8, ¬ 9223372036854775807 < (bs A ++ ⟨#[92, 120]⟩ ++ bs [a]).size + (bs [b]).size := by
            intro a b; have := HL.out; rw [show (⟨#[92, 120]⟩ : ByteArray) = bs [92, 120] from rfl, bs_cat, bs_cat, bs_size, bs_size]; simp; omega
          go_wp2_with fail
          all_goals (
            rw [show (⟨#[48, 49, 50, 51, 52, 53, 54, 55, 56, 57, 97, 98, 99, 100, 101, 102]⟩ : ByteArray) = hexS from rfl]
            have hh : hexS.size = 16 := rfl
            generalize hq : (s[k]'hlt).toNat = c at *
            obtain ⟨q, e1q⟩ : ∃ q, q = c / 16 := ⟨_, rfl⟩
            obtain ⟨r, e1r⟩ : ∃ r, r = c % 16 := ⟨_, rfl⟩
            have q1 : (c : Int) / 16 = (q : Int) := by omega
            have r1 : (c : Int) % 16 = (r : Int) := by omega
            have q16 : q < 16 := by omega
            have r16 : r < 16 := by omega
            have zq := hex_cut q q16
            have zr := hex_cut r r16
            have E2 := Lib.hid (show shB (s[k]'hlt) = [92, 120, hx q, hx r] by rw [E.out, e1q, e1r])
            clear E e1q e1r e1 e2 hq hc256 f1 f1' tt hcut
            generalize hH : hexS = HX at *
            have HH := Lib.hid hH
            clear hH
            have y2 := z2 (bs [hx q]) (by rw [bs_size]; simp)
            have y3 := z3 (hx q) (hx r)
            clear z2 z3
            generalize hP : (⟨#[92, 120]⟩ : ByteArray) = P at *
            go_quiet (fail)
            try clear y2 y3 z1
            have hH := HH.out
            subst hH
            unfold hexS
            go_wp2_with fail
            refine FIN.out _ ?_ _ ?_
            · exact (below_drewN _ _).mono HB.out.size
            · rw [E2.out, ← hP, show (⟨#[92, 120]⟩ : ByteArray) = bs [92, 120] from rfl, bs_cat, bs_cat, bs_cat]
              congr 1
              simp)
        · have E := Lib.hid (show shB (s[k]'hlt) = [s[k]'hlt] by unfold shB; rw [if_neg e1, if_neg e2])
          have g1 : decide (((s[k]'hlt).toNat : Int) < 32) = false := decide_eq_false (by omega)
          have g2 : decide (127 ≤ ((s[k]'hlt).toNat : Int)) = false := decide_eq_false (by omega)
          have z1 : ¬ 9223372036854775807 < (bs [s[k]'hlt]).size + (bs A).size := HZ.out [s[k]'hlt] (by simp)
          have w1 : wrap64 ((k : Int) + 1) = ((k + 1 : Nat) : Int) := by have := HS.out; unfold wrap64; omega
          clear e1 e2
          go_wp2_with fail
          rw [bs_cat]
          exact FIN.out _ (Below.refl _ _) _ (by rw [E.out])
    · have t0 : decide (k < s.size) = false := decide_eq_false hlt
      obtain rfl : k = s.size := by omega
      go_wp2_with fail
      go_ret
      refine ⟨?_, HB.out⟩
      rw [Lib.size_eq, List.take_length]
      rfl
end Go.Proofs.YtlohgcdonenmeaaDoor
