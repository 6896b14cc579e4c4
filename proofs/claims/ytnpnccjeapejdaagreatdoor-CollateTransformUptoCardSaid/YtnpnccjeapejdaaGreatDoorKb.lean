/- Where a field begins; how far one goes on from a place. -/
import Derived.Test.YtnpnccjeapejdaaGreatDoorFld
namespace Go.Proofs.YtnpnccjeapejdaaGreatDoor
open Go.RowKit
set_option maxRecDepth 100000

def RetS (w : World) (v : Value) (e : Ending) (w' : World) : Prop := e = .returned v ∧ w = w'
set_option maxHeartbeats 1600000 in
theorem fieldBegin_ok (o : Option UInt8) (s : ByteArray) (n : Nat) (w : World) (h1 : 1 ≤ n) (hn : n ≤ 2147483647) (hs : s.size ≤ 140737488351232) (T : Tabs w) :
    Calls Tryz.prog 106 #[.string s, .int .i64 (tabI o), .int .i64 (n : Int)] w (RetS w (.int .i64 ((fbeg s.data.toList o (n - 1) 0 : Nat) : Int))) := by
  have HT := Lib.hid T
  clear T
  obtain ⟨m, hm⟩ : ∃ m, m = n - 1 := ⟨_, rfl⟩
  rw [← hm]
  have HM := Lib.hid hm
  have im : (n : Int) - 1 = (m : Int) := by omega
  have hsz := Lib.hid (Lib.size_eq s)
  clear hm
  go_enter Tryz.func106, Tryz.ntmps106
  go_wp2_with fail
  clear im
  go_loopw [7, 11] (fun k j wr => ∃ (a b : Nat), a ≤ s.size ∧ b ≤ m ∧ k = .int .i64 (a : Int) ∧ j = .int .i64 (b : Int) ∧ fbeg s.data.toList o m 0 = fbeg s.data.toList o (m - b) a ∧ w = wr) (fun _ j _ => m - (intOf j).toNat)
  case atStart => exact ⟨0, 0, Nat.zero_le _, Nat.zero_le _, rfl, rfl, rfl, rfl⟩
  case round =>
    obtain ⟨a, b, ha, hb, rfl, rfl, he, rfl⟩ := hrel
    have HE := Lib.hid he
    clear he
    have ia : (a : Int) ≤ (s.size : Int) := by omega
    have im2 : (m : Int) ≤ 2147483647 := by have := HM.out; omega
    by_cases hlt : b < m
    · have ib : (b : Int) < (m : Int) := by omega
      obtain ⟨r, hr⟩ : ∃ r, m - b = r + 1 := ⟨m - b - 1, by omega⟩
      have FE := Lib.hid (fieldEnd_ok o s a w ha hs HT.out)
      have GA := Lib.hid (fun W => gap_ok o W)
      have hfe := fend_le s.data.toList o a (by rw [← hsz.out]; exact ha)
      rw [← hsz.out] at hfe
      by_cases hend : fend s.data.toList o a = s.size
      · have HV := Lib.hid (show fbeg s.data.toList o m 0 = s.size by rw [HE.out, hr, fbeg, if_pos (by rw [hend, hsz.out]), ← hsz.out])
        rw [hend] at FE
        clear hend hr HE hfe
        go_wp2_with fail
        refine FE.out.mono ?_
        rintro e w' ⟨rfl, rfl⟩
        go_wp2_with fail
        go_ret
        exact ⟨by rw [HV.out]; rfl, rfl⟩
      · have hnx := fend_next s.data.toList o a (by rw [← hsz.out]; exact ha) (by rw [← hsz.out]; exact hend)
        have HV := Lib.hid (show fbeg s.data.toList o m 0 = fbeg s.data.toList o (m - (b + 1)) (fend s.data.toList o a + gapN o) by rw [HE.out, hr, fbeg, if_neg (by rw [← hsz.out]; exact hend), show m - (b + 1) = r by omega])
        rw [← hsz.out] at hnx
        have hg1 : gapN o ≤ 1 := by unfold gapN; split <;> omega
        generalize fend s.data.toList o a = e1 at *
        obtain ⟨gg, hgg⟩ : ∃ gg, gg = gapN o := ⟨_, rfl⟩
        have GA2 : Hid (∀ W, Calls Tryz.prog 123 #[.int .i64 (tabI o)] W (RetS W (.int .i64 (gg : Int)))) := Lib.hid (by rw [hgg]; exact GA.out)
        rw [← hgg] at hnx HV hg1
        have q1 : ((e1 : Int) == (s.size : Int)) = false := by simp; omega
        have q2 : (e1 == s.size) = false := by simpa using hend
        have KEY : Hid (∃ (a' b' : Nat), a' ≤ s.size ∧ b' ≤ m ∧ (Value.int .i64 ((e1 : Int) + (gg : Int))) = .int .i64 (a' : Int) ∧ (Value.int .i64 ((b : Int) + 1)) = .int .i64 (b' : Int) ∧ fbeg s.data.toList o m 0 = fbeg s.data.toList o (m - b') a' ∧ w = w) := Lib.hid ⟨e1 + gg, b + 1, hnx.2, hlt, by simp, by simp, HV.out, rfl⟩
        clear hend hr HE hnx HV GA hgg
        go_wp2_with fail
        refine FE.out.mono ?_
        rintro e w' ⟨rfl, rfl⟩
        go_wp2_with fail
        refine (GA2.out _).mono ?_
        rintro e w' ⟨rfl, rfl⟩
        go_wp2_with fail
        refine ⟨?_, by simp [intOf]; omega⟩
        exact KEY.out
    · have hbm : b = m := by omega
      have HV := Lib.hid (show fbeg s.data.toList o m 0 = a by rw [HE.out, hbm, Nat.sub_self, fbeg])
      clear HE
      subst hbm
      go_wp2_with fail
      go_ret
      exact ⟨by rw [HV.out]; rfl, rfl⟩
set_option maxHeartbeats 800000 in
theorem further_ok (s : ByteArray) (k n : Nat) (bl : Bool) (w : World) (hk : k ≤ s.size) (hn : n ≤ 2147483647) (hs : s.size ≤ 140737488351232) (T : Tabs w) :
    Calls Tryz.prog 107 #[.string s, .int .i64 (k : Int), .bool bl, .int .i64 (n : Int)] w (RetS w (.int .i64 ((furS s.data.toList k bl n : Nat) : Int))) := by
  have HB := Lib.hid (behind_ok s k w hk hs T)
  have hsz := Lib.size_eq s
  have hbl := behB_le s.data.toList k (by rw [← hsz]; exact hk)
  unfold furS
  rw [← hsz] at hbl ⊢
  cases bl with
  | false =>
    simp only [Bool.false_eq_true, if_false]
    clear HB hbl hsz T
    go_enter Tryz.func107, Tryz.ntmps107
    go_wp2_with fail
    go_ret
    exact ⟨ret_int (by omega), rfl⟩
  | true =>
    simp only [if_true]
    unfold behB at *
    generalize nxt (fun c => !isBl c) s.data.toList k = r at *
    clear hsz T
    go_enter Tryz.func107, Tryz.ntmps107
    go_wp2_with fail
    refine HB.out.mono ?_
    rintro e w' ⟨rfl, rfl⟩
    go_wp2_with fail
    go_ret
    exact ⟨ret_int (by omega), rfl⟩
end Go.Proofs.YtnpnccjeapejdaaGreatDoor
