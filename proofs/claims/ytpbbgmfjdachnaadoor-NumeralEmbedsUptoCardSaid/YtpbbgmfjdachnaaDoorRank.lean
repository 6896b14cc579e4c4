/- Ranks of bytes, and runs without digits compared by them. -/
import Derived.Test.YtpbbgmfjdachnaaDoorTabs
import Derived.Test.YtpbbgmfjdachnaaDoorOrder
namespace Go.Proofs.YtpbbgmfjdachnaaDoor
open Go.RowKit

def RetDrew (w : World) (v : Value) (e : Ending) (w' : World) : Prop := e = .returned v ∧ ∃ n, w' = w.drewN n

theorem compareInt_cmpI (x y : Int) : Lib.compareInt x y = cmpI x y := rfl
theorem cmpInt_ok (x y : Int) (w : World) : Calls Tryd.prog 41 #[.int .i64 x, .int .i64 y] w fun e w' => e = .returned (.int .i64 (cmpI x y)) ∧ w = w' :=
  (Tryd.cmp_Compare_int x y w).mono fun _ _ ⟨h1, h2⟩ => ⟨h1, h2.symm⟩

set_option maxHeartbeats 400000 in
theorem notNaN_ok (x : Int) (w : World) : Calls Tryd.prog 101 #[.int .u8 x] w fun e w' => e = .returned (.bool false) ∧ w = w' := by
  go_enter Tryd.func101, Tryd.ntmps101
  go_wp2_with fail
  go_ret
  exact ⟨rfl, rfl⟩
set_option maxHeartbeats 400000 in
theorem cmpByte_ok (x y : Int) (w : World) : Calls Tryd.prog 78 #[.int .u8 x, .int .u8 y] w fun e w' => e = .returned (.int .i64 (cmpI x y)) ∧ w = w' := by
  by_cases h1 : x < y
  · have E := Lib.hid (show cmpI x y = -1 by unfold cmpI; rw [if_pos h1])
    go_enter Tryd.func78, Tryd.ntmps78
    go_wp2_with (refine (notNaN_ok _ _).mono ?_; rintro e w' ⟨rfl, rfl⟩)
    go_ret
    exact ⟨by rw [E.out]; rfl, rfl⟩
  · by_cases h2 : y < x
    · have E := Lib.hid (show cmpI x y = 1 by unfold cmpI; rw [if_neg h1, if_pos h2])
      have h1' : decide (x < y) = false := decide_eq_false h1
      go_enter Tryd.func78, Tryd.ntmps78
      go_wp2_with (refine (notNaN_ok _ _).mono ?_; rintro e w' ⟨rfl, rfl⟩)
      go_ret
      exact ⟨by rw [E.out]; rfl, rfl⟩
    · have E := Lib.hid (show cmpI x y = 0 by unfold cmpI; rw [if_neg h1, if_neg h2])
      have h1' : decide (x < y) = false := decide_eq_false h1
      have h2' : decide (y < x) = false := decide_eq_false h2
      go_enter Tryd.func78, Tryd.ntmps78
      go_wp2_with (refine (notNaN_ok _ _).mono ?_; rintro e w' ⟨rfl, rfl⟩)
      go_ret
      exact ⟨by rw [E.out]; rfl, rfl⟩

def rowN (k : Nat) : Nat × Nat × Nat := [(0, 47, 55), (58, 64, 103), (65, 90, 3), (91, 96, 110), (97, 122, 29), (123, 125, 116), (126, 126, 1), (127, 255, 119)].getD k (0, 255, 0)
theorem rank_cells {w : World} (T : Tabs w) (k : Nat) (h : k < 8) :
    w.cell? ⟨4, k * 3, none⟩ = some (.int .u8 (rowN k).1) ∧ w.cell? ⟨4, k * 3 + 1, none⟩ = some (.int .u8 (rowN k).2.1) ∧ w.cell? ⟨4, k * 3 + 2, none⟩ = some (.int .u8 (rowN k).2.2) := by
  obtain ⟨t, fr, hb⟩ := T.ranks
  have c : ∀ o v, cRanks[o]? = some v → w.cell? ⟨4, o, none⟩ = some v := fun o v hv => by simp [World.cell?, hb, hv]
  obtain rfl | rfl | rfl | rfl | rfl | rfl | rfl | rfl : k = 0 ∨ k = 1 ∨ k = 2 ∨ k = 3 ∨ k = 4 ∨ k = 5 ∨ k = 6 ∨ k = 7 := by omega
  all_goals exact ⟨c _ _ rfl, c _ _ rfl, c _ _ rfl⟩
theorem rank_of_row (c : UInt8) (k : Nat) (hk : k < 8) (lo : ∀ j, j < k → (rowN j).2.1 < c.toNat) (hi : c.toNat ≤ (rowN k).2.1) :
    (((rowN k).2.2 : Int) + ((c.toNat : Int) - (rowN k).1) % 256) % 256 = rankB c := by
  have hc := c.toNat_lt
  have l := fun j hj => lo j hj
  unfold rankB
  simp only
  obtain rfl | rfl | rfl | rfl | rfl | rfl | rfl | rfl : k = 0 ∨ k = 1 ∨ k = 2 ∨ k = 3 ∨ k = 4 ∨ k = 5 ∨ k = 6 ∨ k = 7 := by omega
  all_goals (try have l0 := l 0 (by omega)); (try have l1 := l 1 (by omega)); (try have l2 := l 2 (by omega)); (try have l3 := l 3 (by omega)); (try have l4 := l 4 (by omega)); (try have l5 := l 5 (by omega)); (try have l6 := l 6 (by omega))
  all_goals clear l lo
  all_goals simp [rowN] at *
  all_goals repeat' split
  all_goals omega
theorem row_last (c : UInt8) (k : Nat) (hk : k < 8) (h : (rowN k).2.1 < c.toNat) : k + 1 < 8 := by
  have hc := c.toNat_lt
  by_cases e : k = 7
  · subst e; have : (rowN 7).2.1 = 255 := rfl; omega
  · omega

def RankRel (w : World) (c : UInt8) (i : Value) (wr : World) : Prop :=
  ∃ k : Nat, k < 8 ∧ i = .int .i64 k ∧ (∀ j, j < k → (rowN j).2.1 < c.toNat) ∧ wr = w

set_option maxHeartbeats 800000 in
theorem rank_ok (c : UInt8) (w : World) (T : Tabs w) : Calls Tryd.prog 106 #[.int .u8 c.toNat] w (RetDrew w (.int .u8 (rankB c))) := by
  have HT := Lib.hid T
  clear T
  go_enter Tryd.func106, Tryd.ntmps106
  go_wp2_with fail
  go_loopw [3] (fun i wr => RankRel w c i wr) (fun i _ => 8 - (intOf i).toNat)
  case atStart => exact ⟨0, by omega, rfl, fun j hj => by omega, rfl⟩
  case round =>
    obtain ⟨k, hk, rfl, hlo, rfl⟩ := hrel
    have HL := Lib.hid hlo
    clear hlo
    obtain ⟨c0, c1, c2⟩ := rank_cells HT.out k hk
    have HR := Lib.hid (rank_of_row c k hk HL.out)
    have HN := Lib.hid (row_last c k hk)
    have HJ := Lib.hid (show ∀ j, j < k + 1 → (rowN k).2.1 < c.toNat → (rowN j).2.1 < c.toNat from fun j hj h => by
      by_cases e : j = k
      · subst e; exact h
      · exact HL.out j (by omega))
    generalize (rowN k).1 = r0 at *
    generalize (rowN k).2.2 = r2 at *
    generalize (rowN k).2.1 = r1 at *
    by_cases h : r1 < c.toNat
    · have t1 : decide ((r1 : Int) < c.toNat) = true := decide_eq_true (by omega)
      have hn := HN.out h
      go_wp2_with fail
      exact ⟨⟨k + 1, hn, by go_num, fun j hj => HJ.out j hj h, rfl⟩, by simp [intOf]; omega⟩
    · have t1 : decide ((r1 : Int) < c.toNat) = false := decide_eq_false (by omega)
      have E := Lib.hid (HR.out (by omega))
      go_wp2_with fail
      go_quiet (fail)
      go_wp2_with fail
      go_ret
      refine ⟨?_, _, rfl⟩
      rw [← E.out]; rfl

/-- The rank of place i of a run. -/
theorem rankAt_ok (s : ByteArray) (i : Nat) (w : World) (T : Tabs w) : Calls Tryd.prog 115 #[.string s, .int .i64 i] w (RetDrew w (.int .u8 (rankAtS s.data.toList i))) := by
  have HT := Lib.hid T
  clear T
  by_cases h : i < s.size
  · have E := Lib.hid (show rankAtS s.data.toList i = rankB s[i] by unfold rankAtS; rw [if_pos (by rw [← Lib.size_eq]; exact h), ← get_atB s i h]; rfl)
    go_enter Tryd.func115, Tryd.ntmps115
    go_wp2_with fail
    refine (rank_ok s[i] _ HT.out).mono ?_
    rintro e w1 ⟨rfl, n, rfl⟩
    go_wp2_with fail
    go_ret
    exact ⟨by rw [E.out]; rfl, n, rfl⟩
  · have E := Lib.hid (show rankAtS s.data.toList i = 2 by unfold rankAtS; rw [if_neg (by rw [← Lib.size_eq]; exact h)])
    go_enter Tryd.func115, Tryd.ntmps115
    go_wp2_with fail
    go_ret
    exact ⟨by rw [E.out]; rfl, 0, rfl⟩

def PlainRel (w : World) (s t : ByteArray) (i : Value) (wr : World) : Prop :=
  ∃ k : Nat, k ≤ max s.size t.size ∧ i = .int .i64 k ∧ (∀ j, j < k → cmpI (rankAtS s.data.toList j) (rankAtS t.data.toList j) = 0) ∧ ∃ n, wr = w.drewN n

set_option maxHeartbeats 800000 in
theorem comparePlain_ok (s t : ByteArray) (w : World) (hs : s.size ≤ 1125899906842624) (ht : t.size ≤ 1125899906842624) (T : Tabs w) :
    Calls Tryd.prog 103 #[.string s, .string t] w (RetDrew w (.int .i64 (cmpPlain s.data.toList t.data.toList))) := by
  have HT := Lib.hid T
  clear T
  have E := Lib.hid (show cmpPlain s.data.toList t.data.toList = firstN (max s.size t.size) (fun i => cmpI (rankAtS s.data.toList i) (rankAtS t.data.toList i)) by unfold cmpPlain; rw [← Lib.size_eq, ← Lib.size_eq])
  obtain ⟨m, hm⟩ : ∃ m, m = max s.size t.size := ⟨_, rfl⟩
  have hmb : m ≤ 1125899906842624 := by omega
  go_enter Tryd.func103, Tryd.ntmps103
  go_wp2_with fail
  have hmx : max (s.size : Int) (t.size : Int) = (m : Int) := by omega
  rw [hmx]
  clear hmx
  go_loopw [12] (fun i wr => PlainRel w s t i wr) (fun i _ => m - (intOf i).toNat)
  case atStart => exact ⟨0, Nat.zero_le _, rfl, fun j hj => by omega, 0, rfl⟩
  case round =>
    obtain ⟨k, hk, rfl, h0, n, rfl⟩ := hrel
    have H0 := Lib.hid h0
    clear h0
    rw [← hm] at hk
    have HM := Lib.hid hm
    clear hm
    by_cases hlt : k < m
    · go_wp2_with fail
      refine (rankAt_ok s k _ (HT.out.drewN n)).mono ?_
      rintro e w1 ⟨rfl, n1, rfl⟩
      go_wp2_with fail
      refine (rankAt_ok t k _ (HT.out.drewN _)).mono ?_
      rintro e w1 ⟨rfl, n2, rfl⟩
      go_wp2_with fail
      refine (cmpByte_ok _ _ _).mono ?_
      rintro e w1 ⟨rfl, rfl⟩
      obtain ⟨c, hc⟩ : ∃ c, c = cmpI (rankAtS s.data.toList k) (rankAtS t.data.toList k) := ⟨_, rfl⟩
      rw [← hc]
      by_cases hz : c = 0
      · have HC := Lib.hid (hc.symm.trans hz)
        clear hc
        subst hz
        go_wp2_with fail
        go_roundw
        case rel => exact ⟨k + 1, by rw [← HM.out]; omega, by go_num, fun j hj => by
            by_cases e : j = k
            · subst e; exact HC.out
            · exact H0.out j (by omega), _, rfl⟩
        case measure => simp [intOf]; omega
      · have t1 : (c != 0) = true := by rw [bne_iff_ne]; exact hz
        have HC := Lib.hid hc
        have HZ := Lib.hid hz
        clear hc hz
        go_wp2_with fail
        go_ret
        refine ⟨?_, _, rfl⟩
        rw [E.out, ← HM.out, firstN_stop k H0.out (by rw [← HC.out]; exact HZ.out) m hlt, ← HC.out]
        rfl
    · have hk' : k = m := by omega
      subst hk'
      go_wp2_with fail
      go_ret
      refine ⟨?_, _, rfl⟩
      rw [E.out, ← HM.out, firstN_zero k H0.out]
      rfl
end Go.Proofs.YtpbbgmfjdachnaaDoor
