/- Decimal, the document's. -/
import Derived.Test.YtbgbmojoldkcfaaDoorKtR
import Derived.Test.YtbgbmojoldkcfaaDoorRk
import Derived.Laws.BytesString
namespace Go.Proofs.YtbgbmojoldkcfaaDoor
open Go.RowKit

def RetS (w : World) (l : List UInt8) (e : Ending) (w' : World) : Prop := e = .returned (.string (bsk l)) ∧ Below w.heap.size w w'
def upI (n : Int) : Int := if n < 0 then 0 else n
def RetU (w : World) (n : Int) (e : Ending) (w' : World) : Prop := e = .returned (.int .i64 n) ∧ w = w'
theorem up_ok (n : Int) (w : World) : Calls Tryd.prog 44 #[.int .i64 n] w (RetU w (upI n)) := by
  by_cases h : n < 0
  · have t1 : decide (n < 0) = true := by simpa using h
    have E := Lib.hid (show upI n = 0 by unfold upI; rw [if_pos h])
    clear h
    go_enter Tryd.func44, Tryd.ntmps44
    go_wp2_with fail
    go_ret
    exact ⟨by rw [E.out]; rfl, rfl⟩
  · have t1 : decide (n < 0) = false := by simpa using h
    have E := Lib.hid (show upI n = n by unfold upI; rw [if_neg h])
    clear h
    go_enter Tryd.func44, Tryd.ntmps44
    go_wp2_with fail
    go_ret
    exact ⟨by rw [E.out]; rfl, rfl⟩
theorem dgT_short : ∀ (k n : Nat), n < 10 ^ (k + 1) → (dgT n).length ≤ k + 1
  | 0, n, h => by rw [dgT_rec, if_pos (by simpa using h)]; simp
  | k + 1, n, h => by
    rw [dgT_rec]
    split
    · simp
    · have := dgT_short k (n / 10) (by rw [Nat.pow_succ] at h; omega)
      simp only [List.length_append, List.length_singleton]; omega
theorem dgT_19 (n : Int) (h : n ≤ 9223372036854775807) : (bsk (dgT n.toNat)).size ≤ 19 := by
  rw [bsk_size]
  exact dgT_short 18 n.toNat (by omega)
theorem conv_one (x : Int) (w : World) : (convert 68 9 (.slice (some ⟨w.heap.size, 0, none⟩) 1 1)).run Tryd.prog (w.alloc (.cells #[.int .u8 x] 5)) = .ok (.string (bsk [UInt8.ofNat x.toNat])) (w.alloc (.cells #[.int .u8 x] 5)) := by
  rw [run_convert_bytes_string _ 68 9 5 _ _ _ Tryd.underlying68 Tryd.underlying5 Tryd.underlying9, run_bytesToString _ _ 1 1 [x] (by simp [go_sem])]
  rfl
set_option maxRecDepth 100000
set_option maxHeartbeats 1600000 in
theorem dec_ok : ∀ (k : Nat) (n : Int), n.toNat < k → 0 ≤ n → n ≤ 9223372036854775807 → ∀ (w : World), Calls Tryd.prog 43 #[.int .i64 n] w (RetS w (dgT n.toNat))
  | 0, n, h, _, _, _ => absurd h (Nat.not_lt_zero _)
  | k + 1, n, hk, h0, h1, w => by
    by_cases h : n < 10
    · have t1 : decide (n < 10) = true := by simpa using h
      have E := Lib.hid (show dgT n.toNat = [UInt8.ofNat (48 + n.toNat)] from by rw [dgT_rec, if_pos (by omega)])
      have hcv := conv_one (48 + n) w
      rw [show (48 + n).toNat = 48 + n.toNat by omega] at hcv
      generalize hbb : bsk [UInt8.ofNat (48 + n.toNat)] = bb at hcv
      have HBB := Lib.hid hbb
      clear hbb
      go_enter Tryd.func43, Tryd.ntmps43
      go_wp2_with fail
      go_ret
      exact ⟨by rw [E.out, HBB.out]; rfl, (Below.refl _ _).alloc (Nat.le_refl _) _⟩
    · have t1 : decide (n < 10) = false := by simpa using h
      have E := Lib.hid (show dgT n.toNat = dgT (n / 10).toNat ++ dgT (n % 10).toNat from by rw [dgT_rec n.toNat, if_neg (by omega), dgT_rec (n % 10).toNat, if_pos (by omega), show (n / 10).toNat = n.toNat / 10 by omega, show (n % 10).toNat = n.toNat % 10 by omega])
      have I1 := Lib.hid (fun w => dec_ok k (n / 10) (by omega) (by omega) (by omega) w)
      have I2 := Lib.hid (fun w => dec_ok k (n % 10) (by omega) (by omega) (by omega) w)
      have hsz : ¬ 9223372036854775807 < (bsk (dgT (n / 10).toNat)).size + (bsk (dgT (n % 10).toNat)).size := by
        have := dgT_19 (n / 10) (by omega)
        have := dgT_19 (n % 10) (by omega)
        omega
      have BA := Lib.hid (bsk_app (dgT (n / 10).toNat) (dgT (n % 10).toNat))
      go_enter Tryd.func43, Tryd.ntmps43
      go_wp2_with fail
      refine (I1.out _).mono ?_
      rintro e w1 ⟨rfl, hb1⟩
      have B1 := Lib.hid hb1
      clear hb1
      go_wp2_with fail
      refine (I2.out _).mono ?_
      rintro e w2 ⟨rfl, hb2⟩
      have B2 := Lib.hid (B1.out.trans (hb2.mono B1.out.size))
      clear hb2
      go_wp2_with fail
      go_ret
      exact ⟨by rw [E.out, ← BA.out]; rfl, B2.out⟩
end Go.Proofs.YtbgbmojoldkcfaaDoor
