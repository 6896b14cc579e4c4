/- Where a field ends: behindBlanks, fieldEnd. -/
import Derived.Test.YtnpnccjeapejdaaGreatDoorTabc
import Derived.Lib.IndexBytes
namespace Go.Proofs.YtnpnccjeapejdaaGreatDoor
open Go.RowKit

theorem ret_int {k : IntKind} {a b : Int} (h : a = b) : Ending.returned (.int k a) = .returned (.int k b) := by rw [h]
theorem nxt_at_bytes (p : UInt8 → Bool) (s : ByteArray) (k : Nat) (h : k < s.size) : nxt p s.data.toList k = if p s[k] then k else nxt p s.data.toList (k + 1) :=
  nxt_step p s.data.toList k (by rw [← Lib.size_eq]; exact h)

set_option maxHeartbeats 400000 in
theorem behind_ok (s : ByteArray) (k : Nat) (w : World) (hk : k ≤ s.size) (hs : s.size ≤ 140737488351232) (T : Tabs w) :
    Calls Tryz.prog 124 #[.string s, .int .i64 k] w fun e w' => e = .returned (.int .i64 (nxt (fun c => !isBl c) s.data.toList k)) ∧ w = w' := by
  have HT := Lib.hid T
  clear T
  go_enter Tryz.func124, Tryz.ntmps124
  go_wp2_with fail
  go_loop [1] (fun i => ∃ j : Nat, j ≤ s.size ∧ i = .int .i64 j ∧ nxt (fun c => !isBl c) s.data.toList k = nxt (fun c => !isBl c) s.data.toList j) (fun i => s.size - (intOf i).toNat)
  case atStart => exact ⟨k, hk, rfl, rfl⟩
  case round =>
    obtain ⟨j, hj, rfl, he⟩ := hrel
    have HE := Lib.hid he
    clear he
    by_cases hlt : j < s.size
    · have HN := Lib.hid (nxt_at_bytes (fun c => !isBl c) s j hlt)
      cases hb : isBl s[j] with
      | true =>
        have HB := Lib.hid hb
        clear hb
        go_wp2_with fail
        refine (isBlank_ok s[j] w HT.out).mono ?_
        rintro e w' ⟨rfl, rfl⟩
        rw [HB.out]
        go_wp2_with fail
        go_round
        case rel => exact ⟨j + 1, by omega, by go_num, by rw [HE.out, HN.out, HB.out]; rfl⟩
        case measure => simp [intOf]; omega
      | false =>
        have HB := Lib.hid hb
        clear hb
        go_wp2_with fail
        refine (isBlank_ok s[j] w HT.out).mono ?_
        rintro e w' ⟨rfl, rfl⟩
        rw [HB.out]
        go_wp2_with fail
        go_ret
        exact ⟨by rw [HE.out, HN.out, HB.out]; rfl, rfl⟩
    · have hjs : j = s.size := by omega
      subst hjs
      go_wp2_with fail
      go_ret
      exact ⟨by rw [HE.out, nxt_end _ _ _ (by rw [← Lib.size_eq]; exact Nat.le_refl _)]; rfl, rfl⟩

/-- The separator, as the program has it. -/
def tabI (o : Option UInt8) : Int := match o with | some t => (t.toNat : Int) | none => -1
theorem idx_ok (s : ByteArray) (t : UInt8) (k : Nat) (w : World) (hk : k ≤ s.size) :
    Calls Tryz.prog 98 #[.string (s.extract k s.size), .int .u8 t.toNat] w fun e w' => e = .returned (.int .i64 (if fend s.data.toList (some t) k < s.size then (fend s.data.toList (some t) k : Int) - k else -1)) ∧ w = w' := by
  refine (Tryz.strings_IndexByte (s.extract k s.size) t.toNat w).mono ?_
  rintro e w' ⟨rfl, rfl⟩
  have h1 : (s.extract k s.size).data.toList = s.data.toList.drop k := Lib.extract_to_end s k
  have h2 : ((t.toNat : Int)).toNat.toUInt8 = t := by simp
  rw [h1, h2, index_at s.data.toList t k (by rw [← Lib.size_eq]; exact hk), ← Lib.size_eq]
  exact ⟨rfl, rfl⟩

set_option maxHeartbeats 400000 in
theorem end_tab (s : ByteArray) (t : UInt8) (k : Nat) (w : World) (hk : k ≤ s.size) (hs : s.size ≤ 140737488351232) :
    Calls Tryz.prog 108 #[.string s, .int .i64 t.toNat, .int .i64 k] w fun e w' => e = .returned (.int .i64 (fend s.data.toList (some t) k)) ∧ w = w' := by
  have t1 : ((t.toNat : Int) != -1) = true := by simp only [bne_iff_ne, ne_eq]; omega
  have ht := t.toNat_lt
  have hc := fend_le s.data.toList (some t) k (by rw [← Lib.size_eq]; exact hk)
  have hg := fend_ge s.data.toList (some t) k
  rw [← Lib.size_eq] at hc
  have hx : IntKind.u8.wrap (t.toNat : Int) = t.toNat := by have := t.toNat_lt; simp [IntKind.wrap, IntKind.bits, IntKind.signed]; omega
  have hi := fun w => idx_ok s t k w hk
  by_cases h : fend s.data.toList (some t) k < s.size
  · rw [if_pos h] at hi
    have HI := Lib.hid hi
    clear hi
    generalize fend s.data.toList (some t) k = r at *
    have h1 : decide ((r : Int) - (k : Int) < 0) = false := by simp only [decide_eq_false_iff_not]; omega
    go_enter Tryz.func108, Tryz.ntmps108
    go_wp2_with fail
    refine (HI.out w).mono ?_
    rintro e w' ⟨rfl, rfl⟩
    go_wp2_with fail
    go_ret
    exact ⟨ret_int (by omega), rfl⟩
  · rw [if_neg h] at hi
    have HI := Lib.hid hi
    clear hi
    have hr : fend s.data.toList (some t) k = s.size := by omega
    rw [hr]
    clear hr
    go_enter Tryz.func108, Tryz.ntmps108
    go_wp2_with fail
    refine (HI.out w).mono ?_
    rintro e w' ⟨rfl, rfl⟩
    go_wp2_with fail
    go_ret
    exact ⟨rfl, rfl⟩

set_option maxHeartbeats 400000 in
theorem end_none (s : ByteArray) (k : Nat) (w : World) (hk : k ≤ s.size) (hs : s.size ≤ 140737488351232) (T : Tabs w) :
    Calls Tryz.prog 108 #[.string s, .int .i64 (-1), .int .i64 k] w fun e w' => e = .returned (.int .i64 (fend s.data.toList none k)) ∧ w = w' := by
  have HT := Lib.hid T
  clear T
  have hm := nxt_ge (fun c => !isBl c) s.data.toList k
  have hl := nxt_le (fun c => !isBl c) s.data.toList k (by rw [← Lib.size_eq]; exact hk)
  rw [← Lib.size_eq] at hl
  have HF := Lib.hid (show fend s.data.toList none k = nxt isBl s.data.toList (nxt (fun c => !isBl c) s.data.toList k) from rfl)
  have HC := Lib.hid (behind_ok s k w hk hs HT.out)
  generalize nxt (fun c => !isBl c) s.data.toList k = m at *
  go_enter Tryz.func108, Tryz.ntmps108
  go_wp2_with fail
  refine HC.out.mono ?_
  rintro e w' ⟨rfl, rfl⟩
  go_wp2_with fail
  go_loop [8] (fun i => ∃ j : Nat, j ≤ s.size ∧ i = .int .i64 j ∧ nxt isBl s.data.toList m = nxt isBl s.data.toList j) (fun i => s.size - (intOf i).toNat)
  case atStart => exact ⟨m, hl, rfl, rfl⟩
  case round =>
    obtain ⟨j, hj, rfl, he⟩ := hrel
    have HE := Lib.hid he
    clear he
    by_cases hlt : j < s.size
    · have HN := Lib.hid (nxt_at_bytes isBl s j hlt)
      cases hb : isBl s[j] with
      | false =>
        have HB := Lib.hid hb
        clear hb
        go_wp2_with fail
        refine (isBlank_ok s[j] _ HT.out).mono ?_
        rintro e w' ⟨rfl, rfl⟩
        rw [HB.out]
        go_wp2_with fail
        go_round
        case rel => exact ⟨j + 1, by omega, by go_num, by rw [HE.out, HN.out, HB.out]; rfl⟩
        case measure => simp [intOf]; omega
      | true =>
        have HB := Lib.hid hb
        clear hb
        go_wp2_with fail
        refine (isBlank_ok s[j] _ HT.out).mono ?_
        rintro e w' ⟨rfl, rfl⟩
        rw [HB.out]
        go_wp2_with fail
        go_ret
        exact ⟨by rw [HF.out, HE.out, HN.out, HB.out]; rfl, rfl⟩
    · have hjs : j = s.size := by omega
      subst hjs
      go_wp2_with fail
      go_ret
      exact ⟨by rw [HF.out, HE.out, nxt_end _ _ _ (by rw [← Lib.size_eq]; exact Nat.le_refl _)]; rfl, rfl⟩
theorem fieldEnd_ok (o : Option UInt8) (s : ByteArray) (k : Nat) (w : World) (hk : k ≤ s.size) (hs : s.size ≤ 140737488351232) (T : Tabs w) :
    Calls Tryz.prog 108 #[.string s, .int .i64 (tabI o), .int .i64 k] w fun e w' => e = .returned (.int .i64 (fend s.data.toList o k)) ∧ w = w' := by
  cases o with
  | some t => exact end_tab s t k w hk hs
  | none => exact end_none s k w hk hs T
end Go.Proofs.YtnpnccjeapejdaaGreatDoor
