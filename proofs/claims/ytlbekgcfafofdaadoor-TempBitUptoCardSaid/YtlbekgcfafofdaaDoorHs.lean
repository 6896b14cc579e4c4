/- The document's sums; the hashes. -/
import Derived.Test.YtlbekgcfafofdaaDoorSm
namespace Go.Proofs.YtlbekgcfafofdaaDoor
open Go.RowKit

set_option maxRecDepth 100000
def RmIn (b c0 : Nat) (c k : Value) : Prop := ∃ j : Nat, j ≤ 8 ∧ k = .int .i64 j ∧ c = .int .u32 ((bitsR b j c0 : Nat) : Int)
theorem bitR_lt {b k c : Nat} (h : c < 2 ^ 32) : bitR b k c < 2 ^ 32 := by
  unfold bitR
  split
  · exact Nat.xor_lt_two_pow (by omega) (by decide)
  · omega
theorem bitsR_lt {b c : Nat} (h : c < 2 ^ 32) : ∀ k, bitsR b k c < 2 ^ 32
  | 0 => h
  | k + 1 => bitR_lt (bitsR_lt h k)
set_option maxHeartbeats 1600000 in
theorem refSumMore_some (s : Nat) (hs : s < 2 ^ 32) (b off cp : Nat) (l : List UInt8) (hl : l.length ≤ 140737488355328) (w : World) (_hb : b < w.heap.size) (hc : ∀ j u, l[j]? = some u → w.cell? ⟨b, off + j, none⟩ = some (.int .u8 u.toNat)) :
    Calls Tryd.prog 48 #[.int .u32 s, .slice (some ⟨b, off, none⟩) l.length cp] w (Same w (.int .u32 (sumMoreN s l))) := by
  have HC := Lib.hid hc
  clear hc
  have A0 : bits .xor .u32 (s : Int) 4294967295 = ((inv32 s : Nat) : Int) := by
    rw [show (4294967295 : Int) = ((4294967295 : Nat) : Int) from rfl, u32_xor_nat _ _ hs (by decide)]; rfl
  have HA0 := Lib.hid A0
  clear A0
  go_enter Tryd.func48, Tryd.ntmps48
  go_wp2_with fail
  go_loop [5, 6] (fun x i => SmRel (inv32 s) l x i) (fun _ i => l.length - (intOf i).toNat)
  case atStart => exact ⟨0, Nat.zero_le _, rfl, by rw [HA0.out]; rfl⟩
  case round =>
    obtain ⟨k, hk, rfl, rfl⟩ := hrel
    have hlt32 := foldS_lt (l.take k) (inv32_lt hs)
    by_cases hlt : k < l.length
    · have hsn : foldS (inv32 s) (l.take (k + 1)) = byteS (foldS (inv32 s) (l.take k)) l[k] := by rw [List.take_succ_eq_append_getElem hlt, foldS_snoc]
      rw [← byte_bits] at hsn
      have c1 := HC.out k l[k] (List.getElem?_eq_getElem hlt)
      have HSN := Lib.hid hsn
      clear hsn
      have hx := l[k].toNat_lt
      generalize l[k].toNat = x at *
      generalize foldS (inv32 s) (l.take k) = c at *
      go_wp2_with fail
      go_loop [5, 7] (fun x1 i => RmIn x c x1 i) (fun _ i => 8 - (intOf i).toNat)
      case atStart => exact ⟨0, Nat.zero_le _, rfl, rfl⟩
      case round =>
        obtain ⟨j, hj, rfl, rfl⟩ := hrel
        have hB := bitsR_lt (b := x) hlt32 j
        by_cases h8 : j < 8
        · have HR := Lib.hid (show bitsR x (j + 1) c = bitR x j (bitsR x j c) from rfl)
          generalize bitsR x j c = d at *
          have hxj : x / 2 ^ j < 4294967296 := Nat.lt_of_le_of_lt (Nat.div_le_self _ _) (by omega)
          have G1 : bits .xor .u32 (d : Int) ((x : Int) / 2 ^ j) = ((d ^^^ x / 2 ^ j : Nat) : Int) := by
            rw [show ((x : Int) / 2 ^ j) = ((x / 2 ^ j : Nat) : Int) by rw [Int.natCast_ediv, Int.natCast_pow]; rfl, u32_xor_nat _ _ hB hxj]
          have hy : d ^^^ x / 2 ^ j < 2 ^ 32 := Nat.xor_lt_two_pow hB hxj
          have G2 : bits .and .u32 ((d ^^^ x / 2 ^ j : Nat) : Int) 1 = (((d ^^^ x / 2 ^ j) % 2 : Nat) : Int) := by
            rw [show (1 : Int) = ((1 : Nat) : Int) from rfl, u32_and_nat _ _ hy (by decide)]
            congr 1
            exact Nat.and_two_pow_sub_one_eq_mod _ 1
          have G3 : bits .xor .u32 ((d : Int) / 2) 3988292384 = ((d / 2 ^^^ 3988292384 : Nat) : Int) := by
            rw [show ((d : Int) / 2) = ((d / 2 : Nat) : Int) by omega, show (3988292384 : Int) = ((3988292384 : Nat) : Int) from rfl, u32_xor_nat _ _ (by omega) (by decide)]
          unfold bitR at HR
          have key : RmIn x c (.int .u32 (if (d ^^^ x / 2 ^ j) % 2 = 1 then ((d / 2 ^^^ 3988292384 : Nat) : Int) else ((d / 2 : Nat) : Int))) (.int .i64 ((j : Int) + 1)) := ⟨j + 1, by omega, by go_num, by rw [HR.out]; split <;> rfl⟩
          generalize d ^^^ x / 2 ^ j = y at *
          generalize d / 2 ^^^ 3988292384 = e at *
          have d2 : (d : Int) / 2 = ((d / 2 : Nat) : Int) := by omega
          clear HR hxj hy
          rcases Nat.mod_two_eq_zero_or_one y with hz | hz
          · rw [hz] at G2 key
            rw [if_neg (by decide)] at key
            have KEY := Lib.hid key
            clear key hz
            have HD := Lib.hid d2
            clear d2
            go_wp2_with fail
            exact ⟨by rw [HD.out]; exact KEY.out, by simp [intOf]; omega⟩
          · rw [hz] at G2 key
            rw [if_pos rfl] at key
            have KEY := Lib.hid key
            clear key hz d2
            go_wp2_with fail
            exact ⟨KEY.out, by simp [intOf]; omega⟩
        · have e8 : j = 8 := by omega
          subst e8
          have KEY := Lib.hid (show SmRel (inv32 s) l (.int .u32 ((bitsR x 8 c : Nat) : Int)) (.int .i64 ((k : Int) + 1)) from ⟨k + 1, by omega, by go_num, by rw [HSN.out]⟩)
          clear hB
          generalize bitsR x 8 c = d at *
          go_wp2_with fail
          exact ⟨KEY.out, by simp [intOf]; omega⟩
    · have ek : l.take k = l := List.take_of_length_le (by omega)
      have A1 : bits .xor .u32 ((foldS (inv32 s) (l.take k) : Nat) : Int) 4294967295 = ((sumMoreN s l : Nat) : Int) := by
        rw [show (4294967295 : Int) = ((4294967295 : Nat) : Int) from rfl, u32_xor_nat _ _ hlt32 (by decide), ek]; rfl
      have HA1 := Lib.hid A1
      clear A1 ek
      generalize foldS (inv32 s) (l.take k) = c at *
      go_wp2_with fail
      go_ret
      exact ⟨by rw [← HA1.out]; rfl, rfl⟩
theorem refSumMore_none (s : Nat) (hs : s < 2 ^ 32) (a : Option Addr) (cp : Nat) (w : World) : Calls Tryd.prog 48 #[.int .u32 s, .slice a 0 cp] w (Same w (.int .u32 s)) := by
  have A0 : bits .xor .u32 (s : Int) 4294967295 = ((inv32 s : Nat) : Int) := by
    rw [show (4294967295 : Int) = ((4294967295 : Nat) : Int) from rfl, u32_xor_nat _ _ hs (by decide)]; rfl
  have A1 : bits .xor .u32 ((inv32 s : Nat) : Int) 4294967295 = (s : Int) := by
    rw [show (4294967295 : Int) = ((4294967295 : Nat) : Int) from rfl, u32_xor_nat _ _ (inv32_lt hs) (by decide)]
    exact congrArg _ (inv32_inv s)
  generalize inv32 s = c at *
  go_enter Tryd.func48, Tryd.ntmps48
  go_wp2_with fail
  go_loop [5, 6] (fun x i => x = .int .u32 (c : Int) ∧ i = .int .i64 0) (fun _ i => 0)
  case atStart => exact ⟨rfl, rfl⟩
  case round =>
    obtain ⟨rfl, rfl⟩ := hrel
    go_wp2_with fail
    go_ret
    exact ⟨rfl, rfl⟩
theorem refSumMore_ok (s : Nat) (hs : s < 2 ^ 32) (v : Value) (l : List UInt8) (w : World) (hl : l.length ≤ 140737488355328) (h : SlB w v l) : Calls Tryd.prog 48 #[.int .u32 s, v] w (Same w (.int .u32 (sumMoreN s l))) := by
  obtain ⟨a, c, rfl, _, rfl | ⟨b, off, rfl, hb, hc⟩⟩ := h
  · have e : sumMoreN s [] = s := inv32_inv s
    rw [e]
    exact refSumMore_none s hs a c w
  · exact refSumMore_some s hs b off c l hl w hb hc
theorem refSum_ok (v : Value) (l : List UInt8) (w : World) (hl : l.length ≤ 140737488355328) (h : SlB w v l) : Calls Tryd.prog 41 #[v] w (Same w (.int .u32 (sumN l))) := by
  have SC := Lib.hid (refSumMore_ok 0 (by decide) v l w hl h)
  unfold sumN
  generalize sumMoreN 0 l = r at *
  clear h
  go_enter Tryd.func41, Tryd.ntmps41
  go_wp2_with fail
  refine (SC.out).mono ?_
  rintro e w1 ⟨rfl, rfl⟩
  go_wp2_with fail
  go_ret
  exact ⟨rfl, rfl⟩
