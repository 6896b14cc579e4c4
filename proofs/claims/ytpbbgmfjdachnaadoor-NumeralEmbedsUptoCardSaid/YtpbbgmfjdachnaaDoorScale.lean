/- NumeralScale: the walk. -/
import Derived.Test.YtpbbgmfjdachnaaDoorAlive
import Derived.Test.YtpbbgmfjdachnaaDoorDeciU
namespace Go.Proofs.YtpbbgmfjdachnaaDoor
open Go.RowKit

def zrS (S : ByteArray) (k : Nat) : List UInt8 := S.data.toList ++ List.replicate k 48
def ScRel (w : World) (e : Int) (S : ByteArray) (z i : Value) (wr : World) : Prop :=
  ∃ (k : Nat) (Z : ByteArray), k ≤ 500 ∧ (0 ≤ e → (k : Int) ≤ e) ∧ i = .int .i64 k ∧ z = .string Z ∧ Z.data.toList = zrS S k ∧ Below w.heap.size w wr
theorem zrS_next {S Z : ByteArray} {k : Nat} (h : Z.data.toList = zrS S k) : (Z ++ ⟨#[48]⟩ : ByteArray).data.toList = zrS S (k + 1) := by
  have e : (Z ++ ⟨#[48]⟩ : ByteArray).data.toList = Z.data.toList ++ [48] := by simp
  rw [e, h]
  unfold zrS
  rw [List.append_assoc, List.replicate_succ']
theorem zrS_size {S Z : ByteArray} {k : Nat} (h : Z.data.toList = zrS S k) : Z.size = S.size + k := by
  have := congrArg List.length h
  unfold zrS at this
  rw [List.length_append, List.length_replicate, ← Lib.size_eq, ← Lib.size_eq] at this
  exact this

set_option maxRecDepth 100000
set_option maxHeartbeats 6400000 in
theorem scale_vals (n e more : Int) (S E3 E0 M0 D : ByteArray) (L z1 z2 v : Int) (hS : S.size ≤ 60) (hE3 : E3.size ≤ 60) (hE0 : E0.size ≤ 60) (hM0 : M0.size ≤ 60) (w : World) (T : Tabs w)
    (rn : 0 < n ∧ n < 4611686018427387904) (re : -500 ≤ e ∧ e ≤ 500) (rm : 0 ≤ more ∧ more ≤ 500) (rL : 0 ≤ L ∧ L ≤ 100)
    (W1 : Hid (∀ W, Calls Tryd.prog 15 #[.int .i64 n, .int .i64 (0 : Nat)] W (RetBelow W (.string S))))
    (W2 : Hid (∀ W, Calls Tryd.prog 15 #[.int .i64 e, .int .i64 (3 : Nat)] W (RetBelow W (.string E3))))
    (W3 : Hid (∀ W, Calls Tryd.prog 15 #[.int .i64 e, .int .i64 (0 : Nat)] W (RetBelow W (.string E0))))
    (W4 : Hid (∀ W, Calls Tryd.prog 15 #[.int .i64 (e + more), .int .i64 (0 : Nat)] W (RetBelow W (.string M0))))
    (G1 : Hid (∀ W, Tabs W → Calls Tryd.prog 17 #[.string (S ++ ⟨#[101]⟩ ++ E3)] W (RetBelow W (.agg #[.int .u8 3, .bool false, .string D, .int .i64 (L + e), .int .i64 z1]))))
    (G2 : Hid (∀ W, Tabs W → Calls Tryd.prog 17 #[.string S] W (RetBelow W (.agg #[.int .u8 3, .bool false, .string D, .int .i64 L, .int .i64 z2]))))
    (C1 : Hid (0 ≤ e → ∀ Z : ByteArray, Z.data.toList = zrS S e.toNat → ∀ W, Tabs W → Calls Tryd.prog 21 #[.int .u16 32, .string (S ++ ⟨#[69, 43]⟩ ++ E0), .string Z] W (RetBelow W (.int .i64 0))))
    (C2 : Hid (∀ W, Tabs W → Calls Tryd.prog 21 #[.int .u16 32, .string (S ++ ⟨#[101]⟩ ++ E0), .string (S ++ ⟨#[101]⟩ ++ M0)] W (RetBelow W (.int .i64 v))))
    (C3 : Hid (∀ W, Tabs W → Calls Tryd.prog 21 #[.int .u16 32, .string (⟨#[45]⟩ ++ S ++ ⟨#[101]⟩ ++ E0), .string (⟨#[45]⟩ ++ S ++ ⟨#[101]⟩ ++ M0)] W (RetBelow W (.int .i64 (-v)))))
    (hv : (0 < more ∧ v = -1) ∨ (more = 0 ∧ v = 0)) :
    Calls Tryd.prog 7 #[.int .i64 n, .int .i64 e, .int .i64 more] w (RetBelow w (.bool true)) := by
  have HT := Lib.hid T
  have HSZ := Lib.hid hS
  clear T
  have s1 : ¬ 9223372036854775807 < S.size + 1 := by omega
  have s2 : ¬ 9223372036854775807 < S.size + 1 + E3.size := by omega
  have s3 : ¬ 9223372036854775807 < S.size + 2 := by omega
  have s4 : ¬ 9223372036854775807 < S.size + 2 + E0.size := by omega
  have s5 : ¬ 9223372036854775807 < S.size + 1 + E0.size := by omega
  have s6 : ¬ 9223372036854775807 < S.size + 1 + M0.size := by omega
  have s7 : ¬ 9223372036854775807 < 1 + S.size := by omega
  have s8 : ¬ 9223372036854775807 < 1 + S.size + 1 := by omega
  have s9 : ¬ 9223372036854775807 < 1 + S.size + 1 + E0.size := by omega
  have s10 : ¬ 9223372036854775807 < 1 + S.size + 1 + M0.size := by omega
  clear hS hE3 hE0 hM0
  obtain ⟨rn1, rn2⟩ := rn
  obtain ⟨re1, re2⟩ := re
  obtain ⟨rm1, rm2⟩ := rm
  obtain ⟨rL1, rL2⟩ := rL
  have HV := Lib.hid hv
  clear hv
  go_enter Tryd.func7, Tryd.ntmps7
  go_wp2_with fail
  refine (W1.out _).mono ?_
  rintro e1 w1 ⟨rfl, hb1⟩
  have B1 := Lib.hid hb1
  clear hb1
  go_wp2_with fail
  refine (W2.out _).mono ?_
  rintro e1 w2 ⟨rfl, hb2⟩
  have B2 := Lib.hid (B1.out.trans (hb2.mono B1.out.size))
  clear hb2
  go_wp2_with fail
  refine (G1.out _ (HT.out.below B2.out)).mono ?_
  rintro e1 w3 ⟨rfl, hb3⟩
  have B3 := Lib.hid ((B2.out.trans (hb3.mono B2.out.size)).alloc (Nat.le_trans B2.out.size hb3.size) (Obj.cells #[.int .u8 3, .bool false, .string D, .int .i64 (L + e), .int .i64 z1] 29))
  have A3 := Lib.hid (CellsAt.new w3 [.int .u8 3, .bool false, .string D, .int .i64 (L + e), .int .i64 z1] 29)
  clear hb3
  go_wp2_with fail
  refine (G2.out _ (HT.out.below B3.out)).mono ?_
  rintro e1 w4 ⟨rfl, hb4⟩
  have A4 := Lib.hid ((A3.out.step hb4).alloc (Obj.cells #[.int .u8 3, .bool false, .string D, .int .i64 L, .int .i64 z2] 29))
  have A4' := Lib.hid (CellsAt.new w4 [.int .u8 3, .bool false, .string D, .int .i64 L, .int .i64 z2] 29)
  have B4 := Lib.hid ((B3.out.trans (hb4.mono B3.out.size)).alloc (Nat.le_trans B3.out.size hb4.size) (Obj.cells #[.int .u8 3, .bool false, .string D, .int .i64 L, .int .i64 z2] 29))
  clear hb4 A3
  have x0 := A4.out.cell 0 _ rfl
  have x2 := A4.out.cell 2 _ rfl
  have x3 := A4.out.cell 3 _ rfl
  go_wp2_with fail
  clear x0 x2 x3 A4 A4'
  generalize w4.alloc (Obj.cells #[.int .u8 3, .bool false, .string D, .int .i64 L, .int .i64 z2] 29) = w5 at *
  go_loopw [10, 11] (fun z i wr => ScRel w5 e S z i wr) (fun _ i _ => (e - intOf i).toNat)
  case atStart => exact ⟨0, S, by omega, fun h => by omega, rfl, rfl, by simp [zrS], Below.refl _ _⟩
  case round =>
    obtain ⟨k, Z, hk, hk2, rfl, rfl, hZ, hb⟩ := hrel
    have HZ := Lib.hid hZ
    have B5 := Lib.hid (B4.out.trans (hb.mono B4.out.size))
    have HB := Lib.hid hb
    have HK2 := Lib.hid hk2
    have hzs : Z.size ≤ 560 := by have a := zrS_size hZ; have b := HSZ.out; omega
    have sz : ¬ 9223372036854775807 < Z.size + 1 := by omega
    clear hZ hb hk2 hzs
    by_cases hlt : (k : Int) < e
    · have HLT := Lib.hid hlt
      go_wp2_with fail
      refine ⟨⟨k + 1, _, by have := HLT.out; omega, fun h => by have := HLT.out; omega, rfl, rfl, zrS_next HZ.out, HB.out⟩, ?_⟩
      have := HLT.out
      simp [intOf]
      omega
    · have hge : e ≤ (k : Int) := by omega
      by_cases he0 : 0 ≤ e
      · have hke := HK2.out he0
        have HZ2 := Lib.hid (show Z.data.toList = zrS S e.toNat by rw [HZ.out, show e.toNat = k by omega])
        have HE0 := Lib.hid he0
        clear hke hge
        rcases HV.out with ⟨hm, rfl⟩ | ⟨rfl, rfl⟩
        · clear HV
          go_wp2_with fail
          refine (W3.out _).mono ?_
          rintro e1 u0 ⟨rfl, hbq⟩
          have R0 := Lib.hid (B5.out.trans (hbq.mono B5.out.size))
          clear hbq
          go_wp2_with fail
          refine (C1.out HE0.out Z HZ2.out _ (HT.out.below R0.out)).mono ?_
          rintro e1 u1 ⟨rfl, hbq⟩
          have R1 := Lib.hid (R0.out.trans (hbq.mono R0.out.size))
          clear hbq
          go_wp2_with fail
          refine (W3.out _).mono ?_
          rintro e1 v0 ⟨rfl, hbq⟩
          have P0 := Lib.hid (R1.out.trans (hbq.mono R1.out.size))
          clear hbq
          go_wp2_with fail
          refine (W4.out _).mono ?_
          rintro e1 v1 ⟨rfl, hbq⟩
          have P1 := Lib.hid (P0.out.trans (hbq.mono P0.out.size))
          clear hbq
          go_wp2_with fail
          refine (C2.out _ (HT.out.below P1.out)).mono ?_
          rintro e1 v2 ⟨rfl, hbq⟩
          have P2 := Lib.hid (P1.out.trans (hbq.mono P1.out.size))
          clear hbq
          go_wp2_with fail
          refine (W3.out _).mono ?_
          rintro e1 v3 ⟨rfl, hbq⟩
          have P3 := Lib.hid (P2.out.trans (hbq.mono P2.out.size))
          clear hbq
          go_wp2_with fail
          refine (W4.out _).mono ?_
          rintro e1 v4 ⟨rfl, hbq⟩
          have P4 := Lib.hid (P3.out.trans (hbq.mono P3.out.size))
          clear hbq
          go_wp2_with fail
          refine (C3.out _ (HT.out.below P4.out)).mono ?_
          rintro e1 v5 ⟨rfl, hbq⟩
          have P5 := Lib.hid (P4.out.trans (hbq.mono P4.out.size))
          clear hbq
          go_wp2_with fail
          go_ret
          exact ⟨rfl, P5.out⟩
        · clear HV
          have W4z := Lib.hid (fun W => by have := W4.out W; rwa [Int.add_zero] at this)
          go_wp2_with fail
          refine (W3.out _).mono ?_
          rintro e1 u0 ⟨rfl, hbq⟩
          have R0 := Lib.hid (B5.out.trans (hbq.mono B5.out.size))
          clear hbq
          go_wp2_with fail
          refine (C1.out HE0.out Z HZ2.out _ (HT.out.below R0.out)).mono ?_
          rintro e1 u1 ⟨rfl, hbq⟩
          have R1 := Lib.hid (R0.out.trans (hbq.mono R0.out.size))
          clear hbq
          go_wp2_with fail
          refine (W3.out _).mono ?_
          rintro e1 v0 ⟨rfl, hbq⟩
          have P0 := Lib.hid (R1.out.trans (hbq.mono R1.out.size))
          clear hbq
          go_wp2_with fail
          refine (W4z.out _).mono ?_
          rintro e1 v1 ⟨rfl, hbq⟩
          have P1 := Lib.hid (P0.out.trans (hbq.mono P0.out.size))
          clear hbq
          go_wp2_with fail
          refine (C2.out _ (HT.out.below P1.out)).mono ?_
          rintro e1 v2 ⟨rfl, hbq⟩
          have P2 := Lib.hid (P1.out.trans (hbq.mono P1.out.size))
          clear hbq
          go_wp2_with fail
          refine (W3.out _).mono ?_
          rintro e1 v3 ⟨rfl, hbq⟩
          have P3 := Lib.hid (P2.out.trans (hbq.mono P2.out.size))
          clear hbq
          go_wp2_with fail
          refine (W4z.out _).mono ?_
          rintro e1 v4 ⟨rfl, hbq⟩
          have P4 := Lib.hid (P3.out.trans (hbq.mono P3.out.size))
          clear hbq
          go_wp2_with fail
          refine (C3.out _ (HT.out.below P4.out)).mono ?_
          rintro e1 v5 ⟨rfl, hbq⟩
          have P5 := Lib.hid (P4.out.trans (hbq.mono P4.out.size))
          clear hbq
          go_wp2_with fail
          go_ret
          exact ⟨rfl, P5.out⟩
      · have he1 : e < 0 := by omega
        clear hge
        rcases HV.out with ⟨hm, rfl⟩ | ⟨rfl, rfl⟩
        · clear HV
          go_wp2_with fail
          refine (W3.out _).mono ?_
          rintro e1 v0 ⟨rfl, hbq⟩
          have P0 := Lib.hid (B5.out.trans (hbq.mono B5.out.size))
          clear hbq
          go_wp2_with fail
          refine (W4.out _).mono ?_
          rintro e1 v1 ⟨rfl, hbq⟩
          have P1 := Lib.hid (P0.out.trans (hbq.mono P0.out.size))
          clear hbq
          go_wp2_with fail
          refine (C2.out _ (HT.out.below P1.out)).mono ?_
          rintro e1 v2 ⟨rfl, hbq⟩
          have P2 := Lib.hid (P1.out.trans (hbq.mono P1.out.size))
          clear hbq
          go_wp2_with fail
          refine (W3.out _).mono ?_
          rintro e1 v3 ⟨rfl, hbq⟩
          have P3 := Lib.hid (P2.out.trans (hbq.mono P2.out.size))
          clear hbq
          go_wp2_with fail
          refine (W4.out _).mono ?_
          rintro e1 v4 ⟨rfl, hbq⟩
          have P4 := Lib.hid (P3.out.trans (hbq.mono P3.out.size))
          clear hbq
          go_wp2_with fail
          refine (C3.out _ (HT.out.below P4.out)).mono ?_
          rintro e1 v5 ⟨rfl, hbq⟩
          have P5 := Lib.hid (P4.out.trans (hbq.mono P4.out.size))
          clear hbq
          go_wp2_with fail
          go_ret
          exact ⟨rfl, P5.out⟩
        · clear HV
          have W4z := Lib.hid (fun W => by have := W4.out W; rwa [Int.add_zero] at this)
          go_wp2_with fail
          refine (W3.out _).mono ?_
          rintro e1 v0 ⟨rfl, hbq⟩
          have P0 := Lib.hid (B5.out.trans (hbq.mono B5.out.size))
          clear hbq
          go_wp2_with fail
          refine (W4z.out _).mono ?_
          rintro e1 v1 ⟨rfl, hbq⟩
          have P1 := Lib.hid (P0.out.trans (hbq.mono P0.out.size))
          clear hbq
          go_wp2_with fail
          refine (C2.out _ (HT.out.below P1.out)).mono ?_
          rintro e1 v2 ⟨rfl, hbq⟩
          have P2 := Lib.hid (P1.out.trans (hbq.mono P1.out.size))
          clear hbq
          go_wp2_with fail
          refine (W3.out _).mono ?_
          rintro e1 v3 ⟨rfl, hbq⟩
          have P3 := Lib.hid (P2.out.trans (hbq.mono P2.out.size))
          clear hbq
          go_wp2_with fail
          refine (W4z.out _).mono ?_
          rintro e1 v4 ⟨rfl, hbq⟩
          have P4 := Lib.hid (P3.out.trans (hbq.mono P3.out.size))
          clear hbq
          go_wp2_with fail
          refine (C3.out _ (HT.out.below P4.out)).mono ?_
          rintro e1 v5 ⟨rfl, hbq⟩
          have P5 := Lib.hid (P4.out.trans (hbq.mono P4.out.size))
          clear hbq
          go_wp2_with fail
          go_ret
          exact ⟨rfl, P5.out⟩
end Go.Proofs.YtpbbgmfjdachnaaDoor
