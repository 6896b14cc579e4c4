/- lettersOf, the program's. -/
import Derived.Test.YtbgbmojoldkcfaaDoorBld
import Derived.Test.YtbgbmojoldkcfaaDoorMo
import Derived.Test.YtbgbmojoldkcfaaDoorShelfB
namespace Go.Proofs.YtbgbmojoldkcfaaDoor
open Go.RowKit

/-- Within lettersOf: the builder holds the letters so far. -/
structure LfIn (w : World) (m k : Nat) (wr : World) : Prop where
  bld : BAt w.heap.size w.heap.size (letP m k) wr
  below : Below w.heap.size w wr
theorem ix_0 (w : World) : (Instr.index 88 (.agg #[.int .u16 1, .int .u16 2, .int .u16 4, .int .u16 32, .int .u16 64, .int .u16 8, .int .u16 128, .int .u16 16, .int .u16 512, .int .u16 256]) (.int .i64 0)).run Tryd.prog w = .ok (.int .u16 1) w := by kernel_rfl
theorem ix_1 (w : World) : (Instr.index 88 (.agg #[.int .u16 1, .int .u16 2, .int .u16 4, .int .u16 32, .int .u16 64, .int .u16 8, .int .u16 128, .int .u16 16, .int .u16 512, .int .u16 256]) (.int .i64 1)).run Tryd.prog w = .ok (.int .u16 2) w := by kernel_rfl
theorem ix_2 (w : World) : (Instr.index 88 (.agg #[.int .u16 1, .int .u16 2, .int .u16 4, .int .u16 32, .int .u16 64, .int .u16 8, .int .u16 128, .int .u16 16, .int .u16 512, .int .u16 256]) (.int .i64 2)).run Tryd.prog w = .ok (.int .u16 4) w := by kernel_rfl
theorem ix_3 (w : World) : (Instr.index 88 (.agg #[.int .u16 1, .int .u16 2, .int .u16 4, .int .u16 32, .int .u16 64, .int .u16 8, .int .u16 128, .int .u16 16, .int .u16 512, .int .u16 256]) (.int .i64 3)).run Tryd.prog w = .ok (.int .u16 32) w := by kernel_rfl
theorem ix_4 (w : World) : (Instr.index 88 (.agg #[.int .u16 1, .int .u16 2, .int .u16 4, .int .u16 32, .int .u16 64, .int .u16 8, .int .u16 128, .int .u16 16, .int .u16 512, .int .u16 256]) (.int .i64 4)).run Tryd.prog w = .ok (.int .u16 64) w := by kernel_rfl
theorem ix_5 (w : World) : (Instr.index 88 (.agg #[.int .u16 1, .int .u16 2, .int .u16 4, .int .u16 32, .int .u16 64, .int .u16 8, .int .u16 128, .int .u16 16, .int .u16 512, .int .u16 256]) (.int .i64 5)).run Tryd.prog w = .ok (.int .u16 8) w := by kernel_rfl
theorem ix_6 (w : World) : (Instr.index 88 (.agg #[.int .u16 1, .int .u16 2, .int .u16 4, .int .u16 32, .int .u16 64, .int .u16 8, .int .u16 128, .int .u16 16, .int .u16 512, .int .u16 256]) (.int .i64 6)).run Tryd.prog w = .ok (.int .u16 128) w := by kernel_rfl
theorem ix_7 (w : World) : (Instr.index 88 (.agg #[.int .u16 1, .int .u16 2, .int .u16 4, .int .u16 32, .int .u16 64, .int .u16 8, .int .u16 128, .int .u16 16, .int .u16 512, .int .u16 256]) (.int .i64 7)).run Tryd.prog w = .ok (.int .u16 16) w := by kernel_rfl
theorem ix_8 (w : World) : (Instr.index 88 (.agg #[.int .u16 1, .int .u16 2, .int .u16 4, .int .u16 32, .int .u16 64, .int .u16 8, .int .u16 128, .int .u16 16, .int .u16 512, .int .u16 256]) (.int .i64 8)).run Tryd.prog w = .ok (.int .u16 512) w := by kernel_rfl
theorem ix_9 (w : World) : (Instr.index 88 (.agg #[.int .u16 1, .int .u16 2, .int .u16 4, .int .u16 32, .int .u16 64, .int .u16 8, .int .u16 128, .int .u16 16, .int .u16 512, .int .u16 256]) (.int .i64 9)).run Tryd.prog w = .ok (.int .u16 256) w := by kernel_rfl
theorem letP_l (m k : Nat) (h : k ≤ 10) : (letP m k).length ≤ 10 := by have := letP_len m k h; rwa [bsk_size] at this
set_option maxRecDepth 100000
set_option maxHeartbeats 12800000 in
theorem lettersOf_ok (m : Nat) (hm : m < 65536) (w : World) (T : BitsT w) : Calls Tryd.prog 30 #[.int .u16 (m : Int)] w (RetS w (letS m)) := by
  obtain ⟨tt, fr, hb⟩ := T
  have cell : ∀ j v, cBits[j]? = some v → (w.alloc (.cells #[.pointer none, .slice none 0 0] 70)).cell? ⟨2, j, none⟩ = some v := fun j v h => by
    rw [World.cell?_alloc_lt _ _ _ (lt_of_block hb), cell_of_row w 2 j cBits tt fr hb]; exact h
  have c0 := cell 0 (.int .u16 1) rfl
  have c1 := cell 1 (.int .u16 2) rfl
  have c2 := cell 2 (.int .u16 4) rfl
  have c3 := cell 3 (.int .u16 32) rfl
  have c4 := cell 4 (.int .u16 64) rfl
  have c5 := cell 5 (.int .u16 8) rfl
  have c6 := cell 6 (.int .u16 128) rfl
  have c7 := cell 7 (.int .u16 16) rfl
  have c8 := cell 8 (.int .u16 512) rfl
  have c9 := cell 9 (.int .u16 256) rfl
  have S0 := Lib.hid (show LfIn w m 0 (w.alloc (.cells #[.pointer none, .slice none 0 0] 70)) from ⟨Lib.fresh_isBuilder 70 5 w, (Below.refl _ _).alloc (Nat.le_refl _) _⟩)
  clear cell hb
  go_enter Tryd.func30, Tryd.ntmps30
  go_wp2_with fail
  clear c0 c1 c2 c3 c4 c5 c6 c7 c8 c9
  go_loopw [7] (fun i wr => ∃ k : Nat, k ≤ 10 ∧ i = .int .i64 k ∧ LfIn w m k wr) (fun i _ => 10 - (intOf i).toNat)
  case atStart => exact ⟨0, by omega, rfl, S0.out⟩
  case round =>
    obtain ⟨k, hk, rfl, hI⟩ := hrel
    have HI := Lib.hid hI
    clear hI S0
    have hlen := letP_l m k hk
    by_cases h10 : k = 10
    · subst h10
      have SB := Lib.hid (fun h => Tryd.Builder_String_any w.heap.size w.heap.size (letP m 10) wr HI.out.bld h)
      go_wp2_with fail
      refine (SB.out HI.out.below.size).mono ?_
      rintro e w2 ⟨rfl, hb2⟩
      have HB := Lib.hid (HI.out.below.trans hb2)
      clear hb2
      go_wp2_with fail
      go_ret
      exact ⟨by rw [letP_10]; rfl, HB.out⟩
    · obtain rfl | rfl | rfl | rfl | rfl | rfl | rfl | rfl | rfl | rfl : k = 0 ∨ k = 1 ∨ k = 2 ∨ k = 3 ∨ k = 4 ∨ k = 5 ∨ k = 6 ∨ k = 7 ∨ k = 8 ∨ k = 9 := by omega
      · have HON := letP_on m 0 98 rfl
        rw [show bitS 98 = 1 from rfl] at HON
        have a1 : bits BinOp.and IntKind.u16 (m : Int) 1 = ((m &&& 1 : Nat) : Int) := and_nat m 1 hm (by omega)
        generalize m &&& 1 = d at *
        by_cases hb : d = 0
        · rw [if_pos hb, List.append_nil] at HON
          have t2 : ((d : Int) != 0) = false := by rw [hb]; rfl
          have t3 : ((d : Int) == 0) = true := by rw [hb]; rfl
          have N := Lib.hid (show LfIn w m 1 wr from ⟨by rw [HON]; exact HI.out.bld, HI.out.below⟩)
          have ix := ix_0 wr
          clear HON hb
          go_wp2_with fail
          refine ⟨⟨1, by omega, rfl, N.out⟩, ?_⟩
          simp [intOf]
        · rw [if_neg hb] at HON
          have t2 : ((d : Int) != 0) = true := by rw [bne_iff_ne]; omega
          have t3 : ((d : Int) == 0) = false := by rw [beq_eq_false_iff_ne]; omega
          have PB := Lib.hid (show Calls Tryd.prog 31 #[.pointer (some ⟨w.heap.size, 0, none⟩), .int .u8 98] wr (RetPut w.heap.size w.heap.size (letP m 0 ++ [98]) wr .nilIface) from put_byte w.heap.size w.heap.size (letP m 0) 98 wr HI.out.bld (by omega) HI.out.below.size)
          rw [← HON] at PB
          have ix := ix_0 wr
          clear HON hb
          go_wp2_with fail
          refine PB.out.mono ?_
          rintro e w2 ⟨rfl, hbl, hb2⟩
          have N := Lib.hid (show LfIn w m 1 w2 from ⟨hbl, HI.out.below.trans hb2⟩)
          clear hbl hb2
          go_wp2_with fail
          refine ⟨⟨1, by omega, rfl, N.out⟩, ?_⟩
          simp [intOf]
      · have HON := letP_on m 1 100 rfl
        rw [show bitS 100 = 2 from rfl] at HON
        have a1 : bits BinOp.and IntKind.u16 (m : Int) 2 = ((m &&& 2 : Nat) : Int) := and_nat m 2 hm (by omega)
        generalize m &&& 2 = d at *
        by_cases hb : d = 0
        · rw [if_pos hb, List.append_nil] at HON
          have t2 : ((d : Int) != 0) = false := by rw [hb]; rfl
          have t3 : ((d : Int) == 0) = true := by rw [hb]; rfl
          have N := Lib.hid (show LfIn w m 2 wr from ⟨by rw [HON]; exact HI.out.bld, HI.out.below⟩)
          have ix := ix_1 wr
          clear HON hb
          go_wp2_with fail
          refine ⟨⟨2, by omega, rfl, N.out⟩, ?_⟩
          simp [intOf]
        · rw [if_neg hb] at HON
          have t2 : ((d : Int) != 0) = true := by rw [bne_iff_ne]; omega
          have t3 : ((d : Int) == 0) = false := by rw [beq_eq_false_iff_ne]; omega
          have PB := Lib.hid (show Calls Tryd.prog 31 #[.pointer (some ⟨w.heap.size, 0, none⟩), .int .u8 100] wr (RetPut w.heap.size w.heap.size (letP m 1 ++ [100]) wr .nilIface) from put_byte w.heap.size w.heap.size (letP m 1) 100 wr HI.out.bld (by omega) HI.out.below.size)
          rw [← HON] at PB
          have ix := ix_1 wr
          clear HON hb
          go_wp2_with fail
          refine PB.out.mono ?_
          rintro e w2 ⟨rfl, hbl, hb2⟩
          have N := Lib.hid (show LfIn w m 2 w2 from ⟨hbl, HI.out.below.trans hb2⟩)
          clear hbl hb2
          go_wp2_with fail
          refine ⟨⟨2, by omega, rfl, N.out⟩, ?_⟩
          simp [intOf]
      · have HON := letP_on m 2 102 rfl
        rw [show bitS 102 = 4 from rfl] at HON
        have a1 : bits BinOp.and IntKind.u16 (m : Int) 4 = ((m &&& 4 : Nat) : Int) := and_nat m 4 hm (by omega)
        generalize m &&& 4 = d at *
        by_cases hb : d = 0
        · rw [if_pos hb, List.append_nil] at HON
          have t2 : ((d : Int) != 0) = false := by rw [hb]; rfl
          have t3 : ((d : Int) == 0) = true := by rw [hb]; rfl
          have N := Lib.hid (show LfIn w m 3 wr from ⟨by rw [HON]; exact HI.out.bld, HI.out.below⟩)
          have ix := ix_2 wr
          clear HON hb
          go_wp2_with fail
          refine ⟨⟨3, by omega, rfl, N.out⟩, ?_⟩
          simp [intOf]
        · rw [if_neg hb] at HON
          have t2 : ((d : Int) != 0) = true := by rw [bne_iff_ne]; omega
          have t3 : ((d : Int) == 0) = false := by rw [beq_eq_false_iff_ne]; omega
          have PB := Lib.hid (show Calls Tryd.prog 31 #[.pointer (some ⟨w.heap.size, 0, none⟩), .int .u8 102] wr (RetPut w.heap.size w.heap.size (letP m 2 ++ [102]) wr .nilIface) from put_byte w.heap.size w.heap.size (letP m 2) 102 wr HI.out.bld (by omega) HI.out.below.size)
          rw [← HON] at PB
          have ix := ix_2 wr
          clear HON hb
          go_wp2_with fail
          refine PB.out.mono ?_
          rintro e w2 ⟨rfl, hbl, hb2⟩
          have N := Lib.hid (show LfIn w m 3 w2 from ⟨hbl, HI.out.below.trans hb2⟩)
          clear hbl hb2
          go_wp2_with fail
          refine ⟨⟨3, by omega, rfl, N.out⟩, ?_⟩
          simp [intOf]
      · have HON := letP_on m 3 103 rfl
        rw [show bitS 103 = 32 from rfl] at HON
        have a1 : bits BinOp.and IntKind.u16 (m : Int) 32 = ((m &&& 32 : Nat) : Int) := and_nat m 32 hm (by omega)
        generalize m &&& 32 = d at *
        by_cases hb : d = 0
        · rw [if_pos hb, List.append_nil] at HON
          have t2 : ((d : Int) != 0) = false := by rw [hb]; rfl
          have t3 : ((d : Int) == 0) = true := by rw [hb]; rfl
          have N := Lib.hid (show LfIn w m 4 wr from ⟨by rw [HON]; exact HI.out.bld, HI.out.below⟩)
          have ix := ix_3 wr
          clear HON hb
          go_wp2_with fail
          refine ⟨⟨4, by omega, rfl, N.out⟩, ?_⟩
          simp [intOf]
        · rw [if_neg hb] at HON
          have t2 : ((d : Int) != 0) = true := by rw [bne_iff_ne]; omega
          have t3 : ((d : Int) == 0) = false := by rw [beq_eq_false_iff_ne]; omega
          have PB := Lib.hid (show Calls Tryd.prog 31 #[.pointer (some ⟨w.heap.size, 0, none⟩), .int .u8 103] wr (RetPut w.heap.size w.heap.size (letP m 3 ++ [103]) wr .nilIface) from put_byte w.heap.size w.heap.size (letP m 3) 103 wr HI.out.bld (by omega) HI.out.below.size)
          rw [← HON] at PB
          have ix := ix_3 wr
          clear HON hb
          go_wp2_with fail
          refine PB.out.mono ?_
          rintro e w2 ⟨rfl, hbl, hb2⟩
          have N := Lib.hid (show LfIn w m 4 w2 from ⟨hbl, HI.out.below.trans hb2⟩)
          clear hbl hb2
          go_wp2_with fail
          refine ⟨⟨4, by omega, rfl, N.out⟩, ?_⟩
          simp [intOf]
      · have HON := letP_on m 4 104 rfl
        rw [show bitS 104 = 64 from rfl] at HON
        have a1 : bits BinOp.and IntKind.u16 (m : Int) 64 = ((m &&& 64 : Nat) : Int) := and_nat m 64 hm (by omega)
        generalize m &&& 64 = d at *
        by_cases hb : d = 0
        · rw [if_pos hb, List.append_nil] at HON
          have t2 : ((d : Int) != 0) = false := by rw [hb]; rfl
          have t3 : ((d : Int) == 0) = true := by rw [hb]; rfl
          have N := Lib.hid (show LfIn w m 5 wr from ⟨by rw [HON]; exact HI.out.bld, HI.out.below⟩)
          have ix := ix_4 wr
          clear HON hb
          go_wp2_with fail
          refine ⟨⟨5, by omega, rfl, N.out⟩, ?_⟩
          simp [intOf]
        · rw [if_neg hb] at HON
          have t2 : ((d : Int) != 0) = true := by rw [bne_iff_ne]; omega
          have t3 : ((d : Int) == 0) = false := by rw [beq_eq_false_iff_ne]; omega
          have PB := Lib.hid (show Calls Tryd.prog 31 #[.pointer (some ⟨w.heap.size, 0, none⟩), .int .u8 104] wr (RetPut w.heap.size w.heap.size (letP m 4 ++ [104]) wr .nilIface) from put_byte w.heap.size w.heap.size (letP m 4) 104 wr HI.out.bld (by omega) HI.out.below.size)
          rw [← HON] at PB
          have ix := ix_4 wr
          clear HON hb
          go_wp2_with fail
          refine PB.out.mono ?_
          rintro e w2 ⟨rfl, hbl, hb2⟩
          have N := Lib.hid (show LfIn w m 5 w2 from ⟨hbl, HI.out.below.trans hb2⟩)
          clear hbl hb2
          go_wp2_with fail
          refine ⟨⟨5, by omega, rfl, N.out⟩, ?_⟩
          simp [intOf]
      · have HON := letP_on m 5 105 rfl
        rw [show bitS 105 = 8 from rfl] at HON
        have a1 : bits BinOp.and IntKind.u16 (m : Int) 8 = ((m &&& 8 : Nat) : Int) := and_nat m 8 hm (by omega)
        generalize m &&& 8 = d at *
        by_cases hb : d = 0
        · rw [if_pos hb, List.append_nil] at HON
          have t2 : ((d : Int) != 0) = false := by rw [hb]; rfl
          have t3 : ((d : Int) == 0) = true := by rw [hb]; rfl
          have N := Lib.hid (show LfIn w m 6 wr from ⟨by rw [HON]; exact HI.out.bld, HI.out.below⟩)
          have ix := ix_5 wr
          clear HON hb
          go_wp2_with fail
          refine ⟨⟨6, by omega, rfl, N.out⟩, ?_⟩
          simp [intOf]
        · rw [if_neg hb] at HON
          have t2 : ((d : Int) != 0) = true := by rw [bne_iff_ne]; omega
          have t3 : ((d : Int) == 0) = false := by rw [beq_eq_false_iff_ne]; omega
          have PB := Lib.hid (show Calls Tryd.prog 31 #[.pointer (some ⟨w.heap.size, 0, none⟩), .int .u8 105] wr (RetPut w.heap.size w.heap.size (letP m 5 ++ [105]) wr .nilIface) from put_byte w.heap.size w.heap.size (letP m 5) 105 wr HI.out.bld (by omega) HI.out.below.size)
          rw [← HON] at PB
          have ix := ix_5 wr
          clear HON hb
          go_wp2_with fail
          refine PB.out.mono ?_
          rintro e w2 ⟨rfl, hbl, hb2⟩
          have N := Lib.hid (show LfIn w m 6 w2 from ⟨hbl, HI.out.below.trans hb2⟩)
          clear hbl hb2
          go_wp2_with fail
          refine ⟨⟨6, by omega, rfl, N.out⟩, ?_⟩
          simp [intOf]
      · have HON := letP_on m 6 77 rfl
        rw [show bitS 77 = 128 from rfl] at HON
        have a1 : bits BinOp.and IntKind.u16 (m : Int) 128 = ((m &&& 128 : Nat) : Int) := and_nat m 128 hm (by omega)
        generalize m &&& 128 = d at *
        by_cases hb : d = 0
        · rw [if_pos hb, List.append_nil] at HON
          have t2 : ((d : Int) != 0) = false := by rw [hb]; rfl
          have t3 : ((d : Int) == 0) = true := by rw [hb]; rfl
          have N := Lib.hid (show LfIn w m 7 wr from ⟨by rw [HON]; exact HI.out.bld, HI.out.below⟩)
          have ix := ix_6 wr
          clear HON hb
          go_wp2_with fail
          refine ⟨⟨7, by omega, rfl, N.out⟩, ?_⟩
          simp [intOf]
        · rw [if_neg hb] at HON
          have t2 : ((d : Int) != 0) = true := by rw [bne_iff_ne]; omega
          have t3 : ((d : Int) == 0) = false := by rw [beq_eq_false_iff_ne]; omega
          have PB := Lib.hid (show Calls Tryd.prog 31 #[.pointer (some ⟨w.heap.size, 0, none⟩), .int .u8 77] wr (RetPut w.heap.size w.heap.size (letP m 6 ++ [77]) wr .nilIface) from put_byte w.heap.size w.heap.size (letP m 6) 77 wr HI.out.bld (by omega) HI.out.below.size)
          rw [← HON] at PB
          have ix := ix_6 wr
          clear HON hb
          go_wp2_with fail
          refine PB.out.mono ?_
          rintro e w2 ⟨rfl, hbl, hb2⟩
          have N := Lib.hid (show LfIn w m 7 w2 from ⟨hbl, HI.out.below.trans hb2⟩)
          clear hbl hb2
          go_wp2_with fail
          refine ⟨⟨7, by omega, rfl, N.out⟩, ?_⟩
          simp [intOf]
      · have HON := letP_on m 7 110 rfl
        rw [show bitS 110 = 16 from rfl] at HON
        have a1 : bits BinOp.and IntKind.u16 (m : Int) 16 = ((m &&& 16 : Nat) : Int) := and_nat m 16 hm (by omega)
        generalize m &&& 16 = d at *
        by_cases hb : d = 0
        · rw [if_pos hb, List.append_nil] at HON
          have t2 : ((d : Int) != 0) = false := by rw [hb]; rfl
          have t3 : ((d : Int) == 0) = true := by rw [hb]; rfl
          have N := Lib.hid (show LfIn w m 8 wr from ⟨by rw [HON]; exact HI.out.bld, HI.out.below⟩)
          have ix := ix_7 wr
          clear HON hb
          go_wp2_with fail
          refine ⟨⟨8, by omega, rfl, N.out⟩, ?_⟩
          simp [intOf]
        · rw [if_neg hb] at HON
          have t2 : ((d : Int) != 0) = true := by rw [bne_iff_ne]; omega
          have t3 : ((d : Int) == 0) = false := by rw [beq_eq_false_iff_ne]; omega
          have PB := Lib.hid (show Calls Tryd.prog 31 #[.pointer (some ⟨w.heap.size, 0, none⟩), .int .u8 110] wr (RetPut w.heap.size w.heap.size (letP m 7 ++ [110]) wr .nilIface) from put_byte w.heap.size w.heap.size (letP m 7) 110 wr HI.out.bld (by omega) HI.out.below.size)
          rw [← HON] at PB
          have ix := ix_7 wr
          clear HON hb
          go_wp2_with fail
          refine PB.out.mono ?_
          rintro e w2 ⟨rfl, hbl, hb2⟩
          have N := Lib.hid (show LfIn w m 8 w2 from ⟨hbl, HI.out.below.trans hb2⟩)
          clear hbl hb2
          go_wp2_with fail
          refine ⟨⟨8, by omega, rfl, N.out⟩, ?_⟩
          simp [intOf]
      · have HON := letP_on m 8 114 rfl
        rw [show bitS 114 = 512 from rfl] at HON
        have a1 : bits BinOp.and IntKind.u16 (m : Int) 512 = ((m &&& 512 : Nat) : Int) := and_nat m 512 hm (by omega)
        generalize m &&& 512 = d at *
        by_cases hb : d = 0
        · rw [if_pos hb, List.append_nil] at HON
          have t2 : ((d : Int) != 0) = false := by rw [hb]; rfl
          have t3 : ((d : Int) == 0) = true := by rw [hb]; rfl
          have N := Lib.hid (show LfIn w m 9 wr from ⟨by rw [HON]; exact HI.out.bld, HI.out.below⟩)
          have ix := ix_8 wr
          clear HON hb
          go_wp2_with fail
          refine ⟨⟨9, by omega, rfl, N.out⟩, ?_⟩
          simp [intOf]
        · rw [if_neg hb] at HON
          have t2 : ((d : Int) != 0) = true := by rw [bne_iff_ne]; omega
          have t3 : ((d : Int) == 0) = false := by rw [beq_eq_false_iff_ne]; omega
          have PB := Lib.hid (show Calls Tryd.prog 31 #[.pointer (some ⟨w.heap.size, 0, none⟩), .int .u8 114] wr (RetPut w.heap.size w.heap.size (letP m 8 ++ [114]) wr .nilIface) from put_byte w.heap.size w.heap.size (letP m 8) 114 wr HI.out.bld (by omega) HI.out.below.size)
          rw [← HON] at PB
          have ix := ix_8 wr
          clear HON hb
          go_wp2_with fail
          refine PB.out.mono ?_
          rintro e w2 ⟨rfl, hbl, hb2⟩
          have N := Lib.hid (show LfIn w m 9 w2 from ⟨hbl, HI.out.below.trans hb2⟩)
          clear hbl hb2
          go_wp2_with fail
          refine ⟨⟨9, by omega, rfl, N.out⟩, ?_⟩
          simp [intOf]
      · have HON := letP_on m 9 86 rfl
        rw [show bitS 86 = 256 from rfl] at HON
        have a1 : bits BinOp.and IntKind.u16 (m : Int) 256 = ((m &&& 256 : Nat) : Int) := and_nat m 256 hm (by omega)
        generalize m &&& 256 = d at *
        by_cases hb : d = 0
        · rw [if_pos hb, List.append_nil] at HON
          have t2 : ((d : Int) != 0) = false := by rw [hb]; rfl
          have t3 : ((d : Int) == 0) = true := by rw [hb]; rfl
          have N := Lib.hid (show LfIn w m 10 wr from ⟨by rw [HON]; exact HI.out.bld, HI.out.below⟩)
          have ix := ix_9 wr
          clear HON hb
          go_wp2_with fail
          refine ⟨⟨10, by omega, rfl, N.out⟩, ?_⟩
          simp [intOf]
        · rw [if_neg hb] at HON
          have t2 : ((d : Int) != 0) = true := by rw [bne_iff_ne]; omega
          have t3 : ((d : Int) == 0) = false := by rw [beq_eq_false_iff_ne]; omega
          have PB := Lib.hid (show Calls Tryd.prog 31 #[.pointer (some ⟨w.heap.size, 0, none⟩), .int .u8 86] wr (RetPut w.heap.size w.heap.size (letP m 9 ++ [86]) wr .nilIface) from put_byte w.heap.size w.heap.size (letP m 9) 86 wr HI.out.bld (by omega) HI.out.below.size)
          rw [← HON] at PB
          have ix := ix_9 wr
          clear HON hb
          go_wp2_with fail
          refine PB.out.mono ?_
          rintro e w2 ⟨rfl, hbl, hb2⟩
          have N := Lib.hid (show LfIn w m 10 w2 from ⟨hbl, HI.out.below.trans hb2⟩)
          clear hbl hb2
          go_wp2_with fail
          refine ⟨⟨10, by omega, rfl, N.out⟩, ?_⟩
          simp [intOf]
end Go.Proofs.YtbgbmojoldkcfaaDoor
