/- PrintKey, the program's. -/
import Derived.Test.YtbgbmojoldkcfaaDoorLf
import Derived.Lib.AppendIntMem
namespace Go.Proofs.YtbgbmojoldkcfaaDoor
open Go.RowKit

set_option maxRecDepth 100000
/-- The tables that PrintKey reads. -/
structure TabP (w : World) : Prop where
  pow : ∃ t fr, w.heap[3]? = some (.cells (Lib.pow10Tab.map fun z => Value.int .u64 z).toArray t fr)
  bits : BitsT w
theorem TabP.lt {w : World} (h : TabP w) : 3 < w.heap.size := by obtain ⟨t, fr, hb⟩ := h.pow; exact lt_of_block hb
theorem TabP.below {w w' : World} {B : Nat} (h : TabP w) (k : Below B w w') (hB : 3 < B) : TabP w' := by
  obtain ⟨⟨t, fr, hb⟩, ⟨t2, fr2, hb2⟩⟩ := h
  exact ⟨⟨t, fr, (k.block 3 hB).trans hb⟩, ⟨t2, fr2, (k.block 2 (by omega)).trans hb2⟩⟩
theorem TabP.is {w : World} (h : TabP w) : Lib.TabIs Tryd.prog w "internal/strconv.uint64pow10" .u64 Lib.pow10Tab := by
  obtain ⟨t, fr, hb⟩ := h.pow
  unfold Lib.TabIs World.var?
  rw [show Tryd.prog.globalNamed "internal/strconv.uint64pow10" = some 3 by kernel_rfl]
  simp only [Option.bind_some, hb]
theorem itoa_ok (F : Nat) (hF : F ≤ 2147483647) (w : World) (T : TabP w) : Calls Tryd.prog 29 #[.int .i64 (F : Int)] w (RetS w (dgT F)) :=
  (Tryd.strconv_Itoa (F : Int) (by omega) (by omega) w T.is).mono fun e w' ⟨h, k, os, hw⟩ => ⟨by rw [h, Lib.itoa_nonneg]; rfl, by rw [hw]; exact Lib.below_grow _ w (Nat.le_refl _) k os⟩
theorem BAt.over {B b : Nat} {l : List UInt8} {w w' : World} (h : BAt B b l w) (k : Below w.heap.size w w') : BAt B b l w' := by
  have one : ∀ p, Lib.BuilderAt 70 5 B b p (Lib.byteCells l) w → Lib.BuilderAt 70 5 B b p (Lib.byteCells l) w' := fun p ⟨hB, v, hb, hown, hne⟩ =>
    ⟨hB, v, (k.block b (lt_of_block hb)).trans hb, by
      by_cases hv : v.ownBlock = none
      · exact hown.kept (row := none) ⟨k.os, k.tape, k.output, k.size, fun i hi _ => k.block i hi⟩ (Or.inl hv)
      · exact hown.kept (row := none) ⟨k.os, k.tape, k.output, k.size, fun i hi _ => k.block i hi⟩ (Or.inr hv), hne⟩
  rcases h with h | h
  · exact Or.inl (one _ h)
  · exact Or.inr (one _ h)
/-- Within PrintKey: the key's block, the builder's, the tables. -/
structure PrIn (w : World) (F C E D m : Nat) (b : Bool) (Q : Nat) (T : List UInt8) (wr : World) : Prop where
  key : CellsAt wr w.heap.size (kI F C E D m b)
  bld : BAt Q Q T wr
  below : Below w.heap.size w wr
  tab : TabP wr
  lo : w.heap.size < Q
  hi : Q ≤ wr.heap.size
theorem PrIn.over {w : World} {F C E D m : Nat} {b : Bool} {Q : Nat} {T : List UInt8} {wr w' : World} (h : PrIn w F C E D m b Q T wr) (k : Below wr.heap.size wr w') : PrIn w F C E D m b Q T w' :=
  ⟨h.key.step k, h.bld.over k, h.below.trans (k.mono h.below.size), h.tab.below k h.tab.lt, h.lo, Nat.le_trans h.hi k.size⟩
theorem PrIn.put {w : World} {F C E D m : Nat} {b : Bool} {Q : Nat} {T T' : List UInt8} {wr w' : World} (h : PrIn w F C E D m b Q T wr) (h3 : 3 < w.heap.size) (hb : BAt Q Q T' w') (k : Below Q wr w') : PrIn w F C E D m b Q T' w' :=
  have hlo := h.lo
  ⟨⟨Nat.lt_of_lt_of_le h.key.lt k.size, fun j v hv => (k.cell (p := ⟨w.heap.size, j, none⟩) hlo).trans (h.key.cell j v hv), fun j => (k.frozen (p := ⟨w.heap.size, j, none⟩) hlo).trans (h.key.free j)⟩, hb, h.below.trans (k.mono (Nat.le_of_lt hlo)), h.tab.below k (by omega), hlo, Nat.le_trans h.hi k.size⟩
theorem hol_yes (f c ef ec : Int) (m : Nat) (b : Bool) (w : World) (h : Holds f c ef ec m b) : Calls Tryd.prog 27 #[.agg #[.int .i64 f, .int .i64 c, .int .i64 ef, .int .i64 ec, .int .u16 (m : Int), .bool b]] w (RetBk w (.bool true)) := by
  by_cases he : ef = 0
  · rcases h.two with h2 | ⟨h2, h3⟩
    · exact absurd he h2
    · exact hol_true1 f c ef ec m b w ⟨h.f1, h.f2⟩ ⟨h.c1, h.c2⟩ ⟨h.e1, h.e2⟩ ⟨h.d1, h.d2⟩ he h2 h3 h.m1 h.tog
  · exact hol_true0 f c ef ec m b w ⟨h.f1, h.f2⟩ ⟨h.c1, h.c2⟩ ⟨h.e1, h.e2⟩ ⟨h.d1, h.d2⟩ he h.m1 h.tog
theorem hol_no (f c ef ec : Int) (m : Nat) (hm : m < 65536) (b : Bool) (w : World) (h : ¬ Holds f c ef ec m b) : Calls Tryd.prog 27 #[.agg #[.int .i64 f, .int .i64 c, .int .i64 ef, .int .i64 ec, .int .u16 (m : Int), .bool b]] w (RetBk w (.bool false)) := by
  by_cases hf : 1 ≤ f ∧ f ≤ 2147483647
  · by_cases hc : 1 ≤ c ∧ c ≤ 2147483647
    · by_cases he : 0 ≤ ef ∧ ef ≤ 2147483647
      · by_cases hd : 0 ≤ ec ∧ ec ≤ 2147483647
        · by_cases h0 : ef = 0
          · by_cases h1 : ec = 0
            · cases b with
              | true => exact hol_two2 f c ef ec m true w hf hc he hd h0 h1 rfl
              | false =>
                by_cases hm1 : m < 1024
                · cases ht : togS m with
                  | true => exact absurd ⟨hf.1, hf.2, hc.1, hc.2, he.1, he.2, hd.1, hd.2, Or.inr ⟨h1, rfl⟩, hm1, ht⟩ h
                  | false => exact hol_false1 f c ef ec m false w hf hc he hd h0 h1 rfl hm1 ht
                · exact hol_big1 f c ef ec m false w hf hc he hd h0 h1 rfl hm hm1
            · exact hol_two1 f c ef ec m b w hf hc he hd h0 h1
          · by_cases hm1 : m < 1024
            · cases ht : togS m with
              | true => exact absurd ⟨hf.1, hf.2, hc.1, hc.2, he.1, he.2, hd.1, hd.2, Or.inl h0, hm1, ht⟩ h
              | false => exact hol_false0 f c ef ec m b w hf hc he hd h0 hm1 ht
            · exact hol_big0 f c ef ec m b w hf hc he hd h0 hm hm1
        · exact hol_d f c ef ec m b w hf hc he hd
      · exact hol_e f c ef ec m b w hf hc he
    · exact hol_c f c ef ec m b w hf hc
  · exact hol_f f c ef ec m b w hf
set_option maxHeartbeats 1600000 in
theorem pk_not (f c ef ec : Int) (m : Nat) (hm : m < 65536) (b : Bool) (w : World) (h : ¬ Holds f c ef ec m b) : Calls Tryd.prog 13 #[.agg #[.int .i64 f, .int .i64 c, .int .i64 ef, .int .i64 ec, .int .u16 (m : Int), .bool b]] w (RetPk w [] 43) := by
  have K := Lib.hid (fun w => hol_no f c ef ec m hm b w h)
  have H0 := Lib.hid (KtIn.start w f c ef ec m b)
  clear h
  go_enter Tryd.func13, Tryd.ntmps13
  go_wp2_with fail
  refine (K.out _).mono ?_
  rintro e w1 ⟨rfl, hb⟩
  have H1 := Lib.hid (H0.out.step hb)
  clear hb
  go_wp2_with fail
  go_ret2
  exact ⟨rfl, H1.out.below⟩
end Go.Proofs.YtbgbmojoldkcfaaDoor
