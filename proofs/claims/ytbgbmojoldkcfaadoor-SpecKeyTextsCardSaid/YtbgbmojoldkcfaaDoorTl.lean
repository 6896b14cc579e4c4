/- SpecKeyTexts: the walk. -/
import Derived.Test.YtbgbmojoldkcfaaDoorPr1
namespace Go.Proofs.YtbgbmojoldkcfaaDoor
open Go.RowKit

set_option maxRecDepth 100000
theorem pk_hold (F C E D m : Nat) (b : Bool) (w : World) (h : Holds F C E D m b) (T : TabP w) : Calls Tryd.prog 13 #[.agg #[.int .i64 (F : Int), .int .i64 (C : Int), .int .i64 (E : Int), .int .i64 (D : Int), .int .u16 (m : Int), .bool b]] w (RetPk w (keyT F C E D m b) 0) := by
  have two := h.two
  by_cases hc : C = 1
  · by_cases he : E = 0
    · obtain ⟨hd, hb⟩ : D = 0 ∧ b = false := by rcases two with h2 | ⟨h2, h3⟩ <;> first | exact absurd (by omega) h2 | exact ⟨by omega, h3⟩
      exact pr_11 F C E D m b w h T hc he hd hb
    · by_cases hd : D = 0
      · cases b
        · exact pr_1010 F C E D m false w h T hc he hd rfl
        · exact pr_1011 F C E D m true w h T hc he hd rfl
      · cases b
        · exact pr_1000 F C E D m false w h T hc he hd rfl
        · exact pr_1001 F C E D m true w h T hc he hd rfl
  · by_cases he : E = 0
    · obtain ⟨hd, hb⟩ : D = 0 ∧ b = false := by rcases two with h2 | ⟨h2, h3⟩ <;> first | exact absurd (by omega) h2 | exact ⟨by omega, h3⟩
      exact pr_01 F C E D m b w h T hc he hd hb
    · by_cases hd : D = 0
      · cases b
        · exact pr_0010 F C E D m false w h T hc he hd rfl
        · exact pr_0011 F C E D m true w h T hc he hd rfl
      · cases b
        · exact pr_0000 F C E D m false w h T hc he hd rfl
        · exact pr_0001 F C E D m true w h T hc he hd rfl
/-- What both give. -/
theorem both_ok (f c ef ec : Int) (m : Nat) (b : Bool) (hm : m < 65536) (bf : f ≤ 9223372036854775807) (bc : c ≤ 9223372036854775807) (be : ef ≤ 9223372036854775807) (bd : ec ≤ 9223372036854775807) :
    ∃ (X : List UInt8) (n : Int), (∀ w, TabP w → Calls Tryd.prog 13 #[.agg #[.int .i64 f, .int .i64 c, .int .i64 ef, .int .i64 ec, .int .u16 (m : Int), .bool b]] w (RetPk w X n)) ∧ ∀ w, Calls Tryd.prog 14 #[.agg #[.int .i64 f, .int .i64 c, .int .i64 ef, .int .i64 ec, .int .u16 (m : Int), .bool b]] w (RetPk w X n) := by
  by_cases h : Holds f c ef ec m b
  · refine ⟨keyT f c ef ec m b, 0, fun w T => ?_, fun w => rp_hold f c ef ec m b w hm bf bc be bd h⟩
    obtain ⟨F, rfl⟩ : ∃ F : Nat, f = F := ⟨f.toNat, by have := h.f1; omega⟩
    obtain ⟨C, rfl⟩ : ∃ F : Nat, c = F := ⟨c.toNat, by have := h.c1; omega⟩
    obtain ⟨E, rfl⟩ : ∃ F : Nat, ef = F := ⟨ef.toNat, by have := h.e1; omega⟩
    obtain ⟨D, rfl⟩ : ∃ F : Nat, ec = F := ⟨ec.toNat, by have := h.d1; omega⟩
    exact pk_hold F C E D m b w h T
  · exact ⟨[], 43, fun w _ => pk_not f c ef ec m hm b w h, fun w => rp_not f c ef ec m b w hm bf bc be bd h⟩
theorem num_okT (x : Int) (w : World) : Calls Tryd.prog 10 #[.int .i64 x] w fun e w' => e = .returned (.int .i64 x) ∧ w = w' := by
  go_enter Tryd.func10, Tryd.ntmps10
  go_wp2_with fail
  go_ret
  exact ⟨rfl, rfl⟩
set_option maxHeartbeats 3200000 in
theorem texts_law (f c ef ec : Int) (m : Nat) (b : Bool) (w : World) (hm : m < 65536) (bf : f ≤ 9223372036854775807) (bc : c ≤ 9223372036854775807) (be : ef ≤ 9223372036854775807) (bd : ec ≤ 9223372036854775807) (T : TabP w) :
    Calls Tryd.prog 5 #[.agg #[.int .i64 f, .int .i64 c, .int .i64 ef, .int .i64 ec, .int .u16 (m : Int), .bool b]] w (RetBk w (.bool true)) := by
  obtain ⟨X, n, c1, c2⟩ := both_ok f c ef ec m b hm bf bc be bd
  have C1 := Lib.hid c1
  have C2 := Lib.hid c2
  have H0 := Lib.hid (KtIn.start w f c ef ec m b)
  have T0 := Lib.hid (T.below H0.out.below T.lt)
  have T3 := T.lt
  clear c1 c2 T
  generalize bsk X = S at *
  go_enter Tryd.func5, Tryd.ntmps5
  go_wp2_with fail
  refine (C1.out _ T0.out).mono ?_
  rintro e w1 ⟨he, hb⟩
  obtain ⟨Y, hY⟩ : ∃ Y, Y = bsk X := ⟨_, rfl⟩
  rw [← hY] at he
  have HY := Lib.hid hY
  clear hY
  subst he
  have H1 := Lib.hid (H0.out.step hb)
  clear hb
  have k0 := H1.out.key.cell 0 _ rfl
  have k1 := H1.out.key.cell 1 _ rfl
  have k2 := H1.out.key.cell 2 _ rfl
  have k3 := H1.out.key.cell 3 _ rfl
  have k4 := H1.out.key.cell 4 _ rfl
  have k5 := H1.out.key.cell 5 _ rfl
  go_wp2_with fail
  refine (C2.out _).mono ?_
  rintro e w2 ⟨he, hb⟩
  rw [← HY.out] at he
  subst he
  have H2 := Lib.hid (H1.out.step hb)
  clear hb
  go_wp2_with (first | (go_at_call 10; refine (num_okT _ _).mono ?_; rintro e w' ⟨rfl, rfl⟩))
  go_ret
  exact ⟨rfl, H2.out.below⟩
end Go.Proofs.YtbgbmojoldkcfaaDoor
