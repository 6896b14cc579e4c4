/- The answer's Span gives the program's places. -/
import Derived.Test.YtgpcmlbmmcnkjaaGreatDoorMs
namespace Go.Proofs.YtgpcmlbmmcnkjaaGreatDoor
open Go.RowKit
set_option maxRecDepth 100000

theorem mspan_ok (s : ByteArray) (o : Option UInt8) (f c ef ec m : Nat) (b : Bool) (w : World) (hf : 1 ≤ f ∧ f ≤ 2147483647) (hc : 1 ≤ c ∧ c ≤ 2147483647) (hef : ef ≤ 2147483647) (hec : ec ≤ 2147483647) (hm : m < 65536) (hs : s.size ≤ 1048576) :
    Calls Tryz.prog 17 #[.string s, .agg #[.int .i64 (f : Int), .int .i64 (c : Int), .int .i64 (ef : Int), .int .i64 (ec : Int), .int .u16 (m : Int), .bool b], .int .i64 (tabI o)] w (RetBk w (.agg #[.int .i64 ((spanP s.data.toList o f c ef ec m b).1 : Nat), .int .i64 ((spanP s.data.toList o f c ef ec m b).2 : Nat)])) := by
  have hb2 : (!decide (m &&& 1 = 0)) = bB m := rfl
  have fle := fun n => fbeg_le s.data.toList o n 0 (Nat.zero_le _)
  have hyb : (if b then behB s.data.toList (fbeg s.data.toList o (ef - 1) 0) else fbeg s.data.toList o (ef - 1) 0) ≤ s.size := by
    rw [Lib.size_eq]
    have := behB_le s.data.toList _ (fle (ef - 1))
    have := fle (ef - 1)
    split <;> omega
  have fh := field_here s o
  have hmax : max (spanB s.data.toList o f c m) (spanE s.data.toList o ef ec b) = (spanP s.data.toList o f c ef ec m b).2 := rfl
  rw [← hmax]
  rw [show (spanP s.data.toList o f c ef ec m b).1 = spanB s.data.toList o f c m from rfl]
  refine mspan_g s (tabI o) f c ef ec m b (fieldsS s.data.toList o) (fieldsS s.data.toList o).length _ _ (fend s.data.toList o (fbeg s.data.toList o (ef - 1) 0)) _ _ w hc hef hec hm hs rfl hyb (Lib.hid (fun W => ref_ok o s W hs)) (Lib.hid (fun ao cc W H => mbegin_ok s o ao cc f (bB m) W hf (by omega) H)) (Lib.hid (fun ao cc W h H => mbegin_ok s o ao cc ef b W ⟨by omega, hef⟩ (by omega) H)) (fun h hl => ⟨_, (fields_at s.data.toList o (ef - 1)).1 (by omega)⟩) ?_ ?_
  · rw [behB_is s.data.toList o f c m (fle _), Lib.size_eq]
  · unfold spanE
    by_cases h0 : ef = 0
    · rw [if_pos h0, if_pos h0, Lib.size_eq]
    · rw [if_neg h0, if_neg h0]
      by_cases h1 : ec = 0
      · rw [if_pos h1, if_pos h1]
        by_cases h2 : ef ≤ (fieldsS s.data.toList o).length
        · rw [if_pos h2]
        · rw [if_neg h2, (fh ef (by omega)).2 h2, Lib.size_eq, fend_len]
      · rw [if_neg h1, if_neg h1]
        unfold furS
        rw [Lib.size_eq] at hyb ⊢
        generalize (if b then behB s.data.toList (fbeg s.data.toList o (ef - 1) 0) else fbeg s.data.toList o (ef - 1) 0) = y at *
        split <;> omega
end Go.Proofs.YtgpcmlbmmcnkjaaGreatDoor
