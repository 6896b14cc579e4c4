/- numeral's embedBytes. -/
import Derived.Test.YtpbbgmfjdachnaaDoorCnt
namespace Go.Proofs.YtpbbgmfjdachnaaDoor
open Go.RowKit

theorem esc_take {s : ByteArray} {k : Nat} (h : k < s.size) : (s.data.toList.take (k + 1)).flatMap escB = (s.data.toList.take k).flatMap escB ++ escB s[k] := by
  have hg : s.data.toList[k]? = some s[k] := by rw [Array.getElem?_toList]; exact Array.getElem?_eq_getElem h
  rw [List.take_add_one, hg, List.flatMap_append]
  simp
theorem esc_len : ∀ l : List UInt8, (l.flatMap escB).length ≤ 2 * l.length
  | [] => by simp
  | c :: r => by
    have := esc_len r
    have h : (escB c).length ≤ 2 := by unfold escB; split <;> simp
    simp only [List.flatMap_cons, List.length_append, List.length_cons]
    omega
def EsRel (w : World) (s : ByteArray) (v i : Value) (wr : World) : Prop :=
  ∃ k : Nat, k ≤ s.size ∧ i = .int .i64 k ∧ OwnB wr w.heap.size v ((s.data.toList.take k).flatMap escB) ∧ Below w.heap.size w wr
theorem EsRel.next {w wr w1 : World} {s : ByteArray} {v1 : Value} (k : Nat) (hk : k < s.size) (i : Value) (hi : i = .int .i64 ((k + 1 : Nat) : Int)) (hb : Below w.heap.size w wr) (c : List UInt8) (hc : c = escB s[k])
    (h1 : OwnB w1 w.heap.size v1 ((s.data.toList.take k).flatMap escB ++ c)) (h2 : Below w.heap.size wr w1) : EsRel w s v1 i w1 := by
  refine ⟨k + 1, hk, hi, ?_, hb.trans h2⟩
  rw [esc_take hk, ← hc]
  exact h1

set_option maxRecDepth 100000
set_option maxHeartbeats 1600000 in
theorem embedBytes_ok (s : ByteArray) (w : World) (hs : s.size ≤ 1000000000) : Calls Tryd.prog 48 #[.string s] w (RetBelow w (.string (bs (escS s.data.toList)))) := by
  go_enter Tryd.func48, Tryd.ntmps48
  go_wp2_with (at_make; refine wp_make rfl _ _ rfl w.heap.size (Nat.le_refl _) _ _ _ (s.size + 1) rfl rfl ?c1x1 ?c2x1 ?_)
  case c1x1 => simp
  case c2x1 => omega
  intro v0 w0 g1 g2 _
  have G1 := Lib.hid g1
  have G2 := Lib.hid g2
  clear g1 g2
  go_wp2_with fail
  go_loopw [3, 11] (fun v i wr => EsRel w s v i wr) (fun _ i _ => s.size - (intOf i).toNat)
  case atStart => exact ⟨0, by omega, rfl, by simpa using G1.out, G2.out⟩
  case round =>
    obtain ⟨k, hk, rfl, ho, hb⟩ := hrel
    have HL := Lib.hid (show ((s.data.toList.take k).flatMap escB).length ≤ 2000000000 by
      have := esc_len (s.data.toList.take k); have h2 : (s.data.toList.take k).length ≤ s.size := by rw [Lib.size_eq]; exact List.length_take_le' _ _
      omega)
    have HO := Lib.hid ho
    have HB := Lib.hid hb
    clear ho hb
    by_cases hlt : k < s.size
    · have HLT := Lib.hid hlt
      have hb256 := s[k].toNat_lt
      by_cases hc : s[k].toNat ≤ 1
      · have t1 : decide ((s[k].toNat : Int) ≤ 1) = true := by simp; omega
        have HE := Lib.hid (show ([1, s[k] + 1] : List UInt8) = escB s[k] by unfold escB; rw [if_pos hc])
        go_wp2_with (at_builtin; refine wp_app rfl _ _ rfl w.heap.size _ _ rfl HO.out [1, s[k] + 1] _ ?c1x2 rfl ?c2x2 ?c3x2)
        case c1x2 => simp [byV]; omega
        case c2x2 => have := HL.out; simp only [List.length_cons, List.length_nil]; omega
        · intro v1 w1 h1 h2 _
          have H1 := Lib.hid h1
          have H2 := Lib.hid h2
          clear h1 h2
          go_wp2_with fail
          exact ⟨EsRel.next k HLT.out _ rfl HB.out _ HE.out H1.out H2.out, by have := HLT.out; simp [intOf]; omega⟩
      · have t1 : decide ((s[k].toNat : Int) ≤ 1) = false := by simp; omega
        have HE := Lib.hid (show ([s[k]] : List UInt8) = escB s[k] by unfold escB; rw [if_neg hc])
        go_wp2_with (at_builtin; refine wp_app rfl _ _ rfl w.heap.size _ _ rfl HO.out [s[k]] _ ?c1x3 rfl ?c2x3 ?c3x3)
        case c1x3 => simp [byV]; rfl
        case c2x3 => have := HL.out; simp only [List.length_cons, List.length_nil]; omega
        · intro v1 w1 h1 h2 _
          have H1 := Lib.hid h1
          have H2 := Lib.hid h2
          clear h1 h2
          go_wp2_with fail
          exact ⟨EsRel.next k HLT.out _ rfl HB.out _ HE.out H1.out H2.out, by have := HLT.out; simp [intOf]; omega⟩
    · have hks : k = s.size := by omega
      subst hks
      clear hlt hk
      go_wp2_with (at_builtin; refine wp_app rfl _ _ rfl w.heap.size _ _ rfl HO.out [0] _ rfl rfl ?c2x4 ?c3x4)
      case c2x4 => have := HL.out; simp only [List.length_cons, List.length_nil]; omega
      · intro v1 w1 h1 h2 _
        have hback := h1.back (by simp)
        have H2 := Lib.hid (HB.out.trans h2)
        clear h1 h2
        go_wp2_with fail
        go_ret
        refine ⟨?_, H2.out⟩
        rw [Lib.size_eq, List.take_length]
        rfl
end Go.Proofs.YtpbbgmfjdachnaaDoor
