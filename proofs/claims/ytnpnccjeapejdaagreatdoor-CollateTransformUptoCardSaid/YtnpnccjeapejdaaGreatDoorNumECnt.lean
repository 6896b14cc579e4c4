/- numeral's appendCount, and the appendTo of digits. -/
import Derived.Test.YtnpnccjeapejdaaGreatDoorNumEOwn
namespace Go.Proofs.YtnpnccjeapejdaaGreatDoor.Num
open Go.RowKit

theorem hs8 (n k : Nat) : (List.range (k + 1)).map (be8 n) = (List.range k).map (be8 n) ++ [be8 n k] := by rw [List.range_succ, List.map_append]; rfl
def CntRel (w : World) (B n : Nat) (l : List UInt8) (v i : Value) (wr : World) : Prop :=
  ∃ k : Nat, k ≤ 8 ∧ i = .int .i64 k ∧ OwnB wr B v (l ++ (List.range k).map (be8 n)) ∧ Below B w wr ∧ KeepB w wr
theorem CntRel.next {w wr w1 : World} {B n : Nat} {l : List UInt8} {v v1 : Value} (k : Nat) (hk : k < 8) (i : Value) (hi : i = .int .i64 ((k + 1 : Nat) : Int)) (_ : OwnB wr B v (l ++ (List.range k).map (be8 n))) (hb : Below B w wr) (hp : KeepB w wr)
    (h1 : OwnB w1 B v1 (l ++ (List.range k).map (be8 n) ++ [be8 n k])) (h2 : Below B wr w1) (h3 : KeepB wr w1) : CntRel w B n l v1 i w1 := by
  refine ⟨k + 1, hk, hi, ?_, hb.trans h2, hp.trans h3⟩
  rw [hs8, ← List.append_assoc]
  exact h1

set_option maxRecDepth 100000
set_option maxHeartbeats 1600000 in
theorem appendCount_ok (B : Nat) (v : Value) (l : List UInt8) (n : Nat) (hn : n < 18446744073709551616) (w : World) (hown : OwnB w B v l) (hl : l.length ≤ 10000000000) :
    Calls Tryz.prog 55 #[v, .int .u64 n] w (RetOwn B w (l ++ beN 8 n)) := by
  have HO := Lib.hid hown
  have HE := Lib.hid (beN8 n (by omega))
  clear hown
  go_enter Tryz.func55, Tryz.ntmps55
  go_wp2_with fail
  go_loopw [0, 6] (fun v i wr => CntRel w B n l v i wr) (fun _ i _ => 8 - (intOf i).toNat)
  case atStart => exact ⟨0, by omega, rfl, by simpa using HO.out, Below.refl _ _, KeepB.refl _⟩
  case round =>
    obtain ⟨k, hk, rfl, ho, hb, hp⟩ := hrel
    have HL : (l ++ (List.range k).map (be8 n)).length ≤ 10000000008 := by simp; omega
    have HLL := Lib.hid HL
    have HO1 := Lib.hid ho
    have HB1 := Lib.hid hb
    have HP1 := Lib.hid hp
    clear ho hb hp HL
    by_cases hlt : k < 8
    · obtain rfl | rfl | rfl | rfl | rfl | rfl | rfl | rfl : k = 0 ∨ k = 1 ∨ k = 2 ∨ k = 3 ∨ k = 4 ∨ k = 5 ∨ k = 6 ∨ k = 7 := by omega
      · clear hk hlt
        go_wp2_with (at_builtin; refine wp_app rfl _ _ rfl B _ _ rfl HO1.out [be8 n 0] _ ?pp0 rfl ?qq0 ?rr0)
        case pp0 => simp [byV, be8]; try omega
        case qq0 => have := HLL.out; simp at this ⊢; omega
        · intro v1 w1 h1 h2 h3
          have H1 := Lib.hid h1
          have H2 := Lib.hid h2
          have H3 := Lib.hid h3
          clear h1 h2 h3
          go_wp2_with fail
          exact ⟨CntRel.next 0 (by omega) _ rfl HO1.out HB1.out HP1.out (by simpa [List.range_succ] using H1.out) H2.out H3.out, by simp [intOf]⟩
      · clear hk hlt
        go_wp2_with (at_builtin; refine wp_app rfl _ _ rfl B _ _ rfl HO1.out [be8 n 1] _ ?pp1 rfl ?qq1 ?rr1)
        case pp1 => simp [byV, be8]; try omega
        case qq1 => have := HLL.out; simp at this ⊢; omega
        · intro v1 w1 h1 h2 h3
          have H1 := Lib.hid h1
          have H2 := Lib.hid h2
          have H3 := Lib.hid h3
          clear h1 h2 h3
          go_wp2_with fail
          exact ⟨CntRel.next 1 (by omega) _ rfl HO1.out HB1.out HP1.out (by simpa [List.range_succ] using H1.out) H2.out H3.out, by simp [intOf]⟩
      · clear hk hlt
        go_wp2_with (at_builtin; refine wp_app rfl _ _ rfl B _ _ rfl HO1.out [be8 n 2] _ ?pp2 rfl ?qq2 ?rr2)
        case pp2 => simp [byV, be8]; try omega
        case qq2 => have := HLL.out; simp at this ⊢; omega
        · intro v1 w1 h1 h2 h3
          have H1 := Lib.hid h1
          have H2 := Lib.hid h2
          have H3 := Lib.hid h3
          clear h1 h2 h3
          go_wp2_with fail
          exact ⟨CntRel.next 2 (by omega) _ rfl HO1.out HB1.out HP1.out (by simpa [List.range_succ] using H1.out) H2.out H3.out, by simp [intOf]⟩
      · clear hk hlt
        go_wp2_with (at_builtin; refine wp_app rfl _ _ rfl B _ _ rfl HO1.out [be8 n 3] _ ?pp3 rfl ?qq3 ?rr3)
        case pp3 => simp [byV, be8]; try omega
        case qq3 => have := HLL.out; simp at this ⊢; omega
        · intro v1 w1 h1 h2 h3
          have H1 := Lib.hid h1
          have H2 := Lib.hid h2
          have H3 := Lib.hid h3
          clear h1 h2 h3
          go_wp2_with fail
          exact ⟨CntRel.next 3 (by omega) _ rfl HO1.out HB1.out HP1.out (by simpa [List.range_succ] using H1.out) H2.out H3.out, by simp [intOf]⟩
      · clear hk hlt
        go_wp2_with (at_builtin; refine wp_app rfl _ _ rfl B _ _ rfl HO1.out [be8 n 4] _ ?pp4 rfl ?qq4 ?rr4)
        case pp4 => simp [byV, be8]; try omega
        case qq4 => have := HLL.out; simp at this ⊢; omega
        · intro v1 w1 h1 h2 h3
          have H1 := Lib.hid h1
          have H2 := Lib.hid h2
          have H3 := Lib.hid h3
          clear h1 h2 h3
          go_wp2_with fail
          exact ⟨CntRel.next 4 (by omega) _ rfl HO1.out HB1.out HP1.out (by simpa [List.range_succ] using H1.out) H2.out H3.out, by simp [intOf]⟩
      · clear hk hlt
        go_wp2_with (at_builtin; refine wp_app rfl _ _ rfl B _ _ rfl HO1.out [be8 n 5] _ ?pp5 rfl ?qq5 ?rr5)
        case pp5 => simp [byV, be8]; try omega
        case qq5 => have := HLL.out; simp at this ⊢; omega
        · intro v1 w1 h1 h2 h3
          have H1 := Lib.hid h1
          have H2 := Lib.hid h2
          have H3 := Lib.hid h3
          clear h1 h2 h3
          go_wp2_with fail
          exact ⟨CntRel.next 5 (by omega) _ rfl HO1.out HB1.out HP1.out (by simpa [List.range_succ] using H1.out) H2.out H3.out, by simp [intOf]⟩
      · clear hk hlt
        go_wp2_with (at_builtin; refine wp_app rfl _ _ rfl B _ _ rfl HO1.out [be8 n 6] _ ?pp6 rfl ?qq6 ?rr6)
        case pp6 => simp [byV, be8]; try omega
        case qq6 => have := HLL.out; simp at this ⊢; omega
        · intro v1 w1 h1 h2 h3
          have H1 := Lib.hid h1
          have H2 := Lib.hid h2
          have H3 := Lib.hid h3
          clear h1 h2 h3
          go_wp2_with fail
          exact ⟨CntRel.next 6 (by omega) _ rfl HO1.out HB1.out HP1.out (by simpa [List.range_succ] using H1.out) H2.out H3.out, by simp [intOf]⟩
      · clear hk hlt
        go_wp2_with (at_builtin; refine wp_app rfl _ _ rfl B _ _ rfl HO1.out [be8 n 7] _ ?pp7 rfl ?qq7 ?rr7)
        case pp7 => simp [byV, be8]; try omega
        case qq7 => have := HLL.out; simp at this ⊢; omega
        · intro v1 w1 h1 h2 h3
          have H1 := Lib.hid h1
          have H2 := Lib.hid h2
          have H3 := Lib.hid h3
          clear h1 h2 h3
          go_wp2_with fail
          exact ⟨CntRel.next 7 (by omega) _ rfl HO1.out HB1.out HP1.out (by simpa [List.range_succ] using H1.out) H2.out H3.out, by simp [intOf]⟩
    · have hk8 : k = 8 := by omega
      subst hk8
      clear hlt hk
      go_wp2_with fail
      go_ret
      refine ⟨_, rfl, ?_, HB1.out, HP1.out⟩
      rw [HE.out]
      exact HO1.out

set_option maxHeartbeats 800000 in
theorem digAppend_ok (B : Nat) (v : Value) (l : List UInt8) (p q : ByteArray) (w : World) (hown : OwnB w B v l) (hl : l.length ≤ 10000000000) (hp : p.size ≤ 1000000000) (hq : q.size ≤ 1000000000) :
    Calls Tryz.prog 56 #[.agg #[.string p, .string q], v] w (RetOwn B w (l ++ (p.data.toList ++ q.data.toList))) := by
  have HO := Lib.hid (hown.alloc (Obj.cells #[Value.string p, Value.string q] 77))
  have HB := Lib.hid ((Below.refl B w).alloc hown.2 (Obj.cells #[Value.string p, Value.string q] 77))
  have HP := Lib.hid (KeepB.below (below_alloc w (Obj.cells #[Value.string p, Value.string q] 77)))
  have HG : (w.alloc (Obj.cells #[Value.string p, Value.string q] 77)).heap[w.heap.size]? = some (.cells #[Value.string p, Value.string q] 77 (0, 0)) := heap_alloc_new w _
  have HGG := Lib.hid HG
  clear hown HG
  go_enter Tryz.func56, Tryz.ntmps56
  go_wp2_with (at_builtin; refine wp_apps rfl _ _ rfl B _ _ rfl HO.out p rfl ?c1 ?c2)
  case c1 => omega
  · intro v1 w1 h1 h2 h3
    have c1 : w1.cell? ⟨w.heap.size, 1, none⟩ = some (.string q) := by rw [cell_of_row w1 w.heap.size 1 _ 77 (0, 0) (h3 _ 77 _ (by decide) HGG.out)]; rfl
    have H1 := Lib.hid h1
    have H2 := Lib.hid (HB.out.trans h2)
    have H3 := Lib.hid (HP.out.trans h3)
    clear h1 h2 h3
    go_wp2_with (at_builtin; refine wp_apps rfl _ _ rfl B _ _ rfl H1.out q rfl ?d1 ?d2)
    case d1 => rw [List.length_append, ← Lib.size_eq]; omega
    · intro v2 w2 h4 h5 h6
      have H4 := Lib.hid h4
      have H5 := Lib.hid (H2.out.trans h5)
      have H6 := Lib.hid (H3.out.trans h6)
      clear h4 h5 h6
      go_wp2_with fail
      go_ret
      exact ⟨_, rfl, H4.out, H5.out, H6.out⟩
end Go.Proofs.YtnpnccjeapejdaaGreatDoor.Num
