/- A strings.Builder of the call's own: its writes, walked here, for the shelf has none that fits this dump (NoEscape stands in place). -/
import Derived.Test.YtbgbmojoldkcfaaDoorHol
import Derived.Lib.Builder
import Derived.Lib.Strings
import Derived.Lib.AppendStr
import Derived.Lib.UnsafeStr
import Derived.Laws.Externs
import Derived.OwnWalk
namespace Go.Proofs.YtbgbmojoldkcfaaDoor
open Go.RowKit

set_option maxRecDepth 100000
theorem bInfo : ∃ j, Tryd.prog.info? 70 = some j ∧ j.size = 2 := Option.map_eq_some_iff.1 (show (Tryd.prog.info? 70).map (·.size) = some 2 by kernel_rfl)
theorem bLies : liesAt Tryd.prog Tryd.prog.depth 70 (2 / Tryd.prog.cellsOf 70) 0 70 1 = true := by kernel_rfl
theorem bByte : (Tryd.prog.info? 5).map (fun i => (i.zero, i.size, i.bytes)) = some (some (.int .u8 0), 1, 1) := by kernel_rfl
theorem esc_run (x : Value) (w : World) : (callFunc 49 #[x]).run Tryd.prog w = .ok (.value x) w := by
  rw [run_callFunc_extern Tryd.func49 (by kernel_rfl) (by kernel_rfl) (by kernel_rfl) (e := Extern.AbiNoEscape.same) (by kernel_rfl), Lib.run_noEscape]
  rfl
abbrev BAt (B b : Nat) (l : List UInt8) (w : World) : Prop := Lib.IsBuilder 70 5 B b (Lib.byteCells l) w
/-- What copyCheck leaves: the builder, used. -/
def RetChk (B b : Nat) (bs : List Value) (w : World) (e : Ending) (w' : World) : Prop := e = .returned (.tuple #[]) ∧ Lib.BuilderAt 70 5 B b (.pointer (some ⟨b, 0, none⟩)) bs w' ∧ Below B w w'
theorem check_ok (B b : Nat) (bs : List Value) (w : World) (h : Lib.IsBuilder 70 5 B b bs w) : Calls Tryd.prog 41 #[.pointer (some ⟨b, 0, none⟩)] w (RetChk B b bs w) := by
  obtain ⟨j, hj, hjs⟩ := bInfo
  rcases h with h | h
  · have h0 := h.cell0
    have hf := h.frozen0
    have e1 := Lib.run_to_unsafe w ⟨b, 0, none⟩ Tryd.underlying67 Tryd.underlying92 hj (by rw [hjs]; decide) h.shape (Nat.zero_lt_succ 1)
    have e2 := esc_run (.pointer (some ⟨b, 0, none⟩)) w
    have e3 := Lib.run_from_unsafe w ⟨b, 0, none⟩ Tryd.underlying92 Tryd.underlying67 hj h.shape bLies
    have HB := Lib.hid h
    clear h hj hjs
    go_enter Tryd.func41, Tryd.ntmps41
    go_wp2_with fail
    go_end0
    exact ⟨rfl, HB.out.used _, (Below.refl B w).setCell (p := ⟨b, 0, none⟩) HB.out.1 _⟩
  · have h0 := h.cell0
    have e1 := Lib.run_neq_ptr_same w ⟨b, 0, none⟩ Tryd.underlying67 hj
    have HB := Lib.hid h
    clear h hj hjs
    go_enter Tryd.func41, Tryd.ntmps41
    go_wp2_with fail
    go_end0
    exact ⟨rfl, HB.out, Below.refl B _⟩
/-- What a write leaves: the builder with the bytes behind, all else below B as it was. -/
def RetPut (B b : Nat) (l : List UInt8) (w : World) (v : Value) (e : Ending) (w' : World) : Prop := e = .returned v ∧ BAt B b l w' ∧ Below B w w'
theorem cells_app (l m : List UInt8) : Lib.byteCells (l ++ m) = Lib.byteCells l ++ Lib.byteCells m := by unfold Lib.byteCells; rw [List.map_append]
theorem cells_len (l : List UInt8) : (Lib.byteCells l).length = l.length := by unfold Lib.byteCells; rw [List.length_map]
theorem cells_str (l : List UInt8) : Lib.strCells (bsk l) = Lib.byteCells l := by unfold Lib.strCells Lib.byteCells; rw [bsk_list]
/-- Behind the append: the builder's block is as it was; with the new buffer laid in it holds the new bytes. -/
theorem put_end {B b : Nat} {w w1 wa w2 : World} {v v' : Value} {xs ys : List Value} (hB : B ≤ b) (h1 : Below B w w1) (hbk : w1.heap[b]? = some (.cells #[.pointer (some ⟨b, 0, none⟩), v] 70 (0, 0))) (hown : w1.ownsRow B 5 1 v xs.length xs) (hne : v.ownBlock ≠ some b)
    (ha : Below w1.heap.size w1 wa) (hg : wa.grownBy w2 v.ownBlock) (hw : w2.ownsRow B 5 1 v' ys.length ys) :
    w2.heap[b]? = some (.cells #[.pointer (some ⟨b, 0, none⟩), v] 70 (0, 0)) ∧ Lib.BuilderAt 70 5 B b (.pointer (some ⟨b, 0, none⟩)) ys (w2.setCell ⟨b, 1, none⟩ v') ∧ Below B w (w2.setCell ⟨b, 1, none⟩ v') := by
  have hlt : b < w1.heap.size := by
    rcases Nat.lt_or_ge b w1.heap.size with h | h
    · exact h
    · rw [Array.getElem?_eq_none h] at hbk; cases hbk
  have hb2 : w2.heap[b]? = some (.cells #[.pointer (some ⟨b, 0, none⟩), v] 70 (0, 0)) := by
    rw [hg.block b (Nat.lt_of_lt_of_le hlt ha.size) (Ne.symm hne), ha.block b hlt]
    exact hbk
  have hBw : B ≤ w1.heap.size := by omega
  exact ⟨hb2, Lib.BuilderAt.put hB hb2 hw (by decide), ((h1.trans (ha.mono hBw)).grown hg (Nat.le_trans hBw ha.size) (fun k hk => (hown.lt k hk).1)).setCell (p := ⟨b, 1, none⟩) hB _⟩
set_option maxHeartbeats 2000000 in
theorem put_str (B b : Nat) (l m : List UInt8) (w : World) (h : BAt B b l w) (hl : l.length ≤ 1000) (hm : m.length ≤ 1000) (hBw : B ≤ w.heap.size) :
    Calls Tryd.prog 28 #[.pointer (some ⟨b, 0, none⟩), .string (bsk m)] w (RetPut B b (l ++ m) w (.tuple #[.int .i64 m.length, .nilIface])) := by
  obtain ⟨i0, hi, hz0, hz1, hz2⟩ := info_parts bByte
  have C := Lib.hid (check_ok B b _ w h)
  have Hi := Lib.hid hi
  have H0 := Lib.hid hz0
  have H1 := Lib.hid hz1
  have H2 := Lib.hid hz2
  have LM := Lib.hid (bsk_size m)
  clear hi hz0 hz1 hz2 h
  go_enter Tryd.func28, Tryd.ntmps28
  go_wp2_with fail
  refine C.out.mono ?_
  rintro e w1 ⟨rfl, ⟨hB, v, hbk, hown, hne⟩, hb1⟩
  have c1 : w1.cell? ⟨b, 1, none⟩ = some v := by rw [Lib.cell_of_heap hbk]; rfl
  have HK := Lib.hid hbk
  have HO := Lib.hid hown
  have HN := Lib.hid hne
  have HB := Lib.hid hb1
  clear hbk hown hne hb1
  go_wp2_with (at_builtin; refine Lib.wpList_append_own_string _ rfl _ _ 68 9 rfl B 5 i0 Tryd.underlying68 Tryd.underlying9 Hi.out H0.out H1.out H2.out _ _ _ rfl HO.out (bsk m) rfl ?c3 ?c4 ?c5 ?_)
  case c3 => rw [cells_len, bsk_size]; unfold maxLen; omega
  case c4 => rw [cells_len, bsk_size]; omega
  case c5 => have := HB.out.size; omega
  intro v' w2 hown' hgrow _
  rw [show (Lib.byteCells l).length + (bsk m).size = (Lib.byteCells l ++ Lib.strCells (bsk m)).length by rw [List.length_append, Lib.strCells_length]] at hown'
  rw [cells_str, ← cells_app] at hown'
  obtain ⟨hb2, P, Q⟩ := put_end hB HB.out HK.out HO.out HN.out (Below.refl _ _) hgrow hown'
  have HP := Lib.hid P
  have HQ := Lib.hid Q
  have d1 : w2.cell? ⟨b, 1, none⟩ = some v := by rw [Lib.cell_of_heap hb2]; rfl
  have f1 : w2.frozen? ⟨b, 1, none⟩ = false := Lib.frozen_of_heap hb2 1
  obtain ⟨ao, n', cap, rfl⟩ : ∃ ao n' cap, v' = .slice ao n' cap := by
    rcases hown'.2 with ⟨hv, _⟩ | ⟨g, cap, cur, hv, _⟩
    · exact ⟨none, 0, 0, hv⟩
    · exact ⟨_, _, cap, hv⟩
  clear hown' hgrow P Q hb2 c1
  go_wp2_with fail
  go_ret2
  exact ⟨by rw [← LM.out]; rfl, Or.inr HP.out, HQ.out⟩
set_option maxHeartbeats 2000000 in
theorem put_byte (B b : Nat) (l : List UInt8) (c : UInt8) (w : World) (h : BAt B b l w) (hl : l.length ≤ 1000) (hBw : B ≤ w.heap.size) :
    Calls Tryd.prog 31 #[.pointer (some ⟨b, 0, none⟩), .int .u8 (c.toNat : Int)] w (RetPut B b (l ++ [c]) w .nilIface) := by
  obtain ⟨i0, hi, hz0, hz1, hz2⟩ := info_parts bByte
  have C := Lib.hid (check_ok B b _ w h)
  have Hi := Lib.hid hi
  have H0 := Lib.hid hz0
  have H1 := Lib.hid hz1
  have H2 := Lib.hid hz2
  clear hi hz0 hz1 hz2 h
  go_enter Tryd.func31, Tryd.ntmps31
  go_wp2_with fail
  refine C.out.mono ?_
  rintro e w1 ⟨rfl, ⟨hB, v, hbk, hown, hne⟩, hb1⟩
  have c1 : w1.cell? ⟨b, 1, none⟩ = some v := by rw [Lib.cell_of_heap hbk]; rfl
  have HK := Lib.hid hbk
  have HO := Lib.hid hown
  have HN := Lib.hid hne
  have HB := Lib.hid hb1
  clear hbk hown hne hb1
  go_wp2_with (at_builtin; refine wpList_append_own _ rfl _ _ 68 rfl B 5 i0 (.int .u8 0) 1 1 Tryd.underlying68 Hi.out H0.out H1.out H2.out rfl (by decide) _ _ _ rfl (HO.out.alloc _) ⟨w1.heap.size, 0, none⟩ 1 1 [.int .u8 (c.toNat : Int)] rfl rfl ?c1 ?c2 ?c3 ?c4 ?c5 ?_)
  case c1 =>
    intro j u hj
    match j, hj with
    | 0, hj => simp at hj; subst hj; simp [Addr.add]
  case c2 => intro u hu; simp at hu; subst hu; rfl
  case c3 => rw [cells_len]; unfold maxLen; omega
  case c4 => rw [cells_len]; omega
  case c5 => have := HB.out.size; simp; omega
  intro v' w2 hown' hgrow _
  rw [show (Lib.byteCells l).length + 1 = (Lib.byteCells l ++ [Value.int .u8 (c.toNat : Int)]).length by simp] at hown'
  rw [show Lib.byteCells l ++ [Value.int .u8 (c.toNat : Int)] = Lib.byteCells (l ++ [c]) from (cells_app l [c]).symm] at hown'
  obtain ⟨hb2, P, Q⟩ := put_end hB HB.out HK.out HO.out HN.out ((Below.refl _ _).alloc (Nat.le_refl _) _) hgrow hown'
  have HP := Lib.hid P
  have HQ := Lib.hid Q
  have d1 : w2.cell? ⟨b, 1, none⟩ = some v := by rw [Lib.cell_of_heap hb2]; rfl
  have f1 : w2.frozen? ⟨b, 1, none⟩ = false := Lib.frozen_of_heap hb2 1
  obtain ⟨ao, n', cap, rfl⟩ : ∃ ao n' cap, v' = .slice ao n' cap := by
    rcases hown'.2 with ⟨hv, _⟩ | ⟨g, cap, cur, hv, _⟩
    · exact ⟨none, 0, 0, hv⟩
    · exact ⟨_, _, cap, hv⟩
  clear hown' hgrow P Q hb2 c1
  go_wp2_with fail
  go_ret
  exact ⟨rfl, Or.inr HP.out, HQ.out⟩
end Go.Proofs.YtbgbmojoldkcfaaDoor
