/- numeral's zero and suffix of a head. -/
import Derived.Test.YtpbbgmfjdachnaaDoorNumber
namespace Go.Proofs.YtpbbgmfjdachnaaDoor
open Go.RowKit

/-- A head whose parts are of bounded length. -/
structure HdOk (h : Hd) : Prop where
  whole : h.whole.length ≤ 1125899906842624
  frac : h.frac.length ≤ 1125899906842624
  exp : -1099511627776 ≤ h.exp ∧ h.exp ≤ 1099511627776
  size : h.size ≤ 1125899906842632
  cls : h.cls ≤ 4

theorem numW_le (h : Hd) : (numW h).length ≤ h.whole.length := by
  unfold numW
  have h1 := trimL_len h.whole
  have h2 := trimR_len (trimL h.whole)
  split <;> (try split) <;> omega
theorem numF_le (h : Hd) : (numF h).length ≤ h.frac.length := by
  unfold numF
  have h1 := trimR_len h.frac
  have h2 := trimL_len (trimR h.frac)
  split <;> omega
theorem numD_nil (h : Hd) : decide ((bs (numW h)).size + (bs (numF h)).size = 0) = decide (numD h = []) := by
  rw [bs_size, bs_size, Bool.eq_iff_iff, decide_eq_true_iff, decide_eq_true_iff]
  unfold numD
  constructor
  · intro e
    have : (numW h ++ numF h).length = 0 := by rw [List.length_append]; exact e
    exact List.eq_nil_of_length_eq_zero this
  · intro e; rw [← List.length_append, e]; rfl

set_option maxRecDepth 100000 in
set_option maxHeartbeats 800000 in
theorem headZero_ok (h : Hd) (w : World) (ok : HdOk h) : Calls Tryd.prog 45 #[headV h] w (RetBelow w (.bool (decide (numD h = [])))) := by
  have N := Lib.hid (fun W : World => number_ok h W ok.whole ok.frac ok.exp)
  have Z := Lib.hid (fun W : World => digZero_ok (bs (numW h)) (bs (numF h)) W (by rw [bs_size]; have := numW_le h; have := ok.whole; omega) (by rw [bs_size]; have := numF_le h; have := ok.frac; omega))
  rw [numD_nil] at Z
  unfold headV at *
  generalize bs (numW h) = Wb at *
  generalize bs (numF h) = Fb at *
  go_enter Tryd.func45, Tryd.ntmps45
  go_wp2_with fail
  refine (N.out _).mono ?_
  rintro e w1 ⟨rfl, hb1⟩
  have B1 := Lib.hid (((Below.refl _ w).alloc (Nat.le_refl _) (Obj.cells #[Value.int IntKind.u8 h.cls, Value.bool h.neg, Value.string (bs h.whole), Value.string (bs h.frac), Value.int IntKind.i64 h.exp, Value.int IntKind.i64 h.size] 54)).trans (hb1.mono (by simp)))
  clear hb1
  go_wp2_with fail
  refine (Z.out _).mono ?_
  rintro e w2 ⟨rfl, hb2⟩
  have B2 := Lib.hid ((B1.out.alloc B1.out.size (Obj.cells #[Value.string Wb, Value.string Fb] 58)).trans (hb2.mono (by have := B1.out.size; simp; omega)))
  clear hb2
  go_wp2_with fail
  go_ret
  exact ⟨rfl, B2.out⟩

def sufN (k : Nat) : UInt8 := [75, 107, 77, 71, 84, 80, 69, 90, 89, 82, 81].getD k 0
def sufR (k : Nat) : Int := [(1 : Int), 1, 2, 3, 4, 5, 6, 7, 8, 9, 10].getD k 0
theorem index_suf (k : Nat) (h : k < 11) (w : World) : (Instr.index 108 (.agg cSuffixes) (.int .i64 k)).run Tryd.prog w = .ok (.agg #[.int .u8 (sufN k).toNat, .int .i64 (sufR k)]) w := by
  obtain rfl | rfl | rfl | rfl | rfl | rfl | rfl | rfl | rfl | rfl | rfl : k = 0 ∨ k = 1 ∨ k = 2 ∨ k = 3 ∨ k = 4 ∨ k = 5 ∨ k = 6 ∨ k = 7 ∨ k = 8 ∨ k = 9 ∨ k = 10 := by omega
  all_goals kernel_rfl
theorem info108 : (Tryd.prog.info? 108).map (·.size) = some cSuffixes.size := by kernel_rfl
theorem rank_hit {c : UInt8} {k : Nat} (hk : k < 11) (lo : ∀ j, j < k → (c == sufN j) = false) (h : c = sufN k) : (rankOf c : Int) = sufR k := by
  subst h
  obtain rfl | rfl | rfl | rfl | rfl | rfl | rfl | rfl | rfl | rfl | rfl : k = 0 ∨ k = 1 ∨ k = 2 ∨ k = 3 ∨ k = 4 ∨ k = 5 ∨ k = 6 ∨ k = 7 ∨ k = 8 ∨ k = 9 ∨ k = 10 := by omega
  all_goals decide
theorem rank_miss {c : UInt8} (lo : ∀ j, j < 11 → (c == sufN j) = false) : rankOf c = 0 := by
  unfold rankOf
  have l := fun j hj => lo j hj
  have e0 : (c == 75) = false := l 0 (by omega)
  have e1 : (c == 107) = false := l 1 (by omega)
  have e2 : (c == 77) = false := l 2 (by omega)
  have e3 : (c == 71) = false := l 3 (by omega)
  have e4 : (c == 84) = false := l 4 (by omega)
  have e5 : (c == 80) = false := l 5 (by omega)
  have e6 : (c == 69) = false := l 6 (by omega)
  have e7 : (c == 90) = false := l 7 (by omega)
  have e8 : (c == 89) = false := l 8 (by omega)
  have e9 : (c == 82) = false := l 9 (by omega)
  have e10 : (c == 81) = false := l 10 (by omega)
  rw [e0, e1, e2, e3, e4, e5, e6, e7, e8, e9, e10]; rfl

def SufRel (w : World) (sz : Nat) (c : UInt8) (i : Value) (wr : World) : Prop :=
  ∃ k : Nat, k ≤ 11 ∧ i = .int .i64 k ∧ (∀ j, j < k → (c == sufN j) = false) ∧ Below w.heap.size w wr ∧ w.heap.size < wr.heap.size ∧ wr.cell? ⟨w.heap.size, 5, none⟩ = some (.int .i64 sz)

set_option maxRecDepth 100000 in
set_option maxHeartbeats 1600000 in
theorem suffix_ok (h : Hd) (s : ByteArray) (w : World) (ok : HdOk h) (T : Tabs w) :
    Calls Tryd.prog 44 #[headV h, .string s] w (RetBelow w (.int .i64 (sufS h s.data.toList : Nat))) := by
  obtain ⟨t0, fr0, hm⟩ := T.suffixes
  have hcl := ok.cls
  unfold headV
  by_cases hc : h.cls = 0
  · have E := Lib.hid (show sufS h s.data.toList = 0 by unfold sufS; rw [if_pos hc])
    have t1 : ((h.cls : Int) == 0) = true := by rw [hc]; rfl
    clear hm hc
    go_enter Tryd.func44, Tryd.ntmps44
    go_wp2_with fail
    go_ret
    exact ⟨by rw [E.out]; rfl, (Below.refl _ _).alloc (Nat.le_refl _) _⟩
  · have E := Lib.hid (show sufS h s.data.toList = rankOf (atB s.data.toList h.size) by unfold sufS; rw [if_neg hc])
    have t1 : ((h.cls : Int) == 0) = false := by rw [beq_eq_false_iff_ne]; omega
    have hm2 : ∀ o, (w.alloc o).heap[1]? = some (.cells cSuffixes t0 fr0) := fun o => by
      rw [Below.heap_alloc w o 1 (lt_of_block hm)]; exact hm
    have hm3 := hm2 (Obj.cells #[Value.int IntKind.u8 h.cls, Value.bool h.neg, Value.string (bs h.whole), Value.string (bs h.frac), Value.int IntKind.i64 h.exp, Value.int IntKind.i64 h.size] 54)
    clear hm hm2 hc
    go_enter Tryd.func44, Tryd.ntmps44
    go_wp2_with (refine wpList_load_row rfl _ _ rfl 1 rfl t0 cSuffixes fr0 _ hm3 Tryd.underlying108 rfl info108 ?_)
    clear hm3
    obtain ⟨c, hcc⟩ : ∃ c, c = atB s.data.toList h.size := ⟨_, rfl⟩
    rw [← hcc] at E
    have AT := Lib.hid (fun W : World => at_ok s h.size W)
    rw [← hcc] at AT
    clear hcc
    obtain ⟨sz, hsz⟩ : ∃ sz, sz = h.size := ⟨_, rfl⟩
    rw [← hsz] at AT
    have H0 : SufRel w sz c (.int .i64 0) (w.alloc (Obj.cells #[Value.int IntKind.u8 h.cls, Value.bool h.neg, Value.string (bs h.whole), Value.string (bs h.frac), Value.int IntKind.i64 h.exp, Value.int IntKind.i64 h.size] 54)) :=
      ⟨0, by omega, rfl, fun j hj => by omega, (Below.refl _ _).alloc (Nat.le_refl _) _, by simp, by rw [hsz]; simp⟩
    have HH0 := Lib.hid H0
    clear H0 hsz
    go_loopw [11] (fun i wr => SufRel w sz c i wr) (fun i _ => 11 - (intOf i).toNat)
    case atStart => exact HH0.out
    case round =>
      obtain ⟨k, hk, rfl, hlo, hb, hz, hcell⟩ := hrel
      have HLO := Lib.hid hlo
      have HB := Lib.hid hb
      have HCELL := Lib.hid hcell
      clear hlo hb
      by_cases hlt : k < 11
      · have hx := index_suf k hlt
        obtain ⟨x, hxx⟩ : ∃ x, x = sufN k := ⟨_, rfl⟩
        obtain ⟨r, hrr⟩ : ∃ r, r = sufR k := ⟨_, rfl⟩
        rw [← hxx, ← hrr] at hx
        have HX := Lib.hid hxx
        have HR := Lib.hid hrr
        clear hxx hrr
        by_cases hxc : c = x
        · have t2 : ((c.toNat : Int) == (x.toNat : Int)) = true := by rw [hxc]; simp
          have F := Lib.hid (rank_hit hlt HLO.out (hxc.trans HX.out))
          clear hxc
          go_wp2_with fail
          go_quiet ((first | (go_at_call 66; exact Calls.quiet_of_same ((AT.out _).mono fun _ _ h => ⟨h.1, h.2.symm⟩))))
          go_wp2_with fail
          go_ret
          refine ⟨?_, bdrew (HB.out.alloc HB.out.size _) _⟩
          rw [E.out, F.out, ← HR.out]; rfl
        · have t2 : ((c.toNat : Int) == (x.toNat : Int)) = false := by rw [beq_eq_false_iff_ne]; intro h; exact hxc (UInt8.toNat_inj.1 (by omega))
          have F := Lib.hid (show (c == sufN k) = false by rw [← HX.out, beq_eq_false_iff_ne]; exact hxc)
          clear hxc
          go_wp2_with fail
          go_quiet ((first | (go_at_call 66; exact Calls.quiet_of_same ((AT.out _).mono fun _ _ h => ⟨h.1, h.2.symm⟩))))
          go_wp2_with fail
          go_roundw
          case rel => exact ⟨k + 1, by omega, by go_num, fun j hj => by
              by_cases e : j = k
              · subst e; exact F.out
              · exact HLO.out j (by omega), bdrew (HB.out.alloc HB.out.size _) _, by simp; omega, (World.cell?_alloc_lt (w := wr) (a := ⟨w.heap.size, 5, none⟩) (o := _) hz).trans HCELL.out⟩
          case measure => simp [intOf]; omega
      · have hk' : k = 11 := by omega
        subst hk'
        have F := Lib.hid (rank_miss HLO.out)
        go_wp2_with fail
        go_ret
        exact ⟨by rw [E.out, F.out]; rfl, HB.out⟩
end Go.Proofs.YtpbbgmfjdachnaaDoor
