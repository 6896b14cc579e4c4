/- Through how many steps a run goes, by the document. -/
import Derived.Test.YthajgfldjjgkiaaRc
namespace Go.Proofs.Ythajgfldjjgkiaa
open Go.RowKit
set_option maxRecDepth 100000

def UpR (w : World) (n : Nat) (ss : List Stp) (r0 : Nat) (v2 v7 v8 : Value) (wr : World) : Prop := ∃ s : Nat, v8 = .int .i64 (s : Int) ∧ v7 = .int .i64 (cntF n ss r0 s : Int) ∧ v2 = .int .i64 (curF n ss r0 s : Int) ∧ s ≤ ss.length ∧ wr = w
def UiR (w : World) (c kc : Nat) (l : List Int) (v2 v7 v9 : Value) (wr : World) : Prop := ∃ j : Nat, v2 = .int .i64 (c : Int) ∧ v7 = .int .i64 (kc : Int) ∧ v9 = .int .i64 (j : Int) ∧ j ≤ l.length ∧ ((c : Int) ∉ l.take j) ∧ wr = w
set_option maxHeartbeats 8000000 in
theorem up_ok {w : World} {vs : Value} {ss : List Stp} {n : Nat} (r0 : Nat) (hs : StAt w vs ss) (hn : n ≤ 65536) (hl : ss.length ≤ 65536) :
    Calls Try.prog 34 #[.int .i64 (n : Int), vs, .int .i64 (r0 : Int)] w (Same w (.int .i64 (cntF n ss r0 ss.length : Int))) := by
  have HS := Lib.hid hs
  obtain ⟨sa, sc, rfl, hsc, hsc2⟩ := hs.form
  clear hs
  have ST := Lib.hid (show UpR w n ss r0 (.int .i64 (r0 : Int)) (.int .i64 0) (.int .i64 0) w from ⟨0, rfl, rfl, rfl, Nat.zero_le _, rfl⟩)
  go_enter Try.func34, Try.ntmps34
  go_wp2_with fail
  go_loopw [2, 7, 8] (fun v2 v7 v8 wr => UpR w n ss r0 v2 v7 v8 wr) (fun _ _ v8 _ => ss.length - (intOf v8).toNat)
  case atStart => exact ST.out
  case round =>
    clear ST
    obtain ⟨s, rfl, rfl, rfl, hk, rfl⟩ := hrel
    by_cases hlt : s < ss.length
    · have t1 : decide ((s : Int) < (ss.length : Int)) = true := decide_eq_true (by omega)
      have t1n : decide (s < ss.length) = true := decide_eq_true hlt
      have ik : (s : Int) < (ss.length : Int) := by omega
      have ik0 : (0 : Int) ≤ (s : Int) := by omega
      obtain ⟨b1, o1, c1, f1, e1', _, l1, g1⟩ := HS.out.get (by rintro rfl; exact absurd hlt (Nat.not_lt_zero _))
      injection e1' with e1' _ e3'
      subst e1' e3'
      obtain ⟨q1, q2, q3⟩ := g1 s hlt
      obtain ⟨xa, xc, hx, xc1, xc2⟩ := q3.form
      rw [hx] at q1 q3
      have XW := Lib.hid (show SlI wr (.slice xa ss[s].inn.length xc) ss[s].inn from q3)
      have IN := inOf_get hlt
      have CY := Lib.hid (show (curF n ss r0 s : Int) ∈ ss[s].inn → UpR wr n ss r0 (.int .i64 ((n : Int) + (s : Int))) (.int .i64 ((cntF n ss r0 s : Int) + 1)) (.int .i64 ((s : Int) + 1)) wr from fun h => ⟨s + 1, by congr 1, by rw [cntF, IN, if_pos h]; congr 1, by rw [curF, IN, if_pos h]; congr 1, hlt, rfl⟩)
      have CN := Lib.hid (show (curF n ss r0 s : Int) ∉ ss[s].inn → UpR wr n ss r0 (.int .i64 (curF n ss r0 s : Int)) (.int .i64 (cntF n ss r0 s : Int)) (.int .i64 ((s : Int) + 1)) wr from fun h => ⟨s + 1, by congr 1, by rw [cntF, IN, if_neg h], by rw [curF, IN, if_neg h], hlt, rfl⟩)
      have cb := cntF_le n ss r0 s
      clear g1 hx q2 q3 IN
      generalize ss[s].inn = xi at *
      generalize cntF n ss r0 s = kc at *
      generalize curF n ss r0 s = cu at *
      have cb1 : (kc : Int) ≤ 65536 := by omega
      have ns : (n : Int) + (s : Int) ≤ 131072 := by omega
      have ME := Lib.hid (show ss.length - ((s : Int) + 1).toNat < ss.length - (s : Int).toNat by omega)
      have SI := Lib.hid (show UiR wr cu kc xi (.int .i64 (cu : Int)) (.int .i64 (kc : Int)) (.int .i64 0) wr from ⟨0, rfl, rfl, rfl, Nat.zero_le _, by simp, rfl⟩)
      obtain ⟨wo, rfl⟩ : ∃ wo, wo = wr := ⟨wr, rfl⟩
      go_wp2_with fail
      go_loopw [2, 7, 9] (fun v2 v7 v9 wr => UiR wo cu kc xi v2 v7 v9 wr) (fun _ _ v9 _ => xi.length - (intOf v9).toNat)
      case atStart => exact SI.out
      case round =>
        clear SI
        obtain ⟨j, rfl, rfl, rfl, hj, hnot, rfl⟩ := hrel
        have NOT := Lib.hid hnot
        clear hnot
        by_cases hjt : j < xi.length
        · have u1 : decide ((j : Int) < (xi.length : Int)) = true := decide_eq_true (by omega)
          have u1n : decide (j < xi.length) = true := decide_eq_true hjt
          have jj : (j : Int) < (xi.length : Int) := by omega
          have jj0 : (0 : Int) ≤ (j : Int) := by omega
          obtain ⟨xb, xo, xc', e5, _, l5, g5⟩ := SlI.ne XW.out (by rintro rfl; exact absurd hjt (Nat.not_lt_zero _))
          injection e5 with e5 _ e6
          subst e5 e6
          have p1 := g5 j hjt
          have MEM := Lib.hid (show xi[j] ∈ xi from List.getElem_mem hjt)
          have TKS := Lib.hid (show xi.take (j + 1) = xi.take j ++ [xi[j]] from List.take_succ_eq_append_getElem hjt)
          clear g5
          generalize xi[j] = r at *
          by_cases hr : r = (cu : Int)
          · subst hr
            have v1 : decide ((cu : Int) = (cu : Int)) = true := decide_eq_true rfl
            have v1b : ((cu : Int) == (cu : Int)) = true := beq_self_eq_true _
            have NX := Lib.hid (CY.out MEM.out)
            clear CY CN
            go_wp2_with fail
            go_roundw
            case rel => exact NX.out
            case measure => exact ME.out
          · have v1 : decide (r = (cu : Int)) = false := decide_eq_false hr
            have v1b : (r == (cu : Int)) = false := by simp [hr]
            have NX := Lib.hid (show UiR wr cu kc xi (.int .i64 (cu : Int)) (.int .i64 (kc : Int)) (.int .i64 ((j : Int) + 1)) wr from ⟨j + 1, rfl, rfl, by congr 1, hjt, by
              rw [TKS.out]
              intro m
              rcases List.mem_append.1 m with m | m
              · exact NOT.out m
              · simp at m; exact hr m.symm, rfl⟩)
            have ME2 := Lib.hid (show xi.length - ((j : Int) + 1).toNat < xi.length - (j : Int).toNat by omega)
            clear hr CY CN
            go_wp2_with fail
            go_roundw
            case rel => exact NX.out
            case measure => exact ME2.out
        · have u1 : decide ((j : Int) < (xi.length : Int)) = false := decide_eq_false (by omega)
          have u1n : decide (j < xi.length) = false := decide_eq_false hjt
          have NX := Lib.hid (CN.out (by have := NOT.out; rw [List.take_of_length_le (by omega)] at this; exact this))
          clear CY CN
          go_wp2_with fail
          go_roundw
          case rel => exact NX.out
          case measure => exact ME.out
    · have t1 : decide ((s : Int) < (ss.length : Int)) = false := decide_eq_false (by omega)
      have t1n : decide (s < ss.length) = false := decide_eq_false hlt
      have hke : s = ss.length := by omega
      subst hke
      go_wp2_with fail
      go_ret
      exact ⟨rfl, rfl⟩
end Go.Proofs.Ythajgfldjjgkiaa
