/- A number is put into a rising list. -/
import Derived.Test.YthajgfldjjgkiaaAp
namespace Go.Proofs.Ythajgfldjjgkiaa
open Go.RowKit
set_option maxRecDepth 100000

def inA (l : List Int) (x : Int) (i : Nat) : List Int := l.take i ++ x :: l.drop i
theorem inA_len (l : List Int) (x : Int) (i : Nat) (h : i ≤ l.length) : (inA l x i).length = l.length + 1 := by unfold inA; simp; omega
theorem inA_end (l : List Int) (x : Int) : inA l x l.length = l ++ [x] := by unfold inA; simp
theorem inA_at (l : List Int) (x : Int) (i : Nat) (h : i ≤ l.length) : (inA l x i)[i]? = some x := by
  unfold inA
  rw [List.getElem?_append_right (by simp; omega)]
  simp [Nat.min_eq_left h]
theorem inA_ahead (l : List Int) (x : Int) (j : Nat) (h : j < l.length) : (inA l x (j + 1))[j]? = some l[j] := by
  unfold inA
  rw [List.getElem?_append_left (by simp; omega), List.getElem?_take, if_pos (by omega), List.getElem?_eq_getElem h]
theorem inA_step (l : List Int) (x : Int) (j : Nat) (h : j < l.length) : ((inA l x (j + 1)).set (j + 1) l[j]).set j x = inA l x j := by
  have e0 : l.drop j = l[j] :: l.drop (j + 1) := List.drop_eq_getElem_cons h
  unfold inA
  have e1 : l.take (j + 1) = l.take j ++ [l[j]] := List.take_succ_eq_append_getElem h
  have e2 : (l.take (j + 1)).length = j + 1 := by simp; omega
  have e3 : (l.take j).length = j := by simp; omega
  rw [List.set_append_right _ _ (by rw [e2]; exact Nat.le_refl _), e2, Nat.sub_self, List.set_cons_zero, e1, List.append_assoc, List.set_append_right _ _ (by rw [e3]; exact Nat.le_refl _), e3, Nat.sub_self, e0]
  rfl
structure PtAt (w wr : World) (v : Value) (l : List Int) (x : Int) (g cap i : Nat) : Prop where
  le : i ≤ l.length
  own : OwnI wr (.slice (some ⟨g, 0, none⟩) (l.length + 1) cap) (inA l x i)
  big : ∀ y ∈ l.drop i, x < y
  kp : Kp w wr (fun k => v.ownBlock = some k)
  blk : v.ownBlock = some g ∨ w.heap.size ≤ g
def PtR (w : World) (v : Value) (l : List Int) (x : Int) (g cap : Nat) (u : Value) (wr : World) : Prop := ∃ i : Nat, u = .int .i64 (i : Int) ∧ PtAt w wr v l x g cap i
def PutR (w : World) (v : Value) (l : List Int) (x : Int) (e : Ending) (w' : World) : Prop := ∃ g cap L, e = .returned (.slice (some ⟨g, 0, none⟩) (l.length + 1) cap) ∧ OwnI w' (.slice (some ⟨g, 0, none⟩) (l.length + 1) cap) L ∧ Ins l x L ∧ Kp w w' (fun k => v.ownBlock = some k) ∧ (v.ownBlock = some g ∨ w.heap.size ≤ g)
set_option maxHeartbeats 3200000 in
theorem put_ok {w : World} {v : Value} {l : List Int} (x : Int) (hv : OwnI w v l) (hl : l.length ≤ 100000) : Calls Try.prog 38 #[v, .int .i64 x] w (PutR w v l x) := by
  have HV := Lib.hid hv
  clear hv
  have H1 := Lib.hid (show OwnI (w.alloc (.cells #[.int .i64 x] 3)) v l from HV.out.below (below_alloc w _))
  have N1 := Lib.hid (BlkAt.new w [.int .i64 x] 3)
  go_enter Try.func38, Try.ntmps38
  go_wp2_with (at_builtin; refine wp_apI rfl _ _ rfl v l rfl H1.out ⟨w.heap.size, 0, none⟩ 1 1 [x] rfl rfl (by omega) (fun j hj => by
    have : j = 0 := by simp at hj; omega
    subst this
    exact N1.out.cell 0 _ rfl) (by omega) ?_; intro g cap w1 h1 h2 h3)
  have ST := Lib.hid (show PtAt w w1 v l x g cap l.length from ⟨Nat.le_refl _, by rw [inA_end]; exact h1, by simp, (Kp.of _ (below_alloc w _)).tr (h2.mono (fun _ _ e => e)), h3.imp id (fun e => by rw [e]; simp)⟩)
  clear h1 h2 h3 H1 N1
  go_wp2_with fail
  have e9 : (l.length : Int) + 1 - 1 = (l.length : Int) := by omega
  go_loopw [5] (fun u wr => PtR w v l x g cap u wr) (fun u _ => (intOf u).toNat)
  case atStart => exact ⟨l.length, by first | rfl | (congr 1), ST.out⟩
  case round =>
    clear ST e9
    obtain ⟨i, rfl, hp⟩ := hrel
    have P := Lib.hid hp
    have hil := hp.le
    clear hp
    have FIN := Lib.hid (fun (hs : ∀ h : i - 1 < l.length, 0 < i → l[i - 1] ≤ x) (n : Nat) => show PutR w v l x (.returned (.slice (some ⟨g, 0, none⟩) (l.length + 1) cap)) (wr.drewN n) from ⟨g, cap, _, rfl, P.out.own.below (below_drewN wr n), ⟨i, hil, rfl, P.out.big, hs⟩, P.out.kp.tr (Kp.of _ (below_drewN wr n)), P.out.blk⟩)
    by_cases h0 : i = 0
    · have t0 : decide ((0 : Int) < (i : Int)) = false := decide_eq_false (by omega)
      have t0n : decide (0 < i) = false := decide_eq_false (by omega)
      have FI := Lib.hid (FIN.out (fun _ h => absurd h (by omega)))
      clear FIN h0
      go_wp2_with fail
      go_quiet (fail)
      go_wp2_with fail
      go_ret
      exact FI.out _
    · obtain ⟨j, hj⟩ : ∃ j, i = j + 1 := ⟨i - 1, by omega⟩
      have t0 : decide ((0 : Int) < (i : Int)) = true := decide_eq_true (by omega)
      have t0n : decide (0 < i) = true := decide_eq_true (by omega)
      have hjl : j < l.length := by omega
      have own := P.out.own
      have ci := own.cell i x (inA_at l x i hil)
      have cj := own.cell j l[j] (by rw [hj]; exact inA_ahead l x j hjl)
      have lg := own.lt'
      have fi := own.free i
      have fj := own.free j
      have ik : (i : Int) < (l.length : Int) + 1 := by omega
      have ik0 : (0 : Int) ≤ (i : Int) := by omega
      have jk : (j : Int) < (l.length : Int) + 1 := by omega
      have jk0 : (0 : Int) ≤ (j : Int) := by omega
      have e3 : IntKind.i64.wrap ((i : Int) - 1) = (j : Int) := by rw [show (i : Int) - 1 = (j : Int) by omega]; exact IntWalk.i64_in _ (by omega)
      have e4 : (i : Int) - 1 = (j : Int) := by omega
      have NX := Lib.hid (fun n => (((P.out.own.below (below_drewN wr n)).set i l[j])).set j x)
      have ES := Lib.hid (show ((inA l x i).set i l[j]).set j x = inA l x j by rw [hj]; exact inA_step l x j hjl)
      have DJ := Lib.hid (show x < l[j] → ∀ y ∈ l.drop j, x < y from fun h y hy => by
        rw [List.drop_eq_getElem_cons hjl] at hy
        rcases List.mem_cons.1 hy with rfl | hy
        · exact h
        · exact P.out.big y (by rw [hj]; exact hy))
      have FJ := Lib.hid (show l[j] ≤ x → ∀ n, PutR w v l x (.returned (.slice (some ⟨g, 0, none⟩) (l.length + 1) cap)) (wr.drewN n) from fun h => FIN.out (fun h1 h2 => by
        have : i - 1 = j := by omega
        simp only [this]; exact h))
      have MJ := Lib.hid (show j < i by omega)
      have HJ := Lib.hid hj
      have KN := Lib.hid (fun n => (P.out.kp.tr (Kp.of _ (below_drewN wr n))))
      have BK := Lib.hid P.out.blk
      clear FIN h0 hj own
      generalize l[j] = y at *
      by_cases hxy : x < y
      · have t2 : decide (x < y) = true := decide_eq_true hxy
        have DJ2 := Lib.hid (DJ.out hxy)
        clear DJ FJ hxy
        go_wp2_with fail
        go_quiet (fail)
        have Own := Lib.hid (NX.out nq)
        rw [ES.out] at Own
        have Kn := Lib.hid (KN.out nq)
        have ci2 : (wr.drewN nq).cell? ⟨g, i, none⟩ = some (.int .i64 x) := ci
        have cj2 : (wr.drewN nq).cell? ⟨g, j, none⟩ = some (.int .i64 y) := cj
        have fi2 : (wr.drewN nq).frozen? ⟨g, i, none⟩ = false := fi
        have fj2 : (wr.drewN nq).frozen? ⟨g, j, none⟩ = false := fj
        have lg2 : g < (wr.drewN nq).heap.size := lg
        have KW := Lib.hid (show v.ownBlock = some g ∨ w.heap.size ≤ g → Kp w (((wr.drewN nq).setCell ⟨g, i, none⟩ (.int .i64 y)).setCell ⟨g, j, none⟩ (.int .i64 x)) (fun k => v.ownBlock = some k) from fun hb => (KN.out nq).trans ((Kp.set _ g i _).tr (Kp.set _ g j _)) (fun _ _ e => e) (fun z hz e => by
          rcases hb with h | h
          · rw [e]; exact h
          · omega) )
        have KW := Lib.hid (KW.out BK.out)
        clear ci cj fi fj lg NX KN
        generalize wr.drewN nq = wq at *
        have nij : ¬ i = j := by have := MJ.out; omega
        have nji : ¬ j = i := by have := MJ.out; omega
        go_wp2_with fail
        go_roundw
        case rel => exact ⟨j, rfl, ⟨by omega, Own.out, DJ2.out, KW.out, BK.out⟩⟩
        case measure => have := MJ.out; simp [intOf]; omega
      · have t2 : decide (x < y) = false := decide_eq_false hxy
        have FJ2 := Lib.hid (FJ.out (by omega))
        clear DJ FJ hxy
        go_wp2_with fail
        go_quiet (fail)
        go_wp2_with fail
        go_ret
        exact FJ2.out _
end Go.Proofs.Ythajgfldjjgkiaa
