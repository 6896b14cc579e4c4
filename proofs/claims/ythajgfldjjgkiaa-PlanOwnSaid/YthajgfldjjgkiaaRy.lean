/- A copy with marks behind. -/
import Derived.Test.YthajgfldjjgkiaaSm
namespace Go.Proofs.Ythajgfldjjgkiaa
open Go.RowKit
set_option maxRecDepth 100000

def rmL (l : List Int) (i : Nat) : List Int := l.take i ++ List.replicate (l.length + 4 - i) 0
theorem rmL_len (l : List Int) (i : Nat) (h : i ≤ l.length) : (rmL l i).length = l.length + 4 := by unfold rmL; simp; omega
theorem rmL_step (l : List Int) (i : Nat) (h : i < l.length) : (rmL l i).set i l[i] = rmL l (i + 1) := by
  unfold rmL
  have e : (l.take i).length = i := by simp; omega
  rw [List.set_append_right _ _ (by rw [e]; exact Nat.le_refl _), e, Nat.sub_self, show l.length + 4 - i = (l.length + 4 - (i + 1)) + 1 by omega, List.replicate_succ, List.set_cons_zero, List.take_succ_eq_append_getElem h, List.append_assoc]
  rfl
def mkL (j : Nat) : List Int := (List.range j).map fun (k : Nat) => 1000 + (k : Int)
def rmM (l : List Int) (j : Nat) : List Int := l ++ (mkL j ++ List.replicate (4 - j) 0)
theorem rmM_len (l : List Int) (j : Nat) (h : j ≤ 4) : (rmM l j).length = l.length + 4 := by unfold rmM mkL; simp; omega
theorem rmM_zero (l : List Int) : rmL l l.length = rmM l 0 := by unfold rmL rmM mkL; simp
theorem rmM_step (l : List Int) (j : Nat) (h : j < 4) : (rmM l j).set (l.length + j) (1000 + (j : Int)) = rmM l (j + 1) := by
  unfold rmM
  have e : (mkL j).length = j := by simp [mkL]
  rw [List.set_append_right _ _ (by omega), show l.length + j - l.length = j by omega, List.set_append_right _ _ (by rw [e]; exact Nat.le_refl _), e, Nat.sub_self, show 4 - j = (4 - (j + 1)) + 1 by omega, List.replicate_succ, List.set_cons_zero]
  unfold mkL
  rw [List.range_succ, List.map_append, List.append_assoc]
  rfl
theorem rmM_at (l : List Int) (j k : Nat) (h : k < j) : (rmM l j)[l.length + k]? = some (1000 + (k : Int)) := by
  unfold rmM mkL
  rw [List.getElem?_append_right (by omega), show l.length + k - l.length = k by omega, List.getElem?_append_left (by simp; exact h)]
  simp [h]
theorem rmM_low (l : List Int) (j k : Nat) (h : k < l.length) : (rmM l j)[k]? = some l[k] := by
  unfold rmM
  rw [List.getElem?_append_left h, List.getElem?_eq_getElem h]
def RmR1 (l : List Int) (g : Nat) (w : World) (v : Value) (wr : World) : Prop := ∃ i : Nat, v = .int .i64 (i : Int) ∧ i ≤ l.length ∧ BlkAt wr g 3 (iV (rmL l i)) ∧ Below g w wr
def RmR2 (l : List Int) (g : Nat) (w : World) (v : Value) (wr : World) : Prop := ∃ j : Nat, v = .int .i64 (j : Int) ∧ j ≤ 4 ∧ BlkAt wr g 3 (iV (rmM l j)) ∧ Below g w wr
def RoomyR (w : World) (l : List Int) (e : Ending) (w' : World) : Prop := ∃ g, e = .returned (.slice (some ⟨g, 0, none⟩) l.length (l.length + 4)) ∧ g = w.heap.size ∧ BlkAt w' g 3 (iV (rmM l 4)) ∧ Below w.heap.size w w'
set_option maxHeartbeats 3200000 in
theorem roomy_ok {w : World} {v : Value} {l : List Int} (hv : SlI w v l) (hl : l.length ≤ 100000) : Calls Try.prog 11 #[v] w (RoomyR w l) := by
  have HV := Lib.hid hv
  obtain ⟨a, c, rfl, h1, h2⟩ := hv.form
  clear hv
  have hz : madeCells (Value.int .i64 0).cells ((l.length + 4) * 1) = (iV (rmL l 0)).toArray := by
    rw [iV_zero]
    unfold rmL
    simp
  have HZ := Lib.hid hz
  clear hz
  go_enter Try.func11, Try.ntmps11
  go_wp2_with (at_make; refine wp_mkL rfl _ _ 22 3 rfl (.int .i64 0) 1 8 Try.underlying22 info3 .i64 .i64 _ (l.length + 4) (by omega) rfl rfl (by omega) (by omega) _ HZ.out ?_; intro w1 hb1 hbel1)
  have ST := Lib.hid (show RmR1 l w.heap.size w (.int .i64 0) w1 from ⟨0, rfl, Nat.zero_le _, hb1, hbel1⟩)
  have HG := Lib.hid (Nat.le_refl w.heap.size)
  obtain ⟨g, hg⟩ : ∃ g, g = w.heap.size := ⟨_, rfl⟩
  rw [← hg] at ST ⊢
  have HGG := Lib.hid hg
  clear hb1 hbel1 hg
  go_loopw [4] (fun i wr => RmR1 l g w i wr) (fun i _ => l.length - (intOf i).toNat)
  case atStart => exact ST.out
  case round =>
    clear ST
    obtain ⟨i, rfl, hi, hb, hbel⟩ := hrel
    have HB := Lib.hid hb
    have BE := Lib.hid hbel
    have V2 := Lib.hid (HV.out.below (show Below w.heap.size w wr from by rw [← HGG.out]; exact hbel))
    clear hb hbel
    by_cases hlt : i < l.length
    · have t1 : decide ((i : Int) < (l.length : Int)) = true := decide_eq_true (by omega)
      have t1n : decide (i < l.length) = true := decide_eq_true hlt
      obtain ⟨b1, o1, c1, e1, _, l1, g1⟩ := V2.out.get (by rintro rfl; exact absurd hlt (Nat.not_lt_zero _))
      injection e1 with e1 _ e3
      subst e1 e3
      have q1 := g1 i hlt
      clear g1
      have c0 := HB.out.cell i _ (iV_at _ i (by rw [rmL_len l i hi]; omega))
      have f0 := HB.out.free i
      have lg := HB.out.lt
      have NX := Lib.hid (HB.out.set i (.int .i64 l[i]))
      rw [← iV_set, rmL_step l i hlt] at NX
      have NB := Lib.hid (BE.out.trans ((Kp.set wr g i (.int .i64 l[i])).below (B := g) (Nat.le_of_lt lg) (fun x e => Nat.le_of_eq e.symm)))
      have ik : (i : Int) < (l.length : Int) := by omega
      have ik0 : (0 : Int) ≤ (i : Int) := by omega
      generalize l[i] = x at *
      generalize (rmL l i)[i]'_ = y at *
      go_wp2_with fail
      go_roundw
      case rel => exact ⟨i + 1, by congr 1, hlt, NX.out, NB.out⟩
      case measure => simp [intOf]; omega
    · have t1 : decide ((i : Int) < (l.length : Int)) = false := decide_eq_false (by omega)
      have t1n : decide (i < l.length) = false := decide_eq_false hlt
      have ei : i = l.length := by omega
      have S2 := Lib.hid (show RmR2 l g w (.int .i64 0) wr from ⟨0, rfl, by omega, by
        have := HB.out
        rw [ei, rmM_zero] at this
        exact this, BE.out⟩)
      clear HB BE V2 ei
      go_wp2_with fail
      clear t1 t1n
      go_loopw [5] (fun j wr => RmR2 l g w j wr) (fun j _ => 4 - (intOf j).toNat)
      case atStart => exact S2.out
      case round =>
        clear S2
        obtain ⟨j, rfl, hj, hb, hbel⟩ := hrel
        have HB := Lib.hid hb
        have BE := Lib.hid hbel
        clear hb hbel
        by_cases hlt2 : j < 4
        · have t1 : decide ((j : Int) < 4) = true := decide_eq_true (by omega)
          have t1n : decide (j < 4) = true := decide_eq_true hlt2
          have c0 := HB.out.cell (l.length + j) _ (iV_at _ (l.length + j) (by rw [rmM_len l j hj]; omega))
          have f0 := HB.out.free (l.length + j)
          have lg := HB.out.lt
          have NX := Lib.hid (HB.out.set (l.length + j) (.int .i64 (1000 + (j : Int))))
          rw [← iV_set, rmM_step l j hlt2] at NX
          have NB := Lib.hid (BE.out.trans ((Kp.set wr g (l.length + j) (.int .i64 (1000 + (j : Int)))).below (B := g) (Nat.le_of_lt lg) (fun x e => Nat.le_of_eq e.symm)))
          generalize (rmM l j)[l.length + j]'_ = y at *
          have HE := Lib.hid (show (l.length : Int) + (j : Int) = ((l.length + j : Nat) : Int) by omega)
          obtain ⟨K, hK⟩ : ∃ K, K = l.length + j := ⟨_, rfl⟩
          rw [← hK] at HE c0 f0 NX NB
          have eK := HE.out
          have ik : (K : Int) < (l.length : Int) + 4 := by omega
          have ik0 : (0 : Int) ≤ (K : Int) := by omega
          have HK := Lib.hid hK
          clear hK
          go_wp2_with fail
          go_roundw
          case rel => exact ⟨j + 1, by congr 1, hlt2, NX.out, NB.out⟩
          case measure => simp [intOf]; omega
        · have t1 : decide ((j : Int) < 4) = false := decide_eq_false (by omega)
          have t1n : decide (j < 4) = false := decide_eq_false hlt2
          have ej : j = 4 := by omega
          have FIN := Lib.hid (show RoomyR w l (.returned (.slice (some ⟨g, 0, none⟩) l.length (l.length + 4))) wr from ⟨g, rfl, HGG.out, by rw [ej] at HB; exact HB.out, by rw [← HGG.out]; exact BE.out⟩)
          clear ej
          go_wp2_with fail
          go_ret
          exact FIN.out
def KpR (w : World) (v : Value) (wr : World) : Prop := ∃ j : Nat, v = .int .i64 (j : Int) ∧ j ≤ 4 ∧ ∃ m, wr = w.drewN m
set_option maxHeartbeats 3200000 in
theorem kept_ok {w : World} {g : Nat} {v : Value} {l : List Int} (hb : BlkAt w g 3 (iV (rmM l 4))) (hv : SlI w v l) (hl : l.length ≤ 100000) :
    Calls Try.prog 18 #[.slice (some ⟨g, 0, none⟩) l.length (l.length + 4), v] w (Qt w (.bool true)) := by
  have HV := Lib.hid hv
  have HB := Lib.hid hb
  have SA := Lib.hid (same_ok (w := w) (show SlI w (.slice (some ⟨g, 0, none⟩) l.length (l.length + 4)) l from hb.sl (by omega) (by omega) _ (fun j u hu => by
    have hj : j < l.length := by have := (List.getElem?_eq_some_iff.1 hu).1; rw [iV_len] at this; exact this
    rw [iV_at l j hj] at hu
    unfold iV
    rw [List.getElem?_map, rmM_low l 4 j hj]
    exact hu)) hv)
  rw [decide_eq_true (rfl : l = l)] at SA
  obtain ⟨a, c, rfl, h1, h2⟩ := hv.form
  clear hv hb
  have e1 : (l.length : Int) + 4 = ((l.length + 4 : Nat) : Int) := by omega
  have E1 := Lib.hid e1
  clear e1
  go_enter Try.func18, Try.ntmps18
  go_wp2_with fail
  refine SA.out.mono ?_
  rintro e w' ⟨rfl, m0, hm0⟩
  have ST := Lib.hid (show KpR w (.int .i64 0) w' from ⟨0, rfl, by omega, m0, hm0⟩)
  have lb := HB.out.lt
  clear hm0
  go_wp2_with fail
  go_loopw [8] (fun j wr => KpR w j wr) (fun j _ => 4 - (intOf j).toNat)
  case atStart => exact ST.out
  case round =>
    clear ST
    obtain ⟨j, rfl, hj, m, hm⟩ := hrel
    have HM := Lib.hid hm
    have B2 := Lib.hid (show BlkAt wr g 3 (iV (rmM l 4)) from by rw [hm]; exact HB.out.below (below_drewN w m))
    clear hm
    by_cases hlt2 : j < 4
    · have t1 : decide ((j : Int) < 4) = true := decide_eq_true (by omega)
      have t1n : decide (j < 4) = true := decide_eq_true hlt2
      have c0 := B2.out.cell (l.length + j) (.int .i64 (1000 + (j : Int))) (by unfold iV; rw [List.getElem?_map, rmM_at l 4 j hlt2]; rfl)
      have HE := Lib.hid (show (l.length : Int) + (j : Int) = ((l.length + j : Nat) : Int) by omega)
      obtain ⟨K, hK⟩ : ∃ K, K = l.length + j := ⟨_, rfl⟩
      rw [← hK] at HE c0
      have eK := HE.out
      have ik : (K : Int) < (l.length : Int) + 4 := by omega
      have ik0 : (0 : Int) ≤ (K : Int) := by omega
      have HK := Lib.hid hK
      clear hK
      go_wp2_with fail
      go_roundw
      case rel => exact ⟨j + 1, by congr 1, hlt2, _, HM.out⟩
      case measure => simp [intOf]; omega
    · have t1 : decide ((j : Int) < 4) = false := decide_eq_false (by omega)
      have t1n : decide (j < 4) = false := decide_eq_false hlt2
      go_wp2_with fail
      go_ret
      exact ⟨rfl, _, HM.out⟩
end Go.Proofs.Ythajgfldjjgkiaa
