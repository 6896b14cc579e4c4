/- keyspec.Effective where there are no keys. -/
import Derived.Test.YtgpcmlbmmcnkjaaGreatDoorEff
namespace Go.Proofs.YtgpcmlbmmcnkjaaGreatDoor
open Go.RowKit

def k1 : KeyL := ⟨1, 1, 0, 0, 0, false⟩
set_option maxRecDepth 100000
theorem eff_nil (o : Opt) (kv fv : Value) (w : World) (hk : SlAt w w.heap.size kv 6 0 (ksV [])) :
    Calls Tryz.prog 41 #[optV o kv fv] w (RetKeys w ([k1].map (own o))) := by
  unfold optV optC
  have HK := Lib.hid hk
  clear hk
  have A0 := Lib.hid (CellsAt.new w (optC o kv fv) 28)
  have B0 := Lib.hid ((Below.refl w.heap.size w).alloc (Nat.le_refl _) (Obj.cells (optC o kv fv).toArray 28))
  have a0 := A0.out.cell 0 _ rfl
  unfold optC at a0
  go_enter Tryz.func41, Tryz.ntmps41
  go_wp2_with (at_builtin; refine wp_copyK rfl _ _ rfl (w.heap.size + 1) (by simp) rfl kv rfl [] w.heap.size (HK.out.keep B0.out (Nat.le_refl _)) (by simp) ?_)
  intro v1 w1 h1 hb1
  obtain ⟨ao, c, rfl⟩ := own_slice h1
  have A1 := Lib.hid (A0.out.keep hb1 (by simp))
  have B1 := Lib.hid (B0.out.trans (hb1.mono (by simp)))
  have L1 := Lib.hid (show w.heap.size < w1.heap.size by have := hb1.size; simp at this; omega)
  clear h1 hb1 a0 A0 B0
  have hin : EffIn w w1.heap.size o kv fv [k1] (w1.alloc (.cells (kc k1).toArray 35)) := ⟨A1.out.alloc _, (CellsAt.new w1 (kc k1) 35).range, (CellsAt.new w1 (kc k1) 35).free, L1.out, by simp, B1.out.alloc B1.out.size _⟩
  have Hin := Lib.hid hin
  clear hin
  go_wp2_with fail
  go_loopw [16] (fun i wr => ∃ k : Nat, k ≤ 1 ∧ i = .int .i64 k ∧ EffIn w w1.heap.size o kv fv (mid (own o) [k1] k) wr) (fun i _ => 1 - (match i with | .int _ z => z.toNat | _ => 0))
  case atStart => exact ⟨0, by omega, rfl, by rw [mid_zero]; exact Hin.out⟩
  case round =>
    obtain ⟨k, hk, rfl, hI⟩ := hrel
    have HI := Lib.hid hI
    clear hI Hin
    by_cases h1 : k < 1
    · have t1 : decide ((k : Int) < (1 : Int)) = true := by simp only [decide_eq_true_eq]; omega
      have hlen : k < (mid (own o) [k1] k).length := by rw [mid_len]; simpa using h1
      have A := ks_row HI.out.row k hlen
      have h1' : k < [k1].length := by simpa using h1
      rw [mid_at _ _ _ h1'] at A
      generalize hK : [k1][k] = K at A
      have HKK := Lib.hid hK
      clear hK
      have a0 := A 0 _ rfl
      have a1 := A 1 _ rfl
      have a2 := A 2 _ rfl
      have a3 := A 3 _ rfl
      have a4 := A 4 _ rfl
      have a5 := A 5 _ rfl
      rw [Nat.add_zero] at a0
      clear A
      have done : ∀ ob, (K.m = 0 ∧ K.b = false → False) → EffIn w w1.heap.size o kv fv (mid (own o) [k1] (k + 1)) (wr.alloc ob) := fun ob hn => by
        rw [mid_same _ _ _ h1' (by rw [HKK.out]; unfold own; rw [if_neg hn])]
        exact HI.out.alloc ob
      have Done := Lib.hid done
      clear done
      obtain ⟨Kf, Kc, Ke, Kd, Km, Kb⟩ := K
      by_cases hm : Km = 0
      · subst hm
        cases Kb
        · have o1 := HI.out.opt.cell 1 _ rfl
          have f4 := HI.out.free (k * 6 + 4)
          have f5 := HI.out.free (k * 6 + 5)
          have hgo := HI.out.lo
          have hgi := HI.out.hi
          have hgw := HI.out.opt.lt
          have hT := HI.out.turned k hlen o.mods (modB o.mods)
          have hL : (mid (own o) [k1] k).set k (turn ((mid (own o) [k1] k)[k]) o.mods (modB o.mods)) = mid (own o) [k1] (k + 1) := by
            rw [← mid_set (own o) [k1] k h1', mid_at (own o) [k1] k h1', HKK.out]
            unfold own
            rw [if_pos ⟨rfl, rfl⟩]
          rw [hL] at hT
          have HT := Lib.hid hT
          clear hT hL
          go_wp2_with fail
          refine ⟨⟨k + 1, by omega, by simp, HT.out.alloc _⟩, ?_⟩
          simp; omega
        · go_wp2_with fail
          refine ⟨⟨k + 1, by omega, by simp, Done.out _ (fun h => by simp at h)⟩, ?_⟩
          simp; omega
      · have t2 : decide (Km = 0) = false := by simpa using hm
        go_wp2_with fail
        refine ⟨⟨k + 1, by omega, by simp, Done.out _ (fun h => hm h.1)⟩, ?_⟩
        simp; omega
    · have t1 : decide ((k : Int) < (1 : Int)) = false := by simp only [decide_eq_false_iff_not]; omega
      have e : k = 1 := by omega
      subst e
      have H := HI.out
      rw [show mid (own o) [k1] 1 = [k1].map (own o) from mid_end (own o) [k1]] at H
      have HH := Lib.hid H
      clear H
      go_wp2_with fail
      go_ret
      exact ⟨w1.heap.size, 1, rfl, by have := HH.out.lo; omega, HH.out.hi, HH.out.row, HH.out.bel⟩
end Go.Proofs.YtgpcmlbmmcnkjaaGreatDoor
