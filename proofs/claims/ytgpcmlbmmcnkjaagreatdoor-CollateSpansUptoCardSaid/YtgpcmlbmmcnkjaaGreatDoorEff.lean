/- keyspec.Effective: keys with the options' own letters. -/
import Derived.Test.YtgpcmlbmmcnkjaaGreatDoorMid
import Derived.Deep.DeepCutAuto
import Derived.Great.BuildSlice
namespace Go.Proofs.YtgpcmlbmmcnkjaaGreatDoor
open Go.RowKit

def modB (m : Nat) : Bool := bits BinOp.and IntKind.u16 (m : Int) 1 != 0
def own (o : Opt) (k : KeyL) : KeyL := if k.m = 0 ∧ k.b = false then turn k o.mods (modB o.mods) else k
def dflt (ks : List KeyL) : List KeyL := if ks = [] then [⟨1, 1, 0, 0, 0, false⟩] else ks
/-- Under way. -/
structure EffIn (w : World) (g : Nat) (o : Opt) (kv fv : Value) (L : List KeyL) (wr : World) : Prop where
  opt : CellsAt wr w.heap.size (optC o kv fv)
  row : wr.rangeAt g 0 (ksV L)
  free : ∀ j, wr.frozen? ⟨g, j, none⟩ = false
  lo : w.heap.size < g
  hi : g < wr.heap.size
  bel : Below w.heap.size w wr
theorem own_row {w : World} {B : Nat} {e : TypeId} {size n : Nat} {v : Value} {xs : List Value} (h : w.ownsRow B e size v n xs) (hn : n ≠ 0) :
    ∃ g c, v = .slice (some ⟨g, 0, none⟩) n c ∧ B ≤ g ∧ g < w.heap.size ∧ w.rangeAt g 0 xs ∧ ∀ j, w.frozen? ⟨g, j, none⟩ = false := by
  rcases h.2 with ⟨_, h0⟩ | ⟨g, cap, cur, hv, hb, hg, h1, h2, h3, h4⟩
  · exact absurd h0 hn
  · refine ⟨g, cap, hv, hb, (Array.getElem?_eq_some_iff.1 hg).1, fun j u hu => ?_, fun j => ?_⟩
    · rw [cell_of_row w g (0 + j) cur e (0, 0) hg, Nat.zero_add]
      rw [← h4, List.getElem?_take] at hu
      split at hu
      · simpa using hu
      · cases hu
    · simp [World.frozen?, hg]
theorem EffIn.alloc {w : World} {g : Nat} {o : Opt} {kv fv : Value} {L : List KeyL} {wr : World} (h : EffIn w g o kv fv L wr) (ob : Obj) : EffIn w g o kv fv L (wr.alloc ob) :=
  have hb : Below wr.heap.size wr (wr.alloc ob) := (Below.refl _ _).alloc (Nat.le_refl _) ob
  ⟨h.opt.alloc ob, range_below h.row hb h.hi, fun j => ((bcell hb).2 g j h.hi).trans (h.free j), h.lo, Nat.lt_of_lt_of_le h.hi hb.size, h.bel.alloc h.bel.size ob⟩
theorem EffIn.turned {w : World} {g : Nat} {o : Opt} {kv fv : Value} {L : List KeyL} {wr : World} (h : EffIn w g o kv fv L wr) (k : Nat) (hk : k < L.length) (m : Nat) (b : Bool) : EffIn w g o kv fv (L.set k (turn L[k] m b)) ((wr.setCell ⟨g, k * 6 + 4, none⟩ (.int .u16 m)).setCell ⟨g, k * 6 + 5, none⟩ (.bool b)) :=
  have hlo := h.lo
  ⟨(h.opt.other (by omega) _ _).other (by omega) _ _, ks_set h.row k hk m b, fun j => by rw [World.frozen?_setCell, World.frozen?_setCell]; exact h.free j, h.lo, by simpa using h.hi, (h.bel.setCell (p := ⟨g, k * 6 + 4, none⟩) (Nat.le_of_lt hlo) _).setCell (p := ⟨g, k * 6 + 5, none⟩) (Nat.le_of_lt hlo) _⟩
def RetKeys (w : World) (L : List KeyL) (e : Ending) (w' : World) : Prop :=
  ∃ g c, e = .returned (.slice (some ⟨g, 0, none⟩) L.length c) ∧ w.heap.size ≤ g ∧ g < w'.heap.size ∧ w'.rangeAt g 0 (ksV L) ∧ Below w.heap.size w w'

set_option maxRecDepth 100000
theorem eff_some (o : Opt) (ks : List KeyL) (kv fv : Value) (w : World) (hk : SlAt w w.heap.size kv 6 ks.length (ksV ks)) (hkl : ks.length * 40 ≤ 140737488355328) (hne : ks.length ≠ 0) :
    Calls Tryz.prog 41 #[optV o kv fv] w (RetKeys w (ks.map (own o))) := by
  unfold optV optC
  have HK := Lib.hid hk
  have HN := Lib.hid hne
  clear hk hne
  have A0 := Lib.hid (CellsAt.new w (optC o kv fv) 28)
  have B0 := Lib.hid ((Below.refl w.heap.size w).alloc (Nat.le_refl _) (Obj.cells (optC o kv fv).toArray 28))
  have HS2 := Lib.hid (show (w.alloc (Obj.cells (optC o kv fv).toArray 28)).heap.size = w.heap.size + 1 by simp)
  have a0 := A0.out.cell 0 _ rfl
  unfold optC at a0
  go_enter Tryz.func41, Tryz.ntmps41
  go_wp2_with (at_builtin; refine wp_copyK rfl _ _ rfl (w.heap.size + 1) (by simp) rfl kv rfl ks w.heap.size (HK.out.keep B0.out (Nat.le_refl _)) hkl ?_)
  intro v1 w1 h1 hb1
  obtain ⟨g, c, rfl, hg1, hg2, hr, hf⟩ := own_row h1 HN.out
  have hin : EffIn w g o kv fv ks w1 := ⟨A0.out.keep hb1 (by simp), hr, hf, by omega, hg2, B0.out.trans (hb1.mono (by simp))⟩
  have Hin := Lib.hid hin
  have t0 : ((ks.length : Int) == 0) = false := by have := HN.out; simp only [beq_eq_false_iff_ne, ne_eq]; omega
  have t0' : decide ((ks.length : Int) = 0) = false := by have := HN.out; simp only [decide_eq_false_iff_not]; omega
  clear hin h1 hb1 hr hf a0 A0 B0 HS2 hg1 hg2
  go_wp2_with fail
  go_loopw [16] (fun i wr => ∃ k : Nat, k ≤ ks.length ∧ i = .int .i64 k ∧ EffIn w g o kv fv (mid (own o) ks k) wr) (fun i _ => ks.length - (match i with | .int _ z => z.toNat | _ => 0))
  case atStart => exact ⟨0, by omega, rfl, by rw [mid_zero]; exact Hin.out⟩
  case round =>
    obtain ⟨k, hk, rfl, hI⟩ := hrel
    have HI := Lib.hid hI
    clear hI Hin
    by_cases h1 : k < ks.length
    · have t1 : decide ((k : Int) < (ks.length : Int)) = true := by simpa using h1
      have hlen : k < (mid (own o) ks k).length := by rw [mid_len]; exact h1
      have A := ks_row HI.out.row k hlen
      rw [mid_at _ _ _ h1] at A
      generalize hK : ks[k] = K at A
      have HKK := Lib.hid hK
      clear hK
      have a0 := A 0 _ rfl
      have a1 := A 1 _ rfl
      have a2 := A 2 _ rfl
      have a3 := A 3 _ rfl
      have a4 := A 4 _ rfl
      have a5 := A 5 _ rfl
      rw [Nat.add_zero] at a0
      clear A
      have done : ∀ ob, (K.m = 0 ∧ K.b = false → False) → EffIn w g o kv fv (mid (own o) ks (k + 1)) (wr.alloc ob) := fun ob hn => by
        rw [mid_same _ _ _ h1 (by rw [HKK.out]; unfold own; rw [if_neg hn])]
        exact HI.out.alloc ob
      have Done := Lib.hid done
      clear done
      obtain ⟨Kf, Kc, Ke, Kd, Km, Kb⟩ := K
      by_cases hm : Km = 0
      · subst hm
        cases Kb
        · have o1 := HI.out.opt.cell 1 _ rfl
          have f4 := HI.out.free (k * 6 + 4)
          have f5 := HI.out.free (k * 6 + 5)
          have hgo := HI.out.lo
          have hgi := HI.out.hi
          have hgw := HI.out.opt.lt
          have hT := HI.out.turned k hlen o.mods (modB o.mods)
          have hL : (mid (own o) ks k).set k (turn ((mid (own o) ks k)[k]) o.mods (modB o.mods)) = mid (own o) ks (k + 1) := by
            rw [← mid_set (own o) ks k h1, mid_at (own o) ks k h1, HKK.out]
            unfold own
            rw [if_pos ⟨rfl, rfl⟩]
          rw [hL] at hT
          have HT := Lib.hid hT
          clear hT hL
          go_wp2_with fail
          refine ⟨⟨k + 1, by omega, by simp, HT.out.alloc _⟩, ?_⟩
          simp; omega
        · go_wp2_with fail
          refine ⟨⟨k + 1, by omega, by simp, Done.out _ (fun h => by simp at h)⟩, ?_⟩
          simp; omega
      · have t2 : decide (Km = 0) = false := by simpa using hm
        go_wp2_with fail
        refine ⟨⟨k + 1, by omega, by simp, Done.out _ (fun h => hm h.1)⟩, ?_⟩
        simp; omega
    · have t1 : decide ((k : Int) < (ks.length : Int)) = false := by simpa using h1
      have e : k = ks.length := by omega
      subst e
      have H := HI.out
      rw [mid_end] at H
      have HH := Lib.hid H
      clear H
      go_wp2_with fail
      go_ret
      exact ⟨g, c, by rw [List.length_map]; rfl, by have := HH.out.lo; omega, HH.out.hi, HH.out.row, HH.out.bel⟩
end Go.Proofs.YtgpcmlbmmcnkjaaGreatDoor
