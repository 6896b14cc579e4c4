/- keyspec.Effective where there are no keys. -/
import Derived.Test.YtnpnccjeapejdaaGreatDoorBase
import Derived.Deep.MidRow
import Derived.Deep.Upon
import Derived.Deep.DeepMust
import Derived.Lib.LazyBuf
import Derived.Deep.RegionHeld3
import Derived.WalkSpells
import Derived.WalkLawsBesides
import Derived.IntWalk
import Derived.Deep.QuietTactic
import Derived.BigQuiet
import Derived.Deep.DeepCutAuto
import Derived.Great.BuildSlice
namespace Go.Proofs.YtnpnccjeapejdaaGreatDoor
section
section
section
open Go.RowKit

/-- Options but for their keys and files. -/
structure Opt where
  mods : Nat
  tab : Int
  stable : Bool
  unique : Bool
  zero : Bool
  merge : Bool
  check : Nat
  output : ByteArray
  hasOutput : Bool
  lines : Int
  bytes : Int
  fan : Int
  parallel : Int
  temp : ByteArray
  pack : Bool
  checkpoint : ByteArray
def optC (o : Opt) (kv fv : Value) : List Value :=
  [kv, .int .u16 o.mods, .int .i64 o.tab, .bool o.stable, .bool o.unique, .bool o.zero, .bool o.merge, .int .u8 o.check, .string o.output, .bool o.hasOutput, .int .i64 o.lines, .int .i64 o.bytes, .int .i64 o.fan, .int .i64 o.parallel, .string o.temp, .bool o.pack, .string o.checkpoint, fv]
def optV (o : Opt) (kv fv : Value) : Value := .agg (optC o kv fv).toArray

theorem CellsAt.range {w : World} {b : Nat} {vs : List Value} (h : CellsAt w b vs) : w.rangeAt b 0 vs := fun j v hv => by
  rw [Nat.zero_add]; exact h.cell j v hv
theorem CellsAt.there {w : World} {b : Nat} {vs : List Value} (h : CellsAt w b vs) : w.there b 0 vs.length := fun j hj => by
  rw [Nat.zero_add, h.cell j _ (List.getElem?_eq_getElem hj)]
  exact ⟨rfl, h.free j⟩
end
section
open Go.RowKit
theorem ksV_at (ks : List KeyL) (k : Nat) (h : k < ks.length) (j : Nat) (hj : j < 6) : (ksV ks)[k * 6 + j]? = (kc ks[k])[j]? := by
  unfold ksV
  induction ks generalizing k with
  | nil => simp at h
  | cons x r ih =>
    have hl : (kc x).length = 6 := rfl
    rw [List.flatMap_cons]
    cases k with
    | zero => rw [List.getElem?_append_left (by omega)]; simp
    | succ k =>
      rw [List.getElem?_append_right (by omega), hl, show (k + 1) * 6 + j - 6 = k * 6 + j by omega, ih k (by simpa using h)]
      rfl
theorem ks_row {w : World} {g : Nat} {ks : List KeyL} (h : w.rangeAt g 0 (ksV ks)) (k : Nat) (hk : k < ks.length) : w.rangeAt g (k * 6) (kc ks[k]) := fun j v hv => by
  have hj : j < 6 := (List.getElem?_eq_some_iff.1 hv).1
  have := h (k * 6 + j) v (by rw [ksV_at ks k hk j hj]; exact hv)
  rwa [Nat.zero_add] at this
theorem range_below {w w' : World} {C g o : Nat} {xs : List Value} (h : w.rangeAt g o xs) (k : Below C w w') (hg : g < C) : w'.rangeAt g o xs := fun j v hv => by
  rw [k.cell (p := ⟨g, o + j, none⟩) hg]; exact h j v hv

/-- The first k are turned. -/
def mid (f : KeyL → KeyL) (L : List KeyL) (k : Nat) : List KeyL := (L.take k).map f ++ L.drop k
theorem mid_zero (f : KeyL → KeyL) (L : List KeyL) : mid f L 0 = L := by simp [mid]
theorem mid_end (f : KeyL → KeyL) (L : List KeyL) : mid f L L.length = L.map f := by simp [mid]
theorem mid_len (f : KeyL → KeyL) (L : List KeyL) (k : Nat) : (mid f L k).length = L.length := by
  simp only [mid, List.length_append, List.length_map, List.length_take, List.length_drop]; omega
theorem mid_at (f : KeyL → KeyL) (L : List KeyL) (k : Nat) (h : k < L.length) : (mid f L k)[k]'(by rw [mid_len]; exact h) = L[k] := by
  have hl : ((L.take k).map f).length = k := by simp; omega
  unfold mid
  rw [List.getElem_append_right (by omega), List.getElem_drop]
  congr 1
  omega
theorem mid_set (f : KeyL → KeyL) (L : List KeyL) (k : Nat) (h : k < L.length) : (mid f L k).set k (f L[k]) = mid f L (k + 1) := by
  have hl : ((L.take k).map f).length = k := by simp; omega
  unfold mid
  rw [List.set_append_right _ _ (by omega), hl, Nat.sub_self, List.drop_eq_getElem_cons h, List.set_cons_zero, List.take_succ_eq_append_getElem h, List.map_append]
  simp
theorem mid_same (f : KeyL → KeyL) (L : List KeyL) (k : Nat) (h : k < L.length) (hf : f L[k] = L[k]) : mid f L (k + 1) = mid f L k := by
  rw [← mid_set f L k h, hf]
  have hk : k < (mid f L k).length := by rw [mid_len]; exact h
  have e := List.set_getElem_self hk
  rw [mid_at f L k h] at e
  exact e

def turn (k : KeyL) (m : Nat) (b : Bool) : KeyL := ⟨k.f, k.c, k.ef, k.ec, m, b⟩
/-- The two last cells of a key set. -/
theorem ks_set {w : World} {g : Nat} {L : List KeyL} (h : w.rangeAt g 0 (ksV L)) (k : Nat) (hk : k < L.length) (m : Nat) (b : Bool) :
    ((w.setCell ⟨g, k * 6 + 4, none⟩ (.int .u16 m)).setCell ⟨g, k * 6 + 5, none⟩ (.bool b)).rangeAt g 0 (ksV (L.set k (turn L[k] m b))) := by
  intro j v hv
  rw [Nat.zero_add]
  have hj : j < (ksV (L.set k (turn L[k] m b))).length := (List.getElem?_eq_some_iff.1 hv).1
  rw [ksV_len, List.length_set] at hj
  have hq : j / 6 < L.length := by omega
  have hr : j % 6 < 6 := by omega
  have ej : j = j / 6 * 6 + j % 6 := by omega
  have key : ∀ (M : List KeyL) (hM : j / 6 < M.length), (ksV M)[j]? = (kc M[j / 6])[j % 6]? := fun M hM => by
    have := ksV_at M (j / 6) hM (j % 6) hr
    rwa [← ej] at this
  have old : ∀ u, (kc L[j / 6])[j % 6]? = some u → w.cell? ⟨g, j, none⟩ = some u := fun u hu => by
    have := h j u ((key L hq).trans hu)
    rwa [Nat.zero_add] at this
  have hv' := (key _ (by rw [List.length_set]; exact hq)).symm.trans hv
  rw [List.getElem_set] at hv'
  have c4 : w.cell? ⟨g, k * 6 + 4, none⟩ = some (.int .u16 L[k].m) := by
    have := h (k * 6 + 4) (.int .u16 L[k].m) (by rw [ksV_at L k hk 4 (by omega)]; rfl)
    rwa [Nat.zero_add] at this
  have c5 : w.cell? ⟨g, k * 6 + 5, none⟩ = some (.bool L[k].b) := by
    have := h (k * 6 + 5) (.bool L[k].b) (by rw [ksV_at L k hk 5 (by omega)]; rfl)
    rwa [Nat.zero_add] at this
  by_cases e5 : j = k * 6 + 5
  · have eq : k = j / 6 := by omega
    have er : j % 6 = 5 := by omega
    rw [if_pos eq, er] at hv'
    cases hv'
    rw [e5]
    exact World.cell?_setCell_same _ _ _ (by rw [World.cell?_setCell_other _ _ _ _ (by simp)]; exact c5)
  · rw [World.cell?_setCell_other _ _ _ _ (by intro e; injection e; omega)]
    by_cases e4 : j = k * 6 + 4
    · have eq : k = j / 6 := by omega
      have er : j % 6 = 4 := by omega
      rw [if_pos eq, er] at hv'
      cases hv'
      rw [e4]
      exact World.cell?_setCell_same _ _ _ c4
    · rw [World.cell?_setCell_other _ _ _ _ (by intro e; injection e; omega)]
      refine old v ?_
      by_cases eq : k = j / 6
      · rw [if_pos eq] at hv'
        subst eq
        have hs : j % 6 = 0 ∨ j % 6 = 1 ∨ j % 6 = 2 ∨ j % 6 = 3 := by omega
        rcases hs with e | e | e | e <;> rw [e] at hv' ⊢ <;> exact hv'
      · rw [if_neg eq] at hv'
        exact hv'
end
end
section
open Go.RowKit

def modB (m : Nat) : Bool := bits BinOp.and IntKind.u16 (m : Int) 1 != 0
def own (o : Opt) (k : KeyL) : KeyL := if k.m = 0 ∧ k.b = false then turn k o.mods (modB o.mods) else k
def dflt (ks : List KeyL) : List KeyL := if ks = [] then [⟨1, 1, 0, 0, 0, false⟩] else ks
/-- Under way. -/
structure EffIn (w : World) (g : Nat) (o : Opt) (kv fv : Value) (L : List KeyL) (wr : World) : Prop where
  opt : CellsAt wr w.heap.size (optC o kv fv)
  row : wr.rangeAt g 0 (ksV L)
  free : ∀ j, wr.frozen? ⟨g, j, none⟩ = false
  lo : w.heap.size < g
  hi : g < wr.heap.size
  bel : Below w.heap.size w wr
theorem own_row {w : World} {B : Nat} {e : TypeId} {size n : Nat} {v : Value} {xs : List Value} (h : w.ownsRow B e size v n xs) (hn : n ≠ 0) :
    ∃ g c, v = .slice (some ⟨g, 0, none⟩) n c ∧ B ≤ g ∧ g < w.heap.size ∧ w.rangeAt g 0 xs ∧ ∀ j, w.frozen? ⟨g, j, none⟩ = false := by
  rcases h.2 with ⟨_, h0⟩ | ⟨g, cap, cur, hv, hb, hg, h1, h2, h3, h4⟩
  · exact absurd h0 hn
  · refine ⟨g, cap, hv, hb, (Array.getElem?_eq_some_iff.1 hg).1, fun j u hu => ?_, fun j => ?_⟩
    · rw [cell_of_row w g (0 + j) cur e (0, 0) hg, Nat.zero_add]
      rw [← h4, List.getElem?_take] at hu
      split at hu
      · simpa using hu
      · cases hu
    · simp [World.frozen?, hg]
theorem EffIn.alloc {w : World} {g : Nat} {o : Opt} {kv fv : Value} {L : List KeyL} {wr : World} (h : EffIn w g o kv fv L wr) (ob : Obj) : EffIn w g o kv fv L (wr.alloc ob) :=
  have hb : Below wr.heap.size wr (wr.alloc ob) := (Below.refl _ _).alloc (Nat.le_refl _) ob
  ⟨h.opt.alloc ob, range_below h.row hb h.hi, fun j => ((bcell hb).2 g j h.hi).trans (h.free j), h.lo, Nat.lt_of_lt_of_le h.hi hb.size, h.bel.alloc h.bel.size ob⟩
theorem EffIn.turned {w : World} {g : Nat} {o : Opt} {kv fv : Value} {L : List KeyL} {wr : World} (h : EffIn w g o kv fv L wr) (k : Nat) (hk : k < L.length) (m : Nat) (b : Bool) : EffIn w g o kv fv (L.set k (turn L[k] m b)) ((wr.setCell ⟨g, k * 6 + 4, none⟩ (.int .u16 m)).setCell ⟨g, k * 6 + 5, none⟩ (.bool b)) :=
  have hlo := h.lo
  ⟨(h.opt.other (by omega) _ _).other (by omega) _ _, ks_set h.row k hk m b, fun j => by rw [World.frozen?_setCell, World.frozen?_setCell]; exact h.free j, h.lo, by simpa using h.hi, (h.bel.setCell (p := ⟨g, k * 6 + 4, none⟩) (Nat.le_of_lt hlo) _).setCell (p := ⟨g, k * 6 + 5, none⟩) (Nat.le_of_lt hlo) _⟩
def RetKeys (w : World) (L : List KeyL) (e : Ending) (w' : World) : Prop :=
  ∃ g c, e = .returned (.slice (some ⟨g, 0, none⟩) L.length c) ∧ w.heap.size ≤ g ∧ g < w'.heap.size ∧ w'.rangeAt g 0 (ksV L) ∧ Below w.heap.size w w'

set_option maxRecDepth 100000
theorem eff_some (o : Opt) (ks : List KeyL) (kv fv : Value) (w : World) (hk : SlAt w w.heap.size kv 6 ks.length (ksV ks)) (hkl : ks.length * 40 ≤ 140737488355328) (hne : ks.length ≠ 0) :
    Calls Tryz.prog 31 #[optV o kv fv] w (RetKeys w (ks.map (own o))) := by
  unfold optV optC
  have HK := Lib.hid hk
  have HN := Lib.hid hne
  clear hk hne
  have A0 := Lib.hid (CellsAt.new w (optC o kv fv) 28)
  have B0 := Lib.hid ((Below.refl w.heap.size w).alloc (Nat.le_refl _) (Obj.cells (optC o kv fv).toArray 28))
  have HS2 := Lib.hid (show (w.alloc (Obj.cells (optC o kv fv).toArray 28)).heap.size = w.heap.size + 1 by simp)
  have a0 := A0.out.cell 0 _ rfl
  unfold optC at a0
  go_enter Tryz.func31, Tryz.ntmps31
  go_wp2_with (at_builtin; refine wp_copyK rfl _ _ rfl (w.heap.size + 1) (by simp) rfl kv rfl ks w.heap.size (HK.out.keep B0.out (Nat.le_refl _)) hkl ?_)
  intro v1 w1 h1 hb1
  obtain ⟨g, c, rfl, hg1, hg2, hr, hf⟩ := own_row h1 HN.out
  have hin : EffIn w g o kv fv ks w1 := ⟨A0.out.keep hb1 (by simp), hr, hf, by omega, hg2, B0.out.trans (hb1.mono (by simp))⟩
  have Hin := Lib.hid hin
  have t0 : ((ks.length : Int) == 0) = false := by have := HN.out; simp only [beq_eq_false_iff_ne, ne_eq]; omega
  have t0' : decide ((ks.length : Int) = 0) = false := by have := HN.out; simp only [decide_eq_false_iff_not]; omega
  clear hin h1 hb1 hr hf a0 A0 B0 HS2 hg1 hg2
  go_wp2_with fail
  go_loopw [16] (fun i wr => ∃ k : Nat, k ≤ ks.length ∧ i = .int .i64 k ∧ EffIn w g o kv fv (mid (own o) ks k) wr) (fun i _ => ks.length - (match i with | .int _ z => z.toNat | _ => 0))
  case atStart => exact ⟨0, by omega, rfl, by rw [mid_zero]; exact Hin.out⟩
  case round =>
    obtain ⟨k, hk, rfl, hI⟩ := hrel
    have HI := Lib.hid hI
    clear hI Hin
    by_cases h1 : k < ks.length
    · have t1 : decide ((k : Int) < (ks.length : Int)) = true := by simpa using h1
      have hlen : k < (mid (own o) ks k).length := by rw [mid_len]; exact h1
      have A := ks_row HI.out.row k hlen
      rw [mid_at _ _ _ h1] at A
      generalize hK : ks[k] = K at A
      have HKK := Lib.hid hK
      clear hK
      have a0 := A 0 _ rfl
      have a1 := A 1 _ rfl
      have a2 := A 2 _ rfl
      have a3 := A 3 _ rfl
      have a4 := A 4 _ rfl
      have a5 := A 5 _ rfl
      rw [Nat.add_zero] at a0
      clear A
      have done : ∀ ob, (K.m = 0 ∧ K.b = false → False) → EffIn w g o kv fv (mid (own o) ks (k + 1)) (wr.alloc ob) := fun ob hn => by
        rw [mid_same _ _ _ h1 (by rw [HKK.out]; unfold own; rw [if_neg hn])]
        exact HI.out.alloc ob
      have Done := Lib.hid done
      clear done
      obtain ⟨Kf, Kc, Ke, Kd, Km, Kb⟩ := K
      by_cases hm : Km = 0
      · subst hm
        cases Kb
        · have o1 := HI.out.opt.cell 1 _ rfl
          have f4 := HI.out.free (k * 6 + 4)
          have f5 := HI.out.free (k * 6 + 5)
          have hgo := HI.out.lo
          have hgi := HI.out.hi
          have hgw := HI.out.opt.lt
          have hT := HI.out.turned k hlen o.mods (modB o.mods)
          have hL : (mid (own o) ks k).set k (turn ((mid (own o) ks k)[k]) o.mods (modB o.mods)) = mid (own o) ks (k + 1) := by
            rw [← mid_set (own o) ks k h1, mid_at (own o) ks k h1, HKK.out]
            unfold own
            rw [if_pos ⟨rfl, rfl⟩]
          rw [hL] at hT
          have HT := Lib.hid hT
          clear hT hL
          go_wp2_with fail
          refine ⟨⟨k + 1, by omega, by simp, HT.out.alloc _⟩, ?_⟩
          simp; omega
        · go_wp2_with fail
          refine ⟨⟨k + 1, by omega, by simp, Done.out _ (fun h => by simp at h)⟩, ?_⟩
          simp; omega
      · have t2 : decide (Km = 0) = false := by simpa using hm
        go_wp2_with fail
        refine ⟨⟨k + 1, by omega, by simp, Done.out _ (fun h => hm h.1)⟩, ?_⟩
        simp; omega
    · have t1 : decide ((k : Int) < (ks.length : Int)) = false := by simpa using h1
      have e : k = ks.length := by omega
      subst e
      have H := HI.out
      rw [mid_end] at H
      have HH := Lib.hid H
      clear H
      go_wp2_with fail
      go_ret
      exact ⟨g, c, by rw [List.length_map]; rfl, by have := HH.out.lo; omega, HH.out.hi, HH.out.row, HH.out.bel⟩
end
end
section
open Go.RowKit

def k1 : KeyL := ⟨1, 1, 0, 0, 0, false⟩
set_option maxRecDepth 100000
theorem eff_nil (o : Opt) (kv fv : Value) (w : World) (hk : SlAt w w.heap.size kv 6 0 (ksV [])) :
    Calls Tryz.prog 31 #[optV o kv fv] w (RetKeys w ([k1].map (own o))) := by
  unfold optV optC
  have HK := Lib.hid hk
  clear hk
  have A0 := Lib.hid (CellsAt.new w (optC o kv fv) 28)
  have B0 := Lib.hid ((Below.refl w.heap.size w).alloc (Nat.le_refl _) (Obj.cells (optC o kv fv).toArray 28))
  have a0 := A0.out.cell 0 _ rfl
  unfold optC at a0
  go_enter Tryz.func31, Tryz.ntmps31
  go_wp2_with (at_builtin; refine wp_copyK rfl _ _ rfl (w.heap.size + 1) (by simp) rfl kv rfl [] w.heap.size (HK.out.keep B0.out (Nat.le_refl _)) (by simp) ?_)
  intro v1 w1 h1 hb1
  obtain ⟨ao, c, rfl⟩ := own_slice h1
  have A1 := Lib.hid (A0.out.keep hb1 (by simp))
  have B1 := Lib.hid (B0.out.trans (hb1.mono (by simp)))
  have L1 := Lib.hid (show w.heap.size < w1.heap.size by have := hb1.size; simp at this; omega)
  clear h1 hb1 a0 A0 B0
  have hin : EffIn w w1.heap.size o kv fv [k1] (w1.alloc (.cells (kc k1).toArray 54)) := ⟨A1.out.alloc _, (CellsAt.new w1 (kc k1) 54).range, (CellsAt.new w1 (kc k1) 54).free, L1.out, by simp, B1.out.alloc B1.out.size _⟩
  have Hin := Lib.hid hin
  clear hin
  go_wp2_with fail
  go_loopw [16] (fun i wr => ∃ k : Nat, k ≤ 1 ∧ i = .int .i64 k ∧ EffIn w w1.heap.size o kv fv (mid (own o) [k1] k) wr) (fun i _ => 1 - (match i with | .int _ z => z.toNat | _ => 0))
  case atStart => exact ⟨0, by omega, rfl, by rw [mid_zero]; exact Hin.out⟩
  case round =>
    obtain ⟨k, hk, rfl, hI⟩ := hrel
    have HI := Lib.hid hI
    clear hI Hin
    by_cases h1 : k < 1
    · have t1 : decide ((k : Int) < (1 : Int)) = true := by simp only [decide_eq_true_eq]; omega
      have hlen : k < (mid (own o) [k1] k).length := by rw [mid_len]; simpa using h1
      have A := ks_row HI.out.row k hlen
      have h1' : k < [k1].length := by simpa using h1
      rw [mid_at _ _ _ h1'] at A
      generalize hK : [k1][k] = K at A
      have HKK := Lib.hid hK
      clear hK
      have a0 := A 0 _ rfl
      have a1 := A 1 _ rfl
      have a2 := A 2 _ rfl
      have a3 := A 3 _ rfl
      have a4 := A 4 _ rfl
      have a5 := A 5 _ rfl
      rw [Nat.add_zero] at a0
      clear A
      have done : ∀ ob, (K.m = 0 ∧ K.b = false → False) → EffIn w w1.heap.size o kv fv (mid (own o) [k1] (k + 1)) (wr.alloc ob) := fun ob hn => by
        rw [mid_same _ _ _ h1' (by rw [HKK.out]; unfold own; rw [if_neg hn])]
        exact HI.out.alloc ob
      have Done := Lib.hid done
      clear done
      obtain ⟨Kf, Kc, Ke, Kd, Km, Kb⟩ := K
      by_cases hm : Km = 0
      · subst hm
        cases Kb
        · have o1 := HI.out.opt.cell 1 _ rfl
          have f4 := HI.out.free (k * 6 + 4)
          have f5 := HI.out.free (k * 6 + 5)
          have hgo := HI.out.lo
          have hgi := HI.out.hi
          have hgw := HI.out.opt.lt
          have hT := HI.out.turned k hlen o.mods (modB o.mods)
          have hL : (mid (own o) [k1] k).set k (turn ((mid (own o) [k1] k)[k]) o.mods (modB o.mods)) = mid (own o) [k1] (k + 1) := by
            rw [← mid_set (own o) [k1] k h1', mid_at (own o) [k1] k h1', HKK.out]
            unfold own
            rw [if_pos ⟨rfl, rfl⟩]
          rw [hL] at hT
          have HT := Lib.hid hT
          clear hT hL
          go_wp2_with fail
          refine ⟨⟨k + 1, by omega, by simp, HT.out.alloc _⟩, ?_⟩
          simp; omega
        · go_wp2_with fail
          refine ⟨⟨k + 1, by omega, by simp, Done.out _ (fun h => by simp at h)⟩, ?_⟩
          simp; omega
      · have t2 : decide (Km = 0) = false := by simpa using hm
        go_wp2_with fail
        refine ⟨⟨k + 1, by omega, by simp, Done.out _ (fun h => hm h.1)⟩, ?_⟩
        simp; omega
    · have t1 : decide ((k : Int) < (1 : Int)) = false := by simp only [decide_eq_false_iff_not]; omega
      have e : k = 1 := by omega
      subst e
      have H := HI.out
      rw [show mid (own o) [k1] 1 = [k1].map (own o) from mid_end (own o) [k1]] at H
      have HH := Lib.hid H
      clear H
      go_wp2_with fail
      go_ret
      exact ⟨w1.heap.size, 1, rfl, by have := HH.out.lo; omega, HH.out.hi, HH.out.row, HH.out.bel⟩
end
end Go.Proofs.YtnpnccjeapejdaaGreatDoor
