/- The sums. -/
import Derived.Test.YtlbekgcfafofdaaDoorCr
namespace Go.Proofs.YtlbekgcfafofdaaDoor
open Go.RowKit

set_option maxRecDepth 100000
def cSteps : Array Value := (tabN.map fun n : Nat => Value.int .u32 (n : Int)).toArray
def usesL : List Nat := [0, 1, 2, 62, 0, 110, 0]
def cUses : Array Value := (usesL.map fun n : Nat => Value.int .u8 (n : Int)).toArray
structure Tabs (w : World) : Prop where
  steps : ∃ t fr, w.heap[1]? = some (.cells cSteps t fr)
  uses : ∃ t fr, w.heap[0]? = some (.cells cUses t fr)
theorem lt_of_block {w : World} {b : Nat} {o : Obj} (h : w.heap[b]? = some o) : b < w.heap.size := by
  rcases Nat.lt_or_ge b w.heap.size with h' | h'
  · exact h'
  · rw [Array.getElem?_eq_none h'] at h; cases h
theorem Tabs.below {w w' : World} (h : Tabs w) (k : Below w.heap.size w w') : Tabs w' := by
  obtain ⟨⟨t, fr, h0⟩, ⟨t1, fr1, h1⟩⟩ := h
  exact ⟨⟨t, fr, (k.block 1 (lt_of_block h0)).trans h0⟩, ⟨t1, fr1, (k.block 0 (lt_of_block h1)).trans h1⟩⟩
theorem Tabs.drewN {w : World} (h : Tabs w) (n : Nat) : Tabs (w.drewN n) := h.below (below_drewN w n)
theorem Tabs.step {w : World} (h : Tabs w) (k : Nat) (hk : k < 16) : w.cell? ⟨1, k, none⟩ = some (.int .u32 ((tabN.getD k 0 : Nat) : Int)) := by
  obtain ⟨t, fr, h0⟩ := h.steps
  rw [cell_of_row w 1 k _ t fr h0]
  have : ∀ j : Fin 16, cSteps[j.1]? = some (.int .u32 ((tabN.getD j.1 0 : Nat) : Int)) := by
    intro j
    have hj := j.2
    unfold cSteps
    simp only [List.getElem?_toArray, List.getElem?_map]
    rw [List.getElem?_eq_getElem (show j.1 < tabN.length from hj)]
    simp [List.getD_eq_getElem?_getD, List.getElem?_eq_getElem (show j.1 < tabN.length from hj)]
  exact this ⟨k, hk⟩

theorem half_walk (d : Nat) (hd : d < 2 ^ 32) (e : Nat) (he : e = halfS d) {w : World} (T : Tabs w) : ∃ q r t : Nat, (d : Int) / 16 = (q : Int) ∧ bits .and .u32 (d : Int) 15 = (r : Int) ∧ w.cell? ⟨1, r, none⟩ = some (.int .u32 (t : Int)) ∧ bits .xor .u32 (q : Int) (t : Int) = (e : Int) ∧ r < 16 := by
  have ht : ∀ k : Fin 16, tabN.getD k.1 0 < 4294967296 := by decide +kernel
  have hr : d % 16 < 16 := Nat.mod_lt _ (by omega)
  refine ⟨d / 16, d % 16, tabN.getD (d % 16) 0, by omega, ?_, T.step _ hr, ?_, hr⟩
  · rw [show (15 : Int) = ((15 : Nat) : Int) from rfl, u32_and_nat _ _ hd (by decide)]
    congr 1
    exact Nat.and_two_pow_sub_one_eq_mod d 4
  · rw [u32_xor_nat _ _ (by omega) (ht ⟨d % 16, hr⟩), he]
    rfl
def SmRel (c : Nat) (l : List UInt8) (s i : Value) : Prop := ∃ k : Nat, k ≤ l.length ∧ i = .int .i64 k ∧ s = .int .u32 ((foldS c (l.take k) : Nat) : Int)
set_option maxHeartbeats 1600000 in
theorem sumMore_some (s : Nat) (hs : s < 2 ^ 32) (b off cp : Nat) (l : List UInt8) (hl : l.length ≤ 140737488355328) (w : World) (_hb : b < w.heap.size) (hc : ∀ j u, l[j]? = some u → w.cell? ⟨b, off + j, none⟩ = some (.int .u8 u.toNat)) (T : Tabs w) :
    Calls Tryd.prog 36 #[.int .u32 s, .slice (some ⟨b, off, none⟩) l.length cp] w (Same w (.int .u32 (sumMoreN s l))) := by
  have HT := Lib.hid T
  have HC := Lib.hid hc
  clear T hc
  have sg : IntKind.u32.signed = false := rfl
  go_enter Tryd.func36, Tryd.ntmps36
  go_wp2_with fail
  have A0 : bits .xor .u32 IntKind.u32.max (s : Int) = ((inv32 s : Nat) : Int) := by
    rw [show IntKind.u32.max = ((4294967295 : Nat) : Int) from rfl, u32_xor_nat _ _ (by decide) hs, Nat.xor_comm]; rfl
  have HA0 := Lib.hid A0
  clear A0
  go_loop [0, 11] (fun x i => SmRel (inv32 s) l x i) (fun _ i => l.length - (intOf i).toNat)
  case atStart => exact ⟨0, Nat.zero_le _, rfl, by rw [HA0.out]; rfl⟩
  case round =>
    obtain ⟨k, hk, rfl, rfl⟩ := hrel
    have hlt32 := foldS_lt (l.take k) (inv32_lt hs)
    by_cases hlt : k < l.length
    · have hsn : foldS (inv32 s) (l.take (k + 1)) = byteS (foldS (inv32 s) (l.take k)) l[k] := by rw [List.take_succ_eq_append_getElem hlt, foldS_snoc]
      have c1 := HC.out k l[k] (List.getElem?_eq_getElem hlt)
      have HSN := Lib.hid hsn
      clear hsn
      have hx := l[k].toNat_lt
      generalize l[k] = x at *
      generalize foldS (inv32 s) (l.take k) = c at *
      have hx32 : x.toNat < 4294967296 := by omega
      obtain ⟨d, hd⟩ : ∃ d, d = c ^^^ x.toNat := ⟨_, rfl⟩
      have ld : d < 2 ^ 32 := by rw [hd]; exact Nat.xor_lt_two_pow hlt32 (by omega)
      obtain ⟨e, he⟩ : ∃ e, e = halfS d := ⟨_, rfl⟩
      have le : e < 2 ^ 32 := by rw [he]; exact halfS_lt ld
      obtain ⟨f, hf⟩ : ∃ f, f = halfS e := ⟨_, rfl⟩
      have F1 : bits .xor .u32 (c : Int) (x.toNat : Int) = (d : Int) := by rw [u32_xor_nat _ _ hlt32 hx32, hd]
      have H1 := half_walk d ld e he HT.out
      have H2 := half_walk e le f hf HT.out
      obtain ⟨q1, r1, t1, a1, a2, a3, a4, a5⟩ := H1
      obtain ⟨q2, r2, t2, b1, b2, b3, b4, b5⟩ := H2
      have HF := Lib.hid (show byteS c x = f by unfold byteS; rw [← hd, ← he, ← hf])
      clear hd he hf ld le hx32 hlt32
      go_wp2_with fail
      go_round
      case rel => exact ⟨k + 1, by omega, by go_num, by rw [HSN.out, HF.out]⟩
      case measure => simp [intOf]; omega
    · have ek : l.take k = l := List.take_of_length_le (by omega)
      have A1 : bits .xor .u32 IntKind.u32.max ((foldS (inv32 s) (l.take k) : Nat) : Int) = ((sumMoreN s l : Nat) : Int) := by
        rw [show IntKind.u32.max = ((4294967295 : Nat) : Int) from rfl, u32_xor_nat _ _ (by decide) hlt32, Nat.xor_comm, ek]; rfl
      have HA1 := Lib.hid A1
      clear A1 ek
      generalize foldS (inv32 s) (l.take k) = c at *
      go_wp2_with fail
      go_ret
      exact ⟨by rw [← HA1.out]; rfl, rfl⟩

theorem sumMore_none (s : Nat) (hs : s < 2 ^ 32) (a : Option Addr) (cp : Nat) (w : World) : Calls Tryd.prog 36 #[.int .u32 s, .slice a 0 cp] w (Same w (.int .u32 s)) := by
  have sg : IntKind.u32.signed = false := rfl
  have A0 : bits .xor .u32 IntKind.u32.max (s : Int) = ((inv32 s : Nat) : Int) := by
    rw [show IntKind.u32.max = ((4294967295 : Nat) : Int) from rfl, u32_xor_nat _ _ (by decide) hs, Nat.xor_comm]; rfl
  have A1 : bits .xor .u32 IntKind.u32.max ((inv32 s : Nat) : Int) = (s : Int) := by
    rw [show IntKind.u32.max = ((4294967295 : Nat) : Int) from rfl, u32_xor_nat _ _ (by decide) (inv32_lt hs), Nat.xor_comm]
    exact congrArg _ (inv32_inv s)
  generalize inv32 s = c at *
  go_enter Tryd.func36, Tryd.ntmps36
  go_wp2_with fail
  go_loop [0, 11] (fun x i => x = .int .u32 (c : Int) ∧ i = .int .i64 0) (fun _ i => 0)
  case atStart => exact ⟨rfl, rfl⟩
  case round =>
    obtain ⟨rfl, rfl⟩ := hrel
    go_wp2_with fail
    go_ret
    exact ⟨rfl, rfl⟩
theorem sumMore_ok (s : Nat) (hs : s < 2 ^ 32) (v : Value) (l : List UInt8) (w : World) (hl : l.length ≤ 140737488355328) (h : SlB w v l) (T : Tabs w) : Calls Tryd.prog 36 #[.int .u32 s, v] w (Same w (.int .u32 (sumMoreN s l))) := by
  obtain ⟨a, c, rfl, _, rfl | ⟨b, off, rfl, hb, hc⟩⟩ := h
  · have e : sumMoreN s [] = s := inv32_inv s
    rw [e]
    exact sumMore_none s hs a c w
  · exact sumMore_some s hs b off c l hl w hb hc T
theorem sum_ok (v : Value) (l : List UInt8) (w : World) (hl : l.length ≤ 140737488355328) (h : SlB w v l) (T : Tabs w) : Calls Tryd.prog 24 #[v] w (Same w (.int .u32 (sumN l))) := by
  have SC := Lib.hid (sumMore_ok 0 (by decide) v l w hl h T)
  unfold sumN
  generalize sumMoreN 0 l = r at *
  clear h
  go_enter Tryd.func24, Tryd.ntmps24
  go_wp2_with fail
  refine (SC.out).mono ?_
  rintro e w1 ⟨rfl, rfl⟩
  go_wp2_with fail
  go_ret
  exact ⟨rfl, rfl⟩
end Go.Proofs.YtlbekgcfafofdaaDoor
