/- ParseKey, the program's: further steps, and the two ways to lay letters on. -/
import Derived.Test.YtbgbmojoldkcfaaDoorPkB
namespace Go.Proofs.YtbgbmojoldkcfaaDoor
open Go.RowKit
theorem PkIn.setTwo {w : World} {t : ByteArray} {k : Nat} {hv hv' : List Value} {wr : World} (h : PkIn w t k hv wr) (h2 : 2 < w.heap.size) (j : Nat) (x : Value) (hj : j < hv.length) (e : hv.set j x = hv') : PkIn w t k hv' (wr.setCell ⟨w.heap.size + 1 + 1, j, none⟩ x) := by
  have B := h.below.setCell (p := ⟨w.heap.size + 1 + 1, j, none⟩) (by show w.heap.size ≤ w.heap.size + 1 + 1; omega) x
  refine ⟨h.res.oneOther (by omega) j x, h.sc.oneOther (by omega) j x, e ▸ h.two.set j x hj, B, ?_⟩
  obtain ⟨tt, fr, hb⟩ := h.bits
  exact ⟨tt, fr, (Below.heap_setCell wr ⟨w.heap.size + 1 + 1, j, none⟩ x 2 (fun e => by have : (2 : Nat) = w.heap.size + 1 + 1 := e; omega)).trans hb⟩
theorem PkIn.setSc {w : World} {t : ByteArray} {k k' : Nat} {hv : List Value} {wr : World} (h : PkIn w t k hv wr) (h2 : 2 < w.heap.size) (x : Value) (e : x = .int .i64 (k' : Int)) : PkIn w t k' hv (wr.setCell ⟨w.heap.size + 1, 1, none⟩ x) := by
  have B := h.below.setCell (p := ⟨w.heap.size + 1, 1, none⟩) (by show w.heap.size ≤ w.heap.size + 1; omega) x
  refine ⟨h.res.oneOther (by omega) 1 x, by have := h.sc.set 1 x (by simp [scV]); rw [e] at this; rw [e]; exact this, h.two.oneOther (by omega) 1 x, B, ?_⟩
  obtain ⟨tt, fr, hb⟩ := h.bits
  exact ⟨tt, fr, (Below.heap_setCell wr ⟨w.heap.size + 1, 1, none⟩ x 2 (fun e => by have : (2 : Nat) = w.heap.size + 1 := e; omega)).trans hb⟩
theorem PkIn.lay0 {w : World} {t : ByteArray} {k f0 c0 m0 f1 c1 m1 : Nat} {wr : World} (h : PkIn w t k (hv2 f0 c0 m0 f1 c1 m1) wr) (h2 : 2 < w.heap.size) (f c m : Nat) :
    PkIn w t k (hv2 f c m f1 c1 m1) (((wr.setCell ⟨w.heap.size + 1 + 1, 0, none⟩ (.int .i64 (f : Int))).setCell ⟨w.heap.size + 1 + 1, 1, none⟩ (.int .i64 (c : Int))).setCell ⟨w.heap.size + 1 + 1, 2, none⟩ (.int .u16 (m : Int))) :=
  ((h.setTwo h2 0 _ (by simp [hv2]) rfl).setTwo h2 1 _ (by simp [hv2]) rfl).setTwo h2 2 _ (by simp [hv2]) rfl
theorem PkIn.lay3 {w : World} {t : ByteArray} {k f0 c0 m0 f1 c1 m1 : Nat} {wr : World} (h : PkIn w t k (hv2 f0 c0 m0 f1 c1 m1) wr) (h2 : 2 < w.heap.size) (f c m : Nat) :
    PkIn w t k (hv2 f0 c0 m0 f c m) (((wr.setCell ⟨w.heap.size + 1 + 1, 3, none⟩ (.int .i64 (f : Int))).setCell ⟨w.heap.size + 1 + 1, 4, none⟩ (.int .i64 (c : Int))).setCell ⟨w.heap.size + 1 + 1, 5, none⟩ (.int .u16 (m : Int))) :=
  ((h.setTwo h2 3 _ (by simp [hv2]) rfl).setTwo h2 4 _ (by simp [hv2]) rfl).setTwo h2 5 _ (by simp [hv2]) rfl
theorem b_odd : ∀ m : Fin 1024, (m.val ||| 1) - (m.val ||| 1) % 2 = m.val - m.val % 2 ∧ (m.val ||| 1) % 2 = 1 := by decide +kernel
theorem b_even : ∀ m : Fin 1024, ∀ b ∈ [0, 2, 4, 8, 16, 32, 64, 128, 256, 512], (m.val ||| b) - (m.val ||| b) % 2 = (m.val - m.val % 2) ||| b ∧ (m.val ||| b) % 2 = m.val % 2 := by decide +kernel
theorem bitS_even (c : UInt8) (h : c ≠ 98) : bitS c ∈ [0, 2, 4, 8, 16, 32, 64, 128, 256, 512] := by
  unfold bitS
  rw [if_neg h]
  repeat' split
  all_goals decide
theorem orS_split : ∀ (l : List UInt8) (m : Nat), m < 1024 → orS m l - orS m l % 2 = orB (m - m % 2) l ∧ (orS m l % 2 = 1 ↔ m % 2 = 1 ∨ hasB l = true)
  | [], m, hm => ⟨rfl, by simp [orS, hasB]⟩
  | c :: r, m, hm => by
    have hb := bitS_lt c
    have hm2 : m ||| bitS c < 1024 := Nat.or_lt_two_pow (n := 10) hm hb
    have I := orS_split r (m ||| bitS c) hm2
    rw [orS]
    by_cases hc : c = 98
    · have e1 : bitS c = 1 := by rw [hc]; rfl
      have E := b_odd ⟨m, hm⟩
      simp only at E
      rw [e1] at I ⊢
      rw [E.1, E.2] at I
      refine ⟨by rw [I.1, orB, if_pos hc], ?_⟩
      rw [I.2]
      have : hasB (c :: r) = true := by unfold hasB; rw [List.any_cons, hc]; rfl
      simp [this]
    · have E := b_even ⟨m, hm⟩ _ (bitS_even c hc)
      simp only at E
      rw [E.1, E.2] at I
      refine ⟨by rw [I.1, orB, if_neg hc], ?_⟩
      rw [I.2]
      have : hasB (c :: r) = hasB r := by unfold hasB; rw [List.any_cons, show (c == 98) = false by rw [beq_eq_false_iff_ne]; exact hc]; rfl
      rw [this]
theorem orB_or : ∀ (l : List UInt8) (m : Nat), orB m l = m ||| orB 0 l
  | [], m => by simp [orB]
  | c :: r, m => by
    rw [orB, orB]
    split
    · exact orB_or r m
    · rw [orB_or r (m ||| bitS c), orB_or r (0 ||| bitS c), Nat.zero_or, Nat.or_assoc]
theorem key_mods (m : Nat) (l : List UInt8) : m ||| (orS 0 l - orS 0 l % 2) = orB m l := by
  rw [(orS_split l 0 (by omega)).1, orB_or l m]
theorem key_b (l : List UInt8) : ((orS 0 l : Int) % 2 != 0) = hasB l := by
  have h := (orS_split l 0 (by omega)).2
  have h3 : orS 0 l % 2 = 0 ∨ orS 0 l % 2 = 1 := by omega
  cases hb : hasB l with
  | true => rw [hb] at h; have := h.2 (Or.inr rfl); rw [bne_iff_ne]; omega
  | false =>
    rw [hb] at h
    have : ¬ orS 0 l % 2 = 1 := fun e => by have := h.1 e; simp at this
    have : (orS 0 l : Int) % 2 = 0 := by omega
    rw [this]; rfl
end Go.Proofs.YtbgbmojoldkcfaaDoor
