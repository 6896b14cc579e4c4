/- find, whatever the buffer; give: the walks. -/
import Derived.Test.YtolnojhepakaoaaRe

namespace Go.Proofs.Ytolnojhepakaoaa
open Go.RowKit

/-- A Reader's buffer: its row, what stands in it, how far it was looked through. -/
structure BufAt (w : World) (B : Nat) (d : Rd) (bs : List Int) : Prop where
  row : w.ownsRow B 5 1 d.buf bs.length (bs.map (Value.int .u8))
  byte : ∀ z ∈ bs, InByte z
  h1 : d.fr ≤ d.up
  h2 : d.up ≤ bs.length
  h4 : d.cl ≤ d.up - d.fr
  clean : ∀ j, j < d.cl → (d.rest bs).getD j 0 ≠ d.sep
  sep : InByte d.sep

theorem row_cells {w : World} {B n : Nat} {v : Value} {zs : List Int} (h : w.ownsRow B 5 1 v n (zs.map (Value.int .u8))) :
    (v = .slice none 0 0 ∧ zs = []) ∨ ∃ g cap, v = .slice (some ⟨g, 0, none⟩) n cap ∧ n ≤ cap ∧ cap ≤ 9223372036854775807 ∧ ∀ j, j < n → w.cell? ⟨g, j, none⟩ = some (.int .u8 (zs.getD j 0)) := by
  have hl : zs.length = n := by have := h.1; simpa using this
  rcases h.2 with ⟨rfl, h0⟩ | ⟨g, cap, cur, rfl, _, hgg, hc1, hc2, _⟩
  · exact .inl ⟨rfl, List.eq_nil_of_length_eq_zero (by omega)⟩
  · refine .inr ⟨g, cap, rfl, hc1, by unfold maxLen at hc2; omega, fun j hj => ?_⟩
    have hc := h.cells (g := g) rfl j (.int .u8 (zs.getD j 0)) (by simp [List.getD, hl, hj])
    have e : (⟨g, 0, none⟩ : Addr).add j = ⟨g, j, none⟩ := by unfold Addr.add; split <;> simp_all
    rw [e] at hc; exact hc

theorem find_any (r : Nat) (B : Nat) (d : Rd) (bs : List Int) (w : World) (hr : RdAt w r d) (hb : BufAt w B d bs) :
    Calls Try.prog 47 #[.pointer (some ⟨r, 0, none⟩)] w (Found w r d (d.rest bs)) := by
  rcases row_cells hb.row with ⟨h, rfl⟩ | ⟨g, cap, h, hc1, hc2, hcell⟩
  · have h1 := hb.h1
    have h2 := hb.h2
    have h4 := hb.h4
    simp at h2
    have e : d.rest [] = [] := by unfold Rd.rest; simp
    rw [e]
    exact find_nil r d w hr h (by omega) h2 (by omega)
  · have h1 := hb.h1
    have h2 := hb.h2
    have h4 := hb.h4
    by_cases hin : d.fr + d.cl < cap
    · exact find_in r g bs.length cap d bs w hr h rfl hcell hb.byte hb.sep hb.h1 hb.h2 hc1 hb.h4 hc2 hb.clean hin
    · exact find_end r g bs.length cap d bs w hr h rfl hb.sep hb.h1 hb.h2 hc1 hb.h4 hc2 hb.clean (by omega)

set_option maxRecDepth 100000 in
set_option maxHeartbeats 1600000 in
/-- give, of the first n bytes of the rest, and skip more. -/
theorem give_in (r g L cap : Nat) (d : Rd) (bs : List Int) (n skip : Nat) (w : World) (hr : RdAt w r d) (hbuf : d.buf = .slice (some ⟨g, 0, none⟩) L cap) (hbl : bs.length = L) (hbc : ∀ j, j < L → w.cell? ⟨g, j, none⟩ = some (.int .u8 (bs.getD j 0)))
    (h1 : d.fr < d.up) (h2 : d.up ≤ L) (h3 : L ≤ cap) (hcap : cap ≤ 9223372036854775807) (hn : d.fr + n ≤ d.up) (hs : d.fr + n + skip ≤ 4611686018427387904) (l0 : 0 ≤ d.ln) (l1 : d.ln < 4611686018427387904) :
    Calls Try.prog 48 #[.pointer (some ⟨r, 0, none⟩), .int .i64 (n : Int), .int .i64 (skip : Int)] w fun e w' => e = .returned (.string (strOfNums ((d.rest bs).take n))) ∧ RdAt w' r { d with fr := d.fr + n + skip, cl := 0, ln := d.ln + 1 } ∧ Keeps [r] w w' := by
  have g3 : w.cell? ⟨r, 3, none⟩ = some (.slice (some ⟨g, 0, none⟩) L cap) := by rw [hr.cell, ← hbuf]; rfl
  have g4 : w.cell? ⟨r, 4, none⟩ = some (.int .i64 d.fr) := by rw [hr.cell]; rfl
  have hne : ¬ cap = d.fr := by omega
  have hconv : ∀ q, (convert 22 9 (.slice (some ⟨g, d.fr, none⟩) n (cap - d.fr))).run Try.prog (w.drewN q) = .ok (.string (strOfNums ((d.rest bs).take n))) (w.drewN q) := fun q => by
    refine run_convert_bytes_arg (w.drewN q) 22 5 Try.underlying22 Try.underlying5 g d.fr n (cap - d.fr) ((d.rest bs).take n) (by unfold Rd.rest; simp; omega) (fun i hi => ?_) 9 Try.underlying9
    have h5 : (w.drewN q).cell? ⟨g, d.fr + i, none⟩ = w.cell? ⟨g, d.fr + i, none⟩ := rfl
    have h6 : i < d.up - d.fr := by omega
    rw [h5, hbc _ (by omega)]
    unfold Rd.rest
    simp [List.getD, hi, h6]
  have Hr := Lib.hid hr
  generalize strOfNums ((d.rest bs).take n) = S at *
  clear hr hbuf hbl hbc
  go_enter Try.func48, Try.ntmps48
  go_wp2_with fail
  go_quiet (fail)
  generalize hw1 : w.drewN _ = w1 at *
  have hr1 := Hr.out.ofDrewN hw1
  have k1 := (Keeps.refl [r] w).ofDrewN hw1
  have g4 : w1.cell? ⟨r, 4, none⟩ = some (.int .i64 d.fr) := by rw [hr1.cell]; rfl
  have g6 : w1.cell? ⟨r, 6, none⟩ = some (.int .i64 d.cl) := by rw [hr1.cell]; rfl
  have g9 : w1.cell? ⟨r, 9, none⟩ = some (.int .i64 d.ln) := by rw [hr1.cell]; rfl
  have f4 := hr1.free 4
  have f6 := hr1.free 6
  have f9 := hr1.free 9
  have Hr1 := Lib.hid hr1
  have K1 := Lib.hid k1
  clear hw1 hr1 k1 g3 hconv Hr hne
  go_wp2_with fail
  go_ret
  refine ⟨rfl, ?_, ((K1.out.setCell (by simp) _).setCell (by simp) _).setCell (by simp) _⟩
  have hr2 : RdAt (w1.setCell ⟨r, 4, none⟩ (.int .i64 ((d.fr : Int) + ((n : Int) + skip)))) r { d with fr := d.fr + n + skip } := by
    refine Hr1.out.set 4 _ ?_
    simp [Rd.arr]
    omega
  exact (hr2.set (d' := { d with fr := d.fr + n + skip, cl := 0 }) 6 (.int .i64 0) rfl).set 9 _ rfl
end Go.Proofs.Ytolnojhepakaoaa
