/- find, where nothing is left to look through: the walks; find, whatever the buffer. -/
import Derived.Test.YtolnojhepakaoaaRd
namespace Go.Proofs.Ytolnojhepakaoaa
open Go.RowKit

set_option maxRecDepth 100000 in
set_option maxHeartbeats 1600000 in
theorem find_nil (r : Nat) (d : Rd) (w : World) (hr : RdAt w r d) (hbuf : d.buf = .slice none 0 0) (h1 : d.fr = 0) (h2 : d.up = 0) (h4 : d.cl = 0) :
    Calls Try.prog 47 #[.pointer (some ⟨r, 0, none⟩)] w (Found w r d []) := by
  have g2 : w.cell? ⟨r, 2, none⟩ = some (.int .u8 d.sep) := by rw [hr.cell]; rfl
  have g3 : w.cell? ⟨r, 3, none⟩ = some (.slice none 0 0) := by rw [hr.cell, ← hbuf]; rfl
  have g4 : w.cell? ⟨r, 4, none⟩ = some (.int .i64 0) := by rw [hr.cell]; show some (Value.int .i64 (d.fr : Int)) = _; rw [h1]; rfl
  have g5 : w.cell? ⟨r, 5, none⟩ = some (.int .i64 0) := by rw [hr.cell]; show some (Value.int .i64 (d.up : Int)) = _; rw [h2]; rfl
  have g6 : w.cell? ⟨r, 6, none⟩ = some (.int .i64 0) := by rw [hr.cell]; show some (Value.int .i64 (d.cl : Int)) = _; rw [h4]; rfl
  have Hr := Lib.hid hr
  have H4 := Lib.hid h4
  clear hr hbuf h1 h2 h4
  go_enter Try.func47, Try.ntmps47
  go_wp2_with fail
  go_quiet (fail)
  generalize hw1 : w.drewN _ = w1 at *
  have hr1 := Hr.out.ofDrewN hw1
  have k1 := (Keeps.refl [r] w).ofDrewN hw1
  have q2 : w1.cell? ⟨r, 2, none⟩ = some (.int .u8 d.sep) := by rw [← hw1]; exact g2
  have q6 : w1.cell? ⟨r, 6, none⟩ = some (.int .i64 0) := by rw [← hw1]; exact g6
  have Hr1 := Lib.hid hr1
  have K1 := Lib.hid k1
  clear hw1 hr1 k1 g2 g3 g4 g5 g6 Hr
  go_wp2_with fail
  go_quiet ((go_at_call 39; exact Calls.quiet_of_same (Try.bytes_IndexByte_nil d.sep _)))
  generalize hw2 : w1.drewN _ = w2 at *
  have hr2 := Hr1.out.ofDrewN hw2
  have k2 := K1.out.ofDrewN hw2
  have f6 := hr2.free 6
  have g6 : w2.cell? ⟨r, 6, none⟩ = some (.int .i64 0) := by rw [← hw2]; exact q6
  have Hr2 := Lib.hid hr2
  have K2 := Lib.hid k2
  clear hw2 hr2 k2 q2 q6 Hr1 K1
  go_wp2_with fail
  go_ret2
  refine ⟨K2.out.setCell (by simp) _, .inr ⟨by simp [idx], rfl, ?_⟩⟩
  exact Hr2.out.set 6 _ rfl

set_option maxRecDepth 100000 in
set_option maxHeartbeats 1600000 in
/-- find, where all of the rest was looked through and the buffer is full. -/
theorem find_end (r g L cap : Nat) (d : Rd) (bs : List Int) (w : World) (hr : RdAt w r d) (hbuf : d.buf = .slice (some ⟨g, 0, none⟩) L cap) (hbl : bs.length = L) (hs : InByte d.sep)
    (h1 : d.fr ≤ d.up) (h2 : d.up ≤ L) (h3 : L ≤ cap) (h4 : d.cl ≤ d.up - d.fr) (hcap : cap ≤ 9223372036854775807) (hcl : ∀ j, j < d.cl → (d.rest bs).getD j 0 ≠ d.sep) (hin : d.fr + d.cl = cap) :
    Calls Try.prog 47 #[.pointer (some ⟨r, 0, none⟩)] w (Found w r d (d.rest bs)) := by
  have hRl : (d.rest bs).length = d.up - d.fr := by unfold Rd.rest; simp; omega
  have hsk := idx_skip d.sep d.cl (d.rest bs) (by omega) hcl
  have hno : ¬ idx d.sep (d.rest bs) < (d.rest bs).length := by rw [hsk, hRl]; omega
  have g2 : w.cell? ⟨r, 2, none⟩ = some (.int .u8 d.sep) := by rw [hr.cell]; rfl
  have g3 : w.cell? ⟨r, 3, none⟩ = some (.slice (some ⟨g, 0, none⟩) L cap) := by rw [hr.cell, ← hbuf]; rfl
  have Hr := Lib.hid hr
  have Hs := Lib.hid hs
  have HRl := Lib.hid hRl
  have Hno := Lib.hid hno
  clear hbuf hbl hs hcl hRl hsk hno
  by_cases hfc : d.fr = cap
  · have g4 : w.cell? ⟨r, 4, none⟩ = some (.int .i64 cap) := by rw [hr.cell, ← hfc]; rfl
    have g5 : w.cell? ⟨r, 5, none⟩ = some (.int .i64 cap) := by rw [hr.cell, show cap = d.up by omega]; rfl
    have g6 : w.cell? ⟨r, 6, none⟩ = some (.int .i64 0) := by rw [hr.cell]; show some (Value.int .i64 (d.cl : Int)) = _; rw [show d.cl = 0 by omega]; rfl
    have hLe : L = cap := by omega
    have HE := Lib.hid (show d.up - d.fr = 0 by omega)
    clear hr hfc h1 h2 h3 h4 hin
    subst hLe
    go_enter Try.func47, Try.ntmps47
    go_wp2_with fail
    go_quiet (fail)
    generalize hw1 : w.drewN _ = w1 at *
    have hr1 := Hr.out.ofDrewN hw1
    have k1 := (Keeps.refl [r] w).ofDrewN hw1
    have q2 : w1.cell? ⟨r, 2, none⟩ = some (.int .u8 d.sep) := by rw [← hw1]; exact g2
    have q6 : w1.cell? ⟨r, 6, none⟩ = some (.int .i64 0) := by rw [← hw1]; exact g6
    have Hr1 := Lib.hid hr1
    have K1 := Lib.hid k1
    clear hw1 hr1 k1 g2 g3 g4 g5 g6 Hr
    go_wp2_with fail
    go_quiet ((go_at_call 39; exact Calls.quiet_of_same (look_no _ _ _ [] d.sep _ Hs.out (by simp) (fun z hz => by cases hz) (by intro i hi; simp at hi) (by simp [idx]))))
    generalize hw2 : w1.drewN _ = w2 at *
    have hr2 := Hr1.out.ofDrewN hw2
    have k2 := K1.out.ofDrewN hw2
    have f6 := hr2.free 6
    have g6 : w2.cell? ⟨r, 6, none⟩ = some (.int .i64 0) := by rw [← hw2]; exact q6
    have Hr2 := Lib.hid hr2
    have K2 := Lib.hid k2
    clear hw2 hr2 k2 q2 q6 Hr1 K1
    go_wp2_with fail
    go_ret2
    refine ⟨K2.out.setCell (by simp) _, .inr ⟨Hno.out, rfl, ?_⟩⟩
    rw [HRl.out]
    refine Hr2.out.set 6 _ ?_
    simp [Rd.arr]
    rw [HE.out]; rfl
  · have g4 : w.cell? ⟨r, 4, none⟩ = some (.int .i64 d.fr) := by rw [hr.cell]; rfl
    have g5 : w.cell? ⟨r, 5, none⟩ = some (.int .i64 cap) := by rw [hr.cell, show cap = d.up by omega]; rfl
    have g6 : w.cell? ⟨r, 6, none⟩ = some (.int .i64 ((cap - d.fr : Nat) : Int)) := by rw [hr.cell, show cap - d.fr = d.cl by omega]; rfl
    have hLe : L = cap := by omega
    have HE := Lib.hid (show d.up - d.fr = cap - d.fr by omega)
    have hfl : d.fr < cap := by omega
    clear hr hfc h1 h2 h3 h4 hin
    subst hLe
    go_enter Try.func47, Try.ntmps47
    go_wp2_with fail
    go_quiet (fail)
    generalize hw1 : w.drewN _ = w1 at *
    have hr1 := Hr.out.ofDrewN hw1
    have k1 := (Keeps.refl [r] w).ofDrewN hw1
    have q2 : w1.cell? ⟨r, 2, none⟩ = some (.int .u8 d.sep) := by rw [← hw1]; exact g2
    have q6 : w1.cell? ⟨r, 6, none⟩ = some (.int .i64 ((L - d.fr : Nat) : Int)) := by rw [← hw1]; exact g6
    have Hr1 := Lib.hid hr1
    have K1 := Lib.hid k1
    clear hw1 hr1 k1 g2 g3 g4 g5 g6 Hr
    go_wp2_with fail
    go_quiet ((go_at_call 39; exact Calls.quiet_of_same (look_no _ _ _ [] d.sep _ Hs.out (by simp) (fun z hz => by cases hz) (by intro i hi; simp at hi) (by simp [idx]))))
    generalize hw2 : w1.drewN _ = w2 at *
    have hr2 := Hr1.out.ofDrewN hw2
    have k2 := K1.out.ofDrewN hw2
    have f6 := hr2.free 6
    have g6 : w2.cell? ⟨r, 6, none⟩ = some (.int .i64 ((L - d.fr : Nat) : Int)) := by rw [← hw2]; exact q6
    have Hr2 := Lib.hid hr2
    have K2 := Lib.hid k2
    clear hw2 hr2 k2 q2 q6 Hr1 K1
    go_wp2_with fail
    go_ret2
    refine ⟨K2.out.setCell (by simp) _, .inr ⟨Hno.out, rfl, ?_⟩⟩
    rw [HRl.out]
    refine Hr2.out.set 6 _ ?_
    simp [Rd.arr]
    rw [HE.out]
end Go.Proofs.Ytolnojhepakaoaa
