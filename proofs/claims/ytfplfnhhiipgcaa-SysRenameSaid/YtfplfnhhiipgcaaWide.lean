/- wide: the walk. -/
import Derived.Test.YtfplfnhhiipgcaaNew
import Derived.Test.YtfplfnhhiipgcaaLaw
namespace Go.Proofs.Ytfplfnhhiipgcaa
open Go.RowKit Go.Maps Go.MuLone

set_option maxRecDepth 100000 in
set_option maxHeartbeats 800000 in
/-- A system with room for whatever these statements do. -/
theorem wide_ok (pp : Int) (sh : Value) (w : World) (hs : ShortOk w sh) (p0 : 0 ≤ pp) :
    Calls Try.prog 11 #[.agg #[.int .i64 0, .int .i64 0, .int .i64 0, sh, .slice none 0 0, .int .i64 0, .int .i64 pp]] w fun e w' => ∃ b mp sh' d, e = .returned (.pointer (some ⟨b, 0, none⟩)) ∧
      FsAt w' b 0 (newFS 67108864 1024 256 pp sh' d mp) ∧ w'.ownsMap Try.prog 9 heldR mp 0 (.map []) ∧ ShortAt w' sh' b ∧ mp ≠ b ∧ w.heap.size ≤ b ∧ w.heap.size ≤ mp ∧ Keeps [] w w' := by
  obtain ⟨so, sn, sc, rfl, hn⟩ := hs.slice
  have Hs := Lib.hid hs
  clear hs
  go_enter Try.func11, Try.ntmps11
  go_wp2_with fail
  refine (new_ok 67108864 1024 256 pp _ _ (Hs.out.keeps ((Keeps.refl [] w).alloc _)) p0 (by omega) (by omega) (by omega) (by omega) (by omega) (by omega)).mono ?_
  rintro e w1 ⟨b, mp, sh', d, rfl, hb, hm, hsh, hne, hb1, hm1, kp⟩
  have kw := ((Keeps.refl [] w).alloc _).trans kp
  have hb1 : w.heap.size ≤ b := by simp at hb1; omega
  have hm1 : w.heap.size ≤ mp := by simp at hm1; omega
  have Hb := Lib.hid hb
  have Hm := Lib.hid hm
  have Hsh := Lib.hid hsh
  have Kw := Lib.hid kw
  clear hb hm hsh kw kp
  go_wp2_with fail
  refine (num_ok 0 w1).mono ?_
  rintro e w' ⟨rfl, rfl⟩
  go_wp2_with fail
  go_ret
  exact ⟨b, mp, sh', d, rfl, Hb.out, Hm.out, Hsh.out, hne, hb1, hm1, Kw.out⟩
end Go.Proofs.Ytfplfnhhiipgcaa
