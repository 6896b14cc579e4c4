/- Reboot: the body's own, the walk. -/
import Derived.Test.YtfplfnhhiipgcaaOpT
namespace Go.Proofs.Ytfplfnhhiipgcaa
open Go.RowKit Go.Maps Go.MuLone

set_option maxRecDepth 100000 in
set_option maxHeartbeats 1600000 in
/-- A body's reboot. -/
theorem bodyReboot_ok (g : Nat) (ao : Option Addr) (n cp : Nat) (sy op keep : Int) (wr : Bool) (w : World) (hg : BodyAt w g (.slice ao n cp) sy op wr) (k0 : 0 ≤ keep) (k1 : keep ≤ 9223372036854775807) (s0 : 0 ≤ sy) (s1 : sy ≤ n) (hn : n ≤ cp) (hc : cp ≤ 9223372036854775807) :
    Calls Try.prog 52 #[.pointer (some ⟨g, 0, none⟩), .int .i64 keep] w fun e w' => e = .returned (.tuple #[]) ∧
      BodyAt w' g (.slice ao (sy + min keep (n - sy)).toNat cp) (sy + min keep (n - sy)) 0 false ∧ Keeps [g] w w' := by
  obtain ⟨c0, c1, c2, c3, cf0, cf1, cf2, cf3⟩ := body_facts hg
  have Hg := Lib.hid hg
  clear hg
  go_enter Try.func52, Try.ntmps52
  go_wp2_with fail
  have c0' : w.drew.cell? ⟨g, 0, none⟩ = some (.slice ao n cp) := c0
  have c1' : w.drew.cell? ⟨g, 1, none⟩ = some (.int .i64 sy) := c1
  have cf0' : w.drew.frozen? ⟨g, 0, none⟩ = false := cf0
  have h1 : 0 ≤ sy + min keep ((n : Int) - sy) := by omega
  have h2 : sy + min keep ((n : Int) - sy) ≤ cp := by omega
  go_still_tail 23, (by kernel_rfl)
  have w1 : IntKind.i64.wrap ((n : Int) - sy) = (n : Int) - sy := by rw [IntKind.wrap_i64]; omega
  have w2 : IntKind.i64.wrap (sy + min keep ((n : Int) - sy)) = sy + min keep ((n : Int) - sy) := by rw [IntKind.wrap_i64]; omega
  rw [w1, w2]
  refine wpStill_step (fun K hK => ?_)
  go_simp
  refine hK _ ?_
  clear hK K c0 c1 cf0 w1 w2
  refine wpStill_nil ?_
  change wpList _ _ _ _ _ w.drew
  have Hc := Lib.hid (show 0 ≤ sy + min keep ((n : Int) - sy) ∧ sy + min keep ((n : Int) - sy) ≤ n from ⟨h1, by omega⟩)
  generalize hh : sy + min keep ((n : Int) - sy) = hi at *
  have hgd : BodyAt w.drew g (.slice ao n cp) sy op wr := Hg.out
  clear c0' c1' cf0' c2 c3 cf1 cf2 cf3
  obtain ⟨c0, c1, c2, c3, cf0, cf1, cf2, cf3⟩ := body_facts hgd
  have Hgd := Lib.hid hgd
  clear hgd
  have kp0 : Keeps [g] w w.drew := (Keeps.refl [g] w).drew
  generalize w.drew = w1 at *
  have Kp0 := Lib.hid kp0
  have Hh := Lib.hid hh
  clear kp0 hh h1 h2
  go_wp2_with fail
  go_end0
  have hh := Hh.out
  have hc := Hc.out
  subst hh
  have e : max (sy + min keep ((n : Int) - sy)) 0 = sy + min keep ((n : Int) - sy) := by omega
  rw [e]
  refine ⟨rfl, ?_, ?_⟩
  · exact heap_set (i := 3) (heap_set (i := 2) (heap_set (i := 1) (heap_set (i := 0) Hgd.out _) _) _) _
  · exact (((Kp0.out.setCell (by simp) _).setCell (by simp) _).setCell (by simp) _).setCell (by simp) _
end Go.Proofs.Ytfplfnhhiipgcaa
