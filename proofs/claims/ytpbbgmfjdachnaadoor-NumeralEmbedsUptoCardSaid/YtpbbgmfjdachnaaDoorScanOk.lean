/- numeral scan, whole. -/
import Derived.Test.YtpbbgmfjdachnaaDoorScan0
namespace Go.Proofs.YtpbbgmfjdachnaaDoor
open Go.RowKit

set_option maxRecDepth 100000 in
set_option maxHeartbeats 1600000 in
theorem scan_ok (s : ByteArray) (g : Bool) (w : World) (hs : s.size ≤ 1125899906842624) (T : Tabs w) :
    Calls Tryd.prog 32 #[.string s, .bool g] w (RetBelow w (headV (scanS s.data.toList g))) := by
  go_enter Tryd.func32, Tryd.ntmps32
  go_wp2_with fail
  refine wp_scope_labels (ScJ s g w) (ScM s) ?_ ?_
  · go_wp2_with fail
    go_step3
    rename_i hKK
    refine hKK _ _ ?_
    refine Code.wp_mono (jumps_mono fun l' a' w' h => h.1) (scan0 s g w hs T _ ?_ _ _ ?_)
    · unfold scBody
      unfold Tryd.f32
      simp only [findLabel]
      rfl
    · refine ⟨0, 0, rfl, rfl, rfl, rfl, rfl, rfl, rfl, rfl, Or.inl ⟨rfl, ?_, rfl, 0, Nat.zero_le _, rfl⟩⟩
      refine ⟨(((Below.refl _ _).alloc (Nat.le_refl _) _).alloc (by simp) _), by simp, ?_, ?_, ?_, ?_, ?_, ?_, ?_, ?_, ?_, ?_, ?_, ?_, ?_, ?_⟩
      all_goals first | (intro o; simp) | simp
  · intro l a w' hJ
    have pass : ∀ X, findLabel scBody l = some (Code.seq .skip X) → (Code.seq .skip X).wp Tryd.prog (jumps (fun l' a' w'' => ScJ s g w l' a' w'' ∧ ScM s l' a' w'' < ScM s l a w') (ScQ s g w)) a w' := fun X hX => by
      refine wp_seq (wp_skip ?_)
      show X.wp Tryd.prog _ a w'
      have hJ2 := hJ
      obtain ⟨_, _, _, _, _, _, _, _, _, _, (⟨rfl, _⟩ | ⟨rfl, _⟩ | ⟨rfl, _⟩ | ⟨rfl, _⟩)⟩ := hJ2
      · exact scan0 s g w hs T X hX a w' hJ
      · exact scan1 s g w hs X hX a w' hJ
      · exact scan3 s g w hs X hX a w' hJ
      · exact scan2 s g w hs X hX a w' hJ
    have ex : ∃ X, findLabel scBody l = some (Code.seq .skip X) := by
      obtain ⟨_, _, _, _, _, _, _, _, _, _, (⟨rfl, _⟩ | ⟨rfl, _⟩ | ⟨rfl, _⟩ | ⟨rfl, _⟩)⟩ := hJ
      all_goals
        unfold scBody
        unfold Tryd.f32
        simp only [findLabel]
        exact ⟨_, rfl⟩
    obtain ⟨X, hX⟩ := ex
    exact ⟨_, hX, pass X hX⟩
end Go.Proofs.YtpbbgmfjdachnaaDoor
