/- What the statements call of their own: num: the walk. -/
import Derived.Test.YtolnojhepakaoaaFile
import Derived.Laws.BytesString
namespace Go.Proofs.Ytolnojhepakaoaa
open Go.RowKit Go.Maps Go.MuLone

set_option maxHeartbeats 400000 in
theorem num_ok (n : Int) (w : World) : Calls Try.prog 19 #[.int .i64 n] w fun e w' => e = .returned (.int .i64 n) ∧ w = w' := by
  go_enter Try.func19, Try.ntmps19
  go_wp2_with fail
  go_ret
  exact ⟨rfl, rfl⟩
end Go.Proofs.Ytolnojhepakaoaa
