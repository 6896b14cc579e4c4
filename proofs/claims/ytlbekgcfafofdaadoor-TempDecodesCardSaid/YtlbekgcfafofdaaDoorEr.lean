/- The program's entryOf: what it gives of any body. -/
import Derived.Test.YtlbekgcfafofdaaDoorEp
import Derived.Test.YtlbekgcfafofdaaDoorEq
namespace Go.Proofs.YtlbekgcfafofdaaDoor
open Go.RowKit
set_option maxRecDepth 100000

theorem entryOf_ok (w : World) (v0 : Value) (b : List UInt8) (h0 : SlC w v0 b) (hbl : b.length ≤ 140737488355328) (T : Tabs w) : Calls Tryd.prog 43 #[v0] w (EoP w b) := by
  generalize hk : valB (b.take 1) = k
  by_cases h1 : k = 1
  · subst h1; exact eo1_ok w v0 b h0 hbl hk T
  by_cases h2 : k = 2
  · subst h2; exact eo2_ok w v0 b h0 hbl hk T
  by_cases h3 : k = 3
  · subst h3; exact eo3_ok w v0 b h0 hbl hk T
  by_cases h4 : k = 4
  · subst h4; exact eo4_ok w v0 b h0 hbl hk T
  by_cases h5 : k = 5
  · subst h5; exact eo5_ok w v0 b h0 hbl hk T
  by_cases h6 : k = 6
  · subst h6; exact eo6_ok w v0 b h0 hbl hk T
  exact eo0_ok w v0 b h0 hbl k hk (by omega) T
end Go.Proofs.YtlbekgcfafofdaaDoor
