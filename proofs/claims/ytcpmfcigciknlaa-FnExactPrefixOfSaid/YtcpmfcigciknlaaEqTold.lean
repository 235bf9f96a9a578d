/- The law's comparison of two that are told the same. -/
import Derived.Test.YtcpmfcigciknlaaWords
namespace Go.Proofs.Ytcpmfcigciknlaa
open Go.RowKit
set_option linter.unusedVariables false

set_option maxHeartbeats 1000000 in
theorem eqTold_same (c s : Int) (w : World) :
    Calls Try.prog 33 #[.agg #[.int .i64 c, .int .i64 s], .agg #[.int .i64 c, .int .i64 s]] w (BoolExt true w) := by
  have e0 : (c != c) = false := by simp
  have e1 : (s != s) = false := by simp
  go_enter Try.func33, Try.ntmps33
  go_wp2
  go_ret
  exact ⟨rfl, Ext.alloc (Ext.alloc (Ext.refl _) _) _⟩

end Go.Proofs.Ytcpmfcigciknlaa
