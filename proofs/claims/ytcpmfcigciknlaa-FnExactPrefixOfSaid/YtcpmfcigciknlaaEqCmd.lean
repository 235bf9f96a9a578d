/- Contract of the laws' comparison of two commands that are the same. -/
import Derived.Test.YtcpmfcigciknlaaCmdAt
namespace Go.Proofs.Ytcpmfcigciknlaa
open Go.RowKit
set_option linter.unusedVariables false

set_option maxHeartbeats 1000000 in
theorem eqCmd_same (k i f t a : Int) (w : World) :
    Calls Try.prog 32 #[.agg #[.int .i64 k, .int .i64 i, .int .i64 f, .int .i64 t, .int .i64 a], .agg #[.int .i64 k, .int .i64 i, .int .i64 f, .int .i64 t, .int .i64 a]] w (BoolExt true w) := by
  have e0 : (k != k) = false := by simp
  have e1 : (i != i) = false := by simp
  have e2 : (f != f) = false := by simp
  have e3 : (t != t) = false := by simp
  have e4 : (a != a) = false := by simp
  go_enter Try.func32, Try.ntmps32
  go_wp2
  go_ret
  exact ⟨rfl, ((Ext.refl w).alloc _).alloc _⟩

end Go.Proofs.Ytcpmfcigciknlaa
