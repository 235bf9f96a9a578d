/- Contract of toCmd: the command comes back field by field. -/
import Derived.Test.YtcpmfcigciknlaaCmdAt
namespace Go.Proofs.Ytcpmfcigciknlaa
open Go.RowKit

set_option maxHeartbeats 1000000 in
theorem toCmd_any (k i f t a : Int) (w : World) :
    Calls Try.prog 27 #[.agg #[.int .i64 k, .int .i64 i, .int .i64 f, .int .i64 t, .int .i64 a]] w (CmdExt k i f t a w) := by
  go_enter Try.func27, Try.ntmps27
  go_wp2
  exact bodyPost_ret (v := .agg #[.int .i64 k, .int .i64 i, .int .i64 f, .int .i64 t, .int .i64 a]) (by simp [results, Try.results27, go_sem]) rfl ⟨rfl, by repeat (first | exact Ext.refl _ | apply Ext.drew | apply Ext.alloc)⟩

end Go.Proofs.Ytcpmfcigciknlaa
