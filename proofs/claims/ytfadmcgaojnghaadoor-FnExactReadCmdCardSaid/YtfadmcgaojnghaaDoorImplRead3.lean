/- Contract of the program's ReadCmd at texts of the right length. -/
import Derived.Test.YtfadmcgaojnghaaDoorImplRead2
namespace Go.Proofs.YtfadmcgaojnghaaDoor
open Go.RowKit
set_option linter.unusedVariables false

set_option maxHeartbeats 1000000 in
theorem faultOfCmd_none (w : World) :
    Calls Tryd.prog 37 #[.agg #[.int .i64 0, .int .i64 0, .int .i64 0, .int .i64 0, .int .i64 0]] w (IntExt 0 w) := by
  go_enter Tryd.func37, Tryd.ntmps37
  go_wp2
  go_ret
  exact ⟨rfl, Ext.alloc (Ext.refl _) _⟩
theorem strs_tail {w1 w2 : World} {bv ov cv : Nat} {u0 : ByteArray} {rest : List ByteArray} (hx : Ext w1 w2) (hc : rest.length + 1 ≤ cv) (hm : cv ≤ 9223372036854775807) (h : ∀ j (h : j < (u0 :: rest).length), w1.cell? ⟨bv, ov + j, none⟩ = some (.string (u0 :: rest)[j])) :
    Strs w2 (.slice (some ⟨bv, ov + 1, none⟩) rest.length (cv - 1)) rest := by
  refine ⟨some ⟨bv, ov + 1, none⟩, cv - 1, rfl, by unfold maxLen; omega, ⟨by omega, by unfold maxLen; omega, fun h => by cases h⟩, fun _ => ⟨bv, ov + 1, rfl, fun j hj => ?_⟩⟩
  have := hx.cell (h (j + 1) (by simp; omega))
  rw [show ov + 1 + j = ov + (j + 1) by omega, this]; rfl

end Go.Proofs.YtfadmcgaojnghaaDoor
