/- The law's size of slices of Entry. -/
import Derived.Test.YtcpmfcigciknlaaLEnW
namespace Go.Proofs.Ytcpmfcigciknlaa
open Go.RowKit
set_option linter.unusedVariables false

theorem weighEn_zero (R : List EnD) : (weighEn R).sum = 0 := by
  induction R with
  | nil => rfl
  | cons a t ih =>
    show 0 + (weighEn t).sum = 0
    rw [ih]
set_option maxHeartbeats 2000000 in
set_option maxRecDepth 100000 in
theorem szEnS_any (v : Value) (R : List EnD) (left : Int) (w : World) (hv : Enz w v R) (h0 : 0 ≤ left) (h1 : left ≤ 1099511627776) :
    Calls Try.prog 5 #[v, .int .i64 left] w (IntExt (lessened left (bulkEn R)) w) := by
  obtain ⟨av, cv, rfl, hlv, _, hcv⟩ := hv
  unfold maxLen at hlv
  have hb : bulkEn R = R.length + (weighEn R).sum := rfl
  by_cases hlt : left < R.length
  · rw [lessened_no (by omega)]
    clear hb hcv
    go_enter Try.func5, Try.ntmps5
    go_wp2
    go_ret
    exact ⟨rfl, Ext.refl _⟩
  · have hw := weighEn_zero R
    have hq : lessened left (bulkEn R) = left - R.length := by rw [lessened_yes (by omega)]; omega
    rw [hq]
    clear hb hcv hq hw
    go_enter Try.func5, Try.ntmps5
    go_wp2
    go_ret
    exact ⟨rfl, Ext.refl _⟩
end Go.Proofs.Ytcpmfcigciknlaa
