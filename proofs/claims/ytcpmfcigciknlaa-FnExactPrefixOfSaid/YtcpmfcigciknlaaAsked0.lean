/- Cells of another block are written. No program text is named here. -/
import Derived.Test.YtcpmfcigciknlaaBoxV
namespace Go.Proofs.Ytcpmfcigciknlaa
open Go.RowKit

theorem boxV_other_puts {b b' : Nat} (hne : b' ≠ b) : ∀ (vs : List Value) (o : Nat) (w : World) (xs : List Value), BoxV w b xs → BoxV (w.setCells b' o vs) b xs
  | [], _, _, _, h => h
  | v :: r, o, w, xs, h => boxV_other_puts hne r (o + 1) _ _ (h.other _ _ hne)
end Go.Proofs.Ytcpmfcigciknlaa
