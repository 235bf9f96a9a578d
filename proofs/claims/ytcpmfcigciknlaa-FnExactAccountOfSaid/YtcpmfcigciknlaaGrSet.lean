/- A cell of a block is set. No program text is named here. -/
import Derived.Test.YtcpmfcigciknlaaWords
namespace Go.Proofs.Ytcpmfcigciknlaa
open Go.RowKit
set_option linter.unusedVariables false

theorem grownBy_set (W : World) (b o : Nat) (v : Value) : W.grownBy (W.setCell ⟨b, o, none⟩ v) (some b) :=
  ⟨rfl, rfl, rfl, (Below.setCell (Below.refl 0 W) (Nat.zero_le _) v).size, fun k _ hne => Below.heap_setCell _ _ _ k (fun e => hne (by rw [e]))⟩
theorem Ext.alloc1 (w : World) (o : Obj) : Ext w (w.alloc o) := Ext.alloc (Ext.refl _) _
end Go.Proofs.Ytcpmfcigciknlaa
