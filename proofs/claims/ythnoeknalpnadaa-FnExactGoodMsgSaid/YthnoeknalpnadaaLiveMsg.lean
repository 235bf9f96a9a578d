/- What is kept of messages in memory through a region. -/
import Derived.Test.YthnoeknalpnadaaMsg
namespace Go.Proofs.Ythnoeknalpnadaa
open Go.RowKit
set_option linter.unusedVariables false

theorem stepM {wb W W' : World} {b b' : Nat} {r d : MsgD} {u v : Value} (x : Ext W W') (h : Ext wb W ∧ MsgAt W b r u ∧ MsgAt W b' d v) : Ext wb W' ∧ MsgAt W' b r u ∧ MsgAt W' b' d v :=
  ⟨h.1.trans x, h.2.1.ext x, h.2.2.ext x⟩
theorem MsgAt.lt {w : World} {b : Nat} {r : MsgD} {u : Value} (h : MsgAt w b r u) : b < w.heap.size := World.block_lt_of_cell? w _ h.1
end Go.Proofs.Ythnoeknalpnadaa
