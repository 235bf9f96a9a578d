/- A command in a block of its own. -/
import Derived.Test.YtcpmfcigciknlaaWords
namespace Go.Proofs.Ytcpmfcigciknlaa
open Go.RowKit

/-- A command lies in the block b. -/
def CmdAt (w : World) (b : Nat) (k i f t a : Int) : Prop :=
  w.cell? ⟨b, 0, none⟩ = some (.int .i64 k) ∧ w.cell? ⟨b, 1, none⟩ = some (.int .i64 i) ∧ w.cell? ⟨b, 2, none⟩ = some (.int .i64 f) ∧ w.cell? ⟨b, 3, none⟩ = some (.int .i64 t) ∧ w.cell? ⟨b, 4, none⟩ = some (.int .i64 a)
theorem CmdAt.ext {w w' : World} {b : Nat} {k i f t a : Int} (h : CmdAt w b k i f t a) (e : Ext w w') : CmdAt w' b k i f t a :=
  ⟨e.cell h.1, e.cell h.2.1, e.cell h.2.2.1, e.cell h.2.2.2.1, e.cell h.2.2.2.2⟩
theorem cmdAt_new (w : World) (T : TypeId) (k i f t a : Int) : CmdAt (w.alloc (.cells #[.int .i64 k, .int .i64 i, .int .i64 f, .int .i64 t, .int .i64 a] T)) w.heap.size k i f t a := by
  refine ⟨?_, ?_, ?_, ?_, ?_⟩ <;> go_simp

theorem cmdAt_new2 (w : World) (o : Obj) (T : TypeId) (k i f t a : Int) : CmdAt ((w.alloc o).alloc (.cells #[.int .i64 k, .int .i64 i, .int .i64 f, .int .i64 t, .int .i64 a] T)) (w.heap.size + 1) k i f t a := by
  refine ⟨?_, ?_, ?_, ?_, ?_⟩ <;> go_simp

def CmdExt (k i f t a : Int) (w : World) (e : Ending) (w' : World) : Prop := e = .returned (.agg #[.int .i64 k, .int .i64 i, .int .i64 f, .int .i64 t, .int .i64 a]) ∧ Ext w w'

end Go.Proofs.Ytcpmfcigciknlaa
