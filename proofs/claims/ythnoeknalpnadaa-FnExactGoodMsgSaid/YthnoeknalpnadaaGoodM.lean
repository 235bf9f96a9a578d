/- What GoodMsg tells, as the program has it; which method is met behind the interface. -/
import Derived.Test.YthnoeknalpnadaaWithOnly2
import Derived.Test.YthnoeknalpnadaaImplSameMsg
namespace Go.Proofs.Ythnoeknalpnadaa
open Go.RowKit
set_option linter.unusedVariables false

def ballotB (r : MsgD) : Bool := if r.kd = 5 then r.b == 0 else inB r.b 0 9999
def contB (n : Int) (r : MsgD) : Bool := if r.kd = 2 then goodA n r.s r.l else if r.kd = 7 then !(r.st == 3) && goodRow n (rowM r) else if r.kd = 4 ∨ r.kd = 6 then true else goodB r.k r.i r.f r.t r.a && goodA n r.s r.l
def goodM (n : Int) (r : MsgD) : Bool := inB r.kd 1 7 && (wayB n r && (ballotB r && (contB n r && sameM r (onlyM n r))))
theorem wayB_grp {n : Int} {r : MsgD} (h : wayB n r = true) : isGrp n = true := by
  unfold wayB repB at h
  simp only [Bool.and_eq_true] at h
  exact h.1.1.1.1
theorem meth_proposal (r : MsgD) (u : Value) (w : World) : (method 328 199 (.agg #[.int .i64 r.k, .int .i64 r.i, .int .i64 r.f, .int .i64 r.t, .int .i64 r.a, .int .i64 r.s, u]) "loop.example/g00698/impl.isGood").run Try.prog w = .ok (198, .agg #[.int .i64 r.k, .int .i64 r.i, .int .i64 r.f, .int .i64 r.t, .int .i64 r.a, .int .i64 r.s, u]) w := by kernel_rfl
theorem meth_opinion (r : MsgD) (u : Value) (w : World) : (method 328 201 (.agg #[.int .i64 r.s, u]) "loop.example/g00698/impl.isGood").run Try.prog w = .ok (199, .agg #[.int .i64 r.s, u]) w := by kernel_rfl
theorem meth_outcome (r : MsgD) (u : Value) (w : World) : (method 328 202 (.agg #[.int .i64 r.k, .int .i64 r.i, .int .i64 r.f, .int .i64 r.t, .int .i64 r.a, .int .i64 r.s, u]) "loop.example/g00698/impl.isGood").run Try.prog w = .ok (200, .agg #[.int .i64 r.k, .int .i64 r.i, .int .i64 r.f, .int .i64 r.t, .int .i64 r.a, .int .i64 r.s, u]) w := by kernel_rfl
theorem meth_report (r : MsgD) (u : Value) (w : World) : (method 328 177 (.agg #[.int .i64 r.b, .int .i64 r.v, .int .i64 r.st, .int .i64 r.k, .int .i64 r.i, .int .i64 r.f, .int .i64 r.t, .int .i64 r.a, .int .i64 r.s, u]) "loop.example/g00698/impl.isGood").run Try.prog w = .ok (146, .agg #[.int .i64 r.b, .int .i64 r.v, .int .i64 r.st, .int .i64 r.k, .int .i64 r.i, .int .i64 r.f, .int .i64 r.t, .int .i64 r.a, .int .i64 r.s, u]) w := by kernel_rfl
theorem meth_nothing (r : MsgD) (u : Value) (w : World) : (method 328 205 (.agg #[]) "loop.example/g00698/impl.isGood").run Try.prog w = .ok (201, .agg #[]) w := by kernel_rfl
end Go.Proofs.Ythnoeknalpnadaa
