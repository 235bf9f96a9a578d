/- When a row is good; a command compared with the empty one. -/
import Derived.Test.YthnoeknalpnadaaRow
import Derived.Test.YthnoeknalpnadaaGood
import Derived.Test.YthnoeknalpnadaaGoodAttr
import Derived.Test.YthnoeknalpnadaaNone
import Derived.Test.YthnoeknalpnadaaSame2
namespace Go.Proofs.Ythnoeknalpnadaa
open Go.RowKit
set_option linter.unusedVariables false

def zeroC (k i f t a : Int) : Bool := k == 0 && (i == 0 && (f == 0 && (t == 0 && a == 0)))
/-- What is asked of an empty row, of another one. -/
def emptyB (n : Int) (r : RowD) : Bool := (r.v == 0 && zeroC r.k r.i r.f r.t r.a) && sameA r.s 0 r.l (noneL n)
def fullB (n : Int) (r : RowD) : Bool := goodB r.k r.i r.f r.t r.a && goodD n r.s r.l
def headB (r : RowD) : Bool := (inB r.b 0 9999 && inB r.v 0 r.b) && inB r.st 0 3
/-- Whether a row is good in a table of n. -/
def goodRow (n : Int) (r : RowD) : Bool := headB r && (if r.st == 0 then emptyB n r else fullB n r)
theorem goodRow_head {n : Int} {r : RowD} (h : headB r = false) : goodRow n r = false := by unfold goodRow; rw [h]; rfl
theorem goodRow_empty {n : Int} {r : RowD} (h : headB r = true) (h0 : (r.st == 0) = true) : goodRow n r = emptyB n r := by unfold goodRow; rw [h, h0]; rfl
theorem goodRow_full {n : Int} {r : RowD} (h : headB r = true) (h0 : (r.st == 0) = false) : goodRow n r = fullB n r := by unfold goodRow; rw [h, h0]; rfl

set_option maxHeartbeats 1000000 in
theorem eq_zero (k i f t a : Int) (W : World) : (Op.equalIn 10000 36 (.agg #[.int .i64 k, .int .i64 i, .int .i64 f, .int .i64 t, .int .i64 a]) (.agg #[.int .i64 0, .int .i64 0, .int .i64 0, .int .i64 0, .int .i64 0])).run Try.prog W = .ok (zeroC k i f t a) W := by
  have hS : Try.prog.underlying 36 = some (.struct (Try.prog.fieldsOf 36)) := by kernel_rfl
  have hp : Try.prog.stoodInHeld 36 = false := by kernel_rfl
  have hF : (Try.prog.fieldsOf 36).toList.map (fun f => (f.name == "_", f.type, f.offset)) = [(false, 3, 0), (false, 3, 1), (false, 3, 2), (false, 3, 3), (false, 3, 4)] := by kernel_rfl
  have hpart : ∀ (xs : Array Value) (j : Nat) (x : Int) (W : World), xs[j]? = some (.int .i64 x) → (part 3 xs j).run Try.prog W = .ok (.int .i64 x) W := by
    intro xs j x W hx
    obtain ⟨i0, hi, hz0, hz1, hz2⟩ := info_parts Try.infoInt
    unfold part
    go_simp
  have hq : ∀ (a b : Int) (W : World), (Op.equalIn 9999 3 (.int .i64 a) (.int .i64 b)).run Try.prog W = .ok (a == b) W := fun a b W => run_equalIn_int W 9998 3 .i64 .i64 a b Try.underlying3
  rw [show (10000 : Nat) = 9999 + 1 from rfl, run_equalIn_struct W 9999 _ _ _ hS hp]
  obtain ⟨L, hL⟩ : ∃ L, L = (Try.prog.fieldsOf 36).toList := ⟨_, rfl⟩
  rw [← hL] at hF ⊢
  clear hL hS hp
  obtain ⟨f0, f1, f2, f3, f4, rfl⟩ : ∃ f0 f1 f2 f3 f4, L = [f0, f1, f2, f3, f4] := by
    have hl : L.length = 5 := by have := congrArg List.length hF; simpa using this
    match L, hl with
    | [a, b, c, d, e], _ => exact ⟨a, b, c, d, e, rfl⟩
  simp only [List.map_cons, List.map_nil, List.cons.injEq, Prod.mk.injEq, and_true, beq_eq_false_iff_ne] at hF
  obtain ⟨⟨n0, t0, o0⟩, ⟨n1, t1, o1⟩, ⟨n2, t2, o2⟩, ⟨n3, t3, o3⟩, ⟨n4, t4, o4⟩⟩ := hF
  unfold zeroC
  simp only [Op.eqFields, n0, n1, n2, n3, n4, t0, t1, t2, t3, t4, o0, o1, o2, o3, o4, ne_eq, not_false_eq_true, if_true, Sem.run_bind]
  rw [hpart _ _ k _ rfl]
  simp only [Result.andThen_ok]
  rw [hpart _ _ 0 _ rfl]
  simp only [Result.andThen_ok]
  rw [hq]
  simp only [Result.andThen_ok]
  cases h0 : (k == 0)
  · simp
  simp only [Bool.not_true, Bool.false_eq_true, if_false, Sem.run_bind]
  rw [hpart _ _ i _ rfl]
  simp only [Result.andThen_ok]
  rw [hpart _ _ 0 _ rfl]
  simp only [Result.andThen_ok]
  rw [hq]
  simp only [Result.andThen_ok]
  cases h1 : (i == 0)
  · simp
  simp only [Bool.not_true, Bool.false_eq_true, if_false, Sem.run_bind]
  rw [hpart _ _ f _ rfl]
  simp only [Result.andThen_ok]
  rw [hpart _ _ 0 _ rfl]
  simp only [Result.andThen_ok]
  rw [hq]
  simp only [Result.andThen_ok]
  cases h2 : (f == 0)
  · simp
  simp only [Bool.not_true, Bool.false_eq_true, if_false, Sem.run_bind]
  rw [hpart _ _ t _ rfl]
  simp only [Result.andThen_ok]
  rw [hpart _ _ 0 _ rfl]
  simp only [Result.andThen_ok]
  rw [hq]
  simp only [Result.andThen_ok]
  cases h3 : (t == 0)
  · simp
  simp only [Bool.not_true, Bool.false_eq_true, if_false, Sem.run_bind]
  rw [hpart _ _ a _ rfl]
  simp only [Result.andThen_ok]
  rw [hpart _ _ 0 _ rfl]
  simp only [Result.andThen_ok]
  rw [hq]
  simp only [Result.andThen_ok]
  cases h4 : (a == 0) <;> simp

end Go.Proofs.Ythnoeknalpnadaa
