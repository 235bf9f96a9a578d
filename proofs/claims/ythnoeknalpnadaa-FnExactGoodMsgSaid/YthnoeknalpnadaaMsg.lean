/- Messages: fourteen numbers and a list. What it is for a message to lie in memory; comparisons of commands and of eight numbers. -/
import Derived.Test.YthnoeknalpnadaaRow
import Derived.Test.YthnoeknalpnadaaSame2
import Derived.ChangeKeysEq
namespace Go.Proofs.Ythnoeknalpnadaa
open Go.RowKit
set_option linter.unusedVariables false

structure MsgD where
  kd : Int
  fr : Int
  tt : Int
  rp : Int
  no : Int
  b : Int
  v : Int
  st : Int
  k : Int
  i : Int
  f : Int
  t : Int
  a : Int
  s : Int
  l : List Int

def MsgAt (w : World) (b : Nat) (r : MsgD) (u : Value) : Prop :=
  w.cell? ⟨b, 0, none⟩ = some (.int .i64 r.kd) ∧ w.cell? ⟨b, 1, none⟩ = some (.int .i64 r.fr) ∧ w.cell? ⟨b, 2, none⟩ = some (.int .i64 r.tt) ∧ w.cell? ⟨b, 3, none⟩ = some (.int .i64 r.rp) ∧ w.cell? ⟨b, 4, none⟩ = some (.int .i64 r.no) ∧ w.cell? ⟨b, 5, none⟩ = some (.int .i64 r.b) ∧ w.cell? ⟨b, 6, none⟩ = some (.int .i64 r.v) ∧ w.cell? ⟨b, 7, none⟩ = some (.int .i64 r.st) ∧ w.cell? ⟨b, 8, none⟩ = some (.int .i64 r.k) ∧ w.cell? ⟨b, 9, none⟩ = some (.int .i64 r.i) ∧ w.cell? ⟨b, 10, none⟩ = some (.int .i64 r.f) ∧ w.cell? ⟨b, 11, none⟩ = some (.int .i64 r.t) ∧ w.cell? ⟨b, 12, none⟩ = some (.int .i64 r.a) ∧ w.cell? ⟨b, 13, none⟩ = some (.int .i64 r.s) ∧ w.cell? ⟨b, 14, none⟩ = some u
theorem MsgAt.ext {w w' : World} {b : Nat} {r : MsgD} {u : Value} (h : MsgAt w b r u) (e : Ext w w') : MsgAt w' b r u := by
  obtain ⟨h0, h1, h2, h3, h4, h5, h6, h7, h8, h9, h10, h11, h12, h13, h14⟩ := h
  exact ⟨e.cell h0, e.cell h1, e.cell h2, e.cell h3, e.cell h4, e.cell h5, e.cell h6, e.cell h7, e.cell h8, e.cell h9, e.cell h10, e.cell h11, e.cell h12, e.cell h13, e.cell h14⟩
theorem msgAt_new (w : World) (T : TypeId) (r : MsgD) (u : Value) : MsgAt (w.alloc (.cells #[.int .i64 r.kd, .int .i64 r.fr, .int .i64 r.tt, .int .i64 r.rp, .int .i64 r.no, .int .i64 r.b, .int .i64 r.v, .int .i64 r.st, .int .i64 r.k, .int .i64 r.i, .int .i64 r.f, .int .i64 r.t, .int .i64 r.a, .int .i64 r.s, u] T)) w.heap.size r u := by
  refine ⟨?_, ?_, ?_, ?_, ?_, ?_, ?_, ?_, ?_, ?_, ?_, ?_, ?_, ?_, ?_⟩ <;> go_simp
theorem two_msgs (w : World) (T T' : TypeId) (r d : MsgD) (u v : Value) :
    MsgAt ((w.alloc (.cells #[.int .i64 r.kd, .int .i64 r.fr, .int .i64 r.tt, .int .i64 r.rp, .int .i64 r.no, .int .i64 r.b, .int .i64 r.v, .int .i64 r.st, .int .i64 r.k, .int .i64 r.i, .int .i64 r.f, .int .i64 r.t, .int .i64 r.a, .int .i64 r.s, u] T)).alloc (.cells #[.int .i64 d.kd, .int .i64 d.fr, .int .i64 d.tt, .int .i64 d.rp, .int .i64 d.no, .int .i64 d.b, .int .i64 d.v, .int .i64 d.st, .int .i64 d.k, .int .i64 d.i, .int .i64 d.f, .int .i64 d.t, .int .i64 d.a, .int .i64 d.s, v] T')) w.heap.size r u ∧
    MsgAt ((w.alloc (.cells #[.int .i64 r.kd, .int .i64 r.fr, .int .i64 r.tt, .int .i64 r.rp, .int .i64 r.no, .int .i64 r.b, .int .i64 r.v, .int .i64 r.st, .int .i64 r.k, .int .i64 r.i, .int .i64 r.f, .int .i64 r.t, .int .i64 r.a, .int .i64 r.s, u] T)).alloc (.cells #[.int .i64 d.kd, .int .i64 d.fr, .int .i64 d.tt, .int .i64 d.rp, .int .i64 d.no, .int .i64 d.b, .int .i64 d.v, .int .i64 d.st, .int .i64 d.k, .int .i64 d.i, .int .i64 d.f, .int .i64 d.t, .int .i64 d.a, .int .i64 d.s, v] T')) (w.heap.size + 1) d v := by
  refine ⟨⟨?_, ?_, ?_, ?_, ?_, ?_, ?_, ?_, ?_, ?_, ?_, ?_, ?_, ?_, ?_⟩, ⟨?_, ?_, ?_, ?_, ?_, ?_, ?_, ?_, ?_, ?_, ?_, ?_, ?_, ?_, ?_⟩⟩ <;> go_simp

/-- Fifteen cells of the block b may be written. -/
def FreeM (w : World) (b : Nat) : Prop :=
  w.frozen? ⟨b, 0, none⟩ = false ∧ w.frozen? ⟨b, 1, none⟩ = false ∧ w.frozen? ⟨b, 2, none⟩ = false ∧ w.frozen? ⟨b, 3, none⟩ = false ∧ w.frozen? ⟨b, 4, none⟩ = false ∧ w.frozen? ⟨b, 5, none⟩ = false ∧ w.frozen? ⟨b, 6, none⟩ = false ∧ w.frozen? ⟨b, 7, none⟩ = false ∧ w.frozen? ⟨b, 8, none⟩ = false ∧ w.frozen? ⟨b, 9, none⟩ = false ∧ w.frozen? ⟨b, 10, none⟩ = false ∧ w.frozen? ⟨b, 11, none⟩ = false ∧ w.frozen? ⟨b, 12, none⟩ = false ∧ w.frozen? ⟨b, 13, none⟩ = false ∧ w.frozen? ⟨b, 14, none⟩ = false
theorem FreeM.ext {w w' : World} {b : Nat} (hl : b < w.heap.size) (h : FreeM w b) (e : Ext w w') : FreeM w' b := by
  obtain ⟨h0, h1, h2, h3, h4, h5, h6, h7, h8, h9, h10, h11, h12, h13, h14⟩ := h
  exact ⟨e.frozen hl h0, e.frozen hl h1, e.frozen hl h2, e.frozen hl h3, e.frozen hl h4, e.frozen hl h5, e.frozen hl h6, e.frozen hl h7, e.frozen hl h8, e.frozen hl h9, e.frozen hl h10, e.frozen hl h11, e.frozen hl h12, e.frozen hl h13, e.frozen hl h14⟩
theorem freeM_set {w : World} {b : Nat} (a : Addr) (v : Value) (h : FreeM w b) : FreeM (w.setCell a v) b := by
  obtain ⟨h0, h1, h2, h3, h4, h5, h6, h7, h8, h9, h10, h11, h12, h13, h14⟩ := h
  refine ⟨?_, ?_, ?_, ?_, ?_, ?_, ?_, ?_, ?_, ?_, ?_, ?_, ?_, ?_, ?_⟩ <;> (rw [World.frozen?_setCell]; assumption)
theorem msg_apart {w : World} {b : Nat} {d : MsgD} {y : Value} (a : Addr) (v : Value) (hne : a.block ≠ b) (h : MsgAt w b d y) : MsgAt (w.setCell a v) b d y := by
  obtain ⟨h0, h1, h2, h3, h4, h5, h6, h7, h8, h9, h10, h11, h12, h13, h14⟩ := h
  refine ⟨?_, ?_, ?_, ?_, ?_, ?_, ?_, ?_, ?_, ?_, ?_, ?_, ?_, ?_, ?_⟩ <;> (rw [World.cell?_setCell_other _ _ _ _ (fun e => hne (by rw [e]))]; assumption)
theorem msg_set5 {w : World} {b : Nat} {d : MsgD} {y : Value} (k i f t a : Int) (h : MsgAt w b d y) :
    MsgAt (((((w.setCell ⟨b, 8, none⟩ (.int .i64 k)).setCell ⟨b, 9, none⟩ (.int .i64 i)).setCell ⟨b, 10, none⟩ (.int .i64 f)).setCell ⟨b, 11, none⟩ (.int .i64 t)).setCell ⟨b, 12, none⟩ (.int .i64 a)) b ⟨d.kd, d.fr, d.tt, d.rp, d.no, d.b, d.v, d.st, k, i, f, t, a, d.s, d.l⟩ y := by
  obtain ⟨h0, h1, h2, h3, h4, h5, h6, h7, h8, h9, h10, h11, h12, h13, h14⟩ := h
  refine ⟨?_, ?_, ?_, ?_, ?_, ?_, ?_, ?_, ?_, ?_, ?_, ?_, ?_, ?_, ?_⟩ <;> go_simp
def NewMsg (r : MsgD) (w : World) (e : Ending) (w' : World) : Prop :=
  ∃ u, e = .returned (.agg #[.int .i64 r.kd, .int .i64 r.fr, .int .i64 r.tt, .int .i64 r.rp, .int .i64 r.no, .int .i64 r.b, .int .i64 r.v, .int .i64 r.st, .int .i64 r.k, .int .i64 r.i, .int .i64 r.f, .int .i64 r.t, .int .i64 r.a, .int .i64 r.s, u]) ∧ Fresh w.heap.size w' u r.l ∧ Ext w w'

/-- Whether two commands are the same. -/
def sameC (k i f t a k' i' f' t' a' : Int) : Bool := k == k' && i == i' && f == f' && t == t' && a == a'
set_option maxHeartbeats 1000000 in
theorem eq_cmd (k i f t a k' i' f' t' a' : Int) (W : World) : (Op.equalIn 10000 36 (.agg #[.int .i64 k, .int .i64 i, .int .i64 f, .int .i64 t, .int .i64 a]) (.agg #[.int .i64 k', .int .i64 i', .int .i64 f', .int .i64 t', .int .i64 a'])).run Try.prog W = .ok (sameC k i f t a k' i' f' t' a') W := by
  have hS : Try.prog.underlying 36 = some (.struct (Try.prog.fieldsOf 36)) := by kernel_rfl
  have hp : Try.prog.stoodInHeld 36 = false := by kernel_rfl
  have hF : (Try.prog.fieldsOf 36).toList.map (fun f => (f.name == "_", f.type, f.offset)) = [(false, 3, 0), (false, 3, 1), (false, 3, 2), (false, 3, 3), (false, 3, 4)] := by kernel_rfl
  have hpart : ∀ (xs : Array Value) (j : Nat) (x : Int) (W : World), xs[j]? = some (.int .i64 x) → (part 3 xs j).run Try.prog W = .ok (.int .i64 x) W := by
    intro xs j x W hx
    obtain ⟨i0, hi, hz0, hz1, hz2⟩ := info_parts Try.infoInt
    unfold part
    go_simp
  have hq : ∀ (a b : Int) (W : World), (Op.equalIn 9999 3 (.int .i64 a) (.int .i64 b)).run Try.prog W = .ok (a == b) W := fun a b W => run_equalIn_int W 9998 3 .i64 .i64 a b Try.underlying3
  rw [show (10000 : Nat) = 9999 + 1 from rfl, run_equalIn_struct W 9999 _ _ _ hS hp]
  obtain ⟨L, hL⟩ : ∃ L, L = (Try.prog.fieldsOf 36).toList := ⟨_, rfl⟩
  rw [← hL] at hF ⊢
  clear hL hS hp
  obtain ⟨f0, f1, f2, f3, f4, rfl⟩ : ∃ f0 f1 f2 f3 f4, L = [f0, f1, f2, f3, f4] := by
    have hl : L.length = 5 := by have := congrArg List.length hF; simpa using this
    match L, hl with
    | [a, b, c, d, e], _ => exact ⟨a, b, c, d, e, rfl⟩
  simp only [List.map_cons, List.map_nil, List.cons.injEq, Prod.mk.injEq, and_true, beq_eq_false_iff_ne] at hF
  obtain ⟨⟨n0, t0, o0⟩, ⟨n1, t1, o1⟩, ⟨n2, t2, o2⟩, ⟨n3, t3, o3⟩, ⟨n4, t4, o4⟩⟩ := hF
  unfold sameC
  simp only [Op.eqFields, n0, n1, n2, n3, n4, t0, t1, t2, t3, t4, o0, o1, o2, o3, o4, ne_eq, not_false_eq_true, if_true, Sem.run_bind]
  rw [hpart _ _ k _ rfl]
  simp only [Result.andThen_ok]
  rw [hpart _ _ k' _ rfl]
  simp only [Result.andThen_ok]
  rw [hq]
  simp only [Result.andThen_ok]
  cases h0 : (k == k')
  · simp
  simp only [Bool.not_true, Bool.false_eq_true, if_false, Sem.run_bind]
  rw [hpart _ _ i _ rfl]
  simp only [Result.andThen_ok]
  rw [hpart _ _ i' _ rfl]
  simp only [Result.andThen_ok]
  rw [hq]
  simp only [Result.andThen_ok]
  cases h1 : (i == i')
  · simp
  simp only [Bool.not_true, Bool.false_eq_true, if_false, Sem.run_bind]
  rw [hpart _ _ f _ rfl]
  simp only [Result.andThen_ok]
  rw [hpart _ _ f' _ rfl]
  simp only [Result.andThen_ok]
  rw [hq]
  simp only [Result.andThen_ok]
  cases h2 : (f == f')
  · simp
  simp only [Bool.not_true, Bool.false_eq_true, if_false, Sem.run_bind]
  rw [hpart _ _ t _ rfl]
  simp only [Result.andThen_ok]
  rw [hpart _ _ t' _ rfl]
  simp only [Result.andThen_ok]
  rw [hq]
  simp only [Result.andThen_ok]
  cases h3 : (t == t')
  · simp
  simp only [Bool.not_true, Bool.false_eq_true, if_false, Sem.run_bind]
  rw [hpart _ _ a _ rfl]
  simp only [Result.andThen_ok]
  rw [hpart _ _ a' _ rfl]
  simp only [Result.andThen_ok]
  rw [hq]
  simp only [Result.andThen_ok]
  cases h4 : (a == a')
  · simp
  simp

/-- Whether the eight numbers are the same. -/
def sameH (r d : MsgD) : Bool := r.kd == d.kd && r.fr == d.fr && r.tt == d.tt && r.rp == d.rp && r.no == d.no && r.b == d.b && r.v == d.v && r.st == d.st
def sameM (r d : MsgD) : Bool := sameH r d && (sameC r.k r.i r.f r.t r.a d.k d.i d.f d.t d.a && sameA r.s d.s r.l d.l)
set_option maxHeartbeats 1000000 in
theorem eq_eight (r d : MsgD) (W : World) : (Op.equalIn 10000 207 (.agg #[.int .i64 r.kd, .int .i64 r.fr, .int .i64 r.tt, .int .i64 r.rp, .int .i64 r.no, .int .i64 r.b, .int .i64 r.v, .int .i64 r.st]) (.agg #[.int .i64 d.kd, .int .i64 d.fr, .int .i64 d.tt, .int .i64 d.rp, .int .i64 d.no, .int .i64 d.b, .int .i64 d.v, .int .i64 d.st])).run Try.prog W = .ok (sameH r d) W := by
  obtain ⟨i0, hi, hz0, hz1, hz2⟩ := info_parts Try.infoInt
  have hc : Try.prog.cellsOf 3 = 1 := by kernel_rfl
  have hp : ∀ (xs : Array Value) (j : Nat) (x : Int) (W : World), xs[j]? = some (.int .i64 x) → (part 3 xs j).run Try.prog W = .ok (.int .i64 x) W := by
    intro xs j x W hx
    unfold part
    go_simp
  have hq : ∀ (a b : Int) (W : World), (Op.equalIn 9999 3 (.int .i64 a) (.int .i64 b)).run Try.prog W = .ok (a == b) W := fun a b W => run_equalIn_int W 9998 3 .i64 .i64 a b Try.underlying3
  rw [show (10000 : Nat) = 9999 + 1 from rfl, run_equalIn_array W 9999 _ _ Try.underlying207 hi, hc, show List.range 8 = [0, 1, 2, 3, 4, 5, 6, 7] from rfl]
  simp only [Op.eqItems, Sem.run_bind]
  unfold sameH
  rw [hp _ _ r.kd _ rfl]
  simp only [Result.andThen_ok]
  rw [hp _ _ d.kd _ rfl]
  simp only [Result.andThen_ok]
  rw [hq]
  simp only [Result.andThen_ok]
  cases h0 : (r.kd == d.kd)
  · simp
  simp only [Bool.not_true, Bool.false_eq_true, if_false, Sem.run_bind]
  rw [hp _ _ r.fr _ rfl]
  simp only [Result.andThen_ok]
  rw [hp _ _ d.fr _ rfl]
  simp only [Result.andThen_ok]
  rw [hq]
  simp only [Result.andThen_ok]
  cases h1 : (r.fr == d.fr)
  · simp
  simp only [Bool.not_true, Bool.false_eq_true, if_false, Sem.run_bind]
  rw [hp _ _ r.tt _ rfl]
  simp only [Result.andThen_ok]
  rw [hp _ _ d.tt _ rfl]
  simp only [Result.andThen_ok]
  rw [hq]
  simp only [Result.andThen_ok]
  cases h2 : (r.tt == d.tt)
  · simp
  simp only [Bool.not_true, Bool.false_eq_true, if_false, Sem.run_bind]
  rw [hp _ _ r.rp _ rfl]
  simp only [Result.andThen_ok]
  rw [hp _ _ d.rp _ rfl]
  simp only [Result.andThen_ok]
  rw [hq]
  simp only [Result.andThen_ok]
  cases h3 : (r.rp == d.rp)
  · simp
  simp only [Bool.not_true, Bool.false_eq_true, if_false, Sem.run_bind]
  rw [hp _ _ r.no _ rfl]
  simp only [Result.andThen_ok]
  rw [hp _ _ d.no _ rfl]
  simp only [Result.andThen_ok]
  rw [hq]
  simp only [Result.andThen_ok]
  cases h4 : (r.no == d.no)
  · simp
  simp only [Bool.not_true, Bool.false_eq_true, if_false, Sem.run_bind]
  rw [hp _ _ r.b _ rfl]
  simp only [Result.andThen_ok]
  rw [hp _ _ d.b _ rfl]
  simp only [Result.andThen_ok]
  rw [hq]
  simp only [Result.andThen_ok]
  cases h5 : (r.b == d.b)
  · simp
  simp only [Bool.not_true, Bool.false_eq_true, if_false, Sem.run_bind]
  rw [hp _ _ r.v _ rfl]
  simp only [Result.andThen_ok]
  rw [hp _ _ d.v _ rfl]
  simp only [Result.andThen_ok]
  rw [hq]
  simp only [Result.andThen_ok]
  cases h6 : (r.v == d.v)
  · simp
  simp only [Bool.not_true, Bool.false_eq_true, if_false, Sem.run_bind]
  rw [hp _ _ r.st _ rfl]
  simp only [Result.andThen_ok]
  rw [hp _ _ d.st _ rfl]
  simp only [Result.andThen_ok]
  rw [hq]
  simp only [Result.andThen_ok]
  cases h7 : (r.st == d.st)
  · simp
  simp
end Go.Proofs.Ythnoeknalpnadaa
