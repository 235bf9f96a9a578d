/- Texts of this proof, part g: words, plain facts, contracts. -/
import Derived.Test.YtbffkidkfannhaaGreatMGoodNeta
import Derived.Test.YtbffkidkfannhaaGreatMGoodNetc
import Derived.ChangeKeysEq
import Derived.Test.YtbffkidkfannhaaGreatMGoodNetd
import Derived.Test.YtbffkidkfannhaaGreatMGoodNetf
import Derived.Test.YtbffkidkfannhaaGreatMGoodNete
import Derived.Test.YtbffkidkfannhaaGreatMGoodNetb

namespace Go.Proofs.YtbffkidkfannhaaGreat
open Go.RowKit
set_option linter.unusedVariables false

structure MsgD where
  kd : Int
  fr : Int
  tt : Int
  rp : Int
  no : Int
  b : Int
  v : Int
  st : Int
  k : Int
  i : Int
  f : Int
  t : Int
  a : Int
  s : Int
  l : List Int

def MsgAt (w : World) (b : Nat) (r : MsgD) (u : Value) : Prop :=
  w.cell? ⟨b, 0, none⟩ = some (.int .i64 r.kd) ∧ w.cell? ⟨b, 1, none⟩ = some (.int .i64 r.fr) ∧ w.cell? ⟨b, 2, none⟩ = some (.int .i64 r.tt) ∧ w.cell? ⟨b, 3, none⟩ = some (.int .i64 r.rp) ∧ w.cell? ⟨b, 4, none⟩ = some (.int .i64 r.no) ∧ w.cell? ⟨b, 5, none⟩ = some (.int .i64 r.b) ∧ w.cell? ⟨b, 6, none⟩ = some (.int .i64 r.v) ∧ w.cell? ⟨b, 7, none⟩ = some (.int .i64 r.st) ∧ w.cell? ⟨b, 8, none⟩ = some (.int .i64 r.k) ∧ w.cell? ⟨b, 9, none⟩ = some (.int .i64 r.i) ∧ w.cell? ⟨b, 10, none⟩ = some (.int .i64 r.f) ∧ w.cell? ⟨b, 11, none⟩ = some (.int .i64 r.t) ∧ w.cell? ⟨b, 12, none⟩ = some (.int .i64 r.a) ∧ w.cell? ⟨b, 13, none⟩ = some (.int .i64 r.s) ∧ w.cell? ⟨b, 14, none⟩ = some u
theorem MsgAt.ext {w w' : World} {b : Nat} {r : MsgD} {u : Value} (h : MsgAt w b r u) (e : Ext w w') : MsgAt w' b r u := by
  obtain ⟨h0, h1, h2, h3, h4, h5, h6, h7, h8, h9, h10, h11, h12, h13, h14⟩ := h
  exact ⟨e.cell h0, e.cell h1, e.cell h2, e.cell h3, e.cell h4, e.cell h5, e.cell h6, e.cell h7, e.cell h8, e.cell h9, e.cell h10, e.cell h11, e.cell h12, e.cell h13, e.cell h14⟩
theorem msgAt_new (w : World) (T : TypeId) (r : MsgD) (u : Value) : MsgAt (w.alloc (.cells #[.int .i64 r.kd, .int .i64 r.fr, .int .i64 r.tt, .int .i64 r.rp, .int .i64 r.no, .int .i64 r.b, .int .i64 r.v, .int .i64 r.st, .int .i64 r.k, .int .i64 r.i, .int .i64 r.f, .int .i64 r.t, .int .i64 r.a, .int .i64 r.s, u] T)) w.heap.size r u := by
  refine ⟨?_, ?_, ?_, ?_, ?_, ?_, ?_, ?_, ?_, ?_, ?_, ?_, ?_, ?_, ?_⟩ <;> go_simp
theorem two_msgs (w : World) (T T' : TypeId) (r d : MsgD) (u v : Value) :
    MsgAt ((w.alloc (.cells #[.int .i64 r.kd, .int .i64 r.fr, .int .i64 r.tt, .int .i64 r.rp, .int .i64 r.no, .int .i64 r.b, .int .i64 r.v, .int .i64 r.st, .int .i64 r.k, .int .i64 r.i, .int .i64 r.f, .int .i64 r.t, .int .i64 r.a, .int .i64 r.s, u] T)).alloc (.cells #[.int .i64 d.kd, .int .i64 d.fr, .int .i64 d.tt, .int .i64 d.rp, .int .i64 d.no, .int .i64 d.b, .int .i64 d.v, .int .i64 d.st, .int .i64 d.k, .int .i64 d.i, .int .i64 d.f, .int .i64 d.t, .int .i64 d.a, .int .i64 d.s, v] T')) w.heap.size r u ∧
    MsgAt ((w.alloc (.cells #[.int .i64 r.kd, .int .i64 r.fr, .int .i64 r.tt, .int .i64 r.rp, .int .i64 r.no, .int .i64 r.b, .int .i64 r.v, .int .i64 r.st, .int .i64 r.k, .int .i64 r.i, .int .i64 r.f, .int .i64 r.t, .int .i64 r.a, .int .i64 r.s, u] T)).alloc (.cells #[.int .i64 d.kd, .int .i64 d.fr, .int .i64 d.tt, .int .i64 d.rp, .int .i64 d.no, .int .i64 d.b, .int .i64 d.v, .int .i64 d.st, .int .i64 d.k, .int .i64 d.i, .int .i64 d.f, .int .i64 d.t, .int .i64 d.a, .int .i64 d.s, v] T')) (w.heap.size + 1) d v := by
  refine ⟨⟨?_, ?_, ?_, ?_, ?_, ?_, ?_, ?_, ?_, ?_, ?_, ?_, ?_, ?_, ?_⟩, ⟨?_, ?_, ?_, ?_, ?_, ?_, ?_, ?_, ?_, ?_, ?_, ?_, ?_, ?_, ?_⟩⟩ <;> go_simp

/-- Fifteen cells of the block b may be written. -/
def FreeM (w : World) (b : Nat) : Prop :=
  w.frozen? ⟨b, 0, none⟩ = false ∧ w.frozen? ⟨b, 1, none⟩ = false ∧ w.frozen? ⟨b, 2, none⟩ = false ∧ w.frozen? ⟨b, 3, none⟩ = false ∧ w.frozen? ⟨b, 4, none⟩ = false ∧ w.frozen? ⟨b, 5, none⟩ = false ∧ w.frozen? ⟨b, 6, none⟩ = false ∧ w.frozen? ⟨b, 7, none⟩ = false ∧ w.frozen? ⟨b, 8, none⟩ = false ∧ w.frozen? ⟨b, 9, none⟩ = false ∧ w.frozen? ⟨b, 10, none⟩ = false ∧ w.frozen? ⟨b, 11, none⟩ = false ∧ w.frozen? ⟨b, 12, none⟩ = false ∧ w.frozen? ⟨b, 13, none⟩ = false ∧ w.frozen? ⟨b, 14, none⟩ = false
theorem FreeM.ext {w w' : World} {b : Nat} (hl : b < w.heap.size) (h : FreeM w b) (e : Ext w w') : FreeM w' b := by
  obtain ⟨h0, h1, h2, h3, h4, h5, h6, h7, h8, h9, h10, h11, h12, h13, h14⟩ := h
  exact ⟨e.frozen hl h0, e.frozen hl h1, e.frozen hl h2, e.frozen hl h3, e.frozen hl h4, e.frozen hl h5, e.frozen hl h6, e.frozen hl h7, e.frozen hl h8, e.frozen hl h9, e.frozen hl h10, e.frozen hl h11, e.frozen hl h12, e.frozen hl h13, e.frozen hl h14⟩
theorem freeM_set {w : World} {b : Nat} (a : Addr) (v : Value) (h : FreeM w b) : FreeM (w.setCell a v) b := by
  obtain ⟨h0, h1, h2, h3, h4, h5, h6, h7, h8, h9, h10, h11, h12, h13, h14⟩ := h
  refine ⟨?_, ?_, ?_, ?_, ?_, ?_, ?_, ?_, ?_, ?_, ?_, ?_, ?_, ?_, ?_⟩ <;> (rw [World.frozen?_setCell]; assumption)
theorem msg_apart {w : World} {b : Nat} {d : MsgD} {y : Value} (a : Addr) (v : Value) (hne : a.block ≠ b) (h : MsgAt w b d y) : MsgAt (w.setCell a v) b d y := by
  obtain ⟨h0, h1, h2, h3, h4, h5, h6, h7, h8, h9, h10, h11, h12, h13, h14⟩ := h
  refine ⟨?_, ?_, ?_, ?_, ?_, ?_, ?_, ?_, ?_, ?_, ?_, ?_, ?_, ?_, ?_⟩ <;> (rw [World.cell?_setCell_other _ _ _ _ (fun e => hne (by rw [e]))]; assumption)
theorem msg_set5 {w : World} {b : Nat} {d : MsgD} {y : Value} (k i f t a : Int) (h : MsgAt w b d y) :
    MsgAt (((((w.setCell ⟨b, 8, none⟩ (.int .i64 k)).setCell ⟨b, 9, none⟩ (.int .i64 i)).setCell ⟨b, 10, none⟩ (.int .i64 f)).setCell ⟨b, 11, none⟩ (.int .i64 t)).setCell ⟨b, 12, none⟩ (.int .i64 a)) b ⟨d.kd, d.fr, d.tt, d.rp, d.no, d.b, d.v, d.st, k, i, f, t, a, d.s, d.l⟩ y := by
  obtain ⟨h0, h1, h2, h3, h4, h5, h6, h7, h8, h9, h10, h11, h12, h13, h14⟩ := h
  refine ⟨?_, ?_, ?_, ?_, ?_, ?_, ?_, ?_, ?_, ?_, ?_, ?_, ?_, ?_, ?_⟩ <;> go_simp
def NewMsg (r : MsgD) (w : World) (e : Ending) (w' : World) : Prop :=
  ∃ u, e = .returned (.agg #[.int .i64 r.kd, .int .i64 r.fr, .int .i64 r.tt, .int .i64 r.rp, .int .i64 r.no, .int .i64 r.b, .int .i64 r.v, .int .i64 r.st, .int .i64 r.k, .int .i64 r.i, .int .i64 r.f, .int .i64 r.t, .int .i64 r.a, .int .i64 r.s, u]) ∧ Fresh w.heap.size w' u r.l ∧ Ext w w'

/-- Whether two commands are the same. -/
def sameC (k i f t a k' i' f' t' a' : Int) : Bool := k == k' && i == i' && f == f' && t == t' && a == a'
set_option maxHeartbeats 1000000 in
theorem eq_cmd (k i f t a k' i' f' t' a' : Int) (W : World) : (Op.equalIn 10000 73 (.agg #[.int .i64 k, .int .i64 i, .int .i64 f, .int .i64 t, .int .i64 a]) (.agg #[.int .i64 k', .int .i64 i', .int .i64 f', .int .i64 t', .int .i64 a'])).run Tryz.prog W = .ok (sameC k i f t a k' i' f' t' a') W := by
  have hS : Tryz.prog.underlying 73 = some (.struct (Tryz.prog.fieldsOf 73)) := by kernel_rfl
  have hp : Tryz.prog.stoodInHeld 73 = false := by kernel_rfl
  have hF : (Tryz.prog.fieldsOf 73).toList.map (fun f => (f.name == "_", f.type, f.offset)) = [(false, 3, 0), (false, 3, 1), (false, 3, 2), (false, 3, 3), (false, 3, 4)] := by kernel_rfl
  have hpart : ∀ (xs : Array Value) (j : Nat) (x : Int) (W : World), xs[j]? = some (.int .i64 x) → (part 3 xs j).run Tryz.prog W = .ok (.int .i64 x) W := by
    intro xs j x W hx
    obtain ⟨i0, hi, hz0, hz1, hz2⟩ := info_parts Tryz.infoInt
    unfold part
    go_simp
  have hq : ∀ (a b : Int) (W : World), (Op.equalIn 9999 3 (.int .i64 a) (.int .i64 b)).run Tryz.prog W = .ok (a == b) W := fun a b W => run_equalIn_int W 9998 3 .i64 .i64 a b Tryz.underlying3
  rw [show (10000 : Nat) = 9999 + 1 from rfl, run_equalIn_struct W 9999 _ _ _ hS hp]
  obtain ⟨L, hL⟩ : ∃ L, L = (Tryz.prog.fieldsOf 73).toList := ⟨_, rfl⟩
  rw [← hL] at hF ⊢
  clear hL hS hp
  obtain ⟨f0, f1, f2, f3, f4, rfl⟩ : ∃ f0 f1 f2 f3 f4, L = [f0, f1, f2, f3, f4] := by
    have hl : L.length = 5 := by have := congrArg List.length hF; simpa using this
    match L, hl with
    | [a, b, c, d, e], _ => exact ⟨a, b, c, d, e, rfl⟩
  simp only [List.map_cons, List.map_nil, List.cons.injEq, Prod.mk.injEq, and_true, beq_eq_false_iff_ne] at hF
  obtain ⟨⟨n0, t0, o0⟩, ⟨n1, t1, o1⟩, ⟨n2, t2, o2⟩, ⟨n3, t3, o3⟩, ⟨n4, t4, o4⟩⟩ := hF
  unfold sameC
  simp only [Op.eqFields, n0, n1, n2, n3, n4, t0, t1, t2, t3, t4, o0, o1, o2, o3, o4, ne_eq, not_false_eq_true, if_true, Sem.run_bind]
  rw [hpart _ _ k _ rfl]
  simp only [Result.andThen_ok]
  rw [hpart _ _ k' _ rfl]
  simp only [Result.andThen_ok]
  rw [hq]
  simp only [Result.andThen_ok]
  cases h0 : (k == k')
  · simp
  simp only [Bool.not_true, Bool.false_eq_true, if_false, Sem.run_bind]
  rw [hpart _ _ i _ rfl]
  simp only [Result.andThen_ok]
  rw [hpart _ _ i' _ rfl]
  simp only [Result.andThen_ok]
  rw [hq]
  simp only [Result.andThen_ok]
  cases h1 : (i == i')
  · simp
  simp only [Bool.not_true, Bool.false_eq_true, if_false, Sem.run_bind]
  rw [hpart _ _ f _ rfl]
  simp only [Result.andThen_ok]
  rw [hpart _ _ f' _ rfl]
  simp only [Result.andThen_ok]
  rw [hq]
  simp only [Result.andThen_ok]
  cases h2 : (f == f')
  · simp
  simp only [Bool.not_true, Bool.false_eq_true, if_false, Sem.run_bind]
  rw [hpart _ _ t _ rfl]
  simp only [Result.andThen_ok]
  rw [hpart _ _ t' _ rfl]
  simp only [Result.andThen_ok]
  rw [hq]
  simp only [Result.andThen_ok]
  cases h3 : (t == t')
  · simp
  simp only [Bool.not_true, Bool.false_eq_true, if_false, Sem.run_bind]
  rw [hpart _ _ a _ rfl]
  simp only [Result.andThen_ok]
  rw [hpart _ _ a' _ rfl]
  simp only [Result.andThen_ok]
  rw [hq]
  simp only [Result.andThen_ok]
  cases h4 : (a == a')
  · simp
  simp

/-- Whether the eight numbers are the same. -/
def sameH (r d : MsgD) : Bool := r.kd == d.kd && r.fr == d.fr && r.tt == d.tt && r.rp == d.rp && r.no == d.no && r.b == d.b && r.v == d.v && r.st == d.st
def sameM (r d : MsgD) : Bool := sameH r d && (sameC r.k r.i r.f r.t r.a d.k d.i d.f d.t d.a && sameA r.s d.s r.l d.l)
set_option maxHeartbeats 1000000 in
theorem eq_eight (r d : MsgD) (W : World) : (Op.equalIn 10000 184 (.agg #[.int .i64 r.kd, .int .i64 r.fr, .int .i64 r.tt, .int .i64 r.rp, .int .i64 r.no, .int .i64 r.b, .int .i64 r.v, .int .i64 r.st]) (.agg #[.int .i64 d.kd, .int .i64 d.fr, .int .i64 d.tt, .int .i64 d.rp, .int .i64 d.no, .int .i64 d.b, .int .i64 d.v, .int .i64 d.st])).run Tryz.prog W = .ok (sameH r d) W := by
  obtain ⟨i0, hi, hz0, hz1, hz2⟩ := info_parts Tryz.infoInt
  have hc : Tryz.prog.cellsOf 3 = 1 := by kernel_rfl
  have hp : ∀ (xs : Array Value) (j : Nat) (x : Int) (W : World), xs[j]? = some (.int .i64 x) → (part 3 xs j).run Tryz.prog W = .ok (.int .i64 x) W := by
    intro xs j x W hx
    unfold part
    go_simp
  have hq : ∀ (a b : Int) (W : World), (Op.equalIn 9999 3 (.int .i64 a) (.int .i64 b)).run Tryz.prog W = .ok (a == b) W := fun a b W => run_equalIn_int W 9998 3 .i64 .i64 a b Tryz.underlying3
  rw [show (10000 : Nat) = 9999 + 1 from rfl, run_equalIn_array W 9999 _ _ Tryz.underlying184 hi, hc, show List.range 8 = [0, 1, 2, 3, 4, 5, 6, 7] from rfl]
  simp only [Op.eqItems, Sem.run_bind]
  unfold sameH
  rw [hp _ _ r.kd _ rfl]
  simp only [Result.andThen_ok]
  rw [hp _ _ d.kd _ rfl]
  simp only [Result.andThen_ok]
  rw [hq]
  simp only [Result.andThen_ok]
  cases h0 : (r.kd == d.kd)
  · simp
  simp only [Bool.not_true, Bool.false_eq_true, if_false, Sem.run_bind]
  rw [hp _ _ r.fr _ rfl]
  simp only [Result.andThen_ok]
  rw [hp _ _ d.fr _ rfl]
  simp only [Result.andThen_ok]
  rw [hq]
  simp only [Result.andThen_ok]
  cases h1 : (r.fr == d.fr)
  · simp
  simp only [Bool.not_true, Bool.false_eq_true, if_false, Sem.run_bind]
  rw [hp _ _ r.tt _ rfl]
  simp only [Result.andThen_ok]
  rw [hp _ _ d.tt _ rfl]
  simp only [Result.andThen_ok]
  rw [hq]
  simp only [Result.andThen_ok]
  cases h2 : (r.tt == d.tt)
  · simp
  simp only [Bool.not_true, Bool.false_eq_true, if_false, Sem.run_bind]
  rw [hp _ _ r.rp _ rfl]
  simp only [Result.andThen_ok]
  rw [hp _ _ d.rp _ rfl]
  simp only [Result.andThen_ok]
  rw [hq]
  simp only [Result.andThen_ok]
  cases h3 : (r.rp == d.rp)
  · simp
  simp only [Bool.not_true, Bool.false_eq_true, if_false, Sem.run_bind]
  rw [hp _ _ r.no _ rfl]
  simp only [Result.andThen_ok]
  rw [hp _ _ d.no _ rfl]
  simp only [Result.andThen_ok]
  rw [hq]
  simp only [Result.andThen_ok]
  cases h4 : (r.no == d.no)
  · simp
  simp only [Bool.not_true, Bool.false_eq_true, if_false, Sem.run_bind]
  rw [hp _ _ r.b _ rfl]
  simp only [Result.andThen_ok]
  rw [hp _ _ d.b _ rfl]
  simp only [Result.andThen_ok]
  rw [hq]
  simp only [Result.andThen_ok]
  cases h5 : (r.b == d.b)
  · simp
  simp only [Bool.not_true, Bool.false_eq_true, if_false, Sem.run_bind]
  rw [hp _ _ r.v _ rfl]
  simp only [Result.andThen_ok]
  rw [hp _ _ d.v _ rfl]
  simp only [Result.andThen_ok]
  rw [hq]
  simp only [Result.andThen_ok]
  cases h6 : (r.v == d.v)
  · simp
  simp only [Bool.not_true, Bool.false_eq_true, if_false, Sem.run_bind]
  rw [hp _ _ r.st _ rfl]
  simp only [Result.andThen_ok]
  rw [hp _ _ d.st _ rfl]
  simp only [Result.andThen_ok]
  rw [hq]
  simp only [Result.andThen_ok]
  cases h7 : (r.st == d.st)
  · simp
  simp
end Go.Proofs.YtbffkidkfannhaaGreat

namespace Go.Proofs.YtbffkidkfannhaaGreat
open Go.RowKit
set_option linter.unusedVariables false

set_option maxHeartbeats 1000000 in
theorem szMsg_any (r : MsgD) (u : Value) (left : Int) (w : World) (hv : Ints w u r.l) (h0 : 0 ≤ left) (h1 : left ≤ 1099511627776) :
    Calls Tryz.prog 47 #[.agg #[.int .i64 r.kd, .int .i64 r.fr, .int .i64 r.tt, .int .i64 r.rp, .int .i64 r.no, .int .i64 r.b, .int .i64 r.v, .int .i64 r.st, .int .i64 r.k, .int .i64 r.i, .int .i64 r.f, .int .i64 r.t, .int .i64 r.a, .int .i64 r.s, u], .int .i64 left] w (IntExt (lessened left r.l.length) w) := by
  have HB := msgAt_new w 97 r u
  by_cases hlt : left < r.l.length
  · have L := Lib.hid (lessened_no hlt)
    clear hlt
    go_enter Tryz.func47, Tryz.ntmps47
    go_wp2_with fail
    refine (szAttr_any _ _ _ _ _ (hv.ext (Ext.alloc (Ext.refl _) _)) h0 h1).mono ?_
    rintro e w1 ⟨rfl, x1⟩
    have hx := (Ext.alloc (Ext.refl w) _).trans x1
    clear x1 HB
    rw [L.out]
    go_wp2
    go_ret
    exact ⟨by rw [L.out]; rfl, hx⟩
  · obtain ⟨q, hq⟩ : ∃ q, q = left - (r.l.length : Int) := ⟨_, rfl⟩
    have hq0 : 0 ≤ q := by omega
    have LR : Hid (lessened left r.l.length = q) := Lib.hid (by rw [hq]; exact lessened_yes (by omega))
    clear hlt hq
    rw [LR.out]
    go_enter Tryz.func47, Tryz.ntmps47
    go_wp2_with fail
    refine (szAttr_any _ _ _ _ _ (hv.ext (Ext.alloc (Ext.refl _) _)) h0 h1).mono ?_
    rintro e w1 ⟨rfl, x1⟩
    have hx := (Ext.alloc (Ext.refl w) _).trans x1
    clear x1 HB
    rw [LR.out]
    go_wp2
    go_ret
    exact ⟨rfl, hx⟩
end Go.Proofs.YtbffkidkfannhaaGreat

namespace Go.Proofs.YtbffkidkfannhaaGreat
open Go.RowKit
set_option linter.unusedVariables false

def zeroM : MsgD := ⟨0, 0, 0, 0, 0, 0, 0, 0, 0, 0, 0, 0, 0, 0, []⟩
def headM (r : MsgD) : MsgD := ⟨r.kd, r.fr, r.tt, r.rp, r.no, r.b, r.v, r.st, 0, 0, 0, 0, 0, 0, []⟩
theorem msg_three (w : World) (a : Obj) (r : MsgD) :
    (MsgAt (((w.alloc a).alloc (.cells #[.int .i64 0, .int .i64 0, .int .i64 0, .int .i64 0, .int .i64 0, .int .i64 0, .int .i64 0, .int .i64 0, .int .i64 0, .int .i64 0, .int .i64 0, .int .i64 0, .int .i64 0, .int .i64 0, .slice none 0 0] 77)).alloc (.cells #[.int .i64 r.kd, .int .i64 r.fr, .int .i64 r.tt, .int .i64 r.rp, .int .i64 r.no, .int .i64 r.b, .int .i64 r.v, .int .i64 r.st, .int .i64 0, .int .i64 0, .int .i64 0, .int .i64 0, .int .i64 0, .int .i64 0, .slice none 0 0] 77)) (w.heap.size + 1) zeroM (.slice none 0 0) ∧ FreeM (((w.alloc a).alloc (.cells #[.int .i64 0, .int .i64 0, .int .i64 0, .int .i64 0, .int .i64 0, .int .i64 0, .int .i64 0, .int .i64 0, .int .i64 0, .int .i64 0, .int .i64 0, .int .i64 0, .int .i64 0, .int .i64 0, .slice none 0 0] 77)).alloc (.cells #[.int .i64 r.kd, .int .i64 r.fr, .int .i64 r.tt, .int .i64 r.rp, .int .i64 r.no, .int .i64 r.b, .int .i64 r.v, .int .i64 r.st, .int .i64 0, .int .i64 0, .int .i64 0, .int .i64 0, .int .i64 0, .int .i64 0, .slice none 0 0] 77)) (w.heap.size + 1)) ∧
    (MsgAt (((w.alloc a).alloc (.cells #[.int .i64 0, .int .i64 0, .int .i64 0, .int .i64 0, .int .i64 0, .int .i64 0, .int .i64 0, .int .i64 0, .int .i64 0, .int .i64 0, .int .i64 0, .int .i64 0, .int .i64 0, .int .i64 0, .slice none 0 0] 77)).alloc (.cells #[.int .i64 r.kd, .int .i64 r.fr, .int .i64 r.tt, .int .i64 r.rp, .int .i64 r.no, .int .i64 r.b, .int .i64 r.v, .int .i64 r.st, .int .i64 0, .int .i64 0, .int .i64 0, .int .i64 0, .int .i64 0, .int .i64 0, .slice none 0 0] 77)) (w.heap.size + 1 + 1) (headM r) (.slice none 0 0) ∧ FreeM (((w.alloc a).alloc (.cells #[.int .i64 0, .int .i64 0, .int .i64 0, .int .i64 0, .int .i64 0, .int .i64 0, .int .i64 0, .int .i64 0, .int .i64 0, .int .i64 0, .int .i64 0, .int .i64 0, .int .i64 0, .int .i64 0, .slice none 0 0] 77)).alloc (.cells #[.int .i64 r.kd, .int .i64 r.fr, .int .i64 r.tt, .int .i64 r.rp, .int .i64 r.no, .int .i64 r.b, .int .i64 r.v, .int .i64 r.st, .int .i64 0, .int .i64 0, .int .i64 0, .int .i64 0, .int .i64 0, .int .i64 0, .slice none 0 0] 77)) (w.heap.size + 1 + 1)) := by
  refine ⟨⟨⟨?_, ?_, ?_, ?_, ?_, ?_, ?_, ?_, ?_, ?_, ?_, ?_, ?_, ?_, ?_⟩, ⟨?_, ?_, ?_, ?_, ?_, ?_, ?_, ?_, ?_, ?_, ?_, ?_, ?_, ?_, ?_⟩⟩, ⟨⟨?_, ?_, ?_, ?_, ?_, ?_, ?_, ?_, ?_, ?_, ?_, ?_, ?_, ?_, ?_⟩, ⟨?_, ?_, ?_, ?_, ?_, ?_, ?_, ?_, ?_, ?_, ?_, ?_, ?_, ?_, ?_⟩⟩⟩ <;> (first | (simp only [zeroM, headM]; go_simp) | go_simp)

set_option maxHeartbeats 4000000 in
set_option maxRecDepth 100000 in
theorem toMsg_any (r : MsgD) (u : Value) (w : World) (hv : Ints w u r.l) (hs : r.l.length ≤ 35184372088831) :
    Calls Tryz.prog 51 #[.agg #[.int .i64 r.kd, .int .i64 r.fr, .int .i64 r.tt, .int .i64 r.rp, .int .i64 r.no, .int .i64 r.b, .int .i64 r.v, .int .i64 r.st, .int .i64 r.k, .int .i64 r.i, .int .i64 r.f, .int .i64 r.t, .int .i64 r.a, .int .i64 r.s, u]] w (NewMsg r w) := by
  have HS := Lib.hid hs
  have hb := msgAt_new w 97 r u
  clear hs
  obtain ⟨wb, hwb⟩ : ∃ wb, wb = ((w.alloc (.cells #[.int .i64 r.kd, .int .i64 r.fr, .int .i64 r.tt, .int .i64 r.rp, .int .i64 r.no, .int .i64 r.b, .int .i64 r.v, .int .i64 r.st, .int .i64 r.k, .int .i64 r.i, .int .i64 r.f, .int .i64 r.t, .int .i64 r.a, .int .i64 r.s, u] 97)).alloc (.cells #[.int .i64 0, .int .i64 0, .int .i64 0, .int .i64 0, .int .i64 0, .int .i64 0, .int .i64 0, .int .i64 0, .int .i64 0, .int .i64 0, .int .i64 0, .int .i64 0, .int .i64 0, .int .i64 0, .slice none 0 0] 77)).alloc (.cells #[.int .i64 r.kd, .int .i64 r.fr, .int .i64 r.tt, .int .i64 r.rp, .int .i64 r.no, .int .i64 r.b, .int .i64 r.v, .int .i64 r.st, .int .i64 0, .int .i64 0, .int .i64 0, .int .i64 0, .int .i64 0, .int .i64 0, .slice none 0 0] 77) := ⟨_, rfl⟩
  have h3 := msg_three w (.cells #[.int .i64 r.kd, .int .i64 r.fr, .int .i64 r.tt, .int .i64 r.rp, .int .i64 r.no, .int .i64 r.b, .int .i64 r.v, .int .i64 r.st, .int .i64 r.k, .int .i64 r.i, .int .i64 r.f, .int .i64 r.t, .int .i64 r.a, .int .i64 r.s, u] 97) r
  have xb : Ext w wb := by rw [hwb]; exact Ext.alloc3 _ _ _ _
  have sb : wb.heap.size = w.heap.size + 3 := by rw [hwb]; exact size3 _ _ _ _
  have rb : MsgAt wb w.heap.size r u := by rw [hwb]; exact hb.ext (((Ext.refl _).alloc _).alloc _)
  rw [← hwb] at h3
  have HWB := Lib.hid hwb
  have H3 := Lib.hid h3
  have SB := Lib.hid sb
  have RB := Lib.hid rb
  clear hwb h3 sb rb hb
  go_enter Tryz.func51, Tryz.ntmps51
  go_wp2_with fail
  rw [← HWB.out]
  refine (toCmd_any _ _ _ _ _ _).mono ?_
  rintro e w1 ⟨rfl, x1⟩
  have hsz : w.heap.size + 3 ≤ w1.heap.size := by have := x1.size; have := SB.out; omega
  obtain ⟨⟨⟨o0, o1, o2, o3, o4, o5, o6, o7, o8, o9, o10, o11, o12, o13, o14⟩, ⟨z0, z1, z2, z3, z4, z5, z6, z7, z8, z9, z10, z11, z12, z13, z14⟩⟩, ⟨⟨p0, p1, p2, p3, p4, p5, p6, p7, p8, p9, p10, p11, p12, p13, p14⟩, ⟨y0, y1, y2, y3, y4, y5, y6, y7, y8, y9, y10, y11, y12, y13, y14⟩⟩⟩ : (MsgAt w1 (w.heap.size + 1) _ _ ∧ FreeM w1 (w.heap.size + 1)) ∧ (MsgAt w1 (w.heap.size + 1 + 1) _ _ ∧ FreeM w1 (w.heap.size + 1 + 1)) :=
    ⟨⟨H3.out.1.1.ext x1, H3.out.1.2.ext (by have := SB.out; omega) x1⟩, ⟨H3.out.2.1.ext x1, H3.out.2.2.ext (by have := SB.out; omega) x1⟩⟩
  obtain ⟨q0, q1, q2, q3, q4, q5, q6, q7, q8, q9, q10, q11, q12, q13, q14⟩ := RB.out.ext x1
  simp only [zeroM, headM] at o0 o1 o2 o3 o4 o5 o6 o7 o8 o9 o10 o11 o12 o13 p0 p1 p2 p3 p4 p5 p6 p7 p8 p9 p10 p11 p12 p13
  go_wp2_with fail
  have xc : Ext w (((((w1.setCell ⟨w.heap.size + 1 + 1, 8, none⟩ (.int .i64 r.k)).setCell ⟨w.heap.size + 1 + 1, 9, none⟩ (.int .i64 r.i)).setCell ⟨w.heap.size + 1 + 1, 10, none⟩ (.int .i64 r.f)).setCell ⟨w.heap.size + 1 + 1, 11, none⟩ (.int .i64 r.t)).setCell ⟨w.heap.size + 1 + 1, 12, none⟩ (.int .i64 r.a)) :=
    (((((xb.trans x1).setc (by dsimp only; omega)).setc (by dsimp only; omega)).setc (by dsimp only; omega)).setc (by dsimp only; omega)).setc (by dsimp only; omega)
  have rp := msg_set5 r.k r.i r.f r.t r.a (show MsgAt w1 (w.heap.size + 1 + 1) ⟨r.kd, r.fr, r.tt, r.rp, r.no, r.b, r.v, r.st, 0, 0, 0, 0, 0, 0, []⟩ _ from ⟨p0, p1, p2, p3, p4, p5, p6, p7, p8, p9, p10, p11, p12, p13, p14⟩)
  have fp : FreeM (((((w1.setCell ⟨w.heap.size + 1 + 1, 8, none⟩ (.int .i64 r.k)).setCell ⟨w.heap.size + 1 + 1, 9, none⟩ (.int .i64 r.i)).setCell ⟨w.heap.size + 1 + 1, 10, none⟩ (.int .i64 r.f)).setCell ⟨w.heap.size + 1 + 1, 11, none⟩ (.int .i64 r.t)).setCell ⟨w.heap.size + 1 + 1, 12, none⟩ (.int .i64 r.a)) (w.heap.size + 1 + 1) :=
    freeM_set _ _ (freeM_set _ _ (freeM_set _ _ (freeM_set _ _ (freeM_set _ _ ⟨y0, y1, y2, y3, y4, y5, y6, y7, y8, y9, y10, y11, y12, y13, y14⟩))))
  have ro : MsgAt (((((w1.setCell ⟨w.heap.size + 1 + 1, 8, none⟩ (.int .i64 r.k)).setCell ⟨w.heap.size + 1 + 1, 9, none⟩ (.int .i64 r.i)).setCell ⟨w.heap.size + 1 + 1, 10, none⟩ (.int .i64 r.f)).setCell ⟨w.heap.size + 1 + 1, 11, none⟩ (.int .i64 r.t)).setCell ⟨w.heap.size + 1 + 1, 12, none⟩ (.int .i64 r.a)) (w.heap.size + 1) zeroM (.slice none 0 0) :=
    msg_apart _ _ (by simp) (msg_apart _ _ (by simp) (msg_apart _ _ (by simp) (msg_apart _ _ (by simp) (msg_apart _ _ (by simp) ⟨o0, o1, o2, o3, o4, o5, o6, o7, o8, o9, o10, o11, o12, o13, o14⟩))))
  have fo : FreeM (((((w1.setCell ⟨w.heap.size + 1 + 1, 8, none⟩ (.int .i64 r.k)).setCell ⟨w.heap.size + 1 + 1, 9, none⟩ (.int .i64 r.i)).setCell ⟨w.heap.size + 1 + 1, 10, none⟩ (.int .i64 r.f)).setCell ⟨w.heap.size + 1 + 1, 11, none⟩ (.int .i64 r.t)).setCell ⟨w.heap.size + 1 + 1, 12, none⟩ (.int .i64 r.a)) (w.heap.size + 1) :=
    freeM_set _ _ (freeM_set _ _ (freeM_set _ _ (freeM_set _ _ (freeM_set _ _ ⟨z0, z1, z2, z3, z4, z5, z6, z7, z8, z9, z10, z11, z12, z13, z14⟩))))
  have hsz2 : w.heap.size + 3 ≤ (((((w1.setCell ⟨w.heap.size + 1 + 1, 8, none⟩ (.int .i64 r.k)).setCell ⟨w.heap.size + 1 + 1, 9, none⟩ (.int .i64 r.i)).setCell ⟨w.heap.size + 1 + 1, 10, none⟩ (.int .i64 r.f)).setCell ⟨w.heap.size + 1 + 1, 11, none⟩ (.int .i64 r.t)).setCell ⟨w.heap.size + 1 + 1, 12, none⟩ (.int .i64 r.a)).heap.size := by simp only [World.size_setCell]; exact hsz
  refine (toAttr_any _ _ r.l _ (hv.ext xc) HS.out).mono ?_
  clear p0 p1 p2 p3 p4 p5 p6 p7 p8 p9 p10 p11 p12 p13 p14 o0 o1 o2 o3 o4 o5 o6 o7 o8 o9 o10 o11 o12 o13 o14 z0 z1 z2 z3 z4 z5 z6 z7 z8 z9 z10 z11 z12 z13 z14 y0 y1 y2 y3 y4 y5 y6 y7 y8 y9 y10 y11 y12 y13 y14 q0 q1 q2 q3 q4 q5 q6 q7 q8 q9 q10 q11 q12 q13 q14
  obtain ⟨wc, hwc⟩ : ∃ wc, wc = (((((w1.setCell ⟨w.heap.size + 1 + 1, 8, none⟩ (.int .i64 r.k)).setCell ⟨w.heap.size + 1 + 1, 9, none⟩ (.int .i64 r.i)).setCell ⟨w.heap.size + 1 + 1, 10, none⟩ (.int .i64 r.f)).setCell ⟨w.heap.size + 1 + 1, 11, none⟩ (.int .i64 r.t)).setCell ⟨w.heap.size + 1 + 1, 12, none⟩ (.int .i64 r.a)) := ⟨_, rfl⟩
  rw [← hwc] at xc rp fp ro fo hsz2 ⊢
  clear hwc
  rintro e w2 ⟨v, rfl, f2, x2⟩
  have hy : Ext w w2 := xc.trans x2
  obtain ⟨p0, p1, p2, p3, p4, p5, p6, p7, p8, p9, p10, p11, p12, p13, p14⟩ := rp.ext x2
  obtain ⟨o0, o1, o2, o3, o4, o5, o6, o7, o8, o9, o10, o11, o12, o13, o14⟩ := ro.ext x2
  obtain ⟨y0, y1, y2, y3, y4, y5, y6, y7, y8, y9, y10, y11, y12, y13, y14⟩ := fp.ext (by omega) x2
  obtain ⟨z0, z1, z2, z3, z4, z5, z6, z7, z8, z9, z10, z11, z12, z13, z14⟩ := fo.ext (by omega) x2
  simp only [zeroM] at o0 o1 o2 o3 o4 o5 o6 o7 o8 o9 o10 o11 o12 o13 
  obtain ⟨au, cu, rfl⟩ := f2.form
  have F := Lib.hid f2
  have HZ := Lib.hid hsz2
  clear f2 rp ro fp fo xc xb x1 x2 hsz2
  go_wp2
  refine bodyPost_ret (v := .agg #[.int .i64 r.kd, .int .i64 r.fr, .int .i64 r.tt, .int .i64 r.rp, .int .i64 r.no, .int .i64 r.b, .int .i64 r.v, .int .i64 r.st, .int .i64 r.k, .int .i64 r.i, .int .i64 r.f, .int .i64 r.t, .int .i64 r.a, .int .i64 r.s, (.slice au r.l.length cu)]) (by simp [results, Tryz.results51, go_sem, o0, o1, o2, o3, o4, o5, o6, o7, o8, o9, o10, o11, o12, o13, o14]) rfl ⟨_, rfl, ?_, ?_⟩
  · exact ((((((((((((((((((F.out.set _ _ _ (by have := HZ.out; omega)).set _ _ _ (by have := HZ.out; omega)).set _ _ _ (by have := HZ.out; omega)).set _ _ _ (by have := HZ.out; omega)).set _ _ _ (by have := HZ.out; omega)).set _ _ _ (by have := HZ.out; omega)).set _ _ _ (by have := HZ.out; omega)).set _ _ _ (by have := HZ.out; omega)).set _ _ _ (by have := HZ.out; omega)).set _ _ _ (by have := HZ.out; omega)).set _ _ _ (by have := HZ.out; omega)).set _ _ _ (by have := HZ.out; omega)).set _ _ _ (by have := HZ.out; omega)).set _ _ _ (by have := HZ.out; omega)).set _ _ _ (by have := HZ.out; omega)).set _ _ _ (by have := HZ.out; omega)).set _ _ _ (by have := HZ.out; omega))).more (by have := HZ.out; omega)
  · exact (((((((((((((((((hy.setc (by dsimp only; omega)).setc (by dsimp only; omega)).setc (by dsimp only; omega)).setc (by dsimp only; omega)).setc (by dsimp only; omega)).setc (by dsimp only; omega)).setc (by dsimp only; omega)).setc (by dsimp only; omega)).setc (by dsimp only; omega)).setc (by dsimp only; omega)).setc (by dsimp only; omega)).setc (by dsimp only; omega)).setc (by dsimp only; omega)).setc (by dsimp only; omega)).setc (by dsimp only; omega)).setc (by dsimp only; omega)).setc (by dsimp only; omega))
end Go.Proofs.YtbffkidkfannhaaGreat

namespace Go.Proofs.YtbffkidkfannhaaGreat
open Go.RowKit
set_option linter.unusedVariables false

set_option maxHeartbeats 4000000 in
theorem eqMsg_same (r : MsgD) (u v : Value) (w : World) (hu : Ints w u r.l) (hv : Ints w v r.l) :
    Calls Tryz.prog 59 #[.agg #[.int .i64 r.kd, .int .i64 r.fr, .int .i64 r.tt, .int .i64 r.rp, .int .i64 r.no, .int .i64 r.b, .int .i64 r.v, .int .i64 r.st, .int .i64 r.k, .int .i64 r.i, .int .i64 r.f, .int .i64 r.t, .int .i64 r.a, .int .i64 r.s, u], .agg #[.int .i64 r.kd, .int .i64 r.fr, .int .i64 r.tt, .int .i64 r.rp, .int .i64 r.no, .int .i64 r.b, .int .i64 r.v, .int .i64 r.st, .int .i64 r.k, .int .i64 r.i, .int .i64 r.f, .int .i64 r.t, .int .i64 r.a, .int .i64 r.s, v]] w (BoolExt true w) := by
  have h2 := two_msgs w 77 77 r r u v
  obtain ⟨wb, hwb⟩ : ∃ wb, wb = (w.alloc (.cells #[.int .i64 r.kd, .int .i64 r.fr, .int .i64 r.tt, .int .i64 r.rp, .int .i64 r.no, .int .i64 r.b, .int .i64 r.v, .int .i64 r.st, .int .i64 r.k, .int .i64 r.i, .int .i64 r.f, .int .i64 r.t, .int .i64 r.a, .int .i64 r.s, u] 77)).alloc (.cells #[.int .i64 r.kd, .int .i64 r.fr, .int .i64 r.tt, .int .i64 r.rp, .int .i64 r.no, .int .i64 r.b, .int .i64 r.v, .int .i64 r.st, .int .i64 r.k, .int .i64 r.i, .int .i64 r.f, .int .i64 r.t, .int .i64 r.a, .int .i64 r.s, v] 77) := ⟨_, rfl⟩
  have xb : Ext w wb := by rw [hwb]; exact ((Ext.refl w).alloc _).alloc _
  rw [← hwb] at h2
  have HWB := Lib.hid hwb
  have H2 := Lib.hid h2
  have e0 : (r.kd != r.kd) = false := by simp
  have e1 : (r.fr != r.fr) = false := by simp
  have e2 : (r.tt != r.tt) = false := by simp
  have e3 : (r.rp != r.rp) = false := by simp
  have e4 : (r.no != r.no) = false := by simp
  have e5 : (r.b != r.b) = false := by simp
  have e6 : (r.v != r.v) = false := by simp
  have e7 : (r.st != r.st) = false := by simp
  clear hwb h2
  go_enter Tryz.func59, Tryz.ntmps59
  go_wp2_with fail
  rw [← HWB.out]
  refine (eqCmd_same _ _ _ _ _ _).mono ?_
  rintro e w1 ⟨rfl, x1⟩
  obtain ⟨p0, p1, p2, p3, p4, p5, p6, p7, p8, p9, p10, p11, p12, p13, p14⟩ := H2.out.1.ext x1
  obtain ⟨q0, q1, q2, q3, q4, q5, q6, q7, q8, q9, q10, q11, q12, q13, q14⟩ := H2.out.2.ext x1
  go_wp2_with fail
  refine (eqAttr_same _ _ _ r.l _ (hu.ext (xb.trans x1)) (hv.ext (xb.trans x1))).mono ?_
  rintro e w2 ⟨rfl, x2⟩
  have hx := (xb.trans x1).trans x2
  clear p0 p1 p2 p3 p4 p5 p6 p7 p8 p9 p10 p11 p12 p13 p14 q0 q1 q2 q3 q4 q5 q6 q7 q8 q9 q10 q11 q12 q13 q14 x1 x2 xb
  go_wp2
  go_ret
  exact ⟨rfl, hx⟩
end Go.Proofs.YtbffkidkfannhaaGreat

namespace Go.Proofs.YtbffkidkfannhaaGreat
open Go.RowKit
set_option linter.unusedVariables false

def mesVs (d : MsgD) (u1 : Value) : List Value := [.int .i64 d.kd, .int .i64 d.fr, .int .i64 d.tt, .int .i64 d.rp, .int .i64 d.no, .int .i64 d.b, .int .i64 d.v, .int .i64 d.st, .int .i64 d.k, .int .i64 d.i, .int .i64 d.f, .int .i64 d.t, .int .i64 d.a, .int .i64 d.s, u1]
theorem mesVs_len (d : MsgD) (u1 : Value) : (mesVs d u1).length = 15 := rfl
structure MesL (w : World) (d : MsgD) (u1 : Value) : Prop where
  i1 : Ints w u1 d.l
theorem MesL.ext {w w' : World} {d : MsgD} {u1 : Value} (h : MesL w d u1) (e : Ext w w') : MesL w' d u1 := ⟨h.i1.ext e⟩
def MesIn (w : World) (b o : Nat) (d : MsgD) (u1 : Value) : Prop := ∀ j v, (mesVs d u1)[j]? = some v → w.cell? ⟨b, o + j, none⟩ = some v
theorem MesIn.ext {w w' : World} {b o : Nat} {d : MsgD} {u1 : Value} (h : MesIn w b o d u1) (e : Ext w w') : MesIn w' b o d u1 := fun j v hj => e.cell (h j v hj)
theorem mesIn_cells {w : World} {b o : Nat} {d : MsgD} {u1 : Value} (h : MesIn w b o d u1) :
    w.cell? ⟨b, o, none⟩ = some (.int .i64 d.kd) ∧ w.cell? ⟨b, o + 1, none⟩ = some (.int .i64 d.fr) ∧ w.cell? ⟨b, o + 2, none⟩ = some (.int .i64 d.tt) ∧ w.cell? ⟨b, o + 3, none⟩ = some (.int .i64 d.rp) ∧ w.cell? ⟨b, o + 4, none⟩ = some (.int .i64 d.no) ∧ w.cell? ⟨b, o + 5, none⟩ = some (.int .i64 d.b) ∧ w.cell? ⟨b, o + 6, none⟩ = some (.int .i64 d.v) ∧ w.cell? ⟨b, o + 7, none⟩ = some (.int .i64 d.st) ∧ w.cell? ⟨b, o + 8, none⟩ = some (.int .i64 d.k) ∧ w.cell? ⟨b, o + 9, none⟩ = some (.int .i64 d.i) ∧ w.cell? ⟨b, o + 10, none⟩ = some (.int .i64 d.f) ∧ w.cell? ⟨b, o + 11, none⟩ = some (.int .i64 d.t) ∧ w.cell? ⟨b, o + 12, none⟩ = some (.int .i64 d.a) ∧ w.cell? ⟨b, o + 13, none⟩ = some (.int .i64 d.s) ∧ w.cell? ⟨b, o + 14, none⟩ = some (u1) :=
  ⟨h 0 _ rfl, h 1 _ rfl, h 2 _ rfl, h 3 _ rfl, h 4 _ rfl, h 5 _ rfl, h 6 _ rfl, h 7 _ rfl, h 8 _ rfl, h 9 _ rfl, h 10 _ rfl, h 11 _ rfl, h 12 _ rfl, h 13 _ rfl, h 14 _ rfl⟩
theorem mes_cells {w : World} {b : Nat} {d : MsgD} {u1 : Value} (h : BoxV w b (mesVs d u1)) :
    w.cell? ⟨b, 0, none⟩ = some (.int .i64 d.kd) ∧ w.cell? ⟨b, 1, none⟩ = some (.int .i64 d.fr) ∧ w.cell? ⟨b, 2, none⟩ = some (.int .i64 d.tt) ∧ w.cell? ⟨b, 3, none⟩ = some (.int .i64 d.rp) ∧ w.cell? ⟨b, 4, none⟩ = some (.int .i64 d.no) ∧ w.cell? ⟨b, 5, none⟩ = some (.int .i64 d.b) ∧ w.cell? ⟨b, 6, none⟩ = some (.int .i64 d.v) ∧ w.cell? ⟨b, 7, none⟩ = some (.int .i64 d.st) ∧ w.cell? ⟨b, 8, none⟩ = some (.int .i64 d.k) ∧ w.cell? ⟨b, 9, none⟩ = some (.int .i64 d.i) ∧ w.cell? ⟨b, 10, none⟩ = some (.int .i64 d.f) ∧ w.cell? ⟨b, 11, none⟩ = some (.int .i64 d.t) ∧ w.cell? ⟨b, 12, none⟩ = some (.int .i64 d.a) ∧ w.cell? ⟨b, 13, none⟩ = some (.int .i64 d.s) ∧ w.cell? ⟨b, 14, none⟩ = some (u1) :=
  ⟨h.cell 0 _ rfl, h.cell 1 _ rfl, h.cell 2 _ rfl, h.cell 3 _ rfl, h.cell 4 _ rfl, h.cell 5 _ rfl, h.cell 6 _ rfl, h.cell 7 _ rfl, h.cell 8 _ rfl, h.cell 9 _ rfl, h.cell 10 _ rfl, h.cell 11 _ rfl, h.cell 12 _ rfl, h.cell 13 _ rfl, h.cell 14 _ rfl⟩
theorem mes_box (w : World) (T : TypeId) (d : MsgD) (u1 : Value) : BoxV (w.alloc (.cells #[.int .i64 d.kd, .int .i64 d.fr, .int .i64 d.tt, .int .i64 d.rp, .int .i64 d.no, .int .i64 d.b, .int .i64 d.v, .int .i64 d.st, .int .i64 d.k, .int .i64 d.i, .int .i64 d.f, .int .i64 d.t, .int .i64 d.a, .int .i64 d.s, u1] T)) w.heap.size (mesVs d u1) := boxV_new w (mesVs d u1) T
/-- v is a slice that reads as L in w. -/
def Mesz (w : World) (v : Value) (L : List MsgD) : Prop :=
  ∃ ao cap, v = .slice ao L.length cap ∧ L.length ≤ maxLen ∧ (L.length ≤ cap ∧ cap ≤ maxLen ∧ (ao = none → cap = 0)) ∧
    (0 < L.length → ∃ b off, ao = some ⟨b, off, none⟩ ∧ ∀ j (h : j < L.length), ∃ u1, MesIn w b (off + j * 15) L[j] u1 ∧ MesL w L[j] u1)
theorem Mesz.ext {w w' : World} {v : Value} {L : List MsgD} (h : Mesz w v L) (e : Ext w w') : Mesz w' v L := by
  obtain ⟨ao, cap, hv, hm, hcap, hc⟩ := h
  refine ⟨ao, cap, hv, hm, hcap, fun hp => ?_⟩
  obtain ⟨b, off, ha, hc⟩ := hc hp
  refine ⟨b, off, ha, fun j hj => ?_⟩
  obtain ⟨u1, hu, hi⟩ := hc j hj
  exact ⟨u1, hu.ext e, hi.ext e⟩
theorem Mesz.nil (w : World) : Mesz w (.slice none 0 0) [] := ⟨none, 0, rfl, by simp, ⟨by simp, by simp, fun _ => rfl⟩, fun h => by simp at h⟩
def bulk1Mes (d : MsgD) : Nat := d.l.length
def weighMes (L : List MsgD) : List Nat := L.map bulk1Mes
theorem weighMes_len (L : List MsgD) : (weighMes L).length = L.length := by simp [weighMes]
theorem weighMes_get {L : List MsgD} {k : Nat} (h : k < L.length) : (weighMes L)[k]'(by rw [weighMes_len]; exact h) = bulk1Mes L[k] := by simp [weighMes]
def bulkMes (L : List MsgD) : Nat := L.length + (weighMes L).sum
theorem bulkMes_at {L : List MsgD} {j : Nat} (h : j < L.length) : bulk1Mes L[j] ≤ bulkMes L := by
  unfold bulkMes weighMes
  have := len_le_sum (L.map bulk1Mes) _ (List.mem_map.2 ⟨L[j], List.getElem_mem h, rfl⟩)
  omega
/-- From o on the list xs has the cells of the element. -/
def XMes (xs : List Value) (o : Nat) (d : MsgD) (u1 : Value) : Prop := ∀ q v, (mesVs d u1)[q]? = some v → xs[o + q]? = some v
theorem mes_lt {d : MsgD} {u1 : Value} {v : Value} {q : Nat} (h : (mesVs d u1)[q]? = some v) : q < 15 := by
  have := (List.getElem?_eq_some_iff.1 h).1
  rwa [mesVs_len] at this
theorem XMes.put_other {xs vs : List Value} {o p : Nat} {d : MsgD} {u1 : Value} (h : XMes xs o d u1) (hv : vs.length = 15) (hap : o + 15 ≤ p ∨ p + 15 ≤ o) : XMes (putL xs p vs) o d u1 := by
  intro q v hq
  have := mes_lt hq
  rw [putL_out _ _ _ _ (by omega)]
  exact h q v hq
theorem XMes.put {xs : List Value} {o : Nat} {d : MsgD} {u1 : Value} (h : o + 15 ≤ xs.length) : XMes (putL xs o (mesVs d u1)) o d u1 := by
  intro q v hq
  have := mes_lt hq
  rw [putL_in _ o xs q (by rw [mesVs_len]; exact this) (by rw [mesVs_len]; exact h)]
  exact hq
theorem XMes.isIn {w : World} {b o : Nat} {xs : List Value} {d : MsgD} {u1 : Value} (h : BoxV w b xs) (hx : XMes xs o d u1) : MesIn w b o d u1 := fun q v hq => h.cell _ _ (hx q v hq)
/-- Its lists lie in blocks from lo on, below hi. -/
def MesE (lo hi : Nat) (w : World) (d : MsgD) (u1 : Value) : Prop := FrR lo hi w u1 d.l
theorem MesE.kept {lo hi : Nat} {w w' : World} {d : MsgD} {u1 : Value} (h : MesE lo hi w d u1) (s : Stood lo hi w w') : MesE lo hi w' d u1 := by unfold MesE at h ⊢; exact h.kept s
theorem MesE.more {lo hi lo' hi' : Nat} {w : World} {d : MsgD} {u1 : Value} (h : MesE lo hi w d u1) (p : lo' ≤ lo) (q : hi ≤ hi') : MesE lo' hi' w d u1 := by unfold MesE at h ⊢; exact h.more p q
theorem MesE.reads {lo hi : Nat} {w : World} {d : MsgD} {u1 : Value} (h : MesE lo hi w d u1) : MesL w d u1 := by unfold MesE at h; exact ⟨h.fresh.ints⟩
/-- The first k stand in the block's cells xs, their lists in ranges of blocks. -/
def MessTo (cut : Nat → Nat) (w : World) (xs : List Value) (L : List MsgD) (k : Nat) : Prop := ∀ j (h : j < L.length), j < k → ∃ u1, XMes xs (j * 15) L[j] u1 ∧ MesE (cut j) (cut (j + 1)) w L[j] u1
theorem MessTo.kept {lo hi k : Nat} {cut : Nat → Nat} {w w' : World} {xs : List Value} {L : List MsgD} (h : MessTo cut w xs L k) (c : CutOk lo k hi cut) (s : Stood lo hi w w') : MessTo cut w' xs L k := fun j hj hk => by
  obtain ⟨u1, a, b⟩ := h j hj hk
  exact ⟨u1, a, b.kept (s.within (c.low (by omega)) (c.high (by omega)))⟩
theorem MessTo.put {g k e : Nat} {cut : Nat → Nat} {w : World} {xs : List Value} {L : List MsgD} {u1 : Value} (h : MessTo cut w xs L k) (c : CutOk (g + 1) k w.heap.size cut) (hk : k < L.length) (hl : xs.length = L.length * 15) (he : e ≤ w.heap.size) (hf : MesE (cut k) e w L[k] u1) :
    MessTo (cutTo cut k e) (w.setCells g (k * 15) (mesVs L[k] u1)) (putL xs (k * 15) (mesVs L[k] u1)) L (k + 1) := by
  have hs : Stood (g + 1) w.heap.size w (w.setCells g (k * 15) (mesVs L[k] u1)) := (ins_puts (lo := g) (hi := g + 1) (Nat.le_refl g) (Nat.lt_succ_self g) (mesVs L[k] u1) (k * 15) w).stood (Nat.le_refl _) (.inr (Nat.le_refl _))
  intro j hj hjk
  by_cases ej : j = k
  · subst ej
    rw [cutTo_old (Nat.le_refl _), cutTo_new]
    exact ⟨u1, XMes.put (by omega), hf.kept (hs.within (c.low (Nat.le_refl _)) he)⟩
  · obtain ⟨v0, a, b⟩ := h j hj (by omega)
    rw [cutTo_old (by omega), cutTo_old (by omega)]
    exact ⟨v0, a.put_other (mesVs_len _ _) (by omega), b.kept (hs.within (c.low (by omega)) (c.high (by omega)))⟩
/-- v is a slice of such in a block from lo on that may be written, their lists in blocks behind it; all below hi. -/
def MeszM (lo hi : Nat) (w : World) (v : Value) (L : List MsgD) : Prop :=
  ∃ g xs cut, lo ≤ g ∧ v = .slice (some ⟨g, 0, none⟩) L.length L.length ∧ L.length ≤ maxLen ∧ BoxV w g xs ∧ xs.length = L.length * 15 ∧ CutOk (g + 1) L.length hi cut ∧ MessTo cut w xs L L.length
theorem MeszM.reads {lo hi : Nat} {w : World} {v : Value} {L : List MsgD} (h : MeszM lo hi w v L) : Mesz w v L := by
  obtain ⟨g, xs, cut, _, rfl, hm, hb, _, _, hc⟩ := h
  refine ⟨some ⟨g, 0, none⟩, _, rfl, hm, ⟨Nat.le_refl _, hm, fun h => by cases h⟩, fun _ => ⟨g, 0, rfl, fun j hj => ?_⟩⟩
  obtain ⟨u1, a, b⟩ := hc j hj hj
  exact ⟨u1, by rw [Nat.zero_add]; exact a.isIn hb, b.reads⟩
theorem MeszM.kept {lo hi : Nat} {w w' : World} {v : Value} {L : List MsgD} (h : MeszM lo hi w v L) (s : Stood lo hi w w') : MeszM lo hi w' v L := by
  obtain ⟨g, xs, cut, hg, hv, hm, hb, hl, hk, hc⟩ := h
  have hgh : g + 1 ≤ hi := Nat.le_trans hk.lo (hk.high (Nat.zero_le _))
  exact ⟨g, xs, cut, hg, hv, hm, hb.kept s hg hgh, hl, hk, hc.kept hk (s.within (by omega) (Nat.le_refl _))⟩
theorem MeszM.more {lo lo' hi hi' : Nat} {w : World} {v : Value} {L : List MsgD} (h : MeszM lo hi w v L) (h1 : lo' ≤ lo) (h2 : hi ≤ hi') : MeszM lo' hi' w v L := by
  obtain ⟨g, xs, cut, hg, hv, hm, hb, hl, hk, hc⟩ := h
  exact ⟨g, xs, cut, Nat.le_trans h1 hg, hv, hm, hb, hl, hk.more (Nat.le_refl _) h2, hc⟩
theorem MeszM.form {lo hi : Nat} {w : World} {v : Value} {L : List MsgD} (h : MeszM lo hi w v L) : ∃ a c, v = .slice a L.length c := by
  obtain ⟨g, _, _, _, hv, _⟩ := h
  exact ⟨_, _, hv⟩
def NewMesS (L : List MsgD) (w : World) (e : Ending) (w' : World) : Prop := ∃ v, e = .returned v ∧ MeszM w.heap.size w'.heap.size w' v L ∧ Ext w w'
theorem setCells_mes (w : World) (g o : Nat) (d : MsgD) (u1 : Value) :
    w.setCells g o (mesVs d u1) = (((((((((((((((w.setCell ⟨g, o, none⟩ (.int .i64 d.kd)).setCell ⟨g, o + 1, none⟩ (.int .i64 d.fr)).setCell ⟨g, o + 2, none⟩ (.int .i64 d.tt)).setCell ⟨g, o + 3, none⟩ (.int .i64 d.rp)).setCell ⟨g, o + 4, none⟩ (.int .i64 d.no)).setCell ⟨g, o + 5, none⟩ (.int .i64 d.b)).setCell ⟨g, o + 6, none⟩ (.int .i64 d.v)).setCell ⟨g, o + 7, none⟩ (.int .i64 d.st)).setCell ⟨g, o + 8, none⟩ (.int .i64 d.k)).setCell ⟨g, o + 9, none⟩ (.int .i64 d.i)).setCell ⟨g, o + 10, none⟩ (.int .i64 d.f)).setCell ⟨g, o + 11, none⟩ (.int .i64 d.t)).setCell ⟨g, o + 12, none⟩ (.int .i64 d.a)).setCell ⟨g, o + 13, none⟩ (.int .i64 d.s)).setCell ⟨g, o + 14, none⟩ (u1)) := rfl
end Go.Proofs.YtbffkidkfannhaaGreat

namespace Go.Proofs.YtbffkidkfannhaaGreat
open Go.RowKit
set_option linter.unusedVariables false

set_option maxHeartbeats 2000000 in
set_option maxRecDepth 100000 in
theorem szMesS_any (v : Value) (R : List MsgD) (left : Int) (w : World) (hv : Mesz w v R) (h0 : 0 ≤ left) (h1 : left ≤ 1099511627776) :
    Calls Tryz.prog 21 #[v, .int .i64 left] w (IntExt (lessened left (bulkMes R)) w) := by
  obtain ⟨av, cv, rfl, hlv, _, hcv⟩ := hv
  unfold maxLen at hlv
  have hb : bulkMes R = R.length + (weighMes R).sum := rfl
  by_cases hlt : left < R.length
  · rw [lessened_no (by omega)]
    clear hb hcv
    go_enter Tryz.func21, Tryz.ntmps21
    go_wp2
    go_ret
    exact ⟨rfl, Ext.refl _⟩
  · have HBK := Lib.hid hb
    have hle : (R.length : Int) ≤ left := by omega
    clear hb hlt
    go_enter Tryz.func21, Tryz.ntmps21
    go_wp2
    go_loopw [1, 5] (fun m i wr => ∃ (k : Nat) (r : Int), k ≤ R.length ∧ i = .int .i64 k ∧ m = .int .i64 r ∧ 0 ≤ r ∧ Hid (r = left - R.length - sumN (weighMes R) k) ∧ Ext w wr) (fun _ i _ => R.length - (intOf i).toNat)
    case atStart => exact ⟨0, left - R.length, Nat.zero_le _, rfl, rfl, by omega, Lib.hid (by rw [sumN_zero]; simp), Ext.refl _⟩
    case round =>
      obtain ⟨k, r, hk, rfl, rfl, hr0, hr, hx⟩ := hrel
      have hr1 : r ≤ 1099511627776 := by have := hr.out; omega
      by_cases hlt : k < R.length
      · obtain ⟨b, off, rfl, dv⟩ := hcv (by omega)
        obtain ⟨u1, hu, iu⟩ := dv k hlt
        have hs := sumN_succ (g := weighMes R) (k := k) (by rw [weighMes_len]; exact hlt)
        rw [weighMes_get hlt] at hs
        obtain ⟨d, hd⟩ : ∃ d, d = R[k] := ⟨_, rfl⟩
        rw [← hd] at hu iu hs
        obtain ⟨p0, p1, p2, p3, p4, p5, p6, p7, p8, p9, p10, p11, p12, p13, p14⟩ := mesIn_cells (hu.ext hx)
        have IU := Lib.hid (iu.ext hx)
        have HS := Lib.hid hs
        clear hcv dv hu iu hs hd
        obtain ⟨q, hq⟩ : ∃ q, q = bulk1Mes d := ⟨_, rfl⟩
        have HC : Hid (∀ (a : Int), 0 ≤ a → a ≤ 1099511627776 → Calls Tryz.prog 47 #[.agg #[.int .i64 d.kd, .int .i64 d.fr, .int .i64 d.tt, .int .i64 d.rp, .int .i64 d.no, .int .i64 d.b, .int .i64 d.v, .int .i64 d.st, .int .i64 d.k, .int .i64 d.i, .int .i64 d.f, .int .i64 d.t, .int .i64 d.a, .int .i64 d.s, u1], .int .i64 a] wr (IntExt (lessened a q) wr)) := Lib.hid (fun a h0 h1 => by rw [hq]; exact szMsg_any d u1 a _ IU.out.i1 h0 h1)
        rw [← hq] at HS
        clear hq
        by_cases hl : r < q
        · have L := Lib.hid (lessened_no hl)
          have hsum := sumN_mono (g := weighMes R) (k := k + 1) (by rw [weighMes_len]; omega)
          have HL := Lib.hid (show lessened left (bulkMes R) = -1 from lessened_no (by have h1 := hr.out; have h2 := HS.out; have h3 := HBK.out; omega))
          clear hl hsum
          go_wp2_with fail
          refine (HC.out _ hr0 (by omega)).mono ?_
          rintro e w2 ⟨rfl, x2⟩
          have hx2 := hx.trans x2
          clear x2 hx p0 p1 p2 p3 p4 p5 p6 p7 p8 p9 p10 p11 p12 p13 p14
          rw [L.out]
          go_wp2
          go_ret
          exact ⟨by rw [HL.out]; first | done | rfl, hx2⟩
        · obtain ⟨y, hy⟩ : ∃ y, y = r - (q : Int) := ⟨_, rfl⟩
          have hy0 : 0 ≤ y := by omega
          have L : Hid (lessened r q = y) := Lib.hid (by rw [hy]; exact lessened_yes (by omega))
          have HQ := Lib.hid hy
          clear hl hy
          go_wp2_with fail
          refine (HC.out _ hr0 (by omega)).mono ?_
          rintro e w2 ⟨rfl, x2⟩
          have hx2 := hx.trans x2
          clear x2 hx p0 p1 p2 p3 p4 p5 p6 p7 p8 p9 p10 p11 p12 p13 p14
          rw [L.out]
          go_wp2
          go_roundw
          case rel => exact ⟨k + 1, y, by omega, by go_num, rfl, hy0, Lib.hid (by have h1 := hr.out; have h2 := HS.out; have h3 := HQ.out; omega), hx2⟩
          case measure => simp [intOf]; omega
      · obtain rfl : k = R.length := by omega
        go_wp2
        go_ret
        refine ⟨?_, hx⟩
        have h1 := hr.out
        have h3 := HBK.out
        have h4 := sumN_all (weighMes R)
        rw [weighMes_len] at h4
        have he : lessened left (bulkMes R) = r := by rw [lessened_yes (by omega)]; omega
        rw [he]; first | done | rfl
end Go.Proofs.YtbffkidkfannhaaGreat

namespace Go.Proofs.YtbffkidkfannhaaGreat
open Go.RowKit
set_option linter.unusedVariables false

structure AskD where
  rp : Int
  no : Int
  k : Int
  i : Int
  f : Int
  t : Int
  a : Int
def askVs (d : AskD) : List Value := [.int .i64 d.rp, .int .i64 d.no, .int .i64 d.k, .int .i64 d.i, .int .i64 d.f, .int .i64 d.t, .int .i64 d.a]
theorem askVs_len (d : AskD) : (askVs d ).length = 7 := rfl
def AskIn (w : World) (b o : Nat) (d : AskD) : Prop := ∀ j v, (askVs d )[j]? = some v → w.cell? ⟨b, o + j, none⟩ = some v
theorem AskIn.ext {w w' : World} {b o : Nat} {d : AskD} (h : AskIn w b o d ) (e : Ext w w') : AskIn w' b o d  := fun j v hj => e.cell (h j v hj)
theorem askIn_cells {w : World} {b o : Nat} {d : AskD} (h : AskIn w b o d ) :
    w.cell? ⟨b, o, none⟩ = some (.int .i64 d.rp) ∧ w.cell? ⟨b, o + 1, none⟩ = some (.int .i64 d.no) ∧ w.cell? ⟨b, o + 2, none⟩ = some (.int .i64 d.k) ∧ w.cell? ⟨b, o + 3, none⟩ = some (.int .i64 d.i) ∧ w.cell? ⟨b, o + 4, none⟩ = some (.int .i64 d.f) ∧ w.cell? ⟨b, o + 5, none⟩ = some (.int .i64 d.t) ∧ w.cell? ⟨b, o + 6, none⟩ = some (.int .i64 d.a) :=
  ⟨h 0 _ rfl, h 1 _ rfl, h 2 _ rfl, h 3 _ rfl, h 4 _ rfl, h 5 _ rfl, h 6 _ rfl⟩
theorem ask_cells {w : World} {b : Nat} {d : AskD} (h : BoxV w b (askVs d )) :
    w.cell? ⟨b, 0, none⟩ = some (.int .i64 d.rp) ∧ w.cell? ⟨b, 1, none⟩ = some (.int .i64 d.no) ∧ w.cell? ⟨b, 2, none⟩ = some (.int .i64 d.k) ∧ w.cell? ⟨b, 3, none⟩ = some (.int .i64 d.i) ∧ w.cell? ⟨b, 4, none⟩ = some (.int .i64 d.f) ∧ w.cell? ⟨b, 5, none⟩ = some (.int .i64 d.t) ∧ w.cell? ⟨b, 6, none⟩ = some (.int .i64 d.a) :=
  ⟨h.cell 0 _ rfl, h.cell 1 _ rfl, h.cell 2 _ rfl, h.cell 3 _ rfl, h.cell 4 _ rfl, h.cell 5 _ rfl, h.cell 6 _ rfl⟩
theorem ask_box (w : World) (T : TypeId) (d : AskD) : BoxV (w.alloc (.cells #[.int .i64 d.rp, .int .i64 d.no, .int .i64 d.k, .int .i64 d.i, .int .i64 d.f, .int .i64 d.t, .int .i64 d.a] T)) w.heap.size (askVs d ) := boxV_new w (askVs d ) T
/-- v is a slice that reads as L in w. -/
def Askz (w : World) (v : Value) (L : List AskD) : Prop :=
  ∃ ao cap, v = .slice ao L.length cap ∧ L.length ≤ maxLen ∧ (L.length ≤ cap ∧ cap ≤ maxLen ∧ (ao = none → cap = 0)) ∧
    (0 < L.length → ∃ b off, ao = some ⟨b, off, none⟩ ∧ ∀ j (h : j < L.length), AskIn w b (off + j * 7) L[j] )
theorem Askz.ext {w w' : World} {v : Value} {L : List AskD} (h : Askz w v L) (e : Ext w w') : Askz w' v L := by
  obtain ⟨ao, cap, hv, hm, hcap, hc⟩ := h
  refine ⟨ao, cap, hv, hm, hcap, fun hp => ?_⟩
  obtain ⟨b, off, ha, hc⟩ := hc hp
  refine ⟨b, off, ha, fun j hj => ?_⟩
  have hu := hc j hj
  exact hu.ext e
theorem Askz.nil (w : World) : Askz w (.slice none 0 0) [] := ⟨none, 0, rfl, by simp, ⟨by simp, by simp, fun _ => rfl⟩, fun h => by simp at h⟩
def bulk1Ask (d : AskD) : Nat := 0
def weighAsk (L : List AskD) : List Nat := L.map bulk1Ask
theorem weighAsk_len (L : List AskD) : (weighAsk L).length = L.length := by simp [weighAsk]
theorem weighAsk_get {L : List AskD} {k : Nat} (h : k < L.length) : (weighAsk L)[k]'(by rw [weighAsk_len]; exact h) = bulk1Ask L[k] := by simp [weighAsk]
def bulkAsk (L : List AskD) : Nat := L.length + (weighAsk L).sum
theorem bulkAsk_at {L : List AskD} {j : Nat} (h : j < L.length) : bulk1Ask L[j] ≤ bulkAsk L := by
  unfold bulkAsk weighAsk
  have := len_le_sum (L.map bulk1Ask) _ (List.mem_map.2 ⟨L[j], List.getElem_mem h, rfl⟩)
  omega
/-- From o on the list xs has the cells of the element. -/
def XAsk (xs : List Value) (o : Nat) (d : AskD) : Prop := ∀ q v, (askVs d )[q]? = some v → xs[o + q]? = some v
theorem ask_lt {d : AskD} {v : Value} {q : Nat} (h : (askVs d )[q]? = some v) : q < 7 := by
  have := (List.getElem?_eq_some_iff.1 h).1
  rwa [askVs_len] at this
theorem XAsk.put_other {xs vs : List Value} {o p : Nat} {d : AskD} (h : XAsk xs o d ) (hv : vs.length = 7) (hap : o + 7 ≤ p ∨ p + 7 ≤ o) : XAsk (putL xs p vs) o d  := by
  intro q v hq
  have := ask_lt hq
  rw [putL_out _ _ _ _ (by omega)]
  exact h q v hq
theorem XAsk.put {xs : List Value} {o : Nat} {d : AskD} (h : o + 7 ≤ xs.length) : XAsk (putL xs o (askVs d )) o d  := by
  intro q v hq
  have := ask_lt hq
  rw [putL_in _ o xs q (by rw [askVs_len]; exact this) (by rw [askVs_len]; exact h)]
  exact hq
theorem XAsk.isIn {w : World} {b o : Nat} {xs : List Value} {d : AskD} (h : BoxV w b xs) (hx : XAsk xs o d ) : AskIn w b o d  := fun q v hq => h.cell _ _ (hx q v hq)
/-- The first k stand in the block's cells xs. -/
def AsksTo (xs : List Value) (L : List AskD) (k : Nat) : Prop := ∀ j (h : j < L.length), j < k → XAsk xs (j * 7) L[j]
theorem AsksTo.put {k : Nat} {xs : List Value} {L : List AskD} (h : AsksTo xs L k) (hk : k < L.length) (hl : xs.length = L.length * 7) : AsksTo (putL xs (k * 7) (askVs L[k])) L (k + 1) := by
  intro j hj hjk
  by_cases e : j = k
  · subst e
    exact XAsk.put (by omega)
  · exact XAsk.put_other (h j hj (by omega)) (askVs_len _) (by omega)
/-- v is a slice of such in a block from lo on, below hi, that may be written. -/
def AskzM (lo hi : Nat) (w : World) (v : Value) (L : List AskD) : Prop :=
  ∃ g xs, lo ≤ g ∧ g < hi ∧ v = .slice (some ⟨g, 0, none⟩) L.length L.length ∧ L.length ≤ maxLen ∧ BoxV w g xs ∧ xs.length = L.length * 7 ∧ AsksTo xs L L.length
theorem AskzM.reads {lo hi : Nat} {w : World} {v : Value} {L : List AskD} (h : AskzM lo hi w v L) : Askz w v L := by
  obtain ⟨g, xs, _, _, rfl, hm, hb, _, hc⟩ := h
  refine ⟨some ⟨g, 0, none⟩, _, rfl, hm, ⟨Nat.le_refl _, hm, fun h => by cases h⟩, fun _ => ⟨g, 0, rfl, fun j hj => ?_⟩⟩
  have a := hc j hj hj
  rw [Nat.zero_add]; exact XAsk.isIn hb a
theorem AskzM.kept {lo hi : Nat} {w w' : World} {v : Value} {L : List AskD} (h : AskzM lo hi w v L) (s : Stood lo hi w w') : AskzM lo hi w' v L := by
  obtain ⟨g, xs, hg, hh, hv, hm, hb, hl, hc⟩ := h
  exact ⟨g, xs, hg, hh, hv, hm, hb.kept s hg hh, hl, hc⟩
theorem AskzM.more {lo lo' hi hi' : Nat} {w : World} {v : Value} {L : List AskD} (h : AskzM lo hi w v L) (h1 : lo' ≤ lo) (h2 : hi ≤ hi') : AskzM lo' hi' w v L := by
  obtain ⟨g, xs, hg, hh, r⟩ := h
  exact ⟨g, xs, Nat.le_trans h1 hg, Nat.lt_of_lt_of_le hh h2, r⟩
theorem AskzM.form {lo hi : Nat} {w : World} {v : Value} {L : List AskD} (h : AskzM lo hi w v L) : ∃ a c, v = .slice a L.length c := by
  obtain ⟨g, _, _, _, hv, _⟩ := h
  exact ⟨_, _, hv⟩
def NewAskS (L : List AskD) (w : World) (e : Ending) (w' : World) : Prop := ∃ v, e = .returned v ∧ AskzM w.heap.size w'.heap.size w' v L ∧ Ext w w'
theorem setCells_ask (w : World) (g o : Nat) (d : AskD) :
    w.setCells g o (askVs d ) = (((((((w.setCell ⟨g, o, none⟩ (.int .i64 d.rp)).setCell ⟨g, o + 1, none⟩ (.int .i64 d.no)).setCell ⟨g, o + 2, none⟩ (.int .i64 d.k)).setCell ⟨g, o + 3, none⟩ (.int .i64 d.i)).setCell ⟨g, o + 4, none⟩ (.int .i64 d.f)).setCell ⟨g, o + 5, none⟩ (.int .i64 d.t)).setCell ⟨g, o + 6, none⟩ (.int .i64 d.a)) := rfl
end Go.Proofs.YtbffkidkfannhaaGreat

namespace Go.Proofs.YtbffkidkfannhaaGreat
open Go.RowKit
set_option linter.unusedVariables false

theorem weighAsk_zero (R : List AskD) : (weighAsk R).sum = 0 := by
  induction R with
  | nil => rfl
  | cons a t ih =>
    show 0 + (weighAsk t).sum = 0
    rw [ih]
set_option maxHeartbeats 2000000 in
set_option maxRecDepth 100000 in
theorem szAskS_any (v : Value) (R : List AskD) (left : Int) (w : World) (hv : Askz w v R) (h0 : 0 ≤ left) (h1 : left ≤ 1099511627776) :
    Calls Tryz.prog 22 #[v, .int .i64 left] w (IntExt (lessened left (bulkAsk R)) w) := by
  obtain ⟨av, cv, rfl, hlv, _, hcv⟩ := hv
  unfold maxLen at hlv
  have hb : bulkAsk R = R.length + (weighAsk R).sum := rfl
  by_cases hlt : left < R.length
  · rw [lessened_no (by omega)]
    clear hb hcv
    go_enter Tryz.func22, Tryz.ntmps22
    go_wp2
    go_ret
    exact ⟨rfl, Ext.refl _⟩
  · have hw := weighAsk_zero R
    have hq : lessened left (bulkAsk R) = left - R.length := by rw [lessened_yes (by omega)]; omega
    rw [hq]
    clear hb hcv hq hw
    go_enter Tryz.func22, Tryz.ntmps22
    go_wp2
    go_ret
    exact ⟨rfl, Ext.refl _⟩
end Go.Proofs.YtbffkidkfannhaaGreat

namespace Go.Proofs.YtbffkidkfannhaaGreat
open Go.RowKit
set_option linter.unusedVariables false

set_option maxHeartbeats 4000000 in
set_option maxRecDepth 100000 in
theorem eqRepS_same (u v : Value) (L : List RepD) (w : World) (hu : Repz w u L) (hv : Repz w v L) :
    Calls Tryz.prog 30 #[u, v] w (BoolExt true w) := by
  obtain ⟨au, cu, rfl, hlu, _, hcu⟩ := hu
  obtain ⟨av, cv, rfl, hlv, _, hcv⟩ := hv
  unfold maxLen at hlu hlv
  have e0 : ((L.length : Int) != (L.length : Int)) = false := by simp
  go_enter Tryz.func30, Tryz.ntmps30
  go_wp2
  go_loopw [5] (fun i wr => ∃ k : Nat, k ≤ L.length ∧ i = .int .i64 k ∧ Ext w wr) (fun i _ => L.length - (intOf i).toNat)
  case atStart => exact ⟨0, Nat.zero_le _, rfl, Ext.refl _⟩
  case round =>
    obtain ⟨k, hk, rfl, hx⟩ := hrel
    by_cases hlt : k < L.length
    · obtain ⟨bu, ou, rfl, du⟩ := hcu (by omega)
      obtain ⟨bv, ov, rfl, dv⟩ := hcv (by omega)
      obtain ⟨u1, u2, hx1, ix⟩ := du k hlt
      obtain ⟨v1, v2, hy1, iy⟩ := dv k hlt
      obtain ⟨d, hd⟩ : ∃ d, d = L[k] := ⟨_, rfl⟩
      rw [← hd] at hx1 hy1 ix iy
      obtain ⟨p0, p1, p2, p3⟩ := repIn_cells (hx1.ext hx)
      obtain ⟨q0, q1, q2, q3⟩ := repIn_cells (hy1.ext hx)
      have cE : ∀ E : ExtOf wr, Calls Tryz.prog 58 #[.agg #[.int .i64 d.me, .int .i64 d.n, u1, u2], .agg #[.int .i64 d.me, .int .i64 d.n, v1, v2]] E.1 (BoolExt true E.1) := fun E => eqReplica_same _ _ _ _ _ _ d.T d.L _ ((ix.i1.ext hx).ext E.2) ((ix.i2.ext hx).ext E.2) ((iy.i1.ext hx).ext E.2) ((iy.i2.ext hx).ext E.2)
      have p0 := fun E : ExtOf wr => E.cell p0
      have q0 := fun E : ExtOf wr => E.cell q0
      have p1 := fun E : ExtOf wr => E.cell p1
      have q1 := fun E : ExtOf wr => E.cell q1
      have p2 := fun E : ExtOf wr => E.cell p2
      have q2 := fun E : ExtOf wr => E.cell q2
      have p3 := fun E : ExtOf wr => E.cell p3
      have q3 := fun E : ExtOf wr => E.cell q3
      have HX := Lib.hid hx
      have HLT := Lib.hid hlt
      clear hcu hcv du dv hx1 hy1 ix iy hd hx
      go_wp2_with fail
      refine wp_region_ext_lit (by kernel_rfl) (by kernel_rfl) ?_
      repeat (go_big_quiet_step (first | (go_at_call 58; with_reducible exact Calls.ext_of _ (cE _))))
      refine wpQuiet_nil ?_
      rintro _ ⟨E, rfl⟩
      have hx2 : Ext w E.1 := HX.out.trans E.2
      clear cE p0 p1 p2 p3 q0 q1 q2 q3
      go_wp2
      go_roundw
      case rel => exact ⟨k + 1, by have := HLT.out; omega, by go_num, hx2⟩
      case measure => simp [intOf]; have := HLT.out; omega
    · obtain rfl : k = L.length := by omega
      go_wp2
      go_ret
      exact ⟨rfl, hx⟩
end Go.Proofs.YtbffkidkfannhaaGreat
