/- Texts of this proof, part f: words, plain facts, contracts. -/
import Derived.Test.YtcpmfcigciknlaaGreatNBookOfb
import Derived.Test.YtcpmfcigciknlaaGreatNBookOfe
import Derived.WalkArith
import Derived.Test.YtcpmfcigciknlaaGreatNBookOfc
import Derived.Maps.AppendAt
import Derived.Test.YtcpmfcigciknlaaGreatNBookOfa
set_option linter.unusedVariables false
set_option linter.unusedSimpArgs false

namespace Go.Proofs.YtcpmfcigciknlaaGreat
open Go.RowKit Go.Maps
set_option linter.unusedVariables false
theorem wf_small {x : Int} (h0 : 0 ≤ x) (h1 : x ≤ 1048577) : wf64 x := by
  exact WalkArith.wf_i64 (by omega)
/-! ### A table, its lists named -/
def RowsAt (w : World) (x : Value) (R : List RowD) (V : Nat → Value) : Prop :=
  ∃ ao cap, x = .slice ao R.length cap ∧ R.length ≤ maxLen ∧ (R.length ≤ cap ∧ cap ≤ maxLen ∧ (ao = none → cap = 0)) ∧
    (0 < R.length → ∃ b off, ao = some ⟨b, off, none⟩ ∧ ∀ j (h : j < R.length), RowIn w b (off + j * 10) R[j] (V j) ∧ Ints w (V j) R[j].l)
def TabAt (w : World) (u : Value) (T : List (List RowD)) (U : Nat → Nat → Value) : Prop :=
  ∃ ao cap, u = .slice ao T.length cap ∧ T.length ≤ maxLen ∧ (T.length ≤ cap ∧ cap ≤ maxLen ∧ (ao = none → cap = 0)) ∧
    (0 < T.length → ∃ b off, ao = some ⟨b, off, none⟩ ∧ ∀ j (h : j < T.length), ∃ x, w.cell? ⟨b, off + j, none⟩ = some x ∧ RowsAt w x T[j] (U j))
theorem RowsAt.ext {w w' : World} {x : Value} {R : List RowD} {V : Nat → Value} (h : RowsAt w x R V) (e : Ext w w') : RowsAt w' x R V := by
  obtain ⟨ao, cap, hv, hm, hcap, hc⟩ := h
  refine ⟨ao, cap, hv, hm, hcap, fun hp => ?_⟩
  obtain ⟨b, off, ha, hc⟩ := hc hp
  exact ⟨b, off, ha, fun j hj => ⟨(hc j hj).1.ext e, (hc j hj).2.ext e⟩⟩
theorem TabAt.ext {w w' : World} {u : Value} {T : List (List RowD)} {U : Nat → Nat → Value} (h : TabAt w u T U) (e : Ext w w') : TabAt w' u T U := by
  obtain ⟨ao, cap, hv, hm, hcap, hc⟩ := h
  refine ⟨ao, cap, hv, hm, hcap, fun hp => ?_⟩
  obtain ⟨b, off, ha, hc⟩ := hc hp
  refine ⟨b, off, ha, fun j hj => ?_⟩
  obtain ⟨x, hx, hr⟩ := hc j hj
  exact ⟨x, e.cell hx, hr.ext e⟩
theorem rowsAt_of {w : World} {x : Value} {R : List RowD} (h : Rowz w x R) : ∃ V, RowsAt w x R V := by
  obtain ⟨ao, cap, hv, hm, hcap, hc⟩ := h
  by_cases hp : 0 < R.length
  · obtain ⟨b, off, ha, hc⟩ := hc hp
    refine ⟨fun j => if h : j < R.length then Classical.choose (hc j h) else .bool false, ao, cap, hv, hm, hcap, fun _ => ⟨b, off, ha, fun j hj => ?_⟩⟩
    have := Classical.choose_spec (hc j hj)
    simp only [hj, dif_pos]
    exact this
  · exact ⟨fun _ => .bool false, ao, cap, hv, hm, hcap, fun h => absurd h hp⟩
theorem tabAt_of {w : World} {u : Value} {T : List (List RowD)} (h : Rowzz w u T) : ∃ U, TabAt w u T U := by
  obtain ⟨ao, cap, hv, hm, hcap, hc⟩ := h
  by_cases hp : 0 < T.length
  · obtain ⟨b, off, ha, hc⟩ := hc hp
    have hc' : ∀ j (h : j < T.length), ∃ V : Nat → Value, ∃ x, w.cell? ⟨b, off + j, none⟩ = some x ∧ RowsAt w x T[j] V := fun j hj => by
      obtain ⟨x, hx, hr⟩ := hc j hj
      obtain ⟨V, hV⟩ := rowsAt_of hr
      exact ⟨V, x, hx, hV⟩
    refine ⟨fun j => if h : j < T.length then Classical.choose (hc' j h) else fun _ => .bool false, ao, cap, hv, hm, hcap, fun _ => ⟨b, off, ha, fun j hj => ?_⟩⟩
    have := Classical.choose_spec (hc' j hj)
    simp only [hj, dif_pos]
    exact this
  · exact ⟨fun _ _ => .bool false, ao, cap, hv, hm, hcap, fun h => absurd h hp⟩
def rowV (r : RowD) (u : Value) : Value := .agg #[.int .i64 r.b, .int .i64 r.v, .int .i64 r.st, .int .i64 r.k, .int .i64 r.i, .int .i64 r.f, .int .i64 r.t, .int .i64 r.a, .int .i64 r.s, u]
def rowF (n : Int) (T : List (List RowD)) (U : Nat → Nat → Value) (p q : Nat) : Value := rowV (rowOf n T p q) (U p q)
def inT (T : List (List RowD)) (p q : Nat) : Bool := decide (q < (T[p]?.getD []).length)
theorem inT_of {T : List (List RowD)} {p q : Nat} (h : inT T p q = true) : ∃ (hp : p < T.length), q < T[p].length := by
  unfold inT at h
  have h' := of_decide_eq_true h
  by_cases hp : p < T.length
  · rw [List.getElem?_eq_getElem hp] at h'
    exact ⟨hp, h'⟩
  · rw [List.getElem?_eq_none (by omega)] at h'
    simp at h'
theorem inT_mk {T : List (List RowD)} {p q : Nat} (hp : p < T.length) (hq : q < T[p].length) : inT T p q = true := by
  unfold inT
  rw [List.getElem?_eq_getElem hp]
  exact decide_eq_true hq
def Lists (w : World) (n : Int) (T : List (List RowD)) (U : Nat → Nat → Value) : Prop := ∀ p q, inT T p q = true → Ints w (U p q) (rowOf n T p q).l
theorem Lists.ext {w w' : World} {n : Int} {T : List (List RowD)} {U : Nat → Nat → Value} (h : Lists w n T U) (e : Ext w w') : Lists w' n T U := fun p q hi => (h p q hi).ext e
theorem TabAt.lists {w : World} {u : Value} {T : List (List RowD)} {U : Nat → Nat → Value} (n : Int) (h : TabAt w u T U) : Lists w n T U := by
  intro p q hi
  obtain ⟨hp, hq⟩ := inT_of hi
  obtain ⟨_, _, _, _, _, hc⟩ := h
  obtain ⟨b, off, _, hc⟩ := hc (by omega)
  obtain ⟨x, _, hr⟩ := hc p hp
  obtain ⟨_, _, _, _, _, hr⟩ := hr
  obtain ⟨b', off', _, hr⟩ := hr (by omega)
  rw [rowOf_in hp hq]
  exact (hr q hq).2

/-! ### A map that holds values -/
def asIs (v : Value) : Option (DataW Value × List MemPlace) := some (.held v, [])
structure MapOf (D : DataW Value) (S : Nat → Nat → Bool) (f : Nat → Nat → Value) : Prop where
  isMap : Maps.IsMap D
  low : ∀ p q, S p q = true → p ≤ 1048576 ∧ q ≤ 1048576
  has : ∀ p q, S p q = true → Maps.has D (kl p ((q : Int) + 1)) = true
  val : ∀ p q, S p q = true → ∀ z, D.atKey (kl p ((q : Int) + 1)) z = .held (f p q)
  keys : ∀ l, Maps.has D l = true → ∃ p q : Nat, l = kl (p : Int) ((q : Int) + 1) ∧ S p q = true
theorem MapOf.empty (f : Nat → Nat → Value) : MapOf (.map []) (fun _ _ => false) f :=
  ⟨⟨_, rfl⟩, (fun _ _ h => by cases h), (fun _ _ h => by cases h), (fun _ _ h => by cases h), (fun l h => by cases h)⟩
theorem MapOf.congr {D : DataW Value} {S S' : Nat → Nat → Bool} {f f' : Nat → Nat → Value} (h : MapOf D S f) (hs : ∀ p q, S' p q = S p q) (hf : ∀ p q, S p q = true → f' p q = f p q) : MapOf D S' f' :=
  ⟨h.isMap, fun p q e => h.low p q (by rw [← hs]; exact e), fun p q e => h.has p q (by rw [← hs]; exact e), fun p q e z => by rw [hs] at e; rw [hf p q e]; exact h.val p q e z, fun l hl => by
    obtain ⟨p, q, e, hS⟩ := h.keys l hl
    exact ⟨p, q, e, by rw [hs]; exact hS⟩⟩
theorem kl_ne {p q p' q' : Nat} (h1 : p ≤ 1048576 ∧ q ≤ 1048576) (h2 : p' ≤ 1048576 ∧ q' ≤ 1048576) (h : ¬ (p = p' ∧ q = q')) : kl (p : Int) ((q : Int) + 1) ≠ kl (p' : Int) ((q' : Int) + 1) := by
  intro e
  obtain ⟨a, b⟩ := kl_inj (wf_small (by omega) (by omega)) (wf_small (by omega) (by omega)) (wf_small (by omega) (by omega)) (wf_small (by omega) (by omega)) e
  omega
theorem MapOf.put {D : DataW Value} {S : Nat → Nat → Bool} {f : Nat → Nat → Value} (h : MapOf D S f) {p q : Nat} (hl : p ≤ 1048576 ∧ q ≤ 1048576) {v : Value} (hv : f p q = v) :
    MapOf (D.put (kl p ((q : Int) + 1)) (.held v)) (fun p' q' => S p' q' || (decide (p' = p) && decide (q' = q))) f := by
  have hk : WideAt.IsKeyLit (kl p ((q : Int) + 1)) := instKeyed.key (keyOf_inst (wf_small (by omega) (by omega)) (wf_small (by omega) (by omega)))
  have hS : ∀ p' q', (S p' q' || (decide (p' = p) && decide (q' = q))) = true → (p' = p ∧ q' = q) ∨ S p' q' = true := fun p' q' hs => by
    rcases Bool.or_eq_true_iff.1 hs with hs | hs
    · exact .inr hs
    · simp at hs; exact .inl hs
  refine ⟨h.isMap.put _ _, fun p' q' hs => ?_, fun p' q' hs => ?_, fun p' q' hs z => ?_, fun l hl' => ?_⟩
  · rcases hS p' q' hs with ⟨rfl, rfl⟩ | hs
    · exact hl
    · exact h.low p' q' hs
  · by_cases e : p' = p ∧ q' = q
    · obtain ⟨rfl, rfl⟩ := e
      exact Maps.has_put_same h.isMap hk _
    · have hs' := (hS p' q' hs).resolve_left e
      rw [Maps.has_put_other (kl_ne (h.low _ _ hs') hl e)]
      exact h.has p' q' hs'
  · by_cases e : p' = p ∧ q' = q
    · obtain ⟨rfl, rfl⟩ := e
      rw [Maps.atKey_put_same h.isMap hk, hv]
    · have hs' := (hS p' q' hs).resolve_left e
      rw [Maps.atKey_put_other (kl_ne (h.low _ _ hs') hl e)]
      exact h.val p' q' hs' z
  · by_cases e : l = kl p ((q : Int) + 1)
    · refine ⟨p, q, e, ?_⟩
      simp
    · rw [Maps.has_put_other e] at hl'
      obtain ⟨p', q', e', hs⟩ := h.keys l hl'
      refine ⟨p', q', e', ?_⟩
      simp [hs]
theorem MapOf.del {D : DataW Value} {S : Nat → Nat → Bool} {f : Nat → Nat → Value} (h : MapOf D S f) {p q : Nat} (hl : p ≤ 1048576 ∧ q ≤ 1048576) :
    MapOf (D.del (kl p ((q : Int) + 1))) (fun p' q' => S p' q' && !(decide (p' = p) && decide (q' = q))) f := by
  have hS : ∀ p' q', (S p' q' && !(decide (p' = p) && decide (q' = q))) = true → S p' q' = true ∧ ¬ (p' = p ∧ q' = q) := fun p' q' hs => by
    simp at hs
    exact ⟨hs.1, by omega⟩
  refine ⟨h.isMap.del _, fun p' q' hs => h.low p' q' (hS p' q' hs).1, fun p' q' hs => ?_, fun p' q' hs z => ?_, fun l hl' => ?_⟩
  · obtain ⟨hs, e⟩ := hS p' q' hs
    rw [Maps.has_del_other (kl_ne (h.low _ _ hs) hl e)]
    exact h.has p' q' hs
  · obtain ⟨hs, e⟩ := hS p' q' hs
    rw [Maps.atKey_del_other (kl_ne (h.low _ _ hs) hl e)]
    exact h.val p' q' hs z
  · by_cases e : l = kl p ((q : Int) + 1)
    · subst e
      rw [Maps.has_del_same] at hl'
      cases hl'
    · rw [Maps.has_del_other e] at hl'
      obtain ⟨p', q', e', hs⟩ := h.keys l hl'
      refine ⟨p', q', e', ?_⟩
      simp only [hs, Bool.true_and, Bool.not_eq_true']
      by_cases e2 : p' = p ∧ q' = q
      · obtain ⟨rfl, rfl⟩ := e2
        exact absurd e' e
      · simpa using e2

/-! ### kept -/
theorem Ext.grownNone {w w' : World} (e : Ext w w') : w.grownBy w' none := ⟨e.os, e.tape, e.output, e.size, fun k hk _ => Below.block e k hk⟩
abbrev RowMap (w : World) (b n : Nat) (D : DataW Value) : Prop := w.ownsMap Tryz.prog 101 asIs b n D
abbrev RowRange (w : World) (b r n : Nat) (D : DataW Value) (left : Lit → Bool) (cnt : Nat) : Prop := w.ranges Tryz.prog 101 asIs b r n D left cnt
theorem RowMap.ext {w w' : World} {b n : Nat} {D : DataW Value} (h : RowMap w b n D) (e : Ext w w') : RowMap w' b n D := h.kept e.grownNone (by simp)
theorem RowRange.ext {w w' : World} {b r n : Nat} {D : DataW Value} {left : Lit → Bool} {cnt : Nat} (h : RowRange w b r n D left cnt) (e : Ext w w') : RowRange w' b r n D left cnt := h.kept e.grownNone (by simp) (by simp)
theorem wpList_next_inst (w : World) {ops : Array Oper} {rest : List Oper} {o : Oper} {a : Act} {Q : Exit → Act → World → Prop} (hg : o.guard = none) (it : Operand) (hop : o.op = Op.next it false)
    (b r n : Nat) (D : DataW Value) (left : Lit → Bool) (cnt : Nat) (S : Nat → Nat → Bool) (f : Nat → Nat → Value)
    (hit : a.eval it = .pointer (some ⟨r, 0, none⟩)) (h : RowRange w b r n D left cnt) (hM : MapOf D S f)
    (hDone : (∀ l, left l = false) → wpList Tryz.prog ops Q rest (a.put o.dst (.tuple #[.bool false])) w)
    (hMore : ∀ (p q : Nat) (w' : World) (cnt' : Nat), S p q = true → left (kl p ((q : Int) + 1)) = true → RowRange w' b r n D (fun z => left z && !z.sameKey (kl p ((q : Int) + 1))) cnt' → cnt' < cnt →
      w.grownBy w' (some r) → w'.heap.size = w.heap.size → (Instr.entry (.pointer (some ⟨r, 0, none⟩))).run Tryz.prog w' = .ok (.tuple #[.agg #[.int .i64 p, .int .i64 ((q : Int) + 1)], f p q]) w' →
        wpList Tryz.prog ops Q rest (a.put o.dst (.tuple #[.bool true, .agg #[.int .i64 p, .int .i64 ((q : Int) + 1)], f p q])) w') :
    wpList Tryz.prog ops Q (o :: rest) a w := by
  refine wpList_next_ranges w hg it hop 101 instKeyed asIs (fun x : Int × Int => instV x.1 x.2) (fun v : Value => v) (fun key l hk => ?_) (fun v y _ => ⟨v, rfl⟩) b r n D left cnt hit h (fun _ hl => hDone hl) ?_
  · obtain ⟨x, y, hv, _⟩ := keyOf_inst_inv hk
    exact ⟨(x, y), hv⟩
  · intro x c l y w' cnt' hkey hlk hv hat hrg hlt hgr hsz hen
    obtain ⟨x1, x2⟩ := x
    obtain ⟨a', b', e1, e2, wa, wb⟩ := keyOf_inst_inv hkey
    simp only [instV] at e1 hen
    obtain ⟨p, q, e3, hS⟩ := hM.keys l (Maps.has_true_of_atKey hat)
    have hlow := hM.low p q hS
    have hinj := kl_inj wa wb (wf_small (by omega) (by omega)) (wf_small (by omega) (by omega)) (e2.symm.trans e3)
    obtain ⟨rfl, rfl⟩ := hinj
    simp only [Value.agg.injEq, Array.mk.injEq, List.cons.injEq, Value.int.injEq, true_and, and_true] at e1
    obtain ⟨rfl, rfl⟩ := e1
    rw [e3] at hat hlk hrg
    have hc := (hM.val p q hS .nil).symm.trans (hat .nil)
    simp only [asIs, Option.some.injEq] at hv
    rw [← hv] at hc
    simp only [DataW.held.injEq] at hc
    rw [← hc] at hen ⊢
    exact hMore p q w' cnt' hS hlk hrg hlt hgr hsz hen
end Go.Proofs.YtcpmfcigciknlaaGreat

namespace Go.Proofs.YtcpmfcigciknlaaGreat
open Go.RowKit
set_option linter.unusedVariables false
def cellsI (x : Nat × Nat) : List Value := [.int .i64 x.1, .int .i64 ((x.2 : Int) + 1)]
def flatI (L : List (Nat × Nat)) : List Value := L.flatMap cellsI
theorem flatI_len (L : List (Nat × Nat)) : (flatI L).length = L.length * 2 := by
  unfold flatI
  induction L with
  | nil => rfl
  | cons x t ih => rw [List.flatMap_cons, List.length_append, ih]; simp [cellsI]; omega
theorem flatI_at {L : List (Nat × Nat)} {j : Nat} (h : j < L.length) : (flatI L)[j * 2]? = some (.int .i64 (L[j].1 : Int)) ∧ (flatI L)[j * 2 + 1]? = some (.int .i64 ((L[j].2 : Int) + 1)) := by
  induction L generalizing j with
  | nil => simp at h
  | cons x t ih =>
    unfold flatI
    rw [List.flatMap_cons]
    cases j with
    | zero => simp [cellsI]
    | succ j =>
      have h' : j < t.length := by simpa using h
      obtain ⟨i1, i2⟩ := ih h'
      unfold flatI at i1 i2
      have e1 : (j + 1) * 2 = (cellsI x).length + j * 2 := by simp [cellsI]; omega
      refine ⟨?_, ?_⟩
      · rw [e1, List.getElem?_append_right (by omega), Nat.add_sub_cancel_left, i1]
        simp
      · rw [e1, Nat.add_assoc, List.getElem?_append_right (by omega), Nat.add_sub_cancel_left, i2]
        simp
def FreshIn (B : Nat) (w : World) (v : Value) (L : List (Nat × Nat)) : Prop := w.ownsRow B 101 2 v L.length (flatI L)
theorem FreshIn.nil (B : Nat) (w : World) : FreshIn B w (.slice none 0 0) [] := ⟨rfl, .inl ⟨rfl, rfl⟩⟩
theorem FreshIn.ext {B : Nat} {w w' : World} {v : Value} {L : List (Nat × Nat)} (h : FreshIn B w v L) (e : Ext w w') : FreshIn B w' v L := e.ownsRow h
def InstsAt (w : World) (v : Value) (L : List (Nat × Nat)) : Prop :=
  ∃ ao cap, v = .slice ao L.length cap ∧ L.length ≤ maxLen ∧ (L.length ≤ cap ∧ cap ≤ maxLen ∧ (ao = none → cap = 0)) ∧
    (0 < L.length → ∃ b off, ao = some ⟨b, off, none⟩ ∧ ∀ j (h : j < L.length), w.cell? ⟨b, off + j * 2, none⟩ = some (.int .i64 (L[j].1 : Int)) ∧ w.cell? ⟨b, off + j * 2 + 1, none⟩ = some (.int .i64 ((L[j].2 : Int) + 1)))
theorem InstsAt.ext {w w' : World} {v : Value} {L : List (Nat × Nat)} (h : InstsAt w v L) (e : Ext w w') : InstsAt w' v L := by
  obtain ⟨ao, cap, hv, hm, hcap, hc⟩ := h
  refine ⟨ao, cap, hv, hm, hcap, fun hp => ?_⟩
  obtain ⟨b, off, ha, hc⟩ := hc hp
  exact ⟨b, off, ha, fun j hj => ⟨e.cell (hc j hj).1, e.cell (hc j hj).2⟩⟩
theorem FreshIn.at {B : Nat} {w : World} {v : Value} {L : List (Nat × Nat)} (h : FreshIn B w v L) : InstsAt w v L := by
  rcases h.2 with ⟨rfl, hn⟩ | ⟨g, cap, cur, rfl, hb, hg, hnc, hcm, hcs, htake⟩
  · obtain rfl : L = [] := List.eq_nil_of_length_eq_zero hn
    exact ⟨none, 0, rfl, by simp, ⟨by simp, by simp, fun _ => rfl⟩, fun h => by simp at h⟩
  · refine ⟨some ⟨g, 0, none⟩, cap, rfl, by omega, ⟨by omega, by omega, fun h => by cases h⟩, fun _ => ⟨g, 0, rfl, fun j hj => ?_⟩⟩
    have hc1 := World.ownsRow.cellAt h (j * 2) (by omega)
    have hc2 := World.ownsRow.cellAt h (j * 2 + 1) (by omega)
    obtain ⟨f1, f2⟩ := flatI_at hj
    rw [Nat.zero_add]
    exact ⟨hc1.trans f1, hc2.trans f2⟩
theorem Tryz.infoInst : (Tryz.prog.info? 101).map (fun i => (i.zero, i.size, i.bytes)) = some (some (.agg #[.int .i64 0, .int .i64 0]), 2, 16) := by kernel_rfl
theorem wpList_pushI {ops : Array Oper} {rest : List Oper} {o : Oper} {a : Act} {Q : Exit → Act → World → Prop} {w : World} (hgd : o.guard = none) (s x : Operand)
    (ho : o.op = .call { callee := .builtin .append, args := #[s, x], argTypes := #[108, 108] })
    (B : Nat) (v : Value) (L : List (Nat × Nat)) (y : Nat × Nat) (hs : a.eval s = v) (hf : FreshIn B w v L) (g : Nat) (c : Nat) (hx : a.eval x = .slice (some ⟨g, 0, none⟩) 1 c)
    (hc0 : w.cell? ⟨g, 0, none⟩ = some (.int .i64 (y.1 : Int))) (hc1 : w.cell? ⟨g, 1, none⟩ = some (.int .i64 ((y.2 : Int) + 1))) (hl : L.length ≤ 1048576) (hB : B ≤ w.heap.size)
    (h : ∀ v' w', FreshIn B w' v' (L ++ [y]) → w.grownBy w' v.ownBlock → Kept B w w' → wpList Tryz.prog ops Q rest (a.put o.dst v') w') : wpList Tryz.prog ops Q (o :: rest) a w := by
  obtain ⟨i0, hi, hz0, hz1, hz2⟩ := info_parts Tryz.infoInst
  refine wpList_append_own _ hgd s x 108 ho B 101 i0 (.agg #[.int .i64 0, .int .i64 0]) 2 16 Tryz.underlying108 hi hz0 hz1 hz2 rfl (by decide) v L.length _ hs hf ⟨g, 0, none⟩ 1 c (cellsI y) hx rfl ?_ ?_ ?_ ?_ hB ?_
  · intro j u hj
    match j, hj with
    | 0, hj => simp [cellsI] at hj; subst hj; simpa [Addr.add] using hc0
    | 1, hj => simp [cellsI] at hj; subst hj; simpa [Addr.add] using hc1
  · intro u hu
    simp [cellsI] at hu
    rcases hu with rfl | rfl <;> rfl
  · unfold maxLen; omega
  · omega
  · intro v' w' ho' hg _
    refine h v' w' ?_ hg (fun w0 hx0 hB0 => Below.grown hx0 hg hx0.size (fun q hq => Nat.le_trans hB0 (World.ownsRow.lt hf q hq).1))
    unfold FreshIn
    have e : flatI (L ++ [y]) = flatI L ++ cellsI y := by simp [flatI]
    rw [e, List.length_append]
    exact ho'
end Go.Proofs.YtcpmfcigciknlaaGreat

namespace Go.Proofs.YtcpmfcigciknlaaGreat
open Go.RowKit Go.Maps
set_option linter.unusedVariables false
def hungAt (k m : Nat) : List (Nat × Nat) := (List.range m).map fun i => (k, i)
def depM (r : RowD) (k : Nat) : Nat := (depI r k).toNat
def hungTo (r : RowD) (k : Nat) : List (Nat × Nat) := (List.range k).flatMap fun p => hungAt p (depM r p)
def hungL (r : RowD) : List (Nat × Nat) := hungTo r r.l.length
theorem hungAt_succ (k m : Nat) : hungAt k (m + 1) = hungAt k m ++ [(k, m)] := by simp [hungAt, List.range_succ]
theorem hungTo_succ (r : RowD) (k : Nat) : hungTo r (k + 1) = hungTo r k ++ hungAt k (depM r k) := by simp [hungTo, List.range_succ]
theorem hungAt_len (k m : Nat) : (hungAt k m).length = m := by simp [hungAt]
theorem hungTo_len {r : RowD} (h : ∀ k, depM r k ≤ 6) (k : Nat) : (hungTo r k).length ≤ 6 * k := by
  induction k with
  | zero => simp [hungTo]
  | succ k ih =>
    rw [hungTo_succ, List.length_append, hungAt_len]
    have := h k
    omega
theorem mem_hungL {r : RowD} {y : Nat × Nat} : y ∈ hungL r ↔ y.1 < r.l.length ∧ y.2 < depM r y.1 := by
  unfold hungL hungTo hungAt
  rw [List.mem_flatMap]
  constructor
  · rintro ⟨p, hp, hy⟩
    obtain ⟨i, hi, rfl⟩ := List.mem_map.1 hy
    exact ⟨List.mem_range.1 hp, List.mem_range.1 hi⟩
  · rintro ⟨h1, h2⟩
    exact ⟨y.1, List.mem_range.2 h1, List.mem_map.2 ⟨y.2, List.mem_range.2 h2, rfl⟩⟩
def NewInst (L : List (Nat × Nat)) (w : World) (e : Ending) (w' : World) : Prop := ∃ v, e = .returned v ∧ FreshIn w.heap.size w' v L ∧ Ext w w'
theorem FreshIn.more {B B' : Nat} {w : World} {v : Value} {L : List (Nat × Nat)} (h : FreshIn B w v L) (hb : B' ≤ B) : FreshIn B' w v L := ownsRow_more h hb
set_option maxHeartbeats 2000000 in
set_option maxRecDepth 100000 in
theorem hungOn_any (r : RowD) (s : Int) (u : Value) (w : World) (hu : Ints w u r.l) (hl : r.l.length ≤ 5) (hd : ∀ k, 0 ≤ depI r k ∧ depI r k ≤ 6) :
    Calls Tryz.prog 101 #[.agg #[.int .i64 s, u]] w (NewInst (hungL r) w) := by
  obtain ⟨au, cu, rfl, hlu, _, hcu⟩ := hu
  have hx0 := Ext.alloc1 w (.cells #[.int .i64 s, .slice au r.l.length cu] 81)
  have HX0 := Lib.hid hx0
  have HD := Lib.hid hd
  unfold hungL
  clear hx0 hd
  go_enter Tryz.func101, Tryz.ntmps101
  go_wp2
  go_loopw [3, 10] (fun o i wr => ∃ k : Nat, k ≤ r.l.length ∧ i = .int .i64 k ∧ Hid (FreshIn w.heap.size wr o (hungTo r k)) ∧ Hid (Ext w wr)) (fun _ i _ => r.l.length - (intOf i).toNat)
  case atStart => exact ⟨0, Nat.zero_le _, rfl, Lib.hid (FreshIn.nil _ _), HX0⟩
  case round =>
    obtain ⟨k, hk, rfl, HF, HX⟩ := hrel
    by_cases hlt : k < r.l.length
    · obtain ⟨bu, ou, rfl, du⟩ := hcu (by omega)
      have gl : wr.cell? ⟨bu, ou + k, none⟩ = some (.int .i64 (depI r k)) := HX.out.cell (du k hlt)
      have hdk := HD.out k
      obtain ⟨m, hm⟩ : ∃ m, m = depM r k := ⟨_, rfl⟩
      have hmd : depI r k = (m : Int) := by rw [hm]; unfold depM; omega
      rw [hmd] at gl
      have hm6 : m ≤ 6 := by omega
      have HMM := Lib.hid hm
      have HLN : Hid ((hungTo r k).length ≤ 1000) := Lib.hid (by
        have := hungTo_len (r := r) (fun k => by have := HD.out k; unfold depM; omega) k
        omega)
      clear hdk hm hmd hcu du
      go_wp2
      go_loopw [3, 16] (fun o i wr => ∃ j : Nat, j ≤ m ∧ i = .int .i64 j ∧ Hid (FreshIn w.heap.size wr o (hungTo r k ++ hungAt k j)) ∧ Hid (Ext w wr)) (fun _ i _ => m - (intOf i).toNat)
      case atStart => exact ⟨0, Nat.zero_le _, rfl, Lib.hid (by have h := HF.out; simpa [hungAt] using h), HX⟩
      case round =>
        clear gl HF HX
        obtain ⟨j, hj, rfl, HF, HX⟩ := hrel
        by_cases hjm : j < m
        · have hll : (hungTo r k ++ hungAt k j).length ≤ 1048576 := by
            rw [List.length_append, hungAt_len]
            have := HLN.out
            omega
          have HLL := Lib.hid hll
          have HBB := Lib.hid HX.out.size
          clear hll
          go_wp2_with (at_builtin; refine wpList_pushI rfl _ _ rfl w.heap.size _ (hungTo r k ++ hungAt k j) (k, j) rfl (HF.out.ext (Ext.alloc1 _ _)) wr.heap.size 1 rfl (by go_simp) (by go_simp) HLL.out (Nat.le_trans HBB.out (Ext.alloc1 _ _).size) ?_)
          intro v' w4 f4 hg4 hk4
          have FN : Hid (FreshIn w.heap.size w4 v' (hungTo r k ++ hungAt k (j + 1))) := Lib.hid (by
            rw [hungAt_succ, ← List.append_assoc]
            first | exact f4 | (rw [List.append_assoc]; exact f4))
          have XN := Lib.hid (hk4 w (HX.out.trans (Ext.alloc1 _ _)) (Nat.le_refl _))
          clear f4 hg4 hk4 HF HX
          go_wp2
          go_roundw
          case rel => exact ⟨j + 1, by omega, by go_num, FN, XN⟩
          case measure => simp [intOf]; omega
        · obtain rfl : j = m := by omega
          have FN : Hid (FreshIn w.heap.size wr u3 (hungTo r (k + 1))) := Lib.hid (by rw [hungTo_succ, ← HMM.out]; exact HF.out)
          clear HF
          go_wp2
          go_roundw
          case rel => exact ⟨k + 1, by omega, by go_num, FN, HX⟩
          case measure => simp [intOf]; omega
    · obtain rfl : k = r.l.length := by omega
      go_wp2
      go_ret
      exact ⟨_, rfl, HF.out, HX.out⟩
end Go.Proofs.YtcpmfcigciknlaaGreat

namespace Go.Proofs.YtcpmfcigciknlaaGreat
open Go.RowKit Go.Maps
set_option linter.unusedVariables false
def ClosedC (n : Int) (T : List (List RowD)) (C : Nat × Nat → Prop) : Prop := (∀ x, C x → instCom T x.1 x.2 = true) ∧ ∀ x, C x → ∀ y ∈ hungL (rowOf n T x.1 x.2), C y
def readyP (n : Int) (T : List (List RowD)) (x : Nat × Nat) : Prop := ∃ C : Nat × Nat → Prop, ClosedC n T C ∧ C x
noncomputable def readyB (n : Int) (T : List (List RowD)) (p q : Nat) : Bool := @decide (readyP n T (p, q)) (Classical.propDecidable _)
theorem readyB_iff {n : Int} {T : List (List RowD)} {p q : Nat} : readyB n T p q = true ↔ readyP n T (p, q) := by
  unfold readyB
  exact @decide_eq_true_iff _ (Classical.propDecidable _)
structure Betw (n : Int) (T : List (List RowD)) (S : Nat → Nat → Bool) : Prop where
  com : ∀ p q, S p q = true → instCom T p q = true
  all : ∀ C, ClosedC n T C → ∀ x : Nat × Nat, C x → S x.1 x.2 = true
theorem Betw.start (n : Int) (T : List (List RowD)) : Betw n T (instCom T) := ⟨fun _ _ h => h, fun C hc x hx => hc.1 x hx⟩
def AllHere (n : Int) (T : List (List RowD)) (S : Nat → Nat → Bool) (p q : Nat) : Prop := (hungL (rowOf n T p q)).all (fun x => S x.1 x.2) = true
theorem Betw.drop {n : Int} {T : List (List RowD)} {S : Nat → Nat → Bool} (h : Betw n T S) {p q : Nat} (hn : ¬ AllHere n T S p q) : Betw n T (fun p' q' => S p' q' && !(decide (p' = p) && decide (q' = q))) := by
  refine ⟨fun p' q' hs => h.com p' q' (by simp at hs; exact hs.1), fun C hc x hx => ?_⟩
  have hs := h.all C hc x hx
  by_cases e : x.1 = p ∧ x.2 = q
  · exfalso
    refine hn ?_
    unfold AllHere
    rw [List.all_eq_true]
    intro y hy
    have ex : x = (p, q) := Prod.ext e.1 e.2
    subst ex
    exact h.all C hc y (hc.2 _ hx y hy)
  · have : (decide (x.1 = p) && decide (x.2 = q)) = false := by simpa using e
    rw [hs, this]
    rfl
theorem Betw.done {n : Int} {T : List (List RowD)} {S : Nat → Nat → Bool} (h : Betw n T S) (hc : ∀ p q, S p q = true → AllHere n T S p q) (p q : Nat) : readyB n T p q = S p q := by
  rw [Bool.eq_iff_iff, readyB_iff]
  constructor
  · rintro ⟨C, hC, hx⟩
    exact h.all C hC _ hx
  · intro hs
    refine ⟨fun x => S x.1 x.2 = true, ⟨fun x hx => h.com _ _ hx, fun x hx y hy => ?_⟩, hs⟩
    have := hc _ _ hx
    unfold AllHere at this
    exact List.all_eq_true.1 this y hy
end Go.Proofs.YtcpmfcigciknlaaGreat

namespace Go.Proofs.YtcpmfcigciknlaaGreat
open Go.RowKit Go.Maps
set_option linter.unusedVariables false
theorem set_nextI (vs : List Value) (z n : Value) (k m : Nat) (hk : vs.length = k) (hm : k < m) : (vs ++ List.replicate (m - k) n).set k z = (vs ++ [z]) ++ List.replicate (m - (k + 1)) n := by
  rw [List.set_append_right _ _ (by omega), hk, Nat.sub_self]
  have e : m - k = (m - (k + 1)) + 1 := by omega
  rw [e, List.replicate_succ, List.set_cons_zero]
  simp
set_option maxHeartbeats 2000000 in
set_option maxRecDepth 100000 in
theorem pairsOf_any (u : Value) (I : List (Nat × Nat)) (w : World) (hu : InstsAt w u I) (hI : I.length ≤ 1048576) :
    Calls Tryz.prog 61 #[u] w (NewIntss (I.map pairOf) w) := by
  obtain ⟨L, hL⟩ : ∃ L, L = I.map pairOf := ⟨_, rfl⟩
  have hl : L.length = I.length := by rw [hL]; simp
  obtain ⟨au, cu, rfl, hlu, _, hcu⟩ := hu
  unfold maxLen at hlu
  obtain ⟨i0, hi, hz0, hz1, hz2⟩ := info_parts Tryz.infoInts
  have HLI := Lib.hid hL
  have HI := Lib.hid hI
  rw [← hL]
  clear hL
  rw [← hl] at hlu ⊢
  have HCU := Lib.hid hcu
  have HLL := Lib.hid hl
  have hL2 : L.length ≤ 1048576 := by omega
  clear hcu hl hI
  go_enter Tryz.func61, Tryz.ntmps61
  go_wp2_with (at_make; refine wpList_make_full _ rfl _ _ 63 rfl w.heap.size 26 i0 (.slice none 0 0) 1 Tryz.underlying63 hi hz0 hz1 _ _ _ _ L.length rfl rfl rfl rfl ?c1 ?c2 ?c3 ?_)
  case c1 => rw [hz2]; omega
  case c2 => unfold maxLen; omega
  case c3 => simp
  intro w1 ho1 hg1
  have hx1 : Ext w w1 := ext_of_grown hg1
  have ho : w1.ownsRow w.heap.size 26 1 (.slice (some ⟨w.heap.size, 0, none⟩) L.length L.length) L.length (([] : List Value) ++ List.replicate (L.length - 0) (.slice none 0 0)) := by
    rw [toList_madeCells_one] at ho1
    simpa using ho1
  have hsz : w.heap.size < w1.heap.size := by
    rcases ho1.2 with ⟨h, _⟩ | ⟨g, cap, cur, h, hb, hg, _⟩
    · cases h
    · simp only [Value.slice.injEq, Option.some.injEq, Addr.mk.injEq, and_true, true_and] at h
      obtain ⟨rfl, _⟩ := h
      exact (Array.getElem?_eq_some_iff.1 hg).1
  clear ho1 hg1 hz0 hz1 hz2 hi
  go_wp2
  go_loopw [11] (fun i wr => ∃ (k : Nat) (vs : List Value), k ≤ L.length ∧ i = .int .i64 k ∧ wr.ownsRow w.heap.size 26 1 (.slice (some ⟨w.heap.size, 0, none⟩) L.length L.length) L.length (vs ++ List.replicate (L.length - k) (.slice none 0 0)) ∧ Rows_ (w.heap.size + 1) wr vs (L.take k) ∧ w.heap.size < wr.heap.size ∧ Ext w wr) (fun i _ => L.length - (intOf i).toNat)
  case atStart => exact ⟨0, [], Nat.zero_le _, rfl, ho, by simpa using Rows_.nil _ _, hsz, hx1⟩
  case round =>
    clear ho hx1 hsz
    obtain ⟨k, vs, hk, rfl, ho, hR, hsz, hx⟩ := hrel
    have hvl : vs.length = k := by rw [hR.len]; simp; omega
    by_cases hlt : k < L.length
    · obtain ⟨bu, ou, rfl, du⟩ := HCU.out (by have := HLL.out; omega)
      have hki : k < I.length := by have := HLL.out; omega
      obtain ⟨q0, q1⟩ := du k hki
      obtain ⟨x, hx1⟩ : ∃ x, x = I[k] := ⟨_, rfl⟩
      rw [← hx1] at q0 q1
      have eLk : L[k] = pairOf x := by simp only [HLI.out, List.getElem_map, hx1]
      have HE := Lib.hid eLk
      have g0 := hx.cell q0
      have g1 := hx.cell q1
      have HO := Lib.hid ho
      have HR := Lib.hid hR
      have HV := Lib.hid hvl
      clear du q0 q1 hx1 eLk ho hR hvl
      have x2 : Ext wr ((wr.alloc (.cells #[.int .i64 x.1, .int .i64 ((x.2 : Int) + 1)] 101)).alloc (.cells #[.int .i64 x.1, .int .i64 ((x.2 : Int) + 1)] 3)) := Ext.alloc2 _ _ _
      have f2 : Fresh wr.heap.size ((wr.alloc (.cells #[.int .i64 x.1, .int .i64 ((x.2 : Int) + 1)] 101)).alloc (.cells #[.int .i64 x.1, .int .i64 ((x.2 : Int) + 1)] 3)) (.slice (some ⟨wr.heap.size + 1, 0, none⟩) 2 2) L[k] := by
        rw [HE.out]
        exact fresh_lit2 wr _ (pairOf x) 2 #[.int .i64 x.1, .int .i64 ((x.2 : Int) + 1)] rfl rfl (by simp [pairOf])
      have F2 := Lib.hid f2
      have X2 := Lib.hid x2
      have ho2 := x2.ownsRow HO.out
      have hlen2 : (vs ++ List.replicate (L.length - k) (Value.slice none 0 0)).length = L.length := by simp [HV.out]; omega
      have gs := (ho2.cellAt k (by omega)).trans (show _ = some (Value.slice none 0 0) by
        rw [List.getElem?_append_right (by have := HV.out; omega)]
        rw [List.getElem?_replicate, if_pos (by have := HV.out; omega)])
      have gf := ho2.frozenAt k
      have hst0 := ho2.stored k (.slice (some ⟨wr.heap.size + 1, 0, none⟩) 2 2)
      have hext0 : Ext w (((wr.alloc (.cells #[.int .i64 x.1, .int .i64 ((x.2 : Int) + 1)] 101)).alloc (.cells #[.int .i64 x.1, .int .i64 ((x.2 : Int) + 1)] 3)).setCell ⟨w.heap.size, k, none⟩ (.slice (some ⟨wr.heap.size + 1, 0, none⟩) 2 2)) := Below.setCell (hx.trans x2) (Nat.le_refl _) _
      have ecm : ((wr.alloc (.cells #[.int .i64 x.1, .int .i64 ((x.2 : Int) + 1)] 101)).alloc (.cells #[.int .i64 x.1, .int .i64 ((x.2 : Int) + 1)] 3)).setCell ⟨w.heap.size, k, none⟩ (.slice (some ⟨wr.heap.size + 1, 0, none⟩) 2 2) = ((wr.setCell ⟨w.heap.size, k, none⟩ (.slice (some ⟨wr.heap.size + 1, 0, none⟩) 2 2)).alloc (.cells #[.int .i64 x.1, .int .i64 ((x.2 : Int) + 1)] 101)).alloc (.cells #[.int .i64 x.1, .int .i64 ((x.2 : Int) + 1)] 3) := by
        rw [World.setCell_alloc_past (hn := by simp; omega), World.setCell_alloc_past (hn := hsz)]
      rw [ecm] at hst0 hext0
      have HST := Lib.hid hst0
      have HEX := Lib.hid hext0
      clear hlen2 f2 x2 ho2 hst0 hext0 ecm
      go_wp2
      go_roundw
      case rel =>
        have hst := HST.out
        rw [set_nextI vs _ _ k L.length HV.out hlt] at hst
        have hsn := HR.out.snoc X2.out F2.out (by omega)
        have htk : L.take k ++ [L[k]] = L.take (k + 1) := by rw [List.take_add_one, List.getElem?_eq_getElem hlt]; rfl
        rw [htk] at hsn
        refine ⟨k + 1, _, by omega, by go_num, hst.1, hsn.touch hst.2 (hsn.low (by omega)), ?_, HEX.out⟩
        have := X2.out.size
        have := hst.2.size
        omega
      case measure => simp [intOf]; omega
    · obtain rfl : k = L.length := by omega
      have HO := Lib.hid ho
      have HR := Lib.hid hR
      clear ho hR
      go_wp2
      go_ret
      refine ⟨_, rfl, ⟨vs, ?_, ?_, ?_⟩, hx⟩
      · have h := HO.out
        rw [Nat.sub_self] at h
        simpa using h
      · have h := HR.out
        rw [List.take_length] at h
        exact h.more (by omega)
      · exact HR.out.low (g := w.heap.size) (by omega)
end Go.Proofs.YtcpmfcigciknlaaGreat

namespace Go.Proofs.YtcpmfcigciknlaaGreat
open Go.RowKit
set_option linter.unusedVariables false
def edgeB (n : Int) (T : List (List RowD)) (x y : Nat × Nat) : Bool := !(decide (x = y)) && decide ((y.2 : Int) + 1 ≤ depI (rowOf n T x.1 x.2) y.1)
def rowE (n : Int) (T : List (List RowD)) (L : List (Nat × Nat)) (x : Nat × Nat) (k : Nat) : List Int := ((List.range k).filter fun j => edgeB n T x (L[j]?.getD (0, 0))).map fun (j : Nat) => (j : Int)
def graphP (n : Int) (T : List (List RowD)) (L : List (Nat × Nat)) : List (List Int) := L.map fun x => rowE n T L x L.length
theorem rowE_zero (n : Int) (T : List (List RowD)) (L : List (Nat × Nat)) (x : Nat × Nat) : rowE n T L x 0 = [] := rfl
theorem rowE_succ {n : Int} {T : List (List RowD)} {L : List (Nat × Nat)} {x : Nat × Nat} {k : Nat} (h : k < L.length) : rowE n T L x (k + 1) = rowE n T L x k ++ if edgeB n T x L[k] then [(k : Int)] else [] := by
  unfold rowE
  rw [List.range_succ, List.filter_append, List.map_append]
  congr 1
  have e : L[k]?.getD (0, 0) = L[k] := by simp [h]
  cases hb : edgeB n T x L[k] <;> simp [hb, h]
theorem rowE_len (n : Int) (T : List (List RowD)) (L : List (Nat × Nat)) (x : Nat × Nat) (k : Nat) : (rowE n T L x k).length ≤ k := by
  unfold rowE
  rw [List.length_map]
  have := List.length_filter_le (fun j => edgeB n T x (L[j]?.getD (0, 0))) (List.range k)
  simpa using this
def halfG (n : Int) (T : List (List RowD)) (L : List (Nat × Nat)) (k j : Nat) : List (List Int) := (List.range L.length).map fun i => if i < k then rowE n T L (L[i]?.getD (0, 0)) L.length else if i = k then rowE n T L (L[i]?.getD (0, 0)) j else []
theorem halfG_len (n : Int) (T : List (List RowD)) (L : List (Nat × Nat)) (k j : Nat) : (halfG n T L k j).length = L.length := by simp [halfG]
theorem halfG_at {n : Int} {T : List (List RowD)} {L : List (Nat × Nat)} {k : Nat} (j : Nat) (h : k < L.length) : (halfG n T L k j)[k]? = some (rowE n T L L[k] j) := by simp [halfG, h]
theorem halfG_set {n : Int} {T : List (List RowD)} {L : List (Nat × Nat)} {k : Nat} (j : Nat) (h : k < L.length) : halfG n T L k (j + 1) = (halfG n T L k j).set k (rowE n T L L[k] (j + 1)) := by
  apply List.ext_getElem?
  intro i
  rw [List.getElem?_set]
  unfold halfG
  by_cases e : k = i
  · subst e
    simp [h]
  · by_cases hi : i < L.length
    · simp [hi, e, Ne.symm e]
    · simp [hi, e]
theorem halfG_stay {n : Int} {T : List (List RowD)} {L : List (Nat × Nat)} {k : Nat} (j : Nat) (h : k < L.length) (he : rowE n T L L[k] (j + 1) = rowE n T L L[k] j) : halfG n T L k (j + 1) = halfG n T L k j := by
  rw [halfG_set j h, he]
  apply List.ext_getElem?
  intro i
  rw [List.getElem?_set]
  by_cases e : k = i
  · subst e
    rw [if_pos rfl, if_pos (by rw [halfG_len]; exact h), halfG_at j h]
  · rw [if_neg e]
theorem halfG_next {n : Int} {T : List (List RowD)} {L : List (Nat × Nat)} {k : Nat} : halfG n T L k L.length = halfG n T L (k + 1) 0 := by
  apply List.ext_getElem?
  intro i
  unfold halfG
  by_cases hi : i < L.length
  · simp only [List.getElem?_map, List.getElem?_range hi, Option.map_some, Option.some.injEq]
    by_cases h1 : i < k
    · rw [if_pos h1, if_pos (by omega)]
    · rw [if_neg h1]
      by_cases h2 : i = k
      · rw [if_pos h2, if_pos (by omega)]
      · rw [if_neg h2, if_neg (by omega)]
        by_cases h3 : i = k + 1
        · rw [if_pos h3, rowE_zero]
        · rw [if_neg h3]
  · simp [hi]
theorem halfG_zero (n : Int) (T : List (List RowD)) (L : List (Nat × Nat)) : halfG n T L 0 0 = List.replicate L.length [] := by
  apply List.ext_getElem?
  intro i
  unfold halfG
  by_cases hi : i < L.length
  · simp only [List.getElem?_map, List.getElem?_range hi, Option.map_some, List.getElem?_replicate, if_pos hi, Option.some.injEq]
    rw [if_neg (by omega)]
    by_cases h2 : i = 0
    · rw [if_pos h2, rowE_zero]
    · rw [if_neg h2]
  · simp [hi]
theorem halfG_all (n : Int) (T : List (List RowD)) (L : List (Nat × Nat)) : halfG n T L L.length 0 = graphP n T L := by
  apply List.ext_getElem?
  intro i
  unfold halfG graphP
  by_cases hi : i < L.length
  · simp [hi]
  · simp [hi]

/-! ### In place -/
theorem Rows_.push {B k : Nat} {w w' : World} {vs : List Value} {L : List (List Int)} {z v' : Value} {l : List Int} (h : Rows_ B w vs L) (hz : vs[k]? = some z) (t : w.grownBy w' z.ownBlock) (hv : Fresh B w' v' l)
    (hloc : v'.ownBlock = z.ownBlock ∨ v'.ownBlock = some w.heap.size) : Rows_ B w' (vs.set k v') (L.set k l) := by
  have hk : k < vs.length := (List.getElem?_eq_some_iff.1 hz).1
  have hkL : k < L.length := by rw [← h.len]; exact hk
  have low : ∀ (j : Nat) (u : Value), vs[j]? = some u → ∀ g, u.ownBlock = some g → g < w.heap.size := fun j u hu g hg => by
    have hj := (List.getElem?_eq_some_iff.1 hu).1
    exact (World.ownsRow.lt (h.row j u _ hu (List.getElem?_eq_getElem (by rw [← h.len]; exact hj))) g hg).2
  refine ⟨by rw [List.length_set, List.length_set]; exact h.len, fun j u r hu hr => ?_, fun i j u y hij hu hy => ?_⟩
  · rw [List.getElem?_set] at hu hr
    by_cases e1 : k = j
    · rw [if_pos e1, if_pos hk] at hu
      rw [if_pos e1, if_pos hkL] at hr
      rw [← Option.some.inj hu, ← Option.some.inj hr]
      exact hv
    · rw [if_neg e1] at hu hr
      exact World.ownsRow.kept (h.row j u r hu hr) t (h.apart j k u z (fun e => e1 e.symm) hu hz)
  · rw [List.getElem?_set] at hu hy
    by_cases e1 : k = i
    · by_cases e2 : k = j
      · omega
      · rw [if_pos e1, if_pos hk] at hu
        rw [if_neg e2] at hy
        cases hu
        rcases hloc with e | e
        · rw [e]; exact h.apart k j z y (fun e' => e2 e') hz hy
        · rw [e]
          exact .inr (fun e' => by have := low j y hy _ e'.symm; omega)
    · rw [if_neg e1] at hu
      by_cases e2 : k = j
      · rw [if_pos e2, if_pos hk] at hy
        cases hy
        cases hb : u.ownBlock with
        | none => exact .inl rfl
        | some g =>
          refine .inr (fun e' => ?_)
          rcases hloc with e | e
          · rcases h.apart i k u z (fun e' => e1 e'.symm) hu hz with h0 | h0
            · rw [hb] at h0; cases h0
            · exact h0 (by rw [hb, e', e])
          · rw [e] at e'
            cases e'
            have := low i u hu _ hb
            omega
      · rw [if_neg e2] at hy
        exact h.apart i j u y hij hu hy
theorem wpList_pushAt {ops : Array Oper} {rest : List Oper} {o : Oper} {a : Act} {Q : Exit → Act → World → Prop} {w : World} (hgd : o.guard = none) (s x : Operand)
    (ho : o.op = .call { callee := .builtin .append, args := #[s, x], argTypes := #[26, 26] })
    (B : Nat) (v : Value) (l : List Int) (n : Int) (hs : a.eval s = v) (hf : Fresh B w v l) (ad : Addr) (c : Nat) (hx : a.eval x = .slice (some ad) 1 c)
    (hc : w.cell? ad = some (.int .i64 n)) (hl : l.length ≤ 1099511627776) (hB : B ≤ w.heap.size)
    (h : ∀ v' w', Fresh B w' v' (l ++ [n]) → w.grownBy w' v.ownBlock → Kept B w w' → (v'.ownBlock = v.ownBlock ∨ v'.ownBlock = some w.heap.size) → wpList Tryz.prog ops Q rest (a.put o.dst v') w') : wpList Tryz.prog ops Q (o :: rest) a w := by
  obtain ⟨i0, hi, hz0, hz1, hz2⟩ := info_parts Tryz.infoInt
  refine wpList_append_own_at _ hgd s x 26 ho B 3 i0 (.int .i64 0) 1 8 Tryz.underlying26 hi hz0 hz1 hz2 rfl (by decide) v l.length _ hs hf ad 1 c [.int .i64 n] hx rfl ?_ ?_ ?_ ?_ hB ?_
  · intro j u hj
    match j, hj with
    | 0, hj => simp at hj; subst hj; simpa [Addr.add] using hc
  · intro u hu; simp at hu; subst hu; rfl
  · unfold maxLen; omega
  · omega
  · intro v' w' ho' hg _ hloc
    refine h v' w' ?_ hg (fun w0 hx0 hB0 => Below.grown hx0 hg hx0.size (fun q hq => Nat.le_trans hB0 (World.ownsRow.lt hf q hq).1)) hloc
    unfold Fresh
    rw [List.map_append, List.length_append]; exact ho'
end Go.Proofs.YtcpmfcigciknlaaGreat

namespace Go.Proofs.YtcpmfcigciknlaaGreat
open Go.RowKit Go.Maps
set_option linter.unusedVariables false
def tillT (T : List (List RowD)) (k j p q : Nat) : Bool := inT T p q && (decide (p < k) || (decide (p = k) && decide (q < j)))
theorem tillT_zero (T : List (List RowD)) (p q : Nat) : tillT T 0 0 p q = false := by simp [tillT]
theorem tillT_step {T : List (List RowD)} {k j : Nat} (hk : k < T.length) (hj : j < T[k].length) (p q : Nat) :
    tillT T k (j + 1) p q = (tillT T k j p q || (decide (p = k) && decide (q = j))) := by
  unfold tillT
  by_cases e : p = k ∧ q = j
  · obtain ⟨rfl, rfl⟩ := e
    rw [inT_mk hk hj]
    simp
  · have h1 : (decide (p = k) && decide (q = j)) = false := by simpa using e
    rw [h1, Bool.or_false]
    congr 1
    rw [Bool.eq_iff_iff]
    simp
    omega
theorem tillT_next {T : List (List RowD)} {k : Nat} (hk : k < T.length) (p q : Nat) : tillT T (k + 1) 0 p q = tillT T k T[k].length p q := by
  unfold tillT
  cases hi : inT T p q with
  | false => rfl
  | true =>
    obtain ⟨hp, hq⟩ := inT_of hi
    rw [Bool.eq_iff_iff]
    simp
    by_cases e : p = k
    · subst e
      simp [hq]
    · omega
theorem tillT_all {T : List (List RowD)} (p q : Nat) : tillT T T.length 0 p q = inT T p q := by
  unfold tillT
  cases hi : inT T p q with
  | false => rfl
  | true =>
    obtain ⟨hp, hq⟩ := inT_of hi
    simp [hp]
def NewRowMap (T : List (List RowD)) (S : Nat → Nat → Bool) (f : Nat → Nat → Value) (w : World) (e : Ending) (w' : World) : Prop :=
  ∃ b D, e = .returned (.map (some b)) ∧ RowMap w' b 30 D ∧ MapOf D S f ∧ w.heap.size ≤ b ∧ Ext w w'
theorem Ext.turned {w0 w w' : World} {b : Nat} (h : Ext w0 w) (t : w.grownBy w' (some b)) (hb : w0.heap.size ≤ b) : Ext w0 w' := Below.grown h t h.size (fun k hk => by cases hk; exact hb)
set_option maxHeartbeats 4000000 in
set_option maxRecDepth 100000 in
theorem rowsIn_any (n : Int) (u : Value) (T : List (List RowD)) (U : Nat → Nat → Value) (w : World) (hu : TabAt w u T U) (hT : T.length ≤ 5) (hR6 : ∀ R ∈ T, R.length ≤ 6) :
    Calls Tryz.prog 142 #[.agg #[.int .i64 n, u]] w (NewRowMap T (inT T) (rowF n T U) w) := by
  obtain ⟨au, cu, rfl, hlu, _, hcu⟩ := hu
  unfold maxLen at hlu
  have H6 := Lib.hid hR6
  clear hR6
  have hmm := @run_makeMap Tryz.prog
  have hx0 : Ext w ((w.alloc (.cells #[.int .i64 n, .slice au T.length cu] 32)).alloc (.map #[] 0)) := Ext.alloc (Ext.alloc1 _ _) _
  have hm0 : RowMap ((w.alloc (.cells #[.int .i64 n, .slice au T.length cu] 32)).alloc (.map #[] 0)) (w.heap.size + 1) 0 (.map []) := by
    have h := World.ownsMap_made (w.alloc (.cells #[.int .i64 n, .slice au T.length cu] 32)) Tryz.prog 101 asIs
    simpa using h
  have HX0 := Lib.hid hx0
  have HM0 := Lib.hid hm0
  clear hx0 hm0
  go_enter Tryz.func142, Tryz.ntmps142
  go_wp2
  go_loopw [12] (fun i wr => ∃ (k : Nat) (D : DataW Value), k ≤ T.length ∧ i = .int .i64 k ∧ Hid (RowMap wr (w.heap.size + 1) (6 * k) D) ∧ Hid (MapOf D (tillT T k 0) (rowF n T U)) ∧ Ext w wr) (fun i _ => T.length - (intOf i).toNat)
  case atStart => exact ⟨0, _, Nat.zero_le _, rfl, HM0, Lib.hid ((MapOf.empty (rowF n T U)).congr (fun p q => tillT_zero T p q) (fun _ _ h => by cases h)), HX0.out⟩
  case round =>
    clear HM0 HX0
    obtain ⟨k, D, hk, rfl, HM, HD, hx⟩ := hrel
    by_cases hlt : k < T.length
    · obtain ⟨bu, ou, rfl, du⟩ := hcu (by omega)
      obtain ⟨x, hx1, ix⟩ := du k hlt
      have gu := hx.cell hx1
      obtain ⟨R, hR⟩ : ∃ R, R = T[k] := ⟨_, rfl⟩
      rw [← hR] at ix
      have hl6 : R.length ≤ 6 := by rw [hR]; exact H6.out _ (List.getElem_mem hlt)
      obtain ⟨ax, cx, rfl, hlx, _, hcx⟩ := ix
      unfold maxLen at hlx
      have HR := Lib.hid hR
      have HX := Lib.hid hx
      clear hcu du hx1 hR hx
      go_wp2
      go_loopw [19] (fun i wr => ∃ (j : Nat) (D : DataW Value), j ≤ R.length ∧ i = .int .i64 j ∧ Hid (RowMap wr (w.heap.size + 1) (6 * k + j) D) ∧ Hid (MapOf D (tillT T k j) (rowF n T U)) ∧ Ext w wr) (fun i _ => R.length - (intOf i).toNat)
      case atStart => exact ⟨0, D, Nat.zero_le _, rfl, HM, HD, HX.out⟩
      case round =>
        clear HM HD HX
        obtain ⟨j, D, hj, rfl, HM, HD, hy⟩ := hrel
        by_cases hjt : j < R.length
        · obtain ⟨bx, ox, rfl, dx⟩ := hcx (by omega)
          obtain ⟨hy1, iy⟩ := dx j hjt
          obtain ⟨ay, cy, hU, _⟩ := iy
          have hval : rowF n T U k j = rowV R[j] (U k j) := by
            unfold rowF
            rw [rowOf_in hlt (by rw [← HR.out]; exact hjt)]
            simp only [HR.out]
          obtain ⟨d, hd⟩ : ∃ d, d = R[j] := ⟨_, rfl⟩
          rw [← hd] at hy1 hval hU
          rw [hU] at hy1 hval
          obtain ⟨g0, g1, g2, g3, g4, g5, g6, g7, g8, g9⟩ := hy1.ext hy
          have hput := HD.out.put (p := k) (q := j) (by omega) hval
          have HP := Lib.hid (hput.congr (S' := tillT T k (j + 1)) (f' := rowF n T U) (fun p q => tillT_step hlt (by rw [← HR.out]; exact hjt) p q) (fun _ _ _ => rfl))
          have HY := Lib.hid hy
          have HB : Hid (w.heap.size ≤ w.heap.size + 1) := Lib.hid (by omega)
          clear dx hy1 hd hcx hval hput HD hy hU
          go_wp2_with (at_mapUpdate; refine wpList_mapUpdate_own _ rfl _ _ _ 106 rfl 101 83 instKeyed Tryz.underlying106 asIs (w.heap.size + 1) (6 * k + j) D rfl (HM.out.alloc _) (by unfold maxLen; omega) _ _ (kl (k : Int) ((j : Int) + 1)) rfl rfl (keyOf_inst (wf_small (by omega) (by omega)) (wf_small (by omega) (by omega))) (.held (rowV d (.slice ay d.l.length cy))) [] rfl ?_)
          intro w1 hown1 hgrow1
          have hz : Ext w w1 := (HY.out.alloc _).turned hgrow1 HB.out
          have HO := Lib.hid hown1
          clear hown1 hgrow1 HM HY
          go_wp2
          go_roundw
          case rel => exact ⟨j + 1, _, by omega, by go_num, HO, HP, hz⟩
          case measure => simp [intOf]; omega
        · obtain rfl : j = R.length := by omega
          have HD' : Hid (MapOf D (tillT T (k + 1) 0) (rowF n T U)) := Lib.hid (HD.out.congr (fun p q => by rw [tillT_next hlt, ← HR.out]) (fun _ _ _ => rfl))
          have HM' : Hid (RowMap wr (w.heap.size + 1) (6 * (k + 1)) D) := Lib.hid (HM.out.mono (by omega))
          clear HD HM
          go_wp2
          go_roundw
          case rel => exact ⟨k + 1, D, by omega, by go_num, HM', HD', hy⟩
          case measure => simp [intOf]; omega
    · obtain rfl : k = T.length := by omega
      have HD' : Hid (MapOf D (inT T) (rowF n T U)) := Lib.hid (HD.out.congr (fun p q => (tillT_all p q).symm) (fun _ _ _ => rfl))
      have HM' : Hid (RowMap wr (w.heap.size + 1) 30 D) := Lib.hid (HM.out.mono (by omega))
      clear HD HM
      go_wp2
      go_ret
      exact ⟨_, D, rfl, HM'.out, HD'.out, by omega, hx⟩
end Go.Proofs.YtcpmfcigciknlaaGreat

namespace Go.Proofs.YtcpmfcigciknlaaGreat
open Go.RowKit
set_option linter.unusedVariables false
end Go.Proofs.YtcpmfcigciknlaaGreat

namespace Go.Proofs.YtcpmfcigciknlaaGreat
open Go.RowKit Go.Maps
set_option linter.unusedVariables false
def sweptT (T : List (List RowD)) (left : Lit → Bool) (p q : Nat) : Bool := inT T p q && (instCom T p q || left (kl (p : Int) ((q : Int) + 1)))
theorem inT_low {T : List (List RowD)} (hT : T.length ≤ 5) (hR6 : ∀ R ∈ T, R.length ≤ 6) {p q : Nat} (h : inT T p q = true) : p ≤ 4 ∧ q ≤ 5 := by
  obtain ⟨hp, hq⟩ := inT_of h
  have := hR6 _ (List.getElem_mem hp)
  omega
theorem instCom_inT {T : List (List RowD)} {p q : Nat} (h : instCom T p q = true) : inT T p q = true := by
  obtain ⟨hp, hq, _⟩ := instCom_lt h
  exact inT_mk hp hq
theorem instCom_row {n : Int} {T : List (List RowD)} {p q : Nat} (h : inT T p q = true) : instCom T p q = ((rowOf n T p q).st == 3) := by
  obtain ⟨hp, hq⟩ := inT_of h
  rw [instCom_in hp hq, rowOf_in hp hq]
theorem same_kl {p q p' q' : Nat} (h1 : p ≤ 1048576 ∧ q ≤ 1048576) (h2 : p' ≤ 1048576 ∧ q' ≤ 1048576) : (kl (p : Int) ((q : Int) + 1)).sameKey (kl (p' : Int) ((q' : Int) + 1)) = (decide (p = p') && decide (q = q')) := by
  by_cases e : p = p' ∧ q = q'
  · obtain ⟨rfl, rfl⟩ := e
    rw [WideAt.sameKey_self (instKeyed.key (keyOf_inst (wf_small (by omega) (by omega)) (wf_small (by omega) (by omega))))]
    simp
  · rw [Maps.sameKey_ne (kl_ne h1 h2 e)]
    symm
    simpa using e
theorem swept_stays {T : List (List RowD)} (hT : T.length ≤ 5) (hR6 : ∀ R ∈ T, R.length ≤ 6) {left : Lit → Bool} {p q : Nat} (hi : inT T p q = true) (hc : instCom T p q = true) (p' q' : Nat) :
    sweptT T (fun z => left z && !z.sameKey (kl (p : Int) ((q : Int) + 1))) p' q' = sweptT T left p' q' := by
  unfold sweptT
  cases hi' : inT T p' q' with
  | false => rfl
  | true =>
    have h1 := inT_low hT hR6 hi
    have h2 := inT_low hT hR6 hi'
    simp only [Bool.true_and]
    rw [same_kl (by omega) (by omega)]
    by_cases e : p' = p ∧ q' = q
    · obtain ⟨rfl, rfl⟩ := e
      rw [hc]; rfl
    · have : (decide (p' = p) && decide (q' = q)) = false := by simpa using e
      rw [this]
      simp
theorem swept_goes {T : List (List RowD)} (hT : T.length ≤ 5) (hR6 : ∀ R ∈ T, R.length ≤ 6) {left : Lit → Bool} {p q : Nat} (hi : inT T p q = true) (hc : instCom T p q = false) (p' q' : Nat) :
    sweptT T (fun z => left z && !z.sameKey (kl (p : Int) ((q : Int) + 1))) p' q' = (sweptT T left p' q' && !(decide (p' = p) && decide (q' = q))) := by
  unfold sweptT
  cases hi' : inT T p' q' with
  | false => rfl
  | true =>
    have h1 := inT_low hT hR6 hi
    have h2 := inT_low hT hR6 hi'
    simp only [Bool.true_and]
    rw [same_kl (by omega) (by omega)]
    by_cases e : p' = p ∧ q' = q
    · obtain ⟨rfl, rfl⟩ := e
      rw [hc]; simp
    · have : (decide (p' = p) && decide (q' = q)) = false := by simpa using e
      rw [this]
      simp
theorem swept_start {T : List (List RowD)} {D : DataW Value} {f : Nat → Nat → Value} (h : MapOf D (inT T) f) (p q : Nat) : sweptT T (Maps.has D) p q = inT T p q := by
  unfold sweptT
  cases hi : inT T p q with
  | false => rfl
  | true => rw [h.has p q hi]; simp
theorem swept_end {T : List (List RowD)} {left : Lit → Bool} (h : ∀ l, left l = false) (p q : Nat) : instCom T p q = sweptT T left p q := by
  unfold sweptT
  rw [h]
  cases hi : instCom T p q with
  | false => simp
  | true => rw [instCom_inT hi]; rfl
theorem swept_in {T : List (List RowD)} {left : Lit → Bool} {p q : Nat} (h : sweptT T left p q = true) : inT T p q = true := by
  unfold sweptT at h
  rw [Bool.and_eq_true] at h
  exact h.1
set_option maxHeartbeats 4000000 in
set_option maxRecDepth 100000 in
theorem committedIn_any (n : Int) (u : Value) (T : List (List RowD)) (U : Nat → Nat → Value) (w : World) (hu : TabAt w u T U) (hT : T.length ≤ 5) (hR6 : ∀ R ∈ T, R.length ≤ 6) :
    Calls Tryz.prog 99 #[.agg #[.int .i64 n, u]] w (NewRowMap T (instCom T) (rowF n T U) w) := by
  have HL := Lib.hid (hu.lists n)
  have HU := Lib.hid (hu.ext (Ext.alloc1 w (.cells #[.int .i64 n, u] 32)))
  have H5 := Lib.hid hT
  have H6 := Lib.hid hR6
  obtain ⟨au, cu, rfl, hlu, _, _⟩ := hu
  unfold maxLen at hlu
  clear hR6
  go_enter Tryz.func99, Tryz.ntmps99
  go_wp2_with fail
  refine (rowsIn_any n _ T U _ HU.out hT H6.out).mono ?_
  rintro e w1 ⟨B, D0, rfl, m1, d1, hb1, x1⟩
  have hx1 : Ext w w1 := (Ext.alloc1 _ _).trans x1
  have hB : w.heap.size ≤ B := Nat.le_trans (Ext.alloc1 w (.cells #[.int .i64 n, .slice au T.length cu] 32)).size hb1
  have M1 := Lib.hid m1
  have D1 := Lib.hid d1
  have X1 := Lib.hid hx1
  clear m1 d1 hx1 x1 hb1
  go_wp2_with (first | (at_range; refine wpList_range_own _ rfl _ 106 rfl 101 83 instKeyed Tryz.underlying106 asIs B 30 D0 rfl M1.out ?_; intro w2 hrg2 hg2 hs2) | go_in)
  go_frame
  have X2 := Lib.hid (X1.out.trans (ext_of_grown hg2))
  have R2 := Lib.hid hrg2
  have X1' := X1.out
  clear hrg2 hg2 hs2 M1 X1
  obtain ⟨r, hr⟩ : ∃ r, r = w1.heap.size := ⟨_, rfl⟩
  rw [← hr] at R2 ⊢
  have hrb : w.heap.size ≤ r := by rw [hr]; exact X1'.size
  clear hr X1'
  go_loopw [4, 5] (fun _ _ wr => ∃ (D : DataW Value) (left : Lit → Bool) (cnt : Nat), Hid (RowRange wr B r 30 D left cnt) ∧ Hid (MapOf D (sweptT T left) (rowF n T U)) ∧ Hid (Ext w wr)) (fun _ _ wr => wr.rangeLeft B r)
  case atStart => exact ⟨D0, _, _, R2, Lib.hid (D1.out.congr (fun p q => swept_start D1.out p q) (fun _ _ _ => rfl)), X2⟩
  case round =>
    clear R2 D1 X2
    obtain ⟨D, left, cnt, R, M, X⟩ := hrel
    go_wp2_with (first | (at_next; refine wpList_next_inst _ rfl _ rfl B r 30 D left cnt _ _ rfl R.out M.out ?_ ?_) | go_in)
    · intro hl
      have M' := Lib.hid (M.out.congr (S' := instCom T) (f' := rowF n T U) (fun p q => swept_end hl p q) (fun _ _ _ => rfl))
      have R' := Lib.hid R.out.owns
      clear M R
      go_wp2
      go_ret
      exact ⟨_, D, rfl, R'.out, M'.out, hB, X.out⟩
    · intro p q w3 cnt3 hS hlk hrg3 hlt hg3 hs3 hen
      have hi := swept_in hS
      have hx3 : Ext w w3 := X.out.turned hg3 hrb
      obtain ⟨ay, cy, hU, _⟩ := HL.out p q hi
      unfold rowF rowV at hen ⊢
      rw [hU] at hen ⊢
      have R3 := Lib.hid hrg3
      have X3 := Lib.hid hx3
      have hcom : instCom T p q = ((rowOf n T p q).st == 3) := instCom_row hi
      obtain ⟨d, hd⟩ : ∃ d, d = rowOf n T p q := ⟨_, rfl⟩
      rw [← hd] at hen hcom ⊢
      have hlow := inT_low hT H6.out hi
      have HI := Lib.hid hi
      have HLT := Lib.hid hlt
      have HRO := Lib.hid R.out
      clear hrg3 hx3 hg3 hs3 hlk hd hU R X hS hi hlt
      cases hst : (d.st == 3) with
      | true =>
        rw [hst] at hcom
        have M3 := Lib.hid (M.out.congr (S' := sweptT T (fun z => left z && !z.sameKey (kl (p : Int) ((q : Int) + 1)))) (f' := rowF n T U) (fun p' q' => swept_stays hT H6.out HI.out hcom p' q') (fun _ _ _ => rfl))
        have h3 : d.st = 3 := by simpa using hst
        have ns : (d.st != 3) = false := by simp [h3]
        clear hcom M hst h3
        go_wp2
        go_roundw
        case rel => exact ⟨D, _, _, Lib.hid (((R3.out).alloc _).alloc _), M3, Lib.hid ((X3.out.alloc _).alloc _)⟩
        case measure => rw [((R3.out.alloc _).alloc _).left_eq, HRO.out.left_eq]; exact HLT.out
      | false =>
        rw [hst] at hcom
        have M3 := Lib.hid ((M.out.del (p := p) (q := q) (by omega)).congr (S' := sweptT T (fun z => left z && !z.sameKey (kl (p : Int) ((q : Int) + 1)))) (f' := rowF n T U) (fun p' q' => swept_goes hT H6.out HI.out hcom p' q') (fun _ _ _ => rfl))
        have h3 : ¬ d.st = 3 := by simpa using hst
        have ns : (d.st != 3) = true := by simp [h3]
        clear hcom M hst h3
        go_wp2_with (first | (at_delete; refine wpList_delete_ranges _ rfl _ _ 106 101 rfl 83 instKeyed Tryz.underlying106 asIs B r 30 D _ _ rfl ((R3.out.alloc _).alloc _) _ (kl (p : Int) ((q : Int) + 1)) rfl (keyOf_inst (wf_small (by omega) (by omega)) (wf_small (by omega) (by omega))) ?_; intro w4 cnt4 hrg4 hle ht4; go_frame) | go_in)
        rw [Maps.strike_twice] at hrg4
        have R4 := Lib.hid hrg4
        have X4 : Hid (Ext w w4) := Lib.hid (((X3.out.alloc _).alloc _).turned ht4.grown hB)
        have HLE := Lib.hid hle
        clear hrg4 ht4 hle R3 X3
        go_wp2
        go_roundw
        case rel => exact ⟨_, _, _, R4, M3, X4⟩
        case measure => rw [R4.out.left_eq, HRO.out.left_eq]; exact Nat.lt_of_le_of_lt HLE.out HLT.out
end Go.Proofs.YtcpmfcigciknlaaGreat

namespace Go.Proofs.YtcpmfcigciknlaaGreat
open Go.RowKit Go.Maps
set_option linter.unusedVariables false
set_option maxHeartbeats 1000000 in
theorem hangs_any (s : Int) (v : Value) (l : List Int) (p q : Nat) (w : World) (hv : Ints w v l) (hp : p < l.length) (hq : q ≤ 1048576) :
    Calls Tryz.prog 108 #[.agg #[.int .i64 s, v], .agg #[.int .i64 p, .int .i64 ((q : Int) + 1)]] w (BoolExt (decide ((q : Int) + 1 ≤ l[p]?.getD 0)) w) := by
  obtain ⟨av, cv, rfl, hlv, _, hcv⟩ := hv
  unfold maxLen at hlv
  obtain ⟨bv, ov, rfl, dv⟩ := hcv (by omega)
  have gv := ((Ext.alloc1 w (.cells #[.int .i64 s, .slice (some ⟨bv, ov, none⟩) l.length cv] 81)).alloc (.cells #[.int .i64 p, .int .i64 ((q : Int) + 1)] 101)).cell (dv p hp)
  obtain ⟨x, hx⟩ : ∃ x, x = l[p]?.getD 0 := ⟨_, rfl⟩
  rw [← hx] at gv ⊢
  have hx1 : Ext w ((w.alloc (.cells #[.int .i64 s, .slice (some ⟨bv, ov, none⟩) l.length cv] 81)).alloc (.cells #[.int .i64 p, .int .i64 ((q : Int) + 1)] 101)) := (Ext.alloc1 _ _).alloc _
  have HX := Lib.hid hx1
  clear dv hcv hx hx1
  go_enter Tryz.func108, Tryz.ntmps108
  go_wp2_with fail
  go_quiet (fail)
  go_wp2
  go_ret
  exact ⟨rfl, HX.out.drewN _⟩
end Go.Proofs.YtcpmfcigciknlaaGreat

namespace Go.Proofs.YtcpmfcigciknlaaGreat
open Go.RowKit
set_option linter.unusedVariables false
def ExtOf (W : World) := {w' : World // Ext W w'}
instance (W : World) : Nonempty (ExtOf W) := ⟨⟨W, Ext.refl W⟩⟩
theorem ExtOf.cell {W : World} (e : ExtOf W) {a : Addr} {v : Value} (h : W.cell? a = some v) : e.1.cell? a = some v := Ext.cell e.2 h
theorem wp_region_ext_lit {P : Program} {id : Nat} {Q : Exit → Act → World → Prop} {a : Act} {w : World} {l : List Oper} (hm : P.follows .mixedOrders = true) (hB : Region.lexB .any l.toArray = true)
    (h : wpQuiet P l.toArray (fun w' => ∃ e : ExtOf w, w' = e.1) (fun a' => ∀ w', (∃ e : ExtOf w, w' = e.1) → Q .normal a' w') l a) : (Code.region id l.toArray true).wp P Q a w :=
  wp_region_quiet (C := fun w' => ∃ e : ExtOf w, w' = e.1) hm hB ⟨⟨w.drew, Ext.drew (Ext.refl w)⟩, rfl⟩ (by simpa using h)
theorem Calls.ext_of {P : Program} {f : FuncId} {args : Array Value} {W : World} {v : Value} (e : ExtOf W)
    (h : Calls P f args e.1 fun x w' => x = .returned v ∧ Ext e.1 w') : Calls P f args e.1 fun x w'' => x = .returned v ∧ ∃ e' : ExtOf W, w'' = e'.1 :=
  h.mono fun _ w' ⟨he, hx⟩ => ⟨he, ⟨w', e.2.trans hx⟩, rfl⟩
end Go.Proofs.YtcpmfcigciknlaaGreat
