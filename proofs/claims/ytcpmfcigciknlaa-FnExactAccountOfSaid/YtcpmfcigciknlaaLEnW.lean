/- Slices of Entry: 9 cells each. No program text is named here. -/
import Derived.Test.YtcpmfcigciknlaaPutL
namespace Go.Proofs.Ytcpmfcigciknlaa
open Go.RowKit
set_option linter.unusedVariables false

structure EnD where
  r : Int
  n : Int
  k : Int
  i : Int
  f : Int
  t : Int
  a : Int
  c : Int
  s : Int
def enVs (d : EnD) : List Value := [.int .i64 d.r, .int .i64 d.n, .int .i64 d.k, .int .i64 d.i, .int .i64 d.f, .int .i64 d.t, .int .i64 d.a, .int .i64 d.c, .int .i64 d.s]
theorem enVs_len (d : EnD) : (enVs d ).length = 9 := rfl
def EnIn (w : World) (b o : Nat) (d : EnD) : Prop := ∀ j v, (enVs d )[j]? = some v → w.cell? ⟨b, o + j, none⟩ = some v
theorem EnIn.ext {w w' : World} {b o : Nat} {d : EnD} (h : EnIn w b o d ) (e : Ext w w') : EnIn w' b o d  := fun j v hj => e.cell (h j v hj)
theorem enIn_cells {w : World} {b o : Nat} {d : EnD} (h : EnIn w b o d ) :
    w.cell? ⟨b, o, none⟩ = some (.int .i64 d.r) ∧ w.cell? ⟨b, o + 1, none⟩ = some (.int .i64 d.n) ∧ w.cell? ⟨b, o + 2, none⟩ = some (.int .i64 d.k) ∧ w.cell? ⟨b, o + 3, none⟩ = some (.int .i64 d.i) ∧ w.cell? ⟨b, o + 4, none⟩ = some (.int .i64 d.f) ∧ w.cell? ⟨b, o + 5, none⟩ = some (.int .i64 d.t) ∧ w.cell? ⟨b, o + 6, none⟩ = some (.int .i64 d.a) ∧ w.cell? ⟨b, o + 7, none⟩ = some (.int .i64 d.c) ∧ w.cell? ⟨b, o + 8, none⟩ = some (.int .i64 d.s) :=
  ⟨h 0 _ rfl, h 1 _ rfl, h 2 _ rfl, h 3 _ rfl, h 4 _ rfl, h 5 _ rfl, h 6 _ rfl, h 7 _ rfl, h 8 _ rfl⟩
theorem en_cells {w : World} {b : Nat} {d : EnD} (h : BoxV w b (enVs d )) :
    w.cell? ⟨b, 0, none⟩ = some (.int .i64 d.r) ∧ w.cell? ⟨b, 1, none⟩ = some (.int .i64 d.n) ∧ w.cell? ⟨b, 2, none⟩ = some (.int .i64 d.k) ∧ w.cell? ⟨b, 3, none⟩ = some (.int .i64 d.i) ∧ w.cell? ⟨b, 4, none⟩ = some (.int .i64 d.f) ∧ w.cell? ⟨b, 5, none⟩ = some (.int .i64 d.t) ∧ w.cell? ⟨b, 6, none⟩ = some (.int .i64 d.a) ∧ w.cell? ⟨b, 7, none⟩ = some (.int .i64 d.c) ∧ w.cell? ⟨b, 8, none⟩ = some (.int .i64 d.s) :=
  ⟨h.cell 0 _ rfl, h.cell 1 _ rfl, h.cell 2 _ rfl, h.cell 3 _ rfl, h.cell 4 _ rfl, h.cell 5 _ rfl, h.cell 6 _ rfl, h.cell 7 _ rfl, h.cell 8 _ rfl⟩
theorem en_box (w : World) (T : TypeId) (d : EnD) : BoxV (w.alloc (.cells #[.int .i64 d.r, .int .i64 d.n, .int .i64 d.k, .int .i64 d.i, .int .i64 d.f, .int .i64 d.t, .int .i64 d.a, .int .i64 d.c, .int .i64 d.s] T)) w.heap.size (enVs d ) := boxV_new w (enVs d ) T
/-- v is a slice that reads as L in w. -/
def Enz (w : World) (v : Value) (L : List EnD) : Prop :=
  ∃ ao cap, v = .slice ao L.length cap ∧ L.length ≤ maxLen ∧ (L.length ≤ cap ∧ cap ≤ maxLen ∧ (ao = none → cap = 0)) ∧
    (0 < L.length → ∃ b off, ao = some ⟨b, off, none⟩ ∧ ∀ j (h : j < L.length), EnIn w b (off + j * 9) L[j] )
theorem Enz.ext {w w' : World} {v : Value} {L : List EnD} (h : Enz w v L) (e : Ext w w') : Enz w' v L := by
  obtain ⟨ao, cap, hv, hm, hcap, hc⟩ := h
  refine ⟨ao, cap, hv, hm, hcap, fun hp => ?_⟩
  obtain ⟨b, off, ha, hc⟩ := hc hp
  refine ⟨b, off, ha, fun j hj => ?_⟩
  have hu := hc j hj
  exact hu.ext e
theorem Enz.nil (w : World) : Enz w (.slice none 0 0) [] := ⟨none, 0, rfl, by simp, ⟨by simp, by simp, fun _ => rfl⟩, fun h => by simp at h⟩
def bulk1En (d : EnD) : Nat := 0
def weighEn (L : List EnD) : List Nat := L.map bulk1En
theorem weighEn_len (L : List EnD) : (weighEn L).length = L.length := by simp [weighEn]
theorem weighEn_get {L : List EnD} {k : Nat} (h : k < L.length) : (weighEn L)[k]'(by rw [weighEn_len]; exact h) = bulk1En L[k] := by simp [weighEn]
def bulkEn (L : List EnD) : Nat := L.length + (weighEn L).sum
theorem bulkEn_at {L : List EnD} {j : Nat} (h : j < L.length) : bulk1En L[j] ≤ bulkEn L := by
  unfold bulkEn weighEn
  have := len_le_sum (L.map bulk1En) _ (List.mem_map.2 ⟨L[j], List.getElem_mem h, rfl⟩)
  omega
/-- From o on the list xs has the cells of the element. -/
def XEn (xs : List Value) (o : Nat) (d : EnD) : Prop := ∀ q v, (enVs d )[q]? = some v → xs[o + q]? = some v
theorem en_lt {d : EnD} {v : Value} {q : Nat} (h : (enVs d )[q]? = some v) : q < 9 := by
  have := (List.getElem?_eq_some_iff.1 h).1
  rwa [enVs_len] at this
theorem XEn.put_other {xs vs : List Value} {o p : Nat} {d : EnD} (h : XEn xs o d ) (hv : vs.length = 9) (hap : o + 9 ≤ p ∨ p + 9 ≤ o) : XEn (putL xs p vs) o d  := by
  intro q v hq
  have := en_lt hq
  rw [putL_out _ _ _ _ (by omega)]
  exact h q v hq
theorem XEn.put {xs : List Value} {o : Nat} {d : EnD} (h : o + 9 ≤ xs.length) : XEn (putL xs o (enVs d )) o d  := by
  intro q v hq
  have := en_lt hq
  rw [putL_in _ o xs q (by rw [enVs_len]; exact this) (by rw [enVs_len]; exact h)]
  exact hq
theorem XEn.isIn {w : World} {b o : Nat} {xs : List Value} {d : EnD} (h : BoxV w b xs) (hx : XEn xs o d ) : EnIn w b o d  := fun q v hq => h.cell _ _ (hx q v hq)
/-- The first k stand in the block's cells xs. -/
def EnsTo (xs : List Value) (L : List EnD) (k : Nat) : Prop := ∀ j (h : j < L.length), j < k → XEn xs (j * 9) L[j]
theorem EnsTo.put {k : Nat} {xs : List Value} {L : List EnD} (h : EnsTo xs L k) (hk : k < L.length) (hl : xs.length = L.length * 9) : EnsTo (putL xs (k * 9) (enVs L[k])) L (k + 1) := by
  intro j hj hjk
  by_cases e : j = k
  · subst e
    exact XEn.put (by omega)
  · exact XEn.put_other (h j hj (by omega)) (enVs_len _) (by omega)
/-- v is a slice of such in a block from lo on, below hi, that may be written. -/
def EnzM (lo hi : Nat) (w : World) (v : Value) (L : List EnD) : Prop :=
  ∃ g xs, lo ≤ g ∧ g < hi ∧ v = .slice (some ⟨g, 0, none⟩) L.length L.length ∧ L.length ≤ maxLen ∧ BoxV w g xs ∧ xs.length = L.length * 9 ∧ EnsTo xs L L.length
theorem EnzM.reads {lo hi : Nat} {w : World} {v : Value} {L : List EnD} (h : EnzM lo hi w v L) : Enz w v L := by
  obtain ⟨g, xs, _, _, rfl, hm, hb, _, hc⟩ := h
  refine ⟨some ⟨g, 0, none⟩, _, rfl, hm, ⟨Nat.le_refl _, hm, fun h => by cases h⟩, fun _ => ⟨g, 0, rfl, fun j hj => ?_⟩⟩
  have a := hc j hj hj
  rw [Nat.zero_add]; exact XEn.isIn hb a
theorem EnzM.kept {lo hi : Nat} {w w' : World} {v : Value} {L : List EnD} (h : EnzM lo hi w v L) (s : Stood lo hi w w') : EnzM lo hi w' v L := by
  obtain ⟨g, xs, hg, hh, hv, hm, hb, hl, hc⟩ := h
  exact ⟨g, xs, hg, hh, hv, hm, hb.kept s hg hh, hl, hc⟩
theorem EnzM.more {lo lo' hi hi' : Nat} {w : World} {v : Value} {L : List EnD} (h : EnzM lo hi w v L) (h1 : lo' ≤ lo) (h2 : hi ≤ hi') : EnzM lo' hi' w v L := by
  obtain ⟨g, xs, hg, hh, r⟩ := h
  exact ⟨g, xs, Nat.le_trans h1 hg, Nat.lt_of_lt_of_le hh h2, r⟩
theorem EnzM.form {lo hi : Nat} {w : World} {v : Value} {L : List EnD} (h : EnzM lo hi w v L) : ∃ a c, v = .slice a L.length c := by
  obtain ⟨g, _, _, _, hv, _⟩ := h
  exact ⟨_, _, hv⟩
def NewEnS (L : List EnD) (w : World) (e : Ending) (w' : World) : Prop := ∃ v, e = .returned v ∧ EnzM w.heap.size w'.heap.size w' v L ∧ Ext w w'
theorem setCells_en (w : World) (g o : Nat) (d : EnD) :
    w.setCells g o (enVs d ) = (((((((((w.setCell ⟨g, o, none⟩ (.int .i64 d.r)).setCell ⟨g, o + 1, none⟩ (.int .i64 d.n)).setCell ⟨g, o + 2, none⟩ (.int .i64 d.k)).setCell ⟨g, o + 3, none⟩ (.int .i64 d.i)).setCell ⟨g, o + 4, none⟩ (.int .i64 d.f)).setCell ⟨g, o + 5, none⟩ (.int .i64 d.t)).setCell ⟨g, o + 6, none⟩ (.int .i64 d.a)).setCell ⟨g, o + 7, none⟩ (.int .i64 d.c)).setCell ⟨g, o + 8, none⟩ (.int .i64 d.s)) := rfl
end Go.Proofs.Ytcpmfcigciknlaa
