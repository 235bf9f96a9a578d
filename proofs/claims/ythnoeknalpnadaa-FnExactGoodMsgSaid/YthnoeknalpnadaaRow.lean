/- Rows of an instance table: nine numbers and a list. What it is for a row to lie in memory, and for a slice to read as rows. No program text is named here. -/
import Derived.Test.YthnoeknalpnadaaAttr
import Derived.Test.YthnoeknalpnadaaCmdAt
import Derived.Test.YthnoeknalpnadaaSS
namespace Go.Proofs.Ythnoeknalpnadaa
open Go.RowKit
set_option linter.unusedVariables false

structure RowD where
  b : Int
  v : Int
  st : Int
  k : Int
  i : Int
  f : Int
  t : Int
  a : Int
  s : Int
  l : List Int

/-- The row r, its list in the slice u, lies in block b from offset o on. -/
def RowIn (w : World) (b o : Nat) (r : RowD) (u : Value) : Prop :=
  w.cell? ⟨b, o, none⟩ = some (.int .i64 r.b) ∧ w.cell? ⟨b, o + 1, none⟩ = some (.int .i64 r.v) ∧ w.cell? ⟨b, o + 2, none⟩ = some (.int .i64 r.st) ∧ w.cell? ⟨b, o + 3, none⟩ = some (.int .i64 r.k) ∧ w.cell? ⟨b, o + 4, none⟩ = some (.int .i64 r.i) ∧ w.cell? ⟨b, o + 5, none⟩ = some (.int .i64 r.f) ∧ w.cell? ⟨b, o + 6, none⟩ = some (.int .i64 r.t) ∧ w.cell? ⟨b, o + 7, none⟩ = some (.int .i64 r.a) ∧ w.cell? ⟨b, o + 8, none⟩ = some (.int .i64 r.s) ∧ w.cell? ⟨b, o + 9, none⟩ = some u
theorem RowIn.ext {w w' : World} {b o : Nat} {r : RowD} {u : Value} (h : RowIn w b o r u) (e : Ext w w') : RowIn w' b o r u := by
  obtain ⟨h0, h1, h2, h3, h4, h5, h6, h7, h8, h9⟩ := h
  exact ⟨e.cell h0, e.cell h1, e.cell h2, e.cell h3, e.cell h4, e.cell h5, e.cell h6, e.cell h7, e.cell h8, e.cell h9⟩
/-- The same in a block of its own. -/
def RowAt (w : World) (b : Nat) (r : RowD) (u : Value) : Prop :=
  w.cell? ⟨b, 0, none⟩ = some (.int .i64 r.b) ∧ w.cell? ⟨b, 1, none⟩ = some (.int .i64 r.v) ∧ w.cell? ⟨b, 2, none⟩ = some (.int .i64 r.st) ∧ w.cell? ⟨b, 3, none⟩ = some (.int .i64 r.k) ∧ w.cell? ⟨b, 4, none⟩ = some (.int .i64 r.i) ∧ w.cell? ⟨b, 5, none⟩ = some (.int .i64 r.f) ∧ w.cell? ⟨b, 6, none⟩ = some (.int .i64 r.t) ∧ w.cell? ⟨b, 7, none⟩ = some (.int .i64 r.a) ∧ w.cell? ⟨b, 8, none⟩ = some (.int .i64 r.s) ∧ w.cell? ⟨b, 9, none⟩ = some u
theorem RowAt.ext {w w' : World} {b : Nat} {r : RowD} {u : Value} (h : RowAt w b r u) (e : Ext w w') : RowAt w' b r u := by
  obtain ⟨h0, h1, h2, h3, h4, h5, h6, h7, h8, h9⟩ := h
  exact ⟨e.cell h0, e.cell h1, e.cell h2, e.cell h3, e.cell h4, e.cell h5, e.cell h6, e.cell h7, e.cell h8, e.cell h9⟩
theorem rowAt_new (w : World) (T : TypeId) (r : RowD) (u : Value) : RowAt (w.alloc (.cells #[.int .i64 r.b, .int .i64 r.v, .int .i64 r.st, .int .i64 r.k, .int .i64 r.i, .int .i64 r.f, .int .i64 r.t, .int .i64 r.a, .int .i64 r.s, u] T)) w.heap.size r u := by
  refine ⟨?_, ?_, ?_, ?_, ?_, ?_, ?_, ?_, ?_, ?_⟩ <;> go_simp

/-- v is a slice that reads as the rows R in w. -/
def Rowz (w : World) (v : Value) (R : List RowD) : Prop :=
  ∃ ao cap, v = .slice ao R.length cap ∧ R.length ≤ maxLen ∧ (R.length ≤ cap ∧ cap ≤ maxLen ∧ (ao = none → cap = 0)) ∧
    (0 < R.length → ∃ b off, ao = some ⟨b, off, none⟩ ∧ ∀ j (h : j < R.length), ∃ u, RowIn w b (off + j * 10) R[j] u ∧ Ints w u R[j].l)
theorem Rowz.ext {w w' : World} {v : Value} {R : List RowD} (h : Rowz w v R) (e : Ext w w') : Rowz w' v R := by
  obtain ⟨ao, cap, hv, hm, hcap, hc⟩ := h
  refine ⟨ao, cap, hv, hm, hcap, fun hp => ?_⟩
  obtain ⟨b, off, ha, hc⟩ := hc hp
  refine ⟨b, off, ha, fun j hj => ?_⟩
  obtain ⟨u, hu, hi⟩ := hc j hj
  exact ⟨u, hu.ext e, hi.ext e⟩
theorem Rowz.nil (w : World) : Rowz w (.slice none 0 0) [] := ⟨none, 0, rfl, by simp, ⟨by simp, by simp, fun _ => rfl⟩, fun h => by simp at h⟩

/-- v is a slice that reads as the lists of rows T in w. -/
def Rowzz (w : World) (v : Value) (T : List (List RowD)) : Prop :=
  ∃ ao cap, v = .slice ao T.length cap ∧ T.length ≤ maxLen ∧ (T.length ≤ cap ∧ cap ≤ maxLen ∧ (ao = none → cap = 0)) ∧
    (0 < T.length → ∃ b off, ao = some ⟨b, off, none⟩ ∧ ∀ j (h : j < T.length), ∃ u, w.cell? ⟨b, off + j, none⟩ = some u ∧ Rowz w u T[j])
theorem Rowzz.ext {w w' : World} {v : Value} {T : List (List RowD)} (h : Rowzz w v T) (e : Ext w w') : Rowzz w' v T := by
  obtain ⟨ao, cap, hv, hm, hcap, hc⟩ := h
  refine ⟨ao, cap, hv, hm, hcap, fun hp => ?_⟩
  obtain ⟨b, off, ha, hc⟩ := hc hp
  refine ⟨b, off, ha, fun j hj => ?_⟩
  obtain ⟨u, hu, hi⟩ := hc j hj
  exact ⟨u, e.cell hu, hi.ext e⟩
theorem Rowzz.nil (w : World) : Rowzz w (.slice none 0 0) [] := ⟨none, 0, rfl, by simp, ⟨by simp, by simp, fun _ => rfl⟩, fun h => by simp at h⟩

/-- How much a row, rows, a table weigh: their lists, and the numbers in these. -/
def bulkR (R : List RowD) : Nat := R.length + (R.map fun r => r.l.length).sum
def bulkT (T : List (List RowD)) : Nat := T.length + (T.map bulkR).sum
theorem bulkR_row {R : List RowD} {j : Nat} (h : j < R.length) : R[j].l.length ≤ bulkR R := by
  unfold bulkR
  have := len_le_sum (R.map fun r => r.l.length) _ (List.mem_map.2 ⟨R[j], List.getElem_mem h, rfl⟩)
  omega
theorem bulkT_row {T : List (List RowD)} {j : Nat} (h : j < T.length) : bulkR T[j] ≤ bulkT T := by
  unfold bulkT
  have := len_le_sum (T.map bulkR) _ (List.mem_map.2 ⟨T[j], List.getElem_mem h, rfl⟩)
  omega
/-- The sum over the first k. -/
def sumN (g : List Nat) (k : Nat) : Nat := (g.take k).sum
theorem sumN_succ {g : List Nat} {k : Nat} (h : k < g.length) : sumN g (k + 1) = sumN g k + g[k] := by
  unfold sumN
  rw [List.take_add_one, List.getElem?_eq_getElem h, List.sum_append]
  simp only [Option.toList, List.sum_cons, List.sum_nil, Nat.add_zero]
theorem sumN_zero (g : List Nat) : sumN g 0 = 0 := by simp [sumN]
theorem sumN_all (g : List Nat) : sumN g g.length = g.sum := by simp [sumN]
theorem sumN_mono {g : List Nat} {k : Nat} (h : k ≤ g.length) : sumN g k ≤ g.sum := by
  induction hd : g.length - k generalizing k with
  | zero =>
    obtain rfl : k = g.length := by omega
    rw [sumN_all]; exact Nat.le_refl _
  | succ d ih =>
    have hk : k < g.length := by omega
    have := ih (k := k + 1) (by omega) (by omega)
    rw [sumN_succ hk] at this
    omega

end Go.Proofs.Ythnoeknalpnadaa
