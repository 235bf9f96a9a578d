/- Rows in new memory: cells of a block that reads as rows, lists in blocks of their own. Stores of whole rows. -/
import Derived.Test.YthnoeknalpnadaaToRow
namespace Go.Proofs.Ythnoeknalpnadaa
open Go.RowKit
set_option linter.unusedVariables false

/-- The list xs with the values of vs from place o on. -/
def putL (xs : List Value) : Nat → List Value → List Value
  | _, [] => xs
  | o, v :: r => putL (xs.set o v) (o + 1) r
theorem putL_len : ∀ (vs : List Value) (o : Nat) (xs : List Value), (putL xs o vs).length = xs.length
  | [], _, _ => rfl
  | v :: r, o, xs => by
    show (putL (xs.set o v) (o + 1) r).length = _
    rw [putL_len r]; simp
theorem putL_out : ∀ (vs : List Value) (o : Nat) (xs : List Value) (j : Nat), (j < o ∨ o + vs.length ≤ j) → (putL xs o vs)[j]? = xs[j]?
  | [], _, _, _, _ => rfl
  | v :: r, o, xs, j, h => by
    show (putL (xs.set o v) (o + 1) r)[j]? = _
    rw [putL_out r (o + 1) _ j (by simp at h; omega), List.getElem?_set, if_neg (by simp at h; omega)]
theorem putL_in : ∀ (vs : List Value) (o : Nat) (xs : List Value) (j : Nat), j < vs.length → o + vs.length ≤ xs.length → (putL xs o vs)[o + j]? = vs[j]?
  | v :: r, o, xs, 0, _, h => by
    show (putL (xs.set o v) (o + 1) r)[o + 0]? = _
    rw [List.length_cons] at h
    rw [putL_out r (o + 1) _ _ (by omega), Nat.add_zero, List.getElem?_set_self (by omega)]
    rfl
  | v :: r, o, xs, j + 1, hj, h => by
    show (putL (xs.set o v) (o + 1) r)[o + (j + 1)]? = _
    have := putL_in r (o + 1) (xs.set o v) j (by simpa using hj) (by simp at h ⊢; omega)
    rw [show o + (j + 1) = o + 1 + j by omega, this]
    simp

theorem ownsRow_stores {base e size g n cap : Nat} : ∀ (vs : List Value) (o : Nat) (w : World) (xs : List Value), w.ownsRow base e size (.slice (some ⟨g, 0, none⟩) n cap) n xs →
    (w.setCells g o vs).ownsRow base e size (.slice (some ⟨g, 0, none⟩) n cap) n (putL xs o vs) ∧ w.grownBy (w.setCells g o vs) (some g)
  | [], _, w, _, h => ⟨h, World.grownBy.refl _ _⟩
  | v :: r, o, w, xs, h => by
    have h1 := h.stored o v
    have h2 := ownsRow_stores r (o + 1) _ _ h1.1
    exact ⟨h2.1, h1.2.trans h2.2⟩

/-- From place o on the list xs has the ten cells of the row r. -/
def XRow (xs : List Value) (o : Nat) (r : RowD) (u : Value) : Prop :=
  xs[o]? = some (.int .i64 r.b) ∧ xs[o + 1]? = some (.int .i64 r.v) ∧ xs[o + 2]? = some (.int .i64 r.st) ∧ xs[o + 3]? = some (.int .i64 r.k) ∧ xs[o + 4]? = some (.int .i64 r.i) ∧ xs[o + 5]? = some (.int .i64 r.f) ∧ xs[o + 6]? = some (.int .i64 r.t) ∧ xs[o + 7]? = some (.int .i64 r.a) ∧ xs[o + 8]? = some (.int .i64 r.s) ∧ xs[o + 9]? = some u
def rowL (r : RowD) (u : Value) : List Value := [.int .i64 r.b, .int .i64 r.v, .int .i64 r.st, .int .i64 r.k, .int .i64 r.i, .int .i64 r.f, .int .i64 r.t, .int .i64 r.a, .int .i64 r.s, u]
theorem XRow.put_other {xs : List Value} {o p : Nat} {r d : RowD} {u z : Value} (h : XRow xs o r u) (hap : o + 10 ≤ p ∨ p + 10 ≤ o) : XRow (putL xs p (rowL d z)) o r u := by
  obtain ⟨h0, h1, h2, h3, h4, h5, h6, h7, h8, h9⟩ := h
  have hl : (rowL d z).length = 10 := rfl
  refine ⟨?_, ?_, ?_, ?_, ?_, ?_, ?_, ?_, ?_, ?_⟩ <;> (rw [putL_out _ _ _ _ (by rw [hl]; omega)]; assumption)
theorem XRow.put {xs : List Value} {o : Nat} {d : RowD} {z : Value} (h : o + 10 ≤ xs.length) : XRow (putL xs o (rowL d z)) o d z := by
  have hl : (rowL d z).length = 10 := rfl
  refine ⟨?_, ?_, ?_, ?_, ?_, ?_, ?_, ?_, ?_, ?_⟩
  · exact putL_in _ o xs 0 (by rw [hl]; omega) (by rw [hl]; exact h)
  · exact putL_in _ o xs 1 (by rw [hl]; omega) (by rw [hl]; exact h)
  · exact putL_in _ o xs 2 (by rw [hl]; omega) (by rw [hl]; exact h)
  · exact putL_in _ o xs 3 (by rw [hl]; omega) (by rw [hl]; exact h)
  · exact putL_in _ o xs 4 (by rw [hl]; omega) (by rw [hl]; exact h)
  · exact putL_in _ o xs 5 (by rw [hl]; omega) (by rw [hl]; exact h)
  · exact putL_in _ o xs 6 (by rw [hl]; omega) (by rw [hl]; exact h)
  · exact putL_in _ o xs 7 (by rw [hl]; omega) (by rw [hl]; exact h)
  · exact putL_in _ o xs 8 (by rw [hl]; omega) (by rw [hl]; exact h)
  · exact putL_in _ o xs 9 (by rw [hl]; omega) (by rw [hl]; exact h)
theorem XRow.rowIn {w : World} {B e g n cap j : Nat} {xs : List Value} {r : RowD} {u : Value} (h : w.ownsRow B e 10 (.slice (some ⟨g, 0, none⟩) n cap) n xs) (hj : j < n) (hx : XRow xs (j * 10) r u) : RowIn w g (j * 10) r u := by
  obtain ⟨h0, h1, h2, h3, h4, h5, h6, h7, h8, h9⟩ := hx
  refine ⟨?_, ?_, ?_, ?_, ?_, ?_, ?_, ?_, ?_, ?_⟩ <;> (rw [h.cellAt _ (by omega)]; assumption)

/-- The cells of a block of n rows: the first are R, with the lists us. -/
def Cells (xs : List Value) (us : List Value) (R : List RowD) : Prop := ∀ j (h : j < R.length) (h' : j < us.length), XRow xs (j * 10) R[j] us[j]
theorem Cells.nil (xs : List Value) : Cells xs [] [] := fun j h _ => by simp at h
theorem Cells.snoc {xs us : List Value} {R : List RowD} {d : RowD} {z : Value} (h : Cells xs us R) (hl : us.length = R.length) (hx : R.length * 10 + 10 ≤ xs.length) :
    Cells (putL xs (R.length * 10) (rowL d z)) (us ++ [z]) (R ++ [d]) := by
  intro j hj hj'
  by_cases hlt : j < R.length
  · rw [List.getElem_append_left hlt, List.getElem_append_left (by omega)]
    exact (h j hlt (by omega)).put_other (.inl (by omega))
  · have e : j = R.length := by simp at hj; omega
    subst e
    rw [List.getElem_append_right (Nat.le_refl _), List.getElem_append_right (by omega)]
    simp only [Nat.sub_self, hl, List.getElem_cons_zero]
    exact XRow.put hx

/-- v is a slice in new memory that reads as the rows R, their lists in new memory, each in a block of its own. -/
def FreshR (B : Nat) (w : World) (v : Value) (R : List RowD) : Prop :=
  ∃ xs us, w.ownsRow B 71 10 v R.length xs ∧ Cells xs us R ∧ Rows_ B w us (R.map fun r => r.l) ∧ ∀ (j : Nat) (u : Value), us[j]? = some u → u.ownBlock = none ∨ u.ownBlock ≠ v.ownBlock
theorem FreshR.ext {B : Nat} {w w' : World} {v : Value} {R : List RowD} (h : FreshR B w v R) (e : Ext w w') : FreshR B w' v R := by
  obtain ⟨xs, us, h1, h2, h3, h4⟩ := h
  exact ⟨xs, us, e.ownsRow h1, h2, h3.ext e, h4⟩
theorem FreshR.more {B B' : Nat} {w : World} {v : Value} {R : List RowD} (h : FreshR B w v R) (hb : B' ≤ B) : FreshR B' w v R := by
  obtain ⟨xs, us, h1, h2, h3, h4⟩ := h
  exact ⟨xs, us, ownsRow_more h1 hb, h2, h3.more hb, h4⟩
theorem FreshR.nil (B : Nat) (w : World) : FreshR B w (.slice none 0 0) [] := ⟨[], [], World.ownsRow_nil _ _ _ _, Cells.nil _, Rows_.nil _ _, fun _ _ h => by simp at h⟩
theorem FreshR.rows {B : Nat} {w : World} {v : Value} {R : List RowD} (h : FreshR B w v R) : Rowz w v R := by
  obtain ⟨xs, us, h1, h2, h3, h4⟩ := h
  have hlen : us.length = R.length := by have := h3.len; simpa using this
  rcases id h1.2 with ⟨rfl, hn⟩ | ⟨g, cap, cur, rfl, hb, hg, hnc, hcm, hcs, htake⟩
  · obtain rfl : R = [] := List.eq_nil_of_length_eq_zero hn
    exact Rowz.nil w
  · refine ⟨some ⟨g, 0, none⟩, cap, rfl, by omega, ⟨by omega, by omega, fun h => by cases h⟩, fun _ => ⟨g, 0, rfl, fun j hj => ?_⟩⟩
    refine ⟨us[j]'(by omega), ?_, ?_⟩
    · rw [Nat.zero_add]; exact (h2 j hj (by omega)).rowIn h1 hj
    · exact (h3.row j _ _ (List.getElem?_eq_getElem (by omega)) (by simp [List.getElem?_eq_getElem hj])).ints
theorem FreshR.form {B : Nat} {w : World} {v : Value} {R : List RowD} (h : FreshR B w v R) : ∃ ao cap, v = .slice ao R.length cap := by
  obtain ⟨ao, cap, hv, _⟩ := h.rows
  exact ⟨ao, cap, hv⟩

def NewRows (R : List RowD) (w : World) (e : Ending) (w' : World) : Prop := ∃ v, e = .returned v ∧ FreshR w.heap.size w' v R ∧ Ext w w'
theorem Try.infoRow : (Try.prog.info? 71).map (fun i => (i.zero, i.size, i.bytes)) = some (some (.agg #[.int .i64 0, .int .i64 0, .int .i64 0, .int .i64 0, .int .i64 0, .int .i64 0, .int .i64 0, .int .i64 0, .int .i64 0, .slice none 0 0]), 10, 96) := by kernel_rfl

theorem made_row (n j : Nat) (h : j < n) : XRow (madeCells #[.int .i64 0, .int .i64 0, .int .i64 0, .int .i64 0, .int .i64 0, .int .i64 0, .int .i64 0, .int .i64 0, .int .i64 0, .slice none 0 0] (n * 10)).toList (j * 10) zeroR (.slice none 0 0) := by
  have e : ∀ c, c < 10 → (madeCells #[.int .i64 0, .int .i64 0, .int .i64 0, .int .i64 0, .int .i64 0, .int .i64 0, .int .i64 0, .int .i64 0, .int .i64 0, .slice none 0 0] (n * 10)).toList[j * 10 + c]? = some ((#[Value.int .i64 0, .int .i64 0, .int .i64 0, .int .i64 0, .int .i64 0, .int .i64 0, .int .i64 0, .int .i64 0, .int .i64 0, .slice none 0 0] : Array Value)[c]!) := by
    intro c hc
    have h1 : j * 10 + c < n * 10 := by omega
    have h2 : (j * 10 + c) % 10 = c := by omega
    simp [madeCells, h1, h2]
  exact ⟨e 0 (by omega), e 1 (by omega), e 2 (by omega), e 3 (by omega), e 4 (by omega), e 5 (by omega), e 6 (by omega), e 7 (by omega), e 8 (by omega), e 9 (by omega)⟩

end Go.Proofs.Ythnoeknalpnadaa
