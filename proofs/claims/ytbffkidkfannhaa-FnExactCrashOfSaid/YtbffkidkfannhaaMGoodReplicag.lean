/- Texts of this proof, part g: words, plain facts, contracts. -/
import Derived.Test.YtbffkidkfannhaaMGoodReplicaf
import Derived.Test.YtbffkidkfannhaaMGoodReplicaa
import Derived.Test.YtbffkidkfannhaaMGoodReplicac

namespace Go.Proofs.Ytbffkidkfannhaa
open Go.RowKit
set_option linter.unusedVariables false

/-- The list xs with the values of vs from place o on. -/
def putL (xs : List Value) : Nat → List Value → List Value
  | _, [] => xs
  | o, v :: r => putL (xs.set o v) (o + 1) r
theorem putL_len : ∀ (vs : List Value) (o : Nat) (xs : List Value), (putL xs o vs).length = xs.length
  | [], _, _ => rfl
  | v :: r, o, xs => by
    show (putL (xs.set o v) (o + 1) r).length = _
    rw [putL_len r]; simp
theorem putL_out : ∀ (vs : List Value) (o : Nat) (xs : List Value) (j : Nat), (j < o ∨ o + vs.length ≤ j) → (putL xs o vs)[j]? = xs[j]?
  | [], _, _, _, _ => rfl
  | v :: r, o, xs, j, h => by
    show (putL (xs.set o v) (o + 1) r)[j]? = _
    rw [putL_out r (o + 1) _ j (by simp at h; omega), List.getElem?_set, if_neg (by simp at h; omega)]
theorem putL_in : ∀ (vs : List Value) (o : Nat) (xs : List Value) (j : Nat), j < vs.length → o + vs.length ≤ xs.length → (putL xs o vs)[o + j]? = vs[j]?
  | v :: r, o, xs, 0, _, h => by
    show (putL (xs.set o v) (o + 1) r)[o + 0]? = _
    rw [List.length_cons] at h
    rw [putL_out r (o + 1) _ _ (by omega), Nat.add_zero, List.getElem?_set_self (by omega)]
    rfl
  | v :: r, o, xs, j + 1, hj, h => by
    show (putL (xs.set o v) (o + 1) r)[o + (j + 1)]? = _
    have := putL_in r (o + 1) (xs.set o v) j (by simpa using hj) (by simp at h ⊢; omega)
    rw [show o + (j + 1) = o + 1 + j by omega, this]
    simp

theorem ownsRow_stores {base e size g n cap : Nat} : ∀ (vs : List Value) (o : Nat) (w : World) (xs : List Value), w.ownsRow base e size (.slice (some ⟨g, 0, none⟩) n cap) n xs →
    (w.setCells g o vs).ownsRow base e size (.slice (some ⟨g, 0, none⟩) n cap) n (putL xs o vs) ∧ w.grownBy (w.setCells g o vs) (some g)
  | [], _, w, _, h => ⟨h, World.grownBy.refl _ _⟩
  | v :: r, o, w, xs, h => by
    have h1 := h.stored o v
    have h2 := ownsRow_stores r (o + 1) _ _ h1.1
    exact ⟨h2.1, h1.2.trans h2.2⟩

/-- From place o on the list xs has the ten cells of the row r. -/
def XRow (xs : List Value) (o : Nat) (r : RowD) (u : Value) : Prop :=
  xs[o]? = some (.int .i64 r.b) ∧ xs[o + 1]? = some (.int .i64 r.v) ∧ xs[o + 2]? = some (.int .i64 r.st) ∧ xs[o + 3]? = some (.int .i64 r.k) ∧ xs[o + 4]? = some (.int .i64 r.i) ∧ xs[o + 5]? = some (.int .i64 r.f) ∧ xs[o + 6]? = some (.int .i64 r.t) ∧ xs[o + 7]? = some (.int .i64 r.a) ∧ xs[o + 8]? = some (.int .i64 r.s) ∧ xs[o + 9]? = some u
def rowL (r : RowD) (u : Value) : List Value := [.int .i64 r.b, .int .i64 r.v, .int .i64 r.st, .int .i64 r.k, .int .i64 r.i, .int .i64 r.f, .int .i64 r.t, .int .i64 r.a, .int .i64 r.s, u]
theorem XRow.put_other {xs : List Value} {o p : Nat} {r d : RowD} {u z : Value} (h : XRow xs o r u) (hap : o + 10 ≤ p ∨ p + 10 ≤ o) : XRow (putL xs p (rowL d z)) o r u := by
  obtain ⟨h0, h1, h2, h3, h4, h5, h6, h7, h8, h9⟩ := h
  have hl : (rowL d z).length = 10 := rfl
  refine ⟨?_, ?_, ?_, ?_, ?_, ?_, ?_, ?_, ?_, ?_⟩ <;> (rw [putL_out _ _ _ _ (by rw [hl]; omega)]; assumption)
theorem XRow.put {xs : List Value} {o : Nat} {d : RowD} {z : Value} (h : o + 10 ≤ xs.length) : XRow (putL xs o (rowL d z)) o d z := by
  have hl : (rowL d z).length = 10 := rfl
  refine ⟨?_, ?_, ?_, ?_, ?_, ?_, ?_, ?_, ?_, ?_⟩
  · exact putL_in _ o xs 0 (by rw [hl]; omega) (by rw [hl]; exact h)
  · exact putL_in _ o xs 1 (by rw [hl]; omega) (by rw [hl]; exact h)
  · exact putL_in _ o xs 2 (by rw [hl]; omega) (by rw [hl]; exact h)
  · exact putL_in _ o xs 3 (by rw [hl]; omega) (by rw [hl]; exact h)
  · exact putL_in _ o xs 4 (by rw [hl]; omega) (by rw [hl]; exact h)
  · exact putL_in _ o xs 5 (by rw [hl]; omega) (by rw [hl]; exact h)
  · exact putL_in _ o xs 6 (by rw [hl]; omega) (by rw [hl]; exact h)
  · exact putL_in _ o xs 7 (by rw [hl]; omega) (by rw [hl]; exact h)
  · exact putL_in _ o xs 8 (by rw [hl]; omega) (by rw [hl]; exact h)
  · exact putL_in _ o xs 9 (by rw [hl]; omega) (by rw [hl]; exact h)
theorem XRow.rowIn {w : World} {B e g n cap j : Nat} {xs : List Value} {r : RowD} {u : Value} (h : w.ownsRow B e 10 (.slice (some ⟨g, 0, none⟩) n cap) n xs) (hj : j < n) (hx : XRow xs (j * 10) r u) : RowIn w g (j * 10) r u := by
  obtain ⟨h0, h1, h2, h3, h4, h5, h6, h7, h8, h9⟩ := hx
  refine ⟨?_, ?_, ?_, ?_, ?_, ?_, ?_, ?_, ?_, ?_⟩ <;> (rw [h.cellAt _ (by omega)]; assumption)

/-- The cells of a block of n rows: the first are R, with the lists us. -/
def Cells (xs : List Value) (us : List Value) (R : List RowD) : Prop := ∀ j (h : j < R.length) (h' : j < us.length), XRow xs (j * 10) R[j] us[j]
theorem Cells.nil (xs : List Value) : Cells xs [] [] := fun j h _ => by simp at h
theorem Cells.snoc {xs us : List Value} {R : List RowD} {d : RowD} {z : Value} (h : Cells xs us R) (hl : us.length = R.length) (hx : R.length * 10 + 10 ≤ xs.length) :
    Cells (putL xs (R.length * 10) (rowL d z)) (us ++ [z]) (R ++ [d]) := by
  intro j hj hj'
  by_cases hlt : j < R.length
  · rw [List.getElem_append_left hlt, List.getElem_append_left (by omega)]
    exact (h j hlt (by omega)).put_other (.inl (by omega))
  · have e : j = R.length := by simp at hj; omega
    subst e
    rw [List.getElem_append_right (Nat.le_refl _), List.getElem_append_right (by omega)]
    simp only [Nat.sub_self, hl, List.getElem_cons_zero]
    exact XRow.put hx

/-- v is a slice in new memory that reads as the rows R, their lists in new memory, each in a block of its own. -/
def FreshR (B : Nat) (w : World) (v : Value) (R : List RowD) : Prop :=
  ∃ xs us, w.ownsRow B 57 10 v R.length xs ∧ Cells xs us R ∧ Rows_ B w us (R.map fun r => r.l) ∧ ∀ (j : Nat) (u : Value), us[j]? = some u → u.ownBlock = none ∨ u.ownBlock ≠ v.ownBlock
theorem FreshR.ext {B : Nat} {w w' : World} {v : Value} {R : List RowD} (h : FreshR B w v R) (e : Ext w w') : FreshR B w' v R := by
  obtain ⟨xs, us, h1, h2, h3, h4⟩ := h
  exact ⟨xs, us, e.ownsRow h1, h2, h3.ext e, h4⟩
theorem FreshR.more {B B' : Nat} {w : World} {v : Value} {R : List RowD} (h : FreshR B w v R) (hb : B' ≤ B) : FreshR B' w v R := by
  obtain ⟨xs, us, h1, h2, h3, h4⟩ := h
  exact ⟨xs, us, ownsRow_more h1 hb, h2, h3.more hb, h4⟩
theorem FreshR.nil (B : Nat) (w : World) : FreshR B w (.slice none 0 0) [] := ⟨[], [], World.ownsRow_nil _ _ _ _, Cells.nil _, Rows_.nil _ _, fun _ _ h => by simp at h⟩
theorem FreshR.rows {B : Nat} {w : World} {v : Value} {R : List RowD} (h : FreshR B w v R) : Rowz w v R := by
  obtain ⟨xs, us, h1, h2, h3, h4⟩ := h
  have hlen : us.length = R.length := by have := h3.len; simpa using this
  rcases id h1.2 with ⟨rfl, hn⟩ | ⟨g, cap, cur, rfl, hb, hg, hnc, hcm, hcs, htake⟩
  · obtain rfl : R = [] := List.eq_nil_of_length_eq_zero hn
    exact Rowz.nil w
  · refine ⟨some ⟨g, 0, none⟩, cap, rfl, by omega, ⟨by omega, by omega, fun h => by cases h⟩, fun _ => ⟨g, 0, rfl, fun j hj => ?_⟩⟩
    refine ⟨us[j]'(by omega), ?_, ?_⟩
    · rw [Nat.zero_add]; exact (h2 j hj (by omega)).rowIn h1 hj
    · exact (h3.row j _ _ (List.getElem?_eq_getElem (by omega)) (by simp [List.getElem?_eq_getElem hj])).ints
theorem FreshR.form {B : Nat} {w : World} {v : Value} {R : List RowD} (h : FreshR B w v R) : ∃ ao cap, v = .slice ao R.length cap := by
  obtain ⟨ao, cap, hv, _⟩ := h.rows
  exact ⟨ao, cap, hv⟩

def NewRows (R : List RowD) (w : World) (e : Ending) (w' : World) : Prop := ∃ v, e = .returned v ∧ FreshR w.heap.size w' v R ∧ Ext w w'
theorem Try.infoRow : (Try.prog.info? 57).map (fun i => (i.zero, i.size, i.bytes)) = some (some (.agg #[.int .i64 0, .int .i64 0, .int .i64 0, .int .i64 0, .int .i64 0, .int .i64 0, .int .i64 0, .int .i64 0, .int .i64 0, .slice none 0 0]), 10, 96) := by kernel_rfl

theorem made_row (n j : Nat) (h : j < n) : XRow (madeCells #[.int .i64 0, .int .i64 0, .int .i64 0, .int .i64 0, .int .i64 0, .int .i64 0, .int .i64 0, .int .i64 0, .int .i64 0, .slice none 0 0] (n * 10)).toList (j * 10) zeroR (.slice none 0 0) := by
  have e : ∀ c, c < 10 → (madeCells #[.int .i64 0, .int .i64 0, .int .i64 0, .int .i64 0, .int .i64 0, .int .i64 0, .int .i64 0, .int .i64 0, .int .i64 0, .slice none 0 0] (n * 10)).toList[j * 10 + c]? = some ((#[Value.int .i64 0, .int .i64 0, .int .i64 0, .int .i64 0, .int .i64 0, .int .i64 0, .int .i64 0, .int .i64 0, .int .i64 0, .slice none 0 0] : Array Value)[c]!) := by
    intro c hc
    have h1 : j * 10 + c < n * 10 := by omega
    have h2 : (j * 10 + c) % 10 = c := by omega
    simp [madeCells, h1, h2]
  exact ⟨e 0 (by omega), e 1 (by omega), e 2 (by omega), e 3 (by omega), e 4 (by omega), e 5 (by omega), e 6 (by omega), e 7 (by omega), e 8 (by omega), e 9 (by omega)⟩

end Go.Proofs.Ytbffkidkfannhaa

namespace Go.Proofs.Ytbffkidkfannhaa
open Go.RowKit
set_option linter.unusedVariables false

theorem setCells_row (w : World) (g o : Nat) (r : RowD) (u : Value) :
    w.setCells g o (rowL r u) = ((((((((((w.setCell ⟨g, o, none⟩ (.int .i64 r.b)).setCell ⟨g, o + 1, none⟩ (.int .i64 r.v)).setCell ⟨g, o + 2, none⟩ (.int .i64 r.st)).setCell ⟨g, o + 3, none⟩ (.int .i64 r.k)).setCell ⟨g, o + 4, none⟩ (.int .i64 r.i)).setCell ⟨g, o + 5, none⟩ (.int .i64 r.f)).setCell ⟨g, o + 6, none⟩ (.int .i64 r.t)).setCell ⟨g, o + 7, none⟩ (.int .i64 r.a)).setCell ⟨g, o + 8, none⟩ (.int .i64 r.s)).setCell ⟨g, o + 9, none⟩ u) := rfl

set_option maxHeartbeats 2000000 in
set_option maxRecDepth 100000 in
theorem toRowS_any (u : Value) (R : List RowD) (w : World) (hu : Rowz w u R) (hs : bulkR R ≤ 1099511627776) :
    Calls Try.prog 87 #[u] w (NewRows R w) := by
  obtain ⟨au, cu, rfl, hlu, _, hcu⟩ := hu
  unfold maxLen at hlu
  have hL : R.length ≤ 1099511627776 := by unfold bulkR at hs; omega
  obtain ⟨i0, hi, hz0, hz1, hz2⟩ := info_parts Try.infoRow
  have HS := Lib.hid hs
  clear hs
  go_enter Try.func87, Try.ntmps87
  go_wp2_with (at_make; refine wpList_make_full _ rfl _ _ 67 rfl w.heap.size 57 i0 _ 10 Try.underlying67 hi hz0 hz1 _ _ _ _ R.length rfl rfl rfl rfl ?c1 ?c2 ?c3 ?_)
  case c1 => rw [hz2]; omega
  case c2 => unfold maxLen; omega
  case c3 => simp
  intro w1 ho1 hg1
  have hx1 : Ext w w1 := ext_of_grown hg1
  have hz : ∀ j, 0 ≤ j → j < R.length → XRow (madeCells #[.int .i64 0, .int .i64 0, .int .i64 0, .int .i64 0, .int .i64 0, .int .i64 0, .int .i64 0, .int .i64 0, .int .i64 0, .slice none 0 0] (R.length * 10)).toList (j * 10) zeroR (.slice none 0 0) := fun j _ hj => made_row _ j hj
  have hsz : w.heap.size < w1.heap.size := by
    rcases ho1.2 with ⟨h, _⟩ | ⟨g, cap, cur, h, hb, hg, _⟩
    · cases h
    · simp only [Value.slice.injEq, Option.some.injEq, Addr.mk.injEq, and_true, true_and] at h
      obtain ⟨rfl, _⟩ := h
      exact (Array.getElem?_eq_some_iff.1 hg).1
  obtain ⟨xs0, hxs⟩ : ∃ xs, xs = (madeCells #[.int .i64 0, .int .i64 0, .int .i64 0, .int .i64 0, .int .i64 0, .int .i64 0, .int .i64 0, .int .i64 0, .int .i64 0, .slice none 0 0] (R.length * 10)).toList := ⟨_, rfl⟩
  rw [← hxs] at ho1 hz
  clear hg1 hz0 hz1 hz2 hi hxs
  have HZ := Lib.hid hz
  clear hz
  go_wp2
  go_loopw [4] (fun i wr => ∃ (k : Nat) (xs us : List Value), k ≤ R.length ∧ i = .int .i64 k ∧ wr.ownsRow w.heap.size 57 10 (.slice (some ⟨w.heap.size, 0, none⟩) R.length R.length) R.length xs ∧ Hid (Cells xs us (R.take k)) ∧ Hid (∀ j, k ≤ j → j < R.length → XRow xs (j * 10) zeroR (.slice none 0 0)) ∧ Rows_ (w.heap.size + 1) wr us ((R.take k).map fun r => r.l) ∧ w.heap.size < wr.heap.size ∧ Ext w wr) (fun i _ => R.length - (intOf i).toNat)
  case atStart => exact ⟨0, xs0, [], Nat.zero_le _, rfl, ho1, Lib.hid (by simpa using Cells.nil _), HZ, by simpa using Rows_.nil _ _, hsz, hx1⟩
  case round =>
    clear ho1 hx1 hsz HZ
    obtain ⟨k, xs, us, hk, rfl, ho, hC, hZ, hR, hsz, hx⟩ := hrel
    have hul : us.length = k := by rw [hR.len]; simp; omega
    by_cases hlt : k < R.length
    · obtain ⟨bu, ou, rfl, du⟩ := hcu (by omega)
      obtain ⟨y, hy, iy⟩ := du k hlt
      obtain ⟨d, hd⟩ : ∃ d, d = R[k] := ⟨_, rfl⟩
      have hrow : d.l.length ≤ 35184372088831 := by rw [hd]; have := bulkR_row hlt; have := HS.out; omega
      rw [← hd] at hy iy
      obtain ⟨c0, c1, c2, c3, c4, c5, c6, c7, c8, c9⟩ := hy.ext hx
      have IY := Lib.hid (iy.ext hx)
      have HD := Lib.hid hd
      have HO := Lib.hid ho
      have HR := Lib.hid hR
      have HV := Lib.hid hul
      clear hcu du hy iy ho hR hul hd
      go_wp2_with fail
      refine (toRow_any d y _ IY.out hrow).mono ?_
      rintro e w2 ⟨z, rfl, f2, x2⟩
      clear c0 c1 c2 c3 c4 c5 c6 c7 c8 c9
      have ho2 := x2.ownsRow HO.out
      obtain ⟨g0, g1, g2, g3, g4, g5, g6, g7, g8, g9⟩ := XRow.rowIn ho2 hlt (hZ.out k (Nat.le_refl _) hlt)
      have gf : ∀ q, w2.frozen? ⟨w.heap.size, q, none⟩ = false := fun q => ho2.frozenAt q
      have HST := Lib.hid (ownsRow_stores (rowL d z) (k * 10) _ _ ho2)
      have F2 := Lib.hid f2
      obtain ⟨ax, cx, hz'⟩ := f2.form
      have HXL := Lib.hid (show xs.length = R.length * 10 from ho2.1)
      clear ho2 f2
      subst hz'
      go_wp2
      go_roundw
      case rel =>
        have hst := HST.out
        rw [setCells_row] at hst
        have hsn := HR.out.snoc x2 F2.out (by omega)
        have htk : R.take k ++ [d] = R.take (k + 1) := by rw [HD.out, List.take_add_one, List.getElem?_eq_getElem hlt]; rfl
        have htm : ((R.take k).map fun r => r.l) ++ [d.l] = (R.take (k + 1)).map fun r => r.l := by rw [← htk]; simp
        rw [htm] at hsn
        have hlk : (R.take k).length = k := by simp; omega
        have hcs := hC.out.snoc (d := d) (z := .slice ax d.l.length cx) (by rw [HV.out, hlk]) (by rw [hlk, HXL.out]; omega)
        rw [hlk, htk] at hcs
        refine ⟨k + 1, _, _, by omega, by go_num, hst.1, Lib.hid hcs, Lib.hid fun j hj hj' => (hZ.out j (by omega) hj').put_other (.inr (by omega)), hsn.touch hst.2 (hsn.low (by omega)), ?_, ?_⟩
        · have := x2.size
          simp only [World.size_setCell]; omega
        · exact ((((((((((hx.trans x2).setc (Nat.le_refl _)).setc (Nat.le_refl _)).setc (Nat.le_refl _)).setc (Nat.le_refl _)).setc (Nat.le_refl _)).setc (Nat.le_refl _)).setc (Nat.le_refl _)).setc (Nat.le_refl _)).setc (Nat.le_refl _)).setc (Nat.le_refl _)
      case measure => simp [intOf]; omega
    · obtain rfl : k = R.length := by omega
      have HO := Lib.hid ho
      have HR := Lib.hid hR
      clear ho hR
      go_wp2
      go_ret
      have hC' := hC.out
      have hR' := HR.out
      rw [List.take_length] at hC' hR'
      exact ⟨_, rfl, ⟨xs, us, HO.out, hC', hR'.more (by omega), hR'.low (g := w.heap.size) (by omega)⟩, hx⟩

end Go.Proofs.Ytbffkidkfannhaa

namespace Go.Proofs.Ytbffkidkfannhaa
open Go.RowKit
set_option linter.unusedVariables false

/-- The blocks from lo on, below hi, are as they were. -/
def Stood (lo hi : Nat) (w w' : World) : Prop := w.heap.size ≤ w'.heap.size ∧ ∀ b, lo ≤ b → b < hi → w'.heap[b]? = w.heap[b]?
theorem Stood.refl (lo hi : Nat) (w : World) : Stood lo hi w w := ⟨Nat.le_refl _, fun _ _ _ => rfl⟩
theorem Stood.trans {lo hi : Nat} {a b c : World} (h : Stood lo hi a b) (k : Stood lo hi b c) : Stood lo hi a c :=
  ⟨Nat.le_trans h.1 k.1, fun x h1 h2 => (k.2 x h1 h2).trans (h.2 x h1 h2)⟩
theorem Stood.of_ext {lo hi : Nat} {w w' : World} (h : Ext w w') (hb : hi ≤ w.heap.size) : Stood lo hi w w' := ⟨h.size, fun b _ h2 => Below.block h b (by omega)⟩
theorem Stood.row {lo hi B e sz n : Nat} {w w' : World} {v : Value} {xs : List Value} (h : w.ownsRow B e sz v n xs) (k : Stood lo hi w w') (hb : ∀ b, v.ownBlock = some b → lo ≤ b ∧ b < hi) : w'.ownsRow B e sz v n xs := by
  refine ⟨h.1, ?_⟩
  rcases h.2 with hn | ⟨g, cap, cur, rfl, hbg, hgg, rest⟩
  · exact .inl hn
  · refine .inr ⟨g, cap, cur, rfl, hbg, ?_, rest⟩
    have := hb g rfl
    rw [k.2 g this.1 this.2]; exact hgg

/-- v lies below hi. -/
def Und (hi : Nat) (v : Value) : Prop := ∀ b, v.ownBlock = some b → b < hi
theorem Und.more {hi hi' : Nat} {v : Value} (h : Und hi v) (k : hi ≤ hi') : Und hi' v := fun b hb => Nat.lt_of_lt_of_le (h b hb) k
theorem Fresh.und {B : Nat} {w : World} {v : Value} {l : List Int} (h : Fresh B w v l) : Und w.heap.size v := fun b hb => (World.ownsRow.lt h b hb).2
/-- Nothing has turned but blocks from lo on, below hi; there may be new ones. -/
structure Ins (lo hi : Nat) (w w' : World) : Prop where
  os : w'.os = w.os
  tape : w'.tape = w.tape
  output : w'.output = w.output
  size : w.heap.size ≤ w'.heap.size
  block : ∀ b, b < w.heap.size → (b < lo ∨ hi ≤ b) → w'.heap[b]? = w.heap[b]?
theorem Ins.refl (lo hi : Nat) (w : World) : Ins lo hi w w := ⟨rfl, rfl, rfl, Nat.le_refl _, fun _ _ _ => rfl⟩
theorem Ins.trans {lo hi : Nat} {a b c : World} (h : Ins lo hi a b) (k : Ins lo hi b c) : Ins lo hi a c :=
  ⟨k.os.trans h.os, k.tape.trans h.tape, k.output.trans h.output, Nat.le_trans h.size k.size, fun x hx hy => (k.block x (Nat.lt_of_lt_of_le hx h.size) hy).trans (h.block x hx hy)⟩
theorem Ins.more {lo hi lo' hi' : Nat} {w w' : World} (h : Ins lo hi w w') (h1 : lo' ≤ lo) (h2 : hi ≤ hi') : Ins lo' hi' w w' :=
  ⟨h.os, h.tape, h.output, h.size, fun b hb hc => h.block b hb (by omega)⟩
theorem Ins.of_grown {lo hi : Nat} {w w' : World} {row : Option Nat} (h : w.grownBy w' row) (hr : ∀ g, row = some g → lo ≤ g ∧ g < hi) : Ins lo hi w w' :=
  ⟨h.os, h.tape, h.output, h.size, fun b hb hc => h.block b hb (fun e => by have := hr b e.symm; omega)⟩
theorem Ins.of_ext {lo hi : Nat} {w w' : World} (h : Ext w w') : Ins lo hi w w' :=
  ⟨h.os, h.tape, h.output, h.size, fun b hb _ => Below.block h b hb⟩
theorem Ins.stood {lo hi a b : Nat} {w w' : World} (h : Ins lo hi w w') (hb : b ≤ w.heap.size) (hab : b ≤ lo ∨ hi ≤ a) : Stood a b w w' :=
  ⟨h.size, fun x h1 h2 => h.block x (by omega) (by omega)⟩
theorem Ins.ext {lo hi : Nat} {w0 w w' : World} (h : Ins lo hi w w') (e : Ext w0 w) (hb : w0.heap.size ≤ lo) : Ext w0 w' :=
  ⟨h.os.trans e.os, h.tape.trans e.tape, h.output.trans e.output, Nat.le_trans e.size h.size, fun k hk => (h.block k (Nat.lt_of_lt_of_le hk e.size) (.inl (by omega))).trans (Below.block e k hk)⟩
theorem Ins.row {lo hi B e sz n : Nat} {w w' : World} {v : Value} {xs : List Value} (h : Ins lo hi w w') (f : w.ownsRow B e sz v n xs) (hv : ∀ b, v.ownBlock = some b → b < lo ∨ hi ≤ b) : w'.ownsRow B e sz v n xs := by
  refine ⟨f.1, ?_⟩
  rcases f.2 with hn | ⟨g, cap, cur, rfl, hbg, hgg, rest⟩
  · exact .inl hn
  · refine .inr ⟨g, cap, cur, rfl, hbg, ?_, rest⟩
    rw [h.block g (Array.getElem?_eq_some_iff.1 hgg).1 (hv g rfl)]; exact hgg
theorem Ins.cell {lo hi : Nat} {w w' : World} {a : Addr} {v : Value} (h : Ins lo hi w w') (hc : w.cell? a = some v) (ha : a.block < lo ∨ hi ≤ a.block) : w'.cell? a = some v :=
  (World.cell?_of_block (h.block a.block (World.block_lt_of_cell? w a hc) ha)).trans hc

/-- A list that was made in a time when no block from hi on was there, or later than all below hi, outlives marks between lo and hi. -/
theorem Fresh.ins_low {lo hi B : Nat} {w0 w w' : World} {v : Value} {l : List Int} (f0 : Fresh B w0 v l) (h : Fresh B w v l) (k : Ins lo hi w w') (hb : w0.heap.size ≤ lo) : Fresh B w' v l :=
  k.row h (fun b e => .inl (Nat.lt_of_lt_of_le (World.ownsRow.lt f0 b e).2 hb))
theorem Fresh.ins_high {lo hi B : Nat} {w w' : World} {v : Value} {l : List Int} (h : Fresh B w v l) (k : Ins lo hi w w') (hb : hi ≤ B) : Fresh B w' v l :=
  k.row h (fun b e => .inr (Nat.le_trans hb (World.ownsRow.lt h b e).1))
theorem Ints.ins {lo hi : Nat} {w0 w w' : World} {v : Value} {l : List Int} (h0 : Ints w0 v l) (x : Ext w0 w) (k : Ins lo hi w w') (hb : w0.heap.size ≤ lo) : Ints w' v l := h0.ext (k.ext x hb)

end Go.Proofs.Ytbffkidkfannhaa

namespace Go.Proofs.Ytbffkidkfannhaa
open Go.RowKit
set_option linter.unusedVariables false


/-- As FreshR, all blocks from lo on, below hi. -/
def FreshI (lo hi : Nat) (w : World) (v : Value) (R : List RowD) : Prop :=
  ∃ xs us, w.ownsRow lo 57 10 v R.length xs ∧ Cells xs us R ∧ Rows_ lo w us (R.map fun r => r.l) ∧ (∀ (j : Nat) (u : Value), us[j]? = some u → u.ownBlock = none ∨ u.ownBlock ≠ v.ownBlock) ∧ Und hi v ∧ ∀ (j : Nat) (u : Value), us[j]? = some u → Und hi u
theorem FreshI.fresh {lo hi : Nat} {w : World} {v : Value} {R : List RowD} (h : FreshI lo hi w v R) : FreshR lo w v R := by
  obtain ⟨xs, us, h1, h2, h3, h4, _⟩ := h
  exact ⟨xs, us, h1, h2, h3, h4⟩
theorem FreshR.within {lo hi : Nat} {w : World} {v : Value} {R : List RowD} (h : FreshR lo w v R) (hb : w.heap.size ≤ hi) : FreshI lo hi w v R := by
  obtain ⟨xs, us, h1, h2, h3, h4⟩ := h
  refine ⟨xs, us, h1, h2, h3, h4, fun b e => Nat.lt_of_lt_of_le (World.ownsRow.lt h1 b e).2 hb, fun j u hu => ?_⟩
  have hj : j < us.length := (List.getElem?_eq_some_iff.1 hu).1
  have hr := h3.row j u _ hu (List.getElem?_eq_getElem (by rw [← h3.len]; exact hj))
  exact hr.und.more hb
theorem FreshI.kept {lo hi : Nat} {w w' : World} {v : Value} {R : List RowD} (h : FreshI lo hi w v R) (k : Stood lo hi w w') : FreshI lo hi w' v R := by
  obtain ⟨xs, us, h1, h2, h3, h4, h5, h6⟩ := h
  refine ⟨xs, us, k.row h1 (fun b e => ⟨(World.ownsRow.lt h1 b e).1, h5 b e⟩), h2, ⟨h3.len, fun j u l hu hl => ?_, h3.apart⟩, h4, h5, h6⟩
  have hr := h3.row j u l hu hl
  exact k.row hr (fun b e => ⟨(World.ownsRow.lt hr b e).1, h6 j u hu b e⟩)

/-- v is a slice in new memory, from lo on and below hi, that reads as the lists of rows T, each in blocks of its own. -/
def FreshT (lo hi : Nat) (w : World) (v : Value) (T : List (List RowD)) : Prop :=
  ∃ (vs : List Value) (cut : Nat → Nat), w.ownsRow lo 67 1 v T.length vs ∧ Und (cut 0) v ∧ (∀ j, j < T.length → cut j ≤ cut (j + 1)) ∧ lo ≤ cut 0 ∧ cut T.length ≤ hi ∧
    ∀ j (h : j < T.length) (h' : j < vs.length), FreshI (cut j) (cut (j + 1)) w vs[j] T[j]
theorem FreshT.form {lo hi : Nat} {w : World} {v : Value} {T : List (List RowD)} (h : FreshT lo hi w v T) : ∃ ao cap, v = .slice ao T.length cap := by
  obtain ⟨vs, cut, h1, _⟩ := h
  rcases h1.2 with ⟨rfl, hn⟩ | ⟨g, cap, cur, rfl, _⟩
  · exact ⟨none, 0, by rw [hn]⟩
  · exact ⟨_, _, rfl⟩
theorem cut_mono {cut : Nat → Nat} {n : Nat} (h : ∀ j, j < n → cut j ≤ cut (j + 1)) : ∀ i j, i ≤ j → j ≤ n → cut i ≤ cut j := by
  intro i j hij hj
  induction hd : j - i generalizing i with
  | zero => obtain rfl : i = j := by omega
            exact Nat.le_refl _
  | succ d ih =>
    exact Nat.le_trans (h i (by omega)) (ih (i + 1) (by omega) (by omega))
theorem FreshT.kept {lo hi : Nat} {w w' : World} {v : Value} {T : List (List RowD)} (h : FreshT lo hi w v T) (k : Stood lo hi w w') : FreshT lo hi w' v T := by
  obtain ⟨vs, cut, h1, h2, h3, h4, h5, h6⟩ := h
  have hm := cut_mono h3
  refine ⟨vs, cut, k.row h1 (fun b e => ⟨(World.ownsRow.lt h1 b e).1, ?_⟩), h2, h3, h4, h5, fun j hj hj' => (h6 j hj hj').kept ⟨k.1, fun b b1 b2 => k.2 b ?_ ?_⟩⟩
  · have := h2 b e; have := hm 0 T.length (by omega) (Nat.le_refl _); omega
  · have := hm 0 j (by omega) (by omega); omega
  · have := hm (j + 1) T.length (by omega) (Nat.le_refl _); omega
theorem FreshT.more {lo lo' hi hi' : Nat} {w : World} {v : Value} {T : List (List RowD)} (h : FreshT lo hi w v T) (k : lo' ≤ lo) (k' : hi ≤ hi') : FreshT lo' hi' w v T := by
  obtain ⟨vs, cut, h1, h2, h3, h4, h5, h6⟩ := h
  exact ⟨vs, cut, ownsRow_more h1 k, h2, h3, by omega, by omega, h6⟩
theorem FreshT.rows {lo hi : Nat} {w : World} {v : Value} {T : List (List RowD)} (h : FreshT lo hi w v T) : Rowzz w v T := by
  obtain ⟨vs, cut, h1, h2, h3, h4, h5, h6⟩ := h
  have hlen := h1.1
  rcases id h1.2 with ⟨rfl, hn⟩ | ⟨g, cap, cur, rfl, hb, hg, hnc, hcm, hcs, htake⟩
  · obtain rfl : T = [] := List.eq_nil_of_length_eq_zero hn
    exact Rowzz.nil w
  · refine ⟨some ⟨g, 0, none⟩, cap, rfl, by omega, ⟨by omega, by omega, fun h => by cases h⟩, fun _ => ⟨g, 0, rfl, fun j hj => ?_⟩⟩
    have hc := World.ownsRow.cellAt h1 j (by omega)
    have hu : vs[j]? = some (vs[j]'(by omega)) := List.getElem?_eq_getElem (by omega)
    exact ⟨vs[j]'(by omega), by rw [Nat.zero_add, hc, hu], (h6 j hj (by omega)).fresh.rows⟩

def NewTab (T : List (List RowD)) (w : World) (e : Ending) (w' : World) : Prop := ∃ v, e = .returned v ∧ FreshT w.heap.size w'.heap.size w' v T ∧ Ext w w'
def NewTable (n : Int) (T : List (List RowD)) (w : World) (e : Ending) (w' : World) : Prop := ∃ v, e = .returned (.agg #[.int .i64 n, v]) ∧ FreshT w.heap.size w'.heap.size w' v T ∧ Ext w w'
theorem Try.infoRows : (Try.prog.info? 67).map (fun i => (i.zero, i.size, i.bytes)) = some (some (.slice none 0 0), 1, 24) := by kernel_rfl
theorem set_next (vs : List Value) (z n : Value) (k m : Nat) (hk : vs.length = k) (hm : k < m) : (vs ++ List.replicate (m - k) n).set k z = (vs ++ [z]) ++ List.replicate (m - (k + 1)) n := by
  rw [List.set_append_right _ _ (by omega), hk, Nat.sub_self]
  have e : m - k = (m - (k + 1)) + 1 := by omega
  rw [e, List.replicate_succ, List.set_cons_zero]
  simp

/-- The first k lists lie in ranges of their own. -/
def Laid (w : World) (T : List (List RowD)) (k : Nat) (vs : List Value) (cut : Nat → Nat) : Prop :=
  (∀ j, j < k → cut j ≤ cut (j + 1)) ∧ cut k ≤ w.heap.size ∧ ∀ j (h : j < k) (h1 : j < T.length) (h' : j < vs.length), FreshI (cut j) (cut (j + 1)) w vs[j] T[j]
theorem Laid.next {w w1 w2 : World} {T : List (List RowD)} {k g : Nat} {vs : List Value} {cut : Nat → Nat} {z : Value} {d : List RowD} (h : Laid w T k vs cut) (hk : k < T.length) (hv : vs.length = k) (x : Ext w w1) (f : FreshR w.heap.size w1 z d) (hd : d = T[k])
    (t : w1.grownBy w2 (some g)) (hg : g < cut 0) : Laid w2 T (k + 1) (vs ++ [z]) (fun j => if j ≤ k then cut j else w1.heap.size) := by
  subst hd
  obtain ⟨h1, h2, h3⟩ := h
  have hm := cut_mono h1
  have hx := x.size
  have st : ∀ a b, cut 0 ≤ a → b ≤ w1.heap.size → Stood a b w1 w2 := fun a b ha hb => ⟨t.size, fun q q1 q2 => t.block q (by omega) (fun e => by have := Option.some.inj e; omega)⟩
  refine ⟨fun j hj => ?_, ?_, fun j hj hj1 hj' => ?_⟩
  · by_cases e : j = k
    · subst e
      simp only [Nat.le_refl, if_true, show ¬ (j + 1 ≤ j) by omega, if_false]
      omega
    · have hjk : j < k := by omega
      have hjk' : j + 1 ≤ k := by omega
      have hjk2 : j ≤ k := by omega
      simp only [hjk', hjk2, if_true]
      exact h1 j hjk
  · have := t.size
    simp only [show ¬ (k + 1 ≤ k) by omega, if_false]
    omega
  · by_cases e : j = k
    · subst e
      have c0 := hm 0 j (by omega) (Nat.le_refl _)
      have hzz : (vs ++ [z])[j] = z := by rw [List.getElem_append_right (by omega)]; simp [hv]
      rw [hzz]
      have n1 : ¬ (j + 1 ≤ j) := by omega
      simp only [Nat.le_refl, if_true, n1, if_false]
      refine FreshI.kept (w := w1) ?_ (st _ _ (by omega) (Nat.le_refl _))
      obtain ⟨xs, us, q1, q2, q3, q4⟩ := f
      exact FreshR.within ⟨xs, us, ownsRow_more q1 h2, q2, q3.more h2, q4⟩ (Nat.le_refl _)
    · have hjk : j < k := by omega
      have hjk' : j + 1 ≤ k := by omega
      have hjk2 : j ≤ k := by omega
      simp only [hjk', hjk2, if_true]
      rw [List.getElem_append_left (by omega)]
      have c0 := hm 0 j (by omega) (by omega)
      have c1 := hm (j + 1) k (by omega) (Nat.le_refl _)
      exact ((h3 j hjk hj1 (by omega)).kept (Stood.of_ext x (by omega))).kept (st _ _ (by omega) (by omega))

set_option maxHeartbeats 2000000 in
theorem toRowSS_any (u : Value) (T : List (List RowD)) (w : World) (hu : Rowzz w u T) (hs : bulkT T ≤ 1099511627776) :
    Calls Try.prog 45 #[u] w (NewTab T w) := by
  obtain ⟨au, cu, rfl, hlu, _, hcu⟩ := hu
  unfold maxLen at hlu
  have hL : T.length ≤ 1099511627776 := by unfold bulkT at hs; omega
  obtain ⟨i0, hi, hz0, hz1, hz2⟩ := info_parts Try.infoRows
  have HS := Lib.hid hs
  clear hs
  go_enter Try.func45, Try.ntmps45
  go_wp2_with (at_make; refine wpList_make_full _ rfl _ _ 30 rfl w.heap.size 67 i0 _ 1 Try.underlying30 hi hz0 hz1 _ _ _ _ T.length rfl rfl rfl rfl ?c1 ?c2 ?c3 ?_)
  case c1 => rw [hz2]; omega
  case c2 => unfold maxLen; omega
  case c3 => simp
  intro w1 ho1 hg1
  have hx1 : Ext w w1 := ext_of_grown hg1
  have ho : w1.ownsRow w.heap.size 67 1 (.slice (some ⟨w.heap.size, 0, none⟩) T.length T.length) T.length (([] : List Value) ++ List.replicate (T.length - 0) (.slice none 0 0)) := by
    rw [toList_madeCells_one] at ho1
    simpa using ho1
  have hsz : w.heap.size < w1.heap.size := by
    rcases ho1.2 with ⟨h, _⟩ | ⟨g, cap, cur, h, hb, hg, _⟩
    · cases h
    · simp only [Value.slice.injEq, Option.some.injEq, Addr.mk.injEq, and_true, true_and] at h
      obtain ⟨rfl, _⟩ := h
      exact (Array.getElem?_eq_some_iff.1 hg).1
  clear ho1 hg1 hz0 hz1 hz2 hi
  have hlaid : Hid (Laid w1 T 0 [] (fun _ => w.heap.size + 1)) := Lib.hid ⟨fun j h => by omega, hsz, fun j h => by omega⟩
  go_wp2
  go_loopw [4] (fun i wr => ∃ (k : Nat) (vs : List Value) (cut : Nat → Nat), k ≤ T.length ∧ i = .int .i64 k ∧ wr.ownsRow w.heap.size 67 1 (.slice (some ⟨w.heap.size, 0, none⟩) T.length T.length) T.length (vs ++ List.replicate (T.length - k) (.slice none 0 0)) ∧ Hid (Laid wr T k vs cut) ∧ Hid (cut 0 = w.heap.size + 1) ∧ Hid (vs.length = k) ∧ Ext w wr) (fun i _ => T.length - (intOf i).toNat)
  case atStart => exact ⟨0, [], _, Nat.zero_le _, rfl, ho, hlaid, Lib.hid rfl, Lib.hid rfl, hx1⟩
  case round =>
    clear ho hx1 hsz hlaid
    obtain ⟨k, vs, cut, hk, rfl, ho, hL, hC, hV, hx⟩ := hrel
    by_cases hlt : k < T.length
    · obtain ⟨bu, ou, rfl, du⟩ := hcu (by omega)
      obtain ⟨y, hy, iy⟩ := du k hlt
      obtain ⟨d, hd⟩ : ∃ d, d = T[k] := ⟨_, rfl⟩
      have hrow : bulkR d ≤ 1099511627776 := by rw [hd]; have := bulkT_row hlt; have := HS.out; omega
      rw [← hd] at iy
      have gu := hx.cell hy
      have IY := Lib.hid (iy.ext hx)
      have HD := Lib.hid hd
      have HO := Lib.hid ho
      clear hcu du hy iy ho hd
      go_wp2_with fail
      refine (toRowS_any _ d _ IY.out hrow).mono ?_
      rintro e w2 ⟨z, rfl, f2, x2⟩
      clear gu
      have ho2 := x2.ownsRow HO.out
      have hlen2 : (vs ++ List.replicate (T.length - k) (Value.slice none 0 0)).length = T.length := by simp [hV.out]; omega
      have go := (ho2.cellAt k (by omega)).trans (show _ = some (Value.slice none 0 0) by
        rw [List.getElem?_append_right (by have := hV.out; omega)]
        rw [List.getElem?_replicate, if_pos (by have := hV.out; omega)])
      have gf := ho2.frozenAt k
      clear hlen2
      have HST := Lib.hid (ho2.stored k z)
      have F2 := Lib.hid f2
      obtain ⟨ax, cx, hz'⟩ := f2.form
      clear ho2 f2
      subst hz'
      go_wp2
      go_roundw
      case rel =>
        have hst := HST.out
        rw [set_next vs _ _ k T.length hV.out hlt] at hst
        have hn := hL.out.next hlt hV.out x2 F2.out HD.out hst.2 (by rw [hC.out]; omega)
        refine ⟨k + 1, _, _, by omega, by go_num, hst.1, Lib.hid hn, Lib.hid (by simp only [Nat.zero_le, if_true]; exact hC.out), Lib.hid (by simp [hV.out]), Below.setCell (hx.trans x2) (Nat.le_refl _) _⟩
      case measure => simp [intOf]; omega
    · obtain rfl : k = T.length := by omega
      have HO := Lib.hid ho
      clear ho
      go_wp2
      go_ret
      have h := HO.out
      rw [Nat.sub_self] at h
      obtain ⟨q1, q2, q3⟩ := hL.out
      refine ⟨_, rfl, ⟨vs, cut, by simpa using h, fun b e => ?_, q1, by rw [hC.out]; omega, q2, fun j hj hj' => q3 j hj hj hj'⟩, hx⟩
      rw [hC.out]
      have := Option.some.inj e
      simp at this; omega

set_option maxHeartbeats 1000000 in
theorem toTable_any (n : Int) (u : Value) (T : List (List RowD)) (w : World) (hv : Rowzz w u T) (hs : bulkT T ≤ 1099511627776) :
    Calls Try.prog 18 #[.agg #[.int .i64 n, u]] w (NewTable n T w) := by
  have HS := Lib.hid hs
  have HO := Lib.hid (open_three w (.cells #[.int .i64 n, u] 24) 32 32 0 n (.slice none 0 0) (.slice none 0 0))
  clear hs
  go_enter Try.func18, Try.ntmps18
  go_wp2_with fail
  refine (toRowSS_any _ _ _ (hv.ext (Ext.alloc3 _ _ _ _)) HS.out).mono ?_
  rintro e w1 ⟨v, rfl, f1, x1⟩
  obtain ⟨⟨c0, c1⟩, z0, z1⟩ := HO.out.1.ext x1
  obtain ⟨⟨d0, d1⟩, y0, y1⟩ := HO.out.2.ext x1
  have hx : Ext w w1 := (Ext.alloc3 _ _ _ _).trans x1
  rw [size3] at f1
  obtain ⟨av, cv, rfl⟩ := f1.form
  have F := Lib.hid f1
  clear f1 x1 hv
  go_wp2
  refine bodyPost_ret (v := .agg #[.int .i64 n, .slice av T.length cv]) (by simp [results, Try.results18, go_sem, c0, c1]) rfl ⟨_, rfl, ?_, ?_⟩
  · simp only [World.size_setCell]
    refine FreshT.more (F.out.kept ⟨by simp only [World.size_setCell]; exact Nat.le_refl _, fun b b1 b2 => ?_⟩) (by omega) (Nat.le_refl _)
    rw [Below.heap_setCell _ _ _ b (by dsimp only; omega), Below.heap_setCell _ _ _ b (by dsimp only; omega), Below.heap_setCell _ _ _ b (by dsimp only; omega)]
  · exact ((hx.setc (by dsimp only; omega)).setc (by dsimp only; omega)).setc (by dsimp only; omega)

end Go.Proofs.Ytbffkidkfannhaa

namespace Go.Proofs.Ytbffkidkfannhaa
open Go.RowKit
set_option linter.unusedVariables false

set_option maxHeartbeats 1000000 in
theorem eqCmd_same (k i f t a : Int) (w : World) :
    Calls Try.prog 52 #[.agg #[.int .i64 k, .int .i64 i, .int .i64 f, .int .i64 t, .int .i64 a], .agg #[.int .i64 k, .int .i64 i, .int .i64 f, .int .i64 t, .int .i64 a]] w (BoolExt true w) := by
  have e0 : (k != k) = false := by simp
  have e1 : (i != i) = false := by simp
  have e2 : (f != f) = false := by simp
  have e3 : (t != t) = false := by simp
  have e4 : (a != a) = false := by simp
  go_enter Try.func52, Try.ntmps52
  go_wp2
  go_ret
  exact ⟨rfl, ((Ext.refl w).alloc _).alloc _⟩

end Go.Proofs.Ytbffkidkfannhaa

namespace Go.Proofs.Ytbffkidkfannhaa
open Go.RowKit
set_option linter.unusedVariables false

theorem two_rows (w : World) (T T' : TypeId) (r d : RowD) (u v : Value) :
    RowAt ((w.alloc (.cells #[.int .i64 r.b, .int .i64 r.v, .int .i64 r.st, .int .i64 r.k, .int .i64 r.i, .int .i64 r.f, .int .i64 r.t, .int .i64 r.a, .int .i64 r.s, u] T)).alloc (.cells #[.int .i64 d.b, .int .i64 d.v, .int .i64 d.st, .int .i64 d.k, .int .i64 d.i, .int .i64 d.f, .int .i64 d.t, .int .i64 d.a, .int .i64 d.s, v] T')) w.heap.size r u ∧
    RowAt ((w.alloc (.cells #[.int .i64 r.b, .int .i64 r.v, .int .i64 r.st, .int .i64 r.k, .int .i64 r.i, .int .i64 r.f, .int .i64 r.t, .int .i64 r.a, .int .i64 r.s, u] T)).alloc (.cells #[.int .i64 d.b, .int .i64 d.v, .int .i64 d.st, .int .i64 d.k, .int .i64 d.i, .int .i64 d.f, .int .i64 d.t, .int .i64 d.a, .int .i64 d.s, v] T')) (w.heap.size + 1) d v := by
  refine ⟨⟨?_, ?_, ?_, ?_, ?_, ?_, ?_, ?_, ?_, ?_⟩, ⟨?_, ?_, ?_, ?_, ?_, ?_, ?_, ?_, ?_, ?_⟩⟩ <;> go_simp

set_option maxHeartbeats 2000000 in
theorem eqRow_same (r : RowD) (u v : Value) (w : World) (hu : Ints w u r.l) (hv : Ints w v r.l) :
    Calls Try.prog 22 #[.agg #[.int .i64 r.b, .int .i64 r.v, .int .i64 r.st, .int .i64 r.k, .int .i64 r.i, .int .i64 r.f, .int .i64 r.t, .int .i64 r.a, .int .i64 r.s, u], .agg #[.int .i64 r.b, .int .i64 r.v, .int .i64 r.st, .int .i64 r.k, .int .i64 r.i, .int .i64 r.f, .int .i64 r.t, .int .i64 r.a, .int .i64 r.s, v]] w (BoolExt true w) := by
  have h2 := two_rows w 57 57 r r u v
  obtain ⟨wb, hwb⟩ : ∃ wb, wb = (w.alloc (.cells #[.int .i64 r.b, .int .i64 r.v, .int .i64 r.st, .int .i64 r.k, .int .i64 r.i, .int .i64 r.f, .int .i64 r.t, .int .i64 r.a, .int .i64 r.s, u] 57)).alloc (.cells #[.int .i64 r.b, .int .i64 r.v, .int .i64 r.st, .int .i64 r.k, .int .i64 r.i, .int .i64 r.f, .int .i64 r.t, .int .i64 r.a, .int .i64 r.s, v] 57) := ⟨_, rfl⟩
  have xb : Ext w wb := by rw [hwb]; exact ((Ext.refl w).alloc _).alloc _
  rw [← hwb] at h2
  have HWB := Lib.hid hwb
  have H2 := Lib.hid h2
  have e0 : (r.b != r.b) = false := by simp
  have e1 : (r.v != r.v) = false := by simp
  have e2 : (r.st != r.st) = false := by simp
  clear hwb h2
  go_enter Try.func22, Try.ntmps22
  go_wp2_with fail
  rw [← HWB.out]
  refine (eqCmd_same _ _ _ _ _ _).mono ?_
  rintro e w1 ⟨rfl, x1⟩
  obtain ⟨p0, p1, p2, p3, p4, p5, p6, p7, p8, p9⟩ := H2.out.1.ext x1
  obtain ⟨q0, q1, q2, q3, q4, q5, q6, q7, q8, q9⟩ := H2.out.2.ext x1
  go_wp2_with fail
  refine (eqAttr_same _ _ _ r.l _ (hu.ext (xb.trans x1)) (hv.ext (xb.trans x1))).mono ?_
  rintro e w2 ⟨rfl, x2⟩
  have hx := (xb.trans x1).trans x2
  clear p0 p1 p2 p3 p4 p5 p6 p7 p8 p9 q0 q1 q2 q3 q4 q5 q6 q7 q8 q9 x1 x2 xb
  go_wp2
  go_ret
  exact ⟨rfl, hx⟩

theorem stepR {wb W W' : World} {b o b' o' : Nat} {r d : RowD} {u v : Value} (x : Ext W W') (h : Ext wb W ∧ RowIn W b o r u ∧ RowIn W b' o' d v) : Ext wb W' ∧ RowIn W' b o r u ∧ RowIn W' b' o' d v :=
  ⟨h.1.trans x, h.2.1.ext x, h.2.2.ext x⟩

set_option maxHeartbeats 2000000 in
theorem eqRowS_same (u v : Value) (R : List RowD) (w : World) (hu : Rowz w u R) (hv : Rowz w v R) :
    Calls Try.prog 92 #[u, v] w (BoolExt true w) := by
  obtain ⟨au, cu, rfl, hlu, _, hcu⟩ := hu
  obtain ⟨av, cv, rfl, hlv, _, hcv⟩ := hv
  unfold maxLen at hlu hlv
  have e0 : ((R.length : Int) != (R.length : Int)) = false := by simp
  go_enter Try.func92, Try.ntmps92
  go_wp2
  go_loopw [5] (fun i wr => ∃ k : Nat, k ≤ R.length ∧ i = .int .i64 k ∧ Ext w wr) (fun i _ => R.length - (intOf i).toNat)
  case atStart => exact ⟨0, Nat.zero_le _, rfl, Ext.refl _⟩
  case round =>
    obtain ⟨k, hk, rfl, hx⟩ := hrel
    by_cases hlt : k < R.length
    · obtain ⟨bu, ou, rfl, du⟩ := hcu (by omega)
      obtain ⟨bv, ov, rfl, dv⟩ := hcv (by omega)
      obtain ⟨x, hx1, ix⟩ := du k hlt
      obtain ⟨y, hy1, iy⟩ := dv k hlt
      obtain ⟨d, hd⟩ : ∃ d, d = R[k] := ⟨_, rfl⟩
      rw [← hd] at hx1 ix hy1 iy
      have gu := hx1.ext hx
      have gv := hy1.ext hx
      have IX := Lib.hid (ix.ext hx)
      have IY := Lib.hid (iy.ext hx)
      clear hcu hcv du dv hx1 hy1 ix iy hd
      have IXY : Hid (RowIn wr bu (ou + k * 10) d x ∧ RowIn wr bv (ov + k * 10) d y) := Lib.hid ⟨gu, gv⟩
      clear gu gv
      go_wp2_with fail
      go_region_held3 (fun W => Ext wr W ∧ (W.cell? ⟨bu, ou + k * 10, none⟩ = some (.int .i64 d.b) ∧ W.cell? ⟨bu, ou + k * 10 + 1, none⟩ = some (.int .i64 d.v) ∧ W.cell? ⟨bu, ou + k * 10 + 2, none⟩ = some (.int .i64 d.st) ∧ W.cell? ⟨bu, ou + k * 10 + 3, none⟩ = some (.int .i64 d.k) ∧ W.cell? ⟨bu, ou + k * 10 + 4, none⟩ = some (.int .i64 d.i) ∧ W.cell? ⟨bu, ou + k * 10 + 5, none⟩ = some (.int .i64 d.f) ∧ W.cell? ⟨bu, ou + k * 10 + 6, none⟩ = some (.int .i64 d.t) ∧ W.cell? ⟨bu, ou + k * 10 + 7, none⟩ = some (.int .i64 d.a) ∧ W.cell? ⟨bu, ou + k * 10 + 8, none⟩ = some (.int .i64 d.s) ∧ W.cell? ⟨bu, ou + k * 10 + 9, none⟩ = some x) ∧ (W.cell? ⟨bv, ov + k * 10, none⟩ = some (.int .i64 d.b) ∧ W.cell? ⟨bv, ov + k * 10 + 1, none⟩ = some (.int .i64 d.v) ∧ W.cell? ⟨bv, ov + k * 10 + 2, none⟩ = some (.int .i64 d.st) ∧ W.cell? ⟨bv, ov + k * 10 + 3, none⟩ = some (.int .i64 d.k) ∧ W.cell? ⟨bv, ov + k * 10 + 4, none⟩ = some (.int .i64 d.i) ∧ W.cell? ⟨bv, ov + k * 10 + 5, none⟩ = some (.int .i64 d.f) ∧ W.cell? ⟨bv, ov + k * 10 + 6, none⟩ = some (.int .i64 d.t) ∧ W.cell? ⟨bv, ov + k * 10 + 7, none⟩ = some (.int .i64 d.a) ∧ W.cell? ⟨bv, ov + k * 10 + 8, none⟩ = some (.int .i64 d.s) ∧ W.cell? ⟨bv, ov + k * 10 + 9, none⟩ = some y)) (first | (exact stepR (b := bu) (o := ou + k * 10) (b' := bv) (o' := ov + k * 10) (r := d) (d := d) (u := x) (v := y) (by assumption) (by assumption)) | (exact ⟨Ext.drew (Ext.refl _), IXY.out⟩)) (first | (go_at_call 22; refine (eqRow_same d _ _ _ (IX.out.ext (Ext.drew (Ext.refl _))) (IY.out.ext (Ext.drew (Ext.refl _)))).mono ?_; rintro e W ⟨rfl, x9⟩))
      rename_i hH
      have hx2 : Ext w W := hx.trans hH.1
      clear hH x9 hx
      go_wp2
      go_roundw
      case rel => exact ⟨k + 1, by omega, by go_num, hx2⟩
      case measure => simp [intOf]; omega
    · obtain rfl : k = R.length := by omega
      go_wp2
      go_ret
      exact ⟨rfl, hx⟩

end Go.Proofs.Ytbffkidkfannhaa

namespace Go.Proofs.Ytbffkidkfannhaa
open Go.RowKit
set_option linter.unusedVariables false

set_option maxHeartbeats 2000000 in
theorem eqRowSS_same (u v : Value) (T : List (List RowD)) (w : World) (hu : Rowzz w u T) (hv : Rowzz w v T) :
    Calls Try.prog 51 #[u, v] w (BoolExt true w) := by
  obtain ⟨au, cu, rfl, hlu, _, hcu⟩ := hu
  obtain ⟨av, cv, rfl, hlv, _, hcv⟩ := hv
  unfold maxLen at hlu hlv
  have e0 : ((T.length : Int) != (T.length : Int)) = false := by simp
  go_enter Try.func51, Try.ntmps51
  go_wp2
  go_loopw [5] (fun i wr => ∃ k : Nat, k ≤ T.length ∧ i = .int .i64 k ∧ Ext w wr) (fun i _ => T.length - (intOf i).toNat)
  case atStart => exact ⟨0, Nat.zero_le _, rfl, Ext.refl _⟩
  case round =>
    obtain ⟨k, hk, rfl, hx⟩ := hrel
    by_cases hlt : k < T.length
    · obtain ⟨bu, ou, rfl, du⟩ := hcu (by omega)
      obtain ⟨bv, ov, rfl, dv⟩ := hcv (by omega)
      obtain ⟨x, hx1, ix⟩ := du k hlt
      obtain ⟨y, hy1, iy⟩ := dv k hlt
      obtain ⟨d, hd⟩ : ∃ d, d = T[k] := ⟨_, rfl⟩
      rw [← hd] at ix iy
      have gu := hx.cell hx1
      have gv := hx.cell hy1
      have IX := Lib.hid (ix.ext hx)
      have IY := Lib.hid (iy.ext hx)
      clear hcu hcv du dv hx1 hy1 ix iy hd
      go_wp2_with fail
      go_region_held3 (fun W => Ext wr W ∧ W.cell? ⟨bu, ou + k, none⟩ = some x ∧ W.cell? ⟨bv, ov + k, none⟩ = some y) (first | (exact step2 (by assumption) (by assumption)) | (exact ⟨Ext.drew (Ext.refl _), gu, gv⟩)) (first | (go_at_call 92; refine (eqRowS_same _ _ d _ (IX.out.ext (Ext.drew (Ext.refl _))) (IY.out.ext (Ext.drew (Ext.refl _)))).mono ?_; rintro e W ⟨rfl, x9⟩))
      rename_i hH
      have hx2 : Ext w W := hx.trans hH.1
      clear hH x9 gu gv hx
      go_wp2
      go_roundw
      case rel => exact ⟨k + 1, by omega, by go_num, hx2⟩
      case measure => simp [intOf]; omega
    · obtain rfl : k = T.length := by omega
      go_wp2
      go_ret
      exact ⟨rfl, hx⟩

set_option maxHeartbeats 1000000 in
theorem eqTable_same (n : Int) (u v : Value) (T : List (List RowD)) (w : World) (hu : Rowzz w u T) (hv : Rowzz w v T) :
    Calls Try.prog 21 #[.agg #[.int .i64 n, u], .agg #[.int .i64 n, v]] w (BoolExt true w) := by
  have hx : Ext w ((w.alloc (.cells #[.int .i64 n, u] 32)).alloc (.cells #[.int .i64 n, v] 32)) := ((Ext.refl w).alloc _).alloc _
  have e0 : ((n : Int) != n) = false := by simp
  go_enter Try.func21, Try.ntmps21
  go_wp2_with fail
  refine (eqRowSS_same _ _ _ _ (hu.ext hx) (hv.ext hx)).mono ?_
  rintro e w1 ⟨rfl, x1⟩
  have hy := hx.trans x1
  clear hx x1
  go_wp2
  go_ret
  exact ⟨rfl, hy⟩

end Go.Proofs.Ytbffkidkfannhaa

namespace Go.Proofs.Ytbffkidkfannhaa
open Go.RowKit
set_option linter.unusedVariables false

theorem allx_take_succ {α : Type} {l : List α} {k : Nat} (h : k < l.length) (p : α → Bool) (ht : (l.take k).all p = true) (hp : p l[k] = true) : (l.take (k + 1)).all p = true := by
  rw [List.take_add_one, List.all_append, ht, List.getElem?_eq_getElem h]
  simpa using hp
theorem allx_false_at {α : Type} {l : List α} {k : Nat} (h : k < l.length) (p : α → Bool) (hp : p l[k] = false) : l.all p = false := by
  rw [List.all_eq_false]
  exact ⟨l[k], List.getElem_mem h, by rw [hp]; simp⟩

/-- Whether a list of rows, whether all lists of a table are good. -/
def goodList (n : Int) (R : List RowD) : Bool := decide (R.length ≤ 6) && R.all (goodRow n)
def goodTab (n : Int) (T : List (List RowD)) : Bool := (isGrp n && decide ((T.length : Int) = n)) && T.all (goodList n)
theorem goodTab_grp {n : Int} {T : List (List RowD)} (h : isGrp n = false) : goodTab n T = false := by unfold goodTab; rw [h]; rfl
theorem goodTab_len {n : Int} {T : List (List RowD)} (h : (T.length : Int) ≠ n) : goodTab n T = false := by unfold goodTab; rw [decide_eq_false h, Bool.and_false]; rfl
theorem goodTab_all {n : Int} {T : List (List RowD)} (h : isGrp n = true) (hl : (T.length : Int) = n) : goodTab n T = T.all (goodList n) := by unfold goodTab; rw [h, decide_eq_true hl]; rfl
theorem goodList_long {n : Int} {R : List RowD} (h : 6 < R.length) : goodList n R = false := by unfold goodList; rw [decide_eq_false (by omega)]; rfl
theorem goodList_all {n : Int} {R : List RowD} (h : R.length ≤ 6) : goodList n R = R.all (goodRow n) := by unfold goodList; rw [decide_eq_true h]; rfl
theorem goodList_row {n : Int} {R : List RowD} (h : R.all (goodRow n) = false) : goodList n R = false := by unfold goodList; rw [h, Bool.and_false]

set_option maxHeartbeats 4000000 in
theorem specGoodTable_any (n : Int) (u : Value) (T : List (List RowD)) (w : World) (hu : Rowzz w u T) :
    Calls Try.prog 27 #[.agg #[.int .i64 n, u]] w (BoolExt (goodTab n T) w) := by
  obtain ⟨au, cu, rfl, hlu, _, hcu⟩ := hu
  unfold maxLen at hlu
  cases hg : isGrp n with
  | false =>
    rw [goodTab_grp hg]
    have HG := Lib.hid hg
    clear hg hcu
    go_enter Try.func27, Try.ntmps27
    go_wp2_with fail
    refine (specIsGroup_any _ _).mono ?_
    rintro e w' ⟨rfl, rfl⟩
    rw [HG.out]
    go_wp2
    go_ret
    exact ⟨rfl, Ext.alloc1 _ _⟩
  | true =>
    have HG := Lib.hid hg
    by_cases hl : (T.length : Int) = n
    · rw [goodTab_all hg hl]
      have e0 : ((T.length : Int) != n) = false := by simp [hl]
      have HL := Lib.hid hl
      obtain ⟨wb, hwb⟩ : ∃ wb, wb = w.alloc (.cells #[.int .i64 n, .slice au T.length cu] 32) := ⟨_, rfl⟩
      have hb := attrAt_new w 32 n (.slice au T.length cu)
      rw [← hwb] at hb
      have xb : Ext w wb := by rw [hwb]; exact Ext.alloc1 _ _
      have HWB := Lib.hid hwb
      have HBB := Lib.hid hb
      clear hg hl hwb hb
      go_enter Try.func27, Try.ntmps27
      go_wp2_with fail
      refine (specIsGroup_any _ _).mono ?_
      rintro e w' ⟨rfl, rfl⟩
      rw [HG.out]
      go_wp2
      rw [← HWB.out]
      go_loopw [22] (fun i wr => ∃ k : Nat, k ≤ T.length ∧ i = .int .i64 k ∧ Hid ((T.take k).all (goodList n) = true) ∧ Ext wb wr) (fun i _ => T.length - (intOf i).toNat)
      case atStart => exact ⟨0, Nat.zero_le _, rfl, Lib.hid (by simp), Ext.refl _⟩
      case round =>
        obtain ⟨k, hk, rfl, HT, hx⟩ := hrel
        by_cases hlt : k < T.length
        · obtain ⟨bu, ou, rfl, du⟩ := hcu (by omega)
          obtain ⟨x, hx1, ix⟩ := du k hlt
          have gu := (xb.trans hx).cell hx1
          have ixr := ix.ext (xb.trans hx)
          obtain ⟨R, hR⟩ : ∃ R, R = T[k] := ⟨_, rfl⟩
          rw [← hR] at ixr
          obtain ⟨ax, cx, rfl, hlx, _, hcx⟩ := ixr
          unfold maxLen at hlx
          have HR := Lib.hid hR
          clear hcu du hx1 ix hR
          obtain ⟨wo, hwo⟩ : ∃ wo : World, wo = wr := ⟨_, rfl⟩
          subst hwo
          go_wp2
          go_loopw [28] (fun i wr => ∃ j : Nat, j ≤ R.length ∧ i = .int .i64 j ∧ Hid ((R.take j).all (goodRow n) = true) ∧ Ext wo wr) (fun i _ => R.length - (intOf i).toNat)
          case atStart => exact ⟨0, Nat.zero_le _, rfl, Lib.hid (by simp), Ext.refl _⟩
          case round =>
            obtain ⟨j, hj, rfl, HS, hy⟩ := hrel
            by_cases hjt : j < R.length
            · obtain ⟨bx, ox, rfl, dx⟩ := hcx (by omega)
              obtain ⟨y, hy1, iy⟩ := dx j hjt
              obtain ⟨d, hd⟩ : ∃ d, d = R[j] := ⟨_, rfl⟩
              rw [← hd] at hy1 iy
              have gy := hy1.ext hy
              have iy2 := iy.ext hy
              obtain ⟨ay, cy, rfl, _⟩ := id iy2
              have IY := Lib.hid iy2
              have HD := Lib.hid hd
              obtain ⟨wp, hwp⟩ : ∃ wp : World, wp = wr := ⟨_, rfl⟩
              subst hwp
              have gn := ((hx.trans hy).trans (Ext.alloc1 wp (.cells #[.int .i64 d.b, .int .i64 d.v, .int .i64 d.st, .int .i64 d.k, .int .i64 d.i, .int .i64 d.f, .int .i64 d.t, .int .i64 d.a, .int .i64 d.s, .slice ay d.l.length cy] 57))).cell HBB.out.1
              clear hcx dx hy1 iy iy2 hd
              obtain ⟨g0, g1, g2, g3, g4, g5, g6, g7, g8, g9⟩ := gy
              go_wp2_with fail
              cases hq : goodRow n d with
              | false =>
                have HQ := Lib.hid hq
                clear hq
                refine (l4Row_any n d _ _ (IY.out.ext (Ext.alloc1 _ _)) HG.out).mono ?_
                rintro e w3 ⟨rfl, x3⟩
                have hz := (xb.trans ((hx.trans hy).trans (Ext.alloc1 _ _))).trans x3
                clear x3 gn g0 g1 g2 g3 g4 g5 g6 g7 g8 g9
                rw [HQ.out]
                go_wp2
                go_ret
                refine ⟨?_, hz⟩
                have h1 : R.all (goodRow n) = false := allx_false_at hjt _ (by rw [← HD.out]; exact HQ.out)
                have h2 : T.all (goodList n) = false := allx_false_at hlt _ (by rw [← HR.out]; exact goodList_row h1)
                rw [h2]; rfl
              | true =>
                have HQ := Lib.hid hq
                clear hq
                refine (l4Row_any n d _ _ (IY.out.ext (Ext.alloc1 _ _)) HG.out).mono ?_
                rintro e w3 ⟨rfl, x3⟩
                have hz := (hy.trans (Ext.alloc1 _ _)).trans x3
                clear x3 gn g0 g1 g2 g3 g4 g5 g6 g7 g8 g9
                rw [HQ.out]
                go_wp2
                go_roundw
                case rel => exact ⟨j + 1, by omega, by go_num, Lib.hid (allx_take_succ hjt _ HS.out (by rw [← HD.out]; exact HQ.out)), hz⟩
                case measure => simp [intOf]; omega
            · obtain rfl : j = R.length := by omega
              have hfull : R.all (goodRow n) = true := by have h := HS.out; rwa [List.take_length] at h
              have HF := Lib.hid hfull
              clear hfull
              by_cases h6 : 6 < R.length
              · go_wp2
                go_ret
                refine ⟨?_, xb.trans (hx.trans hy)⟩
                have h2 : T.all (goodList n) = false := allx_false_at hlt _ (by rw [← HR.out]; exact goodList_long h6)
                rw [h2]; rfl
              · go_wp2
                go_roundw
                case rel => exact ⟨k + 1, by omega, by go_num, Lib.hid (allx_take_succ hlt _ HT.out (by rw [← HR.out, goodList_all (by omega)]; exact HF.out)), hx.trans hy⟩
                case measure => simp [intOf]; omega
        · obtain rfl : k = T.length := by omega
          go_wp2
          go_ret
          refine ⟨?_, xb.trans hx⟩
          have h2 : T.all (goodList n) = true := by have h := HT.out; rwa [List.take_length] at h
          rw [h2]; rfl
    · rw [goodTab_len hl]
      have e0 : ((T.length : Int) != n) = true := by simp [hl]
      clear hg hcu hl
      go_enter Try.func27, Try.ntmps27
      go_wp2_with fail
      refine (specIsGroup_any _ _).mono ?_
      rintro e w' ⟨rfl, rfl⟩
      rw [HG.out]
      go_wp2
      go_ret
      exact ⟨rfl, Ext.alloc1 _ _⟩

end Go.Proofs.Ytbffkidkfannhaa

namespace Go.Proofs.Ytbffkidkfannhaa
open Go.RowKit
set_option linter.unusedVariables false

/-- The least majority, 0 of what is no group. -/
def majN (n : Int) : Int := if n == 3 then 2 else if n == 5 then 3 else 0
theorem majN_half {n : Int} (h : isGrp n = true) : majN n = n / 2 + 1 := by rcases isGrp_of h with rfl | rfl <;> rfl
/-- Are so many a majority? -/
def mostB (n c : Int) : Bool := isGrp n && decide (majN n ≤ c)
set_option maxHeartbeats 2000000 in
set_option maxRecDepth 100000 in
theorem isGood_rep (n : Int) (r : RowD) (u : Value) (w : World) (hv : Ints w u r.l) (hn : isGrp n = true) (hs : r.l.length ≤ 1099511627776) :
    Calls Try.prog 102 #[.agg #[.int .i64 r.b, .int .i64 r.v, .int .i64 r.st, .int .i64 r.k, .int .i64 r.i, .int .i64 r.f, .int .i64 r.t, .int .i64 r.a, .int .i64 r.s, u], .int .i64 n] w (BoolExt (toldB n r) w) := by
  have xb := Ext.alloc1 w (.cells #[.int .i64 r.b, .int .i64 r.v, .int .i64 r.st, .int .i64 r.k, .int .i64 r.i, .int .i64 r.f, .int .i64 r.t, .int .i64 r.a, .int .i64 r.s, u] 129)
  unfold toldB
  cases h3 : (r.st == 3)
  · have h3' : (r.st != 3) = true := by simpa using h3
    have HV := Lib.hid (hv.ext xb)
    clear h3 hv
    go_enter Try.func102, Try.ntmps102
    go_wp2_with fail
    refine (isGoodRow_any n r u _ HV.out hs hn).mono ?_
    rintro e w2 ⟨rfl, x2⟩
    have hy := xb.trans x2
    clear x2 xb HV
    cases hA : goodRow n r
    all_goals
      have HA := Lib.hid hA
      clear hA
      go_wp2
      go_ret
      exact ⟨by rw [HA.out]; rfl, hy⟩
  · have h3' : (r.st != 3) = false := by simpa using h3
    clear h3
    go_enter Try.func102, Try.ntmps102
    go_wp2
    go_ret
    exact ⟨rfl, xb⟩
theorem told_succ {n : Int} {S : List RowD} {k : Nat} (h : k < S.length) (ht : (S.take k).all (toldB n) = true) (hk : toldB n S[k] = true) : (S.take (k + 1)).all (toldB n) = true := by
  rw [List.take_succ_eq_append_getElem h, List.all_append, ht]
  simp [hk]
theorem told_no {n : Int} {S : List RowD} {k : Nat} (h : k < S.length) (hk : toldB n S[k] = false) : S.all (toldB n) = false := by
  rw [List.all_eq_false]
  exact ⟨_, List.getElem_mem h, by rw [hk]; simp⟩
set_option maxHeartbeats 4000000 in
set_option maxRecDepth 100000 in
theorem areReports_any (n : Int) (v : Value) (S : List RowD) (w : World) (hv : Rowz w v S) (hn : isGrp n = true) (hs : bulkR S ≤ 1099511627776) :
    Calls Try.prog 75 #[.int .i64 n, v] w (BoolExt (S.all (toldB n)) w) := by
  obtain ⟨av, cv, rfl, hlv, _, hcv⟩ := hv
  unfold maxLen at hlv
  have HCV := Lib.hid hcv
  have HN := Lib.hid hn
  have HS := Lib.hid hs
  clear hcv hn hs
  go_enter Try.func75, Try.ntmps75
  go_wp2
  go_loopw [10] (fun i wr => ∃ k : Nat, k ≤ S.length ∧ i = .int .i64 k ∧ Hid ((S.take k).all (toldB n) = true) ∧ Hid (Ext w wr)) (fun i _ => S.length - (intOf i).toNat)
  case atStart => exact ⟨0, Nat.zero_le _, rfl, Lib.hid (by simp), Lib.hid (Ext.refl _)⟩
  case round =>
    obtain ⟨k, hk, rfl, HT, HX⟩ := hrel
    by_cases hlt : k < S.length
    · obtain ⟨b, off, rfl, dv⟩ := HCV.out (by omega)
      obtain ⟨r, hr⟩ : ∃ r, r = S[k] := ⟨_, rfl⟩
      obtain ⟨u, hu, iu⟩ := dv k hlt
      rw [← hr] at hu iu
      obtain ⟨au, cu, rfl, _, _, _⟩ := id iu
      have HR := Lib.hid hr
      have hl : r.l.length ≤ 1099511627776 := by rw [hr]; have := bulkR_row hlt; have := HS.out; omega
      have HL := Lib.hid hl
      have HLT := Lib.hid hlt
      obtain ⟨g0, g1, g2, g3, g4, g5, g6, g7, g8, g9⟩ := hu.ext HX.out
      obtain ⟨w2, hw2⟩ : ∃ w2, w2 = (wr.alloc (.cells #[.int .i64 r.b, .int .i64 r.v, .int .i64 r.st, .int .i64 r.k, .int .i64 r.i, .int .i64 r.f, .int .i64 r.t, .int .i64 r.a, .int .i64 r.s, .slice au r.l.length cu] 57)).alloc (.cells #[.int .i64 r.b, .int .i64 r.v, .int .i64 r.st, .int .i64 r.k, .int .i64 r.i, .int .i64 r.f, .int .i64 r.t, .int .i64 r.a, .int .i64 r.s, .slice au r.l.length cu] 129) := ⟨_, rfl⟩
      have x2 : Ext wr w2 := by rw [hw2]; exact (Ext.alloc1 _ _).alloc _
      have IU := Lib.hid ((iu.ext HX.out).ext x2)
      have HW2 := Lib.hid hw2
      have X2 := Lib.hid (HX.out.trans x2)
      obtain ⟨c, hc⟩ : ∃ c, c = toldB n r := ⟨_, rfl⟩
      have HC := Lib.hid hc
      clear dv hr hl hu iu hw2 x2 hc
      go_wp2_with fail
      rw [← HW2.out]
      refine (isGood_rep n r _ _ IU.out HN.out HL.out).mono ?_
      rintro e w3 ⟨rfl, x3⟩
      rw [← HC.out]
      have X3 := Lib.hid (X2.out.trans x3)
      clear x3 g0 g1 g2 g3 g4 g5 g6 g7 g8 g9 IU HW2 X2
      cases c with
      | false =>
        have HO : Hid (S.all (toldB n) = false) := Lib.hid (told_no HLT.out (by rw [← HR.out]; exact HC.out.symm))
        go_wp2
        go_ret
        exact ⟨by rw [HO.out]; rfl, X3.out⟩
      | true =>
        have HT1 := Lib.hid (told_succ HLT.out HT.out (by rw [← HR.out]; exact HC.out.symm))
        go_wp2
        go_roundw
        case rel => exact ⟨k + 1, by omega, by go_num, HT1, X3⟩
        case measure => simp [intOf]; omega
    · obtain rfl : k = S.length := by omega
      have HA := HT.out
      rw [List.take_length] at HA
      have HA := Lib.hid HA
      clear HT
      go_wp2
      go_ret
      exact ⟨by rw [HA.out]; rfl, HX.out⟩
end Go.Proofs.Ytbffkidkfannhaa
