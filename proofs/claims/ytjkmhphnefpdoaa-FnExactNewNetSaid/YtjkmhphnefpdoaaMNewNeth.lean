/- Texts of this proof, part h: words, plain facts, contracts. -/
import Derived.Test.YtjkmhphnefpdoaaMNewNeta
import Derived.Test.YtjkmhphnefpdoaaMNewNetg
import Derived.Test.YtjkmhphnefpdoaaMNewNetc
import Derived.Deep.RegionLaw
import Derived.Deep.AppendLies
import Derived.Test.YtjkmhphnefpdoaaMNewNetb

namespace Go.Proofs.Ytjkmhphnefpdoaa
open Go.RowKit
set_option linter.unusedVariables false

/-- The cells of a list of structs. -/
def flatC {α : Type} (cells : α → List Value) (L : List α) : List Value := L.flatMap cells
theorem flatC_len {α : Type} {cells : α → List Value} {n : Nat} (h : ∀ x, (cells x).length = n) (L : List α) : (flatC cells L).length = L.length * n := by
  unfold flatC
  induction L with
  | nil => simp
  | cons x t ih => rw [List.flatMap_cons, List.length_append, ih, h, List.length_cons, Nat.add_mul]; omega
theorem flatC_at {α : Type} {cells : α → List Value} {n : Nat} (h : ∀ x, (cells x).length = n) {L : List α} {j i : Nat} (hj : j < L.length) (hi : i < n) : (flatC cells L)[j * n + i]? = (cells L[j])[i]? := by
  induction L generalizing j with
  | nil => simp at hj
  | cons x t ih =>
    unfold flatC
    rw [List.flatMap_cons]
    cases j with
    | zero =>
      rw [List.getElem?_append_left (by rw [h]; omega)]
      simp
    | succ j =>
      have h' : j < t.length := by simpa using hj
      have e1 : (j + 1) * n + i = (cells x).length + (j * n + i) := by rw [h, Nat.add_mul]; omega
      rw [e1, List.getElem?_append_right (by omega), Nat.add_sub_cancel_left]
      have := ih h'
      unfold flatC at this
      rw [this]
      simp

/-! ### Rows -/
def cellsR (x : RowD × Value) : List Value := [.int .i64 x.1.b, .int .i64 x.1.v, .int .i64 x.1.st, .int .i64 x.1.k, .int .i64 x.1.i, .int .i64 x.1.f, .int .i64 x.1.t, .int .i64 x.1.a, .int .i64 x.1.s, x.2]
theorem cellsR_len (x : RowD × Value) : (cellsR x).length = 10 := rfl
/-- v is a slice of rows of a block that was made from block number B on. -/
def FreshZ (B : Nat) (w : World) (v : Value) (P : List (RowD × Value)) : Prop := w.ownsRow B 57 10 v P.length (flatC cellsR P)
theorem FreshZ.nil (B : Nat) (w : World) : FreshZ B w (.slice none 0 0) [] := ⟨rfl, .inl ⟨rfl, rfl⟩⟩
theorem FreshZ.ext {B : Nat} {w w' : World} {v : Value} {P : List (RowD × Value)} (h : FreshZ B w v P) (e : Ext w w') : FreshZ B w' v P := e.ownsRow h
theorem FreshZ.rowz {B : Nat} {w : World} {v : Value} {P : List (RowD × Value)} (h : FreshZ B w v P) (hi : ∀ x ∈ P, Ints w x.2 x.1.l) : Rowz w v (P.map Prod.fst) := by
  rcases h.2 with ⟨rfl, hn⟩ | ⟨g, cap, cur, rfl, hb, hg, hnc, hcm, hcs, htake⟩
  · obtain rfl : P = [] := List.eq_nil_of_length_eq_zero hn
    exact Rowz.nil w
  · refine ⟨some ⟨g, 0, none⟩, cap, by simp, by simp; omega, ⟨by simp; omega, by omega, fun h => by cases h⟩, fun _ => ⟨g, 0, rfl, fun j hj => ?_⟩⟩
    have hj' : j < P.length := by simpa using hj
    have e : (P.map Prod.fst)[j] = P[j].1 := by simp
    rw [e]
    have hc : ∀ i, i < 10 → w.cell? ⟨g, j * 10 + i, none⟩ = (cellsR P[j])[i]? := fun i hi' => by
      rw [World.ownsRow.cellAt h (j * 10 + i) (by omega), flatC_at cellsR_len hj' hi']
    refine ⟨P[j].2, ?_, hi _ (List.getElem_mem hj')⟩
    rw [Nat.zero_add]
    exact ⟨hc 0 (by omega), hc 1 (by omega), hc 2 (by omega), hc 3 (by omega), hc 4 (by omega), hc 5 (by omega), hc 6 (by omega), hc 7 (by omega), hc 8 (by omega), hc 9 (by omega)⟩
theorem Try.infoRowP : (Try.prog.info? 57).map (fun i => (i.zero, i.size, i.bytes)) = some (some (.agg #[.int .i64 0, .int .i64 0, .int .i64 0, .int .i64 0, .int .i64 0, .int .i64 0, .int .i64 0, .int .i64 0, .int .i64 0, .slice none 0 0]), 10, 96) := by kernel_rfl
/-- append(s, r), s of the call's own. -/
theorem wpList_pushR {ops : Array Oper} {rest : List Oper} {o : Oper} {a : Act} {Q : Exit → Act → World → Prop} {w : World} (hgd : o.guard = none) (s x : Operand)
    (ho : o.op = .call { callee := .builtin .append, args := #[s, x], argTypes := #[77, 77] })
    (B : Nat) (v : Value) (P : List (RowD × Value)) (r : RowD) (ya : Option Addr) (yn yc : Nat) (hs : a.eval s = v) (hf : FreshZ B w v P) (g : Nat) (c : Nat) (hx : a.eval x = .slice (some ⟨g, 0, none⟩) 1 c)
    (hr : RowIn w g 0 r (.slice ya yn yc)) (hl : P.length ≤ 1048576) (hB : B ≤ w.heap.size)
    (h : ∀ v' w', FreshZ B w' v' (P ++ [(r, .slice ya yn yc)]) → w.grownBy w' v.ownBlock → Kept B w w' → wpList Try.prog ops Q rest (a.put o.dst v') w') : wpList Try.prog ops Q (o :: rest) a w := by
  obtain ⟨i0, hi, hz0, hz1, hz2⟩ := info_parts Try.infoRowP
  obtain ⟨h0, h1, h2, h3, h4, h5, h6, h7, h8, h9⟩ := hr
  refine wpList_append_own _ hgd s x 77 ho B 57 i0 (.agg #[.int .i64 0, .int .i64 0, .int .i64 0, .int .i64 0, .int .i64 0, .int .i64 0, .int .i64 0, .int .i64 0, .int .i64 0, .slice none 0 0]) 10 96 Try.underlying77 hi hz0 hz1 hz2 rfl (by decide) v P.length _ hs hf ⟨g, 0, none⟩ 1 c (cellsR (r, .slice ya yn yc)) hx rfl ?_ ?_ ?_ ?_ hB ?_
  · intro j u hj
    match j, hj with
    | 0, hj => simp [cellsR] at hj; subst hj; simpa [Addr.add] using h0
    | 1, hj => simp [cellsR] at hj; subst hj; simpa [Addr.add] using h1
    | 2, hj => simp [cellsR] at hj; subst hj; simpa [Addr.add] using h2
    | 3, hj => simp [cellsR] at hj; subst hj; simpa [Addr.add] using h3
    | 4, hj => simp [cellsR] at hj; subst hj; simpa [Addr.add] using h4
    | 5, hj => simp [cellsR] at hj; subst hj; simpa [Addr.add] using h5
    | 6, hj => simp [cellsR] at hj; subst hj; simpa [Addr.add] using h6
    | 7, hj => simp [cellsR] at hj; subst hj; simpa [Addr.add] using h7
    | 8, hj => simp [cellsR] at hj; subst hj; simpa [Addr.add] using h8
    | 9, hj => simp [cellsR] at hj; subst hj; simpa [Addr.add] using h9
  · intro u hu
    simp [cellsR] at hu
    rcases hu with rfl | rfl | rfl | rfl | rfl | rfl | rfl | rfl | rfl | rfl <;> rfl
  · unfold maxLen; omega
  · omega
  · intro v' w' ho' hg _
    refine h v' w' ?_ hg (fun w0 hx0 hB0 => Below.grown hx0 hg hx0.size (fun q hq => Nat.le_trans hB0 (World.ownsRow.lt hf q hq).1))
    unfold FreshZ
    have e : flatC cellsR (P ++ [(r, .slice ya yn yc)]) = flatC cellsR P ++ cellsR (r, .slice ya yn yc) := by simp [flatC]
    rw [e, List.length_append]
    exact ho'

/-! ### Attributes -/
def cellsA (x : (Int × List Int) × Value) : List Value := [.int .i64 x.1.1, x.2]
theorem cellsA_len (x : (Int × List Int) × Value) : (cellsA x).length = 2 := rfl
def FreshA (B : Nat) (w : World) (v : Value) (P : List ((Int × List Int) × Value)) : Prop := w.ownsRow B 55 2 v P.length (flatC cellsA P)
theorem FreshA.nil (B : Nat) (w : World) : FreshA B w (.slice none 0 0) [] := ⟨rfl, .inl ⟨rfl, rfl⟩⟩
theorem FreshA.ext {B : Nat} {w w' : World} {v : Value} {P : List ((Int × List Int) × Value)} (h : FreshA B w v P) (e : Ext w w') : FreshA B w' v P := e.ownsRow h
theorem FreshA.attrs {B : Nat} {w : World} {v : Value} {P : List ((Int × List Int) × Value)} (h : FreshA B w v P) (hi : ∀ x ∈ P, Ints w x.2 x.1.2) : Attrs w v (P.map Prod.fst) := by
  rcases h.2 with ⟨rfl, hn⟩ | ⟨g, cap, cur, rfl, hb, hg, hnc, hcm, hcs, htake⟩
  · obtain rfl : P = [] := List.eq_nil_of_length_eq_zero hn
    exact ⟨none, 0, rfl, by simp, ⟨by simp, by simp, fun _ => rfl⟩, fun h => by simp at h⟩
  · refine ⟨some ⟨g, 0, none⟩, cap, by simp, by simp; omega, ⟨by simp; omega, by omega, fun h => by cases h⟩, fun _ => ⟨g, 0, rfl, fun j hj => ?_⟩⟩
    have hj' : j < P.length := by simpa using hj
    have e : (P.map Prod.fst)[j] = P[j].1 := by simp
    rw [e]
    have hc : ∀ i, i < 2 → w.cell? ⟨g, j * 2 + i, none⟩ = (cellsA P[j])[i]? := fun i hi' => by
      rw [World.ownsRow.cellAt h (j * 2 + i) (by omega), flatC_at cellsA_len hj' hi']
    refine ⟨P[j].2, ?_, ?_, hi _ (List.getElem_mem hj')⟩
    · rw [Nat.zero_add]; exact hc 0 (by omega)
    · rw [Nat.zero_add]; exact hc 1 (by omega)
theorem Try.infoAttrP : (Try.prog.info? 55).map (fun i => (i.zero, i.size, i.bytes)) = some (some (.agg #[.int .i64 0, .slice none 0 0]), 2, 32) := by kernel_rfl
theorem wpList_pushA {ops : Array Oper} {rest : List Oper} {o : Oper} {a : Act} {Q : Exit → Act → World → Prop} {w : World} (hgd : o.guard = none) (s x : Operand)
    (ho : o.op = .call { callee := .builtin .append, args := #[s, x], argTypes := #[150, 150] })
    (B : Nat) (v : Value) (P : List ((Int × List Int) × Value)) (r : Int × List Int) (ya : Option Addr) (yn yc : Nat) (hs : a.eval s = v) (hf : FreshA B w v P) (g : Nat) (c : Nat) (hx : a.eval x = .slice (some ⟨g, 0, none⟩) 1 c)
    (hr0 : w.cell? ⟨g, 0, none⟩ = some (.int .i64 r.1)) (hr1 : w.cell? ⟨g, 1, none⟩ = some (.slice ya yn yc)) (hl : P.length ≤ 1048576) (hB : B ≤ w.heap.size)
    (h : ∀ v' w', FreshA B w' v' (P ++ [(r, .slice ya yn yc)]) → w.grownBy w' v.ownBlock → Kept B w w' → wpList Try.prog ops Q rest (a.put o.dst v') w') : wpList Try.prog ops Q (o :: rest) a w := by
  obtain ⟨i0, hi, hz0, hz1, hz2⟩ := info_parts Try.infoAttrP
  refine wpList_append_own _ hgd s x 150 ho B 55 i0 (.agg #[.int .i64 0, .slice none 0 0]) 2 32 Try.underlying150 hi hz0 hz1 hz2 rfl (by decide) v P.length _ hs hf ⟨g, 0, none⟩ 1 c (cellsA (r, .slice ya yn yc)) hx rfl ?_ ?_ ?_ ?_ hB ?_
  · intro j u hj
    match j, hj with
    | 0, hj => simp [cellsA] at hj; subst hj; simpa [Addr.add] using hr0
    | 1, hj => simp [cellsA] at hj; subst hj; simpa [Addr.add] using hr1
  · intro u hu
    simp [cellsA] at hu
    rcases hu with rfl | rfl <;> rfl
  · unfold maxLen; omega
  · omega
  · intro v' w' ho' hg _
    refine h v' w' ?_ hg (fun w0 hx0 hB0 => Below.grown hx0 hg hx0.size (fun q hq => Nat.le_trans hB0 (World.ownsRow.lt hf q hq).1))
    unfold FreshA
    have e : flatC cellsA (P ++ [(r, .slice ya yn yc)]) = flatC cellsA P ++ cellsA (r, .slice ya yn yc) := by simp [flatC]
    rw [e, List.length_append]
    exact ho'
end Go.Proofs.Ytjkmhphnefpdoaa

namespace Go.Proofs.Ytjkmhphnefpdoaa
open Go.RowKit
set_option linter.unusedVariables false

theorem step_push {ops : Array Oper} {o : Oper} {a : Act} {w : World} {K : Act → World → Prop} {Q : Exit → Act → World → Prop} {E : Prop} (hgd : o.guard = none) (s x : Operand)
    (ho : o.op = .call { callee := .builtin .append, args := #[s, x], argTypes := #[44, 44] })
    (B : Nat) (v : Value) (l : List Int) (n : Int) (hs : a.eval s = v) (hf : Fresh B w v l) (ad : Addr) (c : Nat) (hx : a.eval x = .slice (some ad) 1 c)
    (hc : w.cell? ad = some (.int .i64 n)) (m : Nat) (hm : l.length = m) (hl : m ≤ 1099511627776) (hB : B ≤ w.heap.size)
    (h : ∀ ao cap w', Fresh B w' (.slice ao (m + 1) cap) (l ++ [n]) → w.grownBy w' v.ownBlock → K (a.put o.dst (.slice ao (m + 1) cap)) w') : if Region.wanted o (yielded ops a.tmps) = true then Oper.wp Try.prog o a w K Q else E := by
  obtain ⟨i0, hi, hz0, hz1, hz2⟩ := info_parts Try.infoInt
  have hw : Region.wanted o (yielded ops a.tmps) = true := by simp [Region.wanted, hgd]
  rw [if_pos hw]
  refine wp_append_own w s x 44 ho B 3 i0 (.int .i64 0) 1 8 Try.underlying44 hi hz0 hz1 hz2 rfl (by decide) v l.length _ hs hf ad 1 c [.int .i64 n] hx rfl ?_ ?_ ?_ ?_ hB ?_
  · intro j u hj
    match j, hj with
    | 0, hj => simp at hj; subst hj; simpa [Addr.add] using hc
  · intro u hu; simp at hu; subst hu; rfl
  · unfold maxLen; omega
  · omega
  · intro v' w' ho' hg _
    have hf' : Fresh B w' v' (l ++ [n]) := by
      unfold Fresh
      rw [List.map_append, List.length_append]; exact ho'
    obtain ⟨ao, cap, rfl⟩ := hf'.form
    have e : (l ++ [n]).length = m + 1 := by simp [hm]
    rw [e] at hf' ⊢
    exact h ao cap w' hf' hg

theorem far_cell {B b o : Nat} {wr W W' : World} {v x : Value} {l : List Int} (f : Fresh B wr v l) (e : Ext wr W) (t : W.grownBy W' v.ownBlock) (hc : wr.cell? ⟨b, o, none⟩ = some x) (hb : b < B) : W'.cell? ⟨b, o, none⟩ = some x := cell_marked f t (e.cell hc) (.inl hb)
theorem far_free {B b o : Nat} {wr W W' : World} {v x : Value} {l : List Int} (f : Fresh B wr v l) (e : Ext wr W) (t : W.grownBy W' v.ownBlock) (hc : wr.cell? ⟨b, 0, none⟩ = some x) (hz : wr.frozen? ⟨b, o, none⟩ = false) (hb : b < B) : W'.frozen? ⟨b, o, none⟩ = false := by
  have hlt : b < wr.heap.size := World.block_lt_of_cell? wr _ hc
  have h := World.grownBy.frozen_far t ⟨b, o, none⟩ (Nat.lt_of_lt_of_le hlt e.size) (fun e' => by
    have := (World.ownsRow.lt f b e'.symm).1
    omega)
  rw [h]
  exact e.frozen hlt hz
theorem far_attr {B b : Nat} {wr W W' : World} {v u : Value} {s : Int} {l : List Int} (f : Fresh B wr v l) (e : Ext wr W) (t : W.grownBy W' v.ownBlock) (h : AttrAt wr b s u) (hb : b < B) : AttrAt W' b s u := ⟨far_cell f e t h.1 hb, far_cell f e t h.2 hb⟩
theorem far_open {B b : Nat} {wr W W' : World} {v u : Value} {s : Int} {l : List Int} (f : Fresh B wr v l) (e : Ext wr W) (t : W.grownBy W' v.ownBlock) (h : OpenAt wr b s u) (hb : b < B) : OpenAt W' b s u :=
  ⟨far_attr f e t h.1 hb, far_free f e t h.1.1 h.2.1 hb, far_free f e t h.1.1 h.2.2 hb⟩
theorem cell_other {W : World} {g o : Nat} {a : Addr} {z u : Value} (hne : a.block ≠ g) (h : W.cell? a = some u) : (W.setCell ⟨g, o, none⟩ z).cell? a = some u := by
  have hh := Below.heap_setCell W ⟨g, o, none⟩ z a.block hne
  have e : (W.setCell ⟨g, o, none⟩ z).cell? a = W.cell? a := by unfold World.cell?; rw [hh]
  rw [e]; exact h
theorem AttrAt.other {w : World} {b g o : Nat} {s : Int} {u z : Value} (h : AttrAt w b s u) (hne : b ≠ g) : AttrAt (w.setCell ⟨g, o, none⟩ z) b s u := ⟨cell_other hne h.1, cell_other hne h.2⟩
theorem OpenAt.other {w : World} {b g o : Nat} {s : Int} {u z : Value} (h : OpenAt w b s u) (hne : b ≠ g) : OpenAt (w.setCell ⟨g, o, none⟩ z) b s u :=
  ⟨h.1.other hne, by rw [World.frozen?_setCell]; exact h.2.1, by rw [World.frozen?_setCell]; exact h.2.2⟩
theorem OpenAt.set1 {w : World} {b : Nat} {s : Int} {u z : Value} (h : OpenAt w b s u) : OpenAt (w.setCell ⟨b, 1, none⟩ z) b s z := by
  obtain ⟨⟨c0, c1⟩, z0, z1⟩ := h
  refine ⟨⟨?_, ?_⟩, ?_, ?_⟩ <;> go_simp

end Go.Proofs.Ytjkmhphnefpdoaa

namespace Go.Proofs.Ytjkmhphnefpdoaa
open Go.RowKit
set_option linter.unusedVariables false

/-- Two slices of two element types lie in two blocks. -/
theorem types_apart {w : World} {B B' e e' sz sz' n m : Nat} {v u : Value} {xs ys : List Value} (h : w.ownsRow B e sz v n xs) (k : w.ownsRow B' e' sz' u m ys) (hne : e ≠ e') : u.ownBlock = none ∨ u.ownBlock ≠ v.ownBlock := by
  rcases k.2 with ⟨rfl, _⟩ | ⟨g', cap', cur', rfl, _, hg', _⟩
  · exact .inl rfl
  · refine .inr fun hb => ?_
    rcases h.2 with ⟨rfl, _⟩ | ⟨g, cap, cur, rfl, _, hg, _⟩
    · simp [Value.ownBlock] at hb
    · simp [Value.ownBlock] at hb
      subst hb
      rw [hg] at hg'
      simp at hg'
      exact hne hg'.2
theorem FreshSS.of {B : Nat} {w : World} {v : Value} {L : List (List Int)} {vs : List Value} (h : w.ownsRow B 44 1 v L.length vs) (r : Rows_ B w vs L) : FreshSS B w v L :=
  ⟨vs, h, r, fun j u hu => by
    have hj : j < vs.length := (List.getElem?_eq_some_iff.1 hu).1
    exact types_apart h (r.row j u _ hu (List.getElem?_eq_getElem (by rw [← r.len]; exact hj))) (by decide)⟩
theorem FreshSS.form {B : Nat} {w : World} {v : Value} {L : List (List Int)} (h : FreshSS B w v L) : ∃ ao cap, v = .slice ao L.length cap := by
  obtain ⟨ao, cap, hv, _⟩ := h.intss
  exact ⟨ao, cap, hv⟩

end Go.Proofs.Ytjkmhphnefpdoaa

namespace Go.Proofs.Ytjkmhphnefpdoaa
open Go.RowKit
set_option linter.unusedVariables false

/-- The replicas of a new net. -/
def newRep (m : Nat) (k : Nat) : RepD := ⟨(k : Int), (m : Int), List.replicate m [], []⟩
def newReps (m : Nat) : List RepD := (List.range m).map (newRep m)
theorem newReps_len (m : Nat) : (newReps m).length = m := by simp [newReps]
theorem newReps_at {m j : Nat} (h : j < (newReps m).length) : (newReps m)[j] = newRep m j := by simp [newReps]
/-- The block b, from B on, holds m lists that are nil. -/
def TabN (B : Nat) (w : World) (b m : Nat) : Prop := w.ownsRow B 77 1 (.slice (some ⟨b, 0, none⟩) m m) m (List.replicate m (.slice none 0 0))
theorem TabN.ext {B b m : Nat} {w w' : World} (h : TabN B w b m) (e : Ext w w') : TabN B w' b m := e.ownsRow h
theorem TabN.lo {B b m : Nat} {w : World} (h : TabN B w b m) : B ≤ b ∧ b < w.heap.size := World.ownsRow.lt h b rfl
theorem TabN.more {B B' b m : Nat} {w : World} (h : TabN B w b m) (e : B' ≤ B) : TabN B' w b m := ownsRow_more h e
theorem TabN.ins {B b m lo hi : Nat} {w w' : World} (h : TabN B w b m) (k : Ins lo hi w w') (e : hi ≤ B) : TabN B w' b m := k.row h (fun q hq => .inr (Nat.le_trans e (World.ownsRow.lt h q hq).1))
theorem TabN.rowz {B b m : Nat} {w : World} (h : TabN B w b m) (hm : m ≤ 5) : Rowzz w (.slice (some ⟨b, 0, none⟩) m m) (List.replicate m []) := by
  have e : (List.replicate m ([] : List RowD)).length = m := List.length_replicate
  refine ⟨some ⟨b, 0, none⟩, m, by rw [e], by rw [e]; unfold maxLen; omega, ⟨by rw [e]; exact Nat.le_refl _, by unfold maxLen; omega, fun h => by cases h⟩, fun _ => ⟨b, 0, rfl, fun j hj => ?_⟩⟩
  have hj' : j < m := by rw [e] at hj; exact hj
  refine ⟨.slice none 0 0, ?_, ?_⟩
  · rw [Nat.zero_add, World.ownsRow.cellAt h j (by omega), List.getElem?_replicate, if_pos hj']
  · rw [List.getElem_replicate]; exact Rowz.nil w
theorem tabN_new (w : World) (m : Nat) (hm : m ≤ 5) (B : Nat) (hB : B ≤ w.heap.size) : TabN B (w.alloc (.cells (Array.replicate m (.slice none 0 0)) 77)) w.heap.size m := by
  have h := World.ownsRow_lit (e := 77) (size := 1) (base := B) w (Array.replicate m (.slice none 0 0)) m hB (by unfold maxLen; omega) (by simp)
  unfold TabN
  have e : (Array.replicate m (Value.slice none 0 0)).toList = List.replicate m (.slice none 0 0) := by simp
  rw [e] at h
  exact h

/-- The first k of the m replicas in the block G lie so; all its cells may be written. -/
structure RO (m k B G : Nat) (w : World) (me nn : Nat → Int) (tb : Nat → Nat) : Prop where
  c0 : ∀ j, j < k → w.cell? ⟨G, j * 4, none⟩ = some (.int .i64 (me j))
  c1 : ∀ j, j < k → w.cell? ⟨G, j * 4 + 1, none⟩ = some (.int .i64 (nn j))
  c2 : ∀ j, j < k → w.cell? ⟨G, j * 4 + 2, none⟩ = some (.slice (some ⟨tb j, 0, none⟩) m m)
  c3 : ∀ j, j < k → w.cell? ⟨G, j * 4 + 3, none⟩ = some (.slice none 0 0)
  al : ∀ q, q < m * 4 → (∃ v, w.cell? ⟨G, q, none⟩ = some v) ∧ w.frozen? ⟨G, q, none⟩ = false
  lt : G < w.heap.size
  tab : ∀ j, j < k → TabN B w (tb j) m
  gb : G < B
theorem RO.ext {m k B G : Nat} {w w' : World} {me nn : Nat → Int} {tb : Nat → Nat} (h : RO m k B G w me nn tb) (e : Ext w w') : RO m k B G w' me nn tb :=
  ⟨fun j hj => e.cell (h.c0 j hj), fun j hj => e.cell (h.c1 j hj), fun j hj => e.cell (h.c2 j hj), fun j hj => e.cell (h.c3 j hj), fun q hq => by
    obtain ⟨⟨v, hv⟩, hf⟩ := h.al q hq
    exact ⟨⟨v, e.cell hv⟩, e.frozen h.lt hf⟩, Nat.lt_of_lt_of_le h.lt e.size, fun j hj => (h.tab j hj).ext e, h.gb⟩
theorem cell_off {w : World} {G p q : Nat} {v : Value} (x : Value) (h : w.cell? ⟨G, q, none⟩ = some v) (hne : q ≠ p) : (w.setCell ⟨G, p, none⟩ x).cell? ⟨G, q, none⟩ = some v := by
  rw [World.cell?_setCell_other _ _ _ _ (fun e => hne (by cases e; rfl))]; exact h
/-- A cell of the block is written: what it leaves. -/
theorem RO.al_set {m G p : Nat} {w : World} (x : Value) (h : ∀ q, q < m * 4 → (∃ v, w.cell? ⟨G, q, none⟩ = some v) ∧ w.frozen? ⟨G, q, none⟩ = false) : ∀ q, q < m * 4 → (∃ v, (w.setCell ⟨G, p, none⟩ x).cell? ⟨G, q, none⟩ = some v) ∧ (w.setCell ⟨G, p, none⟩ x).frozen? ⟨G, q, none⟩ = false := fun q hq => by
  obtain ⟨⟨v, hv⟩, hf⟩ := h q hq
  refine ⟨?_, by rw [World.frozen?_setCell]; exact hf⟩
  by_cases e : q = p
  · subst e; exact ⟨x, World.cell?_setCell_same _ _ _ hv⟩
  · exact ⟨v, cell_off x hv e⟩
theorem RO.tab_set {m k B G p : Nat} {w : World} {tb : Nat → Nat} (x : Value) (hg : G < B) (h : ∀ j, j < k → TabN B w (tb j) m) : ∀ j, j < k → TabN B (w.setCell ⟨G, p, none⟩ x) (tb j) m := fun j hj => (h j hj).ins (ins_set (lo := G) (hi := G + 1) (Nat.le_refl _) (Nat.lt_succ_self _)) hg
def upd {α : Type} (f : Nat → α) (k : Nat) (x : α) : Nat → α := fun j => if j = k then x else f j
theorem upd_same {α : Type} (f : Nat → α) (k : Nat) (x : α) : upd f k x k = x := by unfold upd; rw [if_pos rfl]
theorem upd_other {α : Type} (f : Nat → α) {k j : Nat} (x : α) (h : j ≠ k) : upd f k x j = f j := by unfold upd; rw [if_neg h]
theorem RO.set0 {m k B G p : Nat} {w : World} {me nn : Nat → Int} {tb : Nat → Nat} (h : RO m k B G w me nn tb) (hk : k ≤ m) (hp : p < k) (x : Int) : RO m k B G (w.setCell ⟨G, p * 4, none⟩ (.int .i64 x)) (upd me p x) nn tb := by
  refine ⟨fun j hj => ?_, fun j hj => cell_off _ (h.c1 j hj) (by omega), fun j hj => cell_off _ (h.c2 j hj) (by omega), fun j hj => cell_off _ (h.c3 j hj) (by omega), RO.al_set _ h.al, by simpa using h.lt, RO.tab_set _ h.gb h.tab, h.gb⟩
  by_cases e : j = p
  · subst e; rw [upd_same]; exact World.cell?_setCell_same _ _ _ (h.c0 j hj)
  · rw [upd_other _ _ e]; exact cell_off _ (h.c0 j hj) (by omega)
theorem RO.set1 {m k B G p : Nat} {w : World} {me nn : Nat → Int} {tb : Nat → Nat} (h : RO m k B G w me nn tb) (hk : k ≤ m) (hp : p < k) (x : Int) : RO m k B G (w.setCell ⟨G, p * 4 + 1, none⟩ (.int .i64 x)) me (upd nn p x) tb := by
  refine ⟨fun j hj => cell_off _ (h.c0 j hj) (by omega), fun j hj => ?_, fun j hj => cell_off _ (h.c2 j hj) (by omega), fun j hj => cell_off _ (h.c3 j hj) (by omega), RO.al_set _ h.al, by simpa using h.lt, RO.tab_set _ h.gb h.tab, h.gb⟩
  by_cases e : j = p
  · subst e; rw [upd_same]; exact World.cell?_setCell_same _ _ _ (h.c1 j hj)
  · rw [upd_other _ _ e]; exact cell_off _ (h.c1 j hj) (by omega)
/-- One more replica is put into the block. -/
theorem RO.put {m k B G b : Nat} {w : World} {me nn : Nat → Int} {tb : Nat → Nat} (h : RO m k B G w me nn tb) (hk : k < m) (x y : Int) (ht : TabN B w b m) :
    RO m (k + 1) B G ((((w.setCell ⟨G, k * 4, none⟩ (.int .i64 x)).setCell ⟨G, k * 4 + 1, none⟩ (.int .i64 y)).setCell ⟨G, k * 4 + 2, none⟩ (.slice (some ⟨b, 0, none⟩) m m)).setCell ⟨G, k * 4 + 3, none⟩ (.slice none 0 0)) (upd me k x) (upd nn k y) (upd tb k b) := by
  have a0 := h.al
  obtain ⟨⟨v0, h0⟩, _⟩ := a0 (k * 4) (by omega)
  obtain ⟨⟨v1, h1⟩, _⟩ := a0 (k * 4 + 1) (by omega)
  obtain ⟨⟨v2, h2⟩, _⟩ := a0 (k * 4 + 2) (by omega)
  obtain ⟨⟨v3, h3⟩, _⟩ := a0 (k * 4 + 3) (by omega)
  refine ⟨fun j hj => ?_, fun j hj => ?_, fun j hj => ?_, fun j hj => ?_, RO.al_set _ (RO.al_set _ (RO.al_set _ (RO.al_set _ h.al))), by simpa using h.lt, fun j hj => ?_, h.gb⟩
  · by_cases e : j = k
    · subst e; rw [upd_same]
      exact cell_off _ (cell_off _ (cell_off _ (World.cell?_setCell_same _ _ _ h0) (by omega)) (by omega)) (by omega)
    · rw [upd_other _ _ e]
      exact cell_off _ (cell_off _ (cell_off _ (cell_off _ (h.c0 j (by omega)) (by omega)) (by omega)) (by omega)) (by omega)
  · by_cases e : j = k
    · subst e; rw [upd_same]
      exact cell_off _ (cell_off _ (World.cell?_setCell_same _ _ _ (cell_off _ h1 (by omega))) (by omega)) (by omega)
    · rw [upd_other _ _ e]
      exact cell_off _ (cell_off _ (cell_off _ (cell_off _ (h.c1 j (by omega)) (by omega)) (by omega)) (by omega)) (by omega)
  · by_cases e : j = k
    · subst e; rw [upd_same]
      exact cell_off _ (World.cell?_setCell_same _ _ _ (cell_off _ (cell_off _ h2 (by omega)) (by omega))) (by omega)
    · rw [upd_other _ _ e]
      exact cell_off _ (cell_off _ (cell_off _ (cell_off _ (h.c2 j (by omega)) (by omega)) (by omega)) (by omega)) (by omega)
  · by_cases e : j = k
    · subst e
      exact World.cell?_setCell_same _ _ _ (cell_off _ (cell_off _ (cell_off _ h3 (by omega)) (by omega)) (by omega))
    · exact cell_off _ (cell_off _ (cell_off _ (cell_off _ (h.c3 j (by omega)) (by omega)) (by omega)) (by omega)) (by omega)
  · have t4 : ∀ c : Nat, TabN B w c m → TabN B ((((w.setCell ⟨G, k * 4, none⟩ (.int .i64 x)).setCell ⟨G, k * 4 + 1, none⟩ (.int .i64 y)).setCell ⟨G, k * 4 + 2, none⟩ (.slice (some ⟨b, 0, none⟩) m m)).setCell ⟨G, k * 4 + 3, none⟩ (.slice none 0 0)) c m := fun c hc => by
      have hi := fun (w : World) (p : Nat) (v : Value) => ins_set (lo := G) (hi := G + 1) (b := G) (o := p) (w := w) (v := v) (Nat.le_refl _) (Nat.lt_succ_self _)
      exact (((hc.ins (hi _ _ _) h.gb).ins (hi _ _ _) h.gb).ins (hi _ _ _) h.gb).ins (hi _ _ _) h.gb
    by_cases e : j = k
    · subst e; rw [upd_same]; exact t4 _ ht
    · rw [upd_other _ _ e]; exact t4 _ (h.tab j (by omega))
theorem RO.congr {m k B G : Nat} {w : World} {me nn me' nn' : Nat → Int} {tb : Nat → Nat} (h : RO m k B G w me nn tb) (h1 : ∀ j, j < k → me' j = me j) (h2 : ∀ j, j < k → nn' j = nn j) : RO m k B G w me' nn' tb :=
  ⟨fun j hj => by rw [h1 j hj]; exact h.c0 j hj, fun j hj => by rw [h2 j hj]; exact h.c1 j hj, h.c2, h.c3, h.al, h.lt, h.tab, h.gb⟩
theorem RO.reads {m B G : Nat} {w : World} {me nn : Nat → Int} {tb : Nat → Nat} (h : RO m m B G w me nn tb) (hm : m ≤ 5) (h1 : ∀ j, j < m → me j = j) (h2 : ∀ j, j < m → nn j = m) : Repz w (.slice (some ⟨G, 0, none⟩) m m) (newReps m) := by
  refine ⟨some ⟨G, 0, none⟩, m, by rw [newReps_len], by rw [newReps_len]; unfold maxLen; omega, ⟨by rw [newReps_len]; exact Nat.le_refl _, by unfold maxLen; omega, fun h => by cases h⟩, fun _ => ⟨G, 0, rfl, fun j hj => ?_⟩⟩
  have hj' : j < m := by rw [newReps_len] at hj; exact hj
  rw [newReps_at hj]
  refine ⟨.slice (some ⟨tb j, 0, none⟩) m m, .slice none 0 0, ?_, (h.tab j hj').rowz hm, Leadz.nil w⟩
  intro q v hq
  have e0 := h.c0 j hj'
  have e1 := h.c1 j hj'
  rw [h1 j hj'] at e0
  rw [h2 j hj'] at e1
  rw [Nat.zero_add]
  match q, hq with
  | 0, hq => simp [repVs, newRep] at hq; subst hq; exact e0
  | 1, hq => simp [repVs, newRep] at hq; subst hq; exact e1
  | 2, hq => simp [repVs, newRep] at hq; subst hq; exact h.c2 j hj'
  | 3, hq => simp [repVs, newRep] at hq; subst hq; exact h.c3 j hj'

/-! ### Replicas appended -/
def cellsP (m : Nat) (x : Nat × Nat) : List Value := [.int .i64 x.1, .int .i64 m, .slice (some ⟨x.2, 0, none⟩) m m, .slice none 0 0]
theorem cellsP_len (m : Nat) (x : Nat × Nat) : (cellsP m x).length = 4 := rfl
def FreshP (m B : Nat) (w : World) (v : Value) (P : List (Nat × Nat)) : Prop := w.ownsRow B 35 4 v P.length (flatC (cellsP m) P)
theorem FreshP.nil (m B : Nat) (w : World) : FreshP m B w (.slice none 0 0) [] := ⟨rfl, .inl ⟨rfl, rfl⟩⟩
theorem FreshP.ext {m B : Nat} {w w' : World} {v : Value} {P : List (Nat × Nat)} (h : FreshP m B w v P) (e : Ext w w') : FreshP m B w' v P := e.ownsRow h
theorem FreshP.form {m B : Nat} {w : World} {v : Value} {P : List (Nat × Nat)} (h : FreshP m B w v P) : ∃ a c, v = .slice a P.length c := by
  rcases h.2 with ⟨rfl, hn⟩ | ⟨g, cap, cur, rfl, _⟩
  · exact ⟨none, 0, by rw [hn]⟩
  · exact ⟨_, _, rfl⟩
theorem Try.infoRepP : (Try.prog.info? 35).map (fun i => (i.zero, i.size, i.bytes)) = some (some (.agg #[.int .i64 0, .int .i64 0, .slice none 0 0, .slice none 0 0]), 4, 64) := by kernel_rfl
theorem step_pushP {ops : Array Oper} {o : Oper} {a : Act} {w : World} {K : Act → World → Prop} {Q : Exit → Act → World → Prop} {E : Prop} (hgd : o.guard = none) (s x : Operand)
    (ho : o.op = .call { callee := .builtin .append, args := #[s, x], argTypes := #[64, 64] })
    (m B : Nat) (v : Value) (P : List (Nat × Nat)) (r : Nat × Nat) (hs : a.eval s = v) (hf : FreshP m B w v P) (g c : Nat) (hx : a.eval x = .slice (some ⟨g, 0, none⟩) 1 c)
    (hc0 : w.cell? ⟨g, 0, none⟩ = some (.int .i64 r.1)) (hc1 : w.cell? ⟨g, 1, none⟩ = some (.int .i64 m)) (hc2 : w.cell? ⟨g, 2, none⟩ = some (.slice (some ⟨r.2, 0, none⟩) m m)) (hc3 : w.cell? ⟨g, 3, none⟩ = some (.slice none 0 0))
    (q : Nat) (hq : P.length = q) (hl : q ≤ 1048576) (hB : B ≤ w.heap.size)
    (h : ∀ ao cap w', FreshP m B w' (.slice ao (q + 1) cap) (P ++ [r]) → w.grownBy w' v.ownBlock → K (a.put o.dst (.slice ao (q + 1) cap)) w') : if Region.wanted o (yielded ops a.tmps) = true then Oper.wp Try.prog o a w K Q else E := by
  obtain ⟨i0, hi, hz0, hz1, hz2⟩ := info_parts Try.infoRepP
  have hw : Region.wanted o (yielded ops a.tmps) = true := by simp [Region.wanted, hgd]
  rw [if_pos hw]
  refine wp_append_own w s x 64 ho B 35 i0 (.agg #[.int .i64 0, .int .i64 0, .slice none 0 0, .slice none 0 0]) 4 64 Try.underlying64 hi hz0 hz1 hz2 rfl (by decide) v P.length _ hs hf ⟨g, 0, none⟩ 1 c (cellsP m r) hx rfl ?_ ?_ ?_ ?_ hB ?_
  · intro j u hj
    match j, hj with
    | 0, hj => simp [cellsP] at hj; subst hj; simpa [Addr.add] using hc0
    | 1, hj => simp [cellsP] at hj; subst hj; simpa [Addr.add] using hc1
    | 2, hj => simp [cellsP] at hj; subst hj; simpa [Addr.add] using hc2
    | 3, hj => simp [cellsP] at hj; subst hj; simpa [Addr.add] using hc3
  · intro u hu
    simp [cellsP] at hu
    rcases hu with rfl | rfl | rfl | rfl <;> rfl
  · unfold maxLen; omega
  · omega
  · intro v' w' ho' hg _
    have hf' : FreshP m B w' v' (P ++ [r]) := by
      unfold FreshP
      have e : flatC (cellsP m) (P ++ [r]) = flatC (cellsP m) P ++ cellsP m r := by simp [flatC]
      rw [e, List.length_append]
      exact ho'
    obtain ⟨ao, cap, rfl⟩ := hf'.form
    have e : (P ++ [r]).length = q + 1 := by simp [hq]
    rw [e] at hf' ⊢
    exact h ao cap w' hf' hg
theorem TabN.grown {m B B' : Nat} {w w' : World} {v : Value} {P : List (Nat × Nat)} {b : Nat} (h : TabN B w b m) (hf : FreshP m B' w v P) (t : w.grownBy w' v.ownBlock) : TabN B w' b m :=
  World.ownsRow.kept h t (types_apart hf h (by decide))
theorem repz_of {m B B' : Nat} {w : World} {v : Value} {P : List (Nat × Nat)} (hf : FreshP m B w v P) (hm : m ≤ 5) (hl : P.length = m) (hp : ∀ j (h : j < P.length), P[j].1 = j ∧ TabN B' w P[j].2 m) : Repz w v (newReps m) := by
  rcases hf.2 with ⟨rfl, hn⟩ | ⟨g, cap, cur, rfl, hb, hg, hnc, hcm, hcs, htake⟩
  · have e : newReps m = [] := List.eq_nil_of_length_eq_zero (by rw [newReps_len]; omega)
    rw [e]; exact Repz.nil w
  · refine ⟨some ⟨g, 0, none⟩, cap, by rw [newReps_len, hl], by rw [newReps_len]; unfold maxLen; omega, ⟨by rw [newReps_len]; omega, by omega, fun h => by cases h⟩, fun _ => ⟨g, 0, rfl, fun j hj => ?_⟩⟩
    have hj' : j < P.length := by rw [newReps_len] at hj; omega
    rw [newReps_at hj]
    obtain ⟨e1, ht⟩ := hp j hj'
    have hc : ∀ i, i < 4 → w.cell? ⟨g, j * 4 + i, none⟩ = (cellsP m P[j])[i]? := fun i hi' => by
      rw [World.ownsRow.cellAt hf (j * 4 + i) (by omega), flatC_at (cellsP_len m) hj' hi']
    refine ⟨.slice (some ⟨P[j].2, 0, none⟩) m m, .slice none 0 0, ?_, ht.rowz hm, Leadz.nil w⟩
    intro q x hq
    rw [Nat.zero_add]
    have e1' : ((P[j].1 : Nat) : Int) = (j : Int) := by rw [e1]
    match q, hq with
    | 0, hq => simp [repVs, newRep] at hq; subst hq; rw [hc 0 (by omega)]; simp [cellsP, e1]
    | 1, hq => simp [repVs, newRep] at hq; subst hq; rw [hc 1 (by omega)]; simp [cellsP]
    | 2, hq => simp [repVs, newRep] at hq; subst hq; rw [hc 2 (by omega)]; simp [cellsP]
    | 3, hq => simp [repVs, newRep] at hq; subst hq; rw [hc 3 (by omega)]; simp [cellsP]
end Go.Proofs.Ytjkmhphnefpdoaa

namespace Go.Proofs.Ytjkmhphnefpdoaa
open Go.RowKit
set_option linter.unusedVariables false

theorem boxV_grown {w w' : World} {b : Nat} {vs : List Value} {blk : Option Nat} (h : BoxV w b vs) (t : w.grownBy w' blk) (hne : blk ≠ some b) : BoxV w' b vs :=
  ⟨fun j v hj => (t.cell (h.cell j v hj) (fun e => hne e.symm)), fun j hj => by
    have := h.free j hj
    unfold World.frozen? at this ⊢
    rw [t.block b h.lt (fun e => hne e.symm)]
    exact this, Nat.lt_of_lt_of_le h.lt t.size⟩
theorem ext_grown {w wr W W' : World} {blk : Option Nat} (h : Ext w wr) (e : Ext wr W) (t : W.grownBy W' blk) (hb : ∀ q, blk = some q → w.heap.size ≤ q) : Ext w W' :=
  Below.grown (h.trans e) t (h.trans e).size hb
theorem FreshP.set {m B X o : Nat} {w : World} {v : Value} {P : List (Nat × Nat)} (h : FreshP m B w v P) (x : Value) (hX : X < B) : FreshP m B (w.setCell ⟨X, o, none⟩ x) v P :=
  (ins_set (lo := X) (hi := X + 1) (Nat.le_refl _) (Nat.lt_succ_self _)).row h (fun q hq => .inr (Nat.le_trans hX (World.ownsRow.lt h q hq).1))
theorem TabN.set {m B X o b : Nat} {w : World} (h : TabN B w b m) (x : Value) (hX : X < B) : TabN B (w.setCell ⟨X, o, none⟩ x) b m := h.ins (ins_set (lo := X) (hi := X + 1) (Nat.le_refl _) (Nat.lt_succ_self _)) hX
set_option maxHeartbeats 1000000 in
theorem l4New_exact (m : Nat) (hm : m = 3 ∨ m = 5) (w : World) :
    Calls Try.prog 94 #[.int .i64 m] w (fun e w' => e = .returned (.agg #[.int .i64 m, .slice (some ⟨w.heap.size + 1, 0, none⟩) m m]) ∧ TabN w.heap.size w' (w.heap.size + 1) m ∧ w' = (w.alloc (.cells #[.int .i64 m, .slice (some ⟨w.heap.size + 1, 0, none⟩) m m] 32)).alloc (.cells (Array.replicate m (.slice none 0 0)) 77)) := by
  have hmk := makeT_m m hm
  have ht := tabN_new (w.alloc (.cells #[.int .i64 m, .slice (some ⟨w.heap.size + 1, 0, none⟩) m m] 32)) m (by omega) w.heap.size (by simp)
  rw [World.size_alloc] at ht
  have HT := Lib.hid ht
  clear hm ht
  go_enter Try.func94, Try.ntmps94
  go_wp2
  refine bodyPost_ret (v := .agg #[.int .i64 m, .slice (some ⟨w.heap.size + 1, 0, none⟩) m m]) (by simp [results, Try.results94, go_sem]) rfl ⟨rfl, HT.out, rfl⟩

/-- v is a slice of m new replicas, in memory from B on. -/
def NP (m B : Nat) (w : World) (v : Value) : Prop := ∃ P, FreshP m B w v P ∧ P.length = m ∧ ∀ j (h : j < P.length), P[j].1 = j ∧ TabN B w P[j].2 m
theorem NP.reads {m B : Nat} {w : World} {v : Value} (h : NP m B w v) (hm : m ≤ 5) : Repz w v (newReps m) := by
  obtain ⟨P, h1, h2, h3⟩ := h
  exact repz_of h1 hm h2 h3
theorem NP.ins {m B lo hi : Nat} {w w' : World} {v : Value} (h : NP m B w v) (k : Ins lo hi w w') (e : hi ≤ B) : NP m B w' v := by
  obtain ⟨P, h1, h2, h3⟩ := h
  exact ⟨P, k.row h1 (fun q hq => .inr (Nat.le_trans e (World.ownsRow.lt h1 q hq).1)), h2, fun j hj => ⟨(h3 j hj).1, (h3 j hj).2.ins k e⟩⟩
theorem NP.more {m B B' : Nat} {w : World} {v : Value} (h : NP m B w v) (e : B' ≤ B) : NP m B' w v := by
  obtain ⟨P, h1, h2, h3⟩ := h
  exact ⟨P, ownsRow_more h1 e, h2, fun j hj => ⟨(h3 j hj).1, (h3 j hj).2.more e⟩⟩
set_option maxHeartbeats 8000000 in
set_option maxRecDepth 100000 in
theorem l9New_nat (m : Nat) (hm : m = 3 ∨ m = 5) (w : World) :
    Calls Try.prog 64 #[.int .i64 m] w (fun e w' => ∃ ao c, e = .returned (.agg #[.slice ao m c, .slice none 0 0, .slice none 0 0]) ∧ NP m w.heap.size w' (.slice ao m c) ∧ Ext w w') := by
  have HM := Lib.hid hm
  have hm5 : m ≤ 5 := by omega
  clear hm
  obtain ⟨w0, hw0⟩ : ∃ w0, w0 = (w.alloc (.cells #[.slice none 0 0, .slice none 0 0, .slice none 0 0] 68)).alloc (.cells #[.slice none 0 0, .slice none 0 0, .slice none 0 0] 68) := ⟨_, rfl⟩
  have x0 : Ext w w0 := by rw [hw0]; exact (Ext.alloc1 _ _).alloc _
  have r0 : BoxV w0 w.heap.size [.slice none 0 0, .slice none 0 0, .slice none 0 0] := by rw [hw0]; exact (boxV_new w [.slice none 0 0, .slice none 0 0, .slice none 0 0] 68).ext (Ext.alloc1 _ _)
  have b0 : BoxV w0 (w.heap.size + 1) [.slice none 0 0, .slice none 0 0, .slice none 0 0] := by
    have h := boxV_new (w.alloc (.cells #[.slice none 0 0, .slice none 0 0, .slice none 0 0] 68)) [.slice none 0 0, .slice none 0 0, .slice none 0 0] 68
    rw [World.size_alloc] at h
    rw [hw0]; exact h
  have HX0 := Lib.hid x0
  have HR0 := Lib.hid r0
  have HB0 := Lib.hid b0
  have HW := Lib.hid hw0
  clear x0 r0 b0 hw0
  go_enter Try.func64, Try.ntmps64
  go_wp2
  rw [← HW.out]
  obtain ⟨X, hX⟩ : ∃ X, X = w.heap.size + 1 := ⟨_, rfl⟩
  rw [← hX] at HB0 ⊢
  have HXX := Lib.hid hX
  clear hX
  go_loopw [4] (fun i wr => ∃ (k : Nat) (ao : Option Addr) (c : Nat) (P : List (Nat × Nat)), k ≤ m ∧ i = .int .i64 k ∧ Hid (P.length = k) ∧ Hid (BoxV wr (X) [.slice ao k c, .slice none 0 0, .slice none 0 0]) ∧ Hid (BoxV wr w.heap.size [.slice none 0 0, .slice none 0 0, .slice none 0 0]) ∧ Hid (FreshP m (X + 1) wr (.slice ao k c) P) ∧ Hid (∀ j (h : j < P.length), P[j].1 = j ∧ TabN (X + 1) wr P[j].2 m) ∧ Hid (Ext w wr)) (fun i _ => m - (intOf i).toNat)
  case atStart => exact ⟨0, none, 0, [], Nat.zero_le _, rfl, Lib.hid rfl, HB0, HR0, Lib.hid (FreshP.nil _ _ _), Lib.hid (fun j h => by simp at h), HX0⟩
  case round =>
    clear HB0 HR0 HX0 HW
    obtain ⟨k, ao, c, P, hk, rfl, HPL, HB, HR, HF, HT, HX⟩ := hrel
    by_cases hlt : k < m
    · have o0 := HB.out.cell 0 _ rfl
      have hsz : X + 1 ≤ wr.heap.size := HB.out.lt
      have hX1 : X < wr.heap.size := by omega
      have hX2 : X ≠ wr.heap.size := by omega
      have hX3 : X ≠ wr.heap.size + 1 := by omega
      have hX4 : X ≠ wr.heap.size + 1 + 1 := by omega
      have hX5 : X ≠ wr.heap.size + 2 := by omega
      have hX6 : X < wr.heap.size + 1 := by omega
      have hX7 : X < wr.heap.size + 1 + 1 := by omega
      have hX8 : X < wr.heap.size + 2 := by omega
      have HSZ := Lib.hid hsz
      have HLT := Lib.hid hlt
      have hk5 : k ≤ 1048576 := by omega
      go_wp2
      go_region_law (first | (refine step_pushP rfl (.tmp 12) (.tmp 17) rfl m (X + 1) (.slice ao k c) P (k, wr.heap.size + 1) rfl (FreshP.ext HF.out (by repeat (first | exact Ext.refl _ | apply Ext.drew | apply Ext.alloc))) (wr.heap.size + 1 + 1) 1 rfl (by go_simp) (by go_simp) (by go_simp) (by go_simp) k HPL.out hk5 (by simp; omega) ?_; intro ao' c' W' hf' hg'; have hb' := boxV_grown (HB.out.ext (by repeat (first | exact Ext.refl _ | apply Ext.drew | apply Ext.alloc))) hg' (fun e => by have := (World.ownsRow.lt HF.out _ e).1; omega); have q0 := hb'.cell 0 _ rfl; have q1 := hb'.free 0 (of_decide_eq_true rfl)) | (go_simp; go_at_call 94; refine (l4New_exact m HM.out _).mono ?_; rintro e w' ⟨rfl, ht, rfl⟩))
      all_goals
        have hR' := Lib.hid ((boxV_grown (HR.out.ext (by repeat (first | exact Ext.refl _ | apply Ext.drew | apply Ext.alloc))) hg' (fun e => by have := (World.ownsRow.lt HF.out _ e).1; have := HXX.out; omega)).other ⟨X, 0, none⟩ (.slice ao' (k + 1) c') (by have := HXX.out; dsimp only; omega))
        have hB' := Lib.hid (hb'.set 0 (.slice ao' (k + 1) c') (of_decide_eq_true rfl))
        have hF' := Lib.hid (hf'.set (X := X) (o := 0) (.slice ao' (k + 1) c') (Nat.lt_succ_self _))
        have hT' : Hid (∀ j (h : j < (P ++ [(k, wr.heap.size + 1)]).length), (P ++ [(k, wr.heap.size + 1)])[j].1 = j ∧ TabN (X + 1) (W'.setCell ⟨X, 0, none⟩ (.slice ao' (k + 1) c')) (P ++ [(k, wr.heap.size + 1)])[j].2 m) := Lib.hid (fun j h => by
          by_cases hj : j < P.length
          · rw [List.getElem_append_left hj]
            obtain ⟨e1, t1⟩ := HT.out j hj
            exact ⟨e1, ((t1.ext (by repeat (first | exact Ext.refl _ | apply Ext.drew | apply Ext.alloc))).grown (FreshP.ext HF.out (by repeat (first | exact Ext.refl _ | apply Ext.drew | apply Ext.alloc))) hg').set _ (Nat.lt_succ_self _)⟩
          · have hjk : j = P.length := by simp at h; omega
            subst hjk
            rw [List.getElem_append_right (Nat.le_refl _)]
            simp only [Nat.sub_self, List.getElem_cons_zero]
            have t0 := tabN_new (wr.alloc (.cells #[.int .i64 m, .slice (some ⟨wr.heap.size + 1, 0, none⟩) m m] 32)) m hm5 (X + 1) (by have := HSZ.out; simp; omega)
            rw [World.size_alloc] at t0
            refine ⟨HPL.out.symm, (((t0.ext (by repeat (first | exact Ext.refl _ | apply Ext.drew | apply Ext.alloc))).grown (FreshP.ext HF.out (by repeat (first | exact Ext.refl _ | apply Ext.drew | apply Ext.alloc))) hg').set _ (Nat.lt_succ_self _))⟩)
        have hx' := Lib.hid ((ext_grown HX.out (by repeat (first | exact Ext.refl _ | apply Ext.drew | apply Ext.alloc)) hg' (fun q hq => by have := (World.ownsRow.lt HF.out q hq).1; have := HXX.out; omega)).setc (a := ⟨X, 0, none⟩) (v := .slice ao' (k + 1) c') (by have := HXX.out; dsimp only; omega))
        have hP' : Hid ((P ++ [(k, wr.heap.size + 1)]).length = k + 1) := Lib.hid (by rw [List.length_append, HPL.out]; rfl)
        clear hb' q0 q1 hf' hg' ht o0
        go_wp2
        go_roundw
        case rel => exact ⟨k + 1, ao', c', _, by have := HLT.out; omega, by go_num, hP', hB', hR', hF', hT', hx'⟩
        case measure => simp [intOf]; have := HLT.out; omega
    · obtain rfl : k = m := by omega
      have o0 := HB.out.cell 0 _ rfl
      have o1 := HB.out.cell 1 _ rfl
      have o2 := HB.out.cell 2 _ rfl
      have r0 := HR.out.cell 0 _ rfl
      have r1 := HR.out.cell 1 _ rfl
      have r2 := HR.out.cell 2 _ rfl
      have f0 := HR.out.free 0 (of_decide_eq_true rfl)
      have f1 := HR.out.free 1 (of_decide_eq_true rfl)
      have f2 := HR.out.free 2 (of_decide_eq_true rfl)
      go_wp2
      clear o0 o1 o2 r0 r1 r2 f0 f1 f2
      have hr := boxV_puts [.slice ao k c, .slice none 0 0, .slice none 0 0] 0 _ _ HR.out (of_decide_eq_true rfl)
      have kk := ins_puts (lo := w.heap.size) (hi := w.heap.size + 1) (b := w.heap.size) (Nat.le_refl _) (Nat.lt_succ_self _) [.slice ao k c, .slice none 0 0, .slice none 0 0] 0 wr
      obtain ⟨wz, hwz⟩ : ∃ wz, wz = (((wr.setCell ⟨w.heap.size, 0, none⟩ (.slice ao k c)).setCell ⟨w.heap.size, 1, none⟩ (.slice none 0 0)).setCell ⟨w.heap.size, 2, none⟩ (.slice none 0 0)) := ⟨_, rfl⟩
      have hr : BoxV wz w.heap.size [.slice ao k c, .slice none 0 0, .slice none 0 0] := by rw [hwz]; exact hr
      have kk : Ins w.heap.size (w.heap.size + 1) wr wz := by rw [hwz]; exact kk
      rw [← hwz]
      clear hwz
      have r0 := hr.cell 0 _ rfl
      have r1 := hr.cell 1 _ rfl
      have r2 := hr.cell 2 _ rfl
      have hF : FreshP k (X + 1) wz (.slice ao k c) P := kk.row HF.out (fun q hq => .inr (by have := (World.ownsRow.lt HF.out q hq).1; have := HXX.out; omega))
      exact bodyPost_ret (v := .agg #[.slice ao k c, .slice none 0 0, .slice none 0 0]) (by simp [results, Try.results64, go_sem, r0, r1, r2]) rfl ⟨_, _, rfl, NP.more ⟨P, hF, HPL.out, fun j h => ⟨(HT.out j h).1, (HT.out j h).2.ins kk (by have := HXX.out; omega)⟩⟩ (by have := HXX.out; omega), kk.ext HX.out (Nat.le_refl _)⟩

/-- A net comes back that reads so, without messages. -/
def NewNetP (R : List RepD) (b : Bool) (w : World) (e : Ending) (w' : World) : Prop := ∃ v, e = .returned (.tuple #[.agg #[v, .slice none 0 0, .slice none 0 0], .bool b]) ∧ Repz w' v R ∧ Ext w w'
def repsOf (n : Int) : List RepD := if isGrp n then newReps n.toNat else []
theorem repsOf_no {n : Int} (h : isGrp n = false) : repsOf n = [] := by unfold repsOf; rw [h]; rfl
theorem repsOf_yes {m : Nat} (h : isGrp (m : Int) = true) : repsOf (m : Int) = newReps m := by unfold repsOf; rw [h]; simp
set_option maxHeartbeats 2000000 in
theorem specNewNet_any (n : Int) (w : World) : Calls Try.prog 27 #[.int .i64 n] w (NewNetP (repsOf n) (isGrp n) w) := by
  have hb := boxV_new w [.slice none 0 0, .slice none 0 0, .slice none 0 0] 68
  have HB := Lib.hid hb
  have xb := Ext.alloc1 w (.cells #[.slice none 0 0, .slice none 0 0, .slice none 0 0] 68)
  have XB := Lib.hid xb
  clear hb xb
  cases hg : isGrp n with
  | false =>
    rw [repsOf_no hg]
    have HG := Lib.hid hg
    clear hg
    go_enter Try.func27, Try.ntmps27
    go_wp2_with fail
    refine (specIsGroup_any _ _).mono ?_
    rintro e w' ⟨rfl, rfl⟩
    rw [HG.out]
    go_wp2
    exact bodyPost_ret (v := .tuple #[.agg #[.slice none 0 0, .slice none 0 0, .slice none 0 0], .bool false]) (by simp [results, Try.results27, go_sem]) rfl ⟨_, rfl, Repz.nil _, Ext.alloc (Ext.refl _) _⟩
  | true =>
    obtain ⟨m, rfl, hm⟩ := nat_of_grp hg
    rw [repsOf_yes hg]
    have HG := Lib.hid hg
    have HM := Lib.hid hm
    clear hg hm
    go_enter Try.func27, Try.ntmps27
    go_wp2_with fail
    refine (specIsGroup_any _ _).mono ?_
    rintro e w' ⟨rfl, rfl⟩
    rw [HG.out]
    go_wp2_with fail
    refine (l9New_nat m HM.out _).mono ?_
    rintro e w2 ⟨ao, c, rfl, hr, x2⟩
    have HR := Lib.hid (HB.out.ext x2)
    have X2 := Lib.hid (XB.out.trans x2)
    have HZ := Lib.hid hr
    clear hr x2
    have r0 := HR.out.cell 0 _ rfl
    have r1 := HR.out.cell 1 _ rfl
    have r2 := HR.out.cell 2 _ rfl
    have f0 := HR.out.free 0 (of_decide_eq_true rfl)
    have f1 := HR.out.free 1 (of_decide_eq_true rfl)
    have f2 := HR.out.free 2 (of_decide_eq_true rfl)
    go_wp2
    clear r0 r1 r2 f0 f1 f2
    have hr := boxV_puts [.slice ao m c, .slice none 0 0, .slice none 0 0] 0 _ _ HR.out (of_decide_eq_true rfl)
    have kk := ins_puts (lo := w.heap.size) (hi := w.heap.size + 1) (b := w.heap.size) (Nat.le_refl _) (Nat.lt_succ_self _) [.slice ao m c, .slice none 0 0, .slice none 0 0] 0 w2
    obtain ⟨wz, hwz⟩ : ∃ wz, wz = (((w2.setCell ⟨w.heap.size, 0, none⟩ (.slice ao m c)).setCell ⟨w.heap.size, 1, none⟩ (.slice none 0 0)).setCell ⟨w.heap.size, 2, none⟩ (.slice none 0 0)) := ⟨_, rfl⟩
    have hr : BoxV wz w.heap.size [.slice ao m c, .slice none 0 0, .slice none 0 0] := by rw [hwz]; exact hr
    have kk : Ins w.heap.size (w.heap.size + 1) w2 wz := by rw [hwz]; exact kk
    rw [← hwz]
    clear hwz
    have r0 := hr.cell 0 _ rfl
    have r1 := hr.cell 1 _ rfl
    have r2 := hr.cell 2 _ rfl
    exact bodyPost_ret (v := .tuple #[.agg #[.slice ao m c, .slice none 0 0, .slice none 0 0], .bool true]) (by simp [results, Try.results27, go_sem, r0, r1, r2]) rfl ⟨_, rfl, (HZ.out.ins kk (by simp)).reads (by have := HM.out; omega), kk.ext X2.out (Nat.le_refl _)⟩
end Go.Proofs.Ytjkmhphnefpdoaa

namespace Go.Proofs.Ytjkmhphnefpdoaa
open Go.RowKit
set_option linter.unusedVariables false

/-- Whether it is an instance of a group of n. -/
def instB (n rep no : Int) : Bool := inB rep 0 (n - 1) && inB no 1 6
theorem isGrp_bd {n : Int} (h : isGrp n = true) : 3 ≤ n ∧ n ≤ 5 := by rcases isGrp_of h with rfl | rfl <;> omega

set_option maxHeartbeats 400000 in
theorem l3Inst_any (n rep no : Int) (w : World) (h3 : 3 ≤ n) (h5 : n ≤ 5) :
    Calls Try.prog 77 #[.int .i64 n, .int .i64 rep, .int .i64 no] w fun e w' => e = .returned (.bool (instB n rep no)) ∧ w = w' := by
  unfold instB
  cases h1 : inB rep 0 (n - 1)
  · have H1 := Lib.hid h1
    clear h1
    go_enter Try.func77, Try.ntmps77
    go_wp2_with fail
    refine (l1In_any _ _ _ _).mono ?_
    rintro e w' ⟨rfl, rfl⟩
    rw [H1.out]
    go_wp2
    go_ret
    exact ⟨rfl, rfl⟩
  · have H1 := Lib.hid h1
    clear h1
    cases h2 : inB no 1 6
    all_goals
      have H2 := Lib.hid h2
      clear h2
      go_enter Try.func77, Try.ntmps77
      go_wp2_with fail
      refine (l1In_any _ _ _ _).mono ?_
      rintro e w' ⟨rfl, rfl⟩
      rw [H1.out]
      go_wp2_with fail
      refine (l1In_any _ _ _ _).mono ?_
      rintro e w' ⟨rfl, rfl⟩
      rw [H2.out]
      go_wp2
      go_ret
      exact ⟨rfl, rfl⟩

def repB (n k : Int) : Bool := isGrp n && inB k 0 (n - 1)
set_option maxHeartbeats 1000000 in
theorem isReplica_any (n k : Int) (w : World) :
    Calls Try.prog 38 #[.int .i64 n, .int .i64 k] w fun e w' => e = .returned (.bool (repB n k)) ∧ w = w' := by
  unfold repB
  cases hg : isGrp n with
  | false =>
    have HG := Lib.hid hg
    clear hg
    go_enter Try.func38, Try.ntmps38
    go_wp2_with fail
    refine (implIsGroup_any _ _).mono ?_
    rintro e w' ⟨rfl, rfl⟩
    rw [HG.out]
    go_wp2
    go_ret
    exact ⟨rfl, rfl⟩
  | true =>
    have HG := Lib.hid hg
    clear hg
    by_cases h1 : k < 0
    · have hr : inB k 0 (n - 1) = false := inB_no (by omega)
      rw [hr]
      clear hr
      go_enter Try.func38, Try.ntmps38
      go_wp2_with fail
      refine (implIsGroup_any _ _).mono ?_
      rintro e w' ⟨rfl, rfl⟩
      rw [HG.out]
      go_wp2
      go_ret
      exact ⟨rfl, rfl⟩
    · by_cases h2 : k < n
      · have h3 : 0 ≤ k := by omega
        have hr : inB k 0 (n - 1) = true := inB_yes h3 (by omega)
        rw [hr]
        clear hr h1
        go_enter Try.func38, Try.ntmps38
        go_wp2_with fail
        refine (implIsGroup_any _ _).mono ?_
        rintro e w' ⟨rfl, rfl⟩
        rw [HG.out]
        go_wp2
        go_ret
        exact ⟨rfl, rfl⟩
      · have h3 : 0 ≤ k := by omega
        have h4 : n ≤ k := by omega
        have hr : inB k 0 (n - 1) = false := inB_no (by omega)
        have nk : decide (k < n) = false := decide_eq_false h2
        rw [hr]
        clear hr h1 h2 h4
        go_enter Try.func38, Try.ntmps38
        go_wp2_with fail
        refine (implIsGroup_any _ _).mono ?_
        rintro e w' ⟨rfl, rfl⟩
        rw [HG.out]
        go_wp2
        go_ret
        exact ⟨rfl, rfl⟩

set_option maxHeartbeats 1000000 in
/-- Whether it is an instance, of a group or of none. -/
theorem isInstance_all (n rep no : Int) (w : World) :
    Calls Try.prog 54 #[.int .i64 n, .int .i64 rep, .int .i64 no] w fun e w' => e = .returned (.bool (repB n rep && inB no 1 6)) ∧ w = w' := by
  cases hg : repB n rep with
  | false =>
    have HG := Lib.hid hg
    clear hg
    go_enter Try.func54, Try.ntmps54
    go_wp2_with fail
    refine (isReplica_any _ _ _).mono ?_
    rintro e w' ⟨rfl, rfl⟩
    rw [HG.out]
    go_wp2
    go_ret
    exact ⟨rfl, rfl⟩
  | true =>
    have HG := Lib.hid hg
    clear hg
    by_cases h1 : no < 1
    · have hr : inB no 1 6 = false := inB_no (by omega)
      rw [hr]
      clear hr
      go_enter Try.func54, Try.ntmps54
      go_wp2_with fail
      refine (isReplica_any _ _ _).mono ?_
      rintro e w' ⟨rfl, rfl⟩
      rw [HG.out]
      go_wp2
      go_ret
      exact ⟨rfl, rfl⟩
    · by_cases h2 : 6 < no
      · have h3 : 1 ≤ no := by omega
        have hr : inB no 1 6 = false := inB_no (by omega)
        have nk : decide (no ≤ 6) = false := decide_eq_false (by omega)
        rw [hr]
        clear hr h1 h2
        go_enter Try.func54, Try.ntmps54
        go_wp2_with fail
        refine (isReplica_any _ _ _).mono ?_
        rintro e w' ⟨rfl, rfl⟩
        rw [HG.out]
        go_wp2
        go_ret
        exact ⟨rfl, rfl⟩
      · have h3 : 1 ≤ no := by omega
        have h4 : no ≤ 6 := by omega
        have hr : inB no 1 6 = true := inB_yes h3 h4
        rw [hr]
        clear hr h1 h2
        go_enter Try.func54, Try.ntmps54
        go_wp2_with fail
        refine (isReplica_any _ _ _).mono ?_
        rintro e w' ⟨rfl, rfl⟩
        rw [HG.out]
        go_wp2
        go_ret
        exact ⟨rfl, rfl⟩
theorem isInstance_any (n rep no : Int) (w : World) (hg : isGrp n = true) :
    Calls Try.prog 54 #[.int .i64 n, .int .i64 rep, .int .i64 no] w fun e w' => e = .returned (.bool (instB n rep no)) ∧ w = w' := by
  have h := isInstance_all n rep no w
  unfold repB at h
  rw [hg, Bool.true_and] at h
  exact h

/-- Does it hang on the instance? -/
def hangsB (n s : Int) (l : List Int) (rep no : Int) : Bool := goodA n s l && instB n rep no && decide (no ≤ l[rep.toNat]?.getD 0)
def hangsOk (n s : Int) (l : List Int) (rep no : Int) : Bool := goodA n s l && instB n rep no
end Go.Proofs.Ytjkmhphnefpdoaa
