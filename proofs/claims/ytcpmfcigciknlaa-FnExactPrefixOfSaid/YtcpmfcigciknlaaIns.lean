/- Worlds that differ in some blocks alone: between two numbers nothing has turned; nothing but between two numbers. No program text is named here. -/
import Derived.Test.YtcpmfcigciknlaaWords
namespace Go.Proofs.Ytcpmfcigciknlaa
open Go.RowKit
set_option linter.unusedVariables false

/-- The blocks from lo on, below hi, are as they were. -/
def Stood (lo hi : Nat) (w w' : World) : Prop := w.heap.size ≤ w'.heap.size ∧ ∀ b, lo ≤ b → b < hi → w'.heap[b]? = w.heap[b]?
theorem Stood.refl (lo hi : Nat) (w : World) : Stood lo hi w w := ⟨Nat.le_refl _, fun _ _ _ => rfl⟩
theorem Stood.trans {lo hi : Nat} {a b c : World} (h : Stood lo hi a b) (k : Stood lo hi b c) : Stood lo hi a c :=
  ⟨Nat.le_trans h.1 k.1, fun x h1 h2 => (k.2 x h1 h2).trans (h.2 x h1 h2)⟩
theorem Stood.of_ext {lo hi : Nat} {w w' : World} (h : Ext w w') (hb : hi ≤ w.heap.size) : Stood lo hi w w' := ⟨h.size, fun b _ h2 => Below.block h b (by omega)⟩
theorem Stood.row {lo hi B e sz n : Nat} {w w' : World} {v : Value} {xs : List Value} (h : w.ownsRow B e sz v n xs) (k : Stood lo hi w w') (hb : ∀ b, v.ownBlock = some b → lo ≤ b ∧ b < hi) : w'.ownsRow B e sz v n xs := by
  refine ⟨h.1, ?_⟩
  rcases h.2 with hn | ⟨g, cap, cur, rfl, hbg, hgg, rest⟩
  · exact .inl hn
  · refine .inr ⟨g, cap, cur, rfl, hbg, ?_, rest⟩
    have := hb g rfl
    rw [k.2 g this.1 this.2]; exact hgg

/-- v lies below hi. -/
def Und (hi : Nat) (v : Value) : Prop := ∀ b, v.ownBlock = some b → b < hi
theorem Und.more {hi hi' : Nat} {v : Value} (h : Und hi v) (k : hi ≤ hi') : Und hi' v := fun b hb => Nat.lt_of_lt_of_le (h b hb) k
theorem Fresh.und {B : Nat} {w : World} {v : Value} {l : List Int} (h : Fresh B w v l) : Und w.heap.size v := fun b hb => (World.ownsRow.lt h b hb).2
/-- Nothing has turned but blocks from lo on, below hi; there may be new ones. -/
structure Ins (lo hi : Nat) (w w' : World) : Prop where
  os : w'.os = w.os
  tape : w'.tape = w.tape
  output : w'.output = w.output
  size : w.heap.size ≤ w'.heap.size
  block : ∀ b, b < w.heap.size → (b < lo ∨ hi ≤ b) → w'.heap[b]? = w.heap[b]?
theorem Ins.refl (lo hi : Nat) (w : World) : Ins lo hi w w := ⟨rfl, rfl, rfl, Nat.le_refl _, fun _ _ _ => rfl⟩
theorem Ins.trans {lo hi : Nat} {a b c : World} (h : Ins lo hi a b) (k : Ins lo hi b c) : Ins lo hi a c :=
  ⟨k.os.trans h.os, k.tape.trans h.tape, k.output.trans h.output, Nat.le_trans h.size k.size, fun x hx hy => (k.block x (Nat.lt_of_lt_of_le hx h.size) hy).trans (h.block x hx hy)⟩
theorem Ins.more {lo hi lo' hi' : Nat} {w w' : World} (h : Ins lo hi w w') (h1 : lo' ≤ lo) (h2 : hi ≤ hi') : Ins lo' hi' w w' :=
  ⟨h.os, h.tape, h.output, h.size, fun b hb hc => h.block b hb (by omega)⟩
theorem Ins.of_grown {lo hi : Nat} {w w' : World} {row : Option Nat} (h : w.grownBy w' row) (hr : ∀ g, row = some g → lo ≤ g ∧ g < hi) : Ins lo hi w w' :=
  ⟨h.os, h.tape, h.output, h.size, fun b hb hc => h.block b hb (fun e => by have := hr b e.symm; omega)⟩
theorem Ins.of_ext {lo hi : Nat} {w w' : World} (h : Ext w w') : Ins lo hi w w' :=
  ⟨h.os, h.tape, h.output, h.size, fun b hb _ => Below.block h b hb⟩
theorem Ins.stood {lo hi a b : Nat} {w w' : World} (h : Ins lo hi w w') (hb : b ≤ w.heap.size) (hab : b ≤ lo ∨ hi ≤ a) : Stood a b w w' :=
  ⟨h.size, fun x h1 h2 => h.block x (by omega) (by omega)⟩
theorem Ins.ext {lo hi : Nat} {w0 w w' : World} (h : Ins lo hi w w') (e : Ext w0 w) (hb : w0.heap.size ≤ lo) : Ext w0 w' :=
  ⟨h.os.trans e.os, h.tape.trans e.tape, h.output.trans e.output, Nat.le_trans e.size h.size, fun k hk => (h.block k (Nat.lt_of_lt_of_le hk e.size) (.inl (by omega))).trans (Below.block e k hk)⟩
theorem Ins.row {lo hi B e sz n : Nat} {w w' : World} {v : Value} {xs : List Value} (h : Ins lo hi w w') (f : w.ownsRow B e sz v n xs) (hv : ∀ b, v.ownBlock = some b → b < lo ∨ hi ≤ b) : w'.ownsRow B e sz v n xs := by
  refine ⟨f.1, ?_⟩
  rcases f.2 with hn | ⟨g, cap, cur, rfl, hbg, hgg, rest⟩
  · exact .inl hn
  · refine .inr ⟨g, cap, cur, rfl, hbg, ?_, rest⟩
    rw [h.block g (Array.getElem?_eq_some_iff.1 hgg).1 (hv g rfl)]; exact hgg
theorem Ins.cell {lo hi : Nat} {w w' : World} {a : Addr} {v : Value} (h : Ins lo hi w w') (hc : w.cell? a = some v) (ha : a.block < lo ∨ hi ≤ a.block) : w'.cell? a = some v :=
  (World.cell?_of_block (h.block a.block (World.block_lt_of_cell? w a hc) ha)).trans hc

/-- A list that was made in a time when no block from hi on was there, or later than all below hi, outlives marks between lo and hi. -/
theorem Fresh.ins_low {lo hi B : Nat} {w0 w w' : World} {v : Value} {l : List Int} (f0 : Fresh B w0 v l) (h : Fresh B w v l) (k : Ins lo hi w w') (hb : w0.heap.size ≤ lo) : Fresh B w' v l :=
  k.row h (fun b e => .inl (Nat.lt_of_lt_of_le (World.ownsRow.lt f0 b e).2 hb))
theorem Fresh.ins_high {lo hi B : Nat} {w w' : World} {v : Value} {l : List Int} (h : Fresh B w v l) (k : Ins lo hi w w') (hb : hi ≤ B) : Fresh B w' v l :=
  k.row h (fun b e => .inr (Nat.le_trans hb (World.ownsRow.lt h b e).1))
theorem Ints.ins {lo hi : Nat} {w0 w w' : World} {v : Value} {l : List Int} (h0 : Ints w0 v l) (x : Ext w0 w) (k : Ins lo hi w w') (hb : w0.heap.size ≤ lo) : Ints w' v l := h0.ext (k.ext x hb)

end Go.Proofs.Ytcpmfcigciknlaa
