/- What the law of JoinAttr keeps in hand while it walks. -/
import Derived.Test.YtfadmcgaojnghaaJoinAttr
namespace Go.Proofs.Ytfadmcgaojnghaa
open Go.RowKit
set_option linter.unusedVariables false

/-- The two arguments, what the model told, what the program told: each in its own block, the lists of the last two in memory of their own. -/
structure Live (w W : World) (na nb nc ng N M : Nat) (s t m : Int) (u v z q : Value) (J : List Int) : Prop where
  X : Ext w W
  a : AttrAt W na s u
  b : AttrAt W nb t v
  c : AttrAt W nc m z
  fc : Fresh N W z J
  g : AttrAt W ng m q
  fg : Fresh M W q J
theorem Live.ext {w W W' : World} {na nb nc ng N M : Nat} {s t m : Int} {u v z q : Value} {J : List Int} (h : Live w W na nb nc ng N M s t m u v z q J) (e : Ext W W') : Live w W' na nb nc ng N M s t m u v z q J :=
  ⟨h.X.trans e, h.a.ext e, h.b.ext e, h.c.ext e, h.fc.ext e, h.g.ext e, h.fg.ext e⟩
theorem attr_marked {B b : Nat} {w1 w w' : World} {v u : Value} {s : Int} {l : List Int} (f : Fresh B w1 v l) (t : w.grownBy w' v.ownBlock) (h : AttrAt w b s u) (hb : b < B ∨ w1.heap.size ≤ b) : AttrAt w' b s u :=
  ⟨cell_marked f t h.1 hb, cell_marked f t h.2 hb⟩
theorem ext_marked {B : Nat} {w0 w1 w w' : World} {v : Value} {l : List Int} (f : Fresh B w1 v l) (t : w.grownBy w' v.ownBlock) (h : Ext w0 w) (hB : w0.heap.size ≤ B) : Ext w0 w' :=
  Below.grown h t h.size (fun k hk => Nat.le_trans hB (World.ownsRow.lt f k hk).1)
/-- A list in blocks from B on that was whole in w1 is not what lies below B, nor what came behind w1. -/
theorem apart_low {B N : Nat} {w1 w : World} {v z : Value} {l r : List Int} (f : Fresh B w1 v l) (h : Fresh N w z r) (hz : w.heap.size ≤ B) : z.ownBlock = none ∨ z.ownBlock ≠ v.ownBlock := h.apart' f hz
theorem Live.mark {w W W' W1 : World} {na nb nc ng N M B : Nat} {s t m : Int} {u v z q p : Value} {J l : List Int} (h : Live w W na nb nc ng N M s t m u v z q J) (f : Fresh B W1 p l) (tt : W.grownBy W' p.ownBlock)
    (hw : w.heap.size ≤ B) (ha : na < B) (hb : nb < B) (hc : nc < B) (hg : ng < B ∨ W1.heap.size ≤ ng) (apz : z.ownBlock = none ∨ z.ownBlock ≠ p.ownBlock) (apq : q.ownBlock = none ∨ q.ownBlock ≠ p.ownBlock) : Live w W' na nb nc ng N M s t m u v z q J :=
  ⟨ext_marked f tt h.X hw, attr_marked f tt h.a (.inl ha), attr_marked f tt h.b (.inl hb), attr_marked f tt h.c (.inl hc), h.fc.touch tt apz, attr_marked f tt h.g hg, h.fg.touch tt apq⟩

theorem cell_alloc_swap {W : World} {o o' : Obj} {a : Addr} {u : Value} (ha : a.block < W.heap.size) (h : (W.alloc o).cell? a = some u) : (W.alloc o').cell? a = some u := by
  have e : ∀ x : Obj, (W.alloc x).cell? a = W.cell? a := fun x => Below.cell (Ext.alloc (Ext.refl W) x) ha
  rw [e] at h ⊢
  exact h
theorem keepA {W : World} {o o' : Obj} {a b c d : Addr} {u v r s : Value} (ha : a.block < W.heap.size) (hb : b.block < W.heap.size) (hc : c.block < W.heap.size) (hd : d.block < W.heap.size)
    (h : (W.alloc o).cell? a = some u ∧ (W.alloc o).cell? b = some v ∧ (W.alloc o).cell? c = some r ∧ (W.alloc o).cell? d = some s) : (W.alloc o').cell? a = some u ∧ (W.alloc o').cell? b = some v ∧ (W.alloc o').cell? c = some r ∧ (W.alloc o').cell? d = some s :=
  ⟨cell_alloc_swap ha h.1, cell_alloc_swap hb h.2.1, cell_alloc_swap hc h.2.2.1, cell_alloc_swap hd h.2.2.2⟩

end Go.Proofs.Ytfadmcgaojnghaa
