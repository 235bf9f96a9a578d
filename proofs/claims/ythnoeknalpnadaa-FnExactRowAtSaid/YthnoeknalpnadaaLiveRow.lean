/- What lives through the steps of a law whose function answers with a row. -/
import Derived.Test.YthnoeknalpnadaaMarkRow1
namespace Go.Proofs.Ythnoeknalpnadaa
open Go.RowKit
set_option linter.unusedVariables false

/-- The argument's box N, the model's answer in the box P (list v3, below h3), the program's in the box Q (list v5, from B on and below h5, reading as M). -/
def LiveR (w W : World) (N P Q h3 B h5 : Nat) (n : Int) (v v3 v5 : Value) (d : RowD) (M : List Int) : Prop :=
  Ext w W ∧ AttrAt W N n v ∧ RowAt W P d v3 ∧ Fresh 0 W v3 d.l ∧ RowAt W Q d v5 ∧ Fresh B W v5 M ∧ Und h3 v3 ∧ Und h5 v5
theorem LiveR.ext {w W W' : World} {N P Q h3 B h5 : Nat} {n : Int} {v v3 v5 : Value} {d : RowD} {M : List Int} (h : LiveR w W N P Q h3 B h5 n v v3 v5 d M) (e : Ext W W') : LiveR w W' N P Q h3 B h5 n v v3 v5 d M :=
  ⟨h.1.trans e, h.2.1.ext e, h.2.2.1.ext e, h.2.2.2.1.ext e, h.2.2.2.2.1.ext e, h.2.2.2.2.2.1.ext e, h.2.2.2.2.2.2⟩
theorem LiveR.ins {w W W' : World} {N P Q h3 B h5 lo hi : Nat} {n : Int} {v v3 v5 : Value} {d : RowD} {M : List Int} (h : LiveR w W N P Q h3 B h5 n v v3 v5 d M) (k : Ins lo hi W W')
    (h0 : w.heap.size ≤ lo) (hN : N < lo) (hP : P < lo) (hh : h3 ≤ lo) (hB : hi ≤ B) (hQ : hi ≤ Q) : LiveR w W' N P Q h3 B h5 n v v3 v5 d M := by
  obtain ⟨a, b, c, e, f, g, i, j⟩ := h
  exact ⟨k.ext a h0, b.ins k (.inl hN), c.ins k (.inl hP), k.row e (fun q hq => .inl (Nat.lt_of_lt_of_le (i q hq) hh)), f.ins k (.inr hQ), g.ins_high k hB, i, j⟩
theorem LiveR.mark {w W W' : World} {N P Q h3 B h5 : Nat} {n : Int} {v v3 v5 : Value} {d : RowD} {M M' : List Int} (h : LiveR w W N P Q h3 B h5 n v v3 v5 d M) (t : W.grownBy W' v5.ownBlock) (f' : Fresh B W' v5 M')
    (h0 : w.heap.size ≤ B) (hN : N < B) (hP : P < B) (hh : h3 ≤ B) (hQ : h5 ≤ Q) : LiveR w W' N P Q h3 B h5 n v v3 v5 d M' := by
  obtain ⟨a, b, c, e, f, g, i, j⟩ := h
  have k : Ins B h5 W W' := Ins.of_grown t (fun q hq => ⟨(World.ownsRow.lt g q hq).1, j q hq⟩)
  exact ⟨k.ext a h0, b.ins k (.inl hN), c.ins k (.inl hP), k.row e (fun q hq => .inl (Nat.lt_of_lt_of_le (i q hq) hh)), f.ins k (.inr hQ), f', i, j⟩

end Go.Proofs.Ythnoeknalpnadaa
