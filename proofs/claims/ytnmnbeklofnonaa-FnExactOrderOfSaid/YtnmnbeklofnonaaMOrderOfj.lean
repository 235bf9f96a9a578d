/- Texts of this proof, part j: words, plain facts, contracts. -/
import Derived.Test.YtnmnbeklofnonaaMOrderOfi

namespace Go.Proofs.Ytnmnbeklofnonaa
open Go.RowKit
set_option linter.unusedVariables false

theorem eqIntS_self (u v : Value) (L : List Int) (w : World) (hu : Ints w u L) (hv : Ints w v L) : Calls Try.prog 32 #[u, v] w (BoolExt true w) := by
  have h := eqIntS_any u v L L w hu hv
  rwa [decide_eq_true rfl] at h
theorem eqIntSS_one (u v : Value) (L : List (List Int)) (w : World) (hu : Intss w u L) (hv : Intss w v L) : Calls Try.prog 25 #[u, v] w (BoolExt true w) := by
  have h := eqIntSS_any u v L L w hu hv
  rwa [decide_eq_true rfl] at h

/-- The model's answer v3 (below h3), the program's v5 (from B on). -/
def LiveI (w W : World) (h3 B : Nat) (v3 v5 : Value) (L M : List Int) : Prop :=
  Ext w W ∧ (Fresh 0 W v3 L ∧ Und h3 v3) ∧ Fresh B W v5 M
theorem LiveI.ext {w W W' : World} {h3 B : Nat} {v3 v5 : Value} {L M : List Int} (h : LiveI w W h3 B v3 v5 L M) (e : Ext W W') : LiveI w W' h3 B v3 v5 L M :=
  ⟨h.1.trans e, ⟨h.2.1.1.ext e, h.2.1.2⟩, h.2.2.ext e⟩
theorem LiveI.ins {w W W' : World} {h3 B lo hi : Nat} {v3 v5 : Value} {L M : List Int} (h : LiveI w W h3 B v3 v5 L M) (k : Ins lo hi W W')
    (h0 : w.heap.size ≤ lo) (hh : h3 ≤ lo) (hB : hi ≤ B) : LiveI w W' h3 B v3 v5 L M := by
  obtain ⟨a, b, e⟩ := h
  exact ⟨k.ext a h0, ⟨k.row b.1 (fun q hq => .inl (Nat.lt_of_lt_of_le (b.2 q hq) hh)), b.2⟩, e.ins_high k hB⟩
theorem LiveI.mark {w W W' : World} {h3 B : Nat} {v3 v5 : Value} {L M M' : List Int} (h : LiveI w W h3 B v3 v5 L M) (t : W.grownBy W' v5.ownBlock) (f' : Fresh B W' v5 M')
    (h0 : w.heap.size ≤ B) (hh : h3 ≤ B) : LiveI w W' h3 B v3 v5 L M' := by
  obtain ⟨a, b, e⟩ := h
  have k : Ins B W.heap.size W W' := Ins.of_grown t (fun q hq => World.ownsRow.lt e q hq)
  exact ⟨k.ext a h0, ⟨k.row b.1 (fun q hq => .inl (Nat.lt_of_lt_of_le (b.2 q hq) hh)), b.2⟩, f'⟩

end Go.Proofs.Ytnmnbeklofnonaa
