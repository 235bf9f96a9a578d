/- What lives through the steps of a law whose argument is a graph and whose function answers with lists. -/
import Derived.Test.YtnmnbeklofnonaaMarkSSI
import Derived.Test.YtnmnbeklofnonaaPushSS
import Derived.Test.YtnmnbeklofnonaaIntSS2
import Derived.Test.YtnmnbeklofnonaaIntSS3
namespace Go.Proofs.Ytnmnbeklofnonaa
open Go.RowKit
set_option linter.unusedVariables false

theorem eqIntSS_self (u v : Value) (L : List (List Int)) (w : World) (hu : Intss w u L) (hv : Intss w v L) : Calls Try.prog 25 #[u, v] w (BoolExt true w) := by
  have h := eqIntSS_any u v L L w hu hv
  rwa [decide_eq_true rfl] at h

/-- As FreshSS, from block 0 on, all below h. -/
def SSI (h : Nat) (w : World) (v : Value) (L : List (List Int)) : Prop := ∃ vs, w.ownsRow 0 27 1 v L.length vs ∧ Rows_ 0 w vs L ∧ Und h v ∧ ∀ (j : Nat) (u : Value), vs[j]? = some u → Und h u
theorem FreshSS.below {B h : Nat} {w : World} {v : Value} {L : List (List Int)} (f : FreshSS B w v L) (hb : w.heap.size ≤ h) : SSI h w v L := by
  obtain ⟨vs, h1, h2, _⟩ := f
  refine ⟨vs, ownsRow_more h1 (Nat.zero_le _), h2.more (Nat.zero_le _), fun b e => Nat.lt_of_lt_of_le (World.ownsRow.lt h1 b e).2 hb, fun j u hu => ?_⟩
  have hj : j < vs.length := (List.getElem?_eq_some_iff.1 hu).1
  exact (h2.row j u _ hu (List.getElem?_eq_getElem (by rw [← h2.len]; exact hj))).und.more hb
theorem SSI.stood {h : Nat} {w w' : World} {v : Value} {L : List (List Int)} (f : SSI h w v L) (k : Stood 0 h w w') : SSI h w' v L := by
  obtain ⟨vs, h1, h2, h3, h4⟩ := f
  refine ⟨vs, k.row h1 (fun b e => ⟨Nat.zero_le _, h3 b e⟩), ⟨h2.len, fun j u l hu hl => k.row (h2.row j u l hu hl) (fun b e => ⟨Nat.zero_le _, h4 j u hu b e⟩), h2.apart⟩, h3, h4⟩
theorem SSI.ext {h : Nat} {w w' : World} {v : Value} {L : List (List Int)} (f : SSI h w v L) (e : Ext w w') : SSI h w' v L := by
  obtain ⟨vs, h1, h2, h3, h4⟩ := f
  exact ⟨vs, e.ownsRow h1, h2.ext e, h3, h4⟩
theorem SSI.intss {h : Nat} {w : World} {v : Value} {L : List (List Int)} (f : SSI h w v L) : Intss w v L := by
  obtain ⟨vs, h1, h2, h3, h4⟩ := f
  exact (FreshSS.of h1 h2).intss
theorem FreshSS.ins {lo hi B : Nat} {w w' : World} {v : Value} {L : List (List Int)} (f : FreshSS B w v L) (k : Ins lo hi w w') (hb : hi ≤ B) : FreshSS B w' v L := by
  obtain ⟨vs, h1, h2, h3⟩ := f
  exact ⟨vs, k.row h1 (fun b e => .inr (Nat.le_trans hb (World.ownsRow.lt h1 b e).1)), ⟨h2.len, fun j u l hu hl => (h2.row j u l hu hl).ins_high k hb, h2.apart⟩, h3⟩

/-- The model's answer v3 (below h3), the program's v5 (from B on). -/
def LiveG (w W : World) (h3 B : Nat) (v3 v5 : Value) (L M : List (List Int)) : Prop := Ext w W ∧ SSI h3 W v3 L ∧ FreshSS B W v5 M
theorem LiveG.ext {w W W' : World} {h3 B : Nat} {v3 v5 : Value} {L M : List (List Int)} (h : LiveG w W h3 B v3 v5 L M) (e : Ext W W') : LiveG w W' h3 B v3 v5 L M :=
  ⟨h.1.trans e, h.2.1.ext e, h.2.2.ext e⟩
theorem LiveG.ins {w W W' : World} {h3 B lo hi : Nat} {v3 v5 : Value} {L M : List (List Int)} (h : LiveG w W h3 B v3 v5 L M) (k : Ins lo hi W W')
    (h0 : w.heap.size ≤ lo) (hh : h3 ≤ lo) (hB : hi ≤ B) (hs : h3 ≤ W.heap.size) : LiveG w W' h3 B v3 v5 L M := by
  obtain ⟨a, c, e⟩ := h
  exact ⟨k.ext a h0, c.stood (k.stood hs (.inl hh)), e.ins k hB⟩
theorem LiveG.mark {w W W' : World} {h3 B : Nat} {v3 v5 : Value} {L M M' : List (List Int)} (h : LiveG w W h3 B v3 v5 L M) (k : Below B W W') (f' : FreshSS B W' v5 M')
    (h0 : w.heap.size ≤ B) (hh : h3 ≤ B) : LiveG w W' h3 B v3 v5 L M' := by
  obtain ⟨a, c, e⟩ := h
  exact ⟨a.under k h0, c.stood ⟨k.size, fun x _ h2 => Below.block k x (by omega)⟩, f'⟩

end Go.Proofs.Ytnmnbeklofnonaa
