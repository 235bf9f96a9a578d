/- One more element at the end of a slice that the call itself made, whatever one-cell type its elements have; slices of texts. -/
import Derived.Test.YtfadmcgaojnghaaDoorPush
namespace Go.Proofs.YtfadmcgaojnghaaDoor
open Go.RowKit

theorem wpList_push1 {ops : Array Oper} {rest : List Oper} {o : Oper} {a : Act} {Q : Exit → Act → World → Prop} {w : World} (hgd : o.guard = none) (s x : Operand)
    (T e : TypeId) (z : Value) (bytes : Nat) (hT : Tryd.prog.underlying T = some (.slice e)) (hI : (Tryd.prog.info? e).map (fun i => (i.zero, i.size, i.bytes)) = some (some z, 1, bytes)) (hzs : z.cells.size = 1) (hby : bytes ≤ 64)
    (ho : o.op = .call { callee := .builtin .append, args := #[s, x], argTypes := #[T, T] })
    (B : Nat) (v : Value) (xs : List Value) (y : Value) (hy : y.oneCell' = true) (hs : a.eval s = v) (hf : w.ownsRow B e 1 v xs.length xs) (ad : Addr) (c : Nat) (hx : a.eval x = .slice (some ad) 1 c)
    (hc : w.cell? ad = some y) (hl : xs.length ≤ 1099511627776) (hB : B ≤ w.heap.size)
    (h : ∀ v' w', w'.ownsRow B e 1 v' (xs ++ [y]).length (xs ++ [y]) → w.grownBy w' v.ownBlock → Kept B w w' → wpList Tryd.prog ops Q rest (a.put o.dst v') w') : wpList Tryd.prog ops Q (o :: rest) a w := by
  obtain ⟨i0, hi, hz0, hz1, hz2⟩ := info_parts hI
  refine wpList_append_own _ hgd s x T ho B e i0 z 1 bytes hT hi hz0 hz1 hz2 hzs (by decide) v xs.length _ hs hf ad 1 c [y] hx rfl ?_ ?_ ?_ ?_ hB ?_
  · intro j u hj
    match j, hj with
    | 0, hj => simp at hj; subst hj; simpa [Addr.add] using hc
  · intro u hu; simp at hu; subst hu; exact hy
  · unfold maxLen; omega
  · exact Nat.le_trans (Nat.mul_le_mul (show xs.length + 1 ≤ 1099511627777 by omega) hby) (by decide)
  · intro v' w' ho' hg _
    refine h v' w' ?_ hg (fun w0 hx0 hB0 => Below.grown hx0 hg hx0.size (fun q hq => Nat.le_trans hB0 (World.ownsRow.lt hf q hq).1))
    rw [List.length_append]; exact ho'

/-- v is a slice in new memory that reads as the texts ws. -/
def FreshS (B : Nat) (w : World) (v : Value) (ws : List ByteArray) : Prop := w.ownsRow B 9 1 v ws.length (ws.map Value.string)
theorem FreshS.ext {B : Nat} {w w' : World} {v : Value} {ws : List ByteArray} (h : FreshS B w v ws) (e : Ext w w') : FreshS B w' v ws := e.ownsRow h
theorem freshS_nil (B : Nat) (w : World) : FreshS B w (.slice none 0 0) [] := World.ownsRow_nil _ _ _ _
theorem Tryd.infoStr : (Tryd.prog.info? 9).map (fun i => (i.zero, i.size, i.bytes)) = some (some (.string ⟨#[]⟩), 1, 16) := by kernel_rfl

/-- v is a slice that reads as the texts ws. -/
def Strs (w : World) (v : Value) (ws : List ByteArray) : Prop :=
  ∃ ao cap, v = .slice ao ws.length cap ∧ ws.length ≤ maxLen ∧ (ws.length ≤ cap ∧ cap ≤ maxLen ∧ (ao = none → cap = 0)) ∧ (0 < ws.length → ∃ b off, ao = some ⟨b, off, none⟩ ∧ ∀ j (h : j < ws.length), w.cell? ⟨b, off + j, none⟩ = some (.string ws[j]))
theorem Strs.ext {w w' : World} {v : Value} {ws : List ByteArray} (h : Strs w v ws) (e : Ext w w') : Strs w' v ws := by
  obtain ⟨ao, cap, hv, hm, hcap, hc⟩ := h
  refine ⟨ao, cap, hv, hm, hcap, fun hp => ?_⟩
  obtain ⟨b, off, ha, hc⟩ := hc hp
  exact ⟨b, off, ha, fun j hj => e.cell (hc j hj)⟩
theorem FreshS.strs {B : Nat} {w : World} {v : Value} {ws : List ByteArray} (h : FreshS B w v ws) : Strs w v ws := by
  rcases h.2 with ⟨rfl, hn⟩ | ⟨g, cap, cur, rfl, hb, hg, hnc, hcm, hcs, htake⟩
  · obtain rfl : ws = [] := List.eq_nil_of_length_eq_zero hn
    exact ⟨none, 0, rfl, by simp, ⟨by simp, by simp, fun _ => rfl⟩, fun h => by simp at h⟩
  · refine ⟨some ⟨g, 0, none⟩, cap, rfl, by omega, ⟨by omega, by omega, fun h => by cases h⟩, fun _ => ⟨g, 0, rfl, fun j hj => ?_⟩⟩
    have := World.ownsRow.cellAt h j (by omega)
    rw [Nat.zero_add, this]
    simp [List.getElem?_eq_getElem hj]
def NewStrs (ws : List ByteArray) (w : World) (e : Ending) (w' : World) : Prop := ∃ v, e = .returned v ∧ FreshS w.heap.size w' v ws ∧ Ext w w'

end Go.Proofs.YtfadmcgaojnghaaDoor
