/- An append of one int at a place of a region, by a step of its own; what a write elsewhere leaves. -/
import Derived.Test.YtfadmcgaojnghaaDoorAttr
import Derived.Test.YtfadmcgaojnghaaDoorPush
import Derived.Deep.RegionLaw
import Derived.Deep.AppendLies
namespace Go.Proofs.YtfadmcgaojnghaaDoor
open Go.RowKit
set_option linter.unusedVariables false

theorem step_push {ops : Array Oper} {o : Oper} {a : Act} {w : World} {K : Act → World → Prop} {Q : Exit → Act → World → Prop} {E : Prop} (hgd : o.guard = none) (s x : Operand)
    (ho : o.op = .call { callee := .builtin .append, args := #[s, x], argTypes := #[32, 32] })
    (B : Nat) (v : Value) (l : List Int) (n : Int) (hs : a.eval s = v) (hf : Fresh B w v l) (ad : Addr) (c : Nat) (hx : a.eval x = .slice (some ad) 1 c)
    (hc : w.cell? ad = some (.int .i64 n)) (m : Nat) (hm : l.length = m) (hl : m ≤ 1099511627776) (hB : B ≤ w.heap.size)
    (h : ∀ ao cap w', Fresh B w' (.slice ao (m + 1) cap) (l ++ [n]) → w.grownBy w' v.ownBlock → K (a.put o.dst (.slice ao (m + 1) cap)) w') : if Region.wanted o (yielded ops a.tmps) = true then Oper.wp Tryd.prog o a w K Q else E := by
  obtain ⟨i0, hi, hz0, hz1, hz2⟩ := info_parts Tryd.infoInt
  have hw : Region.wanted o (yielded ops a.tmps) = true := by simp [Region.wanted, hgd]
  rw [if_pos hw]
  refine wp_append_own w s x 32 ho B 3 i0 (.int .i64 0) 1 8 Tryd.underlying32 hi hz0 hz1 hz2 rfl (by decide) v l.length _ hs hf ad 1 c [.int .i64 n] hx rfl ?_ ?_ ?_ ?_ hB ?_
  · intro j u hj
    match j, hj with
    | 0, hj => simp at hj; subst hj; simpa [Addr.add] using hc
  · intro u hu; simp at hu; subst hu; rfl
  · unfold maxLen; omega
  · omega
  · intro v' w' ho' hg _
    have hf' : Fresh B w' v' (l ++ [n]) := by
      unfold Fresh
      rw [List.map_append, List.length_append]; exact ho'
    obtain ⟨ao, cap, rfl⟩ := hf'.form
    have e : (l ++ [n]).length = m + 1 := by simp [hm]
    rw [e] at hf' ⊢
    exact h ao cap w' hf' hg

theorem far_cell {B b o : Nat} {wr W W' : World} {v x : Value} {l : List Int} (f : Fresh B wr v l) (e : Ext wr W) (t : W.grownBy W' v.ownBlock) (hc : wr.cell? ⟨b, o, none⟩ = some x) (hb : b < B) : W'.cell? ⟨b, o, none⟩ = some x := cell_marked f t (e.cell hc) (.inl hb)
theorem far_free {B b o : Nat} {wr W W' : World} {v x : Value} {l : List Int} (f : Fresh B wr v l) (e : Ext wr W) (t : W.grownBy W' v.ownBlock) (hc : wr.cell? ⟨b, 0, none⟩ = some x) (hz : wr.frozen? ⟨b, o, none⟩ = false) (hb : b < B) : W'.frozen? ⟨b, o, none⟩ = false := by
  have hlt : b < wr.heap.size := World.block_lt_of_cell? wr _ hc
  have h := World.grownBy.frozen_far t ⟨b, o, none⟩ (Nat.lt_of_lt_of_le hlt e.size) (fun e' => by
    have := (World.ownsRow.lt f b e'.symm).1
    omega)
  rw [h]
  exact e.frozen hlt hz
theorem far_attr {B b : Nat} {wr W W' : World} {v u : Value} {s : Int} {l : List Int} (f : Fresh B wr v l) (e : Ext wr W) (t : W.grownBy W' v.ownBlock) (h : AttrAt wr b s u) (hb : b < B) : AttrAt W' b s u := ⟨far_cell f e t h.1 hb, far_cell f e t h.2 hb⟩
theorem far_open {B b : Nat} {wr W W' : World} {v u : Value} {s : Int} {l : List Int} (f : Fresh B wr v l) (e : Ext wr W) (t : W.grownBy W' v.ownBlock) (h : OpenAt wr b s u) (hb : b < B) : OpenAt W' b s u :=
  ⟨far_attr f e t h.1 hb, far_free f e t h.1.1 h.2.1 hb, far_free f e t h.1.1 h.2.2 hb⟩
theorem cell_other {W : World} {g o : Nat} {a : Addr} {z u : Value} (hne : a.block ≠ g) (h : W.cell? a = some u) : (W.setCell ⟨g, o, none⟩ z).cell? a = some u := by
  have hh := Below.heap_setCell W ⟨g, o, none⟩ z a.block hne
  have e : (W.setCell ⟨g, o, none⟩ z).cell? a = W.cell? a := by unfold World.cell?; rw [hh]
  rw [e]; exact h
theorem AttrAt.other {w : World} {b g o : Nat} {s : Int} {u z : Value} (h : AttrAt w b s u) (hne : b ≠ g) : AttrAt (w.setCell ⟨g, o, none⟩ z) b s u := ⟨cell_other hne h.1, cell_other hne h.2⟩
theorem OpenAt.other {w : World} {b g o : Nat} {s : Int} {u z : Value} (h : OpenAt w b s u) (hne : b ≠ g) : OpenAt (w.setCell ⟨g, o, none⟩ z) b s u :=
  ⟨h.1.other hne, by rw [World.frozen?_setCell]; exact h.2.1, by rw [World.frozen?_setCell]; exact h.2.2⟩
theorem OpenAt.set1 {w : World} {b : Nat} {s : Int} {u z : Value} (h : OpenAt w b s u) : OpenAt (w.setCell ⟨b, 1, none⟩ z) b s z := by
  obtain ⟨⟨c0, c1⟩, z0, z1⟩ := h
  refine ⟨⟨?_, ?_⟩, ?_, ?_⟩ <;> go_simp

end Go.Proofs.YtfadmcgaojnghaaDoor
