/- Contract of the model's l3Join. -/
import Derived.Test.YtfadmcgaojnghaaGoodAttr
import Derived.Test.YtfadmcgaojnghaaSame
import Derived.Test.YtfadmcgaojnghaaPush
import Derived.Deep.RegionLaw
import Derived.Deep.AppendLies
namespace Go.Proofs.Ytfadmcgaojnghaa
open Go.RowKit
set_option linter.unusedVariables false

/-- The greater of both. -/
def mo (x y : Int) : Int := if y < x then x else y
theorem l1Most_any (x y : Int) (w : World) :
    Calls Try.prog 41 #[.int .i64 x, .int .i64 y] w fun e w' => e = .returned (.int .i64 (mo x y)) ∧ w = w' := by
  by_cases h : y < x
  · have e : mo x y = x := by unfold mo; rw [if_pos h]
    rw [e]
    go_enter Try.func41, Try.ntmps41
    go_wp2
    go_ret
    exact ⟨rfl, rfl⟩
  · have e : mo x y = y := by unfold mo; rw [if_neg h]
    rw [e]
    go_enter Try.func41, Try.ntmps41
    go_wp2
    go_ret
    exact ⟨rfl, rfl⟩

theorem step_push {ops : Array Oper} {o : Oper} {a : Act} {w : World} {K : Act → World → Prop} {Q : Exit → Act → World → Prop} {E : Prop} (hgd : o.guard = none) (s x : Operand)
    (ho : o.op = .call { callee := .builtin .append, args := #[s, x], argTypes := #[22, 22] })
    (B : Nat) (v : Value) (l : List Int) (n : Int) (hs : a.eval s = v) (hf : Fresh B w v l) (ad : Addr) (c : Nat) (hx : a.eval x = .slice (some ad) 1 c)
    (hc : w.cell? ad = some (.int .i64 n)) (m : Nat) (hm : l.length = m) (hl : m ≤ 1099511627776) (hB : B ≤ w.heap.size)
    (h : ∀ ao cap w', Fresh B w' (.slice ao (m + 1) cap) (l ++ [n]) → w.grownBy w' v.ownBlock → K (a.put o.dst (.slice ao (m + 1) cap)) w') : if Region.wanted o (yielded ops a.tmps) = true then Oper.wp Try.prog o a w K Q else E := by
  obtain ⟨i0, hi, hz0, hz1, hz2⟩ := info_parts Try.infoInt
  have hw : Region.wanted o (yielded ops a.tmps) = true := by simp [Region.wanted, hgd]
  rw [if_pos hw]
  refine wp_append_own w s x 22 ho B 3 i0 (.int .i64 0) 1 8 Try.underlying22 hi hz0 hz1 hz2 rfl (by decide) v l.length _ hs hf ad 1 c [.int .i64 n] hx rfl ?_ ?_ ?_ ?_ hB ?_
  · intro j u hj
    match j, hj with
    | 0, hj => simp at hj; subst hj; simpa [Addr.add] using hc
  · intro u hu; simp at hu; subst hu; rfl
  · unfold maxLen; omega
  · omega
  · intro v' w' ho' hg _
    have hf' : Fresh B w' v' (l ++ [n]) := by
      unfold Fresh
      rw [List.map_append, List.length_append]; exact ho'
    obtain ⟨ao, cap, rfl⟩ := hf'.form
    have e : (l ++ [n]).length = m + 1 := by simp [hm]
    rw [e] at hf' ⊢
    exact h ao cap w' hf' hg

theorem far_cell {B b o : Nat} {wr W W' : World} {v x : Value} {l : List Int} (f : Fresh B wr v l) (e : Ext wr W) (t : W.grownBy W' v.ownBlock) (hc : wr.cell? ⟨b, o, none⟩ = some x) (hb : b < B) : W'.cell? ⟨b, o, none⟩ = some x := cell_marked f t (e.cell hc) (.inl hb)
theorem far_free {B b o : Nat} {wr W W' : World} {v x : Value} {l : List Int} (f : Fresh B wr v l) (e : Ext wr W) (t : W.grownBy W' v.ownBlock) (hc : wr.cell? ⟨b, 0, none⟩ = some x) (hz : wr.frozen? ⟨b, o, none⟩ = false) (hb : b < B) : W'.frozen? ⟨b, o, none⟩ = false := by
  have hlt : b < wr.heap.size := World.block_lt_of_cell? wr _ hc
  have h := World.grownBy.frozen_far t ⟨b, o, none⟩ (Nat.lt_of_lt_of_le hlt e.size) (fun e' => by
    have := (World.ownsRow.lt f b e'.symm).1
    omega)
  rw [h]
  exact e.frozen hlt hz
theorem far_attr {B b : Nat} {wr W W' : World} {v u : Value} {s : Int} {l : List Int} (f : Fresh B wr v l) (e : Ext wr W) (t : W.grownBy W' v.ownBlock) (h : AttrAt wr b s u) (hb : b < B) : AttrAt W' b s u := ⟨far_cell f e t h.1 hb, far_cell f e t h.2 hb⟩
theorem far_open {B b : Nat} {wr W W' : World} {v u : Value} {s : Int} {l : List Int} (f : Fresh B wr v l) (e : Ext wr W) (t : W.grownBy W' v.ownBlock) (h : OpenAt wr b s u) (hb : b < B) : OpenAt W' b s u :=
  ⟨far_attr f e t h.1 hb, far_free f e t h.1.1 h.2.1 hb, far_free f e t h.1.1 h.2.2 hb⟩
theorem four_at (w : World) (T : TypeId) (s t p q : Int) (u v y z : Value) :
    OpenAt ((((w.alloc (.cells #[.int .i64 s, u] T)).alloc (.cells #[.int .i64 t, v] T)).alloc (.cells #[.int .i64 p, y] T)).alloc (.cells #[.int .i64 q, z] T)) (w.heap.size + 1 + 1 + 1) q z ∧
    OpenAt ((((w.alloc (.cells #[.int .i64 s, u] T)).alloc (.cells #[.int .i64 t, v] T)).alloc (.cells #[.int .i64 p, y] T)).alloc (.cells #[.int .i64 q, z] T)) (w.heap.size + 1 + 1) p y ∧
    AttrAt ((((w.alloc (.cells #[.int .i64 s, u] T)).alloc (.cells #[.int .i64 t, v] T)).alloc (.cells #[.int .i64 p, y] T)).alloc (.cells #[.int .i64 q, z] T)) w.heap.size s u ∧
    AttrAt ((((w.alloc (.cells #[.int .i64 s, u] T)).alloc (.cells #[.int .i64 t, v] T)).alloc (.cells #[.int .i64 p, y] T)).alloc (.cells #[.int .i64 q, z] T)) (w.heap.size + 1) t v := by
  refine ⟨⟨⟨?_, ?_⟩, ?_, ?_⟩, ⟨⟨?_, ?_⟩, ?_, ?_⟩, ⟨?_, ?_⟩, ?_, ?_⟩ <;> go_simp
theorem Ext.alloc4 (w : World) (a b c d : Obj) : Ext w ((((w.alloc a).alloc b).alloc c).alloc d) := ((((Ext.refl w).alloc a).alloc b).alloc c).alloc d

theorem keepJ {W W' : World} {a b c d : Addr} {u v r s : Value} (x : Ext W W') (h : W.cell? a = some u ∧ W.cell? b = some v ∧ W.cell? c = some r ∧ W.cell? d = some s) : W'.cell? a = some u ∧ W'.cell? b = some v ∧ W'.cell? c = some r ∧ W'.cell? d = some s :=
  ⟨x.cell h.1, x.cell h.2.1, x.cell h.2.2.1, x.cell h.2.2.2⟩
theorem keepJF {B : Nat} {wr W W' : World} {v0 : Value} {l : List Int} (f : Fresh B wr v0 l) (t : W.grownBy W' v0.ownBlock) {a b c d : Addr} {u v r s : Value} (ha : a.block < B) (hb : b.block < B) (hc : c.block < B) (hd : d.block < B)
    (h : W.cell? a = some u ∧ W.cell? b = some v ∧ W.cell? c = some r ∧ W.cell? d = some s) : W'.cell? a = some u ∧ W'.cell? b = some v ∧ W'.cell? c = some r ∧ W'.cell? d = some s := by
  have ne : ∀ q : Addr, q.block < B → some q.block ≠ v0.ownBlock := fun q hq e => by
    have := (World.ownsRow.lt f q.block e.symm).1
    omega
  exact ⟨World.grownBy.cell t h.1 (ne a ha), World.grownBy.cell t h.2.1 (ne b hb), World.grownBy.cell t h.2.2.1 (ne c hc), World.grownBy.cell t h.2.2.2 (ne d hd)⟩
theorem cell_other {W : World} {g o : Nat} {a : Addr} {z u : Value} (hne : a.block ≠ g) (h : W.cell? a = some u) : (W.setCell ⟨g, o, none⟩ z).cell? a = some u := by
  have hh := Below.heap_setCell W ⟨g, o, none⟩ z a.block hne
  have e : (W.setCell ⟨g, o, none⟩ z).cell? a = W.cell? a := by unfold World.cell?; rw [hh]
  rw [e]; exact h
theorem keepJS {W : World} {g o : Nat} {z : Value} {a b c d : Addr} {u v r s : Value} (ha : a.block ≠ g) (hb : b.block ≠ g) (hc : c.block ≠ g) (hd : d.block ≠ g)
    (h : W.cell? a = some u ∧ W.cell? b = some v ∧ W.cell? c = some r ∧ W.cell? d = some s) : (W.setCell ⟨g, o, none⟩ z).cell? a = some u ∧ (W.setCell ⟨g, o, none⟩ z).cell? b = some v ∧ (W.setCell ⟨g, o, none⟩ z).cell? c = some r ∧ (W.setCell ⟨g, o, none⟩ z).cell? d = some s :=
  ⟨cell_other ha h.1, cell_other hb h.2.1, cell_other hc h.2.2.1, cell_other hd h.2.2.2⟩

theorem AttrAt.other {w : World} {b g o : Nat} {s : Int} {u z : Value} (h : AttrAt w b s u) (hne : b ≠ g) : AttrAt (w.setCell ⟨g, o, none⟩ z) b s u := ⟨cell_other hne h.1, cell_other hne h.2⟩
theorem OpenAt.other {w : World} {b g o : Nat} {s : Int} {u z : Value} (h : OpenAt w b s u) (hne : b ≠ g) : OpenAt (w.setCell ⟨g, o, none⟩ z) b s u :=
  ⟨h.1.other hne, by rw [World.frozen?_setCell]; exact h.2.1, by rw [World.frozen?_setCell]; exact h.2.2⟩
theorem OpenAt.set1 {w : World} {b : Nat} {s : Int} {u z : Value} (h : OpenAt w b s u) : OpenAt (w.setCell ⟨b, 1, none⟩ z) b s z := by
  obtain ⟨⟨c0, c1⟩, z0, z1⟩ := h
  refine ⟨⟨?_, ?_⟩, ?_, ?_⟩ <;> go_simp

/-- The first k greater ones. -/
def joinTo (l r : List Int) (k : Nat) : List Int := (List.range k).map fun i => mo (at0 l i) (at0 r i)
theorem joinTo_succ (l r : List Int) (k : Nat) : joinTo l r (k + 1) = joinTo l r k ++ [mo (at0 l k) (at0 r k)] := by simp [joinTo, List.range_succ]
theorem joinTo_len (l r : List Int) (k : Nat) : (joinTo l r k).length = k := by simp [joinTo]

set_option maxRecDepth 100000 in
set_option maxHeartbeats 8000000 in
theorem l3Join_any (s t : Int) (u v : Value) (l r : List Int) (w : World) (hu : Ints w u l) (hv : Ints w v r) (hl : l.length = r.length) (h5 : l.length ≤ 5) :
    Calls Try.prog 33 #[.agg #[.int .i64 s, u], .agg #[.int .i64 t, v]] w (NewAttr (mo s t) (joinTo l r l.length) w) := by
  obtain ⟨au, cu, rfl, hlu, hcapu, hcu⟩ := hu
  obtain ⟨av, cv, rfl, hlv, hcapv, hcv⟩ := hv
  unfold maxLen at hlu hlv
  have HCU := Lib.hid hcu
  have HCV := Lib.hid hcv
  have HL := Lib.hid hl
  have HB := Lib.hid (box2 w s t (.slice au l.length cu) (.slice av r.length cv) 27)
  clear hcapu hcapv hcu hcv hl
  go_enter Try.func33, Try.ntmps33
  go_wp2_with fail
  refine (l1Most_any _ _ _).mono ?_
  rintro e w' ⟨rfl, rfl⟩
  go_wp2
  go_loopw [6, 16] (fun _ i wr => ∃ (k : Nat) (ao : Option Addr) (c : Nat), k ≤ l.length ∧ i = .int .i64 k ∧ OpenAt wr (w.heap.size + 1 + 1 + 1) (mo s t) (.slice ao k c) ∧ OpenAt wr (w.heap.size + 1 + 1) 0 (.slice none 0 0) ∧ Fresh (w.heap.size + 4) wr (.slice ao k c) (joinTo l r k) ∧ AttrAt wr w.heap.size s (.slice au l.length cu) ∧ AttrAt wr (w.heap.size + 1) t (.slice av r.length cv) ∧ Ext w wr) (fun _ i _ => l.length - (intOf i).toNat)
  case atStart => exact ⟨0, none, 0, Nat.zero_le _, rfl, (four_at _ _ _ _ _ _ _ _ _ _).1, (four_at _ _ _ _ _ _ _ _ _ _).2.1, fresh_nil _ _, (four_at _ _ _ _ _ _ _ _ _ _).2.2.1, (four_at _ _ _ _ _ _ _ _ _ _).2.2.2, Ext.alloc4 _ _ _ _ _⟩
  case round =>
    obtain ⟨k, ao, c, hk, rfl, hO, hR, hF, hA, hB, hx⟩ := hrel
    have hsz : w.heap.size + 4 ≤ wr.heap.size := by have := World.block_lt_of_cell? wr _ hO.1.1; simp at this; omega
    have HF := Lib.hid hF
    have HO := Lib.hid hO
    have HR := Lib.hid hR
    have HA := Lib.hid hA
    have HBB := Lib.hid hB
    have HX := Lib.hid hx
    obtain ⟨⟨o0, o1⟩, -, -⟩ := hO
    obtain ⟨a0, a1⟩ := hA
    obtain ⟨b0, b1⟩ := hB
    by_cases hlt : k < l.length
    · have hltr : k < r.length := by have := HL.out; omega
      obtain ⟨bu, ou, rfl, du⟩ := HCU.out (by omega)
      obtain ⟨bv, ov, rfl, dv⟩ := HCV.out (by omega)
      have QU : bu < w.heap.size := World.block_lt_of_cell? w _ (du k hlt)
      have QV : bv < w.heap.size := World.block_lt_of_cell? w _ (dv k hltr)
      have gu := hx.cell (du k hlt)
      have gv := hx.cell (dv k hltr)
      have hS := Lib.hid (joinTo_succ l r k)
      have hxd : at0 l k = l[k]?.getD 0 := rfl
      have hyd : at0 r k = r[k]?.getD 0 := rfl
      obtain ⟨x, hx'⟩ : ∃ x, x = l[k]?.getD 0 := ⟨_, rfl⟩
      obtain ⟨y, hy'⟩ : ∃ y, y = r[k]?.getD 0 := ⟨_, rfl⟩
      rw [← hx'] at gu hxd
      rw [← hy'] at gv hyd
      rw [hxd, hyd] at hS
      have i0 : (0 : Int) ≤ k := by omega
      have i1 : (k : Int) < l.length := by omega
      have i2 : (k : Int) < r.length := by omega
      have hk5 : k ≤ 1099511627776 := by omega
      have q1 : w.heap.size + 1 + 1 + 1 < wr.heap.size := by omega
      have q2 : w.heap.size + 1 + 1 + 1 ≠ wr.heap.size := by omega
      have q3 : bu < w.heap.size := QU
      have q4 : bv < w.heap.size := QV
      have hjl : Hid ((joinTo l r k).length = k) := Lib.hid (joinTo_len l r k)
      clear hR hF hx du dv hx' hy' hxd hyd
      go_wp2
      go_region_law (first | (refine step_push rfl (.tmp 20) (.tmp 32) rfl (w.heap.size + 4) (.slice ao k c) (joinTo l r k) (mo x y) rfl (Fresh.ext HF.out (by repeat (first | exact Ext.refl _ | apply Ext.drew | apply Ext.alloc))) ⟨wr.heap.size, 0, none⟩ 1 rfl (by go_simp) k hjl.out hk5 (by simp; omega) ?_; intro ao' c' W' hf' hg'; obtain ⟨⟨m0, m1⟩, y0, y1⟩ := far_open HF.out (by repeat (first | exact Ext.refl _ | apply Ext.drew | apply Ext.alloc)) hg' HO.out (by omega)) | (go_simp; go_at_call 41; refine (l1Most_any _ _ _).mono ?_; rintro e w' ⟨rfl, rfl⟩))
      all_goals
        have hX : Ext wr _ := (by repeat (first | exact Ext.refl _ | apply Ext.drew | apply Ext.alloc) : Ext wr (wr.alloc (.cells #[.int .i64 (mo x y)] 3)).drew)
        have hO' := (far_open HF.out hX hg' HO.out (by omega)).set1 (z := .slice ao' (k + 1) c')
        have hR' := (far_open HF.out hX hg' HR.out (by omega)).other (g := w.heap.size + 1 + 1 + 1) (o := 1) (z := .slice ao' (k + 1) c') (by omega)
        have hA' := (far_attr HF.out hX hg' HA.out (by omega)).other (g := w.heap.size + 1 + 1 + 1) (o := 1) (z := .slice ao' (k + 1) c') (by omega)
        have hB' := (far_attr HF.out hX hg' HBB.out (by omega)).other (g := w.heap.size + 1 + 1 + 1) (o := 1) (z := .slice ao' (k + 1) c') (by omega)
        have hF' := hf'.set (w.heap.size + 1 + 1 + 1) 1 (.slice ao' (k + 1) c') (by omega)
        rw [← hS.out] at hF'
        have hx' : Ext w W' := ((HX.out.trans hX).touch ((HF.out.ext hX).more (by omega)) hg')
        have hx' := hx'.setc (a := ⟨w.heap.size + 1 + 1 + 1, 1, none⟩) (v := .slice ao' (k + 1) c') (by dsimp only; omega)
        have P := Lib.hid (And.intro hO' (And.intro hR' (And.intro hF' (And.intro hA' (And.intro hB' hx')))))
        clear hO' hR' hF' hA' hB' hx' hX hf' hg' m0 m1 y0 y1 o0 o1 a0 a1 b0 b1 gu gv q1 q2 q3 q4
        go_wp2
        go_roundw
        case rel => exact ⟨k + 1, ao', c', by omega, by go_num, P.out.1, P.out.2.1, P.out.2.2.1, P.out.2.2.2.1, P.out.2.2.2.2.1, P.out.2.2.2.2.2⟩
        case measure => simp [intOf]; omega
    · obtain rfl : k = l.length := by omega
      obtain ⟨⟨r0, r1⟩, z0, z1⟩ := hR
      clear hF hx a0 a1 b0 b1
      go_wp2
      refine bodyPost_ret (v := .agg #[.int .i64 (mo s t), .slice ao l.length c]) (by simp [results, Try.results33, go_sem, r0, r1]) rfl ⟨_, rfl, ?_, ?_⟩
      · exact ((HF.out.set _ _ _ (by omega)).set _ _ _ (by omega)).more (by omega)
      · exact (HX.out.setc (by dsimp only; omega)).setc (by dsimp only; omega)

end Go.Proofs.Ytfadmcgaojnghaa
