/- Texts of this proof, part j: words, plain facts, contracts. -/
import Derived.Test.YtfffddhfagibpaaMSetRowf
import Derived.Test.YtfffddhfagibpaaMSetRowi
import Derived.Test.YtfffddhfagibpaaMSetRowb
import Derived.Test.YtfffddhfagibpaaMSetRowh
import Derived.Test.YtfffddhfagibpaaMSetRowe
import Derived.Deep.RegionLaw
import Derived.Deep.DeepCutAuto

namespace Go.Proofs.Ytfffddhfagibpaa
open Go.RowKit
set_option linter.unusedVariables false

theorem flatC_put {L : List (RowD × Value)} {j : Nat} (hj : j < L.length) (x : RowD × Value) : putL (flatC cellsR L) (j * 10) (rowL x.1 x.2) = flatC cellsR (L.set j x) := by
  have hlen := flatC_len cellsR_len L
  have hl : (rowL x.1 x.2).length = 10 := rfl
  refine List.ext_getElem? fun i => ?_
  by_cases hi : i < L.length * 10
  · obtain ⟨q, r, rfl, hr⟩ : ∃ q r, i = q * 10 + r ∧ r < 10 := ⟨i / 10, i % 10, by omega, by omega⟩
    have hq : q < L.length := by omega
    have hq' : q < (L.set j x).length := by rw [List.length_set]; exact hq
    rw [flatC_at cellsR_len hq' hr]
    by_cases e : q = j
    · subst e
      rw [putL_in _ _ _ r (by rw [hl]; exact hr) (by rw [hl, hlen]; omega), List.getElem_set_self]
      rfl
    · rw [putL_out _ _ _ _ (by rw [hl]; omega), flatC_at cellsR_len hq hr, List.getElem_set_ne (fun h => e h.symm)]
  · rw [List.getElem?_eq_none (by rw [putL_len, hlen]; omega), List.getElem?_eq_none (by rw [flatC_len cellsR_len, List.length_set]; omega)]
theorem OwnTab.put {lo g m k b n c j : Nat} {w : World} {vs : List Value} {P : List (List (RowD × Value))} {L : List (RowD × Value)} (h : OwnTab lo w g m vs P) (hk : vs[k]? = some (.slice (some ⟨b, 0, none⟩) n c)) (hP : P[k]? = some L) (hj : j < L.length) (x : RowD × Value) (hx : Fresh lo w x.2 x.1.l) :
    OwnTab lo (w.setCells b (j * 10) (rowL x.1 x.2)) g m vs (P.set k (L.set j x)) ∧ w.grownBy (w.setCells b (j * 10) (rowL x.1 x.2)) (some b) := by
  have f := h.row _ _ _ hk hP
  have hn : n = L.length := by
    obtain ⟨a, c', e⟩ := f.form
    simp only [Value.slice.injEq] at e
    exact e.2.1
  subst hn
  have hkp : k < P.length := (List.getElem?_eq_some_iff.1 hP).1
  obtain ⟨f1, t⟩ := ownsRow_stores (rowL x.1 x.2) (j * 10) w _ f
  rw [flatC_put hj] at f1
  have hd : ∀ (u : Value) (l : List Int), Fresh lo w u l → Fresh lo (w.setCells b (j * 10) (rowL x.1 x.2)) u l := fun u l hu => World.ownsRow.kept hu t (types_apart f hu (by decide))
  refine ⟨⟨World.ownsRow.kept h.out t (types_apart f h.out (by decide)), h.vl, by rw [List.length_set]; exact h.pl, fun i v M hv hM => ?_, h.apart, fun M hM y hy => ?_⟩, t⟩
  · by_cases e : i = k
    · subst e
      rw [List.getElem?_set_self hkp] at hM
      rw [hk] at hv
      cases hv; cases hM
      unfold FreshZ
      rw [List.length_set]
      exact f1
    · rw [List.getElem?_set_ne (fun h => e h.symm)] at hM
      exact World.ownsRow.kept (h.row i v M hv hM) t (h.apart i k v _ e hv hk)
  · rcases List.mem_or_eq_of_mem_set hM with hM | rfl
    · exact hd _ _ (h.dep M hM y hy)
    · rcases List.mem_or_eq_of_mem_set hy with hy | rfl
      · exact hd _ _ (h.dep L (List.mem_of_getElem? hP) y hy)
      · exact hd _ _ hx
/-- The run of a store of a whole row into such a list. -/
theorem FreshZ.store {lo lo' b n c j : Nat} {w : World} {L : List (RowD × Value)} {d : RowD} {z : Value} {l : List Int} (h : FreshZ lo w (.slice (some ⟨b, 0, none⟩) n c) L) (hj : j < L.length) (hz : Fresh lo' w z l) :
    Sem.run Try.prog (storeCells ⟨b, j * 10, none⟩ (rowL d z)) w = .ok () (w.setCells b (j * 10) (rowL d z)) := by
  have hn : n = L.length := by
    obtain ⟨a, c', e⟩ := h.form
    simp only [Value.slice.injEq] at e
    exact e.2.1
  subst hn
  have hc : ∀ q, q < 10 → ∃ v, w.cell? ⟨b, j * 10 + q, none⟩ = some v := fun q hq => by
    have h1 := h.cellAt (j * 10 + q) (by omega)
    rw [flatC_at cellsR_len hj hq] at h1
    exact ⟨_, h1.trans (List.getElem?_eq_getElem (by rw [cellsR_len]; exact hq))⟩
  obtain ⟨v0, s0⟩ := hc 0 (by omega)
  obtain ⟨v1, s1⟩ := hc 1 (by omega)
  obtain ⟨v2, s2⟩ := hc 2 (by omega)
  obtain ⟨v3, s3⟩ := hc 3 (by omega)
  obtain ⟨v4, s4⟩ := hc 4 (by omega)
  obtain ⟨v5, s5⟩ := hc 5 (by omega)
  obtain ⟨v6, s6⟩ := hc 6 (by omega)
  obtain ⟨v7, s7⟩ := hc 7 (by omega)
  obtain ⟨v8, s8⟩ := hc 8 (by omega)
  obtain ⟨v9, s9⟩ := hc 9 (by omega)
  rw [Nat.add_zero] at s0
  have z0 := h.frozenAt (j * 10)
  have z1 := h.frozenAt (j * 10 + 1)
  have z2 := h.frozenAt (j * 10 + 2)
  have z3 := h.frozenAt (j * 10 + 3)
  have z4 := h.frozenAt (j * 10 + 4)
  have z5 := h.frozenAt (j * 10 + 5)
  have z6 := h.frozenAt (j * 10 + 6)
  have z7 := h.frozenAt (j * 10 + 7)
  have z8 := h.frozenAt (j * 10 + 8)
  have z9 := h.frozenAt (j * 10 + 9)
  obtain ⟨az, kz, rfl⟩ := hz.form
  rw [setCells_row]
  unfold rowL
  go_simp
/-- What stands while a table of the call's own is written: the table, the box that holds it (made behind the table). -/
structure SetS (w wr : World) (g N : Nat) (n : Int) (m : Nat) (vs : List Value) (P : List (List (RowD × Value))) : Prop where
  tab : OwnTab (g + 1) wr g m vs P
  box : AttrAt wr N n (.slice (some ⟨g, 0, none⟩) m m)
  off : ∀ (k : Nat) (v : Value), vs[k]? = some v → v.ownBlock = none ∨ v.ownBlock ≠ some N
  ext : Ext w wr
  lo : N + 1 ≤ wr.heap.size
  gN : g < N
  wg : w.heap.size ≤ g
theorem SetS.on {w wr w' : World} {g N : Nat} {n : Int} {m : Nat} {vs : List Value} {P : List (List (RowD × Value))} (h : SetS w wr g N n m vs P) (e : Ext wr w') : SetS w w' g N n m vs P := ⟨h.tab.ext e, h.box.ext e, h.off, h.ext.trans e, Nat.le_trans h.lo e.size, h.gN, h.wg⟩
theorem nearZ {b o : Nat} {W W' : World} {v x : Value} (t : W.grownBy W' v.ownBlock) (hc : W.cell? ⟨b, o, none⟩ = some x) (hb : v.ownBlock = none ∨ v.ownBlock ≠ some b) : W'.cell? ⟨b, o, none⟩ = some x :=
  World.grownBy.cell t hc (fun e' => by
    rcases hb with h | h
    · rw [h] at e'; cases e'
    · exact h e'.symm)
theorem SetS.grow {w wr W W' : World} {g N : Nat} {n : Int} {m k : Nat} {vs : List Value} {P : List (List (RowD × Value))} {v v' : Value} {L : List (RowD × Value)} {x : RowD × Value} (h : SetS w wr g N n m vs P) (hk : vs[k]? = some v) (hP : P[k]? = some L) (e : Ext wr W)
    (t : W.grownBy W' v.ownBlock) (f : FreshZ (g + 1) W' v' (L ++ [x])) (loc : v'.ownBlock = v.ownBlock ∨ v'.ownBlock = some W.heap.size) (hx : Fresh (g + 1) W x.2 x.1.l) :
    SetS w (W'.setCell ⟨g, k, none⟩ v') g N n m (vs.set k v') (P.set k (L ++ [x])) := by
  have hz := h.tab.row k v L hk hP
  have hs := t.size
  have he := e.size
  have hlo := h.lo
  have hgN := h.gN
  have hwg := h.wg
  refine ⟨(h.tab.ext e).grow hk hP t f loc hx, ?_, fun i u hu => ?_, ?_, by simp only [World.size_setCell]; omega, hgN, hwg⟩
  · have h1 := h.box.ext e
    have h0 : AttrAt W' N n (.slice (some ⟨g, 0, none⟩) m m) := ⟨nearZ t h1.1 (h.off k v hk), nearZ t h1.2 (h.off k v hk)⟩
    exact h0.other (by omega)
  · by_cases ei : k = i
    · subst ei
      rw [List.getElem?_set_self (List.getElem?_eq_some_iff.1 hk).1] at hu
      cases hu
      rcases loc with a | a
      · rw [a]; exact h.off k v hk
      · exact .inr (fun e' => by rw [a] at e'; have := Option.some.inj e'; omega)
    · rw [List.getElem?_set_ne ei] at hu
      exact h.off i u hu
  · have h0 : Ext w W' := Below.grown (h.ext.trans e) t (h.ext.trans e).size (fun b hb => by
      have := (World.ownsRow.lt hz b hb).1
      omega)
    exact h0.setc (by dsimp only; omega)
theorem SetS.put {w wr : World} {g N : Nat} {n : Int} {m k b e c j : Nat} {vs : List Value} {P : List (List (RowD × Value))} {L : List (RowD × Value)} (h : SetS w wr g N n m vs P) (hk : vs[k]? = some (.slice (some ⟨b, 0, none⟩) e c)) (hP : P[k]? = some L) (hj : j < L.length) (x : RowD × Value) (hx : Fresh (g + 1) wr x.2 x.1.l) :
    SetS w (wr.setCells b (j * 10) (rowL x.1 x.2)) g N n m vs (P.set k (L.set j x)) := by
  obtain ⟨h1, t⟩ := h.tab.put hk hP hj x hx
  have hb := World.ownsRow.lt (h.tab.row _ _ _ hk hP) b rfl
  have ho : (Value.slice (some ⟨b, 0, none⟩) e c).ownBlock = none ∨ (Value.slice (some ⟨b, 0, none⟩) e c).ownBlock ≠ some N := h.off k _ hk
  have t' : wr.grownBy (wr.setCells b (j * 10) (rowL x.1 x.2)) (Value.slice (some ⟨b, 0, none⟩) e c).ownBlock := t
  refine ⟨h1, ⟨nearZ t' h.box.1 ho, nearZ t' h.box.2 ho⟩, h.off, Below.grown h.ext t h.ext.size (fun q hq => by
    have := Option.some.inj hq
    have := h.wg
    omega), Nat.le_trans h.lo t.size, h.gN, h.wg⟩
end Go.Proofs.Ytfffddhfagibpaa

namespace Go.Proofs.Ytfffddhfagibpaa
open Go.RowKit
set_option linter.unusedVariables false

theorem TabS.ext {w w' : World} {g0 i : Nat} {vs US : List Value} {LS : List (List Int)} {q : WinT} {XS : Nat → List Value} {k : Int} {T : List (List RowD)} (h : TabS w g0 vs US LS q XS k i T) (e : Ext w w') : TabS w' g0 vs US LS q XS k i T :=
  ⟨h.out.ext e, h.row.ext e, fun j a b => ⟨(h.box j a b).1.ext e, (h.box j a b).2⟩, h.new, h.old⟩

end Go.Proofs.Ytfffddhfagibpaa

namespace Go.Proofs.Ytfffddhfagibpaa
open Go.RowKit
set_option linter.unusedVariables false

theorem ChgB.of_ext {P : Nat → Prop} {w w' : World} (e : Ext w w') : ChgB P w w' := ⟨e.os, e.tape, e.output, e.size, fun b hb _ => Below.block e b hb⟩
/-- Behind the marks of a table in windows. -/
def MarkedW (P : Nat → Prop) (g0 : Nat) (vs US : List Value) (q : WinT) (T : List (List RowD)) (k : Int) (w : World) (e : Ending) (w' : World) : Prop := e = .returned (.int .i64 (k + (weighs T).sum)) ∧ (∃ LT XT, TabS w' g0 vs US LT q XT k T.length T) ∧ ChgB P w w'
set_option maxHeartbeats 1000000 in
theorem markTableW_any (P : Nat → Prop) (g0 cap : Nat) (n : Int) (vs US : List Value) (LS : List (List Int)) (q : WinT) (XS : Nat → List Value) (T : List (List RowD)) (k : Int) (w : World) (hf : TabF P g0 vs US q T) (hs : TabS w g0 vs US LS q XS k 0 T) (h0 : 0 ≤ k) (hk : k ≤ 1073741824) (h1 : bulkT T ≤ 10995116277) :
    Calls Try.prog 43 #[.agg #[.int .i64 n, .slice (some ⟨g0, 0, none⟩) T.length cap], .int .i64 k] w (MarkedW P g0 vs US q T k w) := by
  have hq0 : 0 ≤ k + ((weighs T).sum : Int) := by omega
  have xb := Ext.alloc1 w (.cells #[.int .i64 n, .slice (some ⟨g0, 0, none⟩) T.length cap] 67)
  have HX := Lib.hid xb
  have HS := Lib.hid (hs.ext xb)
  have HF := Lib.hid hf
  have H1 := Lib.hid h1
  clear hs hf h1 xb
  go_enter Try.func43, Try.ntmps43
  go_wp2_with fail
  refine (markTabW_any P g0 cap vs US LS q XS T _ _ HF.out HS.out h0 hk H1.out).mono ?_
  rintro e w1 ⟨rfl, t1, c1⟩
  have T1 := Lib.hid t1
  have C1 := Lib.hid c1
  clear t1 c1
  go_wp2
  go_ret
  exact ⟨rfl, T1.out, (ChgB.of_ext HX.out).trans C1.out⟩
set_option maxHeartbeats 1000000 in
theorem heldTableW_yes (g0 cap : Nat) (n : Int) (q : WinT) (T : List (List RowD)) (k : Int) (w : World) (hx : HeldT w g0 q k T) (h0 : 0 ≤ k) (hk : k ≤ 1073741824) (h1 : bulkT T ≤ 10995116277) :
    Calls Try.prog 45 #[.agg #[.int .i64 n, .slice (some ⟨g0, 0, none⟩) T.length cap], .int .i64 k] w (IntExt (k + (weighs T).sum) w) := by
  have hq0 : 0 ≤ k + ((weighs T).sum : Int) := by omega
  have xb := Ext.alloc1 w (.cells #[.int .i64 n, .slice (some ⟨g0, 0, none⟩) T.length cap] 67)
  have HX := Lib.hid xb
  have HS := Lib.hid (hx.ext xb)
  have H1 := Lib.hid h1
  clear hx h1 xb
  go_enter Try.func45, Try.ntmps45
  go_wp2_with fail
  refine (heldTabW_yes g0 cap q T _ _ HS.out h0 hk H1.out).mono ?_
  rintro e w1 ⟨rfl, x1⟩
  have X1 := Lib.hid (HX.out.trans x1)
  obtain ⟨r, hr⟩ : ∃ r, r = k + ((weighs T).sum : Int) := ⟨_, rfl⟩
  rw [← hr] at hq0 ⊢
  have HR := Lib.hid hr
  clear x1 hr
  go_wp2
  go_ret
  exact ⟨by rw [HR.out]; first | done | rfl, X1.out⟩
end Go.Proofs.Ytfffddhfagibpaa

namespace Go.Proofs.Ytfffddhfagibpaa
open Go.RowKit
set_option linter.unusedVariables false

/-- v is a slice of rows without room. -/
def FullL (w : World) (v : Value) (L : List (RowD × Value)) : Prop := ∃ b, v = .slice (some b) L.length L.length ∧ ∀ j u, (flatC cellsR L)[j]? = some u → w.cell? (b.add j) = some u
theorem FullL.ext {w w' : World} {v : Value} {L : List (RowD × Value)} (h : FullL w v L) (e : Ext w w') : FullL w' v L := by
  obtain ⟨b, h1, h2⟩ := h
  exact ⟨b, h1, fun j u hj => e.cell (h2 j u hj)⟩
/-- append(s, r), s of the call's own or full, as a step of a region that draws its order. -/
theorem step_pushRowX {ops : Array Oper} {o : Oper} {a : Act} {w : World} {K : Act → World → Prop} {Q : Exit → Act → World → Prop} {E : Prop} (hgd : o.guard = none) (s x : Operand)
    (ho : o.op = .call { callee := .builtin .append, args := #[s, x], argTypes := #[127, 127] })
    (B : Nat) (v : Value) (L : List (RowD × Value)) (r : RowD) (ya : Option Addr) (yn yc : Nat) (hs : a.eval s = v) (hf : FreshZ B w v L ∨ FullL w v L) (gb : Nat) (c : Nat) (hx : a.eval x = .slice (some ⟨gb, 0, none⟩) 1 c)
    (hr : RowIn w gb 0 r (.slice ya yn yc)) (m : Nat) (hm : L.length = m) (hl : m ≤ 1048576) (hB : B ≤ w.heap.size)
    (h : ∀ ao cap w' blk, FreshZ B w' (.slice ao (m + 1) cap) (L ++ [(r, .slice ya yn yc)]) → w.grownBy w' blk → (blk = none ∨ (blk = v.ownBlock ∧ FreshZ B w v L)) → K (a.put o.dst (.slice ao (m + 1) cap)) w') : if Region.wanted o (yielded ops a.tmps) = true then Oper.wp Try.prog o a w K Q else E := by
  rcases hf with hf | ⟨b, hv, hold⟩
  · exact step_pushRow hgd s x ho B v L r ya yn yc hs hf gb c hx hr m hm hl hB (fun ao cap w' h1 h2 h3 => h ao cap w' _ h1 h2 (.inr ⟨rfl, hf⟩))
  · subst hm
    exact step_pushRowG hgd s x ho b L r ya yn yc _ rfl (hs.trans hv) hold gb c hx hr hl (fun ao cap w' h1 h2 => h ao cap w' none (ownsRow_more h1 hB) h2 (.inl rfl))
theorem ChgB.cell {P : Nat → Prop} {w w' : World} {a : Addr} {v : Value} (h : ChgB P w w') (hc : w.cell? a = some v) (hp : ¬ P a.block) : w'.cell? a = some v :=
  (World.cell?_of_block (h.block _ (World.block_lt_of_cell? w _ hc) hp)).trans hc
/-- What stands while list p of the table at g grows. -/
structure PutS (w wr : World) (g p : Nat) (n : Int) (vs US Z : List Value) (LS : List (List Int)) (L0 : List (RowD × Value)) (v : Value) (j : Nat) : Prop where
  out : BoxV wr g (vs.set p v)
  row : Rows_ 0 wr (US ++ Z) (LS ++ List.replicate j (noneL n))
  zl : Z.length = j
  zf : ∀ u ∈ Z, Fresh w.heap.size wr u (noneL n)
  lst : FreshZ w.heap.size wr v (L0 ++ Z.map (fun u => (emptyR n, u))) ∨ (j = 0 ∧ FullL wr v L0 ∧ vs[p]? = some v)
  chg : ChgB (fun b => b = g) w wr
  usg : ∀ (i : Nat) (u : Value), US[i]? = some u → u.ownBlock = none ∨ u.ownBlock ≠ some g
  gw : g < w.heap.size
theorem PutS.either {w wr : World} {g p : Nat} {n : Int} {vs US Z : List Value} {LS : List (List Int)} {L0 : List (RowD × Value)} {v : Value} {j : Nat} (h : PutS w wr g p n vs US Z LS L0 v j) : FreshZ w.heap.size wr v (L0 ++ Z.map (fun u => (emptyR n, u))) ∨ FullL wr v (L0 ++ Z.map (fun u => (emptyR n, u))) := by
  rcases h.lst with a | ⟨a, b, _⟩
  · exact .inl a
  · have hz : Z = [] := List.eq_nil_of_length_eq_zero (by rw [h.zl, a])
    subst hz
    simp only [List.map_nil, List.append_nil]
    exact .inr b
theorem PutS.grow {w wr W W' : World} {g p : Nat} {n : Int} {vs US Z : List Value} {LS : List (List Int)} {L0 : List (RowD × Value)} {v v' z : Value} {j : Nat} {blk : Option Nat} (h : PutS w wr g p n vs US Z LS L0 v j) (hp : p < vs.length) (e : Ext wr W) (hz : Fresh wr.heap.size W z (noneL n))
    (f : FreshZ w.heap.size W' v' ((L0 ++ Z.map (fun u => (emptyR n, u))) ++ [(emptyR n, z)])) (t : W.grownBy W' blk) (hb : blk = none ∨ (blk = v.ownBlock ∧ FreshZ w.heap.size W v (L0 ++ Z.map (fun u => (emptyR n, u))))) :
    PutS w (W'.setCell ⟨g, p, none⟩ v') g p n vs US (Z ++ [z]) LS L0 v' (j + 1) := by
  have hgw := h.gw
  have hws := h.chg.size
  have hes := e.size
  have hblk : ∀ b, blk = some b → w.heap.size ≤ b := fun b eb => by
    rcases hb with a | ⟨a, f0⟩
    · rw [a] at eb; cases eb
    · exact (World.ownsRow.lt f0 b (a.symm.trans eb)).1
  have hdep : ∀ (u : Value) (l : List Int) (B : Nat), Fresh B W u l → u.ownBlock = none ∨ u.ownBlock ≠ blk := fun u l B hu => by
    rcases hb with a | ⟨a, f0⟩
    · rw [a]
      cases hu' : u.ownBlock with
      | none => exact .inl rfl
      | some _ => exact .inr (by simp)
    · rw [a]; exact types_apart f0 hu (by decide)
  have hz0 : Fresh w.heap.size W z (noneL n) := hz.more hws
  have r1 : Rows_ 0 W (US ++ (Z ++ [z])) (LS ++ List.replicate (j + 1) (noneL n)) := by
    rw [List.replicate_succ', ← List.append_assoc, ← List.append_assoc]
    exact h.row.snoc e hz (Nat.zero_le _)
  have hug : ∀ (i : Nat) (u : Value), (US ++ (Z ++ [z]))[i]? = some u → u.ownBlock = none ∨ u.ownBlock ≠ some g := fun i u hu => by
    by_cases hi : i < US.length
    · rw [List.getElem?_append_left hi] at hu
      exact h.usg i u hu
    · rw [List.getElem?_append_right (by omega)] at hu
      have hm := List.mem_of_getElem? hu
      have hfu : Fresh w.heap.size W u (noneL n) := by
        rcases List.mem_append.1 hm with a | a
        · exact (h.zf u a).ext e
        · rw [List.mem_singleton] at a; rw [a]; exact hz0
      cases hb' : u.ownBlock with
      | none => exact .inl rfl
      | some b => exact .inr (fun e' => by have := (World.ownsRow.lt hfu b hb').1; have := Option.some.inj e'; omega)
  have r2 := (r1.touch t (fun i u hu => by
    have hi := (List.getElem?_eq_some_iff.1 hu).1
    exact hdep u _ 0 (r1.row i u _ hu (List.getElem?_eq_getElem (by rw [← r1.len]; exact hi))))).touch (grownBy_set W' g p v') hug
  refine ⟨?_, r2, by rw [List.length_append, h.zl]; rfl, fun u hu => ?_, .inl ?_, ?_, h.usg, hgw⟩
  · have h1 := ((h.out.ext e).same (t.block g (Nat.lt_of_lt_of_le (Nat.lt_of_lt_of_le hgw hws) hes) (fun e' => by have := hblk g e'.symm; omega)) t.size).set p v' (by rw [List.length_set]; exact hp)
    rw [List.set_set] at h1
    exact h1
  · have hfu : Fresh w.heap.size W u (noneL n) := by
      rcases List.mem_append.1 hu with a | a
      · exact (h.zf u a).ext e
      · rw [List.mem_singleton] at a; rw [a]; exact hz0
    exact (fresh_kept hfu t (hdep u _ _ hfu)).set g p v' hgw
  · rw [List.map_append, List.map_cons, List.map_nil, ← List.append_assoc]
    refine World.ownsRow.kept f (grownBy_set W' g p v') ?_
    cases hb' : v'.ownBlock with
    | none => exact .inl rfl
    | some b => exact .inr (fun e' => by have := (World.ownsRow.lt f b hb').1; have := Option.some.inj e'; omega)
  · have c1 : ChgB (fun b => b = g) w W := h.chg.trans (ChgB.of_ext e)
    have c2 : ChgB (fun b => b = g) W' (W'.setCell ⟨g, p, none⟩ v') := ChgB.of_grown (grownBy_set W' g p v') (fun b eb => (Option.some.inj eb).symm)
    refine ⟨c2.os.trans (t.os.trans c1.os), c2.tape.trans (t.tape.trans c1.tape), c2.output.trans (t.output.trans c1.output), Nat.le_trans c1.size (Nat.le_trans t.size c2.size), fun b hb hn => ?_⟩
    have h1 := c1.block b hb hn
    have h2 := t.block b (Nat.lt_of_lt_of_le hb c1.size) (fun e' => by have := hblk b e'.symm; omega)
    have h3 := c2.block b (Nat.lt_of_lt_of_le hb (Nat.le_trans c1.size t.size)) hn
    exact h3.trans (h2.trans h1)
/-- Where the i-th list of the new table stood: m lists ahead, len0 of the list itself (the q-th of len0 + j put anew), N in all. -/
def pkAt (m len0 j q N i : Nat) : Nat := if i < m then i else if i < m + (len0 + j) then (if i = m + q then N + j else if i < m + len0 then i else N + (i - m - len0)) else i - (len0 + j) + len0
theorem pkAt_inj {m len0 j q N : Nat} (hm : m + len0 ≤ N) (hq : q < len0 + j) (a b : Nat) (ha : a < N + j) (hb : b < N + j) (h : pkAt m len0 j q N a = pkAt m len0 j q N b) : a = b := by
  unfold pkAt at h
  repeat' split at h
  all_goals omega
/-- The lists of the rows, list p's with those that were made and the last in place q. -/
theorem rows_put {w : World} {US Z : List Value} {LS : List (List Int)} {n : Int} {z : Value} {r : RowD} {T0 : List RowD} {m len0 j q : Nat} (h : Rows_ 0 w (US ++ (Z ++ [z])) (LS ++ (List.replicate j (noneL n) ++ [r.l]))) (hZ : Z.length = j) (hul : LS.length = US.length) (hm : m + len0 ≤ US.length) (hT : T0.length = len0) (hLs : ∀ i (hi : i < T0.length), LS[m + i]? = some T0[i].l) (hq : q < len0 + j) :
    Rows_ 0 w (spl US (((US.drop m).take len0 ++ Z).set q z) m len0) (spl LS ((((T0 ++ List.replicate j (emptyR n)).set q r)).map fun r => r.l) m len0) := by
  have hus : (((US.drop m).take len0 ++ Z).set q z).length = len0 + j := by rw [List.length_set, List.length_append, List.length_take, List.length_drop, hZ]; omega
  have hls : ((((T0 ++ List.replicate j (emptyR n)).set q r)).map fun r => r.l).length = len0 + j := by rw [List.length_map, List.length_set, List.length_append, List.length_replicate, hT]
  have hl1 := spl_len (Y := ((US.drop m).take len0 ++ Z).set q z) hm
  have hl2 := spl_len (X := LS) (Y := (((T0 ++ List.replicate j (emptyR n)).set q r)).map fun r => r.l) (m := m) (len := len0) (by omega)
  rw [hus] at hl1
  rw [hls] at hl2
  refine h.pick (by omega) (pkAt m len0 j q US.length) (fun i hi => ?_) (fun a b ha hb e => pkAt_inj hm hq a b (by omega) (by omega) e)
  unfold pkAt
  by_cases h1 : i < m
  · rw [if_pos h1, spl_low (by omega) h1, spl_low (by omega) h1, List.getElem?_append_left (by omega), List.getElem?_append_left (by omega)]
    exact ⟨rfl, rfl⟩
  · rw [if_neg h1]
    obtain ⟨t, rfl⟩ := Nat.le.dest (Nat.le_of_not_lt h1)
    by_cases h2 : t < len0 + j
    · rw [if_pos (by omega), spl_in (by omega) (by omega), spl_in (by omega) (by omega), List.getElem?_map]
      by_cases h3 : t = q
      · subst h3
        rw [if_pos rfl, List.getElem?_set_self (by rw [List.length_append, List.length_take, List.length_drop, hZ]; omega), List.getElem?_set_self (by rw [List.length_append, List.length_replicate, hT]; omega)]
        refine ⟨?_, ?_⟩
        · rw [List.getElem?_append_right (by omega), List.getElem?_append_right (by omega), hZ, show US.length + j - US.length - j = 0 by omega]; rfl
        · rw [List.getElem?_append_right (by omega), List.getElem?_append_right (by rw [List.length_replicate]; omega), List.length_replicate, hul, show US.length + j - US.length - j = 0 by omega]; rfl
      · rw [if_neg (by omega), List.getElem?_set_ne (fun e => h3 e.symm), List.getElem?_set_ne (fun e => h3 e.symm)]
        by_cases h4 : t < len0
        · rw [if_pos (by omega), List.getElem?_append_left (by rw [List.length_take, List.length_drop]; omega), List.getElem?_take_of_lt h4, List.getElem?_drop, List.getElem?_append_left (by omega), List.getElem?_append_left (by omega), List.getElem?_append_left (by omega), hLs t (by omega), List.getElem?_eq_getElem (show t < T0.length by omega)]
          exact ⟨rfl, rfl⟩
        · rw [if_neg (by omega), List.getElem?_append_right (by rw [List.length_take, List.length_drop]; omega), List.length_take, List.length_drop, Nat.min_eq_left (by omega), show m + t - m - len0 = t - len0 by omega, List.getElem?_append_right (by omega), List.getElem?_append_left (by omega), show US.length + (t - len0) - US.length = t - len0 by omega, List.getElem?_append_right (by omega), hT, List.getElem?_append_right (by omega), List.getElem?_append_left (by rw [List.length_replicate]; omega), hul, show US.length + (t - len0) - US.length = t - len0 by omega, List.getElem?_replicate, List.getElem?_replicate, if_pos (by omega), if_pos (by omega)]
          exact ⟨rfl, rfl⟩
    · obtain ⟨e, rfl⟩ := Nat.le.dest (Nat.le_of_not_lt h2)
      have e1 := spl_high (X := US) (Y := ((US.drop m).take len0 ++ Z).set q z) (m := m) (len := len0) (i := e) (by omega)
      have e2 := spl_high (X := LS) (Y := (((T0 ++ List.replicate j (emptyR n)).set q r)).map fun r => r.l) (m := m) (len := len0) (i := e) (by omega)
      rw [hus] at e1
      rw [hls] at e2
      have ea : m + (len0 + j + e) = m + (len0 + j) + e := by omega
      have eb : m + (len0 + j + e) - (len0 + j) + len0 = m + len0 + e := by omega
      rw [if_neg (by omega), eb, ea, e1, e2, List.getElem?_append_left (by omega), List.getElem?_append_left (by omega)]
      exact ⟨rfl, rfl⟩
end Go.Proofs.Ytfffddhfagibpaa

namespace Go.Proofs.Ytfffddhfagibpaa
open Go.RowKit
set_option linter.unusedVariables false

/-- T, with j empty rows behind list p. -/
def padT (n : Int) (T : List (List RowD)) (p j : Nat) : List (List RowD) := T.set p (((T[p]?).getD []) ++ List.replicate j (emptyR n))
/-- T, row q of list p being r; missing rows are empty. -/
def setT (n : Int) (T : List (List RowD)) (p q : Nat) (r : RowD) : List (List RowD) := T.set p ((((T[p]?).getD []) ++ List.replicate (q + 1 - ((T[p]?).getD []).length) (emptyR n)).set q r)
theorem padT_zero (n : Int) (T : List (List RowD)) (p : Nat) : padT n T p 0 = T := by
  unfold padT
  refine List.ext_getElem? fun i => ?_
  by_cases e : p = i
  · subst e
    by_cases hp : p < T.length
    · rw [List.getElem?_set_self hp, List.getElem?_eq_getElem hp]
      simp
    · rw [List.getElem?_eq_none (by rw [List.length_set]; omega), List.getElem?_eq_none (by omega)]
  · rw [List.getElem?_set_ne e]
theorem padT_len (n : Int) (T : List (List RowD)) (p j : Nat) : (padT n T p j).length = T.length := by simp [padT]
theorem padT_at {n : Int} {T : List (List RowD)} {p : Nat} (hp : p < T.length) (j : Nat) : (padT n T p j)[p]? = some (T[p] ++ List.replicate j (emptyR n)) := by
  unfold padT
  rw [List.getElem?_set_self hp, List.getElem?_eq_getElem hp, Option.getD_some]
theorem padT_next {n : Int} {T : List (List RowD)} {p : Nat} (hp : p < T.length) (j : Nat) : (padT n T p j).set p (((padT n T p j)[p]?.getD []) ++ [emptyR n]) = padT n T p (j + 1) := by
  rw [padT_at hp, Option.getD_some]
  unfold padT
  rw [List.set_set, List.getElem?_eq_getElem hp, Option.getD_some, List.append_assoc, ← List.replicate_succ']
theorem setT_of {n : Int} {T : List (List RowD)} {p q j : Nat} (hp : p < T.length) (hj : j = q + 1 - T[p].length) (r : RowD) : (padT n T p j).set p ((T[p] ++ List.replicate j (emptyR n)).set q r) = setT n T p q r := by
  unfold padT setT
  rw [List.set_set, List.getElem?_eq_getElem hp, Option.getD_some, hj]
theorem setT_len (n : Int) (T : List (List RowD)) (p q : Nat) (r : RowD) : (setT n T p q r).length = T.length := by simp [setT]
theorem rowsP_at {P : List (List (RowD × Value))} {k : Nat} {L : List (RowD × Value)} (h : P[k]? = some L) : (rowsP P)[k]? = some (L.map Prod.fst) := by
  unfold rowsP
  rw [List.getElem?_map, h]
  rfl
theorem rowsP_put {P : List (List (RowD × Value))} {k j : Nat} {L : List (RowD × Value)} {x : RowD × Value} (h : P[k]? = some L) : rowsP (P.set k (L.set j x)) = (rowsP P).set k ((L.map Prod.fst).set j x.1) := by
  unfold rowsP
  rw [List.map_set, List.map_set]
def listLen : Option Value → Nat
  | some (.slice _ n _) => n
  | _ => 0
theorem set_boxes (w : World) (n : Int) (u : Value) (r : RowD) (z : Value) (T T' T2 : TypeId) :
    let W := ((w.alloc (.cells #[.int .i64 n, u] T)).alloc (.cells #[.int .i64 r.b, .int .i64 r.v, .int .i64 r.st, .int .i64 r.k, .int .i64 r.i, .int .i64 r.f, .int .i64 r.t, .int .i64 r.a, .int .i64 r.s, z] T')).alloc (.cells #[.int .i64 0, .slice none 0 0] T2)
    Ext w W ∧ AttrAt W w.heap.size n u ∧ RowIn W (w.heap.size + 1) 0 r z ∧ OpenAt W (w.heap.size + 1 + 1) 0 (.slice none 0 0) ∧ W.heap.size = w.heap.size + 3 := by
  refine ⟨((Ext.alloc1 _ _).alloc _).alloc _, ⟨?_, ?_⟩, ?_, ⟨⟨?_, ?_⟩, ?_, ?_⟩, by simp⟩
  · go_simp
  · go_simp
  · have h := rowIn_alloc (w.alloc (.cells #[.int .i64 n, u] T)) T' r z
    rw [World.size_alloc] at h
    exact h.ext (Ext.alloc1 _ _)
  · go_simp
  · go_simp
  · go_simp
  · go_simp

/-- The model's copied row, its cells not told one by one. -/
theorem l4OwnRow_veil (r : RowD) (u : Value) (w : World) (hv : Ints w u r.l) (hl : r.l.length ≤ 1048576) :
    Calls Try.prog 92 #[.agg #[.int .i64 r.b, .int .i64 r.v, .int .i64 r.st, .int .i64 r.k, .int .i64 r.i, .int .i64 r.f, .int .i64 r.t, .int .i64 r.a, .int .i64 r.s, u]] w (fun e w' => ∃ (cs : Array Value) (z : Value), e = .returned (.agg cs) ∧ cs.toList = rowL r z ∧ cs.size = 10 ∧ Fresh w.heap.size w' z r.l ∧ Ext w w') :=
  (l4OwnRow_any r u w hv hl).mono (by
    rintro e w' ⟨z, rfl, f, x⟩
    exact ⟨_, z, rfl, rfl, rfl, f, x⟩)
set_option maxHeartbeats 8000000 in
set_option maxRecDepth 100000 in
theorem l4Set_any (n : Int) (u z : Value) (T : List (List RowD)) (p q : Nat) (r : RowD) (w : World) (hu : Rowzz w u T) (hz : Ints w z r.l) (hg : goodTab n T = true) (hp : p < T.length) (hq : q ≤ 5) (hrl : r.l.length ≤ 1048576) :
    Calls Try.prog 67 #[.agg #[.int .i64 n, u], .int .i64 p, .int .i64 ((q : Int) + 1), .agg #[.int .i64 r.b, .int .i64 r.v, .int .i64 r.st, .int .i64 r.k, .int .i64 r.i, .int .i64 r.f, .int .i64 r.t, .int .i64 r.a, .int .i64 r.s, z]] w (NewOwnT n (setT n T p q r) w) := by
  obtain ⟨hgrp, hlen, hrows⟩ := goodTab_of hg
  have hl6 : T[p].length ≤ 6 := (hrows _ (List.getElem_mem hp)).1
  have hm5 : T.length ≤ 5 := by rcases isGrp_of hgrp with h | h <;> omega
  obtain ⟨au, cu, rfl, _⟩ := id hu
  obtain ⟨az, cz, rfl, _⟩ := id hz
  obtain ⟨hb1, hb2, hb3, hb4, hb5⟩ := set_boxes w n (.slice au T.length cu) r (.slice az r.l.length cz) 67 73 67
  obtain ⟨wb, hwb⟩ : ∃ wb, wb = ((w.alloc (.cells #[.int .i64 n, .slice au T.length cu] 67)).alloc (.cells #[.int .i64 r.b, .int .i64 r.v, .int .i64 r.st, .int .i64 r.k, .int .i64 r.i, .int .i64 r.f, .int .i64 r.t, .int .i64 r.a, .int .i64 r.s, .slice az r.l.length cz] 73)).alloc (.cells #[.int .i64 0, .slice none 0 0] 67) := ⟨_, rfl⟩
  rw [← hwb] at hb1 hb2 hb3 hb4 hb5
  obtain ⟨c0, c1⟩ := id hb2
  have HX := Lib.hid hb1
  have HT := Lib.hid hb2
  have HRW := Lib.hid hb3
  have HRS := Lib.hid hb4
  have HSZ := Lib.hid hb5
  have HU := Lib.hid (hu.ext hb1)
  have HZ := Lib.hid (hz.ext hb1)
  have HWB := Lib.hid hwb
  have HG := Lib.hid hg
  have HGR := Lib.hid hgrp
  obtain ⟨len0, hlen0⟩ : ∃ l, l = T[p].length := ⟨_, rfl⟩
  rw [← hlen0] at hl6
  have HL0 := Lib.hid hlen0
  rw [hwb] at c0 c1
  clear hb1 hb2 hb3 hb4 hb5 hu hz hwb hg hgrp hrows hlen0 hlen
  go_enter Try.func67, Try.ntmps67
  go_wp2_with fail
  rw [← HWB.out]
  refine (l4Own_any n _ T _ HU.out HG.out).mono ?_
  rintro e w1 ⟨g, vs0, P0, rfl, ht, hp0, hgl, x1⟩
  rw [HSZ.out] at hgl
  have hgl1 : g < w1.heap.size := by
    have h := World.ownsRow.lt ht.out g rfl
    exact h.2
  have x2 := Ext.alloc1 w1 (.cells #[.int .i64 n, .slice (some ⟨g, 0, none⟩) T.length T.length] 67)
  have hs : SetS wb (w1.alloc (.cells #[.int .i64 n, .slice (some ⟨g, 0, none⟩) T.length T.length] 67)) g w1.heap.size n T.length vs0 P0 := by
    refine ⟨ht.ext x2, attrAt_new w1 67 n (.slice (some ⟨g, 0, none⟩) T.length T.length), fun k v hv => ?_, x1.trans x2, by rw [World.size_alloc]; exact Nat.le_refl _, hgl1, by rw [HSZ.out]; exact hgl⟩
    have hk : k < P0.length := by have := (List.getElem?_eq_some_iff.1 hv).1; have := ht.vl; have := ht.pl; omega
    cases hb : v.ownBlock with
    | none => exact .inl rfl
    | some b => exact .inr (fun e => by have := (World.ownsRow.lt (ht.row k v _ hv (List.getElem?_eq_getElem hk)) b hb).2; have := Option.some.inj e; omega)
  have HS := Lib.hid hs
  have HP : Hid (rowsP P0 = padT n T p 0) := Lib.hid (by rw [padT_zero]; exact hp0)
  have hgN : g ≠ w1.heap.size := Nat.ne_of_lt hgl1
  clear ht hp0 x1 x2 hs c0 c1 hgl1
  go_wp2
  go_loopw [] (fun wr => ∃ (j : Nat) (vs : List Value) (P : List (List (RowD × Value))), Hid (SetS wb wr g w1.heap.size n T.length vs P) ∧ Hid (rowsP P = padT n T p j) ∧ (j = 0 ∨ len0 + j ≤ q + 1)) (fun wr => q + 1 - listLen (wr.cell? ⟨g, p, none⟩))
  case atStart => exact ⟨0, vs0, P0, HS, HP, .inl rfl⟩
  case round =>
    clear HS HP
    obtain ⟨j, vs, P, HS, HP, hj⟩ := hrel
    have HJ := Lib.hid hj
    obtain ⟨v, L, hv, hL, q0, q1, fz⟩ := HS.out.tab.at hp
    obtain ⟨av, cv, rfl⟩ := fz.form
    have hLm : L.map Prod.fst = T[p] ++ List.replicate j (emptyR n) := by
      have h := rowsP_at hL
      rw [HP.out, padT_at hp] at h
      exact (Option.some.inj h).symm
    have hLl : L.length = len0 + j := by
      have h := congrArg List.length hLm
      rw [List.length_map, List.length_append, List.length_replicate, ← HL0.out] at h
      exact h
    obtain ⟨a0, a1⟩ := HS.out.box
    have HV := Lib.hid hv
    have HL := Lib.hid hL
    have HLM := Lib.hid hLm
    have FZ := Lib.hid fz
    rw [hLl] at q0
    have HLL := Lib.hid hLl
    have Q0 := Lib.hid q0
    have hq6 : (q : Int) + 1 ≤ 6 := by omega
    have b6 : len0 + j ≤ 6 := by omega
    have lo7 : g + 1 ≤ wr.heap.size := by have := HS.out.lo; have := HS.out.gN; omega
    have hwg : w.heap.size + 3 ≤ g := by have := HS.out.wg; have := HSZ.out; omega
    obtain ⟨t0, t1⟩ := HT.out.ext HS.out.ext
    rw [hLl] at fz
    have F7 := Lib.hid fz
    have HV' : Hid (vs[p]? = some (.slice av (len0 + j) cv)) := Lib.hid (by rw [← hLl]; exact hv)
    clear hv hL hLm hLl HV fz
    by_cases hlt : len0 + j < q + 1
    · have HLT := Lib.hid hlt
      go_wp2
      have L73 : Hid (g < wr.heap.size) := Lib.hid (by omega)
      have L74 : Hid (w1.heap.size < wr.heap.size) := Lib.hid (by have := HS.out.lo; omega)
      have L75 : Hid (w.heap.size < wr.heap.size) := Lib.hid (by omega)
      go_region_law (first | (refine step_pushRow rfl (.tmp 27) (.tmp 32) rfl (g + 1) (.slice av (len0 + j) cv) L (emptyR n) a9 (noneL n).length c9 rfl (FreshZ.ext F7.out (Ext.alloc x8 _)) w8.heap.size 1 rfl (rowIn_alloc w8 _ (emptyR n) _) (len0 + j) HLL.out (by omega) (by have := x8.size; rw [World.size_alloc]; omega) ?_; intro ao' c' W' hf' hg' hloc'; have m0 := nearZ hg' ((Ext.alloc x8 _).cell a0) (HS.out.off p _ HV'.out); have m1 := nearZ hg' ((Ext.alloc x8 _).cell a1) (HS.out.off p _ HV'.out); have m2 := farZ F7.out (Ext.alloc x8 _) hg' q0 (by omega); have m3 := farZ_free F7.out (Ext.alloc x8 _) hg' q0 (HS.out.tab.out.frozenAt p) (by omega); have m4 := farZ F7.out (Ext.alloc x8 _) hg' t0 (by omega)) | (go_simp; go_at_call 89; refine (l3None_any n _ HGR.out).mono ?_; rintro e w8 ⟨y9, rfl, f9, x8'⟩; obtain ⟨a9, c9, rfl⟩ := f9.form; have x8 : Ext wr w8 := (Ext.drew (Ext.refl _)).trans x8'; have b0 := x8.cell a0; have b1 := x8.cell a1; have b2 := x8.cell q0; have b3 := x8.cell t0; have l3 : g < w8.heap.size := Nat.lt_of_lt_of_le L73.out x8.size; have l4 : w1.heap.size < w8.heap.size := Nat.lt_of_lt_of_le L74.out x8.size; have l5 : g ≠ w8.heap.size := Nat.ne_of_lt l3; have l6 : w1.heap.size ≠ w8.heap.size := Nat.ne_of_lt l4; have l7 : w.heap.size < w8.heap.size := Nat.lt_of_lt_of_le L75.out x8.size; have l8 : w.heap.size ≠ w8.heap.size := Nat.ne_of_lt l7))
      all_goals
        have F9 : Fresh (g + 1) (w8.alloc (.cells #[.int .i64 0, .int .i64 0, .int .i64 0, .int .i64 0, .int .i64 0, .int .i64 0, .int .i64 0, .int .i64 0, .int .i64 0, .slice a9 (noneL n).length c9] 73)) (.slice a9 (noneL n).length c9) (noneL n) := (f9.more (by simp; omega)).ext (Ext.alloc1 _ _)
        have hN := Lib.hid (HS.out.grow (x := (emptyR n, .slice a9 (noneL n).length c9)) HV'.out HL.out (Ext.alloc x8 _) hg' hf' hloc' F9)
        have hPN : Hid (rowsP (P.set p (L ++ [(emptyR n, .slice a9 (noneL n).length c9)])) = padT n T p (j + 1)) := Lib.hid (by rw [rowsP_grow HL.out, HP.out, padT_next hp])
        have hcN : Hid ((W'.setCell ⟨g, p, none⟩ (.slice ao' (len0 + j + 1) c')).cell? ⟨g, p, none⟩ = some (.slice ao' (len0 + j + 1) c')) := Lib.hid (by
          have h1 := hN.out.tab.out.cellAt p (by omega)
          rw [h1, List.getElem?_set_self (by rw [HS.out.tab.vl]; exact hp)])
        clear F9 f9 x8 x8' hg' hf' hloc' m0 m1 m2 m3 m4 b0 b1 b2 b3 l3 l4 l5 l6 l7 l8 a0 a1 t0 t1 q0
        go_wp2
        go_roundw
        case rel => exact ⟨j + 1, _, _, hN, hPN, .inr (by have := HLT.out; omega)⟩
        case measure =>
          rw [hcN.out, Q0.out]
          have := HLT.out
          simp only [listLen]
          omega
    · have hj1 : j = q + 1 - len0 := by have := HJ.out; omega
      have hj2 : q < len0 + j := by omega
      have hj3 : (q : Int) < (len0 : Int) + (j : Int) := by omega
      have hq0 : (q : Int) ≤ 5 := by omega
      have hwq : IntKind.i64.wrap (q : Int) = (q : Int) := IntWalk.i64_in _ (by omega)
      obtain ⟨b, rfl⟩ : ∃ b, av = some ⟨b, 0, none⟩ := by
        rcases F7.out.2 with ⟨h, _⟩ | ⟨g', cap, cur, h, _⟩
        · simp only [Value.slice.injEq] at h; omega
        · simp only [Value.slice.injEq] at h; exact ⟨g', h.1⟩
      obtain ⟨p0, p1, p2, p3, p4, p5, p6, p7, p8, p9⟩ := HRW.out.ext HS.out.ext
      have hqL : q < L.length := by rw [HLL.out]; exact hj2
      have FZ' : Hid (FreshZ (g + 1) wr (.slice (some ⟨b, 0, none⟩) (len0 + j) cv) L) := F7
      have CR := Lib.hid (fun W (x : Ext wr W) => l4OwnRow_veil r (.slice az r.l.length cz) W ((HZ.out.ext HS.out.ext).ext x) hrl)
      have HQ := Lib.hid hqL
      have HJ1 := Lib.hid hj1
      clear hlt hj1 hqL t0 t1
      go_wp2
      go_region_law (go_simp; go_at_call 92; refine (CR.out _ (Ext.drew (Ext.refl _))).mono ?_; rintro e w8 ⟨cs, zz, rfl, hcs, hc10, fz, x8'⟩; have x8 : Ext wr w8 := (Ext.drew (Ext.refl _)).trans x8'; have b1 := x8.cell a1; have b2 := x8.cell q0; have hst := FreshZ.store (d := r) (FZ'.out.ext x8) HQ.out fz)
      all_goals
        have hws := Lib.hid ((HS.out.on x8).put (k := p) (b := b) (j := q) HV'.out HL.out HQ.out (r, zz) (fz.more (by simp; omega)))
        have hPN : Hid (rowsP (P.set p (L.set q (r, zz))) = setT n T p q r) := Lib.hid (by rw [rowsP_put HL.out, HP.out, HLM.out, setT_of hp (by rw [← HL0.out]; exact HJ1.out)])
        clear hst b1 b2 a0 a1 q0 p0 p1 p2 p3 p4 p5 p6 p7 p8 p9 x8 x8' fz hcs hc10
        obtain ⟨a0, a1⟩ := hws.out.box
        obtain ⟨⟨z0, z1⟩, f0, f1⟩ := HRS.out.ext hws.out.ext
        have HF := Lib.hid (((hws.out.tab.set (b := w.heap.size + 1 + 1) (o := 0) (.int .i64 n) (by omega) (by omega)).set (b := w.heap.size + 1 + 1) (o := 1) (.slice (some ⟨g, 0, none⟩) T.length T.length) (by omega) (by omega)))
        have HXX := Lib.hid (((HX.out.trans hws.out.ext).setc (a := ⟨w.heap.size + 1 + 1, 0, none⟩) (v := .int .i64 n) (by dsimp only; omega)).setc (a := ⟨w.heap.size + 1 + 1, 1, none⟩) (v := .slice (some ⟨g, 0, none⟩) T.length T.length) (by dsimp only; omega))
        go_wp2
        refine bodyPost_ret (v := .agg #[.int .i64 n, .slice (some ⟨g, 0, none⟩) T.length T.length]) (by simp [results, Try.results67, go_sem, z0, z1]) rfl ⟨g, vs, _, by rw [setT_len], by rw [setT_len]; exact HF.out, hPN.out, by omega, HXX.out⟩
end Go.Proofs.Ytfffddhfagibpaa

namespace Go.Proofs.Ytfffddhfagibpaa
open Go.RowKit
set_option linter.unusedVariables false

def NewP (P : Nat → Prop) (w w' : World) (b : Nat) : Prop := P b ∨ (w.heap.size ≤ b ∧ b < w'.heap.size)
theorem flatC_row {L : List (RowD × Value)} {j : Nat} (hj : j < L.length) : XRow (flatC cellsR L) (j * 10) L[j].1 L[j].2 := by
  have h : ∀ i, i < 10 → (flatC cellsR L)[j * 10 + i]? = (cellsR L[j])[i]? := fun i hi => flatC_at cellsR_len hj hi
  exact ⟨h 0 (by omega), h 1 (by omega), h 2 (by omega), h 3 (by omega), h 4 (by omega), h 5 (by omega), h 6 (by omega), h 7 (by omega), h 8 (by omega), h 9 (by omega)⟩
/-- The list p as it stands, with its values. -/
structure LstP (T : List (List RowD)) (US : List Value) (p : Nat) (L0 : List (RowD × Value)) : Prop where
  hp : p < T.length
  fst : L0.map Prod.fst = T[p]
  snd : L0.map Prod.snd = (US.drop (mAt T p)).take T[p].length
/-- Behind the last write. -/
def PutPost (P : Nat → Prop) (n : Int) (g p q : Nat) (r : RowD) (T : List (List RowD)) (w w' : World) : Prop :=
  ∃ vs US LS q' XS, TabF (NewP P w w') g vs US q' (setT n T p q r) ∧ (∀ k, TabS w' g vs US LS q' XS k 0 (setT n T p q r)) ∧ ChgB P w w'
theorem put_end {P : Nat → Prop} {w wr W W' : World} {g p q b' o' c' j : Nat} {n : Int} {vs US Z ys : List Value} {LS : List (List Int)} {qq : WinT} {XS : Nat → List Value} {T : List (List RowD)} {L0 : List (RowD × Value)} {v z : Value} {r : RowD}
    (f : TabF P g vs US qq T) (hS : TabS w g vs US LS qq XS 0 0 T) (fu : FullT vs US T) (hp : p < T.length) (h : PutS w wr g p n vs US Z LS L0 v j) (e : Ext wr W) (hz : Fresh wr.heap.size W z r.l) (t : W.grownBy W' (some b'))
    (hPw : ∀ b, P b → b < w.heap.size) (hj : j = q + 1 - T[p].length) (hq : q < T[p].length + j)
    (hv : v = .slice (some ⟨b', o', none⟩) (T[p].length + j) c') (hc : T[p].length + j ≤ c') (hc2 : c' ≤ maxLen)
    (hdep : ∀ (i : Nat) (u : Value), (US ++ (Z ++ [z]))[i]? = some u → u.ownBlock = none ∨ u.ownBlock ≠ some b') (hbg : b' ≠ g) (hPb : NewP P w W' b')
    (hw : ∀ i (hi : i < T.length), i ≠ p → T[i] ≠ [] → qq.b i ≠ b' ∨ (qq.b i = b' ∧ KeptX (XS b') ys o' (o' + (T[p].length + j) * 10) ∧ (o' + (T[p].length + j) * 10 ≤ qq.o i ∨ qq.o i + T[i].length * 10 ≤ o')))
    (hbox : BoxV W' b' ys) (hlen : o' + (T[p].length + j) * 10 ≤ ys.length) (hnew : ∀ i, i < T[p].length + j → ∃ u d, ((((US.drop (mAt T p)).take T[p].length ++ Z).set q z))[i]? = some u ∧ ((T[p] ++ List.replicate j (emptyR n)).set q r)[i]? = some d ∧ XRow ys (o' + i * 10) d u) :
    PutPost P n g p q r T w W' := by
  have hgw := h.gw
  have hws := h.chg.size
  have hes := e.size
  have hts := t.size
  have hR : ((T[p] ++ List.replicate j (emptyR n)).set q r).length = T[p].length + j := by rw [List.length_set, List.length_append, List.length_replicate]
  have hT : T.set p ((T[p] ++ List.replicate j (emptyR n)).set q r) = setT n T p q r := by
    unfold setT
    rw [List.getElem?_eq_getElem hp, Option.getD_some, hj]
  have hul : LS.length = US.length := hS.row.len.symm
  have hm : mAt T p + T[p].length ≤ US.length := by
    rw [fu.ul]
    have h1 := sumN_succ (g := lensT T) (k := p) (by rw [lensT_len]; exact hp)
    have h2 : (lensT T)[p]'(by rw [lensT_len]; exact hp) = T[p].length := by simp [lensT]
    have h3 := sumN_le (g := lensT T) (i := p + 1) (j := T.length) hp
    unfold mAt
    omega
  have r0 : Rows_ 0 W (US ++ (Z ++ [z])) (LS ++ (List.replicate j (noneL n) ++ [r.l])) := by
    rw [← List.append_assoc, ← List.append_assoc]
    exact h.row.snoc e hz (Nat.zero_le _)
  have r1 : Rows_ 0 W' (US ++ (Z ++ [z])) (LS ++ (List.replicate j (noneL n) ++ [r.l])) := r0.touch t hdep
  have hLs : ∀ i (hi : i < T[p].length), LS[mAt T p + i]? = some T[p][i].l := fun i hi => by
    obtain ⟨u, _, h2, _⟩ := hS.old p hp (Nat.zero_le _) i hi
    exact h2
  have r2 := rows_put (n := n) (T0 := T[p]) (q := q) r1 h.zl hul hm rfl hLs hq
  have hchg : ChgB (fun b => b = g ∨ b = b') w W' := by
    have c1 := h.chg.trans (ChgB.of_ext e)
    exact (c1.more (fun b hb => .inl hb)).trans (ChgB.of_grown t (fun b eb => .inr (Option.some.inj eb).symm))
  have hcP : ChgB P w W' := ⟨hchg.os, hchg.tape, hchg.output, hchg.size, fun b hb hn => hchg.block b hb (fun e' => by
    rcases e' with e' | e'
    · rw [e'] at hn; exact hn f.foot.1
    · rcases hPb with a | a
      · rw [e'] at hn; exact hn a
      · omega)⟩
  have hzf : ∀ (i : Nat) (u : Value), (((US.drop (mAt T p)).take T[p].length ++ Z).set q z)[i]? = some u → (∃ k, US[k]? = some u) ∨ (∃ B l, Fresh B W u l ∧ w.heap.size ≤ B) := fun i u hu => by
    rcases List.mem_or_eq_of_mem_set (List.mem_of_getElem? hu) with a | a
    · rcases List.mem_append.1 a with a | a
      · obtain ⟨k, hk⟩ := List.mem_iff_getElem?.1 (List.mem_of_mem_drop (List.mem_of_mem_take a))
        exact .inl ⟨k, hk⟩
      · exact .inr ⟨_, _, (h.zf u a).ext e, Nat.le_refl _⟩
    · rw [a]
      exact .inr ⟨_, _, hz, hws⟩
  have hpool : ∀ (i : Nat) (u : Value), (((US.drop (mAt T p)).take T[p].length ++ Z).set q z)[i]? = some u → u.ownBlock = none ∨ u.ownBlock ≠ some b' := fun i u hu => by
    have hmem : u ∈ US ++ (Z ++ [z]) := by
      rcases List.mem_or_eq_of_mem_set (List.mem_of_getElem? hu) with a | a
      · rcases List.mem_append.1 a with a | a
        · exact List.mem_append.2 (.inl (List.mem_of_mem_drop (List.mem_of_mem_take a)))
        · exact List.mem_append.2 (.inr (List.mem_append.2 (.inl a)))
      · rw [a]; exact List.mem_append.2 (.inr (List.mem_append.2 (.inr (List.mem_singleton.2 rfl))))
    obtain ⟨k, hk⟩ := List.mem_iff_getElem?.1 hmem
    exact hdep k u hk
  have hvl : p < vs.length := by rw [fu.vl]; exact hp
  have hFF := tabF_splice (P' := NewP P w W') (b' := b') (o' := o') (c' := c') (us := ((US.drop (mAt T p)).take T[p].length ++ Z).set q z) (R := (T[p] ++ List.replicate j (emptyR n)).set q r) f hp hvl (by
      intro e'
      have h0 : T[p].length + j = 0 := by rw [← hR, e']; rfl
      omega) (by rw [hR]; exact hc) hc2 hm (fun b hb => .inl hb) hPb hbg (fun i hi hne hnn => by
      rw [hR]
      rcases hw i hi hne hnn with a | ⟨_, _, a⟩
      · exact .inl a
      · exact .inr a) (fun i u hu => by
      refine ⟨fun k hk hkn => ?_, hpool i u hu, ?_, fun b hb => ?_⟩
      · rcases hzf i u hu with ⟨m, hm⟩ | ⟨B, l, hf, hB⟩
        · exact (f.lists m u hm).1 k hk hkn
        · cases hb : u.ownBlock with
          | none => exact .inl rfl
          | some b => exact .inr (fun e' => by have := (World.ownsRow.lt hf b hb).1; have := hPw _ (f.foot.2.1 k hk hkn); have := Option.some.inj e'; omega)
      · rcases hzf i u hu with ⟨m, hm⟩ | ⟨B, l, hf, hB⟩
        · exact (f.lists m u hm).2
        · cases hb : u.ownBlock with
          | none => exact .inl rfl
          | some b => exact .inr (fun e' => by have := (World.ownsRow.lt hf b hb).1; have := Option.some.inj e'; omega)
      · rcases hzf i u hu with ⟨m, hm⟩ | ⟨B, l, hf, hB⟩
        · exact .inl (f.foot.2.2 m u b hm hb)
        · have := World.ownsRow.lt hf b hb
          exact .inr ⟨by omega, by omega⟩) (fun i u hu => hdep i u (by
      rw [List.getElem?_append_left (List.getElem?_eq_some_iff.1 hu).1]
      exact hu))
  rw [hR] at hFF
  have hout : BoxV W' g (vs.set p (.slice (some ⟨b', o', none⟩) (T[p].length + j) c')) := by
    have h1 := h.out.ext e
    rw [hv] at h1
    exact h1.same (t.block g (Nat.lt_of_lt_of_le (Nat.lt_of_lt_of_le hgw hws) hes) (fun e' => hbg (Option.some.inj e').symm)) hts
  rw [hT] at hFF
  refine ⟨_, _, spl LS ((((T[p] ++ List.replicate j (emptyR n)).set q r)).map fun r => r.l) (mAt T p) T[p].length, _, fun b => if b = b' then ys else XS b, hFF, fun k => ?_, hcP⟩
  have hSS := tabS_splice (w' := W') (b' := b') (o' := o') (c' := c') (us := ((US.drop (mAt T p)).take T[p].length ++ Z).set q z) (ls := (((T[p] ++ List.replicate j (emptyR n)).set q r)).map fun r => r.l) (R := (T[p] ++ List.replicate j (emptyR n)).set q r) (ys := ys) hS hp hm hul (by
      rw [hR, List.length_set, List.length_append, List.length_take, List.length_drop, h.zl]
      omega) rfl hout r2 hbox (by rw [hR]; exact hlen) (fun i hi => by
      rw [hR] at hi
      obtain ⟨u, d, h1, h2, h3⟩ := hnew i hi
      have h4 := (List.getElem?_eq_some_iff.1 h2).2
      exact ⟨u, h1, by rw [h4]; exact h3⟩) (fun i hi hne hnn => by
      rw [hR]
      rcases hw i hi hne hnn with a | a
      · exact .inr ⟨a, (hS.box i hi hnn).1.same (hchg.block _ (hS.box i hi hnn).1.lt (fun e' => by
          rcases e' with e' | e'
          · exact f.outer i hi hnn e'
          · exact a e')) hchg.size⟩
      · exact .inl a) k
  rw [hT] at hSS
  exact hSS
end Go.Proofs.Ytfffddhfagibpaa

namespace Go.Proofs.Ytfffddhfagibpaa
open Go.RowKit
set_option linter.unusedVariables false

/-- The list with its values. -/
def lstP (L0 : List (RowD × Value)) (n : Int) (Z : List Value) : List (RowD × Value) := L0 ++ Z.map (fun u => (emptyR n, u))
theorem lstP_fst {T : List (List RowD)} {US Z : List Value} {p j : Nat} {n : Int} {L0 : List (RowD × Value)} (h : LstP T US p L0) (hZ : Z.length = j) : (lstP L0 n Z).map Prod.fst = T[p]'h.hp ++ List.replicate j (emptyR n) := by
  unfold lstP
  rw [List.map_append, h.fst, List.map_map, ← hZ]
  congr 1
  clear hZ
  induction Z with
  | nil => rfl
  | cons z t ih => rw [List.map_cons, ih, List.length_cons, List.replicate_succ]; rfl
theorem lstP_snd {T : List (List RowD)} {US Z : List Value} {p : Nat} {n : Int} {L0 : List (RowD × Value)} (h : LstP T US p L0) : (lstP L0 n Z).map Prod.snd = (US.drop (mAt T p)).take (T[p]'h.hp).length ++ Z := by
  unfold lstP
  rw [List.map_append, h.snd, List.map_map]
  congr 1
  exact List.map_id Z
theorem lstP_len {T : List (List RowD)} {US Z : List Value} {p j : Nat} {n : Int} {L0 : List (RowD × Value)} (h : LstP T US p L0) (hZ : Z.length = j) : (lstP L0 n Z).length = (T[p]'h.hp).length + j := by
  have h1 := congrArg List.length (lstP_fst (n := n) h hZ)
  rw [List.length_map, List.length_append, List.length_replicate] at h1
  exact h1
theorem put_own {P : Nat → Prop} {w wr W : World} {g p q b c j : Nat} {n : Int} {vs US Z : List Value} {LS : List (List Int)} {qq : WinT} {XS : Nat → List Value} {T : List (List RowD)} {L0 : List (RowD × Value)} {z : Value} {r : RowD}
    (f : TabF P g vs US qq T) (hS : TabS w g vs US LS qq XS 0 0 T) (fu : FullT vs US T) (l : LstP T US p L0) (h : PutS w wr g p n vs US Z LS L0 (.slice (some ⟨b, 0, none⟩) ((T[p]'l.hp).length + j) c) j) (fz : FreshZ w.heap.size wr (.slice (some ⟨b, 0, none⟩) ((T[p]'l.hp).length + j) c) (lstP L0 n Z)) (e : Ext wr W) (hz : Fresh wr.heap.size W z r.l)
    (hPw : ∀ b, P b → b < w.heap.size) (hj : j = q + 1 - (T[p]'l.hp).length) (hq : q < (T[p]'l.hp).length + j) :
    PutPost P n g p q r T w (W.setCells b (q * 10) (rowL r z)) := by
  have hp := l.hp
  have hgw := h.gw
  have hL := lstP_len (n := n) l h.zl
  have hqL : q < (lstP L0 n Z).length := by rw [hL]; exact hq
  have fW : FreshZ w.heap.size W (.slice (some ⟨b, 0, none⟩) ((T[p]'l.hp).length + j) c) (lstP L0 n Z) := fz.ext e
  have hb := World.ownsRow.lt fW b rfl
  have fW2 := fW
  unfold FreshZ at fW2
  rw [hL] at fW2
  obtain ⟨f1, t⟩ := ownsRow_stores (rowL r z) (q * 10) W _ fW2
  rw [flatC_put hqL (r, z)] at f1
  have hcap : (T[p]'l.hp).length + j ≤ c ∧ c ≤ maxLen := by
    rcases fW2.2 with ⟨h', _⟩ | ⟨g', cap', cur, h', _, _, hnc, hcm, _⟩
    · simp at h'
    · simp only [Value.slice.injEq] at h'
      omega
  have r0 : Rows_ 0 W (US ++ (Z ++ [z])) (LS ++ (List.replicate j (noneL n) ++ [r.l])) := by
    rw [← List.append_assoc, ← List.append_assoc]
    exact h.row.snoc e hz (Nat.zero_le _)
  have hset : ((lstP L0 n Z).set q (r, z)).length = (T[p]'l.hp).length + j := by rw [List.length_set, hL]
  refine put_end f hS fu hp h e hz t hPw hj hq rfl hcap.1 hcap.2 (fun i u hu => ?_) (by omega) (.inr ⟨hb.1, Nat.lt_of_lt_of_le hb.2 t.size⟩) (fun i hi hne hnn => .inl (fun e' => by have := hPw _ (f.foot.2.1 i hi hnn); omega)) (ys := flatC cellsR ((lstP L0 n Z).set q (r, z))) ⟨fun i v hv => ?_, fun i _ => f1.frozenAt i, Nat.lt_of_lt_of_le hb.2 t.size⟩ (by rw [flatC_len cellsR_len, hset]; omega) (fun i hi => ?_)
  · have hi := (List.getElem?_eq_some_iff.1 hu).1
    exact types_apart fW (r0.row i u _ hu (List.getElem?_eq_getElem (by rw [← r0.len]; exact hi))) (by decide)
  · have hi := (List.getElem?_eq_some_iff.1 hv).1
    rw [flatC_len cellsR_len, hset] at hi
    exact (f1.cellAt i hi).trans hv
  · have hx := flatC_row (L := (lstP L0 n Z).set q (r, z)) (j := i) (by rw [hset]; exact hi)
    refine ⟨_, _, ?_, ?_, by rw [Nat.zero_add]; exact hx⟩
    · rw [← lstP_snd (n := n) l, ← List.map_set (f := Prod.snd) (a := (r, z)), List.getElem?_map, List.getElem?_eq_getElem (by rw [hset]; exact hi)]
      rfl
    · rw [← lstP_fst (n := n) l h.zl, ← List.map_set (f := Prod.fst) (a := (r, z)), List.getElem?_map, List.getElem?_eq_getElem (by rw [hset]; exact hi)]
      rfl
theorem put_old {P : Nat → Prop} {w wr W : World} {g p q : Nat} {n : Int} {vs US Z : List Value} {LS : List (List Int)} {qq : WinT} {XS : Nat → List Value} {T : List (List RowD)} {L0 : List (RowD × Value)} {v z : Value} {r : RowD}
    (f : TabF P g vs US qq T) (hS : TabS w g vs US LS qq XS 0 0 T) (fu : FullT vs US T) (hp : p < T.length) (h : PutS w wr g p n vs US Z LS L0 v 0) (hv : v = .slice (some ⟨qq.b p, qq.o p, none⟩) T[p].length (qq.c p)) (hc : T[p].length ≤ qq.c p) (hc2 : qq.c p ≤ maxLen) (e : Ext wr W) (hz : Fresh wr.heap.size W z r.l)
    (hPw : ∀ b, P b → b < w.heap.size) (hq : q < T[p].length) :
    PutPost P n g p q r T w (W.setCells (qq.b p) (qq.o p + q * 10) (rowL r z)) := by
  have hgw := h.gw
  have hne : T[p] ≠ [] := fun e' => by rw [e'] at hq; simp at hq
  have hbg := f.outer p hp hne
  have hbP := f.foot.2.1 p hp hne
  have hbw := hPw _ hbP
  have hws := h.chg.size
  have t : W.grownBy (W.setCells (qq.b p) (qq.o p + q * 10) (rowL r z)) (some (qq.b p)) := setCells_grown (g := qq.b p) (rowL r z) (qq.o p + q * 10) W
  obtain ⟨hb1, hb2⟩ := hS.box p hp hne
  have hb3 : BoxV W (qq.b p) (XS (qq.b p)) := (hb1.same (h.chg.block _ hb1.lt (fun e' => hbg e')) hws).ext e
  have hl10 : (rowL r z).length = 10 := rfl
  have hZ : Z = [] := List.eq_nil_of_length_eq_zero h.zl
  subst hZ
  refine put_end (j := 0) (b' := qq.b p) (o' := qq.o p) (c' := qq.c p) (ys := putL (XS (qq.b p)) (qq.o p + q * 10) (rowL r z)) f hS fu hp h e hz t hPw (by omega) hq hv hc hc2 (fun i u hu => ?_) hbg (.inl hbP) (fun i hi hne' hnn => ?_) (boxV_puts _ _ _ _ hb3 (by rw [hl10]; omega)) (by rw [putL_len]; exact hb2) (fun i hi => ?_)
  · rcases List.mem_append.1 (List.mem_of_getElem? hu) with a | a
    · obtain ⟨k, hk⟩ := List.mem_iff_getElem?.1 a
      exact (f.lists k u hk).1 p hp hne
    · rw [List.nil_append, List.mem_singleton] at a
      rw [a]
      cases hb' : z.ownBlock with
      | none => exact .inl rfl
      | some b => exact .inr (fun e' => by have := (World.ownsRow.lt hz b hb').1; have := Option.some.inj e'; omega)
  · by_cases e1 : qq.b i = qq.b p
    · refine .inr ⟨e1, (KeptX.refl _ _ _).put (by omega) (by rw [hl10]; omega), ?_⟩
      rcases f.apart i p hi hp hnn hne hne' with a | a | a
      · exact absurd e1 a
      · exact .inr a
      · exact .inl a
    · exact .inl e1
  · have hi' : i < T[p].length := hi
    have hR : ((T[p] ++ List.replicate 0 (emptyR n)).set q r)[i]? = (T[p].set q r)[i]? := by rw [List.replicate_zero, List.append_nil]
    have hm : mAt T p + T[p].length ≤ US.length := by
      rw [fu.ul]
      have h1 := sumN_succ (g := lensT T) (k := p) (by rw [lensT_len]; exact hp)
      have h2 : (lensT T)[p]'(by rw [lensT_len]; exact hp) = T[p].length := by simp [lensT]
      have h3 := sumN_le (g := lensT T) (i := p + 1) (j := T.length) hp
      unfold mAt
      omega
    rw [hR, List.append_nil]
    by_cases e1 : i = q
    · subst e1
      exact ⟨z, r, List.getElem?_set_self (by rw [List.length_take, List.length_drop]; omega), List.getElem?_set_self hi', XRow.put (by omega)⟩
    · obtain ⟨u, h1, h2, h3⟩ := hS.old p hp (Nat.zero_le _) i hi'
      refine ⟨u, T[p][i], ?_, ?_, h3.put_other (by omega)⟩
      · rw [List.getElem?_set_ne (fun e' => e1 e'.symm), List.getElem?_take_of_lt hi', List.getElem?_drop]
        exact h1
      · rw [List.getElem?_set_ne (fun e' => e1 e'.symm), List.getElem?_eq_getElem hi']
end Go.Proofs.Ytfffddhfagibpaa
