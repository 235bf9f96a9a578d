/- Texts of this proof, part l: words, plain facts, contracts. -/
import Derived.Test.YtjfnkcohpffigaaMBlockersOfk
import Derived.Deep.DeepCutAuto
import Derived.Test.YtjfnkcohpffigaaMBlockersOfj
import Derived.Test.YtjfnkcohpffigaaMBlockersOfd
import Derived.Test.YtjfnkcohpffigaaMBlockersOfa

namespace Go.Proofs.Ytjfnkcohpffigaa
open Go.RowKit Go.Maps
set_option linter.unusedVariables false

/-- What can be done, in order. -/
noncomputable def readyL (n : Int) (T : List (List RowD)) : List (Nat × Nat) := (insts T).filter fun x => readyB n T x.1 x.2
theorem readyB_com {n : Int} {T : List (List RowD)} {p q : Nat} (h : readyB n T p q = true) : instCom T p q = true := by
  obtain ⟨C, hC, hx⟩ := readyB_iff.1 h
  exact hC.1 _ hx
theorem readyL_of {n : Int} {T : List (List RowD)} {L : List (Nat × Nat)} (hL : L.Pairwise lexL) (h : ∀ x : Nat × Nat, x ∈ L ↔ readyB n T x.1 x.2 = true) : L = readyL n T :=
  lex_unique hL ((insts_lex T).filter _) (fun x => by
    unfold readyL
    rw [h, List.mem_filter, mem_insts]
    exact ⟨fun hr => ⟨readyB_com hr, hr⟩, fun hr => hr.2⟩)
theorem readyL_short {n : Int} {T : List (List RowD)} (hg : goodTab n T = true) : (readyL n T).length ≤ 30 :=
  Nat.le_trans (List.length_filter_le _ _) (insts_short hg)
noncomputable def readyR (n : Int) (T : List (List RowD)) : List (List Int) := if goodTab n T then (readyL n T).map pairOf else []

set_option maxHeartbeats 2000000 in
set_option maxRecDepth 100000 in
theorem implReadyIn_any (n : Int) (u : Value) (T : List (List RowD)) (w : World) (hu : Rowzz w u T) (hs : bulkT T ≤ 1099511627776) :
    Calls Try.prog 11 #[.agg #[.int .i64 n, u]] w (TwoIntss (readyR n T) (goodTab n T) w) := by
  obtain ⟨P, hP⟩ : ∃ P, P = readyR n T := ⟨_, rfl⟩
  obtain ⟨g, hg⟩ : ∃ g, g = goodTab n T := ⟨_, rfl⟩
  rw [← hP, ← hg]
  have HS := Lib.hid hs
  have hx0 := Ext.alloc1 w (.cells #[.int .i64 n, u] 31)
  have b0 := attrAt_new w 31 n u
  have HU := Lib.hid (hu.ext hx0)
  have HX := Lib.hid hx0
  have HP := Lib.hid hP
  have HGG := Lib.hid hg
  obtain ⟨au, cu, rfl, hlu, _, _⟩ := hu
  clear hx0 hs hP hg
  go_enter Try.func11, Try.ntmps11
  go_wp2_with fail
  refine (implGoodTable_any n _ T _ HU.out HS.out).mono ?_
  rintro e w1 ⟨rfl, x1⟩
  rw [← HGG.out]
  cases g with
  | false =>
    have eP : P = [] := by rw [HP.out]; unfold readyR; rw [← HGG.out]; rfl
    have X1 := Lib.hid (HX.out.trans x1)
    have EP := Lib.hid eP
    clear eP
    go_wp2
    go_ret2
    rw [EP.out]
    exact ⟨_, rfl, FreshSS.nil _ _, X1.out⟩
  | true =>
    have H56 := Lib.hid (goodTab_both HGG.out.symm)
    obtain ⟨U, hU⟩ := tabAt_of (HU.out.ext x1)
    have HT := Lib.hid hU
    have X1 := Lib.hid (HX.out.trans x1)
    obtain ⟨c1, c2⟩ := b0.ext x1
    clear x1 hU HU b0
    go_wp2_with fail
    refine (readyIn_any n _ T U _ HT.out HGG.out.symm).mono ?_
    rintro e w2 ⟨B, D, rfl, m2, d2, hb2, x2⟩
    have M2 := Lib.hid m2
    have D2 := Lib.hid d2
    have X2 := Lib.hid (X1.out.trans x2)
    clear m2 d2 hb2 x2 c1 c2 X1 HT
    go_wp2_with fail
    refine (inOrderRow_any B 30 D (readyB n T) (rowOf n T) U _ M2.out D2.out (by omega)).mono ?_
    rintro e w3 ⟨v3, L, rfl, f3, hlex, hmem, x3⟩
    have eL : L = readyL n T := readyL_of hlex hmem
    subst eL
    have I3 := Lib.hid f3.at
    have X3 := Lib.hid (X2.out.trans x3)
    have HSH := Lib.hid (readyL_short HGG.out.symm)
    clear f3 hlex hmem x3 M2 X2
    go_wp2_with fail
    refine (pairsOf_any v3 (readyL n T) _ I3.out (by have := HSH.out; omega)).mono ?_
    rintro e w4 ⟨v4, rfl, f4, x4⟩
    have F4 := Lib.hid (f4.more X3.out.size)
    have X4 := Lib.hid (X3.out.trans x4)
    have EP : Hid (P = (readyL n T).map pairOf) := Lib.hid (by rw [HP.out]; unfold readyR; rw [← HGG.out]; rfl)
    clear f4 x4 I3 X3
    go_wp2
    go_ret2
    rw [EP.out]
    exact ⟨_, rfl, F4.out, X4.out⟩

end Go.Proofs.Ytjfnkcohpffigaa

namespace Go.Proofs.Ytjfnkcohpffigaa
open Go.RowKit Go.Maps
set_option linter.unusedVariables false

def inL (M : List (Nat × Nat)) (p q : Nat) : Bool := decide ((p, q) ∈ M)
theorem inL_snoc {M : List (Nat × Nat)} {z : Nat × Nat} (p q : Nat) : inL (M ++ [z]) p q = (inL M p q || (decide (p = z.1) && decide (q = z.2))) := by
  unfold inL
  rw [Bool.eq_iff_iff]
  simp [Prod.ext_iff]
def yes (_ _ : Nat) : Value := .bool true
theorem zeroBoolV (W : World) : (zeroValue 4).run Try.prog W = .ok (.bool false) W := by kernel_rfl
theorem lookB {W : World} {B n0 : Nat} {D : DataW Value} {M : List (Nat × Nat)} (hm : RowMap W B n0 D) (hd : MapOf D (inL M) yes) {z : Nat × Nat} (hl : z.1 < 5 ∧ z.2 < 6) :
    (Instr.lookup 82 (.map (some B)) (.agg #[.int .i64 z.1, .int .i64 ((z.2 : Int) + 1)]) false).run Try.prog W = .ok (.bool (decide (z ∈ M))) W := by
  obtain ⟨v, ps, hrun, hv⟩ := hm.lookup instKeyed Try.underlying82 (zeroBoolV W) (zd := .held _) (zp := []) rfl (keyOf_inst (a := z.1) (b := (z.2 : Int) + 1) (wf_small (by omega) (by omega)) (wf_small (by omega) (by omega)))
  by_cases h : z ∈ M
  · have hs : inL M z.1 z.2 = true := decide_eq_true h
    rw [hd.val z.1 z.2 hs] at hv
    simp only [asIs, Option.some.injEq, Prod.mk.injEq, DataW.held.injEq] at hv
    rw [hv.1] at hrun
    rw [decide_eq_true h]
    exact hrun
  · have hs : inL M z.1 z.2 = false := decide_eq_false h
    have hn := hd.hasNot (p := z.1) (q := z.2) (by omega) hs
    rw [Maps.atKey_of_not_has hn] at hv
    simp only [asIs, Option.some.injEq, Prod.mk.injEq, DataW.held.injEq] at hv
    rw [hv.1] at hrun
    rw [decide_eq_false h]
    exact hrun

/-- append(s, x), s of instances and of the call's own: and where the new slice lies. -/
theorem wpList_pushIAt {ops : Array Oper} {rest : List Oper} {o : Oper} {a : Act} {Q : Exit → Act → World → Prop} {w : World} (hgd : o.guard = none) (s x : Operand)
    (ho : o.op = .call { callee := .builtin .append, args := #[s, x], argTypes := #[66, 66] })
    (B : Nat) (v : Value) (L : List (Nat × Nat)) (y : Nat × Nat) (hs : a.eval s = v) (hf : FreshIn B w v L) (g : Nat) (c : Nat) (hx : a.eval x = .slice (some ⟨g, 0, none⟩) 1 c)
    (hc0 : w.cell? ⟨g, 0, none⟩ = some (.int .i64 (y.1 : Int))) (hc1 : w.cell? ⟨g, 1, none⟩ = some (.int .i64 ((y.2 : Int) + 1))) (hl : L.length ≤ 1048576) (hB : B ≤ w.heap.size)
    (h : ∀ v' w', FreshIn B w' v' (L ++ [y]) → w.grownBy w' v.ownBlock → Kept B w w' → (v'.ownBlock = v.ownBlock ∨ v'.ownBlock = some w.heap.size) → wpList Try.prog ops Q rest (a.put o.dst v') w') : wpList Try.prog ops Q (o :: rest) a w := by
  obtain ⟨i0, hi, hz0, hz1, hz2⟩ := info_parts Try.infoInst
  refine wpList_append_own_at _ hgd s x 66 ho B 80 i0 (.agg #[.int .i64 0, .int .i64 0]) 2 16 Try.underlying66 hi hz0 hz1 hz2 rfl (by decide) v L.length _ hs hf ⟨g, 0, none⟩ 1 c (cellsI y) hx rfl ?_ ?_ ?_ ?_ hB ?_
  · intro j u hj
    match j, hj with
    | 0, hj => simp [cellsI] at hj; subst hj; simpa [Addr.add] using hc0
    | 1, hj => simp [cellsI] at hj; subst hj; simpa [Addr.add] using hc1
  · intro u hu
    simp [cellsI] at hu
    rcases hu with rfl | rfl <;> rfl
  · unfold maxLen; omega
  · omega
  · intro v' w' ho' hg _ hloc
    refine h v' w' ?_ hg (fun w0 hx0 hB0 => Below.grown hx0 hg hx0.size (fun q hq => Nat.le_trans hB0 (World.ownsRow.lt hf q hq).1)) hloc
    unfold FreshIn
    have e : flatI (L ++ [y]) = flatI L ++ cellsI y := by simp [flatI]
    rw [e, List.length_append]
    exact ho'

/-- The slice without its last. -/
theorem FreshIn.pop {B : Nat} {w : World} {g cap : Nat} {L : List (Nat × Nat)} {y : Nat × Nat} (h : FreshIn B w (.slice (some ⟨g, 0, none⟩) (L.length + 1) cap) (L ++ [y])) : FreshIn B w (.slice (some ⟨g, 0, none⟩) L.length cap) L := by
  have h0 : w.ownsRow B 80 2 (.slice (some ⟨g, 0, none⟩) (L.length + 1) cap) (L ++ [y]).length (flatI (L ++ [y])) := h
  rcases h0.2 with ⟨hv, _⟩ | ⟨g', cap', cur, hv, hb, hg, hnc, hcm, hcs, htake⟩
  · cases hv
  · simp only [Value.slice.injEq, Option.some.injEq, Addr.mk.injEq, and_true] at hv
    obtain ⟨rfl, _, rfl⟩ := hv
    refine ⟨flatI_len L, .inr ⟨g, cap, cur, rfl, hb, hg, ?_, hcm, hcs, ?_⟩⟩
    · simp at hnc; omega
    · have e : flatI (L ++ [y]) = flatI L ++ cellsI y := by simp [flatI]
      rw [e] at htake
      have e2 : cur.toList.take (L.length * 2) = ((cur.toList.take ((L ++ [y]).length * 2)).take (L.length * 2)) := by
        rw [List.take_take, Nat.min_eq_left (by simp; omega)]
      rw [e2, htake, List.take_append_of_le_length (by rw [flatI_len]; exact Nat.le_refl _), List.take_of_length_le (by rw [flatI_len]; exact Nat.le_refl _)]

/-- What stands in memory: the map of the met ones in block b, those that wait in lv. -/
structure CW (w wr : World) (b : Nat) (lv : Value) (D : DataW Value) (M L : List (Nat × Nat)) : Prop where
  fm : FreshIn (b + 1) wr lv L
  mm : RowMap wr b M.length D
  md : MapOf D (inL M) yes
  sz : Maps.size D = M.length
  ext : Ext w wr
  lo : w.heap.size ≤ b
  hi : b + 1 ≤ wr.heap.size
theorem CW.on {w wr w' : World} {b : Nat} {lv : Value} {D : DataW Value} {M L : List (Nat × Nat)} (h : CW w wr b lv D M L) (e : Ext wr w') : CW w w' b lv D M L :=
  ⟨h.fm.ext e, h.mm.ext e, h.md, h.sz, h.ext.trans e, h.lo, Nat.le_trans h.hi e.size⟩
def lenOf : Value → Nat
  | .slice _ n _ => n
  | _ => 0

end Go.Proofs.Ytjfnkcohpffigaa

namespace Go.Proofs.Ytjfnkcohpffigaa
open Go.RowKit Go.Maps
set_option linter.unusedVariables false

/-- A map of what one comes to, in new memory. -/
def NewLed (n : Int) (T : List (List RowD)) (x0 : Nat × Nat) (w : World) (e : Ending) (w' : World) : Prop :=
  ∃ b D M, e = .returned (.map (some b)) ∧ RowMap w' b 30 D ∧ MapOf D (inL M) yes ∧ (∀ z, z ∈ M ↔ Led n T x0 z) ∧ (∀ z ∈ M, z.1 < 5 ∧ z.2 < 6) ∧ w.heap.size ≤ b ∧ Ext w w'

theorem nextRow {n : Int} {T : List (List RowD)} {U : Nat → Nat → Value} {B : Nat} {D : DataW Value} {W : World} (hm : RowMap W B 30 D) (hd : MapOf D (instCom T) (rowF n T U)) (hli : Lists W n T U) (hg : goodTab n T = true) {y : Nat × Nat} (hy : y.1 < 5 ∧ y.2 < 6) :
    ∃ (d : RowD) (a : Option Addr) (c : Nat), (Instr.lookup 70 (.map (some B)) (.agg #[.int .i64 y.1, .int .i64 ((y.2 : Int) + 1)]) false).run Try.prog W = .ok (.agg #[.int .i64 d.b, .int .i64 d.v, .int .i64 d.st, .int .i64 d.k, .int .i64 d.i, .int .i64 d.f, .int .i64 d.t, .int .i64 d.a, .int .i64 d.s, .slice a d.l.length c]) W ∧ Ints W (.slice a d.l.length c) d.l ∧ nextL n T y = hungL d ∧ d.l.length ≤ 5 ∧ ∀ k, 0 ≤ depI d k ∧ depI d k ≤ 6 := by
  cases hc : instCom T y.1 y.2 with
  | true =>
    have hyT := (com_row hg hc).2.2.1
    have hi := hli y.1 y.2 (instCom_inT hc)
    obtain ⟨a, c, hU, _⟩ := id hi
    refine ⟨rowOf n T y.1 y.2, a, c, ?_, ?_, by unfold nextL; rw [if_pos hc], rowOf_list hg hyT y.2, fun k => dep_in hg hyT y.2 k⟩
    · have h := look_inst hm hd hc
      unfold rowF rowV at h
      rw [hU] at h
      exact h
    · rw [← hU]; exact hi
  | false =>
    refine ⟨⟨0, 0, 0, 0, 0, 0, 0, 0, 0, []⟩, none, 0, ?_, Ints.nil W, ?_, by simp, fun k => by simp [depI]⟩
    · have hn := hd.hasNot (p := y.1) (q := y.2) (by omega) hc
      obtain ⟨v, ps, hrun, hv⟩ := hm.lookup instKeyed Try.underlying70 (zeroRow W) (zd := .held _) (zp := []) rfl (keyOf_inst (a := y.1) (b := (y.2 : Int) + 1) (wf_small (by omega) (by omega)) (wf_small (by omega) (by omega)))
      rw [Maps.atKey_of_not_has hn] at hv
      simp only [asIs, Option.some.injEq, Prod.mk.injEq, DataW.held.injEq] at hv
      rw [hv.1] at hrun
      exact hrun
    · unfold nextL
      rw [if_neg (by rw [hc]; simp)]
      rfl

/-- The list pv that is looked through, apart from those that wait. -/
structure PA (wr : World) (b : Nat) (lv pv : Value) (P : List (Nat × Nat)) : Prop where
  fp : FreshIn (b + 1) wr pv P
  ap : pv.ownBlock = none ∨ pv.ownBlock ≠ lv.ownBlock
theorem PA.on {wr w' : World} {b : Nat} {lv pv : Value} {P : List (Nat × Nat)} (h : PA wr b lv pv P) (e : Ext wr w') : PA w' b lv pv P := ⟨h.fp.ext e, h.ap⟩
theorem own_ne {B b : Nat} {w : World} {v : Value} {L : List (Nat × Nat)} (h : FreshIn B w v L) (hb : b < B) : v.ownBlock = none ∨ v.ownBlock ≠ some b := by
  cases hv : v.ownBlock with
  | none => exact .inl rfl
  | some k =>
    refine .inr fun e => ?_
    cases e
    have := (World.ownsRow.lt h _ hv).1
    omega
theorem CW.upd {w wr w' : World} {b : Nat} {lv : Value} {D : DataW Value} {M L : List (Nat × Nat)} {z : Nat × Nat} (h : CW w wr b lv D M L) (hz : z ∉ M) (hl : z.1 < 5 ∧ z.2 < 6)
    (hown : RowMap w' b (M.length + 1) (D.put (kl (z.1 : Int) ((z.2 : Int) + 1)) (.held (.bool true)))) (hgrow : wr.grownBy w' (some b)) : CW w w' b lv (D.put (kl (z.1 : Int) ((z.2 : Int) + 1)) (.held (.bool true))) (M ++ [z]) L := by
  have hn := h.md.hasNot (p := z.1) (q := z.2) (by omega) (show inL M z.1 z.2 = false from decide_eq_false hz)
  refine ⟨World.ownsRow.kept h.fm hgrow (own_ne h.fm (by omega)), by simpa using hown, ?_, ?_, h.ext.turned hgrow h.lo, h.lo, Nat.le_trans h.hi hgrow.size⟩
  · have hp := h.md.put (p := z.1) (q := z.2) (v := .bool true) (by omega) rfl
    exact hp.congr (fun p q => inL_snoc p q) (fun _ _ _ => rfl)
  · rw [Maps.size_put (h.mm.tidy instKeyed), hn, h.sz]
    simp
theorem PA.upd {wr w' : World} {b : Nat} {lv pv : Value} {P : List (Nat × Nat)} (h : PA wr b lv pv P) (hgrow : wr.grownBy w' (some b)) : PA w' b lv pv P := ⟨World.ownsRow.kept h.fp hgrow (own_ne h.fp (by omega)), h.ap⟩
theorem CW.push {w wr w' : World} {b : Nat} {lv lv' : Value} {D : DataW Value} {M L L' : List (Nat × Nat)} (h : CW w wr b lv D M L) (f : FreshIn (b + 1) w' lv' L') (g : wr.grownBy w' lv.ownBlock) (k : Kept (b + 1) wr w') : CW w w' b lv' D M L' :=
  ⟨f, h.mm.kept g (fun e => by have := (World.ownsRow.lt h.fm _ e.symm).1; omega), h.md, h.sz, k w h.ext (by have := h.lo; omega), h.lo, Nat.le_trans h.hi g.size⟩
theorem PA.push {wr w' : World} {b : Nat} {lv lv' pv : Value} {P : List (Nat × Nat)} (h : PA wr b lv pv P) (g : wr.grownBy w' lv.ownBlock) (loc : lv'.ownBlock = lv.ownBlock ∨ lv'.ownBlock = some wr.heap.size) : PA w' b lv' pv P := by
  refine ⟨World.ownsRow.kept h.fp g h.ap, ?_⟩
  rcases loc with e | e
  · rw [e]; exact h.ap
  · rw [e]
    refine .inr fun hb => ?_
    have := (World.ownsRow.lt h.fp _ hb).2
    omega
theorem PA.of {w6 wr : World} {b : Nat} {lv pv : Value} {P L : List (Nat × Nat)} (hp : FreshIn wr.heap.size w6 pv P) (hl : FreshIn (b + 1) wr lv L) (hb : b + 1 ≤ wr.heap.size) : PA w6 b lv pv P := by
  refine ⟨hp.more hb, ?_⟩
  cases ho : pv.ownBlock with
  | none => exact .inl rfl
  | some g =>
    refine .inr fun e => ?_
    have h1 := (World.ownsRow.lt hp g ho).1
    have h2 := (World.ownsRow.lt hl g e.symm).2
    omega
theorem freshIn_one (w : World) (B : Nat) (x : Nat × Nat) (hB : B ≤ w.heap.size) : FreshIn B (w.alloc (.cells #[.int .i64 x.1, .int .i64 ((x.2 : Int) + 1)] 80)) (.slice (some ⟨w.heap.size, 0, none⟩) 1 1) [x] := by
  have h := World.ownsRow_lit (base := B) (e := 80) (size := 2) w #[.int .i64 x.1, .int .i64 ((x.2 : Int) + 1)] 1 hB (by unfold maxLen; omega) (by simp)
  simpa [FreshIn, flatI, cellsI] using h
theorem FreshIn.some_ {B : Nat} {w : World} {v : Value} {L : List (Nat × Nat)} (h : FreshIn B w v L) (h0 : 0 < L.length) : ∃ g cap, v = .slice (some ⟨g, 0, none⟩) L.length cap ∧ L.length ≤ cap ∧ cap ≤ maxLen := by
  rcases h.2 with ⟨_, h1⟩ | ⟨g, cap, cur, hv, hb, hg, hnc, hcm, _⟩
  · omega
  · exact ⟨g, cap, hv, hnc, hcm⟩
theorem FreshIn.two {B : Nat} {w : World} {g n cap : Nat} {L : List (Nat × Nat)} (h : FreshIn B w (.slice (some ⟨g, 0, none⟩) n cap) L) (hn : L.length = n) {j : Nat} {y : Nat × Nat} (hy : L[j]? = some y) : w.cell? ⟨g, j * 2, none⟩ = some (.int .i64 (y.1 : Int)) ∧ w.cell? ⟨g, j * 2 + 1, none⟩ = some (.int .i64 ((y.2 : Int) + 1)) := by
  subst hn
  obtain ⟨hj, e⟩ := List.getElem?_eq_some_iff.1 hy
  have hc1 := World.ownsRow.cellAt h (j * 2) (by omega)
  have hc2 := World.ownsRow.cellAt h (j * 2 + 1) (by omega)
  obtain ⟨f1, f2⟩ := flatI_at hj
  rw [e] at f1 f2
  exact ⟨hc1.trans f1, hc2.trans f2⟩
end Go.Proofs.Ytjfnkcohpffigaa

namespace Go.Proofs.Ytjfnkcohpffigaa
open Go.RowKit Go.Maps
set_option linter.unusedVariables false

theorem grown_cell {w w' : World} {b : Nat} {a : Addr} {v : Value} (h : w.grownBy w' (some b)) (hne : a.block ≠ b) (hlt : a.block < w.heap.size) (hc : w.cell? a = some v) : w'.cell? a = some v := by
  have hb := h.block a.block hlt (by simpa using hne)
  unfold World.cell? at hc ⊢
  rw [hb]
  exact hc

set_option maxHeartbeats 8000000 in
set_option maxRecDepth 100000 in
theorem comesTo_any (n : Int) (T : List (List RowD)) (U : Nat → Nat → Value) (p q B : Nat) (D : DataW Value) (w : World) (hm : RowMap w B 30 D) (hd : MapOf D (instCom T) (rowF n T U)) (hli : Lists w n T U) (hg : goodTab n T = true) (hc : instCom T p q = true) :
    Calls Try.prog 47 #[.agg #[.int .i64 p, .int .i64 ((q : Int) + 1)], .map (some B)] w (NewLed n T (p, q) w) := by
  have HM := Lib.hid hm
  have HD := Lib.hid hd
  have HLI := Lib.hid hli
  have HG := Lib.hid hg
  have hlow := inT_low (goodTab_both hg).1 (goodTab_both hg).2 (instCom_inT hc)
  have hmm := @run_makeMap Try.prog
  have hm0 : RowMap ((w.alloc (.cells #[.int .i64 p, .int .i64 ((q : Int) + 1)] 80)).alloc (.map #[] 0)) (w.heap.size + 1) 0 (.map []) := by
    have h := World.ownsMap_made (w.alloc (.cells #[.int .i64 p, .int .i64 ((q : Int) + 1)] 80)) Try.prog 80 asIs
    simpa using h
  obtain ⟨w1, hrun, hown, hgrow⟩ := hm0.update instKeyed Try.underlying82 (by unfold maxLen; omega) (key := .agg #[.int .i64 p, .int .i64 ((q : Int) + 1)]) (val := .bool true) (kl := kl (p : Int) ((q : Int) + 1)) (d := .held (.bool true)) (ps := []) (keyOf_inst (wf_small (by omega) (by omega)) (wf_small (by omega) (by omega))) rfl
  have xa : Ext (w.alloc (.cells #[.int .i64 p, .int .i64 ((q : Int) + 1)] 80)) w1 := (Ext.alloc1 _ _).turned hgrow (by simp)
  have x1 : Ext w w1 := (Ext.alloc1 _ _).trans xa
  have s1 : w.heap.size + 1 + 1 ≤ w1.heap.size := by have := hgrow.size; simpa using this
  have c0 : w1.cell? ⟨w.heap.size, 0, none⟩ = some (.int .i64 p) := xa.cell (by go_simp)
  have c1 : w1.cell? ⟨w.heap.size, 1, none⟩ = some (.int .i64 ((q : Int) + 1)) := xa.cell (by go_simp)
  have hcw : CW w (w1.alloc (.cells #[.int .i64 p, .int .i64 ((q : Int) + 1)] 80)) (w.heap.size + 1) (.slice (some ⟨w1.heap.size, 0, none⟩) 1 1) ((DataW.map []).put (kl (p : Int) ((q : Int) + 1)) (.held (.bool true))) [(p, q)] [(p, q)] := by
    refine ⟨freshIn_one w1 _ (p, q) s1, (RowMap.ext hown (Ext.alloc1 _ _)), ?_, ?_, x1.alloc _, by omega, Nat.le_trans s1 (Ext.alloc1 _ _).size⟩
    · have hp := (MapOf.empty yes).put (p := p) (q := q) (v := .bool true) (by omega) rfl
      exact hp.congr (fun a b => by rw [show inL [(p, q)] a b = inL ([] ++ [(p, q)]) a b from rfl, inL_snoc]; simp [inL]) (fun _ _ _ => rfl)
    · rw [Maps.size_put (hm0.tidy instKeyed)]
      rfl
  have HCW := Lib.hid hcw
  have HCO := Lib.hid (Com.start (n := n) (T := T) (x0 := (p, q)) (show p < 5 ∧ q < 6 by omega))
  obtain ⟨b, hb⟩ : ∃ b, b = w.heap.size + 1 := ⟨_, rfl⟩
  clear hm hd hli hg hc hown hgrow xa x1 s1 hcw hm0
  go_enter Try.func47, Try.ntmps47
  go_wp2
  rw [← hb] at HCW ⊢
  clear hrun hb hmm c0 c1
  go_loopw [6] (fun lv wr => ∃ (L M : List (Nat × Nat)) (D : DataW Value), Hid (CW w wr b lv D M L) ∧ Hid (Com n T (p, q) M L) ∧ Hid L.Nodup) (fun lv wr => 2 * (31 - entriesOf wr b) + lenOf lv)
  case atStart => exact ⟨_, _, _, HCW, HCO, Lib.hid (by simp)⟩
  case round =>
    clear HCW HCO
    obtain ⟨L, M, D', HW, HI, HNO⟩ := hrel
    rcases List.eq_nil_or_concat L with rfl | ⟨L', y, rfl⟩
    · have hnil : u6 = .slice none 0 0 ∨ ∃ g cap, u6 = .slice (some ⟨g, 0, none⟩) 0 cap := by
        rcases HW.out.fm.2 with ⟨h, _⟩ | ⟨g, cap, cur, h, _⟩
        · exact .inl h
        · exact .inr ⟨g, cap, h⟩
      have HALL := Lib.hid HI.out.all
      have HBD := Lib.hid HI.out.bnd
      have HMM : Hid (RowMap wr b 30 D') := Lib.hid (HW.out.mm.mono HI.out.few)
      have HMD := Lib.hid HW.out.md
      have HLO := Lib.hid HW.out.lo
      have HX := Lib.hid HW.out.ext
      clear HW HI
      rcases hnil with rfl | ⟨g, cap, rfl⟩
      all_goals
        go_wp2
        go_ret
        exact ⟨b, D', M, rfl, HMM.out, HMD.out, HALL.out, HBD.out, HLO.out, HX.out⟩
    · obtain ⟨g, cap, rfl, hcap, hcm⟩ := HW.out.fm.some_ (by simp)
      have e1 : (L' ++ [y]).length = L'.length + 1 := by simp
      have hWL := HW.out.fm
      rw [List.concat_eq_append] at HI hWL
      have HI0 := Lib.hid HI.out.pop
      have HP0 := Lib.hid HI0.out
      obtain ⟨l, hl⟩ : ∃ l, l = L'.length := ⟨_, rfl⟩
      have hfm : FreshIn (b + 1) wr (.slice (some ⟨g, 0, none⟩) (l + 1) cap) (L' ++ [y]) := by
        have h := hWL
        rw [e1] at h
        rw [hl]; exact h
      rw [List.length_concat, ← hl] at hcap ⊢
      obtain ⟨y0, y1⟩ := hfm.two (by rw [e1, hl]) (j := l) (y := y) (by rw [hl]; simp)
      have hfp : FreshIn (b + 1) wr (.slice (some ⟨g, 0, none⟩) l cap) L' := by
        have h := hfm
        rw [hl] at h ⊢
        exact h.pop
      have hnod : (L' ++ [y]).Nodup := by
        have h := HNO.out
        rw [List.concat_eq_append] at h
        exact h
      have HNO1 : Hid L'.Nodup := Lib.hid (List.nodup_append.1 hnod).1
      have hll : l ≤ 30 := by
        rw [hl]
        exact few_of HNO1.out (fun z hz => HI0.out.bnd z (HI0.out.sub z hz))
      have hy5 := HI0.out.bnd y HI0.out.here
      obtain ⟨d, ad, cd, hlk, hints, hnl, hdl, hdd⟩ := nextRow (HM.out.ext HW.out.ext) HD.out (HLI.out.ext HW.out.ext) HG.out hy5
      have HWP : Hid (CW w wr b (.slice (some ⟨g, 0, none⟩) l cap) D' M L') := Lib.hid ⟨hfp, HW.out.mm, HW.out.md, HW.out.sz, HW.out.ext, HW.out.lo, HW.out.hi⟩
      have HEN := Lib.hid (entries_eq HW.out.mm)
      have HNL := Lib.hid hnl
      have HIN := Lib.hid hints
      have HDL := Lib.hid hdl
      have HDD := Lib.hid hdd
      have HLE : Hid (L'.length = l) := Lib.hid hl.symm
      have HSZ := Lib.hid HW.out.sz
      unfold maxLen at hcm
      clear HW HI hWL hfm hfp e1 hnl hints hdl hdd HP0 hl hnod HNO
      go_wp2_with fail
      refine (hungOn_any d d.s _ _ (HIN.out.ext (Ext.alloc1 _ _)) HDL.out HDD.out).mono ?_
      rintro e w6 ⟨pv, rfl, fp6, x6⟩
      have hxa : Ext wr w6 := (Ext.alloc1 _ _).trans x6
      have HP6 : Hid (PA w6 b (.slice (some ⟨g, 0, none⟩) l cap) pv (hungL d)) := Lib.hid (PA.of (wr := wr.alloc (.cells #[.int .i64 d.b, .int .i64 d.v, .int .i64 d.st, .int .i64 d.k, .int .i64 d.i, .int .i64 d.f, .int .i64 d.t, .int .i64 d.a, .int .i64 d.s, .slice ad d.l.length cd] 69)) fp6 (HWP.out.fm.ext (Ext.alloc1 _ _)) (Nat.le_trans HWP.out.hi (Ext.alloc1 _ _).size))
      have HW6 := Lib.hid (HWP.out.on hxa)
      obtain ⟨P, hP⟩ : ∃ P, P = hungL d := ⟨_, rfl⟩
      have HPN : Hid (nextL n T y = P) := Lib.hid (by rw [hP]; exact HNL.out)
      rw [← hP] at HP6 fp6
      obtain ⟨ap, cp, rfl, hlp, _, _⟩ := fp6.at
      obtain ⟨m, hm⟩ : ∃ m, m = P.length := ⟨_, rfl⟩
      have hm36 : m ≤ 1000 := by
        rw [hm, hP]
        have h1 := hungTo_len (r := d) (fun k => by have := HDD.out k; unfold depM; omega) d.l.length
        have h2 := HDL.out
        show (hungTo d d.l.length).length ≤ 1000
        omega
      rw [← hm] at HP6 ⊢
      have HMP := Lib.hid hm
      obtain ⟨m0, hm0⟩ : ∃ m0, m0 = 2 * (31 - M.length) + l := ⟨_, rfl⟩
      have HM0 : Hid (m0 + 1 ≤ 2 * (31 - entriesOf wr b) + (l + 1)) := Lib.hid (by rw [HEN.out, HSZ.out, hm0]; omega)
      have HST : Hid (2 * (31 - M.length) + L'.length ≤ m0) := Lib.hid (by rw [hm0, HLE.out]; exact Nat.le_refl _)
      clear fp6 x6 hxa hP hm hm0 y0 y1 hlk HWP HEN HNL HIN HDL HDD HSZ hlp hy5 hcap hcm
      go_wp2
      go_loopw [6, 35] (fun lv j wr => ∃ (t : Nat) (L M : List (Nat × Nat)) (D : DataW Value), j = .int .i64 t ∧ t ≤ m ∧ Hid (CW w wr b lv D M L) ∧ Hid (ComI n T (p, q) y t M L) ∧ Hid (PA wr b lv (.slice ap m cp) P) ∧ Hid L.Nodup ∧ Hid (2 * (31 - M.length) + L.length ≤ m0)) (fun _ j _ => m - (intOf j).toNat)
      case atStart => exact ⟨0, L', M, D', rfl, Nat.zero_le _, HW6, HI0, HP6, HNO1, HST⟩
      case round =>
        clear HI0 HP6 HNO1 HST HW6 HLE
        obtain ⟨t, L, M, D', rfl, ht, HW, HI, HP, HNO, HMS⟩ := hrel
        by_cases htm : t < m
        · have htp : t < P.length := by rw [← HMP.out]; exact htm
          obtain ⟨z, hz⟩ : ∃ z, P[t]? = some z := ⟨_, List.getElem?_eq_getElem htp⟩
          obtain ⟨gp, cp', hvp, _, _⟩ := HP.out.fp.some_ (by omega)
          simp only [Value.slice.injEq] at hvp
          obtain ⟨rfl, hvn, hvk⟩ := hvp
          subst hvk
          clear hvn
          obtain ⟨z0, z1⟩ := HP.out.fp.two HMP.out.symm hz
          have HZN : Hid ((nextL n T y)[t]? = some z) := Lib.hid (by rw [HPN.out]; exact hz)
          have hzb := nextL_in HG.out (List.mem_of_getElem? HZN.out)
          have HW1 := Lib.hid (HW.out.on (Ext.alloc1 wr (.cells #[.int .i64 z.1, .int .i64 ((z.2 : Int) + 1)] 80)))
          have HP1 := Lib.hid (HP.out.on (Ext.alloc1 wr (.cells #[.int .i64 z.1, .int .i64 ((z.2 : Int) + 1)] 80)))
          have HB1 : Hid (b < wr.heap.size) := Lib.hid HW.out.hi
          have hlk2 := lookB HW1.out.mm HW1.out.md hzb
          have HF := Lib.hid HI.out.few
          clear hz HW HP
          by_cases hzm : z ∈ M
          · rw [decide_eq_true hzm] at hlk2
            have HIN := Lib.hid (HI.out.old HZN.out hzm)
            clear hzm HI
            go_wp2
            go_roundw
            case rel => exact ⟨t + 1, L, M, D', by go_num, by omega, HW1, HIN, HP1, HNO, HMS⟩
            case measure => simp [intOf]; omega
          · rw [decide_eq_false hzm] at hlk2
            have HIN := Lib.hid (HI.out.new HZN.out hzm hzb)
            have HZM := Lib.hid hzm
            have hLb : L.length ≤ 30 := few_of HNO.out (fun x hx => HI.out.bnd x (HI.out.sub x hx))
            have HLB := Lib.hid hLb
            have HNO2 : Hid (L ++ [z]).Nodup := Lib.hid (List.nodup_append.2 ⟨HNO.out, by simp, fun a ha b' hb' e => by
              obtain rfl : b' = z := by simpa using hb'
              subst e
              exact hzm (HI.out.sub _ ha)⟩)
            have HMS2 : Hid (2 * (31 - (M ++ [z]).length) + (L ++ [z]).length ≤ m0) := Lib.hid (by
              have h1 := HMS.out
              have h2 := HIN.out.few
              simp only [List.length_append, List.length_cons, List.length_nil] at h2 ⊢
              omega)
            have hbw : wr.heap.size ≠ b := by have h4 := HB1.out; omega
            have HBW := Lib.hid hbw
            clear hzm HI hLb hbw HNO HMS
            go_wp2_with (at_mapUpdate; refine wpList_mapUpdate_own _ rfl _ _ _ 82 rfl 80 4 instKeyed Try.underlying82 asIs b M.length D' rfl HW1.out.mm (by have := HF.out; unfold maxLen; omega) _ _ (kl (z.1 : Int) ((z.2 : Int) + 1)) rfl rfl (keyOf_inst (wf_small (by omega) (by omega)) (wf_small (by omega) (by omega))) (.held (.bool true)) [] rfl ?_)
            intro w7 hown7 hgrow7
            have HW7 := Lib.hid (HW1.out.upd HZM.out hzb hown7 hgrow7)
            have HP7 := Lib.hid (HP1.out.upd hgrow7)
            have k0 : w7.cell? ⟨wr.heap.size, 0, none⟩ = some (.int .i64 z.1) := grown_cell hgrow7 HBW.out (by simp) (by go_simp)
            have k1 : w7.cell? ⟨wr.heap.size, 1, none⟩ = some (.int .i64 ((z.2 : Int) + 1)) := grown_cell hgrow7 HBW.out (by simp) (by go_simp)
            have HW8 := Lib.hid (HW7.out.on (Ext.alloc1 w7 (.cells #[.int .i64 z.1, .int .i64 ((z.2 : Int) + 1)] 80)))
            have HP8 := Lib.hid (HP7.out.on (Ext.alloc1 w7 (.cells #[.int .i64 z.1, .int .i64 ((z.2 : Int) + 1)] 80)))
            have HLL : Hid (L.length ≤ 1048576) := Lib.hid (by have := HLB.out; omega)
            clear hown7 hgrow7 HW7 HP7 HW1 HP1 hlk2
            go_wp2_with (at_builtin; refine wpList_pushIAt rfl _ _ rfl (b + 1) _ L z rfl HW8.out.fm w7.heap.size 1 rfl (by go_simp) (by go_simp) HLL.out HW8.out.hi ?_)
            intro v9 w9 f9 g9 k9 loc9
            have loc9' : v9.ownBlock = u6.ownBlock ∨ v9.ownBlock = some (w7.alloc (.cells #[.int .i64 z.1, .int .i64 ((z.2 : Int) + 1)] 80)).heap.size := by rw [World.size_alloc]; simpa using loc9
            have HW9 := Lib.hid (HW8.out.push f9 g9 k9)
            have HP9 := Lib.hid (HP8.out.push g9 loc9')
            clear f9 g9 k9 loc9 loc9' HW8 HP8 k0 k1
            go_wp2
            go_roundw
            case rel => exact ⟨t + 1, _, _, _, by go_num, by omega, HW9, HIN, HP9, HNO2, HMS2⟩
            case measure => simp [intOf]; omega
        · obtain rfl : t = m := by omega
          have HIC := Lib.hid (HI.out.close (by rw [HPN.out, ← HMP.out]; exact Nat.le_refl _))
          obtain ⟨l1, hl1⟩ : ∃ l1, l1 = L.length := ⟨_, rfl⟩
          have hu : lenOf u6 = l1 := by
            rw [hl1]
            rcases HW.out.fm.2 with ⟨rfl, h⟩ | ⟨g, cap, cur, rfl, _⟩
            · exact h.symm
            · rfl
          have HU := Lib.hid hu
          have HL1 := Lib.hid hl1
          have HEN := Lib.hid (entries_eq HW.out.mm)
          clear hu hl1 HI HP
          go_wp2
          go_roundw
          case rel => exact ⟨L, M, D', HW, HIC, HNO⟩
          case measure =>
            have h1 := HEN.out
            have h2 := HW.out.sz
            have h3 := HMS.out
            have h4 := HM0.out
            have h5 := HL1.out
            have h6 := HU.out
            have h7 : lenOf (.slice (some ⟨g, 0, none⟩) (l + 1) cap) = l + 1 := rfl
            first | (simp only [h6, h7]; omega) | (rw [h6]; show _ < 2 * (31 - entriesOf _ b) + (l + 1); omega)
end Go.Proofs.Ytjfnkcohpffigaa

namespace Go.Proofs.Ytjfnkcohpffigaa
open Go.RowKit Go.Maps
set_option linter.unusedVariables false

/-- Rows of two numbers each in new memory. -/
def PRows (B : Nat) (w : World) (vs : List Value) (L : List (Nat × Nat)) : Prop :=
  vs.length = L.length ∧ ∀ (j : Nat) (u : Value) (x : Nat × Nat), vs[j]? = some u → L[j]? = some x → Fresh B w u (pairOf x)
theorem PRows.nil (B : Nat) (w : World) : PRows B w [] [] := ⟨rfl, fun j u x h => by simp at h⟩
theorem PRows.ext {B : Nat} {w w' : World} {vs : List Value} {L : List (Nat × Nat)} (h : PRows B w vs L) (e : Ext w w') : PRows B w' vs L := ⟨h.1, fun j u x hu hx => (h.2 j u x hu hx).ext e⟩
theorem PRows.more {B B' : Nat} {w : World} {vs : List Value} {L : List (Nat × Nat)} (h : PRows B w vs L) (hb : B' ≤ B) : PRows B' w vs L := ⟨h.1, fun j u x hu hx => (h.2 j u x hu hx).more hb⟩
theorem fresh_apart {B B' : Nat} {w : World} {v u : Value} {vs : List Value} {l : List Int} (h : FreshV B w v vs) (k : Fresh B' w u l) : u.ownBlock = none ∨ u.ownBlock ≠ v.ownBlock := by
  unfold FreshV at h
  unfold Fresh at k
  exact types_apart h k (by decide)
theorem PRows.kept {B B' : Nat} {w w' : World} {vs ms : List Value} {mv : Value} {L : List (Nat × Nat)} (h : PRows B w vs L) (hm : FreshV B' w mv ms) (g : w.grownBy w' mv.ownBlock) : PRows B w' vs L :=
  ⟨h.1, fun j u x hu hx => World.ownsRow.kept (h.2 j u x hu hx) g (fresh_apart hm (h.2 j u x hu hx))⟩
theorem PRows.snoc {B : Nat} {w : World} {vs : List Value} {L : List (Nat × Nat)} {u : Value} {x : Nat × Nat} (h : PRows B w vs L) (hu : Fresh B w u (pairOf x)) : PRows B w (vs ++ [u]) (L ++ [x]) := by
  refine ⟨by simp [h.1], fun j z y hz hy => ?_⟩
  by_cases hj : j < vs.length
  · rw [List.getElem?_append_left hj] at hz
    rw [List.getElem?_append_left (by rw [← h.1]; exact hj)] at hy
    exact h.2 j z y hz hy
  · rw [List.getElem?_append_right (by omega)] at hz
    rw [List.getElem?_append_right (by rw [← h.1]; omega)] at hy
    have hj' : j - vs.length = 0 := by
      have := (List.getElem?_eq_some_iff.1 hz).1
      simp at this; omega
    rw [hj'] at hz
    rw [← h.1, hj'] at hy
    simp at hz hy
    subst hz hy
    exact hu
theorem PRows.ins {B : Nat} {w : World} {vs : List Value} {L : List (Nat × Nat)} {xv : Value} {x : Nat × Nat} (h : PRows B w vs L) (hx : Fresh B w xv (pairOf x)) : PRows B w (vs.take (insK L x) ++ [xv] ++ vs.drop (insK L x)) (insL L x) := by
  have hk : insK L x ≤ L.length := insAt_le L x _
  refine ⟨?_, ?_⟩
  · unfold insL
    simp only [List.length_append, List.length_take, List.length_drop, h.1]
    rfl
  · intro j u y hu hy
    unfold insL at hy
    have hlt : (vs.take (insK L x)).length = insK L x := by rw [List.length_take, h.1]; omega
    have hlt2 : (L.take (insK L x)).length = insK L x := by rw [List.length_take]; omega
    rw [List.append_assoc] at hu hy
    by_cases h1 : j < insK L x
    · rw [List.getElem?_append_left (by omega), List.getElem?_take, if_pos h1] at hu hy
      exact h.2 j u y hu hy
    · rw [List.getElem?_append_right (by omega)] at hu hy
      rw [hlt] at hu
      rw [hlt2] at hy
      by_cases h2 : j - insK L x = 0
      · rw [h2] at hu hy
        obtain rfl : xv = u := by simpa using hu
        obtain rfl : x = y := by simpa using hy
        exact hx
      · obtain ⟨i, hi⟩ : ∃ i, j - insK L x = i + 1 := ⟨j - insK L x - 1, by omega⟩
        rw [hi, List.singleton_append, List.getElem?_cons_succ, List.getElem?_drop] at hu hy
        exact h.2 _ u y hu hy
theorem PRows.at {B : Nat} {w : World} {v : Value} {vs : List Value} {L : List (Nat × Nat)} (f : FreshV B w v vs) (h : PRows B w vs L) : PairsAt w v vs L :=
  ⟨h.1, f.vals, fun j u x hu hx => (h.2 j u x hu hx).ints⟩
theorem PairsAt.intss {w : World} {v : Value} {vs : List Value} {L : List (Nat × Nat)} (h : PairsAt w v vs L) : Intss w v (L.map pairOf) := by
  rcases h.reads with ⟨rfl, rfl⟩ | ⟨b, off, cap, rfl, h1, h2, h3⟩
  · obtain rfl : L = [] := List.eq_nil_of_length_eq_zero h.len.symm
    exact Intss.nil w
  · refine ⟨some ⟨b, off, none⟩, cap, by rw [List.length_map, h.len], by rw [List.length_map, ← h.len]; omega, ⟨by rw [List.length_map, ← h.len]; omega, h2, fun e => by cases e⟩, fun _ => ⟨b, off, rfl, fun j hj => ?_⟩⟩
    rw [List.length_map] at hj
    have hv : vs[j]? = some (vs[j]'(by rw [h.len]; exact hj)) := List.getElem?_eq_getElem _
    have hL : L[j]? = some L[j] := List.getElem?_eq_getElem hj
    refine ⟨_, h3 j _ hv, ?_⟩
    rw [List.getElem?_map, hL, Option.map_some, Option.getD_some]
    exact h.row j _ _ hv hL

/-- The met ones mv and the blockers ov, as the pairs of s. -/
structure BW (wb wr : World) (mv ov : Value) (ms os : List Value) (s : List (Nat × Nat) × List (Nat × Nat)) : Prop where
  fm : FreshV wb.heap.size wr mv ms
  fo : FreshV wb.heap.size wr ov os
  rm : PRows wb.heap.size wr ms s.1
  ro : PRows wb.heap.size wr os s.2
  ap : ov.ownBlock = none ∨ ov.ownBlock ≠ mv.ownBlock
  ext : Ext wb wr
/-- .. and the list dv, of the pairs P. -/
structure DW (wb wr : World) (mv dv : Value) (ds : List Value) (P : List (Nat × Nat)) : Prop where
  fd : FreshV wb.heap.size wr dv ds
  rd : PRows wb.heap.size wr ds P
  ap : dv.ownBlock = none ∨ dv.ownBlock ≠ mv.ownBlock
theorem BW.on {wb wr w' : World} {mv ov : Value} {ms os : List Value} {s : List (Nat × Nat) × List (Nat × Nat)} (h : BW wb wr mv ov ms os s) (e : Ext wr w') : BW wb w' mv ov ms os s :=
  ⟨h.fm.ext e, h.fo.ext e, h.rm.ext e, h.ro.ext e, h.ap, h.ext.trans e⟩
theorem DW.on {wb wr w' : World} {mv dv : Value} {ds : List Value} {P : List (Nat × Nat)} (h : DW wb wr mv dv ds P) (e : Ext wr w') : DW wb w' mv dv ds P := ⟨h.fd.ext e, h.rd.ext e, h.ap⟩
theorem ap_new {B B' : Nat} {w : World} {mv mv' ov : Value} {os : List Value} (h : ov.ownBlock = none ∨ ov.ownBlock ≠ mv.ownBlock) (fo : FreshV B w ov os) (loc : mv'.ownBlock = mv.ownBlock ∨ mv'.ownBlock = some B') (hB : w.heap.size ≤ B') : ov.ownBlock = none ∨ ov.ownBlock ≠ mv'.ownBlock := by
  rcases loc with e | e
  · rw [e]; exact h
  · rw [e]
    refine .inr fun hb => ?_
    have := (World.ownsRow.lt fo _ hb).2
    omega
theorem BW.meet {wb W w' : World} {mv mv' ov u : Value} {ms os : List Value} {s : List (Nat × Nat) × List (Nat × Nat)} {x : Nat × Nat} (h : BW wb W mv ov ms os s) (hu : Fresh wb.heap.size W u (pairOf x))
    (f : FreshV wb.heap.size w' mv' (ms ++ [u])) (g : W.grownBy w' mv.ownBlock) (k : Kept wb.heap.size W w') (loc : mv'.ownBlock = mv.ownBlock ∨ mv'.ownBlock = some W.heap.size) : BW wb w' mv' ov (ms ++ [u]) os (s.1 ++ [x], s.2) :=
  ⟨f, World.ownsRow.kept h.fo g h.ap, (h.rm.kept h.fm g).snoc (World.ownsRow.kept hu g (fresh_apart h.fm hu)), h.ro.kept h.fm g, ap_new h.ap h.fo loc (Nat.le_refl _), k wb h.ext (Nat.le_refl _)⟩
theorem DW.meet {wb W w' : World} {mv mv' dv : Value} {ms ds : List Value} {P : List (Nat × Nat)} (h : DW wb W mv dv ds P) (fm : FreshV wb.heap.size W mv ms) (g : W.grownBy w' mv.ownBlock) (loc : mv'.ownBlock = mv.ownBlock ∨ mv'.ownBlock = some W.heap.size) : DW wb w' mv' dv ds P :=
  ⟨World.ownsRow.kept h.fd g h.ap, h.rd.kept fm g, ap_new h.ap h.fd loc (Nat.le_refl _)⟩
theorem BW.block {wb W w' : World} {mv ov ov' u : Value} {ms os : List Value} {s : List (Nat × Nat) × List (Nat × Nat)} {x : Nat × Nat} (h : BW wb W mv ov ms os s) (hu : Fresh wb.heap.size W u (pairOf x))
    (f : FreshV W.heap.size w' ov' (os.take (insK s.2 x) ++ [u] ++ os.drop (insK s.2 x))) (e : Ext W w') : BW wb w' mv ov' ms (os.take (insK s.2 x) ++ [u] ++ os.drop (insK s.2 x)) (s.1, insL s.2 x) :=
  ⟨h.fm.ext e, f.more h.ext.size, h.rm.ext e, (h.ro.ext e).ins (hu.ext e), by
    cases ho : ov'.ownBlock with
    | none => exact .inl rfl
    | some g =>
      refine .inr fun hm => ?_
      have h1 := (World.ownsRow.lt f g ho).1
      have h2 := (World.ownsRow.lt h.fm g hm.symm).2
      omega, h.ext.trans e⟩
/-- A list that was made behind the met ones. -/
theorem DW.of {wb W w' : World} {mv dv : Value} {ms : List Value} {P : List (Nat × Nat)} (fm : FreshV wb.heap.size W mv ms) (hB : wb.heap.size ≤ W.heap.size) (f : FreshSS W.heap.size w' dv (P.map pairOf)) : ∃ ds, DW wb w' mv dv ds P := by
  obtain ⟨ds, h1, h2⟩ := f.vals
  refine ⟨ds, h1.more hB, ⟨by rw [h2.len, List.length_map], fun j u x hu hx => (h2.row j u _ hu (by rw [List.getElem?_map, hx]; rfl)).more hB⟩, ?_⟩
  cases ho : dv.ownBlock with
  | none => exact .inl rfl
  | some g =>
    refine .inr fun hm => ?_
    have h1 := (World.ownsRow.lt h1 g ho).1
    have h2 := (World.ownsRow.lt fm g hm.symm).2
    omega

theorem BW.start (wb : World) (p q : Nat) : BW wb ((wb.alloc (.cells #[.int .i64 p, .int .i64 ((q : Int) + 1)] 3)).alloc (.cells #[.slice (some ⟨wb.heap.size, 0, none⟩) 2 2] 46)) (.slice (some ⟨wb.heap.size + 1, 0, none⟩) 1 1) (.slice none 0 0) [.slice (some ⟨wb.heap.size, 0, none⟩) 2 2] [] ([(p, q)], []) := by
  refine ⟨?_, FreshV.nil _ _, ⟨rfl, fun j u x hu hx => ?_⟩, PRows.nil _ _, .inl rfl, Ext.alloc2 _ _ _⟩
  · have h := World.ownsRow_lit (base := wb.heap.size) (e := 46) (size := 1) (wb.alloc (.cells #[.int .i64 p, .int .i64 ((q : Int) + 1)] 3)) #[.slice (some ⟨wb.heap.size, 0, none⟩) 2 2] 1 (by simp) (by unfold maxLen; omega) (by simp)
    simpa [FreshV] using h
  · match j, hu, hx with
    | 0, hu, hx =>
      simp at hu hx
      subst hu hx
      exact (fresh_lit wb (pairOf (p, q)) #[.int .i64 p, .int .i64 ((q : Int) + 1)] wb.heap.size rfl (Nat.le_refl _) (by simp [pairOf])).ext (Ext.alloc1 _ _)
theorem BlkB.start {p q : Nat} (h : p < 5 ∧ q < 6) : BlkB ([(p, q)], []) :=
  ⟨by simp, by simp, fun z hz => by
    obtain rfl : z = (p, q) := by simpa using hz
    exact h, fun z hz => by cases hz⟩

/-- append(s, x), s of lists and of the call's own: and where the new slice lies. -/
theorem wpList_pushVAt {ops : Array Oper} {rest : List Oper} {o : Oper} {a : Act} {Q : Exit → Act → World → Prop} {w : World} (hgd : o.guard = none) (s x : Operand)
    (ho : o.op = .call { callee := .builtin .append, args := #[s, x], argTypes := #[26, 26] })
    (B : Nat) (v : Value) (vs : List Value) (hs : a.eval s = v) (hf : FreshV B w v vs) (u : Value) (ad : Addr) (c : Nat) (hx : a.eval x = .slice (some ad) 1 c)
    (hc : w.cell? ad = some u) (h1 : u.oneCell' = true) (hl : vs.length ≤ 1048576) (hB : B ≤ w.heap.size)
    (h : ∀ v' w', FreshV B w' v' (vs ++ [u]) → w.grownBy w' v.ownBlock → Kept B w w' → (v'.ownBlock = v.ownBlock ∨ v'.ownBlock = some w.heap.size) → wpList Try.prog ops Q rest (a.put o.dst v') w') : wpList Try.prog ops Q (o :: rest) a w := by
  obtain ⟨i0, hi, hz0, hz1, hz2⟩ := info_parts Try.infoInts
  refine wpList_append_own_at _ hgd s x 26 ho B 46 i0 (.slice none 0 0) 1 24 Try.underlying26 hi hz0 hz1 hz2 rfl (by decide) v vs.length _ hs hf ad 1 c [u] hx rfl ?_ ?_ ?_ ?_ hB ?_
  · intro j z hj
    match j, hj with
    | 0, hj => simp at hj; subst hj; simpa [Addr.add] using hc
  · intro z hz; simp at hz; subst hz; exact h1
  · unfold maxLen; omega
  · omega
  · intro v' w' ho' hg _ hloc
    exact h v' w' (by unfold FreshV; simpa using ho') hg (fun q hq hqB => Below.grown hq hg hq.size (fun b hb => Nat.le_trans hqB (World.ownsRow.lt hf b hb).1)) hloc
end Go.Proofs.Ytjfnkcohpffigaa

namespace Go.Proofs.Ytjfnkcohpffigaa
open Go.RowKit
set_option linter.unusedVariables false

/-- Where a list stands first, or -1. -/
def FoundAt (L : List (List Int)) (x : List Int) (r : Int) : Prop :=
  (∃ k : Nat, r = (k : Int) ∧ L[k]? = some x ∧ ∀ i, i < k → L[i]? ≠ some x) ∨ (r = -1 ∧ x ∉ L)

set_option maxHeartbeats 1000000 in
theorem l6Find_any (v u : Value) (L : List (List Int)) (x : List Int) (w : World) (hv : Intss w v L) (hu : Ints w u x) :
    Calls Try.prog 51 #[v, u] w (fun e w' => ∃ r, e = .returned (.int .i64 r) ∧ FoundAt L x r ∧ Ext w w') := by
  have HU := Lib.hid hu
  obtain ⟨au, cu, rfl, _⟩ := hu
  obtain ⟨av, cv, rfl, hlv, _, hcv⟩ := hv
  unfold maxLen at hlv
  go_enter Try.func51, Try.ntmps51
  go_wp2
  go_loopw [9] (fun i wr => ∃ k : Nat, k ≤ L.length ∧ i = .int .i64 k ∧ Hid (∀ i, i < k → L[i]? ≠ some x) ∧ Hid (Ext w wr)) (fun i _ => L.length - (intOf i).toNat)
  case atStart => exact ⟨0, Nat.zero_le _, rfl, Lib.hid (fun _ h => by omega), Lib.hid (Ext.refl _)⟩
  case round =>
    obtain ⟨k, hk, rfl, HN, HX⟩ := hrel
    by_cases hlt : k < L.length
    · obtain ⟨bv, ov, rfl, dv⟩ := hcv (by omega)
      obtain ⟨z, hz, iz⟩ := dv k hlt
      rw [List.getElem?_eq_getElem hlt, Option.getD_some] at iz
      have gz := HX.out.cell hz
      have IZ := Lib.hid (iz.ext HX.out)
      obtain ⟨az, cz, rfl, _⟩ := iz
      clear dv hz hcv
      go_wp2_with fail
      refine (l1Same_any _ _ _ _ _ (HU.out.ext HX.out) IZ.out).mono ?_
      rintro e w1 ⟨rfl, x1⟩
      have X1 := Lib.hid (HX.out.trans x1)
      clear x1 gz
      by_cases he : x = L[k]
      · rw [decide_eq_true he]
        have HE := Lib.hid he
        clear he
        go_wp2
        go_ret
        exact ⟨_, rfl, .inl ⟨k, rfl, by rw [List.getElem?_eq_getElem hlt, HE.out], HN.out⟩, X1.out⟩
      · rw [decide_eq_false he]
        have HN2 : Hid (∀ i, i < k + 1 → L[i]? ≠ some x) := Lib.hid (fun i hi => by
          by_cases e : i = k
          · subst e
            rw [List.getElem?_eq_getElem hlt]
            exact fun e => he (Option.some.inj e).symm
          · exact HN.out i (by omega))
        clear he HN
        go_wp2
        go_roundw
        case rel => exact ⟨k + 1, by omega, by go_num, HN2, X1⟩
        case measure => simp [intOf]; omega
    · obtain rfl : k = L.length := by omega
      have hno : x ∉ L := fun hm => by
        obtain ⟨i, hi, e⟩ := List.getElem_of_mem hm
        exact HN.out i hi (by rw [List.getElem?_eq_getElem hi, e])
      have HNO := Lib.hid hno
      clear hno HN
      go_wp2
      go_ret
      exact ⟨_, rfl, .inr ⟨rfl, HNO.out⟩, HX.out⟩

end Go.Proofs.Ytjfnkcohpffigaa
