/- Texts of this proof, part m: words, plain facts, contracts. -/
import Derived.Test.YtkhdgmgacfhcgaaMReadyInl
import Derived.Test.YtkhdgmgacfhcgaaMReadyInj
import Derived.Test.YtkhdgmgacfhcgaaMReadyInk
import Derived.Deep.DeepCutAuto

namespace Go.Proofs.Ytkhdgmgacfhcgaa
open Go.RowKit Go.Maps
set_option linter.unusedVariables false

def inL (M : List (Nat × Nat)) (p q : Nat) : Bool := decide ((p, q) ∈ M)
theorem inL_snoc {M : List (Nat × Nat)} {z : Nat × Nat} (p q : Nat) : inL (M ++ [z]) p q = (inL M p q || (decide (p = z.1) && decide (q = z.2))) := by
  unfold inL
  rw [Bool.eq_iff_iff]
  simp [Prod.ext_iff]
def yes (_ _ : Nat) : Value := .bool true
theorem zeroBoolV (W : World) : (zeroValue 4).run Try.prog W = .ok (.bool false) W := by kernel_rfl
theorem lookB {W : World} {B n0 : Nat} {D : DataW Value} {M : List (Nat × Nat)} (hm : RowMap W B n0 D) (hd : MapOf D (inL M) yes) {z : Nat × Nat} (hl : z.1 < 5 ∧ z.2 < 6) :
    (Instr.lookup 66 (.map (some B)) (.agg #[.int .i64 z.1, .int .i64 ((z.2 : Int) + 1)]) false).run Try.prog W = .ok (.bool (decide (z ∈ M))) W := by
  obtain ⟨v, ps, hrun, hv⟩ := hm.lookup instKeyed Try.underlying66 (zeroBoolV W) (zd := .held _) (zp := []) rfl (keyOf_inst (a := z.1) (b := (z.2 : Int) + 1) (wf_small (by omega) (by omega)) (wf_small (by omega) (by omega)))
  by_cases h : z ∈ M
  · have hs : inL M z.1 z.2 = true := decide_eq_true h
    rw [hd.val z.1 z.2 hs] at hv
    simp only [asIs, Option.some.injEq, Prod.mk.injEq, DataW.held.injEq] at hv
    rw [hv.1] at hrun
    rw [decide_eq_true h]
    exact hrun
  · have hs : inL M z.1 z.2 = false := decide_eq_false h
    have hn := hd.hasNot (p := z.1) (q := z.2) (by omega) hs
    rw [Maps.atKey_of_not_has hn] at hv
    simp only [asIs, Option.some.injEq, Prod.mk.injEq, DataW.held.injEq] at hv
    rw [hv.1] at hrun
    rw [decide_eq_false h]
    exact hrun

/-- append(s, x), s of instances and of the call's own: and where the new slice lies. -/
theorem wpList_pushIAt {ops : Array Oper} {rest : List Oper} {o : Oper} {a : Act} {Q : Exit → Act → World → Prop} {w : World} (hgd : o.guard = none) (s x : Operand)
    (ho : o.op = .call { callee := .builtin .append, args := #[s, x], argTypes := #[45, 45] })
    (B : Nat) (v : Value) (L : List (Nat × Nat)) (y : Nat × Nat) (hs : a.eval s = v) (hf : FreshIn B w v L) (g : Nat) (c : Nat) (hx : a.eval x = .slice (some ⟨g, 0, none⟩) 1 c)
    (hc0 : w.cell? ⟨g, 0, none⟩ = some (.int .i64 (y.1 : Int))) (hc1 : w.cell? ⟨g, 1, none⟩ = some (.int .i64 ((y.2 : Int) + 1))) (hl : L.length ≤ 1048576) (hB : B ≤ w.heap.size)
    (h : ∀ v' w', FreshIn B w' v' (L ++ [y]) → w.grownBy w' v.ownBlock → Kept B w w' → (v'.ownBlock = v.ownBlock ∨ v'.ownBlock = some w.heap.size) → wpList Try.prog ops Q rest (a.put o.dst v') w') : wpList Try.prog ops Q (o :: rest) a w := by
  obtain ⟨i0, hi, hz0, hz1, hz2⟩ := info_parts Try.infoInst
  refine wpList_append_own_at _ hgd s x 45 ho B 64 i0 (.agg #[.int .i64 0, .int .i64 0]) 2 16 Try.underlying45 hi hz0 hz1 hz2 rfl (by decide) v L.length _ hs hf ⟨g, 0, none⟩ 1 c (cellsI y) hx rfl ?_ ?_ ?_ ?_ hB ?_
  · intro j u hj
    match j, hj with
    | 0, hj => simp [cellsI] at hj; subst hj; simpa [Addr.add] using hc0
    | 1, hj => simp [cellsI] at hj; subst hj; simpa [Addr.add] using hc1
  · intro u hu
    simp [cellsI] at hu
    rcases hu with rfl | rfl <;> rfl
  · unfold maxLen; omega
  · omega
  · intro v' w' ho' hg _ hloc
    refine h v' w' ?_ hg (fun w0 hx0 hB0 => Below.grown hx0 hg hx0.size (fun q hq => Nat.le_trans hB0 (World.ownsRow.lt hf q hq).1)) hloc
    unfold FreshIn
    have e : flatI (L ++ [y]) = flatI L ++ cellsI y := by simp [flatI]
    rw [e, List.length_append]
    exact ho'

/-- The slice without its last. -/
theorem FreshIn.pop {B : Nat} {w : World} {g cap : Nat} {L : List (Nat × Nat)} {y : Nat × Nat} (h : FreshIn B w (.slice (some ⟨g, 0, none⟩) (L.length + 1) cap) (L ++ [y])) : FreshIn B w (.slice (some ⟨g, 0, none⟩) L.length cap) L := by
  have h0 : w.ownsRow B 64 2 (.slice (some ⟨g, 0, none⟩) (L.length + 1) cap) (L ++ [y]).length (flatI (L ++ [y])) := h
  rcases h0.2 with ⟨hv, _⟩ | ⟨g', cap', cur, hv, hb, hg, hnc, hcm, hcs, htake⟩
  · cases hv
  · simp only [Value.slice.injEq, Option.some.injEq, Addr.mk.injEq, and_true] at hv
    obtain ⟨rfl, _, rfl⟩ := hv
    refine ⟨flatI_len L, .inr ⟨g, cap, cur, rfl, hb, hg, ?_, hcm, hcs, ?_⟩⟩
    · simp at hnc; omega
    · have e : flatI (L ++ [y]) = flatI L ++ cellsI y := by simp [flatI]
      rw [e] at htake
      have e2 : cur.toList.take (L.length * 2) = ((cur.toList.take ((L ++ [y]).length * 2)).take (L.length * 2)) := by
        rw [List.take_take, Nat.min_eq_left (by simp; omega)]
      rw [e2, htake, List.take_append_of_le_length (by rw [flatI_len]; exact Nat.le_refl _), List.take_of_length_le (by rw [flatI_len]; exact Nat.le_refl _)]

/-- What stands in memory: the map of the met ones in block b, those that wait in lv. -/
structure CW (w wr : World) (b : Nat) (lv : Value) (D : DataW Value) (M L : List (Nat × Nat)) : Prop where
  fm : FreshIn (b + 1) wr lv L
  mm : RowMap wr b M.length D
  md : MapOf D (inL M) yes
  sz : Maps.size D = M.length
  ext : Ext w wr
  lo : w.heap.size ≤ b
  hi : b + 1 ≤ wr.heap.size
theorem CW.on {w wr w' : World} {b : Nat} {lv : Value} {D : DataW Value} {M L : List (Nat × Nat)} (h : CW w wr b lv D M L) (e : Ext wr w') : CW w w' b lv D M L :=
  ⟨h.fm.ext e, h.mm.ext e, h.md, h.sz, h.ext.trans e, h.lo, Nat.le_trans h.hi e.size⟩
def lenOf : Value → Nat
  | .slice _ n _ => n
  | _ => 0

end Go.Proofs.Ytkhdgmgacfhcgaa

namespace Go.Proofs.Ytkhdgmgacfhcgaa
open Go.RowKit Go.Maps
set_option linter.unusedVariables false

/-- A map of what one comes to, in new memory. -/
def NewLed (n : Int) (T : List (List RowD)) (x0 : Nat × Nat) (w : World) (e : Ending) (w' : World) : Prop :=
  ∃ b D M, e = .returned (.map (some b)) ∧ RowMap w' b 30 D ∧ MapOf D (inL M) yes ∧ (∀ z, z ∈ M ↔ Led n T x0 z) ∧ (∀ z ∈ M, z.1 < 5 ∧ z.2 < 6) ∧ w.heap.size ≤ b ∧ Ext w w'

theorem nextRow {n : Int} {T : List (List RowD)} {U : Nat → Nat → Value} {B : Nat} {D : DataW Value} {W : World} (hm : RowMap W B 30 D) (hd : MapOf D (instCom T) (rowF n T U)) (hli : Lists W n T U) (hg : goodTab n T = true) {y : Nat × Nat} (hy : y.1 < 5 ∧ y.2 < 6) :
    ∃ (d : RowD) (a : Option Addr) (c : Nat), (Instr.lookup 54 (.map (some B)) (.agg #[.int .i64 y.1, .int .i64 ((y.2 : Int) + 1)]) false).run Try.prog W = .ok (.agg #[.int .i64 d.b, .int .i64 d.v, .int .i64 d.st, .int .i64 d.k, .int .i64 d.i, .int .i64 d.f, .int .i64 d.t, .int .i64 d.a, .int .i64 d.s, .slice a d.l.length c]) W ∧ Ints W (.slice a d.l.length c) d.l ∧ nextL n T y = hungL d ∧ d.l.length ≤ 5 ∧ ∀ k, 0 ≤ depI d k ∧ depI d k ≤ 6 := by
  cases hc : instCom T y.1 y.2 with
  | true =>
    have hyT := (com_row hg hc).2.2.1
    have hi := hli y.1 y.2 (instCom_inT hc)
    obtain ⟨a, c, hU, _⟩ := id hi
    refine ⟨rowOf n T y.1 y.2, a, c, ?_, ?_, by unfold nextL; rw [if_pos hc], rowOf_list hg hyT y.2, fun k => dep_in hg hyT y.2 k⟩
    · have h := look_inst hm hd hc
      unfold rowF rowV at h
      rw [hU] at h
      exact h
    · rw [← hU]; exact hi
  | false =>
    refine ⟨⟨0, 0, 0, 0, 0, 0, 0, 0, 0, []⟩, none, 0, ?_, Ints.nil W, ?_, by simp, fun k => by simp [depI]⟩
    · have hn := hd.hasNot (p := y.1) (q := y.2) (by omega) hc
      obtain ⟨v, ps, hrun, hv⟩ := hm.lookup instKeyed Try.underlying54 (zeroRow W) (zd := .held _) (zp := []) rfl (keyOf_inst (a := y.1) (b := (y.2 : Int) + 1) (wf_small (by omega) (by omega)) (wf_small (by omega) (by omega)))
      rw [Maps.atKey_of_not_has hn] at hv
      simp only [asIs, Option.some.injEq, Prod.mk.injEq, DataW.held.injEq] at hv
      rw [hv.1] at hrun
      exact hrun
    · unfold nextL
      rw [if_neg (by rw [hc]; simp)]
      rfl

/-- The list pv that is looked through, apart from those that wait. -/
structure PA (wr : World) (b : Nat) (lv pv : Value) (P : List (Nat × Nat)) : Prop where
  fp : FreshIn (b + 1) wr pv P
  ap : pv.ownBlock = none ∨ pv.ownBlock ≠ lv.ownBlock
theorem PA.on {wr w' : World} {b : Nat} {lv pv : Value} {P : List (Nat × Nat)} (h : PA wr b lv pv P) (e : Ext wr w') : PA w' b lv pv P := ⟨h.fp.ext e, h.ap⟩
theorem own_ne {B b : Nat} {w : World} {v : Value} {L : List (Nat × Nat)} (h : FreshIn B w v L) (hb : b < B) : v.ownBlock = none ∨ v.ownBlock ≠ some b := by
  cases hv : v.ownBlock with
  | none => exact .inl rfl
  | some k =>
    refine .inr fun e => ?_
    cases e
    have := (World.ownsRow.lt h _ hv).1
    omega
theorem CW.upd {w wr w' : World} {b : Nat} {lv : Value} {D : DataW Value} {M L : List (Nat × Nat)} {z : Nat × Nat} (h : CW w wr b lv D M L) (hz : z ∉ M) (hl : z.1 < 5 ∧ z.2 < 6)
    (hown : RowMap w' b (M.length + 1) (D.put (kl (z.1 : Int) ((z.2 : Int) + 1)) (.held (.bool true)))) (hgrow : wr.grownBy w' (some b)) : CW w w' b lv (D.put (kl (z.1 : Int) ((z.2 : Int) + 1)) (.held (.bool true))) (M ++ [z]) L := by
  have hn := h.md.hasNot (p := z.1) (q := z.2) (by omega) (show inL M z.1 z.2 = false from decide_eq_false hz)
  refine ⟨World.ownsRow.kept h.fm hgrow (own_ne h.fm (by omega)), by simpa using hown, ?_, ?_, h.ext.turned hgrow h.lo, h.lo, Nat.le_trans h.hi hgrow.size⟩
  · have hp := h.md.put (p := z.1) (q := z.2) (v := .bool true) (by omega) rfl
    exact hp.congr (fun p q => inL_snoc p q) (fun _ _ _ => rfl)
  · rw [Maps.size_put (h.mm.tidy instKeyed), hn, h.sz]
    simp
theorem PA.upd {wr w' : World} {b : Nat} {lv pv : Value} {P : List (Nat × Nat)} (h : PA wr b lv pv P) (hgrow : wr.grownBy w' (some b)) : PA w' b lv pv P := ⟨World.ownsRow.kept h.fp hgrow (own_ne h.fp (by omega)), h.ap⟩
theorem CW.push {w wr w' : World} {b : Nat} {lv lv' : Value} {D : DataW Value} {M L L' : List (Nat × Nat)} (h : CW w wr b lv D M L) (f : FreshIn (b + 1) w' lv' L') (g : wr.grownBy w' lv.ownBlock) (k : Kept (b + 1) wr w') : CW w w' b lv' D M L' :=
  ⟨f, h.mm.kept g (fun e => by have := (World.ownsRow.lt h.fm _ e.symm).1; omega), h.md, h.sz, k w h.ext (by have := h.lo; omega), h.lo, Nat.le_trans h.hi g.size⟩
theorem PA.push {wr w' : World} {b : Nat} {lv lv' pv : Value} {P : List (Nat × Nat)} (h : PA wr b lv pv P) (g : wr.grownBy w' lv.ownBlock) (loc : lv'.ownBlock = lv.ownBlock ∨ lv'.ownBlock = some wr.heap.size) : PA w' b lv' pv P := by
  refine ⟨World.ownsRow.kept h.fp g h.ap, ?_⟩
  rcases loc with e | e
  · rw [e]; exact h.ap
  · rw [e]
    refine .inr fun hb => ?_
    have := (World.ownsRow.lt h.fp _ hb).2
    omega
theorem PA.of {w6 wr : World} {b : Nat} {lv pv : Value} {P L : List (Nat × Nat)} (hp : FreshIn wr.heap.size w6 pv P) (hl : FreshIn (b + 1) wr lv L) (hb : b + 1 ≤ wr.heap.size) : PA w6 b lv pv P := by
  refine ⟨hp.more hb, ?_⟩
  cases ho : pv.ownBlock with
  | none => exact .inl rfl
  | some g =>
    refine .inr fun e => ?_
    have h1 := (World.ownsRow.lt hp g ho).1
    have h2 := (World.ownsRow.lt hl g e.symm).2
    omega
theorem freshIn_one (w : World) (B : Nat) (x : Nat × Nat) (hB : B ≤ w.heap.size) : FreshIn B (w.alloc (.cells #[.int .i64 x.1, .int .i64 ((x.2 : Int) + 1)] 64)) (.slice (some ⟨w.heap.size, 0, none⟩) 1 1) [x] := by
  have h := World.ownsRow_lit (base := B) (e := 64) (size := 2) w #[.int .i64 x.1, .int .i64 ((x.2 : Int) + 1)] 1 hB (by unfold maxLen; omega) (by simp)
  simpa [FreshIn, flatI, cellsI] using h
theorem FreshIn.some_ {B : Nat} {w : World} {v : Value} {L : List (Nat × Nat)} (h : FreshIn B w v L) (h0 : 0 < L.length) : ∃ g cap, v = .slice (some ⟨g, 0, none⟩) L.length cap ∧ L.length ≤ cap ∧ cap ≤ maxLen := by
  rcases h.2 with ⟨_, h1⟩ | ⟨g, cap, cur, hv, hb, hg, hnc, hcm, _⟩
  · omega
  · exact ⟨g, cap, hv, hnc, hcm⟩
theorem FreshIn.two {B : Nat} {w : World} {g n cap : Nat} {L : List (Nat × Nat)} (h : FreshIn B w (.slice (some ⟨g, 0, none⟩) n cap) L) (hn : L.length = n) {j : Nat} {y : Nat × Nat} (hy : L[j]? = some y) : w.cell? ⟨g, j * 2, none⟩ = some (.int .i64 (y.1 : Int)) ∧ w.cell? ⟨g, j * 2 + 1, none⟩ = some (.int .i64 ((y.2 : Int) + 1)) := by
  subst hn
  obtain ⟨hj, e⟩ := List.getElem?_eq_some_iff.1 hy
  have hc1 := World.ownsRow.cellAt h (j * 2) (by omega)
  have hc2 := World.ownsRow.cellAt h (j * 2 + 1) (by omega)
  obtain ⟨f1, f2⟩ := flatI_at hj
  rw [e] at f1 f2
  exact ⟨hc1.trans f1, hc2.trans f2⟩
end Go.Proofs.Ytkhdgmgacfhcgaa

namespace Go.Proofs.Ytkhdgmgacfhcgaa
open Go.RowKit Go.Maps
set_option linter.unusedVariables false

theorem grown_cell {w w' : World} {b : Nat} {a : Addr} {v : Value} (h : w.grownBy w' (some b)) (hne : a.block ≠ b) (hlt : a.block < w.heap.size) (hc : w.cell? a = some v) : w'.cell? a = some v := by
  have hb := h.block a.block hlt (by simpa using hne)
  unfold World.cell? at hc ⊢
  rw [hb]
  exact hc

set_option maxHeartbeats 8000000 in
set_option maxRecDepth 100000 in
theorem comesTo_any (n : Int) (T : List (List RowD)) (U : Nat → Nat → Value) (p q B : Nat) (D : DataW Value) (w : World) (hm : RowMap w B 30 D) (hd : MapOf D (instCom T) (rowF n T U)) (hli : Lists w n T U) (hg : goodTab n T = true) (hc : instCom T p q = true) :
    Calls Try.prog 33 #[.agg #[.int .i64 p, .int .i64 ((q : Int) + 1)], .map (some B)] w (NewLed n T (p, q) w) := by
  have HM := Lib.hid hm
  have HD := Lib.hid hd
  have HLI := Lib.hid hli
  have HG := Lib.hid hg
  have hlow := inT_low (goodTab_both hg).1 (goodTab_both hg).2 (instCom_inT hc)
  have hmm := @run_makeMap Try.prog
  have hm0 : RowMap ((w.alloc (.cells #[.int .i64 p, .int .i64 ((q : Int) + 1)] 64)).alloc (.map #[] 0)) (w.heap.size + 1) 0 (.map []) := by
    have h := World.ownsMap_made (w.alloc (.cells #[.int .i64 p, .int .i64 ((q : Int) + 1)] 64)) Try.prog 64 asIs
    simpa using h
  obtain ⟨w1, hrun, hown, hgrow⟩ := hm0.update instKeyed Try.underlying66 (by unfold maxLen; omega) (key := .agg #[.int .i64 p, .int .i64 ((q : Int) + 1)]) (val := .bool true) (kl := kl (p : Int) ((q : Int) + 1)) (d := .held (.bool true)) (ps := []) (keyOf_inst (wf_small (by omega) (by omega)) (wf_small (by omega) (by omega))) rfl
  have xa : Ext (w.alloc (.cells #[.int .i64 p, .int .i64 ((q : Int) + 1)] 64)) w1 := (Ext.alloc1 _ _).turned hgrow (by simp)
  have x1 : Ext w w1 := (Ext.alloc1 _ _).trans xa
  have s1 : w.heap.size + 1 + 1 ≤ w1.heap.size := by have := hgrow.size; simpa using this
  have c0 : w1.cell? ⟨w.heap.size, 0, none⟩ = some (.int .i64 p) := xa.cell (by go_simp)
  have c1 : w1.cell? ⟨w.heap.size, 1, none⟩ = some (.int .i64 ((q : Int) + 1)) := xa.cell (by go_simp)
  have hcw : CW w (w1.alloc (.cells #[.int .i64 p, .int .i64 ((q : Int) + 1)] 64)) (w.heap.size + 1) (.slice (some ⟨w1.heap.size, 0, none⟩) 1 1) ((DataW.map []).put (kl (p : Int) ((q : Int) + 1)) (.held (.bool true))) [(p, q)] [(p, q)] := by
    refine ⟨freshIn_one w1 _ (p, q) s1, (RowMap.ext hown (Ext.alloc1 _ _)), ?_, ?_, x1.alloc _, by omega, Nat.le_trans s1 (Ext.alloc1 _ _).size⟩
    · have hp := (MapOf.empty yes).put (p := p) (q := q) (v := .bool true) (by omega) rfl
      exact hp.congr (fun a b => by rw [show inL [(p, q)] a b = inL ([] ++ [(p, q)]) a b from rfl, inL_snoc]; simp [inL]) (fun _ _ _ => rfl)
    · rw [Maps.size_put (hm0.tidy instKeyed)]
      rfl
  have HCW := Lib.hid hcw
  have HCO := Lib.hid (Com.start (n := n) (T := T) (x0 := (p, q)) (show p < 5 ∧ q < 6 by omega))
  obtain ⟨b, hb⟩ : ∃ b, b = w.heap.size + 1 := ⟨_, rfl⟩
  clear hm hd hli hg hc hown hgrow xa x1 s1 hcw hm0
  go_enter Try.func33, Try.ntmps33
  go_wp2
  rw [← hb] at HCW ⊢
  clear hrun hb hmm c0 c1
  go_loopw [6] (fun lv wr => ∃ (L M : List (Nat × Nat)) (D : DataW Value), Hid (CW w wr b lv D M L) ∧ Hid (Com n T (p, q) M L) ∧ Hid L.Nodup) (fun lv wr => 2 * (31 - entriesOf wr b) + lenOf lv)
  case atStart => exact ⟨_, _, _, HCW, HCO, Lib.hid (by simp)⟩
  case round =>
    clear HCW HCO
    obtain ⟨L, M, D', HW, HI, HNO⟩ := hrel
    rcases List.eq_nil_or_concat L with rfl | ⟨L', y, rfl⟩
    · have hnil : u6 = .slice none 0 0 ∨ ∃ g cap, u6 = .slice (some ⟨g, 0, none⟩) 0 cap := by
        rcases HW.out.fm.2 with ⟨h, _⟩ | ⟨g, cap, cur, h, _⟩
        · exact .inl h
        · exact .inr ⟨g, cap, h⟩
      have HALL := Lib.hid HI.out.all
      have HBD := Lib.hid HI.out.bnd
      have HMM : Hid (RowMap wr b 30 D') := Lib.hid (HW.out.mm.mono HI.out.few)
      have HMD := Lib.hid HW.out.md
      have HLO := Lib.hid HW.out.lo
      have HX := Lib.hid HW.out.ext
      clear HW HI
      rcases hnil with rfl | ⟨g, cap, rfl⟩
      all_goals
        go_wp2
        go_ret
        exact ⟨b, D', M, rfl, HMM.out, HMD.out, HALL.out, HBD.out, HLO.out, HX.out⟩
    · obtain ⟨g, cap, rfl, hcap, hcm⟩ := HW.out.fm.some_ (by simp)
      have e1 : (L' ++ [y]).length = L'.length + 1 := by simp
      have hWL := HW.out.fm
      rw [List.concat_eq_append] at HI hWL
      have HI0 := Lib.hid HI.out.pop
      have HP0 := Lib.hid HI0.out
      obtain ⟨l, hl⟩ : ∃ l, l = L'.length := ⟨_, rfl⟩
      have hfm : FreshIn (b + 1) wr (.slice (some ⟨g, 0, none⟩) (l + 1) cap) (L' ++ [y]) := by
        have h := hWL
        rw [e1] at h
        rw [hl]; exact h
      rw [List.length_concat, ← hl] at hcap ⊢
      obtain ⟨y0, y1⟩ := hfm.two (by rw [e1, hl]) (j := l) (y := y) (by rw [hl]; simp)
      have hfp : FreshIn (b + 1) wr (.slice (some ⟨g, 0, none⟩) l cap) L' := by
        have h := hfm
        rw [hl] at h ⊢
        exact h.pop
      have hnod : (L' ++ [y]).Nodup := by
        have h := HNO.out
        rw [List.concat_eq_append] at h
        exact h
      have HNO1 : Hid L'.Nodup := Lib.hid (List.nodup_append.1 hnod).1
      have hll : l ≤ 30 := by
        rw [hl]
        exact few_of HNO1.out (fun z hz => HI0.out.bnd z (HI0.out.sub z hz))
      have hy5 := HI0.out.bnd y HI0.out.here
      obtain ⟨d, ad, cd, hlk, hints, hnl, hdl, hdd⟩ := nextRow (HM.out.ext HW.out.ext) HD.out (HLI.out.ext HW.out.ext) HG.out hy5
      have HWP : Hid (CW w wr b (.slice (some ⟨g, 0, none⟩) l cap) D' M L') := Lib.hid ⟨hfp, HW.out.mm, HW.out.md, HW.out.sz, HW.out.ext, HW.out.lo, HW.out.hi⟩
      have HEN := Lib.hid (entries_eq HW.out.mm)
      have HNL := Lib.hid hnl
      have HIN := Lib.hid hints
      have HDL := Lib.hid hdl
      have HDD := Lib.hid hdd
      have HLE : Hid (L'.length = l) := Lib.hid hl.symm
      have HSZ := Lib.hid HW.out.sz
      unfold maxLen at hcm
      clear HW HI hWL hfm hfp e1 hnl hints hdl hdd HP0 hl hnod HNO
      go_wp2_with fail
      refine (hungOn_any d d.s _ _ (HIN.out.ext (Ext.alloc1 _ _)) HDL.out HDD.out).mono ?_
      rintro e w6 ⟨pv, rfl, fp6, x6⟩
      have hxa : Ext wr w6 := (Ext.alloc1 _ _).trans x6
      have HP6 : Hid (PA w6 b (.slice (some ⟨g, 0, none⟩) l cap) pv (hungL d)) := Lib.hid (PA.of (wr := wr.alloc (.cells #[.int .i64 d.b, .int .i64 d.v, .int .i64 d.st, .int .i64 d.k, .int .i64 d.i, .int .i64 d.f, .int .i64 d.t, .int .i64 d.a, .int .i64 d.s, .slice ad d.l.length cd] 53)) fp6 (HWP.out.fm.ext (Ext.alloc1 _ _)) (Nat.le_trans HWP.out.hi (Ext.alloc1 _ _).size))
      have HW6 := Lib.hid (HWP.out.on hxa)
      obtain ⟨P, hP⟩ : ∃ P, P = hungL d := ⟨_, rfl⟩
      have HPN : Hid (nextL n T y = P) := Lib.hid (by rw [hP]; exact HNL.out)
      rw [← hP] at HP6 fp6
      obtain ⟨ap, cp, rfl, hlp, _, _⟩ := fp6.at
      obtain ⟨m, hm⟩ : ∃ m, m = P.length := ⟨_, rfl⟩
      have hm36 : m ≤ 1000 := by
        rw [hm, hP]
        have h1 := hungTo_len (r := d) (fun k => by have := HDD.out k; unfold depM; omega) d.l.length
        have h2 := HDL.out
        show (hungTo d d.l.length).length ≤ 1000
        omega
      rw [← hm] at HP6 ⊢
      have HMP := Lib.hid hm
      obtain ⟨m0, hm0⟩ : ∃ m0, m0 = 2 * (31 - M.length) + l := ⟨_, rfl⟩
      have HM0 : Hid (m0 + 1 ≤ 2 * (31 - entriesOf wr b) + (l + 1)) := Lib.hid (by rw [HEN.out, HSZ.out, hm0]; omega)
      have HST : Hid (2 * (31 - M.length) + L'.length ≤ m0) := Lib.hid (by rw [hm0, HLE.out]; exact Nat.le_refl _)
      clear fp6 x6 hxa hP hm hm0 y0 y1 hlk HWP HEN HNL HIN HDL HDD HSZ hlp hy5 hcap hcm
      go_wp2
      go_loopw [6, 35] (fun lv j wr => ∃ (t : Nat) (L M : List (Nat × Nat)) (D : DataW Value), j = .int .i64 t ∧ t ≤ m ∧ Hid (CW w wr b lv D M L) ∧ Hid (ComI n T (p, q) y t M L) ∧ Hid (PA wr b lv (.slice ap m cp) P) ∧ Hid L.Nodup ∧ Hid (2 * (31 - M.length) + L.length ≤ m0)) (fun _ j _ => m - (intOf j).toNat)
      case atStart => exact ⟨0, L', M, D', rfl, Nat.zero_le _, HW6, HI0, HP6, HNO1, HST⟩
      case round =>
        clear HI0 HP6 HNO1 HST HW6 HLE
        obtain ⟨t, L, M, D', rfl, ht, HW, HI, HP, HNO, HMS⟩ := hrel
        by_cases htm : t < m
        · have htp : t < P.length := by rw [← HMP.out]; exact htm
          obtain ⟨z, hz⟩ : ∃ z, P[t]? = some z := ⟨_, List.getElem?_eq_getElem htp⟩
          obtain ⟨gp, cp', hvp, _, _⟩ := HP.out.fp.some_ (by omega)
          simp only [Value.slice.injEq] at hvp
          obtain ⟨rfl, hvn, hvk⟩ := hvp
          subst hvk
          clear hvn
          obtain ⟨z0, z1⟩ := HP.out.fp.two HMP.out.symm hz
          have HZN : Hid ((nextL n T y)[t]? = some z) := Lib.hid (by rw [HPN.out]; exact hz)
          have hzb := nextL_in HG.out (List.mem_of_getElem? HZN.out)
          have HW1 := Lib.hid (HW.out.on (Ext.alloc1 wr (.cells #[.int .i64 z.1, .int .i64 ((z.2 : Int) + 1)] 64)))
          have HP1 := Lib.hid (HP.out.on (Ext.alloc1 wr (.cells #[.int .i64 z.1, .int .i64 ((z.2 : Int) + 1)] 64)))
          have HB1 : Hid (b < wr.heap.size) := Lib.hid HW.out.hi
          have hlk2 := lookB HW1.out.mm HW1.out.md hzb
          have HF := Lib.hid HI.out.few
          clear hz HW HP
          by_cases hzm : z ∈ M
          · rw [decide_eq_true hzm] at hlk2
            have HIN := Lib.hid (HI.out.old HZN.out hzm)
            clear hzm HI
            go_wp2
            go_roundw
            case rel => exact ⟨t + 1, L, M, D', by go_num, by omega, HW1, HIN, HP1, HNO, HMS⟩
            case measure => simp [intOf]; omega
          · rw [decide_eq_false hzm] at hlk2
            have HIN := Lib.hid (HI.out.new HZN.out hzm hzb)
            have HZM := Lib.hid hzm
            have hLb : L.length ≤ 30 := few_of HNO.out (fun x hx => HI.out.bnd x (HI.out.sub x hx))
            have HLB := Lib.hid hLb
            have HNO2 : Hid (L ++ [z]).Nodup := Lib.hid (List.nodup_append.2 ⟨HNO.out, by simp, fun a ha b' hb' e => by
              obtain rfl : b' = z := by simpa using hb'
              subst e
              exact hzm (HI.out.sub _ ha)⟩)
            have HMS2 : Hid (2 * (31 - (M ++ [z]).length) + (L ++ [z]).length ≤ m0) := Lib.hid (by
              have h1 := HMS.out
              have h2 := HIN.out.few
              simp only [List.length_append, List.length_cons, List.length_nil] at h2 ⊢
              omega)
            have hbw : wr.heap.size ≠ b := by have h4 := HB1.out; omega
            have HBW := Lib.hid hbw
            clear hzm HI hLb hbw HNO HMS
            go_wp2_with (at_mapUpdate; refine wpList_mapUpdate_own _ rfl _ _ _ 66 rfl 64 4 instKeyed Try.underlying66 asIs b M.length D' rfl HW1.out.mm (by have := HF.out; unfold maxLen; omega) _ _ (kl (z.1 : Int) ((z.2 : Int) + 1)) rfl rfl (keyOf_inst (wf_small (by omega) (by omega)) (wf_small (by omega) (by omega))) (.held (.bool true)) [] rfl ?_)
            intro w7 hown7 hgrow7
            have HW7 := Lib.hid (HW1.out.upd HZM.out hzb hown7 hgrow7)
            have HP7 := Lib.hid (HP1.out.upd hgrow7)
            have k0 : w7.cell? ⟨wr.heap.size, 0, none⟩ = some (.int .i64 z.1) := grown_cell hgrow7 HBW.out (by simp) (by go_simp)
            have k1 : w7.cell? ⟨wr.heap.size, 1, none⟩ = some (.int .i64 ((z.2 : Int) + 1)) := grown_cell hgrow7 HBW.out (by simp) (by go_simp)
            have HW8 := Lib.hid (HW7.out.on (Ext.alloc1 w7 (.cells #[.int .i64 z.1, .int .i64 ((z.2 : Int) + 1)] 64)))
            have HP8 := Lib.hid (HP7.out.on (Ext.alloc1 w7 (.cells #[.int .i64 z.1, .int .i64 ((z.2 : Int) + 1)] 64)))
            have HLL : Hid (L.length ≤ 1048576) := Lib.hid (by have := HLB.out; omega)
            clear hown7 hgrow7 HW7 HP7 HW1 HP1 hlk2
            go_wp2_with (at_builtin; refine wpList_pushIAt rfl _ _ rfl (b + 1) _ L z rfl HW8.out.fm w7.heap.size 1 rfl (by go_simp) (by go_simp) HLL.out HW8.out.hi ?_)
            intro v9 w9 f9 g9 k9 loc9
            have loc9' : v9.ownBlock = u6.ownBlock ∨ v9.ownBlock = some (w7.alloc (.cells #[.int .i64 z.1, .int .i64 ((z.2 : Int) + 1)] 64)).heap.size := by rw [World.size_alloc]; simpa using loc9
            have HW9 := Lib.hid (HW8.out.push f9 g9 k9)
            have HP9 := Lib.hid (HP8.out.push g9 loc9')
            clear f9 g9 k9 loc9 loc9' HW8 HP8 k0 k1
            go_wp2
            go_roundw
            case rel => exact ⟨t + 1, _, _, _, by go_num, by omega, HW9, HIN, HP9, HNO2, HMS2⟩
            case measure => simp [intOf]; omega
        · obtain rfl : t = m := by omega
          have HIC := Lib.hid (HI.out.close (by rw [HPN.out, ← HMP.out]; exact Nat.le_refl _))
          obtain ⟨l1, hl1⟩ : ∃ l1, l1 = L.length := ⟨_, rfl⟩
          have hu : lenOf u6 = l1 := by
            rw [hl1]
            rcases HW.out.fm.2 with ⟨rfl, h⟩ | ⟨g, cap, cur, rfl, _⟩
            · exact h.symm
            · rfl
          have HU := Lib.hid hu
          have HL1 := Lib.hid hl1
          have HEN := Lib.hid (entries_eq HW.out.mm)
          clear hu hl1 HI HP
          go_wp2
          go_roundw
          case rel => exact ⟨L, M, D', HW, HIC, HNO⟩
          case measure =>
            have h1 := HEN.out
            have h2 := HW.out.sz
            have h3 := HMS.out
            have h4 := HM0.out
            have h5 := HL1.out
            have h6 := HU.out
            have h7 : lenOf (.slice (some ⟨g, 0, none⟩) (l + 1) cap) = l + 1 := rfl
            first | (simp only [h6, h7]; omega) | (rw [h6]; show _ < 2 * (31 - entriesOf _ b) + (l + 1); omega)
end Go.Proofs.Ytkhdgmgacfhcgaa

namespace Go.Proofs.Ytkhdgmgacfhcgaa
open Go.RowKit Go.Maps
set_option linter.unusedVariables false

/-- Is it a settled instance? -/
def isCom (n : Int) (T : List (List RowD)) (rep no : Int) : Bool := goodTab n T && (decide (0 ≤ rep) && (decide (1 ≤ no) && instCom T rep.toNat (no - 1).toNat))
noncomputable def blkR (n : Int) (T : List (List RowD)) (rep no : Int) : List (List Int) := if isCom n T rep no then (blkL n T (rep.toNat, (no - 1).toNat)).map pairOf else []
theorem isCom_of {n : Int} {T : List (List RowD)} {rep no : Int} (h : isCom n T rep no = true) : goodTab n T = true ∧ ∃ p q : Nat, rep = (p : Int) ∧ no = (q : Int) + 1 ∧ instCom T p q = true := by
  unfold isCom at h
  simp only [Bool.and_eq_true, decide_eq_true_eq] at h
  exact ⟨h.1, rep.toNat, (no - 1).toNat, by omega, by omega, h.2.2.2⟩
theorem isCom_mk {n : Int} {T : List (List RowD)} {p q : Nat} (hg : goodTab n T = true) (hc : instCom T p q = true) : isCom n T (p : Int) ((q : Int) + 1) = true := by
  unfold isCom
  simp only [Bool.and_eq_true, decide_eq_true_eq]
  refine ⟨hg, by omega, by omega, ?_⟩
  have e1 : (p : Int).toNat = p := by omega
  have e2 : ((q : Int) + 1 - 1).toNat = q := by omega
  rw [e1, e2]; exact hc
theorem blkR_yes {n : Int} {T : List (List RowD)} {p q : Nat} (hg : goodTab n T = true) (hc : instCom T p q = true) : blkR n T (p : Int) ((q : Int) + 1) = (blkL n T (p, q)).map pairOf := by
  unfold blkR
  rw [isCom_mk hg hc, if_pos rfl]
  have e1 : (p : Int).toNat = p := by omega
  have e2 : ((q : Int) + 1 - 1).toNat = q := by omega
  rw [e1, e2]
theorem blkR_no {n : Int} {T : List (List RowD)} {rep no : Int} (h : isCom n T rep no = false) : blkR n T rep no = [] := by unfold blkR; rw [h]; rfl
theorem blkR_bulk (n : Int) (T : List (List RowD)) (rep no : Int) : bulk (blkR n T rep no) ≤ 1000 := by
  unfold blkR
  cases isCom n T rep no with
  | false => simp [bulk]
  | true =>
    have h1 := blkL_short n T (rep.toNat, (no - 1).toNat)
    have h2 := bulk_by (L := (blkL n T (rep.toNat, (no - 1).toNat)).map pairOf) 2 (fun l hl => by
      obtain ⟨x, _, rfl⟩ := List.mem_map.1 hl
      simp [pairOf])
    rw [List.length_map] at h2
    simp only [if_true]
    omega

set_option maxHeartbeats 4000000 in
set_option maxRecDepth 100000 in
theorem specBlockersOf_any (n : Int) (u : Value) (T : List (List RowD)) (rep no : Int) (w : World) (hu : Rowzz w u T) :
    Calls Try.prog 14 #[.agg #[.int .i64 n, u], .int .i64 rep, .int .i64 no] w (ReadSS (blkR n T rep no) (isCom n T rep no) w) := by
  have hx0 := Ext.alloc1 w (.cells #[.int .i64 n, u] 31)
  have b0 := attrAt_new w 31 n u
  have HU := Lib.hid (hu.ext hx0)
  have HU' := Lib.hid hu
  have HX := Lib.hid hx0
  obtain ⟨au, cu, rfl, hlu, _, _⟩ := hu
  have HB := Lib.hid b0
  clear hx0 b0 hlu
  cases hk : (goodTab n T && instB n rep no) with
  | false =>
    have e : isCom n T rep no = false := by
      cases hc : isCom n T rep no with
      | false => rfl
      | true =>
        obtain ⟨hg, p, q, rfl, rfl, hi⟩ := isCom_of hc
        have h5 := inT_low (goodTab_both hg).1 (goodTab_both hg).2 (instCom_inT hi)
        have hp := (com_row hg hi).2.2.1
        have hn := (goodTab_of hg).2.1
        rw [hg, Bool.true_and] at hk
        unfold instB at hk
        rw [inB_yes (by omega) (by omega), inB_yes (by omega) (by omega)] at hk
        cases hk
    rw [blkR_no e, e]
    have HK := Lib.hid hk
    clear hk e
    go_enter Try.func14, Try.ntmps14
    go_wp2_with fail
    refine (l4Asked_any _ _ T _ _ _ HU.out).mono ?_
    rintro e w1 ⟨rfl, x1⟩
    have hx := HX.out.trans x1
    clear x1
    rw [HK.out]
    go_wp2
    go_ret2
    exact ⟨_, rfl, Intss.nil _, hx⟩
  | true =>
    have HK := Lib.hid hk
    simp only [Bool.and_eq_true] at hk
    obtain ⟨hg, hi⟩ := hk
    obtain ⟨p, q, rfl, rfl, hp, hq⟩ := inst_nat hg hi
    have HG := Lib.hid hg
    obtain ⟨d, hd⟩ : ∃ d, d = rowOf n T p q := ⟨_, rfl⟩
    have hst : (d.st == 3) = instCom T p q := by rw [hd]; exact inst_st hp
    have cR : ∀ W, Ext w W → Calls Try.prog 30 #[.agg #[.int .i64 n, .slice au T.length cu], .int .i64 p, .int .i64 ((q : Int) + 1)] W (NewRow d W) := fun W hW => by
      rw [hd]
      exact l4At_any n _ T p q _ (HU'.out.ext hW) hg hp hq
    have CR := Lib.hid cR
    have cB : ∀ W, Ext w W → instCom T p q = true → Calls Try.prog 31 #[.agg #[.int .i64 n, .slice au T.length cu], .int .i64 p, .int .i64 ((q : Int) + 1)] W (BlkR n T (p, q) W) := fun W hW hc => l6Blockers_any n _ T p q _ (HU'.out.ext hW) hg hc
    have CB := Lib.hid cB
    clear cR cB hd
    cases hc : instCom T p q with
    | false =>
      have e : isCom n T (p : Int) ((q : Int) + 1) = false := by
        cases h : isCom n T (p : Int) ((q : Int) + 1) with
        | false => rfl
        | true =>
          obtain ⟨_, p', q', e1, e2, hi'⟩ := isCom_of h
          obtain rfl : p = p' := by omega
          obtain rfl : q = q' := by omega
          rw [hc] at hi'; cases hi'
      rw [blkR_no e, e]
      rw [hc] at hst
      have hst2 : (d.st != 3) = true := by simpa using hst
      clear hg hi hp hq hc e hst
      go_enter Try.func14, Try.ntmps14
      go_wp2_with fail
      refine (l4Asked_any _ _ T _ _ _ HU.out).mono ?_
      rintro e w1 ⟨rfl, x1⟩
      obtain ⟨c0, c1⟩ := HB.out.ext x1
      rw [HK.out]
      go_wp2_with fail
      refine (CR.out _ (HX.out.trans x1)).mono ?_
      rintro e w2 ⟨v2, rfl, f2, x2⟩
      obtain ⟨a2, k2, rfl⟩ := f2.form
      have hfd := fun W => field_rowS d.b d.v d.st d.k d.i d.f d.t d.a d.s (.slice a2 d.l.length k2) W
      have hx := (HX.out.trans x1).trans x2
      clear x1 x2 f2 c0 c1
      go_wp2
      go_ret2
      exact ⟨_, rfl, Intss.nil _, hx⟩
    | true =>
      rw [blkR_yes hg hc, isCom_mk hg hc]
      rw [hc] at hst
      have hst2 : (d.st != 3) = false := by simpa using hst
      have HC := Lib.hid hc
      clear hg hi hp hq hc hst
      go_enter Try.func14, Try.ntmps14
      go_wp2_with fail
      refine (l4Asked_any _ _ T _ _ _ HU.out).mono ?_
      rintro e w1 ⟨rfl, x1⟩
      obtain ⟨c0, c1⟩ := HB.out.ext x1
      rw [HK.out]
      go_wp2_with fail
      refine (CR.out _ (HX.out.trans x1)).mono ?_
      rintro e w2 ⟨v2, rfl, f2, x2⟩
      obtain ⟨a2, k2, rfl⟩ := f2.form
      have hfd := fun W => field_rowS d.b d.v d.st d.k d.i d.f d.t d.a d.s (.slice a2 d.l.length k2) W
      have X2 := Lib.hid ((HX.out.trans x1).trans x2)
      have B2 := Lib.hid (HB.out.ext (x1.trans x2))
      clear x1 x2 f2 c0 c1
      obtain ⟨c0, c1⟩ := B2.out
      go_wp2_with fail
      refine (CB.out _ X2.out HC.out).mono ?_
      rintro e w5 ⟨v5, os, s, i, rfl, hpa, hbi, hi5, hbb, x5⟩
      have HS : Hid (s.2 = blkL n T (p, q)) := Lib.hid (hbi.all hi5 hbb)
      have HI : Hid (Intss w5 v5 ((blkL n T (p, q)).map pairOf)) := Lib.hid (by rw [← HS.out]; exact hpa.intss)
      have X5 := Lib.hid (X2.out.trans x5)
      clear hpa hbi hi5 hbb x5 hfd c0 c1
      go_wp2
      go_ret2
      exact ⟨_, rfl, HI.out, X5.out⟩
end Go.Proofs.Ytkhdgmgacfhcgaa

namespace Go.Proofs.Ytkhdgmgacfhcgaa
open Go.RowKit Go.Maps
set_option linter.unusedVariables false

theorem lookOk_from {W : World} {B : Nat} {D : DataW Value} {T : List (List RowD)} {f : Nat → Nat → Value} (hm : RowMap W B 30 D) (hd : MapOf D (instCom T) f) {rep no : Int} (h0 : wf64 rep) (h1 : wf64 no) (hs : ¬ ∃ p q : Nat, rep = (p : Int) ∧ no = (q : Int) + 1 ∧ instCom T p q = true) :
    (Instr.lookup 54 (.map (some B)) (.agg #[.int .i64 rep, .int .i64 no]) true).run Try.prog W = .ok (.tuple #[.agg #[.int .i64 0, .int .i64 0, .int .i64 0, .int .i64 0, .int .i64 0, .int .i64 0, .int .i64 0, .int .i64 0, .int .i64 0, .slice none 0 0], .bool false]) W := by
  have hn : Maps.has D (kl rep no) = false := by
    cases hb : Maps.has D (kl rep no) with
    | false => rfl
    | true =>
      obtain ⟨p, q, e, hs'⟩ := hd.keys _ hb
      have hl := hd.low p q hs'
      obtain ⟨rfl, rfl⟩ := kl_inj h0 h1 (wf_small (by omega) (by omega)) (wf_small (by omega) (by omega)) e
      exact absurd ⟨p, q, rfl, rfl, hs'⟩ hs
  obtain ⟨v, ps, hrun, hv⟩ := hm.look_ok instKeyed Try.underlying54 (zeroRow W) (zd := .held _) (zp := []) rfl (keyOf_inst (a := rep) (b := no) h0 h1)
  rw [Maps.atKey_of_not_has hn] at hv
  rw [hn] at hrun
  simp only [asIs, Option.some.injEq, Prod.mk.injEq, DataW.held.injEq] at hv
  rw [hv.1] at hrun
  exact hrun

/-- What is left of the met ones once those that are done with are struck. -/
def leftB (T : List (List RowD)) (M : List (Nat × Nat)) (left : Lit → Bool) (p q : Nat) : Bool := inL M p q && (!instCom T p q || left (kl (p : Int) ((q : Int) + 1)))

theorem leftB_step {T : List (List RowD)} {M : List (Nat × Nat)} {left : Lit → Bool} (hb : ∀ z ∈ M, z.1 < 5 ∧ z.2 < 6) {a c : Nat} (hac : a ≤ 1048576 ∧ c ≤ 1048576) (hS : instCom T a c = true) (a' c' : Nat) :
    leftB T M (fun z => left z && !z.sameKey (kl (a : Int) ((c : Int) + 1))) a' c' = (leftB T M left a' c' && !(decide (a' = a) && decide (c' = c))) := by
  unfold leftB
  cases hi : inL M a' c' with
  | false => simp
  | true =>
    have hz := hb (a', c') (of_decide_eq_true hi)
    have hk := same_kl (p := a') (q := c') (p' := a) (q' := c) (by omega) hac
    simp only [hk]
    by_cases e : a' = a ∧ c' = c
    · obtain ⟨rfl, rfl⟩ := e
      rw [hS]
      simp
    · have h1 : (decide (a' = a) && decide (c' = c)) = false := by simpa using e
      rw [h1]
      simp

set_option maxHeartbeats 8000000 in
set_option maxRecDepth 100000 in
theorem implBlockersOf_any (n : Int) (u : Value) (T : List (List RowD)) (rep no : Int) (w : World) (hu : Rowzz w u T) (hs : bulkT T ≤ 1099511627776) (h0 : wf64 rep) (h1 : wf64 no) :
    Calls Try.prog 15 #[.agg #[.int .i64 n, u], .int .i64 rep, .int .i64 no] w (TwoIntss (blkR n T rep no) (isCom n T rep no) w) := by
  have HS := Lib.hid hs
  have hx0 := Ext.alloc1 w (.cells #[.int .i64 n, u] 31)
  have b0 := attrAt_new w 31 n u
  have HU := Lib.hid (hu.ext hx0)
  have HX := Lib.hid hx0
  obtain ⟨au, cu, rfl, hlu, _, _⟩ := hu
  have HB0 := Lib.hid b0
  clear hx0 b0 hlu hs
  cases hg : goodTab n T with
  | false =>
    have e : isCom n T rep no = false := by unfold isCom; rw [hg]; rfl
    rw [blkR_no e, e]
    have HG := Lib.hid hg
    clear hg e
    go_enter Try.func15, Try.ntmps15
    go_wp2_with fail
    refine (implGoodTable_any n _ T _ HU.out HS.out).mono ?_
    rintro e w1 ⟨rfl, x1⟩
    rw [HG.out]
    have X1 := Lib.hid (HX.out.trans x1)
    clear x1
    go_wp2
    go_ret2
    exact ⟨_, rfl, FreshSS.nil _ _, X1.out⟩
  | true =>
    have HG := Lib.hid hg
    have H56 := Lib.hid (goodTab_both hg)
    by_cases hcom : ∃ p q : Nat, rep = (p : Int) ∧ no = (q : Int) + 1 ∧ instCom T p q = true
    · obtain ⟨p, q, rfl, rfl, hc⟩ := hcom
      rw [blkR_yes hg hc, isCom_mk hg hc]
      have HC := Lib.hid hc
      clear hg hc h0 h1
      go_enter Try.func15, Try.ntmps15
      go_wp2_with fail
      refine (implGoodTable_any n _ T _ HU.out HS.out).mono ?_
      rintro e w1 ⟨rfl, x1⟩
      rw [HG.out]
      obtain ⟨U, hU⟩ := tabAt_of (HU.out.ext x1)
      have HT := Lib.hid hU
      have X1 := Lib.hid (HX.out.trans x1)
      obtain ⟨c0, c1⟩ := HB0.out.ext x1
      clear x1 hU
      go_wp2_with fail
      refine (committedIn_any n _ T U _ HT.out H56.out.1 H56.out.2).mono ?_
      rintro e w2 ⟨B, D0, rfl, m2, d2, hb2, x2⟩
      have HM := Lib.hid m2
      have HD := Lib.hid d2
      have X2 := Lib.hid (X1.out.trans x2)
      have HLI := Lib.hid ((HT.out.ext x2).lists n)
      have HBB : Hid (w.heap.size ≤ B) := Lib.hid (Nat.le_trans X1.out.size hb2)
      clear c0 c1 m2 d2 hb2 x2 HT
      have hlk := lookOk_yes (HM.out.ext (Ext.alloc1 w2 (.cells #[.int .i64 p, .int .i64 ((q : Int) + 1)] 64))) HD.out HC.out
      obtain ⟨ay, cy, hUf, _⟩ := HLI.out p q (instCom_inT HC.out)
      unfold rowF rowV at hlk
      rw [hUf] at hlk
      obtain ⟨d, hd⟩ : ∃ d, d = rowOf n T p q := ⟨_, rfl⟩
      rw [← hd] at hlk
      clear hd hUf
      go_wp2_with fail
      refine (comesTo_any n T U p q B D0 _ (HM.out.ext (Ext.alloc2 _ _ _)) HD.out (HLI.out.ext (Ext.alloc2 _ _ _)) HG.out HC.out).mono ?_
      rintro e w5 ⟨b, D', M, rfl, m5, d5, hm5, hbd5, hb5, x5⟩
      have x25 : Ext w2 w5 := (Ext.alloc2 _ _ _).trans x5
      have HM5 := Lib.hid (HM.out.ext x25)
      have HR5 := Lib.hid m5
      have HD5 := Lib.hid d5
      have HIF := Lib.hid hm5
      have HBD := Lib.hid hbd5
      have HBS : Hid (w2.heap.size ≤ b) := Lib.hid (Nat.le_trans (Ext.alloc2 w2 _ _).size hb5)
      have HBL : Hid (b < w5.heap.size) := Lib.hid m5.lt
      have HB2 : Hid (B < w2.heap.size) := Lib.hid HM.out.lt
      have X5 := Lib.hid (X2.out.trans x25)
      clear m5 d5 hm5 hbd5 hb5 x5 x25 hlk HM HLI X2 X1
      go_wp2_with (first | (at_range; refine wpList_range_own _ rfl _ 54 rfl 64 53 instKeyed Try.underlying54 asIs B 30 D0 rfl HM5.out ?_; intro w6 hrg6 hg6 hs6) | go_in)
      go_frame
      have X6 := Lib.hid (X5.out.trans (ext_of_grown hg6))
      have R6 := Lib.hid hrg6
      have HR6 := Lib.hid (HR5.out.ext (ext_of_grown hg6))
      obtain ⟨r, hr⟩ : ∃ r, r = w5.heap.size := ⟨_, rfl⟩
      rw [← hr] at R6 ⊢
      have HBR : Hid (b < r ∧ B < r ∧ B ≠ b ∧ w.heap.size ≤ b ∧ w.heap.size ≤ r) := Lib.hid (by
        have h1 := HBL.out
        have h2 := HB2.out
        have h3 := HBS.out
        have h4 := X5.out.size
        have h5 := HBB.out
        omega)
      have HD6 : Hid (MapOf D' (leftB T M (Maps.has D0)) yes) := Lib.hid (HD5.out.congr (fun a c => by
        unfold leftB
        cases hi : instCom T a c with
        | false => simp
        | true => rw [HD.out.has a c hi]; simp) (fun _ _ _ => rfl))
      clear hrg6 hg6 hs6 HM5 HR5 HD5 hr X5
      go_loopw [13] (fun _ wr => ∃ (left : Lit → Bool) (cnt : Nat) (D' : DataW Value), Hid (RowRange wr B r 30 D0 left cnt) ∧ Hid (RowMap wr b 30 D') ∧ Hid (MapOf D' (leftB T M left) yes) ∧ Hid (Ext w wr)) (fun _ wr => wr.rangeLeft B r)
      case atStart => exact ⟨_, _, D', R6, HR6, HD6, X6⟩
      case round =>
        clear R6 HR6 HD6 X6
        obtain ⟨left, cnt, D', R, HR, HDD, X⟩ := hrel
        go_wp2_with (first | (at_next; refine wpList_next_inst _ rfl _ rfl B r 30 D0 left cnt _ _ rfl R.out HD.out ?_ ?_) | go_in)
        · intro hl
          have HDL : Hid (MapOf D' (leftB T M (fun _ => false)) yes) := Lib.hid (HDD.out.congr (fun a c => by unfold leftB; rw [hl]) (fun _ _ _ => rfl))
          clear R HDD hl
          go_wp2_with fail
          refine (inOrderB_any b 30 D' _ _ HR.out HDL.out (by omega)).mono ?_
          rintro e w8 ⟨v8, L, rfl, f8, hlex, hmem, x8⟩
          have eL : L = blkL n T (p, q) := blkL_of hlex (fun z hz => by
            have h := (hmem z).1 hz
            unfold leftB inL at h
            simp only [Bool.and_eq_true, decide_eq_true_eq] at h
            exact HBD.out z h.1) (fun z _ => by
            rw [hmem]
            unfold leftB inL
            simp only [Bool.or_false, Bool.and_eq_true, decide_eq_true_eq, Bool.not_eq_true']
            rw [show ((z.1, z.2) : Nat × Nat) = z from rfl, HIF.out])
          subst eL
          have I8 := Lib.hid f8.at
          have X8 := Lib.hid (X.out.trans x8)
          clear f8 hlex hmem x8 HR HDL X
          go_wp2_with fail
          refine (pairsOf_any v8 (blkL n T (p, q)) _ I8.out (by have := blkL_short n T (p, q); omega)).mono ?_
          rintro e w9 ⟨v9, rfl, f9, x9⟩
          have F9 := Lib.hid (f9.more X8.out.size)
          have X9 := Lib.hid (X8.out.trans x9)
          clear f9 x9 I8 X8
          go_wp2
          go_ret2
          exact ⟨_, rfl, F9.out, X9.out⟩
        · intro a c w7 cnt7 hS hlk7 hrg7 hlt7 hg7 hs7 hen
          have hac := HD.out.low a c hS
          have R7 := Lib.hid hrg7
          have HR7 : Hid (RowMap w7 b 30 D') := Lib.hid (HR.out.kept hg7 (by have := HBR.out; simp; omega))
          have X7 : Hid (Ext w w7) := Lib.hid (X.out.turned hg7 HBR.out.2.2.2.2)
          have HLT := Lib.hid hlt7
          have HRO := Lib.hid R.out
          have HSc := Lib.hid hS
          have HLK := Lib.hid hlk7
          have HDN : Hid (MapOf (D'.del (kl (a : Int) ((c : Int) + 1))) (leftB T M (fun z => left z && !z.sameKey (kl (a : Int) ((c : Int) + 1)))) yes) := Lib.hid ((HDD.out.del (p := a) (q := c) hac).congr (fun a' c' => leftB_step HBD.out hac hS a' c') (fun _ _ _ => rfl))
          obtain ⟨rv, hrv⟩ : ∃ rv, rv = rowF n T U a c := ⟨_, rfl⟩
          rw [← hrv] at hen ⊢
          have HR8 := Lib.hid (HR7.out.ext (Ext.alloc1 w7 (.cells #[.int .i64 a, .int .i64 ((c : Int) + 1)] 64)))
          have R8 := Lib.hid (R7.out.ext (Ext.alloc1 w7 (.cells #[.int .i64 a, .int .i64 ((c : Int) + 1)] 64)))
          have X8 := Lib.hid (X7.out.trans (Ext.alloc1 w7 (.cells #[.int .i64 a, .int .i64 ((c : Int) + 1)] 64)))
          clear hrg7 hg7 hs7 hlk7 hS R HR HDD X hlt7 hrv R7 HR7 X7
          go_wp2_with (first | (at_delete; refine wpList_delete_own _ rfl _ _ 66 64 rfl 4 instKeyed Try.underlying66 asIs b 30 D' rfl HR8.out _ (kl (a : Int) ((c : Int) + 1)) rfl (keyOf_inst (wf_small (by omega) (by omega)) (wf_small (by omega) (by omega))) ?_; intro w9 hown9 ht9) | go_in)
          have HR9 := Lib.hid hown9
          have R9 : Hid (RowRange w9 B r 30 D0 (fun z => left z && !z.sameKey (kl (a : Int) ((c : Int) + 1))) cnt7) := Lib.hid (R8.out.kept ht9.grown (by have := HBR.out; simp; omega) (by have := HBR.out; simp; omega))
          have X9 : Hid (Ext w w9) := Lib.hid (X8.out.turned ht9.grown HBR.out.2.2.2.1)
          clear hown9 ht9 R8 HR8 X8 hen
          simp only [Act.put]
          go_wp2
          go_roundw
          case rel => exact ⟨_, _, _, R9, HR9, HDN, X9⟩
          case measure => rw [R9.out.left_eq, HRO.out.left_eq]; exact HLT.out
    · have e : isCom n T rep no = false := by
        cases h : isCom n T rep no with
        | false => rfl
        | true => exact absurd (isCom_of h).2 hcom
      rw [blkR_no e, e]
      have HCM := Lib.hid hcom
      have H0 := Lib.hid h0
      have H1 := Lib.hid h1
      clear hg hcom e h0 h1
      go_enter Try.func15, Try.ntmps15
      go_wp2_with fail
      refine (implGoodTable_any n _ T _ HU.out HS.out).mono ?_
      rintro e w1 ⟨rfl, x1⟩
      rw [HG.out]
      obtain ⟨U, hU⟩ := tabAt_of (HU.out.ext x1)
      have HT := Lib.hid hU
      have X1 := Lib.hid (HX.out.trans x1)
      obtain ⟨c0, c1⟩ := HB0.out.ext x1
      clear x1 hU
      go_wp2_with fail
      refine (committedIn_any n _ T U _ HT.out H56.out.1 H56.out.2).mono ?_
      rintro e w2 ⟨B, D0, rfl, m2, d2, hb2, x2⟩
      have hlk := lookOk_from (m2.ext (Ext.alloc1 w2 (.cells #[.int .i64 rep, .int .i64 no] 64))) d2 H0.out H1.out HCM.out
      have X2 := Lib.hid (X1.out.trans x2)
      clear c0 c1 m2 d2 hb2 x2 HT X1
      go_wp2
      go_ret2
      exact ⟨_, rfl, FreshSS.nil _ _, by repeat (first | exact X2.out | apply Ext.alloc | apply Ext.setc)⟩
end Go.Proofs.Ytkhdgmgacfhcgaa
