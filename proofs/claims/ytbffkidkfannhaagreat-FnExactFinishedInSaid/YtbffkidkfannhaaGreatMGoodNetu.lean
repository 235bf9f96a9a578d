/- Texts of this proof, part u: words, plain facts, contracts. -/
import Derived.Test.YtbffkidkfannhaaGreatMGoodNeth
import Derived.Test.YtbffkidkfannhaaGreatMGoodNett
import Derived.Test.YtbffkidkfannhaaGreatMGoodNetq4
import Derived.Test.YtbffkidkfannhaaGreatMGoodNetc
import Derived.Test.YtbffkidkfannhaaGreatMGoodNetd
import Derived.Test.YtbffkidkfannhaaGreatMGoodNete

namespace Go.Proofs.YtbffkidkfannhaaGreat
open Go.RowKit
set_option linter.unusedVariables false

/-- Three slices that read as a net, in ranges of blocks from lo on, below hi. -/
def NetM (lo hi : Nat) (w : World) (u v z : Value) (R : List RepD) (M : List MsgD) (K : List AskD) : Prop := ∃ c1 c2, RepzM lo c1 w u R ∧ MeszM c1 c2 w v M ∧ AskzM c2 hi w z K
theorem RepzM.ord {lo hi : Nat} {w : World} {v : Value} {L : List RepD} (h : RepzM lo hi w v L) : lo ≤ hi := by
  obtain ⟨g, xs, cut, hg, _, _, _, _, hk, _⟩ := h
  have := Nat.le_trans hk.lo (hk.high (Nat.zero_le _))
  omega
theorem MeszM.ord {lo hi : Nat} {w : World} {v : Value} {L : List MsgD} (h : MeszM lo hi w v L) : lo ≤ hi := by
  obtain ⟨g, xs, cut, hg, _, _, _, _, hk, _⟩ := h
  have := Nat.le_trans hk.lo (hk.high (Nat.zero_le _))
  omega
theorem AskzM.ord {lo hi : Nat} {w : World} {v : Value} {L : List AskD} (h : AskzM lo hi w v L) : lo ≤ hi := by
  obtain ⟨g, xs, hg, h⟩ := h
  omega
theorem NetM.kept {lo hi : Nat} {w w' : World} {u v z : Value} {R : List RepD} {M : List MsgD} {K : List AskD} (h : NetM lo hi w u v z R M K) (s : Stood lo hi w w') : NetM lo hi w' u v z R M K := by
  obtain ⟨c1, c2, h1, h2, h3⟩ := h
  have o1 := h1.ord
  have o2 := h2.ord
  have o3 := h3.ord
  exact ⟨c1, c2, h1.kept (s.within (Nat.le_refl _) (by omega)), h2.kept (s.within (by omega) (by omega)), h3.kept (s.within (by omega) (Nat.le_refl _))⟩
theorem NetM.more {lo hi lo' hi' : Nat} {w : World} {u v z : Value} {R : List RepD} {M : List MsgD} {K : List AskD} (h : NetM lo hi w u v z R M K) (p : lo' ≤ lo) (q : hi ≤ hi') : NetM lo' hi' w u v z R M K := by
  obtain ⟨c1, c2, h1, h2, h3⟩ := h
  exact ⟨c1, c2, h1.more p (Nat.le_refl _), h2, h3.more (Nat.le_refl _) q⟩
theorem NetM.reads {lo hi : Nat} {w : World} {u v z : Value} {R : List RepD} {M : List MsgD} {K : List AskD} (h : NetM lo hi w u v z R M K) : NetL w u v z R M K := by
  obtain ⟨c1, c2, h1, h2, h3⟩ := h
  exact ⟨h1.reads, h2.reads, h3.reads⟩
theorem NetM.form {lo hi : Nat} {w : World} {u v z : Value} {R : List RepD} {M : List MsgD} {K : List AskD} (h : NetM lo hi w u v z R M K) : (∃ a c, u = .slice a R.length c) ∧ (∃ a c, v = .slice a M.length c) ∧ (∃ a c, z = .slice a K.length c) := by
  obtain ⟨c1, c2, h1, h2, h3⟩ := h
  exact ⟨h1.form, h2.form, h3.form⟩
def NewNetM (R : List RepD) (M : List MsgD) (K : List AskD) (w : World) (e : Ending) (w' : World) : Prop := ∃ u v z, e = .returned (.agg #[u, v, z]) ∧ NetM w.heap.size w'.heap.size w' u v z R M K ∧ Ext w w'
set_option maxHeartbeats 4000000 in
set_option maxRecDepth 100000 in
theorem toNet_any (u v z : Value) (R : List RepD) (M : List MsgD) (K : List AskD) (w : World) (hn : NetL w u v z R M K) (hr : bulkRep R ≤ 549755813888) (hm : bulkMes M ≤ 549755813888) (hk : bulkAsk K ≤ 549755813888) :
    Calls Tryz.prog 8 #[.agg #[u, v, z]] w (NewNetM R M K w) := by
  have HRB := Lib.hid hr
  have HMB := Lib.hid hm
  have HKB := Lib.hid hk
  obtain ⟨w0, hw0⟩ : ∃ w0, w0 = ((w.alloc (.cells #[u, v, z] 26)).alloc (.cells #[.slice none 0 0, .slice none 0 0, .slice none 0 0] 35)).alloc (.cells #[.slice none 0 0, .slice none 0 0, .slice none 0 0] 35) := ⟨_, rfl⟩
  have x0 : Ext w w0 := by rw [hw0]; exact ((Ext.alloc1 _ _).alloc _).alloc _
  have s0 : w0.heap.size = w.heap.size + 3 := by rw [hw0]; simp
  have a0 : BoxV w0 w.heap.size [u, v, z] := by rw [hw0]; exact (boxV_new w [u, v, z] 26).ext ((Ext.alloc1 _ _).alloc _)
  have r0 : BoxV w0 (w.heap.size + 1) [.slice none 0 0, .slice none 0 0, .slice none 0 0] := by
    have h := (boxV_new (w.alloc (.cells #[u, v, z] 26)) [.slice none 0 0, .slice none 0 0, .slice none 0 0] 35).ext (Ext.alloc1 _ (.cells #[.slice none 0 0, .slice none 0 0, .slice none 0 0] 35))
    rw [World.size_alloc] at h
    rw [hw0]; exact h
  have o0 : BoxV w0 (w.heap.size + 1 + 1) [.slice none 0 0, .slice none 0 0, .slice none 0 0] := by
    have h := boxV_new ((w.alloc (.cells #[u, v, z] 26)).alloc (.cells #[.slice none 0 0, .slice none 0 0, .slice none 0 0] 35)) [.slice none 0 0, .slice none 0 0, .slice none 0 0] 35
    rw [World.size_alloc, World.size_alloc] at h
    rw [hw0]; exact h
  have HW0 := Lib.hid hw0
  have HA0 := Lib.hid a0
  have HR0 := Lib.hid r0
  have HO0 := Lib.hid o0
  have HX0 := Lib.hid x0
  have HS0 := Lib.hid s0
  have HN := Lib.hid hn
  clear hw0 a0 r0 o0 x0 s0 hr hm hk hn
  have a0 := HA0.out.cell 0 _ rfl
  have a1 := HA0.out.cell 1 _ rfl
  have a2 := HA0.out.cell 2 _ rfl
  rw [HW0.out] at a0 a1 a2
  go_enter Tryz.func8, Tryz.ntmps8
  go_wp2_with fail
  rw [← HW0.out]
  clear a0 a1 a2
  refine (toRepS_any _ R _ (HN.out.i1.ext HX0.out) HRB.out).mono ?_
  rintro e w1 ⟨y1, rfl, f1, x1⟩
  have HA1 := Lib.hid (HA0.out.ext x1)
  have HR1 := Lib.hid (HR0.out.ext x1)
  have HO1 := Lib.hid (HO0.out.ext x1)
  have HX1 := Lib.hid (HX0.out.trans x1)
  have XS1 : Hid (w0.heap.size ≤ w1.heap.size) := Lib.hid x1.size
  have LO1 : Hid (w.heap.size + 3 ≤ w0.heap.size) := Lib.hid (Nat.le_of_eq HS0.out.symm)
  have HS1 : Hid (w.heap.size + 3 ≤ w1.heap.size) := Lib.hid (Nat.le_trans LO1.out XS1.out)
  obtain ⟨b1, c1, rfl⟩ := f1.form
  have G11 := Lib.hid f1
  clear x1 f1 HA0 HR0 HO0 HX0 HS0 HW0
  have a0 := HA1.out.cell 0 _ rfl
  have a1 := HA1.out.cell 1 _ rfl
  have o0 := HO1.out.cell 0 _ rfl
  have z0 := HO1.out.free 0 (of_decide_eq_true rfl)
  go_wp2_with fail
  clear a0 a1 o0 z0
  have kk : Ins w.heap.size (w.heap.size + 3) w1 (w1.setCell ⟨w.heap.size + 1 + 1, 0, none⟩ (.slice b1 R.length c1)) := ins_set (by omega) (by omega)
  have HA0 := Lib.hid (HA1.out.other ⟨w.heap.size + 1 + 1, 0, none⟩ (.slice b1 R.length c1) (by dsimp only; omega))
  have HR0 := Lib.hid (HR1.out.other ⟨w.heap.size + 1 + 1, 0, none⟩ (.slice b1 R.length c1) (by dsimp only; omega))
  have HO0 := Lib.hid (HO1.out.set 0 (.slice b1 R.length c1) (of_decide_eq_true rfl))
  have HX0 := Lib.hid (kk.ext HX1.out (Nat.le_refl _))
  have LH1 : Hid (w1.heap.size ≤ (w1.setCell ⟨w.heap.size + 1 + 1, 0, none⟩ (.slice b1 R.length c1)).heap.size) := Lib.hid kk.size
  have HS0 : Hid (w.heap.size + 3 ≤ (w1.setCell ⟨w.heap.size + 1 + 1, 0, none⟩ (.slice b1 R.length c1)).heap.size) := Lib.hid (Nat.le_trans HS1.out kk.size)
  have G11 := Lib.hid (G11.out.kept (kk.stood (by have := XS1.out; omega) (.inr LO1.out)))
  clear kk HA1 HR1 HO1 HX1 HS1
  obtain ⟨v1, hv1⟩ : ∃ v1, v1 = (w1.setCell ⟨w.heap.size + 1 + 1, 0, none⟩ (.slice b1 R.length c1)) := ⟨_, rfl⟩
  rw [← hv1] at HA0 HR0 HO0 HX0 HS0 LH1 G11 ⊢
  clear hv1
  refine (toMesS_any _ M _ (HN.out.i2.ext HX0.out) HMB.out).mono ?_
  rintro e w2 ⟨y2, rfl, f2, x2⟩
  have HA2 := Lib.hid (HA0.out.ext x2)
  have HR2 := Lib.hid (HR0.out.ext x2)
  have HO2 := Lib.hid (HO0.out.ext x2)
  have HX2 := Lib.hid (HX0.out.trans x2)
  have XS2 : Hid (v1.heap.size ≤ w2.heap.size) := Lib.hid x2.size
  have LO2 : Hid (w.heap.size + 3 ≤ v1.heap.size) := Lib.hid (HS0.out)
  have HS2 : Hid (w.heap.size + 3 ≤ w2.heap.size) := Lib.hid (Nat.le_trans LO2.out XS2.out)
  obtain ⟨b2, c2, rfl⟩ := f2.form
  have G12 := Lib.hid (G11.out.kept (Stood.of_ext x2 (by have := XS1.out; have := LH1.out; omega)))
  have G22 := Lib.hid f2
  clear x2 f2 HA0 HR0 HO0 HX0 HS0
  have a1 := HA2.out.cell 1 _ rfl
  have a2 := HA2.out.cell 2 _ rfl
  have o1 := HO2.out.cell 1 _ rfl
  have z1 := HO2.out.free 1 (of_decide_eq_true rfl)
  go_wp2_with fail
  clear a1 a2 o1 z1
  have kk : Ins w.heap.size (w.heap.size + 3) w2 (w2.setCell ⟨w.heap.size + 1 + 1, 1, none⟩ (.slice b2 M.length c2)) := ins_set (by omega) (by omega)
  have HA0 := Lib.hid (HA2.out.other ⟨w.heap.size + 1 + 1, 1, none⟩ (.slice b2 M.length c2) (by dsimp only; omega))
  have HR0 := Lib.hid (HR2.out.other ⟨w.heap.size + 1 + 1, 1, none⟩ (.slice b2 M.length c2) (by dsimp only; omega))
  have HO0 := Lib.hid (HO2.out.set 1 (.slice b2 M.length c2) (of_decide_eq_true rfl))
  have HX0 := Lib.hid (kk.ext HX2.out (Nat.le_refl _))
  have LH2 : Hid (w2.heap.size ≤ (w2.setCell ⟨w.heap.size + 1 + 1, 1, none⟩ (.slice b2 M.length c2)).heap.size) := Lib.hid kk.size
  have HS0 : Hid (w.heap.size + 3 ≤ (w2.setCell ⟨w.heap.size + 1 + 1, 1, none⟩ (.slice b2 M.length c2)).heap.size) := Lib.hid (Nat.le_trans HS2.out kk.size)
  have G12 := Lib.hid (G12.out.kept (kk.stood (by have := XS1.out; have := LH1.out; have := XS2.out; omega) (.inr LO1.out)))
  have G22 := Lib.hid (G22.out.kept (kk.stood (by have := XS1.out; have := LH1.out; have := XS2.out; omega) (.inr LO2.out)))
  clear kk HA2 HR2 HO2 HX2 HS2
  obtain ⟨v2, hv2⟩ : ∃ v2, v2 = (w2.setCell ⟨w.heap.size + 1 + 1, 1, none⟩ (.slice b2 M.length c2)) := ⟨_, rfl⟩
  rw [← hv2] at HA0 HR0 HO0 HX0 HS0 LH2 G12 G22 ⊢
  clear hv2
  refine (toAskS_any _ K _ (HN.out.i3.ext HX0.out) HKB.out).mono ?_
  rintro e w3 ⟨y3, rfl, f3, x3⟩
  have HA3 := Lib.hid (HA0.out.ext x3)
  have HR3 := Lib.hid (HR0.out.ext x3)
  have HO3 := Lib.hid (HO0.out.ext x3)
  have HX3 := Lib.hid (HX0.out.trans x3)
  have XS3 : Hid (v2.heap.size ≤ w3.heap.size) := Lib.hid x3.size
  have LO3 : Hid (w.heap.size + 3 ≤ v2.heap.size) := Lib.hid (HS0.out)
  have HS3 : Hid (w.heap.size + 3 ≤ w3.heap.size) := Lib.hid (Nat.le_trans LO3.out XS3.out)
  obtain ⟨b3, c3, rfl⟩ := f3.form
  have G13 := Lib.hid (G12.out.kept (Stood.of_ext x3 (by have := XS1.out; have := LH1.out; have := XS2.out; have := LH2.out; omega)))
  have G23 := Lib.hid (G22.out.kept (Stood.of_ext x3 (by have := XS1.out; have := LH1.out; have := XS2.out; have := LH2.out; omega)))
  have G33 := Lib.hid f3
  clear x3 f3 HA0 HR0 HO0 HX0 HS0
  have o0 := HO3.out.cell 0 _ rfl
  have z0 := HO3.out.free 0 (of_decide_eq_true rfl)
  have r0 := HR3.out.cell 0 _ rfl
  have t0 := HR3.out.free 0 (of_decide_eq_true rfl)
  have o1 := HO3.out.cell 1 _ rfl
  have z1 := HO3.out.free 1 (of_decide_eq_true rfl)
  have r1 := HR3.out.cell 1 _ rfl
  have t1 := HR3.out.free 1 (of_decide_eq_true rfl)
  have o2 := HO3.out.cell 2 _ rfl
  have z2 := HO3.out.free 2 (of_decide_eq_true rfl)
  have r2 := HR3.out.cell 2 _ rfl
  have t2 := HR3.out.free 2 (of_decide_eq_true rfl)
  go_wp2
  clear o0 z0 r0 t0 o1 z1 r1 t1 o2 z2 r2 t2
  have kk : Ins w.heap.size (w.heap.size + 3) w3 ((((w3.setCell ⟨w.heap.size + 1 + 1, 2, none⟩ (.slice b3 K.length c3)).setCell ⟨w.heap.size + 1, 0, none⟩ (.slice b1 R.length c1)).setCell ⟨w.heap.size + 1, 1, none⟩ (.slice b2 M.length c2)).setCell ⟨w.heap.size + 1, 2, none⟩ (.slice b3 K.length c3)) := (ins_set (by omega) (by omega)).trans (ins_puts (b := w.heap.size + 1) (by omega) (by omega) [.slice b1 R.length c1, .slice b2 M.length c2, .slice b3 K.length c3] 0 _)
  have hr : BoxV ((((w3.setCell ⟨w.heap.size + 1 + 1, 2, none⟩ (.slice b3 K.length c3)).setCell ⟨w.heap.size + 1, 0, none⟩ (.slice b1 R.length c1)).setCell ⟨w.heap.size + 1, 1, none⟩ (.slice b2 M.length c2)).setCell ⟨w.heap.size + 1, 2, none⟩ (.slice b3 K.length c3)) (w.heap.size + 1) [.slice b1 R.length c1, .slice b2 M.length c2, .slice b3 K.length c3] := boxV_puts [.slice b1 R.length c1, .slice b2 M.length c2, .slice b3 K.length c3] 0 _ _ (HR3.out.other _ _ (by dsimp only; omega)) (of_decide_eq_true rfl)
  obtain ⟨wz, hwz⟩ : ∃ wz, wz = ((((w3.setCell ⟨w.heap.size + 1 + 1, 2, none⟩ (.slice b3 K.length c3)).setCell ⟨w.heap.size + 1, 0, none⟩ (.slice b1 R.length c1)).setCell ⟨w.heap.size + 1, 1, none⟩ (.slice b2 M.length c2)).setCell ⟨w.heap.size + 1, 2, none⟩ (.slice b3 K.length c3)) := ⟨_, rfl⟩
  rw [← hwz] at kk hr ⊢
  clear hwz
  have r0 := hr.cell 0 _ rfl
  have r1 := hr.cell 1 _ rfl
  have r2 := hr.cell 2 _ rfl
  have e1 := XS1.out
  have e2 := LH1.out
  have e3 := XS2.out
  have e4 := LH2.out
  have e5 := XS3.out
  have e6 := LO1.out
  refine bodyPost_ret (v := .agg #[.slice b1 R.length c1, .slice b2 M.length c2, .slice b3 K.length c3]) (by simp [results, Tryz.results8, go_sem, r0, r1, r2]) rfl ⟨_, _, _, rfl, ⟨w1.heap.size, w2.heap.size, ?_, ?_, ?_⟩, kk.ext HX3.out (Nat.le_refl _)⟩
  · exact (G13.out.kept (kk.stood (by omega) (.inr LO1.out))).more (by omega) (Nat.le_refl _)
  · exact (G23.out.kept (kk.stood (by omega) (.inr LO2.out))).more (by omega) (Nat.le_refl _)
  · exact (G33.out.kept (kk.stood (Nat.le_refl _) (.inr LO3.out))).more (by omega) kk.size
end Go.Proofs.YtbffkidkfannhaaGreat

namespace Go.Proofs.YtbffkidkfannhaaGreat
open Go.RowKit

def forB (M : List MsgD) (a : Int) (j : Nat) : Bool := match M[j]? with
  | some d => d.tt == a
  | none => false
def bagTo (M : List MsgD) (a : Int) (k : Nat) : List Int := ((List.range k).filter fun (j : Nat) => forB M a j).map fun (j : Nat) => (j : Int)
theorem bagTo_hit {M : List MsgD} {a : Int} {k : Nat} (h : forB M a k = true) : bagTo M a (k + 1) = bagTo M a k ++ [(k : Int)] := by
  simp [bagTo, List.range_succ, List.filter_append, h]
theorem bagTo_miss {M : List MsgD} {a : Int} {k : Nat} (h : forB M a k = false) : bagTo M a (k + 1) = bagTo M a k := by
  simp [bagTo, List.range_succ, List.filter_append, h]
theorem bagTo_len (M : List MsgD) (a : Int) (k : Nat) : (bagTo M a k).length ≤ k := by
  unfold bagTo
  rw [List.length_map]
  exact Nat.le_trans (List.length_filter_le _ _) (by simp)
theorem forB_get {M : List MsgD} {a : Int} {k : Nat} (h : k < M.length) : forB M a k = (M[k].tt == a) := by unfold forB; rw [List.getElem?_eq_getElem h]
def bagB (R : List RepD) (M : List MsgD) (K : List AskD) (a : Int) : Bool := goodNet R M K && inB a 0 ((R.length : Int) - 1)
def bagOf (R : List RepD) (M : List MsgD) (K : List AskD) (a : Int) : List Int := if bagB R M K a then bagTo M a M.length else []
theorem bagOf_len (R : List RepD) (M : List MsgD) (K : List AskD) (a : Int) : (bagOf R M K a).length ≤ M.length := by
  unfold bagOf
  split
  · exact bagTo_len _ _ _
  · simp
theorem goodNet_grp {R : List RepD} {M : List MsgD} {K : List AskD} (h : goodNet R M K = true) : isGrp R.length = true := by
  cases e : isGrp (R.length : Int) with
  | true => rfl
  | false => rw [goodNet_no0 e] at h; cases h
end Go.Proofs.YtbffkidkfannhaaGreat

namespace Go.Proofs.YtbffkidkfannhaaGreat
open Go.RowKit
set_option linter.unusedVariables false

set_option maxHeartbeats 4000000 in
set_option maxRecDepth 100000 in
theorem specBagFor_any (u v z : Value) (R : List RepD) (M : List MsgD) (K : List AskD) (a : Int) (w : World) (hn : NetL w u v z R M K) (hm : bulkMes M ≤ 549755813888) (wa : (Lit.int .i64 a).wf = true) :
    Calls Tryz.prog 15 #[.agg #[u, v, z], .int .i64 a] w (TwoInts (bagOf R M K a) (bagB R M K a) w) := by
  obtain ⟨wb, hwb⟩ : ∃ wb, wb = w.alloc (.cells #[u, v, z] 35) := ⟨_, rfl⟩
  have x0 : Ext w wb := by rw [hwb]; exact Ext.alloc1 _ _
  have HB := Lib.hid (show BoxV wb w.heap.size [u, v, z] by rw [hwb]; exact boxV_new w [u, v, z] 35)
  have HN := Lib.hid (hn.ext x0)
  have HX0 := Lib.hid x0
  have HW := Lib.hid hwb
  skip
  have HM := Lib.hid hm
  have hml : M.length ≤ 549755813888 := by unfold bulkMes at hm; omega
  obtain ⟨⟨au, cu, rfl, hlu, _, _⟩, ⟨av, cv, rfl, _, _, hcv⟩, _⟩ := hn
  unfold maxLen at hlu
  have HCV := Lib.hid hcv
  clear x0 hm hcv
  have a0 := HB.out.cell 0 _ rfl
  have a1 := HB.out.cell 1 _ rfl
  have a2 := HB.out.cell 2 _ rfl
  rw [hwb] at a0 a1 a2
  clear hwb
  go_enter Tryz.func15, Tryz.ntmps15
  go_wp2_with fail
  rw [← HW.out]
  refine (specGoodNet_any _ _ _ R M K _ HN.out).mono ?_
  rintro e w1 ⟨rfl, x1⟩
  have X1 := Lib.hid x1
  clear a0 a1 a2 x1
  cases hg : goodNet R M K with
  | false =>
    have HO : Hid (bagB R M K a = false) := Lib.hid (by unfold bagB; rw [hg]; rfl)
    clear hg
    go_wp2
    go_ret2
    exact ⟨_, by rw [HO.out]; rfl, by unfold bagOf; rw [HO.out]; exact fresh_nil _ _, HX0.out.trans X1.out⟩
  | true =>
    have HG := Lib.hid hg
    clear hg
    have a0 := (HB.out.ext X1.out).cell 0 _ rfl
    have a1 := (HB.out.ext X1.out).cell 1 _ rfl
    have a2 := (HB.out.ext X1.out).cell 2 _ rfl
    go_wp2_with fail
    refine (l1In_any _ _ _ _).mono ?_
    rintro e w2 ⟨rfl, rfl⟩
    cases hi : inB a 0 ((R.length : Int) - 1) with
    | false =>
      have HO : Hid (bagB R M K a = false) := Lib.hid (by unfold bagB; rw [hi, Bool.and_false])
      clear hi
      go_wp2
      go_ret2
      exact ⟨_, by rw [HO.out]; rfl, by unfold bagOf; rw [HO.out]; exact fresh_nil _ _, HX0.out.trans X1.out⟩
    | true =>
      have HO : Hid (bagB R M K a = true) := Lib.hid (by unfold bagB; rw [HG.out, hi]; rfl)
      clear hi
      go_wp2
      clear a0 a1 a2
      have Y1 := Lib.hid (HX0.out.trans X1.out)
      go_loopw [6, 24] (fun q i wr => ∃ k : Nat, k ≤ M.length ∧ i = .int .i64 k ∧ Hid (Fresh w.heap.size wr q (bagTo M a k)) ∧ Hid (Ext w wr)) (fun _ i _ => M.length - (intOf i).toNat)
      case atStart => exact ⟨0, Nat.zero_le _, rfl, Lib.hid (fresh_nil _ _), Y1⟩
      case round =>
        obtain ⟨k, hk, rfl, HF, HY⟩ := hrel
        by_cases hlt : k < M.length
        · obtain ⟨b, off, rfl, dv⟩ := HCV.out (by omega)
          obtain ⟨d, hd⟩ : ∃ d, d = M[k] := ⟨_, rfl⟩
          obtain ⟨y1, hy, iy⟩ := dv k hlt
          rw [← hd] at hy iy
          obtain ⟨b1, c1, rfl, _⟩ := id iy.i1
          obtain ⟨a0, a1, a2, a3, a4, a5, a6, a7, a8, a9, a10, a11, a12, a13, a14⟩ := mesIn_cells (hy.ext HY.out)
          have hat := forB_get (a := a) hlt
          rw [← hd] at hat
          have x3 : Ext wr (wr.alloc (.cells #[.int .i64 d.kd, .int .i64 d.fr, .int .i64 d.tt, .int .i64 d.rp, .int .i64 d.no, .int .i64 d.b, .int .i64 d.v, .int .i64 d.st, .int .i64 d.k, .int .i64 d.i, .int .i64 d.f, .int .i64 d.t, .int .i64 d.a, .int .i64 d.s, .slice b1 d.l.length c1] 77)) := Ext.alloc1 _ _
          have e2 : (wr.alloc (.cells #[.int .i64 d.kd, .int .i64 d.fr, .int .i64 d.tt, .int .i64 d.rp, .int .i64 d.no, .int .i64 d.b, .int .i64 d.v, .int .i64 d.st, .int .i64 d.k, .int .i64 d.i, .int .i64 d.f, .int .i64 d.t, .int .i64 d.a, .int .i64 d.s, .slice b1 d.l.length c1] 77)).cell? ⟨wr.heap.size, 2, none⟩ = some (.int .i64 d.tt) := (boxV_new wr [.int .i64 d.kd, .int .i64 d.fr, .int .i64 d.tt, .int .i64 d.rp, .int .i64 d.no, .int .i64 d.b, .int .i64 d.v, .int .i64 d.st, .int .i64 d.k, .int .i64 d.i, .int .i64 d.f, .int .i64 d.t, .int .i64 d.a, .int .i64 d.s, .slice b1 d.l.length c1] 77).cell 2 _ rfl
          have HLT := Lib.hid hlt
          have X3 := Lib.hid (HY.out.trans x3)
          have HF3 := Lib.hid (HF.out.ext x3)
          have hkl := bagTo_len M a k
          have HKL : Hid ((bagTo M a k).length ≤ 1099511627776) := Lib.hid (by omega)
          clear dv hy iy hd x3 hkl
          by_cases ht : d.tt = a
          · subst ht
            rw [beq_self_eq_true] at hat
            have hnx := bagTo_hit hat
            have HNX := Lib.hid hnx
            have ec := cell_alloc_one (wr.alloc (.cells #[.int .i64 d.kd, .int .i64 d.fr, .int .i64 d.tt, .int .i64 d.rp, .int .i64 d.no, .int .i64 d.b, .int .i64 d.v, .int .i64 d.st, .int .i64 d.k, .int .i64 d.i, .int .i64 d.f, .int .i64 d.t, .int .i64 d.a, .int .i64 d.s, .slice b1 d.l.length c1] 77)) (.int .i64 k) 3
            rw [World.size_alloc] at ec
            have EC := Lib.hid ec
            clear hnx hat ec
            go_wp2_with (at_builtin; refine wpList_push rfl _ _ rfl w.heap.size _ (bagTo M d.tt k) (k : Int) rfl (HF3.out.ext (Ext.alloc (Ext.refl _) _)) ⟨wr.heap.size + 1, 0, none⟩ 1 rfl EC.out HKL.out (size_alloc_le X3.out.size) ?_)
            intro v2 w4 f4 g4 k4
            have HX4 := Lib.hid (k4 w (X3.out.alloc _) (Nat.le_refl _))
            have HF4 : Hid (Fresh w.heap.size w4 v2 (bagTo M d.tt (k + 1))) := Lib.hid (by rw [HNX.out]; exact f4)
            clear f4 g4 k4 a0 a1 a2 a3 a4 a5 a6 a7 a8 a9 a10 a11 a12 a13 a14 e2
            go_wp2
            go_roundw
            case rel => exact ⟨k + 1, by have := HLT.out; omega, by go_num, HF4, HX4⟩
            case measure => simp [intOf]; have := HLT.out; omega
          · have hb : (d.tt == a) = false := by simp [ht]
            rw [hb] at hat
            have HF4 := HF3
            rw [← bagTo_miss hat] at HF4
            clear hat
            go_wp2
            go_roundw
            case rel => exact ⟨k + 1, by have := HLT.out; omega, by go_num, HF4, X3⟩
            case measure => simp [intOf]; have := HLT.out; omega
        · obtain rfl : k = M.length := by omega
          have HA : Hid (bagOf R M K a = bagTo M a M.length) := Lib.hid (by unfold bagOf; rw [HO.out]; rfl)
          go_wp2
          go_ret2
          exact ⟨_, by rw [HO.out]; rfl, by rw [HA.out]; exact HF.out, HY.out⟩
end Go.Proofs.YtbffkidkfannhaaGreat

namespace Go.Proofs.YtbffkidkfannhaaGreat
open Go.RowKit
set_option linter.unusedVariables false

set_option maxHeartbeats 4000000 in
set_option maxRecDepth 100000 in
theorem implBagFor_any (u v z : Value) (R : List RepD) (M : List MsgD) (K : List AskD) (a : Int) (w : World) (hn : NetL w u v z R M K) (hr : bulkRep R ≤ 549755813888) (hm : bulkMes M ≤ 549755813888) :
    Calls Tryz.prog 16 #[.agg #[u, v, z], .int .i64 a] w (TwoInts (bagOf R M K a) (bagB R M K a) w) := by
  obtain ⟨wb, hwb⟩ : ∃ wb, wb = w.alloc (.cells #[u, v, z] 35) := ⟨_, rfl⟩
  have x0 : Ext w wb := by rw [hwb]; exact Ext.alloc1 _ _
  have HB := Lib.hid (show BoxV wb w.heap.size [u, v, z] by rw [hwb]; exact boxV_new w [u, v, z] 35)
  have HN := Lib.hid (hn.ext x0)
  have HX0 := Lib.hid x0
  have HW := Lib.hid hwb
  have HR := Lib.hid hr
  have HM := Lib.hid hm
  have hml : M.length ≤ 549755813888 := by unfold bulkMes at hm; omega
  obtain ⟨⟨au, cu, rfl, hlu, _, _⟩, ⟨av, cv, rfl, _, _, hcv⟩, _⟩ := hn
  unfold maxLen at hlu
  have HCV := Lib.hid hcv
  clear x0 hr hm hcv
  have a0 := HB.out.cell 0 _ rfl
  have a1 := HB.out.cell 1 _ rfl
  have a2 := HB.out.cell 2 _ rfl
  rw [hwb] at a0 a1 a2
  clear hwb
  go_enter Tryz.func16, Tryz.ntmps16
  go_wp2_with fail
  rw [← HW.out]
  refine (implGoodNet_any _ _ _ R M K _ HN.out HR.out HM.out).mono ?_
  rintro e w1 ⟨rfl, x1⟩
  have X1 := Lib.hid x1
  clear a0 a1 a2 x1
  cases hg : goodNet R M K with
  | false =>
    have HO : Hid (bagB R M K a = false) := Lib.hid (by unfold bagB; rw [hg]; rfl)
    clear hg
    go_wp2
    go_ret2
    exact ⟨_, by rw [HO.out]; rfl, by unfold bagOf; rw [HO.out]; exact fresh_nil _ _, HX0.out.trans X1.out⟩
  | true =>
    have HG := Lib.hid hg
    clear hg
    have a0 := (HB.out.ext X1.out).cell 0 _ rfl
    have a1 := (HB.out.ext X1.out).cell 1 _ rfl
    have a2 := (HB.out.ext X1.out).cell 2 _ rfl
    go_wp2_with fail
    refine (isReplica_any _ _ _).mono ?_
    rintro e w2 ⟨rfl, rfl⟩
    have hrp : repB (R.length : Int) a = inB a 0 ((R.length : Int) - 1) := by unfold repB; rw [goodNet_grp HG.out]; rfl
    rw [hrp]
    clear hrp
    cases hi : inB a 0 ((R.length : Int) - 1) with
    | false =>
      have HO : Hid (bagB R M K a = false) := Lib.hid (by unfold bagB; rw [hi, Bool.and_false])
      clear hi
      go_wp2
      go_ret2
      exact ⟨_, by rw [HO.out]; rfl, by unfold bagOf; rw [HO.out]; exact fresh_nil _ _, HX0.out.trans X1.out⟩
    | true =>
      have HO : Hid (bagB R M K a = true) := Lib.hid (by unfold bagB; rw [HG.out, hi]; rfl)
      clear hi
      go_wp2
      clear a0 a1 a2
      have Y1 := Lib.hid (HX0.out.trans X1.out)
      go_loopw [6, 23] (fun q i wr => ∃ k : Nat, k ≤ M.length ∧ i = .int .i64 k ∧ Hid (Fresh w.heap.size wr q (bagTo M a k)) ∧ Hid (Ext w wr)) (fun _ i _ => M.length - (intOf i).toNat)
      case atStart => exact ⟨0, Nat.zero_le _, rfl, Lib.hid (fresh_nil _ _), Y1⟩
      case round =>
        obtain ⟨k, hk, rfl, HF, HY⟩ := hrel
        by_cases hlt : k < M.length
        · obtain ⟨b, off, rfl, dv⟩ := HCV.out (by omega)
          obtain ⟨d, hd⟩ : ∃ d, d = M[k] := ⟨_, rfl⟩
          obtain ⟨y1, hy, iy⟩ := dv k hlt
          rw [← hd] at hy iy
          obtain ⟨b1, c1, rfl, _⟩ := id iy.i1
          obtain ⟨a0, a1, a2, a3, a4, a5, a6, a7, a8, a9, a10, a11, a12, a13, a14⟩ := mesIn_cells (hy.ext HY.out)
          have hat := forB_get (a := a) hlt
          rw [← hd] at hat
          have x3 : Ext wr (wr.alloc (.cells #[.int .i64 d.kd, .int .i64 d.fr, .int .i64 d.tt, .int .i64 d.rp, .int .i64 d.no, .int .i64 d.b, .int .i64 d.v, .int .i64 d.st, .int .i64 d.k, .int .i64 d.i, .int .i64 d.f, .int .i64 d.t, .int .i64 d.a, .int .i64 d.s, .slice b1 d.l.length c1] 77)) := Ext.alloc1 _ _
          have e2 : (wr.alloc (.cells #[.int .i64 d.kd, .int .i64 d.fr, .int .i64 d.tt, .int .i64 d.rp, .int .i64 d.no, .int .i64 d.b, .int .i64 d.v, .int .i64 d.st, .int .i64 d.k, .int .i64 d.i, .int .i64 d.f, .int .i64 d.t, .int .i64 d.a, .int .i64 d.s, .slice b1 d.l.length c1] 77)).cell? ⟨wr.heap.size, 2, none⟩ = some (.int .i64 d.tt) := (boxV_new wr [.int .i64 d.kd, .int .i64 d.fr, .int .i64 d.tt, .int .i64 d.rp, .int .i64 d.no, .int .i64 d.b, .int .i64 d.v, .int .i64 d.st, .int .i64 d.k, .int .i64 d.i, .int .i64 d.f, .int .i64 d.t, .int .i64 d.a, .int .i64 d.s, .slice b1 d.l.length c1] 77).cell 2 _ rfl
          have HLT := Lib.hid hlt
          have X3 := Lib.hid (HY.out.trans x3)
          have HF3 := Lib.hid (HF.out.ext x3)
          have hkl := bagTo_len M a k
          have HKL : Hid ((bagTo M a k).length ≤ 1099511627776) := Lib.hid (by omega)
          clear dv hy iy hd x3 hkl
          by_cases ht : d.tt = a
          · subst ht
            rw [beq_self_eq_true] at hat
            have hnx := bagTo_hit hat
            have HNX := Lib.hid hnx
            have ec := cell_alloc_one (wr.alloc (.cells #[.int .i64 d.kd, .int .i64 d.fr, .int .i64 d.tt, .int .i64 d.rp, .int .i64 d.no, .int .i64 d.b, .int .i64 d.v, .int .i64 d.st, .int .i64 d.k, .int .i64 d.i, .int .i64 d.f, .int .i64 d.t, .int .i64 d.a, .int .i64 d.s, .slice b1 d.l.length c1] 77)) (.int .i64 k) 3
            rw [World.size_alloc] at ec
            have EC := Lib.hid ec
            clear hnx hat ec
            go_wp2_with (at_builtin; refine wpList_push rfl _ _ rfl w.heap.size _ (bagTo M d.tt k) (k : Int) rfl (HF3.out.ext (Ext.alloc (Ext.refl _) _)) ⟨wr.heap.size + 1, 0, none⟩ 1 rfl EC.out HKL.out (size_alloc_le X3.out.size) ?_)
            intro v2 w4 f4 g4 k4
            have HX4 := Lib.hid (k4 w (X3.out.alloc _) (Nat.le_refl _))
            have HF4 : Hid (Fresh w.heap.size w4 v2 (bagTo M d.tt (k + 1))) := Lib.hid (by rw [HNX.out]; exact f4)
            clear f4 g4 k4 a0 a1 a2 a3 a4 a5 a6 a7 a8 a9 a10 a11 a12 a13 a14 e2
            go_wp2
            go_roundw
            case rel => exact ⟨k + 1, by have := HLT.out; omega, by go_num, HF4, HX4⟩
            case measure => simp [intOf]; have := HLT.out; omega
          · have hb : (d.tt == a) = false := by simp [ht]
            rw [hb] at hat
            have HF4 := HF3
            rw [← bagTo_miss hat] at HF4
            clear hat
            go_wp2
            go_roundw
            case rel => exact ⟨k + 1, by have := HLT.out; omega, by go_num, HF4, X3⟩
            case measure => simp [intOf]; have := HLT.out; omega
        · obtain rfl : k = M.length := by omega
          have HA : Hid (bagOf R M K a = bagTo M a M.length) := Lib.hid (by unfold bagOf; rw [HO.out]; rfl)
          go_wp2
          go_ret2
          exact ⟨_, by rw [HO.out]; rfl, by rw [HA.out]; exact HF.out, HY.out⟩
end Go.Proofs.YtbffkidkfannhaaGreat

namespace Go.Proofs.YtbffkidkfannhaaGreat
open Go.RowKit
set_option linter.unusedVariables false

/-- How many marks rows bear. -/
def weigh (R : List RowD) : List Nat := R.map fun r => 9 + r.l.length
theorem weigh_len (R : List RowD) : (weigh R).length = R.length := by simp [weigh]
theorem weigh_get {R : List RowD} {k : Nat} (h : k < R.length) : (weigh R)[k]'(by rw [weigh_len]; exact h) = 9 + R[k].l.length := by simp [weigh]
theorem weigh_sum (R : List RowD) : (weigh R).sum ≤ 10 * bulkR R := by
  unfold weigh bulkR
  induction R with
  | nil => simp
  | cons r R ih => simp at ih ⊢; omega

set_option maxHeartbeats 4000000 in
set_option maxRecDepth 100000 in
theorem markRowS_any (lo hi : Nat) (v : Value) (R : List RowD) (k : Int) (w : World) (hv : FreshI lo hi w v R) (h0 : 0 ≤ k) (hk : k ≤ 1099511627776) (h1 : bulkR R ≤ 1099511627776) :
    Calls Tryz.prog 103 #[v, .int .i64 k] w (fun e w' => e = .returned (.int .i64 (k + (weigh R).sum)) ∧ Ins lo hi w w') := by
  obtain ⟨xs, us, ho, hC, hR, hout, hU, hUs⟩ := hv
  have hul : us.length = R.length := by have := hR.len; simpa using this
  have hws := weigh_sum R
  rcases ho.2 with ⟨rfl, hn⟩ | ⟨g, cap, cur, rfl, hb, hg, hnc, hcm, hcs, htake⟩
  · obtain rfl : R = [] := List.eq_nil_of_length_eq_zero hn
    clear h1 hws
    go_enter Tryz.func103, Tryz.ntmps103
    go_wp2
    refine wp_loop_rounds 1 ?_; rw [rounds_succ]
    go_wp2
    go_ret
    exact ⟨by simp [weigh], Ins.refl _ _ _⟩
  · have hout' : ∀ (j : Nat) (u : Value), us[j]? = some u → u.ownBlock = none ∨ u.ownBlock ≠ some g := hout
    have hgi : lo ≤ g ∧ g < hi := ⟨hb, hU g rfl⟩
    have hfr : Hid (∀ i (h : i < R.length) (h' : i < us.length), 0 ≤ i → Fresh lo w us[i] R[i].l) := Lib.hid fun i h h' _ => hR.row i _ _ (List.getElem?_eq_getElem h') (by simp [List.getElem?_eq_getElem h])
    have hxr : Hid (∀ i (h : i < R.length) (h' : i < us.length), 0 ≤ i → XRow xs (i * 10) R[i] us[i]) := Lib.hid fun i h h' _ => hC i h h'
    have HOUT := Lib.hid hout'
    have HAP := Lib.hid hR.apart
    have HUS := Lib.hid hUs
    have HUL := Lib.hid hul
    have HWS := Lib.hid hws
    have HGI := Lib.hid hgi
    have H1 := Lib.hid h1
    have hLen : R.length ≤ 1099511627776 := by unfold bulkR at h1; omega
    clear hg hnc hcm hcs htake cur hb hout hout' hU hUs hul hR hC hws hgi h1
    go_enter Tryz.func103, Tryz.ntmps103
    go_wp2
    go_loopw [1, 5] (fun m i wr => ∃ (j : Nat) (r : Int) (ys : List Value), j ≤ R.length ∧ i = .int .i64 j ∧ m = .int .i64 r ∧ Hid (r = k + sumN (weigh R) j) ∧ wr.ownsRow lo 101 10 (.slice (some ⟨g, 0, none⟩) R.length cap) R.length ys ∧ Hid (∀ i (h : i < R.length) (h' : i < us.length), j ≤ i → Fresh lo wr us[i] R[i].l) ∧ Hid (∀ i (h : i < R.length) (h' : i < us.length), j ≤ i → XRow ys (i * 10) R[i] us[i]) ∧ Ins lo hi w wr) (fun _ i _ => R.length - (intOf i).toNat)
    case atStart => exact ⟨0, k, xs, Nat.zero_le _, rfl, rfl, Lib.hid (by rw [sumN_zero]; simp), ho, hfr, hxr, Ins.refl _ _ _⟩
    case round =>
      clear ho hfr hxr
      obtain ⟨j, r, ys, hj, rfl, rfl, hr, ho, hF, hX, hI⟩ := hrel
      by_cases hlt : j < R.length
      · have hju : j < us.length := by rw [HUL.out]; exact hlt
        obtain ⟨d, hd⟩ : ∃ d, d = R[j] := ⟨_, rfl⟩
        obtain ⟨u, hu⟩ : ∃ u, u = us[j] := ⟨_, rfl⟩
        have hx := hX.out j hlt hju (Nat.le_refl _)
        have hf := hF.out j hlt hju (Nat.le_refl _)
        rw [← hd, ← hu] at hx hf
        have hlen : d.l.length ≤ 1099511627776 := by rw [hd]; have := bulkR_row hlt; have := H1.out; omega
        have hr0 : 0 ≤ r := by have := hr.out; omega
        have hr1 : r ≤ 21990232555520 := by
          have h := hr.out
          have h2 := sumN_mono (g := weigh R) (k := j) (by rw [weigh_len]; omega)
          have := HWS.out; have := H1.out; omega
        obtain ⟨g0, g1, g2, g3, g4, g5, g6, g7, g8, g9⟩ := hx.rowIn ho hlt
        have gf : ∀ q, wr.frozen? ⟨g, q, none⟩ = false := fun q => ho.frozenAt q
        obtain ⟨au, cu, rfl⟩ := hf.form
        have HO := Lib.hid ho
        have HFF := Lib.hid hf
        have HD := Lib.hid hd
        have HU := Lib.hid hu
        clear ho hf hx hd hu
        have hst := ownsRow_stores [.int .i64 r, .int .i64 (r + 1), .int .i64 (r + 1 + 1), .int .i64 (r + 1 + 1 + 1), .int .i64 (r + 1 + 1 + 1 + 1), .int .i64 (r + 1 + 1 + 1 + 1 + 1), .int .i64 (r + 1 + 1 + 1 + 1 + 1 + 1), .int .i64 (r + 1 + 1 + 1 + 1 + 1 + 1 + 1), .int .i64 (r + 1 + 1 + 1 + 1 + 1 + 1 + 1 + 1)] (j * 10) wr ys HO.out
        have hub : ∀ b, (Value.slice au d.l.length cu).ownBlock = some b → lo ≤ b ∧ b < hi ∧ b ≠ g := fun b e => by
          have h1 := (World.ownsRow.lt HFF.out b e).1
          have hju' : us[j]? = some (.slice au d.l.length cu) := by rw [List.getElem?_eq_getElem hju, HU.out]
          have h2 := HUS.out j _ hju' b e
          refine ⟨h1, h2, fun e' => ?_⟩
          rcases HOUT.out j _ hju' with h | h
          · rw [h] at e; cases e
          · exact h (by rw [e, e'])
        have hf9 : Fresh lo (wr.setCells g (j * 10) [.int .i64 r, .int .i64 (r + 1), .int .i64 (r + 1 + 1), .int .i64 (r + 1 + 1 + 1), .int .i64 (r + 1 + 1 + 1 + 1), .int .i64 (r + 1 + 1 + 1 + 1 + 1), .int .i64 (r + 1 + 1 + 1 + 1 + 1 + 1), .int .i64 (r + 1 + 1 + 1 + 1 + 1 + 1 + 1), .int .i64 (r + 1 + 1 + 1 + 1 + 1 + 1 + 1 + 1)]) (.slice au d.l.length cu) d.l := World.ownsRow.kept HFF.out hst.2 (by
          cases hob : (Value.slice au d.l.length cu).ownBlock with
          | none => exact .inl rfl
          | some b => exact .inr fun e => (hub b hob).2.2 (Option.some.inj e))
        have hi9 : Ins lo hi wr (wr.setCells g (j * 10) [.int .i64 r, .int .i64 (r + 1), .int .i64 (r + 1 + 1), .int .i64 (r + 1 + 1 + 1), .int .i64 (r + 1 + 1 + 1 + 1), .int .i64 (r + 1 + 1 + 1 + 1 + 1), .int .i64 (r + 1 + 1 + 1 + 1 + 1 + 1), .int .i64 (r + 1 + 1 + 1 + 1 + 1 + 1 + 1), .int .i64 (r + 1 + 1 + 1 + 1 + 1 + 1 + 1 + 1)]) := Ins.of_grown hst.2 (fun q e => by rw [← Option.some.inj e]; exact HGI.out)
        have HST := Lib.hid hst
        have HUB := Lib.hid hub
        have HF9 := Lib.hid hf9
        have HI9 := Lib.hid hi9
        clear hst hub hf9 hi9
        go_wp2_with fail
        refine (markIntS_any lo _ d.l _ (wr.setCells g (j * 10) [.int .i64 r, .int .i64 (r + 1), .int .i64 (r + 1 + 1), .int .i64 (r + 1 + 1 + 1), .int .i64 (r + 1 + 1 + 1 + 1), .int .i64 (r + 1 + 1 + 1 + 1 + 1), .int .i64 (r + 1 + 1 + 1 + 1 + 1 + 1), .int .i64 (r + 1 + 1 + 1 + 1 + 1 + 1 + 1), .int .i64 (r + 1 + 1 + 1 + 1 + 1 + 1 + 1 + 1)]) HF9.out (by omega) (by omega)).mono ?_
        rintro e w3 ⟨rfl, f3, t3⟩
        have T3 := Lib.hid t3
        have hs := sumN_succ (g := weigh R) (k := j) (by rw [weigh_len]; exact hlt)
        rw [weigh_get hlt, ← HD.out] at hs
        have HS := Lib.hid hs
        clear f3 t3 hs g0 g1 g2 g3 g4 g5 g6 g7 g8 g9 gf
        obtain ⟨q, hq⟩ : ∃ q, q = r + 1 + 1 + 1 + 1 + 1 + 1 + 1 + 1 + 1 + (d.l.length : Int) := ⟨_, rfl⟩
        have hq0 : 0 ≤ q := by omega
        rw [← hq]
        have HQ := Lib.hid hq
        clear hq
        go_wp2
        go_roundw
        case rel =>
          have hju' : us[j]? = some (.slice au d.l.length cu) := by rw [List.getElem?_eq_getElem hju, HU.out]
          refine ⟨j + 1, q, _, by omega, by go_num, rfl, Lib.hid (by have h1 := hr.out; have h2 := HS.out; have h3 := HQ.out; omega), World.ownsRow.kept HST.out.1 T3.out ?_, Lib.hid fun i h h' hij => ?_, Lib.hid fun i h h' hij => ?_, (hI.trans HI9.out).trans (Ins.of_grown T3.out (fun b e => ⟨(HUB.out b e).1, (HUB.out b e).2.1⟩))⟩
          · refine .inr fun e => ?_
            have := (HUB.out g e.symm).2.2
            exact this rfl
          · have h9 : Fresh lo (wr.setCells g (j * 10) [.int .i64 r, .int .i64 (r + 1), .int .i64 (r + 1 + 1), .int .i64 (r + 1 + 1 + 1), .int .i64 (r + 1 + 1 + 1 + 1), .int .i64 (r + 1 + 1 + 1 + 1 + 1), .int .i64 (r + 1 + 1 + 1 + 1 + 1 + 1), .int .i64 (r + 1 + 1 + 1 + 1 + 1 + 1 + 1), .int .i64 (r + 1 + 1 + 1 + 1 + 1 + 1 + 1 + 1)]) us[i] R[i].l := World.ownsRow.kept (hF.out i h h' (by omega)) HST.out.2 (HOUT.out i _ (List.getElem?_eq_getElem h'))
            exact World.ownsRow.kept h9 T3.out (HAP.out i j _ _ (by omega) (List.getElem?_eq_getElem h') hju')
          · have hl9 : ∀ (vs : List Value), vs.length = 9 → XRow (putL ys (j * 10) vs) (i * 10) R[i] us[i] := fun vs hvs => by
              obtain ⟨p0, p1, p2, p3, p4, p5, p6, p7, p8, p9⟩ := hX.out i h h' (by omega)
              refine ⟨?_, ?_, ?_, ?_, ?_, ?_, ?_, ?_, ?_, ?_⟩ <;> (rw [putL_out _ _ _ _ (by rw [hvs]; omega)]; assumption)
            exact hl9 _ rfl
        case measure => simp [intOf]; omega
      · obtain rfl : j = R.length := by omega
        go_wp2
        go_ret
        refine ⟨?_, hI⟩
        have h := hr.out
        have h2 := sumN_all (weigh R)
        rw [weigh_len] at h2
        rw [h2] at h
        rw [h]; rfl

end Go.Proofs.YtbffkidkfannhaaGreat

namespace Go.Proofs.YtbffkidkfannhaaGreat
open Go.RowKit
set_option linter.unusedVariables false

def weighs (T : List (List RowD)) : List Nat := T.map fun R => (weigh R).sum
theorem weighs_len (T : List (List RowD)) : (weighs T).length = T.length := by simp [weighs]
theorem weighs_get {T : List (List RowD)} {k : Nat} (h : k < T.length) : (weighs T)[k]'(by rw [weighs_len]; exact h) = (weigh T[k]).sum := by simp [weighs]
theorem weighs_sum (T : List (List RowD)) : (weighs T).sum ≤ 10 * bulkT T := by
  unfold weighs bulkT
  induction T with
  | nil => simp
  | cons R T ih =>
    have := weigh_sum R
    simp at ih ⊢; omega

/-- So many marks were laid, and nothing else has turned. -/
def Marked (lo hi : Nat) (k : Int) (n : Nat) (w : World) (e : Ending) (w' : World) : Prop := e = .returned (.int .i64 (k + n)) ∧ Ins lo hi w w'

set_option maxHeartbeats 4000000 in
set_option maxRecDepth 100000 in
theorem markRowSS_any (lo hi : Nat) (v : Value) (T : List (List RowD)) (k : Int) (w : World) (hv : FreshT lo hi w v T) (h0 : 0 ≤ k) (hk : k ≤ 1073741824) (h1 : bulkT T ≤ 10995116277) :
    Calls Tryz.prog 73 #[v, .int .i64 k] w (Marked lo hi k (weighs T).sum w) := by
  obtain ⟨vs, cut, ho, hU, hcut, hc0, hcn, hF⟩ := hv
  have hvl : vs.length = T.length := by have := ho.1; omega
  have hws := weighs_sum T
  rcases ho.2 with ⟨rfl, hn⟩ | ⟨g, cap, cur, rfl, hb, hg, hnc, hcm, hcs, htake⟩
  · obtain rfl : T = [] := List.eq_nil_of_length_eq_zero hn
    clear h1 hws
    go_enter Tryz.func73, Tryz.ntmps73
    go_wp2
    refine wp_loop_rounds 1 ?_; rw [rounds_succ]
    go_wp2
    go_ret
    exact ⟨by simp [weighs], Ins.refl _ _ _⟩
  · have hgc : g < cut 0 := hU g rfl
    have hm := cut_mono hcut
    have hfr : Hid (∀ i (h : i < T.length) (h' : i < vs.length), 0 ≤ i → FreshI (cut i) (cut (i + 1)) w vs[i] T[i]) := Lib.hid fun i h h' _ => hF i h h'
    have HM := Lib.hid hm
    have HGC := Lib.hid hgc
    have HC0 := Lib.hid hc0
    have HCN := Lib.hid hcn
    have HVL := Lib.hid hvl
    have HWS := Lib.hid hws
    have H1 := Lib.hid h1
    have hLen : T.length ≤ 1099511627776 := by unfold bulkT at h1; omega
    clear hg hnc hcm hcs htake cur hb hU hcut hF hm hgc hc0 hcn hvl hws h1
    go_enter Tryz.func73, Tryz.ntmps73
    go_wp2
    go_loopw [1, 5] (fun m i wr => ∃ (j : Nat) (r : Int), j ≤ T.length ∧ i = .int .i64 j ∧ m = .int .i64 r ∧ Hid (r = k + sumN (weighs T) j) ∧ wr.ownsRow lo 98 1 (.slice (some ⟨g, 0, none⟩) T.length cap) T.length vs ∧ Hid (∀ i (h : i < T.length) (h' : i < vs.length), j ≤ i → FreshI (cut i) (cut (i + 1)) wr vs[i] T[i]) ∧ Ins lo hi w wr) (fun _ i _ => T.length - (intOf i).toNat)
    case atStart => exact ⟨0, k, Nat.zero_le _, rfl, rfl, Lib.hid (by rw [sumN_zero]; simp), ho, hfr, Ins.refl _ _ _⟩
    case round =>
      clear ho hfr
      obtain ⟨j, r, hj, rfl, rfl, hr, ho, hF, hI⟩ := hrel
      by_cases hlt : j < T.length
      · have hjv : j < vs.length := by rw [HVL.out]; exact hlt
        obtain ⟨d, hd⟩ : ∃ d, d = T[j] := ⟨_, rfl⟩
        obtain ⟨u, hu⟩ : ∃ u, u = vs[j] := ⟨_, rfl⟩
        have hf := hF.out j hlt hjv (Nat.le_refl _)
        rw [← hd, ← hu] at hf
        have hlen : bulkR d ≤ 1099511627776 := by rw [hd]; have := bulkT_row hlt; have := H1.out; omega
        have hr0 : 0 ≤ r := by have := hr.out; omega
        have hr1 : r ≤ 1099511627776 := by
          have h := hr.out
          have h2 := sumN_mono (g := weighs T) (k := j) (by rw [weighs_len]; omega)
          have := HWS.out; have := H1.out; omega
        have hwd := weigh_sum d
        have hc := (ho.cellAt j (by omega)).trans (List.getElem?_eq_getElem hjv)
        rw [← hu] at hc
        have HO := Lib.hid ho
        have HFF := Lib.hid hf
        have HD := Lib.hid hd
        have HU := Lib.hid hu
        clear ho hf hd hu
        go_wp2_with fail
        refine (markRowS_any (cut j) (cut (j + 1)) _ d _ _ HFF.out hr0 hr1 hlen).mono ?_
        rintro e w3 ⟨rfl, t3⟩
        have T3 := Lib.hid t3
        have hs := sumN_succ (g := weighs T) (k := j) (by rw [weighs_len]; exact hlt)
        rw [weighs_get hlt, ← HD.out] at hs
        have HS := Lib.hid hs
        clear t3 hs hc
        obtain ⟨q, hq⟩ : ∃ q, q = r + ((weigh d).sum : Int) := ⟨_, rfl⟩
        have hq0 : 0 ≤ q := by omega
        rw [← hq]
        have HQ := Lib.hid hq
        clear hq
        go_wp2
        go_roundw
        case rel =>
          have m1 := HM.out 0 j (by omega) (by omega)
          have m2 := HM.out (j + 1) T.length (by omega) (Nat.le_refl _)
          have m3 := HGC.out
          have m4 := HC0.out
          have m5 := HCN.out
          refine ⟨j + 1, q, by omega, by go_num, rfl, Lib.hid (by have h1 := hr.out; have h2 := HS.out; have h3 := HQ.out; omega), T3.out.row HO.out (fun b e => .inl (by have := Option.some.inj e; simp at this; omega)), Lib.hid fun i h h' hij => ?_, hI.trans (T3.out.more (by omega) (by omega))⟩
          obtain ⟨zs, us, q1, q2, q3, q4, q5, q6⟩ := hF.out i h h' (by omega)
          have m6 := HM.out (j + 1) i (by omega) (by omega)
          refine ⟨zs, us, T3.out.row q1 (fun b e => .inr (by have := (World.ownsRow.lt q1 b e).1; omega)), q2, ⟨q3.len, fun a z l hz hl => T3.out.row (q3.row a z l hz hl) (fun b e => .inr (by have := (World.ownsRow.lt (q3.row a z l hz hl) b e).1; omega)), q3.apart⟩, q4, q5, q6⟩
        case measure => simp [intOf]; omega
      · obtain rfl : j = T.length := by omega
        go_wp2
        go_ret
        refine ⟨?_, hI⟩
        have h := hr.out
        have h2 := sumN_all (weighs T)
        rw [weighs_len] at h2
        rw [h2] at h
        rw [h]; rfl

end Go.Proofs.YtbffkidkfannhaaGreat

namespace Go.Proofs.YtbffkidkfannhaaGreat
open Go.RowKit
set_option linter.unusedVariables false

/-- From q0 on the cells of vs stand in ys, from o on. -/
def RestX (ys : List Value) (o q0 : Nat) (vs : List Value) : Prop := ∀ q v, q0 ≤ q → vs[q]? = some v → ys[o + q]? = some v
theorem RestX.put {ys vs ms : List Value} {o q0 p q1 : Nat} (h : RestX ys o q0 vs) (h0 : q0 ≤ q1) (h1 : p + ms.length ≤ o + q1) : RestX (putL ys p ms) o q1 vs := fun q v hq hv => by
  rw [putL_out _ _ _ _ (by omega)]
  exact h q v (by omega) hv
/-- But from a on, below b, the lists are one. -/
def KeptX (ys zs : List Value) (a b : Nat) : Prop := zs.length = ys.length ∧ ∀ q, (q < a ∨ b ≤ q) → zs[q]? = ys[q]?
theorem KeptX.refl (ys : List Value) (a b : Nat) : KeptX ys ys a b := ⟨rfl, fun _ _ => rfl⟩
theorem KeptX.put {ys zs ms : List Value} {a b p : Nat} (h : KeptX ys zs a b) (h1 : a ≤ p) (h2 : p + ms.length ≤ b) : KeptX ys (putL zs p ms) a b :=
  ⟨by rw [putL_len]; exact h.1, fun q hq => by rw [putL_out _ _ _ _ (by omega)]; exact h.2 q hq⟩
theorem BoxV.ins' {lo hi : Nat} {w w' : World} {b : Nat} {vs : List Value} (h : BoxV w b vs) (k : Ins lo hi w w') (hb : b < lo ∨ hi ≤ b) : BoxV w' b vs :=
  ⟨fun j v hj => k.cell (h.cell j v hj) hb, fun j hj => by
    have := h.free j hj
    unfold World.frozen? at this ⊢
    rw [k.block b h.lt hb]
    exact this, Nat.lt_of_lt_of_le h.lt k.size⟩
/-- Marks were laid, so many at most, between two blocks. -/
def MarkUp (lo hi : Nat) (k : Int) (n : Nat) (w : World) (e : Ending) (w' : World) : Prop := ∃ k' : Int, e = .returned (.int .i64 k') ∧ k ≤ k' ∧ k' ≤ k + 16 * (n : Int) ∧ Ins lo hi w w'
end Go.Proofs.YtbffkidkfannhaaGreat
