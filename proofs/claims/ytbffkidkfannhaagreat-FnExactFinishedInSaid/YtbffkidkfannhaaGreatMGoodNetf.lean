/- Texts of this proof, part f: words, plain facts, contracts. -/
import Derived.Test.YtbffkidkfannhaaGreatMGoodNeta
import Derived.Test.YtbffkidkfannhaaGreatMGoodNete
import Derived.Test.YtbffkidkfannhaaGreatMGoodNetd
import Derived.Test.YtbffkidkfannhaaGreatMGoodNetb

namespace Go.Proofs.YtbffkidkfannhaaGreat
open Go.RowKit
set_option linter.unusedVariables false

def RepAt (w : World) (b : Nat) (me n : Int) (u v : Value) : Prop :=
  w.cell? ⟨b, 0, none⟩ = some (.int .i64 me) ∧ w.cell? ⟨b, 1, none⟩ = some (.int .i64 n) ∧ w.cell? ⟨b, 2, none⟩ = some u ∧ w.cell? ⟨b, 3, none⟩ = some v
theorem RepAt.ext {w w' : World} {b : Nat} {me n : Int} {u v : Value} (h : RepAt w b me n u v) (e : Ext w w') : RepAt w' b me n u v :=
  ⟨e.cell h.1, e.cell h.2.1, e.cell h.2.2.1, e.cell h.2.2.2⟩
theorem repAt_new (w : World) (T : TypeId) (me n : Int) (u v : Value) : RepAt (w.alloc (.cells #[.int .i64 me, .int .i64 n, u, v] T)) w.heap.size me n u v := by
  refine ⟨?_, ?_, ?_, ?_⟩ <;> go_simp
theorem two_reps (w : World) (T T' : TypeId) (me n me' n' : Int) (u u' v v' : Value) :
    RepAt ((w.alloc (.cells #[.int .i64 me, .int .i64 n, u, v] T)).alloc (.cells #[.int .i64 me', .int .i64 n', u', v'] T')) w.heap.size me n u v ∧ RepAt ((w.alloc (.cells #[.int .i64 me, .int .i64 n, u, v] T)).alloc (.cells #[.int .i64 me', .int .i64 n', u', v'] T')) (w.heap.size + 1) me' n' u' v' := by
  refine ⟨(repAt_new _ _ _ _ _ _).ext (Ext.alloc (Ext.refl _) _), ?_⟩
  have h := repAt_new (w.alloc (.cells #[.int .i64 me, .int .i64 n, u, v] T)) T' me' n' u' v'
  rw [World.size_alloc] at h
  exact h
end Go.Proofs.YtbffkidkfannhaaGreat

namespace Go.Proofs.YtbffkidkfannhaaGreat
open Go.RowKit
set_option linter.unusedVariables false

/-- A replica that reads so comes back, nothing that was there turned. -/
def NewRep (me n : Int) (T : List (List RowD)) (L : List LeadD) (w : World) (e : Ending) (w' : World) : Prop := ∃ u v, e = .returned (.agg #[.int .i64 me, .int .i64 n, u, v]) ∧ Rowzz w' u T ∧ Leadz w' v L ∧ Ext w w'
/-- A table and leads in ranges of blocks. -/
def RepC (lo hi : Nat) (w : World) (u v : Value) (T : List (List RowD)) (L : List LeadD) : Prop := ∃ c, lo ≤ c ∧ c ≤ hi ∧ FreshT lo c w u T ∧ LeadzF c hi w v L
theorem RepC.kept {lo hi : Nat} {w w' : World} {u v : Value} {T : List (List RowD)} {L : List LeadD} (h : RepC lo hi w u v T L) (s : Stood lo hi w w') : RepC lo hi w' u v T L := by
  obtain ⟨c, h1, h2, f1, f2⟩ := h
  exact ⟨c, h1, h2, f1.kept (s.within (Nat.le_refl _) h2), f2.kept (s.within h1 (Nat.le_refl _))⟩
theorem RepC.more {lo lo' hi hi' : Nat} {w : World} {u v : Value} {T : List (List RowD)} {L : List LeadD} (h : RepC lo hi w u v T L) (p : lo' ≤ lo) (q : hi ≤ hi') : RepC lo' hi' w u v T L := by
  obtain ⟨c, h1, h2, f1, f2⟩ := h
  exact ⟨c, by omega, by omega, f1.more p (Nat.le_refl _), f2.more (Nat.le_refl _) q⟩
/-- The same, in new memory. -/
def NewRepF (me n : Int) (T : List (List RowD)) (L : List LeadD) (w : World) (e : Ending) (w' : World) : Prop := ∃ u v, e = .returned (.agg #[.int .i64 me, .int .i64 n, u, v]) ∧ RepC w.heap.size w'.heap.size w' u v T L ∧ Ext w w'
set_option maxHeartbeats 4000000 in
set_option maxRecDepth 100000 in
theorem toReplica_new (me n : Int) (u v : Value) (T : List (List RowD)) (L : List LeadD) (w : World) (hu : Rowzz w u T) (hv : Leadz w v L) (hs : bulkT T ≤ 1099511627776) (hl : bulkL L ≤ 549755813888) :
    Calls Tryz.prog 50 #[.agg #[.int .i64 me, .int .i64 n, u, v]] w (NewRepF me n T L w) := by
  have HT := Lib.hid hs
  have HL := Lib.hid hl
  clear hs hl
  obtain ⟨w0, hw0⟩ : ∃ w0, w0 = ((w.alloc (.cells #[.int .i64 me, .int .i64 n, u, v] 92)).alloc (.cells #[.int .i64 0, .int .i64 0, .slice none 0 0, .slice none 0 0] 70)).alloc (.cells #[.int .i64 me, .int .i64 0, .slice none 0 0, .slice none 0 0] 70) := ⟨_, rfl⟩
  have x0 : Ext w w0 := by rw [hw0]; exact ((Ext.alloc1 _ _).alloc _).alloc _
  have s0 : w0.heap.size = w.heap.size + 3 := by rw [hw0]; simp
  have a0 : BoxV w0 w.heap.size [.int .i64 me, .int .i64 n, u, v] := by rw [hw0]; exact (boxV_new w [.int .i64 me, .int .i64 n, u, v] 92).ext ((Ext.alloc1 _ _).alloc _)
  have r0 : BoxV w0 (w.heap.size + 1) [.int .i64 0, .int .i64 0, .slice none 0 0, .slice none 0 0] := by
    have h := (boxV_new (w.alloc (.cells #[.int .i64 me, .int .i64 n, u, v] 92)) [.int .i64 0, .int .i64 0, .slice none 0 0, .slice none 0 0] 70).ext (Ext.alloc1 _ (.cells #[.int .i64 me, .int .i64 0, .slice none 0 0, .slice none 0 0] 70))
    rw [World.size_alloc] at h
    rw [hw0]; exact h
  have o0 : BoxV w0 (w.heap.size + 1 + 1) [.int .i64 me, .int .i64 0, .slice none 0 0, .slice none 0 0] := by
    have h := boxV_new ((w.alloc (.cells #[.int .i64 me, .int .i64 n, u, v] 92)).alloc (.cells #[.int .i64 0, .int .i64 0, .slice none 0 0, .slice none 0 0] 70)) [.int .i64 me, .int .i64 0, .slice none 0 0, .slice none 0 0] 70
    rw [World.size_alloc, World.size_alloc] at h
    rw [hw0]; exact h
  have HW0 := Lib.hid hw0
  have HA0 := Lib.hid a0
  have HR0 := Lib.hid r0
  have HO0 := Lib.hid o0
  have HX0 := Lib.hid x0
  have HS0 := Lib.hid s0
  have HU := Lib.hid (hu.ext x0)
  have HV := Lib.hid hv
  clear hw0 a0 r0 o0 x0 s0 hu hv
  go_enter Tryz.func50, Tryz.ntmps50
  go_wp2_with fail
  rw [← HW0.out]
  refine (toTable_any _ _ _ _ HU.out HT.out).mono ?_
  rintro e w1 ⟨y1, rfl, f1, x1⟩
  have HA1 := Lib.hid (HA0.out.ext x1)
  have HR1 := Lib.hid (HR0.out.ext x1)
  have HO1 := Lib.hid (HO0.out.ext x1)
  have HX1 := Lib.hid (HX0.out.trans x1)
  have HS1 : Hid (w.heap.size + 3 ≤ w1.heap.size) := Lib.hid (by have := x1.size; have := HS0.out; omega)
  rw [HS0.out] at f1
  obtain ⟨av, cv, rfl⟩ := f1.form
  have F1 := Lib.hid f1
  clear x1 f1 HA0 HR0 HO0 HX0 HS0 HW0 HU
  have a0 := (HA1.out).cell 0 _ rfl
  have a1 := (HA1.out).cell 1 _ rfl
  have a2 := (HA1.out).cell 2 _ rfl
  have a3 := (HA1.out).cell 3 _ rfl
  have o0 := (HO1.out).cell 0 _ rfl
  have o1 := (HO1.out).cell 1 _ rfl
  have o2 := (HO1.out).cell 2 _ rfl
  have o3 := (HO1.out).cell 3 _ rfl
  have z0 := (HO1.out).free 0 (of_decide_eq_true rfl)
  have z1 := (HO1.out).free 1 (of_decide_eq_true rfl)
  have z2 := (HO1.out).free 2 (of_decide_eq_true rfl)
  have z3 := (HO1.out).free 3 (of_decide_eq_true rfl)
  go_wp2_with fail
  have k1 : Ins w.heap.size (w.heap.size + 3) w1 ((w1.setCell ⟨w.heap.size + 1 + 1, 1, none⟩ (.int .i64 n)).setCell ⟨w.heap.size + 1 + 1, 2, none⟩ (.slice av T.length cv)) := by
    iterate 2 refine Ins.trans ?_ (ins_set (by omega) (by omega))
    exact Ins.refl _ _ _
  have ha : BoxV ((w1.setCell ⟨w.heap.size + 1 + 1, 1, none⟩ (.int .i64 n)).setCell ⟨w.heap.size + 1 + 1, 2, none⟩ (.slice av T.length cv)) w.heap.size [.int .i64 me, .int .i64 n, u, v] := by
    iterate 2 refine BoxV.other ?_ _ _ (by dsimp only; omega)
    exact HA1.out
  have hr : BoxV ((w1.setCell ⟨w.heap.size + 1 + 1, 1, none⟩ (.int .i64 n)).setCell ⟨w.heap.size + 1 + 1, 2, none⟩ (.slice av T.length cv)) (w.heap.size + 1) [.int .i64 0, .int .i64 0, .slice none 0 0, .slice none 0 0] := by
    iterate 2 refine BoxV.other ?_ _ _ (by dsimp only; omega)
    exact HR1.out
  have ho : BoxV ((w1.setCell ⟨w.heap.size + 1 + 1, 1, none⟩ (.int .i64 n)).setCell ⟨w.heap.size + 1 + 1, 2, none⟩ (.slice av T.length cv)) (w.heap.size + 1 + 1) [.int .i64 me, .int .i64 n, .slice av T.length cv, .slice none 0 0] := (HO1.out.set 1 (.int .i64 n) (of_decide_eq_true rfl)).set 2 (.slice av T.length cv) (of_decide_eq_true rfl)
  have hx : Ext w ((w1.setCell ⟨w.heap.size + 1 + 1, 1, none⟩ (.int .i64 n)).setCell ⟨w.heap.size + 1 + 1, 2, none⟩ (.slice av T.length cv)) := k1.ext HX1.out (Nat.le_refl _)
  have hs : w.heap.size + 3 ≤ (((w1.setCell ⟨w.heap.size + 1 + 1, 1, none⟩ (.int .i64 n)).setCell ⟨w.heap.size + 1 + 1, 2, none⟩ (.slice av T.length cv))).heap.size := Nat.le_trans HS1.out k1.size
  have hf := F1.out.kept (k1.stood (Nat.le_refl _) (.inr (Nat.le_refl _)))
  have hb1 : w1.heap.size ≤ (((w1.setCell ⟨w.heap.size + 1 + 1, 1, none⟩ (.int .i64 n)).setCell ⟨w.heap.size + 1 + 1, 2, none⟩ (.slice av T.length cv))).heap.size := k1.size
  clear a0 a1 a2 a3 o0 o1 o2 o3 z0 z1 z2 z3
  obtain ⟨wc, hwc⟩ : ∃ wc, wc = ((w1.setCell ⟨w.heap.size + 1 + 1, 1, none⟩ (.int .i64 n)).setCell ⟨w.heap.size + 1 + 1, 2, none⟩ (.slice av T.length cv)) := ⟨_, rfl⟩
  rw [← hwc] at ha hr ho hx hs hf hb1 ⊢
  clear hwc k1
  refine (toLeadS_any _ L _ (HV.out.ext hx) HL.out).mono ?_
  rintro e w2 ⟨y2, rfl, f2, x2⟩
  have HR2 := Lib.hid (hr.ext x2)
  have HO2 := Lib.hid (ho.ext x2)
  have HX2 := Lib.hid (hx.trans x2)
  have HF := Lib.hid (hf.kept ((Ins.of_ext (lo := w1.heap.size) (hi := 0) x2).stood hb1 (.inl (Nat.le_refl _))))
  obtain ⟨al, cl, rfl⟩ := f2.form
  have G := Lib.hid (f2.more hb1 (Nat.le_refl _))
  have hb2 : w1.heap.size ≤ w2.heap.size := Nat.le_trans hb1 x2.size
  clear ha hr ho hx hs hf hb1 x2 f2 HA1 HR1 HO1 HX1 F1 HV
  have o0 := (HO2.out).cell 0 _ rfl
  have o1 := (HO2.out).cell 1 _ rfl
  have o2 := (HO2.out).cell 2 _ rfl
  have o3 := (HO2.out).cell 3 _ rfl
  have z0 := (HO2.out).free 0 (of_decide_eq_true rfl)
  have z1 := (HO2.out).free 1 (of_decide_eq_true rfl)
  have z2 := (HO2.out).free 2 (of_decide_eq_true rfl)
  have z3 := (HO2.out).free 3 (of_decide_eq_true rfl)
  have r0 := (HR2.out).cell 0 _ rfl
  have r1 := (HR2.out).cell 1 _ rfl
  have r2 := (HR2.out).cell 2 _ rfl
  have r3 := (HR2.out).cell 3 _ rfl
  have y_0 := (HR2.out).free 0 (of_decide_eq_true rfl)
  have y_1 := (HR2.out).free 1 (of_decide_eq_true rfl)
  have y_2 := (HR2.out).free 2 (of_decide_eq_true rfl)
  have y_3 := (HR2.out).free 3 (of_decide_eq_true rfl)
  go_wp2
  clear o0 o1 o2 o3 z0 z1 z2 z3 r0 r1 r2 r3 y_0 y_1 y_2 y_3
  have kz : Ins w.heap.size (w.heap.size + 3) w2 (((((w2.setCell ⟨w.heap.size + 1 + 1, 3, none⟩ (.slice al L.length cl)).setCell ⟨w.heap.size + 1, 0, none⟩ (.int .i64 me)).setCell ⟨w.heap.size + 1, 1, none⟩ (.int .i64 n)).setCell ⟨w.heap.size + 1, 2, none⟩ (.slice av T.length cv)).setCell ⟨w.heap.size + 1, 3, none⟩ (.slice al L.length cl)) := by
    iterate 5 refine Ins.trans ?_ (ins_set (by omega) (by omega))
    exact Ins.refl _ _ _
  have hr : BoxV (((((w2.setCell ⟨w.heap.size + 1 + 1, 3, none⟩ (.slice al L.length cl)).setCell ⟨w.heap.size + 1, 0, none⟩ (.int .i64 me)).setCell ⟨w.heap.size + 1, 1, none⟩ (.int .i64 n)).setCell ⟨w.heap.size + 1, 2, none⟩ (.slice av T.length cv)).setCell ⟨w.heap.size + 1, 3, none⟩ (.slice al L.length cl)) (w.heap.size + 1) [.int .i64 me, .int .i64 n, .slice av T.length cv, .slice al L.length cl] := (BoxV.set (BoxV.set (BoxV.set (BoxV.set (BoxV.other HR2.out _ _ (by dsimp only; omega)) 0 (.int .i64 me) (of_decide_eq_true rfl)) 1 (.int .i64 n) (of_decide_eq_true rfl)) 2 (.slice av T.length cv) (of_decide_eq_true rfl)) 3 (.slice al L.length cl) (of_decide_eq_true rfl))
  obtain ⟨wz, hwz⟩ : ∃ wz, wz = (((((w2.setCell ⟨w.heap.size + 1 + 1, 3, none⟩ (.slice al L.length cl)).setCell ⟨w.heap.size + 1, 0, none⟩ (.int .i64 me)).setCell ⟨w.heap.size + 1, 1, none⟩ (.int .i64 n)).setCell ⟨w.heap.size + 1, 2, none⟩ (.slice av T.length cv)).setCell ⟨w.heap.size + 1, 3, none⟩ (.slice al L.length cl)) := ⟨_, rfl⟩
  rw [← hwz] at kz hr ⊢
  clear hwz
  have r0 := (hr).cell 0 _ rfl
  have r1 := (hr).cell 1 _ rfl
  have r2 := (hr).cell 2 _ rfl
  have r3 := (hr).cell 3 _ rfl
  refine bodyPost_ret (v := .agg #[.int .i64 me, .int .i64 n, .slice av T.length cv, .slice al L.length cl]) (by simp [results, Tryz.results50, go_sem, r0, r1, r2, r3]) rfl ⟨_, _, rfl, ?_, kz.ext HX2.out (Nat.le_refl _)⟩
  exact ⟨w1.heap.size, Nat.le_trans (Nat.le_add_right _ 3) HS1.out, Nat.le_trans hb2 kz.size, (HF.out.kept (kz.stood hb2 (.inr (Nat.le_refl _)))).more (Nat.le_add_right _ _) (Nat.le_refl _), (G.out.kept (kz.stood (Nat.le_refl _) (.inr HS1.out))).more (Nat.le_refl _) kz.size⟩
theorem toReplica_any (me n : Int) (u v : Value) (T : List (List RowD)) (L : List LeadD) (w : World) (hu : Rowzz w u T) (hv : Leadz w v L) (hs : bulkT T ≤ 1099511627776) (hl : bulkL L ≤ 549755813888) :
    Calls Tryz.prog 50 #[.agg #[.int .i64 me, .int .i64 n, u, v]] w (NewRep me n T L w) :=
  (toReplica_new me n u v T L w hu hv hs hl).mono (by rintro e w' ⟨y, z, rfl, ⟨_, _, _, h1, h2⟩, h3⟩; exact ⟨y, z, rfl, h1.rows, h2.reads, h3⟩)
end Go.Proofs.YtbffkidkfannhaaGreat

namespace Go.Proofs.YtbffkidkfannhaaGreat
open Go.RowKit
set_option linter.unusedVariables false

set_option maxHeartbeats 1000000 in
theorem eqCmd_same (k i f t a : Int) (w : World) :
    Calls Tryz.prog 88 #[.agg #[.int .i64 k, .int .i64 i, .int .i64 f, .int .i64 t, .int .i64 a], .agg #[.int .i64 k, .int .i64 i, .int .i64 f, .int .i64 t, .int .i64 a]] w (BoolExt true w) := by
  have e0 : (k != k) = false := by simp
  have e1 : (i != i) = false := by simp
  have e2 : (f != f) = false := by simp
  have e3 : (t != t) = false := by simp
  have e4 : (a != a) = false := by simp
  go_enter Tryz.func88, Tryz.ntmps88
  go_wp2
  go_ret
  exact ⟨rfl, ((Ext.refl w).alloc _).alloc _⟩

end Go.Proofs.YtbffkidkfannhaaGreat

namespace Go.Proofs.YtbffkidkfannhaaGreat
open Go.RowKit
set_option linter.unusedVariables false

theorem two_rows (w : World) (T T' : TypeId) (r d : RowD) (u v : Value) :
    RowAt ((w.alloc (.cells #[.int .i64 r.b, .int .i64 r.v, .int .i64 r.st, .int .i64 r.k, .int .i64 r.i, .int .i64 r.f, .int .i64 r.t, .int .i64 r.a, .int .i64 r.s, u] T)).alloc (.cells #[.int .i64 d.b, .int .i64 d.v, .int .i64 d.st, .int .i64 d.k, .int .i64 d.i, .int .i64 d.f, .int .i64 d.t, .int .i64 d.a, .int .i64 d.s, v] T')) w.heap.size r u ∧
    RowAt ((w.alloc (.cells #[.int .i64 r.b, .int .i64 r.v, .int .i64 r.st, .int .i64 r.k, .int .i64 r.i, .int .i64 r.f, .int .i64 r.t, .int .i64 r.a, .int .i64 r.s, u] T)).alloc (.cells #[.int .i64 d.b, .int .i64 d.v, .int .i64 d.st, .int .i64 d.k, .int .i64 d.i, .int .i64 d.f, .int .i64 d.t, .int .i64 d.a, .int .i64 d.s, v] T')) (w.heap.size + 1) d v := by
  refine ⟨⟨?_, ?_, ?_, ?_, ?_, ?_, ?_, ?_, ?_, ?_⟩, ⟨?_, ?_, ?_, ?_, ?_, ?_, ?_, ?_, ?_, ?_⟩⟩ <;> go_simp

set_option maxHeartbeats 2000000 in
theorem eqRow_same (r : RowD) (u v : Value) (w : World) (hu : Ints w u r.l) (hv : Ints w v r.l) :
    Calls Tryz.prog 142 #[.agg #[.int .i64 r.b, .int .i64 r.v, .int .i64 r.st, .int .i64 r.k, .int .i64 r.i, .int .i64 r.f, .int .i64 r.t, .int .i64 r.a, .int .i64 r.s, u], .agg #[.int .i64 r.b, .int .i64 r.v, .int .i64 r.st, .int .i64 r.k, .int .i64 r.i, .int .i64 r.f, .int .i64 r.t, .int .i64 r.a, .int .i64 r.s, v]] w (BoolExt true w) := by
  have h2 := two_rows w 101 101 r r u v
  obtain ⟨wb, hwb⟩ : ∃ wb, wb = (w.alloc (.cells #[.int .i64 r.b, .int .i64 r.v, .int .i64 r.st, .int .i64 r.k, .int .i64 r.i, .int .i64 r.f, .int .i64 r.t, .int .i64 r.a, .int .i64 r.s, u] 101)).alloc (.cells #[.int .i64 r.b, .int .i64 r.v, .int .i64 r.st, .int .i64 r.k, .int .i64 r.i, .int .i64 r.f, .int .i64 r.t, .int .i64 r.a, .int .i64 r.s, v] 101) := ⟨_, rfl⟩
  have xb : Ext w wb := by rw [hwb]; exact ((Ext.refl w).alloc _).alloc _
  rw [← hwb] at h2
  have HWB := Lib.hid hwb
  have H2 := Lib.hid h2
  have e0 : (r.b != r.b) = false := by simp
  have e1 : (r.v != r.v) = false := by simp
  have e2 : (r.st != r.st) = false := by simp
  clear hwb h2
  go_enter Tryz.func142, Tryz.ntmps142
  go_wp2_with fail
  rw [← HWB.out]
  refine (eqCmd_same _ _ _ _ _ _).mono ?_
  rintro e w1 ⟨rfl, x1⟩
  obtain ⟨p0, p1, p2, p3, p4, p5, p6, p7, p8, p9⟩ := H2.out.1.ext x1
  obtain ⟨q0, q1, q2, q3, q4, q5, q6, q7, q8, q9⟩ := H2.out.2.ext x1
  go_wp2_with fail
  refine (eqAttr_same _ _ _ r.l _ (hu.ext (xb.trans x1)) (hv.ext (xb.trans x1))).mono ?_
  rintro e w2 ⟨rfl, x2⟩
  have hx := (xb.trans x1).trans x2
  clear p0 p1 p2 p3 p4 p5 p6 p7 p8 p9 q0 q1 q2 q3 q4 q5 q6 q7 q8 q9 x1 x2 xb
  go_wp2
  go_ret
  exact ⟨rfl, hx⟩

theorem stepR {wb W W' : World} {b o b' o' : Nat} {r d : RowD} {u v : Value} (x : Ext W W') (h : Ext wb W ∧ RowIn W b o r u ∧ RowIn W b' o' d v) : Ext wb W' ∧ RowIn W' b o r u ∧ RowIn W' b' o' d v :=
  ⟨h.1.trans x, h.2.1.ext x, h.2.2.ext x⟩

set_option maxHeartbeats 2000000 in
theorem eqRowS_same (u v : Value) (R : List RowD) (w : World) (hu : Rowz w u R) (hv : Rowz w v R) :
    Calls Tryz.prog 129 #[u, v] w (BoolExt true w) := by
  obtain ⟨au, cu, rfl, hlu, _, hcu⟩ := hu
  obtain ⟨av, cv, rfl, hlv, _, hcv⟩ := hv
  unfold maxLen at hlu hlv
  have e0 : ((R.length : Int) != (R.length : Int)) = false := by simp
  go_enter Tryz.func129, Tryz.ntmps129
  go_wp2
  go_loopw [5] (fun i wr => ∃ k : Nat, k ≤ R.length ∧ i = .int .i64 k ∧ Ext w wr) (fun i _ => R.length - (intOf i).toNat)
  case atStart => exact ⟨0, Nat.zero_le _, rfl, Ext.refl _⟩
  case round =>
    obtain ⟨k, hk, rfl, hx⟩ := hrel
    by_cases hlt : k < R.length
    · obtain ⟨bu, ou, rfl, du⟩ := hcu (by omega)
      obtain ⟨bv, ov, rfl, dv⟩ := hcv (by omega)
      obtain ⟨x, hx1, ix⟩ := du k hlt
      obtain ⟨y, hy1, iy⟩ := dv k hlt
      obtain ⟨d, hd⟩ : ∃ d, d = R[k] := ⟨_, rfl⟩
      rw [← hd] at hx1 ix hy1 iy
      have gu := hx1.ext hx
      have gv := hy1.ext hx
      have IX := Lib.hid (ix.ext hx)
      have IY := Lib.hid (iy.ext hx)
      clear hcu hcv du dv hx1 hy1 ix iy hd
      have IXY : Hid (RowIn wr bu (ou + k * 10) d x ∧ RowIn wr bv (ov + k * 10) d y) := Lib.hid ⟨gu, gv⟩
      clear gu gv
      go_wp2_with fail
      go_region_held3 (fun W => Ext wr W ∧ (W.cell? ⟨bu, ou + k * 10, none⟩ = some (.int .i64 d.b) ∧ W.cell? ⟨bu, ou + k * 10 + 1, none⟩ = some (.int .i64 d.v) ∧ W.cell? ⟨bu, ou + k * 10 + 2, none⟩ = some (.int .i64 d.st) ∧ W.cell? ⟨bu, ou + k * 10 + 3, none⟩ = some (.int .i64 d.k) ∧ W.cell? ⟨bu, ou + k * 10 + 4, none⟩ = some (.int .i64 d.i) ∧ W.cell? ⟨bu, ou + k * 10 + 5, none⟩ = some (.int .i64 d.f) ∧ W.cell? ⟨bu, ou + k * 10 + 6, none⟩ = some (.int .i64 d.t) ∧ W.cell? ⟨bu, ou + k * 10 + 7, none⟩ = some (.int .i64 d.a) ∧ W.cell? ⟨bu, ou + k * 10 + 8, none⟩ = some (.int .i64 d.s) ∧ W.cell? ⟨bu, ou + k * 10 + 9, none⟩ = some x) ∧ (W.cell? ⟨bv, ov + k * 10, none⟩ = some (.int .i64 d.b) ∧ W.cell? ⟨bv, ov + k * 10 + 1, none⟩ = some (.int .i64 d.v) ∧ W.cell? ⟨bv, ov + k * 10 + 2, none⟩ = some (.int .i64 d.st) ∧ W.cell? ⟨bv, ov + k * 10 + 3, none⟩ = some (.int .i64 d.k) ∧ W.cell? ⟨bv, ov + k * 10 + 4, none⟩ = some (.int .i64 d.i) ∧ W.cell? ⟨bv, ov + k * 10 + 5, none⟩ = some (.int .i64 d.f) ∧ W.cell? ⟨bv, ov + k * 10 + 6, none⟩ = some (.int .i64 d.t) ∧ W.cell? ⟨bv, ov + k * 10 + 7, none⟩ = some (.int .i64 d.a) ∧ W.cell? ⟨bv, ov + k * 10 + 8, none⟩ = some (.int .i64 d.s) ∧ W.cell? ⟨bv, ov + k * 10 + 9, none⟩ = some y)) (first | (exact stepR (b := bu) (o := ou + k * 10) (b' := bv) (o' := ov + k * 10) (r := d) (d := d) (u := x) (v := y) (by assumption) (by assumption)) | (exact ⟨Ext.drew (Ext.refl _), IXY.out⟩)) (first | (go_at_call 142; refine (eqRow_same d _ _ _ (IX.out.ext (Ext.drew (Ext.refl _))) (IY.out.ext (Ext.drew (Ext.refl _)))).mono ?_; rintro e W ⟨rfl, x9⟩))
      rename_i hH
      have hx2 : Ext w W := hx.trans hH.1
      clear hH x9 hx
      go_wp2
      go_roundw
      case rel => exact ⟨k + 1, by omega, by go_num, hx2⟩
      case measure => simp [intOf]; omega
    · obtain rfl : k = R.length := by omega
      go_wp2
      go_ret
      exact ⟨rfl, hx⟩

end Go.Proofs.YtbffkidkfannhaaGreat

namespace Go.Proofs.YtbffkidkfannhaaGreat
open Go.RowKit
set_option linter.unusedVariables false

set_option maxHeartbeats 2000000 in
theorem eqRowSS_same (u v : Value) (T : List (List RowD)) (w : World) (hu : Rowzz w u T) (hv : Rowzz w v T) :
    Calls Tryz.prog 112 #[u, v] w (BoolExt true w) := by
  obtain ⟨au, cu, rfl, hlu, _, hcu⟩ := hu
  obtain ⟨av, cv, rfl, hlv, _, hcv⟩ := hv
  unfold maxLen at hlu hlv
  have e0 : ((T.length : Int) != (T.length : Int)) = false := by simp
  go_enter Tryz.func112, Tryz.ntmps112
  go_wp2
  go_loopw [5] (fun i wr => ∃ k : Nat, k ≤ T.length ∧ i = .int .i64 k ∧ Ext w wr) (fun i _ => T.length - (intOf i).toNat)
  case atStart => exact ⟨0, Nat.zero_le _, rfl, Ext.refl _⟩
  case round =>
    obtain ⟨k, hk, rfl, hx⟩ := hrel
    by_cases hlt : k < T.length
    · obtain ⟨bu, ou, rfl, du⟩ := hcu (by omega)
      obtain ⟨bv, ov, rfl, dv⟩ := hcv (by omega)
      obtain ⟨x, hx1, ix⟩ := du k hlt
      obtain ⟨y, hy1, iy⟩ := dv k hlt
      obtain ⟨d, hd⟩ : ∃ d, d = T[k] := ⟨_, rfl⟩
      rw [← hd] at ix iy
      have gu := hx.cell hx1
      have gv := hx.cell hy1
      have IX := Lib.hid (ix.ext hx)
      have IY := Lib.hid (iy.ext hx)
      clear hcu hcv du dv hx1 hy1 ix iy hd
      go_wp2_with fail
      go_region_held3 (fun W => Ext wr W ∧ W.cell? ⟨bu, ou + k, none⟩ = some x ∧ W.cell? ⟨bv, ov + k, none⟩ = some y) (first | (exact step2 (by assumption) (by assumption)) | (exact ⟨Ext.drew (Ext.refl _), gu, gv⟩)) (first | (go_at_call 129; refine (eqRowS_same _ _ d _ (IX.out.ext (Ext.drew (Ext.refl _))) (IY.out.ext (Ext.drew (Ext.refl _)))).mono ?_; rintro e W ⟨rfl, x9⟩))
      rename_i hH
      have hx2 : Ext w W := hx.trans hH.1
      clear hH x9 gu gv hx
      go_wp2
      go_roundw
      case rel => exact ⟨k + 1, by omega, by go_num, hx2⟩
      case measure => simp [intOf]; omega
    · obtain rfl : k = T.length := by omega
      go_wp2
      go_ret
      exact ⟨rfl, hx⟩

set_option maxHeartbeats 1000000 in
theorem eqTable_same (n : Int) (u v : Value) (T : List (List RowD)) (w : World) (hu : Rowzz w u T) (hv : Rowzz w v T) :
    Calls Tryz.prog 86 #[.agg #[.int .i64 n, u], .agg #[.int .i64 n, v]] w (BoolExt true w) := by
  have hx : Ext w ((w.alloc (.cells #[.int .i64 n, u] 67)).alloc (.cells #[.int .i64 n, v] 67)) := ((Ext.refl w).alloc _).alloc _
  have e0 : ((n : Int) != n) = false := by simp
  go_enter Tryz.func86, Tryz.ntmps86
  go_wp2_with fail
  refine (eqRowSS_same _ _ _ _ (hu.ext hx) (hv.ext hx)).mono ?_
  rintro e w1 ⟨rfl, x1⟩
  have hy := hx.trans x1
  clear hx x1
  go_wp2
  go_ret
  exact ⟨rfl, hy⟩

end Go.Proofs.YtbffkidkfannhaaGreat

namespace Go.Proofs.YtbffkidkfannhaaGreat
open Go.RowKit
set_option linter.unusedVariables false

/-- A world that is W with new blocks. -/
def ExtOf (W : World) := {w' : World // Ext W w'}
instance (W : World) : Nonempty (ExtOf W) := ⟨⟨W, Ext.refl W⟩⟩
theorem ExtOf.cell {W : World} (e : ExtOf W) {a : Addr} {v : Value} (h : W.cell? a = some v) : e.1.cell? a = some v := Ext.cell e.2 h
theorem wp_region_ext_lit {P : Program} {id : Nat} {Q : Exit → Act → World → Prop} {a : Act} {w : World} {l : List Oper} (hm : P.follows .mixedOrders = true) (hB : Region.lexB .any l.toArray = true)
    (h : wpQuiet P l.toArray (fun w' => ∃ e : ExtOf w, w' = e.1) (fun a' => ∀ w', (∃ e : ExtOf w, w' = e.1) → Q .normal a' w') l a) : (Code.region id l.toArray true).wp P Q a w :=
  wp_region_quiet (C := fun w' => ∃ e : ExtOf w, w' = e.1) hm hB ⟨⟨w.drew, Ext.drew (Ext.refl w)⟩, rfl⟩ (by simpa using h)
/-- A callee's contract, met in such a world. -/
theorem Calls.ext_of {P : Program} {f : FuncId} {args : Array Value} {W : World} {v : Value} (e : ExtOf W)
    (h : Calls P f args e.1 fun x w' => x = .returned v ∧ Ext e.1 w') : Calls P f args e.1 fun x w'' => x = .returned v ∧ ∃ e' : ExtOf W, w'' = e'.1 :=
  h.mono fun _ w' ⟨he, hx⟩ => ⟨he, ⟨w', e.2.trans hx⟩, rfl⟩

end Go.Proofs.YtbffkidkfannhaaGreat

namespace Go.Proofs.YtbffkidkfannhaaGreat
open Go.RowKit
set_option linter.unusedVariables false

set_option maxHeartbeats 4000000 in
set_option maxRecDepth 100000 in
theorem eqLead_same (d : LeadD) (u1 u2 u3 u4 v1 v2 v3 v4 : Value) (w : World) (hu : LeadL w d u1 u2 u3 u4) (hv : LeadL w d v1 v2 v3 v4) :
    Calls Tryz.prog 113 #[.agg #[.int .i64 d.rp, .int .i64 d.no, .int .i64 d.bl, .int .i64 d.ph, .int .i64 d.k, .int .i64 d.i, .int .i64 d.f, .int .i64 d.t, .int .i64 d.a, .int .i64 d.s1, u1, .int .i64 d.s2, u2, .bool d.sm, u3, u4], .agg #[.int .i64 d.rp, .int .i64 d.no, .int .i64 d.bl, .int .i64 d.ph, .int .i64 d.k, .int .i64 d.i, .int .i64 d.f, .int .i64 d.t, .int .i64 d.a, .int .i64 d.s1, v1, .int .i64 d.s2, v2, .bool d.sm, v3, v4]] w (BoolExt true w) := by
  obtain ⟨wb, hwb⟩ : ∃ wb, wb = (w.alloc (.cells #[.int .i64 d.rp, .int .i64 d.no, .int .i64 d.bl, .int .i64 d.ph, .int .i64 d.k, .int .i64 d.i, .int .i64 d.f, .int .i64 d.t, .int .i64 d.a, .int .i64 d.s1, u1, .int .i64 d.s2, u2, .bool d.sm, u3, u4] 123)).alloc (.cells #[.int .i64 d.rp, .int .i64 d.no, .int .i64 d.bl, .int .i64 d.ph, .int .i64 d.k, .int .i64 d.i, .int .i64 d.f, .int .i64 d.t, .int .i64 d.a, .int .i64 d.s1, v1, .int .i64 d.s2, v2, .bool d.sm, v3, v4] 123) := ⟨_, rfl⟩
  have xb : Ext w wb := by rw [hwb]; exact (Ext.alloc1 _ _).alloc _
  have hp : BoxV wb w.heap.size (leadVs d u1 u2 u3 u4) := by rw [hwb]; exact (lead_box w 123 d u1 u2 u3 u4).ext (Ext.alloc1 _ _)
  have hq : BoxV wb (w.heap.size + 1) (leadVs d v1 v2 v3 v4) := by
    have h := lead_box (w.alloc (.cells #[.int .i64 d.rp, .int .i64 d.no, .int .i64 d.bl, .int .i64 d.ph, .int .i64 d.k, .int .i64 d.i, .int .i64 d.f, .int .i64 d.t, .int .i64 d.a, .int .i64 d.s1, u1, .int .i64 d.s2, u2, .bool d.sm, u3, u4] 123)) 123 d v1 v2 v3 v4
    rw [World.size_alloc, ← hwb] at h
    exact h
  have HWB := Lib.hid hwb
  have HP := Lib.hid hp
  have HQ := Lib.hid hq
  have HX := Lib.hid xb
  have HU := Lib.hid (hu.ext xb)
  have HV := Lib.hid (hv.ext xb)
  obtain ⟨p0, p1, p2, p3, p4, p5, p6, p7, p8, p9, p10, p11, p12, p13, p14, p15⟩ := lead_cells hp
  obtain ⟨q0, q1, q2, q3, q4, q5, q6, q7, q8, q9, q10, q11, q12, q13, q14, q15⟩ := lead_cells hq
  have n0 : (d.rp != d.rp) = false := by simp
  have n1 : (d.no != d.no) = false := by simp
  have n2 : (d.bl != d.bl) = false := by simp
  have n3 : (d.ph != d.ph) = false := by simp
  have n4 : (d.sm != d.sm) = false := by simp
  rw [hwb] at p0 p1 p2 p3 p4 p5 p6 p7 p8 p9 p10 p11 p12 p13 p14 p15 q0 q1 q2 q3 q4 q5 q6 q7 q8 q9 q10 q11 q12 q13 q14 q15
  clear hu hv xb hp hq hwb
  go_enter Tryz.func113, Tryz.ntmps113
  go_wp2_with fail
  rw [← HWB.out]
  refine (eqCmd_same _ _ _ _ _ _).mono ?_
  rintro e w1 ⟨rfl, x1⟩
  have X1 := Lib.hid x1
  clear x1 HWB p0 p1 p2 p3 p4 p5 p6 p7 p8 p9 p10 p11 p12 p13 p14 p15 q0 q1 q2 q3 q4 q5 q6 q7 q8 q9 q10 q11 q12 q13 q14 q15
  obtain ⟨p0, p1, p2, p3, p4, p5, p6, p7, p8, p9, p10, p11, p12, p13, p14, p15⟩ := lead_cells (HP.out.ext X1.out)
  obtain ⟨q0, q1, q2, q3, q4, q5, q6, q7, q8, q9, q10, q11, q12, q13, q14, q15⟩ := lead_cells (HQ.out.ext X1.out)
  go_wp2_with fail
  refine (eqAttr_same _ _ _ d.l1 _ (HU.out.i1.ext X1.out) (HV.out.i1.ext X1.out)).mono ?_
  rintro e w2 ⟨rfl, x2⟩
  have X2 := Lib.hid (X1.out.trans x2)
  clear x2 X1 p0 p1 p2 p3 p4 p5 p6 p7 p8 p9 p10 p11 p12 p13 p14 p15 q0 q1 q2 q3 q4 q5 q6 q7 q8 q9 q10 q11 q12 q13 q14 q15
  obtain ⟨p0, p1, p2, p3, p4, p5, p6, p7, p8, p9, p10, p11, p12, p13, p14, p15⟩ := lead_cells (HP.out.ext X2.out)
  obtain ⟨q0, q1, q2, q3, q4, q5, q6, q7, q8, q9, q10, q11, q12, q13, q14, q15⟩ := lead_cells (HQ.out.ext X2.out)
  go_wp2_with fail
  refine (eqAttr_same _ _ _ d.l2 _ (HU.out.i2.ext X2.out) (HV.out.i2.ext X2.out)).mono ?_
  rintro e w3 ⟨rfl, x3⟩
  have X3 := Lib.hid (X2.out.trans x3)
  clear x3 X2 p0 p1 p2 p3 p4 p5 p6 p7 p8 p9 p10 p11 p12 p13 p14 p15 q0 q1 q2 q3 q4 q5 q6 q7 q8 q9 q10 q11 q12 q13 q14 q15
  obtain ⟨p0, p1, p2, p3, p4, p5, p6, p7, p8, p9, p10, p11, p12, p13, p14, p15⟩ := lead_cells (HP.out.ext X3.out)
  obtain ⟨q0, q1, q2, q3, q4, q5, q6, q7, q8, q9, q10, q11, q12, q13, q14, q15⟩ := lead_cells (HQ.out.ext X3.out)
  go_wp2_with fail
  refine (eqIntS_any _ _ d.who d.who _ (HU.out.i3.ext X3.out) (HV.out.i3.ext X3.out)).mono ?_
  rintro e w4 ⟨rfl, x4⟩
  rw [decide_eq_true rfl]
  have X4 := Lib.hid (X3.out.trans x4)
  clear x4 X3 p0 p1 p2 p3 p4 p5 p6 p7 p8 p9 p10 p11 p12 p13 p14 p15 q0 q1 q2 q3 q4 q5 q6 q7 q8 q9 q10 q11 q12 q13 q14 q15
  obtain ⟨p0, p1, p2, p3, p4, p5, p6, p7, p8, p9, p10, p11, p12, p13, p14, p15⟩ := lead_cells (HP.out.ext X4.out)
  obtain ⟨q0, q1, q2, q3, q4, q5, q6, q7, q8, q9, q10, q11, q12, q13, q14, q15⟩ := lead_cells (HQ.out.ext X4.out)
  go_wp2_with fail
  refine (eqRowS_same _ _ d.seen _ (HU.out.i4.ext X4.out) (HV.out.i4.ext X4.out)).mono ?_
  rintro e w5 ⟨rfl, x5⟩
  have hx := HX.out.trans (X4.out.trans x5)
  clear x5 X4 p0 p1 p2 p3 p4 p5 p6 p7 p8 p9 p10 p11 p12 p13 p14 p15 q0 q1 q2 q3 q4 q5 q6 q7 q8 q9 q10 q11 q12 q13 q14 q15
  go_wp2
  go_ret
  exact ⟨rfl, hx⟩
set_option maxHeartbeats 4000000 in
set_option maxRecDepth 100000 in
theorem eqLeadS_same (u v : Value) (L : List LeadD) (w : World) (hu : Leadz w u L) (hv : Leadz w v L) :
    Calls Tryz.prog 87 #[u, v] w (BoolExt true w) := by
  obtain ⟨au, cu, rfl, hlu, _, hcu⟩ := hu
  obtain ⟨av, cv, rfl, hlv, _, hcv⟩ := hv
  unfold maxLen at hlu hlv
  have e0 : ((L.length : Int) != (L.length : Int)) = false := by simp
  go_enter Tryz.func87, Tryz.ntmps87
  go_wp2
  go_loopw [5] (fun i wr => ∃ k : Nat, k ≤ L.length ∧ i = .int .i64 k ∧ Ext w wr) (fun i _ => L.length - (intOf i).toNat)
  case atStart => exact ⟨0, Nat.zero_le _, rfl, Ext.refl _⟩
  case round =>
    obtain ⟨k, hk, rfl, hx⟩ := hrel
    by_cases hlt : k < L.length
    · obtain ⟨bu, ou, rfl, du⟩ := hcu (by omega)
      obtain ⟨bv, ov, rfl, dv⟩ := hcv (by omega)
      obtain ⟨u1, u2, u3, u4, hx1, ix⟩ := du k hlt
      obtain ⟨v1, v2, v3, v4, hy1, iy⟩ := dv k hlt
      obtain ⟨d, hd⟩ : ∃ d, d = L[k] := ⟨_, rfl⟩
      rw [← hd] at hx1 ix hy1 iy
      obtain ⟨p0, p1, p2, p3, p4, p5, p6, p7, p8, p9, p10, p11, p12, p13, p14, p15⟩ := leadIn_cells (hx1.ext hx)
      obtain ⟨q0, q1, q2, q3, q4, q5, q6, q7, q8, q9, q10, q11, q12, q13, q14, q15⟩ := leadIn_cells (hy1.ext hx)
      have cE : ∀ E : ExtOf wr, Calls Tryz.prog 113 #[.agg #[.int .i64 d.rp, .int .i64 d.no, .int .i64 d.bl, .int .i64 d.ph, .int .i64 d.k, .int .i64 d.i, .int .i64 d.f, .int .i64 d.t, .int .i64 d.a, .int .i64 d.s1, u1, .int .i64 d.s2, u2, .bool d.sm, u3, u4], .agg #[.int .i64 d.rp, .int .i64 d.no, .int .i64 d.bl, .int .i64 d.ph, .int .i64 d.k, .int .i64 d.i, .int .i64 d.f, .int .i64 d.t, .int .i64 d.a, .int .i64 d.s1, v1, .int .i64 d.s2, v2, .bool d.sm, v3, v4]] E.1 (BoolExt true E.1) := fun E => eqLead_same d _ _ _ _ _ _ _ _ E.1 ((ix.ext hx).ext E.2) ((iy.ext hx).ext E.2)
      have p0 := fun E : ExtOf wr => E.cell p0
      have q0 := fun E : ExtOf wr => E.cell q0
      have p1 := fun E : ExtOf wr => E.cell p1
      have q1 := fun E : ExtOf wr => E.cell q1
      have p2 := fun E : ExtOf wr => E.cell p2
      have q2 := fun E : ExtOf wr => E.cell q2
      have p3 := fun E : ExtOf wr => E.cell p3
      have q3 := fun E : ExtOf wr => E.cell q3
      have p4 := fun E : ExtOf wr => E.cell p4
      have q4 := fun E : ExtOf wr => E.cell q4
      have p5 := fun E : ExtOf wr => E.cell p5
      have q5 := fun E : ExtOf wr => E.cell q5
      have p6 := fun E : ExtOf wr => E.cell p6
      have q6 := fun E : ExtOf wr => E.cell q6
      have p7 := fun E : ExtOf wr => E.cell p7
      have q7 := fun E : ExtOf wr => E.cell q7
      have p8 := fun E : ExtOf wr => E.cell p8
      have q8 := fun E : ExtOf wr => E.cell q8
      have p9 := fun E : ExtOf wr => E.cell p9
      have q9 := fun E : ExtOf wr => E.cell q9
      have p10 := fun E : ExtOf wr => E.cell p10
      have q10 := fun E : ExtOf wr => E.cell q10
      have p11 := fun E : ExtOf wr => E.cell p11
      have q11 := fun E : ExtOf wr => E.cell q11
      have p12 := fun E : ExtOf wr => E.cell p12
      have q12 := fun E : ExtOf wr => E.cell q12
      have p13 := fun E : ExtOf wr => E.cell p13
      have q13 := fun E : ExtOf wr => E.cell q13
      have p14 := fun E : ExtOf wr => E.cell p14
      have q14 := fun E : ExtOf wr => E.cell q14
      have p15 := fun E : ExtOf wr => E.cell p15
      have q15 := fun E : ExtOf wr => E.cell q15
      have HX := Lib.hid hx
      have HLT := Lib.hid hlt
      clear hcu hcv du dv hx1 hy1 ix iy hd hx
      go_wp2_with fail
      refine wp_region_ext_lit (by kernel_rfl) (by kernel_rfl) ?_
      repeat (go_big_quiet_step (first | (go_at_call 113; with_reducible exact Calls.ext_of _ (cE _))))
      refine wpQuiet_nil ?_
      rintro _ ⟨E, rfl⟩
      have hx2 : Ext w E.1 := HX.out.trans E.2
      clear cE p0 p1 p2 p3 p4 p5 p6 p7 p8 p9 p10 p11 p12 p13 p14 p15 q0 q1 q2 q3 q4 q5 q6 q7 q8 q9 q10 q11 q12 q13 q14 q15
      go_wp2
      go_roundw
      case rel => exact ⟨k + 1, by have := HLT.out; omega, by go_num, hx2⟩
      case measure => simp [intOf]; have := HLT.out; omega
    · obtain rfl : k = L.length := by omega
      go_wp2
      go_ret
      exact ⟨rfl, hx⟩
set_option maxHeartbeats 1000000 in
theorem eqReplica_same (me n : Int) (u v u' v' : Value) (T : List (List RowD)) (L : List LeadD) (w : World) (hu : Rowzz w u T) (hv : Leadz w v L) (hu' : Rowzz w u' T) (hv' : Leadz w v' L) :
    Calls Tryz.prog 58 #[.agg #[.int .i64 me, .int .i64 n, u, v], .agg #[.int .i64 me, .int .i64 n, u', v']] w (BoolExt true w) := by
  have HH := Lib.hid (two_reps w 70 70 me n me n u u' v v')
  have xx := Ext.alloc2 w (.cells #[.int .i64 me, .int .i64 n, u, v] 70) (.cells #[.int .i64 me, .int .i64 n, u', v'] 70)
  have HU := Lib.hid (hu.ext xx)
  have HV := Lib.hid (hv.ext xx)
  have HU' := Lib.hid (hu'.ext xx)
  have HV' := Lib.hid (hv'.ext xx)
  obtain ⟨au, cu, rfl, _, _, _⟩ := hu
  obtain ⟨av, cv, rfl, _, _, _⟩ := hv
  obtain ⟨au', cu', rfl, _, _, _⟩ := hu'
  obtain ⟨av', cv', rfl, _, _, _⟩ := hv'
  have nm : (me != me) = false := by simp
  have HX := Lib.hid xx
  clear xx
  go_enter Tryz.func58, Tryz.ntmps58
  go_wp2_with fail
  refine (eqTable_same _ _ _ T _ HU.out HU'.out).mono ?_
  rintro e w1 ⟨rfl, x1⟩
  obtain ⟨a0, a1, a2, a3⟩ := HH.out.1.ext x1
  obtain ⟨b0, b1, b2, b3⟩ := HH.out.2.ext x1
  have X01 := Lib.hid x1
  have X1 := Lib.hid (HX.out.trans x1)
  clear x1
  go_wp2_with fail
  refine (eqLeadS_same _ _ L _ (HV.out.ext X01.out) (HV'.out.ext X01.out)).mono ?_
  rintro e w2 ⟨rfl, x2⟩
  have X2 := Lib.hid (X1.out.trans x2)
  clear x2 X1
  go_wp2
  go_ret
  exact ⟨rfl, X2.out⟩
end Go.Proofs.YtbffkidkfannhaaGreat

namespace Go.Proofs.YtbffkidkfannhaaGreat
open Go.RowKit
set_option linter.unusedVariables false

def weighD (L : List LeadD) : List Nat := L.map bulkD
theorem weighD_len (L : List LeadD) : (weighD L).length = L.length := by simp [weighD]
theorem weighD_get {L : List LeadD} {k : Nat} (h : k < L.length) : (weighD L)[k]'(by rw [weighD_len]; exact h) = bulkD L[k] := by simp [weighD]
set_option maxHeartbeats 2000000 in
set_option maxRecDepth 100000 in
theorem szLeadS_any (v : Value) (R : List LeadD) (left : Int) (w : World) (hv : Leadz w v R) (h0 : 0 ≤ left) (h1 : left ≤ 1099511627776) :
    Calls Tryz.prog 76 #[v, .int .i64 left] w (IntExt (lessened left (bulkL R)) w) := by
  obtain ⟨av, cv, rfl, hlv, _, hcv⟩ := hv
  unfold maxLen at hlv
  have hb : bulkL R = R.length + (weighD R).sum := rfl
  by_cases hlt : left < R.length
  · rw [lessened_no (by omega)]
    clear hb hcv
    go_enter Tryz.func76, Tryz.ntmps76
    go_wp2
    go_ret
    exact ⟨rfl, Ext.refl _⟩
  · have HBK := Lib.hid hb
    have hle : (R.length : Int) ≤ left := by omega
    clear hb hlt
    go_enter Tryz.func76, Tryz.ntmps76
    go_wp2
    go_loopw [1, 5] (fun m i wr => ∃ (k : Nat) (r : Int), k ≤ R.length ∧ i = .int .i64 k ∧ m = .int .i64 r ∧ 0 ≤ r ∧ Hid (r = left - R.length - sumN (weighD R) k) ∧ Ext w wr) (fun _ i _ => R.length - (intOf i).toNat)
    case atStart => exact ⟨0, left - R.length, Nat.zero_le _, rfl, rfl, by omega, Lib.hid (by rw [sumN_zero]; simp), Ext.refl _⟩
    case round =>
      obtain ⟨k, r, hk, rfl, rfl, hr0, hr, hx⟩ := hrel
      have hr1 : r ≤ 1099511627776 := by have := hr.out; omega
      by_cases hlt : k < R.length
      · obtain ⟨b, off, rfl, dv⟩ := hcv (by omega)
        obtain ⟨u1, u2, u3, u4, hu, iu⟩ := dv k hlt
        have hs := sumN_succ (g := weighD R) (k := k) (by rw [weighD_len]; exact hlt)
        rw [weighD_get hlt] at hs
        obtain ⟨d, hd⟩ : ∃ d, d = R[k] := ⟨_, rfl⟩
        rw [← hd] at hu iu hs
        obtain ⟨p0, p1, p2, p3, p4, p5, p6, p7, p8, p9, p10, p11, p12, p13, p14, p15⟩ := leadIn_cells (hu.ext hx)
        have IU := Lib.hid (iu.ext hx)
        have HS := Lib.hid hs
        clear hcv dv hu iu hs hd
        by_cases hl : r < bulkD d
        · have L := Lib.hid (lessened_no hl)
          have hsum := sumN_mono (g := weighD R) (k := k + 1) (by rw [weighD_len]; omega)
          have HL := Lib.hid (show lessened left (bulkL R) = -1 from lessened_no (by have h1 := hr.out; have h2 := HS.out; have h3 := HBK.out; omega))
          clear hl hsum
          go_wp2_with fail
          refine (szLead_any d _ _ _ _ _ _ IU.out hr0 (by omega)).mono ?_
          rintro e w2 ⟨rfl, x2⟩
          have hx2 := hx.trans x2
          clear x2 hx
          clear p0 p1 p2 p3 p4 p5 p6 p7 p8 p9 p10 p11 p12 p13 p14 p15
          rw [L.out]
          go_wp2
          go_ret
          exact ⟨by rw [HL.out]; first | done | rfl, hx2⟩
        · obtain ⟨q, hq⟩ : ∃ q, q = r - (bulkD d : Int) := ⟨_, rfl⟩
          have hq0 : 0 ≤ q := by omega
          have L : Hid (lessened r (bulkD d) = q) := Lib.hid (by rw [hq]; exact lessened_yes (by omega))
          have HQ := Lib.hid hq
          clear hl hq
          go_wp2_with fail
          refine (szLead_any d _ _ _ _ _ _ IU.out hr0 (by omega)).mono ?_
          rintro e w2 ⟨rfl, x2⟩
          have hx2 := hx.trans x2
          clear x2 hx
          clear p0 p1 p2 p3 p4 p5 p6 p7 p8 p9 p10 p11 p12 p13 p14 p15
          rw [L.out]
          go_wp2
          go_roundw
          case rel => exact ⟨k + 1, q, by omega, by go_num, rfl, hq0, Lib.hid (by have h1 := hr.out; have h2 := HS.out; have h3 := HQ.out; omega), hx2⟩
          case measure => simp [intOf]; omega
      · obtain rfl : k = R.length := by omega
        go_wp2
        go_ret
        refine ⟨?_, hx⟩
        have h1 := hr.out
        have h3 := HBK.out
        have h4 := sumN_all (weighD R)
        rw [weighD_len] at h4
        have he : lessened left (bulkL R) = r := by rw [lessened_yes (by omega)]; omega
        rw [he]; first | done | rfl
set_option maxHeartbeats 1000000 in
theorem szReplica_any (me n : Int) (u v : Value) (T : List (List RowD)) (L : List LeadD) (left : Int) (w : World) (hu : Rowzz w u T) (hv : Leadz w v L) (h0 : 0 ≤ left) (h1 : left ≤ 1099511627776) :
    Calls Tryz.prog 46 #[.agg #[.int .i64 me, .int .i64 n, u, v], .int .i64 left] w (IntExt (lessened left (bulkT T + bulkL L)) w) := by
  have xx := Ext.alloc1 w (.cells #[.int .i64 me, .int .i64 n, u, v] 92)
  have HH := Lib.hid (repAt_new w 92 me n u v)
  have HU := Lib.hid (hu.ext xx)
  have HV := Lib.hid (hv.ext xx)
  have HX := Lib.hid xx
  obtain ⟨a0, a1, a2, a3⟩ := HH.out
  clear hu hv xx
  go_enter Tryz.func46, Tryz.ntmps46
  go_wp2_with fail
  refine (szTable_any _ _ _ _ _ HU.out h0 h1).mono ?_
  rintro e w1 ⟨rfl, x1⟩
  have X1 := Lib.hid (HX.out.trans x1)
  have X01 := Lib.hid x1
  clear x1 a0 a1 a2 a3
  by_cases g1 : left < bulkT T
  · have HE : Hid (lessened left (bulkT T + bulkL L) = -1) := Lib.hid (lessened_no (by omega))
    rw [lessened_no g1]
    go_wp2
    go_ret
    exact ⟨by rw [HE.out]; first | done | rfl, X1.out⟩
  rw [lessened_yes (by omega)]
  have hx1 : lessened left (bulkT T + bulkL L) = lessened (left - bulkT T) (bulkL L) := by unfold lessened; split <;> split <;> omega
  obtain ⟨r1, hr1⟩ : ∃ r1, r1 = left - (bulkT T : Int) := ⟨_, rfl⟩
  rw [← hr1] at hx1 ⊢
  have r10 : 0 ≤ r1 := by omega
  have r11 : r1 ≤ 1099511627776 := by omega
  have HX1 := Lib.hid hx1
  clear hx1 hr1 g1
  obtain ⟨a0, a1, a2, a3⟩ := HH.out.ext X01.out
  go_wp2_with fail
  refine (szLeadS_any _ L _ _ (HV.out.ext X01.out) r10 r11).mono ?_
  rintro e w2 ⟨rfl, x2⟩
  have hx := X1.out.trans x2
  clear x2 a0 a1 a2 a3
  by_cases g1 : r1 < bulkL L
  · have e4 := lessened_no g1
    rw [e4]
    have HE := Lib.hid (HX1.out.trans e4)
    clear e4 g1 HX1
    go_wp2
    go_ret
    exact ⟨by rw [HE.out]; first | done | rfl, hx⟩
  · have e4 := lessened_yes (left := r1) (n := bulkL L) (by omega)
    have r40 : 0 ≤ r1 - (bulkL L : Int) := by omega
    obtain ⟨r4, hr4⟩ : ∃ r4, r4 = r1 - (bulkL L : Int) := ⟨_, rfl⟩
    rw [← hr4] at e4 r40
    rw [e4]
    have HE := Lib.hid (HX1.out.trans e4)
    clear hr4 e4 g1 HX1
    go_wp2
    go_ret
    exact ⟨by rw [HE.out]; first | done | rfl, hx⟩
end Go.Proofs.YtbffkidkfannhaaGreat

namespace Go.Proofs.YtbffkidkfannhaaGreat
open Go.RowKit
set_option linter.unusedVariables false

structure RepD where
  me : Int
  n : Int
  T : List (List RowD)
  L : List LeadD
def repVs (d : RepD) (u1 u2 : Value) : List Value := [.int .i64 d.me, .int .i64 d.n, u1, u2]
theorem repVs_len (d : RepD) (u1 u2 : Value) : (repVs d u1 u2).length = 4 := rfl
structure RepL (w : World) (d : RepD) (u1 u2 : Value) : Prop where
  i1 : Rowzz w u1 d.T
  i2 : Leadz w u2 d.L
theorem RepL.ext {w w' : World} {d : RepD} {u1 u2 : Value} (h : RepL w d u1 u2) (e : Ext w w') : RepL w' d u1 u2 := ⟨h.i1.ext e, h.i2.ext e⟩
def RepIn (w : World) (b o : Nat) (d : RepD) (u1 u2 : Value) : Prop := ∀ j v, (repVs d u1 u2)[j]? = some v → w.cell? ⟨b, o + j, none⟩ = some v
theorem RepIn.ext {w w' : World} {b o : Nat} {d : RepD} {u1 u2 : Value} (h : RepIn w b o d u1 u2) (e : Ext w w') : RepIn w' b o d u1 u2 := fun j v hj => e.cell (h j v hj)
theorem repIn_cells {w : World} {b o : Nat} {d : RepD} {u1 u2 : Value} (h : RepIn w b o d u1 u2) :
    w.cell? ⟨b, o, none⟩ = some (.int .i64 d.me) ∧ w.cell? ⟨b, o + 1, none⟩ = some (.int .i64 d.n) ∧ w.cell? ⟨b, o + 2, none⟩ = some (u1) ∧ w.cell? ⟨b, o + 3, none⟩ = some (u2) :=
  ⟨h 0 _ rfl, h 1 _ rfl, h 2 _ rfl, h 3 _ rfl⟩
theorem rep_cells {w : World} {b : Nat} {d : RepD} {u1 u2 : Value} (h : BoxV w b (repVs d u1 u2)) :
    w.cell? ⟨b, 0, none⟩ = some (.int .i64 d.me) ∧ w.cell? ⟨b, 1, none⟩ = some (.int .i64 d.n) ∧ w.cell? ⟨b, 2, none⟩ = some (u1) ∧ w.cell? ⟨b, 3, none⟩ = some (u2) :=
  ⟨h.cell 0 _ rfl, h.cell 1 _ rfl, h.cell 2 _ rfl, h.cell 3 _ rfl⟩
theorem rep_box (w : World) (T : TypeId) (d : RepD) (u1 u2 : Value) : BoxV (w.alloc (.cells #[.int .i64 d.me, .int .i64 d.n, u1, u2] T)) w.heap.size (repVs d u1 u2) := boxV_new w (repVs d u1 u2) T
/-- v is a slice that reads as L in w. -/
def Repz (w : World) (v : Value) (L : List RepD) : Prop :=
  ∃ ao cap, v = .slice ao L.length cap ∧ L.length ≤ maxLen ∧ (L.length ≤ cap ∧ cap ≤ maxLen ∧ (ao = none → cap = 0)) ∧
    (0 < L.length → ∃ b off, ao = some ⟨b, off, none⟩ ∧ ∀ j (h : j < L.length), ∃ u1 u2, RepIn w b (off + j * 4) L[j] u1 u2 ∧ RepL w L[j] u1 u2)
theorem Repz.ext {w w' : World} {v : Value} {L : List RepD} (h : Repz w v L) (e : Ext w w') : Repz w' v L := by
  obtain ⟨ao, cap, hv, hm, hcap, hc⟩ := h
  refine ⟨ao, cap, hv, hm, hcap, fun hp => ?_⟩
  obtain ⟨b, off, ha, hc⟩ := hc hp
  refine ⟨b, off, ha, fun j hj => ?_⟩
  obtain ⟨u1, u2, hu, hi⟩ := hc j hj
  exact ⟨u1, u2, hu.ext e, hi.ext e⟩
theorem Repz.nil (w : World) : Repz w (.slice none 0 0) [] := ⟨none, 0, rfl, by simp, ⟨by simp, by simp, fun _ => rfl⟩, fun h => by simp at h⟩
def bulk1Rep (d : RepD) : Nat := bulkT d.T + bulkL d.L
def weighRep (L : List RepD) : List Nat := L.map bulk1Rep
theorem weighRep_len (L : List RepD) : (weighRep L).length = L.length := by simp [weighRep]
theorem weighRep_get {L : List RepD} {k : Nat} (h : k < L.length) : (weighRep L)[k]'(by rw [weighRep_len]; exact h) = bulk1Rep L[k] := by simp [weighRep]
def bulkRep (L : List RepD) : Nat := L.length + (weighRep L).sum
theorem bulkRep_at {L : List RepD} {j : Nat} (h : j < L.length) : bulk1Rep L[j] ≤ bulkRep L := by
  unfold bulkRep weighRep
  have := len_le_sum (L.map bulk1Rep) _ (List.mem_map.2 ⟨L[j], List.getElem_mem h, rfl⟩)
  omega
/-- From o on the list xs has the cells of the element. -/
def XRep (xs : List Value) (o : Nat) (d : RepD) (u1 u2 : Value) : Prop := ∀ q v, (repVs d u1 u2)[q]? = some v → xs[o + q]? = some v
theorem rep_lt {d : RepD} {u1 u2 : Value} {v : Value} {q : Nat} (h : (repVs d u1 u2)[q]? = some v) : q < 4 := by
  have := (List.getElem?_eq_some_iff.1 h).1
  rwa [repVs_len] at this
theorem XRep.put_other {xs vs : List Value} {o p : Nat} {d : RepD} {u1 u2 : Value} (h : XRep xs o d u1 u2) (hv : vs.length = 4) (hap : o + 4 ≤ p ∨ p + 4 ≤ o) : XRep (putL xs p vs) o d u1 u2 := by
  intro q v hq
  have := rep_lt hq
  rw [putL_out _ _ _ _ (by omega)]
  exact h q v hq
theorem XRep.put {xs : List Value} {o : Nat} {d : RepD} {u1 u2 : Value} (h : o + 4 ≤ xs.length) : XRep (putL xs o (repVs d u1 u2)) o d u1 u2 := by
  intro q v hq
  have := rep_lt hq
  rw [putL_in _ o xs q (by rw [repVs_len]; exact this) (by rw [repVs_len]; exact h)]
  exact hq
theorem XRep.isIn {w : World} {b o : Nat} {xs : List Value} {d : RepD} {u1 u2 : Value} (h : BoxV w b xs) (hx : XRep xs o d u1 u2) : RepIn w b o d u1 u2 := fun q v hq => h.cell _ _ (hx q v hq)
/-- Its lists lie in blocks from lo on, below hi. -/
def RepE (lo hi : Nat) (w : World) (d : RepD) (u1 u2 : Value) : Prop := RepC lo hi w u1 u2 d.T d.L
theorem RepE.kept {lo hi : Nat} {w w' : World} {d : RepD} {u1 u2 : Value} (h : RepE lo hi w d u1 u2) (s : Stood lo hi w w') : RepE lo hi w' d u1 u2 := by unfold RepE at h ⊢; exact h.kept s
theorem RepE.more {lo hi lo' hi' : Nat} {w : World} {d : RepD} {u1 u2 : Value} (h : RepE lo hi w d u1 u2) (p : lo' ≤ lo) (q : hi ≤ hi') : RepE lo' hi' w d u1 u2 := by unfold RepE at h ⊢; exact h.more p q
theorem RepE.reads {lo hi : Nat} {w : World} {d : RepD} {u1 u2 : Value} (h : RepE lo hi w d u1 u2) : RepL w d u1 u2 := by unfold RepE at h; exact (by obtain ⟨_, _, _, f1, f2⟩ := h; exact ⟨f1.rows, f2.reads⟩)
/-- The first k stand in the block's cells xs, their lists in ranges of blocks. -/
def RepsTo (cut : Nat → Nat) (w : World) (xs : List Value) (L : List RepD) (k : Nat) : Prop := ∀ j (h : j < L.length), j < k → ∃ u1 u2, XRep xs (j * 4) L[j] u1 u2 ∧ RepE (cut j) (cut (j + 1)) w L[j] u1 u2
theorem RepsTo.kept {lo hi k : Nat} {cut : Nat → Nat} {w w' : World} {xs : List Value} {L : List RepD} (h : RepsTo cut w xs L k) (c : CutOk lo k hi cut) (s : Stood lo hi w w') : RepsTo cut w' xs L k := fun j hj hk => by
  obtain ⟨u1, u2, a, b⟩ := h j hj hk
  exact ⟨u1, u2, a, b.kept (s.within (c.low (by omega)) (c.high (by omega)))⟩
theorem RepsTo.put {g k e : Nat} {cut : Nat → Nat} {w : World} {xs : List Value} {L : List RepD} {u1 u2 : Value} (h : RepsTo cut w xs L k) (c : CutOk (g + 1) k w.heap.size cut) (hk : k < L.length) (hl : xs.length = L.length * 4) (he : e ≤ w.heap.size) (hf : RepE (cut k) e w L[k] u1 u2) :
    RepsTo (cutTo cut k e) (w.setCells g (k * 4) (repVs L[k] u1 u2)) (putL xs (k * 4) (repVs L[k] u1 u2)) L (k + 1) := by
  have hs : Stood (g + 1) w.heap.size w (w.setCells g (k * 4) (repVs L[k] u1 u2)) := (ins_puts (lo := g) (hi := g + 1) (Nat.le_refl g) (Nat.lt_succ_self g) (repVs L[k] u1 u2) (k * 4) w).stood (Nat.le_refl _) (.inr (Nat.le_refl _))
  intro j hj hjk
  by_cases ej : j = k
  · subst ej
    rw [cutTo_old (Nat.le_refl _), cutTo_new]
    exact ⟨u1, u2, XRep.put (by omega), hf.kept (hs.within (c.low (Nat.le_refl _)) he)⟩
  · obtain ⟨v0, v1, a, b⟩ := h j hj (by omega)
    rw [cutTo_old (by omega), cutTo_old (by omega)]
    exact ⟨v0, v1, a.put_other (repVs_len _ _ _) (by omega), b.kept (hs.within (c.low (by omega)) (c.high (by omega)))⟩
/-- v is a slice of such in a block from lo on that may be written, their lists in blocks behind it; all below hi. -/
def RepzM (lo hi : Nat) (w : World) (v : Value) (L : List RepD) : Prop :=
  ∃ g xs cut, lo ≤ g ∧ v = .slice (some ⟨g, 0, none⟩) L.length L.length ∧ L.length ≤ maxLen ∧ BoxV w g xs ∧ xs.length = L.length * 4 ∧ CutOk (g + 1) L.length hi cut ∧ RepsTo cut w xs L L.length
theorem RepzM.reads {lo hi : Nat} {w : World} {v : Value} {L : List RepD} (h : RepzM lo hi w v L) : Repz w v L := by
  obtain ⟨g, xs, cut, _, rfl, hm, hb, _, _, hc⟩ := h
  refine ⟨some ⟨g, 0, none⟩, _, rfl, hm, ⟨Nat.le_refl _, hm, fun h => by cases h⟩, fun _ => ⟨g, 0, rfl, fun j hj => ?_⟩⟩
  obtain ⟨u1, u2, a, b⟩ := hc j hj hj
  exact ⟨u1, u2, by rw [Nat.zero_add]; exact a.isIn hb, b.reads⟩
theorem RepzM.kept {lo hi : Nat} {w w' : World} {v : Value} {L : List RepD} (h : RepzM lo hi w v L) (s : Stood lo hi w w') : RepzM lo hi w' v L := by
  obtain ⟨g, xs, cut, hg, hv, hm, hb, hl, hk, hc⟩ := h
  have hgh : g + 1 ≤ hi := Nat.le_trans hk.lo (hk.high (Nat.zero_le _))
  exact ⟨g, xs, cut, hg, hv, hm, hb.kept s hg hgh, hl, hk, hc.kept hk (s.within (by omega) (Nat.le_refl _))⟩
theorem RepzM.more {lo lo' hi hi' : Nat} {w : World} {v : Value} {L : List RepD} (h : RepzM lo hi w v L) (h1 : lo' ≤ lo) (h2 : hi ≤ hi') : RepzM lo' hi' w v L := by
  obtain ⟨g, xs, cut, hg, hv, hm, hb, hl, hk, hc⟩ := h
  exact ⟨g, xs, cut, Nat.le_trans h1 hg, hv, hm, hb, hl, hk.more (Nat.le_refl _) h2, hc⟩
theorem RepzM.form {lo hi : Nat} {w : World} {v : Value} {L : List RepD} (h : RepzM lo hi w v L) : ∃ a c, v = .slice a L.length c := by
  obtain ⟨g, _, _, _, hv, _⟩ := h
  exact ⟨_, _, hv⟩
def NewRepS (L : List RepD) (w : World) (e : Ending) (w' : World) : Prop := ∃ v, e = .returned v ∧ RepzM w.heap.size w'.heap.size w' v L ∧ Ext w w'
theorem setCells_rep (w : World) (g o : Nat) (d : RepD) (u1 u2 : Value) :
    w.setCells g o (repVs d u1 u2) = ((((w.setCell ⟨g, o, none⟩ (.int .i64 d.me)).setCell ⟨g, o + 1, none⟩ (.int .i64 d.n)).setCell ⟨g, o + 2, none⟩ (u1)).setCell ⟨g, o + 3, none⟩ (u2)) := rfl
end Go.Proofs.YtbffkidkfannhaaGreat

namespace Go.Proofs.YtbffkidkfannhaaGreat
open Go.RowKit
set_option linter.unusedVariables false

set_option maxHeartbeats 2000000 in
set_option maxRecDepth 100000 in
theorem szRepS_any (v : Value) (R : List RepD) (left : Int) (w : World) (hv : Repz w v R) (h0 : 0 ≤ left) (h1 : left ≤ 1099511627776) :
    Calls Tryz.prog 20 #[v, .int .i64 left] w (IntExt (lessened left (bulkRep R)) w) := by
  obtain ⟨av, cv, rfl, hlv, _, hcv⟩ := hv
  unfold maxLen at hlv
  have hb : bulkRep R = R.length + (weighRep R).sum := rfl
  by_cases hlt : left < R.length
  · rw [lessened_no (by omega)]
    clear hb hcv
    go_enter Tryz.func20, Tryz.ntmps20
    go_wp2
    go_ret
    exact ⟨rfl, Ext.refl _⟩
  · have HBK := Lib.hid hb
    have hle : (R.length : Int) ≤ left := by omega
    clear hb hlt
    go_enter Tryz.func20, Tryz.ntmps20
    go_wp2
    go_loopw [1, 5] (fun m i wr => ∃ (k : Nat) (r : Int), k ≤ R.length ∧ i = .int .i64 k ∧ m = .int .i64 r ∧ 0 ≤ r ∧ Hid (r = left - R.length - sumN (weighRep R) k) ∧ Ext w wr) (fun _ i _ => R.length - (intOf i).toNat)
    case atStart => exact ⟨0, left - R.length, Nat.zero_le _, rfl, rfl, by omega, Lib.hid (by rw [sumN_zero]; simp), Ext.refl _⟩
    case round =>
      obtain ⟨k, r, hk, rfl, rfl, hr0, hr, hx⟩ := hrel
      have hr1 : r ≤ 1099511627776 := by have := hr.out; omega
      by_cases hlt : k < R.length
      · obtain ⟨b, off, rfl, dv⟩ := hcv (by omega)
        obtain ⟨u1, u2, hu, iu⟩ := dv k hlt
        have hs := sumN_succ (g := weighRep R) (k := k) (by rw [weighRep_len]; exact hlt)
        rw [weighRep_get hlt] at hs
        obtain ⟨d, hd⟩ : ∃ d, d = R[k] := ⟨_, rfl⟩
        rw [← hd] at hu iu hs
        obtain ⟨p0, p1, p2, p3⟩ := repIn_cells (hu.ext hx)
        have IU := Lib.hid (iu.ext hx)
        have HS := Lib.hid hs
        clear hcv dv hu iu hs hd
        obtain ⟨q, hq⟩ : ∃ q, q = bulk1Rep d := ⟨_, rfl⟩
        have HC : Hid (∀ (a : Int), 0 ≤ a → a ≤ 1099511627776 → Calls Tryz.prog 46 #[.agg #[.int .i64 d.me, .int .i64 d.n, u1, u2], .int .i64 a] wr (IntExt (lessened a q) wr)) := Lib.hid (fun a h0 h1 => by rw [hq]; exact szReplica_any d.me d.n u1 u2 d.T d.L a _ IU.out.i1 IU.out.i2 h0 h1)
        rw [← hq] at HS
        clear hq
        by_cases hl : r < q
        · have L := Lib.hid (lessened_no hl)
          have hsum := sumN_mono (g := weighRep R) (k := k + 1) (by rw [weighRep_len]; omega)
          have HL := Lib.hid (show lessened left (bulkRep R) = -1 from lessened_no (by have h1 := hr.out; have h2 := HS.out; have h3 := HBK.out; omega))
          clear hl hsum
          go_wp2_with fail
          refine (HC.out _ hr0 (by omega)).mono ?_
          rintro e w2 ⟨rfl, x2⟩
          have hx2 := hx.trans x2
          clear x2 hx p0 p1 p2 p3
          rw [L.out]
          go_wp2
          go_ret
          exact ⟨by rw [HL.out]; first | done | rfl, hx2⟩
        · obtain ⟨y, hy⟩ : ∃ y, y = r - (q : Int) := ⟨_, rfl⟩
          have hy0 : 0 ≤ y := by omega
          have L : Hid (lessened r q = y) := Lib.hid (by rw [hy]; exact lessened_yes (by omega))
          have HQ := Lib.hid hy
          clear hl hy
          go_wp2_with fail
          refine (HC.out _ hr0 (by omega)).mono ?_
          rintro e w2 ⟨rfl, x2⟩
          have hx2 := hx.trans x2
          clear x2 hx p0 p1 p2 p3
          rw [L.out]
          go_wp2
          go_roundw
          case rel => exact ⟨k + 1, y, by omega, by go_num, rfl, hy0, Lib.hid (by have h1 := hr.out; have h2 := HS.out; have h3 := HQ.out; omega), hx2⟩
          case measure => simp [intOf]; omega
      · obtain rfl : k = R.length := by omega
        go_wp2
        go_ret
        refine ⟨?_, hx⟩
        have h1 := hr.out
        have h3 := HBK.out
        have h4 := sumN_all (weighRep R)
        rw [weighRep_len] at h4
        have he : lessened left (bulkRep R) = r := by rw [lessened_yes (by omega)]; omega
        rw [he]; first | done | rfl
end Go.Proofs.YtbffkidkfannhaaGreat
