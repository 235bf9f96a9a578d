/- Contracts of the two functions NewReplica, and of the law's functions at a replica without rows and leads. -/
import Derived.Test.YthnoeknalpnadaaNewTab
import Derived.Test.YthnoeknalpnadaaHangs
import Derived.Test.YthnoeknalpnadaaL4Row
namespace Go.Proofs.Ythnoeknalpnadaa
open Go.RowKit
set_option linter.unusedVariables false

/-- A replica without leads comes back. -/
def meR (n me : Int) : Int := if repB n me then me else 0
def nR (n me : Int) : Int := if repB n me then n else 0
def tR (n me : Int) : List (List RowD) := if repB n me then newT n else []
def TwoRep (me m : Int) (T : List (List RowD)) (b : Bool) (w : World) (e : Ending) (w' : World) : Prop := ∃ v hi, e = .returned (.tuple #[.agg #[.int .i64 me, .int .i64 m, v, .slice none 0 0], .bool b]) ∧ FreshT w.heap.size hi w' v T ∧ Ext w w'
theorem rep_no {n me : Int} (h : repB n me = false) : meR n me = 0 ∧ nR n me = 0 ∧ tR n me = [] := by unfold meR nR tR; rw [h]; exact ⟨rfl, rfl, rfl⟩
theorem rep_yes {n me : Int} (h : repB n me = true) : meR n me = me ∧ nR n me = n ∧ tR n me = newT n := by unfold meR nR tR; rw [h]; exact ⟨rfl, rfl, rfl⟩
theorem tR_nil (n me : Int) : ∀ R ∈ tR n me, R = [] := by
  unfold tR
  split
  · exact newT_nil n
  · intro R hR; cases hR
theorem repB_grp {n me : Int} (h : repB n me = true) : isGrp n = true ∧ inB me 0 (n - 1) = true := by unfold repB at h; simpa using h

/-- Where a replica lies in a block. -/
def RepAt (w : World) (b : Nat) (me n : Int) (u v : Value) : Prop :=
  w.cell? ⟨b, 0, none⟩ = some (.int .i64 me) ∧ w.cell? ⟨b, 1, none⟩ = some (.int .i64 n) ∧ w.cell? ⟨b, 2, none⟩ = some u ∧ w.cell? ⟨b, 3, none⟩ = some v
theorem RepAt.ext {w w' : World} {b : Nat} {me n : Int} {u v : Value} (h : RepAt w b me n u v) (e : Ext w w') : RepAt w' b me n u v :=
  ⟨e.cell h.1, e.cell h.2.1, e.cell h.2.2.1, e.cell h.2.2.2⟩
theorem repAt_new (w : World) (T : TypeId) (me n : Int) (u v : Value) : RepAt (w.alloc (.cells #[.int .i64 me, .int .i64 n, u, v] T)) w.heap.size me n u v := by
  refine ⟨?_, ?_, ?_, ?_⟩ <;> go_simp
/-- The result's block may be written. -/
def RepFree (w : World) (b : Nat) : Prop := RepAt w b 0 0 (.slice none 0 0) (.slice none 0 0) ∧ w.frozen? ⟨b, 0, none⟩ = false ∧ w.frozen? ⟨b, 1, none⟩ = false ∧ w.frozen? ⟨b, 2, none⟩ = false ∧ w.frozen? ⟨b, 3, none⟩ = false
theorem RepFree.ext {w w' : World} {b : Nat} (h : RepFree w b) (e : Ext w w') : RepFree w' b := by
  obtain ⟨h0, h1, h2, h3, h4⟩ := h
  have hl : b < w.heap.size := World.block_lt_of_cell? w _ h0.1
  exact ⟨h0.ext e, e.frozen hl h1, e.frozen hl h2, e.frozen hl h3, e.frozen hl h4⟩
theorem repFree_new (w : World) (T : TypeId) : RepFree (w.alloc (.cells #[.int .i64 0, .int .i64 0, .slice none 0 0, .slice none 0 0] T)) w.heap.size := by
  refine ⟨repAt_new _ _ _ _ _ _, ?_, ?_, ?_, ?_⟩ <;> go_simp

set_option maxHeartbeats 2000000 in
theorem specNewReplica_any (n me : Int) (w : World) : Calls Try.prog 15 #[.int .i64 n, .int .i64 me] w (TwoRep (meR n me) (nR n me) (tR n me) (repB n me) w) := by
  have HO := Lib.hid (repFree_new w 27)
  cases hr : repB n me with
  | false =>
    rw [(rep_no hr).1, (rep_no hr).2.1, (rep_no hr).2.2]
    cases hg : isGrp n with
    | false =>
      have HG := Lib.hid hg
      clear hg hr
      go_enter Try.func15, Try.ntmps15
      go_wp2_with fail
      refine (specIsGroup_any _ _).mono ?_
      rintro e w' ⟨rfl, rfl⟩
      rw [HG.out]
      go_wp2
      refine bodyPost_ret (v := .tuple #[.agg #[.int .i64 0, .int .i64 0, .slice none 0 0, .slice none 0 0], .bool false]) (by simp [results, Try.results15, go_sem]) rfl ⟨_, w.heap.size, rfl, FreshT.nil _ _, ?_⟩
      exact Ext.alloc (Ext.refl _) _
    | true =>
      have hi : inB me 0 (n - 1) = false := by unfold repB at hr; rw [hg, Bool.true_and] at hr; exact hr
      have h3 := isGrp_bd hg
      obtain ⟨h3a, h3b⟩ := h3
      have HG := Lib.hid hg
      have HI := Lib.hid hi
      clear hg hr hi
      go_enter Try.func15, Try.ntmps15
      go_wp2_with fail
      refine (specIsGroup_any _ _).mono ?_
      rintro e w' ⟨rfl, rfl⟩
      rw [HG.out]
      go_wp2_with fail
      refine (l1In_any _ _ _ _).mono ?_
      rintro e w' ⟨rfl, rfl⟩
      rw [HI.out]
      go_wp2
      refine bodyPost_ret (v := .tuple #[.agg #[.int .i64 0, .int .i64 0, .slice none 0 0, .slice none 0 0], .bool false]) (by simp [results, Try.results15, go_sem]) rfl ⟨_, w.heap.size, rfl, FreshT.nil _ _, ?_⟩
      exact Ext.alloc (Ext.refl _) _
  | true =>
    rw [(rep_yes hr).1, (rep_yes hr).2.1, (rep_yes hr).2.2]
    obtain ⟨hg, hi⟩ := repB_grp hr
    obtain ⟨m, rfl, hm⟩ := nat_of_grp hg
    rw [(new_yes hg).2]
    have HG := Lib.hid hg
    have HI := Lib.hid hi
    have HM := Lib.hid hm
    have hm3 : 3 ≤ m := by omega
    have hm5 : m ≤ 5 := by omega
    clear hg hm hi hr
    go_enter Try.func15, Try.ntmps15
    go_wp2_with fail
    refine (specIsGroup_any _ _).mono ?_
    rintro e w' ⟨rfl, rfl⟩
    rw [HG.out]
    go_wp2_with fail
    refine (l1In_any _ _ _ _).mono ?_
    rintro e w' ⟨rfl, rfl⟩
    rw [HI.out]
    go_wp2_with fail
    refine (l4New_nat m HM.out _).mono ?_
    rintro e w1 ⟨v, hi, rfl, r1, x1⟩
    obtain ⟨ao, cap, rfl⟩ := r1.form
    obtain ⟨⟨c0, c1, c2, c3⟩, z0, z1, z2, z3⟩ := HO.out.ext x1
    have hx : Ext w w1 := (Ext.alloc (Ext.refl _) _).trans x1
    rw [World.size_alloc] at r1
    have R1 := Lib.hid r1
    clear r1 x1
    go_wp2
    refine bodyPost_ret (v := .tuple #[.agg #[.int .i64 me, .int .i64 m, .slice ao (List.replicate m ([] : List RowD)).length cap, .slice none 0 0], .bool true]) (by simp [results, Try.results15, go_sem, c0, c1, c2, c3]) rfl ⟨_, hi, rfl, ?_, ?_⟩
    · exact ((((R1.out.set _ _ _ (by omega)).set _ _ _ (by omega)).set _ _ _ (by omega)).set _ _ _ (by omega)).more (by omega) (Nat.le_refl _)
    · exact (((hx.setc (Nat.le_refl _)).setc (Nat.le_refl _)).setc (Nat.le_refl _)).setc (Nat.le_refl _)

set_option maxHeartbeats 1000000 in
theorem implNewTable_grp (n : Int) (w : World) (hg : isGrp n = true) : Calls Try.prog 79 #[.int .i64 n] w (fun e w' => ∃ v, e = .returned (.tuple #[.agg #[.int .i64 n, v], .bool true]) ∧ FreshT w.heap.size w'.heap.size w' v (newT n) ∧ Ext w w') := by
  obtain ⟨m, rfl, hm⟩ := nat_of_grp hg
  rw [(new_yes hg).2]
  have hmk := makeT_m m hm
  have HG := Lib.hid hg
  have HM := Lib.hid hm
  clear hg hm
  go_enter Try.func79, Try.ntmps79
  go_wp2_with fail
  refine (implIsGroup_any _ _).mono ?_
  rintro e w' ⟨rfl, rfl⟩
  rw [HG.out]
  go_wp2
  refine bodyPost_ret (v := .tuple #[.agg #[.int .i64 m, .slice (some ⟨w.heap.size + 1, 0, none⟩) m m], .bool true]) (by simp [results, Try.results79, go_sem]) rfl ⟨_, rfl, ?_, ?_⟩
  · have h := fresh_nils1 m (by have := HM.out; omega) w (.cells #[.int .i64 m, .slice (some ⟨w.heap.size + 1, 0, none⟩) m m] 24)
    simp only [World.size_alloc]
    exact h
  · exact ((Ext.refl w).alloc _).alloc _
set_option maxHeartbeats 2000000 in
theorem implNewReplica_any (n me : Int) (w : World) : Calls Try.prog 16 #[.int .i64 n, .int .i64 me] w (TwoRep (meR n me) (nR n me) (tR n me) (repB n me) w) := by
  have HO := Lib.hid (repFree_new w 27)
  cases hr : repB n me with
  | false =>
    rw [(rep_no hr).1, (rep_no hr).2.1, (rep_no hr).2.2]
    have HR := Lib.hid hr
    clear hr
    go_enter Try.func16, Try.ntmps16
    go_wp2_with fail
    refine (isReplica_any _ _ _).mono ?_
    rintro e w' ⟨rfl, rfl⟩
    rw [HR.out]
    go_wp2
    refine bodyPost_ret (v := .tuple #[.agg #[.int .i64 0, .int .i64 0, .slice none 0 0, .slice none 0 0], .bool false]) (by simp [results, Try.results16, go_sem]) rfl ⟨_, w.heap.size, rfl, FreshT.nil _ _, ?_⟩
    exact Ext.alloc (Ext.refl _) _
  | true =>
    rw [(rep_yes hr).1, (rep_yes hr).2.1, (rep_yes hr).2.2]
    obtain ⟨hg, hi⟩ := repB_grp hr
    have HR := Lib.hid hr
    have cN := fun W => implNewTable_grp n W hg
    have CN := Lib.hid cN
    obtain ⟨T, hT⟩ : ∃ T, T = newT n := ⟨_, rfl⟩
    rw [← hT]
    have HT := Lib.hid hT
    clear hg hi hr cN hT
    go_enter Try.func16, Try.ntmps16
    go_wp2_with fail
    refine (isReplica_any _ _ _).mono ?_
    rintro e w' ⟨rfl, rfl⟩
    rw [HR.out]
    go_wp2_with fail
    refine (CN.out _).mono ?_
    rintro e w1 ⟨v, rfl, r1, x1⟩
    rw [← HT.out] at r1
    obtain ⟨ao, cap, rfl⟩ := r1.form
    have xa := Ext.alloc1 w1 (.cells #[.int .i64 n, .slice ao T.length cap] 24)
    obtain ⟨⟨c0, c1, c2, c3⟩, z0, z1, z2, z3⟩ := HO.out.ext (x1.trans xa)
    have hx : Ext w _ := ((Ext.alloc (Ext.refl _) _).trans x1).trans xa
    rw [World.size_alloc] at r1
    have R1 := Lib.hid (r1.kept (Stood.of_ext xa (Nat.le_refl _)))
    clear r1 x1 xa
    go_wp2
    refine bodyPost_ret (v := .tuple #[.agg #[.int .i64 me, .int .i64 n, .slice ao T.length cap, .slice none 0 0], .bool true]) (by simp [results, Try.results16, go_sem, c0, c1, c2, c3]) rfl ⟨_, w1.heap.size, rfl, ?_, ?_⟩
    · exact ((((R1.out.set _ _ _ (by omega)).set _ _ _ (by omega)).set _ _ _ (by omega)).set _ _ _ (by omega)).more (by omega) (Nat.le_refl _)
    · exact (((hx.setc (Nat.le_refl _)).setc (Nat.le_refl _)).setc (Nat.le_refl _)).setc (Nat.le_refl _)

set_option maxHeartbeats 400000 in
theorem eqLeadS_nil (w : World) : Calls Try.prog 80 #[.slice none 0 0, .slice none 0 0] w (BoolExt true w) := by
  go_enter Try.func80, Try.ntmps80
  go_wp2
  refine wp_loop_rounds 1 ?_; rw [rounds_succ]
  go_wp2
  go_ret
  exact ⟨rfl, Ext.refl _⟩
set_option maxRecDepth 100000 in
set_option maxHeartbeats 1000000 in
theorem markLeadS_nil (k : Int) (w : World) : Calls Try.prog 81 #[.slice none 0 0, .int .i64 k] w (IntExt k w) := by
  go_enter Try.func81, Try.ntmps81
  go_wp2
  refine wp_loop_rounds 1 ?_; rw [rounds_succ]
  go_wp2
  go_ret
  exact ⟨rfl, Ext.refl _⟩
set_option maxRecDepth 100000 in
set_option maxHeartbeats 1000000 in
theorem heldLeadS_nil (k : Int) (w : World) : Calls Try.prog 82 #[.slice none 0 0, .int .i64 k] w (IntExt k w) := by
  go_enter Try.func82, Try.ntmps82
  go_wp2
  refine wp_loop_rounds 1 ?_; rw [rounds_succ]
  go_wp2
  go_ret
  exact ⟨rfl, Ext.refl _⟩

theorem two_reps (w : World) (T T' : TypeId) (me n me' n' : Int) (u u' v v' : Value) :
    RepAt ((w.alloc (.cells #[.int .i64 me, .int .i64 n, u, v] T)).alloc (.cells #[.int .i64 me', .int .i64 n', u', v'] T')) w.heap.size me n u v ∧ RepAt ((w.alloc (.cells #[.int .i64 me, .int .i64 n, u, v] T)).alloc (.cells #[.int .i64 me', .int .i64 n', u', v'] T')) (w.heap.size + 1) me' n' u' v' := by
  refine ⟨(repAt_new _ _ _ _ _ _).ext (Ext.alloc1 _ _), ?_⟩
  have h := repAt_new (w.alloc (.cells #[.int .i64 me, .int .i64 n, u, v] T)) T' me' n' u' v'
  rw [World.size_alloc] at h
  exact h
set_option maxHeartbeats 1000000 in
theorem eqReplica_nil (me n : Int) (u v : Value) (T : List (List RowD)) (w : World) (hu : Rowzz w u T) (hv : Rowzz w v T) :
    Calls Try.prog 17 #[.agg #[.int .i64 me, .int .i64 n, u, .slice none 0 0], .agg #[.int .i64 me, .int .i64 n, v, .slice none 0 0]] w (BoolExt true w) := by
  have HH := Lib.hid (two_reps w 27 27 me n me n u v (.slice none 0 0) (.slice none 0 0))
  have xx := Ext.alloc2 w (.cells #[.int .i64 me, .int .i64 n, u, .slice none 0 0] 27) (.cells #[.int .i64 me, .int .i64 n, v, .slice none 0 0] 27)
  have HU := Lib.hid (hu.ext xx)
  have HV := Lib.hid (hv.ext xx)
  obtain ⟨au, cu, rfl, _, _, _⟩ := hu
  obtain ⟨av, cv, rfl, _, _, _⟩ := hv
  have nm : (me != me) = false := by simp
  have HX := Lib.hid xx
  clear xx
  go_enter Try.func17, Try.ntmps17
  go_wp2_with fail
  refine (eqTable_same _ _ _ T _ HU.out HV.out).mono ?_
  rintro e w1 ⟨rfl, x1⟩
  obtain ⟨a0, a1, a2, a3⟩ := HH.out.1.ext x1
  obtain ⟨b0, b1, b2, b3⟩ := HH.out.2.ext x1
  have X1 := Lib.hid (HX.out.trans x1)
  clear x1
  go_wp2_with fail
  refine (eqLeadS_nil _).mono ?_
  rintro e w2 ⟨rfl, x2⟩
  have X2 := Lib.hid (X1.out.trans x2)
  clear x2 X1
  go_wp2
  go_ret
  exact ⟨rfl, X2.out⟩
set_option maxHeartbeats 1000000 in
theorem markReplica_nil (me n : Int) (u : Value) (T : List (List RowD)) (k : Int) (w : World) (hu : Rowzz w u T) (hT : ∀ R ∈ T, R = []) :
    Calls Try.prog 18 #[.agg #[.int .i64 me, .int .i64 n, u, .slice none 0 0], .int .i64 k] w (IntExt k w) := by
  have HH := Lib.hid (repAt_new w 27 me n u (.slice none 0 0))
  have xx := Ext.alloc1 w (.cells #[.int .i64 me, .int .i64 n, u, .slice none 0 0] 27)
  have HU := Lib.hid (hu.ext xx)
  obtain ⟨au, cu, rfl, _, _, _⟩ := hu
  have HT := Lib.hid hT
  have HX := Lib.hid xx
  clear xx hT
  go_enter Try.func18, Try.ntmps18
  go_wp2_with fail
  refine (markTable_nil _ _ T _ _ HU.out HT.out).mono ?_
  rintro e w1 ⟨rfl, x1⟩
  obtain ⟨a0, a1, a2, a3⟩ := HH.out.ext x1
  have X1 := Lib.hid (HX.out.trans x1)
  clear x1
  go_wp2_with fail
  refine (markLeadS_nil _ _).mono ?_
  rintro e w2 ⟨rfl, x2⟩
  have X2 := Lib.hid (X1.out.trans x2)
  clear x2 X1
  go_wp2
  go_ret
  exact ⟨rfl, X2.out⟩
set_option maxHeartbeats 1000000 in
theorem heldReplica_nil (me n : Int) (u : Value) (T : List (List RowD)) (k : Int) (w : World) (hu : Rowzz w u T) (hT : ∀ R ∈ T, R = []) (h0 : 0 ≤ k) :
    Calls Try.prog 19 #[.agg #[.int .i64 me, .int .i64 n, u, .slice none 0 0], .int .i64 k] w (IntExt k w) := by
  have HH := Lib.hid (repAt_new w 27 me n u (.slice none 0 0))
  have xx := Ext.alloc1 w (.cells #[.int .i64 me, .int .i64 n, u, .slice none 0 0] 27)
  have HU := Lib.hid (hu.ext xx)
  obtain ⟨au, cu, rfl, _, _, _⟩ := hu
  have HT := Lib.hid hT
  have HX := Lib.hid xx
  clear xx hT
  go_enter Try.func19, Try.ntmps19
  go_wp2_with fail
  refine (heldTable_nil _ _ T _ _ HU.out HT.out h0).mono ?_
  rintro e w1 ⟨rfl, x1⟩
  obtain ⟨a0, a1, a2, a3⟩ := HH.out.ext x1
  have X1 := Lib.hid (HX.out.trans x1)
  clear x1
  go_wp2_with fail
  refine (heldLeadS_nil _ _).mono ?_
  rintro e w2 ⟨rfl, x2⟩
  have X2 := Lib.hid (X1.out.trans x2)
  clear x2 X1
  go_wp2
  go_ret
  exact ⟨rfl, X2.out⟩
end Go.Proofs.Ythnoeknalpnadaa
