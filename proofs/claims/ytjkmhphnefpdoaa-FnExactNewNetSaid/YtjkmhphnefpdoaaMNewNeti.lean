/- Texts of this proof, part i: words, plain facts, contracts. -/
import Derived.Test.YtjkmhphnefpdoaaMNewNetg
import Derived.Test.YtjkmhphnefpdoaaMNewNeth
import Derived.Test.YtjkmhphnefpdoaaMNewNetc
import Derived.Test.YtjkmhphnefpdoaaMNewNete
import Derived.Test.YtjkmhphnefpdoaaMNewNeta
import Derived.Deep.RegionWith
import Derived.Test.YtjkmhphnefpdoaaMNewNetb
import Derived.Test.YtjkmhphnefpdoaaMNewNetf

namespace Go.Proofs.Ytjkmhphnefpdoaa
open Go.RowKit
set_option linter.unusedVariables false

/-- A replica without leads comes back. -/
def meR (n me : Int) : Int := if repB n me then me else 0
def nR (n me : Int) : Int := if repB n me then n else 0
def tR (n me : Int) : List (List RowD) := if repB n me then newT n else []
def TwoRep (me m : Int) (T : List (List RowD)) (b : Bool) (w : World) (e : Ending) (w' : World) : Prop := ∃ v hi, e = .returned (.tuple #[.agg #[.int .i64 me, .int .i64 m, v, .slice none 0 0], .bool b]) ∧ FreshT w.heap.size hi w' v T ∧ Ext w w'
theorem rep_no {n me : Int} (h : repB n me = false) : meR n me = 0 ∧ nR n me = 0 ∧ tR n me = [] := by unfold meR nR tR; rw [h]; exact ⟨rfl, rfl, rfl⟩
theorem rep_yes {n me : Int} (h : repB n me = true) : meR n me = me ∧ nR n me = n ∧ tR n me = newT n := by unfold meR nR tR; rw [h]; exact ⟨rfl, rfl, rfl⟩
theorem tR_nil (n me : Int) : ∀ R ∈ tR n me, R = [] := by
  unfold tR
  split
  · exact newT_nil n
  · intro R hR; cases hR
theorem repB_grp {n me : Int} (h : repB n me = true) : isGrp n = true ∧ inB me 0 (n - 1) = true := by unfold repB at h; simpa using h

/-- The result's block may be written. -/
def RepFree (w : World) (b : Nat) : Prop := RepAt w b 0 0 (.slice none 0 0) (.slice none 0 0) ∧ w.frozen? ⟨b, 0, none⟩ = false ∧ w.frozen? ⟨b, 1, none⟩ = false ∧ w.frozen? ⟨b, 2, none⟩ = false ∧ w.frozen? ⟨b, 3, none⟩ = false
theorem RepFree.ext {w w' : World} {b : Nat} (h : RepFree w b) (e : Ext w w') : RepFree w' b := by
  obtain ⟨h0, h1, h2, h3, h4⟩ := h
  have hl : b < w.heap.size := World.block_lt_of_cell? w _ h0.1
  exact ⟨h0.ext e, e.frozen hl h1, e.frozen hl h2, e.frozen hl h3, e.frozen hl h4⟩
theorem repFree_new (w : World) (T : TypeId) : RepFree (w.alloc (.cells #[.int .i64 0, .int .i64 0, .slice none 0 0, .slice none 0 0] T)) w.heap.size := by
  refine ⟨repAt_new _ _ _ _ _ _, ?_, ?_, ?_, ?_⟩ <;> go_simp

set_option maxHeartbeats 1000000 in
theorem implNewTable_grp (n : Int) (w : World) (hg : isGrp n = true) : Calls Try.prog 111 #[.int .i64 n] w (fun e w' => ∃ v, e = .returned (.tuple #[.agg #[.int .i64 n, v], .bool true]) ∧ FreshT w.heap.size w'.heap.size w' v (newT n) ∧ Ext w w') := by
  obtain ⟨m, rfl, hm⟩ := nat_of_grp hg
  rw [(new_yes hg).2]
  have hmk := makeT_m m hm
  have HG := Lib.hid hg
  have HM := Lib.hid hm
  clear hg hm
  go_enter Try.func111, Try.ntmps111
  go_wp2_with fail
  refine (implIsGroup_any _ _).mono ?_
  rintro e w' ⟨rfl, rfl⟩
  rw [HG.out]
  go_wp2
  refine bodyPost_ret (v := .tuple #[.agg #[.int .i64 m, .slice (some ⟨w.heap.size + 1, 0, none⟩) m m], .bool true]) (by simp [results, Try.results111, go_sem]) rfl ⟨_, rfl, ?_, ?_⟩
  · have h := fresh_nils1 m (by have := HM.out; omega) w (.cells #[.int .i64 m, .slice (some ⟨w.heap.size + 1, 0, none⟩) m m] 32)
    simp only [World.size_alloc]
    exact h
  · exact ((Ext.refl w).alloc _).alloc _
set_option maxHeartbeats 2000000 in
theorem implNewReplica_any (n me : Int) (w : World) : Calls Try.prog 66 #[.int .i64 n, .int .i64 me] w (TwoRep (meR n me) (nR n me) (tR n me) (repB n me) w) := by
  have HO := Lib.hid (repFree_new w 35)
  cases hr : repB n me with
  | false =>
    rw [(rep_no hr).1, (rep_no hr).2.1, (rep_no hr).2.2]
    have HR := Lib.hid hr
    clear hr
    go_enter Try.func66, Try.ntmps66
    go_wp2_with fail
    refine (isReplica_any _ _ _).mono ?_
    rintro e w' ⟨rfl, rfl⟩
    rw [HR.out]
    go_wp2
    refine bodyPost_ret (v := .tuple #[.agg #[.int .i64 0, .int .i64 0, .slice none 0 0, .slice none 0 0], .bool false]) (by simp [results, Try.results66, go_sem]) rfl ⟨_, w.heap.size, rfl, FreshT.nil _ _, ?_⟩
    exact Ext.alloc (Ext.refl _) _
  | true =>
    rw [(rep_yes hr).1, (rep_yes hr).2.1, (rep_yes hr).2.2]
    obtain ⟨hg, hi⟩ := repB_grp hr
    have HR := Lib.hid hr
    have cN := fun W => implNewTable_grp n W hg
    have CN := Lib.hid cN
    obtain ⟨T, hT⟩ : ∃ T, T = newT n := ⟨_, rfl⟩
    rw [← hT]
    have HT := Lib.hid hT
    clear hg hi hr cN hT
    go_enter Try.func66, Try.ntmps66
    go_wp2_with fail
    refine (isReplica_any _ _ _).mono ?_
    rintro e w' ⟨rfl, rfl⟩
    rw [HR.out]
    go_wp2_with fail
    refine (CN.out _).mono ?_
    rintro e w1 ⟨v, rfl, r1, x1⟩
    rw [← HT.out] at r1
    obtain ⟨ao, cap, rfl⟩ := r1.form
    have xa := Ext.alloc1 w1 (.cells #[.int .i64 n, .slice ao T.length cap] 32)
    obtain ⟨⟨c0, c1, c2, c3⟩, z0, z1, z2, z3⟩ := HO.out.ext (x1.trans xa)
    have hx : Ext w _ := ((Ext.alloc (Ext.refl _) _).trans x1).trans xa
    rw [World.size_alloc] at r1
    have R1 := Lib.hid (r1.kept (Stood.of_ext xa (Nat.le_refl _)))
    clear r1 x1 xa
    go_wp2
    refine bodyPost_ret (v := .tuple #[.agg #[.int .i64 me, .int .i64 n, .slice ao T.length cap, .slice none 0 0], .bool true]) (by simp [results, Try.results66, go_sem, c0, c1, c2, c3]) rfl ⟨_, w1.heap.size, rfl, ?_, ?_⟩
    · exact ((((R1.out.set _ _ _ (by omega)).set _ _ _ (by omega)).set _ _ _ (by omega)).set _ _ _ (by omega)).more (by omega) (Nat.le_refl _)
    · exact (((hx.setc (Nat.le_refl _)).setc (Nat.le_refl _)).setc (Nat.le_refl _)).setc (Nat.le_refl _)

set_option maxHeartbeats 400000 in
theorem eqLeadS_nil (w : World) : Calls Try.prog 41 #[.slice none 0 0, .slice none 0 0] w (BoolExt true w) := by
  go_enter Try.func41, Try.ntmps41
  go_wp2
  refine wp_loop_rounds 1 ?_; rw [rounds_succ]
  go_wp2
  go_ret
  exact ⟨rfl, Ext.refl _⟩
set_option maxRecDepth 100000 in
set_option maxHeartbeats 1000000 in
theorem markLeadS_nil (k : Int) (w : World) : Calls Try.prog 44 #[.slice none 0 0, .int .i64 k] w (IntExt k w) := by
  go_enter Try.func44, Try.ntmps44
  go_wp2
  refine wp_loop_rounds 1 ?_; rw [rounds_succ]
  go_wp2
  go_ret
  exact ⟨rfl, Ext.refl _⟩
set_option maxRecDepth 100000 in
set_option maxHeartbeats 1000000 in
theorem heldLeadS_nil (k : Int) (w : World) : Calls Try.prog 45 #[.slice none 0 0, .int .i64 k] w (IntExt k w) := by
  go_enter Try.func45, Try.ntmps45
  go_wp2
  refine wp_loop_rounds 1 ?_; rw [rounds_succ]
  go_wp2
  go_ret
  exact ⟨rfl, Ext.refl _⟩

set_option maxHeartbeats 1000000 in
theorem eqReplica_nil (me n : Int) (u v : Value) (T : List (List RowD)) (w : World) (hu : Rowzz w u T) (hv : Rowzz w v T) :
    Calls Try.prog 11 #[.agg #[.int .i64 me, .int .i64 n, u, .slice none 0 0], .agg #[.int .i64 me, .int .i64 n, v, .slice none 0 0]] w (BoolExt true w) := by
  have HH := Lib.hid (two_reps w 35 35 me n me n u v (.slice none 0 0) (.slice none 0 0))
  have xx := Ext.alloc2 w (.cells #[.int .i64 me, .int .i64 n, u, .slice none 0 0] 35) (.cells #[.int .i64 me, .int .i64 n, v, .slice none 0 0] 35)
  have HU := Lib.hid (hu.ext xx)
  have HV := Lib.hid (hv.ext xx)
  obtain ⟨au, cu, rfl, _, _, _⟩ := hu
  obtain ⟨av, cv, rfl, _, _, _⟩ := hv
  have nm : (me != me) = false := by simp
  have HX := Lib.hid xx
  clear xx
  go_enter Try.func11, Try.ntmps11
  go_wp2_with fail
  refine (eqTable_same _ _ _ T _ HU.out HV.out).mono ?_
  rintro e w1 ⟨rfl, x1⟩
  obtain ⟨a0, a1, a2, a3⟩ := HH.out.1.ext x1
  obtain ⟨b0, b1, b2, b3⟩ := HH.out.2.ext x1
  have X1 := Lib.hid (HX.out.trans x1)
  clear x1
  go_wp2_with fail
  refine (eqLeadS_nil _).mono ?_
  rintro e w2 ⟨rfl, x2⟩
  have X2 := Lib.hid (X1.out.trans x2)
  clear x2 X1
  go_wp2
  go_ret
  exact ⟨rfl, X2.out⟩
set_option maxHeartbeats 1000000 in
theorem markReplica_nil (me n : Int) (u : Value) (T : List (List RowD)) (k : Int) (w : World) (hu : Rowzz w u T) (hT : ∀ R ∈ T, R = []) :
    Calls Try.prog 14 #[.agg #[.int .i64 me, .int .i64 n, u, .slice none 0 0], .int .i64 k] w (IntExt k w) := by
  have HH := Lib.hid (repAt_new w 35 me n u (.slice none 0 0))
  have xx := Ext.alloc1 w (.cells #[.int .i64 me, .int .i64 n, u, .slice none 0 0] 35)
  have HU := Lib.hid (hu.ext xx)
  obtain ⟨au, cu, rfl, _, _, _⟩ := hu
  have HT := Lib.hid hT
  have HX := Lib.hid xx
  clear xx hT
  go_enter Try.func14, Try.ntmps14
  go_wp2_with fail
  refine (markTable_nil _ _ T _ _ HU.out HT.out).mono ?_
  rintro e w1 ⟨rfl, x1⟩
  obtain ⟨a0, a1, a2, a3⟩ := HH.out.ext x1
  have X1 := Lib.hid (HX.out.trans x1)
  clear x1
  go_wp2_with fail
  refine (markLeadS_nil _ _).mono ?_
  rintro e w2 ⟨rfl, x2⟩
  have X2 := Lib.hid (X1.out.trans x2)
  clear x2 X1
  go_wp2
  go_ret
  exact ⟨rfl, X2.out⟩
set_option maxHeartbeats 1000000 in
theorem heldReplica_nil (me n : Int) (u : Value) (T : List (List RowD)) (k : Int) (w : World) (hu : Rowzz w u T) (hT : ∀ R ∈ T, R = []) (h0 : 0 ≤ k) :
    Calls Try.prog 15 #[.agg #[.int .i64 me, .int .i64 n, u, .slice none 0 0], .int .i64 k] w (IntExt k w) := by
  have HH := Lib.hid (repAt_new w 35 me n u (.slice none 0 0))
  have xx := Ext.alloc1 w (.cells #[.int .i64 me, .int .i64 n, u, .slice none 0 0] 35)
  have HU := Lib.hid (hu.ext xx)
  obtain ⟨au, cu, rfl, _, _, _⟩ := hu
  have HT := Lib.hid hT
  have HX := Lib.hid xx
  clear xx hT
  go_enter Try.func15, Try.ntmps15
  go_wp2_with fail
  refine (heldTable_nil _ _ T _ _ HU.out HT.out h0).mono ?_
  rintro e w1 ⟨rfl, x1⟩
  obtain ⟨a0, a1, a2, a3⟩ := HH.out.ext x1
  have X1 := Lib.hid (HX.out.trans x1)
  clear x1
  go_wp2_with fail
  refine (heldLeadS_nil _ _).mono ?_
  rintro e w2 ⟨rfl, x2⟩
  have X2 := Lib.hid (X1.out.trans x2)
  clear x2 X1
  go_wp2
  go_ret
  exact ⟨rfl, X2.out⟩
end Go.Proofs.Ytjkmhphnefpdoaa

namespace Go.Proofs.Ytjkmhphnefpdoaa
open Go.RowKit

theorem boxV_other_puts {b b' : Nat} (hne : b' ≠ b) : ∀ (vs : List Value) (o : Nat) (w : World) (xs : List Value), BoxV w b xs → BoxV (w.setCells b' o vs) b xs
  | [], _, _, _, h => h
  | v :: r, o, w, xs, h => boxV_other_puts hne r (o + 1) _ _ (h.other _ _ hne)
end Go.Proofs.Ytjkmhphnefpdoaa

namespace Go.Proofs.Ytjkmhphnefpdoaa
open Go.RowKit
set_option linter.unusedVariables false

set_option maxHeartbeats 1000000 in
theorem implNewTable_tab (m : Nat) (hm : m = 3 ∨ m = 5) (w : World) (hg : isGrp (m : Int) = true) : Calls Try.prog 111 #[.int .i64 m] w (fun e w' => ∃ b, e = .returned (.tuple #[.agg #[.int .i64 m, .slice (some ⟨b, 0, none⟩) m m], .bool true]) ∧ TabN w.heap.size w' b m ∧ Ext w w') := by
  have hmk := makeT_m m hm
  have HG := Lib.hid hg
  have HM := Lib.hid hm
  clear hg hm
  go_enter Try.func111, Try.ntmps111
  go_wp2_with fail
  refine (implIsGroup_any _ _).mono ?_
  rintro e w' ⟨rfl, rfl⟩
  rw [HG.out]
  go_wp2
  refine bodyPost_ret (v := .tuple #[.agg #[.int .i64 m, .slice (some ⟨w.heap.size + 1, 0, none⟩) m m], .bool true]) (by simp [results, Try.results111, go_sem]) rfl ⟨_, rfl, ?_, ?_⟩
  · have h := tabN_new (w.alloc (.cells #[.int .i64 m, .slice (some ⟨w.heap.size + 1, 0, none⟩) m m] 32)) m (by have := HM.out; omega) w.heap.size (by simp)
    rw [World.size_alloc] at h
    exact h
  · exact ((Ext.refl w).alloc _).alloc _
set_option maxHeartbeats 2000000 in
theorem implNewRep_tab (m me : Nat) (hm : m = 3 ∨ m = 5) (hme : me < m) (w : World) : Calls Try.prog 66 #[.int .i64 m, .int .i64 me] w (fun e w' => ∃ b, e = .returned (.tuple #[.agg #[.int .i64 me, .int .i64 m, .slice (some ⟨b, 0, none⟩) m m, .slice none 0 0], .bool true]) ∧ TabN w.heap.size w' b m ∧ Ext w w') := by
  have hg : isGrp (m : Int) = true := by rcases hm with rfl | rfl <;> rfl
  have HR : Hid (repB (m : Int) (me : Int) = true) := Lib.hid (by unfold repB inB; rw [hg]; simp; omega)
  have HO := Lib.hid (repFree_new w 35)
  have CN := Lib.hid (fun W => implNewTable_tab m hm W hg)
  clear hg hm hme
  go_enter Try.func66, Try.ntmps66
  go_wp2_with fail
  refine (isReplica_any _ _ _).mono ?_
  rintro e w' ⟨rfl, rfl⟩
  rw [HR.out]
  go_wp2_with fail
  refine (CN.out _).mono ?_
  rintro e w1 ⟨b, rfl, r1, x1⟩
  have xa := Ext.alloc1 w1 (.cells #[.int .i64 m, .slice (some ⟨b, 0, none⟩) m m] 32)
  obtain ⟨⟨c0, c1, c2, c3⟩, z0, z1, z2, z3⟩ := HO.out.ext (x1.trans xa)
  have hx : Ext w _ := ((Ext.alloc (Ext.refl _) _).trans x1).trans xa
  rw [World.size_alloc] at r1
  have R1 := Lib.hid (r1.ext xa)
  clear r1 x1 xa
  go_wp2
  refine bodyPost_ret (v := .tuple #[.agg #[.int .i64 me, .int .i64 m, .slice (some ⟨b, 0, none⟩) m m, .slice none 0 0], .bool true]) (by simp [results, Try.results66, go_sem, c0, c1, c2, c3]) rfl ⟨_, rfl, ?_, ?_⟩
  · exact ((((R1.out.set _ (Nat.lt_succ_self _)).set _ (Nat.lt_succ_self _)).set _ (Nat.lt_succ_self _)).set _ (Nat.lt_succ_self _)).more (by omega)
  · exact (((hx.setc (Nat.le_refl _)).setc (Nat.le_refl _)).setc (Nat.le_refl _)).setc (Nat.le_refl _)

theorem upd_self {α : Type} (f : Nat → α) (k j : Nat) : f j = upd f k (f k) j := by
  unfold upd
  split
  · rename_i h; rw [h]
  · rfl
def zerosR (m : Nat) : List Value := (List.replicate m [.int .i64 0, .int .i64 0, .slice none 0 0, .slice none 0 0]).flatten
theorem zerosR_len (m : Nat) : (zerosR m).length = m * 4 := by simp [zerosR]
theorem makeR_3 (W : World) : (Instr.makeSlice 64 (.int .i64 3) (.int .i64 3)).run Try.prog W = .ok (.slice (some ⟨W.heap.size, 0, none⟩) 3 3) (W.alloc (.cells (zerosR 3).toArray 35)) := by kernel_rfl
theorem makeR_5 (W : World) : (Instr.makeSlice 64 (.int .i64 5) (.int .i64 5)).run Try.prog W = .ok (.slice (some ⟨W.heap.size, 0, none⟩) 5 5) (W.alloc (.cells (zerosR 5).toArray 35)) := by kernel_rfl
theorem makeR_m (m : Nat) (h : m = 3 ∨ m = 5) (W : World) : (Instr.makeSlice 64 (.int .i64 (m : Int)) (.int .i64 (m : Int))).run Try.prog W = .ok (.slice (some ⟨W.heap.size, 0, none⟩) m m) (W.alloc (.cells (zerosR m).toArray 35)) := by
  rcases h with rfl | rfl
  · exact makeR_3 W
  · exact makeR_5 W

/-- What the program hands back: its replicas in a block of their own. -/
def OwnNet (n : Int) (w : World) (e : Ending) (w' : World) : Prop :=
  (isGrp n = false ∧ e = .returned (.tuple #[.agg #[.slice none 0 0, .slice none 0 0, .slice none 0 0], .bool false]) ∧ Ext w w') ∨
  (∃ (m G B : Nat) (me nn : Nat → Int) (tb : Nat → Nat), (m = 3 ∨ m = 5) ∧ isGrp n = true ∧ n = m ∧ e = .returned (.tuple #[.agg #[.slice (some ⟨G, 0, none⟩) m m, .slice none 0 0, .slice none 0 0], .bool true]) ∧ w.heap.size ≤ G ∧ RO m m B G w' me nn tb ∧ (∀ j, j < m → me j = j) ∧ (∀ j, j < m → nn j = m) ∧ Ext w w')
set_option maxHeartbeats 8000000 in
set_option maxRecDepth 100000 in
theorem implNewNet_any (n : Int) (w : World) : Calls Try.prog 28 #[.int .i64 n] w (OwnNet n w) := by
  cases hg : isGrp n with
  | false =>
    have HG := Lib.hid hg
    clear hg
    go_enter Try.func28, Try.ntmps28
    go_wp2_with fail
    refine (implIsGroup_any _ _).mono ?_
    rintro e w' ⟨rfl, rfl⟩
    rw [HG.out]
    go_wp2
    exact bodyPost_ret (v := .tuple #[.agg #[.slice none 0 0, .slice none 0 0, .slice none 0 0], .bool false]) (by simp [results, Try.results28, go_sem]) rfl (.inl ⟨HG.out, rfl, Ext.alloc (Ext.refl _) _⟩)
  | true =>
    obtain ⟨m, rfl, hm⟩ := nat_of_grp hg
    have HG := Lib.hid hg
    have HM := Lib.hid hm
    have hmk := makeR_m m hm
    have hm5 : m ≤ 5 := by omega
    obtain ⟨G, hG⟩ : ∃ G, G = w.heap.size + 1 := ⟨_, rfl⟩
    obtain ⟨w0, hw0⟩ : ∃ w0, w0 = ((w.alloc (.cells #[.slice none 0 0, .slice none 0 0, .slice none 0 0] 68)).alloc (.cells (zerosR m).toArray 35)).alloc (.cells #[.slice (some ⟨w.heap.size + 1, 0, none⟩) m m, .slice none 0 0, .slice none 0 0] 68) := ⟨_, rfl⟩
    have x0 : Ext w w0 := by rw [hw0]; exact ((Ext.alloc1 _ _).alloc _).alloc _
    have r0 : BoxV w0 w.heap.size [.slice none 0 0, .slice none 0 0, .slice none 0 0] := by rw [hw0]; exact (boxV_new w [.slice none 0 0, .slice none 0 0, .slice none 0 0] 68).ext ((Ext.alloc1 _ _).alloc _)
    have g0 : BoxV w0 G (zerosR m) := by
      have h := (boxV_new (w.alloc (.cells #[.slice none 0 0, .slice none 0 0, .slice none 0 0] 68)) (zerosR m) 35).ext (Ext.alloc1 _ (.cells #[.slice (some ⟨w.heap.size + 1, 0, none⟩) m m, .slice none 0 0, .slice none 0 0] 68))
      rw [World.size_alloc] at h
      rw [hw0, hG]; exact h
    have b0 : BoxV w0 (G + 1) [.slice (some ⟨G, 0, none⟩) m m, .slice none 0 0, .slice none 0 0] := by
      have h := boxV_new ((w.alloc (.cells #[.slice none 0 0, .slice none 0 0, .slice none 0 0] 68)).alloc (.cells (zerosR m).toArray 35)) [.slice (some ⟨w.heap.size + 1, 0, none⟩) m m, .slice none 0 0, .slice none 0 0] 68
      rw [World.size_alloc, World.size_alloc] at h
      rw [hw0, hG]; exact h
    have hro : RO m 0 (G + 2) G w0 (fun j => j) (fun _ => m) (fun _ => 0) := by
      refine ⟨fun j h => by omega, fun j h => by omega, fun j h => by omega, fun j h => by omega, fun q hq => ⟨?_, g0.free q (by rw [zerosR_len]; exact hq)⟩, g0.lt, fun j h => by omega, by omega⟩
      exact ⟨_, g0.cell q _ (List.getElem?_eq_getElem (by rw [zerosR_len]; exact hq))⟩
    have HX0 := Lib.hid x0
    have HR0 := Lib.hid r0
    have HB0 := Lib.hid b0
    have HRO0 := Lib.hid hro
    have HW := Lib.hid hw0
    have HGG := Lib.hid hG
    clear x0 r0 g0 b0 hro hw0 hG hg hm
    go_enter Try.func28, Try.ntmps28
    go_wp2_with fail
    refine (implIsGroup_any _ _).mono ?_
    rintro e w' ⟨rfl, rfl⟩
    rw [HG.out]
    go_wp2
    rw [← HW.out, ← HGG.out]
    clear hmk
    go_loopw [14] (fun i wr => ∃ (k : Nat) (tb : Nat → Nat), k ≤ m ∧ i = .int .i64 k ∧ Hid (BoxV wr (G + 1) [.slice (some ⟨G, 0, none⟩) m m, .slice none 0 0, .slice none 0 0]) ∧ Hid (BoxV wr w.heap.size [.slice none 0 0, .slice none 0 0, .slice none 0 0]) ∧ Hid (RO m k (G + 2) G wr (fun j => j) (fun _ => m) tb) ∧ Hid (Ext w wr)) (fun i _ => m - (intOf i).toNat)
    case atStart => exact ⟨0, _, Nat.zero_le _, rfl, HB0, HR0, HRO0, HX0⟩
    case round =>
      clear HB0 HR0 HRO0 HX0 HW
      obtain ⟨k, tb, hk, rfl, HB, HR, HRO, HX⟩ := hrel
      by_cases hlt : k < m
      · have o0 := HB.out.cell 0 _ rfl
        have HLT := Lib.hid hlt
        have i0 : (0 : Int) ≤ k := by omega
        have i1 : (k : Int) < m := by omega
        have HSZ : Hid (G + 2 ≤ wr.heap.size) := Lib.hid (HB.out.lt)
        go_wp2_with fail
        go_region_with (go_at_call 66; refine (implNewRep_tab m k HM.out HLT.out _).mono ?_; rintro e w2 ⟨b, rfl, ht, x2⟩; have y2 := (Ext.drew (Ext.refl wr)).trans x2; have o0' := (HB.out.ext y2).cell 0 _ rfl; obtain ⟨⟨v0, g0⟩, n0⟩ := (HRO.out.ext y2).al (k * 4) (by have := HLT.out; omega); obtain ⟨⟨v1, g1⟩, n1⟩ := (HRO.out.ext y2).al (k * 4 + 1) (by have := HLT.out; omega); obtain ⟨⟨v2, g2⟩, n2⟩ := (HRO.out.ext y2).al (k * 4 + 2) (by have := HLT.out; omega); obtain ⟨⟨v3, g3⟩, n3⟩ := (HRO.out.ext y2).al (k * 4 + 3) (by have := HLT.out; omega))
        all_goals
          clear o0 o0' g0 g1 g2 g3 n0 n1 n2 n3
          have hro := Lib.hid (((HRO.out.ext y2).put (b := b) HLT.out (k : Int) (m : Int) (ht.more HSZ.out)).congr (me' := fun j => j) (nn' := fun _ => m) (fun j _ => upd_self (fun j : Nat => (j : Int)) k j) (fun j _ => upd_self (fun _ : Nat => (m : Int)) k j))
          have hb' := Lib.hid (boxV_other_puts (b' := G) (b := G + 1) (by omega) [.int .i64 k, .int .i64 m, .slice (some ⟨b, 0, none⟩) m m, .slice none 0 0] (k * 4) _ _ (HB.out.ext y2))
          have hr' := Lib.hid (boxV_other_puts (b' := G) (b := w.heap.size) (by have := HGG.out; omega) [.int .i64 k, .int .i64 m, .slice (some ⟨b, 0, none⟩) m m, .slice none 0 0] (k * 4) _ _ (HR.out.ext y2))
          have hx' := Lib.hid ((ins_puts (lo := G) (hi := G + 1) (b := G) (Nat.le_refl _) (Nat.lt_succ_self _) [.int .i64 k, .int .i64 m, .slice (some ⟨b, 0, none⟩) m m, .slice none 0 0] (k * 4) w2).ext (HX.out.trans y2) (by have := HGG.out; omega))
          go_wp2
          go_roundw
          case rel => exact ⟨k + 1, _, by have := HLT.out; omega, by go_num, hb', hr', hro, hx'⟩
          case measure => simp [intOf]; have := HLT.out; omega
      · obtain rfl : k = m := by omega
        have o0 := HB.out.cell 0 _ rfl
        have o1 := HB.out.cell 1 _ rfl
        have o2 := HB.out.cell 2 _ rfl
        have r0 := HR.out.cell 0 _ rfl
        have r1 := HR.out.cell 1 _ rfl
        have r2 := HR.out.cell 2 _ rfl
        have f0 := HR.out.free 0 (of_decide_eq_true rfl)
        have f1 := HR.out.free 1 (of_decide_eq_true rfl)
        have f2 := HR.out.free 2 (of_decide_eq_true rfl)
        go_wp2
        clear o0 o1 o2 r0 r1 r2 f0 f1 f2
        have hr := boxV_puts [.slice (some ⟨G, 0, none⟩) k k, .slice none 0 0, .slice none 0 0] 0 _ _ HR.out (of_decide_eq_true rfl)
        have kk := ins_puts (lo := w.heap.size) (hi := w.heap.size + 1) (b := w.heap.size) (Nat.le_refl _) (Nat.lt_succ_self _) [.slice (some ⟨G, 0, none⟩) k k, .slice none 0 0, .slice none 0 0] 0 wr
        obtain ⟨wz, hwz⟩ : ∃ wz, wz = (((wr.setCell ⟨w.heap.size, 0, none⟩ (.slice (some ⟨G, 0, none⟩) k k)).setCell ⟨w.heap.size, 1, none⟩ (.slice none 0 0)).setCell ⟨w.heap.size, 2, none⟩ (.slice none 0 0)) := ⟨_, rfl⟩
        have hr : BoxV wz w.heap.size [.slice (some ⟨G, 0, none⟩) k k, .slice none 0 0, .slice none 0 0] := by rw [hwz]; exact hr
        have kk : Ins w.heap.size (w.heap.size + 1) wr wz := by rw [hwz]; exact kk
        rw [← hwz]
        clear hwz
        have r0 := hr.cell 0 _ rfl
        have r1 := hr.cell 1 _ rfl
        have r2 := hr.cell 2 _ rfl
        have hG := HGG.out
        have h := HRO.out
        have hro : RO k k (G + 2) G wz (fun j => j) (fun _ => k) tb := ⟨fun j hj => kk.cell (h.c0 j hj) (.inr (by dsimp only; omega)), fun j hj => kk.cell (h.c1 j hj) (.inr (by dsimp only; omega)), fun j hj => kk.cell (h.c2 j hj) (.inr (by dsimp only; omega)), fun j hj => kk.cell (h.c3 j hj) (.inr (by dsimp only; omega)), fun q hq => by
          obtain ⟨⟨v, hv⟩, hf⟩ := h.al q hq
          refine ⟨⟨v, kk.cell hv (.inr (by dsimp only; omega))⟩, ?_⟩
          unfold World.frozen? at hf ⊢
          rw [kk.block G h.lt (.inr (by omega))]; exact hf, Nat.lt_of_lt_of_le h.lt kk.size, fun j hj => (h.tab j hj).ins kk (by omega), h.gb⟩
        exact bodyPost_ret (v := .tuple #[.agg #[.slice (some ⟨G, 0, none⟩) k k, .slice none 0 0, .slice none 0 0], .bool true]) (by simp [results, Try.results28, go_sem, r0, r1, r2]) rfl (.inr ⟨k, G, _, _, _, _, HM.out, HG.out, rfl, rfl, by omega, hro, fun _ _ => rfl, fun _ _ => rfl, kk.ext HX.out (Nat.le_refl _)⟩)
end Go.Proofs.Ytjkmhphnefpdoaa

namespace Go.Proofs.Ytjkmhphnefpdoaa
open Go.RowKit
set_option linter.unusedVariables false

end Go.Proofs.Ytjkmhphnefpdoaa

namespace Go.Proofs.Ytjkmhphnefpdoaa
open Go.RowKit
set_option linter.unusedVariables false

set_option maxHeartbeats 4000000 in
set_option maxRecDepth 100000 in
theorem eqRepS_same (u v : Value) (L : List RepD) (w : World) (hu : Repz w u L) (hv : Repz w v L) :
    Calls Try.prog 67 #[u, v] w (BoolExt true w) := by
  obtain ⟨au, cu, rfl, hlu, _, hcu⟩ := hu
  obtain ⟨av, cv, rfl, hlv, _, hcv⟩ := hv
  unfold maxLen at hlu hlv
  have e0 : ((L.length : Int) != (L.length : Int)) = false := by simp
  go_enter Try.func67, Try.ntmps67
  go_wp2
  go_loopw [5] (fun i wr => ∃ k : Nat, k ≤ L.length ∧ i = .int .i64 k ∧ Ext w wr) (fun i _ => L.length - (intOf i).toNat)
  case atStart => exact ⟨0, Nat.zero_le _, rfl, Ext.refl _⟩
  case round =>
    obtain ⟨k, hk, rfl, hx⟩ := hrel
    by_cases hlt : k < L.length
    · obtain ⟨bu, ou, rfl, du⟩ := hcu (by omega)
      obtain ⟨bv, ov, rfl, dv⟩ := hcv (by omega)
      obtain ⟨u1, u2, hx1, ix⟩ := du k hlt
      obtain ⟨v1, v2, hy1, iy⟩ := dv k hlt
      obtain ⟨d, hd⟩ : ∃ d, d = L[k] := ⟨_, rfl⟩
      rw [← hd] at hx1 hy1 ix iy
      obtain ⟨p0, p1, p2, p3⟩ := repIn_cells (hx1.ext hx)
      obtain ⟨q0, q1, q2, q3⟩ := repIn_cells (hy1.ext hx)
      have cE : ∀ E : ExtOf wr, Calls Try.prog 11 #[.agg #[.int .i64 d.me, .int .i64 d.n, u1, u2], .agg #[.int .i64 d.me, .int .i64 d.n, v1, v2]] E.1 (BoolExt true E.1) := fun E => eqReplica_same _ _ _ _ _ _ d.T d.L _ ((ix.i1.ext hx).ext E.2) ((ix.i2.ext hx).ext E.2) ((iy.i1.ext hx).ext E.2) ((iy.i2.ext hx).ext E.2)
      have p0 := fun E : ExtOf wr => E.cell p0
      have q0 := fun E : ExtOf wr => E.cell q0
      have p1 := fun E : ExtOf wr => E.cell p1
      have q1 := fun E : ExtOf wr => E.cell q1
      have p2 := fun E : ExtOf wr => E.cell p2
      have q2 := fun E : ExtOf wr => E.cell q2
      have p3 := fun E : ExtOf wr => E.cell p3
      have q3 := fun E : ExtOf wr => E.cell q3
      have HX := Lib.hid hx
      have HLT := Lib.hid hlt
      clear hcu hcv du dv hx1 hy1 ix iy hd hx
      go_wp2_with fail
      refine wp_region_ext_lit (by kernel_rfl) (by kernel_rfl) ?_
      repeat (go_big_quiet_step (first | (go_at_call 11; with_reducible exact Calls.ext_of _ (cE _))))
      refine wpQuiet_nil ?_
      rintro _ ⟨E, rfl⟩
      have hx2 : Ext w E.1 := HX.out.trans E.2
      clear cE p0 p1 p2 p3 q0 q1 q2 q3
      go_wp2
      go_roundw
      case rel => exact ⟨k + 1, by have := HLT.out; omega, by go_num, hx2⟩
      case measure => simp [intOf]; have := HLT.out; omega
    · obtain rfl : k = L.length := by omega
      go_wp2
      go_ret
      exact ⟨rfl, hx⟩
end Go.Proofs.Ytjkmhphnefpdoaa

namespace Go.Proofs.Ytjkmhphnefpdoaa
open Go.RowKit
set_option linter.unusedVariables false

set_option maxRecDepth 100000 in
set_option maxHeartbeats 1000000 in
theorem eqMsgS_nil (w : World) : Calls Try.prog 68 #[.slice none 0 0, .slice none 0 0] w (BoolExt true w) := by
  go_enter Try.func68, Try.ntmps68
  go_wp2
  refine wp_loop_rounds 1 ?_; rw [rounds_succ]
  go_wp2
  go_ret
  exact ⟨rfl, Ext.refl _⟩
set_option maxRecDepth 100000 in
set_option maxHeartbeats 1000000 in
theorem eqAskedS_nil (w : World) : Calls Try.prog 69 #[.slice none 0 0, .slice none 0 0] w (BoolExt true w) := by
  go_enter Try.func69, Try.ntmps69
  go_wp2
  refine wp_loop_rounds 1 ?_; rw [rounds_succ]
  go_wp2
  go_ret
  exact ⟨rfl, Ext.refl _⟩
set_option maxRecDepth 100000 in
set_option maxHeartbeats 1000000 in
theorem eqReplicaS_nil (w : World) : Calls Try.prog 67 #[.slice none 0 0, .slice none 0 0] w (BoolExt true w) := by
  go_enter Try.func67, Try.ntmps67
  go_wp2
  refine wp_loop_rounds 1 ?_; rw [rounds_succ]
  go_wp2
  go_ret
  exact ⟨rfl, Ext.refl _⟩
set_option maxRecDepth 100000 in
set_option maxHeartbeats 1000000 in
theorem markMsgS_nil (k : Int) (w : World) : Calls Try.prog 71 #[.slice none 0 0, .int .i64 k] w (IntExt k w) := by
  go_enter Try.func71, Try.ntmps71
  go_wp2
  refine wp_loop_rounds 1 ?_; rw [rounds_succ]
  go_wp2
  go_ret
  exact ⟨rfl, Ext.refl _⟩
set_option maxRecDepth 100000 in
set_option maxHeartbeats 1000000 in
theorem markAskedS_nil (k : Int) (w : World) : Calls Try.prog 72 #[.slice none 0 0, .int .i64 k] w (IntExt k w) := by
  go_enter Try.func72, Try.ntmps72
  go_wp2
  refine wp_loop_rounds 1 ?_; rw [rounds_succ]
  go_wp2
  go_ret
  exact ⟨rfl, Ext.refl _⟩
set_option maxRecDepth 100000 in
set_option maxHeartbeats 1000000 in
theorem heldMsgS_nil (k : Int) (w : World) : Calls Try.prog 74 #[.slice none 0 0, .int .i64 k] w (IntExt k w) := by
  go_enter Try.func74, Try.ntmps74
  go_wp2
  refine wp_loop_rounds 1 ?_; rw [rounds_succ]
  go_wp2
  go_ret
  exact ⟨rfl, Ext.refl _⟩
set_option maxRecDepth 100000 in
set_option maxHeartbeats 1000000 in
theorem heldAskedS_nil (k : Int) (w : World) : Calls Try.prog 75 #[.slice none 0 0, .int .i64 k] w (IntExt k w) := by
  go_enter Try.func75, Try.ntmps75
  go_wp2
  refine wp_loop_rounds 1 ?_; rw [rounds_succ]
  go_wp2
  go_ret
  exact ⟨rfl, Ext.refl _⟩
set_option maxRecDepth 100000 in
set_option maxHeartbeats 1000000 in
theorem markReplicaS_nil (k : Int) (w : World) : Calls Try.prog 70 #[.slice none 0 0, .int .i64 k] w (IntExt k w) := by
  go_enter Try.func70, Try.ntmps70
  go_wp2
  refine wp_loop_rounds 1 ?_; rw [rounds_succ]
  go_wp2
  go_ret
  exact ⟨rfl, Ext.refl _⟩
set_option maxRecDepth 100000 in
set_option maxHeartbeats 1000000 in
theorem heldReplicaS_nil (k : Int) (w : World) : Calls Try.prog 73 #[.slice none 0 0, .int .i64 k] w (IntExt k w) := by
  go_enter Try.func73, Try.ntmps73
  go_wp2
  refine wp_loop_rounds 1 ?_; rw [rounds_succ]
  go_wp2
  go_ret
  exact ⟨rfl, Ext.refl _⟩
theorem RO.free0 {m k B G p : Nat} {w : World} {me nn : Nat → Int} {tb : Nat → Nat} (h : RO m k B G w me nn tb) (hp : p < m) : w.frozen? ⟨G, p * 4, none⟩ = false ∧ w.frozen? ⟨G, p * 4 + 1, none⟩ = false := ⟨(h.al (p * 4) (by omega)).2, (h.al (p * 4 + 1) (by omega)).2⟩
/-- Which blocks the marks turn. -/
def MarkedR (m B G : Nat) (k : Int) (tb : Nat → Nat) (w : World) (e : Ending) (w' : World) : Prop := ∃ me nn, e = .returned (.int .i64 (k + 2 * m)) ∧ RO m m B G w' me nn tb ∧ (∀ j, j < m → me j = k + 2 * j) ∧ (∀ j, j < m → nn j = k + 2 * j + 1) ∧ Ins G (G + 1) w w'
set_option maxHeartbeats 4000000 in
set_option maxRecDepth 100000 in
theorem markReps_any (m B G : Nat) (me nn : Nat → Int) (tb : Nat → Nat) (k : Int) (w : World) (hr : RO m m B G w me nn tb) (hm : m ≤ 5) (h0 : 0 ≤ k) (h1 : k ≤ 1000) :
    Calls Try.prog 70 #[.slice (some ⟨G, 0, none⟩) m m, .int .i64 k] w (MarkedR m B G k tb w) := by
  have HR0 := Lib.hid hr
  clear hr
  go_enter Try.func70, Try.ntmps70
  go_wp2
  go_loopw [1, 5] (fun q i wr => ∃ (j : Nat) (me nn : Nat → Int), j ≤ m ∧ i = .int .i64 j ∧ q = .int .i64 (k + 2 * j) ∧ Hid (RO m m B G wr me nn tb) ∧ Hid ((∀ p, p < j → me p = k + 2 * p) ∧ (∀ p, p < j → nn p = k + 2 * p + 1)) ∧ Hid (Ins G (G + 1) w wr)) (fun _ i _ => m - (intOf i).toNat)
  case atStart => exact ⟨0, me, nn, Nat.zero_le _, rfl, by simp, HR0, Lib.hid ⟨fun p h => by omega, fun p h => by omega⟩, Lib.hid (Ins.refl _ _ _)⟩
  case round =>
    clear HR0
    obtain ⟨j, me, nn, hj, rfl, rfl, HR, HE, HI⟩ := hrel
    by_cases hlt : j < m
    · have c0 := HR.out.c0 j hlt
      have c1 := HR.out.c1 j hlt
      have c2 := HR.out.c2 j hlt
      have c3 := HR.out.c3 j hlt
      obtain ⟨f0, f1⟩ := HR.out.free0 hlt
      have HLT := Lib.hid hlt
      have i0 : (0 : Int) ≤ j := by omega
      have i1 : (j : Int) < m := by omega
      have hb : 0 ≤ k + 2 * (j : Int) := by omega
      have hb2 : k + 2 * (j : Int) + 1 ≤ 2000 := by omega
      have HR1 := Lib.hid ((HR.out.set0 (Nat.le_refl _) HLT.out (k + 2 * (j : Int))).set1 (Nat.le_refl _) HLT.out (k + 2 * (j : Int) + 1))
      have HI1 := Lib.hid ((HI.out.trans (ins_set (lo := G) (hi := G + 1) (b := G) (o := j * 4) (w := wr) (v := .int .i64 (k + 2 * (j : Int))) (Nat.le_refl _) (Nat.lt_succ_self _))).trans (ins_set (lo := G) (hi := G + 1) (b := G) (o := j * 4 + 1) (v := .int .i64 (k + 2 * (j : Int) + 1)) (Nat.le_refl _) (Nat.lt_succ_self _)))
      have HT := Lib.hid ((HR1.out.tab j hlt).rowz hm)
      go_wp2_with fail
      refine (markRowSS_nil _ (List.replicate m []) _ _ HT.out (fun R hR => (List.mem_replicate.1 hR).2)).mono ?_
      rintro e w1 ⟨rfl, x1⟩
      have HR2 := Lib.hid (HR1.out.ext x1)
      have HI2 := Lib.hid (HI1.out.trans (Ins.of_ext x1))
      clear x1 c0 c1 c2 c3 f0 f1 HT
      have c3 := HR2.out.c3 j hlt
      go_wp2_with fail
      refine (markLeadS_nil _ _).mono ?_
      rintro e w2 ⟨rfl, x2⟩
      have HR3 := Lib.hid (HR2.out.ext x2)
      have HI3 := Lib.hid (HI2.out.trans (Ins.of_ext x2))
      clear x2 c3
      have HE1 : Hid ((∀ p, p < j + 1 → upd me j (k + 2 * (j : Int)) p = k + 2 * p) ∧ (∀ p, p < j + 1 → upd nn j (k + 2 * (j : Int) + 1) p = k + 2 * p + 1)) := Lib.hid (by
        constructor
        · intro p hp
          by_cases e : p = j
          · subst e; rw [upd_same]
          · rw [upd_other _ _ e]; exact HE.out.1 p (by omega)
        · intro p hp
          by_cases e : p = j
          · subst e; rw [upd_same]
          · rw [upd_other _ _ e]; exact HE.out.2 p (by omega))
      go_wp2
      go_roundw
      case rel => exact ⟨j + 1, _, _, by have := HLT.out; omega, by go_num, by first | (congr 1; omega) | (simp; omega), HR3, HE1, HI3⟩
      case measure => simp [intOf]; have := HLT.out; omega
    · obtain rfl : j = m := by omega
      go_wp2
      go_ret
      exact ⟨me, nn, by first | rfl | (congr 2), HR.out, HE.out.1, HE.out.2, HI.out⟩
set_option maxHeartbeats 4000000 in
set_option maxRecDepth 100000 in
theorem heldReps_any (m B G : Nat) (me nn : Nat → Int) (tb : Nat → Nat) (k : Int) (w : World) (hr : RO m m B G w me nn tb) (hm : m ≤ 5) (h0 : 0 ≤ k) (h1 : k ≤ 1000) (e1 : ∀ j, j < m → me j = k + 2 * j) (e2 : ∀ j, j < m → nn j = k + 2 * j + 1) :
    Calls Try.prog 73 #[.slice (some ⟨G, 0, none⟩) m m, .int .i64 k] w (IntExt (k + 2 * m) w) := by
  have HR0 := Lib.hid hr
  have HE1 := Lib.hid e1
  have HE2 := Lib.hid e2
  clear hr e1 e2
  go_enter Try.func73, Try.ntmps73
  go_wp2
  go_loopw [1, 5] (fun q i wr => ∃ (j : Nat), j ≤ m ∧ i = .int .i64 j ∧ q = .int .i64 (k + 2 * j) ∧ Hid (Ext w wr)) (fun _ i _ => m - (intOf i).toNat)
  case atStart => exact ⟨0, Nat.zero_le _, rfl, by simp, Lib.hid (Ext.refl _)⟩
  case round =>
    obtain ⟨j, hj, rfl, rfl, HX⟩ := hrel
    by_cases hlt : j < m
    · have c0 := (HR0.out.ext HX.out).c0 j hlt
      have c1 := (HR0.out.ext HX.out).c1 j hlt
      have c2 := (HR0.out.ext HX.out).c2 j hlt
      rw [HE1.out j hlt] at c0
      rw [HE2.out j hlt] at c1
      have HLT := Lib.hid hlt
      have i0 : (0 : Int) ≤ j := by omega
      have i1 : (j : Int) < m := by omega
      have hb : 0 ≤ k + 2 * (j : Int) := by omega
      have hb2 : k + 2 * (j : Int) + 1 ≤ 2000 := by omega
      have n0 : ((k + 2 * (j : Int)) != (k + 2 * (j : Int))) = false := by simp
      have n1 : ((k + 2 * (j : Int) + 1) != (k + 2 * (j : Int) + 1)) = false := by simp
      have HT := Lib.hid (((HR0.out.ext HX.out).tab j hlt).rowz hm)
      go_wp2_with fail
      refine (heldRowSS_nil _ (List.replicate m []) _ _ HT.out (fun R hR => (List.mem_replicate.1 hR).2) (by omega)).mono ?_
      rintro e w1 ⟨rfl, x1⟩
      have HX1 := Lib.hid (HX.out.trans x1)
      clear x1 c0 c1 c2 HT
      have c3 := (HR0.out.ext HX1.out).c3 j hlt
      have hb3 : ¬ (k + 2 * (j : Int) + 1 + 1 < 0) := by omega
      go_wp2_with fail
      refine (heldLeadS_nil _ _).mono ?_
      rintro e w2 ⟨rfl, x2⟩
      have HX2 := Lib.hid (HX1.out.trans x2)
      clear x2 c3
      go_wp2
      go_roundw
      case rel => exact ⟨j + 1, by have := HLT.out; omega, by go_num, by first | (congr 1; omega) | (simp; omega), HX2⟩
      case measure => simp [intOf]; have := HLT.out; omega
    · obtain rfl : j = m := by omega
      go_wp2
      go_ret
      exact ⟨by first | rfl | (congr 2), HX.out⟩
end Go.Proofs.Ytjkmhphnefpdoaa

namespace Go.Proofs.Ytjkmhphnefpdoaa
open Go.RowKit
set_option linter.unusedVariables false

theorem BoxV.ins {lo hi : Nat} {w w' : World} {b : Nat} {vs : List Value} (h : BoxV w b vs) (k : Ins lo hi w w') (hb : b < lo ∨ hi ≤ b) : BoxV w' b vs :=
  ⟨fun j v hj => k.cell (h.cell j v hj) hb, fun j hj => by
    have := h.free j hj
    unfold World.frozen? at this ⊢
    rw [k.block b h.lt hb]
    exact this, Nat.lt_of_lt_of_le h.lt k.size⟩
set_option maxHeartbeats 1000000 in
theorem eqNet_rep (u u' : Value) (R : List RepD) (w : World) (hu : Repz w u R) (hu' : Repz w u' R) : Calls Try.prog 29 #[.agg #[u, .slice none 0 0, .slice none 0 0], .agg #[u', .slice none 0 0, .slice none 0 0]] w (BoolExt true w) := by
  obtain ⟨wb, hwb⟩ : ∃ wb, wb = (w.alloc (.cells #[u, .slice none 0 0, .slice none 0 0] 68)).alloc (.cells #[u', .slice none 0 0, .slice none 0 0] 68) := ⟨_, rfl⟩
  have xb : Ext w wb := by rw [hwb]; exact (Ext.alloc1 _ _).alloc _
  have hp : BoxV wb w.heap.size [u, .slice none 0 0, .slice none 0 0] := by rw [hwb]; exact (boxV_new w [u, .slice none 0 0, .slice none 0 0] 68).ext (Ext.alloc1 _ _)
  have hq : BoxV wb (w.heap.size + 1) [u', .slice none 0 0, .slice none 0 0] := by
    have h := boxV_new (w.alloc (.cells #[u, .slice none 0 0, .slice none 0 0] 68)) [u', .slice none 0 0, .slice none 0 0] 68
    rw [World.size_alloc, ← hwb] at h
    exact h
  have HP := Lib.hid hp
  have HQ := Lib.hid hq
  have HX := Lib.hid xb
  have HWB := Lib.hid hwb
  have HU := Lib.hid (hu.ext xb)
  have HV := Lib.hid (hu'.ext xb)
  have p0 := hp.cell 0 _ rfl
  have p1 := hp.cell 1 _ rfl
  have p2 := hp.cell 2 _ rfl
  have q0 := hq.cell 0 _ rfl
  have q1 := hq.cell 1 _ rfl
  have q2 := hq.cell 2 _ rfl
  rw [hwb] at p0 p1 p2 q0 q1 q2
  clear hp hq xb hwb hu hu'
  go_enter Try.func29, Try.ntmps29
  go_wp2_with fail
  rw [← HWB.out]
  refine (eqRepS_same _ _ R _ HU.out HV.out).mono ?_
  rintro e w1 ⟨rfl, x1⟩
  have X1 := Lib.hid x1
  clear x1 HWB p0 p1 p2 q0 q1 q2
  have p1 := (HP.out.ext X1.out).cell 1 _ rfl
  have q1 := (HQ.out.ext X1.out).cell 1 _ rfl
  go_wp2_with fail
  refine (eqMsgS_nil _).mono ?_
  rintro e w2 ⟨rfl, x2⟩
  have X2 := Lib.hid (X1.out.trans x2)
  clear x2 p1 q1
  have p2 := (HP.out.ext X2.out).cell 2 _ rfl
  have q2 := (HQ.out.ext X2.out).cell 2 _ rfl
  go_wp2_with fail
  refine (eqAskedS_nil _).mono ?_
  rintro e w3 ⟨rfl, x3⟩
  have hx := HX.out.trans (X2.out.trans x3)
  clear x3 p2 q2
  go_wp2
  go_ret
  exact ⟨rfl, hx⟩
set_option maxHeartbeats 1000000 in
theorem markNet_nil (k : Int) (w : World) : Calls Try.prog 30 #[.agg #[.slice none 0 0, .slice none 0 0, .slice none 0 0], .int .i64 k] w (IntExt k w) := by
  obtain ⟨wb, hwb⟩ : ∃ wb, wb = w.alloc (.cells #[.slice none 0 0, .slice none 0 0, .slice none 0 0] 68) := ⟨_, rfl⟩
  have xb : Ext w wb := by rw [hwb]; exact Ext.alloc1 _ _
  have hp : BoxV wb w.heap.size [.slice none 0 0, .slice none 0 0, .slice none 0 0] := by rw [hwb]; exact boxV_new w [.slice none 0 0, .slice none 0 0, .slice none 0 0] 68
  have HP := Lib.hid hp
  have HX := Lib.hid xb
  have HWB := Lib.hid hwb
  have p0 := hp.cell 0 _ rfl
  have p1 := hp.cell 1 _ rfl
  have p2 := hp.cell 2 _ rfl
  rw [hwb] at p0 p1 p2
  clear hp xb hwb
  go_enter Try.func30, Try.ntmps30
  go_wp2_with fail
  rw [← HWB.out]
  refine (markReplicaS_nil _ _).mono ?_
  rintro e w1 ⟨rfl, x1⟩
  have HP1 := Lib.hid (HP.out.ext x1)
  have X1 := Lib.hid (HX.out.trans x1)
  clear x1
  clear HWB p0 p1 p2
  have p1 := HP1.out.cell 1 _ rfl
  go_wp2_with fail
  refine (markMsgS_nil _ _).mono ?_
  rintro e w2 ⟨rfl, x2⟩
  have X2 := Lib.hid x2
  clear x2 p1
  have p2 := (HP1.out.ext X2.out).cell 2 _ rfl
  go_wp2_with fail
  refine (markAskedS_nil _ _).mono ?_
  rintro e w3 ⟨rfl, x3⟩
  have X3 := Lib.hid (X2.out.trans x3)
  clear x3 p2
  go_wp2
  go_ret
  exact ⟨rfl, X1.out.trans X3.out⟩
set_option maxHeartbeats 1000000 in
theorem heldNet_nil (k : Int) (w : World) (h0 : 0 ≤ k) : Calls Try.prog 31 #[.agg #[.slice none 0 0, .slice none 0 0, .slice none 0 0], .int .i64 k] w (IntExt k w) := by
  obtain ⟨wb, hwb⟩ : ∃ wb, wb = w.alloc (.cells #[.slice none 0 0, .slice none 0 0, .slice none 0 0] 68) := ⟨_, rfl⟩
  have xb : Ext w wb := by rw [hwb]; exact Ext.alloc1 _ _
  have hp : BoxV wb w.heap.size [.slice none 0 0, .slice none 0 0, .slice none 0 0] := by rw [hwb]; exact boxV_new w [.slice none 0 0, .slice none 0 0, .slice none 0 0] 68
  have HP := Lib.hid hp
  have HX := Lib.hid xb
  have HWB := Lib.hid hwb
  have p0 := hp.cell 0 _ rfl
  have p1 := hp.cell 1 _ rfl
  have p2 := hp.cell 2 _ rfl
  rw [hwb] at p0 p1 p2
  clear hp xb hwb
  have hneg : ¬ (k < 0) := by omega
  go_enter Try.func31, Try.ntmps31
  go_wp2_with fail
  rw [← HWB.out]
  refine (heldReplicaS_nil _ _).mono ?_
  rintro e w1 ⟨rfl, x1⟩
  have HP1 := Lib.hid (HP.out.ext x1)
  have X1 := Lib.hid (HX.out.trans x1)
  clear x1
  clear HWB p0 p1 p2
  have p1 := HP1.out.cell 1 _ rfl
  go_wp2_with fail
  refine (heldMsgS_nil _ _).mono ?_
  rintro e w2 ⟨rfl, x2⟩
  have X2 := Lib.hid x2
  clear x2 p1
  have p2 := (HP1.out.ext X2.out).cell 2 _ rfl
  go_wp2_with fail
  refine (heldAskedS_nil _ _).mono ?_
  rintro e w3 ⟨rfl, x3⟩
  have X3 := Lib.hid (X2.out.trans x3)
  clear x3 p2
  go_wp2
  go_ret
  exact ⟨rfl, X1.out.trans X3.out⟩
set_option maxHeartbeats 1000000 in
theorem markNet_ro (m B G : Nat) (me nn : Nat → Int) (tb : Nat → Nat) (k : Int) (w : World) (hr : RO m m B G w me nn tb) (hm : m ≤ 5) (h0 : 0 ≤ k) (h1 : k ≤ 1000) : Calls Try.prog 30 #[.agg #[.slice (some ⟨G, 0, none⟩) m m, .slice none 0 0, .slice none 0 0], .int .i64 k] w (MarkedR m B G k tb w) := by
  obtain ⟨wb, hwb⟩ : ∃ wb, wb = w.alloc (.cells #[.slice (some ⟨G, 0, none⟩) m m, .slice none 0 0, .slice none 0 0] 68) := ⟨_, rfl⟩
  have xb : Ext w wb := by rw [hwb]; exact Ext.alloc1 _ _
  have hp : BoxV wb w.heap.size [.slice (some ⟨G, 0, none⟩) m m, .slice none 0 0, .slice none 0 0] := by rw [hwb]; exact boxV_new w [.slice (some ⟨G, 0, none⟩) m m, .slice none 0 0, .slice none 0 0] 68
  have HP := Lib.hid hp
  have HX := Lib.hid xb
  have HWB := Lib.hid hwb
  have p0 := hp.cell 0 _ rfl
  have p1 := hp.cell 1 _ rfl
  have p2 := hp.cell 2 _ rfl
  rw [hwb] at p0 p1 p2
  clear hp xb hwb
  go_enter Try.func30, Try.ntmps30
  go_wp2_with fail
  rw [← HWB.out]
  refine (markReps_any m B G me nn tb k _ (hr.ext HX.out) hm h0 h1).mono ?_
  rintro e w1 ⟨me1, nn1, rfl, hr1, e1, e2, ki⟩
  have HP1 : Hid (BoxV w1 w.heap.size [.slice (some ⟨G, 0, none⟩) m m, .slice none 0 0, .slice none 0 0]) := Lib.hid (HP.out.ins ki (.inr hr.lt))
  have HR1 := Lib.hid hr1
  have HE1 := Lib.hid e1
  have HE2 := Lib.hid e2
  have KI := Lib.hid ki
  clear hr1 e1 e2 ki
  clear HWB p0 p1 p2
  have p1 := HP1.out.cell 1 _ rfl
  go_wp2_with fail
  refine (markMsgS_nil _ _).mono ?_
  rintro e w2 ⟨rfl, x2⟩
  have X2 := Lib.hid x2
  clear x2 p1
  have p2 := (HP1.out.ext X2.out).cell 2 _ rfl
  go_wp2_with fail
  refine (markAskedS_nil _ _).mono ?_
  rintro e w3 ⟨rfl, x3⟩
  have X3 := Lib.hid (X2.out.trans x3)
  clear x3 p2
  go_wp2
  go_ret
  exact ⟨me1, nn1, rfl, HR1.out.ext X3.out, HE1.out, HE2.out, ((Ins.of_ext HX.out).trans KI.out).trans (Ins.of_ext X3.out)⟩
set_option maxHeartbeats 1000000 in
theorem heldNet_ro (m B G : Nat) (me nn : Nat → Int) (tb : Nat → Nat) (k : Int) (w : World) (hr : RO m m B G w me nn tb) (hm : m ≤ 5) (h0 : 0 ≤ k) (h1 : k ≤ 1000) (e1 : ∀ j, j < m → me j = k + 2 * j) (e2 : ∀ j, j < m → nn j = k + 2 * j + 1) : Calls Try.prog 31 #[.agg #[.slice (some ⟨G, 0, none⟩) m m, .slice none 0 0, .slice none 0 0], .int .i64 k] w (IntExt (k + 2 * m) w) := by
  obtain ⟨wb, hwb⟩ : ∃ wb, wb = w.alloc (.cells #[.slice (some ⟨G, 0, none⟩) m m, .slice none 0 0, .slice none 0 0] 68) := ⟨_, rfl⟩
  have xb : Ext w wb := by rw [hwb]; exact Ext.alloc1 _ _
  have hp : BoxV wb w.heap.size [.slice (some ⟨G, 0, none⟩) m m, .slice none 0 0, .slice none 0 0] := by rw [hwb]; exact boxV_new w [.slice (some ⟨G, 0, none⟩) m m, .slice none 0 0, .slice none 0 0] 68
  have HP := Lib.hid hp
  have HX := Lib.hid xb
  have HWB := Lib.hid hwb
  have p0 := hp.cell 0 _ rfl
  have p1 := hp.cell 1 _ rfl
  have p2 := hp.cell 2 _ rfl
  rw [hwb] at p0 p1 p2
  clear hp xb hwb
  have hneg : ¬ (k + 2 * (m : Int) < 0) := by omega
  go_enter Try.func31, Try.ntmps31
  go_wp2_with fail
  rw [← HWB.out]
  refine (heldReps_any m B G me nn tb k _ (hr.ext HX.out) hm h0 h1 e1 e2).mono ?_
  rintro e w1 ⟨rfl, x1⟩
  have HP1 := Lib.hid (HP.out.ext x1)
  have X1 := Lib.hid (HX.out.trans x1)
  clear x1
  clear HWB p0 p1 p2
  have p1 := HP1.out.cell 1 _ rfl
  go_wp2_with fail
  refine (heldMsgS_nil _ _).mono ?_
  rintro e w2 ⟨rfl, x2⟩
  have X2 := Lib.hid x2
  clear x2 p1
  have p2 := (HP1.out.ext X2.out).cell 2 _ rfl
  go_wp2_with fail
  refine (heldAskedS_nil _ _).mono ?_
  rintro e w3 ⟨rfl, x3⟩
  have X3 := Lib.hid (X2.out.trans x3)
  clear x3 p2
  go_wp2
  go_ret
  exact ⟨rfl, X1.out.trans X3.out⟩
end Go.Proofs.Ytjkmhphnefpdoaa
