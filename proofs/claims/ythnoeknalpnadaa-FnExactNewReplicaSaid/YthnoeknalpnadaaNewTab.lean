/- Contracts of the two functions NewTable, and of the laws' marks where all lists are empty. -/
import Derived.Test.YthnoeknalpnadaaEqTab
import Derived.Test.YthnoeknalpnadaaNone
namespace Go.Proofs.Ythnoeknalpnadaa
open Go.RowKit
set_option linter.unusedVariables false

theorem makeT_3 (W : World) : (Instr.makeSlice 22 (.int .i64 3) (.int .i64 3)).run Try.prog W = .ok (.slice (some ⟨W.heap.size, 0, none⟩) 3 3) (W.alloc (.cells #[.slice none 0 0, .slice none 0 0, .slice none 0 0] 42)) := by kernel_rfl
theorem makeT_5 (W : World) : (Instr.makeSlice 22 (.int .i64 5) (.int .i64 5)).run Try.prog W = .ok (.slice (some ⟨W.heap.size, 0, none⟩) 5 5) (W.alloc (.cells #[.slice none 0 0, .slice none 0 0, .slice none 0 0, .slice none 0 0, .slice none 0 0] 42)) := by kernel_rfl
theorem makeT_m (m : Nat) (h : m = 3 ∨ m = 5) (W : World) : (Instr.makeSlice 22 (.int .i64 (m : Int)) (.int .i64 (m : Int))).run Try.prog W = .ok (.slice (some ⟨W.heap.size, 0, none⟩) m m) (W.alloc (.cells (Array.replicate m (.slice none 0 0)) 42)) := by
  rcases h with rfl | rfl
  · exact makeT_3 W
  · exact makeT_5 W
theorem FreshI.nil (lo hi : Nat) (w : World) : FreshI lo hi w (.slice none 0 0) [] :=
  ⟨[], [], World.ownsRow_nil _ _ _ _, Cells.nil _, Rows_.nil _ _, fun _ _ h => by simp at h, fun b h => by simp [Value.ownBlock] at h, fun _ _ h => by simp at h⟩
theorem fresh_nils (m : Nat) (hm : m ≤ 5) (w : World) (lo : Nat) (hlo : lo ≤ w.heap.size) : FreshT lo (w.heap.size + 1) (w.alloc (.cells (Array.replicate m (.slice none 0 0)) 42)) (.slice (some ⟨w.heap.size, 0, none⟩) m m) (List.replicate m []) := by
  have h := World.ownsRow_lit (e := 42) (size := 1) (base := lo) w (Array.replicate m (.slice none 0 0)) m hlo (by unfold maxLen; omega) (by simp)
  refine ⟨_, fun _ => w.heap.size + 1, by rw [List.length_replicate]; exact h, fun b e => ?_, fun _ _ => Nat.le_refl _, (show lo ≤ w.heap.size + 1 by omega), Nat.le_refl _, fun j hj hj' => ?_⟩
  · have := Option.some.inj e
    simp at this
    show b < w.heap.size + 1
    omega
  · have e1 : (Array.replicate m (Value.slice none 0 0)).toList[j]'hj' = .slice none 0 0 := by simp
    rw [e1, List.getElem_replicate]
    exact FreshI.nil _ _ _

/-- The table that comes back. -/
def newN (n : Int) : Int := if isGrp n then n else 0
def newT (n : Int) : List (List RowD) := if isGrp n then List.replicate n.toNat [] else []
def TwoTab (m : Int) (T : List (List RowD)) (b : Bool) (w : World) (e : Ending) (w' : World) : Prop := ∃ v hi, e = .returned (.tuple #[.agg #[.int .i64 m, v], .bool b]) ∧ FreshT w.heap.size hi w' v T ∧ Ext w w'
theorem new_no {n : Int} (h : isGrp n = false) : newN n = 0 ∧ newT n = [] := by unfold newN newT; rw [h]; exact ⟨rfl, rfl⟩
theorem new_yes {m : Nat} (h : isGrp (m : Int) = true) : newN (m : Int) = m ∧ newT (m : Int) = List.replicate m [] := by unfold newN newT; rw [h]; simp
theorem newT_nil (n : Int) : ∀ R ∈ newT n, R = [] := by
  unfold newT
  split
  · intro R hR; exact (List.mem_replicate.1 hR).2
  · intro R hR; cases hR

/-- A table comes back. -/
def OneTab (m : Int) (T : List (List RowD)) (w : World) (e : Ending) (w' : World) : Prop := ∃ v hi, e = .returned (.agg #[.int .i64 m, v]) ∧ FreshT w.heap.size hi w' v T ∧ Ext w w'
theorem fresh_nils1 (m : Nat) (hm : m ≤ 5) (w : World) (o : Obj) : FreshT w.heap.size (w.heap.size + 2) ((w.alloc o).alloc (.cells (Array.replicate m (.slice none 0 0)) 42)) (.slice (some ⟨w.heap.size + 1, 0, none⟩) m m) (List.replicate m []) := by
  have sz : (w.alloc o).heap.size = w.heap.size + 1 := by simp
  have hr := fresh_nils m hm (w.alloc o) w.heap.size (by omega)
  rw [sz] at hr
  exact hr
theorem FreshT.nil (lo : Nat) (w : World) : FreshT lo lo w (.slice none 0 0) [] :=
  ⟨[], fun _ => lo, World.ownsRow_nil _ _ _ _, fun b h => by simp [Value.ownBlock] at h, fun _ _ => Nat.le_refl _, Nat.le_refl _, Nat.le_refl _, fun j h _ => by simp at h⟩
theorem FreshT.set {lo hi : Nat} {w : World} {v : Value} {T : List (List RowD)} (h : FreshT lo hi w v T) (b o : Nat) (x : Value) (hb : b < lo) : FreshT lo hi (w.setCell ⟨b, o, none⟩ x) v T :=
  h.kept ⟨by simp, fun q q1 _ => Below.heap_setCell _ _ _ q (by dsimp only; omega)⟩

set_option maxHeartbeats 1000000 in
theorem l4New_nat (m : Nat) (hm : m = 3 ∨ m = 5) (w : World) :
    Calls Try.prog 77 #[.int .i64 m] w (OneTab m (List.replicate m []) w) := by
  have hmk := makeT_m m hm
  have HM := Lib.hid hm
  clear hm
  go_enter Try.func77, Try.ntmps77
  go_wp2
  refine bodyPost_ret (v := .agg #[.int .i64 m, .slice (some ⟨w.heap.size + 1, 0, none⟩) m m]) (by simp [results, Try.results77, go_sem]) rfl ⟨_, w.heap.size + 2, rfl, ?_, ?_⟩
  · exact fresh_nils1 m (by have := HM.out; omega) _ _
  · exact ((Ext.refl w).alloc _).alloc _

set_option maxHeartbeats 1000000 in
theorem implNewTable_any (n : Int) (w : World) : Calls Try.prog 79 #[.int .i64 n] w (TwoTab (newN n) (newT n) (isGrp n) w) := by
  cases hg : isGrp n with
  | false =>
    rw [(new_no hg).1, (new_no hg).2]
    have HG := Lib.hid hg
    clear hg
    go_enter Try.func79, Try.ntmps79
    go_wp2_with fail
    refine (implIsGroup_any _ _).mono ?_
    rintro e w' ⟨rfl, rfl⟩
    rw [HG.out]
    go_wp2
    refine bodyPost_ret (v := .tuple #[.agg #[.int .i64 0, .slice none 0 0], .bool false]) (by simp [results, Try.results79, go_sem]) rfl ⟨_, w.heap.size, rfl, FreshT.nil _ _, ?_⟩
    exact Ext.alloc (Ext.refl _) _
  | true =>
    obtain ⟨m, rfl, hm⟩ := nat_of_grp hg
    rw [(new_yes hg).1, (new_yes hg).2]
    have hmk := makeT_m m hm
    have HG := Lib.hid hg
    have HM := Lib.hid hm
    clear hg hm
    go_enter Try.func79, Try.ntmps79
    go_wp2_with fail
    refine (implIsGroup_any _ _).mono ?_
    rintro e w' ⟨rfl, rfl⟩
    rw [HG.out]
    go_wp2
    refine bodyPost_ret (v := .tuple #[.agg #[.int .i64 m, .slice (some ⟨w.heap.size + 1, 0, none⟩) m m], .bool true]) (by simp [results, Try.results79, go_sem]) rfl ⟨_, w.heap.size + 2, rfl, ?_, ?_⟩
    · exact fresh_nils1 m (by have := HM.out; omega) _ _
    · exact ((Ext.refl w).alloc _).alloc _

set_option maxHeartbeats 400000 in
theorem markRowS_nil (v : Value) (k : Int) (w : World) (hv : Rowz w v []) :
    Calls Try.prog 27 #[v, .int .i64 k] w (IntExt k w) := by
  obtain ⟨av, cv, rfl, _, _, _⟩ := hv
  go_enter Try.func27, Try.ntmps27
  go_wp2
  refine wp_loop_rounds 1 ?_; rw [rounds_succ]
  go_wp2
  go_ret
  exact ⟨rfl, Ext.refl _⟩
set_option maxHeartbeats 400000 in
theorem heldRowS_nil (v : Value) (k : Int) (w : World) (hv : Rowz w v []) :
    Calls Try.prog 142 #[v, .int .i64 k] w (IntExt k w) := by
  obtain ⟨av, cv, rfl, _, _, _⟩ := hv
  go_enter Try.func142, Try.ntmps142
  go_wp2
  refine wp_loop_rounds 1 ?_; rw [rounds_succ]
  go_wp2
  go_ret
  exact ⟨rfl, Ext.refl _⟩

set_option maxHeartbeats 1000000 in
theorem markRowSS_nil (v : Value) (T : List (List RowD)) (k : Int) (w : World) (hv : Rowzz w v T) (hT : ∀ R ∈ T, R = []) :
    Calls Try.prog 109 #[v, .int .i64 k] w (IntExt k w) := by
  obtain ⟨av, cv, rfl, hlv, _, hcv⟩ := hv
  unfold maxLen at hlv
  have HT := Lib.hid hT
  clear hT
  go_enter Try.func109, Try.ntmps109
  go_wp2
  go_loopw [1, 5] (fun m i wr => ∃ j : Nat, j ≤ T.length ∧ i = .int .i64 j ∧ m = .int .i64 k ∧ Ext w wr) (fun _ i _ => T.length - (intOf i).toNat)
  case atStart => exact ⟨0, Nat.zero_le _, rfl, rfl, Ext.refl _⟩
  case round =>
    obtain ⟨j, hj, rfl, rfl, hx⟩ := hrel
    by_cases hlt : j < T.length
    · obtain ⟨b, off, rfl, dv⟩ := hcv (by omega)
      obtain ⟨u, hu, iu⟩ := dv j hlt
      rw [HT.out _ (List.getElem_mem hlt)] at iu
      have c0 := hx.cell hu
      have IU := Lib.hid (iu.ext hx)
      clear hcv dv hu iu
      go_wp2_with fail
      refine (markRowS_nil _ _ _ IU.out).mono ?_
      rintro e w2 ⟨rfl, x2⟩
      have hx2 := hx.trans x2
      clear x2 hx c0
      go_wp2
      go_roundw
      case rel => exact ⟨j + 1, by omega, by go_num, rfl, hx2⟩
      case measure => simp [intOf]; omega
    · obtain rfl : j = T.length := by omega
      go_wp2
      go_ret
      exact ⟨rfl, hx⟩

set_option maxHeartbeats 1000000 in
theorem heldRowSS_nil (v : Value) (T : List (List RowD)) (k : Int) (w : World) (hv : Rowzz w v T) (hT : ∀ R ∈ T, R = []) (h0 : 0 ≤ k) :
    Calls Try.prog 110 #[v, .int .i64 k] w (IntExt k w) := by
  obtain ⟨av, cv, rfl, hlv, _, hcv⟩ := hv
  unfold maxLen at hlv
  have HT := Lib.hid hT
  clear hT
  go_enter Try.func110, Try.ntmps110
  go_wp2
  go_loopw [1, 5] (fun m i wr => ∃ j : Nat, j ≤ T.length ∧ i = .int .i64 j ∧ m = .int .i64 k ∧ Ext w wr) (fun _ i _ => T.length - (intOf i).toNat)
  case atStart => exact ⟨0, Nat.zero_le _, rfl, rfl, Ext.refl _⟩
  case round =>
    obtain ⟨j, hj, rfl, rfl, hx⟩ := hrel
    by_cases hlt : j < T.length
    · obtain ⟨b, off, rfl, dv⟩ := hcv (by omega)
      obtain ⟨u, hu, iu⟩ := dv j hlt
      rw [HT.out _ (List.getElem_mem hlt)] at iu
      have c0 := hx.cell hu
      have IU := Lib.hid (iu.ext hx)
      clear hcv dv hu iu
      go_wp2_with fail
      refine (heldRowS_nil _ _ _ IU.out).mono ?_
      rintro e w2 ⟨rfl, x2⟩
      have hx2 := hx.trans x2
      clear x2 hx c0
      go_wp2
      go_roundw
      case rel => exact ⟨j + 1, by omega, by go_num, rfl, hx2⟩
      case measure => simp [intOf]; omega
    · obtain rfl : j = T.length := by omega
      go_wp2
      go_ret
      exact ⟨rfl, hx⟩

set_option maxHeartbeats 1000000 in
theorem markTable_nil (n : Int) (v : Value) (T : List (List RowD)) (k : Int) (w : World) (hv : Rowzz w v T) (hT : ∀ R ∈ T, R = []) :
    Calls Try.prog 44 #[.agg #[.int .i64 n, v], .int .i64 k] w (IntExt k w) := by
  have HT := Lib.hid hT
  clear hT
  go_enter Try.func44, Try.ntmps44
  go_wp2_with fail
  refine (markRowSS_nil _ T _ _ (hv.ext (Ext.alloc (Ext.refl _) _)) HT.out).mono ?_
  rintro e w1 ⟨rfl, x1⟩
  have hx := (Ext.alloc (Ext.refl w) _).trans x1
  clear x1
  go_wp2
  go_ret
  exact ⟨rfl, hx⟩

set_option maxHeartbeats 1000000 in
theorem heldTable_nil (n : Int) (v : Value) (T : List (List RowD)) (k : Int) (w : World) (hv : Rowzz w v T) (hT : ∀ R ∈ T, R = []) (h0 : 0 ≤ k) :
    Calls Try.prog 46 #[.agg #[.int .i64 n, v], .int .i64 k] w (IntExt k w) := by
  have HT := Lib.hid hT
  clear hT
  go_enter Try.func46, Try.ntmps46
  go_wp2_with fail
  refine (heldRowSS_nil _ T _ _ (hv.ext (Ext.alloc (Ext.refl _) _)) HT.out h0).mono ?_
  rintro e w1 ⟨rfl, x1⟩
  have hx := (Ext.alloc (Ext.refl w) _).trans x1
  clear x1
  go_wp2
  go_ret
  exact ⟨rfl, hx⟩

end Go.Proofs.Ythnoeknalpnadaa
