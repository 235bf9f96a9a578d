/- Contracts of what the program's ReadCmd calls: the words of a text, a command of its numbers. -/
import Derived.Test.YtfadmcgaojnghaaDoorSpecRead4
import Derived.Test.YtfadmcgaojnghaaDoorCmdAt
import Derived.Deep.RegionHeld3
namespace Go.Proofs.YtfadmcgaojnghaaDoor
open Go.RowKit
set_option linter.unusedVariables false

/-- The library's greatest length lies there. -/
def MaxAt (w : World) : Prop := ∃ m : Int, w.cell? ⟨1, 0, none⟩ = some (.int .i64 m)
theorem MaxAt.ext {w w' : World} (h : MaxAt w) (e : Ext w w') : MaxAt w' := by obtain ⟨m, h⟩ := h; exact ⟨m, e.cell h⟩

/-- The program's words of a text. -/
def words6 (s : ByteArray) : List ByteArray := Lib.splitB ⟨#[32]⟩ 0 (min 6 (s.size + 1) - 1) s
theorem cellsOf_at {us : List ByteArray} {N j : Nat} (h : j < us.length) (hN : us.length ≤ N) : (Lib.cellsOf us N)[j]? = some (.string us[j]) := by
  unfold Lib.cellsOf
  rw [List.getElem?_toArray, List.getElem?_append_left (by simpa using h)]
  simp [List.getElem?_eq_getElem h]
def WordsBack (us : List ByteArray) (w : World) (e : Ending) (w' : World) : Prop := ∃ v, e = .returned v ∧ Strs w' v us ∧ Ext w w'
theorem words6_len (s : ByteArray) : 1 ≤ (words6 s).length ∧ (words6 s).length ≤ min 6 (s.size + 1) := by
  have hd : (words6 s).map (·.data.toList) = sp 32 (min 6 (s.size + 1) - 1) s.data.toList := Lib.splitB_data ⟨#[32]⟩ 0 _ s
  have hl : (words6 s).length = (sp 32 (min 6 (s.size + 1) - 1) s.data.toList).length := by rw [← hd]; simp
  have := sp_len 32 (min 6 (s.size + 1) - 1) s.data.toList
  omega

theorem splitN_at (s : ByteArray) (hs : s.size ≤ 1048576) (w : World) (hm : MaxAt w) :
    Calls Tryd.prog 39 #[.string s, .string ⟨#[32]⟩, .int .i64 6] w (WordsBack (words6 s) w) := by
  obtain ⟨m, hm⟩ := hm
  obtain ⟨l1, l2⟩ := words6_len s
  refine (Tryd.strings_SplitN s ⟨#[32]⟩ 6 m w (by omega) hm (by decide) (by omega) (by omega)).mono ?_
  rintro e w' ⟨rfl, rfl⟩
  refine ⟨_, rfl, ⟨some ⟨w.heap.size, 0, none⟩, min 6 (s.size + 1), rfl, by unfold maxLen; show (words6 s).length ≤ _; omega, ⟨l2, by unfold maxLen; omega, fun h => by cases h⟩, fun _ => ⟨w.heap.size, 0, rfl, fun j hj => ?_⟩⟩, Ext.alloc (Ext.refl _) _⟩
  have hc : (Lib.cellsOf (words6 s) (min 6 (s.size + 1)))[j]? = some (.string (words6 s)[j]) := cellsOf_at hj l2
  rw [Nat.zero_add]
  show (w.alloc (.cells (Lib.cellsOf (words6 s) (min 6 (s.size + 1))) 9)).cell? ⟨w.heap.size, j, none⟩ = _
  rw [← hc]
  go_simp

set_option maxRecDepth 100000 in
set_option maxHeartbeats 1000000 in
theorem cmdWith_1 (n0 n1 n2 n3 : Int) (v : Value) (w : World) (hv : Ints w v [n0, n1, n2, n3]) :
    Calls Tryd.prog 42 #[.int .i64 1, v] w (CmdExt 1 n0 n1 n2 n3 w) := by
  obtain ⟨av, cv, rfl, _, _, hcv⟩ := hv
  obtain ⟨bv, ov, rfl, hc⟩ := hcv (by simp)
  have g0 : w.cell? ⟨bv, ov, none⟩ = some (.int .i64 n0) := by simpa using hc 0 (by simp)
  have g1 : w.cell? ⟨bv, ov + 1, none⟩ = some (.int .i64 n1) := by simpa using hc 1 (by simp)
  have g2 : w.cell? ⟨bv, ov + 2, none⟩ = some (.int .i64 n2) := by simpa using hc 2 (by simp)
  have g3 : w.cell? ⟨bv, ov + 3, none⟩ = some (.int .i64 n3) := by simpa using hc 3 (by simp)
  have hlt : bv < w.heap.size := World.block_lt_of_cell? w _ g0
  have hn1 : bv ≠ w.heap.size := by omega
  have hn2 : bv ≠ w.heap.size + 1 := by omega
  have hn3 : w.heap.size ≠ bv := by omega
  have hn4 : w.heap.size + 1 ≠ bv := by omega
  clear hc hcv
  go_enter Tryd.func42, Tryd.ntmps42
  go_wp2
  go_region_held3 (fun W => W.cell? ⟨bv, ov, none⟩ = some (.int .i64 n0) ∧ W.cell? ⟨bv, ov + 1, none⟩ = some (.int .i64 n1) ∧ W.cell? ⟨bv, ov + 2, none⟩ = some (.int .i64 n2) ∧ W.cell? ⟨bv, ov + 3, none⟩ = some (.int .i64 n3)) (go_keep) (first | fail)
  go_wp2
  go_region_held3 (fun W => W.cell? ⟨bv, ov, none⟩ = some (.int .i64 n0) ∧ W.cell? ⟨bv, ov + 1, none⟩ = some (.int .i64 n1) ∧ W.cell? ⟨bv, ov + 2, none⟩ = some (.int .i64 n2) ∧ W.cell? ⟨bv, ov + 3, none⟩ = some (.int .i64 n3)) (go_keep) (first | fail)
  go_wp2
  exact bodyPost_ret (v := .agg #[.int .i64 1, .int .i64 n0, .int .i64 n1, .int .i64 n2, .int .i64 n3]) (by simp [results, Tryd.results42, go_sem]) rfl ⟨rfl, by repeat (first | exact Ext.refl _ | apply Ext.drew | apply Ext.alloc)⟩

set_option maxRecDepth 100000 in
set_option maxHeartbeats 1000000 in
theorem cmdWith_2 (n0 n1 : Int) (v : Value) (w : World) (hv : Ints w v [n0, n1]) :
    Calls Tryd.prog 42 #[.int .i64 2, v] w (CmdExt 2 n0 n1 0 0 w) := by
  obtain ⟨av, cv, rfl, _, _, hcv⟩ := hv
  obtain ⟨bv, ov, rfl, hc⟩ := hcv (by simp)
  have g0 : w.cell? ⟨bv, ov, none⟩ = some (.int .i64 n0) := by simpa using hc 0 (by simp)
  have g1 : w.cell? ⟨bv, ov + 1, none⟩ = some (.int .i64 n1) := by simpa using hc 1 (by simp)
  have hlt : bv < w.heap.size := World.block_lt_of_cell? w _ g0
  have hn1 : bv ≠ w.heap.size := by omega
  have hn2 : bv ≠ w.heap.size + 1 := by omega
  have hn3 : w.heap.size ≠ bv := by omega
  have hn4 : w.heap.size + 1 ≠ bv := by omega
  clear hc hcv
  go_enter Tryd.func42, Tryd.ntmps42
  go_wp2
  go_region_held3 (fun W => W.cell? ⟨bv, ov, none⟩ = some (.int .i64 n0) ∧ W.cell? ⟨bv, ov + 1, none⟩ = some (.int .i64 n1)) (go_keep) (first | fail)
  go_wp2
  exact bodyPost_ret (v := .agg #[.int .i64 2, .int .i64 n0, .int .i64 n1, .int .i64 0, .int .i64 0]) (by simp [results, Tryd.results42, go_sem]) rfl ⟨rfl, by repeat (first | exact Ext.refl _ | apply Ext.drew | apply Ext.alloc)⟩

set_option maxRecDepth 100000 in
set_option maxHeartbeats 1000000 in
theorem cmdWith_0 (v : Value) (w : World) (l : List Int) (hv : Ints w v l) :
    Calls Tryd.prog 42 #[.int .i64 0, v] w (CmdExt 0 0 0 0 0 w) := by
  obtain ⟨av, cv, rfl, _, _, hcv⟩ := hv
  go_enter Tryd.func42, Tryd.ntmps42
  go_wp2
  exact bodyPost_ret (v := .agg #[.int .i64 0, .int .i64 0, .int .i64 0, .int .i64 0, .int .i64 0]) (by simp [results, Tryd.results42, go_sem]) rfl ⟨rfl, by repeat (first | exact Ext.refl _ | apply Ext.alloc)⟩

end Go.Proofs.YtfadmcgaojnghaaDoor
