/- Contracts of the two functions NoneAttr, of the program and of the model. -/
import Derived.Test.YthnoeknalpnadaaJoin
namespace Go.Proofs.Ythnoeknalpnadaa
open Go.RowKit
set_option linter.unusedVariables false

/-- What NoneAttr tells: so many zeros, none where it is no group. -/
def noneL (n : Int) : List Int := if isGrp n then List.replicate n.toNat 0 else []
theorem noneL_no {n : Int} (h : isGrp n = false) : noneL n = [] := by unfold noneL; rw [h]; rfl
theorem noneL_yes {n : Nat} (h : isGrp n = true) : noneL n = List.replicate n 0 := by unfold noneL; rw [h]; simp
theorem noneL_len (n : Int) : (noneL n).length ≤ 5 := by
  unfold noneL
  cases h : isGrp n
  · simp
  · rcases isGrp_of h with rfl | rfl <;> simp
theorem nat_of_grp {n : Int} (h : isGrp n = true) : ∃ k : Nat, n = (k : Int) ∧ (k = 3 ∨ k = 5) := by
  rcases isGrp_of h with rfl | rfl
  · exact ⟨3, rfl, .inl rfl⟩
  · exact ⟨5, rfl, .inr rfl⟩

theorem make_3 (W : World) : (Instr.makeSlice 37 (.int .i64 3) (.int .i64 3)).run Try.prog W = .ok (.slice (some ⟨W.heap.size, 0, none⟩) 3 3) (W.alloc (.cells #[.int .i64 0, .int .i64 0, .int .i64 0] 3)) := by kernel_rfl
set_option maxRecDepth 100000 in
set_option maxHeartbeats 1000000 in
theorem l3None_3 (w : World) : Calls Try.prog 135 #[.int .i64 3] w (NewAttr 0 [0, 0, 0] w) := by
  have hmk := make_3
  go_enter Try.func135, Try.ntmps135
  go_wp2
  refine bodyPost_ret (v := .agg #[.int .i64 0, .slice (some ⟨w.heap.size + 1, 0, none⟩) 3 3]) (by simp [results, Try.results135, go_sem]) rfl ⟨_, rfl, ?_, ?_⟩
  · exact fresh_lit2 w _ [0, 0, 0] 3 #[.int .i64 0, .int .i64 0, .int .i64 0] rfl rfl (by simp)
  · exact Ext.alloc2 _ _ _

theorem make_5 (W : World) : (Instr.makeSlice 37 (.int .i64 5) (.int .i64 5)).run Try.prog W = .ok (.slice (some ⟨W.heap.size, 0, none⟩) 5 5) (W.alloc (.cells #[.int .i64 0, .int .i64 0, .int .i64 0, .int .i64 0, .int .i64 0] 3)) := by kernel_rfl
set_option maxRecDepth 100000 in
set_option maxHeartbeats 1000000 in
theorem l3None_5 (w : World) : Calls Try.prog 135 #[.int .i64 5] w (NewAttr 0 [0, 0, 0, 0, 0] w) := by
  have hmk := make_5
  go_enter Try.func135, Try.ntmps135
  go_wp2
  refine bodyPost_ret (v := .agg #[.int .i64 0, .slice (some ⟨w.heap.size + 1, 0, none⟩) 5 5]) (by simp [results, Try.results135, go_sem]) rfl ⟨_, rfl, ?_, ?_⟩
  · exact fresh_lit2 w _ [0, 0, 0, 0, 0] 5 #[.int .i64 0, .int .i64 0, .int .i64 0, .int .i64 0, .int .i64 0] rfl rfl (by simp)
  · exact Ext.alloc2 _ _ _

theorem l3None_any (n : Int) (w : World) (h : isGrp n = true) : Calls Try.prog 135 #[.int .i64 n] w (NewAttr 0 (noneL n) w) := by
  rcases isGrp_of h with rfl | rfl
  · exact l3None_3 w
  · exact l3None_5 w
theorem joinNone_any (n : Int) (w : World) (h : isGrp n = true) : Calls Try.prog 90 #[.int .i64 n, .slice none 0 0] w (NewAttr 0 (noneL n) w) := by
  rcases isGrp_of h with rfl | rfl
  · exact joinAttrs_none 3 w (.inl rfl)
  · exact joinAttrs_none 5 w (.inr rfl)

end Go.Proofs.Ythnoeknalpnadaa
