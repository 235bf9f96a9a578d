/- Contracts of the two functions NoneAttr, of the program and of the model. -/
import Derived.Test.YtfadmcgaojnghaaJoin
namespace Go.Proofs.Ytfadmcgaojnghaa
open Go.RowKit
set_option linter.unusedVariables false

/-- What NoneAttr tells: so many zeros, none where it is no group. -/
def noneL (n : Int) : List Int := if isGrp n then List.replicate n.toNat 0 else []
theorem noneL_no {n : Int} (h : isGrp n = false) : noneL n = [] := by unfold noneL; rw [h]; rfl
theorem noneL_yes {n : Nat} (h : isGrp n = true) : noneL n = List.replicate n 0 := by unfold noneL; rw [h]; simp
theorem noneL_len (n : Int) : (noneL n).length ≤ 5 := by
  unfold noneL
  cases h : isGrp n
  · simp
  · rcases isGrp_of h with rfl | rfl <;> simp
theorem nat_of_grp {n : Int} (h : isGrp n = true) : ∃ k : Nat, n = (k : Int) ∧ (k = 3 ∨ k = 5) := by
  rcases isGrp_of h with rfl | rfl
  · exact ⟨3, rfl, .inl rfl⟩
  · exact ⟨5, rfl, .inr rfl⟩

theorem make_3 (W : World) : (Instr.makeSlice 22 (.int .i64 3) (.int .i64 3)).run Try.prog W = .ok (.slice (some ⟨W.heap.size, 0, none⟩) 3 3) (W.alloc (.cells #[.int .i64 0, .int .i64 0, .int .i64 0] 3)) := by kernel_rfl
set_option maxRecDepth 100000 in
set_option maxHeartbeats 1000000 in
theorem l3None_3 (w : World) : Calls Try.prog 29 #[.int .i64 3] w (NewAttr 0 [0, 0, 0] w) := by
  have hmk := make_3
  go_enter Try.func29, Try.ntmps29
  go_wp2
  refine bodyPost_ret (v := .agg #[.int .i64 0, .slice (some ⟨w.heap.size + 1, 0, none⟩) 3 3]) (by simp [results, Try.results29, go_sem]) rfl ⟨_, rfl, ?_, ?_⟩
  · exact fresh_lit2 w _ [0, 0, 0] 3 #[.int .i64 0, .int .i64 0, .int .i64 0] rfl rfl (by simp)
  · exact Ext.alloc2 _ _ _

theorem make_5 (W : World) : (Instr.makeSlice 22 (.int .i64 5) (.int .i64 5)).run Try.prog W = .ok (.slice (some ⟨W.heap.size, 0, none⟩) 5 5) (W.alloc (.cells #[.int .i64 0, .int .i64 0, .int .i64 0, .int .i64 0, .int .i64 0] 3)) := by kernel_rfl
set_option maxRecDepth 100000 in
set_option maxHeartbeats 1000000 in
theorem l3None_5 (w : World) : Calls Try.prog 29 #[.int .i64 5] w (NewAttr 0 [0, 0, 0, 0, 0] w) := by
  have hmk := make_5
  go_enter Try.func29, Try.ntmps29
  go_wp2
  refine bodyPost_ret (v := .agg #[.int .i64 0, .slice (some ⟨w.heap.size + 1, 0, none⟩) 5 5]) (by simp [results, Try.results29, go_sem]) rfl ⟨_, rfl, ?_, ?_⟩
  · exact fresh_lit2 w _ [0, 0, 0, 0, 0] 5 #[.int .i64 0, .int .i64 0, .int .i64 0, .int .i64 0, .int .i64 0] rfl rfl (by simp)
  · exact Ext.alloc2 _ _ _

theorem l3None_any (n : Int) (w : World) (h : isGrp n = true) : Calls Try.prog 29 #[.int .i64 n] w (NewAttr 0 (noneL n) w) := by
  rcases isGrp_of h with rfl | rfl
  · exact l3None_3 w
  · exact l3None_5 w
theorem joinNone_any (n : Int) (w : World) (h : isGrp n = true) : Calls Try.prog 30 #[.int .i64 n, .slice none 0 0] w (NewAttr 0 (noneL n) w) := by
  rcases isGrp_of h with rfl | rfl
  · exact joinAttrs_none 3 w (.inl rfl)
  · exact joinAttrs_none 5 w (.inr rfl)

set_option maxHeartbeats 1000000 in
theorem specNone_any (n : Int) (w : World) : Calls Try.prog 13 #[.int .i64 n] w (TwoAttr 0 (noneL n) (isGrp n) w) := by
  have HO := Lib.hid (openAt_new w 27 0 (.slice none 0 0))
  cases hg : isGrp n with
  | false =>
    rw [noneL_no hg]
    have HG := Lib.hid hg
    clear hg
    go_enter Try.func13, Try.ntmps13
    go_wp2_with fail
    refine (specIsGroup_any _ _).mono ?_
    rintro e w' ⟨rfl, rfl⟩
    rw [HG.out]
    go_wp2
    refine bodyPost_ret (v := .tuple #[.agg #[.int .i64 0, .slice none 0 0], .bool false]) (by simp [results, Try.results13, go_sem]) rfl ⟨_, rfl, fresh_nil _ _, ?_⟩
    exact Ext.alloc (Ext.refl _) _
  | true =>
    have HG := Lib.hid hg
    clear hg
    obtain ⟨L, hL⟩ : ∃ L, L = noneL n := ⟨_, rfl⟩
    have hc := fun W => l3None_any n W HG.out
    rw [← hL] at hc ⊢
    have HC := Lib.hid hc
    clear hL hc
    go_enter Try.func13, Try.ntmps13
    go_wp2_with fail
    refine (specIsGroup_any _ _).mono ?_
    rintro e w' ⟨rfl, rfl⟩
    rw [HG.out]
    go_wp2_with fail
    refine (HC.out _).mono ?_
    rintro e w1 ⟨v, rfl, f1, x1⟩
    obtain ⟨av, cv, rfl⟩ := f1.form
    obtain ⟨⟨c0, c1⟩, z0, z1⟩ := HO.out.ext x1
    have hx : Ext w w1 := (Ext.alloc (Ext.refl _) _).trans x1
    rw [World.size_alloc] at f1
    have F := Lib.hid f1
    clear f1 x1
    go_wp2
    refine bodyPost_ret (v := .tuple #[.agg #[.int .i64 0, .slice av L.length cv], .bool true]) (by simp [results, Try.results13, go_sem, c0, c1]) rfl ⟨_, rfl, ?_, (hx.setc (Nat.le_refl _)).setc (Nat.le_refl _)⟩
    exact ((F.out.set _ _ _ (by omega)).set _ _ _ (by omega)).more (by omega)

set_option maxHeartbeats 1000000 in
theorem implNone_any (n : Int) (w : World) : Calls Try.prog 14 #[.int .i64 n] w (TwoAttr 0 (noneL n) (isGrp n) w) := by
  have HO := Lib.hid (openAt_new w 27 0 (.slice none 0 0))
  cases hg : isGrp n with
  | false =>
    rw [noneL_no hg]
    have HG := Lib.hid hg
    clear hg
    go_enter Try.func14, Try.ntmps14
    go_wp2_with fail
    refine (implIsGroup_any _ _).mono ?_
    rintro e w' ⟨rfl, rfl⟩
    rw [HG.out]
    go_wp2
    refine bodyPost_ret (v := .tuple #[.agg #[.int .i64 0, .slice none 0 0], .bool false]) (by simp [results, Try.results14, go_sem]) rfl ⟨_, rfl, fresh_nil _ _, ?_⟩
    exact Ext.alloc (Ext.refl _) _
  | true =>
    have HG := Lib.hid hg
    clear hg
    obtain ⟨L, hL⟩ : ∃ L, L = noneL n := ⟨_, rfl⟩
    have hc := fun W => joinNone_any n W HG.out
    rw [← hL] at hc ⊢
    have HC := Lib.hid hc
    clear hL hc
    go_enter Try.func14, Try.ntmps14
    go_wp2_with fail
    refine (implIsGroup_any _ _).mono ?_
    rintro e w' ⟨rfl, rfl⟩
    rw [HG.out]
    go_wp2_with fail
    refine (HC.out _).mono ?_
    rintro e w1 ⟨v, rfl, f1, x1⟩
    obtain ⟨av, cv, rfl⟩ := f1.form
    obtain ⟨⟨c0, c1⟩, z0, z1⟩ := HO.out.ext x1
    have hx : Ext w w1 := (Ext.alloc (Ext.refl _) _).trans x1
    rw [World.size_alloc] at f1
    have F := Lib.hid f1
    clear f1 x1
    go_wp2
    refine bodyPost_ret (v := .tuple #[.agg #[.int .i64 0, .slice av L.length cv], .bool true]) (by simp [results, Try.results14, go_sem, c0, c1]) rfl ⟨_, rfl, ?_, (hx.setc (Nat.le_refl _)).setc (Nat.le_refl _)⟩
    exact ((F.out.set _ _ _ (by omega)).set _ _ _ (by omega)).more (by omega)

end Go.Proofs.Ytfadmcgaojnghaa
