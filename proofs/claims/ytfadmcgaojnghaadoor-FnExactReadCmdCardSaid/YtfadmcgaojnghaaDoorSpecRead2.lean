/- Contract of the model's ReadCmd at texts of the right length, and at every text. -/
import Derived.Test.YtfadmcgaojnghaaDoorSpecRead
import Derived.Deep.RegionHeld3
namespace Go.Proofs.YtfadmcgaojnghaaDoor
open Go.RowKit
set_option linter.unusedVariables false

theorem make4 (W : World) : (Instr.makeSlice 32 (.int .i64 4) (.int .i64 4)).run Tryd.prog W = .ok (.slice (some ⟨W.heap.size, 0, none⟩) 4 4) (W.alloc (.cells #[.int .i64 0, .int .i64 0, .int .i64 0, .int .i64 0] 3)) := by kernel_rfl

set_option maxRecDepth 100000 in
set_option maxHeartbeats 4000000 in
theorem specRead_0 (s : ByteArray) (w : World) (hs : s.size ≤ 1048576) (s0 : ByteArray) (rest : List ByteArray) (hw : pieces s 32 = s0 :: rest) (hk : s0.data.toList = [45]) (hl : rest.length = 0) :
    Calls Tryd.prog 19 #[.string s] w (CmdRes 0 0 0 0 0 0 true w) := by
  have n1 : (s0.toList == ([109, 111, 118, 101] : List UInt8)) = false := by rw [Lib.toList_data, hk]; rfl
  have n2 : (s0.toList == ([114, 101, 97, 100] : List UInt8)) = false := by rw [Lib.toList_data, hk]; rfl
  have n3 : (s0.toList == ([45] : List UInt8)) = true := by rw [Lib.toList_data, hk]; rfl
  clear hk
  have HW := Lib.hid hw
  have HO := Lib.hid (open5_new w 25 0 0 0 0 0)
  have hrl : rest.length ≤ 1048576 := by
    have h := (cutTo_le s 32 s.size).2
    have e : (pieces s 32).length = (cutTo s 32 s.size).1.length + 1 := by simp [pieces]
    rw [hw] at e
    simp at e
    omega
  clear hw
  go_enter Tryd.func19, Tryd.ntmps19
  go_wp2_with fail
  refine (l1Split_any s 32 _ hs).mono ?_
  rintro e w1 ⟨v, rfl, f1, x1⟩
  rw [HW.out] at f1
  have FF := Lib.hid f1
  obtain ⟨av, cv, rfl, _, hcap, hcv⟩ := f1.strs
  obtain ⟨bv, ov, rfl, dv⟩ := hcv (by simp)
  have g0 : w1.cell? ⟨bv, ov, none⟩ = some (.string s0) := dv 0 (by simp)
  have DV := Lib.hid dv
  have hcap1 : rest.length + 1 ≤ cv := hcap.1
  have hcap2 : cv ≤ 9223372036854775807 := by have h := hcap.2.1; unfold maxLen at h; omega
  obtain ⟨⟨c0, c1, c2, c3, c4⟩, z0, z1, z2, z3, z4⟩ := HO.out.ext x1
  have hlt : w.heap.size < w1.heap.size := World.block_lt_of_cell? w1 _ c0
  have hx : Ext w w1 := (Ext.alloc (Ext.refl _) _).trans x1
  have hln : (s0 :: rest).length = rest.length + 1 := rfl
  rw [hln]
  clear hcap hcv dv f1 x1 hln
  obtain rfl : rest = [] := List.eq_nil_of_length_eq_zero hl
  clear hl
  have hmk := make4
  have hop := (show Open5 w1 w.heap.size 0 0 0 0 0 from ⟨⟨c0, c1, c2, c3, c4⟩, z0, z1, z2, z3, z4⟩).ext (Ext.alloc (Ext.refl _) (.cells #[.int .i64 0, .int .i64 0, .int .i64 0, .int .i64 0] 3))
  obtain ⟨wb, hwb⟩ : ∃ wb, wb = w1.alloc (.cells #[.int .i64 0, .int .i64 0, .int .i64 0, .int .i64 0] 3) := ⟨_, rfl⟩
  have hxb : Ext w wb := by rw [hwb]; exact hx.alloc _
  have m0 : wb.cell? ⟨w1.heap.size, 0, none⟩ = some (.int .i64 0) := by rw [hwb]; go_simp
  have m1 : wb.cell? ⟨w1.heap.size, 1, none⟩ = some (.int .i64 0) := by rw [hwb]; go_simp
  have m2 : wb.cell? ⟨w1.heap.size, 2, none⟩ = some (.int .i64 0) := by rw [hwb]; go_simp
  have m3 : wb.cell? ⟨w1.heap.size, 3, none⟩ = some (.int .i64 0) := by rw [hwb]; go_simp
  rw [← hwb] at hop
  have HWB := Lib.hid hwb
  have HOP := Lib.hid hop
  have HM := Lib.hid (And.intro m0 (And.intro m1 (And.intro m2 m3)))
  clear c0 c1 c2 c3 c4 z0 z1 z2 z3 z4 hop hwb m0 m1 m2 m3
  by_cases h1 : cv = 1
  · subst h1
    go_wp2
    rw [← HWB.out]
    clear hmk
    refine wp_loop_rounds 1 ?_
    rw [rounds_succ]
    go_wp2
    obtain ⟨m0, m1, m2, m3⟩ := HM.out
    have q0 := World.new_ne wb ⟨w1.heap.size, 0, none⟩ m0
    go_region_held3 (fun W' => W'.cell? ⟨w1.heap.size, 0, none⟩ = some (.int .i64 0) ∧ W'.cell? ⟨w1.heap.size, 1, none⟩ = some (.int .i64 0) ∧ W'.cell? ⟨w1.heap.size, 2, none⟩ = some (.int .i64 0) ∧ W'.cell? ⟨w1.heap.size, 3, none⟩ = some (.int .i64 0)) (go_keep) (first | fail)
    clear m0 m1 m2 m3 q0
    obtain ⟨⟨d0, d1, d2, d3, d4⟩, y0, y1, y2, y3, y4⟩ := HOP.out.ext (Ext.alloc (Ext.refl wb) (.cells #[.int .i64 0, .int .i64 0, .int .i64 0, .int .i64 0, .int .i64 0] 25))
    have hx9 : Ext w (wb.alloc (.cells #[.int .i64 0, .int .i64 0, .int .i64 0, .int .i64 0, .int .i64 0] 25)).drew := (hxb.alloc _).drew
    go_wp2
    refine bodyPost_ret (v := .tuple #[.agg #[.int .i64 0, .int .i64 0, .int .i64 0, .int .i64 0, .int .i64 0], .int .i64 0, .bool true]) ?_ rfl ⟨rfl, ?_⟩
    · simp [results, Tryd.results19, go_sem, d0, d1, d2, d3, d4]
    · refine Ext.drew ?_
      exact Ext.setc (Ext.setc (Ext.setc (Ext.setc (Ext.setc (hxb.alloc _) (Nat.le_refl _)) (Nat.le_refl _)) (Nat.le_refl _)) (Nat.le_refl _)) (Nat.le_refl _)
  · have h2 : 1 < cv := by omega
    clear h1
    go_wp2
    rw [← HWB.out]
    clear hmk
    refine wp_loop_rounds 1 ?_
    rw [rounds_succ]
    go_wp2
    obtain ⟨m0, m1, m2, m3⟩ := HM.out
    have q0 := World.new_ne wb ⟨w1.heap.size, 0, none⟩ m0
    go_region_held3 (fun W' => W'.cell? ⟨w1.heap.size, 0, none⟩ = some (.int .i64 0) ∧ W'.cell? ⟨w1.heap.size, 1, none⟩ = some (.int .i64 0) ∧ W'.cell? ⟨w1.heap.size, 2, none⟩ = some (.int .i64 0) ∧ W'.cell? ⟨w1.heap.size, 3, none⟩ = some (.int .i64 0)) (go_keep) (first | fail)
    clear m0 m1 m2 m3 q0
    obtain ⟨⟨d0, d1, d2, d3, d4⟩, y0, y1, y2, y3, y4⟩ := HOP.out.ext (Ext.alloc (Ext.refl wb) (.cells #[.int .i64 0, .int .i64 0, .int .i64 0, .int .i64 0, .int .i64 0] 25))
    have hx9 : Ext w (wb.alloc (.cells #[.int .i64 0, .int .i64 0, .int .i64 0, .int .i64 0, .int .i64 0] 25)).drew := (hxb.alloc _).drew
    go_wp2
    refine bodyPost_ret (v := .tuple #[.agg #[.int .i64 0, .int .i64 0, .int .i64 0, .int .i64 0, .int .i64 0], .int .i64 0, .bool true]) ?_ rfl ⟨rfl, ?_⟩
    · simp [results, Tryd.results19, go_sem, d0, d1, d2, d3, d4]
    · refine Ext.drew ?_
      exact Ext.setc (Ext.setc (Ext.setc (Ext.setc (Ext.setc (hxb.alloc _) (Nat.le_refl _)) (Nat.le_refl _)) (Nat.le_refl _)) (Nat.le_refl _)) (Nat.le_refl _)

end Go.Proofs.YtfadmcgaojnghaaDoor
