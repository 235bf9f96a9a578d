/- Contracts of the model's look at a row, and of its RowAt. -/
import Derived.Test.YthnoeknalpnadaaSpecRowAt
namespace Go.Proofs.Ythnoeknalpnadaa
open Go.RowKit
set_option linter.unusedVariables false

theorem tab_res (w : World) (n : Int) (u : Value) (T T' : TypeId) :
    AttrAt ((w.alloc (.cells #[.int .i64 n, u] T)).alloc (.cells #[.int .i64 0, .int .i64 0, .int .i64 0, .int .i64 0, .int .i64 0, .int .i64 0, .int .i64 0, .int .i64 0, .int .i64 0, .slice none 0 0] T')) w.heap.size n u ∧
    RowAt ((w.alloc (.cells #[.int .i64 n, u] T)).alloc (.cells #[.int .i64 0, .int .i64 0, .int .i64 0, .int .i64 0, .int .i64 0, .int .i64 0, .int .i64 0, .int .i64 0, .int .i64 0, .slice none 0 0] T')) (w.heap.size + 1) ⟨0, 0, 0, 0, 0, 0, 0, 0, 0, []⟩ (.slice none 0 0) ∧
      FreeAt ((w.alloc (.cells #[.int .i64 n, u] T)).alloc (.cells #[.int .i64 0, .int .i64 0, .int .i64 0, .int .i64 0, .int .i64 0, .int .i64 0, .int .i64 0, .int .i64 0, .int .i64 0, .slice none 0 0] T')) (w.heap.size + 1) := by
  refine ⟨⟨?_, ?_⟩, ⟨?_, ?_, ?_, ?_, ?_, ?_, ?_, ?_, ?_, ?_⟩, ⟨?_, ?_, ?_, ?_, ?_, ?_, ?_, ?_, ?_, ?_⟩⟩ <;> go_simp

set_option maxHeartbeats 2000000 in
set_option maxRecDepth 100000 in
theorem l4At_any (n : Int) (u : Value) (T : List (List RowD)) (p q : Nat) (w : World) (hu : Rowzz w u T) (hg : goodTab n T = true) (hp : p < T.length) (hq : q ≤ 5) :
    Calls Try.prog 115 #[.agg #[.int .i64 n, u], .int .i64 p, .int .i64 ((q : Int) + 1)] w (NewRow (rowOf n T p q) w) := by
  have hu0 := hu
  obtain ⟨au, cu, rfl, hlu, _, hcu⟩ := hu
  unfold maxLen at hlu
  obtain ⟨bu, ou, rfl, du⟩ := hcu (by omega)
  obtain ⟨x, hx1, ix⟩ := du p hp
  obtain ⟨R, hR⟩ : ∃ R, R = T[p] := ⟨_, rfl⟩
  rw [← hR] at ix
  obtain ⟨wb, hwb⟩ : ∃ wb, wb = (w.alloc (.cells #[.int .i64 n, .slice (some ⟨bu, ou, none⟩) T.length cu] 24)).alloc (.cells #[.int .i64 0, .int .i64 0, .int .i64 0, .int .i64 0, .int .i64 0, .int .i64 0, .int .i64 0, .int .i64 0, .int .i64 0, .slice none 0 0] 71) := ⟨_, rfl⟩
  have ho := tab_res w n (.slice (some ⟨bu, ou, none⟩) T.length cu) 24 71
  rw [← hwb] at ho
  have xb : Ext w wb := by rw [hwb]; exact ((Ext.refl w).alloc _).alloc _
  have sb : w.heap.size + 2 ≤ wb.heap.size := by rw [hwb]; simp
  have gx := xb.cell hx1
  have ixb := ix.ext xb
  obtain ⟨ax, cx, rfl, hlx, _, hcx⟩ := ixb
  unfold maxLen at hlx
  have hgrp := (goodTab_of hg).1
  by_cases hqt : q < R.length
  · have hqt' : q < T[p].length := by rw [← hR]; exact hqt
    have hrow := goodTab_row hg hp hqt'
    have e : rowOf n T p q = R[q] := by rw [rowOf_in hp hqt']; simp only [hR]
    rw [e]
    obtain ⟨d, hd⟩ : ∃ d, d = R[q] := ⟨_, rfl⟩
    obtain ⟨bx, ox, rfl, dx⟩ := hcx (by omega)
    obtain ⟨y, hy1, iy⟩ := dx q hqt
    rw [← hd] at hy1 iy ⊢
    have hdl : d.l.length ≤ 1048576 := by have : d = T[p][q] := by rw [hd]; simp only [hR]
                                          rw [this]; omega
    have HWB := Lib.hid hwb
    have HO := Lib.hid ho
    have IY := Lib.hid iy
    have SB := Lib.hid sb
    obtain ⟨g0, g1, g2, g3, g4, g5, g6, g7, g8, g9⟩ := hy1
    obtain ⟨t0, t1⟩ := ho.1
    have hq0 : (q : Int) ≤ 5 := by omega
    have hq1 : (q : Int) + 1 ≤ R.length := by omega
    rw [hwb] at g0 g1 g2 g3 g4 g5 g6 g7 g8 g9 gx t0 t1
    clear hwb ho hu0 hcu du hx1 ix hR hcx dx iy hd hrow hqt' e hg hgrp sb
    go_enter Try.func115, Try.ntmps115
    go_wp2_with fail
    rw [← HWB.out]
    refine (l4OwnRow_any d y _ IY.out hdl).mono ?_
    rintro e w1 ⟨v, rfl, f1, x1⟩
    have hx := xb.trans x1
    obtain ⟨o0, o1, o2, o3, o4, o5, o6, o7, o8, o9⟩ := HO.out.2.1.ext x1
    obtain ⟨z0, z1, z2, z3, z4, z5, z6, z7, z8, z9⟩ := HO.out.2.2.ext (by have := SB.out; omega) x1
    obtain ⟨ay, cy, rfl⟩ := f1.form
    have F := Lib.hid f1
    clear f1 x1 xb g0 g1 g2 g3 g4 g5 g6 g7 g8 g9 gx t0 t1
    go_wp2
    refine bodyPost_ret (v := .agg #[.int .i64 d.b, .int .i64 d.v, .int .i64 d.st, .int .i64 d.k, .int .i64 d.i, .int .i64 d.f, .int .i64 d.t, .int .i64 d.a, .int .i64 d.s, .slice ay d.l.length cy]) (by simp [results, Try.results115, go_sem, o0, o1, o2, o3, o4, o5, o6, o7, o8, o9]) rfl ⟨_, rfl, ?_, ?_⟩
    · exact ((((((((((F.out.set _ _ _ (by have := SB.out; omega)).set _ _ _ (by have := SB.out; omega)).set _ _ _ (by have := SB.out; omega)).set _ _ _ (by have := SB.out; omega)).set _ _ _ (by have := SB.out; omega)).set _ _ _ (by have := SB.out; omega)).set _ _ _ (by have := SB.out; omega)).set _ _ _ (by have := SB.out; omega)).set _ _ _ (by have := SB.out; omega)).set _ _ _ (by have := SB.out; omega)).more (by have := SB.out; omega)
    · exact (((((((((hx.setc (by dsimp only; omega)).setc (by dsimp only; omega)).setc (by dsimp only; omega)).setc (by dsimp only; omega)).setc (by dsimp only; omega)).setc (by dsimp only; omega)).setc (by dsimp only; omega)).setc (by dsimp only; omega)).setc (by dsimp only; omega)).setc (by dsimp only; omega)
  · have e : rowOf n T p q = emptyR n := rowOf_out hp (by rw [← hR]; omega)
    rw [e]
    obtain ⟨L, hL⟩ : ∃ L, L = noneL n := ⟨_, rfl⟩
    have hc := fun W => l3None_any n W hgrp
    have hLE : emptyR n = ⟨0, 0, 0, 0, 0, 0, 0, 0, 0, L⟩ := by rw [hL]; rfl
    rw [← hL] at hc
    rw [hLE]
    have HC := Lib.hid hc
    have HWB := Lib.hid hwb
    have HO := Lib.hid ho
    have SB := Lib.hid sb
    obtain ⟨t0, t1⟩ := ho.1
    have hq0 : (q : Int) ≤ 5 := by omega
    have hq1 : (R.length : Int) < (q : Int) + 1 := by omega
    rw [hwb] at gx t0 t1
    clear hwb ho hu0 hcu du hx1 ix hR hcx e hg hgrp sb hL hc hLE hqt
    go_enter Try.func115, Try.ntmps115
    go_wp2_with fail
    rw [← HWB.out]
    refine (HC.out _).mono ?_
    rintro e w1 ⟨v, rfl, f1, x1⟩
    have hx := xb.trans x1
    obtain ⟨o0, o1, o2, o3, o4, o5, o6, o7, o8, o9⟩ := HO.out.2.1.ext x1
    obtain ⟨z0, z1, z2, z3, z4, z5, z6, z7, z8, z9⟩ := HO.out.2.2.ext (by have := SB.out; omega) x1
    obtain ⟨ay, cy, rfl⟩ := f1.form
    have F := Lib.hid f1
    clear f1 x1 xb gx t0 t1
    go_wp2
    refine bodyPost_ret (v := .agg #[.int .i64 0, .int .i64 0, .int .i64 0, .int .i64 0, .int .i64 0, .int .i64 0, .int .i64 0, .int .i64 0, .int .i64 0, .slice ay L.length cy]) (by simp [results, Try.results115, go_sem, o0, o1, o2, o3, o4, o5, o6, o7, o8, o9]) rfl ⟨_, rfl, ?_, ?_⟩
    · exact ((((((((((F.out.set _ _ _ (by have := SB.out; omega)).set _ _ _ (by have := SB.out; omega)).set _ _ _ (by have := SB.out; omega)).set _ _ _ (by have := SB.out; omega)).set _ _ _ (by have := SB.out; omega)).set _ _ _ (by have := SB.out; omega)).set _ _ _ (by have := SB.out; omega)).set _ _ _ (by have := SB.out; omega)).set _ _ _ (by have := SB.out; omega)).set _ _ _ (by have := SB.out; omega)).more (by have := SB.out; omega)
    · exact (((((((((hx.setc (by dsimp only; omega)).setc (by dsimp only; omega)).setc (by dsimp only; omega)).setc (by dsimp only; omega)).setc (by dsimp only; omega)).setc (by dsimp only; omega)).setc (by dsimp only; omega)).setc (by dsimp only; omega)).setc (by dsimp only; omega)).setc (by dsimp only; omega)

end Go.Proofs.Ythnoeknalpnadaa
