/- Contract of the program's RowAt. -/
import Derived.Test.YthnoeknalpnadaaCopyRow
import Derived.IntWalk
namespace Go.Proofs.Ythnoeknalpnadaa
open Go.RowKit
set_option linter.unusedVariables false

set_option maxHeartbeats 4000000 in
set_option maxRecDepth 100000 in
theorem implRowOf_any (n : Int) (u : Value) (T : List (List RowD)) (p q : Nat) (w : World) (hu : Rowzz w u T) (h1 : goodTab n T = true) (hp : p < T.length) (hq : q ≤ 5) :
    Calls Try.prog 121 #[.agg #[.int .i64 n, u], .int .i64 p, .int .i64 ((q : Int) + 1)] w (NewRow (rowOf n T p q) w) := by
  obtain ⟨wb, hwb⟩ : ∃ wb, wb = (w.alloc (.cells #[.int .i64 n, u] 24)).alloc (.cells #[.int .i64 0, .int .i64 0, .int .i64 0, .int .i64 0, .int .i64 0, .int .i64 0, .int .i64 0, .int .i64 0, .int .i64 0, .slice none 0 0] 71) := ⟨_, rfl⟩
  have ho := tab_res w n u 24 71
  rw [← hwb] at ho
  have xb : Ext w wb := by rw [hwb]; exact ((Ext.refl w).alloc _).alloc _
  have sb : w.heap.size + 2 ≤ wb.heap.size := by rw [hwb]; simp
  have HWB := Lib.hid hwb
  have HO := Lib.hid ho
  have SB := Lib.hid sb
  have HU := Lib.hid (hu.ext xb)
  obtain ⟨t0, t1⟩ := ho.1
  have HT := Lib.hid (And.intro t0 t1)
  clear ho sb hu
  have hgrp := (goodTab_of h1).1
  have HGRP := Lib.hid hgrp
  have hu0 := HU.out
  obtain ⟨au, cu, rfl, hlu, _, hcu⟩ := hu0
  rw [hwb] at t0 t1
  clear hwb
  unfold maxLen at hlu
  obtain ⟨bu, ou, rfl, du⟩ := hcu (by omega)
  obtain ⟨x, hx1, ix⟩ := du p hp
  obtain ⟨R, hR⟩ : ∃ R, R = T[p] := ⟨_, rfl⟩
  rw [← hR] at ix
  have IX := Lib.hid ix
  obtain ⟨ax, cx, rfl, hlx, _, hcx⟩ := ix
  unfold maxLen at hlx
  have hq0 : (q : Int) ≤ 5 := by omega
  by_cases hqt : q < R.length
  · have hqt' : q < T[p].length := by rw [← hR]; exact hqt
    have hrow := goodTab_row h1 hp hqt'
    have e : rowOf n T p q = R[q] := by rw [rowOf_in hp hqt']; simp only [hR]
    rw [e]
    obtain ⟨d, hd⟩ : ∃ d, d = R[q] := ⟨_, rfl⟩
    obtain ⟨bx, ox, rfl, dx⟩ := hcx (by omega)
    obtain ⟨y, hy1, iy⟩ := dx q hqt
    rw [← hd] at hy1 iy ⊢
    have hdl : (d.l.length : Int) = n := by
      have : d = T[p][q] := by rw [hd]; simp only [hR]
      rw [this]; exact hrow.2.1
    have HDL := Lib.hid hdl
    have IY := Lib.hid iy
    have HY := Lib.hid hy1
    have HX := Lib.hid hx1
    have gx := hx1
    rw [HWB.out] at gx
    have hq1 : (q : Int) + 1 ≤ R.length := by omega
    clear hcu du hx1 hR hcx dx iy hd hrow hqt' e hgrp h1 hdl hy1
    go_enter Try.func121, Try.ntmps121

    have X0 := Lib.hid xb
    have X1 := Lib.hid (Ext.refl wb)
    have hw : IntKind.i64.wrap ((q : Int) + 1 - 1) = (q : Int) := by rw [show (q : Int) + 1 - 1 = q by omega]; exact IntWalk.i64_in _ (by omega)
    have hw2 : IntKind.i64.wrap (q : Int) = (q : Int) := IntWalk.i64_in _ (by omega)
    have hw0 : (0 : Int) ≤ (q : Int) := by omega
    have hw1 : (q : Int) < (R.length : Int) := by omega
    clear xb
    go_wp2_with fail
    rw [← HWB.out]
    obtain ⟨t0, t1⟩ := HT.out
    obtain ⟨g0, g1, g2, g3, g4, g5, g6, g7, g8, g9⟩ := HY.out
    obtain ⟨o0, o1, o2, o3, o4, o5, o6, o7, o8, o9⟩ := HO.out.2.1
    obtain ⟨z0, z1, z2, z3, z4, z5, z6, z7, z8, z9⟩ := HO.out.2.2
    go_region_with (go_at_call 160; refine (copyRow_any n d y _ HGRP.out ((IY.out.ext X1.out).ext (by repeat (first | exact Ext.refl _ | apply Ext.drew | apply Ext.alloc))) HDL.out).mono ?_; rintro e W ⟨v, rfl, f9, x9⟩; obtain ⟨ay, cy, rfl⟩ := f9.form; have x91 := X1.out.trans (Ext.trans (Ext.drew (Ext.refl _)) x9); obtain ⟨o0, o1, o2, o3, o4, o5, o6, o7, o8, o9⟩ := HO.out.2.1.ext x91; obtain ⟨z0, z1, z2, z3, z4, z5, z6, z7, z8, z9⟩ := HO.out.2.2.ext (by have := SB.out; omega) x91)
    all_goals
      have hsz9 := X1.out.size
      have F := Lib.hid (f9.more (B' := wb.heap.size) hsz9)
      have hx := X0.out.trans (Ext.trans (Ext.drew (Ext.refl _)) x9)
      clear f9 x9 x91 t0 t1 g0 g1 g2 g3 g4 g5 g6 g7 g8 g9 hw hw2 hsz9
      go_wp2
      refine bodyPost_ret (v := .agg #[.int .i64 d.b, .int .i64 d.v, .int .i64 d.st, .int .i64 d.k, .int .i64 d.i, .int .i64 d.f, .int .i64 d.t, .int .i64 d.a, .int .i64 d.s, .slice ay d.l.length cy]) (by simp [results, Try.results121, go_sem, o0, o1, o2, o3, o4, o5, o6, o7, o8, o9]) rfl ⟨_, rfl, ?_, ?_⟩
      · exact ((((((((((F.out.set _ _ _ (by have := SB.out; omega)).set _ _ _ (by have := SB.out; omega)).set _ _ _ (by have := SB.out; omega)).set _ _ _ (by have := SB.out; omega)).set _ _ _ (by have := SB.out; omega)).set _ _ _ (by have := SB.out; omega)).set _ _ _ (by have := SB.out; omega)).set _ _ _ (by have := SB.out; omega)).set _ _ _ (by have := SB.out; omega)).set _ _ _ (by have := SB.out; omega)).more (by have := SB.out; omega)
      · exact ((((((((((hx.setc (by dsimp only; omega)).setc (by dsimp only; omega)).setc (by dsimp only; omega)).setc (by dsimp only; omega)).setc (by dsimp only; omega)).setc (by dsimp only; omega)).setc (by dsimp only; omega)).setc (by dsimp only; omega)).setc (by dsimp only; omega)).setc (by dsimp only; omega))
  · have e : rowOf n T p q = emptyR n := rowOf_out hp (by rw [← hR]; omega)
    rw [e]
    obtain ⟨L, hL⟩ : ∃ L, L = noneL n := ⟨_, rfl⟩
    have hLE : emptyR n = ⟨0, 0, 0, 0, 0, 0, 0, 0, 0, L⟩ := by rw [hL]; rfl
    have hc := fun W => emptyRow_any n W hgrp
    rw [hLE] at hc ⊢
    have HC := Lib.hid hc
    have HX := Lib.hid hx1
    have gx := hx1
    rw [HWB.out] at gx
    have hq1 : (R.length : Int) < (q : Int) + 1 := by omega
    clear hcu du hx1 hR hcx e hgrp h1 hL hLE hc hqt
    go_enter Try.func121, Try.ntmps121

    have X1 := Lib.hid (Ext.refl wb)
    have X0 := Lib.hid xb
    clear xb
    go_wp2_with fail
    rw [← HWB.out]
    refine (HC.out _).mono ?_
    rintro e w2 ⟨v, rfl, f2, x2⟩
    have x12 := X1.out.trans x2
    have hx := X0.out.trans x2
    obtain ⟨o0, o1, o2, o3, o4, o5, o6, o7, o8, o9⟩ := HO.out.2.1.ext x12
    obtain ⟨z0, z1, z2, z3, z4, z5, z6, z7, z8, z9⟩ := HO.out.2.2.ext (by have := SB.out; omega) x12
    obtain ⟨ay, cy, rfl⟩ := f2.form
    have F := Lib.hid (f2.more (B' := wb.heap.size) X1.out.size)
    clear f2 x2 x12 t0 t1 gx
    go_wp2
    refine bodyPost_ret (v := .agg #[.int .i64 0, .int .i64 0, .int .i64 0, .int .i64 0, .int .i64 0, .int .i64 0, .int .i64 0, .int .i64 0, .int .i64 0, .slice ay L.length cy]) (by simp [results, Try.results121, go_sem, o0, o1, o2, o3, o4, o5, o6, o7, o8, o9]) rfl ⟨_, rfl, ?_, ?_⟩
    · exact ((((((((((F.out.set _ _ _ (by have := SB.out; omega)).set _ _ _ (by have := SB.out; omega)).set _ _ _ (by have := SB.out; omega)).set _ _ _ (by have := SB.out; omega)).set _ _ _ (by have := SB.out; omega)).set _ _ _ (by have := SB.out; omega)).set _ _ _ (by have := SB.out; omega)).set _ _ _ (by have := SB.out; omega)).set _ _ _ (by have := SB.out; omega)).set _ _ _ (by have := SB.out; omega)).more (by have := SB.out; omega)
    · exact ((((((((((hx.setc (by dsimp only; omega)).setc (by dsimp only; omega)).setc (by dsimp only; omega)).setc (by dsimp only; omega)).setc (by dsimp only; omega)).setc (by dsimp only; omega)).setc (by dsimp only; omega)).setc (by dsimp only; omega)).setc (by dsimp only; omega)).setc (by dsimp only; omega))

set_option maxHeartbeats 4000000 in
set_option maxRecDepth 100000 in
theorem implRowAt_any (n : Int) (u : Value) (T : List (List RowD)) (rep no : Int) (w : World) (hu : Rowzz w u T) (hs : bulkT T ≤ 1099511627776) :
    Calls Try.prog 53 #[.agg #[.int .i64 n, u], .int .i64 rep, .int .i64 no] w (TwoRow (rowAtR n T rep no) (okAt n T rep no) w) := by
  obtain ⟨wb, hwb⟩ : ∃ wb, wb = (w.alloc (.cells #[.int .i64 n, u] 24)).alloc (.cells #[.int .i64 0, .int .i64 0, .int .i64 0, .int .i64 0, .int .i64 0, .int .i64 0, .int .i64 0, .int .i64 0, .int .i64 0, .slice none 0 0] 71) := ⟨_, rfl⟩
  have ho := tab_res w n u 24 71
  rw [← hwb] at ho
  have xb : Ext w wb := by rw [hwb]; exact ((Ext.refl w).alloc _).alloc _
  have sb : w.heap.size + 2 ≤ wb.heap.size := by rw [hwb]; simp
  have HWB := Lib.hid hwb
  have HO := Lib.hid ho
  have SB := Lib.hid sb
  have HU := Lib.hid (hu.ext xb)
  have HS := Lib.hid hs
  obtain ⟨t0, t1⟩ := ho.1
  rw [hwb] at t0 t1
  clear hwb ho sb hu hs
  cases hk : okAt n T rep no with
  | false =>
    rw [rowAtR_no hk]
    cases hg : goodTab n T with
    | false =>
      have HG := Lib.hid hg
      clear hg hk
      go_enter Try.func53, Try.ntmps53
      go_wp2_with fail
      rw [← HWB.out]
      refine (implGoodTable_any _ _ T _ HU.out HS.out).mono ?_
      rintro e w1 ⟨rfl, x1⟩
      have hx := xb.trans x1
      obtain ⟨o0, o1, o2, o3, o4, o5, o6, o7, o8, o9⟩ := HO.out.2.1.ext x1
      obtain ⟨z0, z1, z2, z3, z4, z5, z6, z7, z8, z9⟩ := HO.out.2.2.ext (by have := SB.out; omega) x1
      clear x1 xb t0 t1
      rw [HG.out]
      go_wp2
      refine bodyPost_ret (v := .tuple #[.agg #[.int .i64 0, .int .i64 0, .int .i64 0, .int .i64 0, .int .i64 0, .int .i64 0, .int .i64 0, .int .i64 0, .int .i64 0, .slice none 0 0], .bool false]) (by simp [results, Try.results53, go_sem, o0, o1, o2, o3, o4, o5, o6, o7, o8, o9]) rfl ⟨_, rfl, fresh_nil _ _, ?_⟩
      exact ((((((((((hx.setc (by dsimp only; omega)).setc (by dsimp only; omega)).setc (by dsimp only; omega)).setc (by dsimp only; omega)).setc (by dsimp only; omega)).setc (by dsimp only; omega)).setc (by dsimp only; omega)).setc (by dsimp only; omega)).setc (by dsimp only; omega)).setc (by dsimp only; omega))
    | true =>
      have hi : instB n rep no = false := by unfold okAt at hk; rw [hg] at hk; simpa using hk
      have hgrp := (goodTab_of hg).1
      have HG := Lib.hid hg
      have HI := Lib.hid hi
      have HGRP := Lib.hid hgrp
      clear hg hk hi hgrp
      go_enter Try.func53, Try.ntmps53
      go_wp2_with fail
      rw [← HWB.out]
      refine (implGoodTable_any _ _ T _ HU.out HS.out).mono ?_
      rintro e w1 ⟨rfl, x1⟩
      have hx := xb.trans x1
      obtain ⟨c0, c1⟩ := HO.out.1.ext x1
      obtain ⟨o0, o1, o2, o3, o4, o5, o6, o7, o8, o9⟩ := HO.out.2.1.ext x1
      obtain ⟨z0, z1, z2, z3, z4, z5, z6, z7, z8, z9⟩ := HO.out.2.2.ext (by have := SB.out; omega) x1
      clear x1 xb t0 t1
      rw [HG.out]
      go_wp2_with fail
      refine (isInstance_any _ _ _ _ HGRP.out).mono ?_
      rintro e w' ⟨rfl, rfl⟩
      rw [HI.out]
      go_wp2
      refine bodyPost_ret (v := .tuple #[.agg #[.int .i64 0, .int .i64 0, .int .i64 0, .int .i64 0, .int .i64 0, .int .i64 0, .int .i64 0, .int .i64 0, .int .i64 0, .slice none 0 0], .bool false]) (by simp [results, Try.results53, go_sem, o0, o1, o2, o3, o4, o5, o6, o7, o8, o9]) rfl ⟨_, rfl, fresh_nil _ _, ?_⟩
      exact ((((((((((hx.setc (by dsimp only; omega)).setc (by dsimp only; omega)).setc (by dsimp only; omega)).setc (by dsimp only; omega)).setc (by dsimp only; omega)).setc (by dsimp only; omega)).setc (by dsimp only; omega)).setc (by dsimp only; omega)).setc (by dsimp only; omega)).setc (by dsimp only; omega))
  | true =>
    obtain ⟨h1, h2⟩ := okAt_of hk
    obtain ⟨p, q, rfl, rfl, hp, hq⟩ := inst_nat h1 h2
    rw [rowAtR_yes hk]
    have HG := Lib.hid h1
    have HI := Lib.hid h2
    have HGRP := Lib.hid (goodTab_of h1).1
    obtain ⟨d, hd⟩ : ∃ d, d = rowOf n T p q := ⟨_, rfl⟩
    rw [← hd]
    have CR : Hid (∀ W, Rowzz W u T → Calls Try.prog 121 #[.agg #[.int .i64 n, u], .int .i64 p, .int .i64 ((q : Int) + 1)] W (NewRow d W)) := Lib.hid (fun W h => by rw [hd]; exact implRowOf_any n u T p q W h h1 hp hq)
    clear hk h1 h2 hp hq hd
    go_enter Try.func53, Try.ntmps53
    go_wp2_with fail
    rw [← HWB.out]
    refine (implGoodTable_any _ _ T _ HU.out HS.out).mono ?_
    rintro e w1 ⟨rfl, x1⟩
    have hx0 := xb.trans x1
    obtain ⟨c0, c1⟩ := HO.out.1.ext x1
    have X1 := Lib.hid x1
    have X0 := Lib.hid hx0
    clear t0 t1 x1 hx0 xb
    rw [HG.out]
    go_wp2_with fail
    refine (isInstance_any _ _ _ _ HGRP.out).mono ?_
    rintro e w' ⟨rfl, rfl⟩
    rw [HI.out]
    go_wp2_with fail
    refine (CR.out _ (HU.out.ext X1.out)).mono ?_
    rintro e w2 ⟨v, rfl, f2, x2⟩
    have x12 := X1.out.trans x2
    have hx := X0.out.trans x2
    obtain ⟨o0, o1, o2, o3, o4, o5, o6, o7, o8, o9⟩ := HO.out.2.1.ext x12
    obtain ⟨z0, z1, z2, z3, z4, z5, z6, z7, z8, z9⟩ := HO.out.2.2.ext (by have := SB.out; omega) x12
    obtain ⟨ay, cy, rfl⟩ := f2.form
    have F := Lib.hid (f2.more (B' := wb.heap.size) X1.out.size)
    clear f2 x2 x12 c0 c1
    go_wp2
    refine bodyPost_ret (v := .tuple #[.agg #[.int .i64 d.b, .int .i64 d.v, .int .i64 d.st, .int .i64 d.k, .int .i64 d.i, .int .i64 d.f, .int .i64 d.t, .int .i64 d.a, .int .i64 d.s, .slice ay d.l.length cy], .bool true]) (by simp [results, Try.results53, go_sem, o0, o1, o2, o3, o4, o5, o6, o7, o8, o9]) rfl ⟨_, rfl, ?_, ?_⟩
    · exact ((((((((((F.out.set _ _ _ (by have := SB.out; omega)).set _ _ _ (by have := SB.out; omega)).set _ _ _ (by have := SB.out; omega)).set _ _ _ (by have := SB.out; omega)).set _ _ _ (by have := SB.out; omega)).set _ _ _ (by have := SB.out; omega)).set _ _ _ (by have := SB.out; omega)).set _ _ _ (by have := SB.out; omega)).set _ _ _ (by have := SB.out; omega)).set _ _ _ (by have := SB.out; omega)).more (by have := SB.out; omega)
    · exact ((((((((((hx.setc (by dsimp only; omega)).setc (by dsimp only; omega)).setc (by dsimp only; omega)).setc (by dsimp only; omega)).setc (by dsimp only; omega)).setc (by dsimp only; omega)).setc (by dsimp only; omega)).setc (by dsimp only; omega)).setc (by dsimp only; omega)).setc (by dsimp only; omega))

end Go.Proofs.Ythnoeknalpnadaa
