/- Contracts of the program's copy of a row, and of its empty row. -/
import Derived.Test.YthnoeknalpnadaaSpecRowAt3
import Derived.Laws.CopyOwn
namespace Go.Proofs.Ythnoeknalpnadaa
open Go.RowKit
set_option linter.unusedVariables false

theorem make_m (m : Nat) (h : m = 3 ∨ m = 5) (W : World) : (Instr.makeSlice 37 (.int .i64 (m : Int)) (.int .i64 (m : Int))).run Try.prog W = .ok (.slice (some ⟨W.heap.size, 0, none⟩) m m) (W.alloc (.cells (Array.replicate m (Value.int .i64 0)) 3)) := by
  rcases h with rfl | rfl
  · exact make_3 W
  · exact make_5 W

theorem splice_all (m : Nat) (l : List Int) (h : l.length = m) : splice (List.replicate m (Value.int .i64 0)) 0 (l.map (Value.int .i64)) = l.map (Value.int .i64) := by
  subst h
  simp [splice]

set_option maxRecDepth 100000 in
set_option maxHeartbeats 2000000 in
theorem copyRow_nat (m : Nat) (hm : m = 3 ∨ m = 5) (r : RowD) (u : Value) (w : World) (hv : Ints w u r.l) (hl : r.l.length = m) :
    Calls Try.prog 160 #[.int .i64 m, .agg #[.int .i64 r.b, .int .i64 r.v, .int .i64 r.st, .int .i64 r.k, .int .i64 r.i, .int .i64 r.f, .int .i64 r.t, .int .i64 r.a, .int .i64 r.s, u]] w (NewRow r w) := by
  obtain ⟨au, cu, rfl, hlu, hcap, hcu⟩ := hv
  obtain ⟨wc, hwc⟩ : ∃ wc, wc = (((w.alloc (.cells #[.int .i64 r.b, .int .i64 r.v, .int .i64 r.st, .int .i64 r.k, .int .i64 r.i, .int .i64 r.f, .int .i64 r.t, .int .i64 r.a, .int .i64 r.s, .slice au r.l.length cu] 71)).alloc (.cells #[.int .i64 0, .int .i64 0, .int .i64 0, .int .i64 0, .int .i64 0, .int .i64 0, .int .i64 0, .int .i64 0, .int .i64 0, .slice none 0 0] 71)).alloc (.cells (Array.replicate m (Value.int .i64 0)) 3)) := ⟨_, rfl⟩
  have ho := box_res_row w r (.slice au r.l.length cu) 71
  have xb : Ext w wc := by rw [hwc]; exact Ext.alloc3 _ _ _ _
  have hmk := make_m m hm
  have HWC := Lib.hid hwc
  have HO := Lib.hid ho
  have HCU := Lib.hid hcu
  have HL := Lib.hid hl
  have hsz : ((w.alloc (.cells #[.int .i64 r.b, .int .i64 r.v, .int .i64 r.st, .int .i64 r.k, .int .i64 r.i, .int .i64 r.f, .int .i64 r.t, .int .i64 r.a, .int .i64 r.s, .slice au r.l.length cu] 71)).alloc (.cells #[.int .i64 0, .int .i64 0, .int .i64 0, .int .i64 0, .int .i64 0, .int .i64 0, .int .i64 0, .int .i64 0, .int .i64 0, .slice none 0 0] 71)).heap.size = w.heap.size + 2 := by simp
  have HZ := Lib.hid hsz
  have hlen0 : (r.l.length : Int) ≤ 5 := by omega
  have hcap1 : r.l.length ≤ cu := hcap.1
  clear hwc ho hcu hl hlu hcap hsz
  go_enter Try.func160, Try.ntmps160
  go_wp2_with (with_reducible refine wpList_copy_splice rfl _ _ 37 37 rfl 3 Try.underlying37 rfl _ _ m m r.l.length cu rfl rfl (w.heap.size + 2) 0 (List.replicate m (Value.int .i64 0)) 3 ?c1 (r.l.map (Value.int .i64)) ?c2 ?c3 ?c4 ?c5 (w.heap.size + 2) wc ?c6 (Nat.le_refl _) ?_)
  case c1 =>
    have h := heap_alloc_new ((w.alloc (.cells #[.int .i64 r.b, .int .i64 r.v, .int .i64 r.st, .int .i64 r.k, .int .i64 r.i, .int .i64 r.f, .int .i64 r.t, .int .i64 r.a, .int .i64 r.s, .slice au r.l.length cu] 71)).alloc (.cells #[.int .i64 0, .int .i64 0, .int .i64 0, .int .i64 0, .int .i64 0, .int .i64 0, .int .i64 0, .int .i64 0, .int .i64 0, .slice none 0 0] 71)) (.cells (Array.replicate m (Value.int .i64 0)) 3)
    rw [HZ.out] at h
    rw [h]
    simp
  case c2 =>
    rw [List.length_map, HL.out]
    exact (Nat.min_self m).symm
  case c3 =>
    intro hp
    have hp' : 0 < r.l.length := by simpa using hp
    obtain ⟨b, off, rfl, hc⟩ := HCU.out hp'
    refine ⟨_, rfl, fun j z hj => ?_⟩
    have hj5 : j < r.l.length := (List.getElem?_eq_some_iff.1 hj).1
    have hx := xb.cell (hc j hj5)
    rw [HWC.out] at hx
    rw [show (⟨b, off, none⟩ : Addr).add j = ⟨b, off + j, none⟩ by simp [Addr.add], hx, hj]
    rfl
  case c4 =>
    rw [List.length_map, List.length_replicate, HL.out]; omega
  case c5 =>
    intro z hz
    obtain ⟨q, _, rfl⟩ := List.mem_map.1 hz
    rfl
  case c6 => rw [HWC.out]; exact Below.refl _ _
  intro w' HG hb
  have hg := HG.out
  rw [splice_all m r.l HL.out] at hg
  have hso : w.heap.size + 2 ≤ wc.heap.size := by rw [HWC.out]; simp
  have x2 : Ext w w' := Below.trans xb (Below.mono hb (by omega))
  have hfr : Fresh (w.heap.size + 2) w' (.slice (some ⟨w.heap.size + 2, 0, none⟩) m m) r.l := by
    refine ⟨by simp, .inr ⟨w.heap.size + 2, m, (r.l.map (Value.int .i64)).toArray, by rw [HL.out], Nat.le_refl _, hg, by rw [HL.out]; exact Nat.le_refl _, by unfold maxLen; omega, by simp [HL.out], by simp [← List.map_take]⟩⟩
  have hlow : ∀ b o, b < w.heap.size + 2 → w'.cell? ⟨b, o, none⟩ = wc.cell? ⟨b, o, none⟩ := fun b o hbo => hb.cell (p := ⟨b, o, none⟩) hbo
  have hfro : ∀ b o, b < w.heap.size + 2 → w'.frozen? ⟨b, o, none⟩ = wc.frozen? ⟨b, o, none⟩ := fun b o hbo => hb.frozen (p := ⟨b, o, none⟩) hbo
  have xo : Ext ((w.alloc (.cells #[.int .i64 r.b, .int .i64 r.v, .int .i64 r.st, .int .i64 r.k, .int .i64 r.i, .int .i64 r.f, .int .i64 r.t, .int .i64 r.a, .int .i64 r.s, .slice au r.l.length cu] 71)).alloc (.cells #[.int .i64 0, .int .i64 0, .int .i64 0, .int .i64 0, .int .i64 0, .int .i64 0, .int .i64 0, .int .i64 0, .int .i64 0, .slice none 0 0] 71)) wc := by rw [HWC.out]; exact Ext.alloc1 ((w.alloc (.cells #[.int .i64 r.b, .int .i64 r.v, .int .i64 r.st, .int .i64 r.k, .int .i64 r.i, .int .i64 r.f, .int .i64 r.t, .int .i64 r.a, .int .i64 r.s, .slice au r.l.length cu] 71)).alloc (.cells #[.int .i64 0, .int .i64 0, .int .i64 0, .int .i64 0, .int .i64 0, .int .i64 0, .int .i64 0, .int .i64 0, .int .i64 0, .slice none 0 0] 71)) (.cells (Array.replicate m (Value.int .i64 0)) 3)
  obtain ⟨p0, p1, p2, p3, p4, p5, p6, p7, p8, p9⟩ := HO.out.1.1.ext xo
  obtain ⟨y0, y1, y2, y3, y4, y5, y6, y7, y8, y9⟩ := HO.out.1.2.ext (by rw [HZ.out]; omega) xo
  obtain ⟨o0, o1, o2, o3, o4, o5, o6, o7, o8, o9⟩ := HO.out.2.1.ext xo
  obtain ⟨z0, z1, z2, z3, z4, z5, z6, z7, z8, z9⟩ := HO.out.2.2.ext (by rw [HZ.out]; omega) xo
  have l0 : w.heap.size < w.heap.size + 2 := by omega
  have l1 : w.heap.size + 1 < w.heap.size + 2 := by omega
  rw [← hlow _ _ l0] at p0 p1 p2 p3 p4 p5 p6 p7 p8 p9
  rw [← hfro _ _ l0] at y0 y1 y2 y3 y4 y5 y6 y7 y8 y9
  rw [← hlow _ _ l1] at o0 o1 o2 o3 o4 o5 o6 o7 o8 o9
  rw [← hfro _ _ l1] at z0 z1 z2 z3 z4 z5 z6 z7 z8 z9
  have F := Lib.hid hfr
  clear hlow hfro hg HG hb l0 l1 hfr xo hso hmk hlen0 hcap1
  go_wp2
  refine bodyPost_ret (v := .agg #[.int .i64 r.b, .int .i64 r.v, .int .i64 r.st, .int .i64 r.k, .int .i64 r.i, .int .i64 r.f, .int .i64 r.t, .int .i64 r.a, .int .i64 r.s, .slice (some ⟨w.heap.size + 2, 0, none⟩) m m]) (by simp [results, Try.results160, go_sem, o0, o1, o2, o3, o4, o5, o6, o7, o8, o9]) rfl ⟨_, rfl, ?_, ?_⟩
  · exact (((((((((((F.out.set _ _ _ (by omega)).set _ _ _ (by omega)).set _ _ _ (by omega)).set _ _ _ (by omega)).set _ _ _ (by omega)).set _ _ _ (by omega)).set _ _ _ (by omega)).set _ _ _ (by omega)).set _ _ _ (by omega)).set _ _ _ (by omega)).set _ _ _ (by omega)).more (by omega)
  · exact (((((((((((x2.setc (by dsimp only; omega)).setc (by dsimp only; omega)).setc (by dsimp only; omega)).setc (by dsimp only; omega)).setc (by dsimp only; omega)).setc (by dsimp only; omega)).setc (by dsimp only; omega)).setc (by dsimp only; omega)).setc (by dsimp only; omega)).setc (by dsimp only; omega)).setc (by dsimp only; omega))

theorem copyRow_any (n : Int) (r : RowD) (u : Value) (w : World) (hn : isGrp n = true) (hv : Ints w u r.l) (hl : (r.l.length : Int) = n) :
    Calls Try.prog 160 #[.int .i64 n, .agg #[.int .i64 r.b, .int .i64 r.v, .int .i64 r.st, .int .i64 r.k, .int .i64 r.i, .int .i64 r.f, .int .i64 r.t, .int .i64 r.a, .int .i64 r.s, u]] w (NewRow r w) := by
  obtain ⟨m, rfl, hm⟩ := nat_of_grp hn
  exact copyRow_nat m hm r u w hv (by omega)

theorem res_row (w : World) (T : TypeId) : RowAt (w.alloc (.cells #[.int .i64 0, .int .i64 0, .int .i64 0, .int .i64 0, .int .i64 0, .int .i64 0, .int .i64 0, .int .i64 0, .int .i64 0, .slice none 0 0] T)) w.heap.size ⟨0, 0, 0, 0, 0, 0, 0, 0, 0, []⟩ (.slice none 0 0) ∧
    FreeAt (w.alloc (.cells #[.int .i64 0, .int .i64 0, .int .i64 0, .int .i64 0, .int .i64 0, .int .i64 0, .int .i64 0, .int .i64 0, .int .i64 0, .slice none 0 0] T)) w.heap.size := by
  refine ⟨⟨?_, ?_, ?_, ?_, ?_, ?_, ?_, ?_, ?_, ?_⟩, ⟨?_, ?_, ?_, ?_, ?_, ?_, ?_, ?_, ?_, ?_⟩⟩ <;> go_simp

set_option maxRecDepth 100000 in
set_option maxHeartbeats 2000000 in
theorem emptyRow_any (n : Int) (w : World) (hn : isGrp n = true) :
    Calls Try.prog 161 #[.int .i64 n] w (NewRow (emptyR n) w) := by
  obtain ⟨L, hL⟩ : ∃ L, L = noneL n := ⟨_, rfl⟩
  have hc := fun W => joinNone_any n W hn
  have hLE : emptyR n = ⟨0, 0, 0, 0, 0, 0, 0, 0, 0, L⟩ := by rw [hL]; rfl
  rw [← hL] at hc
  rw [hLE]
  have HC := Lib.hid hc
  have HO := Lib.hid (res_row w 71)
  clear hL hc hLE hn
  go_enter Try.func161, Try.ntmps161
  go_wp2_with fail
  refine (HC.out _).mono ?_
  rintro e w1 ⟨v, rfl, f1, x1⟩
  have hx := (Ext.alloc1 w _).trans x1
  obtain ⟨o0, o1, o2, o3, o4, o5, o6, o7, o8, o9⟩ := HO.out.1.ext x1
  obtain ⟨z0, z1, z2, z3, z4, z5, z6, z7, z8, z9⟩ := HO.out.2.ext (by simp) x1
  obtain ⟨ay, cy, rfl⟩ := f1.form
  rw [World.size_alloc] at f1
  have F := Lib.hid f1
  clear f1 x1
  go_wp2
  refine bodyPost_ret (v := .agg #[.int .i64 0, .int .i64 0, .int .i64 0, .int .i64 0, .int .i64 0, .int .i64 0, .int .i64 0, .int .i64 0, .int .i64 0, .slice ay L.length cy]) (by simp [results, Try.results161, go_sem, o0, o1, o2, o3, o4, o5, o6, o7, o8, o9]) rfl ⟨_, rfl, ?_, ?_⟩
  · exact ((((((((((F.out.set _ _ _ (by omega)).set _ _ _ (by omega)).set _ _ _ (by omega)).set _ _ _ (by omega)).set _ _ _ (by omega)).set _ _ _ (by omega)).set _ _ _ (by omega)).set _ _ _ (by omega)).set _ _ _ (by omega)).set _ _ _ (by omega)).more (by omega)
  · exact ((((((((((hx.setc (Nat.le_refl _)).setc (Nat.le_refl _)).setc (Nat.le_refl _)).setc (Nat.le_refl _)).setc (Nat.le_refl _)).setc (Nat.le_refl _)).setc (Nat.le_refl _)).setc (Nat.le_refl _)).setc (Nat.le_refl _)).setc (Nat.le_refl _))

end Go.Proofs.Ythnoeknalpnadaa
