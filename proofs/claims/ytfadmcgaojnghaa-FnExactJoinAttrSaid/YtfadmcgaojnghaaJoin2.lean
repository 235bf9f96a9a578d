/- Contract of the program's joinAttrs at two attributes. -/
import Derived.Test.YtfadmcgaojnghaaNone
namespace Go.Proofs.Ytfadmcgaojnghaa
open Go.RowKit
set_option linter.unusedVariables false

def mx (x y : Int) : Int := if x < y then y else x
theorem mx_eq (x y : Int) : (if y > x then y else x) = mx x y := rfl

theorem index5_0 (l : List Int) (W : World) : (Instr.index 47 (.agg (five l)) (.int .i64 0)).run Try.prog W = .ok (.int .i64 (at0 l 0)) W := by kernel_rfl
theorem index5_1 (l : List Int) (W : World) : (Instr.index 47 (.agg (five l)) (.int .i64 1)).run Try.prog W = .ok (.int .i64 (at0 l 1)) W := by kernel_rfl
theorem index5_2 (l : List Int) (W : World) : (Instr.index 47 (.agg (five l)) (.int .i64 2)).run Try.prog W = .ok (.int .i64 (at0 l 2)) W := by kernel_rfl
theorem index5_3 (l : List Int) (W : World) : (Instr.index 47 (.agg (five l)) (.int .i64 3)).run Try.prog W = .ok (.int .i64 (at0 l 3)) W := by kernel_rfl
theorem index5_4 (l : List Int) (W : World) : (Instr.index 47 (.agg (five l)) (.int .i64 4)).run Try.prog W = .ok (.int .i64 (at0 l 4)) W := by kernel_rfl

/-- After j numbers. -/
def mixed (d l : List Int) (j i : Nat) : Int := if i < j then mx (at0 d i) (at0 l i) else at0 d i
def MixAt (w : World) (b : Nat) (d l : List Int) (j : Nat) : Prop := FiveAt w b (mixed d l j 0) (mixed d l j 1) (mixed d l j 2) (mixed d l j 3) (mixed d l j 4)

def sOf (s0 s1 : Int) (k : Nat) : Int := if k = 0 then 0 else if k = 1 then mx 0 s0 else mx (mx 0 s0) s1
def dOf (l0 l1 : List Int) (k : Nat) : List Int := (List.range 5).map fun i => if k = 0 then 0 else if k = 1 then mx 0 (at0 l0 i) else mx (mx 0 (at0 l0 i)) (at0 l1 i)
theorem FiveAt.ext {w w' : World} {b : Nat} {x0 x1 x2 x3 x4 : Int} (h : FiveAt w b x0 x1 x2 x3 x4) (e : Ext w w') : FiveAt w' b x0 x1 x2 x3 x4 := e.block h
theorem five_cases {j : Nat} (h : j < 5) : j = 0 ∨ j = 1 ∨ j = 2 ∨ j = 3 ∨ j = 4 := by omega
theorem index5 (l : List Int) (j : Nat) (h : j < 5) (W : World) : (Instr.index 47 (.agg (five l)) (.int .i64 j)).run Try.prog W = .ok (.int .i64 (at0 l j)) W := by
  rcases five_cases h with rfl | rfl | rfl | rfl | rfl
  · exact index5_0 l W
  · exact index5_1 l W
  · exact index5_2 l W
  · exact index5_3 l W
  · exact index5_4 l W
theorem mix_cell {w : World} {b : Nat} {d l : List Int} {j : Nat} (h : MixAt w b d l j) (hj : j < 5) : w.cell? ⟨b, j, none⟩ = some (.int .i64 (at0 d j)) := by
  rw [cell_of_row w b j _ _ _ h]
  rcases five_cases hj with rfl | rfl | rfl | rfl | rfl <;> simp [mixed]
theorem mix_free {w : World} {b : Nat} {d l : List Int} {j : Nat} (h : MixAt w b d l j) (i : Nat) : w.frozen? ⟨b, i, none⟩ = false := frozen_of_row w b i _ _ h
theorem mix_store {w : World} {b : Nat} {d l : List Int} {j : Nat} (h : MixAt w b d l j) (hj : j < 5) : MixAt (w.setCell ⟨b, j, none⟩ (.int .i64 (mx (at0 d j) (at0 l j)))) b d l (j + 1) := by
  have hs := heap_setCell_same w b j _ _ (.int .i64 (mx (at0 d j) (at0 l j))) h
  unfold MixAt FiveAt
  rw [hs]
  rcases five_cases hj with rfl | rfl | rfl | rfl | rfl <;> simp [mixed]
theorem mix_all0 {w : World} {b : Nat} {l0 l1 : List Int} (h : MixAt w b (dOf l0 l1 0) l0 5) : FiveAt w b (at0 (dOf l0 l1 1) 0) (at0 (dOf l0 l1 1) 1) (at0 (dOf l0 l1 1) 2) (at0 (dOf l0 l1 1) 3) (at0 (dOf l0 l1 1) 4) := h
theorem mix_all1 {w : World} {b : Nat} {l0 l1 : List Int} (h : MixAt w b (dOf l0 l1 1) l1 5) : FiveAt w b (at0 (dOf l0 l1 2) 0) (at0 (dOf l0 l1 2) 1) (at0 (dOf l0 l1 2) 2) (at0 (dOf l0 l1 2) 3) (at0 (dOf l0 l1 2) 4) := h
theorem mix_zero {w : World} {b : Nat} {d l : List Int} (h : FiveAt w b (at0 d 0) (at0 d 1) (at0 d 2) (at0 d 3) (at0 d 4)) : MixAt w b d l 0 := by
  unfold MixAt; simpa [mixed] using h

/-- The attributes lie side by side in a block. -/
def TwoAt (w : World) (b : Nat) (s0 : Int) (u0 : Value) (s1 : Int) (u1 : Value) : Prop :=
  w.cell? ⟨b, 0, none⟩ = some (.int .i64 s0) ∧ w.cell? ⟨b, 1, none⟩ = some u0 ∧ w.cell? ⟨b, 2, none⟩ = some (.int .i64 s1) ∧ w.cell? ⟨b, 3, none⟩ = some u1


set_option maxRecDepth 100000 in
set_option maxHeartbeats 4000000 in
theorem joinAttrs_two (n : Int) (hn : isGrp n = true) (ab : Nat) (s0 s1 : Int) (u0 u1 : Value) (l0 l1 : List Int) (w : World) (h0 : Ints w u0 l0) (h1 : Ints w u1 l1) (hA : TwoAt w ab s0 u0 s1 u1) :
    Calls Try.prog 30 #[.int .i64 n, .slice (some ⟨ab, 0, none⟩) 2 2] w (NewAttr (sOf s0 s1 2) ((dOf l0 l1 2).take n.toNat) w) := by
  have HN := Lib.hid hn
  have HA := Lib.hid hA
  have H0 := Lib.hid h0
  have H1 := Lib.hid h1
  obtain ⟨a0, k0, rfl, _⟩ := h0
  obtain ⟨a1, k1, rfl, _⟩ := h1
  have hlt : ab < w.heap.size := World.block_lt_of_cell? w _ hA.1
  have hmax : ∀ (ts : Array TypeId) (T : TypeId) (W : World) (x y : Int), (Builtin.max_ ts T #[.int .i64 x, .int .i64 y]).run Try.prog W = .ok (.int .i64 (mx x y)) W := fun ts T W x y => by simp only [run_max_int2]; rfl
  clear hn hA
  go_enter Try.func30, Try.ntmps30
  go_wp2
  go_loopw [5, 13] (fun s i wr => ∃ k : Nat, k ≤ 2 ∧ i = .int .i64 k ∧ s = .int .i64 (sOf s0 s1 k) ∧ Hid (FiveAt wr (w.heap.size + 1) (at0 (dOf l0 l1 k) 0) (at0 (dOf l0 l1 k) 1) (at0 (dOf l0 l1 k) 2) (at0 (dOf l0 l1 k) 3) (at0 (dOf l0 l1 k) 4)) ∧ OpenAt wr w.heap.size 0 (.slice none 0 0) ∧ Ext w wr) (fun _ i _ => 2 - (intOf i).toNat)
  case atStart => exact ⟨0, by omega, rfl, rfl, Lib.hid (by
    have hf := fiveAt_new (w.alloc (.cells #[.int .i64 0, .slice none 0 0] 27)) 0 0 0 0 0
    rw [World.size_alloc] at hf
    simpa [dOf, at0] using hf), open_next _ _ _ _ _, Ext.alloc2 _ _ _⟩
  case round =>
    obtain ⟨k, hk, rfl, rfl, hF, hO, hx⟩ := hrel
    have hk' : k = 0 ∨ k = 1 ∨ k = 2 := by omega
    rcases hk' with rfl | rfl | rfl
    · have HO := Lib.hid (hO.ext (Ext.alloc (Ext.refl _) (.cells #[.int .i64 s0, .slice a0 l0.length k0] 27)))
      have HF := Lib.hid (hF.out.ext (Ext.alloc (Ext.refl _) (.cells #[.int .i64 s0, .slice a0 l0.length k0] 27)))
      have HX := Lib.hid (hx.alloc (.cells #[.int .i64 s0, .slice a0 l0.length k0] 27))
      obtain ⟨g0, g1, -, -⟩ := HA.out
      have g0 := hx.cell g0
      have g1 := hx.cell g1
      clear hO hF hx
      go_wp2_with fail
      refine (depsIn_any _ l0 _ (H0.out.ext HX.out)).mono ?_
      rintro e W1 ⟨rfl, x1⟩
      have O1 := Lib.hid (HO.out.ext x1)
      have F1 := Lib.hid (mix_zero (l := l0) (HF.out.ext x1))
      have X1 := Lib.hid (HX.out.trans x1)
      have hidx := index5 l0
      clear x1 g0 g1
      go_wp2
      go_loopw [24] (fun i W => ∃ j : Nat, j ≤ 5 ∧ i = .int .i64 j ∧ Hid (MixAt W (w.heap.size + 1) (dOf l0 l1 0) l0 j) ∧ OpenAt W w.heap.size 0 (.slice none 0 0) ∧ Ext w W) (fun i _ => 5 - (intOf i).toNat)
      case atStart => exact ⟨0, by omega, rfl, F1, O1.out, X1.out⟩
      case round =>
        obtain ⟨j, hj, rfl, hM, hO2, hx2⟩ := hrel
        by_cases hlt5 : j < 5
        · have gD := mix_cell hM.out hlt5
          have gF := mix_free hM.out j
          have hi := hidx j hlt5
          clear hidx
          go_wp2
          go_roundw
          case rel => exact ⟨j + 1, by omega, by go_num, Lib.hid (mix_store hM.out hlt5), by
            obtain ⟨⟨a, b⟩, c, d⟩ := hO2
            refine ⟨⟨?_, ?_⟩, ?_, ?_⟩ <;> go_simp, hx2.setc (Nat.le_succ _)⟩
          case measure => simp [intOf]; omega
        · obtain rfl : j = 5 := by omega
          have HF2 := Lib.hid (mix_all0 hM.out)
          clear hidx
          go_wp2
          go_roundw
          case rel => exact ⟨1, by omega, rfl, rfl, HF2, hO2, hx2⟩
          case measure => simp [intOf]
    · have HO := Lib.hid (hO.ext (Ext.alloc (Ext.refl _) (.cells #[.int .i64 s1, .slice a1 l1.length k1] 27)))
      have HF := Lib.hid (hF.out.ext (Ext.alloc (Ext.refl _) (.cells #[.int .i64 s1, .slice a1 l1.length k1] 27)))
      have HX := Lib.hid (hx.alloc (.cells #[.int .i64 s1, .slice a1 l1.length k1] 27))
      obtain ⟨-, -, g0, g1⟩ := HA.out
      have g0 := hx.cell g0
      have g1 := hx.cell g1
      clear hO hF hx
      go_wp2_with fail
      refine (depsIn_any _ l1 _ (H1.out.ext HX.out)).mono ?_
      rintro e W1 ⟨rfl, x1⟩
      have O1 := Lib.hid (HO.out.ext x1)
      have F1 := Lib.hid (mix_zero (l := l1) (HF.out.ext x1))
      have X1 := Lib.hid (HX.out.trans x1)
      have hidx := index5 l1
      clear x1 g0 g1
      go_wp2
      go_loopw [24] (fun i W => ∃ j : Nat, j ≤ 5 ∧ i = .int .i64 j ∧ Hid (MixAt W (w.heap.size + 1) (dOf l0 l1 1) l1 j) ∧ OpenAt W w.heap.size 0 (.slice none 0 0) ∧ Ext w W) (fun i _ => 5 - (intOf i).toNat)
      case atStart => exact ⟨0, by omega, rfl, F1, O1.out, X1.out⟩
      case round =>
        obtain ⟨j, hj, rfl, hM, hO2, hx2⟩ := hrel
        by_cases hlt5 : j < 5
        · have gD := mix_cell hM.out hlt5
          have gF := mix_free hM.out j
          have hi := hidx j hlt5
          clear hidx
          go_wp2
          go_roundw
          case rel => exact ⟨j + 1, by omega, by go_num, Lib.hid (mix_store hM.out hlt5), by
            obtain ⟨⟨a, b⟩, c, d⟩ := hO2
            refine ⟨⟨?_, ?_⟩, ?_, ?_⟩ <;> go_simp, hx2.setc (Nat.le_succ _)⟩
          case measure => simp [intOf]; omega
        · obtain rfl : j = 5 := by omega
          have HF2 := Lib.hid (mix_all1 hM.out)
          clear hidx
          go_wp2
          go_roundw
          case rel => exact ⟨2, by omega, rfl, rfl, HF2, hO2, hx2⟩
          case measure => simp [intOf]
    · have HI := Lib.hid (five_ints hF.out)
      obtain ⟨⟨c0, c1⟩, z0, z1⟩ := hO
      have HO := Lib.hid (show OpenAt wr w.heap.size 0 (.slice none 0 0) from ⟨⟨c0, c1⟩, z0, z1⟩)
      have hD : w.heap.size + 1 < wr.heap.size := (Array.getElem?_eq_some_iff.1 hF.out).1
      rcases isGrp_of HN.out with rfl | rfl
      · have hT : List.take (3 : Int).toNat (dOf l0 l1 2) = [at0 (dOf l0 l1 2) 0, at0 (dOf l0 l1 2) 1, at0 (dOf l0 l1 2) 2] := rfl
        obtain ⟨x0, hx0⟩ : ∃ x, x = at0 (dOf l0 l1 2) 0 := ⟨_, rfl⟩
        obtain ⟨x1, hx1⟩ : ∃ x, x = at0 (dOf l0 l1 2) 1 := ⟨_, rfl⟩
        obtain ⟨x2, hx2⟩ : ∃ x, x = at0 (dOf l0 l1 2) 2 := ⟨_, rfl⟩
        have hI3 := HI.out 3 (by omega)
        rw [← hx0, ← hx1, ← hx2] at hI3 hT
        have HT := Lib.hid hT
        have HI3 := Lib.hid hI3
        clear hF hT hx0 hx1 hx2 hI3 c0 c1 z0 z1
        go_wp2_with fail
        refine (clone_any ⟨w.heap.size + 1, 0, none⟩ 5 [x0, x1, x2] _ HI3.out (by simp)).mono ?_
        rintro e W1 ⟨v, rfl, f1, y1⟩
        obtain ⟨av, cv, rfl⟩ := f1.form
        obtain ⟨⟨c0, c1⟩, z0, z1⟩ := HO.out.ext y1
        have hy := hx.trans y1
        have F := Lib.hid f1
        clear f1 y1
        go_wp2
        refine bodyPost_ret (v := .agg #[.int .i64 (sOf s0 s1 2), .slice av 3 cv]) (by simp [results, Try.results30, go_sem, c0, c1]) rfl ⟨_, rfl, ?_, (hy.setc (Nat.le_refl _)).setc (Nat.le_refl _)⟩
        have hB : w.heap.size < wr.heap.size := by omega
        have F2 := (F.out.set w.heap.size 0 (.int .i64 (sOf s0 s1 2)) hB).set w.heap.size 1 (.slice av 3 cv) hB
        rw [HT.out]
        exact F2.more (Nat.le_of_lt hB)
      · have hT : List.take (5 : Int).toNat (dOf l0 l1 2) = [at0 (dOf l0 l1 2) 0, at0 (dOf l0 l1 2) 1, at0 (dOf l0 l1 2) 2, at0 (dOf l0 l1 2) 3, at0 (dOf l0 l1 2) 4] := rfl
        obtain ⟨x0, hx0⟩ : ∃ x, x = at0 (dOf l0 l1 2) 0 := ⟨_, rfl⟩
        obtain ⟨x1, hx1⟩ : ∃ x, x = at0 (dOf l0 l1 2) 1 := ⟨_, rfl⟩
        obtain ⟨x2, hx2⟩ : ∃ x, x = at0 (dOf l0 l1 2) 2 := ⟨_, rfl⟩
        obtain ⟨x3, hx3⟩ : ∃ x, x = at0 (dOf l0 l1 2) 3 := ⟨_, rfl⟩
        obtain ⟨x4, hx4⟩ : ∃ x, x = at0 (dOf l0 l1 2) 4 := ⟨_, rfl⟩
        have hI3 := HI.out 5 (by omega)
        rw [← hx0, ← hx1, ← hx2, ← hx3, ← hx4] at hI3 hT
        have HT := Lib.hid hT
        have HI3 := Lib.hid hI3
        clear hF hT hx0 hx1 hx2 hx3 hx4 hI3 c0 c1 z0 z1
        go_wp2_with fail
        refine (clone_any ⟨w.heap.size + 1, 0, none⟩ 5 [x0, x1, x2, x3, x4] _ HI3.out (by simp)).mono ?_
        rintro e W1 ⟨v, rfl, f1, y1⟩
        obtain ⟨av, cv, rfl⟩ := f1.form
        obtain ⟨⟨c0, c1⟩, z0, z1⟩ := HO.out.ext y1
        have hy := hx.trans y1
        have F := Lib.hid f1
        clear f1 y1
        go_wp2
        refine bodyPost_ret (v := .agg #[.int .i64 (sOf s0 s1 2), .slice av 5 cv]) (by simp [results, Try.results30, go_sem, c0, c1]) rfl ⟨_, rfl, ?_, (hy.setc (Nat.le_refl _)).setc (Nat.le_refl _)⟩
        have hB : w.heap.size < wr.heap.size := by omega
        have F2 := (F.out.set w.heap.size 0 (.int .i64 (sOf s0 s1 2)) hB).set w.heap.size 1 (.slice av 5 cv) hB
        rw [HT.out]
        exact F2.more (Nat.le_of_lt hB)

end Go.Proofs.Ytfadmcgaojnghaa
