/- Texts of this proof, part f: words, plain facts, contracts. -/
import Derived.Test.YtfffddhfagibpaaMSetRowd
import Derived.Test.YtfffddhfagibpaaMSetRowa
import Derived.Test.YtfffddhfagibpaaMSetRowb
import Derived.ArgAppend

namespace Go.Proofs.Ytfffddhfagibpaa
open Go.RowKit
set_option linter.unusedVariables false

def mx (x y : Int) : Int := if x < y then y else x
theorem mx_eq (x y : Int) : (if y > x then y else x) = mx x y := rfl

theorem index5_0 (l : List Int) (W : World) : (Instr.index 148 (.agg (five l)) (.int .i64 0)).run Try.prog W = .ok (.int .i64 (at0 l 0)) W := by kernel_rfl
theorem index5_1 (l : List Int) (W : World) : (Instr.index 148 (.agg (five l)) (.int .i64 1)).run Try.prog W = .ok (.int .i64 (at0 l 1)) W := by kernel_rfl
theorem index5_2 (l : List Int) (W : World) : (Instr.index 148 (.agg (five l)) (.int .i64 2)).run Try.prog W = .ok (.int .i64 (at0 l 2)) W := by kernel_rfl
theorem index5_3 (l : List Int) (W : World) : (Instr.index 148 (.agg (five l)) (.int .i64 3)).run Try.prog W = .ok (.int .i64 (at0 l 3)) W := by kernel_rfl
theorem index5_4 (l : List Int) (W : World) : (Instr.index 148 (.agg (five l)) (.int .i64 4)).run Try.prog W = .ok (.int .i64 (at0 l 4)) W := by kernel_rfl

/-- After j numbers. -/
def mixed (d l : List Int) (j i : Nat) : Int := if i < j then mx (at0 d i) (at0 l i) else at0 d i
def MixAt (w : World) (b : Nat) (d l : List Int) (j : Nat) : Prop := FiveAt w b (mixed d l j 0) (mixed d l j 1) (mixed d l j 2) (mixed d l j 3) (mixed d l j 4)

def sOf (s0 s1 : Int) (k : Nat) : Int := if k = 0 then 0 else if k = 1 then mx 0 s0 else mx (mx 0 s0) s1
def dOf (l0 l1 : List Int) (k : Nat) : List Int := (List.range 5).map fun i => if k = 0 then 0 else if k = 1 then mx 0 (at0 l0 i) else mx (mx 0 (at0 l0 i)) (at0 l1 i)
theorem FiveAt.ext {w w' : World} {b : Nat} {x0 x1 x2 x3 x4 : Int} (h : FiveAt w b x0 x1 x2 x3 x4) (e : Ext w w') : FiveAt w' b x0 x1 x2 x3 x4 := e.block h
theorem five_cases {j : Nat} (h : j < 5) : j = 0 ∨ j = 1 ∨ j = 2 ∨ j = 3 ∨ j = 4 := by omega
theorem index5 (l : List Int) (j : Nat) (h : j < 5) (W : World) : (Instr.index 148 (.agg (five l)) (.int .i64 j)).run Try.prog W = .ok (.int .i64 (at0 l j)) W := by
  rcases five_cases h with rfl | rfl | rfl | rfl | rfl
  · exact index5_0 l W
  · exact index5_1 l W
  · exact index5_2 l W
  · exact index5_3 l W
  · exact index5_4 l W
theorem mix_cell {w : World} {b : Nat} {d l : List Int} {j : Nat} (h : MixAt w b d l j) (hj : j < 5) : w.cell? ⟨b, j, none⟩ = some (.int .i64 (at0 d j)) := by
  rw [cell_of_row w b j _ _ _ h]
  rcases five_cases hj with rfl | rfl | rfl | rfl | rfl <;> simp [mixed]
theorem mix_free {w : World} {b : Nat} {d l : List Int} {j : Nat} (h : MixAt w b d l j) (i : Nat) : w.frozen? ⟨b, i, none⟩ = false := frozen_of_row w b i _ _ h
theorem mix_store {w : World} {b : Nat} {d l : List Int} {j : Nat} (h : MixAt w b d l j) (hj : j < 5) : MixAt (w.setCell ⟨b, j, none⟩ (.int .i64 (mx (at0 d j) (at0 l j)))) b d l (j + 1) := by
  have hs := heap_setCell_same w b j _ _ (.int .i64 (mx (at0 d j) (at0 l j))) h
  unfold MixAt FiveAt
  rw [hs]
  rcases five_cases hj with rfl | rfl | rfl | rfl | rfl <;> simp [mixed]
theorem mix_all0 {w : World} {b : Nat} {l0 l1 : List Int} (h : MixAt w b (dOf l0 l1 0) l0 5) : FiveAt w b (at0 (dOf l0 l1 1) 0) (at0 (dOf l0 l1 1) 1) (at0 (dOf l0 l1 1) 2) (at0 (dOf l0 l1 1) 3) (at0 (dOf l0 l1 1) 4) := h
theorem mix_all1 {w : World} {b : Nat} {l0 l1 : List Int} (h : MixAt w b (dOf l0 l1 1) l1 5) : FiveAt w b (at0 (dOf l0 l1 2) 0) (at0 (dOf l0 l1 2) 1) (at0 (dOf l0 l1 2) 2) (at0 (dOf l0 l1 2) 3) (at0 (dOf l0 l1 2) 4) := h
theorem mix_zero {w : World} {b : Nat} {d l : List Int} (h : FiveAt w b (at0 d 0) (at0 d 1) (at0 d 2) (at0 d 3) (at0 d 4)) : MixAt w b d l 0 := by
  unfold MixAt; simpa [mixed] using h

/-- The attributes lie side by side in a block. -/
def TwoAt (w : World) (b : Nat) (s0 : Int) (u0 : Value) (s1 : Int) (u1 : Value) : Prop :=
  w.cell? ⟨b, 0, none⟩ = some (.int .i64 s0) ∧ w.cell? ⟨b, 1, none⟩ = some u0 ∧ w.cell? ⟨b, 2, none⟩ = some (.int .i64 s1) ∧ w.cell? ⟨b, 3, none⟩ = some u1


set_option maxRecDepth 100000 in
set_option maxHeartbeats 4000000 in
theorem joinAttrs_two (n : Int) (hn : isGrp n = true) (ab : Nat) (s0 s1 : Int) (u0 u1 : Value) (l0 l1 : List Int) (w : World) (h0 : Ints w u0 l0) (h1 : Ints w u1 l1) (hA : TwoAt w ab s0 u0 s1 u1) :
    Calls Try.prog 98 #[.int .i64 n, .slice (some ⟨ab, 0, none⟩) 2 2] w (NewAttr (sOf s0 s1 2) ((dOf l0 l1 2).take n.toNat) w) := by
  have HN := Lib.hid hn
  have HA := Lib.hid hA
  have H0 := Lib.hid h0
  have H1 := Lib.hid h1
  obtain ⟨a0, k0, rfl, _⟩ := h0
  obtain ⟨a1, k1, rfl, _⟩ := h1
  have hlt : ab < w.heap.size := World.block_lt_of_cell? w _ hA.1
  have hmax : ∀ (ts : Array TypeId) (T : TypeId) (W : World) (x y : Int), (Builtin.max_ ts T #[.int .i64 x, .int .i64 y]).run Try.prog W = .ok (.int .i64 (mx x y)) W := fun ts T W x y => by simp only [run_max_int2]; rfl
  clear hn hA
  go_enter Try.func98, Try.ntmps98
  go_wp2
  go_loopw [5, 13] (fun s i wr => ∃ k : Nat, k ≤ 2 ∧ i = .int .i64 k ∧ s = .int .i64 (sOf s0 s1 k) ∧ Hid (FiveAt wr (w.heap.size + 1) (at0 (dOf l0 l1 k) 0) (at0 (dOf l0 l1 k) 1) (at0 (dOf l0 l1 k) 2) (at0 (dOf l0 l1 k) 3) (at0 (dOf l0 l1 k) 4)) ∧ OpenAt wr w.heap.size 0 (.slice none 0 0) ∧ Ext w wr) (fun _ i _ => 2 - (intOf i).toNat)
  case atStart => exact ⟨0, by omega, rfl, rfl, Lib.hid (by
    have hf := fiveAt_new (w.alloc (.cells #[.int .i64 0, .slice none 0 0] 71)) 0 0 0 0 0
    rw [World.size_alloc] at hf
    simpa [dOf, at0] using hf), open_next _ _ _ _ _, Ext.alloc2 _ _ _⟩
  case round =>
    obtain ⟨k, hk, rfl, rfl, hF, hO, hx⟩ := hrel
    have hk' : k = 0 ∨ k = 1 ∨ k = 2 := by omega
    rcases hk' with rfl | rfl | rfl
    · have HO := Lib.hid (hO.ext (Ext.alloc (Ext.refl _) (.cells #[.int .i64 s0, .slice a0 l0.length k0] 71)))
      have HF := Lib.hid (hF.out.ext (Ext.alloc (Ext.refl _) (.cells #[.int .i64 s0, .slice a0 l0.length k0] 71)))
      have HX := Lib.hid (hx.alloc (.cells #[.int .i64 s0, .slice a0 l0.length k0] 71))
      obtain ⟨g0, g1, -, -⟩ := HA.out
      have g0 := hx.cell g0
      have g1 := hx.cell g1
      clear hO hF hx
      go_wp2_with fail
      refine (depsIn_any _ l0 _ (H0.out.ext HX.out)).mono ?_
      rintro e W1 ⟨rfl, x1⟩
      have O1 := Lib.hid (HO.out.ext x1)
      have F1 := Lib.hid (mix_zero (l := l0) (HF.out.ext x1))
      have X1 := Lib.hid (HX.out.trans x1)
      have hidx := index5 l0
      clear x1 g0 g1
      go_wp2
      go_loopw [24] (fun i W => ∃ j : Nat, j ≤ 5 ∧ i = .int .i64 j ∧ Hid (MixAt W (w.heap.size + 1) (dOf l0 l1 0) l0 j) ∧ OpenAt W w.heap.size 0 (.slice none 0 0) ∧ Ext w W) (fun i _ => 5 - (intOf i).toNat)
      case atStart => exact ⟨0, by omega, rfl, F1, O1.out, X1.out⟩
      case round =>
        obtain ⟨j, hj, rfl, hM, hO2, hx2⟩ := hrel
        by_cases hlt5 : j < 5
        · have gD := mix_cell hM.out hlt5
          have gF := mix_free hM.out j
          have hi := hidx j hlt5
          clear hidx
          go_wp2
          go_roundw
          case rel => exact ⟨j + 1, by omega, by go_num, Lib.hid (mix_store hM.out hlt5), by
            obtain ⟨⟨a, b⟩, c, d⟩ := hO2
            refine ⟨⟨?_, ?_⟩, ?_, ?_⟩ <;> go_simp, hx2.setc (Nat.le_succ _)⟩
          case measure => simp [intOf]; omega
        · obtain rfl : j = 5 := by omega
          have HF2 := Lib.hid (mix_all0 hM.out)
          clear hidx
          go_wp2
          go_roundw
          case rel => exact ⟨1, by omega, rfl, rfl, HF2, hO2, hx2⟩
          case measure => simp [intOf]
    · have HO := Lib.hid (hO.ext (Ext.alloc (Ext.refl _) (.cells #[.int .i64 s1, .slice a1 l1.length k1] 71)))
      have HF := Lib.hid (hF.out.ext (Ext.alloc (Ext.refl _) (.cells #[.int .i64 s1, .slice a1 l1.length k1] 71)))
      have HX := Lib.hid (hx.alloc (.cells #[.int .i64 s1, .slice a1 l1.length k1] 71))
      obtain ⟨-, -, g0, g1⟩ := HA.out
      have g0 := hx.cell g0
      have g1 := hx.cell g1
      clear hO hF hx
      go_wp2_with fail
      refine (depsIn_any _ l1 _ (H1.out.ext HX.out)).mono ?_
      rintro e W1 ⟨rfl, x1⟩
      have O1 := Lib.hid (HO.out.ext x1)
      have F1 := Lib.hid (mix_zero (l := l1) (HF.out.ext x1))
      have X1 := Lib.hid (HX.out.trans x1)
      have hidx := index5 l1
      clear x1 g0 g1
      go_wp2
      go_loopw [24] (fun i W => ∃ j : Nat, j ≤ 5 ∧ i = .int .i64 j ∧ Hid (MixAt W (w.heap.size + 1) (dOf l0 l1 1) l1 j) ∧ OpenAt W w.heap.size 0 (.slice none 0 0) ∧ Ext w W) (fun i _ => 5 - (intOf i).toNat)
      case atStart => exact ⟨0, by omega, rfl, F1, O1.out, X1.out⟩
      case round =>
        obtain ⟨j, hj, rfl, hM, hO2, hx2⟩ := hrel
        by_cases hlt5 : j < 5
        · have gD := mix_cell hM.out hlt5
          have gF := mix_free hM.out j
          have hi := hidx j hlt5
          clear hidx
          go_wp2
          go_roundw
          case rel => exact ⟨j + 1, by omega, by go_num, Lib.hid (mix_store hM.out hlt5), by
            obtain ⟨⟨a, b⟩, c, d⟩ := hO2
            refine ⟨⟨?_, ?_⟩, ?_, ?_⟩ <;> go_simp, hx2.setc (Nat.le_succ _)⟩
          case measure => simp [intOf]; omega
        · obtain rfl : j = 5 := by omega
          have HF2 := Lib.hid (mix_all1 hM.out)
          clear hidx
          go_wp2
          go_roundw
          case rel => exact ⟨2, by omega, rfl, rfl, HF2, hO2, hx2⟩
          case measure => simp [intOf]
    · have HI := Lib.hid (five_ints hF.out)
      obtain ⟨⟨c0, c1⟩, z0, z1⟩ := hO
      have HO := Lib.hid (show OpenAt wr w.heap.size 0 (.slice none 0 0) from ⟨⟨c0, c1⟩, z0, z1⟩)
      have hD : w.heap.size + 1 < wr.heap.size := (Array.getElem?_eq_some_iff.1 hF.out).1
      rcases isGrp_of HN.out with rfl | rfl
      · have hT : List.take (3 : Int).toNat (dOf l0 l1 2) = [at0 (dOf l0 l1 2) 0, at0 (dOf l0 l1 2) 1, at0 (dOf l0 l1 2) 2] := rfl
        obtain ⟨x0, hx0⟩ : ∃ x, x = at0 (dOf l0 l1 2) 0 := ⟨_, rfl⟩
        obtain ⟨x1, hx1⟩ : ∃ x, x = at0 (dOf l0 l1 2) 1 := ⟨_, rfl⟩
        obtain ⟨x2, hx2⟩ : ∃ x, x = at0 (dOf l0 l1 2) 2 := ⟨_, rfl⟩
        have hI3 := HI.out 3 (by omega)
        rw [← hx0, ← hx1, ← hx2] at hI3 hT
        have HT := Lib.hid hT
        have HI3 := Lib.hid hI3
        clear hF hT hx0 hx1 hx2 hI3 c0 c1 z0 z1
        go_wp2_with fail
        refine (clone_any ⟨w.heap.size + 1, 0, none⟩ 5 [x0, x1, x2] _ HI3.out (by simp)).mono ?_
        rintro e W1 ⟨v, rfl, f1, y1⟩
        obtain ⟨av, cv, rfl⟩ := f1.form
        obtain ⟨⟨c0, c1⟩, z0, z1⟩ := HO.out.ext y1
        have hy := hx.trans y1
        have F := Lib.hid f1
        clear f1 y1
        go_wp2
        refine bodyPost_ret (v := .agg #[.int .i64 (sOf s0 s1 2), .slice av 3 cv]) (by simp [results, Try.results98, go_sem, c0, c1]) rfl ⟨_, rfl, ?_, (hy.setc (Nat.le_refl _)).setc (Nat.le_refl _)⟩
        have hB : w.heap.size < wr.heap.size := by omega
        have F2 := (F.out.set w.heap.size 0 (.int .i64 (sOf s0 s1 2)) hB).set w.heap.size 1 (.slice av 3 cv) hB
        rw [HT.out]
        exact F2.more (Nat.le_of_lt hB)
      · have hT : List.take (5 : Int).toNat (dOf l0 l1 2) = [at0 (dOf l0 l1 2) 0, at0 (dOf l0 l1 2) 1, at0 (dOf l0 l1 2) 2, at0 (dOf l0 l1 2) 3, at0 (dOf l0 l1 2) 4] := rfl
        obtain ⟨x0, hx0⟩ : ∃ x, x = at0 (dOf l0 l1 2) 0 := ⟨_, rfl⟩
        obtain ⟨x1, hx1⟩ : ∃ x, x = at0 (dOf l0 l1 2) 1 := ⟨_, rfl⟩
        obtain ⟨x2, hx2⟩ : ∃ x, x = at0 (dOf l0 l1 2) 2 := ⟨_, rfl⟩
        obtain ⟨x3, hx3⟩ : ∃ x, x = at0 (dOf l0 l1 2) 3 := ⟨_, rfl⟩
        obtain ⟨x4, hx4⟩ : ∃ x, x = at0 (dOf l0 l1 2) 4 := ⟨_, rfl⟩
        have hI3 := HI.out 5 (by omega)
        rw [← hx0, ← hx1, ← hx2, ← hx3, ← hx4] at hI3 hT
        have HT := Lib.hid hT
        have HI3 := Lib.hid hI3
        clear hF hT hx0 hx1 hx2 hx3 hx4 hI3 c0 c1 z0 z1
        go_wp2_with fail
        refine (clone_any ⟨w.heap.size + 1, 0, none⟩ 5 [x0, x1, x2, x3, x4] _ HI3.out (by simp)).mono ?_
        rintro e W1 ⟨v, rfl, f1, y1⟩
        obtain ⟨av, cv, rfl⟩ := f1.form
        obtain ⟨⟨c0, c1⟩, z0, z1⟩ := HO.out.ext y1
        have hy := hx.trans y1
        have F := Lib.hid f1
        clear f1 y1
        go_wp2
        refine bodyPost_ret (v := .agg #[.int .i64 (sOf s0 s1 2), .slice av 5 cv]) (by simp [results, Try.results98, go_sem, c0, c1]) rfl ⟨_, rfl, ?_, (hy.setc (Nat.le_refl _)).setc (Nat.le_refl _)⟩
        have hB : w.heap.size < wr.heap.size := by omega
        have F2 := (F.out.set w.heap.size 0 (.int .i64 (sOf s0 s1 2)) hB).set w.heap.size 1 (.slice av 5 cv) hB
        rw [HT.out]
        exact F2.more (Nat.le_of_lt hB)

end Go.Proofs.Ytfffddhfagibpaa

namespace Go.Proofs.Ytfffddhfagibpaa
open Go.RowKit
set_option linter.unusedVariables false

/-- v is a slice that reads as the attributes A in w. -/
def Attrs (w : World) (v : Value) (A : List (Int × List Int)) : Prop :=
  ∃ ao cap, v = .slice ao A.length cap ∧ A.length ≤ maxLen ∧ (A.length ≤ cap ∧ cap ≤ maxLen ∧ (ao = none → cap = 0)) ∧
    (0 < A.length → ∃ b off, ao = some ⟨b, off, none⟩ ∧ ∀ j (h : j < A.length), ∃ u, w.cell? ⟨b, off + j * 2, none⟩ = some (.int .i64 A[j].1) ∧ w.cell? ⟨b, off + j * 2 + 1, none⟩ = some u ∧ Ints w u A[j].2)
theorem Attrs.ext {w w' : World} {v : Value} {A : List (Int × List Int)} (h : Attrs w v A) (e : Ext w w') : Attrs w' v A := by
  obtain ⟨ao, cap, hv, hm, hcap, hc⟩ := h
  refine ⟨ao, cap, hv, hm, hcap, fun hp => ?_⟩
  obtain ⟨b, off, ha, hc⟩ := hc hp
  refine ⟨b, off, ha, fun j hj => ?_⟩
  obtain ⟨u, h1, h2, h3⟩ := hc j hj
  exact ⟨u, e.cell h1, e.cell h2, h3.ext e⟩
/-- The greatest Seq of the first k, and what they hang on. -/
def sN (A : List (Int × List Int)) (k : Nat) : Int := (A.take k).foldl (fun s x => mx s x.1) 0
def dStep (d l : List Int) : List Int := (List.range 5).map fun i => mx (at0 d i) (at0 l i)
def dN (A : List (Int × List Int)) (k : Nat) : List Int := (A.take k).foldl (fun d x => dStep d x.2) [0, 0, 0, 0, 0]
theorem sN_succ {A : List (Int × List Int)} {k : Nat} (h : k < A.length) : sN A (k + 1) = mx (sN A k) A[k].1 := by
  unfold sN
  rw [List.take_succ_eq_append_getElem h, List.foldl_append]
  rfl
theorem dN_succ {A : List (Int × List Int)} {k : Nat} (h : k < A.length) : dN A (k + 1) = dStep (dN A k) A[k].2 := by
  unfold dN
  rw [List.take_succ_eq_append_getElem h, List.foldl_append]
  rfl
theorem mix_step {w : World} {b : Nat} {d l : List Int} (h : MixAt w b d l 5) : FiveAt w b (at0 (dStep d l) 0) (at0 (dStep d l) 1) (at0 (dStep d l) 2) (at0 (dStep d l) 3) (at0 (dStep d l) 4) := h
theorem dN_len (A : List (Int × List Int)) (k : Nat) : (dN A k).length = 5 := by
  induction k with
  | zero => rfl
  | succ k ih =>
    by_cases h : k < A.length
    · rw [dN_succ h]; simp [dStep]
    · unfold dN at ih ⊢
      rw [List.take_of_length_le (by omega)]
      rw [List.take_of_length_le (by omega)] at ih
      exact ih
theorem take5 {d : List Int} (h : d.length = 5) : d = [at0 d 0, at0 d 1, at0 d 2, at0 d 3, at0 d 4] := by
  match d, h with
  | [a, b, c, e, f], _ => rfl

set_option maxRecDepth 100000 in
set_option maxHeartbeats 4000000 in
theorem joinAttrs_any (n : Int) (hn : isGrp n = true) (v : Value) (A : List (Int × List Int)) (w : World) (hv : Attrs w v A) :
    Calls Try.prog 98 #[.int .i64 n, v] w (NewAttr (sN A A.length) ((dN A A.length).take n.toNat) w) := by
  have HN := Lib.hid hn
  obtain ⟨av, cv, rfl, hlv, _, hcv⟩ := hv
  unfold maxLen at hlv
  have HCV := Lib.hid hcv
  have hmax : ∀ (ts : Array TypeId) (T : TypeId) (W : World) (x y : Int), (Builtin.max_ ts T #[.int .i64 x, .int .i64 y]).run Try.prog W = .ok (.int .i64 (mx x y)) W := fun ts T W x y => by simp only [run_max_int2]; rfl
  clear hn hcv
  go_enter Try.func98, Try.ntmps98
  go_wp2
  go_loopw [5, 13] (fun s i wr => ∃ k : Nat, k ≤ A.length ∧ i = .int .i64 k ∧ s = .int .i64 (sN A k) ∧ Hid (FiveAt wr (w.heap.size + 1) (at0 (dN A k) 0) (at0 (dN A k) 1) (at0 (dN A k) 2) (at0 (dN A k) 3) (at0 (dN A k) 4)) ∧ OpenAt wr w.heap.size 0 (.slice none 0 0) ∧ Ext w wr) (fun _ i _ => A.length - (intOf i).toNat)
  case atStart => exact ⟨0, by omega, rfl, rfl, Lib.hid (by
    have hf := fiveAt_new (w.alloc (.cells #[.int .i64 0, .slice none 0 0] 71)) 0 0 0 0 0
    rw [World.size_alloc] at hf
    simpa [dN, at0] using hf), open_next _ _ _ _ _, Ext.alloc2 _ _ _⟩
  case round =>
    obtain ⟨k, hk, rfl, rfl, hF, hO, hx⟩ := hrel
    by_cases hlt : k < A.length
    · obtain ⟨b, off, rfl, dv⟩ := HCV.out (by omega)
      obtain ⟨x, hxx⟩ : ∃ x, x = A[k] := ⟨_, rfl⟩
      obtain ⟨u, g0, g1, iu⟩ := dv k hlt
      rw [← hxx] at g0 iu
      have HS : Hid (sN A (k + 1) = mx (sN A k) x.1) := Lib.hid (by rw [hxx]; exact sN_succ hlt)
      have HD : Hid (dN A (k + 1) = dStep (dN A k) x.2) := Lib.hid (by rw [hxx]; exact dN_succ hlt)
      have IU := Lib.hid iu
      obtain ⟨au, cu, rfl, hlu, _, _⟩ := iu
      have HO := Lib.hid (hO.ext (Ext.alloc (Ext.refl _) (.cells #[.int .i64 x.1, .slice au x.2.length cu] 71)))
      have HF := Lib.hid (hF.out.ext (Ext.alloc (Ext.refl _) (.cells #[.int .i64 x.1, .slice au x.2.length cu] 71)))
      have HX := Lib.hid (hx.alloc (.cells #[.int .i64 x.1, .slice au x.2.length cu] 71))
      have g0 := hx.cell g0
      have g1 := hx.cell g1
      have hsz : b < wr.heap.size := World.block_lt_of_cell? wr _ g0
      clear hO hF hx dv hxx hlu
      go_wp2_with fail
      refine (depsIn_any _ x.2 _ (IU.out.ext HX.out)).mono ?_
      rintro e W1 ⟨rfl, x1⟩
      have O1 := Lib.hid (HO.out.ext x1)
      have F1 := Lib.hid (mix_zero (l := x.2) (HF.out.ext x1))
      have X1 := Lib.hid (HX.out.trans x1)
      have hidx := index5 x.2
      obtain ⟨D, hD⟩ : ∃ D, D = dN A k := ⟨_, rfl⟩
      rw [← hD] at F1 HD
      clear x1 g0 g1 hsz hD
      go_wp2
      go_loopw [24] (fun i W => ∃ j : Nat, j ≤ 5 ∧ i = .int .i64 j ∧ Hid (MixAt W (w.heap.size + 1) D x.2 j) ∧ OpenAt W w.heap.size 0 (.slice none 0 0) ∧ Ext w W) (fun i _ => 5 - (intOf i).toNat)
      case atStart => exact ⟨0, by omega, rfl, F1, O1.out, X1.out⟩
      case round =>
        obtain ⟨j, hj, rfl, hM, hO2, hx2⟩ := hrel
        by_cases hlt5 : j < 5
        · have gD := mix_cell hM.out hlt5
          have gF := mix_free hM.out j
          have hi := hidx j hlt5
          clear hidx
          go_wp2
          go_roundw
          case rel => exact ⟨j + 1, by omega, by go_num, Lib.hid (mix_store hM.out hlt5), by
            obtain ⟨⟨a, b⟩, c, d⟩ := hO2
            refine ⟨⟨?_, ?_⟩, ?_, ?_⟩ <;> go_simp, hx2.setc (Nat.le_succ _)⟩
          case measure => simp [intOf]; omega
        · obtain rfl : j = 5 := by omega
          have HF2 := mix_step hM.out
          rw [← HD.out] at HF2
          have HF2 := Lib.hid HF2
          clear hidx
          go_wp2
          go_roundw
          case rel => exact ⟨k + 1, by omega, by go_num, by rw [HS.out], HF2, hO2, hx2⟩
          case measure => simp [intOf]; omega
    · obtain rfl : k = A.length := by omega
      have HI := Lib.hid (five_ints hF.out)
      obtain ⟨⟨c0, c1⟩, z0, z1⟩ := hO
      have HO := Lib.hid (show OpenAt wr w.heap.size 0 (.slice none 0 0) from ⟨⟨c0, c1⟩, z0, z1⟩)
      have hD : w.heap.size + 1 < wr.heap.size := (Array.getElem?_eq_some_iff.1 hF.out).1
      obtain ⟨S, hS⟩ : ∃ S, S = sN A A.length := ⟨_, rfl⟩
      obtain ⟨D, hDD⟩ : ∃ D, D = dN A A.length := ⟨_, rfl⟩
      have hD5 : D = [at0 D 0, at0 D 1, at0 D 2, at0 D 3, at0 D 4] := take5 (by rw [hDD]; exact dN_len _ _)
      have HS0 := Lib.hid hS
      have HD0 := Lib.hid hDD
      rw [← hS]
      rw [← hDD] at HI hF
      rcases isGrp_of HN.out with rfl | rfl
      · have hT : List.take (3 : Int).toNat D = [at0 D 0, at0 D 1, at0 D 2] := by rw [hD5]; rfl
        obtain ⟨x0, hx0⟩ : ∃ x, x = at0 D 0 := ⟨_, rfl⟩
        obtain ⟨x1, hx1⟩ : ∃ x, x = at0 D 1 := ⟨_, rfl⟩
        obtain ⟨x2, hx2⟩ : ∃ x, x = at0 D 2 := ⟨_, rfl⟩
        have hI3 := HI.out 3 (by omega)
        rw [← hx0, ← hx1, ← hx2] at hI3 hT
        have HT := Lib.hid hT
        have HI3 := Lib.hid hI3
        clear hF hT hx0 hx1 hx2 hI3 c0 c1 z0 z1 hS hDD hD5
        go_wp2_with fail
        refine (clone_any ⟨w.heap.size + 1, 0, none⟩ 5 [x0, x1, x2] _ HI3.out (by simp)).mono ?_
        rintro e W1 ⟨v, rfl, f1, y1⟩
        obtain ⟨av, cv, rfl⟩ := f1.form
        obtain ⟨⟨c0, c1⟩, z0, z1⟩ := HO.out.ext y1
        have hy := hx.trans y1
        have F := Lib.hid f1
        clear f1 y1
        go_wp2
        refine bodyPost_ret (v := .agg #[.int .i64 S, .slice av 3 cv]) (by simp [results, Try.results98, go_sem, c0, c1]) rfl ⟨_, by rw [HS0.out], ?_, (hy.setc (Nat.le_refl _)).setc (Nat.le_refl _)⟩
        have hB : w.heap.size < wr.heap.size := by omega
        have F2 := (F.out.set w.heap.size 0 (.int .i64 S) hB).set w.heap.size 1 (.slice av 3 cv) hB
        rw [← HD0.out, HT.out]
        exact F2.more (Nat.le_of_lt hB)
      · have hT : List.take (5 : Int).toNat D = [at0 D 0, at0 D 1, at0 D 2, at0 D 3, at0 D 4] := by rw [hD5]; rfl
        obtain ⟨x0, hx0⟩ : ∃ x, x = at0 D 0 := ⟨_, rfl⟩
        obtain ⟨x1, hx1⟩ : ∃ x, x = at0 D 1 := ⟨_, rfl⟩
        obtain ⟨x2, hx2⟩ : ∃ x, x = at0 D 2 := ⟨_, rfl⟩
        obtain ⟨x3, hx3⟩ : ∃ x, x = at0 D 3 := ⟨_, rfl⟩
        obtain ⟨x4, hx4⟩ : ∃ x, x = at0 D 4 := ⟨_, rfl⟩
        have hI3 := HI.out 5 (by omega)
        rw [← hx0, ← hx1, ← hx2, ← hx3, ← hx4] at hI3 hT
        have HT := Lib.hid hT
        have HI3 := Lib.hid hI3
        clear hF hT hx0 hx1 hx2 hx3 hx4 hI3 c0 c1 z0 z1 hS hDD hD5
        go_wp2_with fail
        refine (clone_any ⟨w.heap.size + 1, 0, none⟩ 5 [x0, x1, x2, x3, x4] _ HI3.out (by simp)).mono ?_
        rintro e W1 ⟨v, rfl, f1, y1⟩
        obtain ⟨av, cv, rfl⟩ := f1.form
        obtain ⟨⟨c0, c1⟩, z0, z1⟩ := HO.out.ext y1
        have hy := hx.trans y1
        have F := Lib.hid f1
        clear f1 y1
        go_wp2
        refine bodyPost_ret (v := .agg #[.int .i64 S, .slice av 5 cv]) (by simp [results, Try.results98, go_sem, c0, c1]) rfl ⟨_, by rw [HS0.out], ?_, (hy.setc (Nat.le_refl _)).setc (Nat.le_refl _)⟩
        have hB : w.heap.size < wr.heap.size := by omega
        have F2 := (F.out.set w.heap.size 0 (.int .i64 S) hB).set w.heap.size 1 (.slice av 5 cv) hB
        rw [← HD0.out, HT.out]
        exact F2.more (Nat.le_of_lt hB)

end Go.Proofs.Ytfffddhfagibpaa

namespace Go.Proofs.Ytfffddhfagibpaa
open Go.RowKit
set_option linter.unusedVariables false

/-- The cells of a list of structs. -/
def flatC {α : Type} (cells : α → List Value) (L : List α) : List Value := L.flatMap cells
theorem flatC_len {α : Type} {cells : α → List Value} {n : Nat} (h : ∀ x, (cells x).length = n) (L : List α) : (flatC cells L).length = L.length * n := by
  unfold flatC
  induction L with
  | nil => simp
  | cons x t ih => rw [List.flatMap_cons, List.length_append, ih, h, List.length_cons, Nat.add_mul]; omega
theorem flatC_at {α : Type} {cells : α → List Value} {n : Nat} (h : ∀ x, (cells x).length = n) {L : List α} {j i : Nat} (hj : j < L.length) (hi : i < n) : (flatC cells L)[j * n + i]? = (cells L[j])[i]? := by
  induction L generalizing j with
  | nil => simp at hj
  | cons x t ih =>
    unfold flatC
    rw [List.flatMap_cons]
    cases j with
    | zero =>
      rw [List.getElem?_append_left (by rw [h]; omega)]
      simp
    | succ j =>
      have h' : j < t.length := by simpa using hj
      have e1 : (j + 1) * n + i = (cells x).length + (j * n + i) := by rw [h, Nat.add_mul]; omega
      rw [e1, List.getElem?_append_right (by omega), Nat.add_sub_cancel_left]
      have := ih h'
      unfold flatC at this
      rw [this]
      simp

/-! ### Rows -/
def cellsR (x : RowD × Value) : List Value := [.int .i64 x.1.b, .int .i64 x.1.v, .int .i64 x.1.st, .int .i64 x.1.k, .int .i64 x.1.i, .int .i64 x.1.f, .int .i64 x.1.t, .int .i64 x.1.a, .int .i64 x.1.s, x.2]
theorem cellsR_len (x : RowD × Value) : (cellsR x).length = 10 := rfl
/-- v is a slice of rows of a block that was made from block number B on. -/
def FreshZ (B : Nat) (w : World) (v : Value) (P : List (RowD × Value)) : Prop := w.ownsRow B 73 10 v P.length (flatC cellsR P)
theorem FreshZ.nil (B : Nat) (w : World) : FreshZ B w (.slice none 0 0) [] := ⟨rfl, .inl ⟨rfl, rfl⟩⟩
theorem FreshZ.ext {B : Nat} {w w' : World} {v : Value} {P : List (RowD × Value)} (h : FreshZ B w v P) (e : Ext w w') : FreshZ B w' v P := e.ownsRow h
theorem FreshZ.rowz {B : Nat} {w : World} {v : Value} {P : List (RowD × Value)} (h : FreshZ B w v P) (hi : ∀ x ∈ P, Ints w x.2 x.1.l) : Rowz w v (P.map Prod.fst) := by
  rcases h.2 with ⟨rfl, hn⟩ | ⟨g, cap, cur, rfl, hb, hg, hnc, hcm, hcs, htake⟩
  · obtain rfl : P = [] := List.eq_nil_of_length_eq_zero hn
    exact Rowz.nil w
  · refine ⟨some ⟨g, 0, none⟩, cap, by simp, by simp; omega, ⟨by simp; omega, by omega, fun h => by cases h⟩, fun _ => ⟨g, 0, rfl, fun j hj => ?_⟩⟩
    have hj' : j < P.length := by simpa using hj
    have e : (P.map Prod.fst)[j] = P[j].1 := by simp
    rw [e]
    have hc : ∀ i, i < 10 → w.cell? ⟨g, j * 10 + i, none⟩ = (cellsR P[j])[i]? := fun i hi' => by
      rw [World.ownsRow.cellAt h (j * 10 + i) (by omega), flatC_at cellsR_len hj' hi']
    refine ⟨P[j].2, ?_, hi _ (List.getElem_mem hj')⟩
    rw [Nat.zero_add]
    exact ⟨hc 0 (by omega), hc 1 (by omega), hc 2 (by omega), hc 3 (by omega), hc 4 (by omega), hc 5 (by omega), hc 6 (by omega), hc 7 (by omega), hc 8 (by omega), hc 9 (by omega)⟩
theorem Try.infoRowP : (Try.prog.info? 73).map (fun i => (i.zero, i.size, i.bytes)) = some (some (.agg #[.int .i64 0, .int .i64 0, .int .i64 0, .int .i64 0, .int .i64 0, .int .i64 0, .int .i64 0, .int .i64 0, .int .i64 0, .slice none 0 0]), 10, 96) := by kernel_rfl
/-- append(s, r), s of the call's own. -/
theorem wpList_pushR {ops : Array Oper} {rest : List Oper} {o : Oper} {a : Act} {Q : Exit → Act → World → Prop} {w : World} (hgd : o.guard = none) (s x : Operand)
    (ho : o.op = .call { callee := .builtin .append, args := #[s, x], argTypes := #[127, 127] })
    (B : Nat) (v : Value) (P : List (RowD × Value)) (r : RowD) (ya : Option Addr) (yn yc : Nat) (hs : a.eval s = v) (hf : FreshZ B w v P) (g : Nat) (c : Nat) (hx : a.eval x = .slice (some ⟨g, 0, none⟩) 1 c)
    (hr : RowIn w g 0 r (.slice ya yn yc)) (hl : P.length ≤ 1048576) (hB : B ≤ w.heap.size)
    (h : ∀ v' w', FreshZ B w' v' (P ++ [(r, .slice ya yn yc)]) → w.grownBy w' v.ownBlock → Kept B w w' → wpList Try.prog ops Q rest (a.put o.dst v') w') : wpList Try.prog ops Q (o :: rest) a w := by
  obtain ⟨i0, hi, hz0, hz1, hz2⟩ := info_parts Try.infoRowP
  obtain ⟨h0, h1, h2, h3, h4, h5, h6, h7, h8, h9⟩ := hr
  refine wpList_append_own _ hgd s x 127 ho B 73 i0 (.agg #[.int .i64 0, .int .i64 0, .int .i64 0, .int .i64 0, .int .i64 0, .int .i64 0, .int .i64 0, .int .i64 0, .int .i64 0, .slice none 0 0]) 10 96 Try.underlying127 hi hz0 hz1 hz2 rfl (by decide) v P.length _ hs hf ⟨g, 0, none⟩ 1 c (cellsR (r, .slice ya yn yc)) hx rfl ?_ ?_ ?_ ?_ hB ?_
  · intro j u hj
    match j, hj with
    | 0, hj => simp [cellsR] at hj; subst hj; simpa [Addr.add] using h0
    | 1, hj => simp [cellsR] at hj; subst hj; simpa [Addr.add] using h1
    | 2, hj => simp [cellsR] at hj; subst hj; simpa [Addr.add] using h2
    | 3, hj => simp [cellsR] at hj; subst hj; simpa [Addr.add] using h3
    | 4, hj => simp [cellsR] at hj; subst hj; simpa [Addr.add] using h4
    | 5, hj => simp [cellsR] at hj; subst hj; simpa [Addr.add] using h5
    | 6, hj => simp [cellsR] at hj; subst hj; simpa [Addr.add] using h6
    | 7, hj => simp [cellsR] at hj; subst hj; simpa [Addr.add] using h7
    | 8, hj => simp [cellsR] at hj; subst hj; simpa [Addr.add] using h8
    | 9, hj => simp [cellsR] at hj; subst hj; simpa [Addr.add] using h9
  · intro u hu
    simp [cellsR] at hu
    rcases hu with rfl | rfl | rfl | rfl | rfl | rfl | rfl | rfl | rfl | rfl <;> rfl
  · unfold maxLen; omega
  · omega
  · intro v' w' ho' hg _
    refine h v' w' ?_ hg (fun w0 hx0 hB0 => Below.grown hx0 hg hx0.size (fun q hq => Nat.le_trans hB0 (World.ownsRow.lt hf q hq).1))
    unfold FreshZ
    have e : flatC cellsR (P ++ [(r, .slice ya yn yc)]) = flatC cellsR P ++ cellsR (r, .slice ya yn yc) := by simp [flatC]
    rw [e, List.length_append]
    exact ho'

/-! ### Attributes -/
def cellsA (x : (Int × List Int) × Value) : List Value := [.int .i64 x.1.1, x.2]
theorem cellsA_len (x : (Int × List Int) × Value) : (cellsA x).length = 2 := rfl
def FreshA (B : Nat) (w : World) (v : Value) (P : List ((Int × List Int) × Value)) : Prop := w.ownsRow B 71 2 v P.length (flatC cellsA P)
theorem FreshA.nil (B : Nat) (w : World) : FreshA B w (.slice none 0 0) [] := ⟨rfl, .inl ⟨rfl, rfl⟩⟩
theorem FreshA.ext {B : Nat} {w w' : World} {v : Value} {P : List ((Int × List Int) × Value)} (h : FreshA B w v P) (e : Ext w w') : FreshA B w' v P := e.ownsRow h
theorem FreshA.attrs {B : Nat} {w : World} {v : Value} {P : List ((Int × List Int) × Value)} (h : FreshA B w v P) (hi : ∀ x ∈ P, Ints w x.2 x.1.2) : Attrs w v (P.map Prod.fst) := by
  rcases h.2 with ⟨rfl, hn⟩ | ⟨g, cap, cur, rfl, hb, hg, hnc, hcm, hcs, htake⟩
  · obtain rfl : P = [] := List.eq_nil_of_length_eq_zero hn
    exact ⟨none, 0, rfl, by simp, ⟨by simp, by simp, fun _ => rfl⟩, fun h => by simp at h⟩
  · refine ⟨some ⟨g, 0, none⟩, cap, by simp, by simp; omega, ⟨by simp; omega, by omega, fun h => by cases h⟩, fun _ => ⟨g, 0, rfl, fun j hj => ?_⟩⟩
    have hj' : j < P.length := by simpa using hj
    have e : (P.map Prod.fst)[j] = P[j].1 := by simp
    rw [e]
    have hc : ∀ i, i < 2 → w.cell? ⟨g, j * 2 + i, none⟩ = (cellsA P[j])[i]? := fun i hi' => by
      rw [World.ownsRow.cellAt h (j * 2 + i) (by omega), flatC_at cellsA_len hj' hi']
    refine ⟨P[j].2, ?_, ?_, hi _ (List.getElem_mem hj')⟩
    · rw [Nat.zero_add]; exact hc 0 (by omega)
    · rw [Nat.zero_add]; exact hc 1 (by omega)
theorem Try.infoAttrP : (Try.prog.info? 71).map (fun i => (i.zero, i.size, i.bytes)) = some (some (.agg #[.int .i64 0, .slice none 0 0]), 2, 32) := by kernel_rfl
theorem wpList_pushA {ops : Array Oper} {rest : List Oper} {o : Oper} {a : Act} {Q : Exit → Act → World → Prop} {w : World} (hgd : o.guard = none) (s x : Operand)
    (ho : o.op = .call { callee := .builtin .append, args := #[s, x], argTypes := #[150, 150] })
    (B : Nat) (v : Value) (P : List ((Int × List Int) × Value)) (r : Int × List Int) (ya : Option Addr) (yn yc : Nat) (hs : a.eval s = v) (hf : FreshA B w v P) (g : Nat) (c : Nat) (hx : a.eval x = .slice (some ⟨g, 0, none⟩) 1 c)
    (hr0 : w.cell? ⟨g, 0, none⟩ = some (.int .i64 r.1)) (hr1 : w.cell? ⟨g, 1, none⟩ = some (.slice ya yn yc)) (hl : P.length ≤ 1048576) (hB : B ≤ w.heap.size)
    (h : ∀ v' w', FreshA B w' v' (P ++ [(r, .slice ya yn yc)]) → w.grownBy w' v.ownBlock → Kept B w w' → wpList Try.prog ops Q rest (a.put o.dst v') w') : wpList Try.prog ops Q (o :: rest) a w := by
  obtain ⟨i0, hi, hz0, hz1, hz2⟩ := info_parts Try.infoAttrP
  refine wpList_append_own _ hgd s x 150 ho B 71 i0 (.agg #[.int .i64 0, .slice none 0 0]) 2 32 Try.underlying150 hi hz0 hz1 hz2 rfl (by decide) v P.length _ hs hf ⟨g, 0, none⟩ 1 c (cellsA (r, .slice ya yn yc)) hx rfl ?_ ?_ ?_ ?_ hB ?_
  · intro j u hj
    match j, hj with
    | 0, hj => simp [cellsA] at hj; subst hj; simpa [Addr.add] using hr0
    | 1, hj => simp [cellsA] at hj; subst hj; simpa [Addr.add] using hr1
  · intro u hu
    simp [cellsA] at hu
    rcases hu with rfl | rfl <;> rfl
  · unfold maxLen; omega
  · omega
  · intro v' w' ho' hg _
    refine h v' w' ?_ hg (fun w0 hx0 hB0 => Below.grown hx0 hg hx0.size (fun q hq => Nat.le_trans hB0 (World.ownsRow.lt hf q hq).1))
    unfold FreshA
    have e : flatC cellsA (P ++ [(r, .slice ya yn yc)]) = flatC cellsA P ++ cellsA (r, .slice ya yn yc) := by simp [flatC]
    rw [e, List.length_append]
    exact ho'
end Go.Proofs.Ytfffddhfagibpaa

namespace Go.Proofs.Ytfffddhfagibpaa
open Go.RowKit
set_option linter.unusedVariables false

/-- Two slices of two element types lie in two blocks. -/
theorem types_apart {w : World} {B B' e e' sz sz' n m : Nat} {v u : Value} {xs ys : List Value} (h : w.ownsRow B e sz v n xs) (k : w.ownsRow B' e' sz' u m ys) (hne : e ≠ e') : u.ownBlock = none ∨ u.ownBlock ≠ v.ownBlock := by
  rcases k.2 with ⟨rfl, _⟩ | ⟨g', cap', cur', rfl, _, hg', _⟩
  · exact .inl rfl
  · refine .inr fun hb => ?_
    rcases h.2 with ⟨rfl, _⟩ | ⟨g, cap, cur, rfl, _, hg, _⟩
    · simp [Value.ownBlock] at hb
    · simp [Value.ownBlock] at hb
      subst hb
      rw [hg] at hg'
      simp at hg'
      exact hne hg'.2
theorem FreshSS.of {B : Nat} {w : World} {v : Value} {L : List (List Int)} {vs : List Value} (h : w.ownsRow B 22 1 v L.length vs) (r : Rows_ B w vs L) : FreshSS B w v L :=
  ⟨vs, h, r, fun j u hu => by
    have hj : j < vs.length := (List.getElem?_eq_some_iff.1 hu).1
    exact types_apart h (r.row j u _ hu (List.getElem?_eq_getElem (by rw [← r.len]; exact hj))) (by decide)⟩
theorem FreshSS.form {B : Nat} {w : World} {v : Value} {L : List (List Int)} (h : FreshSS B w v L) : ∃ ao cap, v = .slice ao L.length cap := by
  obtain ⟨ao, cap, hv, _⟩ := h.intss
  exact ⟨ao, cap, hv⟩

end Go.Proofs.Ytfffddhfagibpaa

namespace Go.Proofs.Ytfffddhfagibpaa
open Go.RowKit
set_option linter.unusedVariables false

structure OwnTab (lo : Nat) (w : World) (g m : Nat) (vs : List Value) (P : List (List (RowD × Value))) : Prop where
  out : w.ownsRow 0 127 1 (.slice (some ⟨g, 0, none⟩) m m) m vs
  vl : vs.length = m
  pl : P.length = m
  row : ∀ (k : Nat) (v : Value) (L : List (RowD × Value)), vs[k]? = some v → P[k]? = some L → FreshZ lo w v L
  apart : ∀ (i j : Nat) (u v : Value), i ≠ j → vs[i]? = some u → vs[j]? = some v → u.ownBlock = none ∨ u.ownBlock ≠ v.ownBlock
  dep : ∀ L ∈ P, ∀ x ∈ L, Fresh lo w x.2 x.1.l
theorem OwnTab.ext {lo g m : Nat} {w w' : World} {vs : List Value} {P : List (List (RowD × Value))} (h : OwnTab lo w g m vs P) (e : Ext w w') : OwnTab lo w' g m vs P :=
  ⟨e.ownsRow h.out, h.vl, h.pl, fun k v L hv hL => (h.row k v L hv hL).ext e, h.apart, fun L hL x hx => (h.dep L hL x hx).ext e⟩
theorem OwnTab.at {lo g m k : Nat} {w : World} {vs : List Value} {P : List (List (RowD × Value))} (h : OwnTab lo w g m vs P) (hk : k < m) : ∃ v L, vs[k]? = some v ∧ P[k]? = some L ∧ w.cell? ⟨g, k, none⟩ = some v ∧ w.frozen? ⟨g, k, none⟩ = false ∧ FreshZ lo w v L := by
  have h1 : k < vs.length := by rw [h.vl]; exact hk
  have h2 : k < P.length := by rw [h.pl]; exact hk
  refine ⟨vs[k], P[k], List.getElem?_eq_getElem h1, List.getElem?_eq_getElem h2, ?_, h.out.frozenAt k, h.row _ _ _ (List.getElem?_eq_getElem h1) (List.getElem?_eq_getElem h2)⟩
  rw [h.out.cellAt k (by omega)]
  exact List.getElem?_eq_getElem h1
theorem FreshZ.form {B : Nat} {w : World} {v : Value} {P : List (RowD × Value)} (h : FreshZ B w v P) : ∃ ao cap, v = .slice ao P.length cap := by
  rcases h.2 with ⟨rfl, hn⟩ | ⟨g, cap, cur, rfl, _⟩
  · exact ⟨none, 0, by rw [hn]⟩
  · exact ⟨_, _, rfl⟩
theorem fresh_kept {lo : Nat} {w w' : World} {u : Value} {l : List Int} {row : Option Nat} (h : Fresh lo w u l) (t : w.grownBy w' row) (ap : u.ownBlock = none ∨ u.ownBlock ≠ row) : Fresh lo w' u l := World.ownsRow.kept h t ap
/-- A row is appended to list k. -/
theorem OwnTab.grow {lo g m k : Nat} {w w' : World} {vs : List Value} {P : List (List (RowD × Value))} {v v' : Value} {L : List (RowD × Value)} {x : RowD × Value} (h : OwnTab lo w g m vs P) (hk : vs[k]? = some v) (hP : P[k]? = some L)
    (t : w.grownBy w' v.ownBlock) (f : FreshZ lo w' v' (L ++ [x])) (loc : v'.ownBlock = v.ownBlock ∨ v'.ownBlock = some w.heap.size) (hx : Fresh lo w x.2 x.1.l) :
    OwnTab lo (w'.setCell ⟨g, k, none⟩ v') g m (vs.set k v') (P.set k (L ++ [x])) := by
  have hfz := h.row k v L hk hP
  have ho1 := World.ownsRow.kept h.out t (types_apart hfz h.out (by decide))
  have hst := ho1.stored k v'
  have hkv : k < vs.length := (List.getElem?_eq_some_iff.1 hk).1
  have hkp : k < P.length := (List.getElem?_eq_some_iff.1 hP).1
  have hz : ∀ (u : Value) (M : List (RowD × Value)), FreshZ lo w' u M → FreshZ lo (w'.setCell ⟨g, k, none⟩ v') u M := fun u M hu => World.ownsRow.kept hu hst.2 (types_apart ho1 hu (by decide))
  have hd : ∀ (u : Value) (l : List Int), Fresh lo w u l → Fresh lo (w'.setCell ⟨g, k, none⟩ v') u l := fun u l hu => by
    have h1 : Fresh lo w' u l := World.ownsRow.kept hu t (types_apart hfz hu (by decide))
    exact World.ownsRow.kept h1 hst.2 (types_apart ho1 h1 (by decide))
  have hnew : ∀ (i : Nat) (u : Value), i ≠ k → vs[i]? = some u → (u.ownBlock = none ∨ u.ownBlock ≠ v'.ownBlock) ∧ (v'.ownBlock = none ∨ v'.ownBlock ≠ u.ownBlock) := fun i u hi hu => by
    rcases loc with e | e
    · rw [e]
      exact ⟨h.apart i k u v hi hu hk, h.apart k i v u (fun e => hi e.symm) hk hu⟩
    · rw [e]
      have hiL : i < P.length := by have := (List.getElem?_eq_some_iff.1 hu).1; have := h.vl; have := h.pl; omega
      have hfi := h.row i u _ hu (List.getElem?_eq_getElem hiL)
      cases hb : u.ownBlock with
      | none => exact ⟨.inl rfl, .inr (by simp)⟩
      | some b =>
        have := (World.ownsRow.lt hfi b hb).2
        exact ⟨.inr (fun e' => by have := Option.some.inj e'; omega), .inr (fun e' => by have := Option.some.inj e'; omega)⟩
  refine ⟨hst.1, by rw [List.length_set]; exact h.vl, by rw [List.length_set]; exact h.pl, fun i u M hu hM => ?_, fun i j u z hij hu hz' => ?_, fun M hM y hy => ?_⟩
  · by_cases e : i = k
    · subst e
      rw [List.getElem?_set_self hkv] at hu
      rw [List.getElem?_set_self hkp] at hM
      cases hu; cases hM
      exact hz _ _ f
    · rw [List.getElem?_set_ne (fun h => e h.symm)] at hu hM
      exact hz _ _ (World.ownsRow.kept (h.row i u M hu hM) t (h.apart i k u v e hu hk))
  · by_cases e : i = k
    · subst e
      rw [List.getElem?_set_self hkv] at hu
      rw [List.getElem?_set_ne (fun h => hij h)] at hz'
      cases hu
      exact (hnew j z (fun e => hij e.symm) hz').2
    · rw [List.getElem?_set_ne (fun h => e h.symm)] at hu
      by_cases e' : j = k
      · subst e'
        rw [List.getElem?_set_self hkv] at hz'
        cases hz'
        exact (hnew i u e hu).1
      · rw [List.getElem?_set_ne (fun h => e' h.symm)] at hz'
        exact h.apart i j u z hij hu hz'
  · rcases List.mem_or_eq_of_mem_set hM with hM | rfl
    · exact hd _ _ (h.dep M hM y hy)
    · rcases List.mem_append.1 hy with hy | hy
      · exact hd _ _ (h.dep L (List.mem_of_getElem? hP) y hy)
      · rw [List.mem_singleton] at hy
        rw [hy]
        exact hd _ _ hx
def rowsP (P : List (List (RowD × Value))) : List (List RowD) := P.map fun L => L.map Prod.fst
theorem OwnTab.rows {lo g m : Nat} {w : World} {vs : List Value} {P : List (List (RowD × Value))} (h : OwnTab lo w g m vs P) : Rowzz w (.slice (some ⟨g, 0, none⟩) m m) (rowsP P) := by
  have hl : (rowsP P).length = m := by unfold rowsP; rw [List.length_map]; exact h.pl
  rcases id h.out.2 with ⟨hv, _⟩ | ⟨g', cap, cur, hv, hb, hg, hnc, hcm, hcs, htake⟩
  · cases hv
  simp only [Value.slice.injEq, Option.some.injEq, Addr.mk.injEq, and_true, true_and] at hv
  obtain ⟨rfl, rfl⟩ := hv
  refine ⟨some ⟨g, 0, none⟩, m, by rw [hl], by rw [hl]; exact hcm, ⟨by rw [hl]; omega, hcm, fun h => by cases h⟩, fun hp => ⟨g, 0, rfl, fun j hj => ?_⟩⟩
  rw [hl] at hj
  obtain ⟨v, L, h1, h2, h3, _, h5⟩ := h.at hj
  have e : (rowsP P)[j]'(by rw [hl]; exact hj) = L.map Prod.fst := by
    have h6 := (List.getElem?_eq_some_iff.1 h2).2
    unfold rowsP
    rw [List.getElem_map, h6]
  refine ⟨v, by rw [Nat.zero_add]; exact h3, ?_⟩
  rw [e]
  exact h5.rowz (fun x hx => (h.dep L (List.mem_of_getElem? h2) x hx).ints)
theorem rowsP_grow {P : List (List (RowD × Value))} {k : Nat} {L : List (RowD × Value)} {x : RowD × Value} (hP : P[k]? = some L) : rowsP (P.set k (L ++ [x])) = (rowsP P).set k (((rowsP P)[k]?.getD []) ++ [x.1]) := by
  unfold rowsP
  rw [List.map_set, List.getElem?_map, hP]
  simp

/-- T's rows, copied as far as row j of list k. -/
def copL (T : List (List RowD)) (k j i : Nat) : List RowD := if i < k then T[i]?.getD [] else if i = k then (T[i]?.getD []).take j else []
def copT (T : List (List RowD)) (m k j : Nat) : List (List RowD) := (List.range m).map (copL T k j)
theorem copT_at {T : List (List RowD)} {m k j i : Nat} (h : i < m) : (copT T m k j)[i]? = some (copL T k j i) := by simp [copT, h]
theorem copT_len (T : List (List RowD)) (m k j : Nat) : (copT T m k j).length = m := by simp [copT]
theorem copT_zero (T : List (List RowD)) (m : Nat) : copT T m 0 0 = List.replicate m [] := by
  refine List.ext_getElem? fun i => ?_
  rw [List.getElem?_replicate]
  by_cases h : i < m
  · rw [copT_at h, if_pos h]
    unfold copL
    simp
  · rw [List.getElem?_eq_none (by rw [copT_len]; omega), if_neg h]
theorem copT_next {T : List (List RowD)} {m k : Nat} (hk : k < T.length) : copT T m k T[k].length = copT T m (k + 1) 0 := by
  unfold copT
  refine List.map_congr_left fun i _ => ?_
  unfold copL
  by_cases h1 : i < k
  · rw [if_pos h1, if_pos (by omega)]
  · rw [if_neg h1]
    by_cases h2 : i = k
    · subst h2
      rw [if_pos rfl, if_pos (by omega), List.getElem?_eq_getElem hk, Option.getD_some, List.take_length]
    · rw [if_neg h2, if_neg (by omega)]
      simp
theorem copT_step {T : List (List RowD)} {m k j : Nat} (hm : k < m) (hk : k < T.length) (hj : j < T[k].length) : (copT T m k j).set k (((copT T m k j)[k]?.getD []) ++ [T[k][j]]) = copT T m k (j + 1) := by
  refine List.ext_getElem? fun i => ?_
  rw [List.getElem?_set, copT_len, copT_at hm, Option.getD_some]
  by_cases hi : i < m
  · rw [copT_at hi, copT_at hi]
    by_cases e : k = i
    · subst e
      rw [if_pos rfl, if_pos hm]
      congr 1
      unfold copL
      rw [if_neg (by omega), if_pos rfl, if_neg (by omega), if_pos rfl, List.getElem?_eq_getElem hk, Option.getD_some, List.take_succ_eq_append_getElem hj]
    · rw [if_neg e]
      congr 1
      unfold copL
      by_cases h1 : i < k
      · rw [if_pos h1, if_pos h1]
      · rw [if_neg h1, if_neg h1, if_neg (fun h => e h.symm), if_neg (fun h => e h.symm)]
  · rw [if_neg (by omega), List.getElem?_eq_none (by rw [copT_len]; omega), List.getElem?_eq_none (by rw [copT_len]; omega)]
theorem copT_all (T : List (List RowD)) : copT T T.length T.length 0 = T := by
  refine List.ext_getElem? fun i => ?_
  by_cases hi : i < T.length
  · rw [copT_at hi, List.getElem?_eq_getElem hi]
    unfold copL
    rw [if_pos hi, List.getElem?_eq_getElem hi]
    rfl
  · rw [List.getElem?_eq_none (by rw [copT_len]; omega), List.getElem?_eq_none (by omega)]

/-- append(s, r), s of the call's own, as a step of a region that draws its order. -/
theorem step_pushRow {ops : Array Oper} {o : Oper} {a : Act} {w : World} {K : Act → World → Prop} {Q : Exit → Act → World → Prop} {E : Prop} (hgd : o.guard = none) (s x : Operand)
    (ho : o.op = .call { callee := .builtin .append, args := #[s, x], argTypes := #[127, 127] })
    (B : Nat) (v : Value) (L : List (RowD × Value)) (r : RowD) (ya : Option Addr) (yn yc : Nat) (hs : a.eval s = v) (hf : FreshZ B w v L) (gb : Nat) (c : Nat) (hx : a.eval x = .slice (some ⟨gb, 0, none⟩) 1 c)
    (hr : RowIn w gb 0 r (.slice ya yn yc)) (m : Nat) (hm : L.length = m) (hl : m ≤ 1048576) (hB : B ≤ w.heap.size)
    (h : ∀ ao cap w', FreshZ B w' (.slice ao (m + 1) cap) (L ++ [(r, .slice ya yn yc)]) → w.grownBy w' v.ownBlock → ((Value.slice ao (m + 1) cap).ownBlock = v.ownBlock ∨ (Value.slice ao (m + 1) cap).ownBlock = some w.heap.size) → K (a.put o.dst (.slice ao (m + 1) cap)) w') : if Region.wanted o (yielded ops a.tmps) = true then Oper.wp Try.prog o a w K Q else E := by
  obtain ⟨i0, hi, hz0, hz1, hz2⟩ := info_parts Try.infoRowP
  obtain ⟨h0, h1, h2, h3, h4, h5, h6, h7, h8, h9⟩ := hr
  have hw : Region.wanted o (yielded ops a.tmps) = true := by simp [Region.wanted, hgd]
  rw [if_pos hw]
  obtain ⟨v', w', hrun, hown, hgr, _, hloc⟩ := run_append_own_at (P := Try.prog) w B 127 o.type 73 i0 (.agg #[.int .i64 0, .int .i64 0, .int .i64 0, .int .i64 0, .int .i64 0, .int .i64 0, .int .i64 0, .int .i64 0, .int .i64 0, .slice none 0 0]) 10 96 Try.underlying127 hi hz0 hz1 hz2 rfl (by decide) v L.length _ hf ⟨gb, 0, none⟩ 1 c (cellsR (r, .slice ya yn yc)) rfl (by
    intro j u hj
    match j, hj with
    | 0, hj => simp [cellsR] at hj; subst hj; simpa [Addr.add] using h0
    | 1, hj => simp [cellsR] at hj; subst hj; simpa [Addr.add] using h1
    | 2, hj => simp [cellsR] at hj; subst hj; simpa [Addr.add] using h2
    | 3, hj => simp [cellsR] at hj; subst hj; simpa [Addr.add] using h3
    | 4, hj => simp [cellsR] at hj; subst hj; simpa [Addr.add] using h4
    | 5, hj => simp [cellsR] at hj; subst hj; simpa [Addr.add] using h5
    | 6, hj => simp [cellsR] at hj; subst hj; simpa [Addr.add] using h6
    | 7, hj => simp [cellsR] at hj; subst hj; simpa [Addr.add] using h7
    | 8, hj => simp [cellsR] at hj; subst hj; simpa [Addr.add] using h8
    | 9, hj => simp [cellsR] at hj; subst hj; simpa [Addr.add] using h9) (by
    intro u hu
    simp [cellsR] at hu
    rcases hu with rfl | rfl | rfl | rfl | rfl | rfl | rfl | rfl | rfl | rfl <;> rfl) (by unfold maxLen; omega) (by omega) hB
  have hf' : FreshZ B w' v' (L ++ [(r, .slice ya yn yc)]) := by
    unfold FreshZ
    have e : flatC cellsR (L ++ [(r, .slice ya yn yc)]) = flatC cellsR L ++ cellsR (r, .slice ya yn yc) := by simp [flatC]
    rw [e, List.length_append]
    exact hown
  obtain ⟨ao, cap, hv'⟩ := hf'.form
  have e : (L ++ [(r, Value.slice ya yn yc)]).length = m + 1 := by simp [hm]
  rw [e] at hv'
  rw [hv'] at hf' hloc hrun
  have hK := h ao cap w' hf' hgr hloc
  unfold Oper.wp execOp
  simp only [ho, resolve, invoke, builtin, Sem.run_bind, Sem.run_pure, Result.andThen_ok, List.map_toArray, List.map_cons, List.map_nil, hs, hx, hrun]
  exact hK
end Go.Proofs.Ytfffddhfagibpaa

namespace Go.Proofs.Ytfffddhfagibpaa
open Go.RowKit
set_option linter.unusedVariables false

theorem rowIn_news {w : World} {gb : Nat} {r : RowD} {ya : Option Addr} {yn yc : Nat} (hr : RowIn w gb 0 r (.slice ya yn yc)) (j : Nat) (u : Value) (hj : (cellsR (r, .slice ya yn yc))[j]? = some u) : w.cell? ((⟨gb, 0, none⟩ : Addr).add j) = some u := by
  obtain ⟨h0, h1, h2, h3, h4, h5, h6, h7, h8, h9⟩ := hr
  match j, hj with
  | 0, hj => simp [cellsR] at hj; subst hj; simpa [Addr.add] using h0
  | 1, hj => simp [cellsR] at hj; subst hj; simpa [Addr.add] using h1
  | 2, hj => simp [cellsR] at hj; subst hj; simpa [Addr.add] using h2
  | 3, hj => simp [cellsR] at hj; subst hj; simpa [Addr.add] using h3
  | 4, hj => simp [cellsR] at hj; subst hj; simpa [Addr.add] using h4
  | 5, hj => simp [cellsR] at hj; subst hj; simpa [Addr.add] using h5
  | 6, hj => simp [cellsR] at hj; subst hj; simpa [Addr.add] using h6
  | 7, hj => simp [cellsR] at hj; subst hj; simpa [Addr.add] using h7
  | 8, hj => simp [cellsR] at hj; subst hj; simpa [Addr.add] using h8
  | 9, hj => simp [cellsR] at hj; subst hj; simpa [Addr.add] using h9
/-- append(s, r), s full: the rows come to lie in a new block. -/
theorem step_pushRowG {ops : Array Oper} {o : Oper} {a : Act} {w : World} {K : Act → World → Prop} {Q : Exit → Act → World → Prop} {E : Prop} (hgd : o.guard = none) (s x : Operand)
    (ho : o.op = .call { callee := .builtin .append, args := #[s, x], argTypes := #[127, 127] })
    (b : Addr) (L : List (RowD × Value)) (r : RowD) (ya : Option Addr) (yn yc : Nat) (m : Nat) (hm : L.length = m) (hs : a.eval s = .slice (some b) m m) (hold : ∀ j u, (flatC cellsR L)[j]? = some u → w.cell? (b.add j) = some u) (gb : Nat) (c : Nat) (hx : a.eval x = .slice (some ⟨gb, 0, none⟩) 1 c)
    (hr : RowIn w gb 0 r (.slice ya yn yc)) (hl : m ≤ 1048576)
    (h : ∀ ao cap w', FreshZ w.heap.size w' (.slice ao (m + 1) cap) (L ++ [(r, .slice ya yn yc)]) → w.grownBy w' none → K (a.put o.dst (.slice ao (m + 1) cap)) w') : if Region.wanted o (yielded ops a.tmps) = true then Oper.wp Try.prog o a w K Q else E := by
  obtain ⟨i0, hi, hz0, hz1, hz2⟩ := info_parts Try.infoRowP
  have hw : Region.wanted o (yielded ops a.tmps) = true := by simp [Region.wanted, hgd]
  rw [if_pos hw]
  subst hm
  obtain ⟨v', w', hrun, hown, hgr⟩ := run_append_arg_grows (P := Try.prog) w 127 o.type 73 i0 (.agg #[.int .i64 0, .int .i64 0, .int .i64 0, .int .i64 0, .int .i64 0, .int .i64 0, .int .i64 0, .int .i64 0, .int .i64 0, .slice none 0 0]) 10 96 Try.underlying127 hi hz0 hz1 hz2 rfl (by decide) b L.length L.length (flatC cellsR L) (flatC_len cellsR_len L) hold ⟨gb, 0, none⟩ 1 c (cellsR (r, .slice ya yn yc)) rfl (rowIn_news hr) (by omega) (by unfold maxLen; omega) (by omega)
  have hf' : FreshZ w.heap.size w' v' (L ++ [(r, .slice ya yn yc)]) := by
    unfold FreshZ
    have e : flatC cellsR (L ++ [(r, .slice ya yn yc)]) = flatC cellsR L ++ cellsR (r, .slice ya yn yc) := by simp [flatC]
    rw [e, List.length_append]
    exact hown
  obtain ⟨ao, cap, hv'⟩ := hf'.form
  have e : (L ++ [(r, Value.slice ya yn yc)]).length = L.length + 1 := by simp
  rw [e] at hv'
  rw [hv'] at hf' hrun
  have hK := h ao cap w' hf' hgr
  unfold Oper.wp execOp
  simp only [ho, resolve, invoke, builtin, Sem.run_bind, Sem.run_pure, Result.andThen_ok, List.map_toArray, List.map_cons, List.map_nil, hs, hx, hrun]
  exact hK
end Go.Proofs.Ytfffddhfagibpaa
