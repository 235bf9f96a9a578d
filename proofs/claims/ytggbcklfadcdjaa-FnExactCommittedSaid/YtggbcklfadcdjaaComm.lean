/- Contracts of the model's Committed. -/
import Derived.Test.YtggbcklfadcdjaaGoodTab2
import Derived.Test.YtggbcklfadcdjaaSpecRowAt
import Derived.Test.YtggbcklfadcdjaaPushSS
namespace Go.Proofs.Ytggbcklfadcdjaa
open Go.RowKit
set_option linter.unusedVariables false

def comAt (k : Nat) (R : List RowD) (i : Nat) : List (List Int) := match R[i]? with
  | some r => if r.st == 3 then [[(k : Int), (i : Int) + 1]] else []
  | none => []
/-- What is settled among the first j rows of the list of k, among the first k lists. -/
def comTo (k : Nat) (R : List RowD) (j : Nat) : List (List Int) := (List.range j).flatMap (comAt k R)
def allTo (T : List (List RowD)) (k : Nat) : List (List Int) := (List.range k).flatMap fun p => comTo p (T[p]?.getD []) (T[p]?.getD []).length
theorem comTo_succ (k : Nat) (R : List RowD) (j : Nat) : comTo k R (j + 1) = comTo k R j ++ comAt k R j := by simp [comTo, List.range_succ]
theorem comTo_zero (k : Nat) (R : List RowD) : comTo k R 0 = [] := by simp [comTo]
theorem comAt_yes {k : Nat} {R : List RowD} {j : Nat} (h : j < R.length) (hs : (R[j].st == 3) = true) : comAt k R j = [[(k : Int), (j : Int) + 1]] := by simp [comAt, List.getElem?_eq_getElem h, hs]
theorem comAt_no {k : Nat} {R : List RowD} {j : Nat} (h : j < R.length) (hs : (R[j].st == 3) = false) : comAt k R j = [] := by simp [comAt, List.getElem?_eq_getElem h, hs]
theorem allTo_succ {T : List (List RowD)} {k : Nat} (h : k < T.length) : allTo T (k + 1) = allTo T k ++ comTo k T[k] T[k].length := by simp [allTo, List.range_succ, List.getElem?_eq_getElem h]
theorem allTo_zero (T : List (List RowD)) : allTo T 0 = [] := by simp [allTo]
theorem comAt_len (k : Nat) (R : List RowD) (i : Nat) : (comAt k R i).length ≤ 1 := by
  unfold comAt
  split
  · split <;> simp
  · simp
theorem comTo_len (k : Nat) (R : List RowD) (j : Nat) : (comTo k R j).length ≤ j := by
  induction j with
  | zero => simp [comTo]
  | succ j ih =>
    rw [comTo_succ, List.length_append]
    have := comAt_len k R j
    omega
theorem allTo_len {T : List (List RowD)} (hT : ∀ R ∈ T, R.length ≤ 6) (k : Nat) (hk : k ≤ T.length) : (allTo T k).length ≤ 6 * k := by
  induction k with
  | zero => simp [allTo]
  | succ k ih =>
    have h : k < T.length := by omega
    rw [allTo_succ h, List.length_append]
    have h1 := ih (by omega)
    have h2 := comTo_len k T[k] T[k].length
    have h3 := hT _ (List.getElem_mem h)
    omega
/-- What Committed tells. -/
def comR (n : Int) (T : List (List RowD)) : List (List Int) := if goodTab n T then allTo T T.length else []
theorem comR_no {n : Int} {T : List (List RowD)} (h : goodTab n T = false) : comR n T = [] := by unfold comR; rw [h]; rfl
theorem comR_yes {n : Int} {T : List (List RowD)} (h : goodTab n T = true) : comR n T = allTo T T.length := by unfold comR; rw [h]; rfl

theorem fresh_pair (w : World) (o : Obj) (a b : Int) (o' : Obj) : Fresh w.heap.size (((w.alloc o).alloc (.cells #[.int .i64 a, .int .i64 b] 3)).alloc o') (.slice (some ⟨w.heap.size + 1, 0, none⟩) 2 2) [a, b] :=
  (fresh_lit2 w o [a, b] 2 #[.int .i64 a, .int .i64 b] rfl rfl (by simp)).ext (Ext.alloc1 _ _)
theorem cell_alloc_three (w : World) (a b : Obj) (x : Value) (T : TypeId) : (((w.alloc a).alloc b).alloc (.cells #[x] T)).cell? ⟨w.heap.size + 1 + 1, 0, none⟩ = some x := by go_simp

set_option maxHeartbeats 4000000 in
set_option maxRecDepth 100000 in
theorem l4Committed_any (n : Int) (u : Value) (T : List (List RowD)) (w : World) (hu : Rowzz w u T) (hT : T.length ≤ 5) (hR6 : ∀ R ∈ T, R.length ≤ 6) :
    Calls Try.prog 70 #[.agg #[.int .i64 n, u]] w (NewIntss (allTo T T.length) w) := by
  obtain ⟨au, cu, rfl, hlu, _, hcu⟩ := hu
  unfold maxLen at hlu
  have xb : Ext w (w.alloc (.cells #[.int .i64 n, .slice au T.length cu] 29)) := Ext.alloc1 _ _
  have H6 := Lib.hid hR6
  clear hR6
  go_enter Try.func70, Try.ntmps70
  go_wp2
  go_loopw [3, 11] (fun o i wr => ∃ k : Nat, k ≤ T.length ∧ i = .int .i64 k ∧ FreshSS w.heap.size wr o (allTo T k) ∧ Ext w wr) (fun _ i _ => T.length - (intOf i).toNat)
  case atStart => exact ⟨0, Nat.zero_le _, rfl, by rw [allTo_zero]; exact FreshSS.nil _ _, xb⟩
  case round =>
    obtain ⟨k, hk, rfl, hF, hx⟩ := hrel
    by_cases hlt : k < T.length
    · obtain ⟨bu, ou, rfl, du⟩ := hcu (by omega)
      obtain ⟨x, hx1, ix⟩ := du k hlt
      have gu := hx.cell hx1
      obtain ⟨R, hR⟩ : ∃ R, R = T[k] := ⟨_, rfl⟩
      rw [← hR] at ix
      have hl6 : R.length ≤ 6 := by rw [hR]; exact H6.out _ (List.getElem_mem hlt)
      have hal := allTo_len H6.out k (by omega)
      obtain ⟨ax, cx, rfl, hlx, _, hcx⟩ := ix
      unfold maxLen at hlx
      have HR := Lib.hid hR
      have HF0 := Lib.hid hF
      have HAL := Lib.hid hal
      clear hcu du hx1 hR hF hal
      obtain ⟨wo, hwo⟩ : ∃ wo : World, wo = wr := ⟨_, rfl⟩
      subst hwo
      go_wp2
      go_loopw [3, 18] (fun o i wr => ∃ j : Nat, j ≤ R.length ∧ i = .int .i64 j ∧ FreshSS w.heap.size wr o (allTo T k ++ comTo k R j) ∧ Ext w wr) (fun _ i _ => R.length - (intOf i).toNat)
      case atStart => exact ⟨0, Nat.zero_le _, rfl, by rw [comTo_zero, List.append_nil]; exact HF0.out, hx⟩
      case round =>
        obtain ⟨j, hj, rfl, hG, hy⟩ := hrel
        by_cases hjt : j < R.length
        · obtain ⟨bx, ox, rfl, dx⟩ := hcx (by omega)
          obtain ⟨y, hy1, iy⟩ := dx j hjt
          obtain ⟨d, hd⟩ : ∃ d, d = R[j] := ⟨_, rfl⟩
          rw [← hd] at hy1 iy
          have gy := hy1.ext hy
          obtain ⟨ay, cy, rfl, _⟩ := iy.ext hy
          have hcl := comTo_len k R j
          have hll : (allTo T k ++ comTo k R j).length ≤ 1048576 := by rw [List.length_append]; have := HAL.out; omega
          have HLL := Lib.hid hll
          have HD := Lib.hid hd
          have HG := Lib.hid hG
          clear hcx dx hy1 iy hd hG hcl hll
          obtain ⟨wp, hwp⟩ : ∃ wp : World, wp = wr := ⟨_, rfl⟩
          subst hwp
          obtain ⟨g0, g1, g2, g3, g4, g5, g6, g7, g8, g9⟩ := gy
          cases hst : (d.st == 3) with
          | false =>
            have hno : comAt k R j = [] := comAt_no hjt (by rw [← HD.out]; exact hst)
            have HNO := Lib.hid hno
            clear hno
            go_wp2
            go_roundw
            case rel => exact ⟨j + 1, by omega, by go_num, by rw [comTo_succ, HNO.out, List.append_nil]; exact HG.out.ext (Ext.alloc1 _ _), hy.alloc _⟩
            case measure => simp [intOf]; omega
          | true =>
            have hyes : comAt k R j = [[(k : Int), (j : Int) + 1]] := comAt_yes hjt (by rw [← HD.out]; exact hst)
            have HYES := Lib.hid hyes
            clear hyes
            have HBB := Lib.hid hy.size
            go_wp2_with (at_builtin; refine wpList_pushSS rfl _ _ rfl w.heap.size _ (allTo T k ++ comTo k R j) [(k : Int), (j : Int) + 1] wp rfl HG.out (Ext.alloc3 _ _ _ _) _ (fresh_pair _ _ _ _ _) ⟨wp.heap.size + 1 + 1, 0, none⟩ 1 rfl (cell_alloc_three _ _ _ _ _) rfl HLL.out HBB.out ?_)
            intro v' w' f' k'
            have hz : Ext w w' := k' w (hy.trans (Ext.alloc3 _ _ _ _)) (Nat.le_refl _)
            have FF := Lib.hid f'
            clear f' k' g0 g1 g2 g3 g4 g5 g6 g7 g8 g9
            go_wp2
            go_roundw
            case rel => exact ⟨j + 1, by omega, by go_num, by rw [comTo_succ, HYES.out]; exact FF.out, hz⟩
            case measure => simp [intOf]; omega
        · obtain rfl : j = R.length := by omega
          have HG := Lib.hid hG
          clear hG
          go_wp2
          go_roundw
          case rel => exact ⟨k + 1, by omega, by go_num, by rw [allTo_succ hlt, ← HR.out]; exact HG.out, hy⟩
          case measure => simp [intOf]; omega
    · obtain rfl : k = T.length := by omega
      have HF := Lib.hid hF
      clear hF
      go_wp2
      go_ret
      exact ⟨_, rfl, HF.out, hx⟩

set_option maxHeartbeats 1000000 in
theorem specCommitted_any (n : Int) (u : Value) (T : List (List RowD)) (w : World) (hu : Rowzz w u T) :
    Calls Try.prog 34 #[.agg #[.int .i64 n, u]] w (TwoIntss (comR n T) (goodTab n T) w) := by
  have HB := Lib.hid (attrAt_new w 29 n u)
  have HU := Lib.hid (hu.ext (Ext.alloc1 w (.cells #[.int .i64 n, u] 29)))
  clear hu
  cases hg : goodTab n T with
  | false =>
    rw [comR_no hg]
    have HG := Lib.hid hg
    clear hg
    go_enter Try.func34, Try.ntmps34
    go_wp2_with fail
    refine (specGoodTable_any _ _ T _ HU.out).mono ?_
    rintro e w1 ⟨rfl, x1⟩
    have hx := (Ext.alloc1 w _).trans x1
    clear x1
    rw [HG.out]
    go_wp2
    go_ret2
    exact ⟨_, rfl, FreshSS.nil _ _, hx⟩
  | true =>
    rw [comR_yes hg]
    obtain ⟨h1, h2, h3⟩ := goodTab_of hg
    have hb := isGrp_bd h1
    have hT : T.length ≤ 5 := by omega
    have h6 : ∀ R ∈ T, R.length ≤ 6 := fun R hR => (h3 R hR).1
    have HG := Lib.hid hg
    have HT := Lib.hid hT
    have H6 := Lib.hid h6
    clear hg h1 h2 h3 hb hT h6
    obtain ⟨L, hL⟩ : ∃ L, L = allTo T T.length := ⟨_, rfl⟩
    have hc := fun W h => l4Committed_any n u T W h HT.out H6.out
    rw [← hL] at hc ⊢
    have HC := Lib.hid hc
    clear hc hL
    go_enter Try.func34, Try.ntmps34
    go_wp2_with fail
    refine (specGoodTable_any _ _ T _ HU.out).mono ?_
    rintro e w1 ⟨rfl, x1⟩
    have hx := (Ext.alloc1 w _).trans x1
    obtain ⟨c0, c1⟩ := HB.out.ext x1
    rw [HG.out]
    go_wp2_with fail
    refine (HC.out _ (HU.out.ext x1)).mono ?_
    rintro e w2 ⟨v, rfl, f2, x2⟩
    have hy := hx.trans x2
    have F2 := Lib.hid (f2.more hx.size)
    clear f2 x1 x2 hx c0 c1
    go_wp2
    go_ret2
    exact ⟨_, rfl, F2.out, hy⟩

set_option maxHeartbeats 4000000 in
set_option maxRecDepth 100000 in
theorem implCommitted_good (n : Int) (u : Value) (T : List (List RowD)) (w : World) (hu : Rowzz w u T) (hg : goodTab n T = true) (hs : bulkT T ≤ 1099511627776) :
    Calls Try.prog 35 #[.agg #[.int .i64 n, u]] w (TwoIntss (allTo T T.length) true w) := by
  have HSZ := Lib.hid hs
  have HB := Lib.hid (attrAt_new w 29 n u)
  have HU := Lib.hid (hu.ext (Ext.alloc1 w (.cells #[.int .i64 n, u] 29)))
  obtain ⟨au, cu, rfl, hlu, _, hcu⟩ := hu
  unfold maxLen at hlu
  obtain ⟨h1, h2, h3⟩ := goodTab_of hg
  have hb := isGrp_bd h1
  have hT : T.length ≤ 5 := by omega
  have h6 : ∀ R ∈ T, R.length ≤ 6 := fun R hR => (h3 R hR).1
  have HG := Lib.hid hg
  have H6 := Lib.hid h6
  clear hg h1 h2 h3 hb h6 hs
  go_enter Try.func35, Try.ntmps35
  go_wp2_with fail
  refine (implGoodTable_any _ _ T _ HU.out HSZ.out).mono ?_
  rintro e w1 ⟨rfl, x1⟩
  have xb := (Ext.alloc1 w _).trans x1
  obtain ⟨c0, c1⟩ := HB.out.ext x1
  clear x1
  rw [HG.out]
  go_wp2
  clear c0 c1
  go_loopw [4, 15] (fun o i wr => ∃ k : Nat, k ≤ T.length ∧ i = .int .i64 k ∧ FreshSS w.heap.size wr o (allTo T k) ∧ Ext w wr) (fun _ i _ => T.length - (intOf i).toNat)
  case atStart => exact ⟨0, Nat.zero_le _, rfl, by rw [allTo_zero]; exact FreshSS.nil _ _, xb⟩
  case round =>
    obtain ⟨k, hk, rfl, hF, hx⟩ := hrel
    by_cases hlt : k < T.length
    · obtain ⟨bu, ou, rfl, du⟩ := hcu (by omega)
      obtain ⟨x, hx1, ix⟩ := du k hlt
      have gu := hx.cell hx1
      obtain ⟨R, hR⟩ : ∃ R, R = T[k] := ⟨_, rfl⟩
      rw [← hR] at ix
      have hl6 : R.length ≤ 6 := by rw [hR]; exact H6.out _ (List.getElem_mem hlt)
      have hal := allTo_len H6.out k (by omega)
      obtain ⟨ax, cx, rfl, hlx, _, hcx⟩ := ix
      unfold maxLen at hlx
      have HR := Lib.hid hR
      have HF0 := Lib.hid hF
      have HAL := Lib.hid hal
      clear hcu du hx1 hR hF hal
      obtain ⟨wo, hwo⟩ : ∃ wo : World, wo = wr := ⟨_, rfl⟩
      subst hwo
      go_wp2
      go_loopw [4, 22] (fun o i wr => ∃ j : Nat, j ≤ R.length ∧ i = .int .i64 j ∧ FreshSS w.heap.size wr o (allTo T k ++ comTo k R j) ∧ Ext w wr) (fun _ i _ => R.length - (intOf i).toNat)
      case atStart => exact ⟨0, Nat.zero_le _, rfl, by rw [comTo_zero, List.append_nil]; exact HF0.out, hx⟩
      case round =>
        obtain ⟨j, hj, rfl, hG, hy⟩ := hrel
        by_cases hjt : j < R.length
        · obtain ⟨bx, ox, rfl, dx⟩ := hcx (by omega)
          obtain ⟨y, hy1, iy⟩ := dx j hjt
          obtain ⟨d, hd⟩ : ∃ d, d = R[j] := ⟨_, rfl⟩
          rw [← hd] at hy1 iy
          have gy := hy1.ext hy
          obtain ⟨ay, cy, rfl, _⟩ := iy.ext hy
          have hcl := comTo_len k R j
          have hll : (allTo T k ++ comTo k R j).length ≤ 1048576 := by rw [List.length_append]; have := HAL.out; omega
          have HLL := Lib.hid hll
          have HD := Lib.hid hd
          have HG := Lib.hid hG
          clear hcx dx hy1 iy hd hG hcl hll
          obtain ⟨wp, hwp⟩ : ∃ wp : World, wp = wr := ⟨_, rfl⟩
          subst hwp
          obtain ⟨g0, g1, g2, g3, g4, g5, g6, g7, g8, g9⟩ := gy
          cases hst : (d.st == 3) with
          | false =>
            have hno : comAt k R j = [] := comAt_no hjt (by rw [← HD.out]; exact hst)
            have HNO := Lib.hid hno
            clear hno
            go_wp2
            go_roundw
            case rel => exact ⟨j + 1, by omega, by go_num, by rw [comTo_succ, HNO.out, List.append_nil]; exact HG.out.ext (Ext.alloc1 _ _), hy.alloc _⟩
            case measure => simp [intOf]; omega
          | true =>
            have hyes : comAt k R j = [[(k : Int), (j : Int) + 1]] := comAt_yes hjt (by rw [← HD.out]; exact hst)
            have HYES := Lib.hid hyes
            clear hyes
            have HBB := Lib.hid hy.size
            go_wp2_with (at_builtin; refine wpList_pushSS rfl _ _ rfl w.heap.size _ (allTo T k ++ comTo k R j) [(k : Int), (j : Int) + 1] wp rfl HG.out (Ext.alloc3 _ _ _ _) _ (fresh_pair _ _ _ _ _) ⟨wp.heap.size + 1 + 1, 0, none⟩ 1 rfl (cell_alloc_three _ _ _ _ _) rfl HLL.out HBB.out ?_)
            intro v' w' f' k'
            have hz : Ext w w' := k' w (hy.trans (Ext.alloc3 _ _ _ _)) (Nat.le_refl _)
            have FF := Lib.hid f'
            clear f' k' g0 g1 g2 g3 g4 g5 g6 g7 g8 g9
            go_wp2
            go_roundw
            case rel => exact ⟨j + 1, by omega, by go_num, by rw [comTo_succ, HYES.out]; exact FF.out, hz⟩
            case measure => simp [intOf]; omega
        · obtain rfl : j = R.length := by omega
          have HG := Lib.hid hG
          clear hG
          go_wp2
          go_roundw
          case rel => exact ⟨k + 1, by omega, by go_num, by rw [allTo_succ hlt, ← HR.out]; exact HG.out, hy⟩
          case measure => simp [intOf]; omega
    · obtain rfl : k = T.length := by omega
      have HF := Lib.hid hF
      clear hF
      go_wp2
      go_ret2
      exact ⟨_, rfl, HF.out, hx⟩

set_option maxHeartbeats 1000000 in
theorem implCommitted_any (n : Int) (u : Value) (T : List (List RowD)) (w : World) (hu : Rowzz w u T) (hs : bulkT T ≤ 1099511627776) :
    Calls Try.prog 35 #[.agg #[.int .i64 n, u]] w (TwoIntss (comR n T) (goodTab n T) w) := by
  cases hg : goodTab n T with
  | true => rw [comR_yes hg]; exact implCommitted_good n u T w hu hg hs
  | false =>
    rw [comR_no hg]
    have HU := Lib.hid (hu.ext (Ext.alloc1 w (.cells #[.int .i64 n, u] 29)))
    have HG := Lib.hid hg
    clear hg hu
    go_enter Try.func35, Try.ntmps35
    go_wp2_with fail
    refine (implGoodTable_any _ _ T _ HU.out hs).mono ?_
    rintro e w1 ⟨rfl, x1⟩
    have hx := (Ext.alloc1 w _).trans x1
    clear x1
    rw [HG.out]
    go_wp2
    go_ret2
    exact ⟨_, rfl, FreshSS.nil _ _, hx⟩

end Go.Proofs.Ytggbcklfadcdjaa
