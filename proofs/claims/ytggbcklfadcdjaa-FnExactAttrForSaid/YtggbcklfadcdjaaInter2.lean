/- Contract of the program's Interfere. -/
import Derived.Test.YtggbcklfadcdjaaInter
namespace Go.Proofs.Ytggbcklfadcdjaa
open Go.RowKit
set_option linter.unusedVariables false

def bothTo (k f t k' f' t' : Int) (n : Nat) : Bool := (List.range n).any fun (j : Nat) => touchB k f t (j : Int) && touchB k' f' t' (j : Int)
theorem bothTo_succ (k f t k' f' t' : Int) (n : Nat) : bothTo k f t k' f' t' (n + 1) = (bothTo k f t k' f' t' n || (touchB k f t (n : Int) && touchB k' f' t' (n : Int))) := by
  simp [bothTo, List.range_succ]
theorem bothTo_all {k i f t a k' i' f' t' a' : Int} (hg : goodB k i f t a = true) (hg' : goodB k' i' f' t' a' = true) : interB k f t k' f' t' = bothTo k f t k' f' t' 4 := by
  unfold interB
  rw [← touchedTo_all hg, ← touchedTo_all hg']
  have r4 : List.range 4 = [0, 1, 2, 3] := rfl
  unfold touchedTo bothTo interL
  rw [r4]
  simp only [List.filter_cons, List.filter_nil, List.any_cons, List.any_nil]
  generalize touchB k f t ((0 : Nat) : Int) = a0
  generalize touchB k f t ((1 : Nat) : Int) = a1
  generalize touchB k f t ((2 : Nat) : Int) = a2
  generalize touchB k f t ((3 : Nat) : Int) = a3
  generalize touchB k' f' t' ((0 : Nat) : Int) = b0
  generalize touchB k' f' t' ((1 : Nat) : Int) = b1
  generalize touchB k' f' t' ((2 : Nat) : Int) = b2
  generalize touchB k' f' t' ((3 : Nat) : Int) = b3
  revert a0 a1 a2 a3 b0 b1 b2 b3
  decide

set_option maxHeartbeats 2000000 in
theorem implInterfere_good (k i f t a k' i' f' t' a' : Int) (w : World) (hg : goodB k i f t a = true) (hg' : goodB k' i' f' t' a' = true) :
    Calls Try.prog 66 #[.agg #[.int .i64 k, .int .i64 i, .int .i64 f, .int .i64 t, .int .i64 a], .agg #[.int .i64 k', .int .i64 i', .int .i64 f', .int .i64 t', .int .i64 a']] w (TwoB (bothTo k f t k' f' t' 4) true w) := by
  have HG := Lib.hid hg
  have HG' := Lib.hid hg'
  clear hg hg'
  go_enter Try.func66, Try.ntmps66
  go_wp2_with fail
  refine (implGood_any _ _ _ _ _ _).mono ?_
  rintro e w1 ⟨rfl, x1⟩
  rw [HG.out]
  obtain ⟨c0, c1, c2, c3, c4⟩ := (cmdAt_new2 w (.cells #[.int .i64 k, .int .i64 i, .int .i64 f, .int .i64 t, .int .i64 a] 38) 38 k' i' f' t' a').ext x1
  obtain ⟨d0, d1, d2, d3, d4⟩ := (((cmdAt_new w 38 k i f t a).ext (Ext.alloc (Ext.refl _) (.cells #[.int .i64 k', .int .i64 i', .int .i64 f', .int .i64 t', .int .i64 a'] 38)))).ext x1
  go_wp2_with fail
  refine (implGood_any _ _ _ _ _ _).mono ?_
  rintro e w2 ⟨rfl, x2⟩
  rw [HG'.out]
  have hc : CmdAt w2 (w.heap.size + 1) k' i' f' t' a' := (show CmdAt w1 (w.heap.size + 1) k' i' f' t' a' from ⟨c0, c1, c2, c3, c4⟩).ext x2
  have hd : CmdAt w2 w.heap.size k i f t a := (show CmdAt w1 w.heap.size k i f t a from ⟨d0, d1, d2, d3, d4⟩).ext x2
  clear c0 c1 c2 c3 c4 d0 d1 d2 d3 d4
  obtain ⟨c0, c1, c2, c3, c4⟩ := hc
  go_wp2_with fail
  refine (touchedBy_any _ _ _ _ _ _ HG'.out).mono ?_
  rintro e w3 ⟨rfl, x3⟩
  obtain ⟨d0, d1, d2, d3, d4⟩ := (hd.ext x3).ext (Ext.alloc (Ext.refl w3) (.cells #[.bool (touchB k' f' t' 0), .bool (touchB k' f' t' 1), .bool (touchB k' f' t' 2), .bool (touchB k' f' t' 3)] 113))
  have hx : Ext w w3 := ((((Ext.alloc (Ext.refl _) _).alloc _).trans x1).trans x2).trans x3
  clear c0 c1 c2 c3 c4 x1 x2 x3 hd
  go_wp2_with fail
  refine (touchedBy_any _ _ _ _ _ _ HG.out).mono ?_
  rintro e w4 ⟨rfl, x4⟩
  have m0 := x4.cell (a := ⟨w3.heap.size, 0, none⟩) (v := .bool (touchB k' f' t' 0)) (by go_simp)
  have m1 := x4.cell (a := ⟨w3.heap.size, 1, none⟩) (v := .bool (touchB k' f' t' 1)) (by go_simp)
  have m2 := x4.cell (a := ⟨w3.heap.size, 2, none⟩) (v := .bool (touchB k' f' t' 2)) (by go_simp)
  have m3 := x4.cell (a := ⟨w3.heap.size, 3, none⟩) (v := .bool (touchB k' f' t' 3)) (by go_simp)
  have hx4 : Ext w w4 := (hx.alloc _).trans x4
  have HM := Lib.hid (And.intro m0 (And.intro m1 (And.intro m2 m3)))
  clear d0 d1 d2 d3 d4 m0 m1 m2 m3 x4 hx
  go_wp2
  go_loopw [21] (fun j wr => ∃ n : Nat, n ≤ 4 ∧ j = .int .i64 n ∧ bothTo k f t k' f' t' n = false ∧ wr = w4) (fun j _ => 4 - (intOf j).toNat)
  case atStart => exact ⟨0, by omega, rfl, rfl, by trivial⟩
  case round =>
    obtain ⟨n, hn, rfl, ha, rfl⟩ := hrel
    have HA := Lib.hid ha
    clear ha
    by_cases hlt : n < 4
    · have hn4 : n = 0 ∨ n = 1 ∨ n = 2 ∨ n = 3 := by omega
      have hcell : wr.cell? ⟨w3.heap.size, n, none⟩ = some (.bool (touchB k' f' t' n)) := by
        obtain ⟨m0, m1, m2, m3⟩ := HM.out
        rcases hn4 with rfl | rfl | rfl | rfl
        · exact m0
        · exact m1
        · exact m2
        · exact m3
      have hix : ∀ W, (Instr.index 113 (.agg #[.bool (touchB k f t 0), .bool (touchB k f t 1), .bool (touchB k f t 2), .bool (touchB k f t 3)]) (.int .i64 (n : Int))).run Try.prog W = .ok (.bool (touchB k f t n)) W := by
        intro W
        rcases hn4 with rfl | rfl | rfl | rfl
        · exact index4_0 _ _ _ _ W
        · exact index4_1 _ _ _ _ W
        · exact index4_2 _ _ _ _ W
        · exact index4_3 _ _ _ _ W
      have hs := bothTo_succ k f t k' f' t' n
      rw [HA.out, Bool.false_or] at hs
      have HS := Lib.hid hs
      clear hs hn4
      cases h1 : touchB k f t n with
      | false =>
        rw [h1] at hix
        have HT := Lib.hid h1
        clear h1
        go_wp2
        go_roundw
        case rel => exact ⟨n + 1, by omega, by go_num, by rw [HS.out, HT.out]; rfl, by trivial⟩
        case measure => simp [intOf]; omega
      | true =>
        rw [h1] at hix
        have HT := Lib.hid h1
        clear h1
        cases h2 : touchB k' f' t' n with
        | false =>
          rw [h2] at hcell
          have HU := Lib.hid h2
          clear h2
          go_wp2
          go_roundw
          case rel => exact ⟨n + 1, by omega, by go_num, by rw [HS.out, HT.out, HU.out]; rfl, by trivial⟩
          case measure => simp [intOf]; omega
        | true =>
          rw [h2] at hcell
          have HU := Lib.hid h2
          clear h2
          go_wp2
          go_ret2
          have hb : bothTo k f t k' f' t' 4 = true := by
            unfold bothTo
            rw [List.any_eq_true]
            exact ⟨n, List.mem_range.2 hlt, by rw [HT.out, HU.out]; rfl⟩
          exact ⟨by rw [hb]; rfl, hx4⟩
    · obtain rfl : n = 4 := by omega
      go_wp2
      go_ret2
      exact ⟨by rw [HA.out]; rfl, hx4⟩

theorem implInterfere_any (k i f t a k' i' f' t' a' : Int) (w : World) :
    Calls Try.prog 66 #[.agg #[.int .i64 k, .int .i64 i, .int .i64 f, .int .i64 t, .int .i64 a], .agg #[.int .i64 k', .int .i64 i', .int .i64 f', .int .i64 t', .int .i64 a']] w (TwoB ((goodB k i f t a && goodB k' i' f' t' a') && interB k f t k' f' t') (goodB k i f t a && goodB k' i' f' t' a') w) := by
  cases hg : goodB k i f t a with
  | false =>
    have HG := Lib.hid hg
    clear hg
    go_enter Try.func66, Try.ntmps66
    go_wp2_with fail
    refine (implGood_any _ _ _ _ _ _).mono ?_
    rintro e w1 ⟨rfl, x1⟩
    rw [HG.out]
    go_wp2
    go_ret2
    exact ⟨rfl, ((Ext.alloc (Ext.refl _) _).alloc _).trans x1⟩
  | true =>
    cases hg' : goodB k' i' f' t' a' with
    | false =>
      have HG := Lib.hid hg
      have HG' := Lib.hid hg'
      clear hg hg'
      go_enter Try.func66, Try.ntmps66
      go_wp2_with fail
      refine (implGood_any _ _ _ _ _ _).mono ?_
      rintro e w1 ⟨rfl, x1⟩
      rw [HG.out]
      obtain ⟨c0, c1, c2, c3, c4⟩ := (cmdAt_new2 w (.cells #[.int .i64 k, .int .i64 i, .int .i64 f, .int .i64 t, .int .i64 a] 38) 38 k' i' f' t' a').ext x1
      go_wp2_with fail
      refine (implGood_any _ _ _ _ _ _).mono ?_
      rintro e w2 ⟨rfl, x2⟩
      rw [HG'.out]
      go_wp2
      go_ret2
      exact ⟨rfl, (((Ext.alloc (Ext.refl _) _).alloc _).trans x1).trans x2⟩
    | true =>
      rw [bothTo_all hg hg']
      exact implInterfere_good k i f t a k' i' f' t' a' w hg hg'

end Go.Proofs.Ytggbcklfadcdjaa
