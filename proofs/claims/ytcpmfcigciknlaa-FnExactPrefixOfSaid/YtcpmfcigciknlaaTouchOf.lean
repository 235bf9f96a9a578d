/- Contracts of TouchesOf of the program and of the model: both tell the same accounts. -/
import Derived.Test.YtcpmfcigciknlaaTouch
namespace Go.Proofs.Ytcpmfcigciknlaa
open Go.RowKit
set_option linter.unusedVariables false

def touchesOf (k i f t a : Int) : List Int := if goodB k i f t a then touchesL k f t else []
theorem touchesOf_good {k i f t a : Int} (h : goodB k i f t a = true) : touchesOf k i f t a = touchesL k f t := by unfold touchesOf; rw [h]; rfl
theorem touchesOf_bad {k i f t a : Int} (h : goodB k i f t a = false) : touchesOf k i f t a = [] := by unfold touchesOf; rw [h]; rfl

theorem index4_0 (a b c d : Value) (W : World) : (Instr.index 58 (.agg #[a, b, c, d]) (.int .i64 0)).run Try.prog W = .ok a W := by kernel_rfl
theorem index4_1 (a b c d : Value) (W : World) : (Instr.index 58 (.agg #[a, b, c, d]) (.int .i64 1)).run Try.prog W = .ok b W := by kernel_rfl
theorem index4_2 (a b c d : Value) (W : World) : (Instr.index 58 (.agg #[a, b, c, d]) (.int .i64 2)).run Try.prog W = .ok c W := by kernel_rfl
theorem index4_3 (a b c d : Value) (W : World) : (Instr.index 58 (.agg #[a, b, c, d]) (.int .i64 3)).run Try.prog W = .ok d W := by kernel_rfl

set_option maxHeartbeats 2000000 in
theorem implTouches_any (k i f t a : Int) (w : World) :
    Calls Try.prog 20 #[.agg #[.int .i64 k, .int .i64 i, .int .i64 f, .int .i64 t, .int .i64 a]] w (TwoInts (touchesOf k i f t a) (goodB k i f t a) w) := by
  cases hg : goodB k i f t a with
  | false =>
    rw [touchesOf_bad hg]
    have HG := Lib.hid hg
    clear hg
    go_enter Try.func20, Try.ntmps20
    go_wp2_with fail
    refine (implGood_any _ _ _ _ _ _).mono ?_
    rintro e w1 ⟨rfl, x1⟩
    rw [HG.out]
    go_wp2
    go_ret2
    exact ⟨_, rfl, fresh_nil _ _, (Ext.alloc (Ext.refl _) _).trans x1⟩
  | true =>
    rw [touchesOf_good hg, ← touchedTo_all hg]
    have HG := Lib.hid hg
    clear hg
    go_enter Try.func20, Try.ntmps20
    go_wp2_with fail
    refine (implGood_any _ _ _ _ _ _).mono ?_
    rintro e w1 ⟨rfl, x1⟩
    rw [HG.out]
    obtain ⟨c0, c1, c2, c3, c4⟩ := (cmdAt_new w 36 k i f t a).ext x1
    go_wp2_with fail
    refine (touchedBy_any _ _ _ _ _ _ HG.out).mono ?_
    rintro e w2 ⟨rfl, x2⟩
    have hx : Ext w w2 := ((Ext.alloc (Ext.refl _) _).trans x1).trans x2
    clear c0 c1 c2 c3 c4 x1 x2
    go_wp2
    go_loopw [4, 12] (fun v j wr => ∃ n : Nat, n ≤ 4 ∧ j = .int .i64 n ∧ Fresh w.heap.size wr v (touchedTo k f t n) ∧ Ext w wr) (fun _ j _ => 4 - (intOf j).toNat)
    case atStart => exact ⟨0, by omega, rfl, fresh_nil _ _, hx⟩
    case round =>
      clear hx
      obtain ⟨n, hn, rfl, hf, hx⟩ := hrel
      have hlen := touchedTo_len k f t n
      by_cases hlt : n < 4
      · cases hb : touchB k f t n with
        | false =>
          have HM := Lib.hid (touchedTo_miss hb)
          have HB := Lib.hid hb
          clear hb
          have hix : ∀ W, (Instr.index 58 (.agg #[.bool (touchB k f t 0), .bool (touchB k f t 1), .bool (touchB k f t 2), .bool (touchB k f t 3)]) (.int .i64 (n : Int))).run Try.prog W = .ok (.bool false) W := by
            have hn4 : n = 0 ∨ n = 1 ∨ n = 2 ∨ n = 3 := by omega
            have hb' := HB.out
            intro W
            rcases hn4 with rfl | rfl | rfl | rfl
            · rw [show touchB k f t 0 = false from hb']; exact index4_0 _ _ _ _ W
            · rw [show touchB k f t 1 = false from hb']; exact index4_1 _ _ _ _ W
            · rw [show touchB k f t 2 = false from hb']; exact index4_2 _ _ _ _ W
            · rw [show touchB k f t 3 = false from hb']; exact index4_3 _ _ _ _ W
          go_wp2
          go_roundw
          case rel => exact ⟨n + 1, by omega, by go_num, by rw [HM.out]; exact hf, hx⟩
          case measure => simp [intOf]; omega
        | true =>
          have HM := Lib.hid (touchedTo_hit hb)
          have HB := Lib.hid hb
          clear hb
          have hix : ∀ W, (Instr.index 58 (.agg #[.bool (touchB k f t 0), .bool (touchB k f t 1), .bool (touchB k f t 2), .bool (touchB k f t 3)]) (.int .i64 (n : Int))).run Try.prog W = .ok (.bool true) W := by
            have hn4 : n = 0 ∨ n = 1 ∨ n = 2 ∨ n = 3 := by omega
            have hb' := HB.out
            intro W
            rcases hn4 with rfl | rfl | rfl | rfl
            · rw [show touchB k f t 0 = true from hb']; exact index4_0 _ _ _ _ W
            · rw [show touchB k f t 1 = true from hb']; exact index4_1 _ _ _ _ W
            · rw [show touchB k f t 2 = true from hb']; exact index4_2 _ _ _ _ W
            · rw [show touchB k f t 3 = true from hb']; exact index4_3 _ _ _ _ W
          have hbnd : (touchedTo k f t n).length ≤ 1099511627776 := by omega
          go_wp2_with (at_builtin; refine wpList_push rfl _ _ rfl w.heap.size _ (touchedTo k f t n) (n : Int) rfl (hf.ext (Ext.alloc (Ext.refl _) _)) ⟨wr.heap.size, 0, none⟩ 1 rfl (cell_alloc_one _ _ _) hbnd (size_alloc_le hx.size) ?_)
          intro v2 w2 f2 g2 k2
          have hx2 : Ext w w2 := k2 w (hx.alloc _) (Nat.le_refl _)
          rw [← HM.out] at f2
          clear k2 g2 hix hf hx
          go_wp2
          go_roundw
          case rel => exact ⟨n + 1, by omega, by go_num, f2, hx2⟩
          case measure => simp [intOf]; omega
      · obtain rfl : n = 4 := by omega
        go_wp2
        go_ret2
        exact ⟨_, rfl, hf, hx⟩

end Go.Proofs.Ytcpmfcigciknlaa
