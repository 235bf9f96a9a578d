/- Contracts of Interfere of the program and of the model: both answer the same. -/
import Derived.Test.YtggbcklfadcdjaaTouchOf
namespace Go.Proofs.Ytggbcklfadcdjaa
open Go.RowKit
set_option linter.unusedVariables false

/-- Whether two commands touch some one account. -/
def interL (l r : List Int) : Bool := l.any fun x => hasI r x
def interB (k f t k' f' t' : Int) : Bool := interL (touchesL k f t) (touchesL k' f' t')

theorem putI_one_len (f t : Int) : (putI [f] t).length ≤ 2 := by
  unfold putI
  split
  · simp
  · simp; omega
theorem touchesL_len (k f t : Int) : (touchesL k f t).length ≤ 2 := by
  unfold touchesL
  split
  · exact putI_one_len f t
  · split <;> simp

set_option maxHeartbeats 2000000 in
theorem l2Interfere_any (k i f t a k' i' f' t' a' : Int) (w : World) :
    Calls Try.prog 90 #[.agg #[.int .i64 k, .int .i64 i, .int .i64 f, .int .i64 t, .int .i64 a], .agg #[.int .i64 k', .int .i64 i', .int .i64 f', .int .i64 t', .int .i64 a']] w (BoolExt (interB k f t k' f' t') w) := by
  have hlen := touchesL_len k f t
  unfold interB interL
  obtain ⟨l, hl⟩ : ∃ l, l = touchesL k f t := ⟨_, rfl⟩
  obtain ⟨r, hr⟩ : ∃ r, r = touchesL k' f' t' := ⟨_, rfl⟩
  rw [← hl] at hlen
  rw [← hl, ← hr]
  have HL := Lib.hid hl
  have HR := Lib.hid hr
  clear hl hr
  go_enter Try.func90, Try.ntmps90
  go_wp2_with fail
  refine (l2Touches_any _ _ _ _ _ _).mono ?_
  rintro e w1 ⟨v, rfl, f1, x1⟩
  rw [← HL.out] at f1
  have hb := (cmdAt_new2 w (.cells #[.int .i64 k, .int .i64 i, .int .i64 f, .int .i64 t, .int .i64 a] 38) 38 k' i' f' t' a').ext x1
  have HB := Lib.hid hb
  have hx : Ext w w1 := ((Ext.alloc (Ext.refl _) _).alloc _).trans x1
  clear x1 hb
  obtain ⟨av, cv, rfl, hlv, hcap, hcv⟩ := f1.ints
  have HC := Lib.hid hcap
  clear hcap f1 hlv
  go_wp2
  go_loopw [10] (fun j wr => ∃ n : Nat, n ≤ l.length ∧ j = .int .i64 n ∧ (l.take n).any (fun x => hasI r x) = false ∧ Ext w1 wr) (fun j _ => l.length - (intOf j).toNat)
  case atStart => exact ⟨0, by omega, rfl, by simp, Ext.refl _⟩
  case round =>
    obtain ⟨n, hn, rfl, ha, hx1⟩ := hrel
    have HA := Lib.hid ha
    clear ha
    by_cases hlt : n < l.length
    · obtain ⟨bv, ov, rfl, dv⟩ := hcv (by omega)
      have gv := hx1.cell (dv n hlt)
      clear hcv dv
      obtain ⟨c0, c1, c2, c3, c4⟩ := HB.out.ext hx1
      go_wp2_with fail
      refine (l2Touches_any _ _ _ _ _ _).mono ?_
      rintro e w2 ⟨u, rfl, f2, x2⟩
      rw [← HR.out] at f2
      go_wp2_with fail
      refine (l1Has_any _ _ _ _ f2.ints).mono ?_
      rintro e w3 ⟨rfl, x3⟩
      have hx3 : Ext w1 w3 := (hx1.trans x2).trans x3
      clear c0 c1 c2 c3 c4 f2 x2 x3 hx1
      cases hp : hasI r l[n] with
      | true =>
        have HP := Lib.hid hp
        go_wp2
        go_ret
        refine ⟨?_, hx.trans hx3⟩
        have hf : (l.any fun x => hasI r x) = true := any_true_at hlt _ (by rw [List.getElem?_eq_getElem hlt]; exact HP.out)
        rw [hf]; rfl
      | false =>
        have HP := Lib.hid hp
        go_wp2
        go_roundw
        case rel => exact ⟨n + 1, by omega, by go_num, any_take_succ hlt _ HA.out (by rw [List.getElem?_eq_getElem hlt]; exact HP.out), hx3⟩
        case measure => simp [intOf]; omega
    · obtain rfl : n = l.length := by omega
      go_wp2
      go_ret
      refine ⟨?_, hx.trans hx1⟩
      have hf : (l.any fun x => hasI r x) = false := by have h := HA.out; rwa [List.take_length] at h
      rw [hf]; rfl


end Go.Proofs.Ytggbcklfadcdjaa
