/- Contract of the model's GoodGraph. -/
import Derived.Test.YtnmnbeklofnonaaRising
import Derived.Test.YtnmnbeklofnonaaSS
namespace Go.Proofs.Ytnmnbeklofnonaa
open Go.RowKit
set_option linter.unusedVariables false

theorem goodG_of {g : List (List Int)} (h : goodG g = true) : rowsB g = true ∧ g.length ≤ 40 := by
  unfold goodG at h
  simpa using h
theorem goodG_not {g : List (List Int)} {k : Nat} (hk : k < g.length) (h : riseB g[k] 0 ((g.length : Int) - 1) = false) : goodG g = false := by
  cases e : goodG g with
  | false => rfl
  | true =>
    unfold goodG rowsB at e
    rw [Bool.and_eq_true] at e
    have := List.all_eq_true.1 e.1 _ (List.getElem_mem hk)
    rw [h] at this; cases this
theorem goodG_all {g : List (List Int)} (h : (g.take g.length).all (fun l => riseB l 0 ((g.length : Int) - 1)) = true) : goodG g = decide (g.length ≤ 40) := by
  rw [List.take_length] at h
  unfold goodG rowsB
  rw [h]; rfl
theorem allT_succ {α : Type} {L : List α} {k : Nat} (h : k < L.length) (p : α → Bool) (ht : (L.take k).all p = true) (hp : p L[k] = true) : (L.take (k + 1)).all p = true := by
  rw [List.take_add_one, List.getElem?_eq_getElem h, List.all_append, ht]
  simpa using hp

set_option maxHeartbeats 800000 in
theorem specGoodGraph_any (v : Value) (g : List (List Int)) (w : World) (hv : Intss w v g) :
    Calls Try.prog 22 #[v] w (BoolExt (goodG g) w) := by
  obtain ⟨av, cv, rfl, hlv, _, hcv⟩ := hv
  unfold maxLen at hlv
  go_enter Try.func22, Try.ntmps22
  go_wp2
  go_loopw [4, 7] (fun _ i wr => ∃ k : Nat, k ≤ g.length ∧ i = .int .i64 k ∧ (g.take k).all (fun l => riseB l 0 ((g.length : Int) - 1)) = true ∧ Ext w wr) (fun _ i _ => g.length - (intOf i).toNat)
  case atStart => exact ⟨0, Nat.zero_le _, rfl, by simp, Ext.refl _⟩
  case round =>
    obtain ⟨k, hk, rfl, ht, hx⟩ := hrel
    have HT := Lib.hid ht
    clear ht
    by_cases hlt : k < g.length
    · obtain ⟨bu, ou, rfl, du⟩ := hcv (by omega)
      obtain ⟨x, hx1, ix⟩ := du k hlt
      rw [List.getElem?_eq_getElem hlt] at ix
      have gu := hx.cell hx1
      have IX := Lib.hid (ix.ext hx)
      have HX := Lib.hid hx
      clear hcv du hx1 ix hx
      go_wp2_with fail
      refine (l1Rising_any _ _ _ _ _ IX.out).mono ?_
      rintro e w1 ⟨rfl, x1⟩
      have hx2 := HX.out.trans x1
      clear x1 gu
      cases hp : riseB g[k] 0 ((g.length : Int) - 1) with
      | true =>
        have HP := Lib.hid hp
        go_wp2
        go_roundw
        case rel => exact ⟨k + 1, by omega, by go_num, allT_succ hlt _ HT.out HP.out, hx2⟩
        case measure => simp [intOf]; omega
      | false =>
        have HG := Lib.hid (goodG_not hlt hp)
        go_wp2
        go_ret
        exact ⟨by rw [HG.out]; rfl, hx2⟩
    · obtain rfl : k = g.length := by omega
      have HG := Lib.hid (goodG_all HT.out)
      have e4 : decide (g.length ≤ 40) = decide ((g.length : Int) ≤ 40) := by simp only [decide_eq_decide]; omega
      rw [e4] at HG
      go_wp2
      go_ret
      exact ⟨by rw [HG.out]; rfl, hx⟩

end Go.Proofs.Ytnmnbeklofnonaa
