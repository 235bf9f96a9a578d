/- Contract of the model's l1Rising. -/
import Derived.Test.YtnmnbeklofnonaaL1In
import Derived.Test.YtnmnbeklofnonaaGraph
namespace Go.Proofs.Ytnmnbeklofnonaa
open Go.RowKit
set_option linter.unusedVariables false

theorem rises_take_succ {l : List Int} {k : Nat} (hk : k < l.length) (h : Rises (l.take k)) (hp : ∀ (h0 : 0 < k), l[k - 1] < l[k]) : Rises (l.take (k + 1)) := by
  unfold Rises
  rw [List.pairwise_iff_getElem]
  intro i j hi hj hij
  simp only [List.length_take] at hi hj
  rw [List.getElem_take, List.getElem_take]
  by_cases e : j = k
  · subst e
    have h0 := hp (by omega)
    by_cases e' : i = j - 1
    · subst e'; exact h0
    · have h1 := (List.pairwise_iff_getElem.1 h) i (j - 1) (by simp; omega) (by simp; omega) (by omega)
      rw [List.getElem_take, List.getElem_take] at h1
      omega
  · have h1 := (List.pairwise_iff_getElem.1 h) i j (by simp; omega) (by simp; omega) hij
    rwa [List.getElem_take, List.getElem_take] at h1
theorem riseB_out {l : List Int} {lo hi : Int} {k : Nat} (hk : k < l.length) (h : inB l[k] lo hi = false) : riseB l lo hi = false := by
  cases e : riseB l lo hi with
  | false => rfl
  | true =>
    have := (riseB_of e).2 _ (List.getElem_mem hk)
    rw [inB_yes this.1 this.2] at h
    cases h
theorem riseB_not {l : List Int} {lo hi : Int} {k : Nat} (hk : k + 1 < l.length) (h : ¬ l[k] < l[k + 1]) : riseB l lo hi = false := by
  cases e : riseB l lo hi with
  | false => rfl
  | true => exact absurd (List.pairwise_iff_getElem.1 (riseB_of e).1 k (k + 1) (by omega) hk (by omega)) h
theorem riseB_all {l : List Int} {lo hi : Int} (h : Rises (l.take l.length)) (k : (l.take l.length).all (fun x => inB x lo hi) = true) : riseB l lo hi = true := by
  rw [List.take_length] at h k
  unfold riseB allIn
  rw [k, decide_eq_true h]; rfl

set_option maxHeartbeats 800000 in
theorem l1Rising_any (v : Value) (l : List Int) (lo hi : Int) (w : World) (hv : Ints w v l) :
    Calls Try.prog 63 #[v, .int .i64 lo, .int .i64 hi] w (BoolExt (riseB l lo hi) w) := by
  obtain ⟨av, cv, rfl, hlv, _, hcv⟩ := hv
  unfold maxLen at hlv
  go_enter Try.func63, Try.ntmps63
  go_wp2
  go_loopw [7, 8, 11] (fun _ _ i wr => ∃ k : Nat, k ≤ l.length ∧ i = .int .i64 k ∧ (Rises (l.take k) ∧ (l.take k).all (fun x => inB x lo hi) = true) ∧ Ext w wr) (fun _ _ i _ => l.length - (intOf i).toNat)
  case atStart => exact ⟨0, Nat.zero_le _, rfl, ⟨by simp [Rises], by simp⟩, Ext.refl _⟩
  case round =>
    obtain ⟨k, hk, rfl, ht, hx⟩ := hrel
    have HT := Lib.hid ht
    clear ht
    by_cases hlt : k < l.length
    · obtain ⟨bv, ov, rfl, dv⟩ := hcv (by omega)
      have gv := hx.cell (dv k hlt)
      cases hp : inB l[k] lo hi with
      | false =>
        have HP := Lib.hid (riseB_out hlt hp)
        clear hcv dv
        go_wp2_with (go_at_call 67; refine (l1In_any _ _ _ _).mono ?_; rintro e w' ⟨rfl, rfl⟩)
        go_ret
        exact ⟨by rw [HP.out]; rfl, hx⟩
      | true =>
        rcases Nat.eq_zero_or_pos k with h0 | h0
        · have e0 : ¬ ((0 : Int) < (k : Int)) := by omega
          have H0 := Lib.hid h0
          clear hcv dv h0
          go_wp2_with (go_at_call 67; refine (l1In_any _ _ _ _).mono ?_; rintro e w' ⟨rfl, rfl⟩)
          go_roundw
          case rel => exact ⟨k + 1, by omega, by go_num, ⟨rises_take_succ hlt HT.out.1 (fun h => by have := H0.out; omega), all_take_succ hlt _ HT.out.2 (by simpa [hlt] using hp)⟩, hx⟩
          case measure => simp [intOf]; omega
        · obtain ⟨j, hj⟩ : ∃ j, j = k - 1 := ⟨_, rfl⟩
          have hjl : j < l.length := by omega
          have gp := hx.cell (dv j hjl)
          rw [List.getElem?_eq_getElem hjl] at gp
          have e1 : (k : Int) - 1 = (j : Int) := by omega
          have e0 : (0 : Int) < (k : Int) := by omega
          have HJ := Lib.hid hj
          clear hcv dv hj h0
          by_cases hr : l[j] < l[k]
          · have e2 : ¬ (l[k] ≤ l[j]) := by omega
            go_wp2_with (go_at_call 67; refine (l1In_any _ _ _ _).mono ?_; rintro e w' ⟨rfl, rfl⟩)
            go_roundw
            case rel => exact ⟨k + 1, by omega, by go_num, ⟨rises_take_succ hlt HT.out.1 (fun _ => by have := HJ.out; subst this; exact hr), all_take_succ hlt _ HT.out.2 (by simpa [hlt] using hp)⟩, hx⟩
            case measure => simp [intOf]; omega
          · have e2 : l[k] ≤ l[j] := by omega
            have hP : riseB l lo hi = false := by
              have hjk : k = j + 1 := by omega
              subst hjk
              exact riseB_not hlt hr
            have HP := Lib.hid hP
            clear hP
            go_wp2_with (go_at_call 67; refine (l1In_any _ _ _ _).mono ?_; rintro e w' ⟨rfl, rfl⟩)
            go_ret
            exact ⟨by rw [HP.out]; rfl, hx⟩
    · obtain rfl : k = l.length := by omega
      have HP := Lib.hid (riseB_all HT.out.1 HT.out.2)
      go_wp2
      go_ret
      exact ⟨by rw [HP.out]; rfl, hx⟩

end Go.Proofs.Ytnmnbeklofnonaa
