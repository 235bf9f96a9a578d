/- Contracts of the program's isRisingBelow and GoodGraph. -/
import Derived.Test.YtnmnbeklofnonaaSpecGraph
namespace Go.Proofs.Ytnmnbeklofnonaa
open Go.RowKit
set_option linter.unusedVariables false

/-- The first k numbers rise below e, and r is one more than the last of them, or 0. -/
structure Up (l : List Int) (k : Nat) (r e : Int) : Prop where
  rises : Rises (l.take k)
  low : ∀ x ∈ l.take k, 0 ≤ x ∧ x < r
  last : r = 0 ∨ r - 1 ∈ l.take k
  zero : 0 ≤ r
  below : r ≤ e
theorem up_start (l : List Int) (e : Int) (h : 0 ≤ e) : Up l 0 0 e := ⟨by simp [Rises], by simp, .inl rfl, Int.le_refl _, h⟩
theorem up_next {l : List Int} {k : Nat} {r e : Int} (h : Up l k r e) (hk : k < l.length) (h1 : r ≤ l[k]) (h2 : l[k] < e) : Up l (k + 1) (l[k] + 1) e := by
  have ht : l.take (k + 1) = l.take k ++ [l[k]] := by rw [List.take_add_one, List.getElem?_eq_getElem hk]; rfl
  refine ⟨?_, fun x hx => ?_, .inr ?_, by have := h.zero; omega, by omega⟩
  · rw [ht]
    unfold Rises
    rw [List.pairwise_append]
    refine ⟨h.rises, by simp, fun a ha b hb => ?_⟩
    obtain rfl : b = l[k] := by simpa using hb
    have := (h.low a ha).2
    omega
  · rw [ht] at hx
    rcases List.mem_append.1 hx with hx | hx
    · have := h.low x hx; omega
    · obtain rfl : x = l[k] := by simpa using hx
      have := h.zero; omega
  · rw [show l[k] + 1 - 1 = l[k] by omega, ht]; exact List.mem_append_right _ (List.mem_singleton.2 rfl)
theorem up_low {l : List Int} {k : Nat} {r e : Int} (h : Up l k r e) (hk : k < l.length) (h1 : l[k] < r) : riseB l 0 (e - 1) = false := by
  cases hb : riseB l 0 (e - 1) with
  | false => rfl
  | true =>
    obtain ⟨h2, h3⟩ := riseB_of hb
    rcases h.last with h0 | h0
    · have := (h3 _ (List.getElem_mem hk)).1; omega
    · obtain ⟨i, hi, he⟩ := List.getElem_of_mem h0
      rw [List.length_take] at hi
      rw [List.getElem_take] at he
      have := List.pairwise_iff_getElem.1 h2 i k (by omega) hk (by omega)
      omega
theorem up_high {l : List Int} {k : Nat} {e : Int} (hk : k < l.length) (h1 : e ≤ l[k]) : riseB l 0 (e - 1) = false := by
  cases hb : riseB l 0 (e - 1) with
  | false => rfl
  | true => have := ((riseB_of hb).2 _ (List.getElem_mem hk)).2; omega
theorem up_end {l : List Int} {r e : Int} (h : Up l l.length r e) : riseB l 0 (e - 1) = true := by
  have h1 := h.rises
  have h2 := h.low
  rw [List.take_length] at h1 h2
  have h3 := h.below
  exact riseB_yes h1 (fun x hx => by have := h2 x hx; omega)

set_option maxHeartbeats 800000 in
theorem isRisingBelow_any (v : Value) (l : List Int) (e : Nat) (w : World) (hv : Ints w v l) (he : e ≤ 9223372036854775807) :
    Calls Try.prog 64 #[v, .int .i64 e] w (BoolExt (riseB l 0 ((e : Int) - 1)) w) := by
  obtain ⟨av, cv, rfl, hlv, _, hcv⟩ := hv
  unfold maxLen at hlv
  go_enter Try.func64, Try.ntmps64
  go_wp2
  go_loopw [5, 7, 10] (fun m _ i wr => ∃ (k : Nat) (r : Int), k ≤ l.length ∧ i = .int .i64 k ∧ m = .int .i64 r ∧ Hid (Up l k r e) ∧ Ext w wr) (fun _ _ i _ => l.length - (intOf i).toNat)
  case atStart => exact ⟨0, 0, Nat.zero_le _, rfl, rfl, Lib.hid (up_start l e (by omega)), Ext.refl _⟩
  case round =>
    obtain ⟨k, r, hk, rfl, rfl, hu, hx⟩ := hrel
    by_cases hlt : k < l.length
    · obtain ⟨bv, ov, rfl, dv⟩ := hcv (by omega)
      have gv := hx.cell (dv k hlt)
      rw [List.getElem?_eq_getElem hlt, Option.getD_some] at gv
      obtain ⟨n, hn⟩ : ∃ n, n = l[k] := ⟨_, rfl⟩
      rw [← hn] at gv
      have HN := Lib.hid hn
      clear hcv dv hn
      by_cases h1 : n < r
      · have HP := Lib.hid (up_low hu.out hlt (by rw [← HN.out]; exact h1))
        go_wp2
        go_ret
        exact ⟨by rw [HP.out]; rfl, hx⟩
      · have h1' : r ≤ n := by omega
        by_cases h2 : n < (e : Int)
        · have HP := Lib.hid (up_next hu.out hlt (by rw [← HN.out]; exact h1') (by rw [← HN.out]; exact h2))
          have h0 := hu.out.zero
          go_wp2
          go_roundw
          case rel => exact ⟨k + 1, n + 1, by omega, by go_num, by go_num, by rw [HN.out]; exact HP, hx⟩
          case measure => simp [intOf]; omega
        · have h2' : (e : Int) ≤ n := by omega
          have HP := Lib.hid (up_high (e := (e : Int)) hlt (by rw [← HN.out]; exact h2'))
          clear h1 h2
          go_wp2
          go_ret
          exact ⟨by rw [HP.out]; rfl, hx⟩
    · obtain rfl : k = l.length := by omega
      have HP := Lib.hid (up_end hu.out)
      go_wp2
      go_ret
      exact ⟨by rw [HP.out]; rfl, hx⟩

set_option maxHeartbeats 800000 in
theorem implGoodGraph_any (v : Value) (g : List (List Int)) (w : World) (hv : Intss w v g) :
    Calls Try.prog 24 #[v] w (BoolExt (goodG g) w) := by
  obtain ⟨av, cv, rfl, hlv, _, hcv⟩ := hv
  unfold maxLen at hlv
  by_cases h4 : g.length ≤ 40
  · have h4' : ¬ ((40 : Int) < (g.length : Int)) := by omega
    go_enter Try.func24, Try.ntmps24
    go_wp2
    go_loopw [4, 10] (fun _ i wr => ∃ k : Nat, k ≤ g.length ∧ i = .int .i64 k ∧ (g.take k).all (fun l => riseB l 0 ((g.length : Int) - 1)) = true ∧ Ext w wr) (fun _ i _ => g.length - (intOf i).toNat)
    case atStart => exact ⟨0, Nat.zero_le _, rfl, by simp, Ext.refl _⟩
    case round =>
      obtain ⟨k, hk, rfl, ht, hx⟩ := hrel
      have HT := Lib.hid ht
      clear ht
      by_cases hlt : k < g.length
      · obtain ⟨bu, ou, rfl, du⟩ := hcv (by omega)
        obtain ⟨x, hx1, ix⟩ := du k hlt
        rw [List.getElem?_eq_getElem hlt, Option.getD_some] at ix
        have gu := hx.cell hx1
        have IX := Lib.hid (ix.ext hx)
        have HX := Lib.hid hx
        clear hcv du hx1 ix hx
        go_wp2_with fail
        refine (isRisingBelow_any _ _ g.length _ IX.out (by omega)).mono ?_
        rintro e w1 ⟨rfl, x1⟩
        have hx2 := HX.out.trans x1
        clear x1 gu
        cases hp : riseB g[k] 0 ((g.length : Int) - 1) with
        | true =>
          have HP := Lib.hid hp
          go_wp2
          go_roundw
          case rel => exact ⟨k + 1, by omega, by go_num, allT_succ hlt _ HT.out HP.out, hx2⟩
          case measure => simp [intOf]; omega
        | false =>
          have HG := Lib.hid (goodG_not hlt hp)
          go_wp2
          go_ret
          exact ⟨by rw [HG.out]; rfl, hx2⟩
      · obtain rfl : k = g.length := by omega
        have HG := Lib.hid (goodG_all HT.out)
        have e4 : decide (g.length ≤ 40) = true := decide_eq_true h4
        rw [e4] at HG
        go_wp2
        go_ret
        exact ⟨by rw [HG.out]; rfl, hx⟩
  · have HG : Hid (goodG g = false) := Lib.hid (by unfold goodG; rw [decide_eq_false h4, Bool.and_false])
    have h4' : (40 : Int) < (g.length : Int) := by omega
    clear h4
    go_enter Try.func24, Try.ntmps24
    go_wp2
    go_ret
    exact ⟨by rw [HG.out]; rfl, Ext.refl _⟩

end Go.Proofs.Ytnmnbeklofnonaa
