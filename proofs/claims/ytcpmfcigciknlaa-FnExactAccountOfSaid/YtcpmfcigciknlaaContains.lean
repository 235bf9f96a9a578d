/- Contract of slices.Contains of a list of integers, as the program has it. -/
import Derived.Test.YtcpmfcigciknlaaPush
import Derived.WalkSpells
namespace Go.Proofs.Ytcpmfcigciknlaa
open Go.RowKit
set_option linter.unusedVariables false

/-- A number comes back: from 0 on just where x is met. -/
def IndexOf (l : List Int) (x : Int) (w : World) (e : Ending) (w' : World) : Prop := ∃ n : Int, e = .returned (.int .i64 n) ∧ decide (0 ≤ n) = hasI l x ∧ Ext w w'

set_option maxHeartbeats 800000 in
theorem index_any (v : Value) (l : List Int) (x : Int) (w : World) (hv : Ints w v l) : Calls Try.prog 31 #[v, .int .i64 x] w (IndexOf l x w) := by
  obtain ⟨av, cv, rfl, hlv, _, hcv⟩ := hv
  unfold maxLen at hlv
  have DV := Lib.hid hcv
  clear hcv
  go_enter Try.func31, Try.ntmps31
  go_wp2
  go_loopw [5, 8] (fun _ i wr => ∃ k : Nat, k ≤ l.length ∧ i = .int .i64 k ∧ Hid ((l.take k).any (fun y => y == x) = false) ∧ Ext w wr) (fun _ i _ => l.length - (intOf i).toNat)
  case atStart => exact ⟨0, Nat.zero_le _, rfl, Lib.hid (by simp), Ext.refl _⟩
  case round =>
    obtain ⟨k, hk, rfl, hA, hx⟩ := hrel
    by_cases hlt : k < l.length
    · obtain ⟨bv, ov, rfl, dv⟩ := DV.out (by omega)
      have gv := hx.cell (dv k hlt)
      have hst := any_take_succ (p := fun y => y == x) hlt hA.out
      have htr := any_true_at (p := fun y => y == x) hlt
      rw [List.getElem?_eq_getElem hlt, Option.getD_some] at gv hst htr
      obtain ⟨n, hn⟩ : ∃ n, n = l[k] := ⟨_, rfl⟩
      rw [← hn] at gv hst htr
      have HST := Lib.hid hst
      have HTR := Lib.hid htr
      clear hst htr hn dv
      by_cases e : x = n
      · have e1 : (x == n) = true := by simp [e]
        have HT : Hid (hasI l x = true) := Lib.hid (HTR.out (by simp [e]))
        clear e
        go_wp2
        go_ret
        exact ⟨(k : Int), rfl, by rw [HT.out]; simp, hx⟩
      · have e1 : (x == n) = false := by simp [e]
        have HT : Hid ((l.take (k + 1)).any (fun y => y == x) = false) := Lib.hid (HST.out (by simp; omega))
        clear e
        go_wp2
        go_roundw
        case rel => exact ⟨k + 1, by omega, by go_num, HT, hx⟩
        case measure => simp [intOf]; omega
    · obtain rfl : k = l.length := by omega
      have HT : Hid (hasI l x = false) := Lib.hid (by have := hA.out; rw [List.take_length] at this; exact this)
      go_wp2
      go_ret
      exact ⟨-1, rfl, by rw [HT.out]; decide, hx⟩

set_option maxHeartbeats 800000 in
theorem contains_any (v : Value) (l : List Int) (x : Int) (w : World) (hv : Ints w v l) : Calls Try.prog 21 #[v, .int .i64 x] w (BoolExt (hasI l x) w) := by
  have HV := Lib.hid hv
  obtain ⟨av, cv, rfl, hlv, _, _⟩ := hv
  go_enter Try.func21, Try.ntmps21
  go_wp2_with fail
  refine (index_any _ l x _ HV.out).mono ?_
  rintro e w1 ⟨n, rfl, hn, x1⟩
  have HN := Lib.hid hn
  clear hn
  go_wp2
  go_ret
  exact ⟨by rw [← HN.out]; rfl, x1⟩

end Go.Proofs.Ytcpmfcigciknlaa
