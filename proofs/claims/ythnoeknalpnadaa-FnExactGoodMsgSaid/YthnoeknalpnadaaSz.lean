/- Contract of the laws' size of a slice of integers. -/
import Derived.Test.YthnoeknalpnadaaWords
namespace Go.Proofs.Ythnoeknalpnadaa
open Go.RowKit

/-- What is left, -1 where there is not enough. -/
def lessened (left : Int) (n : Nat) : Int := if left < n then -1 else left - n
theorem lessened_no {left : Int} {n : Nat} (h : left < n) : lessened left n = -1 := by unfold lessened; rw [if_pos h]
theorem lessened_yes {left : Int} {n : Nat} (h : (n : Int) ≤ left) : lessened left n = left - n := by unfold lessened; rw [if_neg (by omega)]

set_option maxHeartbeats 400000 in
theorem szIntS_any (v : Value) (l : List Int) (left : Int) (w : World) (hv : Ints w v l) (h0 : 0 ≤ left) (h1 : left ≤ 1099511627776) :
    Calls Try.prog 111 #[v, .int .i64 left] w fun e w' => e = .returned (.int .i64 (lessened left l.length)) ∧ w = w' := by
  obtain ⟨av, cv, rfl, hlv, _, hcv⟩ := hv
  unfold maxLen at hlv
  by_cases hlt : left < l.length
  · rw [lessened_no hlt]
    go_enter Try.func111, Try.ntmps111
    go_wp2
    go_ret
    exact ⟨rfl, rfl⟩
  · rw [lessened_yes (by omega)]
    go_enter Try.func111, Try.ntmps111
    go_wp2
    go_ret
    exact ⟨rfl, rfl⟩

end Go.Proofs.Ythnoeknalpnadaa
