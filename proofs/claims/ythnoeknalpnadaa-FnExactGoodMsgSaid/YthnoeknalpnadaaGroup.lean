/- Contracts of IsGroup, of the program and of the model. -/
import Derived.Test.YthnoeknalpnadaaWords
namespace Go.Proofs.Ythnoeknalpnadaa
open Go.RowKit

def isGrp (n : Int) : Bool := n == 3 || n == 5
theorem isGrp_of {n : Int} (h : isGrp n = true) : n = 3 ∨ n = 5 := by simpa [isGrp] using h
theorem isGrp_no {n : Int} (h : isGrp n = false) : (n == 3) = false ∧ (n == 5) = false := by simpa [isGrp] using h

theorem specIsGroup_any (n : Int) (w : World) : Calls Try.prog 75 #[.int .i64 n] w (fun e w' => e = .returned (.bool (isGrp n)) ∧ w = w') := by
  cases h : isGrp n with
  | true =>
    rcases isGrp_of h with rfl | rfl
    all_goals
      clear h
      go_enter Try.func75, Try.ntmps75
      go_wp2
      go_ret
      exact ⟨rfl, rfl⟩
  | false =>
    obtain ⟨h3, h5⟩ := isGrp_no h
    clear h
    go_enter Try.func75, Try.ntmps75
    go_wp2
    go_ret
    exact ⟨rfl, rfl⟩
theorem implIsGroup_any (n : Int) (w : World) : Calls Try.prog 129 #[.int .i64 n] w (fun e w' => e = .returned (.bool (isGrp n)) ∧ w = w') := by
  cases h : isGrp n with
  | true =>
    rcases isGrp_of h with rfl | rfl
    all_goals
      clear h
      go_enter Try.func129, Try.ntmps129
      go_wp2
      go_ret
      exact ⟨rfl, rfl⟩
  | false =>
    obtain ⟨h3, h5⟩ := isGrp_no h
    clear h
    go_enter Try.func129, Try.ntmps129
    go_wp2
    go_ret
    exact ⟨rfl, rfl⟩

end Go.Proofs.Ythnoeknalpnadaa
