/- Contracts of the two functions HangsOn, of the program and of the model. -/
import Derived.Test.YtggbcklfadcdjaaGoodAttr
namespace Go.Proofs.Ytggbcklfadcdjaa
open Go.RowKit
set_option linter.unusedVariables false

/-- Whether it is an instance of a group of n. -/
def instB (n rep no : Int) : Bool := inB rep 0 (n - 1) && inB no 1 6
theorem isGrp_bd {n : Int} (h : isGrp n = true) : 3 ≤ n ∧ n ≤ 5 := by rcases isGrp_of h with rfl | rfl <;> omega

set_option maxHeartbeats 400000 in
theorem l3Inst_any (n rep no : Int) (w : World) (h3 : 3 ≤ n) (h5 : n ≤ 5) :
    Calls Try.prog 81 #[.int .i64 n, .int .i64 rep, .int .i64 no] w fun e w' => e = .returned (.bool (instB n rep no)) ∧ w = w' := by
  unfold instB
  cases h1 : inB rep 0 (n - 1)
  · have H1 := Lib.hid h1
    clear h1
    go_enter Try.func81, Try.ntmps81
    go_wp2_with fail
    refine (l1In_any _ _ _ _).mono ?_
    rintro e w' ⟨rfl, rfl⟩
    rw [H1.out]
    go_wp2
    go_ret
    exact ⟨rfl, rfl⟩
  · have H1 := Lib.hid h1
    clear h1
    cases h2 : inB no 1 6
    all_goals
      have H2 := Lib.hid h2
      clear h2
      go_enter Try.func81, Try.ntmps81
      go_wp2_with fail
      refine (l1In_any _ _ _ _).mono ?_
      rintro e w' ⟨rfl, rfl⟩
      rw [H1.out]
      go_wp2_with fail
      refine (l1In_any _ _ _ _).mono ?_
      rintro e w' ⟨rfl, rfl⟩
      rw [H2.out]
      go_wp2
      go_ret
      exact ⟨rfl, rfl⟩

set_option maxHeartbeats 1000000 in
theorem isInstance_any (n rep no : Int) (w : World) (hg : isGrp n = true) :
    Calls Try.prog 53 #[.int .i64 n, .int .i64 rep, .int .i64 no] w fun e w' => e = .returned (.bool (instB n rep no)) ∧ w = w' := by
  have HG := Lib.hid hg
  clear hg
  by_cases h1 : rep < 0
  · have hr : instB n rep no = false := by unfold instB; rw [inB_no (by omega)]; rfl
    rw [hr]
    clear hr
    go_enter Try.func53, Try.ntmps53
    go_wp2_with fail
    refine (implIsGroup_any _ _).mono ?_
    rintro e w' ⟨rfl, rfl⟩
    rw [HG.out]
    go_wp2
    go_ret
    exact ⟨rfl, rfl⟩
  · have h1' : 0 ≤ rep := by omega
    clear h1
    by_cases h2 : rep < n
    · by_cases h3 : no < 1
      · have hr : instB n rep no = false := by unfold instB; rw [inB_no (n := no) (by omega), Bool.and_false]
        rw [hr]
        clear hr
        go_enter Try.func53, Try.ntmps53
        go_wp2_with fail
        refine (implIsGroup_any _ _).mono ?_
        rintro e w' ⟨rfl, rfl⟩
        rw [HG.out]
        go_wp2
        go_ret
        exact ⟨rfl, rfl⟩
      · have h3' : 1 ≤ no := by omega
        clear h3
        by_cases h4 : no ≤ 6
        · have hr : instB n rep no = true := by unfold instB; rw [inB_yes (n := no) (by omega) (by omega), inB_yes (by omega) (by omega)]; rfl
          rw [hr]
          clear hr
          go_enter Try.func53, Try.ntmps53
          go_wp2_with fail
          refine (implIsGroup_any _ _).mono ?_
          rintro e w' ⟨rfl, rfl⟩
          rw [HG.out]
          go_wp2
          go_ret
          exact ⟨rfl, rfl⟩
        · have hr : instB n rep no = false := by unfold instB; rw [inB_no (n := no) (by omega), Bool.and_false]
          rw [hr]
          have d4 : decide (no ≤ 6) = false := by simpa using h4
          clear hr h4
          go_enter Try.func53, Try.ntmps53
          go_wp2_with fail
          refine (implIsGroup_any _ _).mono ?_
          rintro e w' ⟨rfl, rfl⟩
          rw [HG.out]
          go_wp2
          go_ret
          exact ⟨rfl, rfl⟩
    · have hr : instB n rep no = false := by unfold instB; rw [inB_no (n := rep) (by omega)]; rfl
      rw [hr]
      have h2' : n ≤ rep := by omega
      clear hr h2
      go_enter Try.func53, Try.ntmps53
      go_wp2_with fail
      refine (implIsGroup_any _ _).mono ?_
      rintro e w' ⟨rfl, rfl⟩
      rw [HG.out]
      go_wp2
      go_ret
      exact ⟨rfl, rfl⟩

/-- What HangsOn tells. -/
def hangsB (n s : Int) (l : List Int) (rep no : Int) : Bool := goodA n s l && instB n rep no && decide (no ≤ l[rep.toNat]?.getD 0)
def hangsOk (n s : Int) (l : List Int) (rep no : Int) : Bool := goodA n s l && instB n rep no

end Go.Proofs.Ytggbcklfadcdjaa
