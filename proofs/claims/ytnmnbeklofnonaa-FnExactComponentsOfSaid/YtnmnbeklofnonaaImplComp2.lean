/- Contract of the program's ComponentsOf. -/
import Derived.Test.YtnmnbeklofnonaaSpecComp2
import Derived.Test.YtnmnbeklofnonaaImplTurn3
namespace Go.Proofs.Ytnmnbeklofnonaa
open Go.RowKit
set_option linter.unusedVariables false

set_option maxHeartbeats 2000000 in
theorem implComponents_any (v : Value) (g : List (List Int)) (w : World) (hv : Intss w v g) :
    Calls Try.prog 27 #[v] w (TwoIntss (compsA g) (goodG g) w) := by
  have HV := Lib.hid hv
  obtain ⟨av, cv, rfl, hlv, _, _⟩ := hv
  cases hg : goodG g with
  | false =>
    have hc : compsA g = [] := by unfold compsA; rw [hg]; rfl
    rw [hc]
    have HG := Lib.hid hg
    clear hg hc
    go_enter Try.func27, Try.ntmps27
    go_wp2_with fail
    refine (implGoodGraph_any _ _ _ HV.out).mono ?_
    rintro e w1 ⟨rfl, x1⟩
    rw [HG.out]
    go_wp2
    go_ret2
    exact ⟨_, rfl, FreshSS.nil _ _, x1⟩
  | true =>
    have hc : compsA g = compsL g := by unfold compsA; rw [hg]; rfl
    rw [hc]
    obtain ⟨ha, hb⟩ := goodG_of hg
    have HG := Lib.hid hg
    have HA := Lib.hid ha
    have HB := Lib.hid hb
    clear hg hc ha hb
    go_enter Try.func27, Try.ntmps27
    go_wp2_with fail
    refine (implGoodGraph_any _ _ _ HV.out).mono ?_
    rintro e w1 ⟨rfl, x1⟩
    have X1 := Lib.hid x1
    rw [HG.out]
    clear x1
    go_wp2_with fail
    refine (groupsInTurn_any g HA.out HB.out _ _ (HV.out.ext X1.out)).mono ?_
    rintro e w2 ⟨v2, rfl, f2, x2⟩
    have F2 := Lib.hid (f2.more X1.out.size)
    have X2 := Lib.hid (X1.out.trans x2)
    clear f2 x2
    go_wp2
    go_ret2
    exact ⟨_, rfl, F2.out, X2.out⟩

end Go.Proofs.Ytnmnbeklofnonaa
