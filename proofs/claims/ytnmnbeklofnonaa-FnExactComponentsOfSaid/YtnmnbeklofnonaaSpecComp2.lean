/- Contract of the model's ComponentsOf. -/
import Derived.Test.YtnmnbeklofnonaaSpecComps
namespace Go.Proofs.Ytnmnbeklofnonaa
open Go.RowKit
set_option linter.unusedVariables false

noncomputable def compsA (g : List (List Int)) : List (List Int) := if goodG g then compsL g else []
theorem compsC_bound (g : List (List Int)) (m : Nat) : ∀ (f : Nat) (left : List (List Int)), (∀ G ∈ left, G.length ≤ m) → (compsC g f left).length ≤ f ∧ ∀ G ∈ compsC g f left, G.length ≤ m
  | 0, left, _ => by simp [compsC]
  | f + 1, left, h => by
    unfold compsC
    cases hp : pickC g left with
    | none => simp
    | some k =>
      obtain ⟨h1, h2⟩ := compsC_bound g m f (left.eraseIdx k) (fun G hG => h G ((List.eraseIdx_sublist _ _).subset hG))
      simp only [List.length_cons]
      refine ⟨by omega, fun G hG => ?_⟩
      rcases List.mem_cons.1 hG with rfl | hG
      · cases hk : left[k]? with
        | none => simp
        | some G => exact h G (List.mem_of_getElem? hk)
      · exact h2 G hG
theorem sum_le_mul (m : Nat) : ∀ (L : List (List Int)), (∀ G ∈ L, G.length ≤ m) → (L.map List.length).sum ≤ L.length * m
  | [], _ => by simp
  | G :: L, h => by
    have h1 := sum_le_mul m L (fun H hH => h H (List.mem_cons_of_mem _ hH))
    have h2 := h G (by simp)
    simp only [List.map_cons, List.sum_cons, List.length_cons, Nat.succ_mul]
    omega
theorem groupsL_rowlen (g : List (List Int)) : ∀ G ∈ groupsL g, G.length ≤ g.length := fun G hG => by
  unfold groupsL at hG
  obtain ⟨k, _, rfl⟩ := List.mem_map.1 hG
  unfold groupL
  exact Nat.le_trans (List.length_filter_le _ _) (reachL_len g k)
theorem compsA_bulk (g : List (List Int)) : bulk (compsA g) ≤ 1640 := by
  unfold compsA
  cases hg : goodG g with
  | false => simp [bulk]
  | true =>
    obtain ⟨_, hl⟩ := goodG_of hg
    rw [if_pos rfl]
    unfold compsL
    obtain ⟨h1, h2⟩ := compsC_bound g g.length (groupsL g).length (groupsL g) (groupsL_rowlen g)
    have h3 := sum_le_mul g.length _ h2
    have h6 : (groupsL g).length ≤ g.length := by rw [← grpTo_all]; exact grpTo_len g _
    unfold bulk
    have h4 : (compsC g (groupsL g).length (groupsL g)).length * g.length ≤ 40 * 40 := Nat.mul_le_mul (by omega) hl
    omega

set_option maxHeartbeats 2000000 in
theorem specComponents_any (v : Value) (g : List (List Int)) (w : World) (hv : Intss w v g) :
    Calls Try.prog 26 #[v] w (TwoIntss (compsA g) (goodG g) w) := by
  have HV := Lib.hid hv
  obtain ⟨av, cv, rfl, hlv, _, _⟩ := hv
  cases hg : goodG g with
  | false =>
    have hc : compsA g = [] := by unfold compsA; rw [hg]; rfl
    rw [hc]
    have HG := Lib.hid hg
    clear hg hc
    go_enter Try.func26, Try.ntmps26
    go_wp2_with fail
    refine (specGoodGraph_any _ _ _ HV.out).mono ?_
    rintro e w1 ⟨rfl, x1⟩
    rw [HG.out]
    go_wp2
    go_ret2
    exact ⟨_, rfl, FreshSS.nil _ _, x1⟩
  | true =>
    have hc : compsA g = compsL g := by unfold compsA; rw [hg]; rfl
    rw [hc]
    have HG := Lib.hid hg
    clear hg hc
    go_enter Try.func26, Try.ntmps26
    go_wp2_with fail
    refine (specGoodGraph_any _ _ _ HV.out).mono ?_
    rintro e w1 ⟨rfl, x1⟩
    have X1 := Lib.hid x1
    rw [HG.out]
    clear x1
    go_wp2_with fail
    refine (l5Components_any _ g _ (HV.out.ext X1.out) HG.out).mono ?_
    rintro e w2 ⟨v2, rfl, f2, x2⟩
    have F2 := Lib.hid (f2.more X1.out.size)
    have X2 := Lib.hid (X1.out.trans x2)
    clear f2 x2
    go_wp2
    go_ret2
    exact ⟨_, rfl, F2.out, X2.out⟩

end Go.Proofs.Ytnmnbeklofnonaa
