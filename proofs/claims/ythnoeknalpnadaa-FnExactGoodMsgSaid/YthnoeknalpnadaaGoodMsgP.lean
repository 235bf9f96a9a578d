/- Pure: the model's and the program's ways to say what a good message is are one. -/
import Derived.Test.YthnoeknalpnadaaGoodM
import Derived.Test.YthnoeknalpnadaaSpecGoodMsg
namespace Go.Proofs.Ythnoeknalpnadaa
open Go.RowKit
set_option linter.unusedVariables false

theorem headG_eq (n : Int) (r : MsgD) : headG n r = (inB r.kd 1 7 && (wayB n r && inB r.b 0 9999)) := by
  unfold headG wayB repB instB
  generalize isGrp n = a
  generalize inB r.kd 1 7 = b
  generalize inB r.fr 0 (n - 1) = c
  generalize inB r.tt 0 (n - 1) = d
  generalize (r.fr == r.tt) = e
  generalize inB r.rp 0 (n - 1) = f
  generalize inB r.no 1 6 = g
  generalize inB r.b 0 9999 = h
  revert a b c d e f g h
  decide
theorem sameA_self (s : Int) (l : List Int) : sameA s s l l = true := by unfold sameA; simp
theorem sameM_13 (r : MsgD) : sameM r ⟨r.kd, r.fr, r.tt, r.rp, r.no, r.b, 0, 0, r.k, r.i, r.f, r.t, r.a, r.s, r.l⟩ = (r.v == 0 && r.st == 0) := by
  unfold sameM sameH sameC
  simp [sameA_self]
theorem sameM_2 (r : MsgD) : sameM r ⟨r.kd, r.fr, r.tt, r.rp, r.no, r.b, 0, 0, 0, 0, 0, 0, 0, r.s, r.l⟩ = (r.v == 0 && r.st == 0 && zeroC r.k r.i r.f r.t r.a) := by
  unfold sameM sameH sameC zeroC
  simp [sameA_self, Bool.and_assoc]
theorem sameM_4 (n : Int) (r : MsgD) : sameM r ⟨r.kd, r.fr, r.tt, r.rp, r.no, r.b, 0, 0, 0, 0, 0, 0, 0, 0, noneL n⟩ = (r.v == 0 && r.st == 0 && (zeroC r.k r.i r.f r.t r.a && sameA r.s 0 r.l (noneL n))) := by
  unfold sameM sameH sameC zeroC
  simp [Bool.and_assoc]
theorem sameM_self (r : MsgD) : sameM r r = true := by
  unfold sameM sameH sameC
  simp [sameA_self]
theorem zeroC_good (k i f t a : Int) (h : zeroC k i f t a = true) : goodB k i f t a = true := by
  unfold zeroC at h
  simp only [Bool.and_eq_true, beq_iff_eq] at h
  obtain ⟨rfl, rfl, rfl, rfl, rfl⟩ := h
  decide
theorem none_good (n s : Int) (l : List Int) (hn : isGrp n = true) (h : sameA s 0 l (noneL n) = true) : goodD n s l = true := by
  unfold sameA at h
  simp only [Bool.and_eq_true, beq_iff_eq, decide_eq_true_eq] at h
  obtain ⟨rfl, rfl⟩ := h
  rcases isGrp_of hn with rfl | rfl <;> decide
theorem and_imp {a b : Bool} (h : a = true → b = true) : (b && a) = a := by
  cases a with
  | false => simp
  | true => rw [h rfl]; rfl
theorem goodG_eq (n : Int) (r : MsgD) : goodG n r = goodM n r := by
  unfold goodG goodM
  rw [headG_eq]
  cases hk : inB r.kd 1 7 with
  | false => rfl
  | true =>
    cases hW : wayB n r with
    | false => simp
    | true =>
      have hg := wayB_grp hW
      have hA : goodA n r.s r.l = goodD n r.s r.l := by unfold goodA; rw [hg]; rfl
      have hk2 : 1 ≤ r.kd ∧ r.kd ≤ 7 := by unfold inB at hk; simpa using hk
      simp only [Bool.true_and]
      by_cases k7 : r.kd = 7
      · have e1 : ballotB r = inB r.b 0 9999 := by unfold ballotB; rw [if_neg (by omega)]
        have e2 : contB n r = (!(r.st == 3) && goodRow n (rowM r)) := by unfold contB; rw [if_neg (by omega), if_pos k7]
        have e3 : onlyM n r = r := by unfold onlyM; rw [if_neg (by omega), if_pos k7]
        rw [if_pos k7, e1, e2, e3, sameM_self, Bool.and_true]
        rfl
      · rw [if_neg k7]
        unfold bodyG
        by_cases k2 : r.kd = 2
        · have e1 : ballotB r = inB r.b 0 9999 := by unfold ballotB; rw [if_neg (by omega)]
          have e2 : contB n r = goodA n r.s r.l := by unfold contB; rw [if_pos k2]
          have e3 : onlyM n r = ⟨r.kd, r.fr, r.tt, r.rp, r.no, r.b, 0, 0, 0, 0, 0, 0, 0, r.s, r.l⟩ := by unfold onlyM; rw [if_pos k2]
          have e4 : lastG n r = zeroC r.k r.i r.f r.t r.a := by unfold lastG; rw [if_pos k2]
          have e5 : (r.kd == 5) = false := by simp; omega
          rw [e1, e2, e3, e4, e5, hA, sameM_2]
          have hz := zeroC_good r.k r.i r.f r.t r.a
          clear e1 e2 e3 e4 e5 hA
          generalize zeroC r.k r.i r.f r.t r.a = z at hz ⊢
          generalize goodB r.k r.i r.f r.t r.a = g at hz ⊢
          generalize inB r.b 0 9999 = a
          generalize (r.b == 0) = p
          generalize (r.v == 0) = b
          generalize (r.st == 0) = c
          generalize goodD n r.s r.l = d
          revert z g a b c d p
          decide
        · by_cases k4 : r.kd = 4 ∨ r.kd = 6
          · have e1 : ballotB r = inB r.b 0 9999 := by unfold ballotB; rw [if_neg (by omega)]
            have e2 : contB n r = true := by unfold contB; rw [if_neg (by omega), if_neg (by omega), if_pos k4]
            have e3 : onlyM n r = ⟨r.kd, r.fr, r.tt, r.rp, r.no, r.b, 0, 0, 0, 0, 0, 0, 0, 0, noneL n⟩ := by unfold onlyM; rw [if_neg k2, if_neg k7, if_pos k4]
            have e4 : lastG n r = (zeroC r.k r.i r.f r.t r.a && sameA r.s 0 r.l (noneL n)) := by unfold lastG; rw [if_neg k2, if_pos k4]
            have e5 : (r.kd == 5) = false := by simp; omega
            rw [e1, e2, e3, e4, e5, sameM_4]
            have hz := zeroC_good r.k r.i r.f r.t r.a
            have hs := none_good n r.s r.l hg
            clear e1 e2 e3 e4 e5 hA
            generalize zeroC r.k r.i r.f r.t r.a = z at hz ⊢
            generalize goodB r.k r.i r.f r.t r.a = g at hz ⊢
            generalize inB r.b 0 9999 = a
            generalize (r.b == 0) = p
            generalize (r.v == 0) = b
            generalize (r.st == 0) = c
            generalize sameA r.s 0 r.l (noneL n) = e at hs ⊢
            generalize goodD n r.s r.l = d at hs ⊢
            revert z g a b c d e p
            decide
          · have e2 : contB n r = (goodB r.k r.i r.f r.t r.a && goodA n r.s r.l) := by unfold contB; rw [if_neg k2, if_neg k7, if_neg k4]
            have e3 : onlyM n r = ⟨r.kd, r.fr, r.tt, r.rp, r.no, r.b, 0, 0, r.k, r.i, r.f, r.t, r.a, r.s, r.l⟩ := by unfold onlyM; rw [if_neg k2, if_neg k7, if_neg k4]
            have e4 : lastG n r = true := by unfold lastG; rw [if_neg k2, if_neg k4]
            by_cases k5 : r.kd = 5
            · have e1 : ballotB r = (r.b == 0) := by unfold ballotB; rw [if_pos k5]
              have e5 : (r.kd == 5) = true := by simp; omega
              have hi : (r.b == 0) = true → inB r.b 0 9999 = true := fun h => by
                have h0 : r.b = 0 := by simpa using h
                rw [h0]; decide
              rw [e1, e2, e3, e4, e5, hA, sameM_13]
              clear e1 e2 e3 e4 e5 hA
              generalize goodB r.k r.i r.f r.t r.a = g
              generalize inB r.b 0 9999 = a at hi ⊢
              generalize (r.b == 0) = p at hi ⊢
              generalize (r.v == 0) = b
              generalize (r.st == 0) = c
              generalize goodD n r.s r.l = d
              revert g a p b c d
              decide
            · have e1 : ballotB r = inB r.b 0 9999 := by unfold ballotB; rw [if_neg k5]
              have e5 : (r.kd == 5) = false := by simp; omega
              rw [e1, e2, e3, e4, e5, hA, sameM_13]
              clear e1 e2 e3 e4 e5 hA
              generalize goodB r.k r.i r.f r.t r.a = g
              generalize inB r.b 0 9999 = a
              generalize (r.b == 0) = p
              generalize (r.v == 0) = b
              generalize (r.st == 0) = c
              generalize goodD n r.s r.l = d
              revert g a p b c d
              decide
end Go.Proofs.Ythnoeknalpnadaa
