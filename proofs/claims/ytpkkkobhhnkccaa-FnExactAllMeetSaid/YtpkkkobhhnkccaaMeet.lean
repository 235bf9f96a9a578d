/- Contracts of the model's l1Meet and AllMeet, and the program's AllMeet at every two lists of lists. -/
import Derived.Test.YtpkkkobhhnkccaaAllMeet2
namespace Go.Proofs.Ytpkkkobhhnkccaa
open Go.RowKit Go.Maps
set_option linter.unusedVariables false

theorem any_next (x : List Int) (p : Int → Bool) (m : Nat) (h : m < x.length) : (x.take (m + 1)).any p = ((x.take m).any p || p x[m]) := by
  rw [List.take_add_one, List.any_append, List.getElem?_eq_getElem h]
  simp

set_option maxHeartbeats 4000000 in
theorem l1Meet_any (u v : Value) (A B : List (List Int)) (w : World) (hu : Intss w u A) (hv : Intss w v B) :
    Calls Try.prog 45 #[u, v] w (BoolExt (meetAll A B) w) := by
  obtain ⟨au, cu, rfl, hlu, _, hcu⟩ := hu
  obtain ⟨av, cv, rfl, hlv, _, hcv⟩ := hv
  unfold maxLen at hlu hlv
  go_enter Try.func45, Try.ntmps45
  go_wp2
  go_loopw [14] (fun i wr => ∃ k : Nat, k ≤ A.length ∧ i = .int .i64 k ∧ (A.take k).all (fun x => B.all fun y => meetB x y) = true ∧ Ext w wr) (fun i _ => A.length - (intOf i).toNat)
  case atStart => exact ⟨0, Nat.zero_le _, rfl, by simp, Ext.refl _⟩
  case round =>
    obtain ⟨k, hk, rfl, ht, hx⟩ := hrel
    have HT := Lib.hid ht
    clear ht
    by_cases hlt : k < A.length
    · obtain ⟨bu, ou, rfl, du⟩ := hcu (by omega)
      obtain ⟨x, hx1, ix⟩ := du k hlt
      rw [List.getElem?_eq_getElem hlt, Option.getD_some] at ix
      have gu := hx.cell hx1
      have ixr := ix.ext hx
      obtain ⟨ax, cx, rfl, hlx, _, hcx⟩ := ixr
      unfold maxLen at hlx
      obtain ⟨X, hX⟩ : ∃ X, X = A[k] := ⟨_, rfl⟩
      rw [← hX] at hlx hcx gu ix
      have HX := Lib.hid hX
      clear hcu du hx1 ix hX
      obtain ⟨wo, hwo⟩ : ∃ wo : World, wo = wr := ⟨_, rfl⟩
      subst hwo
      go_wp2
      go_loopw [20] (fun i wr => ∃ j : Nat, j ≤ B.length ∧ i = .int .i64 j ∧ (B.take j).all (fun y => meetB X y) = true ∧ Ext wo wr) (fun i _ => B.length - (intOf i).toNat)
      case atStart => exact ⟨0, Nat.zero_le _, rfl, by simp, Ext.refl _⟩
      case round =>
        obtain ⟨j, hj, rfl, hs, hy⟩ := hrel
        have HSS := Lib.hid hs
        clear hs
        by_cases hjt : j < B.length
        · obtain ⟨bv, ov, rfl, dv⟩ := hcv (by omega)
          obtain ⟨y, hy1, iy⟩ := dv j hjt
          rw [List.getElem?_eq_getElem hjt, Option.getD_some] at iy
          have gv := (hx.trans hy).cell hy1
          have IY := Lib.hid (iy.ext (hx.trans hy))
          obtain ⟨Y, hY⟩ : ∃ Y, Y = B[j] := ⟨_, rfl⟩
          rw [← hY] at IY
          have HY := Lib.hid hY
          clear hcv dv hy1 iy hY
          obtain ⟨wp, hwp⟩ : ∃ wp : World, wp = wr := ⟨_, rfl⟩
          subst hwp
          go_wp2
          go_loopw [9, 26] (fun c i wr => ∃ m : Nat, m ≤ X.length ∧ i = .int .i64 m ∧ c = .bool ((X.take m).any fun n => hasI Y n) ∧ Ext wp wr) (fun _ i _ => X.length - (intOf i).toNat)
          case atStart => exact ⟨0, Nat.zero_le _, rfl, by simp, Ext.refl _⟩
          case round =>
            obtain ⟨m, hm, rfl, rfl, hz⟩ := hrel
            by_cases hmt : m < X.length
            · have hnx := any_next X (fun n => hasI Y n) m hmt
              obtain ⟨bx, ox, rfl, dx⟩ := hcx (by omega)
              have gx := (hy.trans hz).cell (dx m hmt)
              clear hcx dx
              cases hb : (X.take m).any fun n => hasI Y n with
              | true =>
                rw [hb, Bool.true_or] at hnx
                have HN := Lib.hid hnx
                clear hnx hb
                go_wp2
                go_roundw
                case rel => exact ⟨m + 1, by omega, by go_num, by rw [HN.out], hz⟩
                case measure => simp [intOf]; omega
              | false =>
                rw [hb, Bool.false_or] at hnx
                have HN := Lib.hid hnx
                clear hnx hb
                go_wp2_with fail
                refine (l1Has_any _ _ _ _ (IY.out.ext hz)).mono ?_
                rintro e w3 ⟨rfl, x3⟩
                have hz3 := hz.trans x3
                clear hz x3 gx
                go_wp2
                go_roundw
                case rel => exact ⟨m + 1, by omega, by go_num, by rw [HN.out], hz3⟩
                case measure => simp [intOf]; omega
            · obtain rfl : m = X.length := by omega
              have htk : X.take X.length = X := List.take_length
              rw [htk]
              have hcm : (X.any fun n => hasI Y n) = meetB X Y := (meetB_comm Y X : meetB Y X = meetB X Y)
              rw [hcm]
              clear htk hcm
              cases hp : meetB X Y with
              | true =>
                have HP := Lib.hid hp
                clear hp
                go_wp2
                go_roundw
                case rel => exact ⟨j + 1, by omega, by go_num, alls_take_succ hjt _ HSS.out (by rw [← HY.out]; exact HP.out), hy.trans hz⟩
                case measure => simp [intOf]; omega
              | false =>
                have HP := Lib.hid hp
                clear hp
                go_wp2
                go_ret
                refine ⟨?_, hx.trans (hy.trans hz)⟩
                have h1 : (B.all fun y => meetB X y) = false := alls_false_at hjt _ (by rw [← HY.out]; exact HP.out)
                have h2 : meetAll A B = false := alls_false_at (p := fun x => B.all fun y => meetB x y) hlt (by rw [← HX.out]; exact h1)
                rw [h2]; rfl
        · obtain rfl : j = B.length := by omega
          have hfull : (B.all fun y => meetB X y) = true := by have h := HSS.out; rwa [List.take_length] at h
          have HF := Lib.hid hfull
          clear hfull
          go_wp2
          go_roundw
          case rel => exact ⟨k + 1, by omega, by go_num, alls_take_succ (p := fun x => B.all fun y => meetB x y) hlt HT.out (by rw [← HX.out]; exact HF.out), hx.trans hy⟩
          case measure => simp [intOf]; omega
    · obtain rfl : k = A.length := by omega
      go_wp2
      go_ret
      refine ⟨?_, hx⟩
      have h2 : meetAll A B = true := by have h := HT.out; rwa [List.take_length] at h
      rw [h2]; rfl

def fewB (A B : List (List Int)) : Bool := decide (A.length ≤ 40) && decide (B.length ≤ 40)
theorem fewB_yes {A B : List (List Int)} (h : fewB A B = true) : A.length ≤ 40 ∧ B.length ≤ 40 := by simpa [fewB] using h
theorem fewB_no {A B : List (List Int)} (h : fewB A B = false) : 40 < A.length ∨ 40 < B.length := by
  have := h
  simp [fewB] at this
  omega

set_option maxHeartbeats 800000 in
theorem specAllMeet_any (u v : Value) (A B : List (List Int)) (w : World) (hu : Intss w u A) (hv : Intss w v B) :
    Calls Try.prog 23 #[u, v] w (TwoB (fewB A B && meetAll A B) (fewB A B) w) := by
  have hu0 := hu
  have hv0 := hv
  obtain ⟨au, cu, rfl, hlu, _, _⟩ := hu
  obtain ⟨av, cv, rfl, hlv, _, _⟩ := hv
  unfold maxLen at hlu hlv
  cases hf : fewB A B with
  | true =>
    obtain ⟨ha, hb⟩ := fewB_yes hf
    clear hf
    go_enter Try.func23, Try.ntmps23
    go_wp2_with fail
    refine (l1Meet_any _ _ _ _ _ hu0 hv0).mono ?_
    rintro e w1 ⟨rfl, x1⟩
    go_wp2
    go_ret2
    exact ⟨rfl, x1⟩
  | false =>
    have hor := fewB_no hf
    clear hf
    by_cases ha : 40 < A.length
    · clear hor
      go_enter Try.func23, Try.ntmps23
      go_wp2
      go_ret2
      exact ⟨rfl, Ext.refl _⟩
    · have hb : 40 < B.length := by omega
      have ha' : A.length ≤ 40 := by omega
      clear hor ha
      go_enter Try.func23, Try.ntmps23
      go_wp2
      go_ret2
      exact ⟨rfl, Ext.refl _⟩

set_option maxHeartbeats 800000 in
theorem implAllMeet_any (u v : Value) (A B : List (List Int)) (w : World) (hu : Intss w u A) (hv : Intss w v B) (hwa : AllWf A) (hwb : AllWf B) (hsz : bulk A ≤ 1099511627776) :
    Calls Try.prog 19 #[u, v] w (TwoB (fewB A B && meetAll A B) (fewB A B) w) := by
  cases hf : fewB A B with
  | true =>
    obtain ⟨ha, hb⟩ := fewB_yes hf
    exact implAllMeet_yes u v A B w hu hv hwa hwb ha hb hsz
  | false =>
    obtain ⟨au, cu, rfl, hlu, _, _⟩ := hu
    obtain ⟨av, cv, rfl, hlv, _, _⟩ := hv
    unfold maxLen at hlu hlv
    have hor := fewB_no hf
    clear hf hwa hwb hsz
    by_cases ha : 40 < A.length
    · clear hor
      go_enter Try.func19, Try.ntmps19
      go_wp2
      go_ret2
      exact ⟨rfl, Ext.refl _⟩
    · have hb : 40 < B.length := by omega
      have ha' : A.length ≤ 40 := by omega
      clear hor ha
      go_enter Try.func19, Try.ntmps19
      go_wp2
      go_ret2
      exact ⟨rfl, Ext.refl _⟩

end Go.Proofs.Ytpkkkobhhnkccaa
