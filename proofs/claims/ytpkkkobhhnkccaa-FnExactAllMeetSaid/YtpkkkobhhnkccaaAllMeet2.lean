/- Contracts of AllMeet of the program and of the model: both answer the same. -/
import Derived.Test.YtpkkkobhhnkccaaAllMeet
namespace Go.Proofs.Ytpkkkobhhnkccaa
open Go.RowKit Go.Maps
set_option linter.unusedVariables false

/-- Whether each list of A has a number in common with each of B. -/
def meetAll (A B : List (List Int)) : Bool := A.all fun x => B.all fun y => meetB x y
theorem meetB_comm (l r : List Int) : meetB l r = meetB r l := by
  rw [Bool.eq_iff_iff]
  simp only [meetB, hasI, List.any_eq_true, beq_iff_eq]
  constructor
  · rintro ⟨x, hx, y, hy, rfl⟩; exact ⟨y, hy, y, hx, rfl⟩
  · rintro ⟨x, hx, y, hy, rfl⟩; exact ⟨y, hy, y, hx, rfl⟩
theorem alls_take_succ {L : List (List Int)} {k : Nat} (h : k < L.length) (p : List Int → Bool) (ht : (L.take k).all p = true) (hp : p L[k] = true) : (L.take (k + 1)).all p = true := by
  rw [List.take_add_one, List.all_append, ht, List.getElem?_eq_getElem h]
  simpa using hp
theorem alls_false_at {L : List (List Int)} {k : Nat} (h : k < L.length) (p : List Int → Bool) (hp : p L[k] = false) : L.all p = false := by
  rw [List.all_eq_false]
  exact ⟨L[k], List.getElem_mem h, by rw [hp]; simp⟩
def AllWf (L : List (List Int)) : Prop := ∀ l ∈ L, ∀ x ∈ l, wf64 x

set_option maxHeartbeats 2000000 in
theorem implAllMeet_yes (u v : Value) (A B : List (List Int)) (w : World) (hu : Intss w u A) (hv : Intss w v B) (hwa : AllWf A) (hwb : AllWf B) (ha : A.length ≤ 40) (hb : B.length ≤ 40) (hsz : bulk A ≤ 1099511627776) :
    Calls Try.prog 19 #[u, v] w (TwoB (meetAll A B) true w) := by
  obtain ⟨au, cu, rfl, hlu, _, hcu⟩ := hu
  obtain ⟨av, cv, rfl, hlv, _, hcv⟩ := hv
  have HWA := Lib.hid hwa
  have HWB := Lib.hid hwb
  have HSZ := Lib.hid hsz
  clear hlu hlv hwa hwb hsz
  go_enter Try.func19, Try.ntmps19
  go_wp2
  go_loopw [21] (fun i wr => ∃ k : Nat, k ≤ A.length ∧ i = .int .i64 k ∧ (A.take k).all (fun x => B.all fun y => meetB x y) = true ∧ Ext w wr) (fun i _ => A.length - (intOf i).toNat)
  case atStart => exact ⟨0, Nat.zero_le _, rfl, by simp, Ext.refl _⟩
  case round =>
    obtain ⟨k, hk, rfl, ht, hx⟩ := hrel
    have HT := Lib.hid ht
    clear ht
    by_cases hlt : k < A.length
    · obtain ⟨bu, ou, rfl, du⟩ := hcu (by omega)
      obtain ⟨x, hx1, ix⟩ := du k hlt
      rw [List.getElem?_eq_getElem hlt, Option.getD_some] at ix
      have gu := hx.cell hx1
      have IX := Lib.hid (ix.ext hx)
      have hrow : (A[k]).length ≤ 1099511627776 := by have := bulk_row hlt; have := HSZ.out; omega
      clear hcu du hx1 ix
      go_wp2_with fail
      refine (numbersOf_lists _ _ _ IX.out (HWA.out _ (List.getElem_mem hlt)) hrow).mono ?_
      rintro e w2 ⟨b, rfl, hs, x2⟩
      have HS := Lib.hid hs
      have hx2 : Ext w w2 := hx.trans x2
      obtain ⟨wo, hwo⟩ : ∃ wo : World, wo = w2 := ⟨_, rfl⟩
      clear hs x2 gu hx
      go_wp2
      go_loopw [29] (fun i wr => ∃ j : Nat, j ≤ B.length ∧ i = .int .i64 j ∧ (B.take j).all (fun y => meetB A[k] y) = true ∧ Ext w2 wr) (fun i _ => B.length - (intOf i).toNat)
      case atStart => exact ⟨0, Nat.zero_le _, rfl, by simp, Ext.refl _⟩
      case round =>
        obtain ⟨j, hj, rfl, hs, hy⟩ := hrel
        have HSS := Lib.hid hs
        clear hs
        by_cases hjt : j < B.length
        · obtain ⟨bv, ov, rfl, dv⟩ := hcv (by omega)
          obtain ⟨y, hy1, iy⟩ := dv j hjt
          rw [List.getElem?_eq_getElem hjt, Option.getD_some] at iy
          have gv := (hx2.trans hy).cell hy1
          have IY := Lib.hid (iy.ext (hx2.trans hy))
          clear hcv dv hy1 iy
          go_wp2_with fail
          refine (hasAny_any _ _ _ _ _ _ (HS.out.ext hy) IY.out (HWB.out _ (List.getElem_mem hjt))).mono ?_
          rintro e w3 ⟨rfl, x3⟩
          have hy3 : Ext w2 w3 := hy.trans x3
          clear hy x3 gv
          cases hp : meetB A[k] B[j] with
          | true =>
            have HP := Lib.hid hp
            clear hp
            go_wp2
            go_roundw
            case rel => exact ⟨j + 1, by omega, by go_num, alls_take_succ hjt _ HSS.out HP.out, hy3⟩
            case measure => simp [intOf]; omega
          | false =>
            have HP := Lib.hid hp
            clear hp
            go_wp2
            go_ret2
            refine ⟨?_, hx2.trans hy3⟩
            have h1 : (B.all fun y => meetB A[k] y) = false := alls_false_at hjt _ HP.out
            have h2 : meetAll A B = false := alls_false_at (p := fun x => B.all fun y => meetB x y) hlt h1
            rw [h2]; rfl
        · obtain rfl : j = B.length := by omega
          have hfull : (B.all fun y => meetB A[k] y) = true := by have h := HSS.out; rwa [List.take_length] at h
          have HF := Lib.hid hfull
          clear hfull
          go_wp2
          go_roundw
          case rel => exact ⟨k + 1, by omega, by go_num, alls_take_succ (p := fun x => B.all fun y => meetB x y) hlt HT.out HF.out, hx2.trans hy⟩
          case measure => simp [intOf]; omega
    · obtain rfl : k = A.length := by omega
      go_wp2
      go_ret2
      refine ⟨?_, hx⟩
      have h2 : meetAll A B = true := by have h := HT.out; rwa [List.take_length] at h
      rw [h2]; rfl

end Go.Proofs.Ytpkkkobhhnkccaa
