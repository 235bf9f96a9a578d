/- Contract of the model's l1Read: a number below a million in its one form, -1 where a text is none. -/
import Derived.Test.YtfadmcgaojnghaaDoorL1In
import Derived.WalkSpells
namespace Go.Proofs.YtfadmcgaojnghaaDoor
open Go.RowKit
set_option linter.unusedVariables false

def isDig (b : UInt8) : Bool := decide (48 ≤ b.toNat) && decide (b.toNat ≤ 57)
/-- The number that the first k bytes tell. -/
def valTo (l : List UInt8) : Nat → Int
  | 0 => 0
  | k + 1 => 10 * valTo l k + (((l[k]?.getD 48).toNat : Int) - 48)
theorem valTo_bounds (l : List UInt8) : ∀ k, (l.take k).all isDig = true → 0 ≤ valTo l k ∧ valTo l k < 10 ^ k
  | 0, _ => by simp [valTo]
  | k + 1, h => by
    by_cases hk : k < l.length
    · rw [List.take_add_one, List.all_append, Bool.and_eq_true, List.getElem?_eq_getElem hk] at h
      have ih := valTo_bounds l k h.1
      have hd : isDig l[k] = true := by simpa using h.2
      unfold isDig at hd
      simp only [Bool.and_eq_true, decide_eq_true_eq] at hd
      unfold valTo
      rw [List.getElem?_eq_getElem hk, Option.getD_some, Int.pow_succ]
      omega
    · have e : l.take (k + 1) = l.take k := by rw [List.take_of_length_le (by omega), List.take_of_length_le (by omega)]
      rw [e] at h
      have ih := valTo_bounds l k h
      unfold valTo
      rw [List.getElem?_eq_none (by omega), Option.getD_none, Int.pow_succ]
      have : ((48 : UInt8).toNat : Int) = 48 := rfl
      omega
/-- The number of a text, -1 where it is none. -/
def readL (l : List UInt8) : Int :=
  if decide (1 ≤ l.length) && decide (l.length ≤ 6) && !(l[0]?.getD 0 == 48 && decide (1 < l.length)) && l.all isDig then valTo l l.length else -1

set_option maxRecDepth 100000 in
set_option maxHeartbeats 1000000 in
theorem l1Read_any (s : ByteArray) (w : World) (hs : s.size ≤ 1048576) :
    Calls Tryd.prog 50 #[.string s] w (IntExt (readL s.data.toList) w) := by
  have hlen : s.data.toList.length = s.size := Array.length_toList
  by_cases hin : 1 ≤ s.size ∧ s.size ≤ 6
  · obtain ⟨h1, h6⟩ := hin
    have h0 : 0 < s.size := by omega
    have hi : inB (s.size : Int) 1 6 = true := inB_yes (by omega) (by omega)
    have HI := Lib.hid hi
    have hat : ∀ (k : Nat) (h : k < s.size), s.data.toList[k]? = some s[k] := fun k h => by
      rw [List.getElem?_eq_getElem (by rw [hlen]; exact h)]; rfl
    have HAT := Lib.hid hat
    have HLEN := Lib.hid hlen
    clear hi hat
    by_cases hz : s[0] = 48 ∧ 1 < s.size
    · obtain ⟨hz0, hz1⟩ := hz
      have hr : readL s.data.toList = -1 := by
        unfold readL
        rw [if_neg]
        rw [HAT.out 0 h0, hlen, Option.getD_some, hz0]
        simp [hz1]
      rw [hr]
      have e0 : ((s[0].toNat : Int) == 48) = true := by rw [hz0]; rfl
      clear hz0 hr hlen
      go_enter Tryd.func50, Tryd.ntmps50
      go_wp2_with fail
      refine (l1In_any _ _ _ _).mono ?_
      rintro e w' ⟨rfl, rfl⟩
      rw [HI.out]
      go_wp2
      go_ret
      exact ⟨rfl, Ext.refl _⟩
    · have hlead : (s.data.toList[0]?.getD 0 == 48 && decide (1 < s.data.toList.length)) = false := by
        rw [HAT.out 0 h0, hlen, Option.getD_some]
        by_cases h : s[0] = 48
        · have : ¬ 1 < s.size := fun h' => hz ⟨h, h'⟩
          simp [this]
        · simp [h]
      have hrl : readL s.data.toList = if s.data.toList.all isDig then valTo s.data.toList s.size else -1 := by
        unfold readL
        rw [hlead, hlen]
        simp [h1, h6]
      have HRL := Lib.hid hrl
      have HLEAD := Lib.hid hlead
      obtain ⟨l, hl⟩ : ∃ l, l = s.data.toList := ⟨_, rfl⟩
      rw [← hl] at HRL HAT HLEN ⊢
      clear hrl hlead hlen hl HLEAD
      have hmain : ∀ (W : World), W = w → ((s[0].toNat : Int) == 48) = true ∧ decide (1 < (s.size : Int)) = false ∨ ((s[0].toNat : Int) == 48) = false := by
        intro W _
        by_cases h : s[0] = 48
        · left
          have : ¬ 1 < s.size := fun h' => hz ⟨h, h'⟩
          exact ⟨by rw [h]; rfl, by simp; omega⟩
        · right
          rw [beq_eq_false_iff_ne]
          intro e
          exact h (UInt8.toNat_inj.1 (by have : (48 : UInt8).toNat = 48 := rfl; omega))
      rcases hmain w rfl with ⟨e0, e1⟩ | e0
      all_goals
        clear hz hmain
        go_enter Tryd.func50, Tryd.ntmps50
        go_wp2_with fail
        refine (l1In_any _ _ _ _).mono ?_
        rintro e w' ⟨rfl, rfl⟩
        rw [HI.out]
        go_wp2
        go_loop [3, 4] (fun n i => ∃ k : Nat, k ≤ s.size ∧ i = .int .i64 k ∧ n = .int .i64 (valTo l k) ∧ (l.take k).all isDig = true) (fun _ i => s.size - (intOf i).toNat)
        case atStart => exact ⟨0, Nat.zero_le _, rfl, rfl, by simp⟩
        case round =>
          obtain ⟨k, hk, rfl, rfl, ht⟩ := hrel
          obtain ⟨v0, v1⟩ := valTo_bounds l k ht
          have hp : (10 : Int) ^ k ≤ 1000000 := by
            have h : k = 0 ∨ k = 1 ∨ k = 2 ∨ k = 3 ∨ k = 4 ∨ k = 5 ∨ k = 6 := by omega
            rcases h with rfl | rfl | rfl | rfl | rfl | rfl | rfl <;> decide
          have v2 : valTo l k ≤ 1000000 := by omega
          clear v1 hp
          have HT := Lib.hid ht
          clear ht
          by_cases hlt : k < s.size
          · have hg := HAT.out k hlt
            have hkl : k < l.length := by rw [HLEN.out]; exact hlt
            have hsv : valTo l (k + 1) = 10 * valTo l k + ((s[k].toNat : Int) - 48) := by
              show 10 * valTo l k + (((l[k]?.getD 48).toNat : Int) - 48) = _
              rw [hg]; rfl
            have hlk : l[k]'hkl = s[k] := by
              have := List.getElem?_eq_getElem hkl
              rw [hg] at this
              exact (Option.some.inj this).symm
            have hb : s[k].toNat < 256 := UInt8.toNat_lt _
            have HSV := Lib.hid hsv
            have HLK := Lib.hid hlk
            clear hg hsv hlk
            by_cases hd : 48 ≤ s[k].toNat ∧ s[k].toNat ≤ 57
            · obtain ⟨d1, d2⟩ := hd
              have ha : (l.take (k + 1)).all isDig = true := by
                rw [List.take_add_one, List.all_append, HT.out, List.getElem?_eq_getElem hkl, HLK.out]
                simp [isDig, d1, d2]
              have HA := Lib.hid ha
              have i1 : (48 : Int) ≤ (s[k].toNat : Int) := by omega
              have i2 : (s[k].toNat : Int) ≤ 57 := by omega
              clear ha
              go_wp2
              go_round
              case rel => exact ⟨k + 1, by omega, by go_num, by rw [HSV.out], HA.out⟩
              case measure => simp [intOf]; omega
            · have ha : l.all isDig = false := by
                rw [List.all_eq_false]
                refine ⟨l[k]'hkl, List.getElem_mem hkl, ?_⟩
                rw [HLK.out]
                unfold isDig
                simp only [Bool.and_eq_true, decide_eq_true_eq]
                exact hd
              have hr : readL l = -1 := by rw [HRL.out, ha]; rfl
              have HR := Lib.hid hr
              clear ha hr
              by_cases hd1 : s[k].toNat < 48
              · have i1 : (s[k].toNat : Int) < 48 := by omega
                clear hd
                go_wp2
                go_ret
                exact ⟨by rw [HR.out]; rfl, Ext.refl _⟩
              · have i1 : (48 : Int) ≤ (s[k].toNat : Int) := by omega
                have i2 : (57 : Int) < (s[k].toNat : Int) := by omega
                clear hd hd1
                go_wp2
                go_ret
                exact ⟨by rw [HR.out]; rfl, Ext.refl _⟩
          · obtain rfl : k = s.size := by omega
            have hr : readL l = valTo l s.size := by
              rw [HRL.out, if_pos]
              have h := HT.out
              rwa [← HLEN.out, List.take_length] at h
            have HR := Lib.hid hr
            clear hr
            go_wp2
            go_ret
            exact ⟨by rw [HR.out]; rfl, Ext.refl _⟩
  · have hr : readL s.data.toList = -1 := by
      unfold readL
      rw [if_neg]
      rw [hlen]
      simp only [Bool.and_eq_true, decide_eq_true_eq]
      omega
    rw [hr]
    have hi : inB (s.size : Int) 1 6 = false := inB_no (by omega)
    have HI := Lib.hid hi
    clear hi hr hin
    go_enter Tryd.func50, Tryd.ntmps50
    go_wp2_with fail
    refine (l1In_any _ _ _ _).mono ?_
    rintro e w' ⟨rfl, rfl⟩
    rw [HI.out]
    go_wp2
    go_ret
    exact ⟨rfl, Ext.refl _⟩

end Go.Proofs.YtfadmcgaojnghaaDoor
