/- Texts of this proof, part f: words, plain facts, contracts. -/
import Derived.Test.YtcpmfcigciknlaaGreatMBookOfc
import Derived.Test.YtcpmfcigciknlaaGreatMBookOfa
import Derived.Test.YtcpmfcigciknlaaGreatMBookOfb
import Derived.Test.YtcpmfcigciknlaaGreatMBookOfe
import Derived.WalkArith

namespace Go.Proofs.YtcpmfcigciknlaaGreat
open Go.RowKit

/-- How many from the front are less. -/
def ahead (l : List Int) (n : Int) : Nat := (l.takeWhile fun x => decide (x < n)).length
def putI (l : List Int) (n : Int) : List Int := if l[ahead l n]? = some n then l else l.take (ahead l n) ++ [n] ++ l.drop (ahead l n)
theorem ahead_stop {l : List Int} {n : Int} {k : Nat} (hk : k < l.length) (ha : ∀ x ∈ l.take k, x < n) (hs : ¬ l[k] < n) : ahead l n = k := by
  induction l generalizing k with
  | nil => simp at hk
  | cons y l ih =>
    cases k with
    | zero => simp at hs; simp [ahead, List.takeWhile_cons]; omega
    | succ k =>
      have hy : y < n := ha y (by simp)
      have := ih (k := k) (by simpa using hk) (fun x hx => ha x (by simp [hx])) (by simpa using hs)
      unfold ahead at this ⊢
      rw [List.takeWhile_cons, if_pos (by simpa using hy), List.length_cons, this]
theorem ahead_all {l : List Int} {n : Int} (ha : ∀ x ∈ l, x < n) : ahead l n = l.length := by
  unfold ahead
  induction l with
  | nil => rfl
  | cons y l ih => rw [List.takeWhile_cons, if_pos (by simpa using ha y (by simp)), List.length_cons, ih (fun x hx => ha x (by simp [hx])), List.length_cons]

def PutR (v : Value) (l : List Int) (n : Int) (w : World) (e : Ending) (w' : World) : Prop :=
  ∃ v', e = .returned v' ∧ Ext w w' ∧ ((v' = v ∧ putI l n = l) ∨ Fresh w.heap.size w' v' (putI l n))

theorem Ints.behind {w : World} {cap : Nat} {l : List Int} {b off : Nat} (h : Ints w (.slice (some ⟨b, off, none⟩) l.length cap) l) (k : Nat) (hk : k ≤ l.length) : Ints w (.slice (some ⟨b, off + k, none⟩) (l.length - k) (cap - k)) (l.drop k) := by
  obtain ⟨ao', cap', he, hm, hcap, hc⟩ := h
  simp only [Value.slice.injEq] at he
  obtain ⟨rfl, _, rfl⟩ := he
  have e : (l.drop k).length = l.length - k := by simp
  refine ⟨some ⟨b, off + k, none⟩, cap - k, by rw [e], by omega, ⟨by have := hcap.1; omega, by have := hcap.2.1; omega, fun h => by cases h⟩, fun hp => ?_⟩
  obtain ⟨b', off', ha, hj⟩ := hc (by omega)
  cases ha
  refine ⟨b, off + k, rfl, fun j hjl => ?_⟩
  rw [Nat.add_assoc, hj (k + j) (by omega), List.getElem?_drop]
theorem Ints.none_of {w : World} {ao : Option Addr} {cap : Nat} (hc : cap ≤ maxLen) (h : ao = none → cap = 0) : Ints w (.slice ao 0 cap) [] :=
  ⟨ao, cap, rfl, by simp, ⟨by simp, hc, h⟩, fun h => by simp at h⟩

/-- The two ends of a cut. -/
theorem Ints.upto {w : World} {ao : Option Addr} {cap : Nat} {l : List Int} (h : Ints w (.slice ao l.length cap) l) (k : Nat) (hk : k ≤ l.length) : Ints w (.slice ao k cap) (l.take k) := by
  obtain ⟨ao', cap', he, hm, hcap, hc⟩ := h
  simp only [Value.slice.injEq] at he
  obtain ⟨rfl, _, rfl⟩ := he
  have e : (l.take k).length = k := by first | omega | (simp; omega)
  refine ⟨ao, cap, by rw [e], by omega, ⟨by omega, hcap.2⟩, fun hp => ?_⟩
  obtain ⟨b, off, ha, hj⟩ := hc (by omega)
  refine ⟨b, off, ha, fun j hjl => ?_⟩
  rw [hj j (by omega), List.getElem?_take, if_pos (by omega)]

set_option maxHeartbeats 1000000 in
theorem l1Put_any (v : Value) (l : List Int) (n : Int) (w : World) (hv : Ints w v l) (hl : l.length ≤ 1048576) :
    Calls Tryz.prog 138 #[v, .int .i64 n] w (PutR v l n w) := by
  have hv0 := hv
  obtain ⟨av, cv, rfl, hlv, hcap, hcv⟩ := hv
  have hcap1 := hcap.1
  have hcap2 := hcap.2.1
  unfold maxLen at hlv hcap2
  go_enter Tryz.func138, Tryz.ntmps138
  go_wp2
  go_loop [5] (fun i => ∃ k : Nat, k ≤ l.length ∧ i = .int .i64 k ∧ (∀ x ∈ l.take k, x < n)) (fun i => l.length - (intOf i).toNat)
  case atStart => exact ⟨0, Nat.zero_le _, rfl, by simp⟩
  case round =>
    obtain ⟨k, hk, rfl, ha⟩ := hrel
    have HA := Lib.hid ha
    clear ha
    by_cases hlt : k < l.length
    · obtain ⟨bv, ov, rfl, dv⟩ := hcv (by omega)
      have gv := dv k hlt
      have HC := Lib.hid hcap
      clear hcv dv hcap
      by_cases hx : l[k] < n
      · go_wp2
        go_round
        case rel => exact ⟨k + 1, by omega, by go_num, by
          intro x hxm
          rw [List.take_add_one, List.getElem?_eq_getElem hlt] at hxm
          rcases List.mem_append.1 hxm with h | h
          · exact HA.out x h
          · simp at h; omega⟩
        case measure => simp [intOf]; omega
      · have HX : ahead l n = k := ahead_stop hlt HA.out hx
        have HK := Lib.hid HX
        clear HX
        by_cases he : l[k] = n
        · have e1 : (l[k] == n) = true := by simp [he]
          have HE := Lib.hid he
          clear he
          go_wp2
          go_ret
          refine ⟨_, rfl, Ext.refl _, .inl ⟨rfl, ?_⟩⟩
          unfold putI
          rw [HK.out, List.getElem?_eq_getElem hlt, HE.out, if_pos rfl]
        · have e1 : (l[k] == n) = false := by simp [he]
          have HE := Lib.hid he
          clear he
          have hp : putI l n = l.take k ++ [n] ++ l.drop k := by
            unfold putI
            rw [HK.out, if_neg (by rw [List.getElem?_eq_getElem hlt]; intro h; exact HE.out (by simpa using h))]
          have HP := Lib.hid hp
          clear hp
          have hb1 : ([] : List Int).length + (l.take k).length ≤ 1099511627776 := by first | omega | (simp; omega)
          have hb2 : (l.take k).length ≤ 1099511627776 := by first | omega | (simp; omega)
          have hb3 : (l.take k ++ [n]).length + (l.drop k).length ≤ 1099511627776 := by first | omega | (simp; omega)
          have HB := Lib.hid (And.intro hb1 (And.intro hb2 hb3))
          clear hb1 hb2 hb3
          go_wp2_with (at_builtin; refine wpList_join rfl _ _ rfl w.heap.size _ _ [] (l.take k) rfl (fresh_lit w [] #[] _ rfl (Nat.le_refl _) (Nat.zero_le _)) rfl ((hv0.upto k hk).ext (Ext.alloc (Ext.refl _) _)) HB.out.1 (size_alloc_le (Nat.le_refl _)) ?_)
          intro v1 w1 f1 g1 k1
          have e1' : Ext w w1 := k1 w (Ext.alloc (Ext.refl _) _) (Nat.le_refl _)
          go_wp2_with (at_builtin; refine wpList_push rfl _ _ rfl w.heap.size _ (l.take k) n rfl (f1.ext (Ext.alloc (Ext.refl _) _)) ⟨w1.heap.size, 0, none⟩ 1 rfl (cell_alloc_one _ _ _) HB.out.2.1 (size_alloc_le e1'.size) ?_)
          intro v2 w2 f2 g2 k2
          have e2' : Ext w w2 := k2 w (e1'.alloc _) (Nat.le_refl _)
          go_wp2_with (at_builtin; refine wpList_join rfl _ _ rfl w.heap.size _ _ (l.take k ++ [n]) (l.drop k) rfl f2 rfl ((hv0.behind k hk).ext e2') HB.out.2.2 e2'.size ?_)
          intro v3 w3 f3 g3 k3
          have e3' : Ext w w3 := k3 w e2' (Nat.le_refl _)
          clear f1 f2 g1 g2 g3 k1 k2 k3 e1' e2'
          go_wp2
          go_ret
          exact ⟨_, rfl, e3', .inr (by rw [HP.out]; simpa using f3)⟩
    · obtain rfl : k = l.length := by omega
      have hp : putI l n = l ++ [n] := by
        have hh := HA.out
        rw [List.take_length] at hh
        unfold putI
        rw [ahead_all hh, List.getElem?_eq_none (Nat.le_refl _), if_neg (by simp), List.take_length, List.drop_length, List.append_nil]
      have HP := Lib.hid hp
      have HC := Lib.hid hcap
      clear hp hcap
      cases av with
      | none =>
        obtain rfl : cv = 0 := HC.out.2.2 rfl
        obtain rfl : l = [] := List.eq_nil_of_length_eq_zero (by omega)
        have hb1 : ([] : List Int).length + (([] : List Int)).length ≤ 1099511627776 := by simp
        have hb2 : (([] : List Int)).length ≤ 1099511627776 := by simp
        have hb3 : (([] : List Int) ++ [n]).length + (([] : List Int)).length ≤ 1099511627776 := by simp
        have HB := Lib.hid (And.intro hb1 (And.intro hb2 hb3))
        clear hb1 hb2 hb3
        go_wp2_with (at_builtin; refine wpList_join rfl _ _ rfl w.heap.size _ _ [] (([] : List Int)) rfl (fresh_lit w [] #[] _ rfl (Nat.le_refl _) (Nat.zero_le _)) rfl (Ints.nil _) HB.out.1 (size_alloc_le (Nat.le_refl _)) ?_)
        intro v1 w1 f1 g1 k1
        have e1' : Ext w w1 := k1 w (Ext.alloc (Ext.refl _) _) (Nat.le_refl _)
        go_wp2_with (at_builtin; refine wpList_push rfl _ _ rfl w.heap.size _ (([] : List Int)) n rfl (f1.ext (Ext.alloc (Ext.refl _) _)) ⟨w1.heap.size, 0, none⟩ 1 rfl (cell_alloc_one _ _ _) HB.out.2.1 (size_alloc_le e1'.size) ?_)
        intro v2 w2 f2 g2 k2
        have e2' : Ext w w2 := k2 w (e1'.alloc _) (Nat.le_refl _)
        go_wp2_with (at_builtin; refine wpList_join rfl _ _ rfl w.heap.size _ _ (([] : List Int) ++ [n]) (([] : List Int)) rfl f2 rfl (Ints.nil _) HB.out.2.2 e2'.size ?_)
        intro v3 w3 f3 g3 k3
        have e3' : Ext w w3 := k3 w e2' (Nat.le_refl _)
        clear f1 f2 g1 g2 g3 k1 k2 k3 e1' e2'
        go_wp2
        go_ret
        exact ⟨_, rfl, e3', .inr (by rw [HP.out]; simpa using f3)⟩
      | some ad =>
        by_cases hl0 : l.length = 0
        · obtain rfl : l = [] := List.eq_nil_of_length_eq_zero hl0
          have hs0 : ∀ W, Ints W (.slice (some ad) 0 cv) [] := fun W => Ints.none_of (by unfold maxLen; omega) (fun h => by cases h)
          have HS := Lib.hid hs0
          clear hs0 hl0
          have hb1 : ([] : List Int).length + (([] : List Int)).length ≤ 1099511627776 := by simp
          have hb2 : (([] : List Int)).length ≤ 1099511627776 := by simp
          have hb3 : (([] : List Int) ++ [n]).length + (([] : List Int)).length ≤ 1099511627776 := by simp
          have HB := Lib.hid (And.intro hb1 (And.intro hb2 hb3))
          clear hb1 hb2 hb3
          go_wp2_with (at_builtin; refine wpList_join rfl _ _ rfl w.heap.size _ _ [] (([] : List Int)) rfl (fresh_lit w [] #[] _ rfl (Nat.le_refl _) (Nat.zero_le _)) rfl (HS.out _) HB.out.1 (size_alloc_le (Nat.le_refl _)) ?_)
          intro v1 w1 f1 g1 k1
          have e1' : Ext w w1 := k1 w (Ext.alloc (Ext.refl _) _) (Nat.le_refl _)
          go_wp2_with (at_builtin; refine wpList_push rfl _ _ rfl w.heap.size _ (([] : List Int)) n rfl (f1.ext (Ext.alloc (Ext.refl _) _)) ⟨w1.heap.size, 0, none⟩ 1 rfl (cell_alloc_one _ _ _) HB.out.2.1 (size_alloc_le e1'.size) ?_)
          intro v2 w2 f2 g2 k2
          have e2' : Ext w w2 := k2 w (e1'.alloc _) (Nat.le_refl _)
          go_wp2_with (at_builtin; refine wpList_join rfl _ _ rfl w.heap.size _ _ (([] : List Int) ++ [n]) (([] : List Int)) rfl f2 rfl (HS.out _) HB.out.2.2 e2'.size ?_)
          intro v3 w3 f3 g3 k3
          have e3' : Ext w w3 := k3 w e2' (Nat.le_refl _)
          clear f1 f2 g1 g2 g3 k1 k2 k3 e1' e2'
          go_wp2
          go_ret
          exact ⟨_, rfl, e3', .inr (by rw [HP.out]; simpa using f3)⟩
        · obtain ⟨bv, ov, had, _⟩ := hcv (by omega)
          cases had
          clear hcv
          have hs1 : ∀ W, Ext w W → Ints W (.slice (some ⟨bv, ov, none⟩) l.length cv) l := fun W h => hv0.ext h
          by_cases hcl : cv = l.length
          · subst hcl
            have hs3 : ∀ W, Ints W (.slice (some ⟨bv, ov, none⟩) 0 0) [] := fun W => Ints.none_of (by simp) (fun _ => rfl)
            have HS := Lib.hid (And.intro hs1 hs3)
            clear hs1 hs3
            have hb1 : ([] : List Int).length + (l).length ≤ 1099511627776 := by first | omega | (simp; omega)
            have hb2 : (l).length ≤ 1099511627776 := by first | omega | (simp; omega)
            have hb3 : (l ++ [n]).length + (([] : List Int)).length ≤ 1099511627776 := by first | omega | (simp; omega)
            have HB := Lib.hid (And.intro hb1 (And.intro hb2 hb3))
            clear hb1 hb2 hb3
            go_wp2_with (at_builtin; refine wpList_join rfl _ _ rfl w.heap.size _ _ [] (l) rfl (fresh_lit w [] #[] _ rfl (Nat.le_refl _) (Nat.zero_le _)) rfl (HS.out.1 _ (Ext.alloc (Ext.refl _) _)) HB.out.1 (size_alloc_le (Nat.le_refl _)) ?_)
            intro v1 w1 f1 g1 k1
            have e1' : Ext w w1 := k1 w (Ext.alloc (Ext.refl _) _) (Nat.le_refl _)
            go_wp2_with (at_builtin; refine wpList_push rfl _ _ rfl w.heap.size _ (l) n rfl (f1.ext (Ext.alloc (Ext.refl _) _)) ⟨w1.heap.size, 0, none⟩ 1 rfl (cell_alloc_one _ _ _) HB.out.2.1 (size_alloc_le e1'.size) ?_)
            intro v2 w2 f2 g2 k2
            have e2' : Ext w w2 := k2 w (e1'.alloc _) (Nat.le_refl _)
            go_wp2_with (at_builtin; refine wpList_join rfl _ _ rfl w.heap.size _ _ (l ++ [n]) (([] : List Int)) rfl f2 rfl (HS.out.2 _) HB.out.2.2 e2'.size ?_)
            intro v3 w3 f3 g3 k3
            have e3' : Ext w w3 := k3 w e2' (Nat.le_refl _)
            clear f1 f2 g1 g2 g3 k1 k2 k3 e1' e2'
            go_wp2
            go_ret
            exact ⟨_, rfl, e3', .inr (by rw [HP.out]; simpa using f3)⟩
          · have hs3 : ∀ W, Ints W (.slice (some ⟨bv, ov + l.length, none⟩) 0 (cv - l.length)) [] := fun W => Ints.none_of (by unfold maxLen; omega) (fun h => by cases h)
            have HS := Lib.hid (And.intro hs1 hs3)
            clear hs1 hs3
            have hb1 : ([] : List Int).length + (l).length ≤ 1099511627776 := by first | omega | (simp; omega)
            have hb2 : (l).length ≤ 1099511627776 := by first | omega | (simp; omega)
            have hb3 : (l ++ [n]).length + (([] : List Int)).length ≤ 1099511627776 := by first | omega | (simp; omega)
            have HB := Lib.hid (And.intro hb1 (And.intro hb2 hb3))
            clear hb1 hb2 hb3
            go_wp2_with (at_builtin; refine wpList_join rfl _ _ rfl w.heap.size _ _ [] (l) rfl (fresh_lit w [] #[] _ rfl (Nat.le_refl _) (Nat.zero_le _)) rfl (HS.out.1 _ (Ext.alloc (Ext.refl _) _)) HB.out.1 (size_alloc_le (Nat.le_refl _)) ?_)
            intro v1 w1 f1 g1 k1
            have e1' : Ext w w1 := k1 w (Ext.alloc (Ext.refl _) _) (Nat.le_refl _)
            go_wp2_with (at_builtin; refine wpList_push rfl _ _ rfl w.heap.size _ (l) n rfl (f1.ext (Ext.alloc (Ext.refl _) _)) ⟨w1.heap.size, 0, none⟩ 1 rfl (cell_alloc_one _ _ _) HB.out.2.1 (size_alloc_le e1'.size) ?_)
            intro v2 w2 f2 g2 k2
            have e2' : Ext w w2 := k2 w (e1'.alloc _) (Nat.le_refl _)
            go_wp2_with (at_builtin; refine wpList_join rfl _ _ rfl w.heap.size _ _ (l ++ [n]) (([] : List Int)) rfl f2 rfl (HS.out.2 _) HB.out.2.2 e2'.size ?_)
            intro v3 w3 f3 g3 k3
            have e3' : Ext w w3 := k3 w e2' (Nat.le_refl _)
            clear f1 f2 g1 g2 g3 k1 k2 k3 e1' e2'
            go_wp2
            go_ret
            exact ⟨_, rfl, e3', .inr (by rw [HP.out]; simpa using f3)⟩

end Go.Proofs.YtcpmfcigciknlaaGreat

namespace Go.Proofs.YtcpmfcigciknlaaGreat
open Go.RowKit

set_option maxHeartbeats 400000 in
theorem l1Has_any (v : Value) (l : List Int) (n : Int) (w : World) (hv : Ints w v l) :
    Calls Tryz.prog 164 #[v, .int .i64 n] w (BoolExt (hasI l n) w) := by
  obtain ⟨av, cv, rfl, hlv, _, hcv⟩ := hv
  unfold maxLen at hlv
  go_enter Tryz.func164, Tryz.ntmps164
  go_wp2
  go_loopw [6, 9] (fun _ i wr => ∃ k : Nat, k ≤ l.length ∧ i = .int .i64 k ∧ (l.take k).any (fun x => x == n) = false ∧ Ext w wr) (fun _ i _ => l.length - (intOf i).toNat)
  case atStart => exact ⟨0, Nat.zero_le _, rfl, by simp, Ext.refl _⟩
  case round =>
    obtain ⟨k, hk, rfl, ht, hx⟩ := hrel
    have HT := Lib.hid ht
    clear ht
    by_cases hlt : k < l.length
    · obtain ⟨bv, ov, rfl, dv⟩ := hcv (by omega)
      have gv := hx.cell (dv k hlt)
      clear hcv dv
      cases hp : (l[k] == n) with
      | true =>
        go_wp2
        go_ret
        refine ⟨?_, hx⟩
        have hf : hasI l n = true := any_true_at hlt _ (by rw [List.getElem?_eq_getElem hlt]; exact hp)
        rw [hf]; rfl
      | false =>
        go_wp2
        go_roundw
        case rel => exact ⟨k + 1, by omega, by go_num, any_take_succ hlt _ HT.out (by rw [List.getElem?_eq_getElem hlt]; exact hp), hx⟩
        case measure => simp [intOf]; omega
    · obtain rfl : k = l.length := by omega
      go_wp2
      go_ret
      refine ⟨?_, hx⟩
      have hf : hasI l n = false := by have h := HT.out; rwa [List.take_length] at h
      rw [hf]; rfl

end Go.Proofs.YtcpmfcigciknlaaGreat

namespace Go.Proofs.YtcpmfcigciknlaaGreat
open Go.RowKit
set_option linter.unusedVariables false

/-- The accounts that a command touches. -/
def touchesL (k f t : Int) : List Int := if k == 1 then putI [f] t else if k == 2 then [f] else []
theorem touchesL_1 (f t : Int) : touchesL 1 f t = putI [f] t := rfl
theorem touchesL_2 (f t : Int) : touchesL 2 f t = [f] := rfl
theorem touchesL_else {k : Int} (f t : Int) (h1 : (k == 1) = false) (h2 : (k == 2) = false) : touchesL k f t = [] := by simp [touchesL, h1, h2]

/-- Whether a command touches the account j. -/
def touchB (k f t j : Int) : Bool := if k == 1 then t == j || f == j else if k == 2 then f == j else false

/-- The four marks of touchedBy. -/
def FourB (k f t : Int) (w : World) (e : Ending) (w' : World) : Prop :=
  e = .returned (.agg #[.bool (touchB k f t 0), .bool (touchB k f t 1), .bool (touchB k f t 2), .bool (touchB k f t 3)]) ∧ Ext w w'

theorem codeM_good {i f t a : Int} (h : (codeM i f t a == 0) = true) : (0 ≤ f ∧ f ≤ 3) ∧ (0 ≤ t ∧ t ≤ 3) ∧ f ≠ t ∧ inB i 1 999 = true ∧ inB a 1 1000 = true := by
  unfold codeM at h
  cases h1 : acctB f <;> simp [h1] at h
  cases h2 : acctB t <;> simp [h2] at h
  by_cases h3 : f = t
  · simp [h3] at h
  · simp [h3] at h
    cases h4 : inB i 1 999 <;> simp [h4] at h
    cases h5 : inB a 1 1000 <;> simp [h5] at h
    exact ⟨acctB_yes h1, acctB_yes h2, h3, rfl, rfl⟩
theorem codeR_good {i f : Int} (h : (codeR i f == 0) = true) : (0 ≤ f ∧ f ≤ 3) ∧ inB i 1 999 = true := by
  unfold codeR at h
  cases h1 : acctB f <;> simp [h1] at h
  cases h4 : inB i 1 999 <;> simp [h4] at h
  exact ⟨acctB_yes h1, rfl⟩
/-- What a good command is. -/
theorem goodB_cases {k i f t a : Int} (h : goodB k i f t a = true) : (k = 0 ∧ i = 0 ∧ f = 0 ∧ t = 0 ∧ a = 0) ∨ (k = 1 ∧ (codeM i f t a == 0) = true) ∨ (k = 2 ∧ (codeR i f == 0) = true ∧ t = 0 ∧ a = 0) := by
  by_cases h0 : k = 0
  · subst h0; rw [goodB_0] at h; simp [zeroB] at h; exact .inl ⟨rfl, h.1, h.2.1, h.2.2.1, h.2.2.2⟩
  · by_cases h1 : k = 1
    · subst h1; rw [goodB_1] at h; exact .inr (.inl ⟨rfl, h⟩)
    · by_cases h2 : k = 2
      · subst h2; rw [goodB_2] at h; simp at h; exact .inr (.inr ⟨rfl, by simp [h.1.1], h.1.2, h.2⟩)
      · rw [goodB_else _ _ _ _ (by simp [h0]) (by simp [h1]) (by simp [h2])] at h; cases h

/-- The accounts below n that are touched. -/
def touchedTo (k f t : Int) (n : Nat) : List Int := ((List.range n).filter fun (j : Nat) => touchB k f t (j : Int)).map fun (j : Nat) => (j : Int)
theorem touchedTo_hit {k f t : Int} {n : Nat} (h : touchB k f t (n : Int) = true) : touchedTo k f t (n + 1) = touchedTo k f t n ++ [(n : Int)] := by
  simp [touchedTo, List.range_succ, List.filter_append, h]
theorem touchedTo_miss {k f t : Int} {n : Nat} (h : touchB k f t (n : Int) = false) : touchedTo k f t (n + 1) = touchedTo k f t n := by
  simp [touchedTo, List.range_succ, List.filter_append, h]
theorem touchedTo_len (k f t : Int) (n : Nat) : (touchedTo k f t n).length ≤ n := by
  unfold touchedTo
  rw [List.length_map]
  exact Nat.le_trans (List.length_filter_le _ _) (by simp)
theorem touchedTo_all {k i f t a : Int} (hg : goodB k i f t a = true) : touchedTo k f t 4 = touchesL k f t := by
  rcases goodB_cases hg with ⟨rfl, rfl, rfl, rfl, rfl⟩ | ⟨rfl, hc⟩ | ⟨rfl, hc, rfl, rfl⟩
  · decide
  · obtain ⟨hf, ht, hne, _, _⟩ := codeM_good hc
    have hf' : f = 0 ∨ f = 1 ∨ f = 2 ∨ f = 3 := by omega
    have ht' : t = 0 ∨ t = 1 ∨ t = 2 ∨ t = 3 := by omega
    clear hf ht hc hg
    rcases hf' with rfl | rfl | rfl | rfl <;> rcases ht' with rfl | rfl | rfl | rfl <;> first | (exact absurd rfl hne) | decide
  · have hf := (codeR_good hc).1
    have hf' : f = 0 ∨ f = 1 ∨ f = 2 ∨ f = 3 := by omega
    clear hf hc hg
    rcases hf' with rfl | rfl | rfl | rfl <;> decide

end Go.Proofs.YtcpmfcigciknlaaGreat

namespace Go.Proofs.YtcpmfcigciknlaaGreat
open Go.RowKit
set_option linter.unusedVariables false

def touchesOf (k i f t a : Int) : List Int := if goodB k i f t a then touchesL k f t else []
theorem touchesOf_good {k i f t a : Int} (h : goodB k i f t a = true) : touchesOf k i f t a = touchesL k f t := by unfold touchesOf; rw [h]; rfl
theorem touchesOf_bad {k i f t a : Int} (h : goodB k i f t a = false) : touchesOf k i f t a = [] := by unfold touchesOf; rw [h]; rfl

end Go.Proofs.YtcpmfcigciknlaaGreat

namespace Go.Proofs.YtcpmfcigciknlaaGreat
open Go.RowKit
set_option linter.unusedVariables false

/-- Whether two commands touch some one account. -/
def interL (l r : List Int) : Bool := l.any fun x => hasI r x
def interB (k f t k' f' t' : Int) : Bool := interL (touchesL k f t) (touchesL k' f' t')

theorem putI_one_len (f t : Int) : (putI [f] t).length ≤ 2 := by
  unfold putI
  split
  · simp
  · simp; omega
theorem touchesL_len (k f t : Int) : (touchesL k f t).length ≤ 2 := by
  unfold touchesL
  split
  · exact putI_one_len f t
  · split <;> simp

end Go.Proofs.YtcpmfcigciknlaaGreat

namespace Go.Proofs.YtcpmfcigciknlaaGreat
open Go.RowKit
set_option linter.unusedVariables false

/-- An instance by its indices: its number is one more than q. -/
def instCom (T : List (List RowD)) (p q : Nat) : Bool := match (T[p]?.getD [])[q]? with
  | some r => r.st == 3
  | none => false
def instsAt (T : List (List RowD)) (p : Nat) : List (Nat × Nat) := ((List.range (T[p]?.getD []).length).filter (instCom T p)).map fun q => (p, q)
def instsTo (T : List (List RowD)) (k : Nat) : List (Nat × Nat) := (List.range k).flatMap (instsAt T)
def insts (T : List (List RowD)) : List (Nat × Nat) := instsTo T T.length
def pairOf (x : Nat × Nat) : List Int := [(x.1 : Int), (x.2 : Int) + 1]
def lexL (x y : Nat × Nat) : Prop := x.1 < y.1 ∨ (x.1 = y.1 ∧ x.2 < y.2)

theorem instCom_in {T : List (List RowD)} {p q : Nat} (hp : p < T.length) (hq : q < T[p].length) : instCom T p q = (T[p][q].st == 3) := by
  unfold instCom
  rw [List.getElem?_eq_getElem hp, Option.getD_some, List.getElem?_eq_getElem hq]
theorem instCom_lt {T : List (List RowD)} {p q : Nat} (h : instCom T p q = true) : ∃ (hp : p < T.length) (hq : q < T[p].length), T[p][q].st = 3 := by
  by_cases hp : p < T.length
  · by_cases hq : q < T[p].length
    · refine ⟨hp, hq, ?_⟩
      rw [instCom_in hp hq] at h
      simpa using h
    · unfold instCom at h
      rw [List.getElem?_eq_getElem hp, Option.getD_some, List.getElem?_eq_none (by omega)] at h
      cases h
  · unfold instCom at h
    rw [show T[p]? = none from List.getElem?_eq_none (by omega)] at h
    simp at h
theorem mem_insts {T : List (List RowD)} {x : Nat × Nat} : x ∈ insts T ↔ instCom T x.1 x.2 = true := by
  unfold insts instsTo instsAt
  constructor
  · intro h
    obtain ⟨p, hp, h⟩ := List.mem_flatMap.1 h
    obtain ⟨q, hq, rfl⟩ := List.mem_map.1 h
    exact (List.mem_filter.1 hq).2
  · intro h
    obtain ⟨hp, hq, hs⟩ := instCom_lt h
    refine List.mem_flatMap.2 ⟨x.1, List.mem_range.2 hp, List.mem_map.2 ⟨x.2, List.mem_filter.2 ⟨List.mem_range.2 ?_, h⟩, rfl⟩⟩
    rw [List.getElem?_eq_getElem hp]
    exact hq
theorem comAt_inst (T : List (List RowD)) (p i : Nat) : comAt p (T[p]?.getD []) i = if instCom T p i then [pairOf (p, i)] else [] := by
  unfold comAt instCom pairOf
  cases h : (T[p]?.getD [])[i]? with
  | none => rfl
  | some r => simp
theorem comTo_insts (T : List (List RowD)) (p m : Nat) : comTo p (T[p]?.getD []) m = ((List.range m).filter (instCom T p)).map fun q => pairOf (p, q) := by
  induction m with
  | zero => simp [comTo]
  | succ m ih =>
    rw [comTo_succ, ih, comAt_inst, List.range_succ, List.filter_append, List.map_append]
    congr 1
    cases h : instCom T p m <;> simp [h]
theorem allTo_insts (T : List (List RowD)) (k : Nat) : allTo T k = (instsTo T k).map pairOf := by
  unfold allTo instsTo
  rw [List.map_flatMap]
  congr 1
  funext p
  unfold instsAt
  rw [comTo_insts, List.map_map]
  rfl
theorem instsTo_lex (T : List (List RowD)) (k : Nat) : (instsTo T k).Pairwise lexL := by
  unfold instsTo
  induction k with
  | zero => simp
  | succ k ih =>
    rw [List.range_succ, List.flatMap_append]
    rw [List.pairwise_append]
    refine ⟨ih, ?_, ?_⟩
    · simp only [List.flatMap_cons, List.flatMap_nil, List.append_nil]
      unfold instsAt
      rw [List.pairwise_map]
      exact (List.pairwise_lt_range.filter _).imp fun h => .inr ⟨rfl, h⟩
    · intro a ha b hb
      obtain ⟨p, hp, ha⟩ := List.mem_flatMap.1 ha
      obtain ⟨q, _, rfl⟩ := List.mem_map.1 ha
      simp only [List.flatMap_cons, List.flatMap_nil, List.append_nil] at hb
      obtain ⟨q', _, rfl⟩ := List.mem_map.1 hb
      exact .inl (List.mem_range.1 hp)
theorem insts_lex (T : List (List RowD)) : (insts T).Pairwise lexL := instsTo_lex T _

/-- The last of a replica's instances on which a row hangs. -/
def depI (r : RowD) (p : Nat) : Int := r.l[p]?.getD 0
/-- Two rows interfere, and neither hangs on the other. -/
def cfl (n : Int) (T : List (List RowD)) (x y : Nat × Nat) : Bool :=
  interB (rowOf n T x.1 x.2).k (rowOf n T x.1 x.2).f (rowOf n T x.1 x.2).t (rowOf n T y.1 y.2).k (rowOf n T y.1 y.2).f (rowOf n T y.1 y.2).t &&
    (decide (depI (rowOf n T x.1 x.2) y.1 < (y.2 : Int) + 1) && decide (depI (rowOf n T y.1 y.2) x.1 < (x.2 : Int) + 1))
theorem interB_comm (k f t k' f' t' : Int) : interB k f t k' f' t' = interB k' f' t' k f t := by
  have h : ∀ l r : List Int, interL l r = true → interL r l = true := fun l r h => by
    unfold interL at h ⊢
    obtain ⟨x, hx, hr⟩ := List.any_eq_true.1 h
    exact List.any_eq_true.2 ⟨x, by simpa [hasI] using hr, by simpa [hasI] using hx⟩
  unfold interB
  rw [Bool.eq_iff_iff]
  exact ⟨h _ _, h _ _⟩
theorem cfl_comm (n : Int) (T : List (List RowD)) (x y : Nat × Nat) : cfl n T x y = cfl n T y x := by
  unfold cfl
  rw [interB_comm]
  congr 1
  exact Bool.and_comm _ _
/-- Of any two settled instances that interfere one hangs on the other. -/
def holdB (n : Int) (T : List (List RowD)) : Bool := (insts T).all fun x => (insts T).all fun y => decide (x = y) || !cfl n T x y
theorem holdB_no {n : Int} {T : List (List RowD)} {x y : Nat × Nat} (hx : x ∈ insts T) (hy : y ∈ insts T) (hne : x ≠ y) (h : cfl n T x y = true) : holdB n T = false := by
  unfold holdB
  rw [List.all_eq_false]
  refine ⟨x, hx, ?_⟩
  simp only [Bool.not_eq_true]
  rw [List.all_eq_false]
  exact ⟨y, hy, by simp [hne, h]⟩
theorem holdB_yes {n : Int} {T : List (List RowD)} (h : ∀ x ∈ insts T, ∀ y ∈ insts T, x ≠ y → cfl n T x y = false) : holdB n T = true := by
  unfold holdB
  rw [List.all_eq_true]
  intro x hx
  rw [List.all_eq_true]
  intro y hy
  by_cases e : x = y
  · simp [e]
  · simp [h x hx y hy e]
/-- .. by their places in the list. -/
theorem holdB_all {n : Int} {T : List (List RowD)} (h : ∀ a b (ha : a < (insts T).length) (hb : b < a), cfl n T ((insts T)[b]) ((insts T)[a]) = false) : holdB n T = true := by
  refine holdB_yes fun x hx y hy hne => ?_
  obtain ⟨a, ha, rfl⟩ := List.getElem_of_mem hx
  obtain ⟨b, hb, rfl⟩ := List.getElem_of_mem hy
  rcases Nat.lt_trichotomy a b with hl | rfl | hl
  · exact h b a hb hl
  · exact absurd rfl hne
  · rw [cfl_comm]; exact h a b ha hl
theorem insts_ne {T : List (List RowD)} {a b : Nat} (ha : a < (insts T).length) (hb : b < a) : (insts T)[b] ≠ (insts T)[a] := by
  have h := List.pairwise_iff_getElem.1 (insts_lex T) b a (by omega) ha hb
  intro e
  rw [e] at h
  unfold lexL at h
  omega

end Go.Proofs.YtcpmfcigciknlaaGreat

namespace Go.Proofs.YtcpmfcigciknlaaGreat
open Go.RowKit Go.Maps
set_option linter.unusedVariables false

theorem wf_small {x : Int} (h0 : 0 ≤ x) (h1 : x ≤ 1048577) : wf64 x := by
  exact WalkArith.wf_i64 (by omega)
/-! ### A table, its lists named -/
def RowsAt (w : World) (x : Value) (R : List RowD) (V : Nat → Value) : Prop :=
  ∃ ao cap, x = .slice ao R.length cap ∧ R.length ≤ maxLen ∧ (R.length ≤ cap ∧ cap ≤ maxLen ∧ (ao = none → cap = 0)) ∧
    (0 < R.length → ∃ b off, ao = some ⟨b, off, none⟩ ∧ ∀ j (h : j < R.length), RowIn w b (off + j * 10) R[j] (V j) ∧ Ints w (V j) R[j].l)
def TabAt (w : World) (u : Value) (T : List (List RowD)) (U : Nat → Nat → Value) : Prop :=
  ∃ ao cap, u = .slice ao T.length cap ∧ T.length ≤ maxLen ∧ (T.length ≤ cap ∧ cap ≤ maxLen ∧ (ao = none → cap = 0)) ∧
    (0 < T.length → ∃ b off, ao = some ⟨b, off, none⟩ ∧ ∀ j (h : j < T.length), ∃ x, w.cell? ⟨b, off + j, none⟩ = some x ∧ RowsAt w x T[j] (U j))
theorem RowsAt.ext {w w' : World} {x : Value} {R : List RowD} {V : Nat → Value} (h : RowsAt w x R V) (e : Ext w w') : RowsAt w' x R V := by
  obtain ⟨ao, cap, hv, hm, hcap, hc⟩ := h
  refine ⟨ao, cap, hv, hm, hcap, fun hp => ?_⟩
  obtain ⟨b, off, ha, hc⟩ := hc hp
  exact ⟨b, off, ha, fun j hj => ⟨(hc j hj).1.ext e, (hc j hj).2.ext e⟩⟩
theorem TabAt.ext {w w' : World} {u : Value} {T : List (List RowD)} {U : Nat → Nat → Value} (h : TabAt w u T U) (e : Ext w w') : TabAt w' u T U := by
  obtain ⟨ao, cap, hv, hm, hcap, hc⟩ := h
  refine ⟨ao, cap, hv, hm, hcap, fun hp => ?_⟩
  obtain ⟨b, off, ha, hc⟩ := hc hp
  refine ⟨b, off, ha, fun j hj => ?_⟩
  obtain ⟨x, hx, hr⟩ := hc j hj
  exact ⟨x, e.cell hx, hr.ext e⟩
theorem rowsAt_of {w : World} {x : Value} {R : List RowD} (h : Rowz w x R) : ∃ V, RowsAt w x R V := by
  obtain ⟨ao, cap, hv, hm, hcap, hc⟩ := h
  by_cases hp : 0 < R.length
  · obtain ⟨b, off, ha, hc⟩ := hc hp
    refine ⟨fun j => if h : j < R.length then Classical.choose (hc j h) else .bool false, ao, cap, hv, hm, hcap, fun _ => ⟨b, off, ha, fun j hj => ?_⟩⟩
    have := Classical.choose_spec (hc j hj)
    simp only [hj, dif_pos]
    exact this
  · exact ⟨fun _ => .bool false, ao, cap, hv, hm, hcap, fun h => absurd h hp⟩
theorem tabAt_of {w : World} {u : Value} {T : List (List RowD)} (h : Rowzz w u T) : ∃ U, TabAt w u T U := by
  obtain ⟨ao, cap, hv, hm, hcap, hc⟩ := h
  by_cases hp : 0 < T.length
  · obtain ⟨b, off, ha, hc⟩ := hc hp
    have hc' : ∀ j (h : j < T.length), ∃ V : Nat → Value, ∃ x, w.cell? ⟨b, off + j, none⟩ = some x ∧ RowsAt w x T[j] V := fun j hj => by
      obtain ⟨x, hx, hr⟩ := hc j hj
      obtain ⟨V, hV⟩ := rowsAt_of hr
      exact ⟨V, x, hx, hV⟩
    refine ⟨fun j => if h : j < T.length then Classical.choose (hc' j h) else fun _ => .bool false, ao, cap, hv, hm, hcap, fun _ => ⟨b, off, ha, fun j hj => ?_⟩⟩
    have := Classical.choose_spec (hc' j hj)
    simp only [hj, dif_pos]
    exact this
  · exact ⟨fun _ _ => .bool false, ao, cap, hv, hm, hcap, fun h => absurd h hp⟩

/-- A row as a value. -/
def rowV (r : RowD) (u : Value) : Value := .agg #[.int .i64 r.b, .int .i64 r.v, .int .i64 r.st, .int .i64 r.k, .int .i64 r.i, .int .i64 r.f, .int .i64 r.t, .int .i64 r.a, .int .i64 r.s, u]
def rowF (n : Int) (T : List (List RowD)) (U : Nat → Nat → Value) (p q : Nat) : Value := rowV (rowOf n T p q) (U p q)
/-- Is an instance in a table's lists? -/
def inT (T : List (List RowD)) (p q : Nat) : Bool := decide (q < (T[p]?.getD []).length)
theorem inT_of {T : List (List RowD)} {p q : Nat} (h : inT T p q = true) : ∃ (hp : p < T.length), q < T[p].length := by
  unfold inT at h
  have h' := of_decide_eq_true h
  by_cases hp : p < T.length
  · rw [List.getElem?_eq_getElem hp] at h'
    exact ⟨hp, h'⟩
  · rw [List.getElem?_eq_none (by omega)] at h'
    simp at h'
theorem inT_mk {T : List (List RowD)} {p q : Nat} (hp : p < T.length) (hq : q < T[p].length) : inT T p q = true := by
  unfold inT
  rw [List.getElem?_eq_getElem hp]
  exact decide_eq_true hq
/-- The lists of all rows read. -/
def Lists (w : World) (n : Int) (T : List (List RowD)) (U : Nat → Nat → Value) : Prop := ∀ p q, inT T p q = true → Ints w (U p q) (rowOf n T p q).l
theorem Lists.ext {w w' : World} {n : Int} {T : List (List RowD)} {U : Nat → Nat → Value} (h : Lists w n T U) (e : Ext w w') : Lists w' n T U := fun p q hi => (h p q hi).ext e
theorem TabAt.lists {w : World} {u : Value} {T : List (List RowD)} {U : Nat → Nat → Value} (n : Int) (h : TabAt w u T U) : Lists w n T U := by
  intro p q hi
  obtain ⟨hp, hq⟩ := inT_of hi
  obtain ⟨_, _, _, _, _, hc⟩ := h
  obtain ⟨b, off, _, hc⟩ := hc (by omega)
  obtain ⟨x, _, hr⟩ := hc p hp
  obtain ⟨_, _, _, _, _, hr⟩ := hr
  obtain ⟨b', off', _, hr⟩ := hr (by omega)
  rw [rowOf_in hp hq]
  exact (hr q hq).2

/-! ### A map that holds values -/
/-- How an element reads here: as itself. -/
def asIs (v : Value) : Option (DataW Value × List MemPlace) := some (.held v, [])

/-- The map holds just the instances of S, each with its value. -/
structure MapOf (D : DataW Value) (S : Nat → Nat → Bool) (f : Nat → Nat → Value) : Prop where
  isMap : Maps.IsMap D
  low : ∀ p q, S p q = true → p ≤ 1048576 ∧ q ≤ 1048576
  has : ∀ p q, S p q = true → Maps.has D (kl p ((q : Int) + 1)) = true
  val : ∀ p q, S p q = true → ∀ z, D.atKey (kl p ((q : Int) + 1)) z = .held (f p q)
  keys : ∀ l, Maps.has D l = true → ∃ p q : Nat, l = kl (p : Int) ((q : Int) + 1) ∧ S p q = true
theorem MapOf.empty (f : Nat → Nat → Value) : MapOf (.map []) (fun _ _ => false) f :=
  ⟨⟨_, rfl⟩, (fun _ _ h => by cases h), (fun _ _ h => by cases h), (fun _ _ h => by cases h), (fun l h => by cases h)⟩
theorem MapOf.congr {D : DataW Value} {S S' : Nat → Nat → Bool} {f f' : Nat → Nat → Value} (h : MapOf D S f) (hs : ∀ p q, S' p q = S p q) (hf : ∀ p q, S p q = true → f' p q = f p q) : MapOf D S' f' :=
  ⟨h.isMap, fun p q e => h.low p q (by rw [← hs]; exact e), fun p q e => h.has p q (by rw [← hs]; exact e), fun p q e z => by rw [hs] at e; rw [hf p q e]; exact h.val p q e z, fun l hl => by
    obtain ⟨p, q, e, hS⟩ := h.keys l hl
    exact ⟨p, q, e, by rw [hs]; exact hS⟩⟩
theorem kl_ne {p q p' q' : Nat} (h1 : p ≤ 1048576 ∧ q ≤ 1048576) (h2 : p' ≤ 1048576 ∧ q' ≤ 1048576) (h : ¬ (p = p' ∧ q = q')) : kl (p : Int) ((q : Int) + 1) ≠ kl (p' : Int) ((q' : Int) + 1) := by
  intro e
  obtain ⟨a, b⟩ := kl_inj (wf_small (by omega) (by omega)) (wf_small (by omega) (by omega)) (wf_small (by omega) (by omega)) (wf_small (by omega) (by omega)) e
  omega
theorem MapOf.put {D : DataW Value} {S : Nat → Nat → Bool} {f : Nat → Nat → Value} (h : MapOf D S f) {p q : Nat} (hl : p ≤ 1048576 ∧ q ≤ 1048576) {v : Value} (hv : f p q = v) :
    MapOf (D.put (kl p ((q : Int) + 1)) (.held v)) (fun p' q' => S p' q' || (decide (p' = p) && decide (q' = q))) f := by
  have hk : WideAt.IsKeyLit (kl p ((q : Int) + 1)) := instKeyed.key (keyOf_inst (wf_small (by omega) (by omega)) (wf_small (by omega) (by omega)))
  have hS : ∀ p' q', (S p' q' || (decide (p' = p) && decide (q' = q))) = true → (p' = p ∧ q' = q) ∨ S p' q' = true := fun p' q' hs => by
    rcases Bool.or_eq_true_iff.1 hs with hs | hs
    · exact .inr hs
    · simp at hs; exact .inl hs
  refine ⟨h.isMap.put _ _, fun p' q' hs => ?_, fun p' q' hs => ?_, fun p' q' hs z => ?_, fun l hl' => ?_⟩
  · rcases hS p' q' hs with ⟨rfl, rfl⟩ | hs
    · exact hl
    · exact h.low p' q' hs
  · by_cases e : p' = p ∧ q' = q
    · obtain ⟨rfl, rfl⟩ := e
      exact Maps.has_put_same h.isMap hk _
    · have hs' := (hS p' q' hs).resolve_left e
      rw [Maps.has_put_other (kl_ne (h.low _ _ hs') hl e)]
      exact h.has p' q' hs'
  · by_cases e : p' = p ∧ q' = q
    · obtain ⟨rfl, rfl⟩ := e
      rw [Maps.atKey_put_same h.isMap hk, hv]
    · have hs' := (hS p' q' hs).resolve_left e
      rw [Maps.atKey_put_other (kl_ne (h.low _ _ hs') hl e)]
      exact h.val p' q' hs' z
  · by_cases e : l = kl p ((q : Int) + 1)
    · refine ⟨p, q, e, ?_⟩
      simp
    · rw [Maps.has_put_other e] at hl'
      obtain ⟨p', q', e', hs⟩ := h.keys l hl'
      refine ⟨p', q', e', ?_⟩
      simp [hs]
theorem MapOf.del {D : DataW Value} {S : Nat → Nat → Bool} {f : Nat → Nat → Value} (h : MapOf D S f) {p q : Nat} (hl : p ≤ 1048576 ∧ q ≤ 1048576) :
    MapOf (D.del (kl p ((q : Int) + 1))) (fun p' q' => S p' q' && !(decide (p' = p) && decide (q' = q))) f := by
  have hS : ∀ p' q', (S p' q' && !(decide (p' = p) && decide (q' = q))) = true → S p' q' = true ∧ ¬ (p' = p ∧ q' = q) := fun p' q' hs => by
    simp at hs
    exact ⟨hs.1, by omega⟩
  refine ⟨h.isMap.del _, fun p' q' hs => h.low p' q' (hS p' q' hs).1, fun p' q' hs => ?_, fun p' q' hs z => ?_, fun l hl' => ?_⟩
  · obtain ⟨hs, e⟩ := hS p' q' hs
    rw [Maps.has_del_other (kl_ne (h.low _ _ hs) hl e)]
    exact h.has p' q' hs
  · obtain ⟨hs, e⟩ := hS p' q' hs
    rw [Maps.atKey_del_other (kl_ne (h.low _ _ hs) hl e)]
    exact h.val p' q' hs z
  · by_cases e : l = kl p ((q : Int) + 1)
    · subst e
      rw [Maps.has_del_same] at hl'
      cases hl'
    · rw [Maps.has_del_other e] at hl'
      obtain ⟨p', q', e', hs⟩ := h.keys l hl'
      refine ⟨p', q', e', ?_⟩
      simp only [hs, Bool.true_and, Bool.not_eq_true']
      by_cases e2 : p' = p ∧ q' = q
      · obtain ⟨rfl, rfl⟩ := e2
        exact absurd e' e
      · simpa using e2

/-! ### kept -/
theorem Ext.grownNone {w w' : World} (e : Ext w w') : w.grownBy w' none := ⟨e.os, e.tape, e.output, e.size, fun k hk _ => Below.block e k hk⟩
abbrev RowMap (w : World) (b n : Nat) (D : DataW Value) : Prop := w.ownsMap Tryz.prog 101 asIs b n D
abbrev RowRange (w : World) (b r n : Nat) (D : DataW Value) (left : Lit → Bool) (cnt : Nat) : Prop := w.ranges Tryz.prog 101 asIs b r n D left cnt
theorem RowMap.ext {w w' : World} {b n : Nat} {D : DataW Value} (h : RowMap w b n D) (e : Ext w w') : RowMap w' b n D := h.kept e.grownNone (by simp)
theorem RowRange.ext {w w' : World} {b r n : Nat} {D : DataW Value} {left : Lit → Bool} {cnt : Nat} (h : RowRange w b r n D left cnt) (e : Ext w w') : RowRange w' b r n D left cnt := h.kept e.grownNone (by simp) (by simp)

/-- THE STEP of a range over such a map. -/
theorem wpList_next_inst (w : World) {ops : Array Oper} {rest : List Oper} {o : Oper} {a : Act} {Q : Exit → Act → World → Prop} (hg : o.guard = none) (it : Operand) (hop : o.op = Op.next it false)
    (b r n : Nat) (D : DataW Value) (left : Lit → Bool) (cnt : Nat) (S : Nat → Nat → Bool) (f : Nat → Nat → Value)
    (hit : a.eval it = .pointer (some ⟨r, 0, none⟩)) (h : RowRange w b r n D left cnt) (hM : MapOf D S f)
    (hDone : (∀ l, left l = false) → wpList Tryz.prog ops Q rest (a.put o.dst (.tuple #[.bool false])) w)
    (hMore : ∀ (p q : Nat) (w' : World) (cnt' : Nat), S p q = true → left (kl p ((q : Int) + 1)) = true → RowRange w' b r n D (fun z => left z && !z.sameKey (kl p ((q : Int) + 1))) cnt' → cnt' < cnt →
      w.grownBy w' (some r) → w'.heap.size = w.heap.size → (Instr.entry (.pointer (some ⟨r, 0, none⟩))).run Tryz.prog w' = .ok (.tuple #[.agg #[.int .i64 p, .int .i64 ((q : Int) + 1)], f p q]) w' →
        wpList Tryz.prog ops Q rest (a.put o.dst (.tuple #[.bool true, .agg #[.int .i64 p, .int .i64 ((q : Int) + 1)], f p q])) w') :
    wpList Tryz.prog ops Q (o :: rest) a w := by
  refine wpList_next_ranges w hg it hop 101 instKeyed asIs (fun x : Int × Int => instV x.1 x.2) (fun v : Value => v) (fun key l hk => ?_) (fun v y _ => ⟨v, rfl⟩) b r n D left cnt hit h (fun _ hl => hDone hl) ?_
  · obtain ⟨x, y, hv, _⟩ := keyOf_inst_inv hk
    exact ⟨(x, y), hv⟩
  · intro x c l y w' cnt' hkey hlk hv hat hrg hlt hgr hsz hen
    obtain ⟨x1, x2⟩ := x
    obtain ⟨a', b', e1, e2, wa, wb⟩ := keyOf_inst_inv hkey
    simp only [instV] at e1 hen
    obtain ⟨p, q, e3, hS⟩ := hM.keys l (Maps.has_true_of_atKey hat)
    have hlow := hM.low p q hS
    have hinj := kl_inj wa wb (wf_small (by omega) (by omega)) (wf_small (by omega) (by omega)) (e2.symm.trans e3)
    obtain ⟨rfl, rfl⟩ := hinj
    simp only [Value.agg.injEq, Array.mk.injEq, List.cons.injEq, Value.int.injEq, true_and, and_true] at e1
    obtain ⟨rfl, rfl⟩ := e1
    rw [e3] at hat hlk hrg
    have hc := (hM.val p q hS .nil).symm.trans (hat .nil)
    simp only [asIs, Option.some.injEq] at hv
    rw [← hv] at hc
    simp only [DataW.held.injEq] at hc
    rw [← hc] at hen ⊢
    exact hMore p q w' cnt' hS hlk hrg hlt hgr hsz hen


end Go.Proofs.YtcpmfcigciknlaaGreat

namespace Go.Proofs.YtcpmfcigciknlaaGreat
open Go.RowKit
set_option linter.unusedVariables false

/-- An instance's two cells. -/
def cellsI (x : Nat × Nat) : List Value := [.int .i64 x.1, .int .i64 ((x.2 : Int) + 1)]
def flatI (L : List (Nat × Nat)) : List Value := L.flatMap cellsI
theorem flatI_len (L : List (Nat × Nat)) : (flatI L).length = L.length * 2 := by
  unfold flatI
  induction L with
  | nil => rfl
  | cons x t ih => rw [List.flatMap_cons, List.length_append, ih]; simp [cellsI]; omega
theorem flatI_at {L : List (Nat × Nat)} {j : Nat} (h : j < L.length) : (flatI L)[j * 2]? = some (.int .i64 (L[j].1 : Int)) ∧ (flatI L)[j * 2 + 1]? = some (.int .i64 ((L[j].2 : Int) + 1)) := by
  induction L generalizing j with
  | nil => simp at h
  | cons x t ih =>
    unfold flatI
    rw [List.flatMap_cons]
    cases j with
    | zero => simp [cellsI]
    | succ j =>
      have h' : j < t.length := by simpa using h
      obtain ⟨i1, i2⟩ := ih h'
      unfold flatI at i1 i2
      have e1 : (j + 1) * 2 = (cellsI x).length + j * 2 := by simp [cellsI]; omega
      refine ⟨?_, ?_⟩
      · rw [e1, List.getElem?_append_right (by omega), Nat.add_sub_cancel_left, i1]
        simp
      · rw [e1, Nat.add_assoc, List.getElem?_append_right (by omega), Nat.add_sub_cancel_left, i2]
        simp

/-- v is a slice of instances of a block that was made from block number B on. -/
def FreshIn (B : Nat) (w : World) (v : Value) (L : List (Nat × Nat)) : Prop := w.ownsRow B 101 2 v L.length (flatI L)
theorem FreshIn.nil (B : Nat) (w : World) : FreshIn B w (.slice none 0 0) [] := ⟨rfl, .inl ⟨rfl, rfl⟩⟩
theorem FreshIn.ext {B : Nat} {w w' : World} {v : Value} {L : List (Nat × Nat)} (h : FreshIn B w v L) (e : Ext w w') : FreshIn B w' v L := e.ownsRow h

/-- v is a slice that reads as the instances L in w. -/
def InstsAt (w : World) (v : Value) (L : List (Nat × Nat)) : Prop :=
  ∃ ao cap, v = .slice ao L.length cap ∧ L.length ≤ maxLen ∧ (L.length ≤ cap ∧ cap ≤ maxLen ∧ (ao = none → cap = 0)) ∧
    (0 < L.length → ∃ b off, ao = some ⟨b, off, none⟩ ∧ ∀ j (h : j < L.length), w.cell? ⟨b, off + j * 2, none⟩ = some (.int .i64 (L[j].1 : Int)) ∧ w.cell? ⟨b, off + j * 2 + 1, none⟩ = some (.int .i64 ((L[j].2 : Int) + 1)))
theorem InstsAt.ext {w w' : World} {v : Value} {L : List (Nat × Nat)} (h : InstsAt w v L) (e : Ext w w') : InstsAt w' v L := by
  obtain ⟨ao, cap, hv, hm, hcap, hc⟩ := h
  refine ⟨ao, cap, hv, hm, hcap, fun hp => ?_⟩
  obtain ⟨b, off, ha, hc⟩ := hc hp
  exact ⟨b, off, ha, fun j hj => ⟨e.cell (hc j hj).1, e.cell (hc j hj).2⟩⟩
theorem FreshIn.at {B : Nat} {w : World} {v : Value} {L : List (Nat × Nat)} (h : FreshIn B w v L) : InstsAt w v L := by
  rcases h.2 with ⟨rfl, hn⟩ | ⟨g, cap, cur, rfl, hb, hg, hnc, hcm, hcs, htake⟩
  · obtain rfl : L = [] := List.eq_nil_of_length_eq_zero hn
    exact ⟨none, 0, rfl, by simp, ⟨by simp, by simp, fun _ => rfl⟩, fun h => by simp at h⟩
  · refine ⟨some ⟨g, 0, none⟩, cap, rfl, by omega, ⟨by omega, by omega, fun h => by cases h⟩, fun _ => ⟨g, 0, rfl, fun j hj => ?_⟩⟩
    have hc1 := World.ownsRow.cellAt h (j * 2) (by omega)
    have hc2 := World.ownsRow.cellAt h (j * 2 + 1) (by omega)
    obtain ⟨f1, f2⟩ := flatI_at hj
    rw [Nat.zero_add]
    exact ⟨hc1.trans f1, hc2.trans f2⟩

theorem Tryz.infoInst : (Tryz.prog.info? 101).map (fun i => (i.zero, i.size, i.bytes)) = some (some (.agg #[.int .i64 0, .int .i64 0]), 2, 16) := by kernel_rfl

/-- append(s, x), s of the call's own. -/
theorem wpList_pushI {ops : Array Oper} {rest : List Oper} {o : Oper} {a : Act} {Q : Exit → Act → World → Prop} {w : World} (hgd : o.guard = none) (s x : Operand)
    (ho : o.op = .call { callee := .builtin .append, args := #[s, x], argTypes := #[108, 108] })
    (B : Nat) (v : Value) (L : List (Nat × Nat)) (y : Nat × Nat) (hs : a.eval s = v) (hf : FreshIn B w v L) (g : Nat) (c : Nat) (hx : a.eval x = .slice (some ⟨g, 0, none⟩) 1 c)
    (hc0 : w.cell? ⟨g, 0, none⟩ = some (.int .i64 (y.1 : Int))) (hc1 : w.cell? ⟨g, 1, none⟩ = some (.int .i64 ((y.2 : Int) + 1))) (hl : L.length ≤ 1048576) (hB : B ≤ w.heap.size)
    (h : ∀ v' w', FreshIn B w' v' (L ++ [y]) → w.grownBy w' v.ownBlock → Kept B w w' → wpList Tryz.prog ops Q rest (a.put o.dst v') w') : wpList Tryz.prog ops Q (o :: rest) a w := by
  obtain ⟨i0, hi, hz0, hz1, hz2⟩ := info_parts Tryz.infoInst
  refine wpList_append_own _ hgd s x 108 ho B 101 i0 (.agg #[.int .i64 0, .int .i64 0]) 2 16 Tryz.underlying108 hi hz0 hz1 hz2 rfl (by decide) v L.length _ hs hf ⟨g, 0, none⟩ 1 c (cellsI y) hx rfl ?_ ?_ ?_ ?_ hB ?_
  · intro j u hj
    match j, hj with
    | 0, hj => simp [cellsI] at hj; subst hj; simpa [Addr.add] using hc0
    | 1, hj => simp [cellsI] at hj; subst hj; simpa [Addr.add] using hc1
  · intro u hu
    simp [cellsI] at hu
    rcases hu with rfl | rfl <;> rfl
  · unfold maxLen; omega
  · omega
  · intro v' w' ho' hg _
    refine h v' w' ?_ hg (fun w0 hx0 hB0 => Below.grown hx0 hg hx0.size (fun q hq => Nat.le_trans hB0 (World.ownsRow.lt hf q hq).1))
    unfold FreshIn
    have e : flatI (L ++ [y]) = flatI L ++ cellsI y := by simp [flatI]
    rw [e, List.length_append]
    exact ho'

end Go.Proofs.YtcpmfcigciknlaaGreat

namespace Go.Proofs.YtcpmfcigciknlaaGreat
open Go.RowKit Go.Maps
set_option linter.unusedVariables false

/-- All instances on which a row hangs. -/
def hungAt (k m : Nat) : List (Nat × Nat) := (List.range m).map fun i => (k, i)
def depM (r : RowD) (k : Nat) : Nat := (depI r k).toNat
def hungTo (r : RowD) (k : Nat) : List (Nat × Nat) := (List.range k).flatMap fun p => hungAt p (depM r p)
def hungL (r : RowD) : List (Nat × Nat) := hungTo r r.l.length
theorem hungAt_succ (k m : Nat) : hungAt k (m + 1) = hungAt k m ++ [(k, m)] := by simp [hungAt, List.range_succ]
theorem hungTo_succ (r : RowD) (k : Nat) : hungTo r (k + 1) = hungTo r k ++ hungAt k (depM r k) := by simp [hungTo, List.range_succ]
theorem hungAt_len (k m : Nat) : (hungAt k m).length = m := by simp [hungAt]
theorem hungTo_len {r : RowD} (h : ∀ k, depM r k ≤ 6) (k : Nat) : (hungTo r k).length ≤ 6 * k := by
  induction k with
  | zero => simp [hungTo]
  | succ k ih =>
    rw [hungTo_succ, List.length_append, hungAt_len]
    have := h k
    omega
theorem mem_hungL {r : RowD} {y : Nat × Nat} : y ∈ hungL r ↔ y.1 < r.l.length ∧ y.2 < depM r y.1 := by
  unfold hungL hungTo hungAt
  rw [List.mem_flatMap]
  constructor
  · rintro ⟨p, hp, hy⟩
    obtain ⟨i, hi, rfl⟩ := List.mem_map.1 hy
    exact ⟨List.mem_range.1 hp, List.mem_range.1 hi⟩
  · rintro ⟨h1, h2⟩
    exact ⟨y.1, List.mem_range.2 h1, List.mem_map.2 ⟨y.2, List.mem_range.2 h2, rfl⟩⟩

/-- A list of instances comes back, in new memory. -/
def NewInst (L : List (Nat × Nat)) (w : World) (e : Ending) (w' : World) : Prop := ∃ v, e = .returned v ∧ FreshIn w.heap.size w' v L ∧ Ext w w'
theorem FreshIn.more {B B' : Nat} {w : World} {v : Value} {L : List (Nat × Nat)} (h : FreshIn B w v L) (hb : B' ≤ B) : FreshIn B' w v L := ownsRow_more h hb

set_option maxHeartbeats 2000000 in
set_option maxRecDepth 100000 in
theorem hungOn_any (r : RowD) (s : Int) (u : Value) (w : World) (hu : Ints w u r.l) (hl : r.l.length ≤ 5) (hd : ∀ k, 0 ≤ depI r k ∧ depI r k ≤ 6) :
    Calls Tryz.prog 101 #[.agg #[.int .i64 s, u]] w (NewInst (hungL r) w) := by
  obtain ⟨au, cu, rfl, hlu, _, hcu⟩ := hu
  have hx0 := Ext.alloc1 w (.cells #[.int .i64 s, .slice au r.l.length cu] 81)
  have HX0 := Lib.hid hx0
  have HD := Lib.hid hd
  unfold hungL
  clear hx0 hd
  go_enter Tryz.func101, Tryz.ntmps101
  go_wp2
  go_loopw [3, 10] (fun o i wr => ∃ k : Nat, k ≤ r.l.length ∧ i = .int .i64 k ∧ Hid (FreshIn w.heap.size wr o (hungTo r k)) ∧ Hid (Ext w wr)) (fun _ i _ => r.l.length - (intOf i).toNat)
  case atStart => exact ⟨0, Nat.zero_le _, rfl, Lib.hid (FreshIn.nil _ _), HX0⟩
  case round =>
    obtain ⟨k, hk, rfl, HF, HX⟩ := hrel
    by_cases hlt : k < r.l.length
    · obtain ⟨bu, ou, rfl, du⟩ := hcu (by omega)
      have gl : wr.cell? ⟨bu, ou + k, none⟩ = some (.int .i64 (depI r k)) := HX.out.cell (du k hlt)
      have hdk := HD.out k
      obtain ⟨m, hm⟩ : ∃ m, m = depM r k := ⟨_, rfl⟩
      have hmd : depI r k = (m : Int) := by rw [hm]; unfold depM; omega
      rw [hmd] at gl
      have hm6 : m ≤ 6 := by omega
      have HMM := Lib.hid hm
      have HLN : Hid ((hungTo r k).length ≤ 1000) := Lib.hid (by
        have := hungTo_len (r := r) (fun k => by have := HD.out k; unfold depM; omega) k
        omega)
      clear hdk hm hmd hcu du
      go_wp2
      go_loopw [3, 16] (fun o i wr => ∃ j : Nat, j ≤ m ∧ i = .int .i64 j ∧ Hid (FreshIn w.heap.size wr o (hungTo r k ++ hungAt k j)) ∧ Hid (Ext w wr)) (fun _ i _ => m - (intOf i).toNat)
      case atStart => exact ⟨0, Nat.zero_le _, rfl, Lib.hid (by have h := HF.out; simpa [hungAt] using h), HX⟩
      case round =>
        clear gl HF HX
        obtain ⟨j, hj, rfl, HF, HX⟩ := hrel
        by_cases hjm : j < m
        · have hll : (hungTo r k ++ hungAt k j).length ≤ 1048576 := by
            rw [List.length_append, hungAt_len]
            have := HLN.out
            omega
          have HLL := Lib.hid hll
          have HBB := Lib.hid HX.out.size
          clear hll
          go_wp2_with (at_builtin; refine wpList_pushI rfl _ _ rfl w.heap.size _ (hungTo r k ++ hungAt k j) (k, j) rfl (HF.out.ext (Ext.alloc1 _ _)) wr.heap.size 1 rfl (by go_simp) (by go_simp) HLL.out (Nat.le_trans HBB.out (Ext.alloc1 _ _).size) ?_)
          intro v' w4 f4 hg4 hk4
          have FN : Hid (FreshIn w.heap.size w4 v' (hungTo r k ++ hungAt k (j + 1))) := Lib.hid (by
            rw [hungAt_succ, ← List.append_assoc]
            first | exact f4 | (rw [List.append_assoc]; exact f4))
          have XN := Lib.hid (hk4 w (HX.out.trans (Ext.alloc1 _ _)) (Nat.le_refl _))
          clear f4 hg4 hk4 HF HX
          go_wp2
          go_roundw
          case rel => exact ⟨j + 1, by omega, by go_num, FN, XN⟩
          case measure => simp [intOf]; omega
        · obtain rfl : j = m := by omega
          have FN : Hid (FreshIn w.heap.size wr u3 (hungTo r (k + 1))) := Lib.hid (by rw [hungTo_succ, ← HMM.out]; exact HF.out)
          clear HF
          go_wp2
          go_roundw
          case rel => exact ⟨k + 1, by omega, by go_num, FN, HX⟩
          case measure => simp [intOf]; omega
    · obtain rfl : k = r.l.length := by omega
      go_wp2
      go_ret
      exact ⟨_, rfl, HF.out, HX.out⟩

end Go.Proofs.YtcpmfcigciknlaaGreat

namespace Go.Proofs.YtcpmfcigciknlaaGreat
open Go.RowKit Go.Maps
set_option linter.unusedVariables false

/-- A set of settled instances that hang on none but each other. -/
def ClosedC (n : Int) (T : List (List RowD)) (C : Nat × Nat → Prop) : Prop := (∀ x, C x → instCom T x.1 x.2 = true) ∧ ∀ x, C x → ∀ y ∈ hungL (rowOf n T x.1 x.2), C y
def readyP (n : Int) (T : List (List RowD)) (x : Nat × Nat) : Prop := ∃ C : Nat × Nat → Prop, ClosedC n T C ∧ C x
noncomputable def readyB (n : Int) (T : List (List RowD)) (p q : Nat) : Bool := @decide (readyP n T (p, q)) (Classical.propDecidable _)
theorem readyB_iff {n : Int} {T : List (List RowD)} {p q : Nat} : readyB n T p q = true ↔ readyP n T (p, q) := by
  unfold readyB
  exact @decide_eq_true_iff _ (Classical.propDecidable _)
/-- Between all that is settled and all that can be done. -/
structure Betw (n : Int) (T : List (List RowD)) (S : Nat → Nat → Bool) : Prop where
  com : ∀ p q, S p q = true → instCom T p q = true
  all : ∀ C, ClosedC n T C → ∀ x : Nat × Nat, C x → S x.1 x.2 = true
theorem Betw.start (n : Int) (T : List (List RowD)) : Betw n T (instCom T) := ⟨fun _ _ h => h, fun C hc x hx => hc.1 x hx⟩
def AllHere (n : Int) (T : List (List RowD)) (S : Nat → Nat → Bool) (p q : Nat) : Prop := (hungL (rowOf n T p q)).all (fun x => S x.1 x.2) = true
theorem Betw.drop {n : Int} {T : List (List RowD)} {S : Nat → Nat → Bool} (h : Betw n T S) {p q : Nat} (hn : ¬ AllHere n T S p q) : Betw n T (fun p' q' => S p' q' && !(decide (p' = p) && decide (q' = q))) := by
  refine ⟨fun p' q' hs => h.com p' q' (by simp at hs; exact hs.1), fun C hc x hx => ?_⟩
  have hs := h.all C hc x hx
  by_cases e : x.1 = p ∧ x.2 = q
  · exfalso
    refine hn ?_
    unfold AllHere
    rw [List.all_eq_true]
    intro y hy
    have ex : x = (p, q) := Prod.ext e.1 e.2
    subst ex
    exact h.all C hc y (hc.2 _ hx y hy)
  · have : (decide (x.1 = p) && decide (x.2 = q)) = false := by simpa using e
    rw [hs, this]
    rfl
theorem Betw.done {n : Int} {T : List (List RowD)} {S : Nat → Nat → Bool} (h : Betw n T S) (hc : ∀ p q, S p q = true → AllHere n T S p q) (p q : Nat) : readyB n T p q = S p q := by
  rw [Bool.eq_iff_iff, readyB_iff]
  constructor
  · rintro ⟨C, hC, hx⟩
    exact h.all C hC _ hx
  · intro hs
    refine ⟨fun x => S x.1 x.2 = true, ⟨fun x hx => h.com _ _ hx, fun x hx y hy => ?_⟩, hs⟩
    have := hc _ _ hx
    unfold AllHere at this
    exact List.all_eq_true.1 this y hy
end Go.Proofs.YtcpmfcigciknlaaGreat
