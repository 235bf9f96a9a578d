/- Texts of this proof, part f: words, plain facts, contracts. -/
import Derived.Test.YthnoeknalpnadaaMAttrForc
import Derived.Test.YthnoeknalpnadaaMAttrFora
import Derived.Test.YthnoeknalpnadaaMAttrForb
import Derived.Test.YthnoeknalpnadaaMAttrFore

namespace Go.Proofs.Ythnoeknalpnadaa
open Go.RowKit

/-- How many from the front are less. -/
def ahead (l : List Int) (n : Int) : Nat := (l.takeWhile fun x => decide (x < n)).length
def putI (l : List Int) (n : Int) : List Int := if l[ahead l n]? = some n then l else l.take (ahead l n) ++ [n] ++ l.drop (ahead l n)
theorem ahead_stop {l : List Int} {n : Int} {k : Nat} (hk : k < l.length) (ha : ∀ x ∈ l.take k, x < n) (hs : ¬ l[k] < n) : ahead l n = k := by
  induction l generalizing k with
  | nil => simp at hk
  | cons y l ih =>
    cases k with
    | zero => simp at hs; simp [ahead, List.takeWhile_cons]; omega
    | succ k =>
      have hy : y < n := ha y (by simp)
      have := ih (k := k) (by simpa using hk) (fun x hx => ha x (by simp [hx])) (by simpa using hs)
      unfold ahead at this ⊢
      rw [List.takeWhile_cons, if_pos (by simpa using hy), List.length_cons, this]
theorem ahead_all {l : List Int} {n : Int} (ha : ∀ x ∈ l, x < n) : ahead l n = l.length := by
  unfold ahead
  induction l with
  | nil => rfl
  | cons y l ih => rw [List.takeWhile_cons, if_pos (by simpa using ha y (by simp)), List.length_cons, ih (fun x hx => ha x (by simp [hx])), List.length_cons]

def PutR (v : Value) (l : List Int) (n : Int) (w : World) (e : Ending) (w' : World) : Prop :=
  ∃ v', e = .returned v' ∧ Ext w w' ∧ ((v' = v ∧ putI l n = l) ∨ Fresh w.heap.size w' v' (putI l n))

theorem Ints.behind {w : World} {cap : Nat} {l : List Int} {b off : Nat} (h : Ints w (.slice (some ⟨b, off, none⟩) l.length cap) l) (k : Nat) (hk : k ≤ l.length) : Ints w (.slice (some ⟨b, off + k, none⟩) (l.length - k) (cap - k)) (l.drop k) := by
  obtain ⟨ao', cap', he, hm, hcap, hc⟩ := h
  simp only [Value.slice.injEq] at he
  obtain ⟨rfl, _, rfl⟩ := he
  have e : (l.drop k).length = l.length - k := by simp
  refine ⟨some ⟨b, off + k, none⟩, cap - k, by rw [e], by omega, ⟨by have := hcap.1; omega, by have := hcap.2.1; omega, fun h => by cases h⟩, fun hp => ?_⟩
  obtain ⟨b', off', ha, hj⟩ := hc (by omega)
  cases ha
  refine ⟨b, off + k, rfl, fun j hjl => ?_⟩
  rw [Nat.add_assoc, hj (k + j) (by omega), List.getElem?_drop]
theorem Ints.none_of {w : World} {ao : Option Addr} {cap : Nat} (hc : cap ≤ maxLen) (h : ao = none → cap = 0) : Ints w (.slice ao 0 cap) [] :=
  ⟨ao, cap, rfl, by simp, ⟨by simp, hc, h⟩, fun h => by simp at h⟩

/-- The two ends of a cut. -/
theorem Ints.upto {w : World} {ao : Option Addr} {cap : Nat} {l : List Int} (h : Ints w (.slice ao l.length cap) l) (k : Nat) (hk : k ≤ l.length) : Ints w (.slice ao k cap) (l.take k) := by
  obtain ⟨ao', cap', he, hm, hcap, hc⟩ := h
  simp only [Value.slice.injEq] at he
  obtain ⟨rfl, _, rfl⟩ := he
  have e : (l.take k).length = k := by first | omega | (simp; omega)
  refine ⟨ao, cap, by rw [e], by omega, ⟨by omega, hcap.2⟩, fun hp => ?_⟩
  obtain ⟨b, off, ha, hj⟩ := hc (by omega)
  refine ⟨b, off, ha, fun j hjl => ?_⟩
  rw [hj j (by omega), List.getElem?_take, if_pos (by omega)]

set_option maxHeartbeats 1000000 in
theorem l1Put_any (v : Value) (l : List Int) (n : Int) (w : World) (hv : Ints w v l) (hl : l.length ≤ 1048576) :
    Calls Try.prog 176 #[v, .int .i64 n] w (PutR v l n w) := by
  have hv0 := hv
  obtain ⟨av, cv, rfl, hlv, hcap, hcv⟩ := hv
  have hcap1 := hcap.1
  have hcap2 := hcap.2.1
  unfold maxLen at hlv hcap2
  go_enter Try.func176, Try.ntmps176
  go_wp2
  go_loop [5] (fun i => ∃ k : Nat, k ≤ l.length ∧ i = .int .i64 k ∧ (∀ x ∈ l.take k, x < n)) (fun i => l.length - (intOf i).toNat)
  case atStart => exact ⟨0, Nat.zero_le _, rfl, by simp⟩
  case round =>
    obtain ⟨k, hk, rfl, ha⟩ := hrel
    have HA := Lib.hid ha
    clear ha
    by_cases hlt : k < l.length
    · obtain ⟨bv, ov, rfl, dv⟩ := hcv (by omega)
      have gv := dv k hlt
      have HC := Lib.hid hcap
      clear hcv dv hcap
      by_cases hx : l[k] < n
      · go_wp2
        go_round
        case rel => exact ⟨k + 1, by omega, by go_num, by
          intro x hxm
          rw [List.take_add_one, List.getElem?_eq_getElem hlt] at hxm
          rcases List.mem_append.1 hxm with h | h
          · exact HA.out x h
          · simp at h; omega⟩
        case measure => simp [intOf]; omega
      · have HX : ahead l n = k := ahead_stop hlt HA.out hx
        have HK := Lib.hid HX
        clear HX
        by_cases he : l[k] = n
        · have e1 : (l[k] == n) = true := by simp [he]
          have HE := Lib.hid he
          clear he
          go_wp2
          go_ret
          refine ⟨_, rfl, Ext.refl _, .inl ⟨rfl, ?_⟩⟩
          unfold putI
          rw [HK.out, List.getElem?_eq_getElem hlt, HE.out, if_pos rfl]
        · have e1 : (l[k] == n) = false := by simp [he]
          have HE := Lib.hid he
          clear he
          have hp : putI l n = l.take k ++ [n] ++ l.drop k := by
            unfold putI
            rw [HK.out, if_neg (by rw [List.getElem?_eq_getElem hlt]; intro h; exact HE.out (by simpa using h))]
          have HP := Lib.hid hp
          clear hp
          have hb1 : ([] : List Int).length + (l.take k).length ≤ 1099511627776 := by first | omega | (simp; omega)
          have hb2 : (l.take k).length ≤ 1099511627776 := by first | omega | (simp; omega)
          have hb3 : (l.take k ++ [n]).length + (l.drop k).length ≤ 1099511627776 := by first | omega | (simp; omega)
          have HB := Lib.hid (And.intro hb1 (And.intro hb2 hb3))
          clear hb1 hb2 hb3
          go_wp2_with (at_builtin; refine wpList_join rfl _ _ rfl w.heap.size _ _ [] (l.take k) rfl (fresh_lit w [] #[] _ rfl (Nat.le_refl _) (Nat.zero_le _)) rfl ((hv0.upto k hk).ext (Ext.alloc (Ext.refl _) _)) HB.out.1 (size_alloc_le (Nat.le_refl _)) ?_)
          intro v1 w1 f1 g1 k1
          have e1' : Ext w w1 := k1 w (Ext.alloc (Ext.refl _) _) (Nat.le_refl _)
          go_wp2_with (at_builtin; refine wpList_push rfl _ _ rfl w.heap.size _ (l.take k) n rfl (f1.ext (Ext.alloc (Ext.refl _) _)) ⟨w1.heap.size, 0, none⟩ 1 rfl (cell_alloc_one _ _ _) HB.out.2.1 (size_alloc_le e1'.size) ?_)
          intro v2 w2 f2 g2 k2
          have e2' : Ext w w2 := k2 w (e1'.alloc _) (Nat.le_refl _)
          go_wp2_with (at_builtin; refine wpList_join rfl _ _ rfl w.heap.size _ _ (l.take k ++ [n]) (l.drop k) rfl f2 rfl ((hv0.behind k hk).ext e2') HB.out.2.2 e2'.size ?_)
          intro v3 w3 f3 g3 k3
          have e3' : Ext w w3 := k3 w e2' (Nat.le_refl _)
          clear f1 f2 g1 g2 g3 k1 k2 k3 e1' e2'
          go_wp2
          go_ret
          exact ⟨_, rfl, e3', .inr (by rw [HP.out]; simpa using f3)⟩
    · obtain rfl : k = l.length := by omega
      have hp : putI l n = l ++ [n] := by
        have hh := HA.out
        rw [List.take_length] at hh
        unfold putI
        rw [ahead_all hh, List.getElem?_eq_none (Nat.le_refl _), if_neg (by simp), List.take_length, List.drop_length, List.append_nil]
      have HP := Lib.hid hp
      have HC := Lib.hid hcap
      clear hp hcap
      cases av with
      | none =>
        obtain rfl : cv = 0 := HC.out.2.2 rfl
        obtain rfl : l = [] := List.eq_nil_of_length_eq_zero (by omega)
        have hb1 : ([] : List Int).length + (([] : List Int)).length ≤ 1099511627776 := by simp
        have hb2 : (([] : List Int)).length ≤ 1099511627776 := by simp
        have hb3 : (([] : List Int) ++ [n]).length + (([] : List Int)).length ≤ 1099511627776 := by simp
        have HB := Lib.hid (And.intro hb1 (And.intro hb2 hb3))
        clear hb1 hb2 hb3
        go_wp2_with (at_builtin; refine wpList_join rfl _ _ rfl w.heap.size _ _ [] (([] : List Int)) rfl (fresh_lit w [] #[] _ rfl (Nat.le_refl _) (Nat.zero_le _)) rfl (Ints.nil _) HB.out.1 (size_alloc_le (Nat.le_refl _)) ?_)
        intro v1 w1 f1 g1 k1
        have e1' : Ext w w1 := k1 w (Ext.alloc (Ext.refl _) _) (Nat.le_refl _)
        go_wp2_with (at_builtin; refine wpList_push rfl _ _ rfl w.heap.size _ (([] : List Int)) n rfl (f1.ext (Ext.alloc (Ext.refl _) _)) ⟨w1.heap.size, 0, none⟩ 1 rfl (cell_alloc_one _ _ _) HB.out.2.1 (size_alloc_le e1'.size) ?_)
        intro v2 w2 f2 g2 k2
        have e2' : Ext w w2 := k2 w (e1'.alloc _) (Nat.le_refl _)
        go_wp2_with (at_builtin; refine wpList_join rfl _ _ rfl w.heap.size _ _ (([] : List Int) ++ [n]) (([] : List Int)) rfl f2 rfl (Ints.nil _) HB.out.2.2 e2'.size ?_)
        intro v3 w3 f3 g3 k3
        have e3' : Ext w w3 := k3 w e2' (Nat.le_refl _)
        clear f1 f2 g1 g2 g3 k1 k2 k3 e1' e2'
        go_wp2
        go_ret
        exact ⟨_, rfl, e3', .inr (by rw [HP.out]; simpa using f3)⟩
      | some ad =>
        by_cases hl0 : l.length = 0
        · obtain rfl : l = [] := List.eq_nil_of_length_eq_zero hl0
          have hs0 : ∀ W, Ints W (.slice (some ad) 0 cv) [] := fun W => Ints.none_of (by unfold maxLen; omega) (fun h => by cases h)
          have HS := Lib.hid hs0
          clear hs0 hl0
          have hb1 : ([] : List Int).length + (([] : List Int)).length ≤ 1099511627776 := by simp
          have hb2 : (([] : List Int)).length ≤ 1099511627776 := by simp
          have hb3 : (([] : List Int) ++ [n]).length + (([] : List Int)).length ≤ 1099511627776 := by simp
          have HB := Lib.hid (And.intro hb1 (And.intro hb2 hb3))
          clear hb1 hb2 hb3
          go_wp2_with (at_builtin; refine wpList_join rfl _ _ rfl w.heap.size _ _ [] (([] : List Int)) rfl (fresh_lit w [] #[] _ rfl (Nat.le_refl _) (Nat.zero_le _)) rfl (HS.out _) HB.out.1 (size_alloc_le (Nat.le_refl _)) ?_)
          intro v1 w1 f1 g1 k1
          have e1' : Ext w w1 := k1 w (Ext.alloc (Ext.refl _) _) (Nat.le_refl _)
          go_wp2_with (at_builtin; refine wpList_push rfl _ _ rfl w.heap.size _ (([] : List Int)) n rfl (f1.ext (Ext.alloc (Ext.refl _) _)) ⟨w1.heap.size, 0, none⟩ 1 rfl (cell_alloc_one _ _ _) HB.out.2.1 (size_alloc_le e1'.size) ?_)
          intro v2 w2 f2 g2 k2
          have e2' : Ext w w2 := k2 w (e1'.alloc _) (Nat.le_refl _)
          go_wp2_with (at_builtin; refine wpList_join rfl _ _ rfl w.heap.size _ _ (([] : List Int) ++ [n]) (([] : List Int)) rfl f2 rfl (HS.out _) HB.out.2.2 e2'.size ?_)
          intro v3 w3 f3 g3 k3
          have e3' : Ext w w3 := k3 w e2' (Nat.le_refl _)
          clear f1 f2 g1 g2 g3 k1 k2 k3 e1' e2'
          go_wp2
          go_ret
          exact ⟨_, rfl, e3', .inr (by rw [HP.out]; simpa using f3)⟩
        · obtain ⟨bv, ov, had, _⟩ := hcv (by omega)
          cases had
          clear hcv
          have hs1 : ∀ W, Ext w W → Ints W (.slice (some ⟨bv, ov, none⟩) l.length cv) l := fun W h => hv0.ext h
          by_cases hcl : cv = l.length
          · subst hcl
            have hs3 : ∀ W, Ints W (.slice (some ⟨bv, ov, none⟩) 0 0) [] := fun W => Ints.none_of (by simp) (fun _ => rfl)
            have HS := Lib.hid (And.intro hs1 hs3)
            clear hs1 hs3
            have hb1 : ([] : List Int).length + (l).length ≤ 1099511627776 := by first | omega | (simp; omega)
            have hb2 : (l).length ≤ 1099511627776 := by first | omega | (simp; omega)
            have hb3 : (l ++ [n]).length + (([] : List Int)).length ≤ 1099511627776 := by first | omega | (simp; omega)
            have HB := Lib.hid (And.intro hb1 (And.intro hb2 hb3))
            clear hb1 hb2 hb3
            go_wp2_with (at_builtin; refine wpList_join rfl _ _ rfl w.heap.size _ _ [] (l) rfl (fresh_lit w [] #[] _ rfl (Nat.le_refl _) (Nat.zero_le _)) rfl (HS.out.1 _ (Ext.alloc (Ext.refl _) _)) HB.out.1 (size_alloc_le (Nat.le_refl _)) ?_)
            intro v1 w1 f1 g1 k1
            have e1' : Ext w w1 := k1 w (Ext.alloc (Ext.refl _) _) (Nat.le_refl _)
            go_wp2_with (at_builtin; refine wpList_push rfl _ _ rfl w.heap.size _ (l) n rfl (f1.ext (Ext.alloc (Ext.refl _) _)) ⟨w1.heap.size, 0, none⟩ 1 rfl (cell_alloc_one _ _ _) HB.out.2.1 (size_alloc_le e1'.size) ?_)
            intro v2 w2 f2 g2 k2
            have e2' : Ext w w2 := k2 w (e1'.alloc _) (Nat.le_refl _)
            go_wp2_with (at_builtin; refine wpList_join rfl _ _ rfl w.heap.size _ _ (l ++ [n]) (([] : List Int)) rfl f2 rfl (HS.out.2 _) HB.out.2.2 e2'.size ?_)
            intro v3 w3 f3 g3 k3
            have e3' : Ext w w3 := k3 w e2' (Nat.le_refl _)
            clear f1 f2 g1 g2 g3 k1 k2 k3 e1' e2'
            go_wp2
            go_ret
            exact ⟨_, rfl, e3', .inr (by rw [HP.out]; simpa using f3)⟩
          · have hs3 : ∀ W, Ints W (.slice (some ⟨bv, ov + l.length, none⟩) 0 (cv - l.length)) [] := fun W => Ints.none_of (by unfold maxLen; omega) (fun h => by cases h)
            have HS := Lib.hid (And.intro hs1 hs3)
            clear hs1 hs3
            have hb1 : ([] : List Int).length + (l).length ≤ 1099511627776 := by first | omega | (simp; omega)
            have hb2 : (l).length ≤ 1099511627776 := by first | omega | (simp; omega)
            have hb3 : (l ++ [n]).length + (([] : List Int)).length ≤ 1099511627776 := by first | omega | (simp; omega)
            have HB := Lib.hid (And.intro hb1 (And.intro hb2 hb3))
            clear hb1 hb2 hb3
            go_wp2_with (at_builtin; refine wpList_join rfl _ _ rfl w.heap.size _ _ [] (l) rfl (fresh_lit w [] #[] _ rfl (Nat.le_refl _) (Nat.zero_le _)) rfl (HS.out.1 _ (Ext.alloc (Ext.refl _) _)) HB.out.1 (size_alloc_le (Nat.le_refl _)) ?_)
            intro v1 w1 f1 g1 k1
            have e1' : Ext w w1 := k1 w (Ext.alloc (Ext.refl _) _) (Nat.le_refl _)
            go_wp2_with (at_builtin; refine wpList_push rfl _ _ rfl w.heap.size _ (l) n rfl (f1.ext (Ext.alloc (Ext.refl _) _)) ⟨w1.heap.size, 0, none⟩ 1 rfl (cell_alloc_one _ _ _) HB.out.2.1 (size_alloc_le e1'.size) ?_)
            intro v2 w2 f2 g2 k2
            have e2' : Ext w w2 := k2 w (e1'.alloc _) (Nat.le_refl _)
            go_wp2_with (at_builtin; refine wpList_join rfl _ _ rfl w.heap.size _ _ (l ++ [n]) (([] : List Int)) rfl f2 rfl (HS.out.2 _) HB.out.2.2 e2'.size ?_)
            intro v3 w3 f3 g3 k3
            have e3' : Ext w w3 := k3 w e2' (Nat.le_refl _)
            clear f1 f2 g1 g2 g3 k1 k2 k3 e1' e2'
            go_wp2
            go_ret
            exact ⟨_, rfl, e3', .inr (by rw [HP.out]; simpa using f3)⟩

end Go.Proofs.Ythnoeknalpnadaa

namespace Go.Proofs.Ythnoeknalpnadaa
open Go.RowKit

set_option maxHeartbeats 400000 in
theorem l1Has_any (v : Value) (l : List Int) (n : Int) (w : World) (hv : Ints w v l) :
    Calls Try.prog 128 #[v, .int .i64 n] w (BoolExt (hasI l n) w) := by
  obtain ⟨av, cv, rfl, hlv, _, hcv⟩ := hv
  unfold maxLen at hlv
  go_enter Try.func128, Try.ntmps128
  go_wp2
  go_loopw [6, 9] (fun _ i wr => ∃ k : Nat, k ≤ l.length ∧ i = .int .i64 k ∧ (l.take k).any (fun x => x == n) = false ∧ Ext w wr) (fun _ i _ => l.length - (intOf i).toNat)
  case atStart => exact ⟨0, Nat.zero_le _, rfl, by simp, Ext.refl _⟩
  case round =>
    obtain ⟨k, hk, rfl, ht, hx⟩ := hrel
    have HT := Lib.hid ht
    clear ht
    by_cases hlt : k < l.length
    · obtain ⟨bv, ov, rfl, dv⟩ := hcv (by omega)
      have gv := hx.cell (dv k hlt)
      clear hcv dv
      cases hp : (l[k] == n) with
      | true =>
        go_wp2
        go_ret
        refine ⟨?_, hx⟩
        have hf : hasI l n = true := any_true_at hlt _ (by rw [List.getElem?_eq_getElem hlt]; exact hp)
        rw [hf]; rfl
      | false =>
        go_wp2
        go_roundw
        case rel => exact ⟨k + 1, by omega, by go_num, any_take_succ hlt _ HT.out (by rw [List.getElem?_eq_getElem hlt]; exact hp), hx⟩
        case measure => simp [intOf]; omega
    · obtain rfl : k = l.length := by omega
      go_wp2
      go_ret
      refine ⟨?_, hx⟩
      have hf : hasI l n = false := by have h := HT.out; rwa [List.take_length] at h
      rw [hf]; rfl

end Go.Proofs.Ythnoeknalpnadaa

namespace Go.Proofs.Ythnoeknalpnadaa
open Go.RowKit
set_option linter.unusedVariables false

/-- The accounts that a command touches. -/
def touchesL (k f t : Int) : List Int := if k == 1 then putI [f] t else if k == 2 then [f] else []
theorem touchesL_1 (f t : Int) : touchesL 1 f t = putI [f] t := rfl
theorem touchesL_2 (f t : Int) : touchesL 2 f t = [f] := rfl
theorem touchesL_else {k : Int} (f t : Int) (h1 : (k == 1) = false) (h2 : (k == 2) = false) : touchesL k f t = [] := by simp [touchesL, h1, h2]

set_option maxHeartbeats 1000000 in
theorem l2Touches_any (k i f t a : Int) (w : World) :
    Calls Try.prog 163 #[.agg #[.int .i64 k, .int .i64 i, .int .i64 f, .int .i64 t, .int .i64 a]] w (NewInts (touchesL k f t) w) := by
  by_cases h1 : k = 1
  · subst h1
    rw [touchesL_1]
    have f0 := fresh_lit2 w (.cells #[.int .i64 1, .int .i64 i, .int .i64 f, .int .i64 t, .int .i64 a] 36) [f] 1 #[.int .i64 f] rfl rfl (by simp)
    go_enter Try.func163, Try.ntmps163
    go_wp2_with fail
    refine (l1Put_any _ _ _ _ f0.ints (by simp)).mono ?_
    rintro e w1 ⟨v', rfl, x1, hor⟩
    have hr : Fresh w.heap.size w1 v' (putI [f] t) := by
      rcases hor with ⟨rfl, hp⟩ | hf
      · rw [hp]; exact f0.ext x1
      · exact hf.more (size_alloc_le (size_alloc_le (Nat.le_refl _)))
    have hx : Ext w w1 := ((Ext.alloc (Ext.refl _) _).alloc _).trans x1
    clear f0 x1 hor
    go_wp2
    go_ret
    exact ⟨_, rfl, hr, hx⟩
  · have e1 : (k == 1) = false := by simp [h1]
    by_cases h2 : k = 2
    · subst h2
      rw [touchesL_2]
      go_enter Try.func163, Try.ntmps163
      go_wp2
      go_ret
      refine ⟨_, rfl, ?_, Ext.alloc (Ext.alloc (Ext.refl _) _) _⟩
      exact fresh_lit2 w _ [f] 1 #[.int .i64 f] rfl rfl (by simp)
    · have e2 : (k == 2) = false := by simp [h2]
      rw [touchesL_else f t e1 e2]
      go_enter Try.func163, Try.ntmps163
      go_wp2
      go_ret
      exact ⟨_, rfl, fresh_nil _ _, Ext.alloc (Ext.refl _) _⟩

/-- Whether a command touches the account j. -/
def touchB (k f t j : Int) : Bool := if k == 1 then t == j || f == j else if k == 2 then f == j else false

/-- The four marks of touchedBy. -/
def FourB (k f t : Int) (w : World) (e : Ending) (w' : World) : Prop :=
  e = .returned (.agg #[.bool (touchB k f t 0), .bool (touchB k f t 1), .bool (touchB k f t 2), .bool (touchB k f t 3)]) ∧ Ext w w'

set_option maxHeartbeats 4000000 in
theorem touchedBy_move (i f t a : Int) (w : World) (hf : 0 ≤ f ∧ f ≤ 3) (ht : 0 ≤ t ∧ t ≤ 3) :
    Calls Try.prog 169 #[.agg #[.int .i64 1, .int .i64 i, .int .i64 f, .int .i64 t, .int .i64 a]] w (FourB 1 f t w) := by
  have hf' : f = 0 ∨ f = 1 ∨ f = 2 ∨ f = 3 := by omega
  have ht' : t = 0 ∨ t = 1 ∨ t = 2 ∨ t = 3 := by omega
  clear hf ht
  rcases hf' with rfl | rfl | rfl | rfl
  all_goals
    rcases ht' with rfl | rfl | rfl | rfl
    all_goals
      go_enter Try.func169, Try.ntmps169
      go_wp2
      exact bodyPost_ret (v := .agg #[.bool (touchB 1 _ _ 0), .bool (touchB 1 _ _ 1), .bool (touchB 1 _ _ 2), .bool (touchB 1 _ _ 3)]) (by simp [results, Try.results169, go_sem, touchB]) rfl ⟨rfl, by repeat (first | exact Ext.refl _ | apply Ext.drew | apply Ext.alloc)⟩

set_option maxHeartbeats 2000000 in
theorem touchedBy_read (i f t a : Int) (w : World) (hf : 0 ≤ f ∧ f ≤ 3) :
    Calls Try.prog 169 #[.agg #[.int .i64 2, .int .i64 i, .int .i64 f, .int .i64 t, .int .i64 a]] w (FourB 2 f t w) := by
  have hf' : f = 0 ∨ f = 1 ∨ f = 2 ∨ f = 3 := by omega
  clear hf
  rcases hf' with rfl | rfl | rfl | rfl
  all_goals
    go_enter Try.func169, Try.ntmps169
    go_wp2
    exact bodyPost_ret (v := .agg #[.bool (touchB 2 _ t 0), .bool (touchB 2 _ t 1), .bool (touchB 2 _ t 2), .bool (touchB 2 _ t 3)]) (by simp [results, Try.results169, go_sem, touchB]) rfl ⟨rfl, by repeat (first | exact Ext.refl _ | apply Ext.drew | apply Ext.alloc)⟩

set_option maxHeartbeats 1000000 in
theorem touchedBy_none (k i f t a : Int) (w : World) (h1 : (k == 1) = false) (h2 : (k == 2) = false) :
    Calls Try.prog 169 #[.agg #[.int .i64 k, .int .i64 i, .int .i64 f, .int .i64 t, .int .i64 a]] w (FourB k f t w) := by
  have hb : ∀ j, touchB k f t j = false := fun j => by simp [touchB, h1, h2]
  have HB := Lib.hid hb
  clear hb
  go_enter Try.func169, Try.ntmps169
  go_wp2
  exact bodyPost_ret (v := .agg #[.bool (touchB k f t 0), .bool (touchB k f t 1), .bool (touchB k f t 2), .bool (touchB k f t 3)]) (by simp [results, Try.results169, go_sem, HB.out]) rfl ⟨rfl, by repeat (first | exact Ext.refl _ | apply Ext.drew | apply Ext.alloc)⟩

theorem codeM_good {i f t a : Int} (h : (codeM i f t a == 0) = true) : (0 ≤ f ∧ f ≤ 3) ∧ (0 ≤ t ∧ t ≤ 3) ∧ f ≠ t ∧ inB i 1 999 = true ∧ inB a 1 1000 = true := by
  unfold codeM at h
  cases h1 : acctB f <;> simp [h1] at h
  cases h2 : acctB t <;> simp [h2] at h
  by_cases h3 : f = t
  · simp [h3] at h
  · simp [h3] at h
    cases h4 : inB i 1 999 <;> simp [h4] at h
    cases h5 : inB a 1 1000 <;> simp [h5] at h
    exact ⟨acctB_yes h1, acctB_yes h2, h3, rfl, rfl⟩
theorem codeR_good {i f : Int} (h : (codeR i f == 0) = true) : (0 ≤ f ∧ f ≤ 3) ∧ inB i 1 999 = true := by
  unfold codeR at h
  cases h1 : acctB f <;> simp [h1] at h
  cases h4 : inB i 1 999 <;> simp [h4] at h
  exact ⟨acctB_yes h1, rfl⟩
/-- What a good command is. -/
theorem goodB_cases {k i f t a : Int} (h : goodB k i f t a = true) : (k = 0 ∧ i = 0 ∧ f = 0 ∧ t = 0 ∧ a = 0) ∨ (k = 1 ∧ (codeM i f t a == 0) = true) ∨ (k = 2 ∧ (codeR i f == 0) = true ∧ t = 0 ∧ a = 0) := by
  by_cases h0 : k = 0
  · subst h0; rw [goodB_0] at h; simp [zeroB] at h; exact .inl ⟨rfl, h.1, h.2.1, h.2.2.1, h.2.2.2⟩
  · by_cases h1 : k = 1
    · subst h1; rw [goodB_1] at h; exact .inr (.inl ⟨rfl, h⟩)
    · by_cases h2 : k = 2
      · subst h2; rw [goodB_2] at h; simp at h; exact .inr (.inr ⟨rfl, by simp [h.1.1], h.1.2, h.2⟩)
      · rw [goodB_else _ _ _ _ (by simp [h0]) (by simp [h1]) (by simp [h2])] at h; cases h

theorem touchedBy_any (k i f t a : Int) (w : World) (hg : goodB k i f t a = true) :
    Calls Try.prog 169 #[.agg #[.int .i64 k, .int .i64 i, .int .i64 f, .int .i64 t, .int .i64 a]] w (FourB k f t w) := by
  rcases goodB_cases hg with ⟨rfl, rfl, rfl, rfl, rfl⟩ | ⟨rfl, hc⟩ | ⟨rfl, hc, rfl, rfl⟩
  · exact touchedBy_none 0 0 0 0 0 w rfl rfl
  · exact touchedBy_move i f t a w (codeM_good hc).1 (codeM_good hc).2.1
  · exact touchedBy_read i f 0 0 w (codeR_good hc).1

/-- The accounts below n that are touched. -/
def touchedTo (k f t : Int) (n : Nat) : List Int := ((List.range n).filter fun (j : Nat) => touchB k f t (j : Int)).map fun (j : Nat) => (j : Int)
theorem touchedTo_hit {k f t : Int} {n : Nat} (h : touchB k f t (n : Int) = true) : touchedTo k f t (n + 1) = touchedTo k f t n ++ [(n : Int)] := by
  simp [touchedTo, List.range_succ, List.filter_append, h]
theorem touchedTo_miss {k f t : Int} {n : Nat} (h : touchB k f t (n : Int) = false) : touchedTo k f t (n + 1) = touchedTo k f t n := by
  simp [touchedTo, List.range_succ, List.filter_append, h]
theorem touchedTo_len (k f t : Int) (n : Nat) : (touchedTo k f t n).length ≤ n := by
  unfold touchedTo
  rw [List.length_map]
  exact Nat.le_trans (List.length_filter_le _ _) (by simp)
theorem touchedTo_all {k i f t a : Int} (hg : goodB k i f t a = true) : touchedTo k f t 4 = touchesL k f t := by
  rcases goodB_cases hg with ⟨rfl, rfl, rfl, rfl, rfl⟩ | ⟨rfl, hc⟩ | ⟨rfl, hc, rfl, rfl⟩
  · decide
  · obtain ⟨hf, ht, hne, _, _⟩ := codeM_good hc
    have hf' : f = 0 ∨ f = 1 ∨ f = 2 ∨ f = 3 := by omega
    have ht' : t = 0 ∨ t = 1 ∨ t = 2 ∨ t = 3 := by omega
    clear hf ht hc hg
    rcases hf' with rfl | rfl | rfl | rfl <;> rcases ht' with rfl | rfl | rfl | rfl <;> first | (exact absurd rfl hne) | decide
  · have hf := (codeR_good hc).1
    have hf' : f = 0 ∨ f = 1 ∨ f = 2 ∨ f = 3 := by omega
    clear hf hc hg
    rcases hf' with rfl | rfl | rfl | rfl <;> decide

end Go.Proofs.Ythnoeknalpnadaa

namespace Go.Proofs.Ythnoeknalpnadaa
open Go.RowKit
set_option linter.unusedVariables false

def touchesOf (k i f t a : Int) : List Int := if goodB k i f t a then touchesL k f t else []
theorem touchesOf_good {k i f t a : Int} (h : goodB k i f t a = true) : touchesOf k i f t a = touchesL k f t := by unfold touchesOf; rw [h]; rfl
theorem touchesOf_bad {k i f t a : Int} (h : goodB k i f t a = false) : touchesOf k i f t a = [] := by unfold touchesOf; rw [h]; rfl

theorem index4_0 (a b c d : Value) (W : World) : (Instr.index 196 (.agg #[a, b, c, d]) (.int .i64 0)).run Try.prog W = .ok a W := by kernel_rfl
theorem index4_1 (a b c d : Value) (W : World) : (Instr.index 196 (.agg #[a, b, c, d]) (.int .i64 1)).run Try.prog W = .ok b W := by kernel_rfl
theorem index4_2 (a b c d : Value) (W : World) : (Instr.index 196 (.agg #[a, b, c, d]) (.int .i64 2)).run Try.prog W = .ok c W := by kernel_rfl
theorem index4_3 (a b c d : Value) (W : World) : (Instr.index 196 (.agg #[a, b, c, d]) (.int .i64 3)).run Try.prog W = .ok d W := by kernel_rfl

end Go.Proofs.Ythnoeknalpnadaa

namespace Go.Proofs.Ythnoeknalpnadaa
open Go.RowKit
set_option linter.unusedVariables false

/-- Whether two commands touch some one account. -/
def interL (l r : List Int) : Bool := l.any fun x => hasI r x
def interB (k f t k' f' t' : Int) : Bool := interL (touchesL k f t) (touchesL k' f' t')

theorem putI_one_len (f t : Int) : (putI [f] t).length ≤ 2 := by
  unfold putI
  split
  · simp
  · simp; omega
theorem touchesL_len (k f t : Int) : (touchesL k f t).length ≤ 2 := by
  unfold touchesL
  split
  · exact putI_one_len f t
  · split <;> simp

set_option maxHeartbeats 2000000 in
theorem l2Interfere_any (k i f t a k' i' f' t' a' : Int) (w : World) :
    Calls Try.prog 114 #[.agg #[.int .i64 k, .int .i64 i, .int .i64 f, .int .i64 t, .int .i64 a], .agg #[.int .i64 k', .int .i64 i', .int .i64 f', .int .i64 t', .int .i64 a']] w (BoolExt (interB k f t k' f' t') w) := by
  have hlen := touchesL_len k f t
  unfold interB interL
  obtain ⟨l, hl⟩ : ∃ l, l = touchesL k f t := ⟨_, rfl⟩
  obtain ⟨r, hr⟩ : ∃ r, r = touchesL k' f' t' := ⟨_, rfl⟩
  rw [← hl] at hlen
  rw [← hl, ← hr]
  have HL := Lib.hid hl
  have HR := Lib.hid hr
  clear hl hr
  go_enter Try.func114, Try.ntmps114
  go_wp2_with fail
  refine (l2Touches_any _ _ _ _ _ _).mono ?_
  rintro e w1 ⟨v, rfl, f1, x1⟩
  rw [← HL.out] at f1
  have hb := (cmdAt_new2 w (.cells #[.int .i64 k, .int .i64 i, .int .i64 f, .int .i64 t, .int .i64 a] 36) 36 k' i' f' t' a').ext x1
  have HB := Lib.hid hb
  have hx : Ext w w1 := ((Ext.alloc (Ext.refl _) _).alloc _).trans x1
  clear x1 hb
  obtain ⟨av, cv, rfl, hlv, hcap, hcv⟩ := f1.ints
  have HC := Lib.hid hcap
  clear hcap f1 hlv
  go_wp2
  go_loopw [10] (fun j wr => ∃ n : Nat, n ≤ l.length ∧ j = .int .i64 n ∧ (l.take n).any (fun x => hasI r x) = false ∧ Ext w1 wr) (fun j _ => l.length - (intOf j).toNat)
  case atStart => exact ⟨0, by omega, rfl, by simp, Ext.refl _⟩
  case round =>
    obtain ⟨n, hn, rfl, ha, hx1⟩ := hrel
    have HA := Lib.hid ha
    clear ha
    by_cases hlt : n < l.length
    · obtain ⟨bv, ov, rfl, dv⟩ := hcv (by omega)
      have gv := hx1.cell (dv n hlt)
      clear hcv dv
      obtain ⟨c0, c1, c2, c3, c4⟩ := HB.out.ext hx1
      go_wp2_with fail
      refine (l2Touches_any _ _ _ _ _ _).mono ?_
      rintro e w2 ⟨u, rfl, f2, x2⟩
      rw [← HR.out] at f2
      go_wp2_with fail
      refine (l1Has_any _ _ _ _ f2.ints).mono ?_
      rintro e w3 ⟨rfl, x3⟩
      have hx3 : Ext w1 w3 := (hx1.trans x2).trans x3
      clear c0 c1 c2 c3 c4 f2 x2 x3 hx1
      cases hp : hasI r l[n] with
      | true =>
        have HP := Lib.hid hp
        go_wp2
        go_ret
        refine ⟨?_, hx.trans hx3⟩
        have hf : (l.any fun x => hasI r x) = true := any_true_at hlt _ (by rw [List.getElem?_eq_getElem hlt]; exact HP.out)
        rw [hf]; rfl
      | false =>
        have HP := Lib.hid hp
        go_wp2
        go_roundw
        case rel => exact ⟨n + 1, by omega, by go_num, any_take_succ hlt _ HA.out (by rw [List.getElem?_eq_getElem hlt]; exact HP.out), hx3⟩
        case measure => simp [intOf]; omega
    · obtain rfl : n = l.length := by omega
      go_wp2
      go_ret
      refine ⟨?_, hx.trans hx1⟩
      have hf : (l.any fun x => hasI r x) = false := by have h := HA.out; rwa [List.take_length] at h
      rw [hf]; rfl


end Go.Proofs.Ythnoeknalpnadaa

namespace Go.Proofs.Ythnoeknalpnadaa
open Go.RowKit
set_option linter.unusedVariables false

def bothTo (k f t k' f' t' : Int) (n : Nat) : Bool := (List.range n).any fun (j : Nat) => touchB k f t (j : Int) && touchB k' f' t' (j : Int)
theorem bothTo_succ (k f t k' f' t' : Int) (n : Nat) : bothTo k f t k' f' t' (n + 1) = (bothTo k f t k' f' t' n || (touchB k f t (n : Int) && touchB k' f' t' (n : Int))) := by
  simp [bothTo, List.range_succ]
theorem bothTo_all {k i f t a k' i' f' t' a' : Int} (hg : goodB k i f t a = true) (hg' : goodB k' i' f' t' a' = true) : interB k f t k' f' t' = bothTo k f t k' f' t' 4 := by
  unfold interB
  rw [← touchedTo_all hg, ← touchedTo_all hg']
  have r4 : List.range 4 = [0, 1, 2, 3] := rfl
  unfold touchedTo bothTo interL
  rw [r4]
  simp only [List.filter_cons, List.filter_nil, List.any_cons, List.any_nil]
  generalize touchB k f t ((0 : Nat) : Int) = a0
  generalize touchB k f t ((1 : Nat) : Int) = a1
  generalize touchB k f t ((2 : Nat) : Int) = a2
  generalize touchB k f t ((3 : Nat) : Int) = a3
  generalize touchB k' f' t' ((0 : Nat) : Int) = b0
  generalize touchB k' f' t' ((1 : Nat) : Int) = b1
  generalize touchB k' f' t' ((2 : Nat) : Int) = b2
  generalize touchB k' f' t' ((3 : Nat) : Int) = b3
  revert a0 a1 a2 a3 b0 b1 b2 b3
  decide

set_option maxHeartbeats 2000000 in
theorem implInterfere_good (k i f t a k' i' f' t' a' : Int) (w : World) (hg : goodB k i f t a = true) (hg' : goodB k' i' f' t' a' = true) :
    Calls Try.prog 126 #[.agg #[.int .i64 k, .int .i64 i, .int .i64 f, .int .i64 t, .int .i64 a], .agg #[.int .i64 k', .int .i64 i', .int .i64 f', .int .i64 t', .int .i64 a']] w (TwoB (bothTo k f t k' f' t' 4) true w) := by
  have HG := Lib.hid hg
  have HG' := Lib.hid hg'
  clear hg hg'
  go_enter Try.func126, Try.ntmps126
  go_wp2_with fail
  refine (implGood_any _ _ _ _ _ _).mono ?_
  rintro e w1 ⟨rfl, x1⟩
  rw [HG.out]
  obtain ⟨c0, c1, c2, c3, c4⟩ := (cmdAt_new2 w (.cells #[.int .i64 k, .int .i64 i, .int .i64 f, .int .i64 t, .int .i64 a] 36) 36 k' i' f' t' a').ext x1
  obtain ⟨d0, d1, d2, d3, d4⟩ := (((cmdAt_new w 36 k i f t a).ext (Ext.alloc (Ext.refl _) (.cells #[.int .i64 k', .int .i64 i', .int .i64 f', .int .i64 t', .int .i64 a'] 36)))).ext x1
  go_wp2_with fail
  refine (implGood_any _ _ _ _ _ _).mono ?_
  rintro e w2 ⟨rfl, x2⟩
  rw [HG'.out]
  have hc : CmdAt w2 (w.heap.size + 1) k' i' f' t' a' := (show CmdAt w1 (w.heap.size + 1) k' i' f' t' a' from ⟨c0, c1, c2, c3, c4⟩).ext x2
  have hd : CmdAt w2 w.heap.size k i f t a := (show CmdAt w1 w.heap.size k i f t a from ⟨d0, d1, d2, d3, d4⟩).ext x2
  clear c0 c1 c2 c3 c4 d0 d1 d2 d3 d4
  obtain ⟨c0, c1, c2, c3, c4⟩ := hc
  go_wp2_with fail
  refine (touchedBy_any _ _ _ _ _ _ HG'.out).mono ?_
  rintro e w3 ⟨rfl, x3⟩
  obtain ⟨d0, d1, d2, d3, d4⟩ := (hd.ext x3).ext (Ext.alloc (Ext.refl w3) (.cells #[.bool (touchB k' f' t' 0), .bool (touchB k' f' t' 1), .bool (touchB k' f' t' 2), .bool (touchB k' f' t' 3)] 196))
  have hx : Ext w w3 := ((((Ext.alloc (Ext.refl _) _).alloc _).trans x1).trans x2).trans x3
  clear c0 c1 c2 c3 c4 x1 x2 x3 hd
  go_wp2_with fail
  refine (touchedBy_any _ _ _ _ _ _ HG.out).mono ?_
  rintro e w4 ⟨rfl, x4⟩
  have m0 := x4.cell (a := ⟨w3.heap.size, 0, none⟩) (v := .bool (touchB k' f' t' 0)) (by go_simp)
  have m1 := x4.cell (a := ⟨w3.heap.size, 1, none⟩) (v := .bool (touchB k' f' t' 1)) (by go_simp)
  have m2 := x4.cell (a := ⟨w3.heap.size, 2, none⟩) (v := .bool (touchB k' f' t' 2)) (by go_simp)
  have m3 := x4.cell (a := ⟨w3.heap.size, 3, none⟩) (v := .bool (touchB k' f' t' 3)) (by go_simp)
  have hx4 : Ext w w4 := (hx.alloc _).trans x4
  have HM := Lib.hid (And.intro m0 (And.intro m1 (And.intro m2 m3)))
  clear d0 d1 d2 d3 d4 m0 m1 m2 m3 x4 hx
  go_wp2
  go_loopw [21] (fun j wr => ∃ n : Nat, n ≤ 4 ∧ j = .int .i64 n ∧ bothTo k f t k' f' t' n = false ∧ wr = w4) (fun j _ => 4 - (intOf j).toNat)
  case atStart => exact ⟨0, by omega, rfl, rfl, by trivial⟩
  case round =>
    obtain ⟨n, hn, rfl, ha, rfl⟩ := hrel
    have HA := Lib.hid ha
    clear ha
    by_cases hlt : n < 4
    · have hn4 : n = 0 ∨ n = 1 ∨ n = 2 ∨ n = 3 := by omega
      have hcell : wr.cell? ⟨w3.heap.size, n, none⟩ = some (.bool (touchB k' f' t' n)) := by
        obtain ⟨m0, m1, m2, m3⟩ := HM.out
        rcases hn4 with rfl | rfl | rfl | rfl
        · exact m0
        · exact m1
        · exact m2
        · exact m3
      have hix : ∀ W, (Instr.index 196 (.agg #[.bool (touchB k f t 0), .bool (touchB k f t 1), .bool (touchB k f t 2), .bool (touchB k f t 3)]) (.int .i64 (n : Int))).run Try.prog W = .ok (.bool (touchB k f t n)) W := by
        intro W
        rcases hn4 with rfl | rfl | rfl | rfl
        · exact index4_0 _ _ _ _ W
        · exact index4_1 _ _ _ _ W
        · exact index4_2 _ _ _ _ W
        · exact index4_3 _ _ _ _ W
      have hs := bothTo_succ k f t k' f' t' n
      rw [HA.out, Bool.false_or] at hs
      have HS := Lib.hid hs
      clear hs hn4
      cases h1 : touchB k f t n with
      | false =>
        rw [h1] at hix
        have HT := Lib.hid h1
        clear h1
        go_wp2
        go_roundw
        case rel => exact ⟨n + 1, by omega, by go_num, by rw [HS.out, HT.out]; rfl, by trivial⟩
        case measure => simp [intOf]; omega
      | true =>
        rw [h1] at hix
        have HT := Lib.hid h1
        clear h1
        cases h2 : touchB k' f' t' n with
        | false =>
          rw [h2] at hcell
          have HU := Lib.hid h2
          clear h2
          go_wp2
          go_roundw
          case rel => exact ⟨n + 1, by omega, by go_num, by rw [HS.out, HT.out, HU.out]; rfl, by trivial⟩
          case measure => simp [intOf]; omega
        | true =>
          rw [h2] at hcell
          have HU := Lib.hid h2
          clear h2
          go_wp2
          go_ret2
          have hb : bothTo k f t k' f' t' 4 = true := by
            unfold bothTo
            rw [List.any_eq_true]
            exact ⟨n, List.mem_range.2 hlt, by rw [HT.out, HU.out]; rfl⟩
          exact ⟨by rw [hb]; rfl, hx4⟩
    · obtain rfl : n = 4 := by omega
      go_wp2
      go_ret2
      exact ⟨by rw [HA.out]; rfl, hx4⟩

theorem implInterfere_any (k i f t a k' i' f' t' a' : Int) (w : World) :
    Calls Try.prog 126 #[.agg #[.int .i64 k, .int .i64 i, .int .i64 f, .int .i64 t, .int .i64 a], .agg #[.int .i64 k', .int .i64 i', .int .i64 f', .int .i64 t', .int .i64 a']] w (TwoB ((goodB k i f t a && goodB k' i' f' t' a') && interB k f t k' f' t') (goodB k i f t a && goodB k' i' f' t' a') w) := by
  cases hg : goodB k i f t a with
  | false =>
    have HG := Lib.hid hg
    clear hg
    go_enter Try.func126, Try.ntmps126
    go_wp2_with fail
    refine (implGood_any _ _ _ _ _ _).mono ?_
    rintro e w1 ⟨rfl, x1⟩
    rw [HG.out]
    go_wp2
    go_ret2
    exact ⟨rfl, ((Ext.alloc (Ext.refl _) _).alloc _).trans x1⟩
  | true =>
    cases hg' : goodB k' i' f' t' a' with
    | false =>
      have HG := Lib.hid hg
      have HG' := Lib.hid hg'
      clear hg hg'
      go_enter Try.func126, Try.ntmps126
      go_wp2_with fail
      refine (implGood_any _ _ _ _ _ _).mono ?_
      rintro e w1 ⟨rfl, x1⟩
      rw [HG.out]
      obtain ⟨c0, c1, c2, c3, c4⟩ := (cmdAt_new2 w (.cells #[.int .i64 k, .int .i64 i, .int .i64 f, .int .i64 t, .int .i64 a] 36) 36 k' i' f' t' a').ext x1
      go_wp2_with fail
      refine (implGood_any _ _ _ _ _ _).mono ?_
      rintro e w2 ⟨rfl, x2⟩
      rw [HG'.out]
      go_wp2
      go_ret2
      exact ⟨rfl, (((Ext.alloc (Ext.refl _) _).alloc _).trans x1).trans x2⟩
    | true =>
      rw [bothTo_all hg hg']
      exact implInterfere_good k i f t a k' i' f' t' a' w hg hg'

end Go.Proofs.Ythnoeknalpnadaa

namespace Go.Proofs.Ythnoeknalpnadaa
open Go.RowKit
set_option linter.unusedVariables false

/-- The greater of two. -/
def mxx (a b : Int) : Int := if b > a then b else a
/-- Whether the row r at the place i of the list of k counts for the command c, the instance (rep, no). -/
def hitB (ck cf ct rep no : Int) (k i : Nat) (r : RowD) : Bool := (!(r.st == 0) && interB ck cf ct r.k r.f r.t) && !(((k : Int) == rep) && ((i : Int) + 1 == no))
def rowStep (ck cf ct rep no : Int) (k i : Nat) (r : RowD) (S : Int) (D : List Int) : Int × List Int := if hitB ck cf ct rep no k i r then (mxx S r.s, D.set k ((i : Int) + 1)) else (S, D)
def rowTo (ck cf ct rep no : Int) (k : Nat) (R : List RowD) (j : Nat) (X : Int × List Int) : Int × List Int :=
  (List.range j).foldl (fun X i => match R[i]? with | some r => rowStep ck cf ct rep no k i r X.1 X.2 | none => X) X
def tabTo (ck cf ct rep no : Int) (T : List (List RowD)) (k : Nat) (X : Int × List Int) : Int × List Int :=
  (List.range k).foldl (fun X p => rowTo ck cf ct rep no p (T[p]?.getD []) (T[p]?.getD []).length X) X
theorem rowTo_zero (ck cf ct rep no : Int) (k : Nat) (R : List RowD) (X : Int × List Int) : rowTo ck cf ct rep no k R 0 X = X := rfl
theorem rowTo_succ (ck cf ct rep no : Int) (k : Nat) {R : List RowD} {j : Nat} (h : j < R.length) (X : Int × List Int) :
    rowTo ck cf ct rep no k R (j + 1) X = rowStep ck cf ct rep no k j R[j] (rowTo ck cf ct rep no k R j X).1 (rowTo ck cf ct rep no k R j X).2 := by
  unfold rowTo
  rw [List.range_succ, List.foldl_append]
  simp [List.getElem?_eq_getElem h]
theorem tabTo_zero (ck cf ct rep no : Int) (T : List (List RowD)) (X : Int × List Int) : tabTo ck cf ct rep no T 0 X = X := rfl
theorem tabTo_succ (ck cf ct rep no : Int) {T : List (List RowD)} {k : Nat} (h : k < T.length) (X : Int × List Int) :
    tabTo ck cf ct rep no T (k + 1) X = rowTo ck cf ct rep no k T[k] T[k].length (tabTo ck cf ct rep no T k X) := by
  unfold tabTo
  rw [List.range_succ, List.foldl_append]
  simp [List.getElem?_eq_getElem h]
theorem step_hit {ck cf ct rep no : Int} {k i : Nat} {r : RowD} {S : Int} {D : List Int} (h : hitB ck cf ct rep no k i r = true) : rowStep ck cf ct rep no k i r S D = (mxx S r.s, D.set k ((i : Int) + 1)) := by unfold rowStep; rw [h]; rfl
theorem step_miss {ck cf ct rep no : Int} {k i : Nat} {r : RowD} {S : Int} {D : List Int} (h : hitB ck cf ct rep no k i r = false) : rowStep ck cf ct rep no k i r S D = (S, D) := by unfold rowStep; rw [h]; rfl
theorem hit_seq {n ck cf ct rep no : Int} {k i : Nat} {r : RowD} (h : hitB ck cf ct rep no k i r = true) (hg : goodRow n r = true) : 0 ≤ r.s ∧ r.s ≤ 999 := by
  unfold hitB at h
  simp only [Bool.and_eq_true] at h
  have h0 : (r.st == 0) = false := by have := h.1.1; simpa using this
  unfold goodRow at hg
  rw [h0] at hg
  simp only [Bool.and_eq_true] at hg
  have h2 := hg.2
  unfold fullB at h2
  simp only [Bool.false_eq_true, if_false, Bool.and_eq_true] at h2
  have h3 := (goodD_of h2.2).1
  unfold inB at h3
  simpa using h3
theorem mxx_bd {a b : Int} (h0 : 0 ≤ a) (h1 : a ≤ 999) (k0 : 0 ≤ b) (k1 : b ≤ 999) : 0 ≤ mxx a b ∧ mxx a b ≤ 999 := by unfold mxx; split <;> omega

/-- The model's attribute before its last step, and what AttrFor tells. -/
def attrSD (n ck cf ct rep no : Int) (T : List (List RowD)) : Int × List Int := tabTo ck cf ct rep no T T.length (0, noneL n)
def okA (n : Int) (T : List (List RowD)) (ck ci cf ct ca rep no : Int) : Bool := ((goodTab n T && instB n rep no) && goodB ck ci cf ct ca) && decide ((attrSD n ck cf ct rep no T).1 + 1 ≤ 999)
def attrS (n : Int) (T : List (List RowD)) (ck ci cf ct ca rep no : Int) : Int := if okA n T ck ci cf ct ca rep no then (attrSD n ck cf ct rep no T).1 + 1 else 0
def attrL (n : Int) (T : List (List RowD)) (ck ci cf ct ca rep no : Int) : List Int := if okA n T ck ci cf ct ca rep no then (attrSD n ck cf ct rep no T).2 else []
theorem attr_no {n : Int} {T : List (List RowD)} {ck ci cf ct ca rep no : Int} (h : okA n T ck ci cf ct ca rep no = false) : attrS n T ck ci cf ct ca rep no = 0 ∧ attrL n T ck ci cf ct ca rep no = [] := by
  unfold attrS attrL; rw [h]; exact ⟨rfl, rfl⟩
theorem attr_yes {n : Int} {T : List (List RowD)} {ck ci cf ct ca rep no : Int} (h : okA n T ck ci cf ct ca rep no = true) : attrS n T ck ci cf ct ca rep no = (attrSD n ck cf ct rep no T).1 + 1 ∧ attrL n T ck ci cf ct ca rep no = (attrSD n ck cf ct rep no T).2 := by
  unfold attrS attrL; rw [h]; exact ⟨rfl, rfl⟩

/-- The attribute that is being made lies in the box b, its list in the block g; the command in the box N. -/
def LiveA (w W : World) (b g cap m N : Nat) (k i f t a S : Int) (D : List Int) : Prop :=
  OpenAt W b S (.slice (some ⟨g, 0, none⟩) m cap) ∧ W.ownsRow w.heap.size 3 1 (.slice (some ⟨g, 0, none⟩) m cap) m (D.map (Value.int .i64)) ∧ CmdAt W N k i f t a ∧ Ext w W
theorem LiveA.ext {w W W' : World} {b g cap m N : Nat} {k i f t a S : Int} {D : List Int} (h : LiveA w W b g cap m N k i f t a S D) (e : Ext W W') : LiveA w W' b g cap m N k i f t a S D :=
  ⟨h.1.ext e, e.ownsRow h.2.1, h.2.2.1.ext e, h.2.2.2.trans e⟩
theorem setc_other {w : World} {b o b' o' : Nat} {x v : Value} (h : w.cell? ⟨b, o, none⟩ = some v) (hne : b' ≠ b) : (w.setCell ⟨b', o', none⟩ x).cell? ⟨b, o, none⟩ = some v := by
  rw [World.cell?_setCell_other _ _ _ _ (fun e => hne (by cases e; rfl))]; exact h
theorem LiveA.put {w W : World} {b g cap m N : Nat} {k i f t a S : Int} {D : List Int} (h : LiveA w W b g cap m N k i f t a S D) (q : Nat) (x : Int) (hb : b ≠ g) (hN : N ≠ g) : LiveA w (W.setCell ⟨g, q, none⟩ (.int .i64 x)) b g cap m N k i f t a S (D.set q x) := by
  obtain ⟨⟨⟨h1, h2⟩, h3, h4⟩, h5, ⟨c0, c1, c2, c3, c4⟩, h7⟩ := h
  have hg := (World.ownsRow.lt h5 g rfl).1
  refine ⟨⟨⟨setc_other h1 hb.symm, setc_other h2 hb.symm⟩, by rw [World.frozen?_setCell]; exact h3, by rw [World.frozen?_setCell]; exact h4⟩, ?_, ⟨setc_other c0 hN.symm, setc_other c1 hN.symm, setc_other c2 hN.symm, setc_other c3 hN.symm, setc_other c4 hN.symm⟩, h7.setc hg⟩
  have := (h5.stored q (.int .i64 x)).1
  rw [List.map_set]; exact this
theorem LiveA.seq {w W : World} {b g cap m N : Nat} {k i f t a S : Int} {D : List Int} (h : LiveA w W b g cap m N k i f t a S D) (x : Int) (hb : b ≠ g) (hN : N ≠ b) (hw : w.heap.size ≤ b) : LiveA w (W.setCell ⟨b, 0, none⟩ (.int .i64 x)) b g cap m N k i f t a x D := by
  obtain ⟨⟨⟨h1, h2⟩, h3, h4⟩, h5, ⟨c0, c1, c2, c3, c4⟩, h7⟩ := h
  refine ⟨⟨⟨World.cell?_setCell_same' _ _ _ (by rw [h1]; rfl), ?_⟩, by rw [World.frozen?_setCell]; exact h3, by rw [World.frozen?_setCell]; exact h4⟩, ?_, ⟨setc_other c0 hN.symm, setc_other c1 hN.symm, setc_other c2 hN.symm, setc_other c3 hN.symm, setc_other c4 hN.symm⟩, h7.setc hw⟩
  · rw [World.cell?_setCell_other _ _ _ _ (fun e => by cases e)]; exact h2
  · exact World.ownsRow.kept h5 (grownBy_set W b 0 _) (.inr (fun e => hb (by have := Option.some.inj e; exact this.symm)))
theorem LiveA.cellAt {w W : World} {b g cap m N : Nat} {k i f t a S : Int} {D : List Int} (h : LiveA w W b g cap m N k i f t a S D) {q : Nat} (hq : q < m) : ∃ x, W.cell? ⟨g, q, none⟩ = some (.int .i64 x) := by
  have hl : D.length = m := by have := h.2.1.1; simpa using this
  have hc := h.2.1.cellAt q (by omega)
  refine ⟨D[q]'(by omega), ?_⟩
  rw [hc]; simp [List.getElem?_eq_getElem (show q < D.length by omega)]

theorem l1Most_any (a b : Int) (w : World) : Calls Try.prog 167 #[.int .i64 a, .int .i64 b] w (fun e w' => e = .returned (.int .i64 (mxx a b)) ∧ w = w') := by
  unfold mxx
  by_cases h : b < a
  · have e : (if b > a then b else a) = a := if_neg (by omega)
    rw [e]
    have E := Lib.hid e
    clear e
    go_enter Try.func167, Try.ntmps167
    go_wp2
    go_ret
    exact ⟨rfl, rfl⟩
  · have e : (if b > a then b else a) = b := by split <;> omega
    rw [e]
    have E := Lib.hid e
    have h' : a ≤ b := by omega
    clear e h
    go_enter Try.func167, Try.ntmps167
    go_wp2
    go_ret
    exact ⟨rfl, rfl⟩

end Go.Proofs.Ythnoeknalpnadaa
