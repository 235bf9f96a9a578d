/- Contract of the model's l1Put: a number put to its place in a list, once. -/
import Derived.Test.YtcpmfcigciknlaaPush
namespace Go.Proofs.Ytcpmfcigciknlaa
open Go.RowKit

/-- How many from the front are less. -/
def ahead (l : List Int) (n : Int) : Nat := (l.takeWhile fun x => decide (x < n)).length
def putI (l : List Int) (n : Int) : List Int := if l[ahead l n]? = some n then l else l.take (ahead l n) ++ [n] ++ l.drop (ahead l n)
theorem ahead_stop {l : List Int} {n : Int} {k : Nat} (hk : k < l.length) (ha : ∀ x ∈ l.take k, x < n) (hs : ¬ l[k] < n) : ahead l n = k := by
  induction l generalizing k with
  | nil => simp at hk
  | cons y l ih =>
    cases k with
    | zero => simp at hs; simp [ahead, List.takeWhile_cons]; omega
    | succ k =>
      have hy : y < n := ha y (by simp)
      have := ih (k := k) (by simpa using hk) (fun x hx => ha x (by simp [hx])) (by simpa using hs)
      unfold ahead at this ⊢
      rw [List.takeWhile_cons, if_pos (by simpa using hy), List.length_cons, this]
theorem ahead_all {l : List Int} {n : Int} (ha : ∀ x ∈ l, x < n) : ahead l n = l.length := by
  unfold ahead
  induction l with
  | nil => rfl
  | cons y l ih => rw [List.takeWhile_cons, if_pos (by simpa using ha y (by simp)), List.length_cons, ih (fun x hx => ha x (by simp [hx])), List.length_cons]

def PutR (v : Value) (l : List Int) (n : Int) (w : World) (e : Ending) (w' : World) : Prop :=
  ∃ v', e = .returned v' ∧ Ext w w' ∧ ((v' = v ∧ putI l n = l) ∨ Fresh w.heap.size w' v' (putI l n))

theorem Ints.behind {w : World} {cap : Nat} {l : List Int} {b off : Nat} (h : Ints w (.slice (some ⟨b, off, none⟩) l.length cap) l) (k : Nat) (hk : k ≤ l.length) : Ints w (.slice (some ⟨b, off + k, none⟩) (l.length - k) (cap - k)) (l.drop k) := by
  obtain ⟨ao', cap', he, hm, hcap, hc⟩ := h
  simp only [Value.slice.injEq] at he
  obtain ⟨rfl, _, rfl⟩ := he
  have e : (l.drop k).length = l.length - k := by simp
  refine ⟨some ⟨b, off + k, none⟩, cap - k, by rw [e], by omega, ⟨by have := hcap.1; omega, by have := hcap.2.1; omega, fun h => by cases h⟩, fun hp => ?_⟩
  obtain ⟨b', off', ha, hj⟩ := hc (by omega)
  cases ha
  refine ⟨b, off + k, rfl, fun j hjl => ?_⟩
  rw [Nat.add_assoc, hj (k + j) (by omega), List.getElem?_drop]
theorem Ints.none_of {w : World} {ao : Option Addr} {cap : Nat} (hc : cap ≤ maxLen) (h : ao = none → cap = 0) : Ints w (.slice ao 0 cap) [] :=
  ⟨ao, cap, rfl, by simp, ⟨by simp, hc, h⟩, fun h => by simp at h⟩

/-- The two ends of a cut. -/
theorem Ints.upto {w : World} {ao : Option Addr} {cap : Nat} {l : List Int} (h : Ints w (.slice ao l.length cap) l) (k : Nat) (hk : k ≤ l.length) : Ints w (.slice ao k cap) (l.take k) := by
  obtain ⟨ao', cap', he, hm, hcap, hc⟩ := h
  simp only [Value.slice.injEq] at he
  obtain ⟨rfl, _, rfl⟩ := he
  have e : (l.take k).length = k := by first | omega | (simp; omega)
  refine ⟨ao, cap, by rw [e], by omega, ⟨by omega, hcap.2⟩, fun hp => ?_⟩
  obtain ⟨b, off, ha, hj⟩ := hc (by omega)
  refine ⟨b, off, ha, fun j hjl => ?_⟩
  rw [hj j (by omega), List.getElem?_take, if_pos (by omega)]

set_option maxHeartbeats 1000000 in
theorem l1Put_any (v : Value) (l : List Int) (n : Int) (w : World) (hv : Ints w v l) (hl : l.length ≤ 1048576) :
    Calls Try.prog 26 #[v, .int .i64 n] w (PutR v l n w) := by
  have hv0 := hv
  obtain ⟨av, cv, rfl, hlv, hcap, hcv⟩ := hv
  have hcap1 := hcap.1
  have hcap2 := hcap.2.1
  unfold maxLen at hlv hcap2
  go_enter Try.func26, Try.ntmps26
  go_wp2
  go_loop [5] (fun i => ∃ k : Nat, k ≤ l.length ∧ i = .int .i64 k ∧ (∀ x ∈ l.take k, x < n)) (fun i => l.length - (intOf i).toNat)
  case atStart => exact ⟨0, Nat.zero_le _, rfl, by simp⟩
  case round =>
    obtain ⟨k, hk, rfl, ha⟩ := hrel
    have HA := Lib.hid ha
    clear ha
    by_cases hlt : k < l.length
    · obtain ⟨bv, ov, rfl, dv⟩ := hcv (by omega)
      have gv := dv k hlt
      have HC := Lib.hid hcap
      clear hcv dv hcap
      by_cases hx : l[k] < n
      · go_wp2
        go_round
        case rel => exact ⟨k + 1, by omega, by go_num, by
          intro x hxm
          rw [List.take_add_one, List.getElem?_eq_getElem hlt] at hxm
          rcases List.mem_append.1 hxm with h | h
          · exact HA.out x h
          · simp at h; omega⟩
        case measure => simp [intOf]; omega
      · have HX : ahead l n = k := ahead_stop hlt HA.out hx
        have HK := Lib.hid HX
        clear HX
        by_cases he : l[k] = n
        · have e1 : (l[k] == n) = true := by simp [he]
          have HE := Lib.hid he
          clear he
          go_wp2
          go_ret
          refine ⟨_, rfl, Ext.refl _, .inl ⟨rfl, ?_⟩⟩
          unfold putI
          rw [HK.out, List.getElem?_eq_getElem hlt, HE.out, if_pos rfl]
        · have e1 : (l[k] == n) = false := by simp [he]
          have HE := Lib.hid he
          clear he
          have hp : putI l n = l.take k ++ [n] ++ l.drop k := by
            unfold putI
            rw [HK.out, if_neg (by rw [List.getElem?_eq_getElem hlt]; intro h; exact HE.out (by simpa using h))]
          have HP := Lib.hid hp
          clear hp
          have hb1 : ([] : List Int).length + (l.take k).length ≤ 1099511627776 := by first | omega | (simp; omega)
          have hb2 : (l.take k).length ≤ 1099511627776 := by first | omega | (simp; omega)
          have hb3 : (l.take k ++ [n]).length + (l.drop k).length ≤ 1099511627776 := by first | omega | (simp; omega)
          have HB := Lib.hid (And.intro hb1 (And.intro hb2 hb3))
          clear hb1 hb2 hb3
          go_wp2_with (at_builtin; refine wpList_join rfl _ _ rfl w.heap.size _ _ [] (l.take k) rfl (fresh_lit w [] #[] _ rfl (Nat.le_refl _) (Nat.zero_le _)) rfl ((hv0.upto k hk).ext (Ext.alloc (Ext.refl _) _)) HB.out.1 (size_alloc_le (Nat.le_refl _)) ?_)
          intro v1 w1 f1 g1 k1
          have e1' : Ext w w1 := k1 w (Ext.alloc (Ext.refl _) _) (Nat.le_refl _)
          go_wp2_with (at_builtin; refine wpList_push rfl _ _ rfl w.heap.size _ (l.take k) n rfl (f1.ext (Ext.alloc (Ext.refl _) _)) ⟨w1.heap.size, 0, none⟩ 1 rfl (cell_alloc_one _ _ _) HB.out.2.1 (size_alloc_le e1'.size) ?_)
          intro v2 w2 f2 g2 k2
          have e2' : Ext w w2 := k2 w (e1'.alloc _) (Nat.le_refl _)
          go_wp2_with (at_builtin; refine wpList_join rfl _ _ rfl w.heap.size _ _ (l.take k ++ [n]) (l.drop k) rfl f2 rfl ((hv0.behind k hk).ext e2') HB.out.2.2 e2'.size ?_)
          intro v3 w3 f3 g3 k3
          have e3' : Ext w w3 := k3 w e2' (Nat.le_refl _)
          clear f1 f2 g1 g2 g3 k1 k2 k3 e1' e2'
          go_wp2
          go_ret
          exact ⟨_, rfl, e3', .inr (by rw [HP.out]; simpa using f3)⟩
    · obtain rfl : k = l.length := by omega
      have hp : putI l n = l ++ [n] := by
        have hh := HA.out
        rw [List.take_length] at hh
        unfold putI
        rw [ahead_all hh, List.getElem?_eq_none (Nat.le_refl _), if_neg (by simp), List.take_length, List.drop_length, List.append_nil]
      have HP := Lib.hid hp
      have HC := Lib.hid hcap
      clear hp hcap
      cases av with
      | none =>
        obtain rfl : cv = 0 := HC.out.2.2 rfl
        obtain rfl : l = [] := List.eq_nil_of_length_eq_zero (by omega)
        have hb1 : ([] : List Int).length + (([] : List Int)).length ≤ 1099511627776 := by simp
        have hb2 : (([] : List Int)).length ≤ 1099511627776 := by simp
        have hb3 : (([] : List Int) ++ [n]).length + (([] : List Int)).length ≤ 1099511627776 := by simp
        have HB := Lib.hid (And.intro hb1 (And.intro hb2 hb3))
        clear hb1 hb2 hb3
        go_wp2_with (at_builtin; refine wpList_join rfl _ _ rfl w.heap.size _ _ [] (([] : List Int)) rfl (fresh_lit w [] #[] _ rfl (Nat.le_refl _) (Nat.zero_le _)) rfl (Ints.nil _) HB.out.1 (size_alloc_le (Nat.le_refl _)) ?_)
        intro v1 w1 f1 g1 k1
        have e1' : Ext w w1 := k1 w (Ext.alloc (Ext.refl _) _) (Nat.le_refl _)
        go_wp2_with (at_builtin; refine wpList_push rfl _ _ rfl w.heap.size _ (([] : List Int)) n rfl (f1.ext (Ext.alloc (Ext.refl _) _)) ⟨w1.heap.size, 0, none⟩ 1 rfl (cell_alloc_one _ _ _) HB.out.2.1 (size_alloc_le e1'.size) ?_)
        intro v2 w2 f2 g2 k2
        have e2' : Ext w w2 := k2 w (e1'.alloc _) (Nat.le_refl _)
        go_wp2_with (at_builtin; refine wpList_join rfl _ _ rfl w.heap.size _ _ (([] : List Int) ++ [n]) (([] : List Int)) rfl f2 rfl (Ints.nil _) HB.out.2.2 e2'.size ?_)
        intro v3 w3 f3 g3 k3
        have e3' : Ext w w3 := k3 w e2' (Nat.le_refl _)
        clear f1 f2 g1 g2 g3 k1 k2 k3 e1' e2'
        go_wp2
        go_ret
        exact ⟨_, rfl, e3', .inr (by rw [HP.out]; simpa using f3)⟩
      | some ad =>
        by_cases hl0 : l.length = 0
        · obtain rfl : l = [] := List.eq_nil_of_length_eq_zero hl0
          have hs0 : ∀ W, Ints W (.slice (some ad) 0 cv) [] := fun W => Ints.none_of (by unfold maxLen; omega) (fun h => by cases h)
          have HS := Lib.hid hs0
          clear hs0 hl0
          have hb1 : ([] : List Int).length + (([] : List Int)).length ≤ 1099511627776 := by simp
          have hb2 : (([] : List Int)).length ≤ 1099511627776 := by simp
          have hb3 : (([] : List Int) ++ [n]).length + (([] : List Int)).length ≤ 1099511627776 := by simp
          have HB := Lib.hid (And.intro hb1 (And.intro hb2 hb3))
          clear hb1 hb2 hb3
          go_wp2_with (at_builtin; refine wpList_join rfl _ _ rfl w.heap.size _ _ [] (([] : List Int)) rfl (fresh_lit w [] #[] _ rfl (Nat.le_refl _) (Nat.zero_le _)) rfl (HS.out _) HB.out.1 (size_alloc_le (Nat.le_refl _)) ?_)
          intro v1 w1 f1 g1 k1
          have e1' : Ext w w1 := k1 w (Ext.alloc (Ext.refl _) _) (Nat.le_refl _)
          go_wp2_with (at_builtin; refine wpList_push rfl _ _ rfl w.heap.size _ (([] : List Int)) n rfl (f1.ext (Ext.alloc (Ext.refl _) _)) ⟨w1.heap.size, 0, none⟩ 1 rfl (cell_alloc_one _ _ _) HB.out.2.1 (size_alloc_le e1'.size) ?_)
          intro v2 w2 f2 g2 k2
          have e2' : Ext w w2 := k2 w (e1'.alloc _) (Nat.le_refl _)
          go_wp2_with (at_builtin; refine wpList_join rfl _ _ rfl w.heap.size _ _ (([] : List Int) ++ [n]) (([] : List Int)) rfl f2 rfl (HS.out _) HB.out.2.2 e2'.size ?_)
          intro v3 w3 f3 g3 k3
          have e3' : Ext w w3 := k3 w e2' (Nat.le_refl _)
          clear f1 f2 g1 g2 g3 k1 k2 k3 e1' e2'
          go_wp2
          go_ret
          exact ⟨_, rfl, e3', .inr (by rw [HP.out]; simpa using f3)⟩
        · obtain ⟨bv, ov, had, _⟩ := hcv (by omega)
          cases had
          clear hcv
          have hs1 : ∀ W, Ext w W → Ints W (.slice (some ⟨bv, ov, none⟩) l.length cv) l := fun W h => hv0.ext h
          by_cases hcl : cv = l.length
          · subst hcl
            have hs3 : ∀ W, Ints W (.slice (some ⟨bv, ov, none⟩) 0 0) [] := fun W => Ints.none_of (by simp) (fun _ => rfl)
            have HS := Lib.hid (And.intro hs1 hs3)
            clear hs1 hs3
            have hb1 : ([] : List Int).length + (l).length ≤ 1099511627776 := by first | omega | (simp; omega)
            have hb2 : (l).length ≤ 1099511627776 := by first | omega | (simp; omega)
            have hb3 : (l ++ [n]).length + (([] : List Int)).length ≤ 1099511627776 := by first | omega | (simp; omega)
            have HB := Lib.hid (And.intro hb1 (And.intro hb2 hb3))
            clear hb1 hb2 hb3
            go_wp2_with (at_builtin; refine wpList_join rfl _ _ rfl w.heap.size _ _ [] (l) rfl (fresh_lit w [] #[] _ rfl (Nat.le_refl _) (Nat.zero_le _)) rfl (HS.out.1 _ (Ext.alloc (Ext.refl _) _)) HB.out.1 (size_alloc_le (Nat.le_refl _)) ?_)
            intro v1 w1 f1 g1 k1
            have e1' : Ext w w1 := k1 w (Ext.alloc (Ext.refl _) _) (Nat.le_refl _)
            go_wp2_with (at_builtin; refine wpList_push rfl _ _ rfl w.heap.size _ (l) n rfl (f1.ext (Ext.alloc (Ext.refl _) _)) ⟨w1.heap.size, 0, none⟩ 1 rfl (cell_alloc_one _ _ _) HB.out.2.1 (size_alloc_le e1'.size) ?_)
            intro v2 w2 f2 g2 k2
            have e2' : Ext w w2 := k2 w (e1'.alloc _) (Nat.le_refl _)
            go_wp2_with (at_builtin; refine wpList_join rfl _ _ rfl w.heap.size _ _ (l ++ [n]) (([] : List Int)) rfl f2 rfl (HS.out.2 _) HB.out.2.2 e2'.size ?_)
            intro v3 w3 f3 g3 k3
            have e3' : Ext w w3 := k3 w e2' (Nat.le_refl _)
            clear f1 f2 g1 g2 g3 k1 k2 k3 e1' e2'
            go_wp2
            go_ret
            exact ⟨_, rfl, e3', .inr (by rw [HP.out]; simpa using f3)⟩
          · have hs3 : ∀ W, Ints W (.slice (some ⟨bv, ov + l.length, none⟩) 0 (cv - l.length)) [] := fun W => Ints.none_of (by unfold maxLen; omega) (fun h => by cases h)
            have HS := Lib.hid (And.intro hs1 hs3)
            clear hs1 hs3
            have hb1 : ([] : List Int).length + (l).length ≤ 1099511627776 := by first | omega | (simp; omega)
            have hb2 : (l).length ≤ 1099511627776 := by first | omega | (simp; omega)
            have hb3 : (l ++ [n]).length + (([] : List Int)).length ≤ 1099511627776 := by first | omega | (simp; omega)
            have HB := Lib.hid (And.intro hb1 (And.intro hb2 hb3))
            clear hb1 hb2 hb3
            go_wp2_with (at_builtin; refine wpList_join rfl _ _ rfl w.heap.size _ _ [] (l) rfl (fresh_lit w [] #[] _ rfl (Nat.le_refl _) (Nat.zero_le _)) rfl (HS.out.1 _ (Ext.alloc (Ext.refl _) _)) HB.out.1 (size_alloc_le (Nat.le_refl _)) ?_)
            intro v1 w1 f1 g1 k1
            have e1' : Ext w w1 := k1 w (Ext.alloc (Ext.refl _) _) (Nat.le_refl _)
            go_wp2_with (at_builtin; refine wpList_push rfl _ _ rfl w.heap.size _ (l) n rfl (f1.ext (Ext.alloc (Ext.refl _) _)) ⟨w1.heap.size, 0, none⟩ 1 rfl (cell_alloc_one _ _ _) HB.out.2.1 (size_alloc_le e1'.size) ?_)
            intro v2 w2 f2 g2 k2
            have e2' : Ext w w2 := k2 w (e1'.alloc _) (Nat.le_refl _)
            go_wp2_with (at_builtin; refine wpList_join rfl _ _ rfl w.heap.size _ _ (l ++ [n]) (([] : List Int)) rfl f2 rfl (HS.out.2 _) HB.out.2.2 e2'.size ?_)
            intro v3 w3 f3 g3 k3
            have e3' : Ext w w3 := k3 w e2' (Nat.le_refl _)
            clear f1 f2 g1 g2 g3 k1 k2 k3 e1' e2'
            go_wp2
            go_ret
            exact ⟨_, rfl, e3', .inr (by rw [HP.out]; simpa using f3)⟩

end Go.Proofs.Ytcpmfcigciknlaa
