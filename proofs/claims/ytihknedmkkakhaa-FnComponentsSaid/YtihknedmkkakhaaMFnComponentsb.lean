/- Texts of this proof, part b: words, plain facts, contracts. -/
import Derived.Test.YtihknedmkkakhaaMFnComponentsa

namespace Go.Proofs.Ytihknedmkkakhaa
open Go.RowKit

/-- How many from the front are less. -/
def ahead (l : List Int) (n : Int) : Nat := (l.takeWhile fun x => decide (x < n)).length
def putI (l : List Int) (n : Int) : List Int := if l[ahead l n]? = some n then l else l.take (ahead l n) ++ [n] ++ l.drop (ahead l n)
theorem ahead_stop {l : List Int} {n : Int} {k : Nat} (hk : k < l.length) (ha : ∀ x ∈ l.take k, x < n) (hs : ¬ l[k] < n) : ahead l n = k := by
  induction l generalizing k with
  | nil => simp at hk
  | cons y l ih =>
    cases k with
    | zero => simp at hs; simp [ahead, List.takeWhile_cons]; omega
    | succ k =>
      have hy : y < n := ha y (by simp)
      have := ih (k := k) (by simpa using hk) (fun x hx => ha x (by simp [hx])) (by simpa using hs)
      unfold ahead at this ⊢
      rw [List.takeWhile_cons, if_pos (by simpa using hy), List.length_cons, this]
theorem ahead_all {l : List Int} {n : Int} (ha : ∀ x ∈ l, x < n) : ahead l n = l.length := by
  unfold ahead
  induction l with
  | nil => rfl
  | cons y l ih => rw [List.takeWhile_cons, if_pos (by simpa using ha y (by simp)), List.length_cons, ih (fun x hx => ha x (by simp [hx])), List.length_cons]

def PutR (v : Value) (l : List Int) (n : Int) (w : World) (e : Ending) (w' : World) : Prop :=
  ∃ v', e = .returned v' ∧ Ext w w' ∧ ((v' = v ∧ putI l n = l) ∨ Fresh w.heap.size w' v' (putI l n))

theorem Ints.behind {w : World} {cap : Nat} {l : List Int} {b off : Nat} (h : Ints w (.slice (some ⟨b, off, none⟩) l.length cap) l) (k : Nat) (hk : k ≤ l.length) : Ints w (.slice (some ⟨b, off + k, none⟩) (l.length - k) (cap - k)) (l.drop k) := by
  obtain ⟨ao', cap', he, hm, hcap, hc⟩ := h
  simp only [Value.slice.injEq] at he
  obtain ⟨rfl, _, rfl⟩ := he
  have e : (l.drop k).length = l.length - k := by simp
  refine ⟨some ⟨b, off + k, none⟩, cap - k, by rw [e], by omega, ⟨by have := hcap.1; omega, by have := hcap.2.1; omega, fun h => by cases h⟩, fun hp => ?_⟩
  obtain ⟨b', off', ha, hj⟩ := hc (by omega)
  cases ha
  refine ⟨b, off + k, rfl, fun j hjl => ?_⟩
  rw [Nat.add_assoc, hj (k + j) (by omega), List.getElem?_drop]
theorem Ints.none_of {w : World} {ao : Option Addr} {cap : Nat} (hc : cap ≤ maxLen) (h : ao = none → cap = 0) : Ints w (.slice ao 0 cap) [] :=
  ⟨ao, cap, rfl, by simp, ⟨by simp, hc, h⟩, fun h => by simp at h⟩

/-- The two ends of a cut. -/
theorem Ints.upto {w : World} {ao : Option Addr} {cap : Nat} {l : List Int} (h : Ints w (.slice ao l.length cap) l) (k : Nat) (hk : k ≤ l.length) : Ints w (.slice ao k cap) (l.take k) := by
  obtain ⟨ao', cap', he, hm, hcap, hc⟩ := h
  simp only [Value.slice.injEq] at he
  obtain ⟨rfl, _, rfl⟩ := he
  have e : (l.take k).length = k := by first | omega | (simp; omega)
  refine ⟨ao, cap, by rw [e], by omega, ⟨by omega, hcap.2⟩, fun hp => ?_⟩
  obtain ⟨b, off, ha, hj⟩ := hc (by omega)
  refine ⟨b, off, ha, fun j hjl => ?_⟩
  rw [hj j (by omega), List.getElem?_take, if_pos (by omega)]

set_option maxHeartbeats 1000000 in
theorem l1Put_any (v : Value) (l : List Int) (n : Int) (w : World) (hv : Ints w v l) (hl : l.length ≤ 1048576) :
    Calls Try.prog 97 #[v, .int .i64 n] w (PutR v l n w) := by
  have hv0 := hv
  obtain ⟨av, cv, rfl, hlv, hcap, hcv⟩ := hv
  have hcap1 := hcap.1
  have hcap2 := hcap.2.1
  unfold maxLen at hlv hcap2
  go_enter Try.func97, Try.ntmps97
  go_wp2
  go_loop [5] (fun i => ∃ k : Nat, k ≤ l.length ∧ i = .int .i64 k ∧ (∀ x ∈ l.take k, x < n)) (fun i => l.length - (intOf i).toNat)
  case atStart => exact ⟨0, Nat.zero_le _, rfl, by simp⟩
  case round =>
    obtain ⟨k, hk, rfl, ha⟩ := hrel
    have HA := Lib.hid ha
    clear ha
    by_cases hlt : k < l.length
    · obtain ⟨bv, ov, rfl, dv⟩ := hcv (by omega)
      have gv := dv k hlt
      have HC := Lib.hid hcap
      clear hcv dv hcap
      by_cases hx : l[k] < n
      · go_wp2
        go_round
        case rel => exact ⟨k + 1, by omega, by go_num, by
          intro x hxm
          rw [List.take_add_one, List.getElem?_eq_getElem hlt] at hxm
          rcases List.mem_append.1 hxm with h | h
          · exact HA.out x h
          · simp at h; omega⟩
        case measure => simp [intOf]; omega
      · have HX : ahead l n = k := ahead_stop hlt HA.out hx
        have HK := Lib.hid HX
        clear HX
        by_cases he : l[k] = n
        · have e1 : (l[k] == n) = true := by simp [he]
          have HE := Lib.hid he
          clear he
          go_wp2
          go_ret
          refine ⟨_, rfl, Ext.refl _, .inl ⟨rfl, ?_⟩⟩
          unfold putI
          rw [HK.out, List.getElem?_eq_getElem hlt, HE.out, if_pos rfl]
        · have e1 : (l[k] == n) = false := by simp [he]
          have HE := Lib.hid he
          clear he
          have hp : putI l n = l.take k ++ [n] ++ l.drop k := by
            unfold putI
            rw [HK.out, if_neg (by rw [List.getElem?_eq_getElem hlt]; intro h; exact HE.out (by simpa using h))]
          have HP := Lib.hid hp
          clear hp
          have hb1 : ([] : List Int).length + (l.take k).length ≤ 1099511627776 := by first | omega | (simp; omega)
          have hb2 : (l.take k).length ≤ 1099511627776 := by first | omega | (simp; omega)
          have hb3 : (l.take k ++ [n]).length + (l.drop k).length ≤ 1099511627776 := by first | omega | (simp; omega)
          have HB := Lib.hid (And.intro hb1 (And.intro hb2 hb3))
          clear hb1 hb2 hb3
          go_wp2_with (at_builtin; refine wpList_join rfl _ _ rfl w.heap.size _ _ [] (l.take k) rfl (fresh_lit w [] #[] _ rfl (Nat.le_refl _) (Nat.zero_le _)) rfl ((hv0.upto k hk).ext (Ext.alloc (Ext.refl _) _)) HB.out.1 (size_alloc_le (Nat.le_refl _)) ?_)
          intro v1 w1 f1 g1 k1
          have e1' : Ext w w1 := k1 w (Ext.alloc (Ext.refl _) _) (Nat.le_refl _)
          go_wp2_with (at_builtin; refine wpList_push rfl _ _ rfl w.heap.size _ (l.take k) n rfl (f1.ext (Ext.alloc (Ext.refl _) _)) ⟨w1.heap.size, 0, none⟩ 1 rfl (cell_alloc_one _ _ _) HB.out.2.1 (size_alloc_le e1'.size) ?_)
          intro v2 w2 f2 g2 k2
          have e2' : Ext w w2 := k2 w (e1'.alloc _) (Nat.le_refl _)
          go_wp2_with (at_builtin; refine wpList_join rfl _ _ rfl w.heap.size _ _ (l.take k ++ [n]) (l.drop k) rfl f2 rfl ((hv0.behind k hk).ext e2') HB.out.2.2 e2'.size ?_)
          intro v3 w3 f3 g3 k3
          have e3' : Ext w w3 := k3 w e2' (Nat.le_refl _)
          clear f1 f2 g1 g2 g3 k1 k2 k3 e1' e2'
          go_wp2
          go_ret
          exact ⟨_, rfl, e3', .inr (by rw [HP.out]; simpa using f3)⟩
    · obtain rfl : k = l.length := by omega
      have hp : putI l n = l ++ [n] := by
        have hh := HA.out
        rw [List.take_length] at hh
        unfold putI
        rw [ahead_all hh, List.getElem?_eq_none (Nat.le_refl _), if_neg (by simp), List.take_length, List.drop_length, List.append_nil]
      have HP := Lib.hid hp
      have HC := Lib.hid hcap
      clear hp hcap
      cases av with
      | none =>
        obtain rfl : cv = 0 := HC.out.2.2 rfl
        obtain rfl : l = [] := List.eq_nil_of_length_eq_zero (by omega)
        have hb1 : ([] : List Int).length + (([] : List Int)).length ≤ 1099511627776 := by simp
        have hb2 : (([] : List Int)).length ≤ 1099511627776 := by simp
        have hb3 : (([] : List Int) ++ [n]).length + (([] : List Int)).length ≤ 1099511627776 := by simp
        have HB := Lib.hid (And.intro hb1 (And.intro hb2 hb3))
        clear hb1 hb2 hb3
        go_wp2_with (at_builtin; refine wpList_join rfl _ _ rfl w.heap.size _ _ [] (([] : List Int)) rfl (fresh_lit w [] #[] _ rfl (Nat.le_refl _) (Nat.zero_le _)) rfl (Ints.nil _) HB.out.1 (size_alloc_le (Nat.le_refl _)) ?_)
        intro v1 w1 f1 g1 k1
        have e1' : Ext w w1 := k1 w (Ext.alloc (Ext.refl _) _) (Nat.le_refl _)
        go_wp2_with (at_builtin; refine wpList_push rfl _ _ rfl w.heap.size _ (([] : List Int)) n rfl (f1.ext (Ext.alloc (Ext.refl _) _)) ⟨w1.heap.size, 0, none⟩ 1 rfl (cell_alloc_one _ _ _) HB.out.2.1 (size_alloc_le e1'.size) ?_)
        intro v2 w2 f2 g2 k2
        have e2' : Ext w w2 := k2 w (e1'.alloc _) (Nat.le_refl _)
        go_wp2_with (at_builtin; refine wpList_join rfl _ _ rfl w.heap.size _ _ (([] : List Int) ++ [n]) (([] : List Int)) rfl f2 rfl (Ints.nil _) HB.out.2.2 e2'.size ?_)
        intro v3 w3 f3 g3 k3
        have e3' : Ext w w3 := k3 w e2' (Nat.le_refl _)
        clear f1 f2 g1 g2 g3 k1 k2 k3 e1' e2'
        go_wp2
        go_ret
        exact ⟨_, rfl, e3', .inr (by rw [HP.out]; simpa using f3)⟩
      | some ad =>
        by_cases hl0 : l.length = 0
        · obtain rfl : l = [] := List.eq_nil_of_length_eq_zero hl0
          have hs0 : ∀ W, Ints W (.slice (some ad) 0 cv) [] := fun W => Ints.none_of (by unfold maxLen; omega) (fun h => by cases h)
          have HS := Lib.hid hs0
          clear hs0 hl0
          have hb1 : ([] : List Int).length + (([] : List Int)).length ≤ 1099511627776 := by simp
          have hb2 : (([] : List Int)).length ≤ 1099511627776 := by simp
          have hb3 : (([] : List Int) ++ [n]).length + (([] : List Int)).length ≤ 1099511627776 := by simp
          have HB := Lib.hid (And.intro hb1 (And.intro hb2 hb3))
          clear hb1 hb2 hb3
          go_wp2_with (at_builtin; refine wpList_join rfl _ _ rfl w.heap.size _ _ [] (([] : List Int)) rfl (fresh_lit w [] #[] _ rfl (Nat.le_refl _) (Nat.zero_le _)) rfl (HS.out _) HB.out.1 (size_alloc_le (Nat.le_refl _)) ?_)
          intro v1 w1 f1 g1 k1
          have e1' : Ext w w1 := k1 w (Ext.alloc (Ext.refl _) _) (Nat.le_refl _)
          go_wp2_with (at_builtin; refine wpList_push rfl _ _ rfl w.heap.size _ (([] : List Int)) n rfl (f1.ext (Ext.alloc (Ext.refl _) _)) ⟨w1.heap.size, 0, none⟩ 1 rfl (cell_alloc_one _ _ _) HB.out.2.1 (size_alloc_le e1'.size) ?_)
          intro v2 w2 f2 g2 k2
          have e2' : Ext w w2 := k2 w (e1'.alloc _) (Nat.le_refl _)
          go_wp2_with (at_builtin; refine wpList_join rfl _ _ rfl w.heap.size _ _ (([] : List Int) ++ [n]) (([] : List Int)) rfl f2 rfl (HS.out _) HB.out.2.2 e2'.size ?_)
          intro v3 w3 f3 g3 k3
          have e3' : Ext w w3 := k3 w e2' (Nat.le_refl _)
          clear f1 f2 g1 g2 g3 k1 k2 k3 e1' e2'
          go_wp2
          go_ret
          exact ⟨_, rfl, e3', .inr (by rw [HP.out]; simpa using f3)⟩
        · obtain ⟨bv, ov, had, _⟩ := hcv (by omega)
          cases had
          clear hcv
          have hs1 : ∀ W, Ext w W → Ints W (.slice (some ⟨bv, ov, none⟩) l.length cv) l := fun W h => hv0.ext h
          by_cases hcl : cv = l.length
          · subst hcl
            have hs3 : ∀ W, Ints W (.slice (some ⟨bv, ov, none⟩) 0 0) [] := fun W => Ints.none_of (by simp) (fun _ => rfl)
            have HS := Lib.hid (And.intro hs1 hs3)
            clear hs1 hs3
            have hb1 : ([] : List Int).length + (l).length ≤ 1099511627776 := by first | omega | (simp; omega)
            have hb2 : (l).length ≤ 1099511627776 := by first | omega | (simp; omega)
            have hb3 : (l ++ [n]).length + (([] : List Int)).length ≤ 1099511627776 := by first | omega | (simp; omega)
            have HB := Lib.hid (And.intro hb1 (And.intro hb2 hb3))
            clear hb1 hb2 hb3
            go_wp2_with (at_builtin; refine wpList_join rfl _ _ rfl w.heap.size _ _ [] (l) rfl (fresh_lit w [] #[] _ rfl (Nat.le_refl _) (Nat.zero_le _)) rfl (HS.out.1 _ (Ext.alloc (Ext.refl _) _)) HB.out.1 (size_alloc_le (Nat.le_refl _)) ?_)
            intro v1 w1 f1 g1 k1
            have e1' : Ext w w1 := k1 w (Ext.alloc (Ext.refl _) _) (Nat.le_refl _)
            go_wp2_with (at_builtin; refine wpList_push rfl _ _ rfl w.heap.size _ (l) n rfl (f1.ext (Ext.alloc (Ext.refl _) _)) ⟨w1.heap.size, 0, none⟩ 1 rfl (cell_alloc_one _ _ _) HB.out.2.1 (size_alloc_le e1'.size) ?_)
            intro v2 w2 f2 g2 k2
            have e2' : Ext w w2 := k2 w (e1'.alloc _) (Nat.le_refl _)
            go_wp2_with (at_builtin; refine wpList_join rfl _ _ rfl w.heap.size _ _ (l ++ [n]) (([] : List Int)) rfl f2 rfl (HS.out.2 _) HB.out.2.2 e2'.size ?_)
            intro v3 w3 f3 g3 k3
            have e3' : Ext w w3 := k3 w e2' (Nat.le_refl _)
            clear f1 f2 g1 g2 g3 k1 k2 k3 e1' e2'
            go_wp2
            go_ret
            exact ⟨_, rfl, e3', .inr (by rw [HP.out]; simpa using f3)⟩
          · have hs3 : ∀ W, Ints W (.slice (some ⟨bv, ov + l.length, none⟩) 0 (cv - l.length)) [] := fun W => Ints.none_of (by unfold maxLen; omega) (fun h => by cases h)
            have HS := Lib.hid (And.intro hs1 hs3)
            clear hs1 hs3
            have hb1 : ([] : List Int).length + (l).length ≤ 1099511627776 := by first | omega | (simp; omega)
            have hb2 : (l).length ≤ 1099511627776 := by first | omega | (simp; omega)
            have hb3 : (l ++ [n]).length + (([] : List Int)).length ≤ 1099511627776 := by first | omega | (simp; omega)
            have HB := Lib.hid (And.intro hb1 (And.intro hb2 hb3))
            clear hb1 hb2 hb3
            go_wp2_with (at_builtin; refine wpList_join rfl _ _ rfl w.heap.size _ _ [] (l) rfl (fresh_lit w [] #[] _ rfl (Nat.le_refl _) (Nat.zero_le _)) rfl (HS.out.1 _ (Ext.alloc (Ext.refl _) _)) HB.out.1 (size_alloc_le (Nat.le_refl _)) ?_)
            intro v1 w1 f1 g1 k1
            have e1' : Ext w w1 := k1 w (Ext.alloc (Ext.refl _) _) (Nat.le_refl _)
            go_wp2_with (at_builtin; refine wpList_push rfl _ _ rfl w.heap.size _ (l) n rfl (f1.ext (Ext.alloc (Ext.refl _) _)) ⟨w1.heap.size, 0, none⟩ 1 rfl (cell_alloc_one _ _ _) HB.out.2.1 (size_alloc_le e1'.size) ?_)
            intro v2 w2 f2 g2 k2
            have e2' : Ext w w2 := k2 w (e1'.alloc _) (Nat.le_refl _)
            go_wp2_with (at_builtin; refine wpList_join rfl _ _ rfl w.heap.size _ _ (l ++ [n]) (([] : List Int)) rfl f2 rfl (HS.out.2 _) HB.out.2.2 e2'.size ?_)
            intro v3 w3 f3 g3 k3
            have e3' : Ext w w3 := k3 w e2' (Nat.le_refl _)
            clear f1 f2 g1 g2 g3 k1 k2 k3 e1' e2'
            go_wp2
            go_ret
            exact ⟨_, rfl, e3', .inr (by rw [HP.out]; simpa using f3)⟩

end Go.Proofs.Ytihknedmkkakhaa

namespace Go.Proofs.Ytihknedmkkakhaa
open Go.RowKit
set_option linter.unusedVariables false

/-- Two slices of two element types lie in two blocks. -/
theorem types_apart {w : World} {B B' e e' sz sz' n m : Nat} {v u : Value} {xs ys : List Value} (h : w.ownsRow B e sz v n xs) (k : w.ownsRow B' e' sz' u m ys) (hne : e ≠ e') : u.ownBlock = none ∨ u.ownBlock ≠ v.ownBlock := by
  rcases k.2 with ⟨rfl, _⟩ | ⟨g', cap', cur', rfl, _, hg', _⟩
  · exact .inl rfl
  · refine .inr fun hb => ?_
    rcases h.2 with ⟨rfl, _⟩ | ⟨g, cap, cur, rfl, _, hg, _⟩
    · simp [Value.ownBlock] at hb
    · simp [Value.ownBlock] at hb
      subst hb
      rw [hg] at hg'
      simp at hg'
      exact hne hg'.2
theorem FreshSS.of {B : Nat} {w : World} {v : Value} {L : List (List Int)} {vs : List Value} (h : w.ownsRow B 30 1 v L.length vs) (r : Rows_ B w vs L) : FreshSS B w v L :=
  ⟨vs, h, r, fun j u hu => by
    have hj : j < vs.length := (List.getElem?_eq_some_iff.1 hu).1
    exact types_apart h (r.row j u _ hu (List.getElem?_eq_getElem (by rw [← r.len]; exact hj))) (by decide)⟩
theorem FreshSS.form {B : Nat} {w : World} {v : Value} {L : List (List Int)} (h : FreshSS B w v L) : ∃ ao cap, v = .slice ao L.length cap := by
  obtain ⟨ao, cap, hv, _⟩ := h.intss
  exact ⟨ao, cap, hv⟩

theorem wpList_pushSS {ops : Array Oper} {rest : List Oper} {o : Oper} {a : Act} {Q : Exit → Act → World → Prop} {w : World} (hgd : o.guard = none) (s x : Operand)
    (ho : o.op = .call { callee := .builtin .append, args := #[s, x], argTypes := #[24, 24] })
    (B : Nat) (v : Value) (L : List (List Int)) (l : List Int) (w0 : World) (hs : a.eval s = v) (hf : FreshSS B w0 v L) (e : Ext w0 w) (u : Value) (hu : Fresh w0.heap.size w u l) (ad : Addr) (c : Nat) (hx : a.eval x = .slice (some ad) 1 c)
    (hc : w.cell? ad = some u) (h1 : u.oneCell' = true) (hl : L.length ≤ 1048576) (hB : B ≤ w0.heap.size)
    (h : ∀ v' w', FreshSS B w' v' (L ++ [l]) → Kept B w w' → wpList Try.prog ops Q rest (a.put o.dst v') w') : wpList Try.prog ops Q (o :: rest) a w := by
  obtain ⟨i0, hi, hz0, hz1, hz2⟩ := info_parts Try.infoInts
  obtain ⟨vs, h1r, h2r, _⟩ := hf
  have ho1 := e.ownsRow h1r
  have hR := h2r.snoc e hu hB
  refine wpList_append_own _ hgd s x 24 ho B 30 i0 (.slice none 0 0) 1 24 Try.underlying24 hi hz0 hz1 hz2 rfl (by decide) v L.length _ hs ho1 ad 1 c [u] hx rfl ?_ ?_ ?_ ?_ (Nat.le_trans hB e.size) ?_
  · intro j z hj
    match j, hj with
    | 0, hj => simp at hj; subst hj; simpa [Addr.add] using hc
  · intro z hz; simp at hz; subst hz; exact h1
  · unfold maxLen; omega
  · omega
  · intro v' w' ho' hg _
    have hRt : Rows_ B w' (vs ++ [u]) (L ++ [l]) := hR.touch hg (fun j z hz => by
      have hj : j < (vs ++ [u]).length := (List.getElem?_eq_some_iff.1 hz).1
      exact types_apart ho1 (hR.row j z _ hz (List.getElem?_eq_getElem (by rw [← hR.len]; exact hj))) (by decide))
    refine h v' w' (FreshSS.of (by simpa using ho') hRt) (fun q hq hqB => Below.grown hq hg hq.size (fun b hb => Nat.le_trans hqB (World.ownsRow.lt ho1 b hb).1))

end Go.Proofs.Ytihknedmkkakhaa

namespace Go.Proofs.Ytihknedmkkakhaa
open Go.RowKit
set_option linter.unusedVariables false

/-- v is a slice in new memory that holds the values vs. -/
def FreshV (B : Nat) (w : World) (v : Value) (vs : List Value) : Prop := w.ownsRow B 30 1 v vs.length vs
theorem FreshV.ext {B : Nat} {w w' : World} {v : Value} {vs : List Value} (h : FreshV B w v vs) (e : Ext w w') : FreshV B w' v vs := e.ownsRow h
theorem FreshV.more {B B' : Nat} {w : World} {v : Value} {vs : List Value} (h : FreshV B w v vs) (hb : B' ≤ B) : FreshV B' w v vs := ownsRow_more h hb
theorem FreshV.nil (B : Nat) (w : World) : FreshV B w (.slice none 0 0) [] := World.ownsRow_nil _ _ _ _

theorem wpList_pushV {ops : Array Oper} {rest : List Oper} {o : Oper} {a : Act} {Q : Exit → Act → World → Prop} {w : World} (hgd : o.guard = none) (s x : Operand)
    (ho : o.op = .call { callee := .builtin .append, args := #[s, x], argTypes := #[24, 24] })
    (B : Nat) (v : Value) (vs : List Value) (hs : a.eval s = v) (hf : FreshV B w v vs) (u : Value) (ad : Addr) (c : Nat) (hx : a.eval x = .slice (some ad) 1 c)
    (hc : w.cell? ad = some u) (h1 : u.oneCell' = true) (hl : vs.length ≤ 1048576) (hB : B ≤ w.heap.size)
    (h : ∀ v' w', FreshV B w' v' (vs ++ [u]) → w.grownBy w' v.ownBlock → Kept B w w' → wpList Try.prog ops Q rest (a.put o.dst v') w') : wpList Try.prog ops Q (o :: rest) a w := by
  obtain ⟨i0, hi, hz0, hz1, hz2⟩ := info_parts Try.infoInts
  refine wpList_append_own _ hgd s x 24 ho B 30 i0 (.slice none 0 0) 1 24 Try.underlying24 hi hz0 hz1 hz2 rfl (by decide) v vs.length _ hs hf ad 1 c [u] hx rfl ?_ ?_ ?_ ?_ hB ?_
  · intro j z hj
    match j, hj with
    | 0, hj => simp at hj; subst hj; simpa [Addr.add] using hc
  · intro z hz; simp at hz; subst hz; exact h1
  · unfold maxLen; omega
  · omega
  · intro v' w' ho' hg _
    exact h v' w' (by unfold FreshV; simpa using ho') hg (fun q hq hqB => Below.grown hq hg hq.size (fun b hb => Nat.le_trans hqB (World.ownsRow.lt hf b hb).1))

/-- The cells of a slice of lists, as values. -/
def ReadsV (w : World) (v : Value) (vs : List Value) : Prop :=
  ∃ ao cap, v = .slice ao vs.length cap ∧ (ao = none → cap = 0 ∧ vs = []) ∧ (vs.length ≤ cap ∧ cap ≤ maxLen) ∧ ∀ b off, ao = some ⟨b, off, none⟩ → ∀ j z, vs[j]? = some z → w.cell? ⟨b, off + j, none⟩ = some z

theorem wpList_joinV {ops : Array Oper} {rest : List Oper} {o : Oper} {a : Act} {Q : Exit → Act → World → Prop} {w : World} (hgd : o.guard = none) (s x : Operand)
    (ho : o.op = .call { callee := .builtin .append, args := #[s, x], argTypes := #[24, 24] })
    (B : Nat) (v : Value) (vs us : List Value) (hs : a.eval s = v) (hf : FreshV B w v vs) (b off c : Nat) (hx : a.eval x = .slice (some ⟨b, off, none⟩) us.length c)
    (hc : ∀ j z, us[j]? = some z → w.cell? ⟨b, off + j, none⟩ = some z) (h1 : ∀ u ∈ us, u.oneCell' = true) (hl : vs.length + us.length ≤ 1048576) (hB : B ≤ w.heap.size)
    (h : ∀ v' w', FreshV B w' v' (vs ++ us) → w.grownBy w' v.ownBlock → Kept B w w' → wpList Try.prog ops Q rest (a.put o.dst v') w') : wpList Try.prog ops Q (o :: rest) a w := by
  obtain ⟨i0, hi, hz0, hz1, hz2⟩ := info_parts Try.infoInts
  refine wpList_append_own _ hgd s x 24 ho B 30 i0 (.slice none 0 0) 1 24 Try.underlying24 hi hz0 hz1 hz2 rfl (by decide) v vs.length _ hs hf ⟨b, off, none⟩ us.length c us hx (by simp) ?_ ?_ ?_ ?_ hB ?_
  · intro j z hj
    rw [show (⟨b, off, none⟩ : Addr).add j = ⟨b, off + j, none⟩ by simp [Addr.add]]
    exact hc j z hj
  · intro z hz; exact h1 z hz
  · unfold maxLen; omega
  · omega
  · intro v' w' ho' hg _
    exact h v' w' (by unfold FreshV; rw [List.length_append]; exact ho') hg (fun q hq hqB => Below.grown hq hg hq.size (fun b hb => Nat.le_trans hqB (World.ownsRow.lt hf b hb).1))

/-- A row of a list in new memory, by its value. -/
theorem FreshSS.vals {B : Nat} {w : World} {v : Value} {L : List (List Int)} (h : FreshSS B w v L) : ∃ vs, FreshV B w v vs ∧ Rows_ B w vs L := by
  obtain ⟨vs, h1, h2, _⟩ := h
  exact ⟨vs, by unfold FreshV; rw [h2.len]; exact h1, h2⟩
theorem FreshV.ss {B : Nat} {w : World} {v : Value} {vs : List Value} {L : List (List Int)} (h : FreshV B w v vs) (r : Rows_ B w vs L) : FreshSS B w v L :=
  FreshSS.of (by rw [← r.len]; exact h) r
/-- Rows picked by indices without repeats are rows still. -/
theorem Rows_.pick {B : Nat} {w : World} {vs : List Value} {L : List (List Int)} (h : Rows_ B w vs L) (is : List Nat) (hn : is.Nodup) (hb : ∀ i ∈ is, i < vs.length) :
    Rows_ B w (is.map fun i => vs[i]?.getD (.slice none 0 0)) (is.map fun i => L[i]?.getD []) := by
  refine ⟨by simp, fun j u l hu hl => ?_, fun i j u z hij hu hz => ?_⟩
  · rw [List.getElem?_map] at hu hl
    cases hj : is[j]? with
    | none => rw [hj] at hu; simp at hu
    | some i =>
      have hi := hb i (List.mem_of_getElem? hj)
      rw [hj] at hu hl
      simp only [Option.map_some, Option.some.injEq] at hu hl
      rw [List.getElem?_eq_getElem hi, Option.getD_some] at hu
      rw [List.getElem?_eq_getElem (by rw [← h.len]; exact hi), Option.getD_some] at hl
      exact h.row i u l (by rw [List.getElem?_eq_getElem hi, hu]) (by rw [List.getElem?_eq_getElem (by rw [← h.len]; exact hi), hl])
  · rw [List.getElem?_map] at hu hz
    cases hi : is[i]? with
    | none => rw [hi] at hu; simp at hu
    | some a =>
      cases hj : is[j]? with
      | none => rw [hj] at hz; simp at hz
      | some b =>
        have ha := hb a (List.mem_of_getElem? hi)
        have hb' := hb b (List.mem_of_getElem? hj)
        rw [hi] at hu
        rw [hj] at hz
        simp only [Option.map_some, Option.some.injEq] at hu hz
        rw [List.getElem?_eq_getElem ha, Option.getD_some] at hu
        rw [List.getElem?_eq_getElem hb', Option.getD_some] at hz
        have hab : a ≠ b := by
          intro e
          subst e
          have h1 := (List.getElem?_eq_some_iff.1 hi)
          have h2 := (List.getElem?_eq_some_iff.1 hj)
          obtain ⟨l1, e1⟩ := h1
          obtain ⟨l2, e2⟩ := h2
          exact hij ((List.getElem_inj hn).1 (by rw [e1, e2]))
        exact h.apart a b u z hab (by rw [List.getElem?_eq_getElem ha, hu]) (by rw [List.getElem?_eq_getElem hb', hz])

end Go.Proofs.Ytihknedmkkakhaa

namespace Go.Proofs.Ytihknedmkkakhaa
open Go.RowKit
set_option linter.unusedVariables false

theorem Rows_.put {B k : Nat} {w w' : World} {vs : List Value} {L : List (List Int)} {u : Value} {l : List Int} (h : Rows_ B w vs L) (hk : k < vs.length) (e : Ext w w') (hu : Fresh w.heap.size w' u l) (hB : B ≤ w.heap.size) : Rows_ B w' (vs.set k u) (L.set k l) := by
  have hkL : k < L.length := by rw [← h.len]; exact hk
  refine ⟨by rw [List.length_set, List.length_set]; exact h.len, fun j z r hz hr => ?_, fun i j z y hij hz hy => ?_⟩
  · rw [List.getElem?_set] at hz hr
    by_cases e1 : k = j
    · subst e1
      rw [if_pos rfl, if_pos hk] at hz
      rw [if_pos rfl, if_pos hkL] at hr
      rw [← Option.some.inj hz, ← Option.some.inj hr]
      exact hu.more hB
    · rw [if_neg e1] at hz hr
      exact (h.row j z r hz hr).ext e
  · rw [List.getElem?_set] at hz hy
    have rowOf : ∀ j z, vs[j]? = some z → ∃ r, Fresh B w z r := fun j z hz => by
      have hj := (List.getElem?_eq_some_iff.1 hz).1
      exact ⟨_, h.row j z _ hz (List.getElem?_eq_getElem (by rw [← h.len]; exact hj))⟩
    by_cases e1 : k = i
    · by_cases e2 : k = j
      · omega
      · rw [if_pos e1, if_pos hk] at hz
        rw [if_neg e2] at hy
        obtain ⟨r, hr⟩ := rowOf j y hy
        rw [← Option.some.inj hz]
        exact Fresh.apart hr hu (Nat.le_refl _)
    · rw [if_neg e1] at hz
      by_cases e2 : k = j
      · rw [if_pos e2, if_pos hk] at hy
        obtain ⟨r, hr⟩ := rowOf i z hz
        rw [← Option.some.inj hy]
        exact Fresh.apart' hr hu (Nat.le_refl _)
      · rw [if_neg e2] at hy
        exact h.apart i j z y hij hz hy

/-- What holds while a graph is drawn: its list lies in block gb. -/
structure DG (w : World) (b M : Nat) (cv : Value) (N gb n Z : Nat) (vs : List Value) (L : List (List Int)) (wr : World) : Prop where
  cur : CurAt wr b M cv N
  grown : w.grownBy wr (some b)
  own : wr.ownsRow w.heap.size 30 1 (.slice (some ⟨gb, 0, none⟩) n n) n vs
  rows : Rows_ w.heap.size wr vs L
  len : L.length = n
  small : ∀ l ∈ L, l.length ≤ Z
theorem DG.hne {w : World} {b M : Nat} {cv : Value} {N gb n Z : Nat} {vs : List Value} {L : List (List Int)} {wr : World} (h : DG w b M cv N gb n Z vs L wr) (hb : b < w.heap.size) : b ≠ gb := by
  have := (World.ownsRow.lt h.own gb rfl).1
  omega
/-- The cursor alone is turned. -/
theorem DG.turn {w : World} {b M M' : Nat} {cv : Value} {N gb n Z : Nat} {vs : List Value} {L : List (List Int)} {wr w' : World} (h : DG w b M cv N gb n Z vs L wr) (hb : b < w.heap.size) (C : CurAt w' b M' cv N) (T : wr.grownBy w' (some b)) : DG w b M' cv N gb n Z vs L w' := by
  have low : ∀ (B e sz k : Nat) (v : Value) (xs : List Value), wr.ownsRow B e sz v k xs → w.heap.size ≤ B → v.ownBlock = none ∨ v.ownBlock ≠ some b := fun B e sz k v xs ho hB => .inr fun e => by
    have := (World.ownsRow.lt ho b e).1
    omega
  refine ⟨C, Lib.grownBy_trans h.grown T, World.ownsRow.kept h.own T (low _ _ _ _ _ _ h.own (Nat.le_refl _)), h.rows.touch T (fun j u hu => ?_), h.len, h.small⟩
  have hj := (List.getElem?_eq_some_iff.1 hu).1
  exact low _ _ _ _ _ _ (h.rows.row j u _ hu (List.getElem?_eq_getElem (by rw [← h.rows.len]; exact hj))) (Nat.le_refl _)
theorem DG.mono {w : World} {b M M' : Nat} {cv : Value} {N gb n Z Z' : Nat} {vs : List Value} {L : List (List Int)} {wr : World} (h : DG w b M cv N gb n Z vs L wr) (hm : M ≤ M') (hz : Z ≤ Z') : DG w b M' cv N gb n Z' vs L wr :=
  ⟨h.cur.mono hm, h.grown, h.own, h.rows, h.len, fun l hl => Nat.le_trans (h.small l hl) hz⟩
/-- A list is put in the place of another. -/
theorem DG.store {w : World} {b M : Nat} {cv : Value} {N gb n Z k : Nat} {vs : List Value} {L : List (List Int)} {wr w' : World} {u : Value} {l : List Int} (h : DG w b M cv N gb n Z vs L wr) (hb : b < w.heap.size) (hB : BytesAt w b cv N) (hk : k < n) (e : Ext wr w') (hu : Fresh wr.heap.size w' u l) (hl : l.length ≤ Z + 1) : DG w b M cv N gb n (Z + 1) (vs.set k u) (L.set k l) (w'.setCell ⟨gb, k, none⟩ u) := by
  have hne := h.hne hb
  have hvl : vs.length = n := by rw [h.rows.len]; exact h.len
  have G' : w.grownBy w' (some b) := ⟨e.os.trans h.grown.os, e.tape.trans h.grown.tape, e.output.trans h.grown.output, Nat.le_trans h.grown.size e.size, fun q hq hn => (Below.block e q (Nat.lt_of_lt_of_le hq h.grown.size)).trans (h.grown.block q hq hn)⟩
  have hgb := (World.ownsRow.lt h.own gb rfl).1
  have hgl := (World.ownsRow.lt h.own gb rfl).2
  have G'' : w.grownBy (w'.setCell ⟨gb, k, none⟩ u) (some b) := grownBy_new G' hgb k u
  have hr := h.rows.put (k := k) (by omega) e hu h.grown.size
  have ho := (World.ownsRow.stored (e.ownsRow h.own) k u).1
  have hg1 := (World.ownsRow.stored (e.ownsRow h.own) k u).2
  refine ⟨(h.cur.ext e).set hne (hB.turned G''), G'', ho, hr.touch hg1 (fun j z hz => ?_), by rw [List.length_set]; exact h.len, fun r hr => ?_⟩
  · have hj := (List.getElem?_eq_some_iff.1 hz).1
    have := types_apart (e.ownsRow h.own) (hr.row j z _ hz (List.getElem?_eq_getElem (by rw [← hr.len]; exact hj))) (by decide)
    exact this
  · rcases List.mem_or_eq_of_mem_set hr with hr | rfl
    · have := h.small r hr; omega
    · exact hl
theorem DG.store_same {w : World} {b M : Nat} {cv : Value} {N gb n Z k : Nat} {vs : List Value} {L : List (List Int)} {wr w' : World} {u : Value} (h : DG w b M cv N gb n Z vs L wr) (hb : b < w.heap.size) (hB : BytesAt w b cv N) (hk : vs[k]? = some u) (e : Ext wr w') : DG w b M cv N gb n Z vs L (w'.setCell ⟨gb, k, none⟩ u) := by
  have hne := h.hne hb
  have G' : w.grownBy w' (some b) := ⟨e.os.trans h.grown.os, e.tape.trans h.grown.tape, e.output.trans h.grown.output, Nat.le_trans h.grown.size e.size, fun q hq hn => (Below.block e q (Nat.lt_of_lt_of_le hq h.grown.size)).trans (h.grown.block q hq hn)⟩
  have hgb := (World.ownsRow.lt h.own gb rfl).1
  have G'' : w.grownBy (w'.setCell ⟨gb, k, none⟩ u) (some b) := grownBy_new G' hgb k u
  have ho := (World.ownsRow.stored (e.ownsRow h.own) k u).1
  have hg1 := (World.ownsRow.stored (e.ownsRow h.own) k u).2
  have hset : vs.set k u = vs := by
    obtain ⟨hlt, he⟩ := List.getElem?_eq_some_iff.1 hk
    rw [← he]; exact List.set_getElem_self hlt
  rw [hset] at ho
  refine ⟨(h.cur.ext e).set hne (hB.turned G''), G'', ho, (h.rows.ext e).touch hg1 (fun j z hz => ?_), h.len, h.small⟩
  have hj := (List.getElem?_eq_some_iff.1 hz).1
  have := types_apart (e.ownsRow h.own) ((h.rows.ext e).row j z _ hz (List.getElem?_eq_getElem (by rw [← h.rows.len]; exact hj))) (by decide)
  exact this

/-- The list of lists is new. -/
theorem DG.start {w wr w1 : World} {b M : Nat} {cv : Value} {N n : Nat} (C : CurAt wr b M cv N) (T : w.grownBy wr (some b)) (hg : wr.grownBy w1 none) (ho : w1.ownsRow wr.heap.size 30 1 (.slice (some ⟨wr.heap.size, 0, none⟩) n n) n (List.replicate n (.slice none 0 0))) : DG w b M cv N wr.heap.size n 0 (List.replicate n (.slice none 0 0)) (List.replicate n []) w1 := by
  have e := ext_of_grown hg
  refine ⟨C.ext e, ⟨e.os.trans T.os, e.tape.trans T.tape, e.output.trans T.output, Nat.le_trans T.size e.size, fun q hq hn => (Below.block e q (Nat.lt_of_lt_of_le hq T.size)).trans (T.block q hq hn)⟩, ownsRow_more ho T.size, ⟨by simp, fun j u l hu hl => ?_, fun i j u z hij hu hz => ?_⟩, by simp, fun l hl => ?_⟩
  · rw [List.getElem?_replicate] at hu hl
    split at hu
    · rw [if_pos (by assumption)] at hl
      rw [← Option.some.inj hu, ← Option.some.inj hl]
      exact World.ownsRow_nil _ _ _ _
    · cases hu
  · rw [List.getElem?_replicate] at hu
    split at hu
    · rw [← Option.some.inj hu]; exact .inl rfl
    · cases hu
  · rw [(List.mem_replicate.1 hl).2]; exact Nat.zero_le _
theorem DG.done {w : World} {b M : Nat} {cv : Value} {N gb n Z : Nat} {vs : List Value} {L : List (List Int)} {wr : World} (h : DG w b M cv N gb n Z vs L wr) : FreshSS w.heap.size wr (.slice (some ⟨gb, 0, none⟩) n n) L := by
  refine ⟨vs, by rw [h.len]; exact h.own, h.rows, fun j u hu => ?_⟩
  have hj := (List.getElem?_eq_some_iff.1 hu).1
  exact types_apart h.own (h.rows.row j u _ hu (List.getElem?_eq_getElem (by rw [← h.rows.len]; exact hj))) (by decide)
theorem sum_small (Z : Nat) : ∀ (L : List (List Int)), (∀ l ∈ L, l.length ≤ Z) → (L.map List.length).sum ≤ Z * L.length
  | [], _ => by simp
  | l :: L, h => by
    have h1 := h l (by simp)
    have h2 := sum_small Z L (fun r hr => h r (by simp [hr]))
    simp only [List.map_cons, List.sum_cons, List.length_cons, Nat.mul_add, Nat.mul_one]
    omega
theorem DG.bulk_le {w : World} {b M : Nat} {cv : Value} {N gb n Z : Nat} {vs : List Value} {L : List (List Int)} {wr : World} (h : DG w b M cv N gb n Z vs L wr) (hn : n ≤ 41) (hZ : Z ≤ 100) : bulk L ≤ 8000 := by
  have h1 := sum_small Z L h.small
  have h2 := h.len
  have h3 : Z * L.length ≤ 100 * 41 := Nat.mul_le_mul hZ (by omega)
  unfold bulk
  omega
theorem putI_most (l : List Int) (n : Int) : (putI l n).length ≤ l.length + 1 := by
  unfold putI
  split
  · omega
  · simp only [List.length_append, List.length_take, List.length_drop, List.length_cons, List.length_nil]
    omega
theorem DG.put {w : World} {b M : Nat} {cv : Value} {N gb n Z k : Nat} {vs : List Value} {L : List (List Int)} {wr w' : World} {u u' : Value} {l : List Int} {x : Int} (h : DG w b M cv N gb n Z vs L wr) (hb : b < w.heap.size) (hB : BytesAt w b cv N) (hk : k < n) (hu : vs[k]? = some u) (hl : L[k]? = some l) (e : Ext wr w') (hp : (u' = u ∧ putI l x = l) ∨ Fresh wr.heap.size w' u' (putI l x)) : ∃ vs' L', DG w b M cv N gb n (Z + 1) vs' L' (w'.setCell ⟨gb, k, none⟩ u') := by
  rcases hp with ⟨rfl, _⟩ | hf
  · exact ⟨vs, L, (h.store_same hb hB hu e).mono (Nat.le_refl _) (by omega)⟩
  · have h1 := h.small l (List.mem_of_getElem? hl)
    have h2 := putI_most l x
    exact ⟨_, _, h.store hb hB hk e hf (by omega)⟩

theorem put_form {B B' : Nat} {w w' : World} {u u' : Value} {l r : List Int} {P : Prop} (h : Fresh B w u l) (hp : (u' = u ∧ P) ∨ Fresh B' w' u' r) : ∃ ao n c, u' = .slice ao n c := by
  rcases hp with ⟨rfl, _⟩ | hf
  · obtain ⟨ao, c, hv, _⟩ := h.ints
    exact ⟨ao, _, c, hv⟩
  · obtain ⟨ao, c, hv, _⟩ := hf.ints
    exact ⟨ao, _, c, hv⟩

/-- Some graph comes back in new memory. -/
def SomeG (w : World) (b M : Nat) (cv : Value) (N : Nat) (e : Ending) (w' : World) : Prop :=
  ∃ gv g, e = .returned gv ∧ FreshSS w.heap.size w' gv g ∧ g.length ≤ 41 ∧ bulk g ≤ 8000 ∧ CurAt w' b M cv N ∧ w.grownBy w' (some b)

set_option maxRecDepth 100000 in
set_option maxHeartbeats 8000000 in
theorem graph_any (b m : Nat) (cv : Value) (N : Nat) (w : World) (h : CurAt w b m cv N) (hm : m ≤ 1000000) :
    Calls Try.prog 49 #[.pointer (some ⟨b, 0, none⟩)] w (SomeG w b (m + 1000) cv N) := by
  have hb : b < w.heap.size := World.block_lt_of_cell? w _ h.1
  have HBY := Lib.hid h.2.2.2.2
  have HC := Lib.hid h
  obtain ⟨i0, hi, hz0, hz1, hz2⟩ := info_parts Try.infoInts
  have HI := Lib.hid (And.intro hi (And.intro hz0 (And.intro hz1 hz2)))
  clear h hi hz0 hz1 hz2
  go_enter Try.func49, Try.ntmps49
  go_wp2_with fail
  refine (pick_any 8 b m cv N _ HC.out (by omega) (by omega) (by omega)).mono ?_
  rintro e w1 ⟨x1, rfl, x10, x11, C1, T1⟩
  have H1 := Lib.hid C1
  have HT1 := Lib.hid T1
  clear C1 T1 HC
  go_wp2_with fail
  refine (one_any 30 b (m + 2) cv N _ H1.out (by omega) (by omega) (by omega)).mono ?_
  rintro e w2 ⟨r, rfl, C2, T2⟩
  have H2 := Lib.hid C2
  have HT2 := Lib.hid (Lib.grownBy_trans HT1.out T2)
  clear C2 T2 H1 HT1
  obtain ⟨n, hn⟩ : ∃ n : Nat, x1 = (n : Int) := ⟨x1.toNat, by omega⟩
  subst hn
  cases r
  case' true =>
    go_wp2_with fail
    refine (pick_any 2 b (m + 4) cv N _ H2.out (by omega) (by omega) (by omega)).mono ?_
    rintro e w3 ⟨x3, rfl, x30, x31, C3, T3⟩
    have H3 := Lib.hid (C3.mono (show m + 4 + 2 ≤ m + 6 by omega))
    have HT3 := Lib.hid (Lib.grownBy_trans HT2.out T3)
    clear C3 T3 H2 HT2
    obtain ⟨p, hp⟩ : ∃ p : Nat, x3 = (p : Int) := ⟨x3.toNat, by omega⟩
    subst hp
    go_wp2_with (have e40 : (40 : Int) + (p : Int) = ((40 + p : Nat) : Int) := (by omega); rw [e40]; at_make; refine wpList_make_full _ rfl _ _ 24 rfl w3.heap.size 30 i0 (.slice none 0 0) 1 Try.underlying24 HI.out.1 HI.out.2.1 HI.out.2.2.1 _ _ _ _ (40 + p) rfl rfl rfl rfl ?c1 ?c2 ?c3 ?_)
    case c1 => rw [HI.out.2.2.2]; omega
    case c2 => unfold maxLen; omega
    case c3 => simp
    intro w4 ho1 hg1
    obtain ⟨q, hq⟩ : ∃ q : Nat, q = 40 + p := ⟨_, rfl⟩
    have hq41 : q ≤ 41 := by omega
    rw [← hq] at ho1 ⊢
    clear hq x30 x31
  case' false =>
    obtain ⟨q, hq⟩ : ∃ q : Nat, q = n := ⟨_, rfl⟩
    subst hq
    obtain ⟨w3, hw3⟩ : ∃ w3, w3 = w2 := ⟨_, rfl⟩
    subst hw3
    have H3 := Lib.hid (H2.out.mono (show m + 2 + 2 ≤ m + 6 by omega))
    have HT3 := Lib.hid HT2.out
    clear H2 HT2
    have hq41 : q ≤ 41 := by omega
    go_wp2_with (at_make; refine wpList_make_full _ rfl _ _ 24 rfl w3.heap.size 30 i0 (.slice none 0 0) 1 Try.underlying24 HI.out.1 HI.out.2.1 HI.out.2.2.1 _ _ _ _ q rfl rfl rfl rfl ?c1 ?c2 ?c3 ?_)
    case c1 => rw [HI.out.2.2.2]; omega
    case c2 => unfold maxLen; omega
    case c3 => simp
    intro w4 ho1 hg1
  all_goals
    have ho : w4.ownsRow w3.heap.size 30 1 (.slice (some ⟨w3.heap.size, 0, none⟩) q q) q (List.replicate q (.slice none 0 0)) := by
      have hc : (Value.slice none 0 0).cells = #[Value.slice none 0 0] := rfl
      try simp only [hc, Nat.mul_one] at ho1
      rw [toList_madeCells_one] at ho1
      exact ho1
    have D0 := Lib.hid (DG.start H3.out HT3.out hg1 ho)
    clear ho1 hg1 ho H3 x10 x11
    obtain ⟨gb, hgb⟩ : ∃ gb, gb = w3.heap.size := ⟨_, rfl⟩
    rw [← hgb] at D0 ⊢
    clear hgb HT3
    go_wp2
    go_loopw [18] (fun i wr => ∃ (k : Nat) (vs : List Value) (L : List (List Int)), k ≤ q ∧ i = .int .i64 k ∧ Hid (DG w b (m + 6 + 6 * k) cv N gb q (2 * k) vs L wr)) (fun i _ => q - (intOf i).toNat)
    case atStart => exact ⟨0, _, _, Nat.zero_le _, rfl, D0⟩
    case round =>
      clear D0
      obtain ⟨k, vs, L, hk, rfl, D⟩ := hrel
      by_cases hlt : k < q
      · go_wp2_with fail
        refine (pick_any 3 b (m + 6 + 6 * k) cv N _ D.out.cur (by omega) (by omega) (by omega)).mono ?_
        rintro e w5 ⟨x5, rfl, x50, x51, C5, T5⟩
        have D5 := Lib.hid (D.out.turn hb C5 T5)
        clear D C5 T5
        obtain ⟨j0, hj0⟩ : ∃ j0 : Nat, x5 = (j0 : Int) := ⟨x5.toNat, by omega⟩
        subst hj0
        go_wp2
        go_loopw [6] (fun i wr => ∃ (j : Nat) (vs : List Value) (L : List (List Int)), j ≤ 2 ∧ i = .int .i64 j ∧ Hid (DG w b (m + 8 + 6 * k + 2 * (2 - j)) cv N gb q (2 * k + (2 - j)) vs L wr)) (fun i _ => (intOf i).toNat)
        case atStart => exact ⟨j0, vs, L, by omega, rfl, Lib.hid (D5.out.mono (by omega) (by omega))⟩
        case round =>
          clear D5 x50 x51
          obtain ⟨j, vs', L', hj, rfl, D⟩ := hrel
          by_cases hj1 : 0 < j
          · have hvl : vs'.length = q := by rw [D.out.rows.len]; exact D.out.len
            obtain ⟨u, hu⟩ : ∃ u, vs'[k]? = some u := ⟨_, List.getElem?_eq_getElem (by omega)⟩
            obtain ⟨l, hl⟩ : ∃ l, L'[k]? = some l := ⟨_, List.getElem?_eq_getElem (by rw [D.out.len]; omega)⟩
            have HU := Lib.hid (And.intro hu hl)
            have hll := Lib.hid (D.out.small l (List.mem_of_getElem? hl))
            have go1 := (D.out.own.cellAt k (by omega)).trans hu
            have gf1 := D.out.own.frozenAt k
            clear hu hl hvl
            go_wp2
            go_region_law (first
              | (go_simp; go_at_call 50; refine (pick_any q b _ cv N _ (D.out.cur.ext (Ext.drew (Ext.refl _))) (by omega) (by omega) (by omega)).mono ?_; rintro e w6 ⟨x6, rfl, x60, x61, C6, T6⟩; have D6 := Lib.hid (D.out.turn hb C6 (grownBy_undrew T6)); have go6 := (D6.out.own.cellAt k (by have := D6.out.rows.len; have := D6.out.len; omega)).trans HU.out.1; have gf6 := D6.out.own.frozenAt k; clear C6 T6)
              | (go_simp; go_at_call 97; refine (l1Put_any _ _ _ _ (D6.out.rows.row k _ _ HU.out.1 HU.out.2).ints (by have := hll.out; omega)).mono ?_; rintro e w7 ⟨u', rfl, x7, hp7⟩; obtain ⟨ao7, n7, c7, he7⟩ := put_form (D6.out.rows.row k _ _ HU.out.1 HU.out.2) hp7; subst he7; have o7 := x7.ownsRow D6.out.own; have gf7 := o7.frozenAt k; have go7 := (o7.cellAt k (by have := D6.out.rows.len; have := D6.out.len; omega)).trans HU.out.1; have D7 := Lib.hid (D6.out.put hb HBY.out (by omega) HU.out.1 HU.out.2 x7 hp7); clear o7))
            all_goals
              obtain ⟨vs7, L7, D8⟩ := D7.out
              have D9 := Lib.hid (D8.mono (show _ ≤ m + 8 + 6 * k + 2 * (2 - (j - 1)) by omega) (show _ ≤ 2 * k + (2 - (j - 1)) by omega))
              clear D8
              go_wp2
              go_roundw
              case rel => exact ⟨j - 1, vs7, L7, by omega, by go_num, D9⟩
              case measure => simp [intOf]; omega
          · obtain rfl : j = 0 := by omega
            go_wp2
            go_roundw
            case rel => exact ⟨k + 1, vs', L', by omega, by go_num, Lib.hid (D.out.mono (by omega) (by omega))⟩
            case measure => simp [intOf]; omega
      · have hkq : q = k := by omega
        subst hkq
        by_cases hq0 : 0 < q
        · go_wp2_with fail
          refine (one_any 30 b (m + 6 + 6 * q) cv N _ D.out.cur (by omega) (by omega) (by omega)).mono ?_
          rintro e w5 ⟨r, rfl, C5, T5⟩
          have D5 := Lib.hid (D.out.turn hb C5 T5)
          clear D C5 T5
          cases r with
          | true =>
            have hvl : vs.length = q := by rw [D5.out.rows.len]; exact D5.out.len
            obtain ⟨u, hu⟩ : ∃ u, vs[0]? = some u := ⟨_, List.getElem?_eq_getElem (by omega)⟩
            have hgl := (World.ownsRow.lt D5.out.own gb rfl).2
            have E5 : Ext w5 (w5.alloc (.cells #[.int .i64 q] 3)) := Ext.alloc (Ext.refl w5) _
            have oA := E5.ownsRow D5.out.own
            have go1 := (oA.cellAt 0 (by omega)).trans hu
            have gf1 := oA.frozenAt 0
            have D6 := Lib.hid (D5.out.store (u := .slice (some ⟨w5.heap.size, 0, none⟩) 1 1) (l := [(q : Int)]) hb HBY.out hq0 E5 (fresh_lit w5 [(q : Int)] #[.int .i64 q] w5.heap.size rfl (Nat.le_refl _) (by simp)) (by simp))
            clear hvl hu E5 oA
            go_wp2
            go_ret
            have D7 := D6.out
            rw [World.setCell_alloc_past _ _ _ _ hgl] at D7
            exact ⟨_, _, rfl, D7.done, by rw [D7.len]; exact hq41, D7.bulk_le hq41 (by omega), D7.cur.mono (by omega), D7.grown⟩
          | false =>
            go_wp2
            go_ret
            exact ⟨_, _, rfl, D5.out.done, by rw [D5.out.len]; exact hq41, D5.out.bulk_le hq41 (by omega), D5.out.cur.mono (by omega), D5.out.grown⟩
        · go_wp2
          go_ret
          exact ⟨_, _, rfl, D.out.done, by rw [D.out.len]; exact hq41, D.out.bulk_le hq41 (by omega), D.out.cur.mono (by omega), D.out.grown⟩

end Go.Proofs.Ytihknedmkkakhaa

namespace Go.Proofs.Ytihknedmkkakhaa
open Go.RowKit
set_option linter.unusedVariables false

/-- Some graph comes back in new memory, and nothing that was there is turned. -/
def NewG (w : World) (e : Ending) (w' : World) : Prop :=
  ∃ gv g, e = .returned gv ∧ FreshSS w.heap.size w' gv g ∧ g.length ≤ 41 ∧ bulk g ≤ 8000 ∧ Ext w w'

set_option maxHeartbeats 400000 in
theorem drawGoodGraph_any (v : Value) (N : Nat) (w : World) (hv : BytesIn w v N) :
    Calls Try.prog 43 #[v] w (NewG w) := by
  have HV := Lib.hid hv
  obtain ⟨av, cv, rfl, hN, _⟩ := hv
  go_enter Try.func43, Try.ntmps43
  go_wp2_with fail
  refine (graph_any w.heap.size 0 _ N _ (cur_new HV.out _) (by omega)).mono ?_
  rintro e w1 ⟨gv, g, rfl, f1, hg1, hb1, C1, T1⟩
  have x1 := ext_new_grown T1
  have F1 := Lib.hid (f1.more (B' := w.heap.size) (by simp))
  clear f1 C1 T1
  go_wp2
  go_ret
  exact ⟨_, g, rfl, F1.out, hg1, hb1, x1⟩

set_option maxHeartbeats 400000 in
theorem drawComponentsOf_any (v : Value) (N : Nat) (w : World) (hv : BytesIn w v N) :
    Calls Try.prog 10 #[v] w (NewG w) := by
  have HV := Lib.hid hv
  obtain ⟨av, cv, rfl, hN, _⟩ := hv
  go_enter Try.func10, Try.ntmps10
  go_wp2_with fail
  refine (drawGoodGraph_any _ N _ HV.out).mono ?_
  rintro e w1 ⟨gv, g, rfl, f1, hg1, hb1, x1⟩
  have F1 := Lib.hid f1
  clear f1
  go_wp2
  go_ret
  exact ⟨_, g, rfl, F1.out, hg1, hb1, x1⟩

theorem FreshSS.turned {B b : Nat} {w w' : World} {v : Value} {L : List (List Int)} (h : FreshSS B w v L) (hb : b < B) (T : w.grownBy w' (some b)) : FreshSS B w' v L := by
  obtain ⟨vs, h1, h2, h3⟩ := h
  have low : ∀ (e sz k : Nat) (v : Value) (xs : List Value), w.ownsRow B e sz v k xs → v.ownBlock = none ∨ v.ownBlock ≠ some b := fun e sz k v xs ho => .inr fun e => by
    have := (World.ownsRow.lt ho b e).1
    omega
  refine ⟨vs, World.ownsRow.kept h1 T (low _ _ _ _ _ h1), h2.touch T (fun j u hu => ?_), h3⟩
  have hj := (List.getElem?_eq_some_iff.1 hu).1
  exact low _ _ _ _ _ (h2.row j u _ hu (List.getElem?_eq_getElem (by rw [← h2.len]; exact hj)))

/-- Some graph and some number. -/
def NewGK (w : World) (e : Ending) (w' : World) : Prop :=
  ∃ gv g k, e = .returned (.tuple #[gv, .int .i64 k]) ∧ FreshSS w.heap.size w' gv g ∧ g.length ≤ 41 ∧ bulk g ≤ 8000 ∧ Ext w w'

set_option maxHeartbeats 800000 in
theorem drawReachedFrom_any (v : Value) (N : Nat) (w : World) (hv : BytesIn w v N) :
    Calls Try.prog 18 #[v] w (NewGK w) := by
  have HV := Lib.hid hv
  obtain ⟨av, cv, rfl, hN, _⟩ := hv
  go_enter Try.func18, Try.ntmps18
  go_wp2_with fail
  refine (graph_any w.heap.size 0 _ N _ (cur_new HV.out _) (by omega)).mono ?_
  rintro e w1 ⟨gv, g, rfl, f1, hg1, hb1, C1, T1⟩
  have F1 := Lib.hid f1
  have H1 := Lib.hid C1
  have HT1 := Lib.hid T1
  obtain ⟨ag, cg, rfl, _⟩ := f1.intss
  clear f1 C1 T1
  go_wp2_with fail
  refine (pick_any (g.length + 1) w.heap.size (0 + 1000) _ N _ H1.out (by omega) (by omega) (by omega)).mono ?_
  rintro e w2 ⟨x2, rfl, x20, x21, C2, T2⟩
  have H2 := Lib.hid C2
  have HT2 := Lib.hid (Lib.grownBy_trans HT1.out T2)
  have T2' := Lib.hid T2
  clear C2 T2
  go_wp2_with fail
  refine (pick_any 20 w.heap.size (0 + 1000 + 2) _ N _ H2.out (by omega) (by omega) (by omega)).mono ?_
  rintro e w3 ⟨x3, rfl, x30, x31, C3, T3⟩
  have HT3 := Lib.hid (Lib.grownBy_trans HT2.out T3)
  have T3' := Lib.hid (Lib.grownBy_trans T2'.out T3)
  clear C3 T3
  go_wp2
  go_ret2
  refine ⟨_, g, _, rfl, ?_, hg1, hb1, ext_new_grown HT3.out⟩
  exact (F1.out.turned (by simp) T3'.out).more (by simp)

theorem CurAt.kept {w w' : World} {b m : Nat} {v : Value} {N : Nat} {row : Option Nat} (h : CurAt w b m v N) (t : w.grownBy w' row) (hr : some b ≠ row) (hB : BytesAt w' b v N) : CurAt w' b m v N := by
  obtain ⟨c0, ⟨p, h0, h1, c1⟩, ⟨q, c2⟩, ⟨z0, z1, z2⟩, _⟩ := h
  have hl : b < w.heap.size := World.block_lt_of_cell? w _ c0
  have fz : ∀ o, w.frozen? ⟨b, o, none⟩ = false → w'.frozen? ⟨b, o, none⟩ = false := fun o hz => by
    rw [World.grownBy.frozen_far t ⟨b, o, none⟩ hl hr]; exact hz
  exact ⟨World.grownBy.cell t c0 hr, ⟨p, h0, h1, World.grownBy.cell t c1 hr⟩, ⟨q, World.grownBy.cell t c2 hr⟩, ⟨fz 0 z0, fz 1 z1, fz 2 z2⟩, hB⟩
theorem grownBy_far {w w1 w2 : World} {row row' : Option Nat} (h : w.grownBy w1 row) (t : w1.grownBy w2 row') (hr : ∀ q, row' = some q → w.heap.size ≤ q) : w.grownBy w2 row :=
  ⟨t.os.trans h.os, t.tape.trans h.tape, t.output.trans h.output, Nat.le_trans h.size t.size, fun q hq hn => (t.block q (Nat.lt_of_lt_of_le hq h.size) (fun e => by have := hr q e.symm; omega)).trans (h.block q hq hn)⟩

/-- What holds while a list is drawn behind a graph: w0 the world of the cursor, w1 that behind the graph. -/
structure LG (w0 w1 : World) (b M : Nat) (cv : Value) (N : Nat) (lv : Value) (l : List Int) (wr : World) : Prop where
  cur : CurAt wr b M cv N
  bytes : BytesAt w0 b cv N
  low : b < w0.heap.size
  size : w0.heap.size ≤ w1.heap.size
  first : w0.grownBy wr (some b)
  back : w1.grownBy wr (some b)
  list : Fresh w1.heap.size wr lv l
theorem LG.turn {w0 w1 wr w' : World} {b M M' : Nat} {cv : Value} {N : Nat} {lv : Value} {l : List Int} (h : LG w0 w1 b M cv N lv l wr) (C : CurAt w' b M' cv N) (T : wr.grownBy w' (some b)) : LG w0 w1 b M' cv N lv l w' :=
  ⟨C, h.bytes, h.low, h.size, Lib.grownBy_trans h.first T, Lib.grownBy_trans h.back T, World.ownsRow.kept h.list T (.inr fun e => by have := (World.ownsRow.lt h.list b e).1; have := h.low; have := h.size; omega)⟩
theorem LG.push {w0 w1 wr w' : World} {b M : Nat} {cv : Value} {N : Nat} {lv lv' : Value} {l l' : List Int} (h : LG w0 w1 b M cv N lv l wr) {x : Value} {T : TypeId} (g : (wr.alloc (.cells #[x] T)).grownBy w' lv.ownBlock) (f : Fresh w1.heap.size w' lv' l') : LG w0 w1 b M cv N lv' l' w' := by
  have hlo : ∀ q, lv.ownBlock = some q → w1.heap.size ≤ q := fun q hq => (World.ownsRow.lt h.list q hq).1
  have a1 : wr.grownBy (wr.alloc (.cells #[x] T)) none := World.grownBy_alloc wr _ none
  have f1 := grownBy_far (grownBy_far h.first a1 (by intro q e; cases e)) g (fun q hq => Nat.le_trans h.size (hlo q hq))
  have b1 := grownBy_far (grownBy_far h.back a1 (by intro q e; cases e)) g hlo
  have c1 := h.cur.ext (ext_of_grown a1)
  refine ⟨c1.kept g (fun e => ?_) (h.bytes.turned f1), h.bytes, h.low, h.size, f1, b1, f⟩
  have := hlo b e.symm
  have := h.low
  have := h.size
  omega

/-- Some graph and some list. -/
def NewGL (w : World) (e : Ending) (w' : World) : Prop :=
  ∃ gv g lv l, e = .returned (.tuple #[gv, lv]) ∧ Intss w' gv g ∧ Ints w' lv l ∧ g.length ≤ 41 ∧ bulk g ≤ 8000 ∧ l.length ≤ 41 ∧ Ext w w'

set_option maxHeartbeats 1600000 in
theorem drawClosedIn_any (v : Value) (N : Nat) (w : World) (hv : BytesIn w v N) :
    Calls Try.prog 20 #[v] w (NewGL w) := by
  have HV := Lib.hid hv
  obtain ⟨av, cv, rfl, hN, _⟩ := hv
  go_enter Try.func20, Try.ntmps20
  go_wp2_with fail
  have hC0 := Lib.hid (cur_new HV.out 68)
  obtain ⟨w0, hw0⟩ : ∃ w0, w0 = w.alloc (.cells #[.slice av N cv, .int .i64 0, .int .u64 0] 68) := ⟨_, rfl⟩
  have hs0 : w0.heap.size = w.heap.size + 1 := by rw [hw0]; simp
  rw [← hw0] at hC0 ⊢
  refine (graph_any w.heap.size 0 _ N _ hC0.out (by omega)).mono ?_
  rintro e w1 ⟨gv, g, rfl, f1, hg1, hb1, C1, T1⟩
  have D0 := Lib.hid (show LG w0 w1 w.heap.size (0 + 1000) (.slice av N cv) N (.slice none 0 0) [] w1 from ⟨C1, hC0.out.2.2.2.2, by omega, T1.size, T1, ⟨rfl, rfl, rfl, Nat.le_refl _, fun _ _ _ => rfl⟩, World.ownsRow_nil _ _ _ _⟩)
  have F1 := Lib.hid f1
  obtain ⟨ag, cg, rfl, _⟩ := f1.intss
  clear f1 C1 T1
  go_wp2
  go_loopw [6, 15] (fun lv i wr => ∃ (k : Nat) (l : List Int), k ≤ g.length ∧ i = .int .i64 k ∧ l.length ≤ k ∧ Hid (LG w0 w1 w.heap.size (1000 + 2 * k) (.slice av N cv) N lv l wr)) (fun _ i _ => g.length - (intOf i).toNat)
  case atStart => exact ⟨0, [], Nat.zero_le _, rfl, Nat.zero_le _, D0⟩
  case round =>
    clear D0
    obtain ⟨k, l, hk, rfl, hl, D⟩ := hrel
    by_cases hlt : k < g.length
    · go_wp2_with fail
      refine (one_any 4 w.heap.size (1000 + 2 * k) _ N _ D.out.cur (by omega) (by omega) (by omega)).mono ?_
      rintro e w2 ⟨r, rfl, C2, T2⟩
      have D2 := Lib.hid (D.out.turn C2 T2)
      clear D C2 T2
      cases r with
      | true =>
        go_wp2
        go_roundw
        case rel => exact ⟨k + 1, l, by omega, by go_num, by omega, D2⟩
        case measure => simp [intOf]; omega
      | false =>
        have hs2 : w1.heap.size ≤ w2.heap.size := D2.out.back.size
        go_wp2_with (at_builtin; refine wpList_push rfl _ _ rfl w1.heap.size _ _ (k : Int) rfl (D2.out.list.ext (Ext.alloc (Ext.refl _) _)) ⟨w2.heap.size, 0, none⟩ 1 rfl (cell_alloc_one _ _ _) (by omega) (size_alloc_le hs2) ?_)
        intro v4 w4 f4 g4 k4
        have D4 := Lib.hid (D2.out.push g4 f4)
        clear f4 g4 k4
        go_wp2
        go_roundw
        case rel => exact ⟨k + 1, _, by omega, by go_num, by simp; omega, D4⟩
        case measure => simp [intOf]; omega
    · have hkg : k = g.length := by omega
      subst hkg
      go_wp2
      go_ret2
      exact ⟨_, g, _, l, rfl, (F1.out.turned (by omega) D.out.back).intss, D.out.list.ints, hg1, hb1, by omega, ext_new_grown (by rw [← hw0]; exact D.out.first)⟩

end Go.Proofs.Ytihknedmkkakhaa

namespace Go.Proofs.Ytihknedmkkakhaa
open Go.RowKit
set_option linter.unusedVariables false

def cmpI (a b : Int) : Int := if a < b then -1 else if b < a then 1 else 0
def cmpL : List Int → List Int → Int
  | [], [] => 0
  | [], _ :: _ => -1
  | _ :: _, [] => 1
  | a :: s, b :: t => if cmpI a b = 0 then cmpL s t else cmpI a b

/-- A number comes back, and the world is as it was. -/
def IntSame (n : Int) (w : World) (e : Ending) (w' : World) : Prop := e = .returned (.int .i64 n) ∧ w' = w

set_option maxHeartbeats 1000000 in
theorem compareInt_any (a b : Int) (w : World) : Calls Try.prog 110 #[.int .i64 a, .int .i64 b] w (IntSame (cmpI a b) w) := by
  have hnan : ∀ (n : Int) (W : World), Calls Try.prog 137 #[.int .i64 n] W (fun e W' => e = .returned (.bool false) ∧ W' = W) := fun n W => by
    go_enter Try.func137, Try.ntmps137
    go_wp2
    go_ret
    exact ⟨rfl, rfl⟩
  go_enter Try.func110, Try.ntmps110
  by_cases h1 : a < b
  · have e : cmpI a b = -1 := by unfold cmpI; rw [if_pos h1]
    rw [e]
    clear e
    go_wp2_with fail
    refine (hnan a _).mono ?_
    rintro e w1 ⟨rfl, rfl⟩
    go_wp2_with fail
    refine (hnan b _).mono ?_
    rintro e w1 ⟨rfl, rfl⟩
    go_wp2
    go_ret
    exact ⟨rfl, rfl⟩
  · by_cases h2 : b < a
    · have e : cmpI a b = 1 := by unfold cmpI; rw [if_neg h1, if_pos h2]
      rw [e]
      clear e
      go_wp2_with fail
      refine (hnan a _).mono ?_
      rintro e w1 ⟨rfl, rfl⟩
      go_wp2_with fail
      refine (hnan b _).mono ?_
      rintro e w1 ⟨rfl, rfl⟩
      go_wp2
      go_ret
      exact ⟨rfl, rfl⟩
    · have e : cmpI a b = 0 := by unfold cmpI; rw [if_neg h1, if_neg h2]
      rw [e]
      clear e
      go_wp2_with fail
      refine (hnan a _).mono ?_
      rintro e w1 ⟨rfl, rfl⟩
      go_wp2_with fail
      refine (hnan b _).mono ?_
      rintro e w1 ⟨rfl, rfl⟩
      go_wp2
      go_ret
      exact ⟨rfl, rfl⟩

theorem cmpL_step : ∀ (l r : List Int) (k : Nat) (hk : k < l.length) (hr : k < r.length) (h : cmpL l r = cmpL (l.drop k) (r.drop k)), (cmpI l[k] r[k] = 0 → cmpL l r = cmpL (l.drop (k + 1)) (r.drop (k + 1))) ∧ (cmpI l[k] r[k] ≠ 0 → cmpL l r = cmpI l[k] r[k]) := by
  intro l r k hk hr h
  rw [List.drop_eq_getElem_cons hk, List.drop_eq_getElem_cons hr] at h
  have e4 : cmpL (l[k] :: l.drop (k + 1)) (r[k] :: r.drop (k + 1)) = if cmpI l[k] r[k] = 0 then cmpL (l.drop (k + 1)) (r.drop (k + 1)) else cmpI l[k] r[k] := by simp only [cmpL]
  rw [e4] at h
  constructor
  · intro e; rw [h, if_pos e]
  · intro e; rw [h, if_neg e]

set_option maxHeartbeats 2000000 in
theorem compare_any (u v : Value) (l r : List Int) (w : World) (hu : Ints w u l) (hv : Ints w v r) : Calls Try.prog 91 #[u, v] w (IntSame (cmpL l r) w) := by
  obtain ⟨au, cu, rfl, hlu, _, du⟩ := hu
  obtain ⟨av, cv, rfl, hlv, _, dv⟩ := hv
  unfold maxLen at hlu hlv
  have DU := Lib.hid du
  have DV := Lib.hid dv
  clear du dv
  go_enter Try.func91, Try.ntmps91
  go_wp2
  go_loopw [5, 6, 7, 8, 11] (fun _ _ _ _ i wr => ∃ k : Nat, k ≤ l.length ∧ k ≤ r.length ∧ i = .int .i64 k ∧ Hid (cmpL l r = cmpL (l.drop k) (r.drop k)) ∧ wr = w) (fun _ _ _ _ i _ => l.length - (intOf i).toNat)
  case atStart => exact ⟨0, Nat.zero_le _, Nat.zero_le _, rfl, Lib.hid rfl, rfl⟩
  case round =>
    obtain ⟨k, hk, hk2, rfl, hC, rfl⟩ := hrel
    by_cases hlt : k < l.length
    · obtain ⟨bu, ou, rfl, eu⟩ := DU.out (by omega)
      have z1 := eu k hlt
      rw [List.getElem?_eq_getElem hlt, Option.getD_some] at z1
      by_cases hlr : k < r.length
      · obtain ⟨bv, ov, rfl, ev⟩ := DV.out (by omega)
        have z2 := ev k hlr
        rw [List.getElem?_eq_getElem hlr, Option.getD_some] at z2
        obtain ⟨h1, h2⟩ := cmpL_step l r k hlt hlr hC.out
        obtain ⟨x, hx⟩ : ∃ x, x = l[k] := ⟨_, rfl⟩
        obtain ⟨y, hy⟩ : ∃ y, y = r[k] := ⟨_, rfl⟩
        rw [← hx] at z1 h1 h2
        rw [← hy] at z2 h1 h2
        have H1 := Lib.hid h1
        have H2 := Lib.hid h2
        clear hx hy h1 h2 eu ev
        go_wp2_with fail
        refine (compareInt_any x y _).mono ?_
        rintro e w1 ⟨rfl, rfl⟩
        by_cases hc : cmpI x y = 0
        · have HC := Lib.hid (H1.out hc)
          rw [hc]
          clear hc
          go_wp2
          go_roundw
          case rel => exact ⟨k + 1, by omega, by omega, by go_num, HC, by first | exact rfl | trivial⟩
          case measure => simp [intOf]; omega
        · have HC := Lib.hid (H2.out hc)
          obtain ⟨n, hn⟩ : ∃ n, n = cmpI x y := ⟨_, rfl⟩
          rw [← hn] at hc HC ⊢
          have hb : (n != 0) = true := by simp [hc]
          clear hn
          go_wp2
          go_ret
          exact ⟨by rw [HC.out]; rfl, rfl⟩
      · obtain rfl : k = r.length := by omega
        have HC : Hid (cmpL l r = 1) := Lib.hid (by
          have := hC.out
          rw [List.drop_length, List.drop_eq_getElem_cons hlt] at this
          exact this)
        go_wp2
        go_ret
        exact ⟨by rw [HC.out]; rfl, rfl⟩
    · obtain rfl : k = l.length := by omega
      by_cases hlr : l.length < r.length
      · have HC : Hid (cmpL l r = -1) := Lib.hid (by
          have := hC.out
          rw [List.drop_length, List.drop_eq_getElem_cons hlr] at this
          exact this)
        go_wp2
        go_ret
        exact ⟨by rw [HC.out]; rfl, rfl⟩
      · have HC : Hid (cmpL l r = 0) := Lib.hid (by
          have := hC.out
          have e : l.length = r.length := by omega
          rw [List.drop_length, e, List.drop_length] at this
          exact this)
        go_wp2
        go_ret
        exact ⟨by rw [HC.out]; rfl, rfl⟩

end Go.Proofs.Ytihknedmkkakhaa
