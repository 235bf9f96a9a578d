/- Texts of this proof, part w: words, plain facts, contracts. -/
import Derived.Test.YtcpmfcigciknlaaGreatMBookOfv
import Derived.Test.YtcpmfcigciknlaaGreatMBookOfl
import Derived.Test.YtcpmfcigciknlaaGreatMBookOff
import Derived.Test.YtcpmfcigciknlaaGreatMBookOfc
import Derived.Test.YtcpmfcigciknlaaGreatMBookOfa
import Derived.Deep.DeepCutAuto
import Derived.Test.YtcpmfcigciknlaaGreatMBookOfg
import Derived.Deep.Quiet

namespace Go.Proofs.YtcpmfcigciknlaaGreat
open Go.RowKit Go.Maps
set_option linter.unusedVariables false

set_option maxHeartbeats 4000000 in
set_option maxRecDepth 100000 in
theorem l6Insert_nil (xv : Value) (x : Nat × Nat) (w : World) (hx : Ints w xv (pairOf x)) :
    Calls Tryz.prog 176 #[.slice none 0 0, xv] w (fun e w' => ∃ v', e = .returned v' ∧ FreshV w.heap.size w' v' [xv] ∧ Ext w w') := by
  obtain ⟨bx, ox, cx, rfl, x0, x1⟩ := pair_at hx
  clear hx
  go_enter Tryz.func176, Tryz.ntmps176
  go_wp2
  go_loopw [5] (fun i wr => ∃ k : Nat, k = 0 ∧ i = .int .i64 k ∧ Hid (Ext w wr)) (fun i _ => (intOf i).toNat)
  case atStart => exact ⟨0, rfl, rfl, Lib.hid (Ext.refl _)⟩
  case round =>
    obtain ⟨k, hk, rfl, HX⟩ := hrel
    subst hk
    have n0 : decide ((0 : Int) < 0) = false := by decide
    go_wp2_with fail
    go_quiet (fail)
    have XW : Hid (Ext w (wr.drewN nq)) := Lib.hid (HX.out.drewN _)
    obtain ⟨W, hW⟩ : ∃ W, W = wr.drewN nq := ⟨_, rfl⟩
    rw [← hW] at XW ⊢
    clear hW HX
    have HSW : Hid (w.heap.size ≤ (W.alloc (.cells #[] 26)).heap.size) := Lib.hid (Nat.le_trans XW.out.size (Ext.alloc1 _ _).size)
    go_wp2_with (at_builtin; refine wpList_joinV0 rfl _ _ rfl w.heap.size _ [] rfl (freshV_lit W w.heap.size XW.out.size) rfl ?_)
    intro v2 w2 f2 hg2 hk2
    have F2 : Hid (FreshV w.heap.size w2 v2 []) := Lib.hid f2
    have X2 := Lib.hid (hk2 w (XW.out.alloc _) (Nat.le_refl _))
    clear f2 hg2 hk2 XW HSW
    go_wp2_with (at_builtin; refine wpList_joinV0 rfl _ _ rfl w2.heap.size _ [] rfl (freshV_lit w2 w2.heap.size (Nat.le_refl _)) rfl ?_)
    intro v3 w3 f3 hg3 hk3
    have F3 : Hid (FreshV w2.heap.size (w3.alloc (.cells #[.slice (some ⟨bx, ox, none⟩) 2 cx] 26)) v3 []) := Lib.hid (f3.ext (Ext.alloc1 w3 (.cells #[.slice (some ⟨bx, ox, none⟩) 2 cx] 26)))
    have X3 := Lib.hid (hk3 w2 (Ext.alloc1 _ _) (Nat.le_refl _))
    have HL3 : Hid (([] : List Value).length ≤ 1048576) := Lib.hid (by simp only [List.length_nil]; omega)
    have HS3 : Hid (w2.heap.size ≤ (w3.alloc (.cells #[.slice (some ⟨bx, ox, none⟩) 2 cx] 26)).heap.size) := Lib.hid (Nat.le_trans X3.out.size (Ext.alloc1 _ _).size)
    clear f3 hg3 hk3
    go_wp2_with (at_builtin; refine wpList_pushV rfl _ _ rfl w2.heap.size _ [] rfl F3.out (.slice (some ⟨bx, ox, none⟩) 2 cx) ⟨w3.heap.size, 0, none⟩ 1 rfl (cell_alloc_one _ _ _) rfl HL3.out HS3.out ?_)
    intro v4 w4 f4 hg4 hk4
    have F4 := Lib.hid f4
    have X4 := Lib.hid (hk4 w2 (X3.out.alloc _) (Nat.le_refl _))
    have G4 : Hid (FreshV w.heap.size w4 v2 []) := Lib.hid (F2.out.ext X4.out)
    have HO4 : Hid (∀ u ∈ ([] : List Value), u.oneCell' = true) := Lib.hid (fun u hu => by cases hu)
    have HL4 : Hid ((([] : List Value) ++ [Value.slice (some ⟨bx, ox, none⟩) 2 cx]).length + ([] : List Value).length ≤ 1048576) := Lib.hid (by
      simp only [List.length_append, List.length_cons, List.length_nil]
      omega)
    clear f4 hg4 hk4 HL3 HS3 F3 F2
    go_wp2_with (at_builtin; refine wpList_joinVV rfl _ _ rfl w2.heap.size w.heap.size _ v2 _ [] rfl F4.out rfl G4.out HO4.out HL4.out X4.out.size ?_)
    intro v5 w5 f5 hg5 hk5
    have F5 := Lib.hid (f5.more X2.out.size)
    have X5 := Lib.hid (X2.out.trans (hk5 w2 X4.out (Nat.le_refl _)))
    clear f5 hg5 hk5 HL4 HO4 G4 F4
    go_wp2
    go_ret
    exact ⟨_, rfl, F5.out, X5.out⟩

/-- How the pairs come out, in new memory. -/
theorem l6Insert_any {sv xv : Value} {vs : List Value} {L : List (Nat × Nat)} {x : Nat × Nat} {w : World} (h : PairsAt w sv vs L) (hx : Ints w xv (pairOf x)) (hl : L.length ≤ 1000) :
    Calls Tryz.prog 176 #[sv, xv] w (fun e w' => ∃ v', e = .returned v' ∧ FreshV w.heap.size w' v' (vs.take (insKI L x) ++ [xv] ++ vs.drop (insKI L x)) ∧ Ext w w' ∧ PairsAt w' v' (vs.take (insKI L x) ++ [xv] ++ vs.drop (insKI L x)) (insL L x)) := by
  have key : ∀ (w' : World) (v' : Value), FreshV w.heap.size w' v' (vs.take (insKI L x) ++ [xv] ++ vs.drop (insKI L x)) → Ext w w' → PairsAt w' v' (vs.take (insKI L x) ++ [xv] ++ vs.drop (insKI L x)) (insL L x) := by
    intro w' v' f e
    have hk : insKI L x ≤ L.length := insAtI_le L x _
    refine ⟨?_, f.vals, ?_⟩
    · unfold insL
      simp only [List.length_append, List.length_take, List.length_drop, h.len]
      rfl
    · intro j u y hu hy
      unfold insL at hy
      have hlt : (vs.take (insKI L x)).length = insKI L x := by rw [List.length_take, h.len]; omega
      have hlt2 : (L.take (insKI L x)).length = insKI L x := by rw [List.length_take]; omega
      rw [List.append_assoc] at hu hy
      by_cases h1 : j < insKI L x
      · rw [List.getElem?_append_left (by omega), List.getElem?_take, if_pos h1] at hu hy
        exact (h.row j u y hu hy).ext e
      · rw [List.getElem?_append_right (by omega)] at hu hy
        rw [hlt] at hu
        rw [hlt2] at hy
        by_cases h2 : j - insKI L x = 0
        · rw [h2] at hu hy
          obtain rfl : xv = u := by simpa using hu
          obtain rfl : x = y := by simpa using hy
          exact hx.ext e
        · obtain ⟨i, hi⟩ : ∃ i, j - insKI L x = i + 1 := ⟨j - insKI L x - 1, by omega⟩
          rw [hi, List.singleton_append, List.getElem?_cons_succ, List.getElem?_drop] at hu hy
          exact (h.row _ u y hu hy).ext e
  rcases h.reads with ⟨rfl, rfl⟩ | ⟨b, off, cap, rfl, h1, h2, h3⟩
  · obtain rfl : L = [] := List.eq_nil_of_length_eq_zero h.len.symm
    refine (l6Insert_nil xv x w hx).mono ?_
    rintro e w1 ⟨v', rfl, f, e⟩
    exact ⟨v', rfl, f, e, key _ _ f e⟩
  · refine (l6Insert_some b off cap xv vs L x w h.len h1 h2 h3 h.row hx hl vs.length rfl).mono ?_
    rintro e w1 ⟨v', rfl, f, e⟩
    exact ⟨v', rfl, f, e, key _ _ f e⟩
end Go.Proofs.YtcpmfcigciknlaaGreat

namespace Go.Proofs.YtcpmfcigciknlaaGreat
open Go.RowKit Go.Maps
set_option linter.unusedVariables false

theorem mem_insL {L : List (Nat × Nat)} {x z : Nat × Nat} : z ∈ insL L x ↔ z = x ∨ z ∈ L := by
  unfold insL
  conv => rhs; rw [← List.take_append_drop (insKI L x) L]
  simp only [List.mem_append, List.mem_singleton]
  constructor
  · rintro ((h | h) | h)
    · exact .inr (.inl h)
    · exact .inl h
    · exact .inr (.inr h)
  · rintro (h | h | h)
    · exact .inl (.inr h)
    · exact .inl (.inl h)
    · exact .inr h

theorem mem_depsL {n : Int} {T : List (List RowD)} {x z : Nat × Nat} : z ∈ depsL n T x ↔ z ∈ hungL (rowOf n T x.1 x.2) ∧ z ≠ x := by
  unfold depsL depsTo hungL hungTo depsAt hungAt depN depM
  simp only [List.mem_flatMap, List.mem_range, List.mem_map, List.mem_filter]
  constructor
  · rintro ⟨p, hp, i, ⟨hi, hne⟩, rfl⟩
    exact ⟨⟨p, hp, i, hi, rfl⟩, by simpa using hne⟩
  · rintro ⟨⟨p, hp, i, hi, rfl⟩, hne⟩
    exact ⟨p, hp, i, ⟨hi, by simpa using hne⟩, rfl⟩

theorem insAtI_spec (L : List (Nat × Nat)) (x : Nat × Nat) : ∀ k, k ≤ L.length → (∀ i y, insAtI L x k ≤ i → i < k → L[i]? = some y → lexL x y) ∧ (insAtI L x k = 0 ∨ ∃ y, L[insAtI L x k - 1]? = some y ∧ ¬ lexL x y)
  | 0, _ => ⟨fun i y _ h => by omega, .inl rfl⟩
  | k + 1, hk => by
    have e : L[k]? = some (L[k]'(by omega)) := List.getElem?_eq_getElem _
    by_cases h : lexL x (L[k]'(by omega))
    · have e2 : insAtI L x (k + 1) = insAtI L x k := by
        conv => lhs; unfold insAtI
        rw [e]
        simp only [if_pos h]
      rw [e2]
      obtain ⟨i1, i2⟩ := insAtI_spec L x k (by omega)
      refine ⟨fun i y h1 h2 hy => ?_, i2⟩
      by_cases hi : i = k
      · subst hi
        rw [e] at hy
        rw [← Option.some.inj hy]; exact h
      · exact i1 i y h1 (by omega) hy
    · have e2 : insAtI L x (k + 1) = k + 1 := by
        conv => lhs; unfold insAtI
        rw [e]
        simp only [if_neg h]
      rw [e2]
      exact ⟨fun i y h1 h2 _ => by omega, .inr ⟨_, e, h⟩⟩
theorem lexL_trans {a b c : Nat × Nat} (h : lexL a b) (k : lexL b c) : lexL a c := by unfold lexL at *; omega
theorem lexL_total {a b : Nat × Nat} (h : ¬ lexL a b) (hne : a ≠ b) : lexL b a := by
  unfold lexL at *
  have : ¬ (a.1 = b.1 ∧ a.2 = b.2) := fun e => hne (Prod.ext e.1 e.2)
  omega
theorem insL_sorted {L : List (Nat × Nat)} {x : Nat × Nat} (h : L.Pairwise lexL) (hx : x ∉ L) : (insL L x).Pairwise lexL := by
  obtain ⟨h1, h2⟩ := insAtI_spec L x L.length (Nat.le_refl _)
  have hk : insKI L x ≤ L.length := insAtI_le L x _
  have hdrop : ∀ z ∈ L.drop (insKI L x), lexL x z := by
    intro z hz
    obtain ⟨i, hi, e⟩ := List.getElem_of_mem hz
    rw [List.length_drop] at hi
    rw [List.getElem_drop] at e
    exact h1 (insKI L x + i) z (Nat.le_add_right _ _) (by omega) (by rw [List.getElem?_eq_getElem (by omega), e])
  have htake : ∀ z ∈ L.take (insKI L x), lexL z x := by
    intro z hz
    obtain ⟨i, hi, e⟩ := List.getElem_of_mem hz
    rw [List.length_take] at hi
    rw [List.getElem_take] at e
    have hlt : i < L.length := by omega
    rcases h2 with h0 | ⟨y, hy, hn⟩
    · have : insKI L x = 0 := h0
      omega
    · have hy' : L[insKI L x - 1]? = some y := hy
      have hlt2 := (List.getElem?_eq_some_iff.1 hy').1
      have hym : y ∈ L := List.mem_of_getElem? hy'
      have hyx : lexL y x := lexL_total hn (fun e => hx (by rw [e]; exact hym))
      by_cases hi2 : i = insKI L x - 1
      · have : z = y := by
          rw [← e]
          have := (List.getElem?_eq_some_iff.1 hy').2
          rw [← this]
          congr
        rw [this]; exact hyx
      · have hlex : lexL z y := by
          have := List.pairwise_iff_getElem.1 h i (insKI L x - 1) hlt hlt2 (by omega)
          rw [e, (List.getElem?_eq_some_iff.1 hy').2] at this
          exact this
        exact lexL_trans hlex hyx
  unfold insL
  rw [List.append_assoc, List.pairwise_append]
  refine ⟨h.sublist (List.take_sublist _ _), ?_, ?_⟩
  · rw [List.singleton_append, List.pairwise_cons]
    exact ⟨hdrop, h.sublist (List.drop_sublist _ _)⟩
  · intro a ha b hb
    rw [List.singleton_append, List.mem_cons] at hb
    rcases hb with rfl | hb
    · exact htake a ha
    · exact lexL_trans (htake a ha) (hdrop b hb)

/-- One instance more to which one comes: the met ones, and the blockers. -/
def addB (T : List (List RowD)) (s : List (Nat × Nat) × List (Nat × Nat)) (x : Nat × Nat) : List (Nat × Nat) × List (Nat × Nat) :=
  if x ∈ s.1 ∨ x ∈ s.2 then s else if instCom T x.1 x.2 then (s.1 ++ [x], s.2) else (s.1, insL s.2 x)

/-- What holds of the met ones and the blockers, the first i of the met ones and the first j that the next one hangs on looked through. -/
structure BlkI (n : Int) (T : List (List RowD)) (x0 : Nat × Nat) (i j : Nat) (s : List (Nat × Nat) × List (Nat × Nat)) : Prop where
  first : x0 ∈ s.1
  com : ∀ z ∈ s.1, instCom T z.1 z.2 = true
  not : ∀ z ∈ s.2, instCom T z.1 z.2 = false
  nodup : s.1.Nodup
  done : ∀ k y, k < i → s.1[k]? = some y → ∀ z ∈ depsL n T y, z ∈ s.1 ∨ z ∈ s.2
  part : ∀ y, s.1[i]? = some y → ∀ z ∈ (depsL n T y).take j, z ∈ s.1 ∨ z ∈ s.2
  led : ∀ C : Nat × Nat → Prop, (∀ y, C y → instCom T y.1 y.2 = true → ∀ z ∈ hungL (rowOf n T y.1 y.2), C z) → C x0 → (∀ z ∈ s.1, C z) ∧ ∀ z ∈ s.2, C z
  sorted : s.2.Pairwise lexL

theorem BlkI.start {n : Int} {T : List (List RowD)} {x0 : Nat × Nat} (h : instCom T x0.1 x0.2 = true) : BlkI n T x0 0 0 ([x0], []) where
  first := by simp
  com := fun z hz => by obtain rfl : z = x0 := by simpa using hz
                        exact h
  not := fun z hz => by cases hz
  nodup := by simp
  done := fun k y hk => by omega
  part := fun y _ z hz => by simp at hz
  led := fun C _ hC => ⟨fun z hz => by obtain rfl : z = x0 := by simpa using hz
                                       exact hC, fun z hz => by cases hz⟩
  sorted := List.Pairwise.nil

theorem addB_keep {T : List (List RowD)} {s : List (Nat × Nat) × List (Nat × Nat)} {x : Nat × Nat} : (∀ (k : Nat) (y : Nat × Nat), s.1[k]? = some y → (addB T s x).1[k]? = some y) ∧ (∀ z, z ∈ s.1 ∨ z ∈ s.2 → z ∈ (addB T s x).1 ∨ z ∈ (addB T s x).2) ∧ (x ∈ (addB T s x).1 ∨ x ∈ (addB T s x).2) := by
  unfold addB
  split
  · rename_i h
    exact ⟨fun _ _ h => h, fun _ h => h, h⟩
  · split
    · refine ⟨fun k y h => ?_, fun z h => ?_, .inl (by simp)⟩
      · have hk := (List.getElem?_eq_some_iff.1 h).1
        rw [List.getElem?_append_left hk]
        exact h
      · rcases h with h | h
        · exact .inl (List.mem_append_left _ h)
        · exact .inr h
    · refine ⟨fun _ _ h => h, fun z h => ?_, .inr (mem_insL.2 (.inl rfl))⟩
      rcases h with h | h
      · exact .inl h
      · exact .inr (mem_insL.2 (.inr h))

theorem BlkI.step {n : Int} {T : List (List RowD)} {x0 : Nat × Nat} {i j : Nat} {s : List (Nat × Nat) × List (Nat × Nat)} (h : BlkI n T x0 i j s) {y x : Nat × Nat} (hy : s.1[i]? = some y) (hx : (depsL n T y)[j]? = some x) : BlkI n T x0 i (j + 1) (addB T s x) := by
  obtain ⟨k1, k2, k3⟩ := addB_keep (T := T) (s := s) (x := x)
  have old : ∀ k, k ≤ i → ∀ y', (addB T s x).1[k]? = some y' → s.1[k]? = some y' := by
    intro k hk y' h'
    have hi := (List.getElem?_eq_some_iff.1 hy).1
    have e : s.1[k]? = some (s.1[k]'(by omega)) := List.getElem?_eq_getElem _
    have := k1 k _ e
    rw [this] at h'
    rw [e, h']
  have hmem : x ∈ depsL n T y := List.mem_of_getElem? hx
  have hled : ∀ C : Nat × Nat → Prop, (∀ y, C y → instCom T y.1 y.2 = true → ∀ z ∈ hungL (rowOf n T y.1 y.2), C z) → C x0 → C x := fun C hC h0 => hC y ((h.led C hC h0).1 y (List.mem_of_getElem? hy)) (h.com y (List.mem_of_getElem? hy)) x (mem_depsL.1 hmem).1
  have hdone : ∀ k y', k < i → (addB T s x).1[k]? = some y' → ∀ z ∈ depsL n T y', z ∈ (addB T s x).1 ∨ z ∈ (addB T s x).2 := fun k y' hk h' z hz => k2 z (h.done k y' hk (old k (by omega) y' h') z hz)
  have hpart : ∀ y', (addB T s x).1[i]? = some y' → ∀ z ∈ (depsL n T y').take (j + 1), z ∈ (addB T s x).1 ∨ z ∈ (addB T s x).2 := by
    intro y' h' z hz
    have e := old i (Nat.le_refl _) y' h'
    obtain rfl : y = y' := by rw [hy] at e; exact Option.some.inj e
    rw [List.take_add_one, hx] at hz
    rcases List.mem_append.1 hz with hz | hz
    · exact k2 z (h.part y hy z hz)
    · obtain rfl : z = x := by simpa using hz
      exact k3
  refine ⟨?_, ?_, ?_, ?_, hdone, hpart, ?_, ?_⟩
  · have h0 := h.first
    unfold addB
    split
    · exact h0
    · split
      · exact List.mem_append_left _ h0
      · exact h0
  · have h0 := h.com
    unfold addB
    split
    · exact h0
    · split
      · rename_i hc
        intro z hz
        rcases List.mem_append.1 hz with hz | hz
        · exact h0 z hz
        · obtain rfl : z = x := by simpa using hz
          exact hc
      · exact h0
  · have h0 := h.not
    unfold addB
    split
    · exact h0
    · split
      · exact h0
      · rename_i hc
        intro z hz
        rcases mem_insL.1 hz with rfl | hz
        · simpa using hc
        · exact h0 z hz
  · have h0 := h.nodup
    unfold addB
    split
    · exact h0
    · rename_i hn
      split
      · refine List.nodup_append.2 ⟨h0, by simp, fun a ha b hb => ?_⟩
        obtain rfl : b = x := by simpa using hb
        intro e
        subst e
        exact hn (.inl ha)
      · exact h0
  · intro C hC hx0
    have h0 := h.led C hC hx0
    have hxc := hled C hC hx0
    unfold addB
    split
    · exact h0
    · split
      · refine ⟨fun z hz => ?_, h0.2⟩
        rcases List.mem_append.1 hz with hz | hz
        · exact h0.1 z hz
        · obtain rfl : z = x := by simpa using hz
          exact hxc
      · refine ⟨h0.1, fun z hz => ?_⟩
        rcases mem_insL.1 hz with rfl | hz
        · exact hxc
        · exact h0.2 z hz
  · have h0 := h.sorted
    unfold addB
    split
    · exact h0
    · rename_i hn
      split
      · exact h0
      · exact insL_sorted h0 (fun e => hn (.inr e))

theorem BlkI.next {n : Int} {T : List (List RowD)} {x0 : Nat × Nat} {i j : Nat} {s : List (Nat × Nat) × List (Nat × Nat)} (h : BlkI n T x0 i j s) {y : Nat × Nat} (hy : s.1[i]? = some y) (hj : (depsL n T y).length ≤ j) : BlkI n T x0 (i + 1) 0 s := by
  refine ⟨h.first, h.com, h.not, h.nodup, fun k y' hk h' z hz => ?_, fun y' _ z hz => by simp at hz, h.led, h.sorted⟩
  by_cases hki : k < i
  · exact h.done k y' hki h' z hz
  · obtain rfl : k = i := by omega
    obtain rfl : y = y' := by rw [hy] at h'; exact Option.some.inj h'
    exact h.part y hy z (by rw [List.take_of_length_le hj]; exact hz)

/-- No blocker: ready; and the other way about. -/
theorem BlkI.ready {n : Int} {T : List (List RowD)} {x0 : Nat × Nat} {i : Nat} {s : List (Nat × Nat) × List (Nat × Nat)} (h : BlkI n T x0 i 0 s) (hi : s.1.length ≤ i) : s.2 = [] ↔ readyP n T x0 := by
  constructor
  · intro h0
    refine ⟨fun z => z ∈ s.1, ⟨h.com, fun y hy z hz => ?_⟩, h.first⟩
    by_cases e : z = y
    · rw [e]; exact hy
    · obtain ⟨k, hk⟩ := List.getElem?_of_mem hy
      have hlt := (List.getElem?_eq_some_iff.1 hk).1
      rcases h.done k y (by omega) hk z (mem_depsL.2 ⟨hz, e⟩) with g | g
      · exact g
      · rw [h0] at g; cases g
  · rintro ⟨C, hC, h0⟩
    have hl := (h.led C (fun y hy _ z hz => hC.2 y hy z hz) h0).2
    cases hs : s.2 with
    | nil => rfl
    | cons z r =>
      have hz : z ∈ s.2 := by rw [hs]; simp
      have a := hC.1 z (hl z hz)
      rw [h.not z hz] at a
      cases a

theorem insL_perm (L : List (Nat × Nat)) (x : Nat × Nat) : (insL L x).Perm (x :: L) := by
  unfold insL
  rw [List.append_assoc, List.singleton_append]
  have h := List.perm_middle (a := x) (l₁ := L.take (insKI L x)) (l₂ := L.drop (insKI L x))
  rw [List.take_append_drop] at h
  exact h

/-- The met ones and the blockers are instances that a table may have, each once. -/
structure BlkB (s : List (Nat × Nat) × List (Nat × Nat)) : Prop where
  n1 : s.1.Nodup
  n2 : s.2.Nodup
  in1 : ∀ z ∈ s.1, z.1 < 5 ∧ z.2 < 6
  in2 : ∀ z ∈ s.2, z.1 < 5 ∧ z.2 < 6

theorem few_of {l : List (Nat × Nat)} (hn : l.Nodup) (hb : ∀ z ∈ l, z.1 < 5 ∧ z.2 < 6) : l.length ≤ 30 := by
  have h := nodup_len 30 (l.map fun z => z.1 * 6 + z.2) (by
    unfold List.Nodup at hn ⊢
    rw [List.pairwise_map]
    refine List.Pairwise.imp_of_mem ?_ hn
    intro a b ha hb' hne e
    have h1 := hb a ha
    have h2 := hb b hb'
    apply hne
    exact Prod.ext (by omega) (by omega)) (by
    intro i hi
    obtain ⟨z, hz, rfl⟩ := List.mem_map.1 hi
    have := hb z hz
    omega)
  rwa [List.length_map] at h
theorem BlkB.few {s : List (Nat × Nat) × List (Nat × Nat)} (h : BlkB s) : s.1.length ≤ 30 ∧ s.2.length ≤ 30 := ⟨few_of h.n1 h.in1, few_of h.n2 h.in2⟩

theorem depsL_in {n : Int} {T : List (List RowD)} (hg : goodTab n T = true) {y x : Nat × Nat} (hy : y.1 < T.length) (hx : x ∈ depsL n T y) : x.1 < 5 ∧ x.2 < 6 := by
  have h := (mem_depsL.1 hx).1
  unfold hungL hungTo hungAt depM at h
  simp only [List.mem_flatMap, List.mem_range, List.mem_map] at h
  obtain ⟨p, hp, i, hi, rfl⟩ := h
  have h1 := rowOf_list hg hy y.2
  have h2 := dep_in hg hy y.2 p
  exact ⟨by show p < 5; omega, by show i < 6; omega⟩

theorem BlkB.step {n : Int} {T : List (List RowD)} (hg : goodTab n T = true) {s : List (Nat × Nat) × List (Nat × Nat)} (h : BlkB s) {y x : Nat × Nat} (hy : y.1 < T.length) (hx : x ∈ depsL n T y) : BlkB (addB T s x) := by
  have hb := depsL_in hg hy hx
  unfold addB
  split
  · exact h
  · rename_i hn
    split
    · refine ⟨List.nodup_append.2 ⟨h.n1, by simp, fun a ha b hb' => ?_⟩, h.n2, fun z hz => ?_, h.in2⟩
      · obtain rfl : b = x := by simpa using hb'
        intro e
        subst e
        exact hn (.inl ha)
      · rcases List.mem_append.1 hz with hz | hz
        · exact h.in1 z hz
        · obtain rfl : z = x := by simpa using hz
          exact hb
    · refine ⟨h.n1, (insL_perm s.2 x).nodup_iff.2 (List.nodup_cons.2 ⟨fun e => hn (.inr e), h.n2⟩), h.in1, fun z hz => ?_⟩
      rcases mem_insL.1 hz with rfl | hz
      · exact hb
      · exact h.in2 z hz
end Go.Proofs.YtcpmfcigciknlaaGreat

namespace Go.Proofs.YtcpmfcigciknlaaGreat
open Go.RowKit Go.Maps
set_option linter.unusedVariables false

/-- Rows of two numbers each in new memory. -/
def PRows (B : Nat) (w : World) (vs : List Value) (L : List (Nat × Nat)) : Prop :=
  vs.length = L.length ∧ ∀ (j : Nat) (u : Value) (x : Nat × Nat), vs[j]? = some u → L[j]? = some x → Fresh B w u (pairOf x)
theorem PRows.nil (B : Nat) (w : World) : PRows B w [] [] := ⟨rfl, fun j u x h => by simp at h⟩
theorem PRows.ext {B : Nat} {w w' : World} {vs : List Value} {L : List (Nat × Nat)} (h : PRows B w vs L) (e : Ext w w') : PRows B w' vs L := ⟨h.1, fun j u x hu hx => (h.2 j u x hu hx).ext e⟩
theorem PRows.more {B B' : Nat} {w : World} {vs : List Value} {L : List (Nat × Nat)} (h : PRows B w vs L) (hb : B' ≤ B) : PRows B' w vs L := ⟨h.1, fun j u x hu hx => (h.2 j u x hu hx).more hb⟩
theorem fresh_apart {B B' : Nat} {w : World} {v u : Value} {vs : List Value} {l : List Int} (h : FreshV B w v vs) (k : Fresh B' w u l) : u.ownBlock = none ∨ u.ownBlock ≠ v.ownBlock := by
  unfold FreshV at h
  unfold Fresh at k
  exact types_apart h k (by decide)
theorem PRows.kept {B B' : Nat} {w w' : World} {vs ms : List Value} {mv : Value} {L : List (Nat × Nat)} (h : PRows B w vs L) (hm : FreshV B' w mv ms) (g : w.grownBy w' mv.ownBlock) : PRows B w' vs L :=
  ⟨h.1, fun j u x hu hx => World.ownsRow.kept (h.2 j u x hu hx) g (fresh_apart hm (h.2 j u x hu hx))⟩
theorem PRows.snoc {B : Nat} {w : World} {vs : List Value} {L : List (Nat × Nat)} {u : Value} {x : Nat × Nat} (h : PRows B w vs L) (hu : Fresh B w u (pairOf x)) : PRows B w (vs ++ [u]) (L ++ [x]) := by
  refine ⟨by simp [h.1], fun j z y hz hy => ?_⟩
  by_cases hj : j < vs.length
  · rw [List.getElem?_append_left hj] at hz
    rw [List.getElem?_append_left (by rw [← h.1]; exact hj)] at hy
    exact h.2 j z y hz hy
  · rw [List.getElem?_append_right (by omega)] at hz
    rw [List.getElem?_append_right (by rw [← h.1]; omega)] at hy
    have hj' : j - vs.length = 0 := by
      have := (List.getElem?_eq_some_iff.1 hz).1
      simp at this; omega
    rw [hj'] at hz
    rw [← h.1, hj'] at hy
    simp at hz hy
    subst hz hy
    exact hu
theorem PRows.ins {B : Nat} {w : World} {vs : List Value} {L : List (Nat × Nat)} {xv : Value} {x : Nat × Nat} (h : PRows B w vs L) (hx : Fresh B w xv (pairOf x)) : PRows B w (vs.take (insKI L x) ++ [xv] ++ vs.drop (insKI L x)) (insL L x) := by
  have hk : insKI L x ≤ L.length := insAtI_le L x _
  refine ⟨?_, ?_⟩
  · unfold insL
    simp only [List.length_append, List.length_take, List.length_drop, h.1]
    rfl
  · intro j u y hu hy
    unfold insL at hy
    have hlt : (vs.take (insKI L x)).length = insKI L x := by rw [List.length_take, h.1]; omega
    have hlt2 : (L.take (insKI L x)).length = insKI L x := by rw [List.length_take]; omega
    rw [List.append_assoc] at hu hy
    by_cases h1 : j < insKI L x
    · rw [List.getElem?_append_left (by omega), List.getElem?_take, if_pos h1] at hu hy
      exact h.2 j u y hu hy
    · rw [List.getElem?_append_right (by omega)] at hu hy
      rw [hlt] at hu
      rw [hlt2] at hy
      by_cases h2 : j - insKI L x = 0
      · rw [h2] at hu hy
        obtain rfl : xv = u := by simpa using hu
        obtain rfl : x = y := by simpa using hy
        exact hx
      · obtain ⟨i, hi⟩ : ∃ i, j - insKI L x = i + 1 := ⟨j - insKI L x - 1, by omega⟩
        rw [hi, List.singleton_append, List.getElem?_cons_succ, List.getElem?_drop] at hu hy
        exact h.2 _ u y hu hy
theorem PRows.at {B : Nat} {w : World} {v : Value} {vs : List Value} {L : List (Nat × Nat)} (f : FreshV B w v vs) (h : PRows B w vs L) : PairsAt w v vs L :=
  ⟨h.1, f.vals, fun j u x hu hx => (h.2 j u x hu hx).ints⟩
theorem PairsAt.intss {w : World} {v : Value} {vs : List Value} {L : List (Nat × Nat)} (h : PairsAt w v vs L) : Intss w v (L.map pairOf) := by
  rcases h.reads with ⟨rfl, rfl⟩ | ⟨b, off, cap, rfl, h1, h2, h3⟩
  · obtain rfl : L = [] := List.eq_nil_of_length_eq_zero h.len.symm
    exact Intss.nil w
  · refine ⟨some ⟨b, off, none⟩, cap, by rw [List.length_map, h.len], by rw [List.length_map, ← h.len]; omega, ⟨by rw [List.length_map, ← h.len]; omega, h2, fun e => by cases e⟩, fun _ => ⟨b, off, rfl, fun j hj => ?_⟩⟩
    rw [List.length_map] at hj
    have hv : vs[j]? = some (vs[j]'(by rw [h.len]; exact hj)) := List.getElem?_eq_getElem _
    have hL : L[j]? = some L[j] := List.getElem?_eq_getElem hj
    refine ⟨_, h3 j _ hv, ?_⟩
    rw [List.getElem?_map, hL, Option.map_some, Option.getD_some]
    exact h.row j _ _ hv hL

/-- The met ones mv and the blockers ov, as the pairs of s. -/
structure BW (wb wr : World) (mv ov : Value) (ms os : List Value) (s : List (Nat × Nat) × List (Nat × Nat)) : Prop where
  fm : FreshV wb.heap.size wr mv ms
  fo : FreshV wb.heap.size wr ov os
  rm : PRows wb.heap.size wr ms s.1
  ro : PRows wb.heap.size wr os s.2
  ap : ov.ownBlock = none ∨ ov.ownBlock ≠ mv.ownBlock
  ext : Ext wb wr
/-- .. and the list dv, of the pairs P. -/
structure DW (wb wr : World) (mv dv : Value) (ds : List Value) (P : List (Nat × Nat)) : Prop where
  fd : FreshV wb.heap.size wr dv ds
  rd : PRows wb.heap.size wr ds P
  ap : dv.ownBlock = none ∨ dv.ownBlock ≠ mv.ownBlock
theorem BW.on {wb wr w' : World} {mv ov : Value} {ms os : List Value} {s : List (Nat × Nat) × List (Nat × Nat)} (h : BW wb wr mv ov ms os s) (e : Ext wr w') : BW wb w' mv ov ms os s :=
  ⟨h.fm.ext e, h.fo.ext e, h.rm.ext e, h.ro.ext e, h.ap, h.ext.trans e⟩
theorem DW.on {wb wr w' : World} {mv dv : Value} {ds : List Value} {P : List (Nat × Nat)} (h : DW wb wr mv dv ds P) (e : Ext wr w') : DW wb w' mv dv ds P := ⟨h.fd.ext e, h.rd.ext e, h.ap⟩
theorem ap_new {B B' : Nat} {w : World} {mv mv' ov : Value} {os : List Value} (h : ov.ownBlock = none ∨ ov.ownBlock ≠ mv.ownBlock) (fo : FreshV B w ov os) (loc : mv'.ownBlock = mv.ownBlock ∨ mv'.ownBlock = some B') (hB : w.heap.size ≤ B') : ov.ownBlock = none ∨ ov.ownBlock ≠ mv'.ownBlock := by
  rcases loc with e | e
  · rw [e]; exact h
  · rw [e]
    refine .inr fun hb => ?_
    have := (World.ownsRow.lt fo _ hb).2
    omega
theorem BW.meet {wb W w' : World} {mv mv' ov u : Value} {ms os : List Value} {s : List (Nat × Nat) × List (Nat × Nat)} {x : Nat × Nat} (h : BW wb W mv ov ms os s) (hu : Fresh wb.heap.size W u (pairOf x))
    (f : FreshV wb.heap.size w' mv' (ms ++ [u])) (g : W.grownBy w' mv.ownBlock) (k : Kept wb.heap.size W w') (loc : mv'.ownBlock = mv.ownBlock ∨ mv'.ownBlock = some W.heap.size) : BW wb w' mv' ov (ms ++ [u]) os (s.1 ++ [x], s.2) :=
  ⟨f, World.ownsRow.kept h.fo g h.ap, (h.rm.kept h.fm g).snoc (World.ownsRow.kept hu g (fresh_apart h.fm hu)), h.ro.kept h.fm g, ap_new h.ap h.fo loc (Nat.le_refl _), k wb h.ext (Nat.le_refl _)⟩
theorem DW.meet {wb W w' : World} {mv mv' dv : Value} {ms ds : List Value} {P : List (Nat × Nat)} (h : DW wb W mv dv ds P) (fm : FreshV wb.heap.size W mv ms) (g : W.grownBy w' mv.ownBlock) (loc : mv'.ownBlock = mv.ownBlock ∨ mv'.ownBlock = some W.heap.size) : DW wb w' mv' dv ds P :=
  ⟨World.ownsRow.kept h.fd g h.ap, h.rd.kept fm g, ap_new h.ap h.fd loc (Nat.le_refl _)⟩
theorem BW.block {wb W w' : World} {mv ov ov' u : Value} {ms os : List Value} {s : List (Nat × Nat) × List (Nat × Nat)} {x : Nat × Nat} (h : BW wb W mv ov ms os s) (hu : Fresh wb.heap.size W u (pairOf x))
    (f : FreshV W.heap.size w' ov' (os.take (insKI s.2 x) ++ [u] ++ os.drop (insKI s.2 x))) (e : Ext W w') : BW wb w' mv ov' ms (os.take (insKI s.2 x) ++ [u] ++ os.drop (insKI s.2 x)) (s.1, insL s.2 x) :=
  ⟨h.fm.ext e, f.more h.ext.size, h.rm.ext e, (h.ro.ext e).ins (hu.ext e), by
    cases ho : ov'.ownBlock with
    | none => exact .inl rfl
    | some g =>
      refine .inr fun hm => ?_
      have h1 := (World.ownsRow.lt f g ho).1
      have h2 := (World.ownsRow.lt h.fm g hm.symm).2
      omega, h.ext.trans e⟩
/-- A list that was made behind the met ones. -/
theorem DW.of {wb W w' : World} {mv dv : Value} {ms : List Value} {P : List (Nat × Nat)} (fm : FreshV wb.heap.size W mv ms) (hB : wb.heap.size ≤ W.heap.size) (f : FreshSS W.heap.size w' dv (P.map pairOf)) : ∃ ds, DW wb w' mv dv ds P := by
  obtain ⟨ds, h1, h2⟩ := f.vals
  refine ⟨ds, h1.more hB, ⟨by rw [h2.len, List.length_map], fun j u x hu hx => (h2.row j u _ hu (by rw [List.getElem?_map, hx]; rfl)).more hB⟩, ?_⟩
  cases ho : dv.ownBlock with
  | none => exact .inl rfl
  | some g =>
    refine .inr fun hm => ?_
    have h1 := (World.ownsRow.lt h1 g ho).1
    have h2 := (World.ownsRow.lt fm g hm.symm).2
    omega

theorem BW.start (wb : World) (p q : Nat) : BW wb ((wb.alloc (.cells #[.int .i64 p, .int .i64 ((q : Int) + 1)] 3)).alloc (.cells #[.slice (some ⟨wb.heap.size, 0, none⟩) 2 2] 26)) (.slice (some ⟨wb.heap.size + 1, 0, none⟩) 1 1) (.slice none 0 0) [.slice (some ⟨wb.heap.size, 0, none⟩) 2 2] [] ([(p, q)], []) := by
  refine ⟨?_, FreshV.nil _ _, ⟨rfl, fun j u x hu hx => ?_⟩, PRows.nil _ _, .inl rfl, Ext.alloc2 _ _ _⟩
  · have h := World.ownsRow_lit (base := wb.heap.size) (e := 26) (size := 1) (wb.alloc (.cells #[.int .i64 p, .int .i64 ((q : Int) + 1)] 3)) #[.slice (some ⟨wb.heap.size, 0, none⟩) 2 2] 1 (by simp) (by unfold maxLen; omega) (by simp)
    simpa [FreshV] using h
  · match j, hu, hx with
    | 0, hu, hx =>
      simp at hu hx
      subst hu hx
      exact (fresh_lit wb (pairOf (p, q)) #[.int .i64 p, .int .i64 ((q : Int) + 1)] wb.heap.size rfl (Nat.le_refl _) (by simp [pairOf])).ext (Ext.alloc1 _ _)
theorem BlkB.start {p q : Nat} (h : p < 5 ∧ q < 6) : BlkB ([(p, q)], []) :=
  ⟨by simp, by simp, fun z hz => by
    obtain rfl : z = (p, q) := by simpa using hz
    exact h, fun z hz => by cases hz⟩

/-- append(s, x), s of lists and of the call's own: and where the new slice lies. -/
theorem wpList_pushVAt {ops : Array Oper} {rest : List Oper} {o : Oper} {a : Act} {Q : Exit → Act → World → Prop} {w : World} (hgd : o.guard = none) (s x : Operand)
    (ho : o.op = .call { callee := .builtin .append, args := #[s, x], argTypes := #[63, 63] })
    (B : Nat) (v : Value) (vs : List Value) (hs : a.eval s = v) (hf : FreshV B w v vs) (u : Value) (ad : Addr) (c : Nat) (hx : a.eval x = .slice (some ad) 1 c)
    (hc : w.cell? ad = some u) (h1 : u.oneCell' = true) (hl : vs.length ≤ 1048576) (hB : B ≤ w.heap.size)
    (h : ∀ v' w', FreshV B w' v' (vs ++ [u]) → w.grownBy w' v.ownBlock → Kept B w w' → (v'.ownBlock = v.ownBlock ∨ v'.ownBlock = some w.heap.size) → wpList Tryz.prog ops Q rest (a.put o.dst v') w') : wpList Tryz.prog ops Q (o :: rest) a w := by
  obtain ⟨i0, hi, hz0, hz1, hz2⟩ := info_parts Tryz.infoInts
  refine wpList_append_own_at _ hgd s x 63 ho B 26 i0 (.slice none 0 0) 1 24 Tryz.underlying63 hi hz0 hz1 hz2 rfl (by decide) v vs.length _ hs hf ad 1 c [u] hx rfl ?_ ?_ ?_ ?_ hB ?_
  · intro j z hj
    match j, hj with
    | 0, hj => simp at hj; subst hj; simpa [Addr.add] using hc
  · intro z hz; simp at hz; subst hz; exact h1
  · unfold maxLen; omega
  · omega
  · intro v' w' ho' hg _ hloc
    exact h v' w' (by unfold FreshV; simpa using ho') hg (fun q hq hqB => Below.grown hq hg hq.size (fun b hb => Nat.le_trans hqB (World.ownsRow.lt hf b hb).1)) hloc
end Go.Proofs.YtcpmfcigciknlaaGreat

namespace Go.Proofs.YtcpmfcigciknlaaGreat
open Go.RowKit
set_option linter.unusedVariables false

/-- Where a list stands first, or -1. -/
def FoundAt (L : List (List Int)) (x : List Int) (r : Int) : Prop :=
  (∃ k : Nat, r = (k : Int) ∧ L[k]? = some x ∧ ∀ i, i < k → L[i]? ≠ some x) ∨ (r = -1 ∧ x ∉ L)

set_option maxHeartbeats 1000000 in
theorem l6Find_any (v u : Value) (L : List (List Int)) (x : List Int) (w : World) (hv : Intss w v L) (hu : Ints w u x) :
    Calls Tryz.prog 94 #[v, u] w (fun e w' => ∃ r, e = .returned (.int .i64 r) ∧ FoundAt L x r ∧ Ext w w') := by
  have HU := Lib.hid hu
  obtain ⟨au, cu, rfl, _⟩ := hu
  obtain ⟨av, cv, rfl, hlv, _, hcv⟩ := hv
  unfold maxLen at hlv
  go_enter Tryz.func94, Tryz.ntmps94
  go_wp2
  go_loopw [9] (fun i wr => ∃ k : Nat, k ≤ L.length ∧ i = .int .i64 k ∧ Hid (∀ i, i < k → L[i]? ≠ some x) ∧ Hid (Ext w wr)) (fun i _ => L.length - (intOf i).toNat)
  case atStart => exact ⟨0, Nat.zero_le _, rfl, Lib.hid (fun _ h => by omega), Lib.hid (Ext.refl _)⟩
  case round =>
    obtain ⟨k, hk, rfl, HN, HX⟩ := hrel
    by_cases hlt : k < L.length
    · obtain ⟨bv, ov, rfl, dv⟩ := hcv (by omega)
      obtain ⟨z, hz, iz⟩ := dv k hlt
      rw [List.getElem?_eq_getElem hlt, Option.getD_some] at iz
      have gz := HX.out.cell hz
      have IZ := Lib.hid (iz.ext HX.out)
      obtain ⟨az, cz, rfl, _⟩ := iz
      clear dv hz hcv
      go_wp2_with fail
      refine (l1Same_any _ _ _ _ _ (HU.out.ext HX.out) IZ.out).mono ?_
      rintro e w1 ⟨rfl, x1⟩
      have X1 := Lib.hid (HX.out.trans x1)
      clear x1 gz
      by_cases he : x = L[k]
      · rw [decide_eq_true he]
        have HE := Lib.hid he
        clear he
        go_wp2
        go_ret
        exact ⟨_, rfl, .inl ⟨k, rfl, by rw [List.getElem?_eq_getElem hlt, HE.out], HN.out⟩, X1.out⟩
      · rw [decide_eq_false he]
        have HN2 : Hid (∀ i, i < k + 1 → L[i]? ≠ some x) := Lib.hid (fun i hi => by
          by_cases e : i = k
          · subst e
            rw [List.getElem?_eq_getElem hlt]
            exact fun e => he (Option.some.inj e).symm
          · exact HN.out i (by omega))
        clear he HN
        go_wp2
        go_roundw
        case rel => exact ⟨k + 1, by omega, by go_num, HN2, X1⟩
        case measure => simp [intOf]; omega
    · obtain rfl : k = L.length := by omega
      have hno : x ∉ L := fun hm => by
        obtain ⟨i, hi, e⟩ := List.getElem_of_mem hm
        exact HN.out i hi (by rw [List.getElem?_eq_getElem hi, e])
      have HNO := Lib.hid hno
      clear hno HN
      go_wp2
      go_ret
      exact ⟨_, rfl, .inr ⟨rfl, HNO.out⟩, HX.out⟩

end Go.Proofs.YtcpmfcigciknlaaGreat

namespace Go.Proofs.YtcpmfcigciknlaaGreat
open Go.RowKit Go.Maps
set_option linter.unusedVariables false

theorem pairOf_inj' {x y : Nat × Nat} (h : pairOf x = pairOf y) : x = y := by
  unfold pairOf at h
  simp only [List.cons.injEq, and_true] at h
  exact Prod.ext (by omega) (by omega)
theorem found_in {L : List (Nat × Nat)} {x : Nat × Nat} {r : Int} (h : FoundAt (L.map pairOf) (pairOf x) r) : ((∃ k : Nat, r = (k : Int)) ∧ x ∈ L) ∨ (r = -1 ∧ x ∉ L) := by
  rcases h with ⟨k, rfl, hk, _⟩ | ⟨rfl, hno⟩
  · refine .inl ⟨⟨k, rfl⟩, ?_⟩
    rw [List.getElem?_map] at hk
    cases hL : L[k]? with
    | none => rw [hL] at hk; simp at hk
    | some y =>
      rw [hL] at hk
      simp only [Option.map_some, Option.some.injEq] at hk
      rw [← pairOf_inj' hk]
      exact List.mem_of_getElem? hL
  · exact .inr ⟨rfl, fun hm => hno (List.mem_map.2 ⟨x, hm, rfl⟩)⟩
theorem FreshV.big {B : Nat} {w : World} {v : Value} {vs : List Value} (h : FreshV B w v vs) (hp : 0 < vs.length) : ∃ g cap, v = .slice (some ⟨g, 0, none⟩) vs.length cap ∧ vs.length ≤ cap ∧ cap ≤ maxLen := by
  have h0 : w.ownsRow B 26 1 v vs.length vs := h
  rcases h0.2 with ⟨rfl, hn⟩ | ⟨g, cap, cur, rfl, _, _, h1, h2, _⟩
  · omega
  · exact ⟨g, cap, rfl, h1, h2⟩
theorem inst_st {n : Int} {T : List (List RowD)} {p q : Nat} (hp : p < T.length) : ((rowOf n T p q).st == 3) = instCom T p q := by
  unfold instCom
  rw [List.getElem?_eq_getElem hp, Option.getD_some]
  by_cases hq : q < T[p].length
  · rw [rowOf_in hp hq, List.getElem?_eq_getElem hq]
  · rw [rowOf_out hp (by omega), List.getElem?_eq_none (by omega)]
    rfl
theorem field_rowS (b v st k i f t a s : Int) (u : Value) (W : World) : (Instr.field 83 (.agg #[.int .i64 b, .int .i64 v, .int .i64 st, .int .i64 k, .int .i64 i, .int .i64 f, .int .i64 t, .int .i64 a, .int .i64 s, u]) 2).run Tryz.prog W = .ok (.int .i64 st) W := by kernel_rfl
theorem depsL_row {n : Int} {T : List (List RowD)} (hg : goodTab n T = true) {y x : Nat × Nat} (hy : instCom T y.1 y.2 = true) (hx : x ∈ depsL n T y) : x.1 < T.length := by
  have h := (mem_depsL.1 hx).1
  unfold hungL hungTo hungAt depM at h
  simp only [List.mem_flatMap, List.mem_range, List.mem_map] at h
  obtain ⟨p, hp, i, hi, rfl⟩ := h
  have h1 := (com_row hg hy).2.1
  show p < T.length
  omega
theorem depsL_len {n : Int} {T : List (List RowD)} (hg : goodTab n T = true) {y : Nat × Nat} (hy : y.1 < T.length) : (depsL n T y).length ≤ 1000 := by
  have h1 := depsTo_len (r := rowOf n T y.1 y.2) (x := y) (fun k => by have := dep_in hg hy y.2 k; unfold depN; omega) (rowOf n T y.1 y.2).l.length
  have h2 := rowOf_list hg hy y.2
  show (depsTo (rowOf n T y.1 y.2) y (rowOf n T y.1 y.2).l.length).length ≤ 1000
  omega

/-- What the model's l6Blockers tells. -/
def BlkR (n : Int) (T : List (List RowD)) (x0 : Nat × Nat) (w : World) (e : Ending) (w' : World) : Prop :=
  ∃ v os s i, e = .returned v ∧ PairsAt w' v os s.2 ∧ BlkI n T x0 i 0 s ∧ s.1.length ≤ i ∧ BlkB s ∧ Ext w w'

theorem addB_old {T : List (List RowD)} {s : List (Nat × Nat) × List (Nat × Nat)} {x : Nat × Nat} (h : x ∈ s.1 ∨ x ∈ s.2) : addB T s x = s := by unfold addB; rw [if_pos h]
theorem addB_com {T : List (List RowD)} {s : List (Nat × Nat) × List (Nat × Nat)} {x : Nat × Nat} (h1 : x ∉ s.1) (h2 : x ∉ s.2) (h : instCom T x.1 x.2 = true) : addB T s x = (s.1 ++ [x], s.2) := by
  unfold addB; rw [if_neg (by simp [h1, h2]), if_pos h]
theorem addB_not {T : List (List RowD)} {s : List (Nat × Nat) × List (Nat × Nat)} {x : Nat × Nat} (h1 : x ∉ s.1) (h2 : x ∉ s.2) (h : instCom T x.1 x.2 = false) : addB T s x = (s.1, insL s.2 x) := by
  unfold addB; rw [if_neg (by simp [h1, h2]), if_neg (by rw [h]; simp)]

set_option maxHeartbeats 8000000 in
set_option maxRecDepth 100000 in
theorem l6Blockers_any (n : Int) (u : Value) (T : List (List RowD)) (p q : Nat) (w : World) (hu : Rowzz w u T) (hg : goodTab n T = true) (hc : instCom T p q = true) :
    Calls Tryz.prog 134 #[.agg #[.int .i64 n, u], .int .i64 p, .int .i64 ((q : Int) + 1)] w (BlkR n T (p, q) w) := by
  have HG := Lib.hid hg
  have HC := Lib.hid hc
  have hcr := com_row hg hc
  have hp1 := inT_low (goodTab_both hg).1 (goodTab_both hg).2 (instCom_inT hc)
  obtain ⟨wb, hwb⟩ : ∃ wb, wb = w.alloc (.cells #[.int .i64 n, u] 32) := ⟨_, rfl⟩
  have xb : Ext w wb := by rw [hwb]; exact Ext.alloc1 _ _
  have b0 := attrAt_new w 32 n u
  rw [← hwb] at b0
  have HU := Lib.hid (hu.ext xb)
  have XB := Lib.hid xb
  have HB := Lib.hid b0
  have SB : Hid (wb.heap.size = w.heap.size + 1) := Lib.hid (by rw [hwb]; simp)
  have HWB := Lib.hid hwb
  obtain ⟨au, cu, rfl, hlu, _, _⟩ := hu
  clear hg hc hcr xb b0 hwb hlu
  go_enter Tryz.func134, Tryz.ntmps134
  go_wp2
  rw [← HWB.out]
  go_loopw [7, 8, 9] (fun mv ov i wr => ∃ (k : Nat) (s : List (Nat × Nat) × List (Nat × Nat)) (ms os : List Value), i = .int .i64 k ∧ k ≤ s.1.length ∧ Hid (BW wb wr mv ov ms os s) ∧ Hid (BlkI n T (p, q) k 0 s) ∧ Hid (BlkB s)) (fun _ _ i _ => 31 - (intOf i).toNat)
  case atStart =>
    have h := BW.start wb p q
    rw [SB.out] at h
    exact ⟨0, ([(p, q)], []), _, [], rfl, by simp, Lib.hid h, Lib.hid (BlkI.start HC.out), Lib.hid (BlkB.start (by omega))⟩
  case round =>
    obtain ⟨k, s, ms, os, rfl, hk, HW, HI, HBB⟩ := hrel
    have hml := HW.out.rm.1
    have hs1 : 0 < s.1.length := List.length_pos_of_mem HI.out.first
    have hfew := HBB.out.few.1
    obtain ⟨g, cap, rfl, hcap, hcm⟩ := HW.out.fm.big (by omega)
    obtain ⟨m, hm⟩ : ∃ m, m = s.1.length := ⟨_, rfl⟩
    rw [hml, ← hm] at hcap
    have hfm := HW.out.fm
    rw [hml, ← hm] at HW hfm ⊢
    have HM := Lib.hid hm
    have HML : Hid (ms.length = m) := Lib.hid (by rw [hml, hm])
    have HFM := Lib.hid hfm
    unfold maxLen at hcm
    rw [← hm] at hk hs1 hfew
    clear hml hfm hm
    by_cases hlt : k < m
    · have hks : k < s.1.length := by rw [← HM.out]; exact hlt
      obtain ⟨y, hy⟩ : ∃ y, s.1[k]? = some y := ⟨_, List.getElem?_eq_getElem hks⟩
      obtain ⟨yv, hyv⟩ : ∃ yv, ms[k]? = some yv := ⟨_, List.getElem?_eq_getElem (by rw [HW.out.rm.1]; exact hks)⟩
      have gy := HFM.out.at HML.out hyv
      obtain ⟨by_, oy, cy, rfl, y0, y1⟩ := pair_at (HW.out.rm.2 k yv y hyv hy).ints
      have hyc := HI.out.com y (List.mem_of_getElem? hy)
      have hcx := com_row HG.out hyc
      have HY := Lib.hid hy
      have HYC := Lib.hid hyc
      have HBX := Lib.hid (HB.out.ext HW.out.ext)
      have ks : ∀ V, Ext wr V → Ext wr V ∧ V.cell? ⟨w.heap.size, 0, none⟩ = some (.int .i64 n) ∧ V.cell? ⟨w.heap.size, 1, none⟩ = some (.slice au T.length cu) ∧ V.cell? ⟨g, k, none⟩ = some (.slice (some ⟨by_, oy, none⟩) 2 cy) ∧ V.cell? ⟨by_, oy, none⟩ = some (.int .i64 y.1) ∧ V.cell? ⟨by_, oy + 1, none⟩ = some (.int .i64 ((y.2 : Int) + 1)) := fun V hV => ⟨hV, hV.cell HBX.out.1, hV.cell HBX.out.2, hV.cell gy, hV.cell y0, hV.cell y1⟩
      have KS := Lib.hid ks
      have cD : ∀ V, Ext wr V → Calls Tryz.prog 137 #[.agg #[.int .i64 n, .slice au T.length cu], .int .i64 y.1, .int .i64 ((y.2 : Int) + 1)] V (NewIntss ((depsL n T y).map pairOf) V) := fun V hV => l6Deps_any n _ T y.1 y.2 _ (HU.out.ext (HW.out.ext.trans hV)) HG.out hcx.2.2.1 hcx.2.2.2
      have CD := Lib.hid cD
      have HR := Lib.hid (Ext.drew (Ext.refl wr))
      obtain ⟨P, hP⟩ : ∃ P, P = depsL n T y := ⟨_, rfl⟩
      have HP := Lib.hid hP
      have hPl := depsL_len HG.out hcx.2.2.1
      rw [← hP] at hPl
      clear gy y0 y1 hy hyv hyc hcx ks cD hP
      go_wp2_with fail
      go_region_held3 (fun V => Ext wr V ∧ V.cell? ⟨w.heap.size, 0, none⟩ = some (.int .i64 n) ∧ V.cell? ⟨w.heap.size, 1, none⟩ = some (.slice au T.length cu) ∧ V.cell? ⟨g, k, none⟩ = some (.slice (some ⟨by_, oy, none⟩) 2 cy) ∧ V.cell? ⟨by_, oy, none⟩ = some (.int .i64 y.1) ∧ V.cell? ⟨by_, oy + 1, none⟩ = some (.int .i64 ((y.2 : Int) + 1))) (first | (with_reducible exact KS.out _ HR.out) | (with_reducible exact KS.out _ SS.out)) (first | (go_at_call 137; refine (CD.out _ (And.left (by with_reducible assumption))).mono ?_; rintro e W3 ⟨vd, rfl, fd, x3⟩; obtain ⟨ad, kd, rfl⟩ := fd.form; have SS := Lib.hid (Ext.trans (And.left (by with_reducible assumption)) x3)))
      have W0 := HW.out.on (Ext.drew (Ext.refl wr))
      rw [← HP.out] at fd ⊢
      obtain ⟨ds, hds⟩ := DW.of W0.fm W0.ext.size fd
      have DW3 := Lib.hid (hds.on (Ext.refl _))
      have BW3 := Lib.hid (HW.out.on SS.out)
      have hfl : ((P.map pairOf).length) = P.length := by simp
      obtain ⟨mp, hmp⟩ : ∃ mp, mp = P.length := ⟨_, rfl⟩
      rw [hfl] at DW3
      rw [← hmp] at DW3 ⊢
      rw [← hmp] at hPl
      have HMP := Lib.hid hmp
      have HBT := HI
      clear W0 fd x3 hds hfl hmp HW KS CD HR SS
      go_wp2
      go_loopw [7, 8, 37] (fun mv ov i wr => ∃ (t : Nat) (s : List (Nat × Nat) × List (Nat × Nat)) (ms os : List Value), i = .int .i64 t ∧ t ≤ mp ∧ Hid (BW wb wr mv ov ms os s) ∧ Hid (DW wb wr mv (.slice ad mp kd) ds P) ∧ Hid (BlkI n T (p, q) k t s) ∧ Hid (BlkB s) ∧ Hid (s.1[k]? = some y)) (fun _ _ i _ => mp - (intOf i).toNat)
      case atStart => exact ⟨0, s, ms, os, rfl, Nat.zero_le _, BW3, DW3, HBT, HBB, HY⟩
      case round =>
        clear HI HBB BW3 DW3 HBT HFM HBX HML hcap hcm hs1 HY
        obtain ⟨t, s', ms', os', rfl, ht, HW, HD, HI, HBB, HY⟩ := hrel
        have hm7 : 0 < ms'.length := by rw [HW.out.rm.1]; exact List.length_pos_of_mem HI.out.first
        obtain ⟨g7, c7, rfl, _, _⟩ := HW.out.fm.big hm7
        clear hm7
        by_cases htl : t < mp
        · have htp : t < P.length := by rw [← HMP.out]; exact htl
          have hdl : ds.length = mp := by rw [HD.out.rd.1, HMP.out]
          obtain ⟨x, hx⟩ : ∃ x, P[t]? = some x := ⟨_, List.getElem?_eq_getElem htp⟩
          obtain ⟨xv, hxv⟩ : ∃ xv, ds[t]? = some xv := ⟨_, List.getElem?_eq_getElem (by omega)⟩
          obtain ⟨gd, kd', hvd, _, _⟩ := HD.out.fd.big (by omega)
          simp only [Value.slice.injEq] at hvd
          obtain ⟨rfl, hvn, hvk⟩ := hvd
          subst hvk
          clear hvn
          have gx := HD.out.fd.at hdl hxv
          have HXF := Lib.hid (HD.out.rd.2 t xv x hxv hx)
          obtain ⟨bx, ox, cx, rfl, x0, x1⟩ := pair_at HXF.out.ints
          have HX := Lib.hid (show (depsL n T y)[t]? = some x by rw [← HP.out]; exact hx)
          have hmem := List.mem_of_getElem? HX.out
          have hxT := depsL_row HG.out HYC.out hmem
          have hx6 := (depsL_in HG.out (com_row HG.out HYC.out).2.2.1 hmem).2
          have HML : Hid (ms'.length ≤ 1000) := Lib.hid (by have := HBB.out.few.1; rw [HW.out.rm.1]; omega)
          have HOL : Hid (s'.2.length ≤ 1000) := Lib.hid (by have := HBB.out.few.2; omega)
          have HYT : Hid (y.1 < T.length) := Lib.hid (com_row HG.out HYC.out).2.2.1
          clear hdl hx hxv hmem x0 x1
          go_wp2_with fail
          refine (l6Find_any _ _ (s'.1.map pairOf) (pairOf x) _ (PRows.at HW.out.fm HW.out.rm).intss HXF.out.ints).mono ?_
          rintro e w1 ⟨r, rfl, hf, e1⟩
          have HF := Lib.hid (found_in hf)
          have HW1 := Lib.hid (HW.out.on e1)
          have HD1 := Lib.hid (HD.out.on e1)
          have HX1 := Lib.hid (HXF.out.ext e1)
          clear hf e1 gx HW HD HXF
          rcases HF.out with ⟨⟨kr, rfl⟩, hin⟩ | ⟨rfl, hno⟩
          · have hr0 : (0 : Int) ≤ (kr : Int) := by omega
            have HN := Lib.hid (addB_old (T := T) (s := s') (x := x) (.inl hin))
            clear HF hin
            go_wp2
            go_roundw
            case rel => exact ⟨t + 1, s', ms', os', by go_num, by omega, HW1, HD1, Lib.hid (by have h := HI.out.step HY.out HX.out; rw [HN.out] at h; exact h), HBB, HY⟩
            case measure => simp [intOf]; omega
          · have HNO := Lib.hid hno
            clear HF hno
            go_wp2_with fail
            refine (l6Find_any _ _ (s'.2.map pairOf) (pairOf x) _ (PRows.at HW1.out.fo HW1.out.ro).intss HX1.out.ints).mono ?_
            rintro e w2 ⟨r, rfl, hf, e2⟩
            have HF := Lib.hid (found_in hf)
            have HW2 := Lib.hid (HW1.out.on e2)
            have HD2 := Lib.hid (HD1.out.on e2)
            have HX2 := Lib.hid (HX1.out.ext e2)
            clear hf e2 HW1 HD1 HX1
            rcases HF.out with ⟨⟨kr, rfl⟩, hin⟩ | ⟨rfl, hno⟩
            · have hr0 : (0 : Int) ≤ (kr : Int) := by omega
              have HN := Lib.hid (addB_old (T := T) (s := s') (x := x) (.inr hin))
              clear HF hin
              go_wp2
              go_roundw
              case rel => exact ⟨t + 1, s', ms', os', by go_num, by omega, HW2, HD2, Lib.hid (by have h := HI.out.step HY.out HX.out; rw [HN.out] at h; exact h), HBB, HY⟩
              case measure => simp [intOf]; omega
            · have HNO2 := Lib.hid hno
              clear HF hno
              obtain ⟨z0, z1⟩ : w2.cell? ⟨bx, ox, none⟩ = some (.int .i64 x.1) ∧ w2.cell? ⟨bx, ox + 1, none⟩ = some (.int .i64 ((x.2 : Int) + 1)) := by
                obtain ⟨b', o', c', hv, z0, z1⟩ := pair_at HX2.out.ints
                simp only [Value.slice.injEq, Option.some.injEq, Addr.mk.injEq, and_true] at hv
                obtain ⟨⟨rfl, rfl⟩, _, _⟩ := hv
                exact ⟨z0, z1⟩
              have hbx := HB.out.ext HW2.out.ext
              have ks : ∀ V, Ext w2 V → Ext w2 V ∧ V.cell? ⟨w.heap.size, 0, none⟩ = some (.int .i64 n) ∧ V.cell? ⟨w.heap.size, 1, none⟩ = some (.slice au T.length cu) ∧ V.cell? ⟨bx, ox, none⟩ = some (.int .i64 x.1) ∧ V.cell? ⟨bx, ox + 1, none⟩ = some (.int .i64 ((x.2 : Int) + 1)) := fun V hV => ⟨hV, hV.cell hbx.1, hV.cell hbx.2, hV.cell z0, hV.cell z1⟩
              have KS := Lib.hid ks
              have HR := Lib.hid (Ext.drew (Ext.refl w2))
              obtain ⟨d, hd⟩ : ∃ d, d = rowOf n T x.1 x.2 := ⟨_, rfl⟩
              have hst : (d.st == 3) = instCom T x.1 x.2 := by rw [hd]; exact inst_st hxT
              have cR : ∀ V, Ext w2 V → Calls Tryz.prog 65 #[.agg #[.int .i64 n, .slice au T.length cu], .int .i64 x.1, .int .i64 ((x.2 : Int) + 1)] V (NewRow d V) := fun V hV => by
                rw [hd]
                exact l4At_any n _ T x.1 x.2 _ (HU.out.ext (HW2.out.ext.trans hV)) HG.out hxT (by omega)
              have CR := Lib.hid cR
              clear z0 z1 hbx ks hd cR
              cases hcm : instCom T x.1 x.2
              all_goals
                rw [hcm] at hst
                have HCM := Lib.hid hcm
                clear hcm
                go_wp2_with fail
                go_region_held3 (fun V => Ext w2 V ∧ V.cell? ⟨w.heap.size, 0, none⟩ = some (.int .i64 n) ∧ V.cell? ⟨w.heap.size, 1, none⟩ = some (.slice au T.length cu) ∧ V.cell? ⟨bx, ox, none⟩ = some (.int .i64 x.1) ∧ V.cell? ⟨bx, ox + 1, none⟩ = some (.int .i64 ((x.2 : Int) + 1))) (first | (with_reducible exact KS.out _ HR.out) | (with_reducible exact KS.out _ SS.out)) (first | (go_at_call 65; refine (CR.out _ (And.left (by with_reducible assumption))).mono ?_; rintro e W3 ⟨ur, rfl, fr, x3⟩; obtain ⟨ar, kr, rfl⟩ := fr.form; have hfd := fun W => field_rowS d.b d.v d.st d.k d.i d.f d.t d.a d.s (.slice ar d.l.length kr) W; have SS := Lib.hid (Ext.trans (And.left (by with_reducible assumption)) x3)))
                clear hfd fr x3 KS CR HR hst
                have HW3 := Lib.hid (HW2.out.on SS.out)
                have HD3 := Lib.hid (HD2.out.on SS.out)
                have HX3 := Lib.hid (HX2.out.ext SS.out)
                clear SS HW2 HD2 HX2
              · have HOB := Lib.hid (PRows.at HW3.out.fo HW3.out.ro)
                go_wp2_with fail
                refine (l6Insert_any HOB.out HX3.out.ints HOL.out).mono ?_
                rintro e w5 ⟨v5, rfl, f5, x5, _⟩
                have HW5 := Lib.hid (HW3.out.block HX3.out f5 x5)
                have HD5 := Lib.hid (HD3.out.on x5)
                have HN := Lib.hid (addB_not HNO.out HNO2.out HCM.out)
                clear f5 x5 HW3 HD3 HX3 HOB
                go_wp2
                go_roundw
                case rel => exact ⟨t + 1, (s'.1, insL s'.2 x), _, _, by go_num, by omega, HW5, HD5, Lib.hid (by have h := HI.out.step HY.out HX.out; rw [HN.out] at h; exact h), Lib.hid (by have h := HBB.out.step HG.out HYT.out (List.mem_of_getElem? HX.out); rw [HN.out] at h; exact h), HY⟩
                case measure => simp [intOf]; omega
              · have HX4 := Lib.hid (HX3.out.ext (Ext.alloc1 W3 (.cells #[.slice (some ⟨bx, ox, none⟩) 2 cx] 26)))
                have HW4 := Lib.hid (HW3.out.on (Ext.alloc1 W3 (.cells #[.slice (some ⟨bx, ox, none⟩) 2 cx] 26)))
                have HD4 := Lib.hid (HD3.out.on (Ext.alloc1 W3 (.cells #[.slice (some ⟨bx, ox, none⟩) 2 cx] 26)))
                have HLL : Hid (ms'.length ≤ 1048576) := Lib.hid (by have := HML.out; omega)
                have HSZ : Hid (wb.heap.size ≤ (W3.alloc (.cells #[.slice (some ⟨bx, ox, none⟩) 2 cx] 26)).heap.size) := Lib.hid HW4.out.ext.size
                clear HW3 HD3 HX3
                go_wp2_with (at_builtin; refine wpList_pushVAt rfl _ _ rfl wb.heap.size _ ms' rfl HW4.out.fm (.slice (some ⟨bx, ox, none⟩) 2 cx) ⟨W3.heap.size, 0, none⟩ 1 rfl (cell_alloc_one _ _ _) rfl HLL.out HSZ.out ?_)
                intro v5 w5 f5 g5 k5 loc5
                have loc6 : v5.ownBlock = (Value.slice (some ⟨g7, 0, none⟩) ms'.length c7).ownBlock ∨ v5.ownBlock = some (W3.alloc (.cells #[.slice (some ⟨bx, ox, none⟩) 2 cx] 26)).heap.size := by rw [World.size_alloc]; exact loc5
                have HW5 := Lib.hid (HW4.out.meet HX4.out f5 g5 k5 loc6)
                have HD5 := Lib.hid (HD4.out.meet HW4.out.fm g5 loc6)
                have HN := Lib.hid (addB_com HNO.out HNO2.out HCM.out)
                have HYN : Hid ((s'.1 ++ [x])[k]? = some y) := Lib.hid (by
                  rw [List.getElem?_append_left (List.getElem?_eq_some_iff.1 HY.out).1]
                  exact HY.out)
                clear f5 g5 k5 loc5 loc6 HW4 HD4 HX4 HLL HSZ
                go_wp2
                go_roundw
                case rel => exact ⟨t + 1, (s'.1 ++ [x], s'.2), _, _, by go_num, by omega, HW5, HD5, Lib.hid (by have h := HI.out.step HY.out HX.out; rw [HN.out] at h; exact h), Lib.hid (by have h := HBB.out.step HG.out HYT.out (List.mem_of_getElem? HX.out); rw [HN.out] at h; exact h), HYN⟩
                case measure => simp [intOf]; omega
        · obtain rfl : t = mp := by omega
          have HIN := Lib.hid (HI.out.next HY.out (by rw [← HP.out, ← HMP.out]; exact Nat.le_refl _))
          have hk1 := (List.getElem?_eq_some_iff.1 HY.out).1
          have HK1 := Lib.hid hk1
          have HF30 := Lib.hid HBB.out.few.1
          clear hk1 HI HD
          go_wp2
          go_roundw
          case rel => exact ⟨k + 1, s', ms', os', by go_num, HK1.out, HW, HIN, HBB⟩
          case measure => simp [intOf]; omega
    · obtain rfl : k = m := by omega
      have HE : Hid (PairsAt wr u8 os s.2) := Lib.hid (PRows.at HW.out.fo HW.out.ro)
      have HX := Lib.hid (XB.out.trans HW.out.ext)
      clear HW HFM
      go_wp2
      go_ret
      exact ⟨_, os, s, k, rfl, HE.out, HI.out, by rw [← HM.out]; exact Nat.le_refl _, HBB.out, HX.out⟩
end Go.Proofs.YtcpmfcigciknlaaGreat

namespace Go.Proofs.YtcpmfcigciknlaaGreat
open Go.RowKit Go.Maps
set_option linter.unusedVariables false

/-- Where a list stands first, or -1. -/
def findI (L : List (List Int)) (x : List Int) : Int := if x ∈ L then ((L.findIdx (fun y => decide (y = x)) : Nat) : Int) else -1
theorem findI_of {L : List (List Int)} {x : List Int} {r : Int} (h : FoundAt L x r) : r = findI L x := by
  unfold findI
  rcases h with ⟨k, rfl, hk, hn⟩ | ⟨rfl, hno⟩
  · have hm : x ∈ L := List.mem_of_getElem? hk
    rw [if_pos hm]
    obtain ⟨hlt, e⟩ := List.getElem?_eq_some_iff.1 hk
    have : L.findIdx (fun y => decide (y = x)) = k := by
      rw [List.findIdx_eq hlt]
      refine ⟨by simp [e], fun j hj => ?_⟩
      have h1 := hn j hj
      rw [List.getElem?_eq_getElem (by omega)] at h1
      simpa using h1
    rw [this]
  · rw [if_neg hno]
theorem l6Find_val (v u : Value) (L : List (List Int)) (x : List Int) (w : World) (hv : Intss w v L) (hu : Ints w u x) :
    Calls Tryz.prog 94 #[v, u] w (fun e w' => e = .returned (.int .i64 (findI L x)) ∧ Ext w w') :=
  (l6Find_any v u L x w hv hu).mono (by
    rintro e w' ⟨r, rfl, hf, hx⟩
    exact ⟨by rw [findI_of hf], hx⟩)
theorem Intss.upto {w : World} {a : Option Addr} {n c : Nat} {L : List (List Int)} (h : Intss w (.slice a n c) L) (k : Nat) (hk : k ≤ L.length) : Intss w (.slice a k c) (L.take k) := by
  obtain ⟨ao, cap, hv, hm, hcap, hc⟩ := h
  simp only [Value.slice.injEq] at hv
  obtain ⟨rfl, rfl, rfl⟩ := hv
  have e : (L.take k).length = k := by rw [List.length_take]; omega
  refine ⟨a, c, by rw [e], by rw [e]; omega, ⟨by rw [e]; omega, hcap.2.1, hcap.2.2⟩, fun hp => ?_⟩
  obtain ⟨b, off, ha, hd⟩ := hc (by omega)
  refine ⟨b, off, ha, fun j hj => ?_⟩
  rw [e] at hj
  obtain ⟨u, hu, hi⟩ := hd j (by omega)
  refine ⟨u, hu, ?_⟩
  rw [List.getElem?_take, if_pos hj]
  exact hi

def instAt (n : Int) (L : List (List Int)) (k : Nat) : Bool := decide ((L[k]?.getD []).length = 2) && (instB n ((L[k]?.getD [])[0]?.getD 0) ((L[k]?.getD [])[1]?.getD 0) && !decide (L[k]?.getD [] ∈ L.take k))
/-- Are they instances, each once? -/
def instsB (n : Int) (L : List (List Int)) : Bool := (List.range L.length).all (instAt n L)
theorem instsB_no {n : Int} {L : List (List Int)} {k : Nat} (hk : k < L.length) (h : instAt n L k = false) : instsB n L = false := by
  unfold instsB
  rw [List.all_eq_false]
  exact ⟨k, List.mem_range.2 hk, by rw [h]; simp⟩

end Go.Proofs.YtcpmfcigciknlaaGreat
