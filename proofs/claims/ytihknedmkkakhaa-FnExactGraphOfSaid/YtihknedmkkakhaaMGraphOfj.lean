/- Texts of this proof, part j: words, plain facts, contracts. -/
import Derived.Test.YtihknedmkkakhaaMGraphOfa
import Derived.Test.YtihknedmkkakhaaMGraphOff
import Derived.Test.YtihknedmkkakhaaMGraphOfh
import Derived.Test.YtihknedmkkakhaaMGraphOfe
import Derived.Deep.DeepCutAuto
import Derived.Deep.RegionWith
import Derived.Deep.RegionHeld3
import Derived.Test.YtihknedmkkakhaaMGraphOfi

namespace Go.Proofs.Ytihknedmkkakhaa
open Go.RowKit
set_option linter.unusedVariables false

/-! ### Rising lists -/
/-- Strictly rising. -/
def Rises (l : List Int) : Prop := l.Pairwise (· < ·)
instance (l : List Int) : Decidable (Rises l) := inferInstanceAs (Decidable (List.Pairwise _ _))
/-- Whether numbers are rising, within bounds. -/
def riseB (l : List Int) (lo hi : Int) : Bool := decide (Rises l) && allIn l lo hi
theorem riseB_of {l : List Int} {lo hi : Int} (h : riseB l lo hi = true) : Rises l ∧ ∀ x ∈ l, lo ≤ x ∧ x ≤ hi := by
  unfold riseB allIn inB at h
  simpa using h
theorem riseB_yes {l : List Int} {lo hi : Int} (h : Rises l) (k : ∀ x ∈ l, lo ≤ x ∧ x ≤ hi) : riseB l lo hi = true := by
  unfold riseB allIn inB
  simpa using ⟨h, k⟩

theorem take_while (p : Int → Bool) : ∀ l : List Int, l.take (l.takeWhile p).length = l.takeWhile p
  | [] => rfl
  | x :: l => by
    cases h : p x
    · simp [h]
    · simp [h, take_while p l]
theorem mem_while (p : Int → Bool) : ∀ (l : List Int) (x : Int), x ∈ l.takeWhile p → p x = true
  | [], x, h => by simp at h
  | y :: l, x, h => by
    cases hy : p y
    · simp [hy] at h
    · rw [List.takeWhile_cons, if_pos hy] at h
      rcases List.mem_cons.1 h with rfl | h
      · exact hy
      · exact mem_while p l x h
theorem mem_ahead {l : List Int} {n x : Int} (h : x ∈ l.take (ahead l n)) : x < n := by
  unfold ahead at h
  rw [take_while] at h
  have := mem_while _ _ _ h
  simpa using this
theorem ahead_le (l : List Int) (n : Int) : ahead l n ≤ l.length := (List.takeWhile_sublist _).length_le
theorem at_ahead : ∀ (l : List Int) (n x : Int), l[ahead l n]? = some x → n ≤ x
  | [], n, x, h => by simp [ahead] at h
  | y :: l, n, x, h => by
    by_cases hy : y < n
    · have e : ahead (y :: l) n = ahead l n + 1 := by simp [ahead, hy]
      rw [e, List.getElem?_cons_succ] at h
      exact at_ahead l n x h
    · have e : ahead (y :: l) n = 0 := by simp [ahead, hy]
      rw [e] at h
      simp at h
      omega

theorem putI_mem (l : List Int) (n x : Int) : x ∈ putI l n ↔ x ∈ l ∨ x = n := by
  unfold putI
  by_cases h : l[ahead l n]? = some n
  · rw [if_pos h]
    constructor
    · exact Or.inl
    · rintro (h' | rfl)
      · exact h'
      · exact List.mem_of_getElem? h
  · rw [if_neg h]
    have e := List.take_append_drop (ahead l n) l
    constructor
    · intro hx
      rcases List.mem_append.1 hx with hx | hx
      · rcases List.mem_append.1 hx with hx | hx
        · exact .inl (List.mem_of_mem_take hx)
        · exact .inr (by simpa using hx)
      · exact .inl (List.mem_of_mem_drop hx)
    · rintro (hx | rfl)
      · rw [← e] at hx
        rcases List.mem_append.1 hx with hx | hx
        · exact List.mem_append_left _ (List.mem_append_left _ hx)
        · exact List.mem_append_right _ hx
      · simp
theorem putI_len {l : List Int} {n : Int} (h : n ∉ l) : (putI l n).length = l.length + 1 := by
  unfold putI
  rw [if_neg (fun e => h (List.mem_of_getElem? e))]
  have := ahead_le l n
  simp
  omega
theorem behind_ahead {l : List Int} {n x : Int} (hl : Rises l) (h : l[ahead l n]? ≠ some n) (hx : x ∈ l.drop (ahead l n)) : n < x := by
  obtain ⟨j, hj, rfl⟩ := List.getElem_of_mem hx
  have hjl : ahead l n + j < l.length := by simp at hj; omega
  rw [List.getElem_drop]
  have h0 : ahead l n < l.length := by omega
  have h1 : n ≤ l[ahead l n] := at_ahead l n _ (List.getElem?_eq_getElem h0)
  have h2 : n ≠ l[ahead l n] := fun e => h (by rw [List.getElem?_eq_getElem h0, ← e])
  rcases Nat.eq_zero_or_pos j with rfl | hp
  · show n < l[ahead l n + 0]
    simp only [Nat.add_zero]
    omega
  · have h3 : l[ahead l n] < l[ahead l n + j] := List.pairwise_iff_getElem.1 hl _ _ h0 hjl (by omega)
    omega
theorem putI_rises {l : List Int} (n : Int) (hl : Rises l) : Rises (putI l n) := by
  unfold putI
  by_cases h : l[ahead l n]? = some n
  · rw [if_pos h]; exact hl
  · rw [if_neg h]
    unfold Rises
    rw [List.pairwise_append, List.pairwise_append]
    refine ⟨⟨List.Pairwise.sublist (List.take_sublist _ _) hl, by simp, ?_⟩, List.Pairwise.sublist (List.drop_sublist _ _) hl, ?_⟩
    · intro a ha b hb
      obtain rfl : b = n := by simpa using hb
      exact mem_ahead ha
    · intro a ha b hb
      have hb' := behind_ahead hl h hb
      rcases List.mem_append.1 ha with ha | ha
      · have := mem_ahead ha; omega
      · obtain rfl : a = n := by simpa using ha
        exact hb'

theorem rises_ext : ∀ {a b : List Int}, Rises a → Rises b → (∀ x, x ∈ a ↔ x ∈ b) → a = b
  | [], [], _, _, _ => rfl
  | [], y :: b, _, _, h => by have := (h y).2 (by simp); simp at this
  | x :: a, [], _, _, h => by have := (h x).1 (by simp); simp at this
  | x :: a, y :: b, ha, hb, h => by
    have ha' := List.pairwise_cons.1 ha
    have hb' := List.pairwise_cons.1 hb
    have hxy : x = y := by
      have h1 := (h x).1 (by simp)
      have h2 := (h y).2 (by simp)
      rcases List.mem_cons.1 h1 with e | h1
      · exact e
      · rcases List.mem_cons.1 h2 with e | h2
        · exact e.symm
        · have := hb'.1 x h1; have := ha'.1 y h2; omega
    subst hxy
    have ht : a = b := rises_ext ha'.2 hb'.2 (fun z => by
      constructor
      · intro hz
        rcases List.mem_cons.1 ((h z).1 (List.mem_cons_of_mem _ hz)) with e | k
        · have := ha'.1 z hz; omega
        · exact k
      · intro hz
        rcases List.mem_cons.1 ((h z).2 (List.mem_cons_of_mem _ hz)) with e | k
        · have := hb'.1 z hz; omega
        · exact k)
    rw [ht]
theorem rises_len : ∀ {l : List Int} (lo hi : Int), Rises l → (∀ x ∈ l, lo ≤ x ∧ x < hi) → lo ≤ hi → (l.length : Int) ≤ hi - lo
  | [], lo, hi, _, _, h => by simp; omega
  | x :: l, lo, hi, hl, hb, h => by
    have hl' := List.pairwise_cons.1 hl
    have hx := hb x (by simp)
    have := rises_len (x + 1) hi hl'.2 (fun y hy => ⟨by have := hl'.1 y hy; omega, (hb y (List.mem_cons_of_mem _ hy)).2⟩) (by omega)
    simp only [List.length_cons]
    omega

/-! ### Graphs -/
/-- The points that a point leads to at once. -/
def rowG (g : List (List Int)) (p : Int) : List Int := if 0 ≤ p then g[p.toNat]?.getD [] else []
/-- Each list rising, of points of the graph. -/
def rowsB (g : List (List Int)) : Bool := g.all fun l => riseB l 0 ((g.length : Int) - 1)
def goodG (g : List (List Int)) : Bool := rowsB g && decide (g.length ≤ 40)

inductive Reach (g : List (List Int)) (a : Int) : Int → Prop
  | self : Reach g a a
  | step {b c : Int} : Reach g a b → c ∈ rowG g b → Reach g a c

theorem Reach.trans {g : List (List Int)} {a b c : Int} (h : Reach g a b) (k : Reach g b c) : Reach g a c := by
  induction k with
  | self => exact h
  | step _ hc ih => exact ih.step hc

theorem rowG_at {g : List (List Int)} {k : Nat} (h : k < g.length) : rowG g (k : Int) = g[k] := by
  unfold rowG
  rw [if_pos (by omega), Int.toNat_natCast, List.getElem?_eq_getElem h]
  rfl
theorem row_in {g : List (List Int)} (hg : rowsB g = true) {p c : Int} (h : c ∈ rowG g p) : 0 ≤ c ∧ c < g.length := by
  unfold rowG at h
  by_cases hp : 0 ≤ p
  · rw [if_pos hp] at h
    cases e : g[p.toNat]? with
    | none => rw [e] at h; simp at h
    | some l =>
      rw [e] at h
      have hl : riseB l 0 ((g.length : Int) - 1) = true := List.all_eq_true.1 hg l (List.mem_of_getElem? e)
      have := (riseB_of hl).2 c h
      omega
  · rw [if_neg hp] at h; simp at h
theorem reach_in {g : List (List Int)} (hg : rowsB g = true) {k x : Int} (hk : 0 ≤ k ∧ k < g.length) (h : Reach g k x) : 0 ≤ x ∧ x < g.length := by
  induction h with
  | self => exact hk
  | step _ hc _ => exact row_in hg hc

open Classical in
/-- All points that a point leads to, rising. -/
noncomputable def reachL (g : List (List Int)) (k : Int) : List Int := ((List.range g.length).map fun (i : Nat) => (i : Int)).filter fun x => decide (Reach g k x)

theorem range_rises (n : Nat) : Rises ((List.range n).map fun (i : Nat) => (i : Int)) := by
  unfold Rises
  rw [List.pairwise_map]
  exact List.pairwise_lt_range.imp (fun h => by omega)
theorem reachL_rises (g : List (List Int)) (k : Int) : Rises (reachL g k) := List.Pairwise.filter _ (range_rises _)
open Classical in
theorem reachL_mem {g : List (List Int)} (hg : rowsB g = true) {k : Int} (hk : 0 ≤ k ∧ k < g.length) (x : Int) : x ∈ reachL g k ↔ Reach g k x := by
  unfold reachL
  rw [List.mem_filter]
  constructor
  · rintro ⟨_, h⟩; exact of_decide_eq_true h
  · intro h
    have hx := reach_in hg hk h
    exact ⟨List.mem_map.2 ⟨x.toNat, by simp; omega, by omega⟩, decide_eq_true h⟩
theorem reachL_unique {g : List (List Int)} (hg : rowsB g = true) {k : Int} (hk : 0 ≤ k ∧ k < g.length) {l : List Int} (hl : Rises l) (h : ∀ x, x ∈ l ↔ Reach g k x) : l = reachL g k :=
  rises_ext hl (reachL_rises g k) (fun x => (h x).trans (reachL_mem hg hk x).symm)
theorem reachL_len (g : List (List Int)) (k : Int) : (reachL g k).length ≤ g.length := by
  have := List.length_filter_le (fun x => @decide (Reach g k x) (Classical.propDecidable _)) ((List.range g.length).map fun (i : Nat) => (i : Int))
  simpa [reachL] using this

/-! ### A search in breadth -/
/-- met are the points met, all that the first i of them lead to at once among them; out are the same, rising. -/
structure Srch (g : List (List Int)) (k : Int) (i : Nat) (met out : List Int) : Prop where
  first : k ∈ met
  reach : ∀ x ∈ met, Reach g k x
  shut : ∀ (j : Nat) (p : Int), j < i → met[j]? = some p → ∀ c ∈ rowG g p, c ∈ met
  rises : Rises out
  same : ∀ x, x ∈ out ↔ x ∈ met
  len : met.length = out.length

theorem Srch.start (g : List (List Int)) (k : Int) : Srch g k 0 [k] [k] :=
  ⟨by simp, fun x hx => by obtain rfl : x = k := by simpa using hx
                           exact .self, fun j p hj => by omega, by simp [Rises], fun x => Iff.rfl, rfl⟩
/-- Of the point that is looked at, the first j that it leads to are met. -/
def SrchAt (g : List (List Int)) (k : Int) (i j : Nat) (p : Int) (met out : List Int) : Prop :=
  Srch g k i met out ∧ met[i]? = some p ∧ ∀ c ∈ (rowG g p).take j, c ∈ met
theorem Srch.look {g : List (List Int)} {k : Int} {i : Nat} {met out : List Int} (h : Srch g k i met out) (hi : i < met.length) : SrchAt g k i 0 met[i] met out :=
  ⟨h, List.getElem?_eq_getElem hi, by simp⟩
theorem SrchAt.known {g : List (List Int)} {k p : Int} {i j : Nat} {met out : List Int} (h : SrchAt g k i j p met out) (hj : j < (rowG g p).length) (hm : (rowG g p)[j] ∈ met) : SrchAt g k i (j + 1) p met out := by
  refine ⟨h.1, h.2.1, fun c hc => ?_⟩
  rw [List.take_add_one, List.getElem?_eq_getElem hj] at hc
  rcases List.mem_append.1 hc with hc | hc
  · exact h.2.2 c hc
  · obtain rfl : c = (rowG g p)[j] := by simpa using hc
    exact hm
theorem SrchAt.add {g : List (List Int)} {k p : Int} {i j : Nat} {met out : List Int} (h : SrchAt g k i j p met out) (hj : j < (rowG g p).length) (hm : (rowG g p)[j] ∉ met) : SrchAt g k i (j + 1) p (met ++ [(rowG g p)[j]]) (putI out (rowG g p)[j]) := by
  obtain ⟨h, hp, hs⟩ := h
  have hi : i < met.length := (List.getElem?_eq_some_iff.1 hp).1
  refine ⟨⟨List.mem_append_left _ h.first, ?_, ?_, putI_rises _ h.rises, ?_, ?_⟩, ?_, ?_⟩
  · intro x hx
    rcases List.mem_append.1 hx with hx | hx
    · exact h.reach x hx
    · obtain rfl : x = (rowG g p)[j] := by simpa using hx
      exact (h.reach p (List.mem_of_getElem? hp)).step (List.getElem_mem hj)
  · intro j' q hj' hq c hc
    rw [List.getElem?_append_left (by omega)] at hq
    exact List.mem_append_left _ (h.shut j' q hj' hq c hc)
  · intro x
    rw [putI_mem, List.mem_append, h.same x]
    simp
  · rw [List.length_append, putI_len (fun e => hm ((h.same _).1 e)), h.len]
    rfl
  · rw [List.getElem?_append_left hi]; exact hp
  · intro c hc
    rw [List.take_add_one, List.getElem?_eq_getElem hj] at hc
    rcases List.mem_append.1 hc with hc | hc
    · exact List.mem_append_left _ (hs c hc)
    · exact List.mem_append_right _ (by simpa using hc)
theorem SrchAt.next {g : List (List Int)} {k p : Int} {i j : Nat} {met out : List Int} (h : SrchAt g k i j p met out) (hj : (rowG g p).length ≤ j) : Srch g k (i + 1) met out := by
  obtain ⟨h, hp, hs⟩ := h
  refine ⟨h.first, h.reach, fun j' q hj' hq c hc => ?_, h.rises, h.same, h.len⟩
  by_cases e : j' = i
  · subst e
    rw [hp] at hq
    cases hq
    exact hs c (by rw [List.take_of_length_le hj]; exact hc)
  · exact h.shut j' q (by omega) hq c hc
theorem Srch.small {g : List (List Int)} {k : Int} {i : Nat} {met out : List Int} (hg : rowsB g = true) (hk : 0 ≤ k ∧ k < g.length) (h : Srch g k i met out) : met.length ≤ g.length := by
  have := rises_len 0 g.length h.rises (fun x hx => by have := reach_in hg hk (h.reach x ((h.same x).1 hx)); omega) (by omega)
  have := h.len
  omega
theorem Srch.done {g : List (List Int)} {k : Int} {i : Nat} {met out : List Int} (hg : rowsB g = true) (hk : 0 ≤ k ∧ k < g.length) (h : Srch g k i met out) (hi : met.length ≤ i) : out = reachL g k := by
  refine reachL_unique hg hk h.rises (fun x => ⟨fun hx => h.reach x ((h.same x).1 hx), fun hx => (h.same x).2 ?_⟩)
  induction hx with
  | self => exact h.first
  | step _ hc ih =>
    obtain ⟨j, hj, e⟩ := List.getElem_of_mem ih
    exact h.shut j _ (by omega) (by rw [List.getElem?_eq_getElem hj, e]) _ hc

end Go.Proofs.Ytihknedmkkakhaa

namespace Go.Proofs.Ytihknedmkkakhaa
open Go.RowKit Go.Maps
set_option linter.unusedVariables false

theorem pairs_len (T : List (List RowD)) : ((insts T).map pairOf).length = (insts T).length := by simp
theorem pair_at {w : World} {v : Value} {x : Nat × Nat} (h : Ints w v (pairOf x)) : ∃ b o c, v = .slice (some ⟨b, o, none⟩) 2 c ∧ w.cell? ⟨b, o, none⟩ = some (.int .i64 x.1) ∧ w.cell? ⟨b, o + 1, none⟩ = some (.int .i64 ((x.2 : Int) + 1)) := by
  obtain ⟨a, c, rfl, _, _, hc⟩ := h
  have hl : (pairOf x).length = 2 := rfl
  have h0 : 0 < (pairOf x).length := by omega
  have h1 : 1 < (pairOf x).length := by omega
  obtain ⟨b, o, rfl, hk⟩ := hc h0
  have z0 := hk 0 h0
  have z1 := hk 1 h1
  exact ⟨b, o, c, rfl, z0, z1⟩

set_option maxHeartbeats 4000000 in
set_option maxRecDepth 100000 in
theorem l6Hold_any (n : Int) (u : Value) (T : List (List RowD)) (w : World) (hu : Rowzz w u T) (hg : goodTab n T = true) :
    Calls Try.prog 87 #[.agg #[.int .i64 n, u]] w (BoolExt (holdB n T) w) := by
  have H56 := Lib.hid (goodTab_both hg)
  have HG := Lib.hid hg
  have HU := Lib.hid hu
  obtain ⟨au, cu, rfl, hlu, _, _⟩ := hu
  clear hg
  have hx0 := Ext.alloc1 w (.cells #[.int .i64 n, .slice au T.length cu] 48)
  have b0 := attrAt_new w 48 n (.slice au T.length cu)
  go_enter Try.func87, Try.ntmps87
  go_wp2_with fail
  refine (l4Committed_any n _ T _ (HU.out.ext hx0) H56.out.1 H56.out.2).mono ?_
  rintro e w1 ⟨v1, rfl, f1, x1⟩
  have B1 := Lib.hid (b0.ext x1)
  have X1 := Lib.hid (hx0.trans x1)
  have hi := f1.intss
  rw [allTo_insts] at hi
  have hi' : Intss w1 v1 ((insts T).map pairOf) := hi
  have HI := Lib.hid hi'
  obtain ⟨a1, k1, rfl, hl1, hcap1, hc1⟩ := hi'
  rw [pairs_len] at hl1 hcap1 hc1 ⊢
  unfold maxLen at hl1
  clear f1 x1 hi hx0 b0
  obtain ⟨m, hm⟩ : ∃ m, m = (insts T).length := ⟨_, rfl⟩
  rw [← hm] at hl1 hcap1 ⊢
  have HM := Lib.hid hm
  have HC1 := Lib.hid hc1
  obtain ⟨hcap, _, _⟩ := hcap1
  clear hm hc1
  go_wp2
  go_loopw [14] (fun i wr => ∃ j : Nat, j ≤ m ∧ i = .int .i64 j ∧ Hid (∀ a b (ha : a < (insts T).length) (hb : b < a), a < j → cfl n T ((insts T)[b]) ((insts T)[a]) = false) ∧ Ext w1 wr) (fun i _ => m - (intOf i).toNat)
  case atStart => exact ⟨0, Nat.zero_le _, rfl, Lib.hid (fun _ _ _ _ h => by omega), Ext.refl _⟩
  case round =>
    obtain ⟨j, hj, rfl, DH, hx⟩ := hrel
    by_cases hlt : j < m
    · have hjl : j < (insts T).length := by rw [← HM.out]; exact hlt
      obtain ⟨bu, ou, ha1, du⟩ := HC1.out (by omega)
      subst ha1
      obtain ⟨vy, hy1, iy⟩ := du j hjl
      have ey : ((insts T).map pairOf)[j]?.getD [] = pairOf (insts T)[j] := by simp [hjl]
      rw [ey] at iy
      obtain ⟨y, hy⟩ : ∃ y, y = (insts T)[j] := ⟨_, rfl⟩
      rw [← hy] at iy
      obtain ⟨by_, oy, cy, rfl, y0, y1⟩ := pair_at iy
      have gu := hx.cell hy1
      have Y0 := Lib.hid y0
      have Y1 := Lib.hid y1
      have HY := Lib.hid hy
      have hyc := mem_insts.1 (by rw [hy]; exact List.getElem_mem hjl : y ∈ insts T)
      have HYC := Lib.hid hyc
      have HX := Lib.hid hx
      clear du hy1 iy ey y0 y1 hy hyc
      have hj0 : (j : Int) ≤ k1 := by omega
      have hj1 : j ≤ k1 := by omega
      go_wp2
      go_loopw [23] (fun i wr => ∃ k : Nat, k ≤ j ∧ i = .int .i64 k ∧ Hid (∀ b (hb : b < k) (hb2 : b < (insts T).length), cfl n T ((insts T)[b]) y = false) ∧ Ext w1 wr) (fun i _ => j - (intOf i).toNat)
      case atStart => exact ⟨0, Nat.zero_le _, rfl, Lib.hid (fun _ h => by omega), HX.out⟩
      case round =>
        clear gu HX
        obtain ⟨k, hk, rfl, DI, hx⟩ := hrel
        by_cases hkt : k < j
        · have hkl : k < (insts T).length := by rw [← HM.out]; omega
          obtain ⟨bu', ou', ha1, du⟩ := HC1.out (by omega)
          simp only [Option.some.injEq, Addr.mk.injEq, and_true] at ha1
          obtain ⟨rfl, rfl⟩ := ha1
          obtain ⟨vx, hx1, ix⟩ := du k hkl
          have ex : ((insts T).map pairOf)[k]?.getD [] = pairOf (insts T)[k] := by simp [hkl]
          rw [ex] at ix
          obtain ⟨x, hxx⟩ : ∃ x, x = (insts T)[k] := ⟨_, rfl⟩
          rw [← hxx] at ix
          obtain ⟨bx, ox, cx, rfl, x0, x1⟩ := pair_at ix
          have gu := hx.cell hx1
          have HXX := Lib.hid hxx
          have hxc := mem_insts.1 (by rw [hxx]; exact List.getElem_mem hkl : x ∈ insts T)
          have HXC := Lib.hid hxc
          have X0' := Lib.hid x0
          have X1' := Lib.hid x1
          have HX := Lib.hid hx
          have e0 := hx.cell x0
          have e1 := hx.cell x1
          obtain ⟨t0, t1⟩ := B1.out.ext hx
          obtain ⟨p, q⟩ := x
          obtain ⟨p', q'⟩ := y
          clear du hx1 ix ex x0 x1 hxx hxc hx
          have hcx := com_row HG.out HXC.out
          obtain ⟨d, hd⟩ : ∃ d, d = rowOf n T p q := ⟨_, rfl⟩
          have cR : ∀ W, Ext w1 W → Calls Try.prog 73 #[.agg #[.int .i64 n, .slice au T.length cu], .int .i64 p, .int .i64 ((q : Int) + 1)] W (NewRow d W) := fun W hW => by
            rw [hd]
            exact l4At_any n _ T p q _ (HU.out.ext (X1.out.trans hW)) HG.out hcx.2.2.1 hcx.2.2.2
          have CR := Lib.hid cR
          have HD8 := Lib.hid hd
          clear cR hcx hd
          have ks : ∀ W, Ext w1 W → Ext w1 W ∧ W.cell? ⟨w.heap.size, 0, none⟩ = some (.int .i64 n) ∧ W.cell? ⟨w.heap.size, 1, none⟩ = some (.slice au T.length cu) ∧ W.cell? ⟨bx, ox, none⟩ = some (.int .i64 p) ∧ W.cell? ⟨bx, ox + 1, none⟩ = some (.int .i64 ((q : Int) + 1)) := fun W hW => ⟨hW, hW.cell B1.out.1, hW.cell B1.out.2, hW.cell X0'.out, hW.cell X1'.out⟩
          have KS := Lib.hid ks
          clear ks
          have hbw : w1.heap.size ≤ wr.heap.size := HX.out.size
          go_upto_region 8 with fail
          go_cut [8] (fun c wx => ∃ (b : Nat) (ax : Option Addr) (kx : Nat), c = .pointer (some ⟨b, 0, none⟩) ∧ RowAt wx b d (.slice ax d.l.length kx) ∧ Ints wx (.slice ax d.l.length kx) d.l ∧ Ext w1 wx)
          case first =>
            go_region_held3 (fun W => Ext w1 W ∧ W.cell? ⟨w.heap.size, 0, none⟩ = some (.int .i64 n) ∧ W.cell? ⟨w.heap.size, 1, none⟩ = some (.slice au T.length cu) ∧ W.cell? ⟨bx, ox, none⟩ = some (.int .i64 p) ∧ W.cell? ⟨bx, ox + 1, none⟩ = some (.int .i64 ((q : Int) + 1))) (first | (with_reducible exact KS.out _ HX.out.drew) | (with_reducible exact KS.out _ SS.out) | (with_reducible exact KS.out _ (Ext.alloc SS.out _)) | (with_reducible exact KS.out _ (Ext.drew (Ext.alloc HX.out _))) | (with_reducible exact KS.out _ (Ext.setc (Ext.setc (Ext.setc (Ext.setc (Ext.setc (Ext.setc (Ext.setc (Ext.setc (Ext.setc (Ext.setc SS.out hbw) hbw) hbw) hbw) hbw) hbw) hbw) hbw) hbw) hbw))) (first | (go_at_call 73; refine (CR.out _ (And.left (by with_reducible assumption))).mono ?_; rintro e W3 ⟨ux, rfl, fx, x3⟩; obtain ⟨ax, kx, rfl⟩ := fx.form; have SS := Lib.hid (Ext.trans (And.left (by with_reducible assumption)) x3); (first | (have PB := Lib.hid (OpenRow.ext (openRow_new _ _) (by first | exact x3 | exact Ext.trans (Ext.drew (Ext.refl _)) x3)); obtain ⟨o0, o1, o2, o3, o4, o5, o6, o7, o8, o9⟩ := PB.out.row; obtain ⟨z0, z1, z2, z3, z4, z5, z6, z7, z8, z9⟩ := PB.out.free) | skip)))
            all_goals
              go_wp2_with fail
              go_meet
              first
                | with_reducible exact ⟨_, ax, kx, rfl, rowAt_new _ _ d _, fx.ints.ext (Ext.alloc1 _ _), Ext.alloc SS.out _⟩
                | with_reducible exact ⟨_, ax, kx, rfl, put10_row PB.out, (put10_fresh fx (by simp)).ints, put10_ext SS.out hbw⟩
          case rest =>
            clear HX e0 e1 t0 t1 gu hbw KS CR
            obtain ⟨b8, a8, k8, rfl, r8, i8, x8⟩ := hcut
            obtain ⟨w8, hw8⟩ : ∃ w8, w8 = wc := ⟨_, rfl⟩
            rw [← hw8] at r8 i8 x8 ⊢
            clear hw8
            have HR8 := Lib.hid r8
            have HI8 := Lib.hid i8
            have HX8 := Lib.hid x8
            have HX88 := Lib.hid (Ext.refl w8)
            obtain ⟨t0, t1⟩ := B1.out.ext x8
            have e0 := x8.cell Y0.out
            have e1 := x8.cell Y1.out
            clear r8 i8 x8
            have hcx := com_row HG.out HYC.out
            obtain ⟨d', hd⟩ : ∃ d, d = rowOf n T p' q' := ⟨_, rfl⟩
            have cR : ∀ W, Ext w8 W → Calls Try.prog 73 #[.agg #[.int .i64 n, .slice au T.length cu], .int .i64 p', .int .i64 ((q' : Int) + 1)] W (NewRow d' W) := fun W hW => by
              rw [hd]
              exact l4At_any n _ T p' q' _ (HU.out.ext ((X1.out.trans HX8.out).trans hW)) HG.out hcx.2.2.1 hcx.2.2.2
            have CR := Lib.hid cR
            have HD9 := Lib.hid hd
            clear cR hcx hd
            have ks : ∀ W, Ext w8 W → Ext w8 W ∧ W.cell? ⟨w.heap.size, 0, none⟩ = some (.int .i64 n) ∧ W.cell? ⟨w.heap.size, 1, none⟩ = some (.slice au T.length cu) ∧ W.cell? ⟨by_, oy, none⟩ = some (.int .i64 p') ∧ W.cell? ⟨by_, oy + 1, none⟩ = some (.int .i64 ((q' : Int) + 1)) := fun W hW => ⟨hW, hW.cell (HX8.out.cell B1.out.1), hW.cell (HX8.out.cell B1.out.2), hW.cell (HX8.out.cell Y0.out), hW.cell (HX8.out.cell Y1.out)⟩
            have KS := Lib.hid ks
            clear ks
            have hbw : w8.heap.size ≤ w8.heap.size := HX88.out.size
            go_upto_region 9 with fail
            go_cut [9] (fun c wx => ∃ (b : Nat) (ax : Option Addr) (kx : Nat), c = .pointer (some ⟨b, 0, none⟩) ∧ RowAt wx b d' (.slice ax d'.l.length kx) ∧ Ints wx (.slice ax d'.l.length kx) d'.l ∧ Ext w8 wx)
            case first =>
              go_region_held3 (fun W => Ext w8 W ∧ W.cell? ⟨w.heap.size, 0, none⟩ = some (.int .i64 n) ∧ W.cell? ⟨w.heap.size, 1, none⟩ = some (.slice au T.length cu) ∧ W.cell? ⟨by_, oy, none⟩ = some (.int .i64 p') ∧ W.cell? ⟨by_, oy + 1, none⟩ = some (.int .i64 ((q' : Int) + 1))) (first | (with_reducible exact KS.out _ HX88.out.drew) | (with_reducible exact KS.out _ SS.out) | (with_reducible exact KS.out _ (Ext.alloc SS.out _)) | (with_reducible exact KS.out _ (Ext.drew (Ext.alloc HX88.out _))) | (with_reducible exact KS.out _ (Ext.setc (Ext.setc (Ext.setc (Ext.setc (Ext.setc (Ext.setc (Ext.setc (Ext.setc (Ext.setc (Ext.setc SS.out hbw) hbw) hbw) hbw) hbw) hbw) hbw) hbw) hbw) hbw))) (first | (go_at_call 73; refine (CR.out _ (And.left (by with_reducible assumption))).mono ?_; rintro e W3 ⟨ux, rfl, fx, x3⟩; obtain ⟨ax, kx, rfl⟩ := fx.form; have SS := Lib.hid (Ext.trans (And.left (by with_reducible assumption)) x3); (first | (have PB := Lib.hid (OpenRow.ext (openRow_new _ _) (by first | exact x3 | exact Ext.trans (Ext.drew (Ext.refl _)) x3)); obtain ⟨o0, o1, o2, o3, o4, o5, o6, o7, o8, o9⟩ := PB.out.row; obtain ⟨z0, z1, z2, z3, z4, z5, z6, z7, z8, z9⟩ := PB.out.free) | skip)))
              all_goals
                go_wp2_with fail
                go_meet
                first
                  | with_reducible exact ⟨_, ax, kx, rfl, rowAt_new _ _ d' _, fx.ints.ext (Ext.alloc1 _ _), Ext.alloc SS.out _⟩
                  | with_reducible exact ⟨_, ax, kx, rfl, put10_row PB.out, (put10_fresh fx (by simp)).ints, put10_ext SS.out hbw⟩
            case rest =>
              clear HX88 e0 e1 t0 t1 hbw KS CR
              obtain ⟨b9, a9, k9, rfl, r9, i9, x9⟩ := hcut
              obtain ⟨w9, hw9⟩ : ∃ w9, w9 = wc := ⟨_, rfl⟩
              rw [← hw9] at r9 i9 x9 ⊢
              clear hw9
              have hc2 : cfl n T (p, q) (p', q') = (interB d.k d.f d.t d'.k d'.f d'.t && (decide (d.l[p']?.getD 0 < (q' : Int) + 1) && decide (d'.l[p]?.getD 0 < (q : Int) + 1))) := by
                unfold cfl depI
                simp only [← HD8.out, ← HD9.out]
              obtain ⟨bi, hbi⟩ : ∃ b, b = interB d.k d.f d.t d'.k d'.f d'.t := ⟨_, rfl⟩
              obtain ⟨xa, hxa⟩ : ∃ x, x = d.l[p']?.getD 0 := ⟨_, rfl⟩
              obtain ⟨xb, hxb⟩ : ∃ x, x = d'.l[p]?.getD 0 := ⟨_, rfl⟩
              rw [← hbi, ← hxa, ← hxb] at hc2
              have HC2 := Lib.hid hc2
              have hcx := com_row HG.out HXC.out
              rw [← HD8.out] at hcx
              have hcy := com_row HG.out HYC.out
              rw [← HD9.out] at hcy
              have HBAD : Hid (cfl n T (p, q) (p', q') = true → holdB n T = false) := Lib.hid (fun hc => holdB_no (x := (p, q)) (y := (p', q')) (mem_insts.2 HXC.out) (mem_insts.2 HYC.out) (by rw [HXX.out, HY.out]; exact insts_ne hjl hkt) hc)
              have HNEXT : Hid (cfl n T (p, q) (p', q') = false → ∀ b (hb : b < k + 1) (hb2 : b < (insts T).length), cfl n T ((insts T)[b]) (p', q') = false) := Lib.hid (fun hc b hb hb2 => by
                by_cases e : b = k
                · subst e
                  rw [← HXX.out]
                  exact hc
                · exact DI.out b (by omega) hb2)
              have cI : ∀ E : ExtOf w9, Calls Try.prog 80 #[.agg #[.int .i64 d.k, .int .i64 d.i, .int .i64 d.f, .int .i64 d.t, .int .i64 d.a], .agg #[.int .i64 d'.k, .int .i64 d'.i, .int .i64 d'.f, .int .i64 d'.t, .int .i64 d'.a]] E.1 (BoolExt bi E.1) := fun E => by
                rw [hbi]
                exact l2Interfere_any _ _ _ _ _ _ _ _ _ _ _
              obtain ⟨_, _, _, m3, m4, m5, m6, m7, m8, m9⟩ := HR8.out.ext x9
              obtain ⟨_, _, _, g3, g4, g5, g6, g7, g8, g9⟩ := r9
              have ja := HI8.out.ext x9
              obtain ⟨aa, ca, ea, la, _, da⟩ := ja
              obtain ⟨ba, oa, ha8, da⟩ := da (by omega)
              obtain ⟨ab, cb, eb, lb, _, db⟩ := i9
              obtain ⟨bb, ob, hb9, db⟩ := db (by omega)
              simp only [Value.slice.injEq] at ea eb
              obtain ⟨ea, _, _⟩ := ea
              obtain ⟨eb, _, _⟩ := eb
              rw [ea, ha8] at m9
              rw [eb, hb9] at g9
              have za := da p' (by omega)
              have zb := db p (by omega)
              rw [← hxa] at za
              rw [← hxb] at zb
              have y0 := (HX8.out.trans x9).cell Y0.out
              have y1 := (HX8.out.trans x9).cell Y1.out
              have x0 := (HX8.out.trans x9).cell X0'.out
              have x1 := (HX8.out.trans x9).cell X1'.out
              have m3 := fun E : ExtOf w9 => E.cell m3
              have m4 := fun E : ExtOf w9 => E.cell m4
              have m5 := fun E : ExtOf w9 => E.cell m5
              have m6 := fun E : ExtOf w9 => E.cell m6
              have m7 := fun E : ExtOf w9 => E.cell m7
              have m9 := fun E : ExtOf w9 => E.cell m9
              have g3 := fun E : ExtOf w9 => E.cell g3
              have g4 := fun E : ExtOf w9 => E.cell g4
              have g5 := fun E : ExtOf w9 => E.cell g5
              have g6 := fun E : ExtOf w9 => E.cell g6
              have g7 := fun E : ExtOf w9 => E.cell g7
              have g9 := fun E : ExtOf w9 => E.cell g9
              have za := fun E : ExtOf w9 => E.cell za
              have zb := fun E : ExtOf w9 => E.cell zb
              have y0 := fun E : ExtOf w9 => E.cell y0
              have y1 := fun E : ExtOf w9 => E.cell y1
              have x0 := fun E : ExtOf w9 => E.cell x0
              have x1 := fun E : ExtOf w9 => E.cell x1
              have ia : p' < d.l.length ∧ (p' : Int) < d.l.length := by omega
              have ib : p < d'.l.length ∧ (p : Int) < d'.l.length := by omega
              clear da db ea eb ha8 hb9 la lb hbi hxa hxb hc2 hcx hcy m8 g8
              cases bi with
              | false =>
                go_wp2_with fail; refine wp_region_ext_lit (by kernel_rfl) (by kernel_rfl) ?_; (repeat (go_big_quiet_step (first | (go_at_call 80; exact Calls.ext_of _ (cI _))))); refine wpQuiet_nil ?_; rintro _ ⟨E, rfl⟩
                have XE := Lib.hid ((HX8.out.trans x9).trans E.2)
                have HNO := Lib.hid (HNEXT.out (by rw [HC2.out]; rfl))
                clear HNEXT HBAD
                go_wp2
                go_roundw
                case rel => exact ⟨k + 1, by omega, by go_num, HNO, XE.out⟩
                case measure => simp [intOf]; omega
              | true =>
                by_cases ka : xa < (q' : Int) + 1
                · have kaB : decide (xa < (q' : Int) + 1) = true := decide_eq_true ka
                  by_cases kb : xb < (q : Int) + 1
                  · have kbB : decide (xb < (q : Int) + 1) = true := decide_eq_true kb
                    have hres := HBAD.out (by rw [HC2.out, kaB, kbB]; rfl)
                    go_wp2_with fail; refine wp_region_ext_lit (by kernel_rfl) (by kernel_rfl) ?_; (repeat (go_big_quiet_step (first | (go_at_call 80; exact Calls.ext_of _ (cI _))))); refine wpQuiet_nil ?_; rintro _ ⟨E, rfl⟩
                    have HRES := Lib.hid hres
                    have XE := Lib.hid ((X1.out.trans (HX8.out.trans x9)).trans E.2)
                    clear HNEXT HBAD hres
                    go_wp2
                    go_ret
                    rw [HRES.out]
                    exact ⟨rfl, XE.out⟩
                  · have kbB : decide (xb < (q : Int) + 1) = false := decide_eq_false kb
                    go_wp2_with fail; refine wp_region_ext_lit (by kernel_rfl) (by kernel_rfl) ?_; (repeat (go_big_quiet_step (first | (go_at_call 80; exact Calls.ext_of _ (cI _))))); refine wpQuiet_nil ?_; rintro _ ⟨E, rfl⟩
                    have XE := Lib.hid ((HX8.out.trans x9).trans E.2)
                    have HNO := Lib.hid (HNEXT.out (by rw [HC2.out]; simp [kbB]))
                    clear HNEXT HBAD
                    go_wp2
                    go_roundw
                    case rel => exact ⟨k + 1, by omega, by go_num, HNO, XE.out⟩
                    case measure => simp [intOf]; omega
                · have kaB : decide (xa < (q' : Int) + 1) = false := decide_eq_false ka
                  go_wp2_with fail; refine wp_region_ext_lit (by kernel_rfl) (by kernel_rfl) ?_; (repeat (go_big_quiet_step (first | (go_at_call 80; exact Calls.ext_of _ (cI _))))); refine wpQuiet_nil ?_; rintro _ ⟨E, rfl⟩
                  have XE := Lib.hid ((HX8.out.trans x9).trans E.2)
                  have HNO := Lib.hid (HNEXT.out (by rw [HC2.out]; simp [kaB]))
                  clear HNEXT HBAD
                  go_wp2
                  go_roundw
                  case rel => exact ⟨k + 1, by omega, by go_num, HNO, XE.out⟩
                  case measure => simp [intOf]; omega
        · obtain rfl : k = j := by omega
          have HN := Lib.hid (show ∀ a b (ha : a < (insts T).length) (hb : b < a), a < k + 1 → cfl n T ((insts T)[b]) ((insts T)[a]) = false from fun a b ha hb hak => by
            by_cases e : a = k
            · subst e
              rw [← HY.out]
              exact DI.out b hb (by omega)
            · exact DH.out a b ha hb (by omega))
          clear DH DI
          go_wp2
          go_roundw
          case rel => exact ⟨k + 1, by omega, by go_num, HN, hx⟩
          case measure => simp [intOf]; omega
    · obtain rfl : j = m := by omega
      have hres : holdB n T = true := holdB_all fun a b ha hb => DH.out a b ha hb (by have := HM.out; omega)
      have HRES := Lib.hid hres
      have XE := Lib.hid (X1.out.trans hx)
      clear DH hres
      go_wp2
      go_ret
      rw [HRES.out]
      exact ⟨rfl, XE.out⟩

end Go.Proofs.Ytihknedmkkakhaa

namespace Go.Proofs.Ytihknedmkkakhaa
open Go.RowKit Go.Maps
set_option linter.unusedVariables false

/-- The places, in a list of instances, of those that are in P: rising. -/
def Got (L P : List (Nat × Nat)) (l : List Int) : Prop := Rises l ∧ ∀ z : Int, z ∈ l ↔ ∃ (k : Nat) (y : Nat × Nat), z = (k : Int) ∧ L[k]? = some y ∧ y ∈ P
theorem Got.nil (L : List (Nat × Nat)) : Got L [] [] := ⟨List.Pairwise.nil, fun z => by simp⟩
theorem pairOf_inj {x y : Nat × Nat} (h : pairOf x = pairOf y) : x = y := by
  unfold pairOf at h
  simp at h
  exact Prod.ext (by omega) (by omega)
theorem Got.none {L P : List (Nat × Nat)} {l : List Int} {y : Nat × Nat} (h : Got L P l) (hn : pairOf y ∉ L.map pairOf) : Got L (P ++ [y]) l := by
  have hy : y ∉ L := fun hm => hn (List.mem_map_of_mem hm)
  refine ⟨h.1, fun z => ?_⟩
  rw [h.2]
  constructor
  · rintro ⟨k, x, e, hk, hx⟩
    exact ⟨k, x, e, hk, by simp [hx]⟩
  · rintro ⟨k, x, e, hk, hx⟩
    rw [List.mem_append, List.mem_singleton] at hx
    rcases hx with hx | rfl
    · exact ⟨k, x, e, hk, hx⟩
    · exact absurd (List.mem_of_getElem? hk) hy
theorem Got.put {L P : List (Nat × Nat)} {l : List Int} {y : Nat × Nat} {k : Nat} (h : Got L P l) (hL : L.Nodup) (hk : (L.map pairOf)[k]? = some (pairOf y)) : Got L (P ++ [y]) (putI l k) := by
  have hky : L[k]? = some y := by
    rw [List.getElem?_map] at hk
    cases hx : L[k]? with
    | none => rw [hx] at hk; cases hk
    | some x =>
      rw [hx] at hk
      simp only [Option.map_some, Option.some.injEq] at hk
      rw [pairOf_inj hk]
  refine ⟨putI_rises _ h.1, fun z => ?_⟩
  rw [putI_mem, h.2]
  constructor
  · rintro (⟨k', x, e, hk', hx⟩ | e)
    · exact ⟨k', x, e, hk', by simp [hx]⟩
    · exact ⟨k, y, e, hky, by simp⟩
  · rintro ⟨k', x, e, hk', hx⟩
    rw [List.mem_append, List.mem_singleton] at hx
    rcases hx with hx | rfl
    · exact .inl ⟨k', x, e, hk', hx⟩
    · refine .inr ?_
      rw [e]
      obtain ⟨h1, e1⟩ := List.getElem?_eq_some_iff.1 hky
      obtain ⟨h2, e2⟩ := List.getElem?_eq_some_iff.1 hk'
      have := (List.getElem_inj hL).1 (e2.trans e1.symm)
      rw [this]
theorem got_row {n : Int} {T : List (List RowD)} (hg : goodTab n T = true) {x : Nat × Nat} (hx : x ∈ insts T) {l : List Int} (h : Got (insts T) (depsL n T x) l) : l = rowE n T (insts T) x (insts T).length := by
  refine rises_ext h.1 ?_ fun z => ?_
  · unfold rowE
    unfold Rises
    rw [List.pairwise_map]
    exact (List.pairwise_lt_range.filter _).imp fun h => by omega
  · rw [h.2]
    have hcx := com_row hg (mem_insts.1 hx)
    unfold rowE
    rw [List.mem_map]
    have key : ∀ y, y ∈ insts T → (y ∈ depsL n T x ↔ edgeB n T x y = true) := fun y hy => by
      have hcy := com_row hg (mem_insts.1 hy)
      have hd := dep_in hg hcx.2.2.1 x.2 y.1
      unfold depsL edgeB
      rw [mem_depsTo]
      unfold depN
      simp only [Bool.and_eq_true, Bool.not_eq_true', decide_eq_false_iff_not, decide_eq_true_eq]
      constructor
      · rintro ⟨h1, h2, h3⟩
        exact ⟨fun e => h3 e.symm, by omega⟩
      · rintro ⟨h1, h2⟩
        exact ⟨by omega, by omega, fun e => h1 e.symm⟩
    constructor
    · rintro ⟨k, y, e, hk, hy⟩
      refine ⟨k, ?_, e.symm⟩
      rw [List.mem_filter, List.mem_range]
      obtain ⟨h1, e1⟩ := List.getElem?_eq_some_iff.1 hk
      refine ⟨h1, ?_⟩
      rw [hk]
      exact (key y (List.mem_of_getElem? hk)).1 hy
    · rintro ⟨k, hk, e⟩
      rw [List.mem_filter, List.mem_range] at hk
      refine ⟨k, (insts T)[k]'hk.1, e.symm, List.getElem?_eq_getElem hk.1, ?_⟩
      have h2 := hk.2
      rw [List.getElem?_eq_getElem hk.1, Option.getD_some] at h2
      exact (key _ (List.getElem_mem hk.1)).2 h2
theorem insts_nodup (T : List (List RowD)) : (insts T).Nodup := (insts_lex T).imp fun h e => by subst e; unfold lexL at h; omega

theorem putI_mostG (l : List Int) (n : Int) : (putI l n).length ≤ l.length + 1 := by
  unfold putI
  split
  · omega
  · simp only [List.length_append, List.length_take, List.length_drop, List.length_cons, List.length_nil]
    omega

/-- Two lists of lists come back: the second behind the first. -/
def TwoSS (L M : List (List Int)) (w : World) (e : Ending) (w' : World) : Prop :=
  ∃ v u w1, e = .returned (.tuple #[v, u]) ∧ FreshSS w.heap.size w1 v L ∧ Ext w w1 ∧ FreshSS w1.heap.size w' u M ∧ Ext w1 w'

set_option maxHeartbeats 4000000 in
set_option maxRecDepth 100000 in
theorem l6Graph_any (n : Int) (u : Value) (T : List (List RowD)) (w : World) (hu : Rowzz w u T) (hg : goodTab n T = true) :
    Calls Try.prog 58 #[.agg #[.int .i64 n, u]] w (TwoSS ((insts T).map pairOf) (graphP n T (insts T)) w) := by
  have H56 := Lib.hid (goodTab_both hg)
  have HG := Lib.hid hg
  have HU := Lib.hid hu
  have hx0 := Ext.alloc1 w (.cells #[.int .i64 n, u] 48)
  have b0 := attrAt_new w 48 n u
  obtain ⟨au, cu, rfl, hlu, _, _⟩ := hu
  clear hg
  go_enter Try.func58, Try.ntmps58
  go_wp2_with fail
  refine (l4Committed_any n _ T _ (HU.out.ext hx0) H56.out.1 H56.out.2).mono ?_
  rintro e W ⟨v1, rfl, f1, x1⟩
  have HB := Lib.hid (b0.ext x1)
  have XW := Lib.hid (hx0.trans x1)
  have f1' : FreshSS w.heap.size W v1 ((insts T).map pairOf) := by
    have h := f1.more hx0.size
    rw [allTo_insts] at h
    exact h
  have F1 := Lib.hid f1'
  obtain ⟨a1, k1, rfl, hl1, hcap1, hc1⟩ := f1'.intss
  have HC1 := Lib.hid hc1
  rw [pairs_len] at hl1 hcap1 ⊢
  have HSH := Lib.hid (insts_short HG.out)
  obtain ⟨m, hm⟩ : ∃ m, m = (insts T).length := ⟨_, rfl⟩
  rw [← hm] at hl1 hcap1 ⊢
  unfold maxLen at hl1
  have hI1 : Intss W (.slice a1 m k1) ((insts T).map pairOf) := by rw [hm, ← pairs_len T]; exact f1'.intss
  have I1 := Lib.hid hI1
  have HM := Lib.hid hm
  clear f1 f1' hx0 x1 b0 hc1 hm hI1
  go_wp2
  go_loopw [5, 16] (fun o i wr => ∃ j : Nat, j ≤ m ∧ i = .int .i64 j ∧ Hid (FreshSS W.heap.size wr o ((graphP n T (insts T)).take j)) ∧ Hid (Ext W wr)) (fun _ i _ => m - (intOf i).toNat)
  case atStart => exact ⟨0, Nat.zero_le _, rfl, Lib.hid (by simpa using FreshSS.nil _ _), Lib.hid (Ext.refl _)⟩
  case round =>
    obtain ⟨j, hj, rfl, HF, HX⟩ := hrel
    by_cases hlt : j < m
    · have hjl : j < (insts T).length := by rw [← HM.out]; exact hlt
      obtain ⟨bu, ou, ha1, du⟩ := HC1.out (by simp; omega)
      subst ha1
      obtain ⟨vx, hx1, ix⟩ := du j (by simp; omega)
      have ex : ((insts T).map pairOf)[j]?.getD [] = pairOf (insts T)[j] := by simp [hjl]
      rw [ex] at ix
      obtain ⟨x, hx⟩ : ∃ x, x = (insts T)[j] := ⟨_, rfl⟩
      rw [← hx] at ix
      obtain ⟨bx, ox, cx, rfl, x0, x1⟩ := pair_at ix
      have gu := HX.out.cell hx1
      have hxm : x ∈ insts T := by rw [hx]; exact List.getElem_mem hjl
      have hcx := com_row HG.out (mem_insts.1 hxm)
      obtain ⟨p, q⟩ := x
      have HXX := Lib.hid hx
      have HXM := Lib.hid hxm
      have ks : ∀ V, Ext W V → Ext W V ∧ V.cell? ⟨w.heap.size, 0, none⟩ = some (.int .i64 n) ∧ V.cell? ⟨w.heap.size, 1, none⟩ = some (.slice au T.length cu) ∧ V.cell? ⟨bx, ox, none⟩ = some (.int .i64 p) ∧ V.cell? ⟨bx, ox + 1, none⟩ = some (.int .i64 ((q : Int) + 1)) := fun V hV => ⟨hV, hV.cell HB.out.1, hV.cell HB.out.2, hV.cell x0, hV.cell x1⟩
      have KS := Lib.hid ks
      have cD : ∀ V, Ext W V → Calls Try.prog 103 #[.agg #[.int .i64 n, .slice au T.length cu], .int .i64 p, .int .i64 ((q : Int) + 1)] V (NewIntss ((depsL n T (p, q)).map pairOf) V) := fun V hV => l6Deps_any n _ T p q _ (HU.out.ext (XW.out.trans hV)) HG.out hcx.2.2.1 hcx.2.2.2
      have CD := Lib.hid cD
      obtain ⟨P, hP⟩ : ∃ P, P = depsL n T (p, q) := ⟨_, rfl⟩
      have HP := Lib.hid hP
      clear du hx1 ix ex x0 x1 hx hxm hcx ks cD hP
      go_wp2_with fail
      go_region_held3 (fun V => Ext W V ∧ V.cell? ⟨w.heap.size, 0, none⟩ = some (.int .i64 n) ∧ V.cell? ⟨w.heap.size, 1, none⟩ = some (.slice au T.length cu) ∧ V.cell? ⟨bx, ox, none⟩ = some (.int .i64 p) ∧ V.cell? ⟨bx, ox + 1, none⟩ = some (.int .i64 ((q : Int) + 1))) (first | (with_reducible exact KS.out _ HX.out.drew) | (with_reducible exact KS.out _ SS.out)) (first | (go_at_call 103; refine (CD.out _ (And.left (by with_reducible assumption))).mono ?_; rintro e W3 ⟨vd, rfl, fd, x3⟩; obtain ⟨ad, kd, rfl⟩ := fd.form; have SS := Lib.hid (Ext.trans (And.left (by with_reducible assumption)) x3)))
      have x3' : Ext wr W3 := Ext.trans (Ext.drew (Ext.refl _)) x3
      rw [← HP.out] at fd ⊢
      have hid := fd.intss
      have HFW := Lib.hid (HF.out.ext x3')
      have HZ3 : Hid (W.heap.size ≤ W3.heap.size) := Lib.hid SS.out.size
      obtain ⟨ad', kd', hvd, hld, hcapd, hcd⟩ := hid
      rw [List.length_map] at hld hcapd hcd hvd
      simp only [Value.slice.injEq] at hvd
      obtain ⟨rfl, _, rfl⟩ := hvd
      obtain ⟨mp, hmp⟩ : ∃ mp, mp = P.length := ⟨_, rfl⟩
      rw [← hmp] at hld hcapd ⊢
      have HMP := Lib.hid hmp
      have HCD := Lib.hid hcd
      have hmp6 : mp ≤ 1000 := by
        rw [hmp, HP.out]
        have hcx := com_row HG.out (mem_insts.1 HXM.out)
        have hpT : p < T.length := hcx.2.2.1
        have h1 := depsTo_len (r := rowOf n T p q) (x := (p, q)) (fun k => by have := dep_in HG.out hpT q k; unfold depN; omega) (rowOf n T p q).l.length
        have h2 := rowOf_list HG.out hpT q
        show (depsTo (rowOf n T p q) (p, q) (rowOf n T p q).l.length).length ≤ 1000
        omega
      clear hmp hcd fd x3 x3' HF HX hcapd hld gu
      go_wp2
      go_loopw [8, 29] (fun l i wr => ∃ (t : Nat) (ls : List Int), t ≤ mp ∧ i = .int .i64 t ∧ Hid (Got (insts T) (P.take t) ls) ∧ Hid (Fresh W3.heap.size wr l ls) ∧ Hid (ls.length ≤ t) ∧ Hid (Ext W3 wr)) (fun _ i _ => mp - (intOf i).toNat)
      case atStart => exact ⟨0, [], Nat.zero_le _, rfl, Lib.hid (Got.nil _), Lib.hid (World.ownsRow_nil _ _ _ _), Lib.hid (Nat.le_refl _), Lib.hid (Ext.refl _)⟩
      case round =>
        obtain ⟨t, ls, ht, rfl, HGT, HL, HLN, HX⟩ := hrel
        by_cases htl : t < mp
        · have htp : t < P.length := by rw [← HMP.out]; exact htl
          obtain ⟨bd, od, had, dd⟩ := HCD.out (by omega)
          subst had
          obtain ⟨vy, hy1, iy⟩ := dd t htp
          have ey : (P.map pairOf)[t]?.getD [] = pairOf P[t] := by simp [htp]
          rw [ey] at iy
          have gy := HX.out.cell hy1
          have IY := Lib.hid (iy.ext HX.out)
          obtain ⟨by_, oy, cy, rfl, _, _⟩ := pair_at iy
          have htk : P.take (t + 1) = P.take t ++ [P[t]] := by rw [List.take_add_one, List.getElem?_eq_getElem htp]; rfl
          have HTK := Lib.hid htk
          clear dd hy1 iy ey htk
          go_wp2_with fail
          refine (l6Find_any _ _ _ (pairOf P[t]) _ (I1.out.ext (SS.out.trans HX.out)) IY.out).mono ?_
          rintro e w5 ⟨r, rfl, hf, x5⟩
          have X5 := Lib.hid (HX.out.trans x5)
          have L5 := Lib.hid (HL.out.ext x5)
          clear x5 gy IY HL HX
          rcases hf with ⟨k, rfl, hk, _⟩ | ⟨rfl, hno⟩
          · have hk0 : (0 : Int) ≤ (k : Int) := by omega
            have HGN := Lib.hid (HGT.out.put (insts_nodup T) hk)
            have hln : ls.length ≤ 1048576 := by have := HLN.out; omega
            have HLN2 : Hid ((putI ls k).length ≤ t + 1) := Lib.hid (by
              have h1 := HLN.out
              have := putI_mostG ls k
              omega)
            clear hk HGT
            go_wp2_with fail
            refine (l1Put_any _ ls k _ L5.out.ints hln).mono ?_
            rintro e w6 ⟨v6, rfl, x6, hv6⟩
            have L6 : Hid (Fresh W3.heap.size w6 v6 (putI ls k)) := Lib.hid (by
              rcases hv6 with ⟨rfl, h⟩ | h
              · rw [h]; exact L5.out.ext x6
              · exact h.more X5.out.size)
            have X6 := Lib.hid (X5.out.trans x6)
            clear x6 hv6 L5 X5
            go_wp2
            go_roundw
            case rel => exact ⟨t + 1, _, by omega, by go_num, Lib.hid (by rw [HTK.out]; exact HGN.out), L6, HLN2, X6⟩
            case measure => simp [intOf]; omega
          · have HGN := Lib.hid (HGT.out.none hno)
            have HLN2 : Hid (ls.length ≤ t + 1) := Lib.hid (by have := HLN.out; omega)
            clear hno HGT
            go_wp2
            go_roundw
            case rel => exact ⟨t + 1, _, by omega, by go_num, Lib.hid (by rw [HTK.out]; exact HGN.out), L5, HLN2, X5⟩
            case measure => simp [intOf]; omega
        · obtain rfl : t = mp := by omega
          have hrow : ls = rowE n T (insts T) (p, q) (insts T).length := got_row HG.out HXM.out (by
            have h := HGT.out
            rw [HMP.out, List.take_length, HP.out] at h
            exact h)
          have hnext : (graphP n T (insts T)).take (j + 1) = (graphP n T (insts T)).take j ++ [ls] := by
            have hgj : (graphP n T (insts T))[j]? = some ls := by
              unfold graphP
              rw [List.getElem?_map, List.getElem?_eq_getElem hjl, Option.map_some, ← HXX.out, ← hrow]
            rw [List.take_add_one, hgj]
            rfl
          have HNX := Lib.hid hnext
          have hf8 := HL.out
          obtain ⟨a8, k8, hv8⟩ := hf8.form
          have HL8 := Lib.hid hf8
          subst hv8
          have hll : ((graphP n T (insts T)).take j).length ≤ 1048576 := by
            have h1 := HSH.out
            rw [List.length_take]
            omega
          have HLL := Lib.hid hll
          have HXX3 := Lib.hid HX.out
          clear hrow hnext hf8 hll HL HGT HX HLN
          go_wp2_with (at_builtin; refine wpList_pushSS rfl _ _ rfl W.heap.size _ ((graphP n T (insts T)).take j) ls W3 rfl HFW.out (HXX3.out.alloc _) _ (HL8.out.ext (Ext.alloc1 _ _)) ⟨wr.heap.size, 0, none⟩ 1 rfl (by go_simp) rfl HLL.out HZ3.out ?_)
          intro v' w' f' k'
          have FF : Hid (FreshSS W.heap.size w' v' ((graphP n T (insts T)).take (j + 1))) := Lib.hid (by rw [HNX.out]; exact f')
          have XX : Hid (Ext W w') := Lib.hid (k' W ((SS.out.trans HXX3.out).alloc _) (Nat.le_refl _))
          clear f' k' HL8 HFW
          go_wp2
          go_roundw
          case rel => exact ⟨j + 1, by omega, by go_num, FF, XX⟩
          case measure => simp [intOf]; omega
    · obtain rfl : j = m := by omega
      have hgl : (graphP n T (insts T)).length = j := by unfold graphP; rw [List.length_map]; exact HM.out.symm
      have FE : Hid (FreshSS W.heap.size wr u5 (graphP n T (insts T))) := Lib.hid (by
        have h := HF.out
        rwa [← hgl, List.take_length] at h)
      have FV := Lib.hid F1.out
      clear HF hgl
      go_wp2
      go_ret2
      refine ⟨_, _, W, rfl, ?_, XW.out, FE.out, HX.out⟩
      have h := FV.out
      rw [List.length_map, ← HM.out] at h
      exact h

end Go.Proofs.Ytihknedmkkakhaa

namespace Go.Proofs.Ytihknedmkkakhaa
open Go.RowKit Go.Maps
set_option linter.unusedVariables false

set_option maxHeartbeats 2000000 in
set_option maxRecDepth 100000 in
theorem specGraphOf_any (n : Int) (u : Value) (T : List (List RowD)) (w : World) (hu : Rowzz w u T) :
    Calls Try.prog 25 #[.agg #[.int .i64 n, u]] w (ThreeSS (pointsR n T) (graphR n T) (goodTab n T) w) := by
  obtain ⟨P, hP⟩ : ∃ P, P = pointsR n T := ⟨_, rfl⟩
  obtain ⟨G, hG⟩ : ∃ G, G = graphR n T := ⟨_, rfl⟩
  obtain ⟨g, hg⟩ : ∃ g, g = goodTab n T := ⟨_, rfl⟩
  rw [← hP, ← hG, ← hg]
  have hx0 := Ext.alloc1 w (.cells #[.int .i64 n, u] 48)
  have b0 := attrAt_new w 48 n u
  have HU := Lib.hid (hu.ext hx0)
  have HX := Lib.hid hx0
  have HP := Lib.hid hP
  have HG := Lib.hid hG
  have HGG := Lib.hid hg
  obtain ⟨au, cu, rfl, hlu, _, _⟩ := hu
  clear hx0 hP hG hg
  go_enter Try.func25, Try.ntmps25
  go_wp2_with fail
  refine (specGoodTable_any n _ T _ HU.out).mono ?_
  rintro e w1 ⟨rfl, x1⟩
  rw [← HGG.out]
  cases g with
  | false =>
    have eP : P = [] := by rw [HP.out]; unfold pointsR; rw [← HGG.out]; rfl
    have eG : G = [] := by rw [HG.out]; unfold graphR; rw [← HGG.out]; rfl
    have X1 := Lib.hid (HX.out.trans x1)
    have EP := Lib.hid eP
    have EG := Lib.hid eG
    clear eP eG
    go_wp2
    go_ret3
    rw [EP.out, EG.out]
    exact ⟨_, _, w1, rfl, FreshSS.nil _ _, X1.out, FreshSS.nil _ _, Ext.refl _⟩
  | true =>
    obtain ⟨c1, c2⟩ := b0.ext x1
    have X1 := Lib.hid (HX.out.trans x1)
    have HU1 := Lib.hid (HU.out.ext x1)
    clear x1 b0
    go_wp2_with fail
    refine (l6Graph_any n _ T _ HU1.out HGG.out.symm).mono ?_
    rintro e w5 ⟨v4, v5, w4, rfl, f4, x4, f5, x5⟩
    obtain ⟨a4, k4, rfl⟩ := f4.form
    obtain ⟨a5, k5, rfl⟩ := f5.form
    have hsh := insts_short HGG.out.symm
    have F4 : Hid (FreshSS w.heap.size w4 (.slice a4 ((insts T).map pairOf).length k4) ((insts T).map pairOf)) := Lib.hid (f4.more X1.out.size)
    have X4 := Lib.hid (X1.out.trans x4)
    have F5 := Lib.hid f5
    have X5 := Lib.hid x5
    have EP : Hid (P = (insts T).map pairOf) := Lib.hid (by rw [HP.out]; unfold pointsR; rw [← HGG.out]; rfl)
    have EG : Hid (G = graphP n T (insts T)) := Lib.hid (by rw [HG.out]; unfold graphR; rw [← HGG.out]; rfl)
    have hlen : ((insts T).map pairOf).length = (insts T).length := by simp
    obtain ⟨m, hm⟩ : ∃ m, m = ((insts T).map pairOf).length := ⟨_, rfl⟩
    obtain ⟨m', hm'⟩ : ∃ m', m' = (graphP n T (insts T)).length := ⟨_, rfl⟩
    have hm30 : m ≤ 30 := by omega
    rw [← hm] at F4 ⊢
    rw [← hm'] at F5 ⊢
    clear f4 f5 x4 x5 c1 c2 hsh hlen hm hm'
    go_wp2
    go_ret3
    rw [EP.out, EG.out]
    exact ⟨_, _, w4, rfl, F4.out, X4.out, F5.out, X5.out⟩

end Go.Proofs.Ytihknedmkkakhaa
