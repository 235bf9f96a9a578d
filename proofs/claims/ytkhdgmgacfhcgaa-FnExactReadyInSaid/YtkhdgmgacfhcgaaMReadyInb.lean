/- Texts of this proof, part b: words, plain facts, contracts. -/
import Derived.Test.YtkhdgmgacfhcgaaMReadyIna
import Derived.Laws.AppendOwnNone
import Derived.Laws.OwnMore

namespace Go.Proofs.Ytkhdgmgacfhcgaa
open Go.RowKit

theorem fresh_lit (w : World) (l : List Int) (cs : Array Value) (B : Nat) (hcs : cs.toList = l.map (Value.int .i64)) (hB : B ≤ w.heap.size) (hl : l.length ≤ 1048576) :
    Fresh B (w.alloc (.cells cs 3)) (.slice (some ⟨w.heap.size, 0, none⟩) l.length l.length) l := by
  have h := World.ownsRow_lit (e := 3) (size := 1) w cs l.length hB (by unfold maxLen; omega) (by rw [← Array.length_toList, hcs]; simp)
  unfold Fresh; rw [← hcs]; exact h

theorem fresh_lit2 (w : World) (o : Obj) (l : List Int) (n : Nat) (cs : Array Value) (hcs : cs.toList = l.map (Value.int .i64)) (hn : n = l.length) (hl : l.length ≤ 1048576) :
    Fresh w.heap.size ((w.alloc o).alloc (.cells cs 3)) (.slice (some ⟨w.heap.size + 1, 0, none⟩) n n) l := by
  have e : (w.alloc o).heap.size = w.heap.size + 1 := by simp
  have h := fresh_lit (w.alloc o) l cs w.heap.size hcs (by omega) hl
  rw [e] at h
  rw [hn]; exact h
theorem size_alloc_le {n : Nat} {w : World} {o : Obj} (h : n ≤ w.heap.size) : n ≤ (w.alloc o).heap.size := by
  have := (Ext.alloc (Ext.refl w) o).size
  omega
theorem cell_alloc_one (w : World) (x : Value) (T : TypeId) : (w.alloc (.cells #[x] T)).cell? ⟨w.heap.size, 0, none⟩ = some x := by go_simp

/-- Behind an append: only the slice's own block has turned, and there may be new ones. -/
def Kept (B : Nat) (w w' : World) : Prop := ∀ w0 : World, Ext w0 w → w0.heap.size ≤ B → Ext w0 w'

theorem wpList_push {ops : Array Oper} {rest : List Oper} {o : Oper} {a : Act} {Q : Exit → Act → World → Prop} {w : World} (hgd : o.guard = none) (s x : Operand)
    (ho : o.op = .call { callee := .builtin .append, args := #[s, x], argTypes := #[49, 49] })
    (B : Nat) (v : Value) (l : List Int) (n : Int) (hs : a.eval s = v) (hf : Fresh B w v l) (ad : Addr) (c : Nat) (hx : a.eval x = .slice (some ad) 1 c)
    (hc : w.cell? ad = some (.int .i64 n)) (hl : l.length ≤ 1099511627776) (hB : B ≤ w.heap.size)
    (h : ∀ v' w', Fresh B w' v' (l ++ [n]) → w.grownBy w' v.ownBlock → Kept B w w' → wpList Try.prog ops Q rest (a.put o.dst v') w') : wpList Try.prog ops Q (o :: rest) a w := by
  obtain ⟨i0, hi, hz0, hz1, hz2⟩ := info_parts Try.infoInt
  refine wpList_append_own _ hgd s x 49 ho B 3 i0 (.int .i64 0) 1 8 Try.underlying49 hi hz0 hz1 hz2 rfl (by decide) v l.length _ hs hf ad 1 c [.int .i64 n] hx rfl ?_ ?_ ?_ ?_ hB ?_
  · intro j u hj
    match j, hj with
    | 0, hj => simp at hj; subst hj; simpa [Addr.add] using hc
  · intro u hu; simp at hu; subst hu; rfl
  · unfold maxLen; omega
  · omega
  · intro v' w' ho' hg _
    refine h v' w' ?_ hg (fun w0 hx0 hB0 => Below.grown hx0 hg hx0.size (fun q hq => Nat.le_trans hB0 (World.ownsRow.lt hf q hq).1))
    unfold Fresh
    rw [List.map_append, List.length_append]; exact ho'

theorem wpList_join {ops : Array Oper} {rest : List Oper} {o : Oper} {a : Act} {Q : Exit → Act → World → Prop} {w : World} (hgd : o.guard = none) (s x : Operand)
    (ho : o.op = .call { callee := .builtin .append, args := #[s, x], argTypes := #[49, 49] })
    (B : Nat) (v u : Value) (l r : List Int) (hs : a.eval s = v) (hf : Fresh B w v l) (hx : a.eval x = u) (hu : Ints w u r)
    (hl : l.length + r.length ≤ 1099511627776) (hB : B ≤ w.heap.size)
    (h : ∀ v' w', Fresh B w' v' (l ++ r) → w.grownBy w' v.ownBlock → Kept B w w' → wpList Try.prog ops Q rest (a.put o.dst v') w') : wpList Try.prog ops Q (o :: rest) a w := by
  obtain ⟨i0, hi, hz0, hz1, hz2⟩ := info_parts Try.infoInt
  obtain ⟨au, cu, rfl, hlu, hcap, hcu⟩ := hu
  cases au with
  | none =>
    have hr : r.length = 0 := by have := hcap.1; have := hcap.2.2 rfl; omega
    have hc0 : cu = 0 := hcap.2.2 rfl
    obtain rfl : r = [] := List.eq_nil_of_length_eq_zero hr
    subst hc0
    refine wpList_append_own_none hgd s x 49 ho B 3 i0 1 Try.underlying49 hi v l.length _ hs hf hx (h v w ?_ ?_ ?_)
    · rw [List.append_nil]; exact hf
    · exact ⟨rfl, rfl, rfl, Nat.le_refl _, fun _ _ _ => rfl⟩
    · exact fun w0 hx0 _ => hx0
  | some ad =>
    refine wpList_append_own _ hgd s x 49 ho B 3 i0 (.int .i64 0) 1 8 Try.underlying49 hi hz0 hz1 hz2 rfl (by decide) v l.length _ hs hf ad r.length cu (r.map (.int .i64)) hx (by simp) ?_ ?_ ?_ ?_ hB ?_
    · intro j z hj
      have hlt : j < r.length := by
        have := (List.getElem?_eq_some_iff.1 hj).1
        simpa using this
      obtain ⟨b, off, hab, hcc⟩ := hcu (by omega)
      cases hab
      have hcj := hcc j hlt
      rw [show (⟨b, off, none⟩ : Addr).add j = ⟨b, off + j, none⟩ by simp [Addr.add], hcj]
      simp [List.getElem?_eq_getElem hlt] at hj ⊢
      exact hj
    · intro z hz
      obtain ⟨q, _, rfl⟩ := List.mem_map.1 hz
      rfl
    · unfold maxLen; omega
    · omega
    · intro v' w' ho' hg _
      refine h v' w' ?_ hg (fun w0 hx0 hB0 => Below.grown hx0 hg hx0.size (fun q hq => Nat.le_trans hB0 (World.ownsRow.lt hf q hq).1))
      unfold Fresh
      rw [List.map_append, List.length_append]; exact ho'

end Go.Proofs.Ytkhdgmgacfhcgaa

namespace Go.Proofs.Ytkhdgmgacfhcgaa
open Go.RowKit

/-- How many from the front are less. -/
def ahead (l : List Int) (n : Int) : Nat := (l.takeWhile fun x => decide (x < n)).length
def putI (l : List Int) (n : Int) : List Int := if l[ahead l n]? = some n then l else l.take (ahead l n) ++ [n] ++ l.drop (ahead l n)
theorem ahead_stop {l : List Int} {n : Int} {k : Nat} (hk : k < l.length) (ha : ∀ x ∈ l.take k, x < n) (hs : ¬ l[k] < n) : ahead l n = k := by
  induction l generalizing k with
  | nil => simp at hk
  | cons y l ih =>
    cases k with
    | zero => simp at hs; simp [ahead, List.takeWhile_cons]; omega
    | succ k =>
      have hy : y < n := ha y (by simp)
      have := ih (k := k) (by simpa using hk) (fun x hx => ha x (by simp [hx])) (by simpa using hs)
      unfold ahead at this ⊢
      rw [List.takeWhile_cons, if_pos (by simpa using hy), List.length_cons, this]
theorem ahead_all {l : List Int} {n : Int} (ha : ∀ x ∈ l, x < n) : ahead l n = l.length := by
  unfold ahead
  induction l with
  | nil => rfl
  | cons y l ih => rw [List.takeWhile_cons, if_pos (by simpa using ha y (by simp)), List.length_cons, ih (fun x hx => ha x (by simp [hx])), List.length_cons]

def PutR (v : Value) (l : List Int) (n : Int) (w : World) (e : Ending) (w' : World) : Prop :=
  ∃ v', e = .returned v' ∧ Ext w w' ∧ ((v' = v ∧ putI l n = l) ∨ Fresh w.heap.size w' v' (putI l n))

theorem Ints.behind {w : World} {cap : Nat} {l : List Int} {b off : Nat} (h : Ints w (.slice (some ⟨b, off, none⟩) l.length cap) l) (k : Nat) (hk : k ≤ l.length) : Ints w (.slice (some ⟨b, off + k, none⟩) (l.length - k) (cap - k)) (l.drop k) := by
  obtain ⟨ao', cap', he, hm, hcap, hc⟩ := h
  simp only [Value.slice.injEq] at he
  obtain ⟨rfl, _, rfl⟩ := he
  have e : (l.drop k).length = l.length - k := by simp
  refine ⟨some ⟨b, off + k, none⟩, cap - k, by rw [e], by omega, ⟨by have := hcap.1; omega, by have := hcap.2.1; omega, fun h => by cases h⟩, fun hp => ?_⟩
  obtain ⟨b', off', ha, hj⟩ := hc (by omega)
  cases ha
  refine ⟨b, off + k, rfl, fun j hjl => ?_⟩
  rw [Nat.add_assoc, hj (k + j) (by omega), List.getElem?_drop]
theorem Ints.none_of {w : World} {ao : Option Addr} {cap : Nat} (hc : cap ≤ maxLen) (h : ao = none → cap = 0) : Ints w (.slice ao 0 cap) [] :=
  ⟨ao, cap, rfl, by simp, ⟨by simp, hc, h⟩, fun h => by simp at h⟩

/-- The two ends of a cut. -/
theorem Ints.upto {w : World} {ao : Option Addr} {cap : Nat} {l : List Int} (h : Ints w (.slice ao l.length cap) l) (k : Nat) (hk : k ≤ l.length) : Ints w (.slice ao k cap) (l.take k) := by
  obtain ⟨ao', cap', he, hm, hcap, hc⟩ := h
  simp only [Value.slice.injEq] at he
  obtain ⟨rfl, _, rfl⟩ := he
  have e : (l.take k).length = k := by first | omega | (simp; omega)
  refine ⟨ao, cap, by rw [e], by omega, ⟨by omega, hcap.2⟩, fun hp => ?_⟩
  obtain ⟨b, off, ha, hj⟩ := hc (by omega)
  refine ⟨b, off, ha, fun j hjl => ?_⟩
  rw [hj j (by omega), List.getElem?_take, if_pos (by omega)]

end Go.Proofs.Ytkhdgmgacfhcgaa

namespace Go.Proofs.Ytkhdgmgacfhcgaa
open Go.RowKit
set_option linter.unusedVariables false

/-! ### Rising lists -/
/-- Strictly rising. -/
def Rises (l : List Int) : Prop := l.Pairwise (· < ·)
instance (l : List Int) : Decidable (Rises l) := inferInstanceAs (Decidable (List.Pairwise _ _))
/-- Whether numbers are rising, within bounds. -/
def riseB (l : List Int) (lo hi : Int) : Bool := decide (Rises l) && allIn l lo hi
theorem riseB_of {l : List Int} {lo hi : Int} (h : riseB l lo hi = true) : Rises l ∧ ∀ x ∈ l, lo ≤ x ∧ x ≤ hi := by
  unfold riseB allIn inB at h
  simpa using h
theorem riseB_yes {l : List Int} {lo hi : Int} (h : Rises l) (k : ∀ x ∈ l, lo ≤ x ∧ x ≤ hi) : riseB l lo hi = true := by
  unfold riseB allIn inB
  simpa using ⟨h, k⟩

theorem take_while (p : Int → Bool) : ∀ l : List Int, l.take (l.takeWhile p).length = l.takeWhile p
  | [] => rfl
  | x :: l => by
    cases h : p x
    · simp [h]
    · simp [h, take_while p l]
theorem mem_while (p : Int → Bool) : ∀ (l : List Int) (x : Int), x ∈ l.takeWhile p → p x = true
  | [], x, h => by simp at h
  | y :: l, x, h => by
    cases hy : p y
    · simp [hy] at h
    · rw [List.takeWhile_cons, if_pos hy] at h
      rcases List.mem_cons.1 h with rfl | h
      · exact hy
      · exact mem_while p l x h
theorem mem_ahead {l : List Int} {n x : Int} (h : x ∈ l.take (ahead l n)) : x < n := by
  unfold ahead at h
  rw [take_while] at h
  have := mem_while _ _ _ h
  simpa using this
theorem ahead_le (l : List Int) (n : Int) : ahead l n ≤ l.length := (List.takeWhile_sublist _).length_le
theorem at_ahead : ∀ (l : List Int) (n x : Int), l[ahead l n]? = some x → n ≤ x
  | [], n, x, h => by simp [ahead] at h
  | y :: l, n, x, h => by
    by_cases hy : y < n
    · have e : ahead (y :: l) n = ahead l n + 1 := by simp [ahead, hy]
      rw [e, List.getElem?_cons_succ] at h
      exact at_ahead l n x h
    · have e : ahead (y :: l) n = 0 := by simp [ahead, hy]
      rw [e] at h
      simp at h
      omega

theorem putI_mem (l : List Int) (n x : Int) : x ∈ putI l n ↔ x ∈ l ∨ x = n := by
  unfold putI
  by_cases h : l[ahead l n]? = some n
  · rw [if_pos h]
    constructor
    · exact Or.inl
    · rintro (h' | rfl)
      · exact h'
      · exact List.mem_of_getElem? h
  · rw [if_neg h]
    have e := List.take_append_drop (ahead l n) l
    constructor
    · intro hx
      rcases List.mem_append.1 hx with hx | hx
      · rcases List.mem_append.1 hx with hx | hx
        · exact .inl (List.mem_of_mem_take hx)
        · exact .inr (by simpa using hx)
      · exact .inl (List.mem_of_mem_drop hx)
    · rintro (hx | rfl)
      · rw [← e] at hx
        rcases List.mem_append.1 hx with hx | hx
        · exact List.mem_append_left _ (List.mem_append_left _ hx)
        · exact List.mem_append_right _ hx
      · simp
theorem putI_len {l : List Int} {n : Int} (h : n ∉ l) : (putI l n).length = l.length + 1 := by
  unfold putI
  rw [if_neg (fun e => h (List.mem_of_getElem? e))]
  have := ahead_le l n
  simp
  omega
theorem behind_ahead {l : List Int} {n x : Int} (hl : Rises l) (h : l[ahead l n]? ≠ some n) (hx : x ∈ l.drop (ahead l n)) : n < x := by
  obtain ⟨j, hj, rfl⟩ := List.getElem_of_mem hx
  have hjl : ahead l n + j < l.length := by simp at hj; omega
  rw [List.getElem_drop]
  have h0 : ahead l n < l.length := by omega
  have h1 : n ≤ l[ahead l n] := at_ahead l n _ (List.getElem?_eq_getElem h0)
  have h2 : n ≠ l[ahead l n] := fun e => h (by rw [List.getElem?_eq_getElem h0, ← e])
  rcases Nat.eq_zero_or_pos j with rfl | hp
  · show n < l[ahead l n + 0]
    simp only [Nat.add_zero]
    omega
  · have h3 : l[ahead l n] < l[ahead l n + j] := List.pairwise_iff_getElem.1 hl _ _ h0 hjl (by omega)
    omega
theorem putI_rises {l : List Int} (n : Int) (hl : Rises l) : Rises (putI l n) := by
  unfold putI
  by_cases h : l[ahead l n]? = some n
  · rw [if_pos h]; exact hl
  · rw [if_neg h]
    unfold Rises
    rw [List.pairwise_append, List.pairwise_append]
    refine ⟨⟨List.Pairwise.sublist (List.take_sublist _ _) hl, by simp, ?_⟩, List.Pairwise.sublist (List.drop_sublist _ _) hl, ?_⟩
    · intro a ha b hb
      obtain rfl : b = n := by simpa using hb
      exact mem_ahead ha
    · intro a ha b hb
      have hb' := behind_ahead hl h hb
      rcases List.mem_append.1 ha with ha | ha
      · have := mem_ahead ha; omega
      · obtain rfl : a = n := by simpa using ha
        exact hb'

theorem rises_ext : ∀ {a b : List Int}, Rises a → Rises b → (∀ x, x ∈ a ↔ x ∈ b) → a = b
  | [], [], _, _, _ => rfl
  | [], y :: b, _, _, h => by have := (h y).2 (by simp); simp at this
  | x :: a, [], _, _, h => by have := (h x).1 (by simp); simp at this
  | x :: a, y :: b, ha, hb, h => by
    have ha' := List.pairwise_cons.1 ha
    have hb' := List.pairwise_cons.1 hb
    have hxy : x = y := by
      have h1 := (h x).1 (by simp)
      have h2 := (h y).2 (by simp)
      rcases List.mem_cons.1 h1 with e | h1
      · exact e
      · rcases List.mem_cons.1 h2 with e | h2
        · exact e.symm
        · have := hb'.1 x h1; have := ha'.1 y h2; omega
    subst hxy
    have ht : a = b := rises_ext ha'.2 hb'.2 (fun z => by
      constructor
      · intro hz
        rcases List.mem_cons.1 ((h z).1 (List.mem_cons_of_mem _ hz)) with e | k
        · have := ha'.1 z hz; omega
        · exact k
      · intro hz
        rcases List.mem_cons.1 ((h z).2 (List.mem_cons_of_mem _ hz)) with e | k
        · have := hb'.1 z hz; omega
        · exact k)
    rw [ht]
theorem rises_len : ∀ {l : List Int} (lo hi : Int), Rises l → (∀ x ∈ l, lo ≤ x ∧ x < hi) → lo ≤ hi → (l.length : Int) ≤ hi - lo
  | [], lo, hi, _, _, h => by simp; omega
  | x :: l, lo, hi, hl, hb, h => by
    have hl' := List.pairwise_cons.1 hl
    have hx := hb x (by simp)
    have := rises_len (x + 1) hi hl'.2 (fun y hy => ⟨by have := hl'.1 y hy; omega, (hb y (List.mem_cons_of_mem _ hy)).2⟩) (by omega)
    simp only [List.length_cons]
    omega

/-! ### Graphs -/
/-- The points that a point leads to at once. -/
def rowG (g : List (List Int)) (p : Int) : List Int := if 0 ≤ p then g[p.toNat]?.getD [] else []
/-- Each list rising, of points of the graph. -/
def rowsB (g : List (List Int)) : Bool := g.all fun l => riseB l 0 ((g.length : Int) - 1)
def goodG (g : List (List Int)) : Bool := rowsB g && decide (g.length ≤ 40)

inductive Reach (g : List (List Int)) (a : Int) : Int → Prop
  | self : Reach g a a
  | step {b c : Int} : Reach g a b → c ∈ rowG g b → Reach g a c

theorem Reach.trans {g : List (List Int)} {a b c : Int} (h : Reach g a b) (k : Reach g b c) : Reach g a c := by
  induction k with
  | self => exact h
  | step _ hc ih => exact ih.step hc

theorem rowG_at {g : List (List Int)} {k : Nat} (h : k < g.length) : rowG g (k : Int) = g[k] := by
  unfold rowG
  rw [if_pos (by omega), Int.toNat_natCast, List.getElem?_eq_getElem h]
  rfl
theorem row_in {g : List (List Int)} (hg : rowsB g = true) {p c : Int} (h : c ∈ rowG g p) : 0 ≤ c ∧ c < g.length := by
  unfold rowG at h
  by_cases hp : 0 ≤ p
  · rw [if_pos hp] at h
    cases e : g[p.toNat]? with
    | none => rw [e] at h; simp at h
    | some l =>
      rw [e] at h
      have hl : riseB l 0 ((g.length : Int) - 1) = true := List.all_eq_true.1 hg l (List.mem_of_getElem? e)
      have := (riseB_of hl).2 c h
      omega
  · rw [if_neg hp] at h; simp at h
theorem reach_in {g : List (List Int)} (hg : rowsB g = true) {k x : Int} (hk : 0 ≤ k ∧ k < g.length) (h : Reach g k x) : 0 ≤ x ∧ x < g.length := by
  induction h with
  | self => exact hk
  | step _ hc _ => exact row_in hg hc

open Classical in
/-- All points that a point leads to, rising. -/
noncomputable def reachL (g : List (List Int)) (k : Int) : List Int := ((List.range g.length).map fun (i : Nat) => (i : Int)).filter fun x => decide (Reach g k x)

theorem range_rises (n : Nat) : Rises ((List.range n).map fun (i : Nat) => (i : Int)) := by
  unfold Rises
  rw [List.pairwise_map]
  exact List.pairwise_lt_range.imp (fun h => by omega)
theorem reachL_rises (g : List (List Int)) (k : Int) : Rises (reachL g k) := List.Pairwise.filter _ (range_rises _)
open Classical in
theorem reachL_mem {g : List (List Int)} (hg : rowsB g = true) {k : Int} (hk : 0 ≤ k ∧ k < g.length) (x : Int) : x ∈ reachL g k ↔ Reach g k x := by
  unfold reachL
  rw [List.mem_filter]
  constructor
  · rintro ⟨_, h⟩; exact of_decide_eq_true h
  · intro h
    have hx := reach_in hg hk h
    exact ⟨List.mem_map.2 ⟨x.toNat, by simp; omega, by omega⟩, decide_eq_true h⟩
theorem reachL_unique {g : List (List Int)} (hg : rowsB g = true) {k : Int} (hk : 0 ≤ k ∧ k < g.length) {l : List Int} (hl : Rises l) (h : ∀ x, x ∈ l ↔ Reach g k x) : l = reachL g k :=
  rises_ext hl (reachL_rises g k) (fun x => (h x).trans (reachL_mem hg hk x).symm)
theorem reachL_len (g : List (List Int)) (k : Int) : (reachL g k).length ≤ g.length := by
  have := List.length_filter_le (fun x => @decide (Reach g k x) (Classical.propDecidable _)) ((List.range g.length).map fun (i : Nat) => (i : Int))
  simpa [reachL] using this

/-! ### A search in breadth -/
/-- met are the points met, all that the first i of them lead to at once among them; out are the same, rising. -/
structure Srch (g : List (List Int)) (k : Int) (i : Nat) (met out : List Int) : Prop where
  first : k ∈ met
  reach : ∀ x ∈ met, Reach g k x
  shut : ∀ (j : Nat) (p : Int), j < i → met[j]? = some p → ∀ c ∈ rowG g p, c ∈ met
  rises : Rises out
  same : ∀ x, x ∈ out ↔ x ∈ met
  len : met.length = out.length

theorem Srch.start (g : List (List Int)) (k : Int) : Srch g k 0 [k] [k] :=
  ⟨by simp, fun x hx => by obtain rfl : x = k := by simpa using hx
                           exact .self, fun j p hj => by omega, by simp [Rises], fun x => Iff.rfl, rfl⟩
/-- Of the point that is looked at, the first j that it leads to are met. -/
def SrchAt (g : List (List Int)) (k : Int) (i j : Nat) (p : Int) (met out : List Int) : Prop :=
  Srch g k i met out ∧ met[i]? = some p ∧ ∀ c ∈ (rowG g p).take j, c ∈ met
theorem Srch.look {g : List (List Int)} {k : Int} {i : Nat} {met out : List Int} (h : Srch g k i met out) (hi : i < met.length) : SrchAt g k i 0 met[i] met out :=
  ⟨h, List.getElem?_eq_getElem hi, by simp⟩
theorem SrchAt.known {g : List (List Int)} {k p : Int} {i j : Nat} {met out : List Int} (h : SrchAt g k i j p met out) (hj : j < (rowG g p).length) (hm : (rowG g p)[j] ∈ met) : SrchAt g k i (j + 1) p met out := by
  refine ⟨h.1, h.2.1, fun c hc => ?_⟩
  rw [List.take_add_one, List.getElem?_eq_getElem hj] at hc
  rcases List.mem_append.1 hc with hc | hc
  · exact h.2.2 c hc
  · obtain rfl : c = (rowG g p)[j] := by simpa using hc
    exact hm
theorem SrchAt.add {g : List (List Int)} {k p : Int} {i j : Nat} {met out : List Int} (h : SrchAt g k i j p met out) (hj : j < (rowG g p).length) (hm : (rowG g p)[j] ∉ met) : SrchAt g k i (j + 1) p (met ++ [(rowG g p)[j]]) (putI out (rowG g p)[j]) := by
  obtain ⟨h, hp, hs⟩ := h
  have hi : i < met.length := (List.getElem?_eq_some_iff.1 hp).1
  refine ⟨⟨List.mem_append_left _ h.first, ?_, ?_, putI_rises _ h.rises, ?_, ?_⟩, ?_, ?_⟩
  · intro x hx
    rcases List.mem_append.1 hx with hx | hx
    · exact h.reach x hx
    · obtain rfl : x = (rowG g p)[j] := by simpa using hx
      exact (h.reach p (List.mem_of_getElem? hp)).step (List.getElem_mem hj)
  · intro j' q hj' hq c hc
    rw [List.getElem?_append_left (by omega)] at hq
    exact List.mem_append_left _ (h.shut j' q hj' hq c hc)
  · intro x
    rw [putI_mem, List.mem_append, h.same x]
    simp
  · rw [List.length_append, putI_len (fun e => hm ((h.same _).1 e)), h.len]
    rfl
  · rw [List.getElem?_append_left hi]; exact hp
  · intro c hc
    rw [List.take_add_one, List.getElem?_eq_getElem hj] at hc
    rcases List.mem_append.1 hc with hc | hc
    · exact List.mem_append_left _ (hs c hc)
    · exact List.mem_append_right _ (by simpa using hc)
theorem SrchAt.next {g : List (List Int)} {k p : Int} {i j : Nat} {met out : List Int} (h : SrchAt g k i j p met out) (hj : (rowG g p).length ≤ j) : Srch g k (i + 1) met out := by
  obtain ⟨h, hp, hs⟩ := h
  refine ⟨h.first, h.reach, fun j' q hj' hq c hc => ?_, h.rises, h.same, h.len⟩
  by_cases e : j' = i
  · subst e
    rw [hp] at hq
    cases hq
    exact hs c (by rw [List.take_of_length_le hj]; exact hc)
  · exact h.shut j' q (by omega) hq c hc
theorem Srch.small {g : List (List Int)} {k : Int} {i : Nat} {met out : List Int} (hg : rowsB g = true) (hk : 0 ≤ k ∧ k < g.length) (h : Srch g k i met out) : met.length ≤ g.length := by
  have := rises_len 0 g.length h.rises (fun x hx => by have := reach_in hg hk (h.reach x ((h.same x).1 hx)); omega) (by omega)
  have := h.len
  omega
theorem Srch.done {g : List (List Int)} {k : Int} {i : Nat} {met out : List Int} (hg : rowsB g = true) (hk : 0 ≤ k ∧ k < g.length) (h : Srch g k i met out) (hi : met.length ≤ i) : out = reachL g k := by
  refine reachL_unique hg hk h.rises (fun x => ⟨fun hx => h.reach x ((h.same x).1 hx), fun hx => (h.same x).2 ?_⟩)
  induction hx with
  | self => exact h.first
  | step _ hc ih =>
    obtain ⟨j, hj, e⟩ := List.getElem_of_mem ih
    exact h.shut j _ (by omega) (by rw [List.getElem?_eq_getElem hj, e]) _ hc

end Go.Proofs.Ytkhdgmgacfhcgaa

namespace Go.Proofs.Ytkhdgmgacfhcgaa
open Go.RowKit
set_option linter.unusedVariables false

theorem rises_take_succ {l : List Int} {k : Nat} (hk : k < l.length) (h : Rises (l.take k)) (hp : ∀ (h0 : 0 < k), l[k - 1] < l[k]) : Rises (l.take (k + 1)) := by
  unfold Rises
  rw [List.pairwise_iff_getElem]
  intro i j hi hj hij
  simp only [List.length_take] at hi hj
  rw [List.getElem_take, List.getElem_take]
  by_cases e : j = k
  · subst e
    have h0 := hp (by omega)
    by_cases e' : i = j - 1
    · subst e'; exact h0
    · have h1 := (List.pairwise_iff_getElem.1 h) i (j - 1) (by simp; omega) (by simp; omega) (by omega)
      rw [List.getElem_take, List.getElem_take] at h1
      omega
  · have h1 := (List.pairwise_iff_getElem.1 h) i j (by simp; omega) (by simp; omega) hij
    rwa [List.getElem_take, List.getElem_take] at h1
theorem riseB_out {l : List Int} {lo hi : Int} {k : Nat} (hk : k < l.length) (h : inB l[k] lo hi = false) : riseB l lo hi = false := by
  cases e : riseB l lo hi with
  | false => rfl
  | true =>
    have := (riseB_of e).2 _ (List.getElem_mem hk)
    rw [inB_yes this.1 this.2] at h
    cases h
theorem riseB_not {l : List Int} {lo hi : Int} {k : Nat} (hk : k + 1 < l.length) (h : ¬ l[k] < l[k + 1]) : riseB l lo hi = false := by
  cases e : riseB l lo hi with
  | false => rfl
  | true => exact absurd (List.pairwise_iff_getElem.1 (riseB_of e).1 k (k + 1) (by omega) hk (by omega)) h
theorem riseB_all {l : List Int} {lo hi : Int} (h : Rises (l.take l.length)) (k : (l.take l.length).all (fun x => inB x lo hi) = true) : riseB l lo hi = true := by
  rw [List.take_length] at h k
  unfold riseB allIn
  rw [k, decide_eq_true h]; rfl

end Go.Proofs.Ytkhdgmgacfhcgaa

namespace Go.Proofs.Ytkhdgmgacfhcgaa
open Go.RowKit
set_option linter.unusedVariables false

theorem goodG_of {g : List (List Int)} (h : goodG g = true) : rowsB g = true ∧ g.length ≤ 40 := by
  unfold goodG at h
  simpa using h
theorem goodG_not {g : List (List Int)} {k : Nat} (hk : k < g.length) (h : riseB g[k] 0 ((g.length : Int) - 1) = false) : goodG g = false := by
  cases e : goodG g with
  | false => rfl
  | true =>
    unfold goodG rowsB at e
    rw [Bool.and_eq_true] at e
    have := List.all_eq_true.1 e.1 _ (List.getElem_mem hk)
    rw [h] at this; cases this
theorem goodG_all {g : List (List Int)} (h : (g.take g.length).all (fun l => riseB l 0 ((g.length : Int) - 1)) = true) : goodG g = decide (g.length ≤ 40) := by
  rw [List.take_length] at h
  unfold goodG rowsB
  rw [h]; rfl
theorem allT_succ {α : Type} {L : List α} {k : Nat} (h : k < L.length) (p : α → Bool) (ht : (L.take k).all p = true) (hp : p L[k] = true) : (L.take (k + 1)).all p = true := by
  rw [List.take_add_one, List.getElem?_eq_getElem h, List.all_append, ht]
  simpa using hp

end Go.Proofs.Ytkhdgmgacfhcgaa

namespace Go.Proofs.Ytkhdgmgacfhcgaa
open Go.RowKit

end Go.Proofs.Ytkhdgmgacfhcgaa

namespace Go.Proofs.Ytkhdgmgacfhcgaa
open Go.RowKit
set_option linter.unusedVariables false

def OneInts (l : List Int) (w : World) (e : Ending) (w' : World) : Prop := ∃ v, e = .returned v ∧ Fresh w.heap.size w' v l ∧ Ext w w'
theorem hasI_iff (l : List Int) (n : Int) : hasI l n = true ↔ n ∈ l := by simp [hasI]

/-- The two lists of the search, each in new memory of its own. -/
def Pair (w wr : World) (vm vo : Value) (met out : List Int) : Prop :=
  Fresh w.heap.size wr vm met ∧ Fresh w.heap.size wr vo out ∧ (vo.ownBlock = none ∨ vo.ownBlock ≠ vm.ownBlock) ∧ Ext w wr
theorem Pair.ext {w wr w1 : World} {vm vo : Value} {met out : List Int} (h : Pair w wr vm vo met out) (x : Ext wr w1) : Pair w w1 vm vo met out :=
  ⟨h.1.ext x, h.2.1.ext x, h.2.2.1, h.2.2.2.trans x⟩
theorem Pair.add {w wr w1 w2 : World} {vm vo v1 v2 : Value} {met out : List Int} {n : Int} (h : Pair w wr vm vo met out)
    (f1 : Fresh w.heap.size w1 v1 (met ++ [n])) (x1 : Ext w w1) (f2 : Fresh w1.heap.size w2 v2 (putI out n)) (x2 : Ext w1 w2) : Pair w w2 v1 v2 (met ++ [n]) (putI out n) :=
  ⟨f1.ext x2, f2.more x1.size, f1.apart f2 (Nat.le_refl _), x1.trans x2⟩
theorem pair_start (w : World) (k : Int) : Pair w ((w.alloc (.cells #[.int .i64 k] 3)).alloc (.cells #[.int .i64 k] 3)) (.slice (some ⟨w.heap.size + 1, 0, none⟩) 1 1) (.slice (some ⟨w.heap.size, 0, none⟩) 1 1) [k] [k] := by
  have e : (w.alloc (.cells #[.int .i64 k] 3)).heap.size = w.heap.size + 1 := by simp
  refine ⟨fresh_lit2 w _ [k] 1 _ rfl rfl (by simp), ?_, .inr ?_, (Ext.alloc (Ext.refl _) _).alloc _⟩
  · exact (fresh_lit w [k] _ _ rfl (Nat.le_refl _) (by simp)).ext (Ext.alloc (Ext.refl _) _)
  · simp [Value.ownBlock]

end Go.Proofs.Ytkhdgmgacfhcgaa

namespace Go.Proofs.Ytkhdgmgacfhcgaa
open Go.RowKit
set_option linter.unusedVariables false

open Classical in
/-- The points that lead to each other with k, rising. -/
noncomputable def groupL (g : List (List Int)) (k : Int) : List Int := (reachL g k).filter fun n => decide (k ∈ reachL g n)
/-- All groups, by their first points. -/
noncomputable def groupsL (g : List (List Int)) : List (List Int) :=
  (((List.range g.length).map fun (i : Nat) => (i : Int)).filter fun k => decide ((groupL g k).head? = some k)).map (groupL g)

open Classical in
theorem groupL_mem {g : List (List Int)} (hg : rowsB g = true) {k : Int} (hk : 0 ≤ k ∧ k < g.length) (x : Int) : x ∈ groupL g k ↔ Reach g k x ∧ Reach g x k := by
  unfold groupL
  rw [List.mem_filter, reachL_mem hg hk, decide_eq_true_iff]
  constructor
  · rintro ⟨h1, h2⟩
    exact ⟨h1, (reachL_mem hg (reach_in hg hk h1) k).1 h2⟩
  · rintro ⟨h1, h2⟩
    exact ⟨h1, (reachL_mem hg (reach_in hg hk h1) k).2 h2⟩
theorem groupL_rises (g : List (List Int)) (k : Int) : Rises (groupL g k) := List.Pairwise.filter _ (reachL_rises g k)
theorem groupL_self {g : List (List Int)} (hg : rowsB g = true) {k : Int} (hk : 0 ≤ k ∧ k < g.length) : k ∈ groupL g k := (groupL_mem hg hk k).2 ⟨.self, .self⟩
theorem groupL_in {g : List (List Int)} (hg : rowsB g = true) {k x : Int} (hk : 0 ≤ k ∧ k < g.length) (h : x ∈ groupL g k) : 0 ≤ x ∧ x < g.length := reach_in hg hk ((groupL_mem hg hk x).1 h).1
/-- A group is the group of each of its points. -/
theorem groupL_same {g : List (List Int)} (hg : rowsB g = true) {k x : Int} (hk : 0 ≤ k ∧ k < g.length) (h : x ∈ groupL g k) : groupL g x = groupL g k := by
  have hx := groupL_in hg hk h
  obtain ⟨h1, h2⟩ := (groupL_mem hg hk x).1 h
  refine rises_ext (groupL_rises g x) (groupL_rises g k) (fun y => ?_)
  rw [groupL_mem hg hx, groupL_mem hg hk]
  exact ⟨fun ⟨a, b⟩ => ⟨h1.trans a, b.trans h2⟩, fun ⟨a, b⟩ => ⟨h2.trans a, b.trans h1⟩⟩

/-- What is left of the groups: each is one, and no point lies in two. -/
def Left (g left : List (List Int)) : Prop := (∀ G ∈ left, ∃ k, (0 ≤ k ∧ k < (g.length : Int)) ∧ G = groupL g k) ∧ left.Pairwise (fun G H => ∀ x, x ∈ G → x ∉ H)

theorem left_groups {g : List (List Int)} (hg : rowsB g = true) : Left g (groupsL g) := by
  refine ⟨fun G hG => ?_, ?_⟩
  · obtain ⟨k, hk, rfl⟩ := List.mem_map.1 hG
    obtain ⟨i, hi, rfl⟩ := List.mem_map.1 (List.mem_filter.1 hk).1
    exact ⟨_, ⟨by omega, by have := List.mem_range.1 hi; omega⟩, rfl⟩
  · unfold groupsL
    rw [List.pairwise_map]
    refine (List.Pairwise.filter _ (range_rises g.length)).imp_of_mem ?_
    intro a b ha hb hab x hxa hxb
    obtain ⟨ia, hia, ea⟩ := List.mem_map.1 (List.mem_filter.1 ha).1
    obtain ⟨ib, hib, eb⟩ := List.mem_map.1 (List.mem_filter.1 hb).1
    have hia := List.mem_range.1 hia
    have hib := List.mem_range.1 hib
    have h1 := groupL_same hg (k := a) (by omega) hxa
    have h2 := groupL_same hg (k := b) (by omega) hxb
    have h3 := of_decide_eq_true (List.mem_filter.1 ha).2
    have h4 := of_decide_eq_true (List.mem_filter.1 hb).2
    rw [← h1, h2, h4] at h3
    cases h3
    omega

/-- Whether the group at k leads into none of the others. -/
def freeB (g left : List (List Int)) (k : Nat) : Bool :=
  (left[k]?.getD []).all fun p => (List.range left.length).all fun i => decide (i = k) || (left[i]?.getD []).all fun n => !decide (n ∈ rowG g p)
theorem freeB_yes {g left : List (List Int)} {k : Nat} (h : ∀ p ∈ left[k]?.getD [], ∀ i, i < left.length → i ≠ k → ∀ n ∈ left[i]?.getD [], n ∉ rowG g p) : freeB g left k = true := by
  unfold freeB
  rw [List.all_eq_true]
  intro p hp
  rw [List.all_eq_true]
  intro i hi
  by_cases e : i = k
  · simp [e]
  · rw [Bool.or_eq_true]
    right
    rw [List.all_eq_true]
    intro n hn
    simpa using h p hp i (List.mem_range.1 hi) e n hn

theorem reach_less {g : List (List Int)} (hg : rowsB g = true) {p n : Int} (hp : 0 ≤ p ∧ p < g.length) (h : Reach g p n) (hn : ¬ Reach g n p) : (reachL g n).length < (reachL g p).length := by
  have hnn := reach_in hg hp h
  have hs : (reachL g n).Sublist (reachL g p) := by
    have e : reachL g n = (reachL g p).filter (fun x => decide (x ∈ reachL g n)) := by
      refine rises_ext (reachL_rises g n) (List.Pairwise.filter _ (reachL_rises g p)) (fun x => ?_)
      rw [List.mem_filter, decide_eq_true_iff]
      refine ⟨fun hx => ⟨?_, hx⟩, fun hx => hx.2⟩
      exact (reachL_mem hg hp x).2 (h.trans ((reachL_mem hg hnn x).1 hx))
    rw [e]
    exact List.filter_sublist
  rcases Nat.lt_or_ge (reachL g n).length (reachL g p).length with hl | hl
  · exact hl
  · have e := hs.eq_of_length_le hl
    have : p ∈ reachL g n := by rw [e]; exact (reachL_mem hg hp p).2 .self
    exact absurd ((reachL_mem hg hnn p).1 this) hn

/-- One of the list has the least measure. -/
theorem least_of {α : Type} (m : α → Nat) : ∀ (l : List α), l ≠ [] → ∃ (k : Nat) (h : k < l.length), ∀ (i : Nat) (hi : i < l.length), m l[k] ≤ m l[i]
  | [], h => absurd rfl h
  | [x], _ => by
    refine ⟨0, by simp, fun i hi => ?_⟩
    have e : i = 0 := by simpa using hi
    subst e
    exact Nat.le_refl _
  | x :: y :: l, _ => by
    obtain ⟨k, hk, hm⟩ := least_of m (y :: l) (by simp)
    by_cases h : m x ≤ m (y :: l)[k]
    · refine ⟨0, by simp, fun i hi => ?_⟩
      cases i with
      | zero => exact Nat.le_refl _
      | succ i => simpa using Nat.le_trans h (hm i (by simpa using hi))
    · refine ⟨k + 1, by simpa using hk, fun i hi => ?_⟩
      cases i with
      | zero => simp only [List.getElem_cons_succ, List.getElem_cons_zero]; omega
      | succ i => simpa using hm i (by simpa using hi)

/-- There is a group left that leads into none of the others. -/
theorem free_one {g left : List (List Int)} (hg : rowsB g = true) (hl : Left g left) (hne : left ≠ []) : ∃ k, k < left.length ∧ freeB g left k = true := by
  obtain ⟨k, hk, hm⟩ := least_of (fun G : List Int => (reachL g (G.head?.getD 0)).length) left hne
  refine ⟨k, hk, freeB_yes ?_⟩
  intro p hp i hi hik n hn hpn
  rw [List.getElem?_eq_getElem hk] at hp
  rw [List.getElem?_eq_getElem hi] at hn
  have hp : p ∈ left[k] := hp
  have hn : n ∈ left[i] := hn
  obtain ⟨a, ha, ea⟩ := hl.1 left[k] (List.getElem_mem hk)
  obtain ⟨b, hb, eb⟩ := hl.1 left[i] (List.getElem_mem hi)
  have hmi := hm i hi
  rw [ea] at hp
  rw [eb] at hn
  have hpi := groupL_in hg ha hp
  have hni := groupL_in hg hb hn
  -- the group's own first point
  have first : ∀ (c : Int) (hc : 0 ≤ c ∧ c < (g.length : Int)) (x : Int), x ∈ groupL g c → (reachL g ((groupL g c).head?.getD 0)).length = (reachL g x).length := by
    intro c hc x hx
    obtain ⟨y, hy⟩ : ∃ y, (groupL g c).head? = some y := by
      cases hG : groupL g c with
      | nil => rw [hG] at hx; simp at hx
      | cons y l => exact ⟨y, rfl⟩
    rw [hy]
    have hym : y ∈ groupL g c := List.mem_of_mem_head? (by rw [hy]; exact rfl)
    obtain ⟨x1, x2⟩ := (groupL_mem hg hc x).1 hx
    obtain ⟨y1, y2⟩ := (groupL_mem hg hc y).1 hym
    have hyi := groupL_in hg hc hym
    have hxi := groupL_in hg hc hx
    have e : reachL g y = reachL g x := rises_ext (reachL_rises g y) (reachL_rises g x) (fun z => by
      rw [reachL_mem hg hyi, reachL_mem hg hxi]
      exact ⟨fun hz => (x2.trans y1).trans hz, fun hz => (y2.trans x1).trans hz⟩)
    show (reachL g y).length = (reachL g x).length
    rw [e]
  have e1 := first a ha p hp
  have e2 := first b hb n hn
  simp only [ea, eb] at hmi
  rw [e1, e2] at hmi
  have hpr : Reach g p n := Reach.self.step hpn
  by_cases hr : Reach g n p
  · -- then both lie in one group
    have hnp : n ∈ groupL g p := (groupL_mem hg hpi n).2 ⟨hpr, hr⟩
    rw [groupL_same hg ha hp] at hnp
    have hd := List.pairwise_iff_getElem.1 hl.2
    rcases Nat.lt_or_ge i k with hlt | hge
    · exact hd i k hi hk hlt n (by rw [eb]; exact hn) (by rw [ea]; exact hnp)
    · exact hd k i hk hi (by omega) n (by rw [ea]; exact hnp) (by rw [eb]; exact hn)
  · have := reach_less hg hpi hpr hr
    omega

/-- The first group that leads into none of the others. -/
def pickC (g left : List (List Int)) : Option Nat := (List.range left.length).find? (freeB g left)
theorem pickC_some {g left : List (List Int)} (hg : rowsB g = true) (hl : Left g left) (hne : left ≠ []) : ∃ k, pickC g left = some k ∧ k < left.length := by
  obtain ⟨k, hk, hf⟩ := free_one hg hl hne
  cases h : pickC g left with
  | none => exact absurd hf (List.find?_eq_none.1 h k (List.mem_range.2 hk))
  | some j => exact ⟨j, rfl, List.mem_range.1 (List.mem_of_find?_eq_some h)⟩
theorem Left.erase {g left : List (List Int)} (h : Left g left) (k : Nat) : Left g (left.eraseIdx k) :=
  ⟨fun G hG => h.1 G ((List.eraseIdx_sublist _ _).subset hG), h.2.sublist (List.eraseIdx_sublist _ _)⟩
/-- The groups in the order in which they are told. -/
def compsC (g : List (List Int)) : Nat → List (List Int) → List (List Int)
  | 0, _ => []
  | f + 1, left => match pickC g left with
    | none => []
    | some k => (left[k]?.getD []) :: compsC g f (left.eraseIdx k)
noncomputable def compsL (g : List (List Int)) : List (List Int) := compsC g (groupsL g).length (groupsL g)

end Go.Proofs.Ytkhdgmgacfhcgaa

namespace Go.Proofs.Ytkhdgmgacfhcgaa
open Go.RowKit
set_option linter.unusedVariables false

/-- Two slices of two element types lie in two blocks. -/
theorem types_apart {w : World} {B B' e e' sz sz' n m : Nat} {v u : Value} {xs ys : List Value} (h : w.ownsRow B e sz v n xs) (k : w.ownsRow B' e' sz' u m ys) (hne : e ≠ e') : u.ownBlock = none ∨ u.ownBlock ≠ v.ownBlock := by
  rcases k.2 with ⟨rfl, _⟩ | ⟨g', cap', cur', rfl, _, hg', _⟩
  · exact .inl rfl
  · refine .inr fun hb => ?_
    rcases h.2 with ⟨rfl, _⟩ | ⟨g, cap, cur, rfl, _, hg, _⟩
    · simp [Value.ownBlock] at hb
    · simp [Value.ownBlock] at hb
      subst hb
      rw [hg] at hg'
      simp at hg'
      exact hne hg'.2
theorem FreshSS.of {B : Nat} {w : World} {v : Value} {L : List (List Int)} {vs : List Value} (h : w.ownsRow B 49 1 v L.length vs) (r : Rows_ B w vs L) : FreshSS B w v L :=
  ⟨vs, h, r, fun j u hu => by
    have hj : j < vs.length := (List.getElem?_eq_some_iff.1 hu).1
    exact types_apart h (r.row j u _ hu (List.getElem?_eq_getElem (by rw [← r.len]; exact hj))) (by decide)⟩
theorem FreshSS.form {B : Nat} {w : World} {v : Value} {L : List (List Int)} (h : FreshSS B w v L) : ∃ ao cap, v = .slice ao L.length cap := by
  obtain ⟨ao, cap, hv, _⟩ := h.intss
  exact ⟨ao, cap, hv⟩

theorem wpList_pushSS {ops : Array Oper} {rest : List Oper} {o : Oper} {a : Act} {Q : Exit → Act → World → Prop} {w : World} (hgd : o.guard = none) (s x : Operand)
    (ho : o.op = .call { callee := .builtin .append, args := #[s, x], argTypes := #[26, 26] })
    (B : Nat) (v : Value) (L : List (List Int)) (l : List Int) (w0 : World) (hs : a.eval s = v) (hf : FreshSS B w0 v L) (e : Ext w0 w) (u : Value) (hu : Fresh w0.heap.size w u l) (ad : Addr) (c : Nat) (hx : a.eval x = .slice (some ad) 1 c)
    (hc : w.cell? ad = some u) (h1 : u.oneCell' = true) (hl : L.length ≤ 1048576) (hB : B ≤ w0.heap.size)
    (h : ∀ v' w', FreshSS B w' v' (L ++ [l]) → Kept B w w' → wpList Try.prog ops Q rest (a.put o.dst v') w') : wpList Try.prog ops Q (o :: rest) a w := by
  obtain ⟨i0, hi, hz0, hz1, hz2⟩ := info_parts Try.infoInts
  obtain ⟨vs, h1r, h2r, _⟩ := hf
  have ho1 := e.ownsRow h1r
  have hR := h2r.snoc e hu hB
  refine wpList_append_own _ hgd s x 26 ho B 49 i0 (.slice none 0 0) 1 24 Try.underlying26 hi hz0 hz1 hz2 rfl (by decide) v L.length _ hs ho1 ad 1 c [u] hx rfl ?_ ?_ ?_ ?_ (Nat.le_trans hB e.size) ?_
  · intro j z hj
    match j, hj with
    | 0, hj => simp at hj; subst hj; simpa [Addr.add] using hc
  · intro z hz; simp at hz; subst hz; exact h1
  · unfold maxLen; omega
  · omega
  · intro v' w' ho' hg _
    have hRt : Rows_ B w' (vs ++ [u]) (L ++ [l]) := hR.touch hg (fun j z hz => by
      have hj : j < (vs ++ [u]).length := (List.getElem?_eq_some_iff.1 hz).1
      exact types_apart ho1 (hR.row j z _ hz (List.getElem?_eq_getElem (by rw [← hR.len]; exact hj))) (by decide))
    refine h v' w' (FreshSS.of (by simpa using ho') hRt) (fun q hq hqB => Below.grown hq hg hq.size (fun b hb => Nat.le_trans hqB (World.ownsRow.lt ho1 b hb).1))

end Go.Proofs.Ytkhdgmgacfhcgaa

namespace Go.Proofs.Ytkhdgmgacfhcgaa
open Go.RowKit
set_option linter.unusedVariables false

noncomputable def allL (g : List (List Int)) (t : Nat) : List (List Int) := (List.range t).map fun (i : Nat) => reachL g (i : Int)
theorem allL_len (g : List (List Int)) (t : Nat) : (allL g t).length = t := by simp [allL]
theorem allL_succ (g : List (List Int)) (t : Nat) : allL g (t + 1) = allL g t ++ [reachL g (t : Int)] := by simp [allL, List.range_succ]
theorem allL_at (g : List (List Int)) {t m : Nat} (h : m < t) : (allL g t)[m]? = some (reachL g (m : Int)) := by simp [allL, h]
open Classical in
noncomputable def grpTo (g : List (List Int)) (t : Nat) : List (List Int) :=
  (((List.range t).map fun (i : Nat) => (i : Int)).filter fun k => decide ((groupL g k).head? = some k)).map (groupL g)
theorem grpTo_all (g : List (List Int)) : grpTo g g.length = groupsL g := by
  unfold grpTo groupsL
  congr 1
theorem grpTo_len (g : List (List Int)) (t : Nat) : (grpTo g t).length ≤ t := by
  unfold grpTo
  rw [List.length_map]
  refine Nat.le_trans (List.length_filter_le _ _) (by simp)
theorem grpTo_yes (g : List (List Int)) (t : Nat) (h : (groupL g (t : Int)).head? = some (t : Int)) : grpTo g (t + 1) = grpTo g t ++ [groupL g (t : Int)] := by
  unfold grpTo
  rw [List.range_succ, List.map_append, List.filter_append, List.map_append]
  simp [h]
theorem grpTo_no (g : List (List Int)) (t : Nat) (h : (groupL g (t : Int)).head? ≠ some (t : Int)) : grpTo g (t + 1) = grpTo g t := by
  unfold grpTo
  rw [List.range_succ, List.map_append, List.filter_append, List.map_append]
  simp [h]
/-- Whether k is among the points that n leads to. -/
noncomputable def backB (g : List (List Int)) (k n : Int) : Bool := hasI (reachL g n) k
theorem groupL_back (g : List (List Int)) (k : Int) : groupL g k = (reachL g k).filter (backB g k) := by
  unfold groupL backB
  apply List.filter_congr
  intro x _
  rw [Bool.eq_iff_iff, hasI_iff, decide_eq_true_iff]

theorem reachL_in {g : List (List Int)} {k x : Int} (h : x ∈ reachL g k) : 0 ≤ x ∧ x < g.length := by
  unfold reachL at h
  obtain ⟨i, hi, rfl⟩ := List.mem_map.1 (List.mem_filter.1 h).1
  have := List.mem_range.1 hi
  omega
theorem filt_succ {l : List Int} {k : Nat} (h : k < l.length) (p : Int → Bool) : (l.take (k + 1)).filter p = (l.take k).filter p ++ (if p l[k] then [l[k]] else []) := by
  rw [List.take_add_one, List.getElem?_eq_getElem h, List.filter_append]
  cases hp : p l[k] <;> simp [hp]

def NewSS (L : List (List Int)) (w : World) (e : Ending) (w' : World) : Prop := ∃ v, e = .returned v ∧ FreshSS w.heap.size w' v L ∧ Ext w w'

end Go.Proofs.Ytkhdgmgacfhcgaa

namespace Go.Proofs.Ytkhdgmgacfhcgaa
open Go.RowKit
set_option linter.unusedVariables false

theorem erase_map {α β : Type} (f : α → β) : ∀ (l : List α) (k : Nat), (l.eraseIdx k).map f = (l.map f).eraseIdx k
  | [], k => by simp
  | x :: l, 0 => by simp
  | x :: l, k + 1 => by simp [erase_map f l k]
theorem perm_erase {α : Type} : ∀ (l : List α) (k : Nat) (h : k < l.length), (l[k] :: l.eraseIdx k).Perm l
  | x :: l, 0, _ => by simp
  | x :: l, k + 1, h => by
    have h' : k < l.length := by simpa using h
    have := perm_erase l k h'
    simp only [List.getElem_cons_succ, List.eraseIdx_cons_succ]
    exact (List.Perm.swap x _ _).trans (List.Perm.cons x this)
def pickL (L : List (List Int)) (is : List Nat) : List (List Int) := is.map fun i => L[i]?.getD []
theorem pickL_range (L : List (List Int)) : pickL L (List.range L.length) = L := by
  unfold pickL
  apply List.ext_getElem
  · simp
  · intro i h1 h2
    simp [List.getElem?_eq_getElem h2]
theorem pickL_erase (L : List (List Int)) (is : List Nat) (k : Nat) : pickL L (is.eraseIdx k) = (pickL L is).eraseIdx k := by
  unfold pickL
  exact erase_map _ _ _
theorem pickL_at {L : List (List Int)} {is : List Nat} {k i : Nat} (h : is[k]? = some i) : (pickL L is)[k]? = some (L[i]?.getD []) := by
  unfold pickL
  rw [List.getElem?_map, h]; rfl

structure CompS (g : List (List Int)) (isO isL : List Nat) : Prop where
  nodup : (isO ++ isL).Nodup
  bound : ∀ i ∈ isO ++ isL, i < (groupsL g).length
  left : Left g (pickL (groupsL g) isL)
  told : pickL (groupsL g) isO ++ compsC g isL.length (pickL (groupsL g) isL) = compsL g

theorem CompS.start {g : List (List Int)} (hg : rowsB g = true) : CompS g [] (List.range (groupsL g).length) := by
  refine ⟨by simpa using List.nodup_range, by simp, ?_, ?_⟩
  · rw [pickL_range]; exact left_groups hg
  · rw [pickL_range, List.length_range]; rfl
theorem CompS.next {g : List (List Int)} {isO isL : List Nat} (h : CompS g isO isL) {k i : Nat} (hk : isL[k]? = some i) (hp : pickC g (pickL (groupsL g) isL) = some k) : CompS g (isO ++ [i]) (isL.eraseIdx k) := by
  have hlt : k < isL.length := (List.getElem?_eq_some_iff.1 hk).1
  have hperm : (i :: isL.eraseIdx k).Perm isL := by
    obtain ⟨h1, h2⟩ := List.getElem?_eq_some_iff.1 hk
    have := perm_erase isL k h1
    rwa [h2] at this
  have hp2 : ((isO ++ [i]) ++ isL.eraseIdx k).Perm (isO ++ isL) := by
    rw [List.append_assoc]
    exact List.Perm.append_left isO hperm
  refine ⟨hp2.nodup_iff.2 h.nodup, fun j hj => h.bound j (hp2.mem_iff.1 hj), ?_, ?_⟩
  · rw [pickL_erase]; exact h.left.erase k
  · have ht := h.told
    have hl : isL.length = (isL.eraseIdx k).length + 1 := by rw [List.length_eraseIdx]; simp [hlt]; omega
    rw [hl] at ht
    unfold compsC at ht
    rw [hp] at ht
    simp only at ht
    rw [pickL_at hk, Option.getD_some, ← pickL_erase] at ht
    rw [← ht]
    simp [pickL]
theorem CompS.done {g : List (List Int)} {isO : List Nat} (h : CompS g isO []) : pickL (groupsL g) isO = compsL g := by
  have := h.told
  simpa [compsC] using this

/-! ### Whether a group is free -/
/-- Of one point of the group at k and one list that is left: whether the point leads to none of it (its own list aside). -/
def freeN (g left : List (List Int)) (k : Nat) (p : Int) (i : Nat) : Bool := (left[i]?.getD []).all fun n => decide (i = k) || !hasI (rowG g p) n
theorem freeB_eq (g left : List (List Int)) (k : Nat) : freeB g left k = (left[k]?.getD []).all fun p => (List.range left.length).all fun i => freeN g left k p i := by
  unfold freeB freeN
  congr 1
  funext p
  congr 1
  funext i
  by_cases e : i = k
  · simp [e]
  · have hh : ∀ n, hasI (rowG g p) n = decide (n ∈ rowG g p) := fun n => by rw [Bool.eq_iff_iff]; simp [hasI]
    simp [e, hh]
theorem pickC_at {g left : List (List Int)} {k : Nat} (hk : k < left.length) (h : freeB g left k = true) (hb : ∀ j, j < k → freeB g left j = false) : pickC g left = some k := by
  unfold pickC
  rw [List.find?_eq_some_iff_getElem]
  refine ⟨h, k, by simpa using hk, by simp, fun j hj => ?_⟩
  simp [hb j hj]
theorem pickC_must {g left : List (List Int)} (hg : rowsB g = true) (hl : Left g left) (hne : left ≠ []) (hb : ∀ j, j < left.length → freeB g left j = false) : False := by
  obtain ⟨k, hk, hf⟩ := free_one hg hl hne
  rw [hb k hk] at hf
  cases hf

end Go.Proofs.Ytkhdgmgacfhcgaa

namespace Go.Proofs.Ytkhdgmgacfhcgaa
open Go.RowKit
set_option linter.unusedVariables false

/-- v is a slice in new memory that holds the values vs. -/
def FreshV (B : Nat) (w : World) (v : Value) (vs : List Value) : Prop := w.ownsRow B 49 1 v vs.length vs
theorem FreshV.ext {B : Nat} {w w' : World} {v : Value} {vs : List Value} (h : FreshV B w v vs) (e : Ext w w') : FreshV B w' v vs := e.ownsRow h
theorem FreshV.more {B B' : Nat} {w : World} {v : Value} {vs : List Value} (h : FreshV B w v vs) (hb : B' ≤ B) : FreshV B' w v vs := ownsRow_more h hb
theorem FreshV.nil (B : Nat) (w : World) : FreshV B w (.slice none 0 0) [] := World.ownsRow_nil _ _ _ _

theorem wpList_pushV {ops : Array Oper} {rest : List Oper} {o : Oper} {a : Act} {Q : Exit → Act → World → Prop} {w : World} (hgd : o.guard = none) (s x : Operand)
    (ho : o.op = .call { callee := .builtin .append, args := #[s, x], argTypes := #[26, 26] })
    (B : Nat) (v : Value) (vs : List Value) (hs : a.eval s = v) (hf : FreshV B w v vs) (u : Value) (ad : Addr) (c : Nat) (hx : a.eval x = .slice (some ad) 1 c)
    (hc : w.cell? ad = some u) (h1 : u.oneCell' = true) (hl : vs.length ≤ 1048576) (hB : B ≤ w.heap.size)
    (h : ∀ v' w', FreshV B w' v' (vs ++ [u]) → w.grownBy w' v.ownBlock → Kept B w w' → wpList Try.prog ops Q rest (a.put o.dst v') w') : wpList Try.prog ops Q (o :: rest) a w := by
  obtain ⟨i0, hi, hz0, hz1, hz2⟩ := info_parts Try.infoInts
  refine wpList_append_own _ hgd s x 26 ho B 49 i0 (.slice none 0 0) 1 24 Try.underlying26 hi hz0 hz1 hz2 rfl (by decide) v vs.length _ hs hf ad 1 c [u] hx rfl ?_ ?_ ?_ ?_ hB ?_
  · intro j z hj
    match j, hj with
    | 0, hj => simp at hj; subst hj; simpa [Addr.add] using hc
  · intro z hz; simp at hz; subst hz; exact h1
  · unfold maxLen; omega
  · omega
  · intro v' w' ho' hg _
    exact h v' w' (by unfold FreshV; simpa using ho') hg (fun q hq hqB => Below.grown hq hg hq.size (fun b hb => Nat.le_trans hqB (World.ownsRow.lt hf b hb).1))

/-- The cells of a slice of lists, as values. -/
def ReadsV (w : World) (v : Value) (vs : List Value) : Prop :=
  ∃ ao cap, v = .slice ao vs.length cap ∧ (ao = none → cap = 0 ∧ vs = []) ∧ (vs.length ≤ cap ∧ cap ≤ maxLen) ∧ ∀ b off, ao = some ⟨b, off, none⟩ → ∀ j z, vs[j]? = some z → w.cell? ⟨b, off + j, none⟩ = some z

theorem wpList_joinV {ops : Array Oper} {rest : List Oper} {o : Oper} {a : Act} {Q : Exit → Act → World → Prop} {w : World} (hgd : o.guard = none) (s x : Operand)
    (ho : o.op = .call { callee := .builtin .append, args := #[s, x], argTypes := #[26, 26] })
    (B : Nat) (v : Value) (vs us : List Value) (hs : a.eval s = v) (hf : FreshV B w v vs) (b off c : Nat) (hx : a.eval x = .slice (some ⟨b, off, none⟩) us.length c)
    (hc : ∀ j z, us[j]? = some z → w.cell? ⟨b, off + j, none⟩ = some z) (h1 : ∀ u ∈ us, u.oneCell' = true) (hl : vs.length + us.length ≤ 1048576) (hB : B ≤ w.heap.size)
    (h : ∀ v' w', FreshV B w' v' (vs ++ us) → w.grownBy w' v.ownBlock → Kept B w w' → wpList Try.prog ops Q rest (a.put o.dst v') w') : wpList Try.prog ops Q (o :: rest) a w := by
  obtain ⟨i0, hi, hz0, hz1, hz2⟩ := info_parts Try.infoInts
  refine wpList_append_own _ hgd s x 26 ho B 49 i0 (.slice none 0 0) 1 24 Try.underlying26 hi hz0 hz1 hz2 rfl (by decide) v vs.length _ hs hf ⟨b, off, none⟩ us.length c us hx (by simp) ?_ ?_ ?_ ?_ hB ?_
  · intro j z hj
    rw [show (⟨b, off, none⟩ : Addr).add j = ⟨b, off + j, none⟩ by simp [Addr.add]]
    exact hc j z hj
  · intro z hz; exact h1 z hz
  · unfold maxLen; omega
  · omega
  · intro v' w' ho' hg _
    exact h v' w' (by unfold FreshV; rw [List.length_append]; exact ho') hg (fun q hq hqB => Below.grown hq hg hq.size (fun b hb => Nat.le_trans hqB (World.ownsRow.lt hf b hb).1))

/-- A row of a list in new memory, by its value. -/
theorem FreshSS.vals {B : Nat} {w : World} {v : Value} {L : List (List Int)} (h : FreshSS B w v L) : ∃ vs, FreshV B w v vs ∧ Rows_ B w vs L := by
  obtain ⟨vs, h1, h2, _⟩ := h
  exact ⟨vs, by unfold FreshV; rw [h2.len]; exact h1, h2⟩
theorem FreshV.ss {B : Nat} {w : World} {v : Value} {vs : List Value} {L : List (List Int)} (h : FreshV B w v vs) (r : Rows_ B w vs L) : FreshSS B w v L :=
  FreshSS.of (by rw [← r.len]; exact h) r
/-- Rows picked by indices without repeats are rows still. -/
theorem Rows_.pick {B : Nat} {w : World} {vs : List Value} {L : List (List Int)} (h : Rows_ B w vs L) (is : List Nat) (hn : is.Nodup) (hb : ∀ i ∈ is, i < vs.length) :
    Rows_ B w (is.map fun i => vs[i]?.getD (.slice none 0 0)) (is.map fun i => L[i]?.getD []) := by
  refine ⟨by simp, fun j u l hu hl => ?_, fun i j u z hij hu hz => ?_⟩
  · rw [List.getElem?_map] at hu hl
    cases hj : is[j]? with
    | none => rw [hj] at hu; simp at hu
    | some i =>
      have hi := hb i (List.mem_of_getElem? hj)
      rw [hj] at hu hl
      simp only [Option.map_some, Option.some.injEq] at hu hl
      rw [List.getElem?_eq_getElem hi, Option.getD_some] at hu
      rw [List.getElem?_eq_getElem (by rw [← h.len]; exact hi), Option.getD_some] at hl
      exact h.row i u l (by rw [List.getElem?_eq_getElem hi, hu]) (by rw [List.getElem?_eq_getElem (by rw [← h.len]; exact hi), hl])
  · rw [List.getElem?_map] at hu hz
    cases hi : is[i]? with
    | none => rw [hi] at hu; simp at hu
    | some a =>
      cases hj : is[j]? with
      | none => rw [hj] at hz; simp at hz
      | some b =>
        have ha := hb a (List.mem_of_getElem? hi)
        have hb' := hb b (List.mem_of_getElem? hj)
        rw [hi] at hu
        rw [hj] at hz
        simp only [Option.map_some, Option.some.injEq] at hu hz
        rw [List.getElem?_eq_getElem ha, Option.getD_some] at hu
        rw [List.getElem?_eq_getElem hb', Option.getD_some] at hz
        have hab : a ≠ b := by
          intro e
          subst e
          have h1 := (List.getElem?_eq_some_iff.1 hi)
          have h2 := (List.getElem?_eq_some_iff.1 hj)
          obtain ⟨l1, e1⟩ := h1
          obtain ⟨l2, e2⟩ := h2
          exact hij ((List.getElem_inj hn).1 (by rw [e1, e2]))
        exact h.apart a b u z hab (by rw [List.getElem?_eq_getElem ha, hu]) (by rw [List.getElem?_eq_getElem hb', hz])

end Go.Proofs.Ytkhdgmgacfhcgaa
