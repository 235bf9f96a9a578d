/- Texts of this proof, part m: words, plain facts, contracts. -/
import Derived.Test.YtcpmfcigciknlaaGreatNBookOfg
import Derived.Test.YtcpmfcigciknlaaGreatNBookOfl
import Derived.Test.YtcpmfcigciknlaaGreatNBookOfc
import Derived.Deep.LoopGhost
import Derived.Laws.Rows
import Derived.Test.YtcpmfcigciknlaaGreatNBookOfh
import Derived.ScopeJumps
import Derived.Test.YtcpmfcigciknlaaGreatNBookOfa
set_option linter.unusedVariables false
set_option linter.unusedSimpArgs false

namespace Go.Proofs.YtcpmfcigciknlaaGreat
open Go.RowKit
set_option linter.unusedVariables false
def onB (bs : List Bool) (x : Int) : Prop := ∃ n : Nat, x = (n : Int) ∧ bs[n]? = some true
theorem onB_set {bs : List Bool} {m : Nat} (hm : m < bs.length) (x : Int) : onB (bs.set m true) x ↔ onB bs x ∨ x = (m : Int) := by
  unfold onB
  constructor
  · rintro ⟨n, rfl, h⟩
    rw [List.getElem?_set] at h
    by_cases e : m = n
    · exact .inr (by omega)
    · rw [if_neg e] at h
      exact .inl ⟨n, rfl, h⟩
  · rintro (⟨n, rfl, h⟩ | rfl)
    · refine ⟨n, rfl, ?_⟩
      rw [List.getElem?_set]
      by_cases e : m = n
      · rw [if_pos e, if_pos hm]
      · rw [if_neg e]; exact h
    · exact ⟨m, rfl, by rw [List.getElem?_set, if_pos rfl, if_pos hm]⟩
structure Led (g : List (List Int)) (k : Int) (bs : List Bool) (left : List Int) : Prop where
  len : bs.length = 40
  first : onB bs k
  reach : ∀ x, onB bs x → Reach g k x
  stack : ∀ x ∈ left, onB bs x
  shut : ∀ x, onB bs x → x ∉ left → ∀ c ∈ rowG g x, onB bs c
structure LedAt (g : List (List Int)) (k p : Int) (j : Nat) (bs : List Bool) (left : List Int) : Prop where
  len : bs.length = 40
  first : onB bs k
  reach : ∀ x, onB bs x → Reach g k x
  stack : ∀ x ∈ left, onB bs x
  here : onB bs p
  shut : ∀ x, onB bs x → x ≠ p → x ∉ left → ∀ c ∈ rowG g x, onB bs c
  row : ∀ c ∈ (rowG g p).take j, onB bs c
def noneB : List Bool := List.replicate 40 false
theorem noneB_no (x : Int) : ¬ onB noneB x := by
  rintro ⟨n, rfl, h⟩
  unfold noneB at h
  rw [List.getElem?_replicate] at h
  split at h <;> simp at h
theorem Led.start (g : List (List Int)) (k : Nat) (hk : k < 40) : Led g k (noneB.set k true) [(k : Int)] := by
  have hl : k < noneB.length := by simp [noneB]; exact hk
  have hs := onB_set hl
  refine ⟨by simp [noneB], (hs _).2 (.inr rfl), fun x hx => ?_, fun x hx => ?_, fun x hx hn => ?_⟩
  · rcases (hs x).1 hx with h | rfl
    · exact absurd h (noneB_no x)
    · exact .self
  · obtain rfl : x = k := by simpa using hx
    exact (hs _).2 (.inr rfl)
  · rcases (hs x).1 hx with h | rfl
    · exact absurd h (noneB_no x)
    · exact absurd (by simp) hn
theorem Led.pop {g : List (List Int)} {k p : Int} {bs : List Bool} {left : List Int} (h : Led g k bs (left ++ [p])) : LedAt g k p 0 bs left :=
  ⟨h.len, h.first, h.reach, fun x hx => h.stack x (by simp [hx]), h.stack p (by simp), fun x hx hp hn => h.shut x hx (by simp [hp, hn]), by simp⟩
theorem LedAt.known {g : List (List Int)} {k p : Int} {j : Nat} {bs : List Bool} {left : List Int} (h : LedAt g k p j bs left) (hj : j < (rowG g p).length) (hm : onB bs (rowG g p)[j]) : LedAt g k p (j + 1) bs left := by
  refine ⟨h.len, h.first, h.reach, h.stack, h.here, h.shut, fun c hc => ?_⟩
  rw [List.take_add_one, List.getElem?_eq_getElem hj] at hc
  rcases List.mem_append.1 hc with hc | hc
  · exact h.row c hc
  · obtain rfl : c = (rowG g p)[j] := by simpa using hc
    exact hm
theorem LedAt.add {g : List (List Int)} {k p : Int} {j m : Nat} {bs : List Bool} {left : List Int} (h : LedAt g k p j bs left) (hj : j < (rowG g p).length) (hn : (rowG g p)[j] = (m : Int)) (hm : m < 40) : LedAt g k p (j + 1) (bs.set m true) (left ++ [(m : Int)]) := by
  have hs := onB_set (bs := bs) (m := m) (by rw [h.len]; exact hm)
  refine ⟨by simp [h.len], (hs _).2 (.inl h.first), fun x hx => ?_, fun x hx => ?_, (hs _).2 (.inl h.here), fun x hx hp hno => ?_, fun c hc => ?_⟩
  · rcases (hs x).1 hx with e | rfl
    · exact h.reach x e
    · exact (h.reach p h.here).step (by rw [← hn]; exact List.getElem_mem hj)
  · rcases List.mem_append.1 hx with e | e
    · exact (hs x).2 (.inl (h.stack x e))
    · exact (hs x).2 (.inr (by simpa using e))
  · rcases (hs x).1 hx with e | rfl
    · exact fun c hc => (hs c).2 (.inl (h.shut x e hp (fun q => hno (List.mem_append_left _ q)) c hc))
    · exact absurd (by simp) hno
  · rw [List.take_add_one, List.getElem?_eq_getElem hj] at hc
    rcases List.mem_append.1 hc with hc | hc
    · exact (hs c).2 (.inl (h.row c hc))
    · obtain rfl : c = (rowG g p)[j] := by simpa using hc
      exact (hs _).2 (.inr hn)
theorem LedAt.next {g : List (List Int)} {k p : Int} {j : Nat} {bs : List Bool} {left : List Int} (h : LedAt g k p j bs left) (hj : (rowG g p).length ≤ j) : Led g k bs left := by
  refine ⟨h.len, h.first, h.reach, h.stack, fun x hx hn c hc => ?_⟩
  by_cases e : x = p
  · subst e
    exact h.row c (by rw [List.take_of_length_le hj]; exact hc)
  · exact h.shut x hx e hn c hc
theorem Led.done {g : List (List Int)} {k : Int} {bs : List Bool} (h : Led g k bs []) (x : Int) : onB bs x ↔ Reach g k x := by
  refine ⟨h.reach x, fun r => ?_⟩
  induction r with
  | self => exact h.first
  | step _ hc ih => exact h.shut _ ih (by simp) _ hc
open Classical in
noncomputable def ledL (g : List (List Int)) (k : Int) : List Bool := (List.range 40).map fun (i : Nat) => decide (Reach g k (i : Int))
open Classical in
theorem Led.all {g : List (List Int)} {k : Int} {bs : List Bool} (h : Led g k bs []) : bs = ledL g k := by
  apply List.ext_getElem?
  intro i
  unfold ledL
  by_cases hi : i < 40
  · have hb : i < bs.length := by rw [h.len]; exact hi
    rw [List.getElem?_eq_getElem hb]
    have e : ((List.range 40).map fun (i : Nat) => decide (Reach g k (i : Int)))[i]? = some (decide (Reach g k (i : Int))) := by simp [hi]
    rw [e]
    cases hc : bs[i] with
    | true => rw [decide_eq_true ((h.done _).1 ⟨i, rfl, by rw [List.getElem?_eq_getElem hb, hc]⟩)]
    | false =>
      rw [decide_eq_false (fun r => ?_)]
      obtain ⟨n, hn, hx⟩ := (h.done _).2 r
      obtain rfl : i = n := by omega
      rw [List.getElem?_eq_getElem hb, hc] at hx
      cases hx
  · rw [List.getElem?_eq_none (by rw [h.len]; omega), List.getElem?_eq_none (by simp; omega)]
end Go.Proofs.YtcpmfcigciknlaaGreat

namespace Go.Proofs.YtcpmfcigciknlaaGreat
open Go.RowKit
set_option linter.unusedVariables false
def marksB (bs : List Bool) : Array Value := (bs.map Value.bool).toArray
theorem marksB_size (bs : List Bool) : (marksB bs).size = bs.length := by simp [marksB]
theorem marksB_get (bs : List Bool) (j : Nat) : (marksB bs)[j]? = bs[j]?.map Value.bool := by simp [marksB]
theorem marksB_set (bs : List Bool) (j : Nat) (b : Bool) : (marksB bs).setIfInBounds j (.bool b) = marksB (bs.set j b) := by
  simp [marksB, List.map_set]
theorem Tryz.infoFourty : (Tryz.prog.info? 255).map (·.size) = some 40 := by kernel_rfl
theorem Fresh.less {B : Nat} {w : World} {ao : Option Addr} {cap : Nat} {l : List Int} (h : Fresh B w (.slice ao l.length cap) l) (k : Nat) (hk : k ≤ l.length) : Fresh B w (.slice ao k cap) (l.take k) := by
  have e : (l.take k).length = k := by simp; omega
  unfold Fresh
  rw [e]
  refine ⟨by simp; omega, ?_⟩
  rcases h.2 with ⟨hv, hn⟩ | ⟨g, cap', cur, hv, hb, hg, hnc, hcm, hcs, ht⟩
  · left
    simp only [Value.slice.injEq] at hv
    obtain ⟨rfl, _, rfl⟩ := hv
    have : k = 0 := by omega
    subst this
    exact ⟨rfl, rfl⟩
  · right
    simp only [Value.slice.injEq] at hv
    obtain ⟨rfl, _, rfl⟩ := hv
    refine ⟨g, cap, cur, rfl, hb, hg, by omega, hcm, hcs, ?_⟩
    rw [List.map_take, ← ht, List.take_take]
    congr 1
    omega
theorem grownBy_cell (w : World) (b i : Nat) (v : Value) : w.grownBy (w.setCell ⟨b, i, none⟩ v) (some b) :=
  ⟨rfl, rfl, rfl, by simp, fun k _ hk => heap_setCell_other _ _ _ _ (by intro e; subst e; exact hk rfl)⟩
structure AtB (w wr : World) (bs : List Bool) (vl : Value) (left : List Int) : Prop where
  out : wr.heap[w.heap.size]? = some (.cells (marksB noneB) 255 (0, 0))
  led : wr.heap[w.heap.size + 1]? = some (.cells (marksB bs) 255 (0, 0))
  left : Fresh (w.heap.size + 2) wr vl left
  size : w.heap.size + 2 ≤ wr.heap.size
  ext : Ext w wr
theorem AtB.less {w wr : World} {bs : List Bool} {ao : Option Addr} {cap t : Nat} {left : List Int} {p : Int} (ht : left.length = t) (h : AtB w wr bs (.slice ao (t + 1) cap) (left ++ [p])) : AtB w wr bs (.slice ao t cap) left := by
  subst ht
  have hl : (left ++ [p]).length = left.length + 1 := by simp
  have := Fresh.less (k := left.length) (l := left ++ [p]) (by rw [hl]; exact h.left) (by omega)
  rw [List.take_left] at this
  exact ⟨h.out, h.led, this, h.size, h.ext⟩
theorem AtB.mark {w wr : World} {bs : List Bool} {vl : Value} {left : List Int} (h : AtB w wr bs vl left) (m : Nat) : AtB w (wr.setCell ⟨w.heap.size + 1, m, none⟩ (.bool true)) (bs.set m true) vl left := by
  refine ⟨?_, ?_, ?_, ?_, Below.setCell h.ext (Nat.le_succ _) _⟩
  · rw [heap_setCell_other _ _ _ _ (by show w.heap.size ≠ w.heap.size + 1; omega)]; exact h.out
  · have := heap_setCell_same wr (w.heap.size + 1) m _ _ (.bool true) h.led
    rw [marksB_set] at this
    exact this
  · refine World.ownsRow.kept h.left (grownBy_cell wr (w.heap.size + 1) m (.bool true)) ?_
    cases hv : vl.ownBlock with
    | none => exact .inl rfl
    | some q =>
      refine .inr fun e => ?_
      cases e
      have := (World.ownsRow.lt h.left _ hv).1
      omega
  · have := h.size
    simpa using this
theorem AtB.cell {w wr : World} {bs : List Bool} {vl : Value} {left : List Int} (h : AtB w wr bs vl left) {m : Nat} {b : Bool} (hb : bs[m]? = some b) : wr.cell? ⟨w.heap.size + 1, m, none⟩ = some (.bool b) := by
  rw [cell_of_row wr _ _ _ _ _ h.led, marksB_get, hb]
  rfl
theorem AtB.free {w wr : World} {bs : List Bool} {vl : Value} {left : List Int} (h : AtB w wr bs vl left) (m : Nat) : wr.frozen? ⟨w.heap.size + 1, m, none⟩ = false := frozen_of_row wr _ m _ _ h.led
theorem AtB.push {w wr w1 : World} {bs : List Bool} {vl v1 : Value} {left l1 : List Int} (h : AtB w wr bs vl left) {o : Obj} (f : Fresh (w.heap.size + 2) w1 v1 l1) (g : (wr.alloc o).grownBy w1 vl.ownBlock) (k : Kept (w.heap.size + 2) (wr.alloc o) w1) : AtB w w1 bs v1 l1 := by
  have hsz := h.size
  have hal : (wr.alloc o).heap.size = wr.heap.size + 1 := by simp
  have hne : ∀ q : Nat, q < w.heap.size + 2 → some q ≠ vl.ownBlock := fun q hq e => by
    have := (World.ownsRow.lt h.left q e.symm).1
    omega
  refine ⟨?_, ?_, f, by have := g.size; omega, ?_⟩
  · rw [g.block _ (by omega) (hne _ (by omega)), heap_alloc_old _ _ (by omega)]; exact h.out
  · rw [g.block _ (by omega) (hne _ (by omega)), heap_alloc_old _ _ (by omega)]; exact h.led
  · exact k w (h.ext.alloc _) (by omega)
end Go.Proofs.YtcpmfcigciknlaaGreat

namespace Go.Proofs.YtcpmfcigciknlaaGreat
open Go.RowKit
set_option linter.unusedVariables false
structure MemT (B X : Nat) (w : World) (gv grv ov : Value) (vs : List Value) (S : TS) : Prop where
  ts : TsAt w X gv grv ov S
  opn : Fresh B w ov (natsI S.opn)
  grp : FreshV B w grv vs
  rows : Rows_ B w vs S.grp
  far : ∀ (j : Nat) (u : Value), vs[j]? = some u → u.ownBlock = none ∨ u.ownBlock ≠ ov.ownBlock
theorem MemT.meet {B X c g cap n : Nat} {w w' : World} {gv grv ov : Value} {vs : List Value} {S : TS} (h : MemT B X w gv grv ov vs S) (hXB : X < B)
    (t : TsAt w' X gv grv (.slice (some ⟨g, 0, none⟩) n cap) (meetS S c)) (f : Fresh B w' (.slice (some ⟨g, 0, none⟩) n cap) (natsI (S.opn ++ [c]))) (k : But X ov w w') (hg : ov.ownBlock = some g ∨ w.heap.size ≤ g) :
    MemT B X w' gv grv (.slice (some ⟨g, 0, none⟩) n cap) vs (meetS S c) := by
  have hrow : ∀ (j : Nat) (u : Value), vs[j]? = some u → ∃ l, S.grp[j]? = some l ∧ Fresh B w u l := fun j u hu => by
    have hj : j < vs.length := (List.getElem?_eq_some_iff.1 hu).1
    have hl : S.grp[j]? = some (S.grp[j]'(by rw [← h.rows.len]; exact hj)) := List.getElem?_eq_getElem _
    exact ⟨_, hl, h.rows.row j u _ hu hl⟩
  refine ⟨t, f, k.row h.grp (fun e => by have := (World.ownsRow.lt h.grp X e).1; omega) (types_apart h.opn h.grp (by decide)), ⟨h.rows.len, fun j u l hu hl => ?_, h.rows.apart⟩, fun j u hu => ?_⟩
  · have hf := h.rows.row j u l hu hl
    exact k.row hf (fun e => by have := (World.ownsRow.lt hf X e).1; omega) (h.far j u hu)
  · obtain ⟨l, _, hf⟩ := hrow j u hu
    rcases hg with hg | hg
    · have := h.far j u hu
      rwa [hg] at this
    · cases hu' : u.ownBlock with
      | none => exact .inl rfl
      | some q =>
        refine .inr fun e => ?_
        have h1 := (World.ownsRow.lt hf q hu').2
        have h2 : q = g := Option.some.inj e
        omega
def tellS (S : TS) (A B : List Nat) (p : Nat) : TS := { S with op := fun q => S.op q && !decide (q ∈ p :: B), opn := A, grp := S.grp ++ [sortI (natsI (p :: B))] }
def shutK (f : Nat → Bool) (l : List Nat) (k : Nat) : Nat → Bool := fun q => f q && !decide (q ∈ l.take k)
theorem shutK_zero (f : Nat → Bool) (l : List Nat) : shutK f l 0 = f := by funext q; simp [shutK]
theorem mem_take_next {l : List Nat} {k : Nat} (h : k < l.length) (q : Nat) : q ∈ l.take (k + 1) ↔ q ∈ l.take k ∨ q = l[k] := by
  rw [List.take_add_one, List.getElem?_eq_getElem h, List.mem_append]
  simp
theorem shutK_succ (f : Nat → Bool) (l : List Nat) {k : Nat} (h : k < l.length) : upd (shutK f l k) l[k] false = shutK f l (k + 1) := by
  funext q
  unfold upd shutK
  by_cases e : q = l[k]
  · rw [if_pos e, decide_eq_true ((mem_take_next h q).2 (.inr e))]
    simp
  · rw [if_neg e]
    have : decide (q ∈ l.take (k + 1)) = decide (q ∈ l.take k) := by
      rw [decide_eq_decide, mem_take_next h]
      exact ⟨fun h => h.resolve_right e, Or.inl⟩
    rw [this]
theorem shutK_all (f : Nat → Bool) (l : List Nat) : shutK f l l.length = fun q => f q && !decide (q ∈ l) := by funext q; simp [shutK]
theorem natsI_len (l : List Nat) : (natsI l).length = l.length := by simp [natsI]
theorem ints_from {w : World} {b cap n : Nat} {l : List Int} (k : Nat) (hk : k ≤ l.length) (hn : l.length = n) (h : Ints w (.slice (some ⟨b, 0, none⟩) n cap) l) : Ints w (.slice (some ⟨b, k, none⟩) (n - k) (cap - k)) (l.drop k) := by
  obtain ⟨ao, c, hv, hm, hc, hcc⟩ := h
  simp only [Value.slice.injEq] at hv
  obtain ⟨rfl, _, rfl⟩ := hv
  subst hn
  unfold maxLen at hm hc
  refine ⟨some ⟨b, k, none⟩, cap - k, by rw [List.length_drop], by unfold maxLen; rw [List.length_drop]; omega, ⟨by rw [List.length_drop]; omega, by unfold maxLen; omega, fun h => by cases h⟩, fun hp => ⟨b, k, rfl, fun j hj => ?_⟩⟩
  rw [List.length_drop] at hj
  obtain ⟨b', o', e, h'⟩ := hcc (by omega)
  cases e
  have := h' (k + j) (by omega)
  rw [Nat.zero_add] at this
  rw [this, List.getElem?_drop]
theorem row_setOut {B X e sz n : Nat} {w : World} {v : Value} {xs : List Value} (h : w.ownsRow B e sz v n xs) (hX : X < B) (i : Nat) (u : Value) : (w.setCell ⟨X, i, none⟩ u).ownsRow B e sz v n xs := by
  refine World.ownsRow.kept h (⟨rfl, rfl, rfl, by simp, fun k _ hk => heap_setCell_other _ _ _ _ (by intro e; subst e; exact hk rfl)⟩ : w.grownBy (w.setCell ⟨X, i, none⟩ u) (some X)) ?_
  cases hv : v.ownBlock with
  | none => exact .inl rfl
  | some q =>
    refine .inr fun e => ?_
    have h1 := (World.ownsRow.lt h q hv).1
    have h2 := Option.some.inj e
    omega
theorem Rows_.add {B : Nat} {w w' : World} {vs : List Value} {L : List (List Int)} {u : Value} {l : List Int} {g : Nat} (h : Rows_ B w vs L) (hk : ∀ (v : Value) (r : List Int), Fresh B w v r → Fresh B w' v r) (hu : Fresh B w' u l) (hg : u.ownBlock = some g) (hgw : w.heap.size ≤ g) : Rows_ B w' (vs ++ [u]) (L ++ [l]) := by
  have hlow : ∀ (j : Nat) (z : Value), vs[j]? = some z → z.ownBlock = none ∨ z.ownBlock ≠ some g := fun j z hz => by
    have hj : j < vs.length := (List.getElem?_eq_some_iff.1 hz).1
    have hf := h.row j z _ hz (List.getElem?_eq_getElem (by rw [← h.len]; exact hj))
    cases hz' : z.ownBlock with
    | none => exact .inl rfl
    | some b =>
      refine .inr fun e => ?_
      have h1 := (World.ownsRow.lt hf b hz').2
      have h2 := Option.some.inj e
      omega
  refine ⟨by simp [h.len], fun j z r hz hr => ?_, fun i j z y hij hz hy => ?_⟩
  · by_cases hj : j < vs.length
    · rw [List.getElem?_append_left hj] at hz
      rw [List.getElem?_append_left (by rw [← h.len]; exact hj)] at hr
      exact hk _ _ (h.row j z r hz hr)
    · rw [List.getElem?_append_right (by omega)] at hz
      rw [List.getElem?_append_right (by rw [← h.len]; omega)] at hr
      have hj' : j - vs.length = 0 := by
        have := (List.getElem?_eq_some_iff.1 hz).1
        simp at this; omega
      rw [hj'] at hz
      rw [← h.len, hj'] at hr
      simp at hz hr
      subst hz hr
      exact hu
  · by_cases hi : i < vs.length
    · rw [List.getElem?_append_left hi] at hz
      by_cases hj : j < vs.length
      · rw [List.getElem?_append_left hj] at hy
        exact h.apart i j z y hij hz hy
      · rw [List.getElem?_append_right (by omega)] at hy
        have hj' : j - vs.length = 0 := by
          have := (List.getElem?_eq_some_iff.1 hy).1
          simp at this; omega
        rw [hj'] at hy
        simp at hy
        subst hy
        have := hlow i z hz
        rwa [hg]
    · rw [List.getElem?_append_right (by omega)] at hz
      have hi' : i - vs.length = 0 := by
        have := (List.getElem?_eq_some_iff.1 hz).1
        simp at this; omega
      rw [hi'] at hz
      simp at hz
      subst hz
      have hj : j < vs.length := by
        rcases Nat.lt_or_ge j vs.length with hj | hj
        · exact hj
        · rw [List.getElem?_append_right hj] at hy
          have := (List.getElem?_eq_some_iff.1 hy).1
          simp at this; omega
      rw [List.getElem?_append_left hj] at hy
      right
      intro e
      rcases hlow j y hy with h1 | h1
      · rw [h1, hg] at e; cases e
      · exact h1 (by rw [← e, hg])
theorem But.of_ext {X : Nat} {v : Value} {w w' : World} (e : Ext w w') : But X v w w' := ⟨e.os, e.tape, e.output, e.size, fun b hb _ _ => Below.block e b hb⟩
theorem But.trans {X : Nat} {v : Value} {a b c : World} (h : But X v a b) (k : But X v b c) : But X v a c :=
  ⟨k.os.trans h.os, k.tape.trans h.tape, k.output.trans h.output, Nat.le_trans h.size k.size, fun x hx hX hv => (k.block x (Nat.lt_of_lt_of_le hx h.size) hX hv).trans (h.block x hx hX hv)⟩
set_option maxRecDepth 100000 in
set_option maxHeartbeats 4000000 in
theorem tsTell_any (hsort : SortOk) (X p B : Nat) (gv grv ov : Value) (vs : List Value) (S : TS) (A C : List Nat) (w : World) (hM : MemT B X w gv grv ov vs S) (hXB : X < B) (hB : B ≤ w.heap.size) (he : S.opn = A ++ p :: C) (hp : p ∉ A) (hl : S.opn.length ≤ 40) (h40 : ∀ q ∈ S.opn, q < 40) (hg : S.grp.length ≤ 40) :
    Calls Tryz.prog 231 #[.pointer (some ⟨X, 0, none⟩), .int .i64 p] w (fun e w' => (∃ r, e = .returned r) ∧ ∃ grv' ov' vs', MemT B X w' gv grv' ov' vs' (tellS S A C p) ∧ But X grv w w' ∧ (ov'.ownBlock = none ∨ ov'.ownBlock = ov.ownBlock) ∧ ∀ (j : Nat) (u : Value), vs'[j]? = some u → vs[j]? = some u ∨ ∀ b, u.ownBlock = some b → w.heap.size ≤ b) := by
  have hlen : S.opn.length = A.length + 1 + C.length := by rw [he]; simp; omega
  obtain ⟨g0, c0, hov, _, _⟩ := World.ownsRow.form hM.opn (by rw [natsI_len, hlen]; omega)
  rw [natsI_len] at hov
  subst hov
  have i0 : Ints w (.slice (some ⟨g0, 0, none⟩) S.opn.length c0) (natsI A ++ (p : Int) :: natsI C) := by
    have := hM.opn.ints
    rw [he] at this
    rw [he]
    simpa [natsI] using this
  obtain ⟨_, hcap⟩ : True ∧ S.opn.length ≤ c0 := by
    obtain ⟨_, _, hv, _, hc, _⟩ := hM.opn.ints
    simp only [Value.slice.injEq] at hv
    obtain ⟨_, h1, h2⟩ := hv
    refine ⟨trivial, ?_⟩
    have := hc.1
    rw [natsI_len] at this
    omega
  have hpA : (p : Int) ∉ natsI A := fun e => by
    obtain ⟨q, hq, e⟩ := List.mem_map.1 e
    have : q = p := by omega
    exact hp (by rw [← this]; exact hq)
  obtain ⟨n, hn⟩ : ∃ n, S.opn.length = n := ⟨_, rfl⟩
  rw [hn] at i0 hcap hl hlen
  have i1 := ints_from (natsI A).length (by simp) (by rw [List.length_append, List.length_cons, natsI_len, natsI_len]; omega) i0
  rw [List.drop_left, natsI_len] at i1
  have i1' : Ints w (.slice (some ⟨g0, A.length, none⟩) (n - A.length) (c0 - A.length)) (natsI (p :: C)) := i1
  have HM := Lib.hid hM
  have HI0 := Lib.hid i0
  have HI1 := Lib.hid i1'
  have HPA := Lib.hid hpA
  have z2 := hM.ts.opens
  have HE := Lib.hid he
  have HN := Lib.hid hn
  have HP := Lib.hid hp
  have H40 := Lib.hid h40
  rw [hn] at z2
  have ha1 : A.length < n := by omega
  have ha2 : A.length ≤ c0 := by omega
  have hcl : (natsI (p :: C)).length ≤ 1048576 := by rw [natsI_len]; simp; omega
  have HLEN := Lib.hid hlen
  clear i0 i1 i1' hpA hM he hn hp h40 hlen
  go_enter Tryz.func231, Tryz.ntmps231
  go_wp2_with fail
  refine (index_found _ (natsI A) (natsI C) (p : Int) _ HI0.out HPA.out).mono ?_
  rintro e W1 ⟨rfl, x1⟩
  rw [natsI_len]
  have M1 := Lib.hid x1
  have z2 := x1.cell z2
  go_wp2_with fail
  refine (cloneI_any _ _ _ _ (natsI (p :: C)) _ (HI1.out.ext x1) hcl).mono ?_
  rintro e W2 ⟨v2, rfl, f2, x2⟩
  have hm0 : 0 < (natsI (p :: C)).length := by rw [natsI_len]; simp
  obtain ⟨g2, c2, hv2, hg2, _⟩ := World.ownsRow.form f2 hm0
  rw [natsI_len] at hv2
  subst hv2
  obtain ⟨m, hm⟩ : ∃ m, (p :: C).length = m := ⟨_, rfl⟩
  rw [hm] at f2 ⊢
  have hm1 : 1 ≤ m ∧ m ≤ 40 := by have := HLEN.out; rw [← hm]; simp; omega
  have y2 : Ext w W2 := x1.trans x2
  have hgw : w.heap.size ≤ g2 := by have := x1.size; omega
  have hXw : X < w.heap.size := by omega
  have t2 : TsAt W2 X gv grv (.slice (some ⟨g0, 0, none⟩) n c0) S := by
    have := Ext.block y2 HM.out.ts
    rw [HN.out] at this; exact this
  have z3 := t2.free 2
  have z2 := t2.opens
  have T3 := Lib.hid (t2.setOpens (.slice (some ⟨g0, 0, none⟩) A.length c0) A)
  have k3 : But X (.slice none 0 0) w (W2.setCell ⟨X, 2, none⟩ (.slice (some ⟨g0, 0, none⟩) A.length c0)) := (But.of_ext y2).setX 2 _
  have f3 : Fresh W1.heap.size (W2.setCell ⟨X, 2, none⟩ (.slice (some ⟨g0, 0, none⟩) A.length c0)) (.slice (some ⟨g2, 0, none⟩) m c2) (natsI (p :: C)) := f2.setOut (by have := x1.size; omega) 2 _
  have K3 := Lib.hid k3
  have F3 := Lib.hid f3
  have HM1 := Lib.hid hm
  have HGW := Lib.hid hgw
  have hq : ∀ k (h : k < (p :: C).length), (p :: C)[k] < 40 := fun k h => H40.out _ (by rw [HE.out]; exact List.mem_append_right _ (List.getElem_mem h))
  have HQ := Lib.hid hq
  have hXW1 : X < W1.heap.size := by have := x1.size; omega
  have hBW1 : B ≤ W1.heap.size := by have := x1.size; omega
  clear k3 f3 f2 x1 x2 M1 hg2 hm hm0 hgw y2 hq
  go_wp2
  obtain ⟨W3, hW3⟩ : ∃ W3, W3 = W2.setCell ⟨X, 2, none⟩ (.slice (some ⟨g0, 0, none⟩) A.length c0) := ⟨_, rfl⟩
  have K3' : Hid (But X (.slice none 0 0) w W3) := Lib.hid (by rw [hW3]; exact K3.out)
  have F3' : Hid (Fresh W1.heap.size W3 (.slice (some ⟨g2, 0, none⟩) m c2) (natsI (p :: C))) := Lib.hid (by rw [hW3]; exact F3.out)
  have T3' : Hid (TsAt W3 X gv grv (.slice (some ⟨g0, 0, none⟩) A.length c0) { S with opn := A, op := shutK S.op (p :: C) 0 }) := Lib.hid (by rw [hW3, shutK_zero]; exact T3.out)
  rw [← hW3]
  clear hW3 K3 F3 T3 t2 z2 z3
  go_loopw [7, 32] (fun _ i wr => ∃ k : Nat, k ≤ m ∧ i = .int .i64 k ∧ Hid (TsAt wr X gv grv (.slice (some ⟨g0, 0, none⟩) A.length c0) { S with opn := A, op := shutK S.op (p :: C) k }) ∧ Hid (But X (.slice none 0 0) w wr) ∧ Hid (Fresh W1.heap.size wr (.slice (some ⟨g2, 0, none⟩) m c2) (natsI (p :: C)))) (fun _ i _ => m - (intOf i).toNat)
  case atStart => exact ⟨0, Nat.zero_le _, rfl, T3', K3', F3'⟩
  case round =>
    clear T3' K3' F3'
    obtain ⟨k, hk, rfl, hT, hK, hF⟩ := hrel
    by_cases hlt : k < m
    · have hkl : k < (p :: C).length := by rw [HM1.out]; exact hlt
      obtain ⟨q, hqq⟩ : ∃ q, q = (p :: C)[k] := ⟨_, rfl⟩
      have gc := World.ownsRow.cellAt (by have := hF.out; unfold Fresh at this; rw [natsI_len, HM1.out] at this; exact this) k (by omega)
      have hgk : (List.map (Value.int IntKind.i64) (natsI (p :: C)))[k]? = some (.int .i64 (q : Int)) := by
        rw [hqq]
        unfold natsI
        rw [List.map_map, List.getElem?_map, List.getElem?_eq_getElem hkl]
        rfl
      rw [hgk] at gc
      have hq40 : q < 40 := by rw [hqq]; exact HQ.out k hkl
      have i1 : (0 : Int) ≤ (q : Int) := by omega
      have i2 : (q : Int) < 40 := by omega
      have z3 := hT.out.isOpen hq40
      have z4 := hT.out.free (3 + q)
      have T4 := hT.out.setOpen hq40 false
      have e4 : upd (shutK S.op (p :: C) k) q false = shutK S.op (p :: C) (k + 1) := by rw [hqq]; exact shutK_succ S.op (p :: C) hkl
      dsimp only at T4
      rw [e4] at T4
      have HT4 := Lib.hid T4
      clear hgk T4 e4 hqq
      go_wp2
      go_roundw
      case rel => exact ⟨k + 1, by omega, by go_num, HT4, Lib.hid (hK.out.setX _ _), Lib.hid (hF.out.setOut hXW1 _ _)⟩
      case measure => simp [intOf]; omega
    · obtain rfl : k = m := by omega
      have hlm : (natsI (p :: C)).length = k := by rw [natsI_len, HM1.out]
      have hF5 := hF.out
      have T4 := hT.out
      rw [← HM1.out, shutK_all] at T4
      have T4' := Lib.hid T4
      clear T4 hT
      go_wp2_with fail
      refine (hsort W1.heap.size _ _ _ hF5 (by omega) (by omega)).mono ?_
      rintro e W5 ⟨⟨r, rfl⟩, f5, g5⟩
      have hgb : (Value.slice (some ⟨g2, 0, none⟩) k c2).ownBlock = some g2 := rfl
      have t5 : TsAt W5 X gv grv (.slice (some ⟨g0, 0, none⟩) A.length c0) { S with opn := A, op := fun q => S.op q && !decide (q ∈ p :: C) } := by
        unfold TsAt
        have hXr : X < wr.heap.size := (Array.getElem?_eq_some_iff.1 T4'.out).1
        rw [g5.block X hXr (fun e => by rw [hgb] at e; have := Option.some.inj e; have := HGW.out; omega)]
        exact T4'.out
      have k5 : But X grv w W5 := by
        refine ⟨g5.os.trans hK.out.os, g5.tape.trans hK.out.tape, g5.output.trans hK.out.output, Nat.le_trans hK.out.size g5.size, fun b hb hbX hbv => ?_⟩
        rw [g5.block b (Nat.lt_of_lt_of_le hb hK.out.size) (fun e => by rw [hgb] at e; have := Option.some.inj e; have := HGW.out; omega)]
        exact hK.out.block b hb hbX (by simp [Value.ownBlock])
      have k50 : ∀ (Bx e sz nn : Nat) (u : Value) (xs : List Value), w.ownsRow Bx e sz u nn xs → X < Bx → W5.ownsRow Bx e sz u nn xs := fun Bx e sz nn u xs f hBx => by
        have h1 := hK.out.row f (fun e => by have := (World.ownsRow.lt f X e).1; omega) (by
          cases u.ownBlock with
          | none => exact .inl rfl
          | some b => exact .inr (by simp [Value.ownBlock]))
        refine World.ownsRow.kept h1 g5 ?_
        cases hu : u.ownBlock with
        | none => exact .inl rfl
        | some b =>
          refine .inr fun e => ?_
          rw [hgb] at e
          have h2 := (World.ownsRow.lt f b hu).2
          have h3 := Option.some.inj e
          have := HGW.out
          omega
      have fg5 : FreshV B W5 grv vs := k50 _ _ _ _ _ _ HM.out.grp hXB
      have z1 := t5.groups
      have hvl : vs.length ≤ 1048576 := by have := HM.out.rows.len; omega
      have hB5 : B ≤ W5.heap.size := by have := k5.size; omega
      have hfa : FreshV B (W5.alloc (.cells #[.slice (some ⟨g2, 0, none⟩) k c2] 26)) grv vs := fg5.ext (Ext.alloc (Ext.refl _) _)
      have hca := cell_alloc_one W5 (.slice (some ⟨g2, 0, none⟩) k c2) 26
      have hsa : (W5.alloc (.cells #[.slice (some ⟨g2, 0, none⟩) k c2] 26)).heap.size = W5.heap.size + 1 := by simp
      have HT5 := Lib.hid t5
      have HK5 := Lib.hid k5
      have HK50 := Lib.hid k50
      have HF5 := Lib.hid f5
      have HG5 := Lib.hid fg5
      have HFA := Lib.hid hfa
      have HCA := Lib.hid hca
      have HSA := Lib.hid hsa
      clear t5 k5 k50 f5 g5 fg5 hfa hca hsa hF hF5 hK T4' hlm
      go_wp2_with (at_builtin; refine wpList_pushV rfl _ _ rfl B grv vs rfl HFA.out (.slice (some ⟨g2, 0, none⟩) k c2) ⟨W5.heap.size, 0, none⟩ 1 rfl HCA.out rfl hvl (by rw [HSA.out]; omega) ?_)
      intro v6 W6 f6 g6 _
      obtain ⟨g6b, c6, hv6, _, _⟩ := World.ownsRow.form f6 (by simp)
      have hXs : X < (W5.alloc (.cells #[.slice (some ⟨g2, 0, none⟩) k c2] 26)).heap.size := by rw [HSA.out]; omega
      have t6 : TsAt W6 X gv grv (.slice (some ⟨g0, 0, none⟩) A.length c0) { S with opn := A, op := fun q => S.op q && !decide (q ∈ p :: C) } := by
        unfold TsAt
        rw [g6.block X hXs (fun e => by have := (World.ownsRow.lt HFA.out X e.symm).1; omega), heap_alloc_old _ _ (by omega)]
        exact HT5.out
      have k6 : But X grv w W6 := (HK5.out.alloc _).grown g6
      -- what lay in w from B on, but for the groups' own list, lies there still
      have kx : ∀ (v : Value) (r : List Int), Fresh B w v r → Fresh B W6 v r := fun v r f => by
        have h1 : Fresh B (W5.alloc (.cells #[.slice (some ⟨g2, 0, none⟩) k c2] 26)) v r := Fresh.ext (HK50.out _ _ _ _ _ _ f hXB) (Ext.alloc (Ext.refl _) _)
        exact World.ownsRow.kept h1 g6 (types_apart HFA.out h1 (by decide))
      have f26 : Fresh B W6 (.slice (some ⟨g2, 0, none⟩) k c2) (sortI (natsI (p :: C))) := by
        have h1 : Fresh B (W5.alloc (.cells #[.slice (some ⟨g2, 0, none⟩) k c2] 26)) (.slice (some ⟨g2, 0, none⟩) k c2) (sortI (natsI (p :: C))) := (HF5.out.more (by omega)).ext (Ext.alloc (Ext.refl _) _)
        exact World.ownsRow.kept h1 g6 (types_apart HFA.out h1 (by decide))
      have fo : Fresh B w (.slice (some ⟨g0, 0, none⟩) A.length c0) (natsI A) := by
        have h1 := HM.out.opn
        rw [show S.opn.length = (natsI S.opn).length from (natsI_len _).symm] at h1
        have h2 := h1.less A.length (by rw [natsI_len, HN.out]; omega)
        have e : (natsI S.opn).take A.length = natsI A := by
          rw [HE.out]
          unfold natsI
          rw [List.map_append, show A.length = (A.map fun (n : Nat) => (n : Int)).length by simp, List.take_left]
        rwa [e] at h2
      rw [List.length_append, List.length_singleton] at hv6
      subst hv6
      have z6 := t6.groups
      have y6 := t6.free 1
      have T7 := Lib.hid (t6.setGroups (.slice (some ⟨g6b, 0, none⟩) (vs.length + 1) c6) (S.grp ++ [sortI (natsI (p :: C))]))
      have K7 := Lib.hid (k6.setX 1 (.slice (some ⟨g6b, 0, none⟩) (vs.length + 1) c6))
      have F7 : Hid (FreshV B (W6.setCell ⟨X, 1, none⟩ (.slice (some ⟨g6b, 0, none⟩) (vs.length + 1) c6)) (.slice (some ⟨g6b, 0, none⟩) (vs.length + 1) c6) (vs ++ [Value.slice (some ⟨g2, 0, none⟩) k c2])) := Lib.hid (row_setOut f6 hXB 1 _)
      have O7 := Lib.hid ((kx _ _ fo).setOut hXB 1 (.slice (some ⟨g6b, 0, none⟩) (vs.length + 1) c6))
      have R7 := Lib.hid (HM.out.rows.add (w' := W6.setCell ⟨X, 1, none⟩ (.slice (some ⟨g6b, 0, none⟩) (vs.length + 1) c6)) (fun v r f => (kx v r f).setOut hXB 1 _) (f26.setOut hXB 1 _) rfl HGW.out)
      clear t6 k6 kx f26 fo f6 g6 hXs
      go_wp2
      go_end0
      refine ⟨⟨_, rfl⟩, _, _, _, ⟨T7.out, O7.out, F7.out, R7.out, fun j u hu => ?_⟩, K7.out, .inr rfl, fun j u hu => ?_⟩
      · by_cases hj : j < vs.length
        · rw [List.getElem?_append_left hj] at hu
          exact HM.out.far j u hu
        · rw [List.getElem?_append_right (by omega)] at hu
          have hj' : j - vs.length = 0 := by
            have := (List.getElem?_eq_some_iff.1 hu).1
            simp at this; omega
          rw [hj'] at hu
          simp at hu
          subst hu
          refine .inr fun e => ?_
          have h1 : g2 = g0 := Option.some.inj e
          have := HGW.out
          omega
      · by_cases hj : j < vs.length
        · rw [List.getElem?_append_left hj] at hu
          exact .inl hu
        · rw [List.getElem?_append_right (by omega)] at hu
          have hj' : j - vs.length = 0 := by
            have := (List.getElem?_eq_some_iff.1 hu).1
            simp at this; omega
          rw [hj'] at hu
          simp at hu
          subst hu
          refine .inr fun b e => ?_
          have h1 : g2 = b := Option.some.inj e
          have := HGW.out
          omega
end Go.Proofs.YtcpmfcigciknlaaGreat

namespace Go.Proofs.YtcpmfcigciknlaaGreat
open Go.RowKit
set_option linter.unusedVariables false

/-! ### How far the search has come -/
def unmet (N : Nat → Nat) : Nat → Nat
  | 0 => 0
  | n + 1 => unmet N n + (if N n = 0 then 1 else 0)
theorem unmet_upd (N : Nat → Nat) (c v : Nat) (hv : v ≠ 0) (hc : N c = 0) : ∀ n, unmet (upd N c v) n + (if c < n then 1 else 0) = unmet N n
  | 0 => by simp [unmet]
  | n + 1 => by
    have ih := unmet_upd N c v hv hc n
    unfold unmet
    by_cases e : n = c
    · subst e
      have e1 : (if n < n + 1 then 1 else 0 : Nat) = 1 := if_pos (by omega)
      have e2 : (if n < n then 1 else 0 : Nat) = 0 := if_neg (by omega)
      rw [upd_same, if_neg hv, if_pos hc, e1]
      rw [e2] at ih
      omega
    · rw [upd_other N v e]
      by_cases hlt : c < n
      · have e1 : (if c < n + 1 then 1 else 0 : Nat) = 1 := if_pos (by omega)
        rw [e1]
        rw [if_pos hlt] at ih
        omega
      · have e1 : (if c < n + 1 then 1 else 0 : Nat) = 0 := if_neg (by omega)
        rw [e1]
        rw [if_neg hlt] at ih
        omega
theorem unmet_start (n : Nat) : unmet (fun _ => 0) n = n := by
  induction n with
  | zero => rfl
  | succ n ih => unfold unmet; rw [ih]; simp
structure Cnt (g : List (List Int)) (S : TS) : Prop where
  some : S.grp.length + S.opn.length ≤ S.met
  all : S.met + unmet S.N g.length = g.length
theorem Cnt.meet {g : List (List Int)} {S : TS} {c : Nat} (h : Cnt g S) (hc : c < g.length) (hn : S.N c = 0) : Cnt g (meetS S c) := by
  refine ⟨?_, ?_⟩
  · show S.grp.length + (S.opn ++ [c]).length ≤ S.met + 1
    rw [List.length_append, List.length_singleton]
    have := h.some; omega
  · show S.met + 1 + unmet (upd S.N c (S.met + 1)) g.length = g.length
    have := unmet_upd S.N c (S.met + 1) (by omega) hn g.length
    rw [if_pos hc] at this
    have := h.all; omega
theorem Cnt.left {g : List (List Int)} {S : TS} {c : Nat} (h : Cnt g S) (hc : c < g.length) (hn : S.N c = 0) : unmet (meetS S c).N g.length + 1 = unmet S.N g.length := by
  have := unmet_upd S.N c (S.met + 1) (by omega) hn g.length
  rwa [if_pos hc] at this
theorem Cnt.tell {g : List (List Int)} {S : TS} {A C : List Nat} {p : Nat} (h : Cnt g S) (e : S.opn = A ++ p :: C) : Cnt g (tellS S A C p) := by
  refine ⟨?_, h.all⟩
  show (S.grp ++ [sortI (natsI (p :: C))]).length + A.length ≤ S.met
  have := h.some
  rw [e] at this
  simp at this ⊢
  omega
theorem Inv.way_len {g : List (List Int)} {S : TS} {way : List Nat} (h : Inv g S way) : way.length ≤ S.met := by
  have hr : Rises (way.map fun q => (S.N q : Int)) := by
    unfold Rises
    rw [List.pairwise_map]
    exact h.wsort.imp (fun h => by omega)
  have := rises_len 1 ((S.met : Int) + 1) hr (fun x hx => by
    obtain ⟨q, hq, rfl⟩ := List.mem_map.1 hx
    have h1 := h.opmet q (h.wop q hq)
    have h2 := h.le q
    omega) (by omega)
  rw [List.length_map] at this
  omega

/-! ### What lies in memory -/
def GoS (B X : Nat) (wb : World) (gv : Value) (w : World) (S : TS) (way : List Nat) (wv : Value) : Prop :=
  ∃ grv ov vs, MemT B X w gv grv ov vs S ∧ Fresh B w wv (natsI way) ∧ (wv.ownBlock = none ∨ wv.ownBlock ≠ ov.ownBlock) ∧ (∀ (j : Nat) (u : Value), vs[j]? = some u → u.ownBlock = none ∨ u.ownBlock ≠ wv.ownBlock) ∧ Ext wb w ∧ B ≤ w.heap.size
theorem MemT.setX {B X : Nat} {w : World} {gv grv ov : Value} {vs : List Value} {S S' : TS} (h : MemT B X w gv grv ov vs S) (hXB : X < B) (i : Nat) (v : Value) (t : TsAt (w.setCell ⟨X, i, none⟩ v) X gv grv ov S') (e1 : S'.opn = S.opn) (e2 : S'.grp = S.grp) : MemT B X (w.setCell ⟨X, i, none⟩ v) gv grv ov vs S' :=
  ⟨t, by rw [e1]; exact h.opn.setOut hXB i v, row_setOut h.grp hXB i v, ⟨by rw [e2]; exact h.rows.len, fun j u l hu hl => (h.rows.row j u l hu (by rw [← e2]; exact hl)).setOut hXB i v, h.rows.apart⟩, h.far⟩
theorem MemT.drew {B X : Nat} {w : World} {gv grv ov : Value} {vs : List Value} {S : TS} (h : MemT B X w gv grv ov vs S) (n : Nat) : MemT B X (w.drewN n) gv grv ov vs S :=
  have e : Ext w (w.drewN n) := (Ext.refl w).drewN n
  ⟨Ext.block e h.ts, h.opn.ext e, h.grp.ext e, h.rows.ext e, h.far⟩
theorem MemT.ext {B X : Nat} {w w' : World} {gv grv ov : Value} {vs : List Value} {S : TS} (h : MemT B X w gv grv ov vs S) (e : Ext w w') : MemT B X w' gv grv ov vs S :=
  ⟨Ext.block e h.ts, h.opn.ext e, h.grp.ext e, h.rows.ext e, h.far⟩
theorem GoS.ext {B X : Nat} {wb w w' : World} {gv wv : Value} {S : TS} {way : List Nat} (h : GoS B X wb gv w S way wv) (e : Ext w w') : GoS B X wb gv w' S way wv := by
  obtain ⟨grv, ov, vs, hm, hw, h1, h2, h3, h4⟩ := h
  exact ⟨grv, ov, vs, hm.ext e, hw.ext e, h1, h2, h3.trans e, Nat.le_trans h4 e.size⟩
theorem GoS.set {B X : Nat} {wb w : World} {gv wv : Value} {S S' : TS} {way : List Nat} (h : GoS B X wb gv w S way wv) (hXB : X < B) (hwb : wb.heap.size ≤ X) (i : Nat) (v : Value) (t : ∀ grv ov, TsAt w X gv grv ov S → TsAt (w.setCell ⟨X, i, none⟩ v) X gv grv ov S') (e1 : S'.opn = S.opn) (e2 : S'.grp = S.grp) : GoS B X wb gv (w.setCell ⟨X, i, none⟩ v) S' way wv := by
  obtain ⟨grv, ov, vs, hm, hw, h1, h2, h3, h4⟩ := h
  exact ⟨grv, ov, vs, hm.setX hXB i v (t _ _ hm.ts) e1 e2, hw.setOut hXB i v, h1, h2, Below.setCell h3 hwb _, by simpa using h4⟩
theorem GoS.push {B X g cap : Nat} {wb w w' : World} {gv wv : Value} {S : TS} {way : List Nat} {c n : Nat} {o : Obj} (h : GoS B X wb gv w S way wv) (hXB : X < B) (hwb : wb.heap.size ≤ X)
    (f : Fresh B w' (.slice (some ⟨g, 0, none⟩) n cap) (natsI (way ++ [c]))) (t : (w.alloc o).grownBy w' wv.ownBlock) (hg : wv.ownBlock = some g ∨ g = (w.alloc o).heap.size) : GoS B X wb gv w' S (way ++ [c]) (.slice (some ⟨g, 0, none⟩) n cap) := by
  have ha := h.ext (Ext.alloc (Ext.refl w) o)
  obtain ⟨grv, ov, vs, hm, hw, h1, h2, h3, h4⟩ := ha
  have hnx : wv.ownBlock ≠ some X := fun e => by have := (World.ownsRow.lt hw X e).1; omega
  have hX : X < (w.alloc o).heap.size := by omega
  have away : ∀ (z : Value) (b : Nat), z.ownBlock = some b → b < (w.alloc o).heap.size → (z.ownBlock = none ∨ z.ownBlock ≠ wv.ownBlock) → z.ownBlock = none ∨ z.ownBlock ≠ some g := fun z b hz hb hne => by
    right
    intro e
    rcases hg with hg | hg
    · rcases hne with hne | hne
      · rw [hne] at hz; cases hz
      · exact hne (by rw [e, hg])
    · rw [hz] at e
      have := Option.some.inj e
      omega
  have own : ∀ (j : Nat) (u : Value), vs[j]? = some u → ∀ b, u.ownBlock = some b → b < (w.alloc o).heap.size := fun j u hu b hb => by
    have hj : j < vs.length := (List.getElem?_eq_some_iff.1 hu).1
    exact (World.ownsRow.lt (hm.rows.row j u _ hu (List.getElem?_eq_getElem (by rw [← hm.rows.len]; exact hj))) b hb).2
  refine ⟨grv, ov, vs, ⟨?_, ?_, ?_, ⟨hm.rows.len, fun j u l hu hl => ?_, hm.rows.apart⟩, hm.far⟩, f, ?_, fun j u hu => ?_, ?_, Nat.le_trans h4 t.size⟩
  · unfold TsAt
    rw [t.block X hX (fun e => hnx e.symm)]; exact hm.ts
  · refine World.ownsRow.kept hm.opn t ?_
    cases ho : ov.ownBlock with
    | none => exact .inl rfl
    | some b =>
      refine .inr fun e => ?_
      rcases h1 with h1 | h1
      · rw [h1] at e; cases e
      · exact h1 (by rw [ho, e])
  · exact World.ownsRow.kept hm.grp t (types_apart hw hm.grp (by decide))
  · exact World.ownsRow.kept (hm.rows.row j u l hu hl) t (h2 j u hu)
  · cases ho : ov.ownBlock with
    | none => exact .inr (by simp [Value.ownBlock])
    | some b =>
      right
      intro e
      have hb := (World.ownsRow.lt hm.opn b ho).2
      have hov : ov.ownBlock = none ∨ ov.ownBlock ≠ wv.ownBlock := by
        rcases h1 with h1 | h1
        · exact .inr (by rw [h1, ho]; simp)
        · exact .inr (fun e' => h1 e'.symm)
      rcases away ov b ho hb hov with h5 | h5
      · rw [h5] at ho; cases ho
      · exact h5 (by rw [ho]; exact e.symm)
  · cases hu' : u.ownBlock with
    | none => exact .inl rfl
    | some b =>
      have := away u b hu' (own j u hu b hu') (h2 j u hu)
      rwa [hu'] at this
  · exact Below.grown h3 t h3.size (fun k hk => by have := (World.ownsRow.lt hw k hk).1; omega)
theorem own_len (ao : Option Addr) (n m cap : Nat) : (Value.slice ao n cap).ownBlock = (Value.slice ao m cap).ownBlock := by
  rcases ao with _ | ⟨b, o, s⟩ <;> rfl
theorem GoS.pop {B X n cap : Nat} {wb w : World} {gv : Value} {S : TS} {way : List Nat} {p : Nat} {ao : Option Addr} (h : GoS B X wb gv w S (way ++ [p]) (.slice ao (n + 1) cap)) (hn : way.length = n) : GoS B X wb gv w S way (.slice ao n cap) := by
  obtain ⟨grv, ov, vs, hm, hw, h1, h2, h3, h4⟩ := h
  have e : (natsI (way ++ [p])).length = n + 1 := by rw [natsI_len, List.length_append, hn]; rfl
  have hl := Fresh.less (k := n) (l := natsI (way ++ [p])) (by rw [e]; exact hw) (by omega)
  have e2 : (natsI (way ++ [p])).take n = natsI way := by
    unfold natsI
    rw [List.map_append, show n = (way.map fun (n : Nat) => (n : Int)).length by simp [hn], List.take_left]
  rw [e2] at hl
  rw [own_len ao (n + 1) n] at h1
  refine ⟨grv, ov, vs, hm, hl, h1, fun j u hu => ?_, h3, h4⟩
  rw [own_len ao n (n + 1)]
  exact h2 j u hu
theorem GoS.meet {B X c g cap n : Nat} {wb w w' : World} {gv wv grv ov : Value} {vs : List Value} {S : TS} {way : List Nat} (hm : MemT B X w gv grv ov vs S) (hw : Fresh B w wv (natsI way)) (h1 : wv.ownBlock = none ∨ wv.ownBlock ≠ ov.ownBlock) (h2 : ∀ (j : Nat) (u : Value), vs[j]? = some u → u.ownBlock = none ∨ u.ownBlock ≠ wv.ownBlock) (h3 : Ext wb w) (h4 : B ≤ w.heap.size) (hXB : X < B) (hwb : wb.heap.size ≤ X)
    (t : TsAt w' X gv grv (.slice (some ⟨g, 0, none⟩) n cap) (meetS S c)) (f : Fresh B w' (.slice (some ⟨g, 0, none⟩) n cap) (natsI (S.opn ++ [c]))) (k : But X ov w w') (hg : ov.ownBlock = some g ∨ w.heap.size ≤ g) : GoS B X wb gv w' (meetS S c) way wv := by
  refine ⟨grv, _, vs, hm.meet hXB t f k hg, k.row hw (fun e => by have := (World.ownsRow.lt hw X e).1; omega) h1, ?_, h2, k.ext h3 hwb (fun b hb => by have := (World.ownsRow.lt hm.opn b hb).1; omega), Nat.le_trans h4 k.size⟩
  cases hv : wv.ownBlock with
  | none => exact .inl rfl
  | some b =>
    refine .inr fun e => ?_
    have e : b = g := Option.some.inj e
    rcases hg with hg | hg
    · rcases h1 with h1 | h1
      · rw [h1] at hv; cases hv
      · exact h1 (by rw [hv, hg, e])
    · have := (World.ownsRow.lt hw b hv).2
      omega
theorem GoS.tell {B X : Nat} {wb w w' : World} {gv wv grv ov grv' ov' : Value} {vs vs' : List Value} {S S' : TS} {way : List Nat} (hm : MemT B X w gv grv ov vs S) (hw : Fresh B w wv (natsI way)) (h1 : wv.ownBlock = none ∨ wv.ownBlock ≠ ov.ownBlock) (h2 : ∀ (j : Nat) (u : Value), vs[j]? = some u → u.ownBlock = none ∨ u.ownBlock ≠ wv.ownBlock) (h3 : Ext wb w) (h4 : B ≤ w.heap.size) (hXB : X < B) (hwb : wb.heap.size ≤ X)
    (m' : MemT B X w' gv grv' ov' vs' S') (k : But X grv w w') (ho : ov'.ownBlock = none ∨ ov'.ownBlock = ov.ownBlock) (hv : ∀ (j : Nat) (u : Value), vs'[j]? = some u → vs[j]? = some u ∨ ∀ b, u.ownBlock = some b → w.heap.size ≤ b) : GoS B X wb gv w' S' way wv := by
  refine ⟨grv', ov', vs', m', k.row hw (fun e => by have := (World.ownsRow.lt hw X e).1; omega) (types_apart hm.grp hw (by decide)), ?_, fun j u hu => ?_, k.ext h3 hwb (fun b hb => by have := (World.ownsRow.lt hm.grp b hb).1; omega), Nat.le_trans h4 k.size⟩
  · rcases ho with ho | ho
    · cases hv' : wv.ownBlock with
      | none => exact .inl rfl
      | some b => exact .inr (by rw [ho]; simp)
    · rw [ho]; exact h1
  · rcases hv j u hu with h5 | h5
    · exact h2 j u h5
    · cases hu' : u.ownBlock with
      | none => exact .inl rfl
      | some b =>
        refine .inr fun e => ?_
        have := h5 b hu'
        have := (World.ownsRow.lt hw b e.symm).2
        omega
end Go.Proofs.YtcpmfcigciknlaaGreat

namespace Go.Proofs.YtcpmfcigciknlaaGreat
open Go
def twoWays (J0 J1 : Act → World → Prop) (Q : Exit → Act → World → Prop) : Exit → Act → World → Prop
  | .goto l, a, w => (l = 0 ∧ J0 a w) ∨ (l = 1 ∧ J1 a w)
  | e, a, w => Q e a w
theorem scope_two {P : Program} {c r0 r1 : Code} {Q : Exit → Act → World → Prop} {a : Act} {w : World} (J0 J1 : Nat → Act → World → Prop) (h0 : findLabel c 0 = some r0) (h1 : findLabel c 1 = some r1)
    (first : c.wp P (twoWays (fun a w => ∃ n, J0 n a w) (fun a w => ∃ n, J1 n a w) Q) a w)
    (pass0 : ∀ n a w, J0 n a w → r0.wp P (twoWays (fun a' w' => ∃ m, m < n ∧ J0 m a' w') (fun a' w' => ∃ m, m < n ∧ J1 m a' w') Q) a w)
    (pass1 : ∀ n a w, J1 n a w → r1.wp P (twoWays (fun a' w' => ∃ m, m < n ∧ J0 m a' w') (fun a' w' => ∃ m, m < n ∧ J1 m a' w') Q) a w) : (Code.scope c).wp P Q a w := by
  intro b k cs
  have g0 : gotoIn 0 (.inScope c :: k) = some (.code r0 :: .inScope c :: k) := by simp [gotoIn, h0]
  have g1 : gotoIn 1 (.inScope c :: k) = some (.code r1 :: .inScope c :: k) := by simp [gotoIn, h1]
  have key : ∀ n, (∀ a w, J0 n a w → ∃ e a' w', Q e a' w' ∧ Arrives P (lone (b.at a (.code r0 :: .inScope c :: k)) cs w) b k cs e a' w') ∧ (∀ a w, J1 n a w → ∃ e a' w', Q e a' w' ∧ Arrives P (lone (b.at a (.code r1 :: .inScope c :: k)) cs w) b k cs e a' w') := by
    intro n
    induction n using Nat.strongRecOn with
    | _ n ih =>
      have one : ∀ (r : Code) a w, r.wp P (twoWays (fun a' w' => ∃ m, m < n ∧ J0 m a' w') (fun a' w' => ∃ m, m < n ∧ J1 m a' w') Q) a w → ∃ e a' w', Q e a' w' ∧ Arrives P (lone (b.at a (.code r :: .inScope c :: k)) cs w) b k cs e a' w' := by
        intro r a w hr
        obtain ⟨e, a1, w1, hq, harr⟩ := hr b (.inScope c :: k) cs
        cases e with
        | normal => exact ⟨.normal, a1, w1, hq, Steps.trans harr (.one step_inScope)⟩
        | exit id => exact ⟨.exit id, a1, w1, hq, fun k' hk => harr k' (by simp [exitTo, hk])⟩
        | goto l =>
          rcases hq with ⟨rfl, m, hm, hJ⟩ | ⟨rfl, m, hm, hJ⟩
          · obtain ⟨e2, a2, w2, hq2, harr2⟩ := (ih m hm).1 a1 w1 hJ
            exact ⟨e2, a2, w2, hq2, .of_steps (harr _ g0) harr2⟩
          · obtain ⟨e2, a2, w2, hq2, harr2⟩ := (ih m hm).2 a1 w1 hJ
            exact ⟨e2, a2, w2, hq2, .of_steps (harr _ g1) harr2⟩
        | ret => exact ⟨_, a1, w1, hq, harr⟩
        | panic ch => exact ⟨_, a1, w1, hq, harr⟩
        | outgrown => exact ⟨_, a1, w1, hq, harr⟩
      exact ⟨fun a w hJ => one r0 a w (pass0 n a w hJ), fun a w hJ => one r1 a w (pass1 n a w hJ)⟩
  obtain ⟨e, a1, w1, hq, harr⟩ := first b (.inScope c :: k) cs
  cases e with
  | normal => exact ⟨.normal, a1, w1, hq, .head step_scope (Steps.trans harr (.one step_inScope))⟩
  | exit id => exact ⟨.exit id, a1, w1, hq, fun k' hk => .head step_scope (harr k' (by simp [exitTo, hk]))⟩
  | goto l =>
    rcases hq with ⟨rfl, m, hJ⟩ | ⟨rfl, m, hJ⟩
    · obtain ⟨e2, a2, w2, hq2, harr2⟩ := (key m).1 a1 w1 hJ
      exact ⟨e2, a2, w2, hq2, .of_steps (.head step_scope (harr _ g0)) harr2⟩
    · obtain ⟨e2, a2, w2, hq2, harr2⟩ := (key m).2 a1 w1 hJ
      exact ⟨e2, a2, w2, hq2, .of_steps (.head step_scope (harr _ g1)) harr2⟩
  | ret => exact ⟨_, a1, w1, hq, .of_steps (.one step_scope) harr⟩
  | panic ch => exact ⟨_, a1, w1, hq, .of_steps (.one step_scope) harr⟩
  | outgrown => exact ⟨_, a1, w1, hq, .of_steps (.one step_scope) harr⟩
theorem scope_two' {P : Program} {c r0 r1 : Code} {Q : Exit → Act → World → Prop} {a : Act} {w : World} (J0 J1 : Nat → Act → World → Prop) (h0 : findLabel c 0 = some (.seq .skip r0)) (h1 : findLabel c 1 = some (.seq .skip r1))
    (look : ∀ n a w, J1 n a w → r1.wp P (twoWays (fun a' w' => ∃ m, m < n ∧ J0 m a' w') (fun a' w' => ∃ m, m < n ∧ J1 m a' w') Q) a w)
    (enter : (∀ n a w, J1 n a w → r1.wp P (twoWays (fun a' w' => ∃ m, m < n ∧ J0 m a' w') (fun a' w' => ∃ m, m < n ∧ J1 m a' w') Q) a w) → ∀ n a w, J0 n a w → r0.wp P (twoWays (fun a' w' => ∃ m, m < n ∧ J0 m a' w') (fun a' w' => ∃ m, m < n ∧ J1 m a' w') Q) a w)
    (first : (∀ n a w, J0 n a w → r0.wp P (twoWays (fun a' w' => ∃ m, m < n ∧ J0 m a' w') (fun a' w' => ∃ m, m < n ∧ J1 m a' w') Q) a w) → c.wp P (twoWays (fun a w => ∃ n, J0 n a w) (fun a w => ∃ n, J1 n a w) Q) a w) : (Code.scope c).wp P Q a w :=
  scope_two J0 J1 h0 h1 (first (enter look)) (fun n a w h => wp_seq (wp_skip (enter look n a w h))) (fun n a w h => wp_seq (wp_skip (look n a w h)))
end Go.Proofs.YtcpmfcigciknlaaGreat
