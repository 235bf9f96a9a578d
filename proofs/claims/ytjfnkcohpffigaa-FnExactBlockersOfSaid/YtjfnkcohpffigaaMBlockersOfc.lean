/- Texts of this proof, part c: words, plain facts, contracts. -/
import Derived.Test.YtjfnkcohpffigaaMBlockersOfb
import Derived.Deep.AppendLies
import Derived.Test.YtjfnkcohpffigaaMBlockersOfa
import Derived.Maps.RangeWalk
import Derived.Maps.OwnSet
import Derived.Maps.OwnOps
import Derived.DeepKeys5

namespace Go.Proofs.Ytjfnkcohpffigaa
open Go.RowKit
set_option linter.unusedVariables false

theorem erase_map {α β : Type} (f : α → β) : ∀ (l : List α) (k : Nat), (l.eraseIdx k).map f = (l.map f).eraseIdx k
  | [], k => by simp
  | x :: l, 0 => by simp
  | x :: l, k + 1 => by simp [erase_map f l k]
theorem perm_erase {α : Type} : ∀ (l : List α) (k : Nat) (h : k < l.length), (l[k] :: l.eraseIdx k).Perm l
  | x :: l, 0, _ => by simp
  | x :: l, k + 1, h => by
    have h' : k < l.length := by simpa using h
    have := perm_erase l k h'
    simp only [List.getElem_cons_succ, List.eraseIdx_cons_succ]
    exact (List.Perm.swap x _ _).trans (List.Perm.cons x this)
def pickL (L : List (List Int)) (is : List Nat) : List (List Int) := is.map fun i => L[i]?.getD []
theorem pickL_range (L : List (List Int)) : pickL L (List.range L.length) = L := by
  unfold pickL
  apply List.ext_getElem
  · simp
  · intro i h1 h2
    simp [List.getElem?_eq_getElem h2]
theorem pickL_erase (L : List (List Int)) (is : List Nat) (k : Nat) : pickL L (is.eraseIdx k) = (pickL L is).eraseIdx k := by
  unfold pickL
  exact erase_map _ _ _
theorem pickL_at {L : List (List Int)} {is : List Nat} {k i : Nat} (h : is[k]? = some i) : (pickL L is)[k]? = some (L[i]?.getD []) := by
  unfold pickL
  rw [List.getElem?_map, h]; rfl

structure CompS (g : List (List Int)) (isO isL : List Nat) : Prop where
  nodup : (isO ++ isL).Nodup
  bound : ∀ i ∈ isO ++ isL, i < (groupsL g).length
  left : Left g (pickL (groupsL g) isL)
  told : pickL (groupsL g) isO ++ compsC g isL.length (pickL (groupsL g) isL) = compsL g

theorem CompS.start {g : List (List Int)} (hg : rowsB g = true) : CompS g [] (List.range (groupsL g).length) := by
  refine ⟨by simpa using List.nodup_range, by simp, ?_, ?_⟩
  · rw [pickL_range]; exact left_groups hg
  · rw [pickL_range, List.length_range]; rfl
theorem CompS.next {g : List (List Int)} {isO isL : List Nat} (h : CompS g isO isL) {k i : Nat} (hk : isL[k]? = some i) (hp : pickC g (pickL (groupsL g) isL) = some k) : CompS g (isO ++ [i]) (isL.eraseIdx k) := by
  have hlt : k < isL.length := (List.getElem?_eq_some_iff.1 hk).1
  have hperm : (i :: isL.eraseIdx k).Perm isL := by
    obtain ⟨h1, h2⟩ := List.getElem?_eq_some_iff.1 hk
    have := perm_erase isL k h1
    rwa [h2] at this
  have hp2 : ((isO ++ [i]) ++ isL.eraseIdx k).Perm (isO ++ isL) := by
    rw [List.append_assoc]
    exact List.Perm.append_left isO hperm
  refine ⟨hp2.nodup_iff.2 h.nodup, fun j hj => h.bound j (hp2.mem_iff.1 hj), ?_, ?_⟩
  · rw [pickL_erase]; exact h.left.erase k
  · have ht := h.told
    have hl : isL.length = (isL.eraseIdx k).length + 1 := by rw [List.length_eraseIdx]; simp [hlt]; omega
    rw [hl] at ht
    unfold compsC at ht
    rw [hp] at ht
    simp only at ht
    rw [pickL_at hk, Option.getD_some, ← pickL_erase] at ht
    rw [← ht]
    simp [pickL]
theorem CompS.done {g : List (List Int)} {isO : List Nat} (h : CompS g isO []) : pickL (groupsL g) isO = compsL g := by
  have := h.told
  simpa [compsC] using this

/-! ### Whether a group is free -/
/-- Of one point of the group at k and one list that is left: whether the point leads to none of it (its own list aside). -/
def freeN (g left : List (List Int)) (k : Nat) (p : Int) (i : Nat) : Bool := (left[i]?.getD []).all fun n => decide (i = k) || !hasI (rowG g p) n
theorem freeB_eq (g left : List (List Int)) (k : Nat) : freeB g left k = (left[k]?.getD []).all fun p => (List.range left.length).all fun i => freeN g left k p i := by
  unfold freeB freeN
  congr 1
  funext p
  congr 1
  funext i
  by_cases e : i = k
  · simp [e]
  · have hh : ∀ n, hasI (rowG g p) n = decide (n ∈ rowG g p) := fun n => by rw [Bool.eq_iff_iff]; simp [hasI]
    simp [e, hh]
theorem pickC_at {g left : List (List Int)} {k : Nat} (hk : k < left.length) (h : freeB g left k = true) (hb : ∀ j, j < k → freeB g left j = false) : pickC g left = some k := by
  unfold pickC
  rw [List.find?_eq_some_iff_getElem]
  refine ⟨h, k, by simpa using hk, by simp, fun j hj => ?_⟩
  simp [hb j hj]
theorem pickC_must {g left : List (List Int)} (hg : rowsB g = true) (hl : Left g left) (hne : left ≠ []) (hb : ∀ j, j < left.length → freeB g left j = false) : False := by
  obtain ⟨k, hk, hf⟩ := free_one hg hl hne
  rw [hb k hk] at hf
  cases hf

end Go.Proofs.Ytjfnkcohpffigaa

namespace Go.Proofs.Ytjfnkcohpffigaa
open Go.RowKit
set_option linter.unusedVariables false

/-- v is a slice in new memory that holds the values vs. -/
def FreshV (B : Nat) (w : World) (v : Value) (vs : List Value) : Prop := w.ownsRow B 46 1 v vs.length vs
theorem FreshV.ext {B : Nat} {w w' : World} {v : Value} {vs : List Value} (h : FreshV B w v vs) (e : Ext w w') : FreshV B w' v vs := e.ownsRow h
theorem FreshV.more {B B' : Nat} {w : World} {v : Value} {vs : List Value} (h : FreshV B w v vs) (hb : B' ≤ B) : FreshV B' w v vs := ownsRow_more h hb
theorem FreshV.nil (B : Nat) (w : World) : FreshV B w (.slice none 0 0) [] := World.ownsRow_nil _ _ _ _

theorem wpList_pushV {ops : Array Oper} {rest : List Oper} {o : Oper} {a : Act} {Q : Exit → Act → World → Prop} {w : World} (hgd : o.guard = none) (s x : Operand)
    (ho : o.op = .call { callee := .builtin .append, args := #[s, x], argTypes := #[26, 26] })
    (B : Nat) (v : Value) (vs : List Value) (hs : a.eval s = v) (hf : FreshV B w v vs) (u : Value) (ad : Addr) (c : Nat) (hx : a.eval x = .slice (some ad) 1 c)
    (hc : w.cell? ad = some u) (h1 : u.oneCell' = true) (hl : vs.length ≤ 1048576) (hB : B ≤ w.heap.size)
    (h : ∀ v' w', FreshV B w' v' (vs ++ [u]) → w.grownBy w' v.ownBlock → Kept B w w' → wpList Try.prog ops Q rest (a.put o.dst v') w') : wpList Try.prog ops Q (o :: rest) a w := by
  obtain ⟨i0, hi, hz0, hz1, hz2⟩ := info_parts Try.infoInts
  refine wpList_append_own _ hgd s x 26 ho B 46 i0 (.slice none 0 0) 1 24 Try.underlying26 hi hz0 hz1 hz2 rfl (by decide) v vs.length _ hs hf ad 1 c [u] hx rfl ?_ ?_ ?_ ?_ hB ?_
  · intro j z hj
    match j, hj with
    | 0, hj => simp at hj; subst hj; simpa [Addr.add] using hc
  · intro z hz; simp at hz; subst hz; exact h1
  · unfold maxLen; omega
  · omega
  · intro v' w' ho' hg _
    exact h v' w' (by unfold FreshV; simpa using ho') hg (fun q hq hqB => Below.grown hq hg hq.size (fun b hb => Nat.le_trans hqB (World.ownsRow.lt hf b hb).1))

/-- The cells of a slice of lists, as values. -/
def ReadsV (w : World) (v : Value) (vs : List Value) : Prop :=
  ∃ ao cap, v = .slice ao vs.length cap ∧ (ao = none → cap = 0 ∧ vs = []) ∧ (vs.length ≤ cap ∧ cap ≤ maxLen) ∧ ∀ b off, ao = some ⟨b, off, none⟩ → ∀ j z, vs[j]? = some z → w.cell? ⟨b, off + j, none⟩ = some z

theorem wpList_joinV {ops : Array Oper} {rest : List Oper} {o : Oper} {a : Act} {Q : Exit → Act → World → Prop} {w : World} (hgd : o.guard = none) (s x : Operand)
    (ho : o.op = .call { callee := .builtin .append, args := #[s, x], argTypes := #[26, 26] })
    (B : Nat) (v : Value) (vs us : List Value) (hs : a.eval s = v) (hf : FreshV B w v vs) (b off c : Nat) (hx : a.eval x = .slice (some ⟨b, off, none⟩) us.length c)
    (hc : ∀ j z, us[j]? = some z → w.cell? ⟨b, off + j, none⟩ = some z) (h1 : ∀ u ∈ us, u.oneCell' = true) (hl : vs.length + us.length ≤ 1048576) (hB : B ≤ w.heap.size)
    (h : ∀ v' w', FreshV B w' v' (vs ++ us) → w.grownBy w' v.ownBlock → Kept B w w' → wpList Try.prog ops Q rest (a.put o.dst v') w') : wpList Try.prog ops Q (o :: rest) a w := by
  obtain ⟨i0, hi, hz0, hz1, hz2⟩ := info_parts Try.infoInts
  refine wpList_append_own _ hgd s x 26 ho B 46 i0 (.slice none 0 0) 1 24 Try.underlying26 hi hz0 hz1 hz2 rfl (by decide) v vs.length _ hs hf ⟨b, off, none⟩ us.length c us hx (by simp) ?_ ?_ ?_ ?_ hB ?_
  · intro j z hj
    rw [show (⟨b, off, none⟩ : Addr).add j = ⟨b, off + j, none⟩ by simp [Addr.add]]
    exact hc j z hj
  · intro z hz; exact h1 z hz
  · unfold maxLen; omega
  · omega
  · intro v' w' ho' hg _
    exact h v' w' (by unfold FreshV; rw [List.length_append]; exact ho') hg (fun q hq hqB => Below.grown hq hg hq.size (fun b hb => Nat.le_trans hqB (World.ownsRow.lt hf b hb).1))

/-- A row of a list in new memory, by its value. -/
theorem FreshSS.vals {B : Nat} {w : World} {v : Value} {L : List (List Int)} (h : FreshSS B w v L) : ∃ vs, FreshV B w v vs ∧ Rows_ B w vs L := by
  obtain ⟨vs, h1, h2, _⟩ := h
  exact ⟨vs, by unfold FreshV; rw [h2.len]; exact h1, h2⟩
theorem FreshV.ss {B : Nat} {w : World} {v : Value} {vs : List Value} {L : List (List Int)} (h : FreshV B w v vs) (r : Rows_ B w vs L) : FreshSS B w v L :=
  FreshSS.of (by rw [← r.len]; exact h) r
/-- Rows picked by indices without repeats are rows still. -/
theorem Rows_.pick {B : Nat} {w : World} {vs : List Value} {L : List (List Int)} (h : Rows_ B w vs L) (is : List Nat) (hn : is.Nodup) (hb : ∀ i ∈ is, i < vs.length) :
    Rows_ B w (is.map fun i => vs[i]?.getD (.slice none 0 0)) (is.map fun i => L[i]?.getD []) := by
  refine ⟨by simp, fun j u l hu hl => ?_, fun i j u z hij hu hz => ?_⟩
  · rw [List.getElem?_map] at hu hl
    cases hj : is[j]? with
    | none => rw [hj] at hu; simp at hu
    | some i =>
      have hi := hb i (List.mem_of_getElem? hj)
      rw [hj] at hu hl
      simp only [Option.map_some, Option.some.injEq] at hu hl
      rw [List.getElem?_eq_getElem hi, Option.getD_some] at hu
      rw [List.getElem?_eq_getElem (by rw [← h.len]; exact hi), Option.getD_some] at hl
      exact h.row i u l (by rw [List.getElem?_eq_getElem hi, hu]) (by rw [List.getElem?_eq_getElem (by rw [← h.len]; exact hi), hl])
  · rw [List.getElem?_map] at hu hz
    cases hi : is[i]? with
    | none => rw [hi] at hu; simp at hu
    | some a =>
      cases hj : is[j]? with
      | none => rw [hj] at hz; simp at hz
      | some b =>
        have ha := hb a (List.mem_of_getElem? hi)
        have hb' := hb b (List.mem_of_getElem? hj)
        rw [hi] at hu
        rw [hj] at hz
        simp only [Option.map_some, Option.some.injEq] at hu hz
        rw [List.getElem?_eq_getElem ha, Option.getD_some] at hu
        rw [List.getElem?_eq_getElem hb', Option.getD_some] at hz
        have hab : a ≠ b := by
          intro e
          subst e
          have h1 := (List.getElem?_eq_some_iff.1 hi)
          have h2 := (List.getElem?_eq_some_iff.1 hj)
          obtain ⟨l1, e1⟩ := h1
          obtain ⟨l2, e2⟩ := h2
          exact hij ((List.getElem_inj hn).1 (by rw [e1, e2]))
        exact h.apart a b u z hab (by rw [List.getElem?_eq_getElem ha, hu]) (by rw [List.getElem?_eq_getElem hb', hz])

end Go.Proofs.Ytjfnkcohpffigaa

namespace Go.Proofs.Ytjfnkcohpffigaa
open Go.RowKit
set_option linter.unusedVariables false

theorem nodup_len : ∀ (N : Nat) (l : List Nat), l.Nodup → (∀ i ∈ l, i < N) → l.length ≤ N
  | 0, l, _, h => by
    cases l with
    | nil => simp
    | cons a t => exact absurd (h a (by simp)) (by omega)
  | N + 1, l, hn, h => by
    have ih := nodup_len N (l.erase N) (hn.erase N) (fun i hi => by
      have h1 := (hn.mem_erase_iff).1 hi
      have := h i h1.2
      have := h1.1
      omega)
    rw [List.length_erase] at ih
    split at ih <;> omega

def lenV : Value → Nat
  | .slice _ n _ => n
  | _ => 0
def pickV (VS : List Value) (is : List Nat) : List Value := is.map fun i => VS[i]?.getD (.slice none 0 0)
theorem pickV_len (VS : List Value) (is : List Nat) : (pickV VS is).length = is.length := by simp [pickV]
theorem pickL_len (L : List (List Int)) (is : List Nat) : (pickL L is).length = is.length := by simp [pickL]
theorem pickV_at {VS : List Value} {is : List Nat} {k i : Nat} (h : is[k]? = some i) : (pickV VS is)[k]? = some (VS[i]?.getD (.slice none 0 0)) := by
  unfold pickV
  rw [List.getElem?_map, h]; rfl
theorem pickV_erase (VS : List Value) (is : List Nat) (k : Nat) : pickV VS (is.eraseIdx k) = (pickV VS is).take k ++ (pickV VS is).drop (k + 1) := by
  unfold pickV
  rw [erase_map, List.eraseIdx_eq_take_drop_succ]
theorem pickV_snoc (VS : List Value) (is : List Nat) (i : Nat) : pickV VS (is ++ [i]) = pickV VS is ++ [VS[i]?.getD (.slice none 0 0)] := by simp [pickV]

theorem FreshV.zero {B : Nat} {w : World} {v : Value} {vs : List Value} (h : FreshV B w v vs) : FreshV 0 w v vs := h.more (Nat.zero_le _)
theorem FreshV.at {B : Nat} {w : World} {g n cap : Nat} {vs : List Value} (h : FreshV B w (.slice (some ⟨g, 0, none⟩) n cap) vs) (hn : vs.length = n) {j : Nat} {z : Value} (hj : vs[j]? = some z) : w.cell? ⟨g, j, none⟩ = some z := by
  subst hn
  have hlt := (List.getElem?_eq_some_iff.1 hj).1
  have := World.ownsRow.cellAt h j (by omega)
  rw [this, hj]
theorem FreshV.form {B : Nat} {w : World} {v : Value} {vs : List Value} (h : FreshV B w v vs) {n : Nat} (hn : vs.length = n) (h0 : 0 < n) : ∃ g cap, v = .slice (some ⟨g, 0, none⟩) n cap ∧ n ≤ cap ∧ cap ≤ maxLen := by
  subst hn
  rcases h.2 with ⟨_, h1⟩ | ⟨g, cap, cur, hv, hb, hg, hnc, hcm, _⟩
  · omega
  · exact ⟨g, cap, hv, by omega, hcm⟩
theorem FreshV.len {B : Nat} {w : World} {v : Value} {vs : List Value} (h : FreshV B w v vs) : ∃ ao cap, v = .slice ao vs.length cap := by
  rcases h.2 with ⟨hv, h1⟩ | ⟨g, cap, cur, hv, _⟩
  · exact ⟨none, 0, by rw [hv, h1]⟩
  · exact ⟨_, cap, hv⟩

theorem wpList_joinVn {ops : Array Oper} {rest : List Oper} {o : Oper} {a : Act} {Q : Exit → Act → World → Prop} {w : World} (hgd : o.guard = none) (s x : Operand)
    (ho : o.op = .call { callee := .builtin .append, args := #[s, x], argTypes := #[26, 26] })
    (B : Nat) (v : Value) (vs us : List Value) (hs : a.eval s = v) (hf : FreshV B w v vs) (b off n c : Nat) (hn : us.length = n) (hx : a.eval x = .slice (some ⟨b, off, none⟩) n c)
    (hc : ∀ j z, us[j]? = some z → w.cell? ⟨b, off + j, none⟩ = some z) (h1 : ∀ u ∈ us, u.oneCell' = true) (hl : vs.length + us.length ≤ 1048576) (hB : B ≤ w.heap.size)
    (h : ∀ v' w', FreshV B w' v' (vs ++ us) → w.grownBy w' v.ownBlock → Kept B w w' → wpList Try.prog ops Q rest (a.put o.dst v') w') : wpList Try.prog ops Q (o :: rest) a w := by
  subst hn
  exact wpList_joinV hgd s x ho B v vs us hs hf b off c hx hc h1 hl hB h

theorem freshV_lit (w : World) (B : Nat) (hB : B ≤ w.heap.size) : FreshV B (w.alloc (.cells #[] 46)) (.slice (some ⟨w.heap.size, 0, none⟩) 0 0) [] := by
  have h := World.ownsRow_lit (e := 46) (size := 1) w #[] 0 hB (by unfold maxLen; omega) (by simp)
  exact h
/-- The rows behind the values that are left. -/
theorem Rows_.ints {B : Nat} {w : World} {VS : List Value} {L : List (List Int)} (h : Rows_ B w VS L) {i : Nat} (hi : i < L.length) : Ints w (VS[i]?.getD (.slice none 0 0)) (L[i]?.getD []) := by
  have h1 : VS[i]? = some (VS[i]'(by rw [h.len]; exact hi)) := List.getElem?_eq_getElem _
  have h2 : L[i]? = some L[i] := List.getElem?_eq_getElem hi
  rw [h1, h2]
  exact (h.row i _ _ h1 h2).ints
theorem Rows_.one {B : Nat} {w : World} {VS : List Value} {L : List (List Int)} (h : Rows_ B w VS L) (i : Nat) : (VS[i]?.getD (.slice none 0 0)).oneCell' = true := by
  cases hj : VS[i]? with
  | none => rfl
  | some u =>
    have hlt := (List.getElem?_eq_some_iff.1 hj).1
    have := h.ints (i := i) (by rw [← h.len]; exact hlt)
    rw [hj] at this
    obtain ⟨_, _, hv, _⟩ := this
    rw [Option.getD_some] at hv ⊢
    rw [hv]; rfl
theorem Left.in {g LL : List (List Int)} (hg : rowsB g = true) (h : Left g LL) {k : Nat} {G : List Int} (hk : LL[k]? = some G) : ∀ p ∈ G, 0 ≤ p ∧ p < (g.length : Int) := by
  intro p hp
  obtain ⟨q, hq, rfl⟩ := h.1 G (List.mem_of_getElem? hk)
  exact groupL_in hg hq hp

/-- Whether the point p leads to none of the lists but its own. -/
def fromP (g LL : List (List Int)) (k : Nat) (p : Int) : Bool := (List.range LL.length).all fun i => freeN g LL k p i
theorem freeB_all (g LL : List (List Int)) (k : Nat) (G : List Int) (h : LL[k]? = some G) : freeB g LL k = G.all (fromP g LL k) := by
  rw [freeB_eq, h, Option.getD_some]; rfl
def upTo (g LL : List (List Int)) (k : Nat) (p : Int) (t : Nat) : Bool := (List.range t).all fun i => freeN g LL k p i
theorem upTo_succ (g LL : List (List Int)) (k : Nat) (p : Int) (t : Nat) : upTo g LL k p (t + 1) = (upTo g LL k p t && freeN g LL k p t) := by
  unfold upTo
  rw [List.range_succ, List.all_append]
  simp
def inTo (g : List (List Int)) (k t : Nat) (p : Int) (O : List Int) (s : Nat) : Bool := (O.take s).all fun n => decide (t = k) || !hasI (rowG g p) n
theorem inTo_succ (g : List (List Int)) (k t : Nat) (p : Int) (O : List Int) {s : Nat} (h : s < O.length) : inTo g k t p O (s + 1) = (inTo g k t p O s && (decide (t = k) || !hasI (rowG g p) O[s])) := by
  unfold inTo
  rw [List.take_add_one, List.getElem?_eq_getElem h, List.all_append]
  simp
theorem inTo_all (g LL : List (List Int)) (k t : Nat) (p : Int) (O : List Int) (h : LL[t]? = some O) : inTo g k t p O O.length = freeN g LL k p t := by
  unfold inTo freeN
  rw [List.take_length, h, Option.getD_some]
theorem takeAll_succ {l : List Int} {k : Nat} (h : k < l.length) (p : Int → Bool) : (l.take (k + 1)).all p = ((l.take k).all p && p l[k]) := by
  rw [List.take_add_one, List.getElem?_eq_getElem h, List.all_append]
  simp

end Go.Proofs.Ytjfnkcohpffigaa

namespace Go.Proofs.Ytjfnkcohpffigaa
open Go.RowKit Go.Maps
set_option linter.unusedVariables false

theorem two_of {n : Nat} (h : 1 ≤ n) : ∃ d, n + 1 = d + 2 := ⟨n - 1, by omega⟩
/-- What an instance reads as, as a key. -/
def kl (a b : Int) : Lit := .string (keyBytes [.int .i64 a, .int .i64 b])
def instV (a b : Int) : Value := .agg #[.int .i64 a, .int .i64 b]
set_option maxRecDepth 100000
theorem instWide : (match Try.prog.underlying 80 with | some (.array _ _) | some (.struct _) => true | _ => false) = true := by kernel_rfl
theorem instKeyed : Keyed Try.prog 80 :=
  Keyed.of_law (deep_law_laid (by kernel_rfl) (m := 2) (by omega) (of_decide_eq_true (by kernel_rfl)) (by kernel_rfl) instWide)

theorem instType : Try.prog.keyType 80 = true := by kernel_rfl
theorem lits_int {d : Nat} {a : Int} (ha : wf64 a) : Try.prog.keyLits (d + 1) 3 [.int .i64 a] = some [.int .i64 a] := by
  unfold Program.keyLits
  rw [Try.underlying3]
  unfold wf64 at ha
  simp [ha]
theorem lits_int_inv {d : Nat} {v : Value} {L : List Lit} (h : Try.prog.keyLits (d + 1) 3 [v] = some L) : ∃ a, v = .int .i64 a ∧ wf64 a ∧ L = [.int .i64 a] := by
  unfold Program.keyLits at h
  rw [Try.underlying3] at h
  cases v <;> simp at h
  obtain ⟨⟨rfl, hw⟩, rfl⟩ := h
  exact ⟨_, rfl, hw, rfl⟩
theorem cellsInst : Try.prog.cellsOf 80 = 2 := by kernel_rfl
theorem cellsInt : Try.prog.cellsOf 3 = 1 := by kernel_rfl
theorem lits_inst {d : Nat} {a b : Int} (ha : wf64 a) (hb : wf64 b) : Try.prog.keyLits (d + 2) 80 [.int .i64 a, .int .i64 b] = some [.int .i64 a, .int .i64 b] := by
  unfold Program.keyLits
  rw [Try.underlying80]
  simp [cellsInst, cellsInt, lits_int ha, lits_int hb]
theorem keyOf_inst {a b : Int} (ha : wf64 a) (hb : wf64 b) : keyOf Try.prog 80 (instV a b) = some (kl a b) := by
  unfold keyOf
  rw [Try.underlying80]
  have hf : Value.formed Try.prog 80 (instV a b) = true := by
    unfold Value.formed instV
    simp [Try.underlying80, cellsInst]
  obtain ⟨d, hd⟩ : ∃ d, Try.prog.types.size + 1 = d + 2 := two_of (of_decide_eq_true (by kernel_rfl))
  simp only [instType, hf, Bool.and_self, if_true, hd]
  unfold instV
  simp only [Value.cells]
  rw [lits_inst ha hb]
  rfl
theorem keyOf_inst_inv {v : Value} {l : Lit} (h : keyOf Try.prog 80 v = some l) : ∃ a b, v = instV a b ∧ l = kl a b ∧ wf64 a ∧ wf64 b := by
  obtain ⟨xs, L, rfl, hL, rfl⟩ := keyOf_top instWide h
  obtain ⟨d, hd⟩ : ∃ d, Try.prog.types.size + 1 = d + 2 := two_of (of_decide_eq_true (by kernel_rfl))
  rw [hd] at hL
  unfold Program.keyLits at hL
  rw [Try.underlying80] at hL
  simp only [cellsInst] at hL
  split at hL
  · rename_i hc
    obtain ⟨x, y, hxy⟩ : ∃ x y, xs.toList = [x, y] := by
      match h : xs.toList with
      | [x, y] => exact ⟨x, y, rfl⟩
      | [] => simp [h] at hc
      | [_] => simp [h] at hc
      | _ :: _ :: _ :: _ => simp [h] at hc
    rw [hxy] at hL
    cases h1 : Try.prog.keyLits (d + 1) 3 [x] with
    | none => simp [cellsInt, h1] at hL
    | some A =>
      cases h2 : Try.prog.keyLits (d + 1) 3 [y] with
      | none => simp [cellsInt, h1, h2] at hL
      | some B =>
        simp [cellsInt, h1, h2] at hL
        obtain ⟨a, rfl, wa, rfl⟩ := lits_int_inv h1
        obtain ⟨b, rfl, wb, rfl⟩ := lits_int_inv h2
        refine ⟨a, b, ?_, ?_, wa, wb⟩
        · unfold instV
          rw [← Array.toArray_toList (xs := xs), hxy]
        · subst hL
          rfl
  · cases hL
theorem kl_inj {a b c d : Int} (ha : wf64 a) (hb : wf64 b) (hc : wf64 c) (hd : wf64 d) (h : kl a b = kl c d) : a = c ∧ b = d := by
  have e := instKeyed.inj (keyOf_inst ha hb) (h ▸ keyOf_inst hc hd)
  unfold instV at e
  simpa using e

end Go.Proofs.Ytjfnkcohpffigaa

namespace Go.Proofs.Ytjfnkcohpffigaa
open Go.RowKit

def acctB (n : Int) : Bool := inB n 0 3
theorem acctB_yes {n : Int} (h : acctB n = true) : 0 ≤ n ∧ n ≤ 3 := by unfold acctB inB at h; simpa using h

theorem l2Account_any (n : Int) (w : World) :
    Calls Try.prog 119 #[.int .i64 n] w fun e w' => e = .returned (.bool (acctB n)) ∧ w = w' := by
  go_enter Try.func119, Try.ntmps119
  go_wp2_with (go_at_call 61; refine (l1In_any _ _ _ _).mono ?_; rintro e w' ⟨rfl, rfl⟩)
  go_ret
  exact ⟨rfl, rfl⟩

theorem isAccount_any (n : Int) (w : World) :
    Calls Try.prog 139 #[.int .i64 n] w fun e w' => e = .returned (.bool (acctB n)) ∧ w = w' := by
  unfold acctB
  by_cases h1 : 0 ≤ n
  · by_cases h2 : n < 4
    · go_enter Try.func139, Try.ntmps139
      go_wp2
      go_ret
      exact ⟨by rw [inB_yes h1 (by omega)]; rfl, rfl⟩
    · go_enter Try.func139, Try.ntmps139
      go_wp2
      go_ret
      exact ⟨by rw [inB_no (by omega)]; rfl, rfl⟩
  · go_enter Try.func139, Try.ntmps139
    go_wp2
    go_ret
    exact ⟨by rw [inB_no (by omega)]; rfl, rfl⟩

theorem isCmdId_any (n : Int) (w : World) :
    Calls Try.prog 140 #[.int .i64 n] w fun e w' => e = .returned (.bool (inB n 1 999)) ∧ w = w' := by
  by_cases h1 : 1 ≤ n
  · by_cases h2 : n ≤ 999
    · go_enter Try.func140, Try.ntmps140
      go_wp2
      go_ret
      exact ⟨by rw [inB_yes h1 (by omega)]; rfl, rfl⟩
    · go_enter Try.func140, Try.ntmps140
      go_wp2
      go_ret
      exact ⟨by rw [inB_no (by omega)]; rfl, rfl⟩
  · go_enter Try.func140, Try.ntmps140
    go_wp2
    go_ret
    exact ⟨by rw [inB_no (by omega)]; rfl, rfl⟩

theorem isAmount_any (n : Int) (w : World) :
    Calls Try.prog 141 #[.int .i64 n] w fun e w' => e = .returned (.bool (inB n 1 1000)) ∧ w = w' := by
  by_cases h1 : 1 ≤ n
  · by_cases h2 : n ≤ 1000
    · go_enter Try.func141, Try.ntmps141
      go_wp2
      go_ret
      exact ⟨by rw [inB_yes h1 (by omega)]; rfl, rfl⟩
    · go_enter Try.func141, Try.ntmps141
      go_wp2
      go_ret
      exact ⟨by rw [inB_no (by omega)]; rfl, rfl⟩
  · go_enter Try.func141, Try.ntmps141
    go_wp2
    go_ret
    exact ⟨by rw [inB_no (by omega)]; rfl, rfl⟩

/-- What is wrong with a command that moves. -/
def codeM (i f t a : Int) : Int := if acctB f then (if acctB t then (if f == t then 5 else if inB i 1 999 then (if inB a 1 1000 then 0 else 6) else 6) else 4) else 4
/-- What is wrong with another one. -/
def codeR (i f : Int) : Int := if acctB f then (if inB i 1 999 then 0 else 6) else 4

set_option maxHeartbeats 1000000 in
theorem l2Code_move (i f t a : Int) (w : World) :
    Calls Try.prog 103 #[.agg #[.int .i64 1, .int .i64 i, .int .i64 f, .int .i64 t, .int .i64 a]] w (IntExt (codeM i f t a) w) := by
  unfold codeM
  cases h0 : acctB f with
  | false =>
    go_enter Try.func103, Try.ntmps103
    go_wp2_with (first | (go_at_call 119; refine (l2Account_any _ _).mono ?_; rintro e w' ⟨rfl, rfl⟩) | (go_at_call 61; refine (l1In_any _ _ _ _).mono ?_; rintro e w' ⟨rfl, rfl⟩))
    go_ret
    exact ⟨rfl, by repeat (first | exact Ext.refl _ | apply Ext.drew | apply Ext.alloc)⟩
  | true =>
    cases h1 : acctB t with
    | false =>
      go_enter Try.func103, Try.ntmps103
      go_wp2_with (first | (go_at_call 119; refine (l2Account_any _ _).mono ?_; rintro e w' ⟨rfl, rfl⟩) | (go_at_call 61; refine (l1In_any _ _ _ _).mono ?_; rintro e w' ⟨rfl, rfl⟩))
      go_ret
      exact ⟨rfl, by repeat (first | exact Ext.refl _ | apply Ext.drew | apply Ext.alloc)⟩
    | true =>
      cases h2 : (f == t) with
      | true =>
        go_enter Try.func103, Try.ntmps103
        go_wp2_with (first | (go_at_call 119; refine (l2Account_any _ _).mono ?_; rintro e w' ⟨rfl, rfl⟩) | (go_at_call 61; refine (l1In_any _ _ _ _).mono ?_; rintro e w' ⟨rfl, rfl⟩))
        go_ret
        exact ⟨rfl, by repeat (first | exact Ext.refl _ | apply Ext.drew | apply Ext.alloc)⟩
      | false =>
        cases h3 : inB i 1 999 with
        | false =>
          go_enter Try.func103, Try.ntmps103
          go_wp2_with (first | (go_at_call 119; refine (l2Account_any _ _).mono ?_; rintro e w' ⟨rfl, rfl⟩) | (go_at_call 61; refine (l1In_any _ _ _ _).mono ?_; rintro e w' ⟨rfl, rfl⟩))
          go_ret
          exact ⟨rfl, by repeat (first | exact Ext.refl _ | apply Ext.drew | apply Ext.alloc)⟩
        | true =>
          cases h4 : inB a 1 1000 with
          | false =>
            go_enter Try.func103, Try.ntmps103
            go_wp2_with (first | (go_at_call 119; refine (l2Account_any _ _).mono ?_; rintro e w' ⟨rfl, rfl⟩) | (go_at_call 61; refine (l1In_any _ _ _ _).mono ?_; rintro e w' ⟨rfl, rfl⟩))
            go_ret
            exact ⟨rfl, by repeat (first | exact Ext.refl _ | apply Ext.drew | apply Ext.alloc)⟩
          | true =>
            go_enter Try.func103, Try.ntmps103
            go_wp2_with (first | (go_at_call 119; refine (l2Account_any _ _).mono ?_; rintro e w' ⟨rfl, rfl⟩) | (go_at_call 61; refine (l1In_any _ _ _ _).mono ?_; rintro e w' ⟨rfl, rfl⟩))
            go_ret
            exact ⟨rfl, by repeat (first | exact Ext.refl _ | apply Ext.drew | apply Ext.alloc)⟩

set_option maxHeartbeats 1000000 in
theorem l2Code_read (k i f t a : Int) (w : World) (hk : (k == 1) = false) (_hk0 : (k == 0) = false) :
    Calls Try.prog 103 #[.agg #[.int .i64 k, .int .i64 i, .int .i64 f, .int .i64 t, .int .i64 a]] w (IntExt (codeR i f) w) := by
  unfold codeR
  cases h0 : acctB f with
  | false =>
    go_enter Try.func103, Try.ntmps103
    go_wp2_with (first | (go_at_call 119; refine (l2Account_any _ _).mono ?_; rintro e w' ⟨rfl, rfl⟩) | (go_at_call 61; refine (l1In_any _ _ _ _).mono ?_; rintro e w' ⟨rfl, rfl⟩))
    go_ret
    exact ⟨rfl, by repeat (first | exact Ext.refl _ | apply Ext.drew | apply Ext.alloc)⟩
  | true =>
    cases h1 : inB i 1 999 with
    | false =>
      go_enter Try.func103, Try.ntmps103
      go_wp2_with (first | (go_at_call 119; refine (l2Account_any _ _).mono ?_; rintro e w' ⟨rfl, rfl⟩) | (go_at_call 61; refine (l1In_any _ _ _ _).mono ?_; rintro e w' ⟨rfl, rfl⟩))
      go_ret
      exact ⟨rfl, by repeat (first | exact Ext.refl _ | apply Ext.drew | apply Ext.alloc)⟩
    | true =>
      go_enter Try.func103, Try.ntmps103
      go_wp2_with (first | (go_at_call 119; refine (l2Account_any _ _).mono ?_; rintro e w' ⟨rfl, rfl⟩) | (go_at_call 61; refine (l1In_any _ _ _ _).mono ?_; rintro e w' ⟨rfl, rfl⟩))
      go_ret
      exact ⟨rfl, by repeat (first | exact Ext.refl _ | apply Ext.drew | apply Ext.alloc)⟩

set_option maxHeartbeats 1000000 in
theorem faultOfCmd_move (i f t a : Int) (w : World) :
    Calls Try.prog 133 #[.agg #[.int .i64 1, .int .i64 i, .int .i64 f, .int .i64 t, .int .i64 a]] w (IntExt (codeM i f t a) w) := by
  unfold codeM
  cases h0 : acctB f with
  | false =>
    go_enter Try.func133, Try.ntmps133
    go_wp2_with (first | (go_at_call 139; refine (isAccount_any _ _).mono ?_; rintro e w' ⟨rfl, rfl⟩) | (go_at_call 140; refine (isCmdId_any _ _).mono ?_; rintro e w' ⟨rfl, rfl⟩) | (go_at_call 141; refine (isAmount_any _ _).mono ?_; rintro e w' ⟨rfl, rfl⟩))
    go_ret
    exact ⟨rfl, by repeat (first | exact Ext.refl _ | apply Ext.drew | apply Ext.alloc)⟩
  | true =>
    cases h1 : acctB t with
    | false =>
      go_enter Try.func133, Try.ntmps133
      go_wp2_with (first | (go_at_call 139; refine (isAccount_any _ _).mono ?_; rintro e w' ⟨rfl, rfl⟩) | (go_at_call 140; refine (isCmdId_any _ _).mono ?_; rintro e w' ⟨rfl, rfl⟩) | (go_at_call 141; refine (isAmount_any _ _).mono ?_; rintro e w' ⟨rfl, rfl⟩))
      go_ret
      exact ⟨rfl, by repeat (first | exact Ext.refl _ | apply Ext.drew | apply Ext.alloc)⟩
    | true =>
      cases h2 : (f == t) with
      | true =>
        go_enter Try.func133, Try.ntmps133
        go_wp2_with (first | (go_at_call 139; refine (isAccount_any _ _).mono ?_; rintro e w' ⟨rfl, rfl⟩) | (go_at_call 140; refine (isCmdId_any _ _).mono ?_; rintro e w' ⟨rfl, rfl⟩) | (go_at_call 141; refine (isAmount_any _ _).mono ?_; rintro e w' ⟨rfl, rfl⟩))
        go_ret
        exact ⟨rfl, by repeat (first | exact Ext.refl _ | apply Ext.drew | apply Ext.alloc)⟩
      | false =>
        cases h3 : inB i 1 999 with
        | false =>
          go_enter Try.func133, Try.ntmps133
          go_wp2_with (first | (go_at_call 139; refine (isAccount_any _ _).mono ?_; rintro e w' ⟨rfl, rfl⟩) | (go_at_call 140; refine (isCmdId_any _ _).mono ?_; rintro e w' ⟨rfl, rfl⟩) | (go_at_call 141; refine (isAmount_any _ _).mono ?_; rintro e w' ⟨rfl, rfl⟩))
          go_ret
          exact ⟨rfl, by repeat (first | exact Ext.refl _ | apply Ext.drew | apply Ext.alloc)⟩
        | true =>
          cases h4 : inB a 1 1000 with
          | false =>
            go_enter Try.func133, Try.ntmps133
            go_wp2_with (first | (go_at_call 139; refine (isAccount_any _ _).mono ?_; rintro e w' ⟨rfl, rfl⟩) | (go_at_call 140; refine (isCmdId_any _ _).mono ?_; rintro e w' ⟨rfl, rfl⟩) | (go_at_call 141; refine (isAmount_any _ _).mono ?_; rintro e w' ⟨rfl, rfl⟩))
            go_ret
            exact ⟨rfl, by repeat (first | exact Ext.refl _ | apply Ext.drew | apply Ext.alloc)⟩
          | true =>
            go_enter Try.func133, Try.ntmps133
            go_wp2_with (first | (go_at_call 139; refine (isAccount_any _ _).mono ?_; rintro e w' ⟨rfl, rfl⟩) | (go_at_call 140; refine (isCmdId_any _ _).mono ?_; rintro e w' ⟨rfl, rfl⟩) | (go_at_call 141; refine (isAmount_any _ _).mono ?_; rintro e w' ⟨rfl, rfl⟩))
            go_ret
            exact ⟨rfl, by repeat (first | exact Ext.refl _ | apply Ext.drew | apply Ext.alloc)⟩

set_option maxHeartbeats 1000000 in
theorem faultOfCmd_read (k i f t a : Int) (w : World) (hk : (k == 1) = false) (_hk0 : (k == 0) = false) :
    Calls Try.prog 133 #[.agg #[.int .i64 k, .int .i64 i, .int .i64 f, .int .i64 t, .int .i64 a]] w (IntExt (codeR i f) w) := by
  unfold codeR
  cases h0 : acctB f with
  | false =>
    go_enter Try.func133, Try.ntmps133
    go_wp2_with (first | (go_at_call 139; refine (isAccount_any _ _).mono ?_; rintro e w' ⟨rfl, rfl⟩) | (go_at_call 140; refine (isCmdId_any _ _).mono ?_; rintro e w' ⟨rfl, rfl⟩) | (go_at_call 141; refine (isAmount_any _ _).mono ?_; rintro e w' ⟨rfl, rfl⟩))
    go_ret
    exact ⟨rfl, by repeat (first | exact Ext.refl _ | apply Ext.drew | apply Ext.alloc)⟩
  | true =>
    cases h1 : inB i 1 999 with
    | false =>
      go_enter Try.func133, Try.ntmps133
      go_wp2_with (first | (go_at_call 139; refine (isAccount_any _ _).mono ?_; rintro e w' ⟨rfl, rfl⟩) | (go_at_call 140; refine (isCmdId_any _ _).mono ?_; rintro e w' ⟨rfl, rfl⟩) | (go_at_call 141; refine (isAmount_any _ _).mono ?_; rintro e w' ⟨rfl, rfl⟩))
      go_ret
      exact ⟨rfl, by repeat (first | exact Ext.refl _ | apply Ext.drew | apply Ext.alloc)⟩
    | true =>
      go_enter Try.func133, Try.ntmps133
      go_wp2_with (first | (go_at_call 139; refine (isAccount_any _ _).mono ?_; rintro e w' ⟨rfl, rfl⟩) | (go_at_call 140; refine (isCmdId_any _ _).mono ?_; rintro e w' ⟨rfl, rfl⟩) | (go_at_call 141; refine (isAmount_any _ _).mono ?_; rintro e w' ⟨rfl, rfl⟩))
      go_ret
      exact ⟨rfl, by repeat (first | exact Ext.refl _ | apply Ext.drew | apply Ext.alloc)⟩

end Go.Proofs.Ytjfnkcohpffigaa

namespace Go.Proofs.Ytjfnkcohpffigaa
open Go.RowKit
set_option linter.unusedVariables false

def zeroB (i f t a : Int) : Bool := i == 0 && (f == 0 && (t == 0 && a == 0))
/-- Whether a command is good. -/
def goodB (k i f t a : Int) : Bool := if k == 0 then zeroB i f t a else if k == 1 then codeM i f t a == 0 else if k == 2 then (codeR i f == 0 && t == 0) && a == 0 else false
theorem goodB_0 (i f t a : Int) : goodB 0 i f t a = zeroB i f t a := rfl
theorem goodB_1 (i f t a : Int) : goodB 1 i f t a = (codeM i f t a == 0) := rfl
theorem goodB_2 (i f t a : Int) : goodB 2 i f t a = ((codeR i f == 0 && t == 0) && a == 0) := rfl
theorem goodB_else {k : Int} (i f t a : Int) (h0 : (k == 0) = false) (h1 : (k == 1) = false) (h2 : (k == 2) = false) : goodB k i f t a = false := by
  unfold goodB; simp [h0, h1, h2]

set_option maxHeartbeats 1000000 in
theorem specGood_0 (i f t a : Int) (w : World) :
    Calls Try.prog 65 #[.agg #[.int .i64 0, .int .i64 i, .int .i64 f, .int .i64 t, .int .i64 a]] w (BoolExt (zeroB i f t a) w) := by
  unfold zeroB
  go_enter Try.func65, Try.ntmps65
  go_wp2
  all_goals go_ret
  all_goals refine ⟨?_, by repeat (first | assumption | exact Ext.refl _ | apply Ext.drew | apply Ext.alloc)⟩
  all_goals first | rfl | simp [*]

set_option maxHeartbeats 1000000 in
theorem specGood_1 (i f t a : Int) (w : World) :
    Calls Try.prog 65 #[.agg #[.int .i64 1, .int .i64 i, .int .i64 f, .int .i64 t, .int .i64 a]] w (BoolExt (codeM i f t a == 0) w) := by
  go_enter Try.func65, Try.ntmps65
  go_wp2_with fail
  refine (l2Code_move _ _ _ _ _).mono ?_
  rintro e w' ⟨rfl, hx⟩
  go_wp2
  go_ret
  exact ⟨rfl, Ext.trans (Ext.alloc (Ext.refl _) _) hx⟩

set_option maxHeartbeats 1000000 in
theorem specGood_2 (i f t a : Int) (w : World) :
    Calls Try.prog 65 #[.agg #[.int .i64 2, .int .i64 i, .int .i64 f, .int .i64 t, .int .i64 a]] w (BoolExt ((codeR i f == 0 && t == 0) && a == 0) w) := by
  by_cases ht : t = 0
  · by_cases ha : a = 0
    · subst ht; subst ha
      cases hc : (codeR i f == 0) with
      | false =>
        go_enter Try.func65, Try.ntmps65
        go_wp2_with fail
        refine (l2Code_read 2 _ _ _ _ _ rfl rfl).mono ?_
        rintro e w' ⟨rfl, hx⟩
        go_wp2
        go_ret
        exact ⟨rfl, Ext.trans (Ext.alloc (Ext.refl _) _) hx⟩
      | true =>
        go_enter Try.func65, Try.ntmps65
        go_wp2_with fail
        refine (l2Code_read 2 _ _ _ _ _ rfl rfl).mono ?_
        rintro e w' ⟨rfl, hx⟩
        have c1 := hx.cell (a := ⟨w.heap.size, 3, none⟩) (v := .int .i64 0) (by go_simp)
        have c2 := hx.cell (a := ⟨w.heap.size, 4, none⟩) (v := .int .i64 0) (by go_simp)
        go_wp2
        go_ret
        exact ⟨rfl, Ext.trans (Ext.alloc (Ext.refl _) _) hx⟩
    · have e2 : (a == 0) = false := by simp [ha]
      subst ht
      cases hc : (codeR i f == 0) with
      | false =>
        go_enter Try.func65, Try.ntmps65
        go_wp2_with fail
        refine (l2Code_read 2 _ _ _ _ _ rfl rfl).mono ?_
        rintro e w' ⟨rfl, hx⟩
        go_wp2
        go_ret
        exact ⟨rfl, Ext.trans (Ext.alloc (Ext.refl _) _) hx⟩
      | true =>
        go_enter Try.func65, Try.ntmps65
        go_wp2_with fail
        refine (l2Code_read 2 _ _ _ _ _ rfl rfl).mono ?_
        rintro e w' ⟨rfl, hx⟩
        have c1 := hx.cell (a := ⟨w.heap.size, 3, none⟩) (v := .int .i64 0) (by go_simp)
        have c2 := hx.cell (a := ⟨w.heap.size, 4, none⟩) (v := .int .i64 a) (by go_simp)
        go_wp2
        go_ret
        exact ⟨by rw [e2]; rfl, Ext.trans (Ext.alloc (Ext.refl _) _) hx⟩
  · have e1 : (t == 0) = false := by simp [ht]
    cases hc : (codeR i f == 0) with
    | false =>
      go_enter Try.func65, Try.ntmps65
      go_wp2_with fail
      refine (l2Code_read 2 _ _ _ _ _ rfl rfl).mono ?_
      rintro e w' ⟨rfl, hx⟩
      go_wp2
      go_ret
      exact ⟨rfl, Ext.trans (Ext.alloc (Ext.refl _) _) hx⟩
    | true =>
      go_enter Try.func65, Try.ntmps65
      go_wp2_with fail
      refine (l2Code_read 2 _ _ _ _ _ rfl rfl).mono ?_
      rintro e w' ⟨rfl, hx⟩
      have c1 := hx.cell (a := ⟨w.heap.size, 3, none⟩) (v := .int .i64 t) (by go_simp)
      go_wp2
      go_ret
      exact ⟨by rw [e1]; rfl, Ext.trans (Ext.alloc (Ext.refl _) _) hx⟩

set_option maxHeartbeats 1000000 in
theorem specGood_else (k i f t a : Int) (w : World) (h0 : (k == 0) = false) (h1 : (k == 1) = false) (h2 : (k == 2) = false) :
    Calls Try.prog 65 #[.agg #[.int .i64 k, .int .i64 i, .int .i64 f, .int .i64 t, .int .i64 a]] w (BoolExt false w) := by
  go_enter Try.func65, Try.ntmps65
  go_wp2
  go_ret
  exact ⟨rfl, by repeat (first | assumption | exact Ext.refl _ | apply Ext.drew | apply Ext.alloc)⟩

theorem specGood_any (k i f t a : Int) (w : World) :
    Calls Try.prog 65 #[.agg #[.int .i64 k, .int .i64 i, .int .i64 f, .int .i64 t, .int .i64 a]] w (BoolExt (goodB k i f t a) w) := by
  by_cases h0 : k = 0
  · subst h0; exact specGood_0 i f t a w
  · by_cases h1 : k = 1
    · subst h1; exact specGood_1 i f t a w
    · by_cases h2 : k = 2
      · subst h2; exact specGood_2 i f t a w
      · have g0 : (k == 0) = false := by simp [h0]
        have g1 : (k == 1) = false := by simp [h1]
        have g2 : (k == 2) = false := by simp [h2]
        rw [goodB_else i f t a g0 g1 g2]
        exact specGood_else k i f t a w g0 g1 g2

set_option maxHeartbeats 1000000 in
theorem implGood_0 (i f t a : Int) (w : World) :
    Calls Try.prog 117 #[.agg #[.int .i64 0, .int .i64 i, .int .i64 f, .int .i64 t, .int .i64 a]] w (BoolExt (zeroB i f t a) w) := by
  unfold zeroB
  go_enter Try.func117, Try.ntmps117
  go_wp2
  all_goals go_ret
  all_goals refine ⟨?_, by repeat (first | assumption | exact Ext.refl _ | apply Ext.drew | apply Ext.alloc)⟩
  all_goals first | rfl | simp [*]

set_option maxHeartbeats 1000000 in
theorem implGood_1 (i f t a : Int) (w : World) :
    Calls Try.prog 117 #[.agg #[.int .i64 1, .int .i64 i, .int .i64 f, .int .i64 t, .int .i64 a]] w (BoolExt (codeM i f t a == 0) w) := by
  go_enter Try.func117, Try.ntmps117
  go_wp2_with fail
  refine (faultOfCmd_move _ _ _ _ _).mono ?_
  rintro e w' ⟨rfl, hx⟩
  go_wp2
  go_ret
  exact ⟨rfl, Ext.trans (Ext.alloc (Ext.refl _) _) hx⟩

set_option maxHeartbeats 1000000 in
theorem implGood_2 (i f t a : Int) (w : World) :
    Calls Try.prog 117 #[.agg #[.int .i64 2, .int .i64 i, .int .i64 f, .int .i64 t, .int .i64 a]] w (BoolExt ((codeR i f == 0 && t == 0) && a == 0) w) := by
  by_cases ht : t = 0
  · by_cases ha : a = 0
    · subst ht; subst ha
      go_enter Try.func117, Try.ntmps117
      go_wp2_with fail
      refine (faultOfCmd_read 2 _ _ _ _ _ rfl rfl).mono ?_
      rintro e w' ⟨rfl, hx⟩
      go_wp2
      go_ret
      exact ⟨by simp, Ext.trans (Ext.alloc (Ext.refl _) _) hx⟩
    · have e2 : (a != 0) = true := by simp [ha]
      have e3 : (a == 0) = false := by simp [ha]
      subst ht
      go_enter Try.func117, Try.ntmps117
      go_wp2
      go_ret
      exact ⟨by simp [ha], by repeat (first | assumption | exact Ext.refl _ | apply Ext.drew | apply Ext.alloc)⟩
  · have e1 : (t != 0) = true := by simp [ht]
    go_enter Try.func117, Try.ntmps117
    go_wp2
    go_ret
    exact ⟨by simp [ht], by repeat (first | assumption | exact Ext.refl _ | apply Ext.drew | apply Ext.alloc)⟩

set_option maxHeartbeats 1000000 in
theorem implGood_else (k i f t a : Int) (w : World) (h0 : (k == 0) = false) (h1 : (k == 1) = false) (h2 : (k == 2) = false) :
    Calls Try.prog 117 #[.agg #[.int .i64 k, .int .i64 i, .int .i64 f, .int .i64 t, .int .i64 a]] w (BoolExt false w) := by
  go_enter Try.func117, Try.ntmps117
  go_wp2
  go_ret
  exact ⟨rfl, by repeat (first | assumption | exact Ext.refl _ | apply Ext.drew | apply Ext.alloc)⟩

theorem implGood_any (k i f t a : Int) (w : World) :
    Calls Try.prog 117 #[.agg #[.int .i64 k, .int .i64 i, .int .i64 f, .int .i64 t, .int .i64 a]] w (BoolExt (goodB k i f t a) w) := by
  by_cases h0 : k = 0
  · subst h0; exact implGood_0 i f t a w
  · by_cases h1 : k = 1
    · subst h1; exact implGood_1 i f t a w
    · by_cases h2 : k = 2
      · subst h2; exact implGood_2 i f t a w
      · have g0 : (k == 0) = false := by simp [h0]
        have g1 : (k == 1) = false := by simp [h1]
        have g2 : (k == 2) = false := by simp [h2]
        rw [goodB_else i f t a g0 g1 g2]
        exact implGood_else k i f t a w g0 g1 g2

end Go.Proofs.Ytjfnkcohpffigaa

namespace Go.Proofs.Ytjfnkcohpffigaa
open Go.RowKit

def isGrp (n : Int) : Bool := n == 3 || n == 5
theorem isGrp_of {n : Int} (h : isGrp n = true) : n = 3 ∨ n = 5 := by simpa [isGrp] using h
theorem isGrp_no {n : Int} (h : isGrp n = false) : (n == 3) = false ∧ (n == 5) = false := by simpa [isGrp] using h

theorem specIsGroup_any (n : Int) (w : World) : Calls Try.prog 60 #[.int .i64 n] w (fun e w' => e = .returned (.bool (isGrp n)) ∧ w = w') := by
  cases h : isGrp n with
  | true =>
    rcases isGrp_of h with rfl | rfl
    all_goals
      clear h
      go_enter Try.func60, Try.ntmps60
      go_wp2
      go_ret
      exact ⟨rfl, rfl⟩
  | false =>
    obtain ⟨h3, h5⟩ := isGrp_no h
    clear h
    go_enter Try.func60, Try.ntmps60
    go_wp2
    go_ret
    exact ⟨rfl, rfl⟩
theorem implIsGroup_any (n : Int) (w : World) : Calls Try.prog 81 #[.int .i64 n] w (fun e w' => e = .returned (.bool (isGrp n)) ∧ w = w') := by
  cases h : isGrp n with
  | true =>
    rcases isGrp_of h with rfl | rfl
    all_goals
      clear h
      go_enter Try.func81, Try.ntmps81
      go_wp2
      go_ret
      exact ⟨rfl, rfl⟩
  | false =>
    obtain ⟨h3, h5⟩ := isGrp_no h
    clear h
    go_enter Try.func81, Try.ntmps81
    go_wp2
    go_ret
    exact ⟨rfl, rfl⟩

end Go.Proofs.Ytjfnkcohpffigaa

namespace Go.Proofs.Ytjfnkcohpffigaa
open Go.RowKit

set_option maxHeartbeats 400000 in
theorem l1All_any (v : Value) (l : List Int) (lo hi : Int) (w : World) (hv : Ints w v l) :
    Calls Try.prog 102 #[v, .int .i64 lo, .int .i64 hi] w (BoolExt (allIn l lo hi) w) := by
  obtain ⟨av, cv, rfl, hlv, _, hcv⟩ := hv
  unfold maxLen at hlv
  go_enter Try.func102, Try.ntmps102
  go_wp2
  go_loopw [8, 11] (fun _ i wr => ∃ k : Nat, k ≤ l.length ∧ i = .int .i64 k ∧ (l.take k).all (fun x => inB x lo hi) = true ∧ Ext w wr) (fun _ i _ => l.length - (intOf i).toNat)
  case atStart => exact ⟨0, Nat.zero_le _, rfl, by simp, Ext.refl _⟩
  case round =>
    obtain ⟨k, hk, rfl, ht, hx⟩ := hrel
    have HT := Lib.hid ht
    clear ht
    by_cases hlt : k < l.length
    · obtain ⟨bv, ov, rfl, dv⟩ := hcv (by omega)
      have gv := hx.cell (dv k hlt)
      clear hcv dv
      cases hp : inB l[k] lo hi with
      | true =>
        go_wp2_with (go_at_call 61; refine (l1In_any _ _ _ _).mono ?_; rintro e w' ⟨rfl, rfl⟩)
        go_roundw
        case rel => exact ⟨k + 1, by omega, by go_num, all_take_succ hlt _ HT.out (by simpa [hlt] using hp), hx⟩
        case measure => simp [intOf]; omega
      | false =>
        go_wp2_with (go_at_call 61; refine (l1In_any _ _ _ _).mono ?_; rintro e w' ⟨rfl, rfl⟩)
        go_ret
        refine ⟨?_, hx⟩
        have hf : allIn l lo hi = false := all_false_at hlt _ (by simpa [hlt] using hp)
        rw [hf]; rfl
    · obtain rfl : k = l.length := by omega
      go_wp2
      go_ret
      refine ⟨?_, hx⟩
      have hf : allIn l lo hi = true := by have h := HT.out; rwa [List.take_length] at h
      rw [hf]; rfl


end Go.Proofs.Ytjfnkcohpffigaa
