/- What stands between two steps of goFrom: the state, the way's list in memory, and how far the search has come. -/
import Derived.Test.YtnmnbeklofnonaaTsTell
namespace Go.Proofs.Ytnmnbeklofnonaa
open Go.RowKit
set_option linter.unusedVariables false

/-! ### How far the search has come -/
/-- How many of the first n points are not met. -/
def unmet (N : Nat → Nat) : Nat → Nat
  | 0 => 0
  | n + 1 => unmet N n + (if N n = 0 then 1 else 0)
theorem unmet_upd (N : Nat → Nat) (c v : Nat) (hv : v ≠ 0) (hc : N c = 0) : ∀ n, unmet (upd N c v) n + (if c < n then 1 else 0) = unmet N n
  | 0 => by simp [unmet]
  | n + 1 => by
    have ih := unmet_upd N c v hv hc n
    unfold unmet
    by_cases e : n = c
    · subst e
      have e1 : (if n < n + 1 then 1 else 0 : Nat) = 1 := if_pos (by omega)
      have e2 : (if n < n then 1 else 0 : Nat) = 0 := if_neg (by omega)
      rw [upd_same, if_neg hv, if_pos hc, e1]
      rw [e2] at ih
      omega
    · rw [upd_other N v e]
      by_cases hlt : c < n
      · have e1 : (if c < n + 1 then 1 else 0 : Nat) = 1 := if_pos (by omega)
        rw [e1]
        rw [if_pos hlt] at ih
        omega
      · have e1 : (if c < n + 1 then 1 else 0 : Nat) = 0 := if_neg (by omega)
        rw [e1]
        rw [if_neg hlt] at ih
        omega
theorem unmet_start (n : Nat) : unmet (fun _ => 0) n = n := by
  induction n with
  | zero => rfl
  | succ n ih => unfold unmet; rw [ih]; simp

/-- The numbers agree. -/
structure Cnt (g : List (List Int)) (S : TS) : Prop where
  some : S.grp.length + S.opn.length ≤ S.met
  all : S.met + unmet S.N g.length = g.length
theorem Cnt.meet {g : List (List Int)} {S : TS} {c : Nat} (h : Cnt g S) (hc : c < g.length) (hn : S.N c = 0) : Cnt g (meetS S c) := by
  refine ⟨?_, ?_⟩
  · show S.grp.length + (S.opn ++ [c]).length ≤ S.met + 1
    rw [List.length_append, List.length_singleton]
    have := h.some; omega
  · show S.met + 1 + unmet (upd S.N c (S.met + 1)) g.length = g.length
    have := unmet_upd S.N c (S.met + 1) (by omega) hn g.length
    rw [if_pos hc] at this
    have := h.all; omega
theorem Cnt.left {g : List (List Int)} {S : TS} {c : Nat} (h : Cnt g S) (hc : c < g.length) (hn : S.N c = 0) : unmet (meetS S c).N g.length + 1 = unmet S.N g.length := by
  have := unmet_upd S.N c (S.met + 1) (by omega) hn g.length
  rwa [if_pos hc] at this
theorem Cnt.tell {g : List (List Int)} {S : TS} {A C : List Nat} {p : Nat} (h : Cnt g S) (e : S.opn = A ++ p :: C) : Cnt g (tellS S A C p) := by
  refine ⟨?_, h.all⟩
  show (S.grp ++ [sortI (natsI (p :: C))]).length + A.length ≤ S.met
  have := h.some
  rw [e] at this
  simp at this ⊢
  omega
theorem Inv.way_len {g : List (List Int)} {S : TS} {way : List Nat} (h : Inv g S way) : way.length ≤ S.met := by
  have hr : Rises (way.map fun q => (S.N q : Int)) := by
    unfold Rises
    rw [List.pairwise_map]
    exact h.wsort.imp (fun h => by omega)
  have := rises_len 1 ((S.met : Int) + 1) hr (fun x hx => by
    obtain ⟨q, hq, rfl⟩ := List.mem_map.1 hx
    have h1 := h.opmet q (h.wop q hq)
    have h2 := h.le q
    omega) (by omega)
  rw [List.length_map] at this
  omega

/-! ### What lies in memory -/
def GoS (B X : Nat) (wb : World) (gv : Value) (w : World) (S : TS) (way : List Nat) (wv : Value) : Prop :=
  ∃ grv ov vs, MemT B X w gv grv ov vs S ∧ Fresh B w wv (natsI way) ∧ (wv.ownBlock = none ∨ wv.ownBlock ≠ ov.ownBlock) ∧ (∀ (j : Nat) (u : Value), vs[j]? = some u → u.ownBlock = none ∨ u.ownBlock ≠ wv.ownBlock) ∧ Ext wb w ∧ B ≤ w.heap.size

theorem MemT.setX {B X : Nat} {w : World} {gv grv ov : Value} {vs : List Value} {S S' : TS} (h : MemT B X w gv grv ov vs S) (hXB : X < B) (i : Nat) (v : Value) (t : TsAt (w.setCell ⟨X, i, none⟩ v) X gv grv ov S') (e1 : S'.opn = S.opn) (e2 : S'.grp = S.grp) : MemT B X (w.setCell ⟨X, i, none⟩ v) gv grv ov vs S' :=
  ⟨t, by rw [e1]; exact h.opn.setOut hXB i v, row_setOut h.grp hXB i v, ⟨by rw [e2]; exact h.rows.len, fun j u l hu hl => (h.rows.row j u l hu (by rw [← e2]; exact hl)).setOut hXB i v, h.rows.apart⟩, h.far⟩
theorem MemT.drew {B X : Nat} {w : World} {gv grv ov : Value} {vs : List Value} {S : TS} (h : MemT B X w gv grv ov vs S) (n : Nat) : MemT B X (w.drewN n) gv grv ov vs S :=
  have e : Ext w (w.drewN n) := (Ext.refl w).drewN n
  ⟨Ext.block e h.ts, h.opn.ext e, h.grp.ext e, h.rows.ext e, h.far⟩
theorem MemT.ext {B X : Nat} {w w' : World} {gv grv ov : Value} {vs : List Value} {S : TS} (h : MemT B X w gv grv ov vs S) (e : Ext w w') : MemT B X w' gv grv ov vs S :=
  ⟨Ext.block e h.ts, h.opn.ext e, h.grp.ext e, h.rows.ext e, h.far⟩

theorem GoS.ext {B X : Nat} {wb w w' : World} {gv wv : Value} {S : TS} {way : List Nat} (h : GoS B X wb gv w S way wv) (e : Ext w w') : GoS B X wb gv w' S way wv := by
  obtain ⟨grv, ov, vs, hm, hw, h1, h2, h3, h4⟩ := h
  exact ⟨grv, ov, vs, hm.ext e, hw.ext e, h1, h2, h3.trans e, Nat.le_trans h4 e.size⟩
theorem GoS.set {B X : Nat} {wb w : World} {gv wv : Value} {S S' : TS} {way : List Nat} (h : GoS B X wb gv w S way wv) (hXB : X < B) (hwb : wb.heap.size ≤ X) (i : Nat) (v : Value) (t : ∀ grv ov, TsAt w X gv grv ov S → TsAt (w.setCell ⟨X, i, none⟩ v) X gv grv ov S') (e1 : S'.opn = S.opn) (e2 : S'.grp = S.grp) : GoS B X wb gv (w.setCell ⟨X, i, none⟩ v) S' way wv := by
  obtain ⟨grv, ov, vs, hm, hw, h1, h2, h3, h4⟩ := h
  exact ⟨grv, ov, vs, hm.setX hXB i v (t _ _ hm.ts) e1 e2, hw.setOut hXB i v, h1, h2, Below.setCell h3 hwb _, by simpa using h4⟩

/-- The way grows by a point. -/
theorem GoS.push {B X g cap : Nat} {wb w w' : World} {gv wv : Value} {S : TS} {way : List Nat} {c n : Nat} {o : Obj} (h : GoS B X wb gv w S way wv) (hXB : X < B) (hwb : wb.heap.size ≤ X)
    (f : Fresh B w' (.slice (some ⟨g, 0, none⟩) n cap) (natsI (way ++ [c]))) (t : (w.alloc o).grownBy w' wv.ownBlock) (hg : wv.ownBlock = some g ∨ g = (w.alloc o).heap.size) : GoS B X wb gv w' S (way ++ [c]) (.slice (some ⟨g, 0, none⟩) n cap) := by
  have ha := h.ext (Ext.alloc (Ext.refl w) o)
  obtain ⟨grv, ov, vs, hm, hw, h1, h2, h3, h4⟩ := ha
  have hnx : wv.ownBlock ≠ some X := fun e => by have := (World.ownsRow.lt hw X e).1; omega
  have hX : X < (w.alloc o).heap.size := by omega
  have away : ∀ (z : Value) (b : Nat), z.ownBlock = some b → b < (w.alloc o).heap.size → (z.ownBlock = none ∨ z.ownBlock ≠ wv.ownBlock) → z.ownBlock = none ∨ z.ownBlock ≠ some g := fun z b hz hb hne => by
    right
    intro e
    rcases hg with hg | hg
    · rcases hne with hne | hne
      · rw [hne] at hz; cases hz
      · exact hne (by rw [e, hg])
    · rw [hz] at e
      have := Option.some.inj e
      omega
  have own : ∀ (j : Nat) (u : Value), vs[j]? = some u → ∀ b, u.ownBlock = some b → b < (w.alloc o).heap.size := fun j u hu b hb => by
    have hj : j < vs.length := (List.getElem?_eq_some_iff.1 hu).1
    exact (World.ownsRow.lt (hm.rows.row j u _ hu (List.getElem?_eq_getElem (by rw [← hm.rows.len]; exact hj))) b hb).2
  refine ⟨grv, ov, vs, ⟨?_, ?_, ?_, ⟨hm.rows.len, fun j u l hu hl => ?_, hm.rows.apart⟩, hm.far⟩, f, ?_, fun j u hu => ?_, ?_, Nat.le_trans h4 t.size⟩
  · unfold TsAt
    rw [t.block X hX (fun e => hnx e.symm)]; exact hm.ts
  · refine World.ownsRow.kept hm.opn t ?_
    cases ho : ov.ownBlock with
    | none => exact .inl rfl
    | some b =>
      refine .inr fun e => ?_
      rcases h1 with h1 | h1
      · rw [h1] at e; cases e
      · exact h1 (by rw [ho, e])
  · exact World.ownsRow.kept hm.grp t (types_apart hw hm.grp (by decide))
  · exact World.ownsRow.kept (hm.rows.row j u l hu hl) t (h2 j u hu)
  · cases ho : ov.ownBlock with
    | none => exact .inr (by simp [Value.ownBlock])
    | some b =>
      right
      intro e
      have hb := (World.ownsRow.lt hm.opn b ho).2
      have hov : ov.ownBlock = none ∨ ov.ownBlock ≠ wv.ownBlock := by
        rcases h1 with h1 | h1
        · exact .inr (by rw [h1, ho]; simp)
        · exact .inr (fun e' => h1 e'.symm)
      rcases away ov b ho hb hov with h5 | h5
      · rw [h5] at ho; cases ho
      · exact h5 (by rw [ho]; exact e.symm)
  · cases hu' : u.ownBlock with
    | none => exact .inl rfl
    | some b =>
      have := away u b hu' (own j u hu b hu') (h2 j u hu)
      rwa [hu'] at this
  · exact Below.grown h3 t h3.size (fun k hk => by have := (World.ownsRow.lt hw k hk).1; omega)

theorem own_len (ao : Option Addr) (n m cap : Nat) : (Value.slice ao n cap).ownBlock = (Value.slice ao m cap).ownBlock := by
  rcases ao with _ | ⟨b, o, s⟩ <;> rfl
/-- The way is cut short by its last point. -/
theorem GoS.pop {B X n cap : Nat} {wb w : World} {gv : Value} {S : TS} {way : List Nat} {p : Nat} {ao : Option Addr} (h : GoS B X wb gv w S (way ++ [p]) (.slice ao (n + 1) cap)) (hn : way.length = n) : GoS B X wb gv w S way (.slice ao n cap) := by
  obtain ⟨grv, ov, vs, hm, hw, h1, h2, h3, h4⟩ := h
  have e : (natsI (way ++ [p])).length = n + 1 := by rw [natsI_len, List.length_append, hn]; rfl
  have hl := Fresh.less (k := n) (l := natsI (way ++ [p])) (by rw [e]; exact hw) (by omega)
  have e2 : (natsI (way ++ [p])).take n = natsI way := by
    unfold natsI
    rw [List.map_append, show n = (way.map fun (n : Nat) => (n : Int)).length by simp [hn], List.take_left]
  rw [e2] at hl
  rw [own_len ao (n + 1) n] at h1
  refine ⟨grv, ov, vs, hm, hl, h1, fun j u hu => ?_, h3, h4⟩
  rw [own_len ao n (n + 1)]
  exact h2 j u hu

/-- A point is met. -/
theorem GoS.meet {B X c g cap n : Nat} {wb w w' : World} {gv wv grv ov : Value} {vs : List Value} {S : TS} {way : List Nat} (hm : MemT B X w gv grv ov vs S) (hw : Fresh B w wv (natsI way)) (h1 : wv.ownBlock = none ∨ wv.ownBlock ≠ ov.ownBlock) (h2 : ∀ (j : Nat) (u : Value), vs[j]? = some u → u.ownBlock = none ∨ u.ownBlock ≠ wv.ownBlock) (h3 : Ext wb w) (h4 : B ≤ w.heap.size) (hXB : X < B) (hwb : wb.heap.size ≤ X)
    (t : TsAt w' X gv grv (.slice (some ⟨g, 0, none⟩) n cap) (meetS S c)) (f : Fresh B w' (.slice (some ⟨g, 0, none⟩) n cap) (natsI (S.opn ++ [c]))) (k : But X ov w w') (hg : ov.ownBlock = some g ∨ w.heap.size ≤ g) : GoS B X wb gv w' (meetS S c) way wv := by
  refine ⟨grv, _, vs, hm.meet hXB t f k hg, k.row hw (fun e => by have := (World.ownsRow.lt hw X e).1; omega) h1, ?_, h2, k.ext h3 hwb (fun b hb => by have := (World.ownsRow.lt hm.opn b hb).1; omega), Nat.le_trans h4 k.size⟩
  cases hv : wv.ownBlock with
  | none => exact .inl rfl
  | some b =>
    refine .inr fun e => ?_
    have e : b = g := Option.some.inj e
    rcases hg with hg | hg
    · rcases h1 with h1 | h1
      · rw [h1] at hv; cases hv
      · exact h1 (by rw [hv, hg, e])
    · have := (World.ownsRow.lt hw b hv).2
      omega

/-- A group is told. -/
theorem GoS.tell {B X : Nat} {wb w w' : World} {gv wv grv ov grv' ov' : Value} {vs vs' : List Value} {S S' : TS} {way : List Nat} (hm : MemT B X w gv grv ov vs S) (hw : Fresh B w wv (natsI way)) (h1 : wv.ownBlock = none ∨ wv.ownBlock ≠ ov.ownBlock) (h2 : ∀ (j : Nat) (u : Value), vs[j]? = some u → u.ownBlock = none ∨ u.ownBlock ≠ wv.ownBlock) (h3 : Ext wb w) (h4 : B ≤ w.heap.size) (hXB : X < B) (hwb : wb.heap.size ≤ X)
    (m' : MemT B X w' gv grv' ov' vs' S') (k : But X grv w w') (ho : ov'.ownBlock = none ∨ ov'.ownBlock = ov.ownBlock) (hv : ∀ (j : Nat) (u : Value), vs'[j]? = some u → vs[j]? = some u ∨ ∀ b, u.ownBlock = some b → w.heap.size ≤ b) : GoS B X wb gv w' S' way wv := by
  refine ⟨grv', ov', vs', m', k.row hw (fun e => by have := (World.ownsRow.lt hw X e).1; omega) (types_apart hm.grp hw (by decide)), ?_, fun j u hu => ?_, k.ext h3 hwb (fun b hb => by have := (World.ownsRow.lt hm.grp b hb).1; omega), Nat.le_trans h4 k.size⟩
  · rcases ho with ho | ho
    · cases hv' : wv.ownBlock with
      | none => exact .inl rfl
      | some b => exact .inr (by rw [ho]; simp)
    · rw [ho]; exact h1
  · rcases hv j u hu with h5 | h5
    · exact h2 j u h5
    · cases hu' : u.ownBlock with
      | none => exact .inl rfl
      | some b =>
        refine .inr fun e => ?_
        have := h5 b hu'
        have := (World.ownsRow.lt hw b e.symm).2
        omega

end Go.Proofs.Ytnmnbeklofnonaa
