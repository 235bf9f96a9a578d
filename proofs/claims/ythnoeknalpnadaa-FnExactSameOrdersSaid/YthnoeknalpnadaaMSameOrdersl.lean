/- Texts of this proof, part l: words, plain facts, contracts. -/
import Derived.Test.YthnoeknalpnadaaMSameOrdersk
import Derived.Test.YthnoeknalpnadaaMSameOrdersi
import Derived.Test.YthnoeknalpnadaaMSameOrdersj
import Derived.Test.YthnoeknalpnadaaMSameOrdersf
import Derived.Test.YthnoeknalpnadaaMSameOrdersh
import Derived.Deep.DeepCutAuto

namespace Go.Proofs.Ythnoeknalpnadaa
open Go.RowKit
set_option linter.unusedVariables false

/-- A slice that reads as L, and a Bool, come back. -/
def ReadSS (L : List (List Int)) (b : Bool) (w : World) (e : Ending) (w' : World) : Prop := ∃ v, e = .returned (.tuple #[v, .bool b]) ∧ Intss w' v L ∧ Ext w w'
/-- The argument's box N, the model's answer v3 as it lay in W3, the program's v5 (from B on). -/
structure LiveQ (w W3 W : World) (N B : Nat) (n : Int) (v v3 v5 : Value) (L M : List (List Int)) : Prop where
  ext : Ext w W
  arg : AttrAt W N n v
  old : Ext W3 W
  i3 : Intss W3 v3 L
  f5 : FreshSS B W v5 M
theorem LiveQ.read {w W3 W : World} {N B : Nat} {n : Int} {v v3 v5 : Value} {L M : List (List Int)} (h : LiveQ w W3 W N B n v v3 v5 L M) : Intss W v3 L := h.i3.ext h.old
theorem LiveQ.on {w W3 W W' : World} {N B : Nat} {n : Int} {v v3 v5 : Value} {L M : List (List Int)} (h : LiveQ w W3 W N B n v v3 v5 L M) (e : Ext W W') : LiveQ w W3 W' N B n v v3 v5 L M :=
  ⟨h.ext.trans e, h.arg.ext e, h.old.trans e, h.i3, h.f5.ext e⟩
theorem LiveQ.ins {w W3 W W' : World} {N B lo hi : Nat} {n : Int} {v v3 v5 : Value} {L M : List (List Int)} (h : LiveQ w W3 W N B n v v3 v5 L M) (k : Ins lo hi W W')
    (h0 : w.heap.size ≤ lo) (hN : N < lo) (hh : W3.heap.size ≤ lo) (hB : hi ≤ B) : LiveQ w W3 W' N B n v v3 v5 L M :=
  ⟨k.ext h.ext h0, h.arg.ins k (.inl hN), k.ext h.old hh, h.i3, h.f5.ins k hB⟩
theorem LiveQ.mark {w W3 W W' : World} {N B : Nat} {n : Int} {v v3 v5 : Value} {L M M' : List (List Int)} (h : LiveQ w W3 W N B n v v3 v5 L M) (k : Below B W W') (f' : FreshSS B W' v5 M')
    (h0 : w.heap.size ≤ B) (hN : N < B) (hh : W3.heap.size ≤ B) : LiveQ w W3 W' N B n v v3 v5 L M' :=
  ⟨h.ext.under k h0, ⟨(Below.cell k (p := ⟨N, 0, none⟩) hN).trans h.arg.1, (Below.cell k (p := ⟨N, 1, none⟩) hN).trans h.arg.2⟩, h.old.under k hh, h.i3, f'⟩
end Go.Proofs.Ythnoeknalpnadaa

namespace Go.Proofs.Ythnoeknalpnadaa
open Go.RowKit
set_option linter.unusedVariables false

/-- As FreshSS, all blocks below h. -/
def FreshSB (B h : Nat) (w : World) (v : Value) (L : List (List Int)) : Prop :=
  ∃ vs, w.ownsRow B 37 1 v L.length vs ∧ Rows_ B w vs L ∧ (∀ (j : Nat) (u : Value), vs[j]? = some u → u.ownBlock = none ∨ u.ownBlock ≠ v.ownBlock) ∧ Und h v ∧ ∀ (j : Nat) (u : Value), vs[j]? = some u → Und h u
theorem FreshSB.nil (B h : Nat) (w : World) : FreshSB B h w (.slice none 0 0) [] := ⟨[], World.ownsRow_nil _ _ _ _, Rows_.nil _ _, (fun _ _ h => by simp at h), (fun b e => by cases e), (fun _ _ h => by simp at h)⟩
theorem FreshSB.of {B h : Nat} {w : World} {v : Value} {L : List (List Int)} (f : FreshSS B w v L) (hb : w.heap.size ≤ h) : FreshSB B h w v L := by
  obtain ⟨vs, h1, h2, h3⟩ := f
  refine ⟨vs, h1, h2, h3, fun b e => Nat.lt_of_lt_of_le (World.ownsRow.lt h1 b e).2 hb, fun j u hu => ?_⟩
  have hj : j < vs.length := (List.getElem?_eq_some_iff.1 hu).1
  exact (h2.row j u _ hu (List.getElem?_eq_getElem (by rw [← h2.len]; exact hj))).und.more hb
theorem FreshSB.ss {B h : Nat} {w : World} {v : Value} {L : List (List Int)} (f : FreshSB B h w v L) : FreshSS B w v L := by
  obtain ⟨vs, h1, h2, h3, _, _⟩ := f
  exact ⟨vs, h1, h2, h3⟩
theorem FreshSB.ext {B h : Nat} {w w' : World} {v : Value} {L : List (List Int)} (f : FreshSB B h w v L) (e : Ext w w') : FreshSB B h w' v L := by
  obtain ⟨vs, h1, h2, h3, h4, h5⟩ := f
  exact ⟨vs, e.ownsRow h1, h2.ext e, h3, h4, h5⟩
theorem FreshSB.intss {B h : Nat} {w : World} {v : Value} {L : List (List Int)} (f : FreshSB B h w v L) : Intss w v L := f.ss.intss
theorem FreshSB.ins {B h lo hi : Nat} {w w' : World} {v : Value} {L : List (List Int)} (f : FreshSB B h w v L) (k : Ins lo hi w w') (hb : hi ≤ B ∨ h ≤ lo) : FreshSB B h w' v L := by
  obtain ⟨vs, h1, h2, h3, h4, h5⟩ := f
  refine ⟨vs, k.row h1 (fun b e => ?_), ⟨h2.len, fun j u l hu hl => k.row (h2.row j u l hu hl) (fun b e => ?_), h2.apart⟩, h3, h4, h5⟩
  · have := World.ownsRow.lt h1 b e
    have := h4 b e
    omega
  · have := World.ownsRow.lt (h2.row j u l hu hl) b e
    have := h5 j u hu b e
    omega
def MarksSB (B h : Nat) (k : Int) (v : Value) (L : List (List Int)) (w : World) (e : Ending) (w' : World) : Prop :=
  e = .returned (.int .i64 (k + (L.map List.length).sum)) ∧ FreshSB B h w' v (markedSS k L L.length) ∧ Ins B h w w'

/-- The argument's box N, the model's answers v3, u3 (below h3), the program's v5 (in [B, C)), u5 (in [C, H)). -/
structure LiveD (w W : World) (N h3 B C H : Nat) (n : Int) (v v3 u3 v5 u5 : Value) (L M L5 M5 : List (List Int)) : Prop where
  ext : Ext w W
  arg : AttrAt W N n v
  s3 : SSI h3 W v3 L
  t3 : SSI h3 W u3 M
  f5 : FreshSB B C W v5 L5
  g5 : FreshSB C H W u5 M5
theorem LiveD.on {w W W' : World} {N h3 B C H : Nat} {n : Int} {v v3 u3 v5 u5 : Value} {L M L5 M5 : List (List Int)} (h : LiveD w W N h3 B C H n v v3 u3 v5 u5 L M L5 M5) (e : Ext W W') : LiveD w W' N h3 B C H n v v3 u3 v5 u5 L M L5 M5 :=
  ⟨h.ext.trans e, h.arg.ext e, h.s3.ext e, h.t3.ext e, h.f5.ext e, h.g5.ext e⟩
theorem LiveD.ins {w W W' : World} {N h3 B C H lo hi : Nat} {n : Int} {v v3 u3 v5 u5 : Value} {L M L5 M5 : List (List Int)} (h : LiveD w W N h3 B C H n v v3 u3 v5 u5 L M L5 M5) (k : Ins lo hi W W')
    (h0 : w.heap.size ≤ lo) (hN : N < lo) (hh : h3 ≤ lo) (hs : h3 ≤ W.heap.size) (hB : hi ≤ B) (hC : B ≤ C) : LiveD w W' N h3 B C H n v v3 u3 v5 u5 L M L5 M5 :=
  ⟨k.ext h.ext h0, h.arg.ins k (.inl hN), h.s3.stood (k.stood hs (.inl hh)), h.t3.stood (k.stood hs (.inl hh)), h.f5.ins k (.inl hB), h.g5.ins k (.inl (Nat.le_trans hB hC))⟩
theorem LiveD.mark1 {w W W' : World} {N h3 B C H : Nat} {n : Int} {v v3 u3 v5 u5 : Value} {L M L5 M5 L6 : List (List Int)} (h : LiveD w W N h3 B C H n v v3 u3 v5 u5 L M L5 M5) (k : Ins B C W W') (f : FreshSB B C W' v5 L6)
    (h0 : w.heap.size ≤ B) (hN : N < B) (hh : h3 ≤ B) (hs : h3 ≤ W.heap.size) : LiveD w W' N h3 B C H n v v3 u3 v5 u5 L M L6 M5 :=
  ⟨k.ext h.ext h0, h.arg.ins k (.inl hN), h.s3.stood (k.stood hs (.inl hh)), h.t3.stood (k.stood hs (.inl hh)), f, h.g5.ins k (.inl (Nat.le_refl _))⟩
theorem LiveD.mark2 {w W W' : World} {N h3 B C H : Nat} {n : Int} {v v3 u3 v5 u5 : Value} {L M L5 M5 M6 : List (List Int)} (h : LiveD w W N h3 B C H n v v3 u3 v5 u5 L M L5 M5) (k : Ins C H W W') (g : FreshSB C H W' u5 M6)
    (h0 : w.heap.size ≤ C) (hN : N < C) (hh : h3 ≤ C) (hs : h3 ≤ W.heap.size) : LiveD w W' N h3 B C H n v v3 u3 v5 u5 L M L5 M6 :=
  ⟨k.ext h.ext h0, h.arg.ins k (.inl hN), h.s3.stood (k.stood hs (.inl hh)), h.t3.stood (k.stood hs (.inl hh)), h.f5.ins k (.inr (Nat.le_refl _)), g⟩

theorem bulk_by {L : List (List Int)} (r : Nat) (h : ∀ l ∈ L, l.length ≤ r) : bulk L ≤ (r + 1) * L.length := by
  unfold bulk
  induction L with
  | nil => simp
  | cons x t ih =>
    have h1 := h x (by simp)
    have h2 := ih (fun l hl => h l (by simp [hl]))
    simp only [List.map_cons, List.sum_cons, List.length_cons] at h2 ⊢
    rw [Nat.mul_add]
    omega

end Go.Proofs.Ythnoeknalpnadaa

namespace Go.Proofs.Ythnoeknalpnadaa
open Go.RowKit Go.Maps
set_option linter.unusedVariables false

/-- The places, in a list of instances, of those that are in P: rising. -/
def Got (L P : List (Nat × Nat)) (l : List Int) : Prop := Rises l ∧ ∀ z : Int, z ∈ l ↔ ∃ (k : Nat) (y : Nat × Nat), z = (k : Int) ∧ L[k]? = some y ∧ y ∈ P
theorem Got.nil (L : List (Nat × Nat)) : Got L [] [] := ⟨List.Pairwise.nil, fun z => by simp⟩
theorem pairOf_inj {x y : Nat × Nat} (h : pairOf x = pairOf y) : x = y := by
  unfold pairOf at h
  simp at h
  exact Prod.ext (by omega) (by omega)
theorem Got.none {L P : List (Nat × Nat)} {l : List Int} {y : Nat × Nat} (h : Got L P l) (hn : pairOf y ∉ L.map pairOf) : Got L (P ++ [y]) l := by
  have hy : y ∉ L := fun hm => hn (List.mem_map_of_mem hm)
  refine ⟨h.1, fun z => ?_⟩
  rw [h.2]
  constructor
  · rintro ⟨k, x, e, hk, hx⟩
    exact ⟨k, x, e, hk, by simp [hx]⟩
  · rintro ⟨k, x, e, hk, hx⟩
    rw [List.mem_append, List.mem_singleton] at hx
    rcases hx with hx | rfl
    · exact ⟨k, x, e, hk, hx⟩
    · exact absurd (List.mem_of_getElem? hk) hy
theorem Got.put {L P : List (Nat × Nat)} {l : List Int} {y : Nat × Nat} {k : Nat} (h : Got L P l) (hL : L.Nodup) (hk : (L.map pairOf)[k]? = some (pairOf y)) : Got L (P ++ [y]) (putI l k) := by
  have hky : L[k]? = some y := by
    rw [List.getElem?_map] at hk
    cases hx : L[k]? with
    | none => rw [hx] at hk; cases hk
    | some x =>
      rw [hx] at hk
      simp only [Option.map_some, Option.some.injEq] at hk
      rw [pairOf_inj hk]
  refine ⟨putI_rises _ h.1, fun z => ?_⟩
  rw [putI_mem, h.2]
  constructor
  · rintro (⟨k', x, e, hk', hx⟩ | e)
    · exact ⟨k', x, e, hk', by simp [hx]⟩
    · exact ⟨k, y, e, hky, by simp⟩
  · rintro ⟨k', x, e, hk', hx⟩
    rw [List.mem_append, List.mem_singleton] at hx
    rcases hx with hx | rfl
    · exact .inl ⟨k', x, e, hk', hx⟩
    · refine .inr ?_
      rw [e]
      obtain ⟨h1, e1⟩ := List.getElem?_eq_some_iff.1 hky
      obtain ⟨h2, e2⟩ := List.getElem?_eq_some_iff.1 hk'
      have := (List.getElem_inj hL).1 (e2.trans e1.symm)
      rw [this]
theorem got_row {n : Int} {T : List (List RowD)} (hg : goodTab n T = true) {x : Nat × Nat} (hx : x ∈ insts T) {l : List Int} (h : Got (insts T) (depsL n T x) l) : l = rowE n T (insts T) x (insts T).length := by
  refine rises_ext h.1 ?_ fun z => ?_
  · unfold rowE
    unfold Rises
    rw [List.pairwise_map]
    exact (List.pairwise_lt_range.filter _).imp fun h => by omega
  · rw [h.2]
    have hcx := com_row hg (mem_insts.1 hx)
    unfold rowE
    rw [List.mem_map]
    have key : ∀ y, y ∈ insts T → (y ∈ depsL n T x ↔ edgeB n T x y = true) := fun y hy => by
      have hcy := com_row hg (mem_insts.1 hy)
      have hd := dep_in hg hcx.2.2.1 x.2 y.1
      unfold depsL edgeB
      rw [mem_depsTo]
      unfold depN
      simp only [Bool.and_eq_true, Bool.not_eq_true', decide_eq_false_iff_not, decide_eq_true_eq]
      constructor
      · rintro ⟨h1, h2, h3⟩
        exact ⟨fun e => h3 e.symm, by omega⟩
      · rintro ⟨h1, h2⟩
        exact ⟨by omega, by omega, fun e => h1 e.symm⟩
    constructor
    · rintro ⟨k, y, e, hk, hy⟩
      refine ⟨k, ?_, e.symm⟩
      rw [List.mem_filter, List.mem_range]
      obtain ⟨h1, e1⟩ := List.getElem?_eq_some_iff.1 hk
      refine ⟨h1, ?_⟩
      rw [hk]
      exact (key y (List.mem_of_getElem? hk)).1 hy
    · rintro ⟨k, hk, e⟩
      rw [List.mem_filter, List.mem_range] at hk
      refine ⟨k, (insts T)[k]'hk.1, e.symm, List.getElem?_eq_getElem hk.1, ?_⟩
      have h2 := hk.2
      rw [List.getElem?_eq_getElem hk.1, Option.getD_some] at h2
      exact (key _ (List.getElem_mem hk.1)).2 h2
theorem insts_nodup (T : List (List RowD)) : (insts T).Nodup := (insts_lex T).imp fun h e => by subst e; unfold lexL at h; omega

theorem putI_mostG (l : List Int) (n : Int) : (putI l n).length ≤ l.length + 1 := by
  unfold putI
  split
  · omega
  · simp only [List.length_append, List.length_take, List.length_drop, List.length_cons, List.length_nil]
    omega

/-- Two lists of lists come back: the second behind the first. -/
def TwoSS (L M : List (List Int)) (w : World) (e : Ending) (w' : World) : Prop :=
  ∃ v u w1, e = .returned (.tuple #[v, u]) ∧ FreshSS w.heap.size w1 v L ∧ Ext w w1 ∧ FreshSS w1.heap.size w' u M ∧ Ext w1 w'

end Go.Proofs.Ythnoeknalpnadaa

namespace Go.Proofs.Ythnoeknalpnadaa
open Go.RowKit Go.Maps
set_option linter.unusedVariables false

theorem PairsAt.form {w : World} {v : Value} {vs : List Value} {L : List (Nat × Nat)} (h : PairsAt w v vs L) : ∃ a c, v = .slice a vs.length c := by
  rcases h.reads with ⟨rfl, rfl⟩ | ⟨b, off, cap, rfl, _⟩
  · exact ⟨none, 0, rfl⟩
  · exact ⟨_, cap, rfl⟩
theorem readyL_take {n : Int} {T : List (List RowD)} {j : Nat} {x : Nat × Nat} (hx : (insts T)[j]? = some x) : ((insts T).take (j + 1)).filter (fun x => readyB n T x.1 x.2) = ((insts T).take j).filter (fun x => readyB n T x.1 x.2) ++ if readyB n T x.1 x.2 then [x] else [] := by
  rw [List.take_add_one, hx, List.filter_append]
  congr 1
  cases h : readyB n T x.1 x.2 <;> simp [h]

theorem readyR_bulk (n : Int) (T : List (List RowD)) : bulk (readyR n T) ≤ 1000 := by
  unfold readyR
  cases hg : goodTab n T with
  | false => simp [bulk]
  | true =>
    have h1 := readyL_short hg
    have h2 := bulk_by (L := (readyL n T).map pairOf) 2 (fun l hl => by
      obtain ⟨x, _, rfl⟩ := List.mem_map.1 hl
      simp [pairOf])
    rw [List.length_map] at h2
    simp only [if_true]
    omega
end Go.Proofs.Ythnoeknalpnadaa

namespace Go.Proofs.Ythnoeknalpnadaa
open Go.RowKit Go.Maps
set_option linter.unusedVariables false

theorem field_rowC (b v st k i f t a s : Int) (u : Value) (W : World) : (Instr.field 71 (.agg #[.int .i64 b, .int .i64 v, .int .i64 st, .int .i64 k, .int .i64 i, .int .i64 f, .int .i64 t, .int .i64 a, .int .i64 s, u]) 3).run Try.prog W = .ok (.agg #[.int .i64 k, .int .i64 i, .int .i64 f, .int .i64 t, .int .i64 a]) W := by kernel_rfl
/-- A row comes back, its command may be read. -/
def NewRowF (d : RowD) (w : World) (e : Ending) (w' : World) : Prop :=
  ∃ a k, e = .returned (.agg #[.int .i64 d.b, .int .i64 d.v, .int .i64 d.st, .int .i64 d.k, .int .i64 d.i, .int .i64 d.f, .int .i64 d.t, .int .i64 d.a, .int .i64 d.s, .slice a d.l.length k]) ∧ (∀ W, (Instr.field 71 (.agg #[.int .i64 d.b, .int .i64 d.v, .int .i64 d.st, .int .i64 d.k, .int .i64 d.i, .int .i64 d.f, .int .i64 d.t, .int .i64 d.a, .int .i64 d.s, .slice a d.l.length k]) 3).run Try.prog W = .ok (.agg #[.int .i64 d.k, .int .i64 d.i, .int .i64 d.f, .int .i64 d.t, .int .i64 d.a]) W) ∧ Ext w w'
theorem NewRowF.of {d : RowD} {w : World} {e : Ending} {w' : World} (h : NewRow d w e w') : NewRowF d w e w' := by
  obtain ⟨u, rfl, fx, x⟩ := h
  obtain ⟨a, k, rfl⟩ := fx.form
  exact ⟨a, k, rfl, fun W => field_rowC d.b d.v d.st d.k d.i d.f d.t d.a d.s (.slice a d.l.length k) W, x⟩
def okS (n : Int) (T : List (List RowD)) (La Lb : List (List Int)) : Bool := goodTab n T && (instsB n La && instsB n Lb)
def ordS (n : Int) (T : List (List RowD)) (La Lb : List (List Int)) : Bool := okS n T La Lb && ordOk n T (instsOf La) (instsOf Lb) (instsOf La).length
theorem Intss.row {w : World} {b off n c : Nat} {A : List (Nat × Nat)} (h : Intss w (.slice (some ⟨b, off, none⟩) n c) (A.map pairOf)) {j : Nat} {y : Nat × Nat} (hy : A[j]? = some y) : ∃ bx ox cx, w.cell? ⟨b, off + j, none⟩ = some (.slice (some ⟨bx, ox, none⟩) 2 cx) ∧ Ints w (.slice (some ⟨bx, ox, none⟩) 2 cx) (pairOf y) ∧ w.cell? ⟨bx, ox, none⟩ = some (.int .i64 y.1) ∧ w.cell? ⟨bx, ox + 1, none⟩ = some (.int .i64 ((y.2 : Int) + 1)) := by
  obtain ⟨ao, cap, hv, _, _, hc⟩ := h
  have hj := (List.getElem?_eq_some_iff.1 hy).1
  simp only [Value.slice.injEq] at hv
  obtain ⟨rfl, _, rfl⟩ := hv
  obtain ⟨b', off', ha, hd⟩ := hc (by simp; omega)
  simp only [Option.some.injEq, Addr.mk.injEq, and_true] at ha
  obtain ⟨rfl, rfl⟩ := ha
  obtain ⟨u, hu, hi⟩ := hd j (by simpa using hj)
  rw [List.getElem?_map, hy, Option.map_some, Option.getD_some] at hi
  obtain ⟨bx, ox, cx, rfl, x0, x1⟩ := pair_at hi
  exact ⟨bx, ox, cx, hu, hi, x0, x1⟩
theorem Intss.some_ {w : World} {v : Value} {L : List (List Int)} (h : Intss w v L) (hp : 0 < L.length) : ∃ b off c, v = .slice (some ⟨b, off, none⟩) L.length c := by
  obtain ⟨ao, cap, rfl, _, _, hc⟩ := h
  obtain ⟨b, off, rfl, _⟩ := hc hp
  exact ⟨b, off, cap, rfl⟩

set_option maxHeartbeats 8000000 in
set_option maxRecDepth 100000 in
theorem specSameOrd_good (n : Int) (u va vb : Value) (T : List (List RowD)) (A B : List (Nat × Nat)) (w : World) (hu : Rowzz w u T) (ha : Intss w va (A.map pairOf)) (hb : Intss w vb (B.map pairOf)) (hg : goodTab n T = true) (oa : instsB n (A.map pairOf) = true) (ob : instsB n (B.map pairOf) = true)
    (na : A.length ≤ 30) (hA : ∀ z ∈ A, z.1 < T.length ∧ z.2 ≤ 5) :
    Calls Try.prog 48 #[va, vb, .agg #[.int .i64 n, u]] w (TwoB (ordOk n T A B A.length) true w) := by
  have hgr := isGrp_bd (goodTab_of hg).1
  obtain ⟨wb, hwb⟩ : ∃ wb, wb = w.alloc (.cells #[.int .i64 n, u] 24) := ⟨_, rfl⟩
  have xb : Ext w wb := by rw [hwb]; exact Ext.alloc1 _ _
  have b0 := attrAt_new w 24 n u
  rw [← hwb] at b0
  have HU := Lib.hid (hu.ext xb)
  have HIA := Lib.hid (ha.ext xb)
  have HIB := Lib.hid (hb.ext xb)
  have HB := Lib.hid b0
  have XB := Lib.hid xb
  have HWB := Lib.hid hwb
  have HG := Lib.hid hg
  have OA := Lib.hid oa
  have OB := Lib.hid ob
  have HAB := Lib.hid hA
  have H3 := hgr.1
  have H5 := hgr.2
  obtain ⟨au, cu, rfl, hlu, hcu1, hcu2⟩ := hu
  obtain ⟨aa, ca, rfl, hla, hcapa, hca⟩ := ha
  obtain ⟨ab, cb, rfl, hlb, hcb1, hcb2⟩ := hb
  rw [List.length_map] at hla hcapa HIA
  rw [List.length_map] at HIB
  simp only [List.length_map]
  have hcapa1 := hcapa.1
  have hcapa2 := hcapa.2.1
  unfold maxLen at hcapa2
  clear hcb1 hcb2 hcu1 hcu2 xb b0 hwb hg oa ob hlu hlb hcapa hca hgr hla hA
  go_enter Try.func48, Try.ntmps48
  obtain ⟨b0, b1⟩ := HB.out
  go_wp2_with fail
  rw [← HWB.out]
  refine (specGoodTable_any n _ T _ HU.out).mono ?_
  rintro e w1 ⟨rfl, x1⟩
  rw [HG.out]
  have b0 := x1.cell b0
  have b1 := x1.cell b1
  go_wp2_with fail
  refine (l6Insts_any n _ _ _ _ (HIA.out.ext x1) H3 H5).mono ?_
  rintro e w2 ⟨rfl, x2⟩
  rw [OA.out]
  have b0 := x2.cell b0
  have b1 := x2.cell b1
  go_wp2_with fail
  refine (l6Insts_any n _ _ _ _ (HIB.out.ext (x1.trans x2)) H3 H5).mono ?_
  rintro e w3 ⟨rfl, x3⟩
  rw [OB.out]
  have X3 := Lib.hid ((x1.trans x2).trans x3)
  clear x1 x2 x3 b0 b1
  go_wp2
  go_loopw [31] (fun i wr => ∃ j : Nat, j ≤ A.length ∧ i = .int .i64 j ∧ Hid (ordOk n T A B j = true) ∧ Hid (Ext wb wr)) (fun i _ => A.length - (intOf i).toNat)
  case atStart => exact ⟨0, Nat.zero_le _, rfl, Lib.hid rfl, X3⟩
  case round =>
    clear X3
    obtain ⟨j, hj, rfl, HO, HX⟩ := hrel
    by_cases hlt : j < A.length
    · obtain ⟨b, off, ca', hva⟩ := HIA.out.some_ (by simp; omega)
      simp only [Value.slice.injEq] at hva
      obtain ⟨rfl, hvn, hvk⟩ := hva
      subst hvk
      clear hvn
      obtain ⟨y, hy⟩ : ∃ y, A[j]? = some y := ⟨_, List.getElem?_eq_getElem hlt⟩
      obtain ⟨by_, oy, cy, gy, iy, y0, y1⟩ := HIA.out.row hy
      have gy := HX.out.cell gy
      have HY := Lib.hid hy
      have IY := Lib.hid (iy.ext HX.out)
      have HYB := Lib.hid (HAB.out y (List.mem_of_getElem? hy))
      have Y01 := Lib.hid (And.intro (HX.out.cell y0) (HX.out.cell y1))
      have HIW := Lib.hid (HIA.out.ext HX.out)
      obtain ⟨wj, hwj⟩ : ∃ wj, wj = wr := ⟨_, rfl⟩
      have HXJ : Hid (Ext wb wj) := by rw [hwj]; exact HX
      rw [← hwj] at gy IY Y01 HIW ⊢
      clear hy iy y0 y1 hwj HX
      go_wp2
      go_loopw [40] (fun i wr => ∃ k : Nat, k ≤ j ∧ i = .int .i64 k ∧ Hid (rowOk n T A B j k = true) ∧ Hid (Ext wj wr)) (fun i _ => j - (intOf i).toNat)
      case atStart => exact ⟨0, Nat.zero_le _, rfl, Lib.hid rfl, Lib.hid (Ext.refl _)⟩
      case round =>
        obtain ⟨k, hk, rfl, HR, HX⟩ := hrel
        by_cases hkj : k < j
        · obtain ⟨x, hx⟩ : ∃ x, A[k]? = some x := ⟨_, List.getElem?_eq_getElem (by omega)⟩
          obtain ⟨bx, ox, cx, gx, ix, x0, x1⟩ := HIW.out.row hx
          have gx := HX.out.cell gx
          have HXX := Lib.hid hx
          have IX := Lib.hid (ix.ext HX.out)
          have HXB := Lib.hid (HAB.out x (List.mem_of_getElem? hx))
          have X01 := Lib.hid (And.intro (HX.out.cell x0) (HX.out.cell x1))
          have HHIT : Hid (hitAt n T A B k j = hitB n T B x y) := Lib.hid (by unfold hitAt; rw [HXX.out, HY.out]; rfl)
          clear hx ix x0 x1
          go_wp2_with fail
          refine (l6Find_val _ _ _ (pairOf x) _ (HIB.out.ext (HXJ.out.trans HX.out)) IX.out).mono ?_
          rintro e w5 ⟨rfl, x5⟩
          go_wp2_with fail
          refine (l6Find_val _ _ _ (pairOf y) _ (HIB.out.ext ((HXJ.out.trans HX.out).trans x5)) (IY.out.ext (HX.out.trans x5))).mono ?_
          rintro e w6 ⟨rfl, x6⟩
          have X6 := Lib.hid (HX.out.trans (x5.trans x6))
          have HX01 := Lib.hid (And.intro ((x5.trans x6).cell X01.out.1) ((x5.trans x6).cell X01.out.2))
          clear x5 x6 gx X01
          by_cases hxB : x ∈ B
          · rw [findI_yes hxB]
            obtain ⟨f, hf⟩ : ∃ f, f = idxOf B x := ⟨_, rfl⟩
            rw [← hf]
            have f0 : (0 : Int) ≤ (f : Int) := by omega
            by_cases hyB : y ∈ B
            · rw [findI_yes hyB]
              obtain ⟨g, hg⟩ : ∃ g, g = idxOf B y := ⟨_, rfl⟩
              rw [← hg]
              have g0 : (0 : Int) ≤ (g : Int) := by omega
              by_cases hgf : g < f
              · have hgf' : (g : Int) < (f : Int) := by omega
                have HH2 : Hid (hitAt n T A B k j = intf n T x y) := Lib.hid (by
                  rw [HHIT.out]
                  unfold hitB
                  rw [decide_eq_true hxB, decide_eq_true hyB, ← hf, ← hg, decide_eq_true hgf]
                  simp)
                obtain ⟨bb, hbb⟩ : ∃ bb, bb = intf n T x y := ⟨_, rfl⟩
                have HBB := Lib.hid hbb
                obtain ⟨ro, hro⟩ : ∃ f, f = rowOf n T := ⟨_, rfl⟩
                have cA : ∀ (p q : Nat) V, Ext w6 V → (p < T.length ∧ q ≤ 5) → Calls Try.prog 115 #[.agg #[.int .i64 n, .slice au T.length cu], .int .i64 p, .int .i64 ((q : Int) + 1)] V (NewRowF (ro p q) V) := fun p q V hV hp => by
                  rw [hro]
                  exact (l4At_any n _ T p q _ (HU.out.ext ((HXJ.out.trans X6.out).trans hV)) HG.out hp.1 hp.2).mono (fun e w' h => NewRowF.of h)
                have cI : ∀ V, Calls Try.prog 114 #[.agg #[.int .i64 (ro x.1 x.2).k, .int .i64 (ro x.1 x.2).i, .int .i64 (ro x.1 x.2).f, .int .i64 (ro x.1 x.2).t, .int .i64 (ro x.1 x.2).a], .agg #[.int .i64 (ro y.1 y.2).k, .int .i64 (ro y.1 y.2).i, .int .i64 (ro y.1 y.2).f, .int .i64 (ro y.1 y.2).t, .int .i64 (ro y.1 y.2).a]] V (BoolExt bb V) := fun V => by
                  rw [hbb, hro]
                  unfold intf
                  exact l2Interfere_any _ _ _ _ _ _ _ _ _ _ _
                have CA := Lib.hid cA
                have CI := Lib.hid cI
                have HXB1 := HXB.out
                have HYB1 := HYB.out
                have hbx := HB.out.ext (HXJ.out.trans X6.out)
                have y0 := X6.out.cell Y01.out.1
                have y1 := X6.out.cell Y01.out.2
                have x0 := HX01.out.1
                have x1 := HX01.out.2
                have ks : ∀ V, Ext w6 V → Ext w6 V ∧ V.cell? ⟨w.heap.size, 0, none⟩ = some (.int .i64 n) ∧ V.cell? ⟨w.heap.size, 1, none⟩ = some (.slice au T.length cu) ∧ V.cell? ⟨bx, ox, none⟩ = some (.int .i64 x.1) ∧ V.cell? ⟨bx, ox + 1, none⟩ = some (.int .i64 ((x.2 : Int) + 1)) ∧ V.cell? ⟨by_, oy, none⟩ = some (.int .i64 y.1) ∧ V.cell? ⟨by_, oy + 1, none⟩ = some (.int .i64 ((y.2 : Int) + 1)) := fun V hV => ⟨hV, hV.cell hbx.1, hV.cell hbx.2, hV.cell x0, hV.cell x1, hV.cell y0, hV.cell y1⟩
                have KS := Lib.hid ks
                have HR6 := Lib.hid (Ext.drew (Ext.refl w6))
                clear ks hbx x0 x1 y0 y1 cA cI hro hbb hf hg hxB hyB hgf HHIT
                go_wp2_with fail
                go_region_held3 (fun V => Ext w6 V ∧ V.cell? ⟨w.heap.size, 0, none⟩ = some (.int .i64 n) ∧ V.cell? ⟨w.heap.size, 1, none⟩ = some (.slice au T.length cu) ∧ V.cell? ⟨bx, ox, none⟩ = some (.int .i64 x.1) ∧ V.cell? ⟨bx, ox + 1, none⟩ = some (.int .i64 ((x.2 : Int) + 1)) ∧ V.cell? ⟨by_, oy, none⟩ = some (.int .i64 y.1) ∧ V.cell? ⟨by_, oy + 1, none⟩ = some (.int .i64 ((y.2 : Int) + 1))) (first | (with_reducible exact KS.out _ HR6.out) | (with_reducible exact KS.out _ SS.out)) (first | (go_at_call 115; refine (CA.out _ _ _ (And.left (by with_reducible assumption)) (by with_reducible assumption)).mono ?_; rintro e W7 ⟨ax, kx, rfl, hfx, x7⟩; have SS := Lib.hid (Ext.trans (And.left (by with_reducible assumption)) x7)) | (go_at_call 114; refine (CI.out _).mono ?_; rintro e W9 ⟨rfl, x9⟩; have SS := Lib.hid (Ext.trans (And.left (by with_reducible assumption)) x9)))
                cases bb with
                | true =>
                  have HF : Hid (ordOk n T A B A.length = false) := Lib.hid (ordOk_no hkj hlt (by rw [HH2.out, ← HBB.out]))
                  have XE := Lib.hid ((XB.out.trans HXJ.out).trans (X6.out.trans SS.out))
                  clear HR HX01 CA CI
                  go_wp2
                  go_ret2
                  exact ⟨by rw [HF.out]; rfl, XE.out⟩
                | false =>
                  have HRN : Hid (rowOk n T A B j (k + 1) = true) := Lib.hid (rowOk_succ HR.out (by rw [HH2.out, ← HBB.out]))
                  have XE := Lib.hid (X6.out.trans SS.out)
                  clear HR HX01 CA CI
                  go_wp2
                  go_roundw
                  case rel => exact ⟨k + 1, by omega, by go_num, HRN, XE⟩
                  case measure => simp [intOf]; omega
              · have hd : decide ((g : Int) < (f : Int)) = false := decide_eq_false (by omega)
                have hd2 : decide (g < f) = false := decide_eq_false hgf
                have HRN : Hid (rowOk n T A B j (k + 1) = true) := Lib.hid (rowOk_succ HR.out (by
                  rw [HHIT.out]
                  unfold hitB
                  rw [← hf, ← hg, decide_eq_false hgf]
                  simp))
                clear hf hg hxB hyB hgf HHIT HR HX01
                go_wp2_with fail
                refine wp_region_ext_lit (by kernel_rfl) (by kernel_rfl) ?_
                repeat (go_big_quiet_step (first | fail))
                refine wpQuiet_nil ?_
                rintro _ ⟨E, rfl⟩
                have XE := Lib.hid (X6.out.trans E.2)
                go_wp2
                go_roundw
                case rel => exact ⟨k + 1, by omega, by go_num, HRN, XE⟩
                case measure => simp [intOf]; omega
            · rw [findI_no hyB]
              have HRN : Hid (rowOk n T A B j (k + 1) = true) := Lib.hid (rowOk_succ HR.out (by
                rw [HHIT.out]
                unfold hitB
                rw [decide_eq_false hyB]
                simp))
              clear hf hxB hyB HHIT HR HX01
              go_wp2_with fail
              refine wp_region_ext_lit (by kernel_rfl) (by kernel_rfl) ?_
              repeat (go_big_quiet_step (first | fail))
              refine wpQuiet_nil ?_
              rintro _ ⟨E, rfl⟩
              have XE := Lib.hid (X6.out.trans E.2)
              go_wp2
              go_roundw
              case rel => exact ⟨k + 1, by omega, by go_num, HRN, XE⟩
              case measure => simp [intOf]; omega
          · rw [findI_no hxB]
            have HRN : Hid (rowOk n T A B j (k + 1) = true) := Lib.hid (rowOk_succ HR.out (by
              rw [HHIT.out]
              unfold hitB
              rw [decide_eq_false hxB]
              rfl))
            clear hxB HHIT HR HX01
            obtain ⟨fy, hfy⟩ : ∃ fy, fy = findI (B.map pairOf) (pairOf y) := ⟨_, rfl⟩
            rw [← hfy]
            clear hfy
            go_wp2_with fail
            refine wp_region_ext_lit (by kernel_rfl) (by kernel_rfl) ?_
            repeat (go_big_quiet_step (first | fail))
            refine wpQuiet_nil ?_
            rintro _ ⟨E, rfl⟩
            have XE := Lib.hid (X6.out.trans E.2)
            go_wp2
            go_roundw
            case rel => exact ⟨k + 1, by omega, by go_num, HRN, XE⟩
            case measure => simp [intOf]; omega
        · obtain rfl : k = j := by omega
          have HON := Lib.hid (ordOk_succ HO.out HR.out)
          have XE := Lib.hid (HXJ.out.trans HX.out)
          clear HO HR HX
          go_wp2
          go_roundw
          case rel => exact ⟨k + 1, by omega, by go_num, HON, XE⟩
          case measure => simp [intOf]; omega
    · obtain rfl : j = A.length := by omega
      have XE := Lib.hid (XB.out.trans HX.out)
      clear HX
      go_wp2
      go_ret2
      exact ⟨by rw [HO.out]; rfl, XE.out⟩
end Go.Proofs.Ythnoeknalpnadaa

namespace Go.Proofs.Ythnoeknalpnadaa
open Go.RowKit Go.Maps
set_option linter.unusedVariables false

theorem instsOf_few {n : Int} {T : List (List RowD)} {L : List (List Int)} (hg : goodTab n T = true) (h : instsB n L = true) : (instsOf L).length ≤ 30 := by
  obtain ⟨_, h2, h3⟩ := instsB_of hg h
  have h5 := isGrp_bd (goodTab_of hg).1
  have hT := (goodTab_of hg).2
  exact few_of h2 (fun z hz => by have := h3 z hz; omega)

theorem specSameOrd_any (n : Int) (u va vb : Value) (T : List (List RowD)) (La Lb : List (List Int)) (w : World) (hu : Rowzz w u T) (ha : Intss w va La) (hb : Intss w vb Lb) :
    Calls Try.prog 48 #[va, vb, .agg #[.int .i64 n, u]] w (TwoB (ordS n T La Lb) (okS n T La Lb) w) := by
  by_cases hk : okS n T La Lb = true
  · have h1 := hk
    unfold okS at h1
    simp only [Bool.and_eq_true] at h1
    obtain ⟨hg, oa, ob⟩ := h1
    have ea := (instsB_of hg oa).1
    have eb := (instsB_of hg ob).1
    have e1 : ordS n T La Lb = ordOk n T (instsOf La) (instsOf Lb) (instsOf La).length := by unfold ordS; rw [hk]; rfl
    rw [e1, hk]
    exact specSameOrd_good n u va vb T (instsOf La) (instsOf Lb) w hu (by rw [← ea]; exact ha) (by rw [← eb]; exact hb) hg (by rw [← ea]; exact oa) (by rw [← eb]; exact ob) (instsOf_few hg oa) (instsB_of hg oa).2.2
  · have hk' : okS n T La Lb = false := by simpa using hk
    have e1 : ordS n T La Lb = false := by unfold ordS; rw [hk']; rfl
    rw [e1, hk']
    have HK := Lib.hid hk'
    obtain ⟨wb, hwb⟩ : ∃ wb, wb = w.alloc (.cells #[.int .i64 n, u] 24) := ⟨_, rfl⟩
    have xb : Ext w wb := by rw [hwb]; exact Ext.alloc1 _ _
    have b0 := attrAt_new w 24 n u
    rw [← hwb] at b0
    have HU := Lib.hid (hu.ext xb)
    have HIA := Lib.hid (ha.ext xb)
    have HIB := Lib.hid (hb.ext xb)
    have HB := Lib.hid b0
    have XB := Lib.hid xb
    have HWB := Lib.hid hwb
    obtain ⟨au, cu, rfl, hlu, hcu1, hcu2⟩ := hu
    obtain ⟨aa, ca, rfl, hla, hcapa, hca⟩ := ha
    obtain ⟨ab, cb, rfl, hlb, hcb1, hcb2⟩ := hb
    obtain ⟨g, hg⟩ : ∃ g, g = goodTab n T := ⟨_, rfl⟩
    obtain ⟨oa, hoa⟩ : ∃ o, o = instsB n La := ⟨_, rfl⟩
    obtain ⟨ob, hob⟩ : ∃ o, o = instsB n Lb := ⟨_, rfl⟩
    have HG := Lib.hid hg
    have OA := Lib.hid hoa
    have OB := Lib.hid hob
    clear hcb1 hcb2 hcu1 hcu2 xb b0 hwb hg hoa hob hlu hlb hcapa hca hla hk hk' e1
    go_enter Try.func48, Try.ntmps48
    obtain ⟨b0, b1⟩ := HB.out
    go_wp2_with fail
    rw [← HWB.out]
    refine (specGoodTable_any n _ T _ HU.out).mono ?_
    rintro e w1 ⟨rfl, x1⟩
    rw [← HG.out]
    cases g with
    | false =>
      have X1 := Lib.hid (XB.out.trans x1)
      clear x1
      go_wp2
      go_ret2
      exact ⟨rfl, X1.out⟩
    | true =>
      have hgr := isGrp_bd (goodTab_of HG.out.symm).1
      have H3 := hgr.1
      have H5 := hgr.2
      have b0 := x1.cell b0
      have b1 := x1.cell b1
      clear hgr
      go_wp2_with fail
      refine (l6Insts_any n _ _ _ _ (HIA.out.ext x1) H3 H5).mono ?_
      rintro e w2 ⟨rfl, x2⟩
      rw [← OA.out]
      cases oa with
      | false =>
        have X1 := Lib.hid (XB.out.trans (x1.trans x2))
        clear x1 x2
        go_wp2
        go_ret2
        exact ⟨rfl, X1.out⟩
      | true =>
        have b0 := x2.cell b0
        have b1 := x2.cell b1
        go_wp2_with fail
        refine (l6Insts_any n _ _ _ _ (HIB.out.ext (x1.trans x2)) H3 H5).mono ?_
        rintro e w3 ⟨rfl, x3⟩
        have hb0 : ob = false := by
          have h := HK.out
          unfold okS at h
          rw [← HG.out, ← OA.out, ← OB.out] at h
          simpa using h
        rw [← OB.out]
        have HBF := Lib.hid hb0
        clear hb0
        cases ob with
        | true => exact absurd HBF.out (by simp)
        | false =>
          have X1 := Lib.hid ((XB.out.trans (x1.trans x2)).trans x3)
          clear x1 x2 x3 HBF
          go_wp2
          go_ret2
          exact ⟨rfl, X1.out⟩
end Go.Proofs.Ythnoeknalpnadaa
