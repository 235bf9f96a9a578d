/- Texts of this proof, part m: words, plain facts, contracts. -/
import Derived.Test.YtjfnkcohpffigaaMReadyInl
import Derived.Test.YtjfnkcohpffigaaMReadyInj
import Derived.Test.YtjfnkcohpffigaaMReadyInb
import Derived.Test.YtjfnkcohpffigaaMReadyInh
import Derived.Test.YtjfnkcohpffigaaMReadyInk
import Derived.Test.YtjfnkcohpffigaaMReadyIne

namespace Go.Proofs.Ytjfnkcohpffigaa
open Go.RowKit
set_option linter.unusedVariables false

/-- As FreshSS, all blocks below h. -/
def FreshSB (B h : Nat) (w : World) (v : Value) (L : List (List Int)) : Prop :=
  ∃ vs, w.ownsRow B 46 1 v L.length vs ∧ Rows_ B w vs L ∧ (∀ (j : Nat) (u : Value), vs[j]? = some u → u.ownBlock = none ∨ u.ownBlock ≠ v.ownBlock) ∧ Und h v ∧ ∀ (j : Nat) (u : Value), vs[j]? = some u → Und h u
theorem FreshSB.nil (B h : Nat) (w : World) : FreshSB B h w (.slice none 0 0) [] := ⟨[], World.ownsRow_nil _ _ _ _, Rows_.nil _ _, (fun _ _ h => by simp at h), (fun b e => by cases e), (fun _ _ h => by simp at h)⟩
theorem FreshSB.of {B h : Nat} {w : World} {v : Value} {L : List (List Int)} (f : FreshSS B w v L) (hb : w.heap.size ≤ h) : FreshSB B h w v L := by
  obtain ⟨vs, h1, h2, h3⟩ := f
  refine ⟨vs, h1, h2, h3, fun b e => Nat.lt_of_lt_of_le (World.ownsRow.lt h1 b e).2 hb, fun j u hu => ?_⟩
  have hj : j < vs.length := (List.getElem?_eq_some_iff.1 hu).1
  exact (h2.row j u _ hu (List.getElem?_eq_getElem (by rw [← h2.len]; exact hj))).und.more hb
theorem FreshSB.ss {B h : Nat} {w : World} {v : Value} {L : List (List Int)} (f : FreshSB B h w v L) : FreshSS B w v L := by
  obtain ⟨vs, h1, h2, h3, _, _⟩ := f
  exact ⟨vs, h1, h2, h3⟩
theorem FreshSB.ext {B h : Nat} {w w' : World} {v : Value} {L : List (List Int)} (f : FreshSB B h w v L) (e : Ext w w') : FreshSB B h w' v L := by
  obtain ⟨vs, h1, h2, h3, h4, h5⟩ := f
  exact ⟨vs, e.ownsRow h1, h2.ext e, h3, h4, h5⟩
theorem FreshSB.intss {B h : Nat} {w : World} {v : Value} {L : List (List Int)} (f : FreshSB B h w v L) : Intss w v L := f.ss.intss
theorem FreshSB.ins {B h lo hi : Nat} {w w' : World} {v : Value} {L : List (List Int)} (f : FreshSB B h w v L) (k : Ins lo hi w w') (hb : hi ≤ B ∨ h ≤ lo) : FreshSB B h w' v L := by
  obtain ⟨vs, h1, h2, h3, h4, h5⟩ := f
  refine ⟨vs, k.row h1 (fun b e => ?_), ⟨h2.len, fun j u l hu hl => k.row (h2.row j u l hu hl) (fun b e => ?_), h2.apart⟩, h3, h4, h5⟩
  · have := World.ownsRow.lt h1 b e
    have := h4 b e
    omega
  · have := World.ownsRow.lt (h2.row j u l hu hl) b e
    have := h5 j u hu b e
    omega
def MarksSB (B h : Nat) (k : Int) (v : Value) (L : List (List Int)) (w : World) (e : Ending) (w' : World) : Prop :=
  e = .returned (.int .i64 (k + (L.map List.length).sum)) ∧ FreshSB B h w' v (markedSS k L L.length) ∧ Ins B h w w'

set_option maxHeartbeats 800000 in
theorem markIntSS_ins (B h : Nat) (v : Value) (L : List (List Int)) (k : Int) (w : World) (hv : FreshSB B h w v L) (hB : B ≤ w.heap.size) (h0 : 0 ≤ k) (hk : k ≤ 1048576) (h1 : bulk L ≤ 1099511627776) :
    Calls Try.prog 15 #[v, .int .i64 k] w (MarksSB B h k v L w) := by
  obtain ⟨vs, ho, hR, hout, hund, hunds⟩ := hv
  have HUND := Lib.hid hund
  have HUNDS := Lib.hid hunds
  clear hund hunds
  have hvl := hR.len
  have hL : L.length ≤ 1099511627776 := by unfold bulk at h1; omega
  have hsum : (L.map List.length).sum ≤ 1099511627776 := by unfold bulk at h1; omega
  rcases ho.2 with ⟨rfl, hn⟩ | ⟨g, cap, cur, rfl, hb, hg, hnc, hcm, hcs, htake⟩
  · obtain rfl : L = [] := List.eq_nil_of_length_eq_zero hn
    clear h1 hsum
    go_enter Try.func15, Try.ntmps15
    go_wp2
    refine wp_loop_rounds 1 ?_; rw [rounds_succ]
    go_wp2
    go_ret
    exact ⟨by simp, FreshSB.nil _ _ _, Ins.refl _ _ _⟩
  · have hout' : ∀ (j : Nat) (u : Value), vs[j]? = some u → u.ownBlock = none ∨ u.ownBlock ≠ some g := hout
    have HOUT := Lib.hid hout'
    have H1 := Lib.hid h1
    have HVL := Lib.hid hvl
    have HSUM := Lib.hid hsum
    clear hg hnc hcm hcs htake cur hb hout hout' h1 hvl hsum
    go_enter Try.func15, Try.ntmps15
    go_wp2
    go_loopw [1, 5] (fun m i wr => ∃ (j : Nat) (r : Int), j ≤ L.length ∧ i = .int .i64 j ∧ m = .int .i64 r ∧ Hid (r = k + sumTo L j) ∧ wr.ownsRow B 46 1 (.slice (some ⟨g, 0, none⟩) L.length cap) L.length vs ∧ Rows_ B wr vs (markedSS k L j) ∧ Ins B h w wr) (fun _ i _ => L.length - (intOf i).toNat)
    case atStart => exact ⟨0, k, Nat.zero_le _, rfl, rfl, Lib.hid (by simp [sumTo]), ho, by rw [markedSS_zero]; exact hR, Ins.refl _ _ _⟩
    case round =>
      clear ho hR
      obtain ⟨j, r, hj, rfl, rfl, hr, ho, hR, hx⟩ := hrel
      by_cases hlt : j < L.length
      · obtain ⟨z, hz⟩ : ∃ z, vs[j]? = some z := ⟨_, List.getElem?_eq_getElem (by rw [HVL.out]; exact hlt)⟩
        have hc := (ho.cellAt j (by omega)).trans hz
        have hf := hR.row j z _ hz (markedSS_old hlt (Nat.le_refl _))
        have hrow : (L[j]).length ≤ 1099511627776 := by have := bulk_row hlt; have := H1.out; omega
        have hr0 : 0 ≤ r := by have := hr.out; omega
        have hr1 : r ≤ 2199024304128 := by have hq := hr.out; have := sumTo_mono (L := L) (k := j) hj; have := HSUM.out; omega
        have HO := Lib.hid ho
        have HR := Lib.hid hR
        have HZ := Lib.hid hz
        have HX := Lib.hid hx
        have HFF := Lib.hid hf
        clear ho hR hz hx hf
        go_wp2_with fail
        refine (markIntS_any B _ _ _ _ HFF.out hr0 (by omega)).mono ?_
        rintro e w2 ⟨rfl, f2, t2⟩
        have hR2 := HR.out.mark HZ.out t2 (by
          have e := hr.out
          rw [e] at f2
          exact f2)
        rw [markedSS_succ hlt] at hR2
        have ho2 := World.ownsRow.kept HO.out t2 (by
          rcases HOUT.out j z HZ.out with hq | hq
          · exact .inr (by rw [hq]; simp [Value.ownBlock])
          · exact .inr (fun e => hq e.symm))
        have hx2 : Ins B h w w2 := HX.out.trans (Ins.of_grown t2 (fun q hq => ⟨(World.ownsRow.lt HFF.out q hq).1, HUNDS.out j z HZ.out q hq⟩))
        have hs := sumTo_succ hlt
        have HS := Lib.hid hs
        clear f2 t2 hc hs
        go_wp2
        go_roundw
        case rel => exact ⟨j + 1, r + (L[j]).length, by omega, by go_num, rfl, Lib.hid (by have := hr.out; have := HS.out; omega), ho2, hR2, hx2⟩
        case measure => simp [intOf]; omega
      · obtain rfl : j = L.length := by omega
        have HO := Lib.hid ho
        have HR := Lib.hid hR
        clear ho hR
        go_wp2
        go_ret
        refine ⟨?_, ⟨vs, by rw [markedSS_length]; exact HO.out, HR.out, HOUT.out, HUND.out, HUNDS.out⟩, hx⟩
        have hq := hr.out
        rw [sumTo_all] at hq
        rw [hq]; rfl

/-- The argument's box N, the model's answers v3, u3 (below h3), the program's v5 (in [B, C)), u5 (in [C, H)). -/
structure LiveD (w W : World) (N h3 B C H : Nat) (n : Int) (v v3 u3 v5 u5 : Value) (L M L5 M5 : List (List Int)) : Prop where
  ext : Ext w W
  arg : AttrAt W N n v
  s3 : SSI h3 W v3 L
  t3 : SSI h3 W u3 M
  f5 : FreshSB B C W v5 L5
  g5 : FreshSB C H W u5 M5
theorem LiveD.on {w W W' : World} {N h3 B C H : Nat} {n : Int} {v v3 u3 v5 u5 : Value} {L M L5 M5 : List (List Int)} (h : LiveD w W N h3 B C H n v v3 u3 v5 u5 L M L5 M5) (e : Ext W W') : LiveD w W' N h3 B C H n v v3 u3 v5 u5 L M L5 M5 :=
  ⟨h.ext.trans e, h.arg.ext e, h.s3.ext e, h.t3.ext e, h.f5.ext e, h.g5.ext e⟩
theorem LiveD.ins {w W W' : World} {N h3 B C H lo hi : Nat} {n : Int} {v v3 u3 v5 u5 : Value} {L M L5 M5 : List (List Int)} (h : LiveD w W N h3 B C H n v v3 u3 v5 u5 L M L5 M5) (k : Ins lo hi W W')
    (h0 : w.heap.size ≤ lo) (hN : N < lo) (hh : h3 ≤ lo) (hs : h3 ≤ W.heap.size) (hB : hi ≤ B) (hC : B ≤ C) : LiveD w W' N h3 B C H n v v3 u3 v5 u5 L M L5 M5 :=
  ⟨k.ext h.ext h0, h.arg.ins k (.inl hN), h.s3.stood (k.stood hs (.inl hh)), h.t3.stood (k.stood hs (.inl hh)), h.f5.ins k (.inl hB), h.g5.ins k (.inl (Nat.le_trans hB hC))⟩
theorem LiveD.mark1 {w W W' : World} {N h3 B C H : Nat} {n : Int} {v v3 u3 v5 u5 : Value} {L M L5 M5 L6 : List (List Int)} (h : LiveD w W N h3 B C H n v v3 u3 v5 u5 L M L5 M5) (k : Ins B C W W') (f : FreshSB B C W' v5 L6)
    (h0 : w.heap.size ≤ B) (hN : N < B) (hh : h3 ≤ B) (hs : h3 ≤ W.heap.size) : LiveD w W' N h3 B C H n v v3 u3 v5 u5 L M L6 M5 :=
  ⟨k.ext h.ext h0, h.arg.ins k (.inl hN), h.s3.stood (k.stood hs (.inl hh)), h.t3.stood (k.stood hs (.inl hh)), f, h.g5.ins k (.inl (Nat.le_refl _))⟩
theorem LiveD.mark2 {w W W' : World} {N h3 B C H : Nat} {n : Int} {v v3 u3 v5 u5 : Value} {L M L5 M5 M6 : List (List Int)} (h : LiveD w W N h3 B C H n v v3 u3 v5 u5 L M L5 M5) (k : Ins C H W W') (g : FreshSB C H W' u5 M6)
    (h0 : w.heap.size ≤ C) (hN : N < C) (hh : h3 ≤ C) (hs : h3 ≤ W.heap.size) : LiveD w W' N h3 B C H n v v3 u3 v5 u5 L M L5 M6 :=
  ⟨k.ext h.ext h0, h.arg.ins k (.inl hN), h.s3.stood (k.stood hs (.inl hh)), h.t3.stood (k.stood hs (.inl hh)), h.f5.ins k (.inr (Nat.le_refl _)), g⟩

theorem bulk_by {L : List (List Int)} (r : Nat) (h : ∀ l ∈ L, l.length ≤ r) : bulk L ≤ (r + 1) * L.length := by
  unfold bulk
  induction L with
  | nil => simp
  | cons x t ih =>
    have h1 := h x (by simp)
    have h2 := ih (fun l hl => h l (by simp [hl]))
    simp only [List.map_cons, List.sum_cons, List.length_cons] at h2 ⊢
    rw [Nat.mul_add]
    omega

end Go.Proofs.Ytjfnkcohpffigaa

namespace Go.Proofs.Ytjfnkcohpffigaa
open Go.RowKit Go.Maps
set_option linter.unusedVariables false

/-- The places, in a list of instances, of those that are in P: rising. -/
def Got (L P : List (Nat × Nat)) (l : List Int) : Prop := Rises l ∧ ∀ z : Int, z ∈ l ↔ ∃ (k : Nat) (y : Nat × Nat), z = (k : Int) ∧ L[k]? = some y ∧ y ∈ P
theorem Got.nil (L : List (Nat × Nat)) : Got L [] [] := ⟨List.Pairwise.nil, fun z => by simp⟩
theorem pairOf_inj {x y : Nat × Nat} (h : pairOf x = pairOf y) : x = y := by
  unfold pairOf at h
  simp at h
  exact Prod.ext (by omega) (by omega)
theorem Got.none {L P : List (Nat × Nat)} {l : List Int} {y : Nat × Nat} (h : Got L P l) (hn : pairOf y ∉ L.map pairOf) : Got L (P ++ [y]) l := by
  have hy : y ∉ L := fun hm => hn (List.mem_map_of_mem hm)
  refine ⟨h.1, fun z => ?_⟩
  rw [h.2]
  constructor
  · rintro ⟨k, x, e, hk, hx⟩
    exact ⟨k, x, e, hk, by simp [hx]⟩
  · rintro ⟨k, x, e, hk, hx⟩
    rw [List.mem_append, List.mem_singleton] at hx
    rcases hx with hx | rfl
    · exact ⟨k, x, e, hk, hx⟩
    · exact absurd (List.mem_of_getElem? hk) hy
theorem Got.put {L P : List (Nat × Nat)} {l : List Int} {y : Nat × Nat} {k : Nat} (h : Got L P l) (hL : L.Nodup) (hk : (L.map pairOf)[k]? = some (pairOf y)) : Got L (P ++ [y]) (putI l k) := by
  have hky : L[k]? = some y := by
    rw [List.getElem?_map] at hk
    cases hx : L[k]? with
    | none => rw [hx] at hk; cases hk
    | some x =>
      rw [hx] at hk
      simp only [Option.map_some, Option.some.injEq] at hk
      rw [pairOf_inj hk]
  refine ⟨putI_rises _ h.1, fun z => ?_⟩
  rw [putI_mem, h.2]
  constructor
  · rintro (⟨k', x, e, hk', hx⟩ | e)
    · exact ⟨k', x, e, hk', by simp [hx]⟩
    · exact ⟨k, y, e, hky, by simp⟩
  · rintro ⟨k', x, e, hk', hx⟩
    rw [List.mem_append, List.mem_singleton] at hx
    rcases hx with hx | rfl
    · exact .inl ⟨k', x, e, hk', hx⟩
    · refine .inr ?_
      rw [e]
      obtain ⟨h1, e1⟩ := List.getElem?_eq_some_iff.1 hky
      obtain ⟨h2, e2⟩ := List.getElem?_eq_some_iff.1 hk'
      have := (List.getElem_inj hL).1 (e2.trans e1.symm)
      rw [this]
theorem got_row {n : Int} {T : List (List RowD)} (hg : goodTab n T = true) {x : Nat × Nat} (hx : x ∈ insts T) {l : List Int} (h : Got (insts T) (depsL n T x) l) : l = rowE n T (insts T) x (insts T).length := by
  refine rises_ext h.1 ?_ fun z => ?_
  · unfold rowE
    unfold Rises
    rw [List.pairwise_map]
    exact (List.pairwise_lt_range.filter _).imp fun h => by omega
  · rw [h.2]
    have hcx := com_row hg (mem_insts.1 hx)
    unfold rowE
    rw [List.mem_map]
    have key : ∀ y, y ∈ insts T → (y ∈ depsL n T x ↔ edgeB n T x y = true) := fun y hy => by
      have hcy := com_row hg (mem_insts.1 hy)
      have hd := dep_in hg hcx.2.2.1 x.2 y.1
      unfold depsL edgeB
      rw [mem_depsTo]
      unfold depN
      simp only [Bool.and_eq_true, Bool.not_eq_true', decide_eq_false_iff_not, decide_eq_true_eq]
      constructor
      · rintro ⟨h1, h2, h3⟩
        exact ⟨fun e => h3 e.symm, by omega⟩
      · rintro ⟨h1, h2⟩
        exact ⟨by omega, by omega, fun e => h1 e.symm⟩
    constructor
    · rintro ⟨k, y, e, hk, hy⟩
      refine ⟨k, ?_, e.symm⟩
      rw [List.mem_filter, List.mem_range]
      obtain ⟨h1, e1⟩ := List.getElem?_eq_some_iff.1 hk
      refine ⟨h1, ?_⟩
      rw [hk]
      exact (key y (List.mem_of_getElem? hk)).1 hy
    · rintro ⟨k, hk, e⟩
      rw [List.mem_filter, List.mem_range] at hk
      refine ⟨k, (insts T)[k]'hk.1, e.symm, List.getElem?_eq_getElem hk.1, ?_⟩
      have h2 := hk.2
      rw [List.getElem?_eq_getElem hk.1, Option.getD_some] at h2
      exact (key _ (List.getElem_mem hk.1)).2 h2
theorem insts_nodup (T : List (List RowD)) : (insts T).Nodup := (insts_lex T).imp fun h e => by subst e; unfold lexL at h; omega

theorem putI_mostG (l : List Int) (n : Int) : (putI l n).length ≤ l.length + 1 := by
  unfold putI
  split
  · omega
  · simp only [List.length_append, List.length_take, List.length_drop, List.length_cons, List.length_nil]
    omega

/-- Two lists of lists come back: the second behind the first. -/
def TwoSS (L M : List (List Int)) (w : World) (e : Ending) (w' : World) : Prop :=
  ∃ v u w1, e = .returned (.tuple #[v, u]) ∧ FreshSS w.heap.size w1 v L ∧ Ext w w1 ∧ FreshSS w1.heap.size w' u M ∧ Ext w1 w'

end Go.Proofs.Ytjfnkcohpffigaa

namespace Go.Proofs.Ytjfnkcohpffigaa
open Go.RowKit Go.Maps
set_option linter.unusedVariables false

theorem PairsAt.form {w : World} {v : Value} {vs : List Value} {L : List (Nat × Nat)} (h : PairsAt w v vs L) : ∃ a c, v = .slice a vs.length c := by
  rcases h.reads with ⟨rfl, rfl⟩ | ⟨b, off, cap, rfl, _⟩
  · exact ⟨none, 0, rfl⟩
  · exact ⟨_, cap, rfl⟩
theorem readyL_take {n : Int} {T : List (List RowD)} {j : Nat} {x : Nat × Nat} (hx : (insts T)[j]? = some x) : ((insts T).take (j + 1)).filter (fun x => readyB n T x.1 x.2) = ((insts T).take j).filter (fun x => readyB n T x.1 x.2) ++ if readyB n T x.1 x.2 then [x] else [] := by
  rw [List.take_add_one, hx, List.filter_append]
  congr 1
  cases h : readyB n T x.1 x.2 <;> simp [h]

set_option maxHeartbeats 8000000 in
set_option maxRecDepth 100000 in
theorem l6Ready_any (n : Int) (u : Value) (T : List (List RowD)) (w : World) (hu : Rowzz w u T) (hg : goodTab n T = true) :
    Calls Try.prog 32 #[.agg #[.int .i64 n, u]] w (fun e w' => ∃ v vs, e = .returned v ∧ PairsAt w' v vs (readyL n T) ∧ Ext w w') := by
  have H56 := Lib.hid (goodTab_both hg)
  have HG := Lib.hid hg
  have HU := Lib.hid hu
  have hx0 := Ext.alloc1 w (.cells #[.int .i64 n, u] 31)
  have b0 := attrAt_new w 31 n u
  obtain ⟨au, cu, rfl, hlu, _, _⟩ := hu
  clear hg
  go_enter Try.func32, Try.ntmps32
  go_wp2_with fail
  refine (l4Committed_any n _ T _ (HU.out.ext hx0) H56.out.1 H56.out.2).mono ?_
  rintro e W ⟨v1, rfl, f1, x1⟩
  have HB := Lib.hid (b0.ext x1)
  have XW := Lib.hid (hx0.trans x1)
  have f1' : FreshSS w.heap.size W v1 ((insts T).map pairOf) := by
    have h := f1.more hx0.size
    rw [allTo_insts] at h
    exact h
  obtain ⟨vs, fv, rv⟩ := f1'.vals
  have hvl : vs.length = (insts T).length := by rw [rv.len, List.length_map]
  have HV : Hid (FreshV w.heap.size W v1 vs) := Lib.hid fv
  have HRV : Hid (PRows w.heap.size W vs (insts T)) := Lib.hid ⟨hvl, fun j u x hu hx => rv.row j u _ hu (by rw [List.getElem?_map, hx]; rfl)⟩
  obtain ⟨a1, k1, rfl, hl1, hcap1, hc1⟩ := f1'.intss
  rw [pairs_len] at hl1 hcap1 HV ⊢
  have HSH := Lib.hid (insts_short HG.out)
  obtain ⟨m, hm⟩ : ∃ m, m = (insts T).length := ⟨_, rfl⟩
  rw [← hm] at hl1 hcap1 HV ⊢
  unfold maxLen at hl1
  have HM := Lib.hid hm
  have HVL : Hid (vs.length = m) := Lib.hid (by rw [hvl, hm])
  have hm30 : m ≤ 30 := by rw [hm]; exact HSH.out
  clear f1 f1' hx0 x1 b0 hc1 hm fv rv hvl
  go_wp2
  go_loopw [3, 9] (fun o i wr => ∃ (j : Nat) (os : List Value), j ≤ m ∧ i = .int .i64 j ∧ Hid (FreshV W.heap.size wr o os) ∧ Hid (PRows w.heap.size W os (((insts T).take j).filter fun x => readyB n T x.1 x.2)) ∧ Hid (Ext W wr)) (fun _ i _ => m - (intOf i).toNat)
  case atStart => exact ⟨0, [], Nat.zero_le _, rfl, Lib.hid (FreshV.nil _ _), Lib.hid (by simpa using PRows.nil _ _), Lib.hid (Ext.refl _)⟩
  case round =>
    obtain ⟨j, os, hj, rfl, HF, HO, HX⟩ := hrel
    by_cases hlt : j < m
    · have hjl : j < (insts T).length := by rw [← HM.out]; exact hlt
      obtain ⟨x, hx⟩ : ∃ x, (insts T)[j]? = some x := ⟨_, List.getElem?_eq_getElem hjl⟩
      obtain ⟨xv, hxv⟩ : ∃ xv, vs[j]? = some xv := ⟨_, List.getElem?_eq_getElem (by rw [HVL.out]; exact hlt)⟩
      obtain ⟨g1, k1', hvd, _, _⟩ := HV.out.big (by rw [HVL.out]; omega)
      simp only [Value.slice.injEq] at hvd
      obtain ⟨rfl, hvn, hvk⟩ := hvd
      subst hvk
      clear hvn
      have gx := HX.out.cell (HV.out.at HVL.out hxv)
      have HXF0 := Lib.hid (HRV.out.2 j xv x hxv hx)
      have HXF := Lib.hid (HXF0.out.ext HX.out)
      obtain ⟨bx, ox, cx, rfl, x0, x1⟩ := pair_at HXF.out.ints
      have hxc : instCom T x.1 x.2 = true := mem_insts.1 (List.mem_of_getElem? hx)
      have HXC := Lib.hid hxc
      have HXX := Lib.hid hx
      have hbx := HB.out.ext HX.out
      have ks : ∀ V, Ext wr V → Ext wr V ∧ V.cell? ⟨w.heap.size, 0, none⟩ = some (.int .i64 n) ∧ V.cell? ⟨w.heap.size, 1, none⟩ = some (.slice au T.length cu) ∧ V.cell? ⟨bx, ox, none⟩ = some (.int .i64 x.1) ∧ V.cell? ⟨bx, ox + 1, none⟩ = some (.int .i64 ((x.2 : Int) + 1)) := fun V hV => ⟨hV, hV.cell hbx.1, hV.cell hbx.2, hV.cell x0, hV.cell x1⟩
      have KS := Lib.hid ks
      have HR := Lib.hid (Ext.drew (Ext.refl wr))
      have cB : ∀ V, Ext wr V → Calls Try.prog 45 #[.agg #[.int .i64 n, .slice au T.length cu], .int .i64 x.1, .int .i64 ((x.2 : Int) + 1)] V (BlkR n T (x.1, x.2) V) := fun V hV => l6Blockers_any n _ T x.1 x.2 _ (HU.out.ext (XW.out.trans (HX.out.trans hV))) HG.out hxc
      have CB := Lib.hid cB
      clear x0 x1 hx hxv hxc hbx ks cB
      go_wp2_with fail
      go_region_held3 (fun V => Ext wr V ∧ V.cell? ⟨w.heap.size, 0, none⟩ = some (.int .i64 n) ∧ V.cell? ⟨w.heap.size, 1, none⟩ = some (.slice au T.length cu) ∧ V.cell? ⟨bx, ox, none⟩ = some (.int .i64 x.1) ∧ V.cell? ⟨bx, ox + 1, none⟩ = some (.int .i64 ((x.2 : Int) + 1))) (first | (with_reducible exact KS.out _ HR.out) | (with_reducible exact KS.out _ SS.out)) (first | (go_at_call 45; refine (CB.out _ (And.left (by with_reducible assumption))).mono ?_; rintro e W3 ⟨vd, ds, s', i', rfl, hpa, hbi, hi', hbb, x3⟩; obtain ⟨ad, kd, rfl⟩ := hpa.form; have SS := Lib.hid (Ext.trans (And.left (by with_reducible assumption)) x3)))
      have hrd : readyB n T x.1 x.2 = decide (ds.length = 0) := by
        rw [Bool.eq_iff_iff, readyB_iff, decide_eq_true_iff]
        have h1 := hbi.ready hi'
        have h2 := hpa.len
        constructor
        · intro h
          rw [h2, h1.2 h]; rfl
        · intro h
          exact h1.1 (List.eq_nil_of_length_eq_zero (by omega))
      obtain ⟨l0, hl0⟩ : ∃ l0, l0 = ds.length := ⟨_, rfl⟩
      have hl31 : l0 ≤ 30 := by rw [hl0, hpa.len]; exact hbb.few.2
      rw [← hl0] at hrd ⊢
      have HXW := Lib.hid (HX.out.trans SS.out)
      have HF3 := Lib.hid (HF.out.ext SS.out)
      have HTK := Lib.hid (readyL_take (n := n) HXX.out)
      have HXV : Hid (Fresh w.heap.size W (.slice (some ⟨bx, ox, none⟩) 2 cx) (pairOf x)) := HXF0
      clear hpa hbi hi' hbb x3 KS CB HR hl0 gx HXF SS HX HF
      by_cases h0 : l0 = 0
      · subst h0
        have HRD : Hid (readyB n T x.1 x.2 = true) := Lib.hid (by rw [hrd]; rfl)
        have HLL : Hid (os.length ≤ 1048576) := Lib.hid (by
          have h1 := HO.out.1
          have h2 := List.length_filter_le (fun x : Nat × Nat => readyB n T x.1 x.2) ((insts T).take j)
          have h3 := HSH.out
          rw [List.length_take] at h2
          omega)
        have HSZ : Hid (W.heap.size ≤ (W3.alloc (.cells #[.slice (some ⟨bx, ox, none⟩) 2 cx] 46)).heap.size) := Lib.hid (HXW.out.alloc _).size
        have HF4 := Lib.hid (HF3.out.ext (Ext.alloc1 W3 (.cells #[.slice (some ⟨bx, ox, none⟩) 2 cx] 46)))
        clear hrd hl31 HF3
        go_wp2_with (at_builtin; refine wpList_pushV rfl _ _ rfl W.heap.size _ os rfl HF4.out (.slice (some ⟨bx, ox, none⟩) 2 cx) ⟨W3.heap.size, 0, none⟩ 1 rfl (cell_alloc_one _ _ _) rfl HLL.out HSZ.out ?_)
        intro v5 w5 f5 g5 k5
        have F5 := Lib.hid f5
        have X5 := Lib.hid (k5 W (HXW.out.alloc _) (Nat.le_refl _))
        have HON := Lib.hid (HO.out.snoc HXV.out)
        clear f5 g5 k5 HF4 HLL HSZ
        go_wp2
        go_roundw
        case rel => exact ⟨j + 1, _, by omega, by go_num, F5, Lib.hid (by rw [HTK.out, HRD.out, if_pos rfl]; exact HON.out), X5⟩
        case measure => simp [intOf]; omega
      · have HRD : Hid (readyB n T x.1 x.2 = false) := Lib.hid (by rw [hrd]; exact decide_eq_false h0)
        have ne : ((l0 : Int) == 0) = false := by simpa using h0
        clear hrd h0
        go_wp2
        go_roundw
        case rel => exact ⟨j + 1, os, by omega, by go_num, HF3, Lib.hid (by rw [HTK.out, HRD.out]; simpa using HO.out), HXW⟩
        case measure => simp [intOf]; omega
    · obtain rfl : j = m := by omega
      have HE : Hid (PRows w.heap.size wr os (readyL n T)) := Lib.hid (by
        have h := HO.out.ext HX.out
        rw [HM.out, List.take_length] at h
        exact h)
      have FE := Lib.hid HF.out
      have XE := Lib.hid (XW.out.trans HX.out)
      clear HO HF HX
      go_wp2
      go_ret
      exact ⟨_, os, rfl, PRows.at (FE.out.more XW.out.size) HE.out, XE.out⟩

set_option maxHeartbeats 2000000 in
set_option maxRecDepth 100000 in
theorem specReadyIn_any (n : Int) (u : Value) (T : List (List RowD)) (w : World) (hu : Rowzz w u T) :
    Calls Try.prog 9 #[.agg #[.int .i64 n, u]] w (ReadSS (readyR n T) (goodTab n T) w) := by
  obtain ⟨P, hP⟩ : ∃ P, P = readyR n T := ⟨_, rfl⟩
  obtain ⟨g, hg⟩ : ∃ g, g = goodTab n T := ⟨_, rfl⟩
  rw [← hP, ← hg]
  have hx0 := Ext.alloc1 w (.cells #[.int .i64 n, u] 31)
  have b0 := attrAt_new w 31 n u
  have HU := Lib.hid (hu.ext hx0)
  have HX := Lib.hid hx0
  have HP := Lib.hid hP
  have HGG := Lib.hid hg
  obtain ⟨au, cu, rfl, hlu, _, _⟩ := hu
  clear hx0 hP hg
  go_enter Try.func9, Try.ntmps9
  go_wp2_with fail
  refine (specGoodTable_any n _ T _ HU.out).mono ?_
  rintro e w1 ⟨rfl, x1⟩
  rw [← HGG.out]
  cases g with
  | false =>
    have eP : P = [] := by rw [HP.out]; unfold readyR; rw [← HGG.out]; rfl
    have X1 := Lib.hid (HX.out.trans x1)
    have EP := Lib.hid eP
    clear eP
    go_wp2
    go_ret2
    rw [EP.out]
    exact ⟨_, rfl, Intss.nil _, X1.out⟩
  | true =>
    obtain ⟨c1, c2⟩ := b0.ext x1
    have X1 := Lib.hid (HX.out.trans x1)
    have HU1 := Lib.hid (HU.out.ext x1)
    clear x1 b0
    go_wp2_with fail
    refine (l6Ready_any n _ T _ HU1.out HGG.out.symm).mono ?_
    rintro e w5 ⟨v5, vs, rfl, hpa, x5⟩
    have HI := Lib.hid hpa.intss
    have X5 := Lib.hid (X1.out.trans x5)
    have EP : Hid (P = (readyL n T).map pairOf) := Lib.hid (by rw [HP.out]; unfold readyR; rw [← HGG.out]; rfl)
    clear hpa x5 c1 c2
    go_wp2
    go_ret2
    rw [EP.out]
    exact ⟨_, rfl, HI.out, X5.out⟩
theorem readyR_bulk (n : Int) (T : List (List RowD)) : bulk (readyR n T) ≤ 1000 := by
  unfold readyR
  cases hg : goodTab n T with
  | false => simp [bulk]
  | true =>
    have h1 := readyL_short hg
    have h2 := bulk_by (L := (readyL n T).map pairOf) 2 (fun l hl => by
      obtain ⟨x, _, rfl⟩ := List.mem_map.1 hl
      simp [pairOf])
    rw [List.length_map] at h2
    simp only [if_true]
    omega
end Go.Proofs.Ytjfnkcohpffigaa

namespace Go.Proofs.Ytjfnkcohpffigaa
open Go.RowKit
set_option linter.unusedVariables false

def lensR (R : List RowD) : List Nat := R.map fun r => r.l.length
theorem lensR_len (R : List RowD) : (lensR R).length = R.length := by simp [lensR]
theorem lensR_get {R : List RowD} {k : Nat} (h : k < R.length) : (lensR R)[k]'(by rw [lensR_len]; exact h) = R[k].l.length := by simp [lensR]

set_option maxHeartbeats 1000000 in
theorem szRowS_any (v : Value) (R : List RowD) (left : Int) (w : World) (hv : Rowz w v R) (h0 : 0 ≤ left) (h1 : left ≤ 1099511627776) :
    Calls Try.prog 78 #[v, .int .i64 left] w (IntExt (lessened left (bulkR R)) w) := by
  obtain ⟨av, cv, rfl, hlv, _, hcv⟩ := hv
  unfold maxLen at hlv
  have hb : bulkR R = R.length + (lensR R).sum := rfl
  by_cases hlt : left < R.length
  · rw [lessened_no (by omega)]
    clear hb hcv
    go_enter Try.func78, Try.ntmps78
    go_wp2
    go_ret
    exact ⟨rfl, Ext.refl _⟩
  · have HBK := Lib.hid hb
    have hle : (R.length : Int) ≤ left := by omega
    clear hb hlt
    go_enter Try.func78, Try.ntmps78
    go_wp2
    go_loopw [1, 5] (fun m i wr => ∃ (k : Nat) (r : Int), k ≤ R.length ∧ i = .int .i64 k ∧ m = .int .i64 r ∧ 0 ≤ r ∧ Hid (r = left - R.length - sumN (lensR R) k) ∧ Ext w wr) (fun _ i _ => R.length - (intOf i).toNat)
    case atStart => exact ⟨0, left - R.length, Nat.zero_le _, rfl, rfl, by omega, Lib.hid (by rw [sumN_zero]; simp), Ext.refl _⟩
    case round =>
      obtain ⟨k, r, hk, rfl, rfl, hr0, hr, hx⟩ := hrel
      have hr1 : r ≤ 1099511627776 := by have := hr.out; omega
      by_cases hlt : k < R.length
      · obtain ⟨b, off, rfl, dv⟩ := hcv (by omega)
        obtain ⟨u, hu, iu⟩ := dv k hlt
        have hs := sumN_succ (g := lensR R) (k := k) (by rw [lensR_len]; exact hlt)
        rw [lensR_get hlt] at hs
        obtain ⟨d, hd⟩ : ∃ d, d = R[k] := ⟨_, rfl⟩
        rw [← hd] at hu iu hs
        obtain ⟨c0, c1, c2, c3, c4, c5, c6, c7, c8, c9⟩ := hu.ext hx
        have IU := Lib.hid (iu.ext hx)
        have HS := Lib.hid hs
        clear hcv dv hu iu hs hd
        by_cases hl : r < d.l.length
        · have L := Lib.hid (lessened_no hl)
          have hsum := sumN_mono (g := lensR R) (k := k + 1) (by rw [lensR_len]; omega)
          have HL := Lib.hid (show lessened left (bulkR R) = -1 from lessened_no (by have h1 := hr.out; have h2 := HS.out; have h3 := HBK.out; omega))
          clear hl hsum
          go_wp2_with fail
          refine (szRow_any d _ _ _ IU.out hr0 (by omega)).mono ?_
          rintro e w2 ⟨rfl, x2⟩
          have hx2 := hx.trans x2
          clear x2 hx c0 c1 c2 c3 c4 c5 c6 c7 c8 c9
          rw [L.out]
          go_wp2
          go_ret
          exact ⟨by rw [HL.out]; rfl, hx2⟩
        · obtain ⟨q, hq⟩ : ∃ q, q = r - (d.l.length : Int) := ⟨_, rfl⟩
          have hq0 : 0 ≤ q := by omega
          have L : Hid (lessened r d.l.length = q) := Lib.hid (by rw [hq]; exact lessened_yes (by omega))
          have HQ := Lib.hid hq
          clear hl hq
          go_wp2_with fail
          refine (szRow_any d _ _ _ IU.out hr0 (by omega)).mono ?_
          rintro e w2 ⟨rfl, x2⟩
          have hx2 := hx.trans x2
          clear x2 hx c0 c1 c2 c3 c4 c5 c6 c7 c8 c9
          rw [L.out]
          go_wp2
          go_roundw
          case rel => exact ⟨k + 1, q, by omega, by go_num, rfl, hq0, Lib.hid (by have h1 := hr.out; have h2 := HS.out; have h3 := HQ.out; omega), hx2⟩
          case measure => simp [intOf]; omega
      · obtain rfl : k = R.length := by omega
        go_wp2
        go_ret
        refine ⟨?_, hx⟩
        have h1 := hr.out
        have h3 := HBK.out
        have h4 := sumN_all (lensR R)
        rw [lensR_len] at h4
        have he : lessened left (bulkR R) = r := by rw [lessened_yes (by omega)]; omega
        rw [he]; rfl

def bulks (T : List (List RowD)) : List Nat := T.map bulkR
theorem bulks_len (T : List (List RowD)) : (bulks T).length = T.length := by simp [bulks]
theorem bulks_get {T : List (List RowD)} {k : Nat} (h : k < T.length) : (bulks T)[k]'(by rw [bulks_len]; exact h) = bulkR T[k] := by simp [bulks]

set_option maxHeartbeats 1000000 in
theorem szRowSS_any (v : Value) (T : List (List RowD)) (left : Int) (w : World) (hv : Rowzz w v T) (h0 : 0 ≤ left) (h1 : left ≤ 1099511627776) :
    Calls Try.prog 30 #[v, .int .i64 left] w (IntExt (lessened left (bulkT T)) w) := by
  obtain ⟨av, cv, rfl, hlv, _, hcv⟩ := hv
  unfold maxLen at hlv
  have hb : bulkT T = T.length + (bulks T).sum := rfl
  by_cases hlt : left < T.length
  · rw [lessened_no (by omega)]
    clear hb hcv
    go_enter Try.func30, Try.ntmps30
    go_wp2
    go_ret
    exact ⟨rfl, Ext.refl _⟩
  · have HBK := Lib.hid hb
    have hle : (T.length : Int) ≤ left := by omega
    clear hb hlt
    go_enter Try.func30, Try.ntmps30
    go_wp2
    go_loopw [1, 5] (fun m i wr => ∃ (k : Nat) (r : Int), k ≤ T.length ∧ i = .int .i64 k ∧ m = .int .i64 r ∧ 0 ≤ r ∧ Hid (r = left - T.length - sumN (bulks T) k) ∧ Ext w wr) (fun _ i _ => T.length - (intOf i).toNat)
    case atStart => exact ⟨0, left - T.length, Nat.zero_le _, rfl, rfl, by omega, Lib.hid (by rw [sumN_zero]; simp), Ext.refl _⟩
    case round =>
      obtain ⟨k, r, hk, rfl, rfl, hr0, hr, hx⟩ := hrel
      have hr1 : r ≤ 1099511627776 := by have := hr.out; omega
      by_cases hlt : k < T.length
      · obtain ⟨b, off, rfl, dv⟩ := hcv (by omega)
        obtain ⟨u, hu, iu⟩ := dv k hlt
        have hs := sumN_succ (g := bulks T) (k := k) (by rw [bulks_len]; exact hlt)
        rw [bulks_get hlt] at hs
        obtain ⟨d, hd⟩ : ∃ d, d = T[k] := ⟨_, rfl⟩
        rw [← hd] at iu hs
        have c0 := hx.cell hu
        have IU := Lib.hid (iu.ext hx)
        have HS := Lib.hid hs
        clear hcv dv hu iu hs hd
        by_cases hl : r < bulkR d
        · have L := Lib.hid (lessened_no hl)
          have hsum := sumN_mono (g := bulks T) (k := k + 1) (by rw [bulks_len]; omega)
          have HL := Lib.hid (show lessened left (bulkT T) = -1 from lessened_no (by have h1 := hr.out; have h2 := HS.out; have h3 := HBK.out; omega))
          clear hl hsum
          go_wp2_with fail
          refine (szRowS_any _ d _ _ IU.out hr0 (by omega)).mono ?_
          rintro e w2 ⟨rfl, x2⟩
          have hx2 := hx.trans x2
          clear x2 hx c0
          rw [L.out]
          go_wp2
          go_ret
          exact ⟨by rw [HL.out]; rfl, hx2⟩
        · obtain ⟨q, hq⟩ : ∃ q, q = r - (bulkR d : Int) := ⟨_, rfl⟩
          have hq0 : 0 ≤ q := by omega
          have L : Hid (lessened r (bulkR d) = q) := Lib.hid (by rw [hq]; exact lessened_yes (by omega))
          have HQ := Lib.hid hq
          clear hl hq
          go_wp2_with fail
          refine (szRowS_any _ d _ _ IU.out hr0 (by omega)).mono ?_
          rintro e w2 ⟨rfl, x2⟩
          have hx2 := hx.trans x2
          clear x2 hx c0
          rw [L.out]
          go_wp2
          go_roundw
          case rel => exact ⟨k + 1, q, by omega, by go_num, rfl, hq0, Lib.hid (by have h1 := hr.out; have h2 := HS.out; have h3 := HQ.out; omega), hx2⟩
          case measure => simp [intOf]; omega
      · obtain rfl : k = T.length := by omega
        go_wp2
        go_ret
        refine ⟨?_, hx⟩
        have h1 := hr.out
        have h3 := HBK.out
        have h4 := sumN_all (bulks T)
        rw [bulks_len] at h4
        have he : lessened left (bulkT T) = r := by rw [lessened_yes (by omega)]; omega
        rw [he]; rfl

set_option maxHeartbeats 1000000 in
theorem szTable_any (n : Int) (u : Value) (T : List (List RowD)) (left : Int) (w : World) (hv : Rowzz w u T) (h0 : 0 ≤ left) (h1 : left ≤ 1099511627776) :
    Calls Try.prog 8 #[.agg #[.int .i64 n, u], .int .i64 left] w (IntExt (lessened left (bulkT T)) w) := by
  have HB := attrAt_new w 24 n u
  by_cases hlt : left < bulkT T
  · have L := Lib.hid (lessened_no hlt)
    clear hlt
    go_enter Try.func8, Try.ntmps8
    go_wp2_with fail
    refine (szRowSS_any _ _ _ _ (hv.ext (Ext.alloc (Ext.refl _) _)) h0 h1).mono ?_
    rintro e w1 ⟨rfl, x1⟩
    have hx := (Ext.alloc (Ext.refl w) _).trans x1
    clear x1 HB
    rw [L.out]
    go_wp2
    go_ret
    exact ⟨by rw [L.out]; rfl, hx⟩
  · obtain ⟨q, hq⟩ : ∃ q, q = left - (bulkT T : Int) := ⟨_, rfl⟩
    have hq0 : 0 ≤ q := by omega
    have LR : Hid (lessened left (bulkT T) = q) := Lib.hid (by rw [hq]; exact lessened_yes (by omega))
    clear hlt hq
    rw [LR.out]
    go_enter Try.func8, Try.ntmps8
    go_wp2_with fail
    refine (szRowSS_any _ _ _ _ (hv.ext (Ext.alloc (Ext.refl _) _)) h0 h1).mono ?_
    rintro e w1 ⟨rfl, x1⟩
    have hx := (Ext.alloc (Ext.refl w) _).trans x1
    clear x1 HB
    rw [LR.out]
    go_wp2
    go_ret
    exact ⟨rfl, hx⟩

end Go.Proofs.Ytjfnkcohpffigaa
