/- Texts of this proof, part n: words, plain facts, contracts. -/
import Derived.Test.YtjfnkcohpffigaaMBlockersOfm
import Derived.Test.YtjfnkcohpffigaaMBlockersOfj
import Derived.Test.YtjfnkcohpffigaaMBlockersOfl
import Derived.Test.YtjfnkcohpffigaaMBlockersOfk
import Derived.Test.YtjfnkcohpffigaaMBlockersOfb
import Derived.Test.YtjfnkcohpffigaaMBlockersOfh
import Derived.Test.YtjfnkcohpffigaaMBlockersOfe

namespace Go.Proofs.Ytjfnkcohpffigaa
open Go.RowKit
set_option linter.unusedVariables false

/-- As FreshSS, all blocks below h. -/
def FreshSB (B h : Nat) (w : World) (v : Value) (L : List (List Int)) : Prop :=
  ∃ vs, w.ownsRow B 46 1 v L.length vs ∧ Rows_ B w vs L ∧ (∀ (j : Nat) (u : Value), vs[j]? = some u → u.ownBlock = none ∨ u.ownBlock ≠ v.ownBlock) ∧ Und h v ∧ ∀ (j : Nat) (u : Value), vs[j]? = some u → Und h u
theorem FreshSB.nil (B h : Nat) (w : World) : FreshSB B h w (.slice none 0 0) [] := ⟨[], World.ownsRow_nil _ _ _ _, Rows_.nil _ _, (fun _ _ h => by simp at h), (fun b e => by cases e), (fun _ _ h => by simp at h)⟩
theorem FreshSB.of {B h : Nat} {w : World} {v : Value} {L : List (List Int)} (f : FreshSS B w v L) (hb : w.heap.size ≤ h) : FreshSB B h w v L := by
  obtain ⟨vs, h1, h2, h3⟩ := f
  refine ⟨vs, h1, h2, h3, fun b e => Nat.lt_of_lt_of_le (World.ownsRow.lt h1 b e).2 hb, fun j u hu => ?_⟩
  have hj : j < vs.length := (List.getElem?_eq_some_iff.1 hu).1
  exact (h2.row j u _ hu (List.getElem?_eq_getElem (by rw [← h2.len]; exact hj))).und.more hb
theorem FreshSB.ss {B h : Nat} {w : World} {v : Value} {L : List (List Int)} (f : FreshSB B h w v L) : FreshSS B w v L := by
  obtain ⟨vs, h1, h2, h3, _, _⟩ := f
  exact ⟨vs, h1, h2, h3⟩
theorem FreshSB.ext {B h : Nat} {w w' : World} {v : Value} {L : List (List Int)} (f : FreshSB B h w v L) (e : Ext w w') : FreshSB B h w' v L := by
  obtain ⟨vs, h1, h2, h3, h4, h5⟩ := f
  exact ⟨vs, e.ownsRow h1, h2.ext e, h3, h4, h5⟩
theorem FreshSB.intss {B h : Nat} {w : World} {v : Value} {L : List (List Int)} (f : FreshSB B h w v L) : Intss w v L := f.ss.intss
theorem FreshSB.ins {B h lo hi : Nat} {w w' : World} {v : Value} {L : List (List Int)} (f : FreshSB B h w v L) (k : Ins lo hi w w') (hb : hi ≤ B ∨ h ≤ lo) : FreshSB B h w' v L := by
  obtain ⟨vs, h1, h2, h3, h4, h5⟩ := f
  refine ⟨vs, k.row h1 (fun b e => ?_), ⟨h2.len, fun j u l hu hl => k.row (h2.row j u l hu hl) (fun b e => ?_), h2.apart⟩, h3, h4, h5⟩
  · have := World.ownsRow.lt h1 b e
    have := h4 b e
    omega
  · have := World.ownsRow.lt (h2.row j u l hu hl) b e
    have := h5 j u hu b e
    omega
def MarksSB (B h : Nat) (k : Int) (v : Value) (L : List (List Int)) (w : World) (e : Ending) (w' : World) : Prop :=
  e = .returned (.int .i64 (k + (L.map List.length).sum)) ∧ FreshSB B h w' v (markedSS k L L.length) ∧ Ins B h w w'

set_option maxHeartbeats 800000 in
theorem markIntSS_ins (B h : Nat) (v : Value) (L : List (List Int)) (k : Int) (w : World) (hv : FreshSB B h w v L) (hB : B ≤ w.heap.size) (h0 : 0 ≤ k) (hk : k ≤ 1048576) (h1 : bulk L ≤ 1099511627776) :
    Calls Try.prog 15 #[v, .int .i64 k] w (MarksSB B h k v L w) := by
  obtain ⟨vs, ho, hR, hout, hund, hunds⟩ := hv
  have HUND := Lib.hid hund
  have HUNDS := Lib.hid hunds
  clear hund hunds
  have hvl := hR.len
  have hL : L.length ≤ 1099511627776 := by unfold bulk at h1; omega
  have hsum : (L.map List.length).sum ≤ 1099511627776 := by unfold bulk at h1; omega
  rcases ho.2 with ⟨rfl, hn⟩ | ⟨g, cap, cur, rfl, hb, hg, hnc, hcm, hcs, htake⟩
  · obtain rfl : L = [] := List.eq_nil_of_length_eq_zero hn
    clear h1 hsum
    go_enter Try.func15, Try.ntmps15
    go_wp2
    refine wp_loop_rounds 1 ?_; rw [rounds_succ]
    go_wp2
    go_ret
    exact ⟨by simp, FreshSB.nil _ _ _, Ins.refl _ _ _⟩
  · have hout' : ∀ (j : Nat) (u : Value), vs[j]? = some u → u.ownBlock = none ∨ u.ownBlock ≠ some g := hout
    have HOUT := Lib.hid hout'
    have H1 := Lib.hid h1
    have HVL := Lib.hid hvl
    have HSUM := Lib.hid hsum
    clear hg hnc hcm hcs htake cur hb hout hout' h1 hvl hsum
    go_enter Try.func15, Try.ntmps15
    go_wp2
    go_loopw [1, 5] (fun m i wr => ∃ (j : Nat) (r : Int), j ≤ L.length ∧ i = .int .i64 j ∧ m = .int .i64 r ∧ Hid (r = k + sumTo L j) ∧ wr.ownsRow B 46 1 (.slice (some ⟨g, 0, none⟩) L.length cap) L.length vs ∧ Rows_ B wr vs (markedSS k L j) ∧ Ins B h w wr) (fun _ i _ => L.length - (intOf i).toNat)
    case atStart => exact ⟨0, k, Nat.zero_le _, rfl, rfl, Lib.hid (by simp [sumTo]), ho, by rw [markedSS_zero]; exact hR, Ins.refl _ _ _⟩
    case round =>
      clear ho hR
      obtain ⟨j, r, hj, rfl, rfl, hr, ho, hR, hx⟩ := hrel
      by_cases hlt : j < L.length
      · obtain ⟨z, hz⟩ : ∃ z, vs[j]? = some z := ⟨_, List.getElem?_eq_getElem (by rw [HVL.out]; exact hlt)⟩
        have hc := (ho.cellAt j (by omega)).trans hz
        have hf := hR.row j z _ hz (markedSS_old hlt (Nat.le_refl _))
        have hrow : (L[j]).length ≤ 1099511627776 := by have := bulk_row hlt; have := H1.out; omega
        have hr0 : 0 ≤ r := by have := hr.out; omega
        have hr1 : r ≤ 2199024304128 := by have hq := hr.out; have := sumTo_mono (L := L) (k := j) hj; have := HSUM.out; omega
        have HO := Lib.hid ho
        have HR := Lib.hid hR
        have HZ := Lib.hid hz
        have HX := Lib.hid hx
        have HFF := Lib.hid hf
        clear ho hR hz hx hf
        go_wp2_with fail
        refine (markIntS_any B _ _ _ _ HFF.out hr0 (by omega)).mono ?_
        rintro e w2 ⟨rfl, f2, t2⟩
        have hR2 := HR.out.mark HZ.out t2 (by
          have e := hr.out
          rw [e] at f2
          exact f2)
        rw [markedSS_succ hlt] at hR2
        have ho2 := World.ownsRow.kept HO.out t2 (by
          rcases HOUT.out j z HZ.out with hq | hq
          · exact .inr (by rw [hq]; simp [Value.ownBlock])
          · exact .inr (fun e => hq e.symm))
        have hx2 : Ins B h w w2 := HX.out.trans (Ins.of_grown t2 (fun q hq => ⟨(World.ownsRow.lt HFF.out q hq).1, HUNDS.out j z HZ.out q hq⟩))
        have hs := sumTo_succ hlt
        have HS := Lib.hid hs
        clear f2 t2 hc hs
        go_wp2
        go_roundw
        case rel => exact ⟨j + 1, r + (L[j]).length, by omega, by go_num, rfl, Lib.hid (by have := hr.out; have := HS.out; omega), ho2, hR2, hx2⟩
        case measure => simp [intOf]; omega
      · obtain rfl : j = L.length := by omega
        have HO := Lib.hid ho
        have HR := Lib.hid hR
        clear ho hR
        go_wp2
        go_ret
        refine ⟨?_, ⟨vs, by rw [markedSS_length]; exact HO.out, HR.out, HOUT.out, HUND.out, HUNDS.out⟩, hx⟩
        have hq := hr.out
        rw [sumTo_all] at hq
        rw [hq]; rfl

/-- The argument's box N, the model's answers v3, u3 (below h3), the program's v5 (in [B, C)), u5 (in [C, H)). -/
structure LiveD (w W : World) (N h3 B C H : Nat) (n : Int) (v v3 u3 v5 u5 : Value) (L M L5 M5 : List (List Int)) : Prop where
  ext : Ext w W
  arg : AttrAt W N n v
  s3 : SSI h3 W v3 L
  t3 : SSI h3 W u3 M
  f5 : FreshSB B C W v5 L5
  g5 : FreshSB C H W u5 M5
theorem LiveD.on {w W W' : World} {N h3 B C H : Nat} {n : Int} {v v3 u3 v5 u5 : Value} {L M L5 M5 : List (List Int)} (h : LiveD w W N h3 B C H n v v3 u3 v5 u5 L M L5 M5) (e : Ext W W') : LiveD w W' N h3 B C H n v v3 u3 v5 u5 L M L5 M5 :=
  ⟨h.ext.trans e, h.arg.ext e, h.s3.ext e, h.t3.ext e, h.f5.ext e, h.g5.ext e⟩
theorem LiveD.ins {w W W' : World} {N h3 B C H lo hi : Nat} {n : Int} {v v3 u3 v5 u5 : Value} {L M L5 M5 : List (List Int)} (h : LiveD w W N h3 B C H n v v3 u3 v5 u5 L M L5 M5) (k : Ins lo hi W W')
    (h0 : w.heap.size ≤ lo) (hN : N < lo) (hh : h3 ≤ lo) (hs : h3 ≤ W.heap.size) (hB : hi ≤ B) (hC : B ≤ C) : LiveD w W' N h3 B C H n v v3 u3 v5 u5 L M L5 M5 :=
  ⟨k.ext h.ext h0, h.arg.ins k (.inl hN), h.s3.stood (k.stood hs (.inl hh)), h.t3.stood (k.stood hs (.inl hh)), h.f5.ins k (.inl hB), h.g5.ins k (.inl (Nat.le_trans hB hC))⟩
theorem LiveD.mark1 {w W W' : World} {N h3 B C H : Nat} {n : Int} {v v3 u3 v5 u5 : Value} {L M L5 M5 L6 : List (List Int)} (h : LiveD w W N h3 B C H n v v3 u3 v5 u5 L M L5 M5) (k : Ins B C W W') (f : FreshSB B C W' v5 L6)
    (h0 : w.heap.size ≤ B) (hN : N < B) (hh : h3 ≤ B) (hs : h3 ≤ W.heap.size) : LiveD w W' N h3 B C H n v v3 u3 v5 u5 L M L6 M5 :=
  ⟨k.ext h.ext h0, h.arg.ins k (.inl hN), h.s3.stood (k.stood hs (.inl hh)), h.t3.stood (k.stood hs (.inl hh)), f, h.g5.ins k (.inl (Nat.le_refl _))⟩
theorem LiveD.mark2 {w W W' : World} {N h3 B C H : Nat} {n : Int} {v v3 u3 v5 u5 : Value} {L M L5 M5 M6 : List (List Int)} (h : LiveD w W N h3 B C H n v v3 u3 v5 u5 L M L5 M5) (k : Ins C H W W') (g : FreshSB C H W' u5 M6)
    (h0 : w.heap.size ≤ C) (hN : N < C) (hh : h3 ≤ C) (hs : h3 ≤ W.heap.size) : LiveD w W' N h3 B C H n v v3 u3 v5 u5 L M L5 M6 :=
  ⟨k.ext h.ext h0, h.arg.ins k (.inl hN), h.s3.stood (k.stood hs (.inl hh)), h.t3.stood (k.stood hs (.inl hh)), h.f5.ins k (.inr (Nat.le_refl _)), g⟩

theorem bulk_by {L : List (List Int)} (r : Nat) (h : ∀ l ∈ L, l.length ≤ r) : bulk L ≤ (r + 1) * L.length := by
  unfold bulk
  induction L with
  | nil => simp
  | cons x t ih =>
    have h1 := h x (by simp)
    have h2 := ih (fun l hl => h l (by simp [hl]))
    simp only [List.map_cons, List.sum_cons, List.length_cons] at h2 ⊢
    rw [Nat.mul_add]
    omega

end Go.Proofs.Ytjfnkcohpffigaa

namespace Go.Proofs.Ytjfnkcohpffigaa
open Go.RowKit Go.Maps
set_option linter.unusedVariables false

/-- The places, in a list of instances, of those that are in P: rising. -/
def Got (L P : List (Nat × Nat)) (l : List Int) : Prop := Rises l ∧ ∀ z : Int, z ∈ l ↔ ∃ (k : Nat) (y : Nat × Nat), z = (k : Int) ∧ L[k]? = some y ∧ y ∈ P
theorem Got.nil (L : List (Nat × Nat)) : Got L [] [] := ⟨List.Pairwise.nil, fun z => by simp⟩
theorem pairOf_inj {x y : Nat × Nat} (h : pairOf x = pairOf y) : x = y := by
  unfold pairOf at h
  simp at h
  exact Prod.ext (by omega) (by omega)
theorem Got.none {L P : List (Nat × Nat)} {l : List Int} {y : Nat × Nat} (h : Got L P l) (hn : pairOf y ∉ L.map pairOf) : Got L (P ++ [y]) l := by
  have hy : y ∉ L := fun hm => hn (List.mem_map_of_mem hm)
  refine ⟨h.1, fun z => ?_⟩
  rw [h.2]
  constructor
  · rintro ⟨k, x, e, hk, hx⟩
    exact ⟨k, x, e, hk, by simp [hx]⟩
  · rintro ⟨k, x, e, hk, hx⟩
    rw [List.mem_append, List.mem_singleton] at hx
    rcases hx with hx | rfl
    · exact ⟨k, x, e, hk, hx⟩
    · exact absurd (List.mem_of_getElem? hk) hy
theorem Got.put {L P : List (Nat × Nat)} {l : List Int} {y : Nat × Nat} {k : Nat} (h : Got L P l) (hL : L.Nodup) (hk : (L.map pairOf)[k]? = some (pairOf y)) : Got L (P ++ [y]) (putI l k) := by
  have hky : L[k]? = some y := by
    rw [List.getElem?_map] at hk
    cases hx : L[k]? with
    | none => rw [hx] at hk; cases hk
    | some x =>
      rw [hx] at hk
      simp only [Option.map_some, Option.some.injEq] at hk
      rw [pairOf_inj hk]
  refine ⟨putI_rises _ h.1, fun z => ?_⟩
  rw [putI_mem, h.2]
  constructor
  · rintro (⟨k', x, e, hk', hx⟩ | e)
    · exact ⟨k', x, e, hk', by simp [hx]⟩
    · exact ⟨k, y, e, hky, by simp⟩
  · rintro ⟨k', x, e, hk', hx⟩
    rw [List.mem_append, List.mem_singleton] at hx
    rcases hx with hx | rfl
    · exact .inl ⟨k', x, e, hk', hx⟩
    · refine .inr ?_
      rw [e]
      obtain ⟨h1, e1⟩ := List.getElem?_eq_some_iff.1 hky
      obtain ⟨h2, e2⟩ := List.getElem?_eq_some_iff.1 hk'
      have := (List.getElem_inj hL).1 (e2.trans e1.symm)
      rw [this]
theorem got_row {n : Int} {T : List (List RowD)} (hg : goodTab n T = true) {x : Nat × Nat} (hx : x ∈ insts T) {l : List Int} (h : Got (insts T) (depsL n T x) l) : l = rowE n T (insts T) x (insts T).length := by
  refine rises_ext h.1 ?_ fun z => ?_
  · unfold rowE
    unfold Rises
    rw [List.pairwise_map]
    exact (List.pairwise_lt_range.filter _).imp fun h => by omega
  · rw [h.2]
    have hcx := com_row hg (mem_insts.1 hx)
    unfold rowE
    rw [List.mem_map]
    have key : ∀ y, y ∈ insts T → (y ∈ depsL n T x ↔ edgeB n T x y = true) := fun y hy => by
      have hcy := com_row hg (mem_insts.1 hy)
      have hd := dep_in hg hcx.2.2.1 x.2 y.1
      unfold depsL edgeB
      rw [mem_depsTo]
      unfold depN
      simp only [Bool.and_eq_true, Bool.not_eq_true', decide_eq_false_iff_not, decide_eq_true_eq]
      constructor
      · rintro ⟨h1, h2, h3⟩
        exact ⟨fun e => h3 e.symm, by omega⟩
      · rintro ⟨h1, h2⟩
        exact ⟨by omega, by omega, fun e => h1 e.symm⟩
    constructor
    · rintro ⟨k, y, e, hk, hy⟩
      refine ⟨k, ?_, e.symm⟩
      rw [List.mem_filter, List.mem_range]
      obtain ⟨h1, e1⟩ := List.getElem?_eq_some_iff.1 hk
      refine ⟨h1, ?_⟩
      rw [hk]
      exact (key y (List.mem_of_getElem? hk)).1 hy
    · rintro ⟨k, hk, e⟩
      rw [List.mem_filter, List.mem_range] at hk
      refine ⟨k, (insts T)[k]'hk.1, e.symm, List.getElem?_eq_getElem hk.1, ?_⟩
      have h2 := hk.2
      rw [List.getElem?_eq_getElem hk.1, Option.getD_some] at h2
      exact (key _ (List.getElem_mem hk.1)).2 h2
theorem insts_nodup (T : List (List RowD)) : (insts T).Nodup := (insts_lex T).imp fun h e => by subst e; unfold lexL at h; omega

theorem putI_mostG (l : List Int) (n : Int) : (putI l n).length ≤ l.length + 1 := by
  unfold putI
  split
  · omega
  · simp only [List.length_append, List.length_take, List.length_drop, List.length_cons, List.length_nil]
    omega

/-- Two lists of lists come back: the second behind the first. -/
def TwoSS (L M : List (List Int)) (w : World) (e : Ending) (w' : World) : Prop :=
  ∃ v u w1, e = .returned (.tuple #[v, u]) ∧ FreshSS w.heap.size w1 v L ∧ Ext w w1 ∧ FreshSS w1.heap.size w' u M ∧ Ext w1 w'

end Go.Proofs.Ytjfnkcohpffigaa

namespace Go.Proofs.Ytjfnkcohpffigaa
open Go.RowKit Go.Maps
set_option linter.unusedVariables false

theorem PairsAt.form {w : World} {v : Value} {vs : List Value} {L : List (Nat × Nat)} (h : PairsAt w v vs L) : ∃ a c, v = .slice a vs.length c := by
  rcases h.reads with ⟨rfl, rfl⟩ | ⟨b, off, cap, rfl, _⟩
  · exact ⟨none, 0, rfl⟩
  · exact ⟨_, cap, rfl⟩
theorem readyL_take {n : Int} {T : List (List RowD)} {j : Nat} {x : Nat × Nat} (hx : (insts T)[j]? = some x) : ((insts T).take (j + 1)).filter (fun x => readyB n T x.1 x.2) = ((insts T).take j).filter (fun x => readyB n T x.1 x.2) ++ if readyB n T x.1 x.2 then [x] else [] := by
  rw [List.take_add_one, hx, List.filter_append]
  congr 1
  cases h : readyB n T x.1 x.2 <;> simp [h]

set_option maxHeartbeats 8000000 in
set_option maxRecDepth 100000 in
theorem l6Ready_any (n : Int) (u : Value) (T : List (List RowD)) (w : World) (hu : Rowzz w u T) (hg : goodTab n T = true) :
    Calls Try.prog 32 #[.agg #[.int .i64 n, u]] w (fun e w' => ∃ v vs, e = .returned v ∧ PairsAt w' v vs (readyL n T) ∧ Ext w w') := by
  have H56 := Lib.hid (goodTab_both hg)
  have HG := Lib.hid hg
  have HU := Lib.hid hu
  have hx0 := Ext.alloc1 w (.cells #[.int .i64 n, u] 31)
  have b0 := attrAt_new w 31 n u
  obtain ⟨au, cu, rfl, hlu, _, _⟩ := hu
  clear hg
  go_enter Try.func32, Try.ntmps32
  go_wp2_with fail
  refine (l4Committed_any n _ T _ (HU.out.ext hx0) H56.out.1 H56.out.2).mono ?_
  rintro e W ⟨v1, rfl, f1, x1⟩
  have HB := Lib.hid (b0.ext x1)
  have XW := Lib.hid (hx0.trans x1)
  have f1' : FreshSS w.heap.size W v1 ((insts T).map pairOf) := by
    have h := f1.more hx0.size
    rw [allTo_insts] at h
    exact h
  obtain ⟨vs, fv, rv⟩ := f1'.vals
  have hvl : vs.length = (insts T).length := by rw [rv.len, List.length_map]
  have HV : Hid (FreshV w.heap.size W v1 vs) := Lib.hid fv
  have HRV : Hid (PRows w.heap.size W vs (insts T)) := Lib.hid ⟨hvl, fun j u x hu hx => rv.row j u _ hu (by rw [List.getElem?_map, hx]; rfl)⟩
  obtain ⟨a1, k1, rfl, hl1, hcap1, hc1⟩ := f1'.intss
  rw [pairs_len] at hl1 hcap1 HV ⊢
  have HSH := Lib.hid (insts_short HG.out)
  obtain ⟨m, hm⟩ : ∃ m, m = (insts T).length := ⟨_, rfl⟩
  rw [← hm] at hl1 hcap1 HV ⊢
  unfold maxLen at hl1
  have HM := Lib.hid hm
  have HVL : Hid (vs.length = m) := Lib.hid (by rw [hvl, hm])
  have hm30 : m ≤ 30 := by rw [hm]; exact HSH.out
  clear f1 f1' hx0 x1 b0 hc1 hm fv rv hvl
  go_wp2
  go_loopw [3, 9] (fun o i wr => ∃ (j : Nat) (os : List Value), j ≤ m ∧ i = .int .i64 j ∧ Hid (FreshV W.heap.size wr o os) ∧ Hid (PRows w.heap.size W os (((insts T).take j).filter fun x => readyB n T x.1 x.2)) ∧ Hid (Ext W wr)) (fun _ i _ => m - (intOf i).toNat)
  case atStart => exact ⟨0, [], Nat.zero_le _, rfl, Lib.hid (FreshV.nil _ _), Lib.hid (by simpa using PRows.nil _ _), Lib.hid (Ext.refl _)⟩
  case round =>
    obtain ⟨j, os, hj, rfl, HF, HO, HX⟩ := hrel
    by_cases hlt : j < m
    · have hjl : j < (insts T).length := by rw [← HM.out]; exact hlt
      obtain ⟨x, hx⟩ : ∃ x, (insts T)[j]? = some x := ⟨_, List.getElem?_eq_getElem hjl⟩
      obtain ⟨xv, hxv⟩ : ∃ xv, vs[j]? = some xv := ⟨_, List.getElem?_eq_getElem (by rw [HVL.out]; exact hlt)⟩
      obtain ⟨g1, k1', hvd, _, _⟩ := HV.out.big (by rw [HVL.out]; omega)
      simp only [Value.slice.injEq] at hvd
      obtain ⟨rfl, hvn, hvk⟩ := hvd
      subst hvk
      clear hvn
      have gx := HX.out.cell (HV.out.at HVL.out hxv)
      have HXF0 := Lib.hid (HRV.out.2 j xv x hxv hx)
      have HXF := Lib.hid (HXF0.out.ext HX.out)
      obtain ⟨bx, ox, cx, rfl, x0, x1⟩ := pair_at HXF.out.ints
      have hxc : instCom T x.1 x.2 = true := mem_insts.1 (List.mem_of_getElem? hx)
      have HXC := Lib.hid hxc
      have HXX := Lib.hid hx
      have hbx := HB.out.ext HX.out
      have ks : ∀ V, Ext wr V → Ext wr V ∧ V.cell? ⟨w.heap.size, 0, none⟩ = some (.int .i64 n) ∧ V.cell? ⟨w.heap.size, 1, none⟩ = some (.slice au T.length cu) ∧ V.cell? ⟨bx, ox, none⟩ = some (.int .i64 x.1) ∧ V.cell? ⟨bx, ox + 1, none⟩ = some (.int .i64 ((x.2 : Int) + 1)) := fun V hV => ⟨hV, hV.cell hbx.1, hV.cell hbx.2, hV.cell x0, hV.cell x1⟩
      have KS := Lib.hid ks
      have HR := Lib.hid (Ext.drew (Ext.refl wr))
      have cB : ∀ V, Ext wr V → Calls Try.prog 45 #[.agg #[.int .i64 n, .slice au T.length cu], .int .i64 x.1, .int .i64 ((x.2 : Int) + 1)] V (BlkR n T (x.1, x.2) V) := fun V hV => l6Blockers_any n _ T x.1 x.2 _ (HU.out.ext (XW.out.trans (HX.out.trans hV))) HG.out hxc
      have CB := Lib.hid cB
      clear x0 x1 hx hxv hxc hbx ks cB
      go_wp2_with fail
      go_region_held3 (fun V => Ext wr V ∧ V.cell? ⟨w.heap.size, 0, none⟩ = some (.int .i64 n) ∧ V.cell? ⟨w.heap.size, 1, none⟩ = some (.slice au T.length cu) ∧ V.cell? ⟨bx, ox, none⟩ = some (.int .i64 x.1) ∧ V.cell? ⟨bx, ox + 1, none⟩ = some (.int .i64 ((x.2 : Int) + 1))) (first | (with_reducible exact KS.out _ HR.out) | (with_reducible exact KS.out _ SS.out)) (first | (go_at_call 45; refine (CB.out _ (And.left (by with_reducible assumption))).mono ?_; rintro e W3 ⟨vd, ds, s', i', rfl, hpa, hbi, hi', hbb, x3⟩; obtain ⟨ad, kd, rfl⟩ := hpa.form; have SS := Lib.hid (Ext.trans (And.left (by with_reducible assumption)) x3)))
      have hrd : readyB n T x.1 x.2 = decide (ds.length = 0) := by
        rw [Bool.eq_iff_iff, readyB_iff, decide_eq_true_iff]
        have h1 := hbi.ready hi'
        have h2 := hpa.len
        constructor
        · intro h
          rw [h2, h1.2 h]; rfl
        · intro h
          exact h1.1 (List.eq_nil_of_length_eq_zero (by omega))
      obtain ⟨l0, hl0⟩ : ∃ l0, l0 = ds.length := ⟨_, rfl⟩
      have hl31 : l0 ≤ 30 := by rw [hl0, hpa.len]; exact hbb.few.2
      rw [← hl0] at hrd ⊢
      have HXW := Lib.hid (HX.out.trans SS.out)
      have HF3 := Lib.hid (HF.out.ext SS.out)
      have HTK := Lib.hid (readyL_take (n := n) HXX.out)
      have HXV : Hid (Fresh w.heap.size W (.slice (some ⟨bx, ox, none⟩) 2 cx) (pairOf x)) := HXF0
      clear hpa hbi hi' hbb x3 KS CB HR hl0 gx HXF SS HX HF
      by_cases h0 : l0 = 0
      · subst h0
        have HRD : Hid (readyB n T x.1 x.2 = true) := Lib.hid (by rw [hrd]; rfl)
        have HLL : Hid (os.length ≤ 1048576) := Lib.hid (by
          have h1 := HO.out.1
          have h2 := List.length_filter_le (fun x : Nat × Nat => readyB n T x.1 x.2) ((insts T).take j)
          have h3 := HSH.out
          rw [List.length_take] at h2
          omega)
        have HSZ : Hid (W.heap.size ≤ (W3.alloc (.cells #[.slice (some ⟨bx, ox, none⟩) 2 cx] 46)).heap.size) := Lib.hid (HXW.out.alloc _).size
        have HF4 := Lib.hid (HF3.out.ext (Ext.alloc1 W3 (.cells #[.slice (some ⟨bx, ox, none⟩) 2 cx] 46)))
        clear hrd hl31 HF3
        go_wp2_with (at_builtin; refine wpList_pushV rfl _ _ rfl W.heap.size _ os rfl HF4.out (.slice (some ⟨bx, ox, none⟩) 2 cx) ⟨W3.heap.size, 0, none⟩ 1 rfl (cell_alloc_one _ _ _) rfl HLL.out HSZ.out ?_)
        intro v5 w5 f5 g5 k5
        have F5 := Lib.hid f5
        have X5 := Lib.hid (k5 W (HXW.out.alloc _) (Nat.le_refl _))
        have HON := Lib.hid (HO.out.snoc HXV.out)
        clear f5 g5 k5 HF4 HLL HSZ
        go_wp2
        go_roundw
        case rel => exact ⟨j + 1, _, by omega, by go_num, F5, Lib.hid (by rw [HTK.out, HRD.out, if_pos rfl]; exact HON.out), X5⟩
        case measure => simp [intOf]; omega
      · have HRD : Hid (readyB n T x.1 x.2 = false) := Lib.hid (by rw [hrd]; exact decide_eq_false h0)
        have ne : ((l0 : Int) == 0) = false := by simpa using h0
        clear hrd h0
        go_wp2
        go_roundw
        case rel => exact ⟨j + 1, os, by omega, by go_num, HF3, Lib.hid (by rw [HTK.out, HRD.out]; simpa using HO.out), HXW⟩
        case measure => simp [intOf]; omega
    · obtain rfl : j = m := by omega
      have HE : Hid (PRows w.heap.size wr os (readyL n T)) := Lib.hid (by
        have h := HO.out.ext HX.out
        rw [HM.out, List.take_length] at h
        exact h)
      have FE := Lib.hid HF.out
      have XE := Lib.hid (XW.out.trans HX.out)
      clear HO HF HX
      go_wp2
      go_ret
      exact ⟨_, os, rfl, PRows.at (FE.out.more XW.out.size) HE.out, XE.out⟩

set_option maxHeartbeats 2000000 in
set_option maxRecDepth 100000 in
theorem specReadyIn_any (n : Int) (u : Value) (T : List (List RowD)) (w : World) (hu : Rowzz w u T) :
    Calls Try.prog 9 #[.agg #[.int .i64 n, u]] w (ReadSS (readyR n T) (goodTab n T) w) := by
  obtain ⟨P, hP⟩ : ∃ P, P = readyR n T := ⟨_, rfl⟩
  obtain ⟨g, hg⟩ : ∃ g, g = goodTab n T := ⟨_, rfl⟩
  rw [← hP, ← hg]
  have hx0 := Ext.alloc1 w (.cells #[.int .i64 n, u] 31)
  have b0 := attrAt_new w 31 n u
  have HU := Lib.hid (hu.ext hx0)
  have HX := Lib.hid hx0
  have HP := Lib.hid hP
  have HGG := Lib.hid hg
  obtain ⟨au, cu, rfl, hlu, _, _⟩ := hu
  clear hx0 hP hg
  go_enter Try.func9, Try.ntmps9
  go_wp2_with fail
  refine (specGoodTable_any n _ T _ HU.out).mono ?_
  rintro e w1 ⟨rfl, x1⟩
  rw [← HGG.out]
  cases g with
  | false =>
    have eP : P = [] := by rw [HP.out]; unfold readyR; rw [← HGG.out]; rfl
    have X1 := Lib.hid (HX.out.trans x1)
    have EP := Lib.hid eP
    clear eP
    go_wp2
    go_ret2
    rw [EP.out]
    exact ⟨_, rfl, Intss.nil _, X1.out⟩
  | true =>
    obtain ⟨c1, c2⟩ := b0.ext x1
    have X1 := Lib.hid (HX.out.trans x1)
    have HU1 := Lib.hid (HU.out.ext x1)
    clear x1 b0
    go_wp2_with fail
    refine (l6Ready_any n _ T _ HU1.out HGG.out.symm).mono ?_
    rintro e w5 ⟨v5, vs, rfl, hpa, x5⟩
    have HI := Lib.hid hpa.intss
    have X5 := Lib.hid (X1.out.trans x5)
    have EP : Hid (P = (readyL n T).map pairOf) := Lib.hid (by rw [HP.out]; unfold readyR; rw [← HGG.out]; rfl)
    clear hpa x5 c1 c2
    go_wp2
    go_ret2
    rw [EP.out]
    exact ⟨_, rfl, HI.out, X5.out⟩
theorem readyR_bulk (n : Int) (T : List (List RowD)) : bulk (readyR n T) ≤ 1000 := by
  unfold readyR
  cases hg : goodTab n T with
  | false => simp [bulk]
  | true =>
    have h1 := readyL_short hg
    have h2 := bulk_by (L := (readyL n T).map pairOf) 2 (fun l hl => by
      obtain ⟨x, _, rfl⟩ := List.mem_map.1 hl
      simp [pairOf])
    rw [List.length_map] at h2
    simp only [if_true]
    omega
end Go.Proofs.Ytjfnkcohpffigaa

namespace Go.Proofs.Ytjfnkcohpffigaa
open Go.RowKit Go.Maps
set_option linter.unusedVariables false

/-- Is it a settled instance? -/
def isCom (n : Int) (T : List (List RowD)) (rep no : Int) : Bool := goodTab n T && (decide (0 ≤ rep) && (decide (1 ≤ no) && instCom T rep.toNat (no - 1).toNat))
noncomputable def blkR (n : Int) (T : List (List RowD)) (rep no : Int) : List (List Int) := if isCom n T rep no then (blkL n T (rep.toNat, (no - 1).toNat)).map pairOf else []
theorem isCom_of {n : Int} {T : List (List RowD)} {rep no : Int} (h : isCom n T rep no = true) : goodTab n T = true ∧ ∃ p q : Nat, rep = (p : Int) ∧ no = (q : Int) + 1 ∧ instCom T p q = true := by
  unfold isCom at h
  simp only [Bool.and_eq_true, decide_eq_true_eq] at h
  exact ⟨h.1, rep.toNat, (no - 1).toNat, by omega, by omega, h.2.2.2⟩
theorem isCom_mk {n : Int} {T : List (List RowD)} {p q : Nat} (hg : goodTab n T = true) (hc : instCom T p q = true) : isCom n T (p : Int) ((q : Int) + 1) = true := by
  unfold isCom
  simp only [Bool.and_eq_true, decide_eq_true_eq]
  refine ⟨hg, by omega, by omega, ?_⟩
  have e1 : (p : Int).toNat = p := by omega
  have e2 : ((q : Int) + 1 - 1).toNat = q := by omega
  rw [e1, e2]; exact hc
theorem blkR_yes {n : Int} {T : List (List RowD)} {p q : Nat} (hg : goodTab n T = true) (hc : instCom T p q = true) : blkR n T (p : Int) ((q : Int) + 1) = (blkL n T (p, q)).map pairOf := by
  unfold blkR
  rw [isCom_mk hg hc, if_pos rfl]
  have e1 : (p : Int).toNat = p := by omega
  have e2 : ((q : Int) + 1 - 1).toNat = q := by omega
  rw [e1, e2]
theorem blkR_no {n : Int} {T : List (List RowD)} {rep no : Int} (h : isCom n T rep no = false) : blkR n T rep no = [] := by unfold blkR; rw [h]; rfl
theorem blkR_bulk (n : Int) (T : List (List RowD)) (rep no : Int) : bulk (blkR n T rep no) ≤ 1000 := by
  unfold blkR
  cases isCom n T rep no with
  | false => simp [bulk]
  | true =>
    have h1 := blkL_short n T (rep.toNat, (no - 1).toNat)
    have h2 := bulk_by (L := (blkL n T (rep.toNat, (no - 1).toNat)).map pairOf) 2 (fun l hl => by
      obtain ⟨x, _, rfl⟩ := List.mem_map.1 hl
      simp [pairOf])
    rw [List.length_map] at h2
    simp only [if_true]
    omega

set_option maxHeartbeats 4000000 in
set_option maxRecDepth 100000 in
theorem specBlockersOf_any (n : Int) (u : Value) (T : List (List RowD)) (rep no : Int) (w : World) (hu : Rowzz w u T) :
    Calls Try.prog 17 #[.agg #[.int .i64 n, u], .int .i64 rep, .int .i64 no] w (ReadSS (blkR n T rep no) (isCom n T rep no) w) := by
  have hx0 := Ext.alloc1 w (.cells #[.int .i64 n, u] 31)
  have b0 := attrAt_new w 31 n u
  have HU := Lib.hid (hu.ext hx0)
  have HU' := Lib.hid hu
  have HX := Lib.hid hx0
  obtain ⟨au, cu, rfl, hlu, _, _⟩ := hu
  have HB := Lib.hid b0
  clear hx0 b0 hlu
  cases hk : (goodTab n T && instB n rep no) with
  | false =>
    have e : isCom n T rep no = false := by
      cases hc : isCom n T rep no with
      | false => rfl
      | true =>
        obtain ⟨hg, p, q, rfl, rfl, hi⟩ := isCom_of hc
        have h5 := inT_low (goodTab_both hg).1 (goodTab_both hg).2 (instCom_inT hi)
        have hp := (com_row hg hi).2.2.1
        have hn := (goodTab_of hg).2.1
        rw [hg, Bool.true_and] at hk
        unfold instB at hk
        rw [inB_yes (by omega) (by omega), inB_yes (by omega) (by omega)] at hk
        cases hk
    rw [blkR_no e, e]
    have HK := Lib.hid hk
    clear hk e
    go_enter Try.func17, Try.ntmps17
    go_wp2_with fail
    refine (l4Asked_any _ _ T _ _ _ HU.out).mono ?_
    rintro e w1 ⟨rfl, x1⟩
    have hx := HX.out.trans x1
    clear x1
    rw [HK.out]
    go_wp2
    go_ret2
    exact ⟨_, rfl, Intss.nil _, hx⟩
  | true =>
    have HK := Lib.hid hk
    simp only [Bool.and_eq_true] at hk
    obtain ⟨hg, hi⟩ := hk
    obtain ⟨p, q, rfl, rfl, hp, hq⟩ := inst_nat hg hi
    have HG := Lib.hid hg
    obtain ⟨d, hd⟩ : ∃ d, d = rowOf n T p q := ⟨_, rfl⟩
    have hst : (d.st == 3) = instCom T p q := by rw [hd]; exact inst_st hp
    have cR : ∀ W, Ext w W → Calls Try.prog 44 #[.agg #[.int .i64 n, .slice au T.length cu], .int .i64 p, .int .i64 ((q : Int) + 1)] W (NewRow d W) := fun W hW => by
      rw [hd]
      exact l4At_any n _ T p q _ (HU'.out.ext hW) hg hp hq
    have CR := Lib.hid cR
    have cB : ∀ W, Ext w W → instCom T p q = true → Calls Try.prog 45 #[.agg #[.int .i64 n, .slice au T.length cu], .int .i64 p, .int .i64 ((q : Int) + 1)] W (BlkR n T (p, q) W) := fun W hW hc => l6Blockers_any n _ T p q _ (HU'.out.ext hW) hg hc
    have CB := Lib.hid cB
    clear cR cB hd
    cases hc : instCom T p q with
    | false =>
      have e : isCom n T (p : Int) ((q : Int) + 1) = false := by
        cases h : isCom n T (p : Int) ((q : Int) + 1) with
        | false => rfl
        | true =>
          obtain ⟨_, p', q', e1, e2, hi'⟩ := isCom_of h
          obtain rfl : p = p' := by omega
          obtain rfl : q = q' := by omega
          rw [hc] at hi'; cases hi'
      rw [blkR_no e, e]
      rw [hc] at hst
      have hst2 : (d.st != 3) = true := by simpa using hst
      clear hg hi hp hq hc e hst
      go_enter Try.func17, Try.ntmps17
      go_wp2_with fail
      refine (l4Asked_any _ _ T _ _ _ HU.out).mono ?_
      rintro e w1 ⟨rfl, x1⟩
      obtain ⟨c0, c1⟩ := HB.out.ext x1
      rw [HK.out]
      go_wp2_with fail
      refine (CR.out _ (HX.out.trans x1)).mono ?_
      rintro e w2 ⟨v2, rfl, f2, x2⟩
      obtain ⟨a2, k2, rfl⟩ := f2.form
      have hfd := fun W => field_rowS d.b d.v d.st d.k d.i d.f d.t d.a d.s (.slice a2 d.l.length k2) W
      have hx := (HX.out.trans x1).trans x2
      clear x1 x2 f2 c0 c1
      go_wp2
      go_ret2
      exact ⟨_, rfl, Intss.nil _, hx⟩
    | true =>
      rw [blkR_yes hg hc, isCom_mk hg hc]
      rw [hc] at hst
      have hst2 : (d.st != 3) = false := by simpa using hst
      have HC := Lib.hid hc
      clear hg hi hp hq hc hst
      go_enter Try.func17, Try.ntmps17
      go_wp2_with fail
      refine (l4Asked_any _ _ T _ _ _ HU.out).mono ?_
      rintro e w1 ⟨rfl, x1⟩
      obtain ⟨c0, c1⟩ := HB.out.ext x1
      rw [HK.out]
      go_wp2_with fail
      refine (CR.out _ (HX.out.trans x1)).mono ?_
      rintro e w2 ⟨v2, rfl, f2, x2⟩
      obtain ⟨a2, k2, rfl⟩ := f2.form
      have hfd := fun W => field_rowS d.b d.v d.st d.k d.i d.f d.t d.a d.s (.slice a2 d.l.length k2) W
      have X2 := Lib.hid ((HX.out.trans x1).trans x2)
      have B2 := Lib.hid (HB.out.ext (x1.trans x2))
      clear x1 x2 f2 c0 c1
      obtain ⟨c0, c1⟩ := B2.out
      go_wp2_with fail
      refine (CB.out _ X2.out HC.out).mono ?_
      rintro e w5 ⟨v5, os, s, i, rfl, hpa, hbi, hi5, hbb, x5⟩
      have HS : Hid (s.2 = blkL n T (p, q)) := Lib.hid (hbi.all hi5 hbb)
      have HI : Hid (Intss w5 v5 ((blkL n T (p, q)).map pairOf)) := Lib.hid (by rw [← HS.out]; exact hpa.intss)
      have X5 := Lib.hid (X2.out.trans x5)
      clear hpa hbi hi5 hbb x5 hfd c0 c1
      go_wp2
      go_ret2
      exact ⟨_, rfl, HI.out, X5.out⟩
end Go.Proofs.Ytjfnkcohpffigaa

namespace Go.Proofs.Ytjfnkcohpffigaa
open Go.RowKit Go.Maps
set_option linter.unusedVariables false

theorem lookOk_from {W : World} {B : Nat} {D : DataW Value} {T : List (List RowD)} {f : Nat → Nat → Value} (hm : RowMap W B 30 D) (hd : MapOf D (instCom T) f) {rep no : Int} (h0 : wf64 rep) (h1 : wf64 no) (hs : ¬ ∃ p q : Nat, rep = (p : Int) ∧ no = (q : Int) + 1 ∧ instCom T p q = true) :
    (Instr.lookup 70 (.map (some B)) (.agg #[.int .i64 rep, .int .i64 no]) true).run Try.prog W = .ok (.tuple #[.agg #[.int .i64 0, .int .i64 0, .int .i64 0, .int .i64 0, .int .i64 0, .int .i64 0, .int .i64 0, .int .i64 0, .int .i64 0, .slice none 0 0], .bool false]) W := by
  have hn : Maps.has D (kl rep no) = false := by
    cases hb : Maps.has D (kl rep no) with
    | false => rfl
    | true =>
      obtain ⟨p, q, e, hs'⟩ := hd.keys _ hb
      have hl := hd.low p q hs'
      obtain ⟨rfl, rfl⟩ := kl_inj h0 h1 (wf_small (by omega) (by omega)) (wf_small (by omega) (by omega)) e
      exact absurd ⟨p, q, rfl, rfl, hs'⟩ hs
  obtain ⟨v, ps, hrun, hv⟩ := hm.look_ok instKeyed Try.underlying70 (zeroRow W) (zd := .held _) (zp := []) rfl (keyOf_inst (a := rep) (b := no) h0 h1)
  rw [Maps.atKey_of_not_has hn] at hv
  rw [hn] at hrun
  simp only [asIs, Option.some.injEq, Prod.mk.injEq, DataW.held.injEq] at hv
  rw [hv.1] at hrun
  exact hrun

/-- What is left of the met ones once those that are done with are struck. -/
def leftB (T : List (List RowD)) (M : List (Nat × Nat)) (left : Lit → Bool) (p q : Nat) : Bool := inL M p q && (!instCom T p q || left (kl (p : Int) ((q : Int) + 1)))

theorem leftB_step {T : List (List RowD)} {M : List (Nat × Nat)} {left : Lit → Bool} (hb : ∀ z ∈ M, z.1 < 5 ∧ z.2 < 6) {a c : Nat} (hac : a ≤ 1048576 ∧ c ≤ 1048576) (hS : instCom T a c = true) (a' c' : Nat) :
    leftB T M (fun z => left z && !z.sameKey (kl (a : Int) ((c : Int) + 1))) a' c' = (leftB T M left a' c' && !(decide (a' = a) && decide (c' = c))) := by
  unfold leftB
  cases hi : inL M a' c' with
  | false => simp
  | true =>
    have hz := hb (a', c') (of_decide_eq_true hi)
    have hk := same_kl (p := a') (q := c') (p' := a) (q' := c) (by omega) hac
    simp only [hk]
    by_cases e : a' = a ∧ c' = c
    · obtain ⟨rfl, rfl⟩ := e
      rw [hS]
      simp
    · have h1 : (decide (a' = a) && decide (c' = c)) = false := by simpa using e
      rw [h1]
      simp

set_option maxHeartbeats 8000000 in
set_option maxRecDepth 100000 in
theorem implBlockersOf_any (n : Int) (u : Value) (T : List (List RowD)) (rep no : Int) (w : World) (hu : Rowzz w u T) (hs : bulkT T ≤ 1099511627776) (h0 : wf64 rep) (h1 : wf64 no) :
    Calls Try.prog 18 #[.agg #[.int .i64 n, u], .int .i64 rep, .int .i64 no] w (TwoIntss (blkR n T rep no) (isCom n T rep no) w) := by
  have HS := Lib.hid hs
  have hx0 := Ext.alloc1 w (.cells #[.int .i64 n, u] 31)
  have b0 := attrAt_new w 31 n u
  have HU := Lib.hid (hu.ext hx0)
  have HX := Lib.hid hx0
  obtain ⟨au, cu, rfl, hlu, _, _⟩ := hu
  have HB0 := Lib.hid b0
  clear hx0 b0 hlu hs
  cases hg : goodTab n T with
  | false =>
    have e : isCom n T rep no = false := by unfold isCom; rw [hg]; rfl
    rw [blkR_no e, e]
    have HG := Lib.hid hg
    clear hg e
    go_enter Try.func18, Try.ntmps18
    go_wp2_with fail
    refine (implGoodTable_any n _ T _ HU.out HS.out).mono ?_
    rintro e w1 ⟨rfl, x1⟩
    rw [HG.out]
    have X1 := Lib.hid (HX.out.trans x1)
    clear x1
    go_wp2
    go_ret2
    exact ⟨_, rfl, FreshSS.nil _ _, X1.out⟩
  | true =>
    have HG := Lib.hid hg
    have H56 := Lib.hid (goodTab_both hg)
    by_cases hcom : ∃ p q : Nat, rep = (p : Int) ∧ no = (q : Int) + 1 ∧ instCom T p q = true
    · obtain ⟨p, q, rfl, rfl, hc⟩ := hcom
      rw [blkR_yes hg hc, isCom_mk hg hc]
      have HC := Lib.hid hc
      clear hg hc h0 h1
      go_enter Try.func18, Try.ntmps18
      go_wp2_with fail
      refine (implGoodTable_any n _ T _ HU.out HS.out).mono ?_
      rintro e w1 ⟨rfl, x1⟩
      rw [HG.out]
      obtain ⟨U, hU⟩ := tabAt_of (HU.out.ext x1)
      have HT := Lib.hid hU
      have X1 := Lib.hid (HX.out.trans x1)
      obtain ⟨c0, c1⟩ := HB0.out.ext x1
      clear x1 hU
      go_wp2_with fail
      refine (committedIn_any n _ T U _ HT.out H56.out.1 H56.out.2).mono ?_
      rintro e w2 ⟨B, D0, rfl, m2, d2, hb2, x2⟩
      have HM := Lib.hid m2
      have HD := Lib.hid d2
      have X2 := Lib.hid (X1.out.trans x2)
      have HLI := Lib.hid ((HT.out.ext x2).lists n)
      have HBB : Hid (w.heap.size ≤ B) := Lib.hid (Nat.le_trans X1.out.size hb2)
      clear c0 c1 m2 d2 hb2 x2 HT
      have hlk := lookOk_yes (HM.out.ext (Ext.alloc1 w2 (.cells #[.int .i64 p, .int .i64 ((q : Int) + 1)] 80))) HD.out HC.out
      obtain ⟨ay, cy, hUf, _⟩ := HLI.out p q (instCom_inT HC.out)
      unfold rowF rowV at hlk
      rw [hUf] at hlk
      obtain ⟨d, hd⟩ : ∃ d, d = rowOf n T p q := ⟨_, rfl⟩
      rw [← hd] at hlk
      clear hd hUf
      go_wp2_with fail
      refine (comesTo_any n T U p q B D0 _ (HM.out.ext (Ext.alloc2 _ _ _)) HD.out (HLI.out.ext (Ext.alloc2 _ _ _)) HG.out HC.out).mono ?_
      rintro e w5 ⟨b, D', M, rfl, m5, d5, hm5, hbd5, hb5, x5⟩
      have x25 : Ext w2 w5 := (Ext.alloc2 _ _ _).trans x5
      have HM5 := Lib.hid (HM.out.ext x25)
      have HR5 := Lib.hid m5
      have HD5 := Lib.hid d5
      have HIF := Lib.hid hm5
      have HBD := Lib.hid hbd5
      have HBS : Hid (w2.heap.size ≤ b) := Lib.hid (Nat.le_trans (Ext.alloc2 w2 _ _).size hb5)
      have HBL : Hid (b < w5.heap.size) := Lib.hid m5.lt
      have HB2 : Hid (B < w2.heap.size) := Lib.hid HM.out.lt
      have X5 := Lib.hid (X2.out.trans x25)
      clear m5 d5 hm5 hbd5 hb5 x5 x25 hlk HM HLI X2 X1
      go_wp2_with (first | (at_range; refine wpList_range_own _ rfl _ 70 rfl 80 69 instKeyed Try.underlying70 asIs B 30 D0 rfl HM5.out ?_; intro w6 hrg6 hg6 hs6) | go_in)
      go_frame
      have X6 := Lib.hid (X5.out.trans (ext_of_grown hg6))
      have R6 := Lib.hid hrg6
      have HR6 := Lib.hid (HR5.out.ext (ext_of_grown hg6))
      obtain ⟨r, hr⟩ : ∃ r, r = w5.heap.size := ⟨_, rfl⟩
      rw [← hr] at R6 ⊢
      have HBR : Hid (b < r ∧ B < r ∧ B ≠ b ∧ w.heap.size ≤ b ∧ w.heap.size ≤ r) := Lib.hid (by
        have h1 := HBL.out
        have h2 := HB2.out
        have h3 := HBS.out
        have h4 := X5.out.size
        have h5 := HBB.out
        omega)
      have HD6 : Hid (MapOf D' (leftB T M (Maps.has D0)) yes) := Lib.hid (HD5.out.congr (fun a c => by
        unfold leftB
        cases hi : instCom T a c with
        | false => simp
        | true => rw [HD.out.has a c hi]; simp) (fun _ _ _ => rfl))
      clear hrg6 hg6 hs6 HM5 HR5 HD5 hr X5
      go_loopw [13] (fun _ wr => ∃ (left : Lit → Bool) (cnt : Nat) (D' : DataW Value), Hid (RowRange wr B r 30 D0 left cnt) ∧ Hid (RowMap wr b 30 D') ∧ Hid (MapOf D' (leftB T M left) yes) ∧ Hid (Ext w wr)) (fun _ wr => wr.rangeLeft B r)
      case atStart => exact ⟨_, _, D', R6, HR6, HD6, X6⟩
      case round =>
        clear R6 HR6 HD6 X6
        obtain ⟨left, cnt, D', R, HR, HDD, X⟩ := hrel
        go_wp2_with (first | (at_next; refine wpList_next_inst _ rfl _ rfl B r 30 D0 left cnt _ _ rfl R.out HD.out ?_ ?_) | go_in)
        · intro hl
          have HDL : Hid (MapOf D' (leftB T M (fun _ => false)) yes) := Lib.hid (HDD.out.congr (fun a c => by unfold leftB; rw [hl]) (fun _ _ _ => rfl))
          clear R HDD hl
          go_wp2_with fail
          refine (inOrderB_any b 30 D' _ _ HR.out HDL.out (by omega)).mono ?_
          rintro e w8 ⟨v8, L, rfl, f8, hlex, hmem, x8⟩
          have eL : L = blkL n T (p, q) := blkL_of hlex (fun z hz => by
            have h := (hmem z).1 hz
            unfold leftB inL at h
            simp only [Bool.and_eq_true, decide_eq_true_eq] at h
            exact HBD.out z h.1) (fun z _ => by
            rw [hmem]
            unfold leftB inL
            simp only [Bool.or_false, Bool.and_eq_true, decide_eq_true_eq, Bool.not_eq_true']
            rw [show ((z.1, z.2) : Nat × Nat) = z from rfl, HIF.out])
          subst eL
          have I8 := Lib.hid f8.at
          have X8 := Lib.hid (X.out.trans x8)
          clear f8 hlex hmem x8 HR HDL X
          go_wp2_with fail
          refine (pairsOf_any v8 (blkL n T (p, q)) _ I8.out (by have := blkL_short n T (p, q); omega)).mono ?_
          rintro e w9 ⟨v9, rfl, f9, x9⟩
          have F9 := Lib.hid (f9.more X8.out.size)
          have X9 := Lib.hid (X8.out.trans x9)
          clear f9 x9 I8 X8
          go_wp2
          go_ret2
          exact ⟨_, rfl, F9.out, X9.out⟩
        · intro a c w7 cnt7 hS hlk7 hrg7 hlt7 hg7 hs7 hen
          have hac := HD.out.low a c hS
          have R7 := Lib.hid hrg7
          have HR7 : Hid (RowMap w7 b 30 D') := Lib.hid (HR.out.kept hg7 (by have := HBR.out; simp; omega))
          have X7 : Hid (Ext w w7) := Lib.hid (X.out.turned hg7 HBR.out.2.2.2.2)
          have HLT := Lib.hid hlt7
          have HRO := Lib.hid R.out
          have HSc := Lib.hid hS
          have HLK := Lib.hid hlk7
          have HDN : Hid (MapOf (D'.del (kl (a : Int) ((c : Int) + 1))) (leftB T M (fun z => left z && !z.sameKey (kl (a : Int) ((c : Int) + 1)))) yes) := Lib.hid ((HDD.out.del (p := a) (q := c) hac).congr (fun a' c' => leftB_step HBD.out hac hS a' c') (fun _ _ _ => rfl))
          obtain ⟨rv, hrv⟩ : ∃ rv, rv = rowF n T U a c := ⟨_, rfl⟩
          rw [← hrv] at hen ⊢
          have HR8 := Lib.hid (HR7.out.ext (Ext.alloc1 w7 (.cells #[.int .i64 a, .int .i64 ((c : Int) + 1)] 80)))
          have R8 := Lib.hid (R7.out.ext (Ext.alloc1 w7 (.cells #[.int .i64 a, .int .i64 ((c : Int) + 1)] 80)))
          have X8 := Lib.hid (X7.out.trans (Ext.alloc1 w7 (.cells #[.int .i64 a, .int .i64 ((c : Int) + 1)] 80)))
          clear hrg7 hg7 hs7 hlk7 hS R HR HDD X hlt7 hrv R7 HR7 X7
          go_wp2_with (first | (at_delete; refine wpList_delete_own _ rfl _ _ 82 80 rfl 4 instKeyed Try.underlying82 asIs b 30 D' rfl HR8.out _ (kl (a : Int) ((c : Int) + 1)) rfl (keyOf_inst (wf_small (by omega) (by omega)) (wf_small (by omega) (by omega))) ?_; intro w9 hown9 ht9) | go_in)
          have HR9 := Lib.hid hown9
          have R9 : Hid (RowRange w9 B r 30 D0 (fun z => left z && !z.sameKey (kl (a : Int) ((c : Int) + 1))) cnt7) := Lib.hid (R8.out.kept ht9.grown (by have := HBR.out; simp; omega) (by have := HBR.out; simp; omega))
          have X9 : Hid (Ext w w9) := Lib.hid (X8.out.turned ht9.grown HBR.out.2.2.2.1)
          clear hown9 ht9 R8 HR8 X8 hen
          simp only [Act.put]
          go_wp2
          go_roundw
          case rel => exact ⟨_, _, _, R9, HR9, HDN, X9⟩
          case measure => rw [R9.out.left_eq, HRO.out.left_eq]; exact HLT.out
    · have e : isCom n T rep no = false := by
        cases h : isCom n T rep no with
        | false => rfl
        | true => exact absurd (isCom_of h).2 hcom
      rw [blkR_no e, e]
      have HCM := Lib.hid hcom
      have H0 := Lib.hid h0
      have H1 := Lib.hid h1
      clear hg hcom e h0 h1
      go_enter Try.func18, Try.ntmps18
      go_wp2_with fail
      refine (implGoodTable_any n _ T _ HU.out HS.out).mono ?_
      rintro e w1 ⟨rfl, x1⟩
      rw [HG.out]
      obtain ⟨U, hU⟩ := tabAt_of (HU.out.ext x1)
      have HT := Lib.hid hU
      have X1 := Lib.hid (HX.out.trans x1)
      obtain ⟨c0, c1⟩ := HB0.out.ext x1
      clear x1 hU
      go_wp2_with fail
      refine (committedIn_any n _ T U _ HT.out H56.out.1 H56.out.2).mono ?_
      rintro e w2 ⟨B, D0, rfl, m2, d2, hb2, x2⟩
      have hlk := lookOk_from (m2.ext (Ext.alloc1 w2 (.cells #[.int .i64 rep, .int .i64 no] 80))) d2 H0.out H1.out HCM.out
      have X2 := Lib.hid (X1.out.trans x2)
      clear c0 c1 m2 d2 hb2 x2 HT X1
      go_wp2
      go_ret2
      exact ⟨_, rfl, FreshSS.nil _ _, by repeat (first | exact X2.out | apply Ext.alloc | apply Ext.setc)⟩
end Go.Proofs.Ytjfnkcohpffigaa

namespace Go.Proofs.Ytjfnkcohpffigaa
open Go.RowKit
set_option linter.unusedVariables false

def lensR (R : List RowD) : List Nat := R.map fun r => r.l.length
theorem lensR_len (R : List RowD) : (lensR R).length = R.length := by simp [lensR]
theorem lensR_get {R : List RowD} {k : Nat} (h : k < R.length) : (lensR R)[k]'(by rw [lensR_len]; exact h) = R[k].l.length := by simp [lensR]

set_option maxHeartbeats 1000000 in
theorem szRowS_any (v : Value) (R : List RowD) (left : Int) (w : World) (hv : Rowz w v R) (h0 : 0 ≤ left) (h1 : left ≤ 1099511627776) :
    Calls Try.prog 78 #[v, .int .i64 left] w (IntExt (lessened left (bulkR R)) w) := by
  obtain ⟨av, cv, rfl, hlv, _, hcv⟩ := hv
  unfold maxLen at hlv
  have hb : bulkR R = R.length + (lensR R).sum := rfl
  by_cases hlt : left < R.length
  · rw [lessened_no (by omega)]
    clear hb hcv
    go_enter Try.func78, Try.ntmps78
    go_wp2
    go_ret
    exact ⟨rfl, Ext.refl _⟩
  · have HBK := Lib.hid hb
    have hle : (R.length : Int) ≤ left := by omega
    clear hb hlt
    go_enter Try.func78, Try.ntmps78
    go_wp2
    go_loopw [1, 5] (fun m i wr => ∃ (k : Nat) (r : Int), k ≤ R.length ∧ i = .int .i64 k ∧ m = .int .i64 r ∧ 0 ≤ r ∧ Hid (r = left - R.length - sumN (lensR R) k) ∧ Ext w wr) (fun _ i _ => R.length - (intOf i).toNat)
    case atStart => exact ⟨0, left - R.length, Nat.zero_le _, rfl, rfl, by omega, Lib.hid (by rw [sumN_zero]; simp), Ext.refl _⟩
    case round =>
      obtain ⟨k, r, hk, rfl, rfl, hr0, hr, hx⟩ := hrel
      have hr1 : r ≤ 1099511627776 := by have := hr.out; omega
      by_cases hlt : k < R.length
      · obtain ⟨b, off, rfl, dv⟩ := hcv (by omega)
        obtain ⟨u, hu, iu⟩ := dv k hlt
        have hs := sumN_succ (g := lensR R) (k := k) (by rw [lensR_len]; exact hlt)
        rw [lensR_get hlt] at hs
        obtain ⟨d, hd⟩ : ∃ d, d = R[k] := ⟨_, rfl⟩
        rw [← hd] at hu iu hs
        obtain ⟨c0, c1, c2, c3, c4, c5, c6, c7, c8, c9⟩ := hu.ext hx
        have IU := Lib.hid (iu.ext hx)
        have HS := Lib.hid hs
        clear hcv dv hu iu hs hd
        by_cases hl : r < d.l.length
        · have L := Lib.hid (lessened_no hl)
          have hsum := sumN_mono (g := lensR R) (k := k + 1) (by rw [lensR_len]; omega)
          have HL := Lib.hid (show lessened left (bulkR R) = -1 from lessened_no (by have h1 := hr.out; have h2 := HS.out; have h3 := HBK.out; omega))
          clear hl hsum
          go_wp2_with fail
          refine (szRow_any d _ _ _ IU.out hr0 (by omega)).mono ?_
          rintro e w2 ⟨rfl, x2⟩
          have hx2 := hx.trans x2
          clear x2 hx c0 c1 c2 c3 c4 c5 c6 c7 c8 c9
          rw [L.out]
          go_wp2
          go_ret
          exact ⟨by rw [HL.out]; rfl, hx2⟩
        · obtain ⟨q, hq⟩ : ∃ q, q = r - (d.l.length : Int) := ⟨_, rfl⟩
          have hq0 : 0 ≤ q := by omega
          have L : Hid (lessened r d.l.length = q) := Lib.hid (by rw [hq]; exact lessened_yes (by omega))
          have HQ := Lib.hid hq
          clear hl hq
          go_wp2_with fail
          refine (szRow_any d _ _ _ IU.out hr0 (by omega)).mono ?_
          rintro e w2 ⟨rfl, x2⟩
          have hx2 := hx.trans x2
          clear x2 hx c0 c1 c2 c3 c4 c5 c6 c7 c8 c9
          rw [L.out]
          go_wp2
          go_roundw
          case rel => exact ⟨k + 1, q, by omega, by go_num, rfl, hq0, Lib.hid (by have h1 := hr.out; have h2 := HS.out; have h3 := HQ.out; omega), hx2⟩
          case measure => simp [intOf]; omega
      · obtain rfl : k = R.length := by omega
        go_wp2
        go_ret
        refine ⟨?_, hx⟩
        have h1 := hr.out
        have h3 := HBK.out
        have h4 := sumN_all (lensR R)
        rw [lensR_len] at h4
        have he : lessened left (bulkR R) = r := by rw [lessened_yes (by omega)]; omega
        rw [he]; rfl

def bulks (T : List (List RowD)) : List Nat := T.map bulkR
theorem bulks_len (T : List (List RowD)) : (bulks T).length = T.length := by simp [bulks]
theorem bulks_get {T : List (List RowD)} {k : Nat} (h : k < T.length) : (bulks T)[k]'(by rw [bulks_len]; exact h) = bulkR T[k] := by simp [bulks]

set_option maxHeartbeats 1000000 in
theorem szRowSS_any (v : Value) (T : List (List RowD)) (left : Int) (w : World) (hv : Rowzz w v T) (h0 : 0 ≤ left) (h1 : left ≤ 1099511627776) :
    Calls Try.prog 30 #[v, .int .i64 left] w (IntExt (lessened left (bulkT T)) w) := by
  obtain ⟨av, cv, rfl, hlv, _, hcv⟩ := hv
  unfold maxLen at hlv
  have hb : bulkT T = T.length + (bulks T).sum := rfl
  by_cases hlt : left < T.length
  · rw [lessened_no (by omega)]
    clear hb hcv
    go_enter Try.func30, Try.ntmps30
    go_wp2
    go_ret
    exact ⟨rfl, Ext.refl _⟩
  · have HBK := Lib.hid hb
    have hle : (T.length : Int) ≤ left := by omega
    clear hb hlt
    go_enter Try.func30, Try.ntmps30
    go_wp2
    go_loopw [1, 5] (fun m i wr => ∃ (k : Nat) (r : Int), k ≤ T.length ∧ i = .int .i64 k ∧ m = .int .i64 r ∧ 0 ≤ r ∧ Hid (r = left - T.length - sumN (bulks T) k) ∧ Ext w wr) (fun _ i _ => T.length - (intOf i).toNat)
    case atStart => exact ⟨0, left - T.length, Nat.zero_le _, rfl, rfl, by omega, Lib.hid (by rw [sumN_zero]; simp), Ext.refl _⟩
    case round =>
      obtain ⟨k, r, hk, rfl, rfl, hr0, hr, hx⟩ := hrel
      have hr1 : r ≤ 1099511627776 := by have := hr.out; omega
      by_cases hlt : k < T.length
      · obtain ⟨b, off, rfl, dv⟩ := hcv (by omega)
        obtain ⟨u, hu, iu⟩ := dv k hlt
        have hs := sumN_succ (g := bulks T) (k := k) (by rw [bulks_len]; exact hlt)
        rw [bulks_get hlt] at hs
        obtain ⟨d, hd⟩ : ∃ d, d = T[k] := ⟨_, rfl⟩
        rw [← hd] at iu hs
        have c0 := hx.cell hu
        have IU := Lib.hid (iu.ext hx)
        have HS := Lib.hid hs
        clear hcv dv hu iu hs hd
        by_cases hl : r < bulkR d
        · have L := Lib.hid (lessened_no hl)
          have hsum := sumN_mono (g := bulks T) (k := k + 1) (by rw [bulks_len]; omega)
          have HL := Lib.hid (show lessened left (bulkT T) = -1 from lessened_no (by have h1 := hr.out; have h2 := HS.out; have h3 := HBK.out; omega))
          clear hl hsum
          go_wp2_with fail
          refine (szRowS_any _ d _ _ IU.out hr0 (by omega)).mono ?_
          rintro e w2 ⟨rfl, x2⟩
          have hx2 := hx.trans x2
          clear x2 hx c0
          rw [L.out]
          go_wp2
          go_ret
          exact ⟨by rw [HL.out]; rfl, hx2⟩
        · obtain ⟨q, hq⟩ : ∃ q, q = r - (bulkR d : Int) := ⟨_, rfl⟩
          have hq0 : 0 ≤ q := by omega
          have L : Hid (lessened r (bulkR d) = q) := Lib.hid (by rw [hq]; exact lessened_yes (by omega))
          have HQ := Lib.hid hq
          clear hl hq
          go_wp2_with fail
          refine (szRowS_any _ d _ _ IU.out hr0 (by omega)).mono ?_
          rintro e w2 ⟨rfl, x2⟩
          have hx2 := hx.trans x2
          clear x2 hx c0
          rw [L.out]
          go_wp2
          go_roundw
          case rel => exact ⟨k + 1, q, by omega, by go_num, rfl, hq0, Lib.hid (by have h1 := hr.out; have h2 := HS.out; have h3 := HQ.out; omega), hx2⟩
          case measure => simp [intOf]; omega
      · obtain rfl : k = T.length := by omega
        go_wp2
        go_ret
        refine ⟨?_, hx⟩
        have h1 := hr.out
        have h3 := HBK.out
        have h4 := sumN_all (bulks T)
        rw [bulks_len] at h4
        have he : lessened left (bulkT T) = r := by rw [lessened_yes (by omega)]; omega
        rw [he]; rfl

set_option maxHeartbeats 1000000 in
theorem szTable_any (n : Int) (u : Value) (T : List (List RowD)) (left : Int) (w : World) (hv : Rowzz w u T) (h0 : 0 ≤ left) (h1 : left ≤ 1099511627776) :
    Calls Try.prog 8 #[.agg #[.int .i64 n, u], .int .i64 left] w (IntExt (lessened left (bulkT T)) w) := by
  have HB := attrAt_new w 24 n u
  by_cases hlt : left < bulkT T
  · have L := Lib.hid (lessened_no hlt)
    clear hlt
    go_enter Try.func8, Try.ntmps8
    go_wp2_with fail
    refine (szRowSS_any _ _ _ _ (hv.ext (Ext.alloc (Ext.refl _) _)) h0 h1).mono ?_
    rintro e w1 ⟨rfl, x1⟩
    have hx := (Ext.alloc (Ext.refl w) _).trans x1
    clear x1 HB
    rw [L.out]
    go_wp2
    go_ret
    exact ⟨by rw [L.out]; rfl, hx⟩
  · obtain ⟨q, hq⟩ : ∃ q, q = left - (bulkT T : Int) := ⟨_, rfl⟩
    have hq0 : 0 ≤ q := by omega
    have LR : Hid (lessened left (bulkT T) = q) := Lib.hid (by rw [hq]; exact lessened_yes (by omega))
    clear hlt hq
    rw [LR.out]
    go_enter Try.func8, Try.ntmps8
    go_wp2_with fail
    refine (szRowSS_any _ _ _ _ (hv.ext (Ext.alloc (Ext.refl _) _)) h0 h1).mono ?_
    rintro e w1 ⟨rfl, x1⟩
    have hx := (Ext.alloc (Ext.refl w) _).trans x1
    clear x1 HB
    rw [LR.out]
    go_wp2
    go_ret
    exact ⟨rfl, hx⟩

end Go.Proofs.Ytjfnkcohpffigaa
