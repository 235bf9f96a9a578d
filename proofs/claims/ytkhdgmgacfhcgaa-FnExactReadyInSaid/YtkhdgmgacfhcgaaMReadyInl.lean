/- Texts of this proof, part l: words, plain facts, contracts. -/
import Derived.Test.YtkhdgmgacfhcgaaMReadyInk
import Derived.Test.YtkhdgmgacfhcgaaMReadyIni
import Derived.Test.YtkhdgmgacfhcgaaMReadyInj
import Derived.Test.YtkhdgmgacfhcgaaMReadyInb
import Derived.Test.YtkhdgmgacfhcgaaMReadyIng
import Derived.Test.YtkhdgmgacfhcgaaMReadyInd

namespace Go.Proofs.Ytkhdgmgacfhcgaa
open Go.RowKit
set_option linter.unusedVariables false

/-- As FreshSS, all blocks below h. -/
def FreshSB (B h : Nat) (w : World) (v : Value) (L : List (List Int)) : Prop :=
  ∃ vs, w.ownsRow B 49 1 v L.length vs ∧ Rows_ B w vs L ∧ (∀ (j : Nat) (u : Value), vs[j]? = some u → u.ownBlock = none ∨ u.ownBlock ≠ v.ownBlock) ∧ Und h v ∧ ∀ (j : Nat) (u : Value), vs[j]? = some u → Und h u
theorem FreshSB.nil (B h : Nat) (w : World) : FreshSB B h w (.slice none 0 0) [] := ⟨[], World.ownsRow_nil _ _ _ _, Rows_.nil _ _, (fun _ _ h => by simp at h), (fun b e => by cases e), (fun _ _ h => by simp at h)⟩
theorem FreshSB.of {B h : Nat} {w : World} {v : Value} {L : List (List Int)} (f : FreshSS B w v L) (hb : w.heap.size ≤ h) : FreshSB B h w v L := by
  obtain ⟨vs, h1, h2, h3⟩ := f
  refine ⟨vs, h1, h2, h3, fun b e => Nat.lt_of_lt_of_le (World.ownsRow.lt h1 b e).2 hb, fun j u hu => ?_⟩
  have hj : j < vs.length := (List.getElem?_eq_some_iff.1 hu).1
  exact (h2.row j u _ hu (List.getElem?_eq_getElem (by rw [← h2.len]; exact hj))).und.more hb
theorem FreshSB.ss {B h : Nat} {w : World} {v : Value} {L : List (List Int)} (f : FreshSB B h w v L) : FreshSS B w v L := by
  obtain ⟨vs, h1, h2, h3, _, _⟩ := f
  exact ⟨vs, h1, h2, h3⟩
theorem FreshSB.ext {B h : Nat} {w w' : World} {v : Value} {L : List (List Int)} (f : FreshSB B h w v L) (e : Ext w w') : FreshSB B h w' v L := by
  obtain ⟨vs, h1, h2, h3, h4, h5⟩ := f
  exact ⟨vs, e.ownsRow h1, h2.ext e, h3, h4, h5⟩
theorem FreshSB.intss {B h : Nat} {w : World} {v : Value} {L : List (List Int)} (f : FreshSB B h w v L) : Intss w v L := f.ss.intss
theorem FreshSB.ins {B h lo hi : Nat} {w w' : World} {v : Value} {L : List (List Int)} (f : FreshSB B h w v L) (k : Ins lo hi w w') (hb : hi ≤ B ∨ h ≤ lo) : FreshSB B h w' v L := by
  obtain ⟨vs, h1, h2, h3, h4, h5⟩ := f
  refine ⟨vs, k.row h1 (fun b e => ?_), ⟨h2.len, fun j u l hu hl => k.row (h2.row j u l hu hl) (fun b e => ?_), h2.apart⟩, h3, h4, h5⟩
  · have := World.ownsRow.lt h1 b e
    have := h4 b e
    omega
  · have := World.ownsRow.lt (h2.row j u l hu hl) b e
    have := h5 j u hu b e
    omega
def MarksSB (B h : Nat) (k : Int) (v : Value) (L : List (List Int)) (w : World) (e : Ending) (w' : World) : Prop :=
  e = .returned (.int .i64 (k + (L.map List.length).sum)) ∧ FreshSB B h w' v (markedSS k L L.length) ∧ Ins B h w w'

set_option maxHeartbeats 800000 in
theorem markIntSS_ins (B h : Nat) (v : Value) (L : List (List Int)) (k : Int) (w : World) (hv : FreshSB B h w v L) (hB : B ≤ w.heap.size) (h0 : 0 ≤ k) (hk : k ≤ 1048576) (h1 : bulk L ≤ 1099511627776) :
    Calls Try.prog 12 #[v, .int .i64 k] w (MarksSB B h k v L w) := by
  obtain ⟨vs, ho, hR, hout, hund, hunds⟩ := hv
  have HUND := Lib.hid hund
  have HUNDS := Lib.hid hunds
  clear hund hunds
  have hvl := hR.len
  have hL : L.length ≤ 1099511627776 := by unfold bulk at h1; omega
  have hsum : (L.map List.length).sum ≤ 1099511627776 := by unfold bulk at h1; omega
  rcases ho.2 with ⟨rfl, hn⟩ | ⟨g, cap, cur, rfl, hb, hg, hnc, hcm, hcs, htake⟩
  · obtain rfl : L = [] := List.eq_nil_of_length_eq_zero hn
    clear h1 hsum
    go_enter Try.func12, Try.ntmps12
    go_wp2
    refine wp_loop_rounds 1 ?_; rw [rounds_succ]
    go_wp2
    go_ret
    exact ⟨by simp, FreshSB.nil _ _ _, Ins.refl _ _ _⟩
  · have hout' : ∀ (j : Nat) (u : Value), vs[j]? = some u → u.ownBlock = none ∨ u.ownBlock ≠ some g := hout
    have HOUT := Lib.hid hout'
    have H1 := Lib.hid h1
    have HVL := Lib.hid hvl
    have HSUM := Lib.hid hsum
    clear hg hnc hcm hcs htake cur hb hout hout' h1 hvl hsum
    go_enter Try.func12, Try.ntmps12
    go_wp2
    go_loopw [1, 5] (fun m i wr => ∃ (j : Nat) (r : Int), j ≤ L.length ∧ i = .int .i64 j ∧ m = .int .i64 r ∧ Hid (r = k + sumTo L j) ∧ wr.ownsRow B 49 1 (.slice (some ⟨g, 0, none⟩) L.length cap) L.length vs ∧ Rows_ B wr vs (markedSS k L j) ∧ Ins B h w wr) (fun _ i _ => L.length - (intOf i).toNat)
    case atStart => exact ⟨0, k, Nat.zero_le _, rfl, rfl, Lib.hid (by simp [sumTo]), ho, by rw [markedSS_zero]; exact hR, Ins.refl _ _ _⟩
    case round =>
      clear ho hR
      obtain ⟨j, r, hj, rfl, rfl, hr, ho, hR, hx⟩ := hrel
      by_cases hlt : j < L.length
      · obtain ⟨z, hz⟩ : ∃ z, vs[j]? = some z := ⟨_, List.getElem?_eq_getElem (by rw [HVL.out]; exact hlt)⟩
        have hc := (ho.cellAt j (by omega)).trans hz
        have hf := hR.row j z _ hz (markedSS_old hlt (Nat.le_refl _))
        have hrow : (L[j]).length ≤ 1099511627776 := by have := bulk_row hlt; have := H1.out; omega
        have hr0 : 0 ≤ r := by have := hr.out; omega
        have hr1 : r ≤ 2199024304128 := by have hq := hr.out; have := sumTo_mono (L := L) (k := j) hj; have := HSUM.out; omega
        have HO := Lib.hid ho
        have HR := Lib.hid hR
        have HZ := Lib.hid hz
        have HX := Lib.hid hx
        have HFF := Lib.hid hf
        clear ho hR hz hx hf
        go_wp2_with fail
        refine (markIntS_any B _ _ _ _ HFF.out hr0 (by omega)).mono ?_
        rintro e w2 ⟨rfl, f2, t2⟩
        have hR2 := HR.out.mark HZ.out t2 (by
          have e := hr.out
          rw [e] at f2
          exact f2)
        rw [markedSS_succ hlt] at hR2
        have ho2 := World.ownsRow.kept HO.out t2 (by
          rcases HOUT.out j z HZ.out with hq | hq
          · exact .inr (by rw [hq]; simp [Value.ownBlock])
          · exact .inr (fun e => hq e.symm))
        have hx2 : Ins B h w w2 := HX.out.trans (Ins.of_grown t2 (fun q hq => ⟨(World.ownsRow.lt HFF.out q hq).1, HUNDS.out j z HZ.out q hq⟩))
        have hs := sumTo_succ hlt
        have HS := Lib.hid hs
        clear f2 t2 hc hs
        go_wp2
        go_roundw
        case rel => exact ⟨j + 1, r + (L[j]).length, by omega, by go_num, rfl, Lib.hid (by have := hr.out; have := HS.out; omega), ho2, hR2, hx2⟩
        case measure => simp [intOf]; omega
      · obtain rfl : j = L.length := by omega
        have HO := Lib.hid ho
        have HR := Lib.hid hR
        clear ho hR
        go_wp2
        go_ret
        refine ⟨?_, ⟨vs, by rw [markedSS_length]; exact HO.out, HR.out, HOUT.out, HUND.out, HUNDS.out⟩, hx⟩
        have hq := hr.out
        rw [sumTo_all] at hq
        rw [hq]; rfl

/-- The argument's box N, the model's answers v3, u3 (below h3), the program's v5 (in [B, C)), u5 (in [C, H)). -/
structure LiveD (w W : World) (N h3 B C H : Nat) (n : Int) (v v3 u3 v5 u5 : Value) (L M L5 M5 : List (List Int)) : Prop where
  ext : Ext w W
  arg : AttrAt W N n v
  s3 : SSI h3 W v3 L
  t3 : SSI h3 W u3 M
  f5 : FreshSB B C W v5 L5
  g5 : FreshSB C H W u5 M5
theorem LiveD.on {w W W' : World} {N h3 B C H : Nat} {n : Int} {v v3 u3 v5 u5 : Value} {L M L5 M5 : List (List Int)} (h : LiveD w W N h3 B C H n v v3 u3 v5 u5 L M L5 M5) (e : Ext W W') : LiveD w W' N h3 B C H n v v3 u3 v5 u5 L M L5 M5 :=
  ⟨h.ext.trans e, h.arg.ext e, h.s3.ext e, h.t3.ext e, h.f5.ext e, h.g5.ext e⟩
theorem LiveD.ins {w W W' : World} {N h3 B C H lo hi : Nat} {n : Int} {v v3 u3 v5 u5 : Value} {L M L5 M5 : List (List Int)} (h : LiveD w W N h3 B C H n v v3 u3 v5 u5 L M L5 M5) (k : Ins lo hi W W')
    (h0 : w.heap.size ≤ lo) (hN : N < lo) (hh : h3 ≤ lo) (hs : h3 ≤ W.heap.size) (hB : hi ≤ B) (hC : B ≤ C) : LiveD w W' N h3 B C H n v v3 u3 v5 u5 L M L5 M5 :=
  ⟨k.ext h.ext h0, h.arg.ins k (.inl hN), h.s3.stood (k.stood hs (.inl hh)), h.t3.stood (k.stood hs (.inl hh)), h.f5.ins k (.inl hB), h.g5.ins k (.inl (Nat.le_trans hB hC))⟩
theorem LiveD.mark1 {w W W' : World} {N h3 B C H : Nat} {n : Int} {v v3 u3 v5 u5 : Value} {L M L5 M5 L6 : List (List Int)} (h : LiveD w W N h3 B C H n v v3 u3 v5 u5 L M L5 M5) (k : Ins B C W W') (f : FreshSB B C W' v5 L6)
    (h0 : w.heap.size ≤ B) (hN : N < B) (hh : h3 ≤ B) (hs : h3 ≤ W.heap.size) : LiveD w W' N h3 B C H n v v3 u3 v5 u5 L M L6 M5 :=
  ⟨k.ext h.ext h0, h.arg.ins k (.inl hN), h.s3.stood (k.stood hs (.inl hh)), h.t3.stood (k.stood hs (.inl hh)), f, h.g5.ins k (.inl (Nat.le_refl _))⟩
theorem LiveD.mark2 {w W W' : World} {N h3 B C H : Nat} {n : Int} {v v3 u3 v5 u5 : Value} {L M L5 M5 M6 : List (List Int)} (h : LiveD w W N h3 B C H n v v3 u3 v5 u5 L M L5 M5) (k : Ins C H W W') (g : FreshSB C H W' u5 M6)
    (h0 : w.heap.size ≤ C) (hN : N < C) (hh : h3 ≤ C) (hs : h3 ≤ W.heap.size) : LiveD w W' N h3 B C H n v v3 u3 v5 u5 L M L5 M6 :=
  ⟨k.ext h.ext h0, h.arg.ins k (.inl hN), h.s3.stood (k.stood hs (.inl hh)), h.t3.stood (k.stood hs (.inl hh)), h.f5.ins k (.inr (Nat.le_refl _)), g⟩

theorem bulk_by {L : List (List Int)} (r : Nat) (h : ∀ l ∈ L, l.length ≤ r) : bulk L ≤ (r + 1) * L.length := by
  unfold bulk
  induction L with
  | nil => simp
  | cons x t ih =>
    have h1 := h x (by simp)
    have h2 := ih (fun l hl => h l (by simp [hl]))
    simp only [List.map_cons, List.sum_cons, List.length_cons] at h2 ⊢
    rw [Nat.mul_add]
    omega

end Go.Proofs.Ytkhdgmgacfhcgaa

namespace Go.Proofs.Ytkhdgmgacfhcgaa
open Go.RowKit Go.Maps
set_option linter.unusedVariables false

/-- The places, in a list of instances, of those that are in P: rising. -/
def Got (L P : List (Nat × Nat)) (l : List Int) : Prop := Rises l ∧ ∀ z : Int, z ∈ l ↔ ∃ (k : Nat) (y : Nat × Nat), z = (k : Int) ∧ L[k]? = some y ∧ y ∈ P
theorem Got.nil (L : List (Nat × Nat)) : Got L [] [] := ⟨List.Pairwise.nil, fun z => by simp⟩
theorem pairOf_inj {x y : Nat × Nat} (h : pairOf x = pairOf y) : x = y := by
  unfold pairOf at h
  simp at h
  exact Prod.ext (by omega) (by omega)
theorem Got.none {L P : List (Nat × Nat)} {l : List Int} {y : Nat × Nat} (h : Got L P l) (hn : pairOf y ∉ L.map pairOf) : Got L (P ++ [y]) l := by
  have hy : y ∉ L := fun hm => hn (List.mem_map_of_mem hm)
  refine ⟨h.1, fun z => ?_⟩
  rw [h.2]
  constructor
  · rintro ⟨k, x, e, hk, hx⟩
    exact ⟨k, x, e, hk, by simp [hx]⟩
  · rintro ⟨k, x, e, hk, hx⟩
    rw [List.mem_append, List.mem_singleton] at hx
    rcases hx with hx | rfl
    · exact ⟨k, x, e, hk, hx⟩
    · exact absurd (List.mem_of_getElem? hk) hy
theorem Got.put {L P : List (Nat × Nat)} {l : List Int} {y : Nat × Nat} {k : Nat} (h : Got L P l) (hL : L.Nodup) (hk : (L.map pairOf)[k]? = some (pairOf y)) : Got L (P ++ [y]) (putI l k) := by
  have hky : L[k]? = some y := by
    rw [List.getElem?_map] at hk
    cases hx : L[k]? with
    | none => rw [hx] at hk; cases hk
    | some x =>
      rw [hx] at hk
      simp only [Option.map_some, Option.some.injEq] at hk
      rw [pairOf_inj hk]
  refine ⟨putI_rises _ h.1, fun z => ?_⟩
  rw [putI_mem, h.2]
  constructor
  · rintro (⟨k', x, e, hk', hx⟩ | e)
    · exact ⟨k', x, e, hk', by simp [hx]⟩
    · exact ⟨k, y, e, hky, by simp⟩
  · rintro ⟨k', x, e, hk', hx⟩
    rw [List.mem_append, List.mem_singleton] at hx
    rcases hx with hx | rfl
    · exact .inl ⟨k', x, e, hk', hx⟩
    · refine .inr ?_
      rw [e]
      obtain ⟨h1, e1⟩ := List.getElem?_eq_some_iff.1 hky
      obtain ⟨h2, e2⟩ := List.getElem?_eq_some_iff.1 hk'
      have := (List.getElem_inj hL).1 (e2.trans e1.symm)
      rw [this]
theorem got_row {n : Int} {T : List (List RowD)} (hg : goodTab n T = true) {x : Nat × Nat} (hx : x ∈ insts T) {l : List Int} (h : Got (insts T) (depsL n T x) l) : l = rowE n T (insts T) x (insts T).length := by
  refine rises_ext h.1 ?_ fun z => ?_
  · unfold rowE
    unfold Rises
    rw [List.pairwise_map]
    exact (List.pairwise_lt_range.filter _).imp fun h => by omega
  · rw [h.2]
    have hcx := com_row hg (mem_insts.1 hx)
    unfold rowE
    rw [List.mem_map]
    have key : ∀ y, y ∈ insts T → (y ∈ depsL n T x ↔ edgeB n T x y = true) := fun y hy => by
      have hcy := com_row hg (mem_insts.1 hy)
      have hd := dep_in hg hcx.2.2.1 x.2 y.1
      unfold depsL edgeB
      rw [mem_depsTo]
      unfold depN
      simp only [Bool.and_eq_true, Bool.not_eq_true', decide_eq_false_iff_not, decide_eq_true_eq]
      constructor
      · rintro ⟨h1, h2, h3⟩
        exact ⟨fun e => h3 e.symm, by omega⟩
      · rintro ⟨h1, h2⟩
        exact ⟨by omega, by omega, fun e => h1 e.symm⟩
    constructor
    · rintro ⟨k, y, e, hk, hy⟩
      refine ⟨k, ?_, e.symm⟩
      rw [List.mem_filter, List.mem_range]
      obtain ⟨h1, e1⟩ := List.getElem?_eq_some_iff.1 hk
      refine ⟨h1, ?_⟩
      rw [hk]
      exact (key y (List.mem_of_getElem? hk)).1 hy
    · rintro ⟨k, hk, e⟩
      rw [List.mem_filter, List.mem_range] at hk
      refine ⟨k, (insts T)[k]'hk.1, e.symm, List.getElem?_eq_getElem hk.1, ?_⟩
      have h2 := hk.2
      rw [List.getElem?_eq_getElem hk.1, Option.getD_some] at h2
      exact (key _ (List.getElem_mem hk.1)).2 h2
theorem insts_nodup (T : List (List RowD)) : (insts T).Nodup := (insts_lex T).imp fun h e => by subst e; unfold lexL at h; omega

theorem putI_mostG (l : List Int) (n : Int) : (putI l n).length ≤ l.length + 1 := by
  unfold putI
  split
  · omega
  · simp only [List.length_append, List.length_take, List.length_drop, List.length_cons, List.length_nil]
    omega

/-- Two lists of lists come back: the second behind the first. -/
def TwoSS (L M : List (List Int)) (w : World) (e : Ending) (w' : World) : Prop :=
  ∃ v u w1, e = .returned (.tuple #[v, u]) ∧ FreshSS w.heap.size w1 v L ∧ Ext w w1 ∧ FreshSS w1.heap.size w' u M ∧ Ext w1 w'

end Go.Proofs.Ytkhdgmgacfhcgaa

namespace Go.Proofs.Ytkhdgmgacfhcgaa
open Go.RowKit Go.Maps
set_option linter.unusedVariables false

theorem PairsAt.form {w : World} {v : Value} {vs : List Value} {L : List (Nat × Nat)} (h : PairsAt w v vs L) : ∃ a c, v = .slice a vs.length c := by
  rcases h.reads with ⟨rfl, rfl⟩ | ⟨b, off, cap, rfl, _⟩
  · exact ⟨none, 0, rfl⟩
  · exact ⟨_, cap, rfl⟩
theorem readyL_take {n : Int} {T : List (List RowD)} {j : Nat} {x : Nat × Nat} (hx : (insts T)[j]? = some x) : ((insts T).take (j + 1)).filter (fun x => readyB n T x.1 x.2) = ((insts T).take j).filter (fun x => readyB n T x.1 x.2) ++ if readyB n T x.1 x.2 then [x] else [] := by
  rw [List.take_add_one, hx, List.filter_append]
  congr 1
  cases h : readyB n T x.1 x.2 <;> simp [h]

set_option maxHeartbeats 8000000 in
set_option maxRecDepth 100000 in
theorem l6Ready_any (n : Int) (u : Value) (T : List (List RowD)) (w : World) (hu : Rowzz w u T) (hg : goodTab n T = true) :
    Calls Try.prog 18 #[.agg #[.int .i64 n, u]] w (fun e w' => ∃ v vs, e = .returned v ∧ PairsAt w' v vs (readyL n T) ∧ Ext w w') := by
  have H56 := Lib.hid (goodTab_both hg)
  have HG := Lib.hid hg
  have HU := Lib.hid hu
  have hx0 := Ext.alloc1 w (.cells #[.int .i64 n, u] 31)
  have b0 := attrAt_new w 31 n u
  obtain ⟨au, cu, rfl, hlu, _, _⟩ := hu
  clear hg
  go_enter Try.func18, Try.ntmps18
  go_wp2_with fail
  refine (l4Committed_any n _ T _ (HU.out.ext hx0) H56.out.1 H56.out.2).mono ?_
  rintro e W ⟨v1, rfl, f1, x1⟩
  have HB := Lib.hid (b0.ext x1)
  have XW := Lib.hid (hx0.trans x1)
  have f1' : FreshSS w.heap.size W v1 ((insts T).map pairOf) := by
    have h := f1.more hx0.size
    rw [allTo_insts] at h
    exact h
  obtain ⟨vs, fv, rv⟩ := f1'.vals
  have hvl : vs.length = (insts T).length := by rw [rv.len, List.length_map]
  have HV : Hid (FreshV w.heap.size W v1 vs) := Lib.hid fv
  have HRV : Hid (PRows w.heap.size W vs (insts T)) := Lib.hid ⟨hvl, fun j u x hu hx => rv.row j u _ hu (by rw [List.getElem?_map, hx]; rfl)⟩
  obtain ⟨a1, k1, rfl, hl1, hcap1, hc1⟩ := f1'.intss
  rw [pairs_len] at hl1 hcap1 HV ⊢
  have HSH := Lib.hid (insts_short HG.out)
  obtain ⟨m, hm⟩ : ∃ m, m = (insts T).length := ⟨_, rfl⟩
  rw [← hm] at hl1 hcap1 HV ⊢
  unfold maxLen at hl1
  have HM := Lib.hid hm
  have HVL : Hid (vs.length = m) := Lib.hid (by rw [hvl, hm])
  have hm30 : m ≤ 30 := by rw [hm]; exact HSH.out
  clear f1 f1' hx0 x1 b0 hc1 hm fv rv hvl
  go_wp2
  go_loopw [3, 9] (fun o i wr => ∃ (j : Nat) (os : List Value), j ≤ m ∧ i = .int .i64 j ∧ Hid (FreshV W.heap.size wr o os) ∧ Hid (PRows w.heap.size W os (((insts T).take j).filter fun x => readyB n T x.1 x.2)) ∧ Hid (Ext W wr)) (fun _ i _ => m - (intOf i).toNat)
  case atStart => exact ⟨0, [], Nat.zero_le _, rfl, Lib.hid (FreshV.nil _ _), Lib.hid (by simpa using PRows.nil _ _), Lib.hid (Ext.refl _)⟩
  case round =>
    obtain ⟨j, os, hj, rfl, HF, HO, HX⟩ := hrel
    by_cases hlt : j < m
    · have hjl : j < (insts T).length := by rw [← HM.out]; exact hlt
      obtain ⟨x, hx⟩ : ∃ x, (insts T)[j]? = some x := ⟨_, List.getElem?_eq_getElem hjl⟩
      obtain ⟨xv, hxv⟩ : ∃ xv, vs[j]? = some xv := ⟨_, List.getElem?_eq_getElem (by rw [HVL.out]; exact hlt)⟩
      obtain ⟨g1, k1', hvd, _, _⟩ := HV.out.big (by rw [HVL.out]; omega)
      simp only [Value.slice.injEq] at hvd
      obtain ⟨rfl, hvn, hvk⟩ := hvd
      subst hvk
      clear hvn
      have gx := HX.out.cell (HV.out.at HVL.out hxv)
      have HXF0 := Lib.hid (HRV.out.2 j xv x hxv hx)
      have HXF := Lib.hid (HXF0.out.ext HX.out)
      obtain ⟨bx, ox, cx, rfl, x0, x1⟩ := pair_at HXF.out.ints
      have hxc : instCom T x.1 x.2 = true := mem_insts.1 (List.mem_of_getElem? hx)
      have HXC := Lib.hid hxc
      have HXX := Lib.hid hx
      have hbx := HB.out.ext HX.out
      have ks : ∀ V, Ext wr V → Ext wr V ∧ V.cell? ⟨w.heap.size, 0, none⟩ = some (.int .i64 n) ∧ V.cell? ⟨w.heap.size, 1, none⟩ = some (.slice au T.length cu) ∧ V.cell? ⟨bx, ox, none⟩ = some (.int .i64 x.1) ∧ V.cell? ⟨bx, ox + 1, none⟩ = some (.int .i64 ((x.2 : Int) + 1)) := fun V hV => ⟨hV, hV.cell hbx.1, hV.cell hbx.2, hV.cell x0, hV.cell x1⟩
      have KS := Lib.hid ks
      have HR := Lib.hid (Ext.drew (Ext.refl wr))
      have cB : ∀ V, Ext wr V → Calls Try.prog 31 #[.agg #[.int .i64 n, .slice au T.length cu], .int .i64 x.1, .int .i64 ((x.2 : Int) + 1)] V (BlkR n T (x.1, x.2) V) := fun V hV => l6Blockers_any n _ T x.1 x.2 _ (HU.out.ext (XW.out.trans (HX.out.trans hV))) HG.out hxc
      have CB := Lib.hid cB
      clear x0 x1 hx hxv hxc hbx ks cB
      go_wp2_with fail
      go_region_held3 (fun V => Ext wr V ∧ V.cell? ⟨w.heap.size, 0, none⟩ = some (.int .i64 n) ∧ V.cell? ⟨w.heap.size, 1, none⟩ = some (.slice au T.length cu) ∧ V.cell? ⟨bx, ox, none⟩ = some (.int .i64 x.1) ∧ V.cell? ⟨bx, ox + 1, none⟩ = some (.int .i64 ((x.2 : Int) + 1))) (first | (with_reducible exact KS.out _ HR.out) | (with_reducible exact KS.out _ SS.out)) (first | (go_at_call 31; refine (CB.out _ (And.left (by with_reducible assumption))).mono ?_; rintro e W3 ⟨vd, ds, s', i', rfl, hpa, hbi, hi', hbb, x3⟩; obtain ⟨ad, kd, rfl⟩ := hpa.form; have SS := Lib.hid (Ext.trans (And.left (by with_reducible assumption)) x3)))
      have hrd : readyB n T x.1 x.2 = decide (ds.length = 0) := by
        rw [Bool.eq_iff_iff, readyB_iff, decide_eq_true_iff]
        have h1 := hbi.ready hi'
        have h2 := hpa.len
        constructor
        · intro h
          rw [h2, h1.2 h]; rfl
        · intro h
          exact h1.1 (List.eq_nil_of_length_eq_zero (by omega))
      obtain ⟨l0, hl0⟩ : ∃ l0, l0 = ds.length := ⟨_, rfl⟩
      have hl31 : l0 ≤ 30 := by rw [hl0, hpa.len]; exact hbb.few.2
      rw [← hl0] at hrd ⊢
      have HXW := Lib.hid (HX.out.trans SS.out)
      have HF3 := Lib.hid (HF.out.ext SS.out)
      have HTK := Lib.hid (readyL_take (n := n) HXX.out)
      have HXV : Hid (Fresh w.heap.size W (.slice (some ⟨bx, ox, none⟩) 2 cx) (pairOf x)) := HXF0
      clear hpa hbi hi' hbb x3 KS CB HR hl0 gx HXF SS HX HF
      by_cases h0 : l0 = 0
      · subst h0
        have HRD : Hid (readyB n T x.1 x.2 = true) := Lib.hid (by rw [hrd]; rfl)
        have HLL : Hid (os.length ≤ 1048576) := Lib.hid (by
          have h1 := HO.out.1
          have h2 := List.length_filter_le (fun x : Nat × Nat => readyB n T x.1 x.2) ((insts T).take j)
          have h3 := HSH.out
          rw [List.length_take] at h2
          omega)
        have HSZ : Hid (W.heap.size ≤ (W3.alloc (.cells #[.slice (some ⟨bx, ox, none⟩) 2 cx] 49)).heap.size) := Lib.hid (HXW.out.alloc _).size
        have HF4 := Lib.hid (HF3.out.ext (Ext.alloc1 W3 (.cells #[.slice (some ⟨bx, ox, none⟩) 2 cx] 49)))
        clear hrd hl31 HF3
        go_wp2_with (at_builtin; refine wpList_pushV rfl _ _ rfl W.heap.size _ os rfl HF4.out (.slice (some ⟨bx, ox, none⟩) 2 cx) ⟨W3.heap.size, 0, none⟩ 1 rfl (cell_alloc_one _ _ _) rfl HLL.out HSZ.out ?_)
        intro v5 w5 f5 g5 k5
        have F5 := Lib.hid f5
        have X5 := Lib.hid (k5 W (HXW.out.alloc _) (Nat.le_refl _))
        have HON := Lib.hid (HO.out.snoc HXV.out)
        clear f5 g5 k5 HF4 HLL HSZ
        go_wp2
        go_roundw
        case rel => exact ⟨j + 1, _, by omega, by go_num, F5, Lib.hid (by rw [HTK.out, HRD.out, if_pos rfl]; exact HON.out), X5⟩
        case measure => simp [intOf]; omega
      · have HRD : Hid (readyB n T x.1 x.2 = false) := Lib.hid (by rw [hrd]; exact decide_eq_false h0)
        have ne : ((l0 : Int) == 0) = false := by simpa using h0
        clear hrd h0
        go_wp2
        go_roundw
        case rel => exact ⟨j + 1, os, by omega, by go_num, HF3, Lib.hid (by rw [HTK.out, HRD.out]; simpa using HO.out), HXW⟩
        case measure => simp [intOf]; omega
    · obtain rfl : j = m := by omega
      have HE : Hid (PRows w.heap.size wr os (readyL n T)) := Lib.hid (by
        have h := HO.out.ext HX.out
        rw [HM.out, List.take_length] at h
        exact h)
      have FE := Lib.hid HF.out
      have XE := Lib.hid (XW.out.trans HX.out)
      clear HO HF HX
      go_wp2
      go_ret
      exact ⟨_, os, rfl, PRows.at (FE.out.more XW.out.size) HE.out, XE.out⟩

set_option maxHeartbeats 2000000 in
set_option maxRecDepth 100000 in
theorem specReadyIn_any (n : Int) (u : Value) (T : List (List RowD)) (w : World) (hu : Rowzz w u T) :
    Calls Try.prog 6 #[.agg #[.int .i64 n, u]] w (ReadSS (readyR n T) (goodTab n T) w) := by
  obtain ⟨P, hP⟩ : ∃ P, P = readyR n T := ⟨_, rfl⟩
  obtain ⟨g, hg⟩ : ∃ g, g = goodTab n T := ⟨_, rfl⟩
  rw [← hP, ← hg]
  have hx0 := Ext.alloc1 w (.cells #[.int .i64 n, u] 31)
  have b0 := attrAt_new w 31 n u
  have HU := Lib.hid (hu.ext hx0)
  have HX := Lib.hid hx0
  have HP := Lib.hid hP
  have HGG := Lib.hid hg
  obtain ⟨au, cu, rfl, hlu, _, _⟩ := hu
  clear hx0 hP hg
  go_enter Try.func6, Try.ntmps6
  go_wp2_with fail
  refine (specGoodTable_any n _ T _ HU.out).mono ?_
  rintro e w1 ⟨rfl, x1⟩
  rw [← HGG.out]
  cases g with
  | false =>
    have eP : P = [] := by rw [HP.out]; unfold readyR; rw [← HGG.out]; rfl
    have X1 := Lib.hid (HX.out.trans x1)
    have EP := Lib.hid eP
    clear eP
    go_wp2
    go_ret2
    rw [EP.out]
    exact ⟨_, rfl, Intss.nil _, X1.out⟩
  | true =>
    obtain ⟨c1, c2⟩ := b0.ext x1
    have X1 := Lib.hid (HX.out.trans x1)
    have HU1 := Lib.hid (HU.out.ext x1)
    clear x1 b0
    go_wp2_with fail
    refine (l6Ready_any n _ T _ HU1.out HGG.out.symm).mono ?_
    rintro e w5 ⟨v5, vs, rfl, hpa, x5⟩
    have HI := Lib.hid hpa.intss
    have X5 := Lib.hid (X1.out.trans x5)
    have EP : Hid (P = (readyL n T).map pairOf) := Lib.hid (by rw [HP.out]; unfold readyR; rw [← HGG.out]; rfl)
    clear hpa x5 c1 c2
    go_wp2
    go_ret2
    rw [EP.out]
    exact ⟨_, rfl, HI.out, X5.out⟩
theorem readyR_bulk (n : Int) (T : List (List RowD)) : bulk (readyR n T) ≤ 1000 := by
  unfold readyR
  cases hg : goodTab n T with
  | false => simp [bulk]
  | true =>
    have h1 := readyL_short hg
    have h2 := bulk_by (L := (readyL n T).map pairOf) 2 (fun l hl => by
      obtain ⟨x, _, rfl⟩ := List.mem_map.1 hl
      simp [pairOf])
    rw [List.length_map] at h2
    simp only [if_true]
    omega
end Go.Proofs.Ytkhdgmgacfhcgaa

namespace Go.Proofs.Ytkhdgmgacfhcgaa
open Go.RowKit
set_option linter.unusedVariables false

def lensR (R : List RowD) : List Nat := R.map fun r => r.l.length
theorem lensR_len (R : List RowD) : (lensR R).length = R.length := by simp [lensR]
theorem lensR_get {R : List RowD} {k : Nat} (h : k < R.length) : (lensR R)[k]'(by rw [lensR_len]; exact h) = R[k].l.length := by simp [lensR]

set_option maxHeartbeats 1000000 in
theorem szRowS_any (v : Value) (R : List RowD) (left : Int) (w : World) (hv : Rowz w v R) (h0 : 0 ≤ left) (h1 : left ≤ 1099511627776) :
    Calls Try.prog 35 #[v, .int .i64 left] w (IntExt (lessened left (bulkR R)) w) := by
  obtain ⟨av, cv, rfl, hlv, _, hcv⟩ := hv
  unfold maxLen at hlv
  have hb : bulkR R = R.length + (lensR R).sum := rfl
  by_cases hlt : left < R.length
  · rw [lessened_no (by omega)]
    clear hb hcv
    go_enter Try.func35, Try.ntmps35
    go_wp2
    go_ret
    exact ⟨rfl, Ext.refl _⟩
  · have HBK := Lib.hid hb
    have hle : (R.length : Int) ≤ left := by omega
    clear hb hlt
    go_enter Try.func35, Try.ntmps35
    go_wp2
    go_loopw [1, 5] (fun m i wr => ∃ (k : Nat) (r : Int), k ≤ R.length ∧ i = .int .i64 k ∧ m = .int .i64 r ∧ 0 ≤ r ∧ Hid (r = left - R.length - sumN (lensR R) k) ∧ Ext w wr) (fun _ i _ => R.length - (intOf i).toNat)
    case atStart => exact ⟨0, left - R.length, Nat.zero_le _, rfl, rfl, by omega, Lib.hid (by rw [sumN_zero]; simp), Ext.refl _⟩
    case round =>
      obtain ⟨k, r, hk, rfl, rfl, hr0, hr, hx⟩ := hrel
      have hr1 : r ≤ 1099511627776 := by have := hr.out; omega
      by_cases hlt : k < R.length
      · obtain ⟨b, off, rfl, dv⟩ := hcv (by omega)
        obtain ⟨u, hu, iu⟩ := dv k hlt
        have hs := sumN_succ (g := lensR R) (k := k) (by rw [lensR_len]; exact hlt)
        rw [lensR_get hlt] at hs
        obtain ⟨d, hd⟩ : ∃ d, d = R[k] := ⟨_, rfl⟩
        rw [← hd] at hu iu hs
        obtain ⟨c0, c1, c2, c3, c4, c5, c6, c7, c8, c9⟩ := hu.ext hx
        have IU := Lib.hid (iu.ext hx)
        have HS := Lib.hid hs
        clear hcv dv hu iu hs hd
        by_cases hl : r < d.l.length
        · have L := Lib.hid (lessened_no hl)
          have hsum := sumN_mono (g := lensR R) (k := k + 1) (by rw [lensR_len]; omega)
          have HL := Lib.hid (show lessened left (bulkR R) = -1 from lessened_no (by have h1 := hr.out; have h2 := HS.out; have h3 := HBK.out; omega))
          clear hl hsum
          go_wp2_with fail
          refine (szRow_any d _ _ _ IU.out hr0 (by omega)).mono ?_
          rintro e w2 ⟨rfl, x2⟩
          have hx2 := hx.trans x2
          clear x2 hx c0 c1 c2 c3 c4 c5 c6 c7 c8 c9
          rw [L.out]
          go_wp2
          go_ret
          exact ⟨by rw [HL.out]; rfl, hx2⟩
        · obtain ⟨q, hq⟩ : ∃ q, q = r - (d.l.length : Int) := ⟨_, rfl⟩
          have hq0 : 0 ≤ q := by omega
          have L : Hid (lessened r d.l.length = q) := Lib.hid (by rw [hq]; exact lessened_yes (by omega))
          have HQ := Lib.hid hq
          clear hl hq
          go_wp2_with fail
          refine (szRow_any d _ _ _ IU.out hr0 (by omega)).mono ?_
          rintro e w2 ⟨rfl, x2⟩
          have hx2 := hx.trans x2
          clear x2 hx c0 c1 c2 c3 c4 c5 c6 c7 c8 c9
          rw [L.out]
          go_wp2
          go_roundw
          case rel => exact ⟨k + 1, q, by omega, by go_num, rfl, hq0, Lib.hid (by have h1 := hr.out; have h2 := HS.out; have h3 := HQ.out; omega), hx2⟩
          case measure => simp [intOf]; omega
      · obtain rfl : k = R.length := by omega
        go_wp2
        go_ret
        refine ⟨?_, hx⟩
        have h1 := hr.out
        have h3 := HBK.out
        have h4 := sumN_all (lensR R)
        rw [lensR_len] at h4
        have he : lessened left (bulkR R) = r := by rw [lessened_yes (by omega)]; omega
        rw [he]; rfl

def bulks (T : List (List RowD)) : List Nat := T.map bulkR
theorem bulks_len (T : List (List RowD)) : (bulks T).length = T.length := by simp [bulks]
theorem bulks_get {T : List (List RowD)} {k : Nat} (h : k < T.length) : (bulks T)[k]'(by rw [bulks_len]; exact h) = bulkR T[k] := by simp [bulks]

set_option maxHeartbeats 1000000 in
theorem szRowSS_any (v : Value) (T : List (List RowD)) (left : Int) (w : World) (hv : Rowzz w v T) (h0 : 0 ≤ left) (h1 : left ≤ 1099511627776) :
    Calls Try.prog 16 #[v, .int .i64 left] w (IntExt (lessened left (bulkT T)) w) := by
  obtain ⟨av, cv, rfl, hlv, _, hcv⟩ := hv
  unfold maxLen at hlv
  have hb : bulkT T = T.length + (bulks T).sum := rfl
  by_cases hlt : left < T.length
  · rw [lessened_no (by omega)]
    clear hb hcv
    go_enter Try.func16, Try.ntmps16
    go_wp2
    go_ret
    exact ⟨rfl, Ext.refl _⟩
  · have HBK := Lib.hid hb
    have hle : (T.length : Int) ≤ left := by omega
    clear hb hlt
    go_enter Try.func16, Try.ntmps16
    go_wp2
    go_loopw [1, 5] (fun m i wr => ∃ (k : Nat) (r : Int), k ≤ T.length ∧ i = .int .i64 k ∧ m = .int .i64 r ∧ 0 ≤ r ∧ Hid (r = left - T.length - sumN (bulks T) k) ∧ Ext w wr) (fun _ i _ => T.length - (intOf i).toNat)
    case atStart => exact ⟨0, left - T.length, Nat.zero_le _, rfl, rfl, by omega, Lib.hid (by rw [sumN_zero]; simp), Ext.refl _⟩
    case round =>
      obtain ⟨k, r, hk, rfl, rfl, hr0, hr, hx⟩ := hrel
      have hr1 : r ≤ 1099511627776 := by have := hr.out; omega
      by_cases hlt : k < T.length
      · obtain ⟨b, off, rfl, dv⟩ := hcv (by omega)
        obtain ⟨u, hu, iu⟩ := dv k hlt
        have hs := sumN_succ (g := bulks T) (k := k) (by rw [bulks_len]; exact hlt)
        rw [bulks_get hlt] at hs
        obtain ⟨d, hd⟩ : ∃ d, d = T[k] := ⟨_, rfl⟩
        rw [← hd] at iu hs
        have c0 := hx.cell hu
        have IU := Lib.hid (iu.ext hx)
        have HS := Lib.hid hs
        clear hcv dv hu iu hs hd
        by_cases hl : r < bulkR d
        · have L := Lib.hid (lessened_no hl)
          have hsum := sumN_mono (g := bulks T) (k := k + 1) (by rw [bulks_len]; omega)
          have HL := Lib.hid (show lessened left (bulkT T) = -1 from lessened_no (by have h1 := hr.out; have h2 := HS.out; have h3 := HBK.out; omega))
          clear hl hsum
          go_wp2_with fail
          refine (szRowS_any _ d _ _ IU.out hr0 (by omega)).mono ?_
          rintro e w2 ⟨rfl, x2⟩
          have hx2 := hx.trans x2
          clear x2 hx c0
          rw [L.out]
          go_wp2
          go_ret
          exact ⟨by rw [HL.out]; rfl, hx2⟩
        · obtain ⟨q, hq⟩ : ∃ q, q = r - (bulkR d : Int) := ⟨_, rfl⟩
          have hq0 : 0 ≤ q := by omega
          have L : Hid (lessened r (bulkR d) = q) := Lib.hid (by rw [hq]; exact lessened_yes (by omega))
          have HQ := Lib.hid hq
          clear hl hq
          go_wp2_with fail
          refine (szRowS_any _ d _ _ IU.out hr0 (by omega)).mono ?_
          rintro e w2 ⟨rfl, x2⟩
          have hx2 := hx.trans x2
          clear x2 hx c0
          rw [L.out]
          go_wp2
          go_roundw
          case rel => exact ⟨k + 1, q, by omega, by go_num, rfl, hq0, Lib.hid (by have h1 := hr.out; have h2 := HS.out; have h3 := HQ.out; omega), hx2⟩
          case measure => simp [intOf]; omega
      · obtain rfl : k = T.length := by omega
        go_wp2
        go_ret
        refine ⟨?_, hx⟩
        have h1 := hr.out
        have h3 := HBK.out
        have h4 := sumN_all (bulks T)
        rw [bulks_len] at h4
        have he : lessened left (bulkT T) = r := by rw [lessened_yes (by omega)]; omega
        rw [he]; rfl

set_option maxHeartbeats 1000000 in
theorem szTable_any (n : Int) (u : Value) (T : List (List RowD)) (left : Int) (w : World) (hv : Rowzz w u T) (h0 : 0 ≤ left) (h1 : left ≤ 1099511627776) :
    Calls Try.prog 5 #[.agg #[.int .i64 n, u], .int .i64 left] w (IntExt (lessened left (bulkT T)) w) := by
  have HB := attrAt_new w 24 n u
  by_cases hlt : left < bulkT T
  · have L := Lib.hid (lessened_no hlt)
    clear hlt
    go_enter Try.func5, Try.ntmps5
    go_wp2_with fail
    refine (szRowSS_any _ _ _ _ (hv.ext (Ext.alloc (Ext.refl _) _)) h0 h1).mono ?_
    rintro e w1 ⟨rfl, x1⟩
    have hx := (Ext.alloc (Ext.refl w) _).trans x1
    clear x1 HB
    rw [L.out]
    go_wp2
    go_ret
    exact ⟨by rw [L.out]; rfl, hx⟩
  · obtain ⟨q, hq⟩ : ∃ q, q = left - (bulkT T : Int) := ⟨_, rfl⟩
    have hq0 : 0 ≤ q := by omega
    have LR : Hid (lessened left (bulkT T) = q) := Lib.hid (by rw [hq]; exact lessened_yes (by omega))
    clear hlt hq
    rw [LR.out]
    go_enter Try.func5, Try.ntmps5
    go_wp2_with fail
    refine (szRowSS_any _ _ _ _ (hv.ext (Ext.alloc (Ext.refl _) _)) h0 h1).mono ?_
    rintro e w1 ⟨rfl, x1⟩
    have hx := (Ext.alloc (Ext.refl w) _).trans x1
    clear x1 HB
    rw [LR.out]
    go_wp2
    go_ret
    exact ⟨rfl, hx⟩

end Go.Proofs.Ytkhdgmgacfhcgaa

namespace Go.Proofs.Ytkhdgmgacfhcgaa
open Go.RowKit Go.Maps
set_option linter.unusedVariables false

/-- From x0 one comes to z: over settled instances. -/
def Led (n : Int) (T : List (List RowD)) (x0 z : Nat × Nat) : Prop := ∀ C : Nat × Nat → Prop, C x0 → (∀ y, C y → instCom T y.1 y.2 = true → ∀ z ∈ hungL (rowOf n T y.1 y.2), C z) → C z
def nextL (n : Int) (T : List (List RowD)) (y : Nat × Nat) : List (Nat × Nat) := if instCom T y.1 y.2 then hungL (rowOf n T y.1 y.2) else []
/-- What is met (M), and of it what waits (L). -/
structure Com (n : Int) (T : List (List RowD)) (x0 : Nat × Nat) (M L : List (Nat × Nat)) : Prop where
  first : x0 ∈ M
  led : ∀ z ∈ M, Led n T x0 z
  done : ∀ y ∈ M, y ∉ L → ∀ z ∈ nextL n T y, z ∈ M
  sub : ∀ y ∈ L, y ∈ M
  nod : M.Nodup
  bnd : ∀ z ∈ M, z.1 < 5 ∧ z.2 < 6
/-- .. y being looked through, its first j. -/
structure ComI (n : Int) (T : List (List RowD)) (x0 y : Nat × Nat) (j : Nat) (M L : List (Nat × Nat)) : Prop where
  first : x0 ∈ M
  led : ∀ z ∈ M, Led n T x0 z
  done : ∀ y' ∈ M, y' ∉ L → y' ≠ y → ∀ z ∈ nextL n T y', z ∈ M
  part : ∀ z ∈ (nextL n T y).take j, z ∈ M
  sub : ∀ y ∈ L, y ∈ M
  nod : M.Nodup
  bnd : ∀ z ∈ M, z.1 < 5 ∧ z.2 < 6
  here : y ∈ M
theorem Com.start {n : Int} {T : List (List RowD)} {x0 : Nat × Nat} (h : x0.1 < 5 ∧ x0.2 < 6) : Com n T x0 [x0] [x0] :=
  ⟨by simp, fun z hz => by
    obtain rfl : z = x0 := by simpa using hz
    exact fun C h0 _ => h0, fun y hy hn => absurd hy hn, fun y hy => hy, by simp, fun z hz => by
    obtain rfl : z = x0 := by simpa using hz
    exact h⟩
theorem Com.pop {n : Int} {T : List (List RowD)} {x0 y : Nat × Nat} {M L : List (Nat × Nat)} (h : Com n T x0 M (L ++ [y])) : ComI n T x0 y 0 M L :=
  ⟨h.first, h.led, fun y' hy hn hne => h.done y' hy (by simp [hn, hne]), fun z hz => by simp at hz, fun z hz => h.sub z (by simp [hz]), h.nod, h.bnd, h.sub y (by simp)⟩
theorem ComI.old {n : Int} {T : List (List RowD)} {x0 y z : Nat × Nat} {j : Nat} {M L : List (Nat × Nat)} (h : ComI n T x0 y j M L) (hz : (nextL n T y)[j]? = some z) (hm : z ∈ M) : ComI n T x0 y (j + 1) M L :=
  ⟨h.first, h.led, h.done, fun z' hz' => by
    rw [List.take_add_one, hz] at hz'
    rcases List.mem_append.1 hz' with hz' | hz'
    · exact h.part z' hz'
    · obtain rfl : z' = z := by simpa using hz'
      exact hm, h.sub, h.nod, h.bnd, h.here⟩
theorem ComI.new {n : Int} {T : List (List RowD)} {x0 y z : Nat × Nat} {j : Nat} {M L : List (Nat × Nat)} (h : ComI n T x0 y j M L) (hz : (nextL n T y)[j]? = some z) (hm : z ∉ M) (hb : z.1 < 5 ∧ z.2 < 6) : ComI n T x0 y (j + 1) (M ++ [z]) (L ++ [z]) := by
  have hzl : Led n T x0 z := by
    intro C h0 hC
    have hyC := h.led y h.here C h0 hC
    have hmem := List.mem_of_getElem? hz
    unfold nextL at hmem
    split at hmem
    · rename_i hc
      exact hC y hyC hc z hmem
    · cases hmem
  refine ⟨by simp [h.first], fun z' hz' => ?_, fun y' hy hn hne z' hz' => ?_, fun z' hz' => ?_, fun z' hz' => ?_, ?_, fun z' hz' => ?_, by simp [h.here]⟩
  · rcases List.mem_append.1 hz' with hz' | hz'
    · exact h.led z' hz'
    · obtain rfl : z' = z := by simpa using hz'
      exact hzl
  · simp only [List.mem_append, List.mem_singleton, not_or] at hn
    rcases List.mem_append.1 hy with hy | hy
    · exact List.mem_append_left _ (h.done y' hy hn.1 hne z' hz')
    · exact absurd (by simpa using hy) hn.2
  · rw [List.take_add_one, hz] at hz'
    rcases List.mem_append.1 hz' with hz' | hz'
    · exact List.mem_append_left _ (h.part z' hz')
    · exact List.mem_append_right _ (by simpa using hz')
  · rcases List.mem_append.1 hz' with hz' | hz'
    · exact List.mem_append_left _ (h.sub z' hz')
    · exact List.mem_append_right _ hz'
  · refine List.nodup_append.2 ⟨h.nod, by simp, fun a ha b hb' e => ?_⟩
    obtain rfl : b = z := by simpa using hb'
    subst e
    exact hm ha
  · rcases List.mem_append.1 hz' with hz' | hz'
    · exact h.bnd z' hz'
    · obtain rfl : z' = z := by simpa using hz'
      exact hb
theorem ComI.close {n : Int} {T : List (List RowD)} {x0 y : Nat × Nat} {j : Nat} {M L : List (Nat × Nat)} (h : ComI n T x0 y j M L) (hj : (nextL n T y).length ≤ j) : Com n T x0 M L :=
  ⟨h.first, h.led, fun y' hy hn z hz => by
    by_cases e : y' = y
    · subst e
      exact h.part z (by rw [List.take_of_length_le hj]; exact hz)
    · exact h.done y' hy hn e z hz, h.sub, h.nod, h.bnd⟩
theorem Com.all {n : Int} {T : List (List RowD)} {x0 : Nat × Nat} {M : List (Nat × Nat)} (h : Com n T x0 M []) (z : Nat × Nat) : z ∈ M ↔ Led n T x0 z := by
  refine ⟨h.led z, fun hl => hl (fun z => z ∈ M) h.first (fun y hy hc z hz => h.done y hy (by simp) z (by unfold nextL; rw [if_pos hc]; exact hz))⟩
theorem Com.few {n : Int} {T : List (List RowD)} {x0 : Nat × Nat} {M L : List (Nat × Nat)} (h : Com n T x0 M L) : M.length ≤ 30 := few_of h.nod h.bnd
theorem ComI.few {n : Int} {T : List (List RowD)} {x0 y : Nat × Nat} {j : Nat} {M L : List (Nat × Nat)} (h : ComI n T x0 y j M L) : M.length ≤ 30 := few_of h.nod h.bnd
theorem nextL_in {n : Int} {T : List (List RowD)} (hg : goodTab n T = true) {y x : Nat × Nat} (hx : x ∈ nextL n T y) : x.1 < 5 ∧ x.2 < 6 := by
  unfold nextL at hx
  split at hx
  · rename_i hc
    have hy := (com_row hg hc).2.2.1
    rw [mem_hungL] at hx
    have h1 := rowOf_list hg hy y.2
    have h2 := dep_in hg hy y.2 x.1
    unfold depM at hx
    omega
  · cases hx

/-- All instances that a table may have. -/
def grid : List (Nat × Nat) := (List.range 5).flatMap fun p => (List.range 6).map fun q => (p, q)
theorem grid_lex : grid.Pairwise lexL := by decide
theorem mem_grid {z : Nat × Nat} : z ∈ grid ↔ z.1 < 5 ∧ z.2 < 6 := by
  unfold grid
  simp only [List.mem_flatMap, List.mem_range, List.mem_map]
  constructor
  · rintro ⟨p, hp, q, hq, rfl⟩
    exact ⟨hp, hq⟩
  · rintro ⟨h1, h2⟩
    exact ⟨z.1, h1, z.2, h2, rfl⟩
noncomputable def ledB (n : Int) (T : List (List RowD)) (x0 z : Nat × Nat) : Bool := @decide (Led n T x0 z) (Classical.propDecidable _)
theorem ledB_iff {n : Int} {T : List (List RowD)} {x0 z : Nat × Nat} : ledB n T x0 z = true ↔ Led n T x0 z := by
  unfold ledB
  exact @decide_eq_true_iff _ (Classical.propDecidable _)
/-- The blockers, rising. -/
noncomputable def blkL (n : Int) (T : List (List RowD)) (x0 : Nat × Nat) : List (Nat × Nat) := grid.filter fun z => ledB n T x0 z && !instCom T z.1 z.2
theorem blkL_of {n : Int} {T : List (List RowD)} {x0 : Nat × Nat} {L : List (Nat × Nat)} (hL : L.Pairwise lexL) (hb : ∀ z ∈ L, z.1 < 5 ∧ z.2 < 6) (h : ∀ z : Nat × Nat, z.1 < 5 ∧ z.2 < 6 → (z ∈ L ↔ (Led n T x0 z ∧ instCom T z.1 z.2 = false))) : L = blkL n T x0 :=
  lex_unique hL (grid_lex.filter _) (fun z => by
    unfold blkL
    rw [List.mem_filter, mem_grid]
    constructor
    · intro hz
      have h1 := hb z hz
      have h2 := (h z h1).1 hz
      exact ⟨h1, by rw [ledB_iff.2 h2.1, h2.2]; rfl⟩
    · rintro ⟨h1, h2⟩
      simp only [Bool.and_eq_true, Bool.not_eq_true'] at h2
      exact (h z h1).2 ⟨ledB_iff.1 h2.1, h2.2⟩)
theorem blkL_short (n : Int) (T : List (List RowD)) (x0 : Nat × Nat) : (blkL n T x0).length ≤ 30 := Nat.le_trans (List.length_filter_le _ _) (by decide)
/-- The model's blockers are these. -/
theorem BlkI.all {n : Int} {T : List (List RowD)} {x0 : Nat × Nat} {i : Nat} {s : List (Nat × Nat) × List (Nat × Nat)} (h : BlkI n T x0 i 0 s) (hi : s.1.length ≤ i) (hb : BlkB s) : s.2 = blkL n T x0 := by
  refine blkL_of h.sorted hb.in2 (fun z _ => ⟨fun hz => ⟨fun C h0 hC => (h.led C hC h0).2 z hz, h.not z hz⟩, fun ⟨hl, hn⟩ => ?_⟩)
  have hm := hl (fun z => z ∈ s.1 ∨ z ∈ s.2) (.inl h.first) (fun y hy hc z hz => by
    rcases hy with hy | hy
    · by_cases e : z = y
      · rw [e]; exact .inl hy
      · obtain ⟨k, hk⟩ := List.getElem?_of_mem hy
        have hlt := (List.getElem?_eq_some_iff.1 hk).1
        exact h.done k y (by omega) hk z (mem_depsL.2 ⟨hz, e⟩)
    · rw [h.not y hy] at hc; cases hc)
  rcases hm with hm | hm
  · rw [h.com z hm] at hn; cases hn
  · exact hm
end Go.Proofs.Ytkhdgmgacfhcgaa

namespace Go.Proofs.Ytkhdgmgacfhcgaa
open Go.RowKit Go.Maps Go.Sort Go.Shelf
set_option linter.unusedVariables false

set_option maxHeartbeats 2000000 in
set_option maxRecDepth 100000 in
theorem instCmpB_any (x y : Nat × Nat) (w : World) :
    Calls Try.prog 43 #[.agg (cellsI x).toArray, .agg (cellsI y).toArray] w (fun e w' => e = .returned (.int .i64 (cmpP x y)) ∧ Grows w w') := by
  unfold cellsI cmpP
  obtain ⟨p, q⟩ := x
  obtain ⟨p', q'⟩ := y
  obtain ⟨r, hr⟩ : ∃ r, r = if cmpI (p : Int) (p' : Int) = 0 then cmpI ((q : Int) + 1) ((q' : Int) + 1) else cmpI (p : Int) (p' : Int) := ⟨_, rfl⟩
  have cO : ∀ w0 : World, Calls Try.prog 64 #[.slice (some ⟨w0.heap.size, 0, none⟩) 2 2] (w0.alloc (.cells #[.int .i64 (cmpI (p : Int) (p' : Int)), .int .i64 (cmpI ((q : Int) + 1) ((q' : Int) + 1))] 3)).drew (IntSame r (w0.alloc (.cells #[.int .i64 (cmpI (p : Int) (p' : Int)), .int .i64 (cmpI ((q : Int) + 1) ((q' : Int) + 1))] 3)).drew) := fun w0 => by
    rw [hr]
    exact orHere w0 _ _
  have CO := Lib.hid cO
  show Calls _ _ _ _ (fun e w' => e = .returned (.int .i64 (if cmpI (p : Int) (p' : Int) = 0 then cmpI ((q : Int) + 1) ((q' : Int) + 1) else cmpI (p : Int) (p' : Int))) ∧ Grows w w')
  rw [← hr]
  clear hr cO
  obtain ⟨w0, hw0⟩ : ∃ w0, w0 = (w.alloc (.cells #[.int .i64 p, .int .i64 ((q : Int) + 1)] 64)).alloc (.cells #[.int .i64 p', .int .i64 ((q' : Int) + 1)] 64) := ⟨_, rfl⟩
  have g0 : Grows w w0 := by rw [hw0]; exact (Grows.refl w).alloc _ |>.alloc _
  have c0 : w0.cell? ⟨w.heap.size, 0, none⟩ = some (.int .i64 p) := by rw [hw0]; go_simp
  have c1 : w0.cell? ⟨w.heap.size, 1, none⟩ = some (.int .i64 ((q : Int) + 1)) := by rw [hw0]; go_simp
  have c2 : w0.cell? ⟨w.heap.size + 1, 0, none⟩ = some (.int .i64 p') := by rw [hw0]; go_simp
  have c3 : w0.cell? ⟨w.heap.size + 1, 1, none⟩ = some (.int .i64 ((q' : Int) + 1)) := by rw [hw0]; go_simp
  have ks : ∀ W, Grows w0 W → Grows w0 W ∧ W.cell? ⟨w.heap.size, 0, none⟩ = some (.int .i64 p) ∧ W.cell? ⟨w.heap.size, 1, none⟩ = some (.int .i64 ((q : Int) + 1)) ∧ W.cell? ⟨w.heap.size + 1, 0, none⟩ = some (.int .i64 p') ∧ W.cell? ⟨w.heap.size + 1, 1, none⟩ = some (.int .i64 ((q' : Int) + 1)) := fun W h => ⟨h, h.ext.cell c0, h.ext.cell c1, h.ext.cell c2, h.ext.cell c3⟩
  clear c0 c1 c2 c3
  subst hw0
  have KS := Lib.hid ks
  have G0 := Lib.hid g0
  clear ks g0
  go_enter Try.func43, Try.ntmps43
  go_wp2_with fail
  generalize ((w.alloc (.cells #[.int .i64 p, .int .i64 ((q : Int) + 1)] 64)).alloc (.cells #[.int .i64 p', .int .i64 ((q' : Int) + 1)] 64)) = w0 at KS G0 ⊢
  go_region_held3 (fun W => Grows w0 W ∧ W.cell? ⟨w.heap.size, 0, none⟩ = some (.int .i64 p) ∧ W.cell? ⟨w.heap.size, 1, none⟩ = some (.int .i64 ((q : Int) + 1)) ∧ W.cell? ⟨w.heap.size + 1, 0, none⟩ = some (.int .i64 p') ∧ W.cell? ⟨w.heap.size + 1, 1, none⟩ = some (.int .i64 ((q' : Int) + 1))) (first | (with_reducible exact KS.out _ (Grows.drew (Grows.refl _))) | (with_reducible exact KS.out _ (Grows.drew (Grows.alloc (Grows.refl _) _))) | (with_reducible exact KS.out _ (Grows.alloc (Grows.drew (Grows.refl _)) _)) | (trace_state; fail)) (first | (go_at_call 65; refine (compareInt_any _ _ _).mono ?_; rintro e W3 ⟨rfl, rfl⟩) | (go_at_call 64; refine (CO.out _).mono ?_; rintro e W3 ⟨rfl, rfl⟩))
  all_goals
    go_wp2
    go_ret
    exact ⟨rfl, G0.out.trans (Grows.drew (Grows.alloc (Grows.refl _) _))⟩


theorem sortInstB_any (B : Nat) (v : Value) (L : List (Nat × Nat)) (w : World) (hf : FreshIn B w v L) (hnd : L.Nodup) (hlen : L.length ≤ 1048576) :
    Calls Try.prog 42 #[v, .func (.func 43) #[] #[]] w (SortedI B v L w) := by
  by_cases h0 : L = []
  · subst h0
    obtain ⟨ao, cap, hv, _⟩ := hf.at
    have hv' : v = .slice ao 0 cap := hv
    subst hv'
    refine (AnyF.slices_SortFunc_none Try.lSortI ao cap _ w).mono ?_
    rintro e w' ⟨rfl, rfl⟩
    exact ⟨⟨_, rfl⟩, [], hf, List.Perm.refl _, List.Pairwise.nil, ⟨rfl, rfl, rfl, Nat.le_refl _, fun _ _ _ => rfl⟩⟩
  · have hpos : 0 < L.length := List.length_pos_iff.2 h0
    have hf0 : w.ownsRow B 64 2 v L.length (flatI L) := hf
    obtain ⟨g, cap, rfl⟩ : ∃ g cap, v = .slice (some ⟨g, 0, none⟩) L.length cap := by
      rcases hf0.2 with ⟨_, h⟩ | ⟨g, cap, _, hv, _⟩
      · omega
      · exact ⟨g, cap, hv⟩
    have hgw : g < w.heap.size := (World.ownsRow.lt hf0 g rfl).2
    have hsz : L.toArray.size = L.length := by simp
    have hcmp : Go.Proofs.CmpLays Try.prog 43 #[] cellsI 2 cmpP g 0 L.toArray.size w := by
      intro m os dk _ x y
      refine (instCmpB_any x y _).mono ?_
      rintro e w' ⟨rfl, q, os', rfl⟩
      exact ⟨rfl, q, os', rfl⟩
    have hc := AnyQ.slices_SortFunc Try.lSortI 2 (fun w => by kernel_rfl) (fun w => by kernel_rfl) cellsI (fun _ => rfl) (fun x v hv => by simp [cellsI] at hv; rcases hv with rfl | rfl <;> rfl) cmpP cmpP_swo 43 #[] g 0 cap L.toArray w (enters_of Try.func43 (by kernel_rfl) rfl) hcmp (holdsK_of hf) hgw (by rw [hsz]; omega)
    rw [hsz] at hc
    refine hc.mono ?_
    rintro e w' ⟨rfl, d', n, os, hp, hs, rfl⟩
    have hds : d'.size = L.length := by rw [hp.1, hsz]
    have hperm : d'.toList.Perm L := by
      have h := hp.2.2
      have e1 : d'.extract 0 L.length = d' := by rw [← hds]; simp
      have e2 : L.toArray.extract 0 L.length = L.toArray := by
        have := Array.extract_size (xs := L.toArray)
        rwa [hsz] at this
      rw [e1, e2] at h
      simpa using h
    have hndd : d'.toList.Nodup := hperm.nodup_iff.2 hnd
    refine ⟨⟨_, rfl⟩, d'.toList, ?_, hperm, ?_, ?_⟩
    · have hl : (flatI d'.toList).length = L.length * 2 := by rw [flatI_len, Array.length_toList, hds]
      have := own_put2 (m := n) (os := os) hf0 hl
      unfold FreshIn
      have hdl : d'.toList.length = L.length := by simpa using hds
      rw [hdl]
      have e : flatK cellsI 2 d' = (flatI d'.toList).toArray := by rw [← flatK_flat]
      unfold sortWorldK putRowK
      rw [e]
      exact this
    · rw [List.pairwise_iff_getElem]
      intro i j hi hj hij
      rw [Array.length_toList] at hi hj
      have h := hs i j (Nat.zero_le _) hij (by omega)
      unfold Go.Proofs.ltOf at h
      rw [decide_eq_false_iff_not, cmpP_lt, getElem!_pos _ j hj, getElem!_pos _ i hi] at h
      have hne : d'[i] ≠ d'[j] := by
        have := List.pairwise_iff_getElem.1 hndd i j (by simpa using hi) (by simpa using hj) hij
        simpa using this
      have hne' : ¬ (d'[i].1 = d'[j].1 ∧ d'[i].2 = d'[j].2) := fun e => hne (Prod.ext e.1 e.2)
      simp only [Array.getElem_toList]
      unfold lexL at h ⊢
      omega
    · unfold sortWorldK putRowK
      exact grown_put id _


set_option maxHeartbeats 4000000 in
set_option maxRecDepth 100000 in
theorem inOrderB_any (B n0 : Nat) (D : DataW Value) (S : Nat → Nat → Bool) (w : World) (hm : RowMap w B n0 D) (hd : MapOf D S (fun _ _ => .bool true)) (hn : n0 ≤ 1000) :
    Calls Try.prog 34 #[.map (some B)] w (NewInsts S w) := by
  have HM := Lib.hid hm
  have HD := Lib.hid hd
  have HB := Lib.hid hm.lt
  have HN0 := Lib.hid hn
  clear hm hd hn
  go_enter Try.func34, Try.ntmps34
  go_wp2_with (first | (at_range; refine wpList_range_own _ rfl _ 66 rfl 64 4 instKeyed Try.underlying66 asIs B n0 D rfl HM.out ?_; intro w1 hrg1 hg1 hs1) | go_in)
  go_frame
  have X1 := Lib.hid (ext_of_grown hg1)
  have R1 := Lib.hid hrg1
  obtain ⟨r, hr⟩ : ∃ r, r = w.heap.size := ⟨_, rfl⟩
  rw [← hr] at R1 ⊢
  have HR := Lib.hid hr
  have HS1 : Hid (r + 1 ≤ w1.heap.size) := Lib.hid (by omega)
  clear hrg1 hg1 hs1 HM hr
  go_loopw [3, 4] (fun s _ wr => ∃ (left : Lit → Bool) (cnt : Nat) (L : List (Nat × Nat)), Hid (RowRange wr B r n0 D left cnt) ∧ Hid (Came S left L) ∧ Hid (FreshIn (r + 1) wr s L) ∧ Hid (L.length + cnt ≤ n0) ∧ Hid (Ext w wr) ∧ Hid (r + 1 ≤ wr.heap.size)) (fun _ _ wr => wr.rangeLeft B r)
  case atStart => exact ⟨_, _, [], R1, Lib.hid (Came.start HD.out), Lib.hid (FreshIn.nil _ _), Lib.hid (by have := R1.out.owns.size_le; simpa using this), X1, HS1⟩
  case round =>
    clear R1 X1 HS1
    obtain ⟨left, cnt, L, R, C, F, N, X, SZ⟩ := hrel
    have hF := F.out
    have hlt0 : ∀ k, u3.ownBlock = some k → r + 1 ≤ k := fun k hk => (World.ownsRow.lt hF k hk).1
    have HLT0 := Lib.hid hlt0
    clear hF hlt0
    go_wp2_with (first | (at_next; refine wpList_next_inst _ rfl _ rfl B r n0 D left cnt _ _ rfl R.out HD.out ?_ ?_) | go_in)
    · intro hl
      clear R
      go_wp2_with fail
      refine (sortInstB_any _ _ L _ F.out C.out.nodup (by have := N.out; have := HN0.out; omega)).mono ?_
      rintro e w2 ⟨⟨rv, rfl⟩, L', f', hp, hlex, hg⟩
      have hmem : ∀ x : Nat × Nat, x ∈ L' ↔ S x.1 x.2 = true := fun x => by
        rw [hp.mem_iff, C.out.mem, hl]
        simp
      have HM := Lib.hid hmem
      have HP := Lib.hid hlex
      have hx2 : Ext w w2 := Below.grown X.out hg X.out.size (fun k hk => by have := HLT0.out k hk; have := HR.out; omega)
      have X2 := Lib.hid hx2
      have hf2 : FreshIn w.heap.size w2 u3 L' := ownsRow_more f' (by have := HR.out; omega)
      have F2 := Lib.hid hf2
      clear hp hlex hg hmem hx2 f' hf2 C F N X hl
      go_wp2
      go_ret
      exact ⟨_, L', rfl, F2.out, HP.out, HM.out, X2.out⟩
    · intro p q w3 cnt3 hS hlk hrg3 hlt hg3 hs3 hen
      have C3 := Lib.hid (C.out.step HD.out hS hlk)
      have N3 : Hid ((L ++ [(p, q)]).length + cnt3 ≤ n0) := Lib.hid (by have := N.out; simp; omega)
      have X3 : Hid (Ext w w3) := Lib.hid (X.out.turned hg3 (by have := HR.out; omega))
      have F3 : Hid (FreshIn (r + 1) w3 u3 L) := Lib.hid (World.ownsRow.kept F.out hg3 (by
        cases hb : u3.ownBlock with
        | none => exact .inl rfl
        | some k => exact .inr (fun e => by cases e; have := HLT0.out _ hb; omega)))
      have R3 := Lib.hid hrg3
      have SZ3 : Hid (r + 1 ≤ w3.heap.size) := Lib.hid (by have := SZ.out; omega)
      have HRO := Lib.hid R.out
      have HLT := Lib.hid hlt
      have HL : Hid (L.length ≤ 1048576) := Lib.hid (by have := N.out; have := HN0.out; omega)
      clear hrg3 hg3 hs3 hlk hS R C N X F SZ hlt
      go_wp2_with (first | (at_builtin; refine wpList_pushI rfl _ _ rfl (r + 1) _ L (p, q) rfl (F3.out.ext (Ext.alloc2 _ _ _)) (w3.heap.size + 1) 1 rfl (by go_simp) (by go_simp) HL.out (Nat.le_trans SZ3.out (Ext.alloc2 _ _ _).size) ?_; intro v' w4 f4 hg4 hk4) | go_in)
      have F4 := Lib.hid f4
      have X4 := Lib.hid (hk4 w (X3.out.trans (Ext.alloc2 _ _ _)) (by have := HR.out; omega))
      have R4 : Hid (RowRange w4 B r n0 D (fun z => left z && !z.sameKey (kl (p : Int) ((q : Int) + 1))) cnt3) := Lib.hid ((R3.out.ext (Ext.alloc2 _ _ _)).kept hg4 (fun e => by have := HLT0.out _ e.symm; have := HB.out; have := HR.out; omega) (fun e => by have := HLT0.out _ e.symm; omega))
      have SZ4 : Hid (r + 1 ≤ w4.heap.size) := Lib.hid (Nat.le_trans (Nat.le_trans SZ3.out (Ext.alloc2 _ _ _).size) hg4.size)
      clear f4 hg4 hk4 F3 X3 R3 SZ3
      go_wp2
      go_roundw
      case rel => exact ⟨_, _, _, R4, C3, F4, N3, X4, SZ4⟩
      case measure => rw [R4.out.left_eq, HRO.out.left_eq]; exact HLT.out

end Go.Proofs.Ytkhdgmgacfhcgaa
