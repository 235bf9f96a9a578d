/- Texts of this proof, part x: words, plain facts, contracts. -/
import Derived.Test.YtcpmfcigciknlaaGreatMBookOfl
import Derived.Test.YtcpmfcigciknlaaGreatMBookOfw
import Derived.Test.YtcpmfcigciknlaaGreatMBookOff
import Derived.Test.YtcpmfcigciknlaaGreatMBookOfh
import Derived.Test.YtcpmfcigciknlaaGreatMBookOfu
import Derived.Test.YtcpmfcigciknlaaGreatMBookOfk
import Derived.Test.YtcpmfcigciknlaaGreatMBookOfc
import Derived.Test.YtcpmfcigciknlaaGreatMBookOfa

namespace Go.Proofs.YtcpmfcigciknlaaGreat
open Go.RowKit Go.Maps
set_option linter.unusedVariables false

/-- The places, in a list of instances, of those that are in P: rising. -/
def Got (L P : List (Nat × Nat)) (l : List Int) : Prop := Rises l ∧ ∀ z : Int, z ∈ l ↔ ∃ (k : Nat) (y : Nat × Nat), z = (k : Int) ∧ L[k]? = some y ∧ y ∈ P
theorem Got.nil (L : List (Nat × Nat)) : Got L [] [] := ⟨List.Pairwise.nil, fun z => by simp⟩
theorem pairOf_inj {x y : Nat × Nat} (h : pairOf x = pairOf y) : x = y := by
  unfold pairOf at h
  simp at h
  exact Prod.ext (by omega) (by omega)
theorem Got.none {L P : List (Nat × Nat)} {l : List Int} {y : Nat × Nat} (h : Got L P l) (hn : pairOf y ∉ L.map pairOf) : Got L (P ++ [y]) l := by
  have hy : y ∉ L := fun hm => hn (List.mem_map_of_mem hm)
  refine ⟨h.1, fun z => ?_⟩
  rw [h.2]
  constructor
  · rintro ⟨k, x, e, hk, hx⟩
    exact ⟨k, x, e, hk, by simp [hx]⟩
  · rintro ⟨k, x, e, hk, hx⟩
    rw [List.mem_append, List.mem_singleton] at hx
    rcases hx with hx | rfl
    · exact ⟨k, x, e, hk, hx⟩
    · exact absurd (List.mem_of_getElem? hk) hy
theorem Got.put {L P : List (Nat × Nat)} {l : List Int} {y : Nat × Nat} {k : Nat} (h : Got L P l) (hL : L.Nodup) (hk : (L.map pairOf)[k]? = some (pairOf y)) : Got L (P ++ [y]) (putI l k) := by
  have hky : L[k]? = some y := by
    rw [List.getElem?_map] at hk
    cases hx : L[k]? with
    | none => rw [hx] at hk; cases hk
    | some x =>
      rw [hx] at hk
      simp only [Option.map_some, Option.some.injEq] at hk
      rw [pairOf_inj hk]
  refine ⟨putI_rises _ h.1, fun z => ?_⟩
  rw [putI_mem, h.2]
  constructor
  · rintro (⟨k', x, e, hk', hx⟩ | e)
    · exact ⟨k', x, e, hk', by simp [hx]⟩
    · exact ⟨k, y, e, hky, by simp⟩
  · rintro ⟨k', x, e, hk', hx⟩
    rw [List.mem_append, List.mem_singleton] at hx
    rcases hx with hx | rfl
    · exact .inl ⟨k', x, e, hk', hx⟩
    · refine .inr ?_
      rw [e]
      obtain ⟨h1, e1⟩ := List.getElem?_eq_some_iff.1 hky
      obtain ⟨h2, e2⟩ := List.getElem?_eq_some_iff.1 hk'
      have := (List.getElem_inj hL).1 (e2.trans e1.symm)
      rw [this]
theorem got_row {n : Int} {T : List (List RowD)} (hg : goodTab n T = true) {x : Nat × Nat} (hx : x ∈ insts T) {l : List Int} (h : Got (insts T) (depsL n T x) l) : l = rowE n T (insts T) x (insts T).length := by
  refine rises_ext h.1 ?_ fun z => ?_
  · unfold rowE
    unfold Rises
    rw [List.pairwise_map]
    exact (List.pairwise_lt_range.filter _).imp fun h => by omega
  · rw [h.2]
    have hcx := com_row hg (mem_insts.1 hx)
    unfold rowE
    rw [List.mem_map]
    have key : ∀ y, y ∈ insts T → (y ∈ depsL n T x ↔ edgeB n T x y = true) := fun y hy => by
      have hcy := com_row hg (mem_insts.1 hy)
      have hd := dep_in hg hcx.2.2.1 x.2 y.1
      unfold depsL edgeB
      rw [mem_depsTo]
      unfold depN
      simp only [Bool.and_eq_true, Bool.not_eq_true', decide_eq_false_iff_not, decide_eq_true_eq]
      constructor
      · rintro ⟨h1, h2, h3⟩
        exact ⟨fun e => h3 e.symm, by omega⟩
      · rintro ⟨h1, h2⟩
        exact ⟨by omega, by omega, fun e => h1 e.symm⟩
    constructor
    · rintro ⟨k, y, e, hk, hy⟩
      refine ⟨k, ?_, e.symm⟩
      rw [List.mem_filter, List.mem_range]
      obtain ⟨h1, e1⟩ := List.getElem?_eq_some_iff.1 hk
      refine ⟨h1, ?_⟩
      rw [hk]
      exact (key y (List.mem_of_getElem? hk)).1 hy
    · rintro ⟨k, hk, e⟩
      rw [List.mem_filter, List.mem_range] at hk
      refine ⟨k, (insts T)[k]'hk.1, e.symm, List.getElem?_eq_getElem hk.1, ?_⟩
      have h2 := hk.2
      rw [List.getElem?_eq_getElem hk.1, Option.getD_some] at h2
      exact (key _ (List.getElem_mem hk.1)).2 h2
theorem insts_nodup (T : List (List RowD)) : (insts T).Nodup := (insts_lex T).imp fun h e => by subst e; unfold lexL at h; omega

theorem putI_mostG (l : List Int) (n : Int) : (putI l n).length ≤ l.length + 1 := by
  unfold putI
  split
  · omega
  · simp only [List.length_append, List.length_take, List.length_drop, List.length_cons, List.length_nil]
    omega

/-- Two lists of lists come back: the second behind the first. -/
def TwoSS (L M : List (List Int)) (w : World) (e : Ending) (w' : World) : Prop :=
  ∃ v u w1, e = .returned (.tuple #[v, u]) ∧ FreshSS w.heap.size w1 v L ∧ Ext w w1 ∧ FreshSS w1.heap.size w' u M ∧ Ext w1 w'

set_option maxHeartbeats 4000000 in
set_option maxRecDepth 100000 in
theorem l6Graph_any (n : Int) (u : Value) (T : List (List RowD)) (w : World) (hu : Rowzz w u T) (hg : goodTab n T = true) :
    Calls Tryz.prog 96 #[.agg #[.int .i64 n, u]] w (TwoSS ((insts T).map pairOf) (graphP n T (insts T)) w) := by
  have H56 := Lib.hid (goodTab_both hg)
  have HG := Lib.hid hg
  have HU := Lib.hid hu
  have hx0 := Ext.alloc1 w (.cells #[.int .i64 n, u] 32)
  have b0 := attrAt_new w 32 n u
  obtain ⟨au, cu, rfl, hlu, _, _⟩ := hu
  clear hg
  go_enter Tryz.func96, Tryz.ntmps96
  go_wp2_with fail
  refine (l4Committed_any n _ T _ (HU.out.ext hx0) H56.out.1 H56.out.2).mono ?_
  rintro e W ⟨v1, rfl, f1, x1⟩
  have HB := Lib.hid (b0.ext x1)
  have XW := Lib.hid (hx0.trans x1)
  have f1' : FreshSS w.heap.size W v1 ((insts T).map pairOf) := by
    have h := f1.more hx0.size
    rw [allTo_insts] at h
    exact h
  have F1 := Lib.hid f1'
  obtain ⟨a1, k1, rfl, hl1, hcap1, hc1⟩ := f1'.intss
  have HC1 := Lib.hid hc1
  rw [pairs_len] at hl1 hcap1 ⊢
  have HSH := Lib.hid (insts_short HG.out)
  obtain ⟨m, hm⟩ : ∃ m, m = (insts T).length := ⟨_, rfl⟩
  rw [← hm] at hl1 hcap1 ⊢
  unfold maxLen at hl1
  have hI1 : Intss W (.slice a1 m k1) ((insts T).map pairOf) := by rw [hm, ← pairs_len T]; exact f1'.intss
  have I1 := Lib.hid hI1
  have HM := Lib.hid hm
  clear f1 f1' hx0 x1 b0 hc1 hm hI1
  go_wp2
  go_loopw [5, 16] (fun o i wr => ∃ j : Nat, j ≤ m ∧ i = .int .i64 j ∧ Hid (FreshSS W.heap.size wr o ((graphP n T (insts T)).take j)) ∧ Hid (Ext W wr)) (fun _ i _ => m - (intOf i).toNat)
  case atStart => exact ⟨0, Nat.zero_le _, rfl, Lib.hid (by simpa using FreshSS.nil _ _), Lib.hid (Ext.refl _)⟩
  case round =>
    obtain ⟨j, hj, rfl, HF, HX⟩ := hrel
    by_cases hlt : j < m
    · have hjl : j < (insts T).length := by rw [← HM.out]; exact hlt
      obtain ⟨bu, ou, ha1, du⟩ := HC1.out (by simp; omega)
      subst ha1
      obtain ⟨vx, hx1, ix⟩ := du j (by simp; omega)
      have ex : ((insts T).map pairOf)[j]?.getD [] = pairOf (insts T)[j] := by simp [hjl]
      rw [ex] at ix
      obtain ⟨x, hx⟩ : ∃ x, x = (insts T)[j] := ⟨_, rfl⟩
      rw [← hx] at ix
      obtain ⟨bx, ox, cx, rfl, x0, x1⟩ := pair_at ix
      have gu := HX.out.cell hx1
      have hxm : x ∈ insts T := by rw [hx]; exact List.getElem_mem hjl
      have hcx := com_row HG.out (mem_insts.1 hxm)
      obtain ⟨p, q⟩ := x
      have HXX := Lib.hid hx
      have HXM := Lib.hid hxm
      have ks : ∀ V, Ext W V → Ext W V ∧ V.cell? ⟨w.heap.size, 0, none⟩ = some (.int .i64 n) ∧ V.cell? ⟨w.heap.size, 1, none⟩ = some (.slice au T.length cu) ∧ V.cell? ⟨bx, ox, none⟩ = some (.int .i64 p) ∧ V.cell? ⟨bx, ox + 1, none⟩ = some (.int .i64 ((q : Int) + 1)) := fun V hV => ⟨hV, hV.cell HB.out.1, hV.cell HB.out.2, hV.cell x0, hV.cell x1⟩
      have KS := Lib.hid ks
      have cD : ∀ V, Ext W V → Calls Tryz.prog 137 #[.agg #[.int .i64 n, .slice au T.length cu], .int .i64 p, .int .i64 ((q : Int) + 1)] V (NewIntss ((depsL n T (p, q)).map pairOf) V) := fun V hV => l6Deps_any n _ T p q _ (HU.out.ext (XW.out.trans hV)) HG.out hcx.2.2.1 hcx.2.2.2
      have CD := Lib.hid cD
      obtain ⟨P, hP⟩ : ∃ P, P = depsL n T (p, q) := ⟨_, rfl⟩
      have HP := Lib.hid hP
      clear du hx1 ix ex x0 x1 hx hxm hcx ks cD hP
      go_wp2_with fail
      go_region_held3 (fun V => Ext W V ∧ V.cell? ⟨w.heap.size, 0, none⟩ = some (.int .i64 n) ∧ V.cell? ⟨w.heap.size, 1, none⟩ = some (.slice au T.length cu) ∧ V.cell? ⟨bx, ox, none⟩ = some (.int .i64 p) ∧ V.cell? ⟨bx, ox + 1, none⟩ = some (.int .i64 ((q : Int) + 1))) (first | (with_reducible exact KS.out _ HX.out.drew) | (with_reducible exact KS.out _ SS.out)) (first | (go_at_call 137; refine (CD.out _ (And.left (by with_reducible assumption))).mono ?_; rintro e W3 ⟨vd, rfl, fd, x3⟩; obtain ⟨ad, kd, rfl⟩ := fd.form; have SS := Lib.hid (Ext.trans (And.left (by with_reducible assumption)) x3)))
      have x3' : Ext wr W3 := Ext.trans (Ext.drew (Ext.refl _)) x3
      rw [← HP.out] at fd ⊢
      have hid := fd.intss
      have HFW := Lib.hid (HF.out.ext x3')
      have HZ3 : Hid (W.heap.size ≤ W3.heap.size) := Lib.hid SS.out.size
      obtain ⟨ad', kd', hvd, hld, hcapd, hcd⟩ := hid
      rw [List.length_map] at hld hcapd hcd hvd
      simp only [Value.slice.injEq] at hvd
      obtain ⟨rfl, _, rfl⟩ := hvd
      obtain ⟨mp, hmp⟩ : ∃ mp, mp = P.length := ⟨_, rfl⟩
      rw [← hmp] at hld hcapd ⊢
      have HMP := Lib.hid hmp
      have HCD := Lib.hid hcd
      have hmp6 : mp ≤ 1000 := by
        rw [hmp, HP.out]
        have hcx := com_row HG.out (mem_insts.1 HXM.out)
        have hpT : p < T.length := hcx.2.2.1
        have h1 := depsTo_len (r := rowOf n T p q) (x := (p, q)) (fun k => by have := dep_in HG.out hpT q k; unfold depN; omega) (rowOf n T p q).l.length
        have h2 := rowOf_list HG.out hpT q
        show (depsTo (rowOf n T p q) (p, q) (rowOf n T p q).l.length).length ≤ 1000
        omega
      clear hmp hcd fd x3 x3' HF HX hcapd hld gu
      go_wp2
      go_loopw [8, 29] (fun l i wr => ∃ (t : Nat) (ls : List Int), t ≤ mp ∧ i = .int .i64 t ∧ Hid (Got (insts T) (P.take t) ls) ∧ Hid (Fresh W3.heap.size wr l ls) ∧ Hid (ls.length ≤ t) ∧ Hid (Ext W3 wr)) (fun _ i _ => mp - (intOf i).toNat)
      case atStart => exact ⟨0, [], Nat.zero_le _, rfl, Lib.hid (Got.nil _), Lib.hid (World.ownsRow_nil _ _ _ _), Lib.hid (Nat.le_refl _), Lib.hid (Ext.refl _)⟩
      case round =>
        obtain ⟨t, ls, ht, rfl, HGT, HL, HLN, HX⟩ := hrel
        by_cases htl : t < mp
        · have htp : t < P.length := by rw [← HMP.out]; exact htl
          obtain ⟨bd, od, had, dd⟩ := HCD.out (by omega)
          subst had
          obtain ⟨vy, hy1, iy⟩ := dd t htp
          have ey : (P.map pairOf)[t]?.getD [] = pairOf P[t] := by simp [htp]
          rw [ey] at iy
          have gy := HX.out.cell hy1
          have IY := Lib.hid (iy.ext HX.out)
          obtain ⟨by_, oy, cy, rfl, _, _⟩ := pair_at iy
          have htk : P.take (t + 1) = P.take t ++ [P[t]] := by rw [List.take_add_one, List.getElem?_eq_getElem htp]; rfl
          have HTK := Lib.hid htk
          clear dd hy1 iy ey htk
          go_wp2_with fail
          refine (l6Find_any _ _ _ (pairOf P[t]) _ (I1.out.ext (SS.out.trans HX.out)) IY.out).mono ?_
          rintro e w5 ⟨r, rfl, hf, x5⟩
          have X5 := Lib.hid (HX.out.trans x5)
          have L5 := Lib.hid (HL.out.ext x5)
          clear x5 gy IY HL HX
          rcases hf with ⟨k, rfl, hk, _⟩ | ⟨rfl, hno⟩
          · have hk0 : (0 : Int) ≤ (k : Int) := by omega
            have HGN := Lib.hid (HGT.out.put (insts_nodup T) hk)
            have hln : ls.length ≤ 1048576 := by have := HLN.out; omega
            have HLN2 : Hid ((putI ls k).length ≤ t + 1) := Lib.hid (by
              have h1 := HLN.out
              have := putI_mostG ls k
              omega)
            clear hk HGT
            go_wp2_with fail
            refine (l1Put_any _ ls k _ L5.out.ints hln).mono ?_
            rintro e w6 ⟨v6, rfl, x6, hv6⟩
            have L6 : Hid (Fresh W3.heap.size w6 v6 (putI ls k)) := Lib.hid (by
              rcases hv6 with ⟨rfl, h⟩ | h
              · rw [h]; exact L5.out.ext x6
              · exact h.more X5.out.size)
            have X6 := Lib.hid (X5.out.trans x6)
            clear x6 hv6 L5 X5
            go_wp2
            go_roundw
            case rel => exact ⟨t + 1, _, by omega, by go_num, Lib.hid (by rw [HTK.out]; exact HGN.out), L6, HLN2, X6⟩
            case measure => simp [intOf]; omega
          · have HGN := Lib.hid (HGT.out.none hno)
            have HLN2 : Hid (ls.length ≤ t + 1) := Lib.hid (by have := HLN.out; omega)
            clear hno HGT
            go_wp2
            go_roundw
            case rel => exact ⟨t + 1, _, by omega, by go_num, Lib.hid (by rw [HTK.out]; exact HGN.out), L5, HLN2, X5⟩
            case measure => simp [intOf]; omega
        · obtain rfl : t = mp := by omega
          have hrow : ls = rowE n T (insts T) (p, q) (insts T).length := got_row HG.out HXM.out (by
            have h := HGT.out
            rw [HMP.out, List.take_length, HP.out] at h
            exact h)
          have hnext : (graphP n T (insts T)).take (j + 1) = (graphP n T (insts T)).take j ++ [ls] := by
            have hgj : (graphP n T (insts T))[j]? = some ls := by
              unfold graphP
              rw [List.getElem?_map, List.getElem?_eq_getElem hjl, Option.map_some, ← HXX.out, ← hrow]
            rw [List.take_add_one, hgj]
            rfl
          have HNX := Lib.hid hnext
          have hf8 := HL.out
          obtain ⟨a8, k8, hv8⟩ := hf8.form
          have HL8 := Lib.hid hf8
          subst hv8
          have hll : ((graphP n T (insts T)).take j).length ≤ 1048576 := by
            have h1 := HSH.out
            rw [List.length_take]
            omega
          have HLL := Lib.hid hll
          have HXX3 := Lib.hid HX.out
          clear hrow hnext hf8 hll HL HGT HX HLN
          go_wp2_with (at_builtin; refine wpList_pushSS rfl _ _ rfl W.heap.size _ ((graphP n T (insts T)).take j) ls W3 rfl HFW.out (HXX3.out.alloc _) _ (HL8.out.ext (Ext.alloc1 _ _)) ⟨wr.heap.size, 0, none⟩ 1 rfl (by go_simp) rfl HLL.out HZ3.out ?_)
          intro v' w' f' k'
          have FF : Hid (FreshSS W.heap.size w' v' ((graphP n T (insts T)).take (j + 1))) := Lib.hid (by rw [HNX.out]; exact f')
          have XX : Hid (Ext W w') := Lib.hid (k' W ((SS.out.trans HXX3.out).alloc _) (Nat.le_refl _))
          clear f' k' HL8 HFW
          go_wp2
          go_roundw
          case rel => exact ⟨j + 1, by omega, by go_num, FF, XX⟩
          case measure => simp [intOf]; omega
    · obtain rfl : j = m := by omega
      have hgl : (graphP n T (insts T)).length = j := by unfold graphP; rw [List.length_map]; exact HM.out.symm
      have FE : Hid (FreshSS W.heap.size wr u5 (graphP n T (insts T))) := Lib.hid (by
        have h := HF.out
        rwa [← hgl, List.take_length] at h)
      have FV := Lib.hid F1.out
      clear HF hgl
      go_wp2
      go_ret2
      refine ⟨_, _, W, rfl, ?_, XW.out, FE.out, HX.out⟩
      have h := FV.out
      rw [List.length_map, ← HM.out] at h
      exact h

end Go.Proofs.YtcpmfcigciknlaaGreat

namespace Go.Proofs.YtcpmfcigciknlaaGreat
open Go.RowKit
set_option linter.unusedVariables false

/-- Row q of list p, once all rows ahead of row j of list k have been looked at. -/
noncomputable def lesR (n : Int) (T : List (List RowD)) (k j p q : Nat) : RowD := if (p < k ∨ (p = k ∧ q < j)) ∧ readyB n T p q = false then emptyR n else rowOf n T p q
noncomputable def lesL (n : Int) (T : List (List RowD)) (k j p : Nat) : List RowD := (List.range (T[p]?.getD []).length).map (lesR n T k j p)
noncomputable def lesT (n : Int) (T : List (List RowD)) (k j : Nat) : List (List RowD) := (List.range T.length).map (lesL n T k j)
theorem lesT_len (n : Int) (T : List (List RowD)) (k j : Nat) : (lesT n T k j).length = T.length := by simp [lesT]
theorem lesT_at {n : Int} {T : List (List RowD)} {p : Nat} (hp : p < T.length) (k j : Nat) : (lesT n T k j)[p]? = some (lesL n T k j p) := by simp [lesT, hp]
theorem lesL_len {n : Int} {T : List (List RowD)} {p : Nat} (hp : p < T.length) (k j : Nat) : (lesL n T k j p).length = T[p].length := by simp [lesL, List.getElem?_eq_getElem hp]
theorem lesL_at {n : Int} {T : List (List RowD)} {p q : Nat} (hp : p < T.length) (hq : q < T[p].length) (k j : Nat) : (lesL n T k j p)[q]? = some (lesR n T k j p q) := by
  unfold lesL
  rw [List.getElem?_eq_getElem hp, Option.getD_some, List.getElem?_map, List.getElem?_range hq]
  rfl
theorem lesT_zero (n : Int) (T : List (List RowD)) : lesT n T 0 0 = T := by
  refine List.ext_getElem? fun p => ?_
  by_cases hp : p < T.length
  · rw [lesT_at hp, List.getElem?_eq_getElem hp]
    congr 1
    refine List.ext_getElem? fun q => ?_
    by_cases hq : q < T[p].length
    · rw [lesL_at hp hq, List.getElem?_eq_getElem hq]
      congr 1
      unfold lesR
      rw [if_neg (by omega), rowOf_in hp hq]
    · rw [List.getElem?_eq_none (by rw [lesL_len hp]; omega), List.getElem?_eq_none (by omega)]
  · rw [List.getElem?_eq_none (by rw [lesT_len]; omega), List.getElem?_eq_none (by omega)]
theorem lesR_eq {n : Int} {T : List (List RowD)} {k j k' j' p q : Nat} (h : (p < k ∨ (p = k ∧ q < j)) ↔ (p < k' ∨ (p = k' ∧ q < j'))) : lesR n T k j p q = lesR n T k' j' p q := by
  unfold lesR
  simp only [h]
theorem lesT_ext {n : Int} {T : List (List RowD)} {k j k' j' : Nat} (h : ∀ p q, (hp : p < T.length) → q < T[p].length → lesR n T k j p q = lesR n T k' j' p q) : lesT n T k j = lesT n T k' j' := by
  unfold lesT
  refine List.map_congr_left fun p hp => ?_
  have hp := List.mem_range.1 hp
  unfold lesL
  refine List.map_congr_left fun q hq => ?_
  have hq := List.mem_range.1 hq
  rw [List.getElem?_eq_getElem hp, Option.getD_some] at hq
  exact h p q hp hq
theorem lesT_row {n : Int} {T : List (List RowD)} {k : Nat} (hk : k < T.length) : lesT n T k T[k].length = lesT n T (k + 1) 0 :=
  lesT_ext fun p q hp hq => by
    unfold lesR
    have e : (p < k ∨ (p = k ∧ q < T[k].length)) ↔ (p < k + 1 ∨ (p = k + 1 ∧ q < 0)) := by
      constructor
      · rintro (h | ⟨h, _⟩)
        · exact .inl (by omega)
        · exact .inl (by omega)
      · rintro (h | ⟨_, h⟩)
        · by_cases e : p = k
          · subst e; exact .inr ⟨rfl, hq⟩
          · exact .inl (by omega)
        · omega
    simp only [e]
theorem lesT_all (n : Int) (T : List (List RowD)) : lesT n T T.length 0 = lessT n T := by
  unfold lesT lessT
  refine List.map_congr_left fun p hp => ?_
  have hp := List.mem_range.1 hp
  unfold lesL lessR
  refine List.map_congr_left fun q hq => ?_
  unfold lesR
  cases e : readyB n T p q with
  | true => simp
  | false => simp [hp]
theorem lesT_keep {n : Int} {T : List (List RowD)} {k j : Nat} (h : readyB n T k j = true) : lesT n T k j = lesT n T k (j + 1) :=
  lesT_ext fun p q hp hq => by
    unfold lesR
    by_cases e : p = k ∧ q = j
    · obtain ⟨rfl, rfl⟩ := e
      rw [if_neg (by rw [h]; simp), if_neg (by rw [h]; simp)]
    · have e' : (p < k ∨ (p = k ∧ q < j)) ↔ (p < k ∨ (p = k ∧ q < j + 1)) := by omega
      simp only [e']
theorem lesT_put {n : Int} {T : List (List RowD)} {k j : Nat} (hk : k < T.length) (hj : j < T[k].length) (h : readyB n T k j = false) : (lesT n T k j).set k ((lesL n T k j k).set j (emptyR n)) = lesT n T k (j + 1) := by
  refine List.ext_getElem? fun p => ?_
  by_cases hp : p < T.length
  · rw [List.getElem?_set, lesT_len, lesT_at hp, lesT_at hp]
    by_cases e : k = p
    · subst e
      rw [if_pos rfl, if_pos hk]
      congr 1
      refine List.ext_getElem? fun q => ?_
      by_cases hq : q < T[k].length
      · rw [List.getElem?_set, lesL_len hk, lesL_at hk hq, lesL_at hk hq]
        by_cases e : j = q
        · subst e
          rw [if_pos rfl, if_pos hj]
          congr 1
          unfold lesR
          rw [if_pos ⟨.inr ⟨rfl, by omega⟩, h⟩]
        · rw [if_neg e]
          congr 1
          exact lesR_eq (by omega)
      · rw [List.getElem?_eq_none (by rw [List.length_set, lesL_len hk]; omega), List.getElem?_eq_none (by rw [lesL_len hk]; omega)]
    · rw [if_neg e]
      congr 1
      unfold lesL
      refine List.map_congr_left fun q _ => ?_
      exact lesR_eq (by omega)
  · rw [List.getElem?_eq_none (by rw [List.length_set, lesT_len]; omega), List.getElem?_eq_none (by rw [lesT_len]; omega)]
/-- Is the instance found among those that are ready? -/
theorem find_ready {n : Int} {T : List (List RowD)} (p q : Nat) : findI ((readyL n T).map pairOf) (pairOf (p, q)) < 0 ↔ readyB n T p q = false := by
  have hm : pairOf (p, q) ∈ (readyL n T).map pairOf ↔ readyB n T p q = true := by
    constructor
    · intro h
      obtain ⟨y, hy, e⟩ := List.mem_map.1 h
      rw [pairOf_inj e] at hy
      exact mem_readyL.1 hy
    · intro h
      exact List.mem_map_of_mem (mem_readyL.2 h)
  unfold findI
  by_cases h : pairOf (p, q) ∈ (readyL n T).map pairOf
  · rw [if_pos h]
    have := hm.1 h
    constructor
    · intro h'; omega
    · intro h'; rw [h'] at this; cases this
  · rw [if_neg h]
    have : readyB n T p q ≠ true := fun e => h (hm.2 e)
    constructor
    · intro _; simpa using this
    · intro _; decide
end Go.Proofs.YtcpmfcigciknlaaGreat

namespace Go.Proofs.YtcpmfcigciknlaaGreat
open Go.RowKit
set_option linter.unusedVariables false

def mx (x y : Int) : Int := if x < y then y else x
theorem mx_eq (x y : Int) : (if y > x then y else x) = mx x y := rfl

theorem index5_0 (l : List Int) (W : World) : (Instr.index 229 (.agg (five l)) (.int .i64 0)).run Tryz.prog W = .ok (.int .i64 (at0 l 0)) W := by kernel_rfl
theorem index5_1 (l : List Int) (W : World) : (Instr.index 229 (.agg (five l)) (.int .i64 1)).run Tryz.prog W = .ok (.int .i64 (at0 l 1)) W := by kernel_rfl
theorem index5_2 (l : List Int) (W : World) : (Instr.index 229 (.agg (five l)) (.int .i64 2)).run Tryz.prog W = .ok (.int .i64 (at0 l 2)) W := by kernel_rfl
theorem index5_3 (l : List Int) (W : World) : (Instr.index 229 (.agg (five l)) (.int .i64 3)).run Tryz.prog W = .ok (.int .i64 (at0 l 3)) W := by kernel_rfl
theorem index5_4 (l : List Int) (W : World) : (Instr.index 229 (.agg (five l)) (.int .i64 4)).run Tryz.prog W = .ok (.int .i64 (at0 l 4)) W := by kernel_rfl

/-- After j numbers. -/
def mixed (d l : List Int) (j i : Nat) : Int := if i < j then mx (at0 d i) (at0 l i) else at0 d i
def MixAt (w : World) (b : Nat) (d l : List Int) (j : Nat) : Prop := FiveAt w b (mixed d l j 0) (mixed d l j 1) (mixed d l j 2) (mixed d l j 3) (mixed d l j 4)

def sOf (s0 s1 : Int) (k : Nat) : Int := if k = 0 then 0 else if k = 1 then mx 0 s0 else mx (mx 0 s0) s1
def dOf (l0 l1 : List Int) (k : Nat) : List Int := (List.range 5).map fun i => if k = 0 then 0 else if k = 1 then mx 0 (at0 l0 i) else mx (mx 0 (at0 l0 i)) (at0 l1 i)
theorem FiveAt.ext {w w' : World} {b : Nat} {x0 x1 x2 x3 x4 : Int} (h : FiveAt w b x0 x1 x2 x3 x4) (e : Ext w w') : FiveAt w' b x0 x1 x2 x3 x4 := e.block h
theorem five_cases {j : Nat} (h : j < 5) : j = 0 ∨ j = 1 ∨ j = 2 ∨ j = 3 ∨ j = 4 := by omega
theorem index5 (l : List Int) (j : Nat) (h : j < 5) (W : World) : (Instr.index 229 (.agg (five l)) (.int .i64 j)).run Tryz.prog W = .ok (.int .i64 (at0 l j)) W := by
  rcases five_cases h with rfl | rfl | rfl | rfl | rfl
  · exact index5_0 l W
  · exact index5_1 l W
  · exact index5_2 l W
  · exact index5_3 l W
  · exact index5_4 l W
theorem mix_cell {w : World} {b : Nat} {d l : List Int} {j : Nat} (h : MixAt w b d l j) (hj : j < 5) : w.cell? ⟨b, j, none⟩ = some (.int .i64 (at0 d j)) := by
  rw [cell_of_row w b j _ _ _ h]
  rcases five_cases hj with rfl | rfl | rfl | rfl | rfl <;> simp [mixed]
theorem mix_free {w : World} {b : Nat} {d l : List Int} {j : Nat} (h : MixAt w b d l j) (i : Nat) : w.frozen? ⟨b, i, none⟩ = false := frozen_of_row w b i _ _ h
theorem mix_store {w : World} {b : Nat} {d l : List Int} {j : Nat} (h : MixAt w b d l j) (hj : j < 5) : MixAt (w.setCell ⟨b, j, none⟩ (.int .i64 (mx (at0 d j) (at0 l j)))) b d l (j + 1) := by
  have hs := heap_setCell_same w b j _ _ (.int .i64 (mx (at0 d j) (at0 l j))) h
  unfold MixAt FiveAt
  rw [hs]
  rcases five_cases hj with rfl | rfl | rfl | rfl | rfl <;> simp [mixed]
theorem mix_all0 {w : World} {b : Nat} {l0 l1 : List Int} (h : MixAt w b (dOf l0 l1 0) l0 5) : FiveAt w b (at0 (dOf l0 l1 1) 0) (at0 (dOf l0 l1 1) 1) (at0 (dOf l0 l1 1) 2) (at0 (dOf l0 l1 1) 3) (at0 (dOf l0 l1 1) 4) := h
theorem mix_all1 {w : World} {b : Nat} {l0 l1 : List Int} (h : MixAt w b (dOf l0 l1 1) l1 5) : FiveAt w b (at0 (dOf l0 l1 2) 0) (at0 (dOf l0 l1 2) 1) (at0 (dOf l0 l1 2) 2) (at0 (dOf l0 l1 2) 3) (at0 (dOf l0 l1 2) 4) := h
theorem mix_zero {w : World} {b : Nat} {d l : List Int} (h : FiveAt w b (at0 d 0) (at0 d 1) (at0 d 2) (at0 d 3) (at0 d 4)) : MixAt w b d l 0 := by
  unfold MixAt; simpa [mixed] using h

/-- The attributes lie side by side in a block. -/
def TwoAt (w : World) (b : Nat) (s0 : Int) (u0 : Value) (s1 : Int) (u1 : Value) : Prop :=
  w.cell? ⟨b, 0, none⟩ = some (.int .i64 s0) ∧ w.cell? ⟨b, 1, none⟩ = some u0 ∧ w.cell? ⟨b, 2, none⟩ = some (.int .i64 s1) ∧ w.cell? ⟨b, 3, none⟩ = some u1


set_option maxRecDepth 100000 in
set_option maxHeartbeats 4000000 in
theorem joinAttrs_two (n : Int) (hn : isGrp n = true) (ab : Nat) (s0 s1 : Int) (u0 u1 : Value) (l0 l1 : List Int) (w : World) (h0 : Ints w u0 l0) (h1 : Ints w u1 l1) (hA : TwoAt w ab s0 u0 s1 u1) :
    Calls Tryz.prog 119 #[.int .i64 n, .slice (some ⟨ab, 0, none⟩) 2 2] w (NewAttr (sOf s0 s1 2) ((dOf l0 l1 2).take n.toNat) w) := by
  have HN := Lib.hid hn
  have HA := Lib.hid hA
  have H0 := Lib.hid h0
  have H1 := Lib.hid h1
  obtain ⟨a0, k0, rfl, _⟩ := h0
  obtain ⟨a1, k1, rfl, _⟩ := h1
  have hlt : ab < w.heap.size := World.block_lt_of_cell? w _ hA.1
  have hmax : ∀ (ts : Array TypeId) (T : TypeId) (W : World) (x y : Int), (Builtin.max_ ts T #[.int .i64 x, .int .i64 y]).run Tryz.prog W = .ok (.int .i64 (mx x y)) W := fun ts T W x y => by simp only [run_max_int2]; rfl
  clear hn hA
  go_enter Tryz.func119, Tryz.ntmps119
  go_wp2
  go_loopw [5, 13] (fun s i wr => ∃ k : Nat, k ≤ 2 ∧ i = .int .i64 k ∧ s = .int .i64 (sOf s0 s1 k) ∧ Hid (FiveAt wr (w.heap.size + 1) (at0 (dOf l0 l1 k) 0) (at0 (dOf l0 l1 k) 1) (at0 (dOf l0 l1 k) 2) (at0 (dOf l0 l1 k) 3) (at0 (dOf l0 l1 k) 4)) ∧ OpenAt wr w.heap.size 0 (.slice none 0 0) ∧ Ext w wr) (fun _ i _ => 2 - (intOf i).toNat)
  case atStart => exact ⟨0, by omega, rfl, rfl, Lib.hid (by
    have hf := fiveAt_new (w.alloc (.cells #[.int .i64 0, .slice none 0 0] 81)) 0 0 0 0 0
    rw [World.size_alloc] at hf
    simpa [dOf, at0] using hf), open_next _ _ _ _ _, Ext.alloc2 _ _ _⟩
  case round =>
    obtain ⟨k, hk, rfl, rfl, hF, hO, hx⟩ := hrel
    have hk' : k = 0 ∨ k = 1 ∨ k = 2 := by omega
    rcases hk' with rfl | rfl | rfl
    · have HO := Lib.hid (hO.ext (Ext.alloc (Ext.refl _) (.cells #[.int .i64 s0, .slice a0 l0.length k0] 81)))
      have HF := Lib.hid (hF.out.ext (Ext.alloc (Ext.refl _) (.cells #[.int .i64 s0, .slice a0 l0.length k0] 81)))
      have HX := Lib.hid (hx.alloc (.cells #[.int .i64 s0, .slice a0 l0.length k0] 81))
      obtain ⟨g0, g1, -, -⟩ := HA.out
      have g0 := hx.cell g0
      have g1 := hx.cell g1
      clear hO hF hx
      go_wp2_with fail
      refine (depsIn_any _ l0 _ (H0.out.ext HX.out)).mono ?_
      rintro e W1 ⟨rfl, x1⟩
      have O1 := Lib.hid (HO.out.ext x1)
      have F1 := Lib.hid (mix_zero (l := l0) (HF.out.ext x1))
      have X1 := Lib.hid (HX.out.trans x1)
      have hidx := index5 l0
      clear x1 g0 g1
      go_wp2
      go_loopw [24] (fun i W => ∃ j : Nat, j ≤ 5 ∧ i = .int .i64 j ∧ Hid (MixAt W (w.heap.size + 1) (dOf l0 l1 0) l0 j) ∧ OpenAt W w.heap.size 0 (.slice none 0 0) ∧ Ext w W) (fun i _ => 5 - (intOf i).toNat)
      case atStart => exact ⟨0, by omega, rfl, F1, O1.out, X1.out⟩
      case round =>
        obtain ⟨j, hj, rfl, hM, hO2, hx2⟩ := hrel
        by_cases hlt5 : j < 5
        · have gD := mix_cell hM.out hlt5
          have gF := mix_free hM.out j
          have hi := hidx j hlt5
          clear hidx
          go_wp2
          go_roundw
          case rel => exact ⟨j + 1, by omega, by go_num, Lib.hid (mix_store hM.out hlt5), by
            obtain ⟨⟨a, b⟩, c, d⟩ := hO2
            refine ⟨⟨?_, ?_⟩, ?_, ?_⟩ <;> go_simp, hx2.setc (Nat.le_succ _)⟩
          case measure => simp [intOf]; omega
        · obtain rfl : j = 5 := by omega
          have HF2 := Lib.hid (mix_all0 hM.out)
          clear hidx
          go_wp2
          go_roundw
          case rel => exact ⟨1, by omega, rfl, rfl, HF2, hO2, hx2⟩
          case measure => simp [intOf]
    · have HO := Lib.hid (hO.ext (Ext.alloc (Ext.refl _) (.cells #[.int .i64 s1, .slice a1 l1.length k1] 81)))
      have HF := Lib.hid (hF.out.ext (Ext.alloc (Ext.refl _) (.cells #[.int .i64 s1, .slice a1 l1.length k1] 81)))
      have HX := Lib.hid (hx.alloc (.cells #[.int .i64 s1, .slice a1 l1.length k1] 81))
      obtain ⟨-, -, g0, g1⟩ := HA.out
      have g0 := hx.cell g0
      have g1 := hx.cell g1
      clear hO hF hx
      go_wp2_with fail
      refine (depsIn_any _ l1 _ (H1.out.ext HX.out)).mono ?_
      rintro e W1 ⟨rfl, x1⟩
      have O1 := Lib.hid (HO.out.ext x1)
      have F1 := Lib.hid (mix_zero (l := l1) (HF.out.ext x1))
      have X1 := Lib.hid (HX.out.trans x1)
      have hidx := index5 l1
      clear x1 g0 g1
      go_wp2
      go_loopw [24] (fun i W => ∃ j : Nat, j ≤ 5 ∧ i = .int .i64 j ∧ Hid (MixAt W (w.heap.size + 1) (dOf l0 l1 1) l1 j) ∧ OpenAt W w.heap.size 0 (.slice none 0 0) ∧ Ext w W) (fun i _ => 5 - (intOf i).toNat)
      case atStart => exact ⟨0, by omega, rfl, F1, O1.out, X1.out⟩
      case round =>
        obtain ⟨j, hj, rfl, hM, hO2, hx2⟩ := hrel
        by_cases hlt5 : j < 5
        · have gD := mix_cell hM.out hlt5
          have gF := mix_free hM.out j
          have hi := hidx j hlt5
          clear hidx
          go_wp2
          go_roundw
          case rel => exact ⟨j + 1, by omega, by go_num, Lib.hid (mix_store hM.out hlt5), by
            obtain ⟨⟨a, b⟩, c, d⟩ := hO2
            refine ⟨⟨?_, ?_⟩, ?_, ?_⟩ <;> go_simp, hx2.setc (Nat.le_succ _)⟩
          case measure => simp [intOf]; omega
        · obtain rfl : j = 5 := by omega
          have HF2 := Lib.hid (mix_all1 hM.out)
          clear hidx
          go_wp2
          go_roundw
          case rel => exact ⟨2, by omega, rfl, rfl, HF2, hO2, hx2⟩
          case measure => simp [intOf]
    · have HI := Lib.hid (five_ints hF.out)
      obtain ⟨⟨c0, c1⟩, z0, z1⟩ := hO
      have HO := Lib.hid (show OpenAt wr w.heap.size 0 (.slice none 0 0) from ⟨⟨c0, c1⟩, z0, z1⟩)
      have hD : w.heap.size + 1 < wr.heap.size := (Array.getElem?_eq_some_iff.1 hF.out).1
      rcases isGrp_of HN.out with rfl | rfl
      · have hT : List.take (3 : Int).toNat (dOf l0 l1 2) = [at0 (dOf l0 l1 2) 0, at0 (dOf l0 l1 2) 1, at0 (dOf l0 l1 2) 2] := rfl
        obtain ⟨x0, hx0⟩ : ∃ x, x = at0 (dOf l0 l1 2) 0 := ⟨_, rfl⟩
        obtain ⟨x1, hx1⟩ : ∃ x, x = at0 (dOf l0 l1 2) 1 := ⟨_, rfl⟩
        obtain ⟨x2, hx2⟩ : ∃ x, x = at0 (dOf l0 l1 2) 2 := ⟨_, rfl⟩
        have hI3 := HI.out 3 (by omega)
        rw [← hx0, ← hx1, ← hx2] at hI3 hT
        have HT := Lib.hid hT
        have HI3 := Lib.hid hI3
        clear hF hT hx0 hx1 hx2 hI3 c0 c1 z0 z1
        go_wp2_with fail
        refine (clone_any ⟨w.heap.size + 1, 0, none⟩ 5 [x0, x1, x2] _ HI3.out (by simp)).mono ?_
        rintro e W1 ⟨v, rfl, f1, y1⟩
        obtain ⟨av, cv, rfl⟩ := f1.form
        obtain ⟨⟨c0, c1⟩, z0, z1⟩ := HO.out.ext y1
        have hy := hx.trans y1
        have F := Lib.hid f1
        clear f1 y1
        go_wp2
        refine bodyPost_ret (v := .agg #[.int .i64 (sOf s0 s1 2), .slice av 3 cv]) (by simp [results, Tryz.results119, go_sem, c0, c1]) rfl ⟨_, rfl, ?_, (hy.setc (Nat.le_refl _)).setc (Nat.le_refl _)⟩
        have hB : w.heap.size < wr.heap.size := by omega
        have F2 := (F.out.set w.heap.size 0 (.int .i64 (sOf s0 s1 2)) hB).set w.heap.size 1 (.slice av 3 cv) hB
        rw [HT.out]
        exact F2.more (Nat.le_of_lt hB)
      · have hT : List.take (5 : Int).toNat (dOf l0 l1 2) = [at0 (dOf l0 l1 2) 0, at0 (dOf l0 l1 2) 1, at0 (dOf l0 l1 2) 2, at0 (dOf l0 l1 2) 3, at0 (dOf l0 l1 2) 4] := rfl
        obtain ⟨x0, hx0⟩ : ∃ x, x = at0 (dOf l0 l1 2) 0 := ⟨_, rfl⟩
        obtain ⟨x1, hx1⟩ : ∃ x, x = at0 (dOf l0 l1 2) 1 := ⟨_, rfl⟩
        obtain ⟨x2, hx2⟩ : ∃ x, x = at0 (dOf l0 l1 2) 2 := ⟨_, rfl⟩
        obtain ⟨x3, hx3⟩ : ∃ x, x = at0 (dOf l0 l1 2) 3 := ⟨_, rfl⟩
        obtain ⟨x4, hx4⟩ : ∃ x, x = at0 (dOf l0 l1 2) 4 := ⟨_, rfl⟩
        have hI3 := HI.out 5 (by omega)
        rw [← hx0, ← hx1, ← hx2, ← hx3, ← hx4] at hI3 hT
        have HT := Lib.hid hT
        have HI3 := Lib.hid hI3
        clear hF hT hx0 hx1 hx2 hx3 hx4 hI3 c0 c1 z0 z1
        go_wp2_with fail
        refine (clone_any ⟨w.heap.size + 1, 0, none⟩ 5 [x0, x1, x2, x3, x4] _ HI3.out (by simp)).mono ?_
        rintro e W1 ⟨v, rfl, f1, y1⟩
        obtain ⟨av, cv, rfl⟩ := f1.form
        obtain ⟨⟨c0, c1⟩, z0, z1⟩ := HO.out.ext y1
        have hy := hx.trans y1
        have F := Lib.hid f1
        clear f1 y1
        go_wp2
        refine bodyPost_ret (v := .agg #[.int .i64 (sOf s0 s1 2), .slice av 5 cv]) (by simp [results, Tryz.results119, go_sem, c0, c1]) rfl ⟨_, rfl, ?_, (hy.setc (Nat.le_refl _)).setc (Nat.le_refl _)⟩
        have hB : w.heap.size < wr.heap.size := by omega
        have F2 := (F.out.set w.heap.size 0 (.int .i64 (sOf s0 s1 2)) hB).set w.heap.size 1 (.slice av 5 cv) hB
        rw [HT.out]
        exact F2.more (Nat.le_of_lt hB)

end Go.Proofs.YtcpmfcigciknlaaGreat

namespace Go.Proofs.YtcpmfcigciknlaaGreat
open Go.RowKit
set_option linter.unusedVariables false

/-- v is a slice that reads as the attributes A in w. -/
def Attrs (w : World) (v : Value) (A : List (Int × List Int)) : Prop :=
  ∃ ao cap, v = .slice ao A.length cap ∧ A.length ≤ maxLen ∧ (A.length ≤ cap ∧ cap ≤ maxLen ∧ (ao = none → cap = 0)) ∧
    (0 < A.length → ∃ b off, ao = some ⟨b, off, none⟩ ∧ ∀ j (h : j < A.length), ∃ u, w.cell? ⟨b, off + j * 2, none⟩ = some (.int .i64 A[j].1) ∧ w.cell? ⟨b, off + j * 2 + 1, none⟩ = some u ∧ Ints w u A[j].2)
theorem Attrs.ext {w w' : World} {v : Value} {A : List (Int × List Int)} (h : Attrs w v A) (e : Ext w w') : Attrs w' v A := by
  obtain ⟨ao, cap, hv, hm, hcap, hc⟩ := h
  refine ⟨ao, cap, hv, hm, hcap, fun hp => ?_⟩
  obtain ⟨b, off, ha, hc⟩ := hc hp
  refine ⟨b, off, ha, fun j hj => ?_⟩
  obtain ⟨u, h1, h2, h3⟩ := hc j hj
  exact ⟨u, e.cell h1, e.cell h2, h3.ext e⟩
/-- The greatest Seq of the first k, and what they hang on. -/
def sN (A : List (Int × List Int)) (k : Nat) : Int := (A.take k).foldl (fun s x => mx s x.1) 0
def dStep (d l : List Int) : List Int := (List.range 5).map fun i => mx (at0 d i) (at0 l i)
def dN (A : List (Int × List Int)) (k : Nat) : List Int := (A.take k).foldl (fun d x => dStep d x.2) [0, 0, 0, 0, 0]
theorem sN_succ {A : List (Int × List Int)} {k : Nat} (h : k < A.length) : sN A (k + 1) = mx (sN A k) A[k].1 := by
  unfold sN
  rw [List.take_succ_eq_append_getElem h, List.foldl_append]
  rfl
theorem dN_succ {A : List (Int × List Int)} {k : Nat} (h : k < A.length) : dN A (k + 1) = dStep (dN A k) A[k].2 := by
  unfold dN
  rw [List.take_succ_eq_append_getElem h, List.foldl_append]
  rfl
theorem mix_step {w : World} {b : Nat} {d l : List Int} (h : MixAt w b d l 5) : FiveAt w b (at0 (dStep d l) 0) (at0 (dStep d l) 1) (at0 (dStep d l) 2) (at0 (dStep d l) 3) (at0 (dStep d l) 4) := h
theorem dN_len (A : List (Int × List Int)) (k : Nat) : (dN A k).length = 5 := by
  induction k with
  | zero => rfl
  | succ k ih =>
    by_cases h : k < A.length
    · rw [dN_succ h]; simp [dStep]
    · unfold dN at ih ⊢
      rw [List.take_of_length_le (by omega)]
      rw [List.take_of_length_le (by omega)] at ih
      exact ih
theorem take5 {d : List Int} (h : d.length = 5) : d = [at0 d 0, at0 d 1, at0 d 2, at0 d 3, at0 d 4] := by
  match d, h with
  | [a, b, c, e, f], _ => rfl

set_option maxRecDepth 100000 in
set_option maxHeartbeats 4000000 in
theorem joinAttrs_any (n : Int) (hn : isGrp n = true) (v : Value) (A : List (Int × List Int)) (w : World) (hv : Attrs w v A) :
    Calls Tryz.prog 119 #[.int .i64 n, v] w (NewAttr (sN A A.length) ((dN A A.length).take n.toNat) w) := by
  have HN := Lib.hid hn
  obtain ⟨av, cv, rfl, hlv, _, hcv⟩ := hv
  unfold maxLen at hlv
  have HCV := Lib.hid hcv
  have hmax : ∀ (ts : Array TypeId) (T : TypeId) (W : World) (x y : Int), (Builtin.max_ ts T #[.int .i64 x, .int .i64 y]).run Tryz.prog W = .ok (.int .i64 (mx x y)) W := fun ts T W x y => by simp only [run_max_int2]; rfl
  clear hn hcv
  go_enter Tryz.func119, Tryz.ntmps119
  go_wp2
  go_loopw [5, 13] (fun s i wr => ∃ k : Nat, k ≤ A.length ∧ i = .int .i64 k ∧ s = .int .i64 (sN A k) ∧ Hid (FiveAt wr (w.heap.size + 1) (at0 (dN A k) 0) (at0 (dN A k) 1) (at0 (dN A k) 2) (at0 (dN A k) 3) (at0 (dN A k) 4)) ∧ OpenAt wr w.heap.size 0 (.slice none 0 0) ∧ Ext w wr) (fun _ i _ => A.length - (intOf i).toNat)
  case atStart => exact ⟨0, by omega, rfl, rfl, Lib.hid (by
    have hf := fiveAt_new (w.alloc (.cells #[.int .i64 0, .slice none 0 0] 81)) 0 0 0 0 0
    rw [World.size_alloc] at hf
    simpa [dN, at0] using hf), open_next _ _ _ _ _, Ext.alloc2 _ _ _⟩
  case round =>
    obtain ⟨k, hk, rfl, rfl, hF, hO, hx⟩ := hrel
    by_cases hlt : k < A.length
    · obtain ⟨b, off, rfl, dv⟩ := HCV.out (by omega)
      obtain ⟨x, hxx⟩ : ∃ x, x = A[k] := ⟨_, rfl⟩
      obtain ⟨u, g0, g1, iu⟩ := dv k hlt
      rw [← hxx] at g0 iu
      have HS : Hid (sN A (k + 1) = mx (sN A k) x.1) := Lib.hid (by rw [hxx]; exact sN_succ hlt)
      have HD : Hid (dN A (k + 1) = dStep (dN A k) x.2) := Lib.hid (by rw [hxx]; exact dN_succ hlt)
      have IU := Lib.hid iu
      obtain ⟨au, cu, rfl, hlu, _, _⟩ := iu
      have HO := Lib.hid (hO.ext (Ext.alloc (Ext.refl _) (.cells #[.int .i64 x.1, .slice au x.2.length cu] 81)))
      have HF := Lib.hid (hF.out.ext (Ext.alloc (Ext.refl _) (.cells #[.int .i64 x.1, .slice au x.2.length cu] 81)))
      have HX := Lib.hid (hx.alloc (.cells #[.int .i64 x.1, .slice au x.2.length cu] 81))
      have g0 := hx.cell g0
      have g1 := hx.cell g1
      have hsz : b < wr.heap.size := World.block_lt_of_cell? wr _ g0
      clear hO hF hx dv hxx hlu
      go_wp2_with fail
      refine (depsIn_any _ x.2 _ (IU.out.ext HX.out)).mono ?_
      rintro e W1 ⟨rfl, x1⟩
      have O1 := Lib.hid (HO.out.ext x1)
      have F1 := Lib.hid (mix_zero (l := x.2) (HF.out.ext x1))
      have X1 := Lib.hid (HX.out.trans x1)
      have hidx := index5 x.2
      obtain ⟨D, hD⟩ : ∃ D, D = dN A k := ⟨_, rfl⟩
      rw [← hD] at F1 HD
      clear x1 g0 g1 hsz hD
      go_wp2
      go_loopw [24] (fun i W => ∃ j : Nat, j ≤ 5 ∧ i = .int .i64 j ∧ Hid (MixAt W (w.heap.size + 1) D x.2 j) ∧ OpenAt W w.heap.size 0 (.slice none 0 0) ∧ Ext w W) (fun i _ => 5 - (intOf i).toNat)
      case atStart => exact ⟨0, by omega, rfl, F1, O1.out, X1.out⟩
      case round =>
        obtain ⟨j, hj, rfl, hM, hO2, hx2⟩ := hrel
        by_cases hlt5 : j < 5
        · have gD := mix_cell hM.out hlt5
          have gF := mix_free hM.out j
          have hi := hidx j hlt5
          clear hidx
          go_wp2
          go_roundw
          case rel => exact ⟨j + 1, by omega, by go_num, Lib.hid (mix_store hM.out hlt5), by
            obtain ⟨⟨a, b⟩, c, d⟩ := hO2
            refine ⟨⟨?_, ?_⟩, ?_, ?_⟩ <;> go_simp, hx2.setc (Nat.le_succ _)⟩
          case measure => simp [intOf]; omega
        · obtain rfl : j = 5 := by omega
          have HF2 := mix_step hM.out
          rw [← HD.out] at HF2
          have HF2 := Lib.hid HF2
          clear hidx
          go_wp2
          go_roundw
          case rel => exact ⟨k + 1, by omega, by go_num, by rw [HS.out], HF2, hO2, hx2⟩
          case measure => simp [intOf]; omega
    · obtain rfl : k = A.length := by omega
      have HI := Lib.hid (five_ints hF.out)
      obtain ⟨⟨c0, c1⟩, z0, z1⟩ := hO
      have HO := Lib.hid (show OpenAt wr w.heap.size 0 (.slice none 0 0) from ⟨⟨c0, c1⟩, z0, z1⟩)
      have hD : w.heap.size + 1 < wr.heap.size := (Array.getElem?_eq_some_iff.1 hF.out).1
      obtain ⟨S, hS⟩ : ∃ S, S = sN A A.length := ⟨_, rfl⟩
      obtain ⟨D, hDD⟩ : ∃ D, D = dN A A.length := ⟨_, rfl⟩
      have hD5 : D = [at0 D 0, at0 D 1, at0 D 2, at0 D 3, at0 D 4] := take5 (by rw [hDD]; exact dN_len _ _)
      have HS0 := Lib.hid hS
      have HD0 := Lib.hid hDD
      rw [← hS]
      rw [← hDD] at HI hF
      rcases isGrp_of HN.out with rfl | rfl
      · have hT : List.take (3 : Int).toNat D = [at0 D 0, at0 D 1, at0 D 2] := by rw [hD5]; rfl
        obtain ⟨x0, hx0⟩ : ∃ x, x = at0 D 0 := ⟨_, rfl⟩
        obtain ⟨x1, hx1⟩ : ∃ x, x = at0 D 1 := ⟨_, rfl⟩
        obtain ⟨x2, hx2⟩ : ∃ x, x = at0 D 2 := ⟨_, rfl⟩
        have hI3 := HI.out 3 (by omega)
        rw [← hx0, ← hx1, ← hx2] at hI3 hT
        have HT := Lib.hid hT
        have HI3 := Lib.hid hI3
        clear hF hT hx0 hx1 hx2 hI3 c0 c1 z0 z1 hS hDD hD5
        go_wp2_with fail
        refine (clone_any ⟨w.heap.size + 1, 0, none⟩ 5 [x0, x1, x2] _ HI3.out (by simp)).mono ?_
        rintro e W1 ⟨v, rfl, f1, y1⟩
        obtain ⟨av, cv, rfl⟩ := f1.form
        obtain ⟨⟨c0, c1⟩, z0, z1⟩ := HO.out.ext y1
        have hy := hx.trans y1
        have F := Lib.hid f1
        clear f1 y1
        go_wp2
        refine bodyPost_ret (v := .agg #[.int .i64 S, .slice av 3 cv]) (by simp [results, Tryz.results119, go_sem, c0, c1]) rfl ⟨_, by rw [HS0.out], ?_, (hy.setc (Nat.le_refl _)).setc (Nat.le_refl _)⟩
        have hB : w.heap.size < wr.heap.size := by omega
        have F2 := (F.out.set w.heap.size 0 (.int .i64 S) hB).set w.heap.size 1 (.slice av 3 cv) hB
        rw [← HD0.out, HT.out]
        exact F2.more (Nat.le_of_lt hB)
      · have hT : List.take (5 : Int).toNat D = [at0 D 0, at0 D 1, at0 D 2, at0 D 3, at0 D 4] := by rw [hD5]; rfl
        obtain ⟨x0, hx0⟩ : ∃ x, x = at0 D 0 := ⟨_, rfl⟩
        obtain ⟨x1, hx1⟩ : ∃ x, x = at0 D 1 := ⟨_, rfl⟩
        obtain ⟨x2, hx2⟩ : ∃ x, x = at0 D 2 := ⟨_, rfl⟩
        obtain ⟨x3, hx3⟩ : ∃ x, x = at0 D 3 := ⟨_, rfl⟩
        obtain ⟨x4, hx4⟩ : ∃ x, x = at0 D 4 := ⟨_, rfl⟩
        have hI3 := HI.out 5 (by omega)
        rw [← hx0, ← hx1, ← hx2, ← hx3, ← hx4] at hI3 hT
        have HT := Lib.hid hT
        have HI3 := Lib.hid hI3
        clear hF hT hx0 hx1 hx2 hx3 hx4 hI3 c0 c1 z0 z1 hS hDD hD5
        go_wp2_with fail
        refine (clone_any ⟨w.heap.size + 1, 0, none⟩ 5 [x0, x1, x2, x3, x4] _ HI3.out (by simp)).mono ?_
        rintro e W1 ⟨v, rfl, f1, y1⟩
        obtain ⟨av, cv, rfl⟩ := f1.form
        obtain ⟨⟨c0, c1⟩, z0, z1⟩ := HO.out.ext y1
        have hy := hx.trans y1
        have F := Lib.hid f1
        clear f1 y1
        go_wp2
        refine bodyPost_ret (v := .agg #[.int .i64 S, .slice av 5 cv]) (by simp [results, Tryz.results119, go_sem, c0, c1]) rfl ⟨_, by rw [HS0.out], ?_, (hy.setc (Nat.le_refl _)).setc (Nat.le_refl _)⟩
        have hB : w.heap.size < wr.heap.size := by omega
        have F2 := (F.out.set w.heap.size 0 (.int .i64 S) hB).set w.heap.size 1 (.slice av 5 cv) hB
        rw [← HD0.out, HT.out]
        exact F2.more (Nat.le_of_lt hB)

end Go.Proofs.YtcpmfcigciknlaaGreat

namespace Go.Proofs.YtcpmfcigciknlaaGreat
open Go.RowKit
set_option linter.unusedVariables false

/-- The cells of a list of structs. -/
def flatC {α : Type} (cells : α → List Value) (L : List α) : List Value := L.flatMap cells
theorem flatC_len {α : Type} {cells : α → List Value} {n : Nat} (h : ∀ x, (cells x).length = n) (L : List α) : (flatC cells L).length = L.length * n := by
  unfold flatC
  induction L with
  | nil => simp
  | cons x t ih => rw [List.flatMap_cons, List.length_append, ih, h, List.length_cons, Nat.add_mul]; omega
theorem flatC_at {α : Type} {cells : α → List Value} {n : Nat} (h : ∀ x, (cells x).length = n) {L : List α} {j i : Nat} (hj : j < L.length) (hi : i < n) : (flatC cells L)[j * n + i]? = (cells L[j])[i]? := by
  induction L generalizing j with
  | nil => simp at hj
  | cons x t ih =>
    unfold flatC
    rw [List.flatMap_cons]
    cases j with
    | zero =>
      rw [List.getElem?_append_left (by rw [h]; omega)]
      simp
    | succ j =>
      have h' : j < t.length := by simpa using hj
      have e1 : (j + 1) * n + i = (cells x).length + (j * n + i) := by rw [h, Nat.add_mul]; omega
      rw [e1, List.getElem?_append_right (by omega), Nat.add_sub_cancel_left]
      have := ih h'
      unfold flatC at this
      rw [this]
      simp

/-! ### Rows -/
def cellsR (x : RowD × Value) : List Value := [.int .i64 x.1.b, .int .i64 x.1.v, .int .i64 x.1.st, .int .i64 x.1.k, .int .i64 x.1.i, .int .i64 x.1.f, .int .i64 x.1.t, .int .i64 x.1.a, .int .i64 x.1.s, x.2]
theorem cellsR_len (x : RowD × Value) : (cellsR x).length = 10 := rfl
/-- v is a slice of rows of a block that was made from block number B on. -/
def FreshZ (B : Nat) (w : World) (v : Value) (P : List (RowD × Value)) : Prop := w.ownsRow B 83 10 v P.length (flatC cellsR P)
theorem FreshZ.nil (B : Nat) (w : World) : FreshZ B w (.slice none 0 0) [] := ⟨rfl, .inl ⟨rfl, rfl⟩⟩
theorem FreshZ.ext {B : Nat} {w w' : World} {v : Value} {P : List (RowD × Value)} (h : FreshZ B w v P) (e : Ext w w') : FreshZ B w' v P := e.ownsRow h
theorem FreshZ.rowz {B : Nat} {w : World} {v : Value} {P : List (RowD × Value)} (h : FreshZ B w v P) (hi : ∀ x ∈ P, Ints w x.2 x.1.l) : Rowz w v (P.map Prod.fst) := by
  rcases h.2 with ⟨rfl, hn⟩ | ⟨g, cap, cur, rfl, hb, hg, hnc, hcm, hcs, htake⟩
  · obtain rfl : P = [] := List.eq_nil_of_length_eq_zero hn
    exact Rowz.nil w
  · refine ⟨some ⟨g, 0, none⟩, cap, by simp, by simp; omega, ⟨by simp; omega, by omega, fun h => by cases h⟩, fun _ => ⟨g, 0, rfl, fun j hj => ?_⟩⟩
    have hj' : j < P.length := by simpa using hj
    have e : (P.map Prod.fst)[j] = P[j].1 := by simp
    rw [e]
    have hc : ∀ i, i < 10 → w.cell? ⟨g, j * 10 + i, none⟩ = (cellsR P[j])[i]? := fun i hi' => by
      rw [World.ownsRow.cellAt h (j * 10 + i) (by omega), flatC_at cellsR_len hj' hi']
    refine ⟨P[j].2, ?_, hi _ (List.getElem_mem hj')⟩
    rw [Nat.zero_add]
    exact ⟨hc 0 (by omega), hc 1 (by omega), hc 2 (by omega), hc 3 (by omega), hc 4 (by omega), hc 5 (by omega), hc 6 (by omega), hc 7 (by omega), hc 8 (by omega), hc 9 (by omega)⟩
theorem Tryz.infoRowP : (Tryz.prog.info? 83).map (fun i => (i.zero, i.size, i.bytes)) = some (some (.agg #[.int .i64 0, .int .i64 0, .int .i64 0, .int .i64 0, .int .i64 0, .int .i64 0, .int .i64 0, .int .i64 0, .int .i64 0, .slice none 0 0]), 10, 96) := by kernel_rfl
/-- append(s, r), s of the call's own. -/
theorem wpList_pushR {ops : Array Oper} {rest : List Oper} {o : Oper} {a : Act} {Q : Exit → Act → World → Prop} {w : World} (hgd : o.guard = none) (s x : Operand)
    (ho : o.op = .call { callee := .builtin .append, args := #[s, x], argTypes := #[117, 117] })
    (B : Nat) (v : Value) (P : List (RowD × Value)) (r : RowD) (ya : Option Addr) (yn yc : Nat) (hs : a.eval s = v) (hf : FreshZ B w v P) (g : Nat) (c : Nat) (hx : a.eval x = .slice (some ⟨g, 0, none⟩) 1 c)
    (hr : RowIn w g 0 r (.slice ya yn yc)) (hl : P.length ≤ 1048576) (hB : B ≤ w.heap.size)
    (h : ∀ v' w', FreshZ B w' v' (P ++ [(r, .slice ya yn yc)]) → w.grownBy w' v.ownBlock → Kept B w w' → wpList Tryz.prog ops Q rest (a.put o.dst v') w') : wpList Tryz.prog ops Q (o :: rest) a w := by
  obtain ⟨i0, hi, hz0, hz1, hz2⟩ := info_parts Tryz.infoRowP
  obtain ⟨h0, h1, h2, h3, h4, h5, h6, h7, h8, h9⟩ := hr
  refine wpList_append_own _ hgd s x 117 ho B 83 i0 (.agg #[.int .i64 0, .int .i64 0, .int .i64 0, .int .i64 0, .int .i64 0, .int .i64 0, .int .i64 0, .int .i64 0, .int .i64 0, .slice none 0 0]) 10 96 Tryz.underlying117 hi hz0 hz1 hz2 rfl (by decide) v P.length _ hs hf ⟨g, 0, none⟩ 1 c (cellsR (r, .slice ya yn yc)) hx rfl ?_ ?_ ?_ ?_ hB ?_
  · intro j u hj
    match j, hj with
    | 0, hj => simp [cellsR] at hj; subst hj; simpa [Addr.add] using h0
    | 1, hj => simp [cellsR] at hj; subst hj; simpa [Addr.add] using h1
    | 2, hj => simp [cellsR] at hj; subst hj; simpa [Addr.add] using h2
    | 3, hj => simp [cellsR] at hj; subst hj; simpa [Addr.add] using h3
    | 4, hj => simp [cellsR] at hj; subst hj; simpa [Addr.add] using h4
    | 5, hj => simp [cellsR] at hj; subst hj; simpa [Addr.add] using h5
    | 6, hj => simp [cellsR] at hj; subst hj; simpa [Addr.add] using h6
    | 7, hj => simp [cellsR] at hj; subst hj; simpa [Addr.add] using h7
    | 8, hj => simp [cellsR] at hj; subst hj; simpa [Addr.add] using h8
    | 9, hj => simp [cellsR] at hj; subst hj; simpa [Addr.add] using h9
  · intro u hu
    simp [cellsR] at hu
    rcases hu with rfl | rfl | rfl | rfl | rfl | rfl | rfl | rfl | rfl | rfl <;> rfl
  · unfold maxLen; omega
  · omega
  · intro v' w' ho' hg _
    refine h v' w' ?_ hg (fun w0 hx0 hB0 => Below.grown hx0 hg hx0.size (fun q hq => Nat.le_trans hB0 (World.ownsRow.lt hf q hq).1))
    unfold FreshZ
    have e : flatC cellsR (P ++ [(r, .slice ya yn yc)]) = flatC cellsR P ++ cellsR (r, .slice ya yn yc) := by simp [flatC]
    rw [e, List.length_append]
    exact ho'

/-! ### Attributes -/
def cellsA (x : (Int × List Int) × Value) : List Value := [.int .i64 x.1.1, x.2]
theorem cellsA_len (x : (Int × List Int) × Value) : (cellsA x).length = 2 := rfl
def FreshA (B : Nat) (w : World) (v : Value) (P : List ((Int × List Int) × Value)) : Prop := w.ownsRow B 81 2 v P.length (flatC cellsA P)
theorem FreshA.nil (B : Nat) (w : World) : FreshA B w (.slice none 0 0) [] := ⟨rfl, .inl ⟨rfl, rfl⟩⟩
theorem FreshA.ext {B : Nat} {w w' : World} {v : Value} {P : List ((Int × List Int) × Value)} (h : FreshA B w v P) (e : Ext w w') : FreshA B w' v P := e.ownsRow h
theorem FreshA.attrs {B : Nat} {w : World} {v : Value} {P : List ((Int × List Int) × Value)} (h : FreshA B w v P) (hi : ∀ x ∈ P, Ints w x.2 x.1.2) : Attrs w v (P.map Prod.fst) := by
  rcases h.2 with ⟨rfl, hn⟩ | ⟨g, cap, cur, rfl, hb, hg, hnc, hcm, hcs, htake⟩
  · obtain rfl : P = [] := List.eq_nil_of_length_eq_zero hn
    exact ⟨none, 0, rfl, by simp, ⟨by simp, by simp, fun _ => rfl⟩, fun h => by simp at h⟩
  · refine ⟨some ⟨g, 0, none⟩, cap, by simp, by simp; omega, ⟨by simp; omega, by omega, fun h => by cases h⟩, fun _ => ⟨g, 0, rfl, fun j hj => ?_⟩⟩
    have hj' : j < P.length := by simpa using hj
    have e : (P.map Prod.fst)[j] = P[j].1 := by simp
    rw [e]
    have hc : ∀ i, i < 2 → w.cell? ⟨g, j * 2 + i, none⟩ = (cellsA P[j])[i]? := fun i hi' => by
      rw [World.ownsRow.cellAt h (j * 2 + i) (by omega), flatC_at cellsA_len hj' hi']
    refine ⟨P[j].2, ?_, ?_, hi _ (List.getElem_mem hj')⟩
    · rw [Nat.zero_add]; exact hc 0 (by omega)
    · rw [Nat.zero_add]; exact hc 1 (by omega)
theorem Tryz.infoAttrP : (Tryz.prog.info? 81).map (fun i => (i.zero, i.size, i.bytes)) = some (some (.agg #[.int .i64 0, .slice none 0 0]), 2, 32) := by kernel_rfl
theorem wpList_pushA {ops : Array Oper} {rest : List Oper} {o : Oper} {a : Act} {Q : Exit → Act → World → Prop} {w : World} (hgd : o.guard = none) (s x : Operand)
    (ho : o.op = .call { callee := .builtin .append, args := #[s, x], argTypes := #[228, 228] })
    (B : Nat) (v : Value) (P : List ((Int × List Int) × Value)) (r : Int × List Int) (ya : Option Addr) (yn yc : Nat) (hs : a.eval s = v) (hf : FreshA B w v P) (g : Nat) (c : Nat) (hx : a.eval x = .slice (some ⟨g, 0, none⟩) 1 c)
    (hr0 : w.cell? ⟨g, 0, none⟩ = some (.int .i64 r.1)) (hr1 : w.cell? ⟨g, 1, none⟩ = some (.slice ya yn yc)) (hl : P.length ≤ 1048576) (hB : B ≤ w.heap.size)
    (h : ∀ v' w', FreshA B w' v' (P ++ [(r, .slice ya yn yc)]) → w.grownBy w' v.ownBlock → Kept B w w' → wpList Tryz.prog ops Q rest (a.put o.dst v') w') : wpList Tryz.prog ops Q (o :: rest) a w := by
  obtain ⟨i0, hi, hz0, hz1, hz2⟩ := info_parts Tryz.infoAttrP
  refine wpList_append_own _ hgd s x 228 ho B 81 i0 (.agg #[.int .i64 0, .slice none 0 0]) 2 32 Tryz.underlying228 hi hz0 hz1 hz2 rfl (by decide) v P.length _ hs hf ⟨g, 0, none⟩ 1 c (cellsA (r, .slice ya yn yc)) hx rfl ?_ ?_ ?_ ?_ hB ?_
  · intro j u hj
    match j, hj with
    | 0, hj => simp [cellsA] at hj; subst hj; simpa [Addr.add] using hr0
    | 1, hj => simp [cellsA] at hj; subst hj; simpa [Addr.add] using hr1
  · intro u hu
    simp [cellsA] at hu
    rcases hu with rfl | rfl <;> rfl
  · unfold maxLen; omega
  · omega
  · intro v' w' ho' hg _
    refine h v' w' ?_ hg (fun w0 hx0 hB0 => Below.grown hx0 hg hx0.size (fun q hq => Nat.le_trans hB0 (World.ownsRow.lt hf q hq).1))
    unfold FreshA
    have e : flatC cellsA (P ++ [(r, .slice ya yn yc)]) = flatC cellsA P ++ cellsA (r, .slice ya yn yc) := by simp [flatC]
    rw [e, List.length_append]
    exact ho'
end Go.Proofs.YtcpmfcigciknlaaGreat
