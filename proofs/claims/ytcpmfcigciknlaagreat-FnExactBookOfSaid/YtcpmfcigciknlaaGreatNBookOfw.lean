/- Texts of this proof, part w: words, plain facts, contracts. -/
import Derived.Test.YtcpmfcigciknlaaGreatNBookOfv
import Derived.Test.YtcpmfcigciknlaaGreatNBookOfu
import Derived.Test.YtcpmfcigciknlaaGreatNBookOfg
import Derived.Test.YtcpmfcigciknlaaGreatNBookOfj
import Derived.Test.YtcpmfcigciknlaaGreatNBookOfi
import Derived.Deep.RegionLaw
import Derived.Deep.DeepCutAuto
import Derived.Test.YtcpmfcigciknlaaGreatNBookOfq
import Derived.Test.YtcpmfcigciknlaaGreatNBookOfr
import Derived.Laws.OwnMore
import Derived.Test.YtcpmfcigciknlaaGreatNBookOfc
import Derived.OwnWalk
import Derived.Deep.AppendLies
set_option linter.unusedVariables false
set_option linter.unusedSimpArgs false

namespace Go.Proofs.YtcpmfcigciknlaaGreat
open Go.RowKit
set_option linter.unusedVariables false
def FreshSB (B h : Nat) (w : World) (v : Value) (L : List (List Int)) : Prop :=
  ∃ vs, w.ownsRow B 26 1 v L.length vs ∧ Rows_ B w vs L ∧ (∀ (j : Nat) (u : Value), vs[j]? = some u → u.ownBlock = none ∨ u.ownBlock ≠ v.ownBlock) ∧ Und h v ∧ ∀ (j : Nat) (u : Value), vs[j]? = some u → Und h u
theorem FreshSB.nil (B h : Nat) (w : World) : FreshSB B h w (.slice none 0 0) [] := ⟨[], World.ownsRow_nil _ _ _ _, Rows_.nil _ _, (fun _ _ h => by simp at h), (fun b e => by cases e), (fun _ _ h => by simp at h)⟩
theorem FreshSB.of {B h : Nat} {w : World} {v : Value} {L : List (List Int)} (f : FreshSS B w v L) (hb : w.heap.size ≤ h) : FreshSB B h w v L := by
  obtain ⟨vs, h1, h2, h3⟩ := f
  refine ⟨vs, h1, h2, h3, fun b e => Nat.lt_of_lt_of_le (World.ownsRow.lt h1 b e).2 hb, fun j u hu => ?_⟩
  have hj : j < vs.length := (List.getElem?_eq_some_iff.1 hu).1
  exact (h2.row j u _ hu (List.getElem?_eq_getElem (by rw [← h2.len]; exact hj))).und.more hb
theorem FreshSB.ss {B h : Nat} {w : World} {v : Value} {L : List (List Int)} (f : FreshSB B h w v L) : FreshSS B w v L := by
  obtain ⟨vs, h1, h2, h3, _, _⟩ := f
  exact ⟨vs, h1, h2, h3⟩
theorem FreshSB.ext {B h : Nat} {w w' : World} {v : Value} {L : List (List Int)} (f : FreshSB B h w v L) (e : Ext w w') : FreshSB B h w' v L := by
  obtain ⟨vs, h1, h2, h3, h4, h5⟩ := f
  exact ⟨vs, e.ownsRow h1, h2.ext e, h3, h4, h5⟩
theorem FreshSB.intss {B h : Nat} {w : World} {v : Value} {L : List (List Int)} (f : FreshSB B h w v L) : Intss w v L := f.ss.intss
theorem FreshSB.ins {B h lo hi : Nat} {w w' : World} {v : Value} {L : List (List Int)} (f : FreshSB B h w v L) (k : Ins lo hi w w') (hb : hi ≤ B ∨ h ≤ lo) : FreshSB B h w' v L := by
  obtain ⟨vs, h1, h2, h3, h4, h5⟩ := f
  refine ⟨vs, k.row h1 (fun b e => ?_), ⟨h2.len, fun j u l hu hl => k.row (h2.row j u l hu hl) (fun b e => ?_), h2.apart⟩, h3, h4, h5⟩
  · have := World.ownsRow.lt h1 b e
    have := h4 b e
    omega
  · have := World.ownsRow.lt (h2.row j u l hu hl) b e
    have := h5 j u hu b e
    omega
structure LiveD (w W : World) (N h3 B C H : Nat) (n : Int) (v v3 u3 v5 u5 : Value) (L M L5 M5 : List (List Int)) : Prop where
  ext : Ext w W
  arg : AttrAt W N n v
  s3 : SSI h3 W v3 L
  t3 : SSI h3 W u3 M
  f5 : FreshSB B C W v5 L5
  g5 : FreshSB C H W u5 M5
theorem LiveD.on {w W W' : World} {N h3 B C H : Nat} {n : Int} {v v3 u3 v5 u5 : Value} {L M L5 M5 : List (List Int)} (h : LiveD w W N h3 B C H n v v3 u3 v5 u5 L M L5 M5) (e : Ext W W') : LiveD w W' N h3 B C H n v v3 u3 v5 u5 L M L5 M5 :=
  ⟨h.ext.trans e, h.arg.ext e, h.s3.ext e, h.t3.ext e, h.f5.ext e, h.g5.ext e⟩
theorem LiveD.ins {w W W' : World} {N h3 B C H lo hi : Nat} {n : Int} {v v3 u3 v5 u5 : Value} {L M L5 M5 : List (List Int)} (h : LiveD w W N h3 B C H n v v3 u3 v5 u5 L M L5 M5) (k : Ins lo hi W W')
    (h0 : w.heap.size ≤ lo) (hN : N < lo) (hh : h3 ≤ lo) (hs : h3 ≤ W.heap.size) (hB : hi ≤ B) (hC : B ≤ C) : LiveD w W' N h3 B C H n v v3 u3 v5 u5 L M L5 M5 :=
  ⟨k.ext h.ext h0, h.arg.ins k (.inl hN), h.s3.stood (k.stood hs (.inl hh)), h.t3.stood (k.stood hs (.inl hh)), h.f5.ins k (.inl hB), h.g5.ins k (.inl (Nat.le_trans hB hC))⟩
end Go.Proofs.YtcpmfcigciknlaaGreat

namespace Go.Proofs.YtcpmfcigciknlaaGreat
open Go.RowKit Go.Maps
set_option linter.unusedVariables false
theorem PairsAt.form {w : World} {v : Value} {vs : List Value} {L : List (Nat × Nat)} (h : PairsAt w v vs L) : ∃ a c, v = .slice a vs.length c := by
  rcases h.reads with ⟨rfl, rfl⟩ | ⟨b, off, cap, rfl, _⟩
  · exact ⟨none, 0, rfl⟩
  · exact ⟨_, cap, rfl⟩
theorem readyL_take {n : Int} {T : List (List RowD)} {j : Nat} {x : Nat × Nat} (hx : (insts T)[j]? = some x) : ((insts T).take (j + 1)).filter (fun x => readyB n T x.1 x.2) = ((insts T).take j).filter (fun x => readyB n T x.1 x.2) ++ if readyB n T x.1 x.2 then [x] else [] := by
  rw [List.take_add_one, hx, List.filter_append]
  congr 1
  cases h : readyB n T x.1 x.2 <;> simp [h]
set_option maxHeartbeats 8000000 in
set_option maxRecDepth 100000 in
theorem l6Ready_any (n : Int) (u : Value) (T : List (List RowD)) (w : World) (hu : Rowzz w u T) (hg : goodTab n T = true) :
    Calls Tryz.prog 92 #[.agg #[.int .i64 n, u]] w (fun e w' => ∃ v vs, e = .returned v ∧ PairsAt w' v vs (readyL n T) ∧ Ext w w') := by
  have H56 := Lib.hid (goodTab_both hg)
  have HG := Lib.hid hg
  have HU := Lib.hid hu
  have hx0 := Ext.alloc1 w (.cells #[.int .i64 n, u] 32)
  have b0 := attrAt_new w 32 n u
  obtain ⟨au, cu, rfl, hlu, _, _⟩ := hu
  clear hg
  go_enter Tryz.func92, Tryz.ntmps92
  go_wp2_with fail
  refine (l4Committed_any n _ T _ (HU.out.ext hx0) H56.out.1 H56.out.2).mono ?_
  rintro e W ⟨v1, rfl, f1, x1⟩
  have HB := Lib.hid (b0.ext x1)
  have XW := Lib.hid (hx0.trans x1)
  have f1' : FreshSS w.heap.size W v1 ((insts T).map pairOf) := by
    have h := f1.more hx0.size
    rw [allTo_insts] at h
    exact h
  obtain ⟨vs, fv, rv⟩ := f1'.vals
  have hvl : vs.length = (insts T).length := by rw [rv.len, List.length_map]
  have HV : Hid (FreshV w.heap.size W v1 vs) := Lib.hid fv
  have HRV : Hid (PRows w.heap.size W vs (insts T)) := Lib.hid ⟨hvl, fun j u x hu hx => rv.row j u _ hu (by rw [List.getElem?_map, hx]; rfl)⟩
  obtain ⟨a1, k1, rfl, hl1, hcap1, hc1⟩ := f1'.intss
  rw [pairs_len] at hl1 hcap1 HV ⊢
  have HSH := Lib.hid (insts_short HG.out)
  obtain ⟨m, hm⟩ : ∃ m, m = (insts T).length := ⟨_, rfl⟩
  rw [← hm] at hl1 hcap1 HV ⊢
  unfold maxLen at hl1
  have HM := Lib.hid hm
  have HVL : Hid (vs.length = m) := Lib.hid (by rw [hvl, hm])
  have hm30 : m ≤ 30 := by rw [hm]; exact HSH.out
  clear f1 f1' hx0 x1 b0 hc1 hm fv rv hvl
  go_wp2
  go_loopw [3, 9] (fun o i wr => ∃ (j : Nat) (os : List Value), j ≤ m ∧ i = .int .i64 j ∧ Hid (FreshV W.heap.size wr o os) ∧ Hid (PRows w.heap.size W os (((insts T).take j).filter fun x => readyB n T x.1 x.2)) ∧ Hid (Ext W wr)) (fun _ i _ => m - (intOf i).toNat)
  case atStart => exact ⟨0, [], Nat.zero_le _, rfl, Lib.hid (FreshV.nil _ _), Lib.hid (by simpa using PRows.nil _ _), Lib.hid (Ext.refl _)⟩
  case round =>
    obtain ⟨j, os, hj, rfl, HF, HO, HX⟩ := hrel
    by_cases hlt : j < m
    · have hjl : j < (insts T).length := by rw [← HM.out]; exact hlt
      obtain ⟨x, hx⟩ : ∃ x, (insts T)[j]? = some x := ⟨_, List.getElem?_eq_getElem hjl⟩
      obtain ⟨xv, hxv⟩ : ∃ xv, vs[j]? = some xv := ⟨_, List.getElem?_eq_getElem (by rw [HVL.out]; exact hlt)⟩
      obtain ⟨g1, k1', hvd, _, _⟩ := HV.out.big (by rw [HVL.out]; omega)
      simp only [Value.slice.injEq] at hvd
      obtain ⟨rfl, hvn, hvk⟩ := hvd
      subst hvk
      clear hvn
      have gx := HX.out.cell (HV.out.at HVL.out hxv)
      have HXF0 := Lib.hid (HRV.out.2 j xv x hxv hx)
      have HXF := Lib.hid (HXF0.out.ext HX.out)
      obtain ⟨bx, ox, cx, rfl, x0, x1⟩ := pair_at HXF.out.ints
      have hxc : instCom T x.1 x.2 = true := mem_insts.1 (List.mem_of_getElem? hx)
      have HXC := Lib.hid hxc
      have HXX := Lib.hid hx
      have hbx := HB.out.ext HX.out
      have ks : ∀ V, Ext wr V → Ext wr V ∧ V.cell? ⟨w.heap.size, 0, none⟩ = some (.int .i64 n) ∧ V.cell? ⟨w.heap.size, 1, none⟩ = some (.slice au T.length cu) ∧ V.cell? ⟨bx, ox, none⟩ = some (.int .i64 x.1) ∧ V.cell? ⟨bx, ox + 1, none⟩ = some (.int .i64 ((x.2 : Int) + 1)) := fun V hV => ⟨hV, hV.cell hbx.1, hV.cell hbx.2, hV.cell x0, hV.cell x1⟩
      have KS := Lib.hid ks
      have HR := Lib.hid (Ext.drew (Ext.refl wr))
      have cB : ∀ V, Ext wr V → Calls Tryz.prog 134 #[.agg #[.int .i64 n, .slice au T.length cu], .int .i64 x.1, .int .i64 ((x.2 : Int) + 1)] V (BlkR n T (x.1, x.2) V) := fun V hV => l6Blockers_any n _ T x.1 x.2 _ (HU.out.ext (XW.out.trans (HX.out.trans hV))) HG.out hxc
      have CB := Lib.hid cB
      clear x0 x1 hx hxv hxc hbx ks cB
      go_wp2_with fail
      go_region_held3 (fun V => Ext wr V ∧ V.cell? ⟨w.heap.size, 0, none⟩ = some (.int .i64 n) ∧ V.cell? ⟨w.heap.size, 1, none⟩ = some (.slice au T.length cu) ∧ V.cell? ⟨bx, ox, none⟩ = some (.int .i64 x.1) ∧ V.cell? ⟨bx, ox + 1, none⟩ = some (.int .i64 ((x.2 : Int) + 1))) (first | (with_reducible exact KS.out _ HR.out) | (with_reducible exact KS.out _ SS.out)) (first | (go_at_call 134; refine (CB.out _ (And.left (by with_reducible assumption))).mono ?_; rintro e W3 ⟨vd, ds, s', i', rfl, hpa, hbi, hi', hbb, x3⟩; obtain ⟨ad, kd, rfl⟩ := hpa.form; have SS := Lib.hid (Ext.trans (And.left (by with_reducible assumption)) x3)))
      have hrd : readyB n T x.1 x.2 = decide (ds.length = 0) := by
        rw [Bool.eq_iff_iff, readyB_iff, decide_eq_true_iff]
        have h1 := hbi.ready hi'
        have h2 := hpa.len
        constructor
        · intro h
          rw [h2, h1.2 h]; rfl
        · intro h
          exact h1.1 (List.eq_nil_of_length_eq_zero (by omega))
      obtain ⟨l0, hl0⟩ : ∃ l0, l0 = ds.length := ⟨_, rfl⟩
      have hl31 : l0 ≤ 30 := by rw [hl0, hpa.len]; exact hbb.few.2
      rw [← hl0] at hrd ⊢
      have HXW := Lib.hid (HX.out.trans SS.out)
      have HF3 := Lib.hid (HF.out.ext SS.out)
      have HTK := Lib.hid (readyL_take (n := n) HXX.out)
      have HXV : Hid (Fresh w.heap.size W (.slice (some ⟨bx, ox, none⟩) 2 cx) (pairOf x)) := HXF0
      clear hpa hbi hi' hbb x3 KS CB HR hl0 gx HXF SS HX HF
      by_cases h0 : l0 = 0
      · subst h0
        have HRD : Hid (readyB n T x.1 x.2 = true) := Lib.hid (by rw [hrd]; rfl)
        have HLL : Hid (os.length ≤ 1048576) := Lib.hid (by
          have h1 := HO.out.1
          have h2 := List.length_filter_le (fun x : Nat × Nat => readyB n T x.1 x.2) ((insts T).take j)
          have h3 := HSH.out
          rw [List.length_take] at h2
          omega)
        have HSZ : Hid (W.heap.size ≤ (W3.alloc (.cells #[.slice (some ⟨bx, ox, none⟩) 2 cx] 26)).heap.size) := Lib.hid (HXW.out.alloc _).size
        have HF4 := Lib.hid (HF3.out.ext (Ext.alloc1 W3 (.cells #[.slice (some ⟨bx, ox, none⟩) 2 cx] 26)))
        clear hrd hl31 HF3
        go_wp2_with (at_builtin; refine wpList_pushV rfl _ _ rfl W.heap.size _ os rfl HF4.out (.slice (some ⟨bx, ox, none⟩) 2 cx) ⟨W3.heap.size, 0, none⟩ 1 rfl (cell_alloc_one _ _ _) rfl HLL.out HSZ.out ?_)
        intro v5 w5 f5 g5 k5
        have F5 := Lib.hid f5
        have X5 := Lib.hid (k5 W (HXW.out.alloc _) (Nat.le_refl _))
        have HON := Lib.hid (HO.out.snoc HXV.out)
        clear f5 g5 k5 HF4 HLL HSZ
        go_wp2
        go_roundw
        case rel => exact ⟨j + 1, _, by omega, by go_num, F5, Lib.hid (by rw [HTK.out, HRD.out, if_pos rfl]; exact HON.out), X5⟩
        case measure => simp [intOf]; omega
      · have HRD : Hid (readyB n T x.1 x.2 = false) := Lib.hid (by rw [hrd]; exact decide_eq_false h0)
        have ne : ((l0 : Int) == 0) = false := by simpa using h0
        clear hrd h0
        go_wp2
        go_roundw
        case rel => exact ⟨j + 1, os, by omega, by go_num, HF3, Lib.hid (by rw [HTK.out, HRD.out]; simpa using HO.out), HXW⟩
        case measure => simp [intOf]; omega
    · obtain rfl : j = m := by omega
      have HE : Hid (PRows w.heap.size wr os (readyL n T)) := Lib.hid (by
        have h := HO.out.ext HX.out
        rw [HM.out, List.take_length] at h
        exact h)
      have FE := Lib.hid HF.out
      have XE := Lib.hid (XW.out.trans HX.out)
      clear HO HF HX
      go_wp2
      go_ret
      exact ⟨_, os, rfl, PRows.at (FE.out.more XW.out.size) HE.out, XE.out⟩
end Go.Proofs.YtcpmfcigciknlaaGreat

namespace Go.Proofs.YtcpmfcigciknlaaGreat
open Go.RowKit
set_option linter.unusedVariables false
theorem field_attr0 (s : Int) (u : Value) (W : World) : (Instr.field 81 (.agg #[.int .i64 s, u]) 0).run Tryz.prog W = .ok (.int .i64 s) W := by kernel_rfl
theorem ints_place (w : World) (p q : Nat) : Ints (w.alloc (.cells #[.int .i64 (p : Int), .int .i64 ((q : Int) + 1)] 3)) (.slice (some ⟨w.heap.size, 0, none⟩) 2 2) (pairOf (p, q)) :=
  (fresh_lit w [(p : Int), (q : Int) + 1] #[.int .i64 p, .int .i64 ((q : Int) + 1)] _ rfl (Nat.le_refl _) (by simp)).ints
theorem rowsP_lens {n : Int} {T : List (List RowD)} {P : List (List (RowD × Value))} {k a b : Nat} {L : List (RowD × Value)} (h : rowsP P = lesT n T a b) (hk : k < T.length) (hL : P[k]? = some L) : L.map Prod.fst = lesL n T a b k ∧ L.length = T[k].length := by
  have h1 : (rowsP P)[k]? = some (L.map Prod.fst) := by
    unfold rowsP
    rw [List.getElem?_map, hL]
    rfl
  rw [h, lesT_at hk] at h1
  have h2 := (Option.some.inj h1).symm
  refine ⟨h2, ?_⟩
  have h3 := congrArg List.length h2
  rw [List.length_map, lesL_len hk] at h3
  exact h3
theorem rowsP_lesPut {n : Int} {T : List (List RowD)} {P : List (List (RowD × Value))} {k j : Nat} {L : List (RowD × Value)} {z : Value} (h : rowsP P = lesT n T k j) (hk : k < T.length) (hj : j < T[k].length) (hL : P[k]? = some L) (hr : readyB n T k j = false) : rowsP (P.set k (L.set j (emptyR n, z))) = lesT n T k (j + 1) := by
  unfold rowsP
  rw [List.map_set, List.map_set, (rowsP_lens h hk hL).1]
  show (rowsP P).set k ((lesL n T k j k).set j (emptyR n)) = _
  rw [h, lesT_put hk hj hr]
def Slots (w : World) (b o : Nat) : Prop := (∃ v, w.cell? ⟨b, o, none⟩ = some v) ∧ (∃ v, w.cell? ⟨b, o + 1, none⟩ = some v) ∧ (∃ v, w.cell? ⟨b, o + 2, none⟩ = some v) ∧ (∃ v, w.cell? ⟨b, o + 3, none⟩ = some v) ∧ (∃ v, w.cell? ⟨b, o + 4, none⟩ = some v) ∧ (∃ v, w.cell? ⟨b, o + 5, none⟩ = some v) ∧ (∃ v, w.cell? ⟨b, o + 6, none⟩ = some v) ∧ (∃ v, w.cell? ⟨b, o + 7, none⟩ = some v) ∧ (∃ v, w.cell? ⟨b, o + 8, none⟩ = some v) ∧ (∃ v, w.cell? ⟨b, o + 9, none⟩ = some v) ∧ (w.frozen? ⟨b, o, none⟩ = false ∧ w.frozen? ⟨b, o + 1, none⟩ = false ∧ w.frozen? ⟨b, o + 2, none⟩ = false ∧ w.frozen? ⟨b, o + 3, none⟩ = false ∧ w.frozen? ⟨b, o + 4, none⟩ = false ∧ w.frozen? ⟨b, o + 5, none⟩ = false ∧ w.frozen? ⟨b, o + 6, none⟩ = false ∧ w.frozen? ⟨b, o + 7, none⟩ = false ∧ w.frozen? ⟨b, o + 8, none⟩ = false ∧ w.frozen? ⟨b, o + 9, none⟩ = false)
theorem FreshZ.slots {lo b m c j : Nat} {w : World} {L : List (RowD × Value)} (h : FreshZ lo w (.slice (some ⟨b, 0, none⟩) m c) L) (hj : j < L.length) : Slots w b (j * 10) := by
  have hn : m = L.length := by
    obtain ⟨a, c', e⟩ := h.form
    simp only [Value.slice.injEq] at e
    exact e.2.1
  subst hn
  have hc : ∀ q, q < 10 → ∃ v, w.cell? ⟨b, j * 10 + q, none⟩ = some v := fun q hq => by
    have h1 := h.cellAt (j * 10 + q) (by omega)
    rw [flatC_at cellsR_len hj hq] at h1
    exact ⟨_, h1.trans (List.getElem?_eq_getElem (by rw [cellsR_len]; exact hq))⟩
  exact ⟨hc 0 (by omega), hc 1 (by omega), hc 2 (by omega), hc 3 (by omega), hc 4 (by omega), hc 5 (by omega), hc 6 (by omega), hc 7 (by omega), hc 8 (by omega), hc 9 (by omega), h.frozenAt (j * 10), h.frozenAt (j * 10 + 1), h.frozenAt (j * 10 + 2), h.frozenAt (j * 10 + 3), h.frozenAt (j * 10 + 4), h.frozenAt (j * 10 + 5), h.frozenAt (j * 10 + 6), h.frozenAt (j * 10 + 7), h.frozenAt (j * 10 + 8), h.frozenAt (j * 10 + 9)⟩
set_option maxHeartbeats 8000000 in
set_option maxRecDepth 100000 in
theorem l6Order_any (n : Int) (u : Value) (T : List (List RowD)) (w : World) (hu : Rowzz w u T) (hg : goodTab n T = true) :
    Calls Tryz.prog 55 #[.agg #[.int .i64 n, u]] w (fun e w' => ∃ v, e = .returned v ∧ Intss w' v (orderP n T) ∧ Ext w w') := by
  obtain ⟨hgrp, hlen, hrows⟩ := goodTab_of hg
  have hl6 : ∀ k (hk : k < T.length), T[k].length ≤ 6 := fun k hk => (hrows _ (List.getElem_mem hk)).1
  have hm5 : T.length ≤ 5 := by rcases isGrp_of hgrp with h | h <;> omega
  obtain ⟨au, cu, rfl, _⟩ := id hu
  have hx0 := Ext.alloc1 w (.cells #[.int .i64 n, .slice au T.length cu] 32)
  have b0 := attrAt_new w 32 n (.slice au T.length cu)
  obtain ⟨wb, hwb⟩ : ∃ wb, wb = w.alloc (.cells #[.int .i64 n, .slice au T.length cu] 32) := ⟨_, rfl⟩
  rw [← hwb] at hx0 b0
  have SB : Hid (wb.heap.size = w.heap.size + 1) := Lib.hid (by rw [hwb]; simp)
  have HU := Lib.hid (hu.ext hx0)
  have HX := Lib.hid hx0
  have HB := Lib.hid b0
  have HWB := Lib.hid hwb
  have HG := Lib.hid hg
  have HGR := Lib.hid hgrp
  have HL6 := Lib.hid hl6
  clear hu hx0 b0 hwb hg hgrp hrows hl6 hlen
  go_enter Tryz.func55, Tryz.ntmps55
  go_wp2_with fail
  rw [← HWB.out]
  refine (l6Ready_any n _ T _ HU.out HG.out).mono ?_
  rintro e w1 ⟨v1, rs, rfl, hpa, x1⟩
  have IR := Lib.hid hpa.intss
  have X1 := Lib.hid x1
  obtain ⟨a1, k1, rfl⟩ := hpa.form
  obtain ⟨c0, c1⟩ := HB.out.ext x1
  have HRL : Hid (rs.length = (readyL n T).length) := Lib.hid hpa.len
  clear hpa x1
  go_wp2_with fail
  refine (l4Own_any n _ T _ (HU.out.ext X1.out) HG.out).mono ?_
  rintro e w2 ⟨g, vs, P0, rfl, ht, hp0, hgl, x2⟩
  have hgl1 : g < w2.heap.size := (World.ownsRow.lt ht.out g rfl).2
  have x3 := Ext.alloc1 w2 (.cells #[.int .i64 n, .slice (some ⟨g, 0, none⟩) T.length T.length] 32)
  have hs : SetS w1 (w2.alloc (.cells #[.int .i64 n, .slice (some ⟨g, 0, none⟩) T.length T.length] 32)) g w2.heap.size n T.length vs P0 := by
    refine ⟨ht.ext x3, attrAt_new w2 32 n (.slice (some ⟨g, 0, none⟩) T.length T.length), fun k v hv => ?_, x2.trans x3, by rw [World.size_alloc]; exact Nat.le_refl _, hgl1, hgl⟩
    have hk : k < P0.length := by have := (List.getElem?_eq_some_iff.1 hv).1; have := ht.vl; have := ht.pl; omega
    cases hb : v.ownBlock with
    | none => exact .inl rfl
    | some b => exact .inr (fun e => by have := (World.ownsRow.lt (ht.row k v _ hv (List.getElem?_eq_getElem hk)) b hb).2; have := Option.some.inj e; omega)
  have HS := Lib.hid hs
  have HP : Hid (rowsP P0 = lesT n T 0 0) := Lib.hid (by rw [lesT_zero]; exact hp0)
  have hgN : g ≠ w2.heap.size := Nat.ne_of_lt hgl1
  have HW1 : Hid (w.heap.size + 1 ≤ w1.heap.size) := Lib.hid (by have := X1.out.size; have := SB.out; omega)
  have HWG : Hid (w1.heap.size ≤ g) := Lib.hid hgl
  clear ht hp0 x2 x3 hs c0 c1 hgl1
  go_wp2
  go_loopw [22] (fun i wr => ∃ (k : Nat) (P : List (List (RowD × Value))), k ≤ T.length ∧ i = .int .i64 k ∧ Hid (SetS w1 wr g w2.heap.size n T.length vs P) ∧ Hid (rowsP P = lesT n T k 0)) (fun i _ => T.length - (intOf i).toNat)
  case atStart => exact ⟨0, P0, Nat.zero_le _, rfl, HS, HP⟩
  case round =>
    clear HS HP
    obtain ⟨k, P, hk, rfl, HS, HP⟩ := hrel
    by_cases hlt : k < T.length
    · obtain ⟨len, hlen⟩ : ∃ l, l = T[k].length := ⟨_, rfl⟩
      have hl6 : len ≤ 6 := by rw [hlen]; exact HL6.out k hlt
      obtain ⟨v, L, hv, hL, q0, q1, fz⟩ := HS.out.tab.at hlt
      obtain ⟨av, cv, rfl⟩ := fz.form
      have hLl : L.length = len := by rw [hlen]; exact (rowsP_lens HP.out hlt hL).2
      rw [hLl] at hv q0
      obtain ⟨a0, b1⟩ := HS.out.box
      have HV := Lib.hid hv
      have HLEN := Lib.hid hlen
      have HLT := Lib.hid hlt
      have HP0 : Hid (rowsP P = lesT n T k 0) := HP
      clear hv hL fz hLl hlen
      go_wp2
      go_loopw [31] (fun i wr => ∃ (j : Nat) (P : List (List (RowD × Value))), j ≤ len ∧ i = .int .i64 j ∧ Hid (SetS w1 wr g w2.heap.size n T.length vs P) ∧ Hid (rowsP P = lesT n T k j)) (fun i _ => len - (intOf i).toNat)
      case atStart => exact ⟨0, P, Nat.zero_le _, rfl, HS, HP0⟩
      case round =>
        clear HS HP HP0 q0 q1 a0 b1
        obtain ⟨j, P, hj, rfl, HS, HP⟩ := hrel
        by_cases hjt : j < len
        · have hjT : j < T[k].length := Nat.lt_of_lt_of_eq hjt HLEN.out
          obtain ⟨v', L, hv', hL, q0, q1, fz⟩ := HS.out.tab.at HLT.out
          obtain rfl : v' = .slice av len cv := by rw [HV.out] at hv'; exact (Option.some.inj hv').symm
          have hLl : L.length = len := by rw [HLEN.out]; exact (rowsP_lens HP.out HLT.out hL).2
          obtain ⟨b, rfl⟩ : ∃ b, av = some ⟨b, 0, none⟩ := by
            rcases fz.2 with ⟨h, _⟩ | ⟨g', cap, cur, h, _⟩
            · simp only [Value.slice.injEq] at h; omega
            · simp only [Value.slice.injEq] at h; exact ⟨g', h.1⟩
          have HQ := Lib.hid (show j < L.length by rw [hLl]; exact hjt)
          have HJT := Lib.hid hjT
          have HL := Lib.hid hL
          have FZ := Lib.hid fz
          have Q0 := Lib.hid q0
          have HI := Lib.hid (IR.out.ext (HS.out.ext.trans (Ext.alloc1 wr (.cells #[.int .i64 (k : Int), .int .i64 ((j : Int) + 1)] 3))))
          have hk5 : (k : Int) ≤ 5 := by have := HLT.out; omega
          have hj5 : (j : Int) < 6 := by omega
          have HJL := Lib.hid hjt
          clear hv' hL hLl fz q0 q1 hjT
          go_wp2_with fail
          refine (l6Find_val _ _ _ (pairOf (k, j)) _ HI.out (ints_place wr k j)).mono ?_
          rintro e w5 ⟨rfl, x5⟩
          have X5 := Lib.hid ((Ext.alloc1 wr (.cells #[.int .i64 (k : Int), .int .i64 ((j : Int) + 1)] 3)).trans x5)
          have S5 := Lib.hid (HS.out.on X5.out)
          obtain ⟨r, hr⟩ : ∃ r, r = findI ((readyL n T).map pairOf) (pairOf (k, j)) := ⟨_, rfl⟩
          rw [← hr]
          clear x5
          cases hrd : readyB n T k j with
          | true =>
            have h0 : 0 ≤ r := Int.not_lt.1 fun h => by
              rw [hr] at h
              have h2 := (find_ready k j).1 h
              rw [hrd] at h2
              cases h2
            have HPN : Hid (rowsP P = lesT n T k (j + 1)) := Lib.hid (by rw [HP.out, lesT_keep hrd])
            clear hr hrd
            go_wp2
            go_roundw
            case rel => exact ⟨j + 1, P, by have := HJL.out; omega, by go_num, S5, HPN⟩
            case measure => simp [intOf]; have := HJL.out; omega
          | false =>
            have h0 : r < 0 := by
              rw [hr]
              exact (find_ready k j).2 hrd
            have HRD := Lib.hid hrd
            obtain ⟨a0, a1⟩ := S5.out.box
            have q0 := X5.out.cell Q0.out
            obtain ⟨t0, t1⟩ := (HB.out.ext X1.out).ext S5.out.ext
            have FZ' : Hid (FreshZ (g + 1) w5 (.slice (some ⟨b, 0, none⟩) len cv) L) := Lib.hid (FZ.out.ext X5.out)
            have lo7 : g + 1 ≤ w5.heap.size := by have := S5.out.lo; have := S5.out.gN; omega
            clear hr hrd
            go_wp2
            go_region_law (go_simp; go_at_call 95; refine (l3None_any n _ HGR.out).mono ?_; rintro e w8 ⟨y9, rfl, f9, x8'⟩; obtain ⟨a9, c9, rfl⟩ := f9.form; have x8 : Ext w5 w8 := (Ext.drew (Ext.refl _)).trans x8'; have m0 := x8.cell a1; have m1 := x8.cell q0; obtain ⟨⟨e0, s0⟩, ⟨e1, s1⟩, ⟨e2, s2⟩, ⟨e3, s3⟩, ⟨e4, s4⟩, ⟨e5, s5⟩, ⟨e6, s6⟩, ⟨e7, s7⟩, ⟨e8, s8⟩, ⟨e9, s9⟩, z0, z1, z2, z3, z4, z5, z6, z7, z8, z9⟩ := FreshZ.slots (FZ'.out.ext x8) HQ.out)
            all_goals
              have hws := Lib.hid ((S5.out.on x8).put (k := k) (b := b) (j := j) HV.out HL.out HQ.out (emptyR n, .slice a9 (noneL n).length c9) (f9.more (by simp; omega)))
              have HPN : Hid (rowsP (P.set k (L.set j (emptyR n, .slice a9 (noneL n).length c9))) = lesT n T k (j + 1)) := Lib.hid (rowsP_lesPut HP.out HLT.out HJT.out HL.out HRD.out)
              clear s0 s1 s2 s3 s4 s5 s6 s7 s8 s9 z0 z1 z2 z3 z4 z5 z6 z7 z8 z9 m0 m1 a0 a1 q0 t0 t1 x8 x8' f9
              go_wp2
              go_roundw
              case rel => exact ⟨j + 1, _, by have := HJL.out; omega, by go_num, hws, HPN⟩
              case measure => simp [intOf]; have := HJL.out; omega
        · obtain rfl : j = len := by omega
          have HPN : Hid (rowsP P = lesT n T (k + 1) 0) := Lib.hid (by rw [HP.out, HLEN.out, lesT_row HLT.out])
          go_wp2
          go_roundw
          case rel => exact ⟨k + 1, P, by have := HLT.out; omega, by go_num, HS, HPN⟩
          case measure => simp [intOf]; have := HLT.out; omega
    · obtain rfl : k = T.length := by omega
      have HPN : Hid (rowsP P = lessT n T) := Lib.hid (by rw [HP.out, lesT_all])
      have hrz := HS.out.tab.rows
      rw [HPN.out] at hrz
      obtain ⟨a0, b1⟩ := HS.out.box
      have HRZ := Lib.hid hrz
      have XR := Lib.hid (X1.out.trans HS.out.ext)
      clear hrz HS HP HPN
      go_wp2_with fail
      refine (l6Graph_any n _ (lessT n T) _ HRZ.out (less_good HG.out)).mono ?_
      rw [less_insts, less_graph]
      rintro e w6 ⟨vp, vg, w5, rfl, fp, x5, fg, x6⟩
      obtain ⟨ps, fv, rv⟩ := fp.vals
      have hpl : ps.length = (readyL n T).length := by rw [rv.len, List.length_map]
      have HRV : Hid (PRows 0 w6 ps (readyL n T)) := Lib.hid (PRows.ext ((show PRows wr.heap.size w5 ps (readyL n T) from ⟨hpl, fun j u x hu hx => rv.row j u _ hu (by rw [List.getElem?_map, hx]; rfl)⟩).more (Nat.zero_le _)) x6)
      have HIG := Lib.hid fg.intss
      have X56 := Lib.hid (XR.out.trans (x5.trans x6))
      have T6 := Lib.hid (HB.out.ext X56.out)
      have hv6 := fv.ext x6
      obtain ⟨m, hm⟩ : ∃ m, m = (readyL n T).length := ⟨_, rfl⟩
      have hm30 : m ≤ 30 := by rw [hm]; exact readyL_short HG.out
      have hpm : ps.length = m := by rw [hpl, hm]
      obtain ⟨ap, kp, rfl⟩ := fv.len
      obtain ⟨ag, kg, hvg, _⟩ := id HIG.out
      subst hvg
      rw [hpm] at hv6 ⊢
      have HV := Lib.hid hv6
      have HM := Lib.hid hm
      have HPL := Lib.hid hpm
      obtain ⟨K, hK⟩ : ∃ K, K = keysP n T (readyL n T) := ⟨_, rfl⟩
      have HK := Lib.hid hK
      have HKL : Hid (K.length = m) := Lib.hid (by rw [hK, hm]; simp [keysP])
      clear fp x5 fg x6 fv rv hpl hv6 hm hpm hK a0 b1 HRZ
      go_wp2
      go_loopw [9, 61] (fun kv i wx => ∃ j : Nat, j ≤ m ∧ i = .int .i64 j ∧ Hid (Fresh w6.heap.size wx kv (K.take j)) ∧ Hid (Ext w6 wx)) (fun _ i _ => m - (intOf i).toNat)
      case atStart => exact ⟨0, Nat.zero_le _, rfl, Lib.hid (World.ownsRow_nil _ _ _ _), Lib.hid (Ext.refl _)⟩
      case round =>
        obtain ⟨j, hj, rfl, HF, HX6⟩ := hrel
        by_cases hlt : j < m
        · have hjl : j < (readyL n T).length := Nat.lt_of_lt_of_eq hlt HM.out
          obtain ⟨x, hx⟩ : ∃ x, (readyL n T)[j]? = some x := ⟨_, List.getElem?_eq_getElem hjl⟩
          obtain ⟨xv, hxv⟩ : ∃ xv, ps[j]? = some xv := ⟨_, List.getElem?_eq_getElem (by rw [HPL.out]; exact hlt)⟩
          obtain ⟨g1, k1', hvd, _, _⟩ := HV.out.big (by rw [HPL.out]; omega)
          simp only [Value.slice.injEq] at hvd
          obtain ⟨rfl, hvn, hvk⟩ := hvd
          subst hvk
          clear hvn
          have gx := HX6.out.cell (HV.out.at HPL.out hxv)
          have HXF := Lib.hid (HRV.out.2 j xv x hxv hx)
          obtain ⟨bx, ox, cx, rfl, x0, x1⟩ := pair_at HXF.out.ints
          obtain ⟨p, q⟩ := x
          have ks : ∀ V, Ext w6 V → V.cell? ⟨w.heap.size, 0, none⟩ = some (.int .i64 n) ∧ V.cell? ⟨w.heap.size, 1, none⟩ = some (.slice au T.length cu) ∧ V.cell? ⟨bx, ox, none⟩ = some (.int .i64 (p : Int)) ∧ V.cell? ⟨bx, ox + 1, none⟩ = some (.int .i64 ((q : Int) + 1)) := fun V hV => by
            obtain ⟨t0, t1⟩ := T6.out.ext hV
            exact ⟨t0, t1, hV.cell x0, hV.cell x1⟩
          have KS := Lib.hid ks
          have hc : instCom T p q = true := readyB_com (mem_readyL.1 (List.mem_of_getElem? hx))
          obtain ⟨hp, hqT, hcs⟩ := instCom_lt hc
          have hq5 : q ≤ 5 := by have := HL6.out p hp; omega
          have hp4 : p ≤ 4 := by omega
          have hs9 : 0 ≤ (rowOf n T p q).s ∧ (rowOf n T p q).s ≤ 999 := seq_in (x := (p, q)) HG.out hc
          have ca : ∀ V, Ext wr V → Calls Tryz.prog 65 #[.agg #[.int .i64 n, .slice au T.length cu], .int .i64 p, .int .i64 ((q : Int) + 1)] V (NewRow (rowOf n T p q) V) := fun V hV => l4At_any n _ T p q V (HU.out.ext (X56.out.trans (HX6.out.trans hV))) HG.out hp hq5
          have hst : K.take (j + 1) = K.take j ++ [100 * (rowOf n T p q).s + 10 * (p : Int) + ((q : Int) + 1)] := by
            rw [HK.out, List.take_add_one]
            unfold keysP
            rw [List.getElem?_map, hx]
            rfl
          obtain ⟨r, hr⟩ : ∃ r, r = rowOf n T p q := ⟨_, rfl⟩
          rw [← hr] at hs9 ca hst
          obtain ⟨hs0, hs1⟩ := hs9
          have CA := Lib.hid ca
          have HST := Lib.hid hst
          obtain ⟨ak, ck, hkv⟩ := HF.out.form
          have hkl : (K.take j).length = j := by rw [List.length_take, HKL.out]; omega
          rw [hkl] at hkv
          subst hkv
          have HKJ := Lib.hid hkl
          have HR := Lib.hid (Ext.trans HX6.out (Ext.drew (Ext.refl wr)))
          have e1 : IntKind.i64.wrap (100 * r.s) = 100 * r.s := IntWalk.i64_in _ (by omega)
          have e2 : IntKind.i64.wrap (10 * (p : Int)) = 10 * (p : Int) := IntWalk.i64_in _ (by omega)
          have e3 : IntKind.i64.wrap (100 * r.s + 10 * (p : Int)) = 100 * r.s + 10 * (p : Int) := IntWalk.i64_in _ (by omega)
          have e4 : IntKind.i64.wrap (100 * r.s + 10 * (p : Int) + ((q : Int) + 1)) = 100 * r.s + 10 * (p : Int) + ((q : Int) + 1) := IntWalk.i64_in _ (by omega)
          have HJ5 : Hid (j ≤ 30) := Lib.hid (by omega)
          clear hjl hx hxv hc hcs hqT ca hst hr hkl ks x0 x1
          go_wp2_with fail
          clear gx
          go_region_held3 (fun V => V.cell? ⟨w.heap.size, 0, none⟩ = some (.int .i64 n) ∧ V.cell? ⟨w.heap.size, 1, none⟩ = some (.slice au T.length cu) ∧ V.cell? ⟨bx, ox, none⟩ = some (.int .i64 (p : Int)) ∧ V.cell? ⟨bx, ox + 1, none⟩ = some (.int .i64 ((q : Int) + 1))) (first | (with_reducible exact KS.out _ HR.out) | (with_reducible exact KS.out _ HWN.out) | (with_reducible exact KS.out _ HW9.out) | (with_reducible exact KS.out _ HW8.out)) (first | (go_at_call 65; refine (CA.out _ (Ext.drew (Ext.refl _))).mono ?_; rintro e w8 ⟨z8, rfl, f8, x8'⟩; have x8 : Ext wr w8 := (Ext.drew (Ext.refl _)).trans x8'; have HW8 := Lib.hid (Ext.trans HX6.out x8); have HW9 := Lib.hid (Ext.alloc (Ext.trans HX6.out x8) (.cells #[.int .i64 (100 * r.s + 10 * (p : Int) + ((q : Int) + 1))] 3)); have hfd := field_rowA r.b r.v r.st r.k r.i r.f r.t r.a r.s z8; have hfe := field_attr0 r.s z8) | (refine step_push rfl (.tmp 65) (.tmp 86) rfl w6.heap.size (.slice ak j ck) (K.take j) (100 * r.s + 10 * (p : Int) + ((q : Int) + 1)) rfl (Fresh.ext HF.out (Ext.alloc x8 _)) ⟨w8.heap.size, 0, none⟩ 1 rfl (cell_alloc_one _ _ _) j HKJ.out (by omega) (by have := HX6.out.size; have := x8.size; simp only [World.size_alloc]; omega) ?_; intro ao' c' W' hf' hg'; have HFN : Hid (Fresh w6.heap.size W' (.slice ao' (j + 1) c') (K.take (j + 1))) := Lib.hid (by rw [HST.out]; exact hf'); have HWN : Hid (Ext w6 W') := Lib.hid (Ext.touch (HX6.out.trans (Ext.alloc x8 _)) (Fresh.ext HF.out (Ext.alloc x8 _)) hg')))
          clear hf' hg' x8 x8' f8 hfd hfe HW8 HW9
          go_wp2
          go_roundw
          case rel => exact ⟨j + 1, by omega, by go_num, HFN, HWN⟩
          case measure => simp [intOf]; omega
        · obtain rfl : m = j := by omega
          have hfk := HF.out
          rw [← HKL.out, List.take_length] at hfk
          have HFK := Lib.hid hfk
          clear HF hfk
          go_wp2_with fail
          refine (l5Order_any _ _ (graphP n T (readyL n T)) K _ (HIG.out.ext HX6.out) HFK.out.ints (by rw [HK.out]; exact keysP_good HG.out)).mono ?_
          rintro e w7 ⟨vo, rfl, fo, x7⟩
          obtain ⟨O, hO⟩ : ∃ O, O = orderL (graphP n T (readyL n T)) K := ⟨_, rfl⟩
          have hin : ∀ z ∈ O, 0 ≤ z ∧ z < (m : Int) := fun z hz => by
            have hg := (goodG_of (keysB_of (keysP_good HG.out)).1)
            rw [hO] at hz
            have h1 := (orderL_perm hg.1 K).mem_iff.1 hz
            have h2 := (rangeI_mem _ _).1 h1
            have h3 : (graphP n T (readyL n T)).length = m := by rw [HM.out]; simp [graphP]
            rw [h3] at h2
            exact h2
          have hol : O.length ≤ 1600 := by
            have h := orderA_len (graphP n T (readyL n T)) K
            unfold orderA at h
            rw [HK.out, keysP_good HG.out, if_pos rfl] at h
            rw [hO, HK.out]
            exact h
          rw [← hO] at fo
          have io := fo.ints
          obtain ⟨ao, co, rfl, hlo, _, dO⟩ := io
          have HD := Lib.hid dO
          have HIN := Lib.hid hin
          have X7 := Lib.hid (HX6.out.trans x7)
          have HOO := Lib.hid hO
          clear fo x7 hin hO dO HFK HIG
          go_wp2
          go_loopw [12, 93] (fun ov i wy => ∃ (t : Nat) (os : List Value), t ≤ O.length ∧ i = .int .i64 t ∧ Hid (FreshV w7.heap.size wy ov os) ∧ Hid (PRows 0 w6 os ((O.take t).map fun k => (readyL n T)[k.toNat]?.getD (0, 0))) ∧ Hid (Ext w7 wy)) (fun _ i _ => O.length - (intOf i).toNat)
          case atStart => exact ⟨0, [], Nat.zero_le _, rfl, Lib.hid (FreshV.nil _ _), Lib.hid (PRows.nil _ _), Lib.hid (Ext.refl _)⟩
          case round =>
            obtain ⟨t, os, ht, rfl, HF, HO, HX7⟩ := hrel
            by_cases htl : t < O.length
            · obtain ⟨bo, oo, rfl, eo⟩ := HD.out (by omega)
              have go := HX7.out.cell (eo t htl)
              obtain ⟨z, hz⟩ : ∃ z, z = O[t] := ⟨_, rfl⟩
              rw [List.getElem?_eq_getElem htl, Option.getD_some, ← hz] at go
              have hzb := HIN.out z (by rw [hz]; exact List.getElem_mem htl)
              obtain ⟨j, rfl⟩ : ∃ j : Nat, z = (j : Int) := ⟨z.toNat, by omega⟩
              have hjm : j < m := by omega
              obtain ⟨x, hx⟩ : ∃ x, (readyL n T)[j]? = some x := ⟨_, List.getElem?_eq_getElem (Nat.lt_of_lt_of_eq hjm HM.out)⟩
              obtain ⟨xv, hxv⟩ : ∃ xv, ps[j]? = some xv := ⟨_, List.getElem?_eq_getElem (by rw [HPL.out]; exact hjm)⟩
              obtain ⟨g1, k1', hvd, _, _⟩ := HV.out.big (by rw [HPL.out]; omega)
              simp only [Value.slice.injEq] at hvd
              obtain ⟨rfl, hvn, hvk⟩ := hvd
              subst hvk
              clear hvn
              have gx := (X7.out.trans HX7.out).cell (HV.out.at HPL.out hxv)
              have HXF := Lib.hid (HRV.out.2 j xv x hxv hx)
              obtain ⟨bx, ox, cx, rfl, _, _⟩ := pair_at HXF.out.ints
              have htk : (O.take (t + 1)).map (fun k => (readyL n T)[k.toNat]?.getD (0, 0)) = (O.take t).map (fun k => (readyL n T)[k.toNat]?.getD (0, 0)) ++ [x] := by
                rw [List.take_succ_eq_append_getElem htl, List.map_append, ← hz]
                simp [hx]
              have HTK := Lib.hid htk
              have HLL : Hid (os.length ≤ 1048576) := Lib.hid (by
                have h1 := HO.out.1
                rw [List.length_map, List.length_take] at h1
                omega)
              have HSZ : Hid (w7.heap.size ≤ (wr.alloc (.cells #[.slice (some ⟨bx, ox, none⟩) 2 cx] 26)).heap.size) := Lib.hid (HX7.out.alloc _).size
              have HF4 := Lib.hid (HF.out.ext (Ext.alloc1 wr (.cells #[.slice (some ⟨bx, ox, none⟩) 2 cx] 26)))
              clear eo hz hx hxv htk hzb HF
              go_wp2_with (at_builtin; refine wpList_pushV rfl _ _ rfl w7.heap.size _ os rfl HF4.out (.slice (some ⟨bx, ox, none⟩) 2 cx) ⟨wr.heap.size, 0, none⟩ 1 rfl (cell_alloc_one _ _ _) rfl HLL.out HSZ.out ?_)
              intro v8 w8 f8 g8 k8
              have F8 := Lib.hid f8
              have X8 := Lib.hid (k8 w7 (HX7.out.alloc _) (Nat.le_refl _))
              have HON := Lib.hid (HO.out.snoc HXF.out)
              clear f8 g8 k8 HF4 HLL HSZ
              go_wp2
              go_roundw
              case rel => exact ⟨t + 1, _, by omega, by go_num, F8, Lib.hid (by rw [HTK.out]; exact HON.out), X8⟩
              case measure => simp [intOf]; omega
            · obtain rfl : t = O.length := by omega
              have hpr := HO.out.ext (X7.out.trans HX7.out)
              rw [List.take_length] at hpr
              have HI := (PRows.at HF.out.zero hpr).intss
              have e9 : (O.map fun k => (readyL n T)[k.toNat]?.getD (0, 0)).map pairOf = orderP n T := by
                rw [HOO.out, HK.out]
                unfold orderP
                rw [List.map_map]
                rfl
              rw [e9] at HI
              have HI9 := Lib.hid HI
              have XE := Lib.hid (HX.out.trans (X56.out.trans (X7.out.trans HX7.out)))
              clear hpr HI e9 HO HF HX7
              go_wp2
              go_ret
              exact ⟨_, rfl, HI9.out, XE.out⟩
end Go.Proofs.YtcpmfcigciknlaaGreat

namespace Go.Proofs.YtcpmfcigciknlaaGreat
open Go.RowKit
set_option linter.unusedVariables false
end Go.Proofs.YtcpmfcigciknlaaGreat

namespace Go.Proofs.YtcpmfcigciknlaaGreat
open Go.RowKit
set_option linter.unusedVariables false
def TdApart (n0 : Nat) (v u : Value) (w : World) (D : List TldD) : Prop := (D = [] ∧ u = .slice none 0 0) ∨ ∃ g, v.ownBlock ≠ some g ∧ n0 ≤ g ∧ TdzM g (g + 1) w u D
theorem TdApart.reads {n0 : Nat} {v u : Value} {w : World} {D : List TldD} (h : TdApart n0 v u w D) : Tdz w u D := by
  rcases h with ⟨rfl, rfl⟩ | ⟨g, _, _, h⟩
  · exact Tdz.nil w
  · exact h.reads
theorem TdApart.lt {g : Nat} {u : Value} {w : World} {D : List TldD} (h : TdzM g (g + 1) w u D) : g < w.heap.size := by
  obtain ⟨g', xs, h1, h2, _, _, hb, _⟩ := h
  have := hb.lt
  omega
theorem TdApart.ext {n0 : Nat} {v u : Value} {w w' : World} {D : List TldD} (h : TdApart n0 v u w D) (e : Ext w w') : TdApart n0 v u w' D := by
  rcases h with h | ⟨g, h1, h2, h3⟩
  · exact .inl h
  · exact .inr ⟨g, h1, h2, h3.kept (Stood.of_ext e (by have := TdApart.lt h3; omega))⟩
theorem TdApart.grown {n0 : Nat} {v u : Value} {w w' : World} {D : List TldD} (h : TdApart n0 v u w D) (t : w.grownBy w' v.ownBlock) : TdApart n0 v u w' D := by
  rcases h with h | ⟨g, h1, h2, h3⟩
  · exact .inl h
  · have hlt := TdApart.lt h3
    exact .inr ⟨g, h1, h2, h3.kept ⟨t.size, fun b hb1 hb2 => t.block b (by omega) (fun e => h1 (by rw [← e]; exact congrArg some (by omega)))⟩⟩
theorem TdApart.other {n0 : Nat} {v u : Value} {w w' : World} {D : List TldD} {r : Option Nat} (h : TdApart n0 v u w D) (t : w.grownBy w' r) (hr : ∀ q, r = some q → q < n0) : TdApart n0 v u w' D := by
  rcases h with h | ⟨g, h1, h2, h3⟩
  · exact .inl h
  · have hlt := TdApart.lt h3
    exact .inr ⟨g, h1, h2, h3.kept ⟨t.size, fun b hb1 hb2 => t.block b (by omega) (fun e => by have := hr b e.symm; omega)⟩⟩
theorem TdApart.ins {n0 lo hi : Nat} {v u : Value} {w w' : World} {D : List TldD} (h : TdApart n0 v u w D) (t : Ins lo hi w w') (hr : hi ≤ n0) : TdApart n0 v u w' D := by
  rcases h with h | ⟨g, h1, h2, h3⟩
  · exact .inl h
  · have hlt := TdApart.lt h3
    exact .inr ⟨g, h1, h2, h3.kept (t.stood (by omega) (.inr (by omega)))⟩
end Go.Proofs.YtcpmfcigciknlaaGreat

namespace Go.Proofs.YtcpmfcigciknlaaGreat
open Go.RowKit
set_option linter.unusedVariables false
theorem told_cells (w : World) (c s : Int) (T : TypeId) : ((w.alloc (.cells #[.int .i64 c, .int .i64 s] T)).alloc (.cells #[.int .i64 c, .int .i64 s] T)).cell? ⟨w.heap.size + 1, 0, none⟩ = some (.int .i64 c) ∧ ((w.alloc (.cells #[.int .i64 c, .int .i64 s] T)).alloc (.cells #[.int .i64 c, .int .i64 s] T)).cell? ⟨w.heap.size + 1, 1, none⟩ = some (.int .i64 s) := by
  refine ⟨?_, ?_⟩ <;> go_simp
theorem td_apart {B B' : Nat} {w w' : World} {v u : Value} {l : List Int} {D : List TldD} (h : Fresh B' w' v l) (k : FreshTd B w u D) (hle : w.heap.size ≤ B') : v.ownBlock = none ∨ v.ownBlock ≠ u.ownBlock := by
  cases hv : v.ownBlock with
  | none => exact .inl rfl
  | some q =>
    refine .inr fun e => ?_
    have h1 := (World.ownsRow.lt h q hv).1
    have h2 := (World.ownsRow.lt k q e.symm).2
    omega
def Played2 (S : List Int) (D : List TldD) (w : World) (e : Ending) (w' : World) : Prop :=
  ∃ v u, e = .returned (.tuple #[v, u]) ∧ Ints w' v S ∧ Tdz w' u D ∧ Ext w w'
set_option maxRecDepth 100000 in
set_option maxHeartbeats 4000000 in
theorem l11Play_any (v : Value) (L : List CmdD) (w : World) (hv : Cdz w v L) (hb : cmdsB L = true) :
    Calls Tryz.prog 66 #[v] w (Played2 (sumsAt L L.length) (toldN L L.length) w) := by
  obtain ⟨h60, hg0⟩ := cmdsB_yes hb
  obtain ⟨av, cv, rfl, hlv, _, hcv⟩ := hv
  unfold maxLen at hlv
  have HG := Lib.hid hg0
  have HS := Lib.hid (sumsAt_good hg0)
  have H60 := Lib.hid h60
  clear hb hg0
  go_enter Tryz.func66, Tryz.ntmps66
  go_wp2_with fail
  refine (specNewSums_any _).mono ?_
  rintro e w1 ⟨v1, rfl, f1, x1⟩
  have hi1 := f1.ints
  clear f1
  go_wp2
  go_loopw [4, 5, 7, 8, 9, 13] (fun s o _ _ _ i wr => ∃ k : Nat, k ≤ L.length ∧ i = .int .i64 k ∧ Ints wr s (sumsAt L k) ∧ FreshTd w.heap.size wr o (toldN L k) ∧ Ext w wr) (fun _ _ _ _ _ i _ => L.length - (intOf i).toNat)
  case atStart => exact ⟨0, Nat.zero_le _, rfl, hi1, FreshTd.nil _ _, x1⟩
  case round =>
    clear hi1 x1
    obtain ⟨k, hk, rfl, hs, ho, hx⟩ := hrel
    by_cases hlt : k < L.length
    · obtain ⟨b, off, rfl, dv⟩ := hcv (by omega)
      have hd0 := (dv k hlt).ext hx
      obtain ⟨d, hd⟩ : ∃ d, d = L[k] := ⟨_, rfl⟩
      rw [← hd] at hd0
      obtain ⟨c0, c1, c2, c3, c4⟩ := cdIn_cells hd0
      have hgk := HG.out k hlt
      rw [← hd] at hgk
      have hsk := HS.out k hk
      have HD := Lib.hid hd
      have HGK := Lib.hid hgk
      have HSK := Lib.hid hsk
      have S := Lib.hid (hs.ext (Ext.alloc (Ext.refl _) (.cells #[.int .i64 d.k, .int .i64 d.i, .int .i64 d.f, .int .i64 d.t, .int .i64 d.a] 77)))
      have O := Lib.hid ho
      have X := Lib.hid hx
      have hlt' := hlt
      clear hcv dv hd0 hd hgk hsk hs ho hx
      go_wp2_with fail
      refine (l11Apply_any _ (sumsAt L k) _ _ _ _ _ _ S.out HSK.out HGK.out).mono ?_
      rintro e w2 ⟨v2, rfl, f2, x2⟩
      have X2 := Lib.hid ((X.out.alloc _).trans x2)
      have O2 := Lib.hid (O.out.ext ((Ext.alloc (Ext.refl _) _).trans x2))
      obtain ⟨c, hc⟩ : ∃ c, c = didC d.k d.f d.a (sumsAt L k) := ⟨_, rfl⟩
      obtain ⟨s, hs⟩ : ∃ s, s = didS d.k d.f (sumsAt L k) := ⟨_, rfl⟩
      rw [← hc, ← hs]
      have HY : Hid (toldN L (k + 1) = toldN L k ++ [(⟨c, s⟩ : TldD)]) := Lib.hid (by rw [toldN_succ hlt, ← HD.out, hc, hs]; rfl)
      have HN : Hid (didL d.k d.f d.t d.a (sumsAt L k) = sumsAt L (k + 1)) := Lib.hid (by rw [sumsAt_succ hlt, ← HD.out])
      have hi2 := f2
      rw [HN.out] at hi2
      have I2 := Lib.hid hi2
      have AP := Lib.hid (td_apart hi2 O.out (by simp))
      have XX : Hid (Ext w2 ((w2.alloc (.cells #[.int .i64 c, .int .i64 s] 42)).alloc (.cells #[.int .i64 c, .int .i64 s] 42))) := Lib.hid (Ext.alloc (Ext.alloc (Ext.refl _) _) _)
      have HC := Lib.hid (told_cells w2 c s 42)
      have HL : Hid ((toldN L k).length ≤ 1048576) := Lib.hid (by rw [toldN_len]; have := H60.out; omega)
      have HZ := Lib.hid (Ext.size (X2.out.trans XX.out))
      clear f2 x2 hc hs hi2 c0 c1 c2 c3 c4
      go_wp2_with (at_builtin; refine wpList_pushTd rfl _ _ rfl w.heap.size _ (toldN L k) ⟨c, s⟩ rfl (O2.out.ext XX.out) (w2.heap.size + 1) 1 rfl HC.out.1 HC.out.2 HL.out HZ.out ?_)
      intro v' w' hf' hg' hk'
      have F' : Hid (FreshTd w.heap.size w' v' (toldN L (k + 1))) := Lib.hid (by rw [HY.out]; exact hf')
      have X' := Lib.hid (hk' w (X2.out.trans XX.out) (Nat.le_refl _))
      have J' := Lib.hid ((Fresh.touch (I2.out.ext XX.out) hg' AP.out).ints)
      clear hf' hg' hk' I2 AP O O2 S X X2 XX HC HL HZ HY HN
      go_wp2
      go_roundw
      case rel => exact ⟨k + 1, by omega, by go_num, J'.out, F'.out, X'.out⟩
      case measure => simp [intOf]; omega
    · obtain rfl : k = L.length := by omega
      have hs' := Lib.hid hs
      have ho' := Lib.hid ho.at
      clear hs ho hcv
      go_wp2
      go_ret2
      exact ⟨_, _, rfl, hs'.out, ho'.out, hx⟩
end Go.Proofs.YtcpmfcigciknlaaGreat

namespace Go.Proofs.YtcpmfcigciknlaaGreat
open Go.RowKit
set_option linter.unusedVariables false
def flatCd (L : List CmdD) : List Value := L.flatMap cdVs
theorem flatCd_at {L : List CmdD} {j q : Nat} {v : Value} (h : j < L.length) (hq : (cdVs L[j])[q]? = some v) : (flatCd L)[j * 5 + q]? = some v := by
  induction L generalizing j with
  | nil => simp at h
  | cons x t ih =>
    unfold flatCd
    rw [List.flatMap_cons]
    have hq9 : q < 5 := cd_lt hq
    cases j with
    | zero =>
      rw [Nat.zero_mul, Nat.zero_add, List.getElem?_append_left (by rw [cdVs_len]; exact hq9)]
      exact hq
    | succ j =>
      have h' : j < t.length := by simpa using h
      have i1 := ih h' hq
      unfold flatCd at i1
      rw [List.getElem?_append_right (by rw [cdVs_len]; omega), cdVs_len, show (j + 1) * 5 + q - 5 = j * 5 + q by omega]
      exact i1
def FreshCd (B : Nat) (w : World) (v : Value) (L : List CmdD) : Prop := w.ownsRow B 77 5 v L.length (flatCd L)
theorem FreshCd.nil (B : Nat) (w : World) : FreshCd B w (.slice none 0 0) [] := ⟨rfl, .inl ⟨rfl, rfl⟩⟩
theorem FreshCd.ext {B : Nat} {w w' : World} {v : Value} {L : List CmdD} (h : FreshCd B w v L) (e : Ext w w') : FreshCd B w' v L := e.ownsRow h
theorem FreshCd.at {B : Nat} {w : World} {v : Value} {L : List CmdD} (h : FreshCd B w v L) : Cdz w v L := by
  rcases h.2 with ⟨rfl, hn⟩ | ⟨g, cap, cur, rfl, hb, hg, hnc, hcm, hcs, htake⟩
  · obtain rfl : L = [] := List.eq_nil_of_length_eq_zero hn
    exact Cdz.nil w
  · refine ⟨some ⟨g, 0, none⟩, cap, rfl, by omega, ⟨by omega, by omega, fun h => by cases h⟩, fun _ => ⟨g, 0, rfl, fun j hj => ?_⟩⟩
    rw [Nat.zero_add]
    intro q x hq
    have h9 := cd_lt hq
    rw [World.ownsRow.cellAt h (j * 5 + q) (by omega)]
    exact flatCd_at hj hq
theorem Tryz.infoCmdP : (Tryz.prog.info? 77).map (fun i => (i.zero, i.size, i.bytes)) = some (some (.agg #[.int .i64 0, .int .i64 0, .int .i64 0, .int .i64 0, .int .i64 0]), 5, 40) := by kernel_rfl
theorem step_pushCd {ops : Array Oper} {o : Oper} {a : Act} {w : World} {K : Act → World → Prop} {Q : Exit → Act → World → Prop} {E : Prop} (hgd : o.guard = none) (s x : Operand)
    (ho : o.op = .call { callee := .builtin .append, args := #[s, x], argTypes := #[119, 119] })
    (B : Nat) (v : Value) (L : List CmdD) (y : CmdD) (hs : a.eval s = v) (hf : FreshCd B w v L) (g : Nat) (c : Nat) (hx : a.eval x = .slice (some ⟨g, 0, none⟩) 1 c)
    (hc : BoxV w g (cdVs y)) (m : Nat) (hm : L.length = m) (hl : m ≤ 1048576) (hB : B ≤ w.heap.size)
    (h : ∀ ao cap w', FreshCd B w' (.slice ao (m + 1) cap) (L ++ [y]) → w.grownBy w' v.ownBlock → K (a.put o.dst (.slice ao (m + 1) cap)) w') : if Region.wanted o (yielded ops a.tmps) = true then Oper.wp Tryz.prog o a w K Q else E := by
  obtain ⟨i0, hi, hz0, hz1, hz2⟩ := info_parts Tryz.infoCmdP
  have hw : Region.wanted o (yielded ops a.tmps) = true := by simp [Region.wanted, hgd]
  rw [if_pos hw]
  refine wp_append_own w s x 119 ho B 77 i0 (.agg #[.int .i64 0, .int .i64 0, .int .i64 0, .int .i64 0, .int .i64 0]) 5 40 Tryz.underlying119 hi hz0 hz1 hz2 rfl (by decide) v L.length _ hs hf ⟨g, 0, none⟩ 1 c (cdVs y) hx rfl ?_ ?_ ?_ ?_ hB ?_
  · intro j u hj
    have := hc.cell j u hj
    by_cases h0 : j = 0
    · subst h0; simpa [Addr.add] using this
    · simpa [Addr.add, h0] using this
  · intro u hu
    simp [cdVs] at hu
    rcases hu with rfl | rfl | rfl | rfl | rfl <;> rfl
  · unfold maxLen; omega
  · omega
  · intro v' w' ho' hg _
    have hf' : FreshCd B w' v' (L ++ [y]) := by
      unfold FreshCd
      have e : flatCd (L ++ [y]) = flatCd L ++ cdVs y := by simp [flatCd]
      rw [e, List.length_append]
      exact ho'
    obtain ⟨ao, cap, hv, _⟩ := id hf'.at
    subst hv
    have e : (L ++ [y]).length = m + 1 := by simp [hm]
    rw [e] at hf' ⊢
    exact h ao cap w' hf' hg
theorem FreshCd.touchE {w0 w w' : World} {v : Value} {L : List CmdD} (h : Ext w0 w) (hv : FreshCd w0.heap.size w v L) (t : w.grownBy w' v.ownBlock) : Ext w0 w' :=
  Below.grown h t h.size (fun k hk => (World.ownsRow.lt hv k hk).1)
theorem FreshCd.form {B : Nat} {w : World} {v : Value} {L : List CmdD} (h : FreshCd B w v L) : ∃ ao cap, v = .slice ao L.length cap := by
  obtain ⟨ao, cap, hv, _⟩ := id h.at
  exact ⟨ao, cap, hv⟩
end Go.Proofs.YtcpmfcigciknlaaGreat

namespace Go.Proofs.YtcpmfcigciknlaaGreat
open Go.RowKit
set_option linter.unusedVariables false
theorem step_pushEn {ops : Array Oper} {o : Oper} {a : Act} {w : World} {K : Act → World → Prop} {Q : Exit → Act → World → Prop} {E : Prop} (hgd : o.guard = none) (s x : Operand)
    (ho : o.op = .call { callee := .builtin .append, args := #[s, x], argTypes := #[27, 27] })
    (B : Nat) (v : Value) (L : List EnD) (y : EnD) (hs : a.eval s = v) (hf : FreshEn B w v L) (g : Nat) (c : Nat) (hx : a.eval x = .slice (some ⟨g, 0, none⟩) 1 c)
    (hc : BoxV w g (enVs y)) (m : Nat) (hm : L.length = m) (hl : m ≤ 1048576) (hB : B ≤ w.heap.size)
    (h : ∀ ao cap w', FreshEn B w' (.slice ao (m + 1) cap) (L ++ [y]) → w.grownBy w' v.ownBlock → K (a.put o.dst (.slice ao (m + 1) cap)) w') : if Region.wanted o (yielded ops a.tmps) = true then Oper.wp Tryz.prog o a w K Q else E := by
  obtain ⟨i0, hi, hz0, hz1, hz2⟩ := info_parts Tryz.infoEntry
  have hw : Region.wanted o (yielded ops a.tmps) = true := by simp [Region.wanted, hgd]
  rw [if_pos hw]
  refine wp_append_own w s x 27 ho B 79 i0 (.agg #[.int .i64 0, .int .i64 0, .int .i64 0, .int .i64 0, .int .i64 0, .int .i64 0, .int .i64 0, .int .i64 0, .int .i64 0]) 9 72 Tryz.underlying27 hi hz0 hz1 hz2 rfl (by decide) v L.length _ hs hf ⟨g, 0, none⟩ 1 c (enVs y) hx rfl ?_ ?_ ?_ ?_ hB ?_
  · intro j u hj
    have := hc.cell j u hj
    by_cases h0 : j = 0
    · subst h0; simpa [Addr.add] using this
    · simpa [Addr.add, h0] using this
  · intro u hu
    simp [enVs] at hu
    rcases hu with rfl | rfl | rfl | rfl | rfl | rfl | rfl | rfl | rfl <;> rfl
  · unfold maxLen; omega
  · omega
  · intro v' w' ho' hg _
    have hf' : FreshEn B w' v' (L ++ [y]) := by
      unfold FreshEn
      have e : flatEn (L ++ [y]) = flatEn L ++ enVs y := by simp [flatEn]
      rw [e, List.length_append]
      exact ho'
    obtain ⟨ao, cap, hv, _⟩ := id hf'.at
    subst hv
    have e : (L ++ [y]).length = m + 1 := by simp [hm]
    rw [e] at hf' ⊢
    exact h ao cap w' hf' hg
theorem FreshEn.touchE {w0 w w' : World} {v : Value} {L : List EnD} (h : Ext w0 w) (hv : FreshEn w0.heap.size w v L) (t : w.grownBy w' v.ownBlock) : Ext w0 w' :=
  Below.grown h t h.size (fun k hk => (World.ownsRow.lt hv k hk).1)
theorem FreshEn.form {B : Nat} {w : World} {v : Value} {L : List EnD} (h : FreshEn B w v L) : ∃ ao cap, v = .slice ao L.length cap := by
  obtain ⟨ao, cap, hv, _⟩ := id h.at
  exact ⟨ao, cap, hv⟩
end Go.Proofs.YtcpmfcigciknlaaGreat
