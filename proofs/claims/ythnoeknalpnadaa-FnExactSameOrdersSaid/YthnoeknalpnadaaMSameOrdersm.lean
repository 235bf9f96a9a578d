/- Texts of this proof, part m: words, plain facts, contracts. -/
import Derived.Test.YthnoeknalpnadaaMSameOrdersk
import Derived.Test.YthnoeknalpnadaaMSameOrdersg
import Derived.Test.YthnoeknalpnadaaMSameOrdersl
import Derived.Test.YthnoeknalpnadaaMSameOrderse
import Derived.Test.YthnoeknalpnadaaMSameOrdersi
import Derived.Test.YthnoeknalpnadaaMSameOrdersj
import Derived.Test.YthnoeknalpnadaaMSameOrdersd
import Derived.Test.YthnoeknalpnadaaMSameOrdersa

namespace Go.Proofs.Ythnoeknalpnadaa
open Go.RowKit Go.Maps
set_option linter.unusedVariables false

/-- The row of an instance, read in the map of a table's rows: a row without its command where the list ends ahead of it. -/
theorem rowAny {n : Int} {T : List (List RowD)} {U : Nat → Nat → Value} {B : Nat} {D : DataW Value} {W : World} (hm : RowMap W B 30 D) (hd : MapOf D (inT T) (rowF n T U)) (hli : Lists W n T U) (hg : goodTab n T = true) {p q : Nat} (hp : p < T.length) (hq : q ≤ 5) :
    ∃ (d : RowD) (a : Option Addr) (c : Nat), (∀ W', Ext W W' → (Instr.lookup 156 (.map (some B)) (.agg #[.int .i64 p, .int .i64 ((q : Int) + 1)]) false).run Try.prog W' = .ok (.agg #[.int .i64 d.b, .int .i64 d.v, .int .i64 d.st, .int .i64 d.k, .int .i64 d.i, .int .i64 d.f, .int .i64 d.t, .int .i64 d.a, .int .i64 d.s, .slice a d.l.length c]) W') ∧ goodB d.k d.i d.f d.t d.a = true ∧ d.k = (rowOf n T p q).k ∧ d.f = (rowOf n T p q).f ∧ d.t = (rowOf n T p q).t := by
  have h5 := (goodTab_both hg).1
  cases hi : inT T p q with
  | true =>
    obtain ⟨a, c, hU, _⟩ := hli p q hi
    obtain ⟨hp', hq'⟩ := inT_of hi
    refine ⟨rowOf n T p q, a, c, ?_, ?_, rfl, rfl, rfl⟩
    · intro W' hx
      obtain ⟨v, ps, hrun, hv⟩ := (hm.ext hx).lookup instKeyed Try.underlying156 (zeroRow W') (zd := .held _) (zp := []) rfl (keyOf_inst (a := p) (b := (q : Int) + 1) (wf_small (by omega) (by omega)) (wf_small (by omega) (by omega)))
      rw [hd.val p q hi] at hv
      simp only [asIs, Option.some.injEq, Prod.mk.injEq, DataW.held.injEq] at hv
      rw [hv.1] at hrun
      unfold rowF rowV at hrun
      rw [hU] at hrun
      exact hrun
    · rw [rowOf_in hp' hq']
      exact (goodRow_cmd' (goodTab_row hg hp' hq').1).1
  | false =>
    have ho : T[p].length ≤ q := by
      false_or_by_contra
      rename_i hc
      have := inT_mk hp (by omega : q < T[p].length)
      rw [hi] at this
      cases this
    refine ⟨⟨0, 0, 0, 0, 0, 0, 0, 0, 0, []⟩, none, 0, ?_, by decide, ?_⟩
    · intro W' hx
      have hn := hd.hasNot (p := p) (q := q) (by omega) hi
      obtain ⟨v, ps, hrun, hv⟩ := (hm.ext hx).lookup instKeyed Try.underlying156 (zeroRow W') (zd := .held _) (zp := []) rfl (keyOf_inst (a := p) (b := (q : Int) + 1) (wf_small (by omega) (by omega)) (wf_small (by omega) (by omega)))
      rw [Maps.atKey_of_not_has hn] at hv
      simp only [asIs, Option.some.injEq, Prod.mk.injEq, DataW.held.injEq] at hv
      rw [hv.1] at hrun
      exact hrun
    · rw [rowOf_out hp ho]
      exact ⟨rfl, rfl, rfl⟩
theorem place_snoc {B : List (Nat × Nat)} (hn : B.Nodup) {k : Nat} (hk : k < B.length) : idxOf B B[k] = k := by
  unfold idxOf
  rw [List.findIdx_eq (by omega)]
  refine ⟨by simp, fun j hj => ?_⟩
  have := List.pairwise_iff_getElem.1 hn j k (by omega) hk hj
  simpa using this
/-- The places of the first k. -/
theorem inL_take {B : List (Nat × Nat)} {k : Nat} (hk : k < B.length) {p q : Nat} (he : B[k] = (p, q)) (a b : Nat) : inL (B.take (k + 1)) a b = (inL (B.take k) a b || (decide (a = p) && decide (b = q))) := by
  rw [List.take_succ_eq_append_getElem hk, he]
  exact inL_snoc (z := (p, q)) a b
/-- The map of places, as far as it is filled; what lay in w0 lies there still. -/
def PlW (w0 wr : World) (b bm : Nat) (B : List (Nat × Nat)) (k : Nat) : Prop :=
  (∃ D, RowMap wr b k D ∧ MapOf D (inL (B.take k)) (placeV B)) ∧ wr.cell? ⟨bm, 0, none⟩ = some (.map (some b)) ∧ Ext w0 wr
theorem PlW.on {w0 wr w' : World} {b bm : Nat} {B : List (Nat × Nat)} {k : Nat} (h : PlW w0 wr b bm B k) (e : Ext wr w') : PlW w0 w' b bm B k := by
  obtain ⟨⟨D, h1, h2⟩, h3, h4⟩ := h
  exact ⟨⟨D, h1.ext e, h2⟩, e.cell h3, h4.trans e⟩
theorem PlW.step {w0 wr w' : World} {b bm : Nat} {B : List (Nat × Nat)} {k : Nat} {D : DataW Value} (hd : MapOf D (inL (B.take k)) (placeV B)) (hc : wr.cell? ⟨bm, 0, none⟩ = some (.map (some b))) (hx : Ext w0 wr) (hb : w0.heap.size ≤ b) (hbm : bm ≠ b) (hn : B.Nodup) (hk : k < B.length) {p q : Nat} (he : B[k] = (p, q)) (hl : p < 5 ∧ q < 6)
    (hown : RowMap w' b (k + 1) (D.put (kl (p : Int) ((q : Int) + 1)) (.held (.int .i64 k)))) (hg : wr.grownBy w' (some b)) : PlW w0 w' b bm B (k + 1) := by
  refine ⟨⟨_, hown, ?_⟩, hg.cell hc (by simpa using hbm), hx.turned hg hb⟩
  have hv : placeV B p q = .int .i64 k := by
    unfold placeV
    rw [← he, place_snoc hn hk]
  exact (hd.put (by omega) hv).congr (fun a c => inL_take hk he a c) (fun _ _ _ => rfl)

theorem okS_parts {n : Int} {T : List (List RowD)} {La Lb : List (List Int)} : okS n T La Lb = (goodTab n T && (instsR n La && instsR n Lb)) := by
  unfold okS
  cases hg : goodTab n T with
  | false => simp
  | true =>
    have h := (goodTab_of hg).1
    rw [instsR_good h, instsR_good h]

set_option maxHeartbeats 8000000 in
set_option maxRecDepth 100000 in
theorem implSameOrd_any (n : Int) (u va vb : Value) (T : List (List RowD)) (La Lb : List (List Int)) (w : World) (hu : Rowzz w u T) (ha : Intss w va La) (hb : Intss w vb Lb) (hs : bulkT T ≤ 1099511627776) :
    Calls Try.prog 50 #[va, vb, .agg #[.int .i64 n, u]] w (TwoB (ordS n T La Lb) (okS n T La Lb) w) := by
  have HS := Lib.hid hs
  obtain ⟨w0, hw0⟩ : ∃ w0, w0 = w.alloc (.cells #[.int .i64 n, u] 24) := ⟨_, rfl⟩
  have hx0 : Ext w w0 := by rw [hw0]; exact Ext.alloc1 _ _
  have b0 := attrAt_new w 24 n u
  rw [← hw0] at b0
  have HW0 := Lib.hid hw0
  have HU := Lib.hid (hu.ext hx0)
  have HA := Lib.hid (ha.ext hx0)
  have HBB := Lib.hid (hb.ext hx0)
  have HX := Lib.hid hx0
  obtain ⟨au, cu, rfl, hlu, _, _⟩ := hu
  have HB0 := Lib.hid b0
  clear hx0 b0 hlu hs ha hb hw0
  cases hk : okS n T La Lb with
  | false =>
    have e1 : ordS n T La Lb = false := by unfold ordS; rw [hk]; rfl
    rw [e1]
    rw [okS_parts] at hk
    have HK := Lib.hid hk
    clear hk e1
    obtain ⟨c0, c1⟩ := HB0.out
    go_enter Try.func50, Try.ntmps50
    go_wp2_with fail
    rw [← HW0.out]
    refine (instancesIn_any n _ La _ HA.out).mono ?_
    rintro e w1 ⟨v1, rfl, -, x1⟩
    have X1 := Lib.hid x1
    have c0 := x1.cell c0
    have c1 := x1.cell c1
    clear x1
    go_wp2_with fail
    refine (instancesIn_any n _ Lb _ (HBB.out.ext X1.out)).mono ?_
    rintro e w2 ⟨v2, rfl, -, x2⟩
    have X2 := Lib.hid (X1.out.trans x2)
    have c0 := x2.cell c0
    have c1 := x2.cell c1
    clear x2 X1
    obtain ⟨g, hg⟩ : ∃ g, g = goodTab n T := ⟨_, rfl⟩
    obtain ⟨i1, h1⟩ : ∃ i1, i1 = instsR n La := ⟨_, rfl⟩
    obtain ⟨i2, h2⟩ : ∃ i2, i2 = instsR n Lb := ⟨_, rfl⟩
    have hkk := HK.out
    rw [← hg, ← h1, ← h2] at hkk
    have cG : Calls Try.prog 96 #[.agg #[.int .i64 n, .slice au T.length cu]] w2 (BoolExt g w2) := by
      rw [hg]
      exact implGoodTable_any n _ T _ (HU.out.ext X2.out) HS.out
    have CG := Lib.hid cG
    rw [← h1, ← h2]
    clear hg h1 h2 HK cG
    cases g <;> cases i1 <;> cases i2 <;> (first | (simp at hkk; done) | skip)
    all_goals
      clear hkk
      go_wp2_with fail
      refine CG.out.mono ?_
      rintro e w3 ⟨rfl, x3⟩
      have X3 := Lib.hid (HX.out.trans (X2.out.trans x3))
      clear x3 c0 c1
      go_wp2
      go_ret2
      exact ⟨rfl, X3.out⟩
  | true =>
    have hk2 := hk
    rw [okS_parts] at hk2
    simp only [Bool.and_eq_true] at hk2
    obtain ⟨hg, i1, i2⟩ := hk2
    have hgr := (goodTab_of hg).1
    have o1 := instsB_of hg (by rw [← instsR_good hgr]; exact i1 : instsB n La = true)
    have o2 := instsB_of hg (by rw [← instsR_good hgr]; exact i2 : instsB n Lb = true)
    have e1 : ordS n T La Lb = ordOk n T (instsOf La) (instsOf Lb) (instsOf La).length := by unfold ordS; rw [hk]; rfl
    rw [e1]
    obtain ⟨A, hA⟩ : ∃ A, A = instsOf La := ⟨_, rfl⟩
    obtain ⟨B, hB⟩ : ∃ B, B = instsOf Lb := ⟨_, rfl⟩
    have cA : ∀ W, Intss W va La → Calls Try.prog 116 #[.int .i64 n, va] W (fun e w' => ∃ v, e = .returned (.tuple #[v, .bool true]) ∧ FreshIn W.heap.size w' v A ∧ Ext W w') := fun W h => (instancesIn_any n va La W h).mono (by
      rintro e w' ⟨v, rfl, hf, x⟩
      rw [hA, i1]
      exact ⟨v, rfl, (hf i1).1, x⟩)
    have cB : ∀ W, Intss W vb Lb → Calls Try.prog 116 #[.int .i64 n, vb] W (fun e w' => ∃ v, e = .returned (.tuple #[v, .bool true]) ∧ FreshIn W.heap.size w' v B ∧ Ext W w') := fun W h => (instancesIn_any n vb Lb W h).mono (by
      rintro e w' ⟨v, rfl, hf, x⟩
      rw [hB, i2]
      exact ⟨v, rfl, (hf i2).1, x⟩)
    have hT5 := goodTab_both hg
    have hAb : ∀ z ∈ A, z.1 < T.length ∧ z.2 ≤ 5 := by rw [hA]; exact o1.2.2
    have hBb : ∀ z ∈ B, z.1 < T.length ∧ z.2 ≤ 5 := by rw [hB]; exact o2.2.2
    have hBn : B.Nodup := by rw [hB]; exact o2.2.1
    have hBl : B.length ≤ 30 := few_of hBn (fun z hz => by have := hBb z hz; omega)
    have hFl : (filt B A).length ≤ 30 := by
      have hAn : A.Nodup := by rw [hA]; exact o1.2.1
      have h1 : A.length ≤ 30 := few_of hAn (fun z hz => by have := hAb z hz; omega)
      have h2 : (filt B A).length ≤ A.length := List.length_filter_le _ _
      omega
    rw [← hA, ← hB]
    have HG := Lib.hid hg
    have CA := Lib.hid cA
    have CB := Lib.hid cB
    have HT5 := Lib.hid hT5
    have HAB := Lib.hid hAb
    have HBD := Lib.hid hBb
    have HBN := Lib.hid hBn
    have HFL := Lib.hid hFl
    clear hk hg i1 i2 hgr o1 o2 e1 hA hB cA cB hT5 hAb hBb hBn hFl
    obtain ⟨c0, c1⟩ := HB0.out
    have hmm := @run_makeMap Try.prog
    go_enter Try.func50, Try.ntmps50
    go_wp2_with fail
    rw [← HW0.out]
    refine (CA.out _ HA.out).mono ?_
    rintro e w1 ⟨v1, rfl, f1, x1⟩
    have X1 := Lib.hid x1
    have F1 := Lib.hid f1
    have c0 := x1.cell c0
    have c1 := x1.cell c1
    clear x1 f1
    go_wp2_with fail
    refine (CB.out _ (HBB.out.ext X1.out)).mono ?_
    rintro e w2 ⟨v2, rfl, f2, x2⟩
    have X2 := Lib.hid (X1.out.trans x2)
    have F2 := Lib.hid f2
    have F12 := Lib.hid (F1.out.ext x2)
    have S1 := Lib.hid (World.ownsRow.lt F1.out)
    have S2 := Lib.hid x2.size
    have c0 := x2.cell c0
    have c1 := x2.cell c1
    clear x2 f2 X1 F1
    go_wp2_with fail
    refine (implGoodTable_any n _ T _ (HU.out.ext X2.out) HS.out).mono ?_
    rintro e w3 ⟨rfl, x3⟩
    rw [HG.out]
    have X3 := Lib.hid (X2.out.trans x3)
    have J1 := Lib.hid (F12.out.ext x3)
    have J2 := Lib.hid (F2.out.ext x3).at
    have S3 : Hid (∀ g, v1.ownBlock = some g → g < w3.heap.size) := Lib.hid (fun g e => by have := (S1.out g e).2; have := S2.out; have := x3.size; omega)
    obtain ⟨b, hb⟩ : ∃ b, b = w3.heap.size := ⟨_, rfl⟩
    have S3' := S3.out
    rw [← hb] at S3'
    have S3 := Lib.hid S3'
    have S4 : Hid (w0.heap.size ≤ b) := Lib.hid (by rw [hb]; exact X3.out.size)
    clear x3 c0 c1 X2 F12 F2 S1 S2 S3'
    have hm0 : RowMap (w3.alloc (.map #[] 0)) b 0 (.map []) := by
      rw [hb]
      exact World.ownsMap_made w3 Try.prog 137 asIs
    have hpl : PlW w3 ((w3.alloc (.map #[] 0)).alloc (.cells #[.map (some b)] 153)) b (b + 1) B 0 := by
      refine ⟨⟨_, hm0.ext (Ext.alloc1 _ _), (MapOf.empty (placeV B)).congr (fun p q => by simp [inL]) (fun _ _ h => by cases h)⟩, ?_, (Ext.alloc (Ext.refl _) _).alloc _⟩
      rw [hb]; go_simp
    have HPL := Lib.hid hpl
    have HB3 := Lib.hid hb
    obtain ⟨a2, c2, rfl, hl2, _, hc2⟩ := J2.out
    have HC2 := Lib.hid hc2
    unfold maxLen at hl2
    clear hm0 hpl hb hc2
    go_wp2
    rw [← HB3.out]
    have HBW : Hid (w3.heap.size ≤ b) := Lib.hid (by rw [HB3.out]; exact Nat.le_refl _)
    clear hmm HB3 J2
    go_loopw [49] (fun i wr => ∃ k : Nat, k ≤ B.length ∧ i = .int .i64 k ∧ Hid (PlW w3 wr b (b + 1) B k)) (fun i _ => B.length - (intOf i).toNat)
    case atStart => exact ⟨0, Nat.zero_le _, rfl, HPL⟩
    case round =>
      clear HPL
      obtain ⟨k, hk, rfl, HP⟩ := hrel
      by_cases hlt : k < B.length
      · obtain ⟨bv, ov, rfl, dv⟩ := HC2.out (by omega)
        obtain ⟨y, hy⟩ : ∃ y, y = B[k] := ⟨_, rfl⟩
        have hyb := HBD.out y (by rw [hy]; exact List.getElem_mem hlt)
        have h5 := HT5.out.1
        have HYL : Hid (y.1 < 5 ∧ y.2 < 6) := Lib.hid (by omega)
        obtain ⟨g0, g1⟩ := dv k hlt
        rw [← hy] at g0 g1
        have hxr := HP.out.2.2
        have g0 := hxr.cell g0
        have g1 := hxr.cell g1
        have HY := Lib.hid hy
        have HLT := Lib.hid hlt
        obtain ⟨p, q⟩ := y
        have hpq : p < 5 ∧ q < 6 := HYL.out
        obtain ⟨hp5, hq6⟩ := hpq
        have HP1 := HP.out.on (Ext.alloc1 wr (.cells #[.int .i64 p, .int .i64 ((q : Int) + 1)] 137))
        obtain ⟨⟨D, hm1, hd1⟩, hc1, hx1⟩ := HP1
        have gb := hc1
        have HM := Lib.hid hm1
        have HD := Lib.hid hd1
        have HC1 := Lib.hid hc1
        have HX1 := Lib.hid hx1
        have hk30 : k < 30 := by omega
        clear dv hy hyb h5 hxr hm1 hd1 hc1 hx1 HC2
        go_wp2_with (at_mapUpdate; refine wpList_mapUpdate_own _ rfl _ _ _ 153 rfl 137 3 instKeyed Try.underlying153 asIs b k D rfl HM.out (by unfold maxLen; omega) _ _ (kl (p : Int) ((q : Int) + 1)) rfl rfl (keyOf_inst (wf_small (by omega) (by omega)) (wf_small (by omega) (by omega))) (.held (.int .i64 k)) [] rfl ?_)
        intro w5 hown5 hgrow5
        have HN : Hid (PlW w3 w5 b (b + 1) B (k + 1)) := Lib.hid (PlW.step HD.out HC1.out HX1.out HBW.out (by omega) HBN.out HLT.out HY.out.symm HYL.out hown5 hgrow5)
        clear hown5 hgrow5 HM HD HC1 HX1 HP g0 g1 gb
        go_wp2
        go_roundw
        case rel => exact ⟨k + 1, by omega, by go_num, HN⟩
        case measure => simp [intOf]; omega
      · obtain rfl : k = B.length := by omega
        clear hlt hk hl2 HC2
        have HP1 := HP.out
        obtain ⟨⟨D, hm1, hd1⟩, hc1, hx1⟩ := HP1
        rw [List.take_length] at hd1
        have HM := Lib.hid hm1
        have HD := Lib.hid hd1
        have HC1 := Lib.hid hc1
        have HX1 := Lib.hid hx1
        have gb := hc1
        have XR := Lib.hid (X3.out.trans hx1)
        have FR := Lib.hid (J1.out.ext hx1)
        clear hm1 hd1 hc1 hx1 HP
        go_wp2_with fail
        refine (deleteFunc_any w0.heap.size v1 A B (b + 1) b B.length D _ FR.out (fun g e => by have := S3.out g e; omega) HC1.out HM.out HD.out (fun z hz => by have := HAB.out z hz; have := HT5.out.1; omega)).mono ?_
        rintro e w6 ⟨u6, rfl, f6, hg6⟩
        have X6 : Hid (Ext w0 w6) := Lib.hid (Below.grown XR.out hg6 XR.out.size (fun k hk => (World.ownsRow.lt FR.out k hk).1))
        have M6 : Hid (RowMap w6 b B.length D) := Lib.hid (HM.out.kept hg6 (fun e => by have := S3.out b (by first | exact e | exact e.symm); omega))
        have C6 : Hid (w6.cell? ⟨b + 1, 0, none⟩ = some (.map (some b))) := Lib.hid (hg6.cell HC1.out (fun e => by have := S3.out (b + 1) (by first | exact e | exact e.symm); omega))
        have F6 := Lib.hid f6
        clear hg6 f6 XR FR HM HC1 HX1 gb J1 S3
        obtain ⟨U, hU⟩ := tabAt_of (HU.out.ext X6.out)
        have HT := Lib.hid hU
        obtain ⟨c0, c1⟩ := HB0.out.ext X6.out
        clear hU
        go_wp2_with fail
        refine (rowsIn_any n _ T U _ HT.out HT5.out.1 HT5.out.2).mono ?_
        rintro e w7 ⟨br, Dr, rfl, m7, d7, hb7, x7⟩
        have M7 := Lib.hid m7
        have D7 := Lib.hid d7
        have L7 := Lib.hid ((HT.out.lists n).ext x7)
        have M6 := Lib.hid (M6.out.ext x7)
        have C6 := Lib.hid (x7.cell C6.out)
        have X7 := Lib.hid (HX.out.trans (X6.out.trans x7))
        have FI := F6.out.ext x7
        obtain ⟨F, hF⟩ : ∃ F, F = filt B A := ⟨_, rfl⟩
        have HFF := Lib.hid hF
        rw [← hF] at FI
        have HFB : Hid (∀ z ∈ F, z ∈ B ∧ z.1 < T.length ∧ z.2 ≤ 5) := Lib.hid (by
          rw [hF]
          intro z hz
          have hz' := List.mem_filter.1 hz
          exact ⟨of_decide_eq_true hz'.2, HAB.out z hz'.1⟩)
        have hF30 : F.length ≤ 30 := by rw [hF]; exact HFL.out
        have hfi : (u6 = .slice none 0 0 ∧ F = []) ∨ ∃ g cap, u6 = .slice (some ⟨g, 0, none⟩) F.length cap ∧ F.length ≤ cap ∧ cap ≤ maxLen := by
          rcases FI.2 with ⟨h1, h2⟩ | ⟨g, cap, cur, h1, _, _, h2, h3, _, _⟩
          · exact .inl ⟨h1, List.eq_nil_of_length_eq_zero h2⟩
          · exact .inr ⟨g, cap, h1, h2, h3⟩
        have I7 := Lib.hid FI.at
        clear m7 d7 hb7 x7 c0 c1 F6 hF FI HT X6 HFL HAB
        rcases hfi with ⟨rfl, hFn⟩ | ⟨g, cap, rfl, hcap, hcm⟩
        · have HO : Hid (ordOk n T A B A.length = true) := Lib.hid (by rw [ordOk_filt, ← HFF.out, hFn]; exact List.Pairwise.nil)
          clear I7 HFB M6 C6 M7 D7 L7
          go_wp2
          refine wp_loop_rounds 1 ?_; rw [rounds_succ]
          go_wp2
          go_ret2
          exact ⟨by rw [HO.out]; rfl, X7.out⟩
        · obtain ⟨_, _, hv7, _, _, hc7⟩ := I7.out
          simp only [Value.slice.injEq] at hv7
          obtain ⟨ha7, -, -⟩ := hv7
          have hcell : ∀ j (h : j < F.length), w7.cell? ⟨g, j * 2, none⟩ = some (.int .i64 (F[j].1 : Int)) ∧ w7.cell? ⟨g, j * 2 + 1, none⟩ = some (.int .i64 ((F[j].2 : Int) + 1)) := by
            intro j h
            obtain ⟨b', o', e', hc⟩ := hc7 (by omega)
            rw [← ha7] at e'
            simp only [Option.some.injEq, Addr.mk.injEq, and_true] at e'
            obtain ⟨rfl, rfl⟩ := e'
            have := hc j h
            simpa using this
          have HCE := Lib.hid hcell
          unfold maxLen at hcm
          clear hc7 ha7 hcell I7
          go_wp2
          go_loopw [65] (fun i wr => ∃ k : Nat, k ≤ F.length ∧ i = .int .i64 k ∧ Hid (noClash n T B F k = true) ∧ Hid (Ext w7 wr)) (fun i _ => F.length - (intOf i).toNat)
          case atStart => exact ⟨0, Nat.zero_le _, rfl, Lib.hid rfl, Lib.hid (Ext.refl _)⟩
          case round =>
            obtain ⟨k, hk, rfl, HNC, HXR⟩ := hrel
            by_cases hlt : k < F.length
            · obtain ⟨x, hx⟩ : ∃ x, F[k]? = some x := ⟨_, List.getElem?_eq_getElem hlt⟩
              have hxe : F[k] = x := by rw [List.getElem?_eq_getElem hlt] at hx; exact Option.some.inj hx
              obtain ⟨g0, g1⟩ := HCE.out k hlt
              rw [hxe] at g0 g1
              have g0 := HXR.out.cell g0
              have g1 := HXR.out.cell g1
              have HXK := Lib.hid hx
              have HXB := Lib.hid (HFB.out x (List.mem_of_getElem? hx))
              have hxg : F[k]?.getD (0, 0) = x := by rw [hx]; rfl
              have HXG := Lib.hid hxg
              obtain ⟨p, q⟩ := x
              have hpT : p < T.length := HXB.out.2.1
              have hq5 : q ≤ 5 := HXB.out.2.2
              have hpB : (p, q) ∈ B := HXB.out.1
              have xa := HXR.out.alloc (.cells #[.int .i64 p, .int .i64 ((q : Int) + 1)] 137)
              obtain ⟨wa, hwa⟩ : ∃ wa, wa = wr.alloc (.cells #[.int .i64 p, .int .i64 ((q : Int) + 1)] 137) := ⟨_, rfl⟩
              rw [← hwa] at xa
              have HWA := Lib.hid hwa
              have XA := Lib.hid xa
              have a0 : wa.cell? ⟨wr.heap.size, 0, none⟩ = some (.int .i64 p) := by rw [hwa]; go_simp
              have a1 : wa.cell? ⟨wr.heap.size, 1, none⟩ = some (.int .i64 ((q : Int) + 1)) := by rw [hwa]; go_simp
              obtain ⟨ba, hba⟩ : ∃ ba, ba = wr.heap.size := ⟨_, rfl⟩
              rw [← hba] at a0 a1
              have A01 := Lib.hid (And.intro a0 a1)
              have HBA := Lib.hid hba
              have HLT := Lib.hid hlt
              have hkc : (k : Int) + 1 ≤ cap := by omega
              clear hx hxe hxg xa hwa a0 a1 hba
              by_cases hcc : cap = k + 1
              · subst hcc
                have hz : F.length - (k + 1) = 0 := by omega
                have HN1 : Hid (noClash n T B F (k + 1) = true) := Lib.hid (noClash_succ HNC.out (by rw [List.length_drop, hz]; unfold noClashAt; simp))
                clear HNC HCE HFB M6 C6 M7 D7 L7
                go_wp2
                refine wp_loop_rounds 1 ?_; rw [rounds_succ]
                go_wp2
                go_roundw
                case rel => exact ⟨k + 1, by have := HLT.out; omega, by go_num, HN1, Lib.hid (by rw [HWA.out] at XA; exact XA.out)⟩
                case measure => simp [intOf]; have := HLT.out; omega
              · have HNL : Hid (noClashAt n T B F k 0 = true) := Lib.hid (by unfold noClashAt; simp)
                obtain ⟨m, hm⟩ : ∃ m, m = F.length - (k + 1) := ⟨_, rfl⟩
                have hm2 : m = (F.drop (k + 1)).length := by rw [List.length_drop]; exact hm
                go_wp2
                rw [← hm]
                rw [← HWA.out, ← HBA.out]
                have HMD := Lib.hid hm2
                have hm30 : m ≤ 30 := by omega
                clear hm hm2 hcc
                go_loopw [75] (fun i W => ∃ j : Nat, j ≤ m ∧ i = .int .i64 j ∧ Hid (noClashAt n T B F k j = true) ∧ Hid (Ext wa W)) (fun i _ => m - (intOf i).toNat)
                case atStart => exact ⟨0, Nat.zero_le _, rfl, HNL, Lib.hid (Ext.refl _)⟩
                case round =>
                  clear HNL
                  obtain ⟨j, hj, rfl, HNA, HXW⟩ := hrel
                  by_cases hjm : j < m
                  · obtain ⟨y, hy⟩ : ∃ y, (F.drop (k + 1))[j]? = some y := ⟨_, List.getElem?_eq_getElem (by rw [← HMD.out]; exact hjm)⟩
                    have HYK := Lib.hid hy
                    have HJM := Lib.hid hjm
                    have HX7W := Lib.hid (XA.out.trans HXW.out)
                    rw [List.getElem?_drop] at hy
                    obtain ⟨hy1, hy2⟩ := List.getElem?_eq_some_iff.1 hy
                    obtain ⟨g0, g1⟩ := HCE.out (k + 1 + j) hy1
                    rw [hy2] at g0 g1
                    rw [Nat.add_mul] at g0 g1
                    have g0 := HX7W.out.cell g0
                    have g1 := HX7W.out.cell g1
                    have HYB := Lib.hid (HFB.out y (List.mem_of_getElem? hy))
                    obtain ⟨p', q'⟩ := y
                    have hpT' : p' < T.length := HYB.out.2.1
                    have hq5' : q' ≤ 5 := HYB.out.2.2
                    have hpB' : (p', q') ∈ B := HYB.out.1
                    obtain ⟨wy, hwy⟩ : ∃ wy, wy = wr.alloc (.cells #[.int .i64 p', .int .i64 ((q' : Int) + 1)] 137) := ⟨_, rfl⟩
                    have xy : Ext wa wy := by rw [hwy]; exact HXW.out.alloc _
                    have x7y : Ext w7 wy := XA.out.trans xy
                    have y0 : wy.cell? ⟨wr.heap.size, 0, none⟩ = some (.int .i64 p') := by rw [hwy]; go_simp
                    have y1 : wy.cell? ⟨wr.heap.size, 1, none⟩ = some (.int .i64 ((q' : Int) + 1)) := by rw [hwy]; go_simp
                    obtain ⟨byy, hby⟩ : ∃ byy, byy = wr.heap.size := ⟨_, rfl⟩
                    have HWY := Lib.hid hwy
                    have HBY := Lib.hid hby
                    rw [← hby] at y0 y1
                    have X7Y := Lib.hid x7y
                    have XY := Lib.hid xy
                    obtain ⟨ix, hix⟩ : ∃ ix, ix = idxOf B (p, q) := ⟨_, rfl⟩
                    obtain ⟨iy, hiy⟩ : ∃ iy, iy = idxOf B (p', q') := ⟨_, rfl⟩
                    obtain ⟨d, ad, cd, hrx, hgd, hk1, hf1, ht1⟩ := rowAny M7.out D7.out L7.out HG.out hpT hq5
                    obtain ⟨d', ad', cd', hry, hgd', hk2, hf2, ht2⟩ := rowAny M7.out D7.out L7.out HG.out hpT' hq5'
                    obtain ⟨bi, hbi⟩ : ∃ bi, bi = interB d.k d.f d.t d'.k d'.f d'.t := ⟨_, rfl⟩
                    have hcl : clash n T B (p, q) (p', q') = (decide (iy < ix) && bi) := by
                      unfold clash intf
                      rw [hbi, hk1, hf1, ht1, hk2, hf2, ht2, hix, hiy]
                    have HCL := Lib.hid hcl
                    have gbm := fun E : ExtOf wy => E.cell (x7y.cell C6.out)
                    have gx0 := fun E : ExtOf wy => E.cell (xy.cell A01.out.1)
                    have gx1 := fun E : ExtOf wy => E.cell (xy.cell A01.out.2)
                    have gy0 := fun E : ExtOf wy => E.cell y0
                    have gy1 := fun E : ExtOf wy => E.cell y1
                    have lx := fun E : ExtOf wy => placeAt (M6.out.ext (x7y.trans E.2)) HD.out hpB
                    have ly := fun E : ExtOf wy => placeAt (M6.out.ext (x7y.trans E.2)) HD.out hpB'
                    rw [← hix] at lx
                    rw [← hiy] at ly
                    have rx := fun E : ExtOf wy => hrx _ (x7y.trans E.2)
                    have ry := fun E : ExtOf wy => hry _ (x7y.trans E.2)
                    have cI : ∀ E : ExtOf wy, Calls Try.prog 120 #[.agg #[.int .i64 d.b, .int .i64 d.v, .int .i64 d.st, .int .i64 d.k, .int .i64 d.i, .int .i64 d.f, .int .i64 d.t, .int .i64 d.a, .int .i64 d.s, .slice ad d.l.length cd], .agg #[.int .i64 d'.b, .int .i64 d'.v, .int .i64 d'.st, .int .i64 d'.k, .int .i64 d'.i, .int .i64 d'.f, .int .i64 d'.t, .int .i64 d'.a, .int .i64 d'.s, .slice ad' d'.l.length cd']] E.1 (BoolExt bi E.1) := fun E => by
                      have h := doInterfere_any d d' (.slice ad d.l.length cd) (.slice ad' d'.l.length cd') E.1 ⟨_, _, _, rfl⟩ ⟨_, _, _, rfl⟩
                      rw [hgd, hgd', ← hbi] at h
                      exact h
                    clear hy hy1 hy2 hwy hby xy x7y y0 y1 hix hiy hrx hry hgd hgd' hk1 hf1 ht1 hk2 hf2 ht2 hbi hcl HCE HFB M7 D7 L7 M6 C6 HYB hpT' hq5' hpB'
                    by_cases hlt2 : iy < ix
                    · have hd : decide (iy < ix) = true := decide_eq_true hlt2
                      have hcl2 : clash n T B (p, q) (p', q') = bi := by rw [HCL.out, decide_eq_true hlt2, Bool.true_and]
                      have HCL := Lib.hid hcl2
                      clear hlt2 hcl2
                      go_wp2_with fail
                      rw [← HWY.out, ← HBY.out]
                      refine wp_region_ext_lit (by kernel_rfl) (by kernel_rfl) ?_
                      repeat (go_big_quiet_step (first | (go_at_call 120; with_reducible exact Calls.ext_of _ (cI _))))
                      refine wpQuiet_nil ?_
                      rintro _ ⟨E, rfl⟩
                      have XE := Lib.hid (XY.out.trans E.2)
                      clear gbm gx0 gx1 gy0 gy1 lx ly rx ry cI g0 g1
                      cases bi with
                      | true =>
                        have HO : Hid (ordOk n T A B A.length = false) := Lib.hid (clash_ord (by rw [← HFF.out]; exact HXK.out) (by rw [← HFF.out]; exact HYK.out) HCL.out)
                        go_wp2
                        go_ret2
                        exact ⟨by rw [HO.out]; rfl, X7.out.trans (XA.out.trans XE.out)⟩
                      | false =>
                        have HN := Lib.hid (noClashAt_succ HNA.out HYK.out (by rw [HXG.out]; exact HCL.out))
                        go_wp2
                        go_roundw
                        case rel => exact ⟨j + 1, by have := HJM.out; omega, by go_num, HN, XE⟩
                        case measure => simp [intOf]; have := HJM.out; omega
                    · have hd : decide (iy < ix) = false := decide_eq_false hlt2
                      have hcl2 : clash n T B (p, q) (p', q') = false := by rw [HCL.out, decide_eq_false hlt2, Bool.false_and]
                      have HN := Lib.hid (noClashAt_succ HNA.out HYK.out (by rw [HXG.out]; exact hcl2))
                      clear hlt2 hcl2 rx ry cI
                      go_wp2_with fail
                      rw [← HWY.out, ← HBY.out]
                      refine wp_region_ext_lit (by kernel_rfl) (by kernel_rfl) ?_
                      repeat (go_big_quiet_step (first | fail))
                      refine wpQuiet_nil ?_
                      rintro _ ⟨E, rfl⟩
                      have XE := Lib.hid (XY.out.trans E.2)
                      clear gbm gx0 gx1 gy0 gy1 lx ly g0 g1
                      go_wp2
                      go_roundw
                      case rel => exact ⟨j + 1, by have := HJM.out; omega, by go_num, HN, XE⟩
                      case measure => simp [intOf]; have := HJM.out; omega
                  · obtain rfl : j = m := by omega
                    have HN1 : Hid (noClash n T B F (k + 1) = true) := Lib.hid (noClash_succ HNC.out (by rw [← HMD.out]; exact HNA.out))
                    have XF := Lib.hid (XA.out.trans HXW.out)
                    clear HNA HCE HFB M6 C6 M7 D7 L7
                    go_wp2
                    go_roundw
                    case rel => exact ⟨k + 1, by have := HLT.out; omega, by go_num, HN1, XF⟩
                    case measure => simp [intOf]; have := HLT.out; omega
            · obtain rfl : k = F.length := by omega
              have HO : Hid (ordOk n T A B A.length = true) := Lib.hid (noClash_ord (by rw [← HFF.out]; exact HNC.out))
              clear HCE HFB M6 C6 M7 D7 L7
              go_wp2
              go_ret2
              exact ⟨by rw [HO.out]; rfl, X7.out.trans HXR.out⟩
end Go.Proofs.Ythnoeknalpnadaa

namespace Go.Proofs.Ythnoeknalpnadaa
open Go.RowKit
set_option linter.unusedVariables false

def lensR (R : List RowD) : List Nat := R.map fun r => r.l.length
theorem lensR_len (R : List RowD) : (lensR R).length = R.length := by simp [lensR]
theorem lensR_get {R : List RowD} {k : Nat} (h : k < R.length) : (lensR R)[k]'(by rw [lensR_len]; exact h) = R[k].l.length := by simp [lensR]

set_option maxHeartbeats 1000000 in
theorem szRowS_any (v : Value) (R : List RowD) (left : Int) (w : World) (hv : Rowz w v R) (h0 : 0 ≤ left) (h1 : left ≤ 1099511627776) :
    Calls Try.prog 20 #[v, .int .i64 left] w (IntExt (lessened left (bulkR R)) w) := by
  obtain ⟨av, cv, rfl, hlv, _, hcv⟩ := hv
  unfold maxLen at hlv
  have hb : bulkR R = R.length + (lensR R).sum := rfl
  by_cases hlt : left < R.length
  · rw [lessened_no (by omega)]
    clear hb hcv
    go_enter Try.func20, Try.ntmps20
    go_wp2
    go_ret
    exact ⟨rfl, Ext.refl _⟩
  · have HBK := Lib.hid hb
    have hle : (R.length : Int) ≤ left := by omega
    clear hb hlt
    go_enter Try.func20, Try.ntmps20
    go_wp2
    go_loopw [1, 5] (fun m i wr => ∃ (k : Nat) (r : Int), k ≤ R.length ∧ i = .int .i64 k ∧ m = .int .i64 r ∧ 0 ≤ r ∧ Hid (r = left - R.length - sumN (lensR R) k) ∧ Ext w wr) (fun _ i _ => R.length - (intOf i).toNat)
    case atStart => exact ⟨0, left - R.length, Nat.zero_le _, rfl, rfl, by omega, Lib.hid (by rw [sumN_zero]; simp), Ext.refl _⟩
    case round =>
      obtain ⟨k, r, hk, rfl, rfl, hr0, hr, hx⟩ := hrel
      have hr1 : r ≤ 1099511627776 := by have := hr.out; omega
      by_cases hlt : k < R.length
      · obtain ⟨b, off, rfl, dv⟩ := hcv (by omega)
        obtain ⟨u, hu, iu⟩ := dv k hlt
        have hs := sumN_succ (g := lensR R) (k := k) (by rw [lensR_len]; exact hlt)
        rw [lensR_get hlt] at hs
        obtain ⟨d, hd⟩ : ∃ d, d = R[k] := ⟨_, rfl⟩
        rw [← hd] at hu iu hs
        obtain ⟨c0, c1, c2, c3, c4, c5, c6, c7, c8, c9⟩ := hu.ext hx
        have IU := Lib.hid (iu.ext hx)
        have HS := Lib.hid hs
        clear hcv dv hu iu hs hd
        by_cases hl : r < d.l.length
        · have L := Lib.hid (lessened_no hl)
          have hsum := sumN_mono (g := lensR R) (k := k + 1) (by rw [lensR_len]; omega)
          have HL := Lib.hid (show lessened left (bulkR R) = -1 from lessened_no (by have h1 := hr.out; have h2 := HS.out; have h3 := HBK.out; omega))
          clear hl hsum
          go_wp2_with fail
          refine (szRow_any d _ _ _ IU.out hr0 (by omega)).mono ?_
          rintro e w2 ⟨rfl, x2⟩
          have hx2 := hx.trans x2
          clear x2 hx c0 c1 c2 c3 c4 c5 c6 c7 c8 c9
          rw [L.out]
          go_wp2
          go_ret
          exact ⟨by rw [HL.out]; rfl, hx2⟩
        · obtain ⟨q, hq⟩ : ∃ q, q = r - (d.l.length : Int) := ⟨_, rfl⟩
          have hq0 : 0 ≤ q := by omega
          have L : Hid (lessened r d.l.length = q) := Lib.hid (by rw [hq]; exact lessened_yes (by omega))
          have HQ := Lib.hid hq
          clear hl hq
          go_wp2_with fail
          refine (szRow_any d _ _ _ IU.out hr0 (by omega)).mono ?_
          rintro e w2 ⟨rfl, x2⟩
          have hx2 := hx.trans x2
          clear x2 hx c0 c1 c2 c3 c4 c5 c6 c7 c8 c9
          rw [L.out]
          go_wp2
          go_roundw
          case rel => exact ⟨k + 1, q, by omega, by go_num, rfl, hq0, Lib.hid (by have h1 := hr.out; have h2 := HS.out; have h3 := HQ.out; omega), hx2⟩
          case measure => simp [intOf]; omega
      · obtain rfl : k = R.length := by omega
        go_wp2
        go_ret
        refine ⟨?_, hx⟩
        have h1 := hr.out
        have h3 := HBK.out
        have h4 := sumN_all (lensR R)
        rw [lensR_len] at h4
        have he : lessened left (bulkR R) = r := by rw [lessened_yes (by omega)]; omega
        rw [he]; rfl

def bulks (T : List (List RowD)) : List Nat := T.map bulkR
theorem bulks_len (T : List (List RowD)) : (bulks T).length = T.length := by simp [bulks]
theorem bulks_get {T : List (List RowD)} {k : Nat} (h : k < T.length) : (bulks T)[k]'(by rw [bulks_len]; exact h) = bulkR T[k] := by simp [bulks]

set_option maxHeartbeats 1000000 in
theorem szRowSS_any (v : Value) (T : List (List RowD)) (left : Int) (w : World) (hv : Rowzz w v T) (h0 : 0 ≤ left) (h1 : left ≤ 1099511627776) :
    Calls Try.prog 101 #[v, .int .i64 left] w (IntExt (lessened left (bulkT T)) w) := by
  obtain ⟨av, cv, rfl, hlv, _, hcv⟩ := hv
  unfold maxLen at hlv
  have hb : bulkT T = T.length + (bulks T).sum := rfl
  by_cases hlt : left < T.length
  · rw [lessened_no (by omega)]
    clear hb hcv
    go_enter Try.func101, Try.ntmps101
    go_wp2
    go_ret
    exact ⟨rfl, Ext.refl _⟩
  · have HBK := Lib.hid hb
    have hle : (T.length : Int) ≤ left := by omega
    clear hb hlt
    go_enter Try.func101, Try.ntmps101
    go_wp2
    go_loopw [1, 5] (fun m i wr => ∃ (k : Nat) (r : Int), k ≤ T.length ∧ i = .int .i64 k ∧ m = .int .i64 r ∧ 0 ≤ r ∧ Hid (r = left - T.length - sumN (bulks T) k) ∧ Ext w wr) (fun _ i _ => T.length - (intOf i).toNat)
    case atStart => exact ⟨0, left - T.length, Nat.zero_le _, rfl, rfl, by omega, Lib.hid (by rw [sumN_zero]; simp), Ext.refl _⟩
    case round =>
      obtain ⟨k, r, hk, rfl, rfl, hr0, hr, hx⟩ := hrel
      have hr1 : r ≤ 1099511627776 := by have := hr.out; omega
      by_cases hlt : k < T.length
      · obtain ⟨b, off, rfl, dv⟩ := hcv (by omega)
        obtain ⟨u, hu, iu⟩ := dv k hlt
        have hs := sumN_succ (g := bulks T) (k := k) (by rw [bulks_len]; exact hlt)
        rw [bulks_get hlt] at hs
        obtain ⟨d, hd⟩ : ∃ d, d = T[k] := ⟨_, rfl⟩
        rw [← hd] at iu hs
        have c0 := hx.cell hu
        have IU := Lib.hid (iu.ext hx)
        have HS := Lib.hid hs
        clear hcv dv hu iu hs hd
        by_cases hl : r < bulkR d
        · have L := Lib.hid (lessened_no hl)
          have hsum := sumN_mono (g := bulks T) (k := k + 1) (by rw [bulks_len]; omega)
          have HL := Lib.hid (show lessened left (bulkT T) = -1 from lessened_no (by have h1 := hr.out; have h2 := HS.out; have h3 := HBK.out; omega))
          clear hl hsum
          go_wp2_with fail
          refine (szRowS_any _ d _ _ IU.out hr0 (by omega)).mono ?_
          rintro e w2 ⟨rfl, x2⟩
          have hx2 := hx.trans x2
          clear x2 hx c0
          rw [L.out]
          go_wp2
          go_ret
          exact ⟨by rw [HL.out]; rfl, hx2⟩
        · obtain ⟨q, hq⟩ : ∃ q, q = r - (bulkR d : Int) := ⟨_, rfl⟩
          have hq0 : 0 ≤ q := by omega
          have L : Hid (lessened r (bulkR d) = q) := Lib.hid (by rw [hq]; exact lessened_yes (by omega))
          have HQ := Lib.hid hq
          clear hl hq
          go_wp2_with fail
          refine (szRowS_any _ d _ _ IU.out hr0 (by omega)).mono ?_
          rintro e w2 ⟨rfl, x2⟩
          have hx2 := hx.trans x2
          clear x2 hx c0
          rw [L.out]
          go_wp2
          go_roundw
          case rel => exact ⟨k + 1, q, by omega, by go_num, rfl, hq0, Lib.hid (by have h1 := hr.out; have h2 := HS.out; have h3 := HQ.out; omega), hx2⟩
          case measure => simp [intOf]; omega
      · obtain rfl : k = T.length := by omega
        go_wp2
        go_ret
        refine ⟨?_, hx⟩
        have h1 := hr.out
        have h3 := HBK.out
        have h4 := sumN_all (bulks T)
        rw [bulks_len] at h4
        have he : lessened left (bulkT T) = r := by rw [lessened_yes (by omega)]; omega
        rw [he]; rfl

set_option maxHeartbeats 1000000 in
theorem szTable_any (n : Int) (u : Value) (T : List (List RowD)) (left : Int) (w : World) (hv : Rowzz w u T) (h0 : 0 ≤ left) (h1 : left ≤ 1099511627776) :
    Calls Try.prog 36 #[.agg #[.int .i64 n, u], .int .i64 left] w (IntExt (lessened left (bulkT T)) w) := by
  have HB := attrAt_new w 52 n u
  by_cases hlt : left < bulkT T
  · have L := Lib.hid (lessened_no hlt)
    clear hlt
    go_enter Try.func36, Try.ntmps36
    go_wp2_with fail
    refine (szRowSS_any _ _ _ _ (hv.ext (Ext.alloc (Ext.refl _) _)) h0 h1).mono ?_
    rintro e w1 ⟨rfl, x1⟩
    have hx := (Ext.alloc (Ext.refl w) _).trans x1
    clear x1 HB
    rw [L.out]
    go_wp2
    go_ret
    exact ⟨by rw [L.out]; rfl, hx⟩
  · obtain ⟨q, hq⟩ : ∃ q, q = left - (bulkT T : Int) := ⟨_, rfl⟩
    have hq0 : 0 ≤ q := by omega
    have LR : Hid (lessened left (bulkT T) = q) := Lib.hid (by rw [hq]; exact lessened_yes (by omega))
    clear hlt hq
    rw [LR.out]
    go_enter Try.func36, Try.ntmps36
    go_wp2_with fail
    refine (szRowSS_any _ _ _ _ (hv.ext (Ext.alloc (Ext.refl _) _)) h0 h1).mono ?_
    rintro e w1 ⟨rfl, x1⟩
    have hx := (Ext.alloc (Ext.refl w) _).trans x1
    clear x1 HB
    rw [LR.out]
    go_wp2
    go_ret
    exact ⟨rfl, hx⟩

end Go.Proofs.Ythnoeknalpnadaa

namespace Go.Proofs.Ythnoeknalpnadaa
open Go.RowKit
set_option linter.unusedVariables false

set_option maxHeartbeats 800000 in
theorem szIntSS_any (v : Value) (L : List (List Int)) (left : Int) (w : World) (hv : Intss w v L) (h0 : 0 ≤ left) (h1 : left ≤ 1099511627776) :
    Calls Try.prog 47 #[v, .int .i64 left] w (IntExt (lessened left (bulk L)) w) := by
  obtain ⟨av, cv, rfl, hlv, _, hcv⟩ := hv
  unfold maxLen at hlv
  have hb : bulk L = L.length + (L.map List.length).sum := rfl
  by_cases hlt : left < L.length
  · rw [lessened_no (by omega)]
    clear hb hcv
    go_enter Try.func47, Try.ntmps47
    go_wp2
    go_ret
    exact ⟨rfl, Ext.refl _⟩
  · have HBK := Lib.hid hb
    have hle : (L.length : Int) ≤ left := by omega
    clear hb hlt
    go_enter Try.func47, Try.ntmps47
    go_wp2
    go_loopw [1, 5] (fun m i wr => ∃ (k : Nat) (r : Int), k ≤ L.length ∧ i = .int .i64 k ∧ m = .int .i64 r ∧ 0 ≤ r ∧ Hid (r = left - L.length - sumTo L k) ∧ wr = w) (fun _ i _ => L.length - (intOf i).toNat)
    case atStart => exact ⟨0, left - L.length, Nat.zero_le _, rfl, rfl, by omega, Lib.hid (by simp [sumTo]), rfl⟩
    case round =>
      obtain ⟨k, r, hk, rfl, rfl, hr0, hr, rfl⟩ := hrel
      have hr1 : r ≤ 1099511627776 := by have := hr.out; omega
      by_cases hk' : k < L.length
      · obtain ⟨bv, ov, rfl, dv⟩ := hcv (by omega)
        obtain ⟨x, hx1, ix⟩ := dv k hk'
        rw [List.getElem?_eq_getElem hk', Option.getD_some] at ix
        have hs := sumTo_succ hk'
        have hm := sumTo_mono (L := L) (k := k + 1) (by omega)
        have HS := Lib.hid (And.intro hs hm)
        clear hcv dv hs hm
        go_wp2_with fail
        refine (szIntS_any _ _ _ _ ix hr0 hr1).mono ?_
        rintro e w' ⟨rfl, rfl⟩
        by_cases hc : r < (L[k]).length
        · rw [lessened_no hc]
          go_wp2
          go_ret
          refine ⟨?_, Ext.refl _⟩
          have h1 := hr.out
          have h2 := HS.out
          have h3 := HBK.out
          rw [lessened_no (by omega)]
          rfl
        · rw [lessened_yes (by omega)]
          skip
          have hr2 : 0 ≤ r - (L[k]).length := by omega
          go_wp2
          go_roundw
          case rel => exact ⟨k + 1, r - (L[k]).length, by omega, by go_num, rfl, hr2, Lib.hid (by have h1 := hr.out; have h2 := HS.out.1; omega), by trivial⟩
          case measure => simp [intOf]; omega
      · obtain rfl : k = L.length := by omega
        go_wp2
        go_ret
        refine ⟨?_, Ext.refl _⟩
        have h1 := hr.out
        have h3 := HBK.out
        rw [sumTo_all] at h1
        have he : lessened left (bulk L) = r := by rw [lessened_yes (by omega)]; omega
        rw [he]; rfl

theorem set_nextS (vs : List Value) (z n : Value) (k m : Nat) (hk : vs.length = k) (hm : k < m) : (vs ++ List.replicate (m - k) n).set k z = (vs ++ [z]) ++ List.replicate (m - (k + 1)) n := by
  rw [List.set_append_right _ _ (by omega), hk, Nat.sub_self]
  have e : m - k = (m - (k + 1)) + 1 := by omega
  rw [e, List.replicate_succ, List.set_cons_zero]
  simp

set_option maxHeartbeats 800000 in
theorem toIntSS_any (u : Value) (L : List (List Int)) (w : World) (hu : Intss w u L) (hs : bulk L ≤ 1099511627776) :
    Calls Try.prog 49 #[u] w (NewIntss L w) := by
  obtain ⟨au, cu, rfl, hlu, _, hcu⟩ := hu
  unfold maxLen at hlu
  have hL : L.length ≤ 1099511627776 := by unfold bulk at hs; omega
  obtain ⟨i0, hi, hz0, hz1, hz2⟩ := info_parts Try.infoInts
  have HS := Lib.hid hs
  clear hs
  go_enter Try.func49, Try.ntmps49
  go_wp2_with (at_make; refine wpList_make_full _ rfl _ _ 78 rfl w.heap.size 37 i0 (.slice none 0 0) 1 Try.underlying78 hi hz0 hz1 _ _ _ _ L.length rfl rfl rfl rfl ?c1 ?c2 ?c3 ?_)
  case c1 => rw [hz2]; omega
  case c2 => unfold maxLen; omega
  case c3 => simp
  intro w1 ho1 hg1
  have hx1 : Ext w w1 := ext_of_grown hg1
  have ho : w1.ownsRow w.heap.size 37 1 (.slice (some ⟨w.heap.size, 0, none⟩) L.length L.length) L.length (([] : List Value) ++ List.replicate (L.length - 0) (.slice none 0 0)) := by
    rw [toList_madeCells_one] at ho1
    simpa using ho1
  have hsz : w.heap.size < w1.heap.size := by
    rcases ho1.2 with ⟨h, _⟩ | ⟨g, cap, cur, h, hb, hg, _⟩
    · cases h
    · simp only [Value.slice.injEq, Option.some.injEq, Addr.mk.injEq, and_true, true_and] at h
      obtain ⟨rfl, _⟩ := h
      exact (Array.getElem?_eq_some_iff.1 hg).1
  clear ho1 hg1 hz0 hz1 hz2 hi
  go_wp2
  go_loopw [4] (fun i wr => ∃ (k : Nat) (vs : List Value), k ≤ L.length ∧ i = .int .i64 k ∧ wr.ownsRow w.heap.size 37 1 (.slice (some ⟨w.heap.size, 0, none⟩) L.length L.length) L.length (vs ++ List.replicate (L.length - k) (.slice none 0 0)) ∧ Rows_ (w.heap.size + 1) wr vs (L.take k) ∧ w.heap.size < wr.heap.size ∧ Ext w wr) (fun i _ => L.length - (intOf i).toNat)
  case atStart => exact ⟨0, [], Nat.zero_le _, rfl, ho, by simpa using Rows_.nil _ _, hsz, hx1⟩
  case round =>
    clear ho hx1 hsz
    obtain ⟨k, vs, hk, rfl, ho, hR, hsz, hx⟩ := hrel
    have hvl : vs.length = k := by rw [hR.len]; simp; omega
    by_cases hlt : k < L.length
    · obtain ⟨bu, ou, rfl, du⟩ := hcu (by omega)
      obtain ⟨x, hx1, ix⟩ := du k hlt
      rw [List.getElem?_eq_getElem hlt, Option.getD_some] at ix
      have gu := hx.cell hx1
      have IX := Lib.hid (ix.ext hx)
      have hrow : (L[k]).length ≤ 35184372088831 := by have := bulk_row hlt; have := HS.out; omega
      have HO := Lib.hid ho
      have HR := Lib.hid hR
      have HV := Lib.hid hvl
      clear hcu du hx1 ix ho hR hvl
      go_wp2_with fail
      refine (toIntS_any _ _ _ IX.out hrow).mono ?_
      rintro e w2 ⟨z, rfl, f2, x2⟩
      have ho2 := x2.ownsRow HO.out
      have hlen2 : (vs ++ List.replicate (L.length - k) (Value.slice none 0 0)).length = L.length := by simp [HV.out]; omega
      have go := (ho2.cellAt k (by omega)).trans (show _ = some (Value.slice none 0 0) by
        rw [List.getElem?_append_right (by have := HV.out; omega)]
        rw [List.getElem?_replicate, if_pos (by have := HV.out; omega)])
      have gf := ho2.frozenAt k
      clear hlen2
      have hst := ho2.stored k z
      have HST := Lib.hid hst
      clear hst
      have F2 := Lib.hid f2
      obtain ⟨ax, cx, hz, _⟩ := f2.ints
      have hz' := Lib.hid hz
      clear ho2
      subst hz
      go_wp2
      go_roundw
      case rel =>
        have hst := HST.out
        rw [set_nextS vs _ _ k L.length HV.out hlt] at hst
        have hsn := HR.out.snoc x2 F2.out (by omega)
        have htk : L.take k ++ [L[k]] = L.take (k + 1) := by rw [List.take_add_one, List.getElem?_eq_getElem hlt]; rfl
        rw [htk] at hsn
        refine ⟨k + 1, _, by omega, by go_num, hst.1, hsn.touch hst.2 (hsn.low (by omega)), ?_, Below.setCell (hx.trans x2) (Nat.le_refl _) _⟩
        have := x2.size
        simp; omega
      case measure => simp [intOf]; omega
    · obtain rfl : k = L.length := by omega
      have HO := Lib.hid ho
      have HR := Lib.hid hR
      clear ho hR
      go_wp2
      go_ret
      refine ⟨_, rfl, ⟨vs, ?_, ?_, ?_⟩, hx⟩
      · have h := HO.out
        rw [Nat.sub_self] at h
        simpa using h
      · have h := HR.out
        rw [List.take_length] at h
        exact h.more (by omega)
      · exact HR.out.low (g := w.heap.size) (by omega)

end Go.Proofs.Ythnoeknalpnadaa
