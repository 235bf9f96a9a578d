/- Texts of this proof, part p: words, plain facts, contracts. -/
import Derived.Test.YtcpmfcigciknlaaGreatNBookOfj
import Derived.Test.YtcpmfcigciknlaaGreatNBookOfk
import Derived.Test.YtcpmfcigciknlaaGreatNBookOfo
import Derived.Test.YtcpmfcigciknlaaGreatNBookOff
import Derived.Test.YtcpmfcigciknlaaGreatNBookOfa
import Derived.Deep.RegionLaw
import Derived.Deep.DeepCutAuto
import Derived.Test.YtcpmfcigciknlaaGreatNBookOfc
import Derived.Test.YtcpmfcigciknlaaGreatNBookOfd
import Derived.Test.YtcpmfcigciknlaaGreatNBookOfb
import Derived.BigRegion
set_option linter.unusedVariables false
set_option linter.unusedSimpArgs false

namespace Go.Proofs.YtcpmfcigciknlaaGreat
open Go.RowKit Go.Maps
set_option linter.unusedVariables false
theorem field_attrS (s : Int) (u : Value) (W : World) : (Instr.field 81 (.agg #[.int .i64 s, u]) 0).run Tryz.prog W = .ok (.int .i64 s) W := by kernel_rfl
def IntsTo (xs : List Value) (K : List Int) (k : Nat) : Prop := ∀ j, j < k → xs[j]? = some (.int .i64 (K[j]?.getD 0))
theorem IntsTo.put {xs : List Value} {K : List Int} {k : Nat} {x : Int} (h : IntsTo xs K k) (hk : k < xs.length) (hx : K[k]?.getD 0 = x) : IntsTo (xs.set k (.int .i64 x)) K (k + 1) := fun j hj => by
  by_cases e : j = k
  · subst e
    rw [List.getElem?_set_self hk, hx]
  · rw [List.getElem?_set_ne (fun h => e h.symm)]
    exact h j (by omega)
theorem IntsTo.ints {w : World} {g m : Nat} {xs : List Value} {K : List Int} (hb : BoxV w g xs) (hK : K.length = m) (hm : m ≤ maxLen) (h : IntsTo xs K m) : Ints w (.slice (some ⟨g, 0, none⟩) m m) K := by
  subst hK
  refine ⟨some ⟨g, 0, none⟩, K.length, rfl, hm, ⟨Nat.le_refl _, hm, fun h => by cases h⟩, fun _ => ⟨g, 0, rfl, fun j hj => ?_⟩⟩
  rw [Nat.zero_add]
  exact hb.cell j _ (h j hj)
def PtsTo (xs : List Value) (P : List (Nat × Nat)) (k : Nat) : Prop := ∀ j (h : j < P.length), j < k → xs[j * 2]? = some (.int .i64 (P[j].1 : Int)) ∧ xs[j * 2 + 1]? = some (.int .i64 ((P[j].2 : Int) + 1))
theorem PtsTo.put {xs : List Value} {P : List (Nat × Nat)} {k : Nat} {x : Nat × Nat} (h : PtsTo xs P k) (hl : xs.length = P.length * 2) (hk : k < P.length) (hx : P[k] = x) : PtsTo ((xs.set (k * 2) (.int .i64 (x.1 : Int))).set (k * 2 + 1) (.int .i64 ((x.2 : Int) + 1))) P (k + 1) := fun j hj hjk => by
  by_cases e : j = k
  · subst e
    rw [hx]
    refine ⟨?_, ?_⟩
    · rw [List.getElem?_set_ne (by omega), List.getElem?_set_self (by omega)]
    · rw [List.getElem?_set_self (by rw [List.length_set]; omega)]
  · obtain ⟨h1, h2⟩ := h j hj (by omega)
    refine ⟨?_, ?_⟩
    · rw [List.getElem?_set_ne (by omega), List.getElem?_set_ne (by omega)]; exact h1
    · rw [List.getElem?_set_ne (by omega), List.getElem?_set_ne (by omega)]; exact h2
theorem PtsTo.insts {w : World} {g m : Nat} {xs : List Value} {P : List (Nat × Nat)} (hb : BoxV w g xs) (hP : P.length = m) (hm : m ≤ maxLen) (h : PtsTo xs P m) : InstsAt w (.slice (some ⟨g, 0, none⟩) m m) P := by
  subst hP
  refine ⟨some ⟨g, 0, none⟩, P.length, rfl, hm, ⟨Nat.le_refl _, hm, fun h => by cases h⟩, fun _ => ⟨g, 0, rfl, fun j hj => ?_⟩⟩
  obtain ⟨h1, h2⟩ := h j hj hj
  rw [Nat.zero_add]
  exact ⟨hb.cell _ _ h1, hb.cell _ _ h2⟩
set_option maxHeartbeats 4000000 in
set_option maxRecDepth 100000 in
theorem implOrderIn_any (n : Int) (u : Value) (T : List (List RowD)) (w : World) (hu : Rowzz w u T) (hs : bulkT T ≤ 1099511627776) :
    Calls Tryz.prog 28 #[.agg #[.int .i64 n, u]] w (TwoIntss (orderR n T) (goodTab n T) w) := by
  obtain ⟨P, hP⟩ : ∃ P, P = orderR n T := ⟨_, rfl⟩
  obtain ⟨g, hg⟩ : ∃ g, g = goodTab n T := ⟨_, rfl⟩
  rw [← hP, ← hg]
  have HS := Lib.hid hs
  have hx0 := Ext.alloc1 w (.cells #[.int .i64 n, u] 32)
  have b0 := attrAt_new w 32 n u
  have HU := Lib.hid (hu.ext hx0)
  have HX := Lib.hid hx0
  have HP := Lib.hid hP
  have HGG := Lib.hid hg
  obtain ⟨au, cu, rfl, hlu, _, _⟩ := hu
  clear hx0 hs hP hg
  go_enter Tryz.func28, Tryz.ntmps28
  go_wp2_with fail
  refine (implGoodTable_any n _ T _ HU.out HS.out).mono ?_
  rintro e w1 ⟨rfl, x1⟩
  rw [← HGG.out]
  cases g with
  | false =>
    have eP : P = [] := by rw [HP.out]; unfold orderR; rw [← HGG.out]; rfl
    have X1 := Lib.hid (HX.out.trans x1)
    have EP := Lib.hid eP
    clear eP
    go_wp2
    go_ret2
    rw [EP.out]
    exact ⟨_, rfl, FreshSS.nil _ _, X1.out⟩
  | true =>
    have EP : Hid (P = (ordPts n T).map pairOf) := Lib.hid (by rw [HP.out, ordPts_pairs]; unfold orderR; rw [← HGG.out]; rfl)
    have H56 := Lib.hid (goodTab_both HGG.out.symm)
    obtain ⟨U, hU⟩ := tabAt_of (HU.out.ext x1)
    have HT := Lib.hid hU
    have X1 := Lib.hid (HX.out.trans x1)
    have HL := Lib.hid (hU.lists n)
    obtain ⟨c1, c2⟩ := b0.ext x1
    clear x1 hU HU b0 HP
    go_wp2_with fail
    refine (readyIn_any n _ T U _ HT.out HGG.out.symm).mono ?_
    rintro e w2 ⟨B, D, rfl, m2, d2, hb2, x2⟩
    have M2 := Lib.hid m2
    have D2 := Lib.hid d2
    have X2 := Lib.hid (X1.out.trans x2)
    have HL2 := Lib.hid (HL.out.ext x2)
    clear m2 d2 hb2 x2 c1 c2 X1 HT HL
    go_wp2_with fail
    refine (inOrderRow_any B 30 D (readyB n T) (rowOf n T) U _ M2.out D2.out (by omega)).mono ?_
    rintro e w3 ⟨v3, L, rfl, f3, hlex, hmem, x3⟩
    have eL : L = readyL n T := readyL_of hlex hmem
    subst eL
    have hi3 := f3.at
    obtain ⟨a3, k3, rfl, _, _, hc3⟩ := id hi3
    obtain ⟨L, hL⟩ : ∃ L, L = readyL n T := ⟨_, rfl⟩
    have hLM : ∀ x ∈ L, readyB n T x.1 x.2 = true ∧ x.1 ≤ 4 ∧ x.2 ≤ 5 ∧ 0 ≤ (rowOf n T x.1 x.2).s ∧ (rowOf n T x.1 x.2).s ≤ 999 := fun x hx => ready_low HGG.out.symm (by rw [← hL]; exact hx)
    have hL30 : L.length ≤ 30 := by rw [hL]; exact readyL_short HGG.out.symm
    rw [← hL] at hi3 hc3 ⊢
    obtain ⟨m, hm⟩ : ∃ m, m = L.length := ⟨_, rfl⟩
    rw [← hm] at hL30 hi3 ⊢
    have I3 := Lib.hid hi3
    have C3 := Lib.hid hc3
    have X3 := Lib.hid (X2.out.trans x3)
    have M3 := Lib.hid (M2.out.ext x3)
    have HL3 := Lib.hid (HL2.out.ext x3)
    have HLE := Lib.hid hL
    have HLM := Lib.hid hLM
    have HMM := Lib.hid hm
    obtain ⟨K, hK⟩ : ∃ K, K = keysP n T L := ⟨_, rfl⟩
    have HK := Lib.hid hK
    have HKL : Hid (K.length = m) := Lib.hid (by rw [hK, hm]; simp [keysP])
    obtain ⟨i0, hi, hz0, hz1, hz2⟩ := info_parts Tryz.infoInt
    clear f3 hlex hmem x3 M2 X2 HL2 hi3 hc3 hL hLM hm hK
    go_wp2_with (at_make; refine wpList_make_full _ rfl _ _ 26 rfl w3.heap.size 3 i0 (.int .i64 0) 1 Tryz.underlying26 hi hz0 hz1 _ _ _ _ m rfl rfl rfl rfl ?c1 ?c2 ?c3 ?_)
    case c1 => rw [hz2]; omega
    case c2 => unfold maxLen; omega
    case c3 => simp
    intro w4 ho4 hg4
    have hx4 : Ext w3 w4 := ext_of_grown hg4
    have hsz : w3.heap.size < w4.heap.size := by
      rcases ho4.2 with ⟨h, _⟩ | ⟨g, cap, cur, h, hb, hg, _⟩
      · cases h
      · simp only [Value.slice.injEq, Option.some.injEq, Addr.mk.injEq, and_true, true_and] at h
        obtain ⟨rfl, _⟩ := h
        exact (Array.getElem?_eq_some_iff.1 hg).1
    obtain ⟨xs0, hxs⟩ : ∃ xs, xs = (madeCells #[.int .i64 0] m).toList := ⟨_, rfl⟩
    rw [← hxs] at ho4
    have hlx : xs0.length = m := by have := ho4.1; omega
    have hbx : BoxV w4 w3.heap.size xs0 := ⟨fun j v hj => by
      rw [ho4.cellAt _ (by have := (List.getElem?_eq_some_iff.1 hj).1; omega)]; exact hj, fun j _ => ho4.frozenAt j, hsz⟩
    have HBX := Lib.hid hbx
    have HX4 := Lib.hid hx4
    obtain ⟨g4, hgq⟩ : ∃ g, g = w3.heap.size := ⟨_, rfl⟩
    rw [← hgq] at HBX ⊢
    have HG4 := Lib.hid hgq
    clear ho4 hg4 hz0 hz1 hz2 hi hx4 hsz hxs hbx hgq
    go_wp2
    go_loopw [7, 8, 26] (fun _ _ i wr => ∃ (k : Nat) (xs : List Value), k ≤ m ∧ i = .int .i64 k ∧ Hid (BoxV wr g4 xs) ∧ xs.length = m ∧ Hid (IntsTo xs K k) ∧ Hid (Ext w3 wr)) (fun _ _ i _ => m - (intOf i).toNat)
    case atStart => exact ⟨0, xs0, Nat.zero_le _, rfl, HBX, hlx, Lib.hid (fun j h => by omega), HX4⟩
    case round =>
      clear HBX HX4 hlx
      obtain ⟨k, xs, hk, rfl, hB, hl, hT, hX⟩ := hrel
      by_cases hlt : k < m
      · have hkL : k < L.length := by rw [← HMM.out]; exact hlt
        obtain ⟨bu, ou, rfl, du⟩ := C3.out (by omega)
        obtain ⟨q0, q1⟩ := du k hkL
        obtain ⟨x, hx⟩ : ∃ x, x = L[k] := ⟨_, rfl⟩
        rw [← hx] at q0 q1
        have p0 := hX.out.cell q0
        have p1 := hX.out.cell q1
        have hxm : x ∈ L := by rw [hx]; exact List.getElem_mem hkL
        obtain ⟨hr, hp4, hq5, hs0, hs9⟩ := HLM.out x hxm
        have hkx : K[k]?.getD 0 = keyOf1 n T x := by
          rw [HK.out]
          unfold keysP
          rw [List.getElem?_map, List.getElem?_eq_getElem hkL, ← hx]
          rfl
        obtain ⟨p, q⟩ := x
        dsimp only at hr hp4 hq5 hs0 hs9
        have hkx2 : K[k]?.getD 0 = 100 * (rowOf n T p q).s + 10 * (p : Int) + ((q : Int) + 1) := hkx
        obtain ⟨w9, hw9⟩ : ∃ w9, w9 = wr.alloc (.cells #[.int .i64 p, .int .i64 ((q : Int) + 1)] 101) := ⟨_, rfl⟩
        have x9 : Ext wr w9 := by rw [hw9]; exact Ext.alloc1 _ _
        have hb9 : BoxV w9 wr.heap.size [.int .i64 p, .int .i64 ((q : Int) + 1)] := by rw [hw9]; exact boxV_new _ _ _
        have HW9 := Lib.hid hw9
        have HKX := Lib.hid hkx2
        have hlk := fun (W : World) (e : Ext w3 W) => look_inst (M3.out.ext e) D2.out hr
        unfold rowF rowV at hlk
        obtain ⟨r, hrr⟩ : ∃ r, r = rowOf n T p q := ⟨_, rfl⟩
        rw [← hrr] at hlk HKX hs0 hs9
        have l1 := hlk w9 (hX.out.trans x9)
        have l2 := hlk w9.drew ((hX.out.trans x9).trans (Ext.drew (Ext.refl _)))
        have b0 := hb9.cell 0 _ rfl
        have b1 := hb9.cell 1 _ rfl
        have hB9 := hB.out.ext x9
        obtain ⟨o0, g0⟩ : ∃ v, w9.cell? ⟨g4, k, none⟩ = some v := ⟨_, hB9.cell k _ (List.getElem?_eq_getElem (by omega))⟩
        have n0 := hB9.free k (by omega)
        have hfd := field_rowA r.b r.v r.st r.k r.i r.f r.t r.a r.s (U p q)
        have hfe := field_attrS r.s (U p q)
        have e1 : IntKind.i64.wrap (100 * r.s) = 100 * r.s := IntWalk.i64_in _ (by omega)
        have e2 : IntKind.i64.wrap (10 * (p : Int)) = 10 * (p : Int) := IntWalk.i64_in _ (by omega)
        have e3 : IntKind.i64.wrap (100 * r.s + 10 * (p : Int)) = 100 * r.s + 10 * (p : Int) := IntWalk.i64_in _ (by omega)
        have e4 : IntKind.i64.wrap (100 * r.s + 10 * (p : Int) + ((q : Int) + 1)) = 100 * r.s + 10 * (p : Int) + ((q : Int) + 1) := IntWalk.i64_in _ (by omega)
        have HB9 := Lib.hid hB9
        have HX9 := Lib.hid (hX.out.trans x9)
        clear du q0 q1 hx hxm hr hkx hkx2 hw9 hb9 hlk hrr hB9 hB hX x9
        go_upto_region 9 with fail
        rw [← HW9.out]
        clear p0 p1
        go_wp2_with fail
        go_region_law (fail)
        all_goals
          have HBN := Lib.hid ((HB9.out.set k (.int .i64 (100 * r.s + 10 * (p : Int) + ((q : Int) + 1))) (by omega)).ext (Ext.drew (Ext.refl _)))
          have HTN := Lib.hid (hT.out.put (by omega) HKX.out)
          have HXN : Hid (Ext w3 ((w9.setCell ⟨g4, k, none⟩ (.int .i64 (100 * r.s + 10 * (p : Int) + ((q : Int) + 1)))).drew)) := Lib.hid (Ext.drew (HX9.out.setc (by show w3.heap.size ≤ g4; rw [HG4.out]; exact Nat.le_refl _)))
          clear l1 l2 b0 b1 g0 n0 hfd hfe e1 e2 e3 e4 HB9 HX9
          go_wp2
          go_roundw
          case rel => exact ⟨k + 1, _, by omega, by go_num, HBN, by rw [List.length_set]; exact hl, HTN, HXN⟩
          case measure => simp [intOf]; omega
      · obtain rfl : k = m := by omega
        have HI := Lib.hid (IntsTo.ints hB.out HKL.out (by unfold maxLen; omega) hT.out)
        have I4 := Lib.hid (I3.out.ext hX.out)
        have M4 := Lib.hid (M3.out.ext hX.out)
        have HL4 := Lib.hid (HL3.out.ext hX.out)
        have XW := Lib.hid (X3.out.trans hX.out)
        have XL := Lib.hid hX.out
        clear hB hl hT hX M3 HL3
        go_wp2_with fail
        refine (graphAmong_any n T U L _ B 30 D (readyB n T) _ I4.out (by have := HMM.out; omega) M4.out D2.out (fun x hx => (HLM.out x hx).1) (fun p q h => readyB_com h) HGG.out.symm HL4.out).mono ?_
        rintro e w5 ⟨vg, rfl, fg, x5⟩
        have IG := Lib.hid fg.intss
        have X5 := Lib.hid x5
        clear fg x5 M4 HL4 D2
        go_wp2_with fail
        refine (implOrder_any _ _ (graphP n T L) K _ IG.out (HI.out.ext X5.out)).mono ?_
        have hk : keysB (graphP n T L) K = true := by rw [HK.out, HLE.out]; exact keysP_good HGG.out.symm
        obtain ⟨O, hO⟩ : ∃ O, O = orderL (graphP n T L) K := ⟨_, rfl⟩
        rw [show orderA (graphP n T L) K = O by unfold orderA; rw [hk, if_pos rfl, hO], hk]
        rintro e w6 ⟨vo, rfl, fo, x6⟩
        have hgl : (graphP n T L).length = k := by rw [HMM.out]; simp [graphP]
        have hpm := orderL_perm (goodG_of (keysB_of hk).1).1 K
        rw [← hO, hgl] at hpm
        have hin : ∀ z ∈ O, 0 ≤ z ∧ z < (k : Int) := fun z hz => (rangeI_mem _ _).1 (hpm.mem_iff.1 hz)
        have hol : O.length = k := by rw [hpm.length_eq, rangeI_len]
        obtain ⟨ao, co, rfl, hlo, _, dO⟩ := fo.ints
        have X6 := Lib.hid (X5.out.trans x6)
        have HDO := Lib.hid dO
        have HIN := Lib.hid hin
        obtain ⟨Q, hQ⟩ : ∃ Q, Q = O.map fun z => L[z.toNat]?.getD (0, 0) := ⟨_, rfl⟩
        have HQ := Lib.hid hQ
        have HQE : Hid (Q = ordPts n T) := Lib.hid (by rw [hQ, hO, HK.out, HLE.out]; rfl)
        have HQL : Hid (Q.length = O.length) := Lib.hid (by rw [hQ]; simp)
        obtain ⟨c, hc⟩ : ∃ c, c = O.length := ⟨_, rfl⟩
        rw [← hc] at hol ⊢
        have HCO := Lib.hid hc
        obtain ⟨i0, hi, hz0, hz1, hz2⟩ := info_parts Tryz.infoInst
        have hc30 : c ≤ 30 := by omega
        have HX5I := Lib.hid (I4.out.ext X6.out)
        clear fo x6 hk hO hgl hpm hin dO hQ hc hol I4 IG HI hlo
        go_wp2_with (at_make; refine wpList_make_full _ rfl _ _ 108 rfl w6.heap.size 101 i0 _ 2 Tryz.underlying108 hi hz0 hz1 _ _ _ _ c rfl rfl rfl rfl ?c1 ?c2 ?c3 ?_)
        case c1 => rw [hz2]; omega
        case c2 => unfold maxLen; omega
        case c3 => simp
        intro w7 ho7 hg7
        have hx7 : Ext w6 w7 := ext_of_grown hg7
        have hsz : w6.heap.size < w7.heap.size := by
          rcases ho7.2 with ⟨h, _⟩ | ⟨g, cap, cur, h, hb, hg, _⟩
          · cases h
          · simp only [Value.slice.injEq, Option.some.injEq, Addr.mk.injEq, and_true, true_and] at h
            obtain ⟨rfl, _⟩ := h
            exact (Array.getElem?_eq_some_iff.1 hg).1
        obtain ⟨ys0, hys⟩ : ∃ ys, ys = (madeCells #[.int .i64 0, .int .i64 0] (c * 2)).toList := ⟨_, rfl⟩
        rw [← hys] at ho7
        have hly : ys0.length = c * 2 := ho7.1
        have hby : BoxV w7 w6.heap.size ys0 := ⟨fun j v hj => by
          rw [ho7.cellAt _ (by have := (List.getElem?_eq_some_iff.1 hj).1; omega)]; exact hj, fun j _ => ho7.frozenAt j, hsz⟩
        have HBY := Lib.hid hby
        have HX7 := Lib.hid hx7
        obtain ⟨g7, hgq⟩ : ∃ g, g = w6.heap.size := ⟨_, rfl⟩
        rw [← hgq] at HBY ⊢
        have HG7 := Lib.hid hgq
        clear ho7 hg7 hz0 hz1 hz2 hi hx7 hsz hys hby hgq
        go_wp2
        go_loopw [12, 13, 61] (fun _ _ i wr => ∃ (t : Nat) (ys : List Value), t ≤ c ∧ i = .int .i64 t ∧ Hid (BoxV wr g7 ys) ∧ ys.length = c * 2 ∧ Hid (PtsTo ys Q t) ∧ Hid (Ext w6 wr)) (fun _ _ i _ => c - (intOf i).toNat)
        case atStart => exact ⟨0, ys0, Nat.zero_le _, rfl, HBY, hly, Lib.hid (fun j _ h => by omega), HX7⟩
        case round =>
          clear HBY HX7 hly
          obtain ⟨t, ys, ht, rfl, hB, hl, hT, hX⟩ := hrel
          by_cases htl : t < c
          · have htO : t < O.length := by rw [← HCO.out]; exact htl
            obtain ⟨bo, oo, rfl, eo⟩ := HDO.out (by omega)
            have go := hX.out.cell (eo t htO)
            obtain ⟨z, hz⟩ : ∃ z, z = O[t] := ⟨_, rfl⟩
            rw [List.getElem?_eq_getElem htO, Option.getD_some, ← hz] at go
            have hzb := HIN.out z (by rw [hz]; exact List.getElem_mem htO)
            obtain ⟨j, rfl⟩ : ∃ j : Nat, z = (j : Int) := ⟨z.toNat, by omega⟩
            have hjk : j < k := by omega
            have hjL : j < L.length := by rw [← HMM.out]; exact hjk
            obtain ⟨bu, ou, rfl, du⟩ := C3.out (by omega)
            obtain ⟨q0, q1⟩ := du j hjL
            obtain ⟨x, hx⟩ : ∃ x, x = L[j] := ⟨_, rfl⟩
            rw [← hx] at q0 q1
            have xx := (XL.out.trans X6.out).trans hX.out
            have p0 := xx.cell q0
            have p1 := xx.cell q1
            have hQt : Q[t]'(by rw [HQL.out]; exact htO) = x := by
              have h1 : Q[t]? = some x := by
                rw [HQ.out, List.getElem?_map, List.getElem?_eq_getElem htO, ← hz]
                show some (L[(j : Int).toNat]?.getD (0, 0)) = some x
                rw [Int.toNat_natCast, List.getElem?_eq_getElem hjL, ← hx]
                rfl
              exact (List.getElem?_eq_some_iff.1 h1).2
            obtain ⟨o0, g0⟩ : ∃ v, wr.cell? ⟨g7, t * 2, none⟩ = some v := ⟨_, hB.out.cell (t * 2) _ (List.getElem?_eq_getElem (by omega))⟩
            obtain ⟨o1, g1⟩ : ∃ v, wr.cell? ⟨g7, t * 2 + 1, none⟩ = some v := ⟨_, hB.out.cell (t * 2 + 1) _ (List.getElem?_eq_getElem (by omega))⟩
            have n0 := hB.out.free (t * 2) (by omega)
            have n1 := hB.out.free (t * 2 + 1) (by omega)
            have HQT := Lib.hid hQt
            clear eo hz hx hQt xx du q0 q1
            go_wp2
            have HBN := Lib.hid ((hB.out.set (t * 2) (.int .i64 (x.1 : Int)) (by omega)).set (t * 2 + 1) (.int .i64 ((x.2 : Int) + 1)) (by rw [List.length_set]; omega))
            have HTN := Lib.hid (hT.out.put (by rw [HQL.out, ← HCO.out]; exact hl) (by rw [HQL.out]; exact htO) HQT.out)
            have HXN : Hid (Ext w6 ((wr.setCell ⟨g7, t * 2, none⟩ (.int .i64 (x.1 : Int))).setCell ⟨g7, t * 2 + 1, none⟩ (.int .i64 ((x.2 : Int) + 1)))) := Lib.hid ((hX.out.setc (by show w6.heap.size ≤ g7; rw [HG7.out]; exact Nat.le_refl _)).setc (by show w6.heap.size ≤ g7; rw [HG7.out]; exact Nat.le_refl _))
            clear go p0 p1 g0 g1 n0 n1 hB hT hX
            go_roundw
            case rel => exact ⟨t + 1, _, by omega, by go_num, HBN, by rw [List.length_set, List.length_set]; exact hl, HTN, HXN⟩
            case measure => simp [intOf]; omega
          · obtain rfl : t = c := by omega
            have HII := Lib.hid (PtsTo.insts hB.out (by rw [HQL.out, HCO.out]) (by unfold maxLen; omega) hT.out)
            have XN := Lib.hid ((XW.out.trans X6.out).trans hX.out)
            clear hB hl hT hX
            go_wp2_with fail
            refine (pairsOf_any _ Q _ HII.out (by have := HQL.out; have := HCO.out; omega)).mono ?_
            rintro e w8 ⟨v8, rfl, f8, x8⟩
            have F8 := Lib.hid (f8.more XN.out.size)
            have X8 := Lib.hid (XN.out.trans x8)
            clear f8 x8
            go_wp2
            go_ret2
            rw [EP.out, ← HQE.out]
            exact ⟨_, rfl, F8.out, X8.out⟩
end Go.Proofs.YtcpmfcigciknlaaGreat

namespace Go.Proofs.YtcpmfcigciknlaaGreat
open Go.RowKit
set_option linter.unusedVariables false
structure LeadD where
  rp : Int
  no : Int
  bl : Int
  ph : Int
  k : Int
  i : Int
  f : Int
  t : Int
  a : Int
  s1 : Int
  l1 : List Int
  s2 : Int
  l2 : List Int
  sm : Bool
  who : List Int
  seen : List RowD
def leadVs (d : LeadD) (u1 u2 u3 u4 : Value) : List Value := [.int .i64 d.rp, .int .i64 d.no, .int .i64 d.bl, .int .i64 d.ph, .int .i64 d.k, .int .i64 d.i, .int .i64 d.f, .int .i64 d.t, .int .i64 d.a, .int .i64 d.s1, u1, .int .i64 d.s2, u2, .bool d.sm, u3, u4]
structure LeadL (w : World) (d : LeadD) (u1 u2 u3 u4 : Value) : Prop where
  i1 : Ints w u1 d.l1
  i2 : Ints w u2 d.l2
  i3 : Ints w u3 d.who
  i4 : Rowz w u4 d.seen
theorem LeadL.ext {w w' : World} {d : LeadD} {u1 u2 u3 u4 : Value} (h : LeadL w d u1 u2 u3 u4) (e : Ext w w') : LeadL w' d u1 u2 u3 u4 := ⟨h.i1.ext e, h.i2.ext e, h.i3.ext e, h.i4.ext e⟩
def LeadIn (w : World) (b o : Nat) (d : LeadD) (u1 u2 u3 u4 : Value) : Prop := ∀ j v, (leadVs d u1 u2 u3 u4)[j]? = some v → w.cell? ⟨b, o + j, none⟩ = some v
theorem LeadIn.ext {w w' : World} {b o : Nat} {d : LeadD} {u1 u2 u3 u4 : Value} (h : LeadIn w b o d u1 u2 u3 u4) (e : Ext w w') : LeadIn w' b o d u1 u2 u3 u4 := fun j v hj => e.cell (h j v hj)
def Leadz (w : World) (v : Value) (L : List LeadD) : Prop :=
  ∃ ao cap, v = .slice ao L.length cap ∧ L.length ≤ maxLen ∧ (L.length ≤ cap ∧ cap ≤ maxLen ∧ (ao = none → cap = 0)) ∧
    (0 < L.length → ∃ b off, ao = some ⟨b, off, none⟩ ∧ ∀ j (h : j < L.length), ∃ u1 u2 u3 u4, LeadIn w b (off + j * 16) L[j] u1 u2 u3 u4 ∧ LeadL w L[j] u1 u2 u3 u4)
theorem Leadz.ext {w w' : World} {v : Value} {L : List LeadD} (h : Leadz w v L) (e : Ext w w') : Leadz w' v L := by
  obtain ⟨ao, cap, hv, hm, hcap, hc⟩ := h
  refine ⟨ao, cap, hv, hm, hcap, fun hp => ?_⟩
  obtain ⟨b, off, ha, hc⟩ := hc hp
  refine ⟨b, off, ha, fun j hj => ?_⟩
  obtain ⟨u1, u2, u3, u4, hu, hi⟩ := hc j hj
  exact ⟨u1, u2, u3, u4, hu.ext e, hi.ext e⟩
theorem Leadz.nil (w : World) : Leadz w (.slice none 0 0) [] := ⟨none, 0, rfl, by simp, ⟨by simp, by simp, fun _ => rfl⟩, fun h => by simp at h⟩
end Go.Proofs.YtcpmfcigciknlaaGreat

namespace Go.Proofs.YtcpmfcigciknlaaGreat
open Go.RowKit
set_option linter.unusedVariables false
def lensR (R : List RowD) : List Nat := R.map fun r => r.l.length
theorem lensR_len (R : List RowD) : (lensR R).length = R.length := by simp [lensR]
theorem lensR_get {R : List RowD} {k : Nat} (h : k < R.length) : (lensR R)[k]'(by rw [lensR_len]; exact h) = R[k].l.length := by simp [lensR]
set_option maxHeartbeats 1000000 in
theorem szRowS_any (v : Value) (R : List RowD) (left : Int) (w : World) (hv : Rowz w v R) (h0 : 0 ≤ left) (h1 : left ≤ 1099511627776) :
    Calls Tryz.prog 62 #[v, .int .i64 left] w (IntExt (lessened left (bulkR R)) w) := by
  obtain ⟨av, cv, rfl, hlv, _, hcv⟩ := hv
  unfold maxLen at hlv
  have hb : bulkR R = R.length + (lensR R).sum := rfl
  by_cases hlt : left < R.length
  · rw [lessened_no (by omega)]
    clear hb hcv
    go_enter Tryz.func62, Tryz.ntmps62
    go_wp2
    go_ret
    exact ⟨rfl, Ext.refl _⟩
  · have HBK := Lib.hid hb
    have hle : (R.length : Int) ≤ left := by omega
    clear hb hlt
    go_enter Tryz.func62, Tryz.ntmps62
    go_wp2
    go_loopw [1, 5] (fun m i wr => ∃ (k : Nat) (r : Int), k ≤ R.length ∧ i = .int .i64 k ∧ m = .int .i64 r ∧ 0 ≤ r ∧ Hid (r = left - R.length - sumN (lensR R) k) ∧ Ext w wr) (fun _ i _ => R.length - (intOf i).toNat)
    case atStart => exact ⟨0, left - R.length, Nat.zero_le _, rfl, rfl, by omega, Lib.hid (by rw [sumN_zero]; simp), Ext.refl _⟩
    case round =>
      obtain ⟨k, r, hk, rfl, rfl, hr0, hr, hx⟩ := hrel
      have hr1 : r ≤ 1099511627776 := by have := hr.out; omega
      by_cases hlt : k < R.length
      · obtain ⟨b, off, rfl, dv⟩ := hcv (by omega)
        obtain ⟨u, hu, iu⟩ := dv k hlt
        have hs := sumN_succ (g := lensR R) (k := k) (by rw [lensR_len]; exact hlt)
        rw [lensR_get hlt] at hs
        obtain ⟨d, hd⟩ : ∃ d, d = R[k] := ⟨_, rfl⟩
        rw [← hd] at hu iu hs
        obtain ⟨c0, c1, c2, c3, c4, c5, c6, c7, c8, c9⟩ := hu.ext hx
        have IU := Lib.hid (iu.ext hx)
        have HS := Lib.hid hs
        clear hcv dv hu iu hs hd
        by_cases hl : r < d.l.length
        · have L := Lib.hid (lessened_no hl)
          have hsum := sumN_mono (g := lensR R) (k := k + 1) (by rw [lensR_len]; omega)
          have HL := Lib.hid (show lessened left (bulkR R) = -1 from lessened_no (by have h1 := hr.out; have h2 := HS.out; have h3 := HBK.out; omega))
          clear hl hsum
          go_wp2_with fail
          refine (szRow_any d _ _ _ IU.out hr0 (by omega)).mono ?_
          rintro e w2 ⟨rfl, x2⟩
          have hx2 := hx.trans x2
          clear x2 hx c0 c1 c2 c3 c4 c5 c6 c7 c8 c9
          rw [L.out]
          go_wp2
          go_ret
          exact ⟨by rw [HL.out]; rfl, hx2⟩
        · obtain ⟨q, hq⟩ : ∃ q, q = r - (d.l.length : Int) := ⟨_, rfl⟩
          have hq0 : 0 ≤ q := by omega
          have L : Hid (lessened r d.l.length = q) := Lib.hid (by rw [hq]; exact lessened_yes (by omega))
          have HQ := Lib.hid hq
          clear hl hq
          go_wp2_with fail
          refine (szRow_any d _ _ _ IU.out hr0 (by omega)).mono ?_
          rintro e w2 ⟨rfl, x2⟩
          have hx2 := hx.trans x2
          clear x2 hx c0 c1 c2 c3 c4 c5 c6 c7 c8 c9
          rw [L.out]
          go_wp2
          go_roundw
          case rel => exact ⟨k + 1, q, by omega, by go_num, rfl, hq0, Lib.hid (by have h1 := hr.out; have h2 := HS.out; have h3 := HQ.out; omega), hx2⟩
          case measure => simp [intOf]; omega
      · obtain rfl : k = R.length := by omega
        go_wp2
        go_ret
        refine ⟨?_, hx⟩
        have h1 := hr.out
        have h3 := HBK.out
        have h4 := sumN_all (lensR R)
        rw [lensR_len] at h4
        have he : lessened left (bulkR R) = r := by rw [lessened_yes (by omega)]; omega
        rw [he]; rfl
def bulks (T : List (List RowD)) : List Nat := T.map bulkR
theorem bulks_len (T : List (List RowD)) : (bulks T).length = T.length := by simp [bulks]
theorem bulks_get {T : List (List RowD)} {k : Nat} (h : k < T.length) : (bulks T)[k]'(by rw [bulks_len]; exact h) = bulkR T[k] := by simp [bulks]
set_option maxHeartbeats 1000000 in
theorem szRowSS_any (v : Value) (T : List (List RowD)) (left : Int) (w : World) (hv : Rowzz w v T) (h0 : 0 ≤ left) (h1 : left ≤ 1099511627776) :
    Calls Tryz.prog 32 #[v, .int .i64 left] w (IntExt (lessened left (bulkT T)) w) := by
  obtain ⟨av, cv, rfl, hlv, _, hcv⟩ := hv
  unfold maxLen at hlv
  have hb : bulkT T = T.length + (bulks T).sum := rfl
  by_cases hlt : left < T.length
  · rw [lessened_no (by omega)]
    clear hb hcv
    go_enter Tryz.func32, Tryz.ntmps32
    go_wp2
    go_ret
    exact ⟨rfl, Ext.refl _⟩
  · have HBK := Lib.hid hb
    have hle : (T.length : Int) ≤ left := by omega
    clear hb hlt
    go_enter Tryz.func32, Tryz.ntmps32
    go_wp2
    go_loopw [1, 5] (fun m i wr => ∃ (k : Nat) (r : Int), k ≤ T.length ∧ i = .int .i64 k ∧ m = .int .i64 r ∧ 0 ≤ r ∧ Hid (r = left - T.length - sumN (bulks T) k) ∧ Ext w wr) (fun _ i _ => T.length - (intOf i).toNat)
    case atStart => exact ⟨0, left - T.length, Nat.zero_le _, rfl, rfl, by omega, Lib.hid (by rw [sumN_zero]; simp), Ext.refl _⟩
    case round =>
      obtain ⟨k, r, hk, rfl, rfl, hr0, hr, hx⟩ := hrel
      have hr1 : r ≤ 1099511627776 := by have := hr.out; omega
      by_cases hlt : k < T.length
      · obtain ⟨b, off, rfl, dv⟩ := hcv (by omega)
        obtain ⟨u, hu, iu⟩ := dv k hlt
        have hs := sumN_succ (g := bulks T) (k := k) (by rw [bulks_len]; exact hlt)
        rw [bulks_get hlt] at hs
        obtain ⟨d, hd⟩ : ∃ d, d = T[k] := ⟨_, rfl⟩
        rw [← hd] at iu hs
        have c0 := hx.cell hu
        have IU := Lib.hid (iu.ext hx)
        have HS := Lib.hid hs
        clear hcv dv hu iu hs hd
        by_cases hl : r < bulkR d
        · have L := Lib.hid (lessened_no hl)
          have hsum := sumN_mono (g := bulks T) (k := k + 1) (by rw [bulks_len]; omega)
          have HL := Lib.hid (show lessened left (bulkT T) = -1 from lessened_no (by have h1 := hr.out; have h2 := HS.out; have h3 := HBK.out; omega))
          clear hl hsum
          go_wp2_with fail
          refine (szRowS_any _ d _ _ IU.out hr0 (by omega)).mono ?_
          rintro e w2 ⟨rfl, x2⟩
          have hx2 := hx.trans x2
          clear x2 hx c0
          rw [L.out]
          go_wp2
          go_ret
          exact ⟨by rw [HL.out]; rfl, hx2⟩
        · obtain ⟨q, hq⟩ : ∃ q, q = r - (bulkR d : Int) := ⟨_, rfl⟩
          have hq0 : 0 ≤ q := by omega
          have L : Hid (lessened r (bulkR d) = q) := Lib.hid (by rw [hq]; exact lessened_yes (by omega))
          have HQ := Lib.hid hq
          clear hl hq
          go_wp2_with fail
          refine (szRowS_any _ d _ _ IU.out hr0 (by omega)).mono ?_
          rintro e w2 ⟨rfl, x2⟩
          have hx2 := hx.trans x2
          clear x2 hx c0
          rw [L.out]
          go_wp2
          go_roundw
          case rel => exact ⟨k + 1, q, by omega, by go_num, rfl, hq0, Lib.hid (by have h1 := hr.out; have h2 := HS.out; have h3 := HQ.out; omega), hx2⟩
          case measure => simp [intOf]; omega
      · obtain rfl : k = T.length := by omega
        go_wp2
        go_ret
        refine ⟨?_, hx⟩
        have h1 := hr.out
        have h3 := HBK.out
        have h4 := sumN_all (bulks T)
        rw [bulks_len] at h4
        have he : lessened left (bulkT T) = r := by rw [lessened_yes (by omega)]; omega
        rw [he]; rfl
set_option maxHeartbeats 1000000 in
theorem szTable_any (n : Int) (u : Value) (T : List (List RowD)) (left : Int) (w : World) (hv : Rowzz w u T) (h0 : 0 ≤ left) (h1 : left ≤ 1099511627776) :
    Calls Tryz.prog 7 #[.agg #[.int .i64 n, u], .int .i64 left] w (IntExt (lessened left (bulkT T)) w) := by
  have HB := attrAt_new w 24 n u
  by_cases hlt : left < bulkT T
  · have L := Lib.hid (lessened_no hlt)
    clear hlt
    go_enter Tryz.func7, Tryz.ntmps7
    go_wp2_with fail
    refine (szRowSS_any _ _ _ _ (hv.ext (Ext.alloc (Ext.refl _) _)) h0 h1).mono ?_
    rintro e w1 ⟨rfl, x1⟩
    have hx := (Ext.alloc (Ext.refl w) _).trans x1
    clear x1 HB
    rw [L.out]
    go_wp2
    go_ret
    exact ⟨by rw [L.out]; rfl, hx⟩
  · obtain ⟨q, hq⟩ : ∃ q, q = left - (bulkT T : Int) := ⟨_, rfl⟩
    have hq0 : 0 ≤ q := by omega
    have LR : Hid (lessened left (bulkT T) = q) := Lib.hid (by rw [hq]; exact lessened_yes (by omega))
    clear hlt hq
    rw [LR.out]
    go_enter Tryz.func7, Tryz.ntmps7
    go_wp2_with fail
    refine (szRowSS_any _ _ _ _ (hv.ext (Ext.alloc (Ext.refl _) _)) h0 h1).mono ?_
    rintro e w1 ⟨rfl, x1⟩
    have hx := (Ext.alloc (Ext.refl w) _).trans x1
    clear x1 HB
    rw [LR.out]
    go_wp2
    go_ret
    exact ⟨rfl, hx⟩
end Go.Proofs.YtcpmfcigciknlaaGreat

namespace Go.Proofs.YtcpmfcigciknlaaGreat
open Go.RowKit
set_option linter.unusedVariables false
end Go.Proofs.YtcpmfcigciknlaaGreat

namespace Go.Proofs.YtcpmfcigciknlaaGreat
open Go.RowKit
def cutTo (cut : Nat → Nat) (k e : Nat) : Nat → Nat := fun j => if j ≤ k then cut j else e
theorem cutTo_old {cut : Nat → Nat} {k e j : Nat} (h : j ≤ k) : cutTo cut k e j = cut j := by unfold cutTo; rw [if_pos h]
theorem cutTo_new {cut : Nat → Nat} {k e : Nat} : cutTo cut k e (k + 1) = e := by unfold cutTo; rw [if_neg (by omega)]
structure CutOk (lo k hi : Nat) (cut : Nat → Nat) : Prop where
  mono : ∀ j, j < k → cut j ≤ cut (j + 1)
  lo : lo ≤ cut 0
  hi : cut k ≤ hi
theorem CutOk.start {lo a hi : Nat} (h1 : lo ≤ a) (h2 : a ≤ hi) : CutOk lo 0 hi (fun _ => a) := ⟨fun j h => by omega, h1, h2⟩
theorem CutOk.le {lo k hi : Nat} {cut : Nat → Nat} (h : CutOk lo k hi cut) {i j : Nat} (hij : i ≤ j) (hj : j ≤ k) : cut i ≤ cut j := cut_mono h.mono i j hij hj
theorem CutOk.low {lo k hi : Nat} {cut : Nat → Nat} (h : CutOk lo k hi cut) {j : Nat} (hj : j ≤ k) : lo ≤ cut j := Nat.le_trans h.lo (h.le (Nat.zero_le _) hj)
theorem CutOk.high {lo k hi : Nat} {cut : Nat → Nat} (h : CutOk lo k hi cut) {j : Nat} (hj : j ≤ k) : cut j ≤ hi := Nat.le_trans (h.le hj (Nat.le_refl _)) h.hi
theorem CutOk.more {lo lo' k hi hi' : Nat} {cut : Nat → Nat} (h : CutOk lo k hi cut) (h1 : lo' ≤ lo) (h2 : hi ≤ hi') : CutOk lo' k hi' cut := ⟨h.mono, Nat.le_trans h1 h.lo, Nat.le_trans h.hi h2⟩
end Go.Proofs.YtcpmfcigciknlaaGreat

namespace Go.Proofs.YtcpmfcigciknlaaGreat
open Go.RowKit
set_option linter.unusedVariables false
structure FrI (S lo hi : Nat) (w : World) (v : Value) (l : List Int) : Prop where
  fresh : Fresh lo w v l
  und : Und hi v
  low : S ≤ lo
  ord : lo ≤ hi
  high : hi ≤ w.heap.size
theorem FrI.ext {S lo hi : Nat} {w w' : World} {v : Value} {l : List Int} (h : FrI S lo hi w v l) (e : Ext w w') : FrI S lo hi w' v l := ⟨h.fresh.ext e, h.und, h.low, h.ord, Nat.le_trans h.high e.size⟩
theorem FrI.ins {S lo hi q : Nat} {w w' : World} {v : Value} {l : List Int} (h : FrI S lo hi w v l) (k : Ins q S w w') : FrI S lo hi w' v l := ⟨h.fresh.ins_high k h.low, h.und, h.low, h.ord, Nat.le_trans h.high k.size⟩
theorem FreshR.ins_high {B lo hi : Nat} {w w' : World} {v : Value} {R : List RowD} (h : FreshR B w v R) (k : Ins lo hi w w') (hb : hi ≤ B) : FreshR B w' v R := by
  obtain ⟨xs, us, h1, h2, h3, h4⟩ := h
  refine ⟨xs, us, k.row h1 (fun b e => .inr (Nat.le_trans hb (World.ownsRow.lt h1 b e).1)), h2, ⟨h3.len, fun j u l hu hl => k.row (h3.row j u l hu hl) (fun b e => .inr (Nat.le_trans hb (World.ownsRow.lt (h3.row j u l hu hl) b e).1)), h3.apart⟩, h4⟩
structure LeadF (B : Nat) (w : World) (d : LeadD) (u1 u2 u3 u4 : Value) : Prop where
  f1 : Fresh B w u1 d.l1
  f2 : Fresh B w u2 d.l2
  f3 : Fresh B w u3 d.who
  f4 : FreshR B w u4 d.seen
theorem LeadF.ext {B : Nat} {w w' : World} {d : LeadD} {u1 u2 u3 u4 : Value} (h : LeadF B w d u1 u2 u3 u4) (e : Ext w w') : LeadF B w' d u1 u2 u3 u4 := ⟨h.f1.ext e, h.f2.ext e, h.f3.ext e, h.f4.ext e⟩
theorem LeadF.ins {B lo hi : Nat} {w w' : World} {d : LeadD} {u1 u2 u3 u4 : Value} (h : LeadF B w d u1 u2 u3 u4) (k : Ins lo hi w w') (hb : hi ≤ B) : LeadF B w' d u1 u2 u3 u4 := ⟨h.f1.ins_high k hb, h.f2.ins_high k hb, h.f3.ins_high k hb, h.f4.ins_high k hb⟩
theorem LeadF.more {B B' : Nat} {w : World} {d : LeadD} {u1 u2 u3 u4 : Value} (h : LeadF B w d u1 u2 u3 u4) (hb : B' ≤ B) : LeadF B' w d u1 u2 u3 u4 := ⟨h.f1.more hb, h.f2.more hb, h.f3.more hb, h.f4.more hb⟩
theorem LeadF.reads {B : Nat} {w : World} {d : LeadD} {u1 u2 u3 u4 : Value} (h : LeadF B w d u1 u2 u3 u4) : LeadL w d u1 u2 u3 u4 := ⟨h.f1.ints, h.f2.ints, h.f3.ints, h.f4.rows⟩
structure FrR (lo hi : Nat) (w : World) (v : Value) (l : List Int) : Prop where
  fresh : Fresh lo w v l
  und : Und hi v
theorem FrR.kept {lo hi : Nat} {w w' : World} {v : Value} {l : List Int} (h : FrR lo hi w v l) (k : Stood lo hi w w') : FrR lo hi w' v l := ⟨k.row h.fresh (fun b e => ⟨(World.ownsRow.lt h.fresh b e).1, h.und b e⟩), h.und⟩
theorem FrR.more {lo lo' hi hi' : Nat} {w : World} {v : Value} {l : List Int} (h : FrR lo hi w v l) (a : lo' ≤ lo) (b : hi ≤ hi') : FrR lo' hi' w v l := ⟨h.fresh.more a, h.und.more b⟩
def LeadC (lo hi : Nat) (w : World) (d : LeadD) (u1 u2 u3 u4 : Value) : Prop :=
  ∃ a b c, lo ≤ a ∧ a ≤ b ∧ b ≤ c ∧ c ≤ hi ∧ FrR lo a w u1 d.l1 ∧ FrR a b w u2 d.l2 ∧ FrR b c w u3 d.who ∧ FreshI c hi w u4 d.seen
theorem LeadC.kept {lo hi : Nat} {w w' : World} {d : LeadD} {u1 u2 u3 u4 : Value} (h : LeadC lo hi w d u1 u2 u3 u4) (k : Stood lo hi w w') : LeadC lo hi w' d u1 u2 u3 u4 := by
  obtain ⟨a, b, c, h1, h2, h3, h4, f1, f2, f3, f4⟩ := h
  exact ⟨a, b, c, h1, h2, h3, h4, f1.kept (k.within (Nat.le_refl _) (by omega)), f2.kept (k.within (by omega) (by omega)), f3.kept (k.within (by omega) (by omega)), f4.kept (k.within (by omega) (Nat.le_refl _))⟩
theorem FreshI.more_hi {lo hi hi' : Nat} {w : World} {v : Value} {R : List RowD} (h : FreshI lo hi w v R) (k : hi ≤ hi') : FreshI lo hi' w v R := by
  obtain ⟨xs, us, h1, h2, h3, h4, h5, h6⟩ := h
  exact ⟨xs, us, h1, h2, h3, h4, h5.more k, fun j u hu => (h6 j u hu).more k⟩
theorem LeadC.more {lo lo' hi hi' : Nat} {w : World} {d : LeadD} {u1 u2 u3 u4 : Value} (h : LeadC lo hi w d u1 u2 u3 u4) (p : lo' ≤ lo) (q : hi ≤ hi') : LeadC lo' hi' w d u1 u2 u3 u4 := by
  obtain ⟨a, b, c, h1, h2, h3, h4, f1, f2, f3, f4⟩ := h
  exact ⟨a, b, c, by omega, h2, h3, by omega, f1.more p (Nat.le_refl _), f2, f3, f4.more_hi q⟩
theorem LeadC.reads {lo hi : Nat} {w : World} {d : LeadD} {u1 u2 u3 u4 : Value} (h : LeadC lo hi w d u1 u2 u3 u4) : LeadL w d u1 u2 u3 u4 := by
  obtain ⟨a, b, c, _, _, _, _, f1, f2, f3, f4⟩ := h
  exact ⟨f1.fresh.ints, f2.fresh.ints, f3.fresh.ints, f4.fresh.rows⟩
end Go.Proofs.YtcpmfcigciknlaaGreat

namespace Go.Proofs.YtcpmfcigciknlaaGreat
open Go.RowKit
set_option linter.unusedVariables false
theorem leadVs_len (d : LeadD) (u1 u2 u3 u4 : Value) : (leadVs d u1 u2 u3 u4).length = 16 := rfl
def XLead (xs : List Value) (o : Nat) (d : LeadD) (u1 u2 u3 u4 : Value) : Prop := ∀ q v, (leadVs d u1 u2 u3 u4)[q]? = some v → xs[o + q]? = some v
theorem lead_lt {d : LeadD} {u1 u2 u3 u4 v : Value} {q : Nat} (h : (leadVs d u1 u2 u3 u4)[q]? = some v) : q < 16 := by
  have := (List.getElem?_eq_some_iff.1 h).1
  rwa [leadVs_len] at this
theorem XLead.put_other {xs vs : List Value} {o p : Nat} {d : LeadD} {u1 u2 u3 u4 : Value} (h : XLead xs o d u1 u2 u3 u4) (hv : vs.length = 16) (hap : o + 16 ≤ p ∨ p + 16 ≤ o) : XLead (putL xs p vs) o d u1 u2 u3 u4 := by
  intro q v hq
  have := lead_lt hq
  rw [putL_out _ _ _ _ (by omega)]
  exact h q v hq
theorem XLead.put {xs : List Value} {o : Nat} {d : LeadD} {u1 u2 u3 u4 : Value} (h : o + 16 ≤ xs.length) : XLead (putL xs o (leadVs d u1 u2 u3 u4)) o d u1 u2 u3 u4 := by
  intro q v hq
  have := lead_lt hq
  rw [putL_in _ o xs q (by rw [leadVs_len]; exact this) (by rw [leadVs_len]; exact h)]
  exact hq
def LeadsTo (cut : Nat → Nat) (w : World) (xs : List Value) (L : List LeadD) (k : Nat) : Prop := ∀ j (h : j < L.length), j < k → ∃ u1 u2 u3 u4, XLead xs (j * 16) L[j] u1 u2 u3 u4 ∧ LeadC (cut j) (cut (j + 1)) w L[j] u1 u2 u3 u4
theorem LeadsTo.kept {lo hi k : Nat} {cut : Nat → Nat} {w w' : World} {xs : List Value} {L : List LeadD} (h : LeadsTo cut w xs L k) (c : CutOk lo k hi cut) (s : Stood lo hi w w') : LeadsTo cut w' xs L k := fun j hj hk => by
  obtain ⟨u1, u2, u3, u4, a, b⟩ := h j hj hk
  exact ⟨u1, u2, u3, u4, a, b.kept (s.within (c.low (by omega)) (c.high (by omega)))⟩
theorem LeadsTo.put {g k e : Nat} {cut : Nat → Nat} {w : World} {xs : List Value} {L : List LeadD} {u1 u2 u3 u4 : Value} (h : LeadsTo cut w xs L k) (c : CutOk (g + 1) k w.heap.size cut) (hk : k < L.length) (hl : xs.length = L.length * 16) (he : e ≤ w.heap.size) (hf : LeadC (cut k) e w L[k] u1 u2 u3 u4) :
    LeadsTo (cutTo cut k e) (w.setCells g (k * 16) (leadVs L[k] u1 u2 u3 u4)) (putL xs (k * 16) (leadVs L[k] u1 u2 u3 u4)) L (k + 1) := by
  have hs : Stood (g + 1) w.heap.size w (w.setCells g (k * 16) (leadVs L[k] u1 u2 u3 u4)) := (ins_puts (lo := g) (hi := g + 1) (Nat.le_refl g) (Nat.lt_succ_self g) (leadVs L[k] u1 u2 u3 u4) (k * 16) w).stood (Nat.le_refl _) (.inr (Nat.le_refl _))
  intro j hj hjk
  by_cases ej : j = k
  · subst ej
    rw [cutTo_old (Nat.le_refl _), cutTo_new]
    exact ⟨u1, u2, u3, u4, XLead.put (by omega), hf.kept (hs.within (c.low (Nat.le_refl _)) he)⟩
  · obtain ⟨v1, v2, v3, v4, a, b⟩ := h j hj (by omega)
    rw [cutTo_old (by omega), cutTo_old (by omega)]
    exact ⟨v1, v2, v3, v4, a.put_other (leadVs_len _ _ _ _ _) (by omega), b.kept (hs.within (c.low (by omega)) (c.high (by omega)))⟩
end Go.Proofs.YtcpmfcigciknlaaGreat

namespace Go.Proofs.YtcpmfcigciknlaaGreat
open Go.RowKit
set_option linter.unusedVariables false
structure TldD where
  c : Int
  s : Int
def tdVs (d : TldD) : List Value := [.int .i64 d.c, .int .i64 d.s]
theorem tdVs_len (d : TldD) : (tdVs d ).length = 2 := rfl
def TdIn (w : World) (b o : Nat) (d : TldD) : Prop := ∀ j v, (tdVs d )[j]? = some v → w.cell? ⟨b, o + j, none⟩ = some v
theorem TdIn.ext {w w' : World} {b o : Nat} {d : TldD} (h : TdIn w b o d ) (e : Ext w w') : TdIn w' b o d  := fun j v hj => e.cell (h j v hj)
theorem tdIn_cells {w : World} {b o : Nat} {d : TldD} (h : TdIn w b o d ) :
    w.cell? ⟨b, o, none⟩ = some (.int .i64 d.c) ∧ w.cell? ⟨b, o + 1, none⟩ = some (.int .i64 d.s) :=
  ⟨h 0 _ rfl, h 1 _ rfl⟩
def Tdz (w : World) (v : Value) (L : List TldD) : Prop :=
  ∃ ao cap, v = .slice ao L.length cap ∧ L.length ≤ maxLen ∧ (L.length ≤ cap ∧ cap ≤ maxLen ∧ (ao = none → cap = 0)) ∧
    (0 < L.length → ∃ b off, ao = some ⟨b, off, none⟩ ∧ ∀ j (h : j < L.length), TdIn w b (off + j * 2) L[j] )
theorem Tdz.ext {w w' : World} {v : Value} {L : List TldD} (h : Tdz w v L) (e : Ext w w') : Tdz w' v L := by
  obtain ⟨ao, cap, hv, hm, hcap, hc⟩ := h
  refine ⟨ao, cap, hv, hm, hcap, fun hp => ?_⟩
  obtain ⟨b, off, ha, hc⟩ := hc hp
  refine ⟨b, off, ha, fun j hj => ?_⟩
  have hu := hc j hj
  exact hu.ext e
theorem Tdz.nil (w : World) : Tdz w (.slice none 0 0) [] := ⟨none, 0, rfl, by simp, ⟨by simp, by simp, fun _ => rfl⟩, fun h => by simp at h⟩
def XTd (xs : List Value) (o : Nat) (d : TldD) : Prop := ∀ q v, (tdVs d )[q]? = some v → xs[o + q]? = some v
theorem td_lt {d : TldD} {v : Value} {q : Nat} (h : (tdVs d )[q]? = some v) : q < 2 := by
  have := (List.getElem?_eq_some_iff.1 h).1
  rwa [tdVs_len] at this
theorem XTd.put_other {xs vs : List Value} {o p : Nat} {d : TldD} (h : XTd xs o d ) (hv : vs.length = 2) (hap : o + 2 ≤ p ∨ p + 2 ≤ o) : XTd (putL xs p vs) o d  := by
  intro q v hq
  have := td_lt hq
  rw [putL_out _ _ _ _ (by omega)]
  exact h q v hq
theorem XTd.put {xs : List Value} {o : Nat} {d : TldD} (h : o + 2 ≤ xs.length) : XTd (putL xs o (tdVs d )) o d  := by
  intro q v hq
  have := td_lt hq
  rw [putL_in _ o xs q (by rw [tdVs_len]; exact this) (by rw [tdVs_len]; exact h)]
  exact hq
theorem XTd.isIn {w : World} {b o : Nat} {xs : List Value} {d : TldD} (h : BoxV w b xs) (hx : XTd xs o d ) : TdIn w b o d  := fun q v hq => h.cell _ _ (hx q v hq)
def TdsTo (xs : List Value) (L : List TldD) (k : Nat) : Prop := ∀ j (h : j < L.length), j < k → XTd xs (j * 2) L[j]
theorem TdsTo.put {k : Nat} {xs : List Value} {L : List TldD} (h : TdsTo xs L k) (hk : k < L.length) (hl : xs.length = L.length * 2) : TdsTo (putL xs (k * 2) (tdVs L[k])) L (k + 1) := by
  intro j hj hjk
  by_cases e : j = k
  · subst e
    exact XTd.put (by omega)
  · exact XTd.put_other (h j hj (by omega)) (tdVs_len _) (by omega)
def TdzM (lo hi : Nat) (w : World) (v : Value) (L : List TldD) : Prop :=
  ∃ g xs, lo ≤ g ∧ g < hi ∧ v = .slice (some ⟨g, 0, none⟩) L.length L.length ∧ L.length ≤ maxLen ∧ BoxV w g xs ∧ xs.length = L.length * 2 ∧ TdsTo xs L L.length
theorem TdzM.reads {lo hi : Nat} {w : World} {v : Value} {L : List TldD} (h : TdzM lo hi w v L) : Tdz w v L := by
  obtain ⟨g, xs, _, _, rfl, hm, hb, _, hc⟩ := h
  refine ⟨some ⟨g, 0, none⟩, _, rfl, hm, ⟨Nat.le_refl _, hm, fun h => by cases h⟩, fun _ => ⟨g, 0, rfl, fun j hj => ?_⟩⟩
  have a := hc j hj hj
  rw [Nat.zero_add]; exact XTd.isIn hb a
theorem TdzM.kept {lo hi : Nat} {w w' : World} {v : Value} {L : List TldD} (h : TdzM lo hi w v L) (s : Stood lo hi w w') : TdzM lo hi w' v L := by
  obtain ⟨g, xs, hg, hh, hv, hm, hb, hl, hc⟩ := h
  exact ⟨g, xs, hg, hh, hv, hm, hb.kept s hg hh, hl, hc⟩
theorem TdzM.more {lo lo' hi hi' : Nat} {w : World} {v : Value} {L : List TldD} (h : TdzM lo hi w v L) (h1 : lo' ≤ lo) (h2 : hi ≤ hi') : TdzM lo' hi' w v L := by
  obtain ⟨g, xs, hg, hh, r⟩ := h
  exact ⟨g, xs, Nat.le_trans h1 hg, Nat.lt_of_lt_of_le hh h2, r⟩
theorem TdzM.form {lo hi : Nat} {w : World} {v : Value} {L : List TldD} (h : TdzM lo hi w v L) : ∃ a c, v = .slice a L.length c := by
  obtain ⟨g, _, _, _, hv, _⟩ := h
  exact ⟨_, _, hv⟩
end Go.Proofs.YtcpmfcigciknlaaGreat

namespace Go.Proofs.YtcpmfcigciknlaaGreat
open Go.RowKit
set_option linter.unusedVariables false
set_option maxHeartbeats 1000000 in
theorem eqTold_same (c s : Int) (w : World) :
    Calls Tryz.prog 21 #[.agg #[.int .i64 c, .int .i64 s], .agg #[.int .i64 c, .int .i64 s]] w (BoolExt true w) := by
  have e0 : (c != c) = false := by simp
  have e1 : (s != s) = false := by simp
  go_enter Tryz.func21, Tryz.ntmps21
  go_wp2
  go_ret
  exact ⟨rfl, Ext.alloc (Ext.alloc (Ext.refl _) _) _⟩
end Go.Proofs.YtcpmfcigciknlaaGreat

namespace Go.Proofs.YtcpmfcigciknlaaGreat
open Go.RowKit
set_option linter.unusedVariables false
def goodS (l : List Int) : Bool := decide (l.length = 4) && (allIn l 0 400 && decide (l.sum = 400))
theorem goodS_get {l : List Int} (h : goodS l = true) : l.length = 4 ∧ allIn l 0 400 = true ∧ l.sum = 400 := by
  simpa [goodS] using h
end Go.Proofs.YtcpmfcigciknlaaGreat

namespace Go.Proofs.YtcpmfcigciknlaaGreat
open Go.RowKit
set_option linter.unusedVariables false
def DidTo (B : Nat) (u : Value) (l : List Int) (c s : Int) (w : World) (e : Ending) (w' : World) : Prop :=
  e = .returned (.agg #[.int .i64 c, .int .i64 s]) ∧ Fresh B w' u l ∧ w.grownBy w' u.ownBlock
theorem fresh_at {B : Nat} {w : World} {u : Value} {l : List Int} (hf : Fresh B w u l) (h4 : l.length = 4) : ∃ g cap, u = .slice (some ⟨g, 0, none⟩) 4 cap ∧ B ≤ g ∧ g < w.heap.size := by
  rcases hf.2 with ⟨rfl, hn⟩ | ⟨g, cap, cur, rfl, hb, hg, _⟩
  · omega
  · rw [h4]
    exact ⟨g, cap, rfl, hb, (Array.getElem?_eq_some_iff.1 hg).1⟩
theorem fresh_own {B g cap : Nat} {w : World} {l : List Int} (hf : Fresh B w (.slice (some ⟨g, 0, none⟩) 4 cap) l) (h4 : l.length = 4) :
    w.ownsRow B 3 1 (.slice (some ⟨g, 0, none⟩) 4 cap) 4 (l.map (Value.int .i64)) := by
  unfold Fresh at hf
  rw [h4] at hf
  exact hf
theorem fresh_cell {B g cap F : Nat} {w : World} {l : List Int} {x : Int} (hf : Fresh B w (.slice (some ⟨g, 0, none⟩) 4 cap) l) (h4 : l.length = 4) (hx : l[F]? = some x) : w.cell? ⟨g, F, none⟩ = some (.int .i64 x) := by
  have hF := (List.getElem?_eq_some_iff.1 hx).1
  have h := World.ownsRow.cellAt (fresh_own hf h4) F (by omega)
  rw [h]
  simp [hx]
theorem fresh_frozen {B g cap : Nat} {w : World} {l : List Int} (hf : Fresh B w (.slice (some ⟨g, 0, none⟩) 4 cap) l) (h4 : l.length = 4) (F : Nat) : w.frozen? ⟨g, F, none⟩ = false := World.ownsRow.frozenAt (fresh_own hf h4) F
theorem fresh_put {B g cap : Nat} {w : World} {l : List Int} (hf : Fresh B w (.slice (some ⟨g, 0, none⟩) 4 cap) l) (h4 : l.length = 4) (F : Nat) (y : Int) :
    Fresh B (w.setCell ⟨g, F, none⟩ (.int .i64 y)) (.slice (some ⟨g, 0, none⟩) 4 cap) (l.set F y) ∧ w.grownBy (w.setCell ⟨g, F, none⟩ (.int .i64 y)) (some g) := by
  have h := World.ownsRow.stored (fresh_own hf h4) F (.int .i64 y)
  refine ⟨?_, h.2⟩
  unfold Fresh
  rw [List.length_set, h4, List.map_set]
  exact h.1
theorem fresh_other {B g cap : Nat} {w : World} {l : List Int} (hf : Fresh B w (.slice (some ⟨g, 0, none⟩) 4 cap) l) (b o : Nat) (v : Value) (hb : g ≠ b) : Fresh B (w.setCell ⟨b, o, none⟩ v) (.slice (some ⟨g, 0, none⟩) 4 cap) l := by
  refine ⟨hf.1, ?_⟩
  rcases hf.2 with ⟨h, _⟩ | ⟨g', cap', cur, h, hb', hg, rest⟩
  · cases h
  · injection h with h1 h2 h3
    injection h1 with h1
    injection h1 with h1
    subst h1
    exact .inr ⟨g, cap', cur, by rw [← h2, ← h3], hb', (Below.heap_setCell _ _ _ g hb).trans hg, rest⟩
theorem grown_putD {w w1 : World} {r : Option Nat} (h : w.grownBy w1 r) (b o : Nat) (v : Value) (hb : w.heap.size ≤ b ∨ some b = r) : w.grownBy (w1.setCell ⟨b, o, none⟩ v) r := by
  have q : Below 0 w1 (w1.setCell ⟨b, o, none⟩ v) := Below.setCell (Below.refl _ _) (Nat.zero_le _) _
  refine ⟨q.os.trans h.os, q.tape.trans h.tape, q.output.trans h.output, Nat.le_trans h.size q.size, fun k hk hne => ?_⟩
  refine (Below.heap_setCell _ _ _ k ?_).trans (h.block k hk hne)
  intro e
  subst e
  rcases hb with hb | hb
  · omega
  · exact hne hb
theorem grown_of_ext {w w' : World} (h : Ext w w') (r : Option Nat) : w.grownBy w' r := ⟨h.os, h.tape, h.output, h.size, fun k hk _ => Below.block h k hk⟩
set_option maxRecDepth 100000 in
set_option maxHeartbeats 2000000 in
theorem transfer_poor (B : Nat) (u : Value) (l : List Int) (F T : Nat) (a x : Int) (w : World) (hf : Fresh B w u l) (h4 : l.length = 4) (hF : F < 4) (hx : l[F]? = some x) (hp : x < a) :
    Calls Tryz.prog 280 #[.agg #[.int .i64 F, .int .i64 T, .int .i64 a], u] w (DidTo B u l 2 0 w) := by
  obtain ⟨g, cap, rfl, hb, hg⟩ := fresh_at hf h4
  have gF := fresh_cell hf h4 hx
  have n1 : w.heap.size ≠ g := by omega
  have n2 : w.heap.size + 1 ≠ g := by omega
  have i1 : (0 : Int) ≤ (F : Int) := by omega
  have i2 : (F : Int) < 4 := by omega
  have FF := Lib.hid hf
  clear hf hx
  go_enter Tryz.func280, Tryz.ntmps280
  go_wp2
  go_quiet (fail)
  go_wp2
  have x : Ext w (((((w.alloc (.cells #[.int .i64 F, .int .i64 T, .int .i64 a] 191)).alloc (.cells #[.int .i64 0, .int .i64 0] 42)).drewN nq).setCell ⟨w.heap.size + 1, 0, none⟩ (.int .i64 2)).setCell ⟨w.heap.size + 1, 1, none⟩ (.int .i64 0)) :=
    Below.setCell (Below.setCell ((Ext.alloc (Ext.alloc (Ext.refl _) _) _).drewN nq) (Nat.le_succ _) _) (Nat.le_succ _) _
  exact bodyPost_ret (v := .agg #[.int .i64 2, .int .i64 0]) (by simp [results, Tryz.results280, go_sem]) rfl ⟨rfl, FF.out.ext x, grown_of_ext x _⟩
set_option maxRecDepth 100000 in
set_option maxHeartbeats 2000000 in
theorem transfer_done (B : Nat) (u : Value) (l : List Int) (F T : Nat) (a x y : Int) (w : World) (hf : Fresh B w u l) (h4 : l.length = 4) (hne : F ≠ T) (hF : F < 4) (hT : T < 4) (hx : l[F]? = some x) (hy : l[T]? = some y) (hp : a ≤ x) (ha0 : 1 ≤ a) (ha1 : a ≤ 1000) (hx1 : x ≤ 400) (hy0 : 0 ≤ y) (hy1 : y ≤ 400) :
    Calls Tryz.prog 280 #[.agg #[.int .i64 F, .int .i64 T, .int .i64 a], u] w (DidTo B u ((l.set F (x - a)).set T (y + a)) 1 0 w) := by
  obtain ⟨g, cap, rfl, hb, hg⟩ := fresh_at hf h4
  have gF := fresh_cell hf h4 hx
  have zF := fresh_frozen hf h4 F
  have gT := fresh_cell hf h4 hy
  have zT := fresh_frozen hf h4 T
  have hne' : T ≠ F := fun h => hne h.symm
  have n1 : w.heap.size ≠ g := by omega
  have n2 : w.heap.size + 1 ≠ g := by omega
  have i1 : (0 : Int) ≤ (F : Int) := by omega
  have i2 : (F : Int) < 4 := by omega
  have j1 : (0 : Int) ≤ (T : Int) := by omega
  have j2 : (T : Int) < 4 := by omega
  have w1 : wrap64 (x - a) = x - a := by unfold wrap64; omega
  have w2 : wrap64 (y + a) = y + a := by unfold wrap64; omega
  have FF := Lib.hid hf
  clear hf hx hy
  go_enter Tryz.func280, Tryz.ntmps280
  go_wp2
  go_quiet (fail)
  go_wp2
  go_region
  go_wp2
  go_region
  go_wp2
  have x0 : Ext w (((w.alloc (.cells #[.int .i64 F, .int .i64 T, .int .i64 a] 191)).alloc (.cells #[.int .i64 0, .int .i64 0] 42)).drewN (nq + 1)) :=
    (Ext.alloc (Ext.alloc (Ext.refl _) _) _).drewN _
  have f0 := FF.out.ext x0
  have f1 := (fresh_put f0 h4 F (x - a)).1
  have f2 := (fresh_put f1 (by simp [h4]) T (y + a)).1
  have f3 := fresh_other f2 (w.heap.size + 1) 0 (.int .i64 1) (by omega)
  have f4 := fresh_other f3 (w.heap.size + 1) 1 (.int .i64 0) (by omega)
  have g1 := grown_putD (grown_putD (grown_putD (grown_putD (grown_of_ext x0 (some g)) g F (.int .i64 (x - a)) (.inr rfl)) g T (.int .i64 (y + a)) (.inr rfl)) (w.heap.size + 1) 0 (.int .i64 1) (.inl (by omega))) (w.heap.size + 1) 1 (.int .i64 0) (.inl (by omega))
  exact bodyPost_ret (v := .agg #[.int .i64 1, .int .i64 0]) (by simp [results, Tryz.results280, go_sem]) rfl ⟨rfl, f4.ext (Ext.drew (Ext.refl _)), g1.trans (grown_of_ext (Ext.drew (Ext.refl _)) _)⟩
set_option maxRecDepth 100000 in
set_option maxHeartbeats 2000000 in
theorem inquiry_any (B : Nat) (u : Value) (l : List Int) (F : Nat) (x : Int) (w : World) (hf : Fresh B w u l) (h4 : l.length = 4) (hF : F < 4) (hx : l[F]? = some x) :
    Calls Tryz.prog 281 #[.agg #[.int .i64 F], u] w (DidTo B u l 3 x w) := by
  obtain ⟨g, cap, rfl, hb, hg⟩ := fresh_at hf h4
  have gF := fresh_cell hf h4 hx
  have n1 : w.heap.size ≠ g := by omega
  have n2 : w.heap.size + 1 ≠ g := by omega
  have i1 : (0 : Int) ≤ (F : Int) := by omega
  have i2 : (F : Int) < 4 := by omega
  have FF := Lib.hid hf
  clear hf hx
  go_enter Tryz.func281, Tryz.ntmps281
  go_wp2
  have x1 : Ext w ((w.alloc (.cells #[.int .i64 F] 193)).alloc (.cells #[.int .i64 3, .int .i64 x] 42)) := Ext.alloc (Ext.alloc (Ext.refl _) _) _
  exact bodyPost_ret (v := .agg #[.int .i64 3, .int .i64 x]) (by simp [results, Tryz.results281, go_sem]) rfl ⟨rfl, FF.out.ext x1, grown_of_ext x1 _⟩
set_option maxRecDepth 100000 in
set_option maxHeartbeats 2000000 in
theorem idleness_any (B : Nat) (u : Value) (l : List Int) (w : World) (hf : Fresh B w u l) :
    Calls Tryz.prog 282 #[.agg #[], u] w (DidTo B u l 0 0 w) := by
  go_enter Tryz.func282, Tryz.ntmps282
  go_wp2
  have x1 : Ext w ((w.alloc (.cells #[] 195)).alloc (.cells #[.int .i64 0, .int .i64 0] 42)) := Ext.alloc (Ext.alloc (Ext.refl _) _) _
  exact bodyPost_ret (v := .agg #[.int .i64 0, .int .i64 0]) (by simp [results, Tryz.results282, go_sem]) rfl ⟨rfl, hf.ext x1, grown_of_ext x1 _⟩
def deedV (k f t a : Int) : Value := if k = 1 then .iface 191 (.agg #[.int .i64 f, .int .i64 t, .int .i64 a]) else if k = 2 then .iface 193 (.agg #[.int .i64 f]) else .iface 195 (.agg #[])
set_option maxHeartbeats 2000000 in
theorem deedOf_1 (i f t a : Int) (w : World) :
    Calls Tryz.prog 70 #[.agg #[.int .i64 1, .int .i64 i, .int .i64 f, .int .i64 t, .int .i64 a]] w fun e w' => e = .returned (deedV 1 f t a) ∧ Ext w w' := by
  go_enter Tryz.func70, Tryz.ntmps70
  go_wp2
  go_ret
  exact ⟨rfl, Ext.alloc (Ext.refl _) _⟩
set_option maxHeartbeats 2000000 in
theorem deedOf_2 (i f t a : Int) (w : World) :
    Calls Tryz.prog 70 #[.agg #[.int .i64 2, .int .i64 i, .int .i64 f, .int .i64 t, .int .i64 a]] w fun e w' => e = .returned (deedV 2 f t a) ∧ Ext w w' := by
  go_enter Tryz.func70, Tryz.ntmps70
  go_wp2
  go_ret
  exact ⟨rfl, Ext.alloc (Ext.refl _) _⟩
set_option maxHeartbeats 2000000 in
theorem deedOf_0 (i f t a : Int) (w : World) :
    Calls Tryz.prog 70 #[.agg #[.int .i64 0, .int .i64 i, .int .i64 f, .int .i64 t, .int .i64 a]] w fun e w' => e = .returned (deedV 0 f t a) ∧ Ext w w' := by
  go_enter Tryz.func70, Tryz.ntmps70
  go_wp2
  go_ret
  exact ⟨rfl, Ext.alloc (Ext.refl _) _⟩
def didL (k f t a : Int) (l : List Int) : List Int := if k = 1 then (if (l[f.toNat]?.getD 0) < a then l else (l.set f.toNat ((l[f.toNat]?.getD 0) - a)).set t.toNat ((l[t.toNat]?.getD 0) + a)) else l
def didC (k f a : Int) (l : List Int) : Int := if k = 1 then (if (l[f.toNat]?.getD 0) < a then 2 else 1) else if k = 2 then 3 else 0
def didS (k f : Int) (l : List Int) : Int := if k = 2 then (l[f.toNat]?.getD 0) else 0
end Go.Proofs.YtcpmfcigciknlaaGreat

namespace Go.Proofs.YtcpmfcigciknlaaGreat
open Go.RowKit
set_option linter.unusedVariables false
theorem meth_1 (f t a : Int) (w : World) : (method 435 191 (.agg #[.int .i64 f, .int .i64 t, .int .i64 a]) "loop.example/g00698/impl.doTo").run Tryz.prog w = .ok (280, .agg #[.int .i64 f, .int .i64 t, .int .i64 a]) w := by kernel_rfl
theorem meth_2 (f : Int) (w : World) : (method 435 193 (.agg #[.int .i64 f]) "loop.example/g00698/impl.doTo").run Tryz.prog w = .ok (281, .agg #[.int .i64 f]) w := by kernel_rfl
theorem meth_0 (w : World) : (method 435 195 (.agg #[]) "loop.example/g00698/impl.doTo").run Tryz.prog w = .ok (282, .agg #[]) w := by kernel_rfl
end Go.Proofs.YtcpmfcigciknlaaGreat
