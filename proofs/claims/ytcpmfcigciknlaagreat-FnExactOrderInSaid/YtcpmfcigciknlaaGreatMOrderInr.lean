/- Texts of this proof, part r: words, plain facts, contracts. -/
import Derived.Test.YtcpmfcigciknlaaGreatMOrderIno
import Derived.Test.YtcpmfcigciknlaaGreatMOrderInp
import Derived.Test.YtcpmfcigciknlaaGreatMOrderInq
import Derived.Test.YtcpmfcigciknlaaGreatMOrderInk
import Derived.Test.YtcpmfcigciknlaaGreatMOrderInj
import Derived.Deep.RegionLaw
import Derived.Deep.DeepCutAuto
import Derived.Test.YtcpmfcigciknlaaGreatMOrderInf
import Derived.Test.YtcpmfcigciknlaaGreatMOrderInm
import Derived.Test.YtcpmfcigciknlaaGreatMOrderInn
import Derived.Test.YtcpmfcigciknlaaGreatMOrderIng
import Derived.Test.YtcpmfcigciknlaaGreatMOrderInh

namespace Go.Proofs.YtcpmfcigciknlaaGreat
open Go.RowKit
set_option linter.unusedVariables false

theorem field_attr0 (s : Int) (u : Value) (W : World) : (Instr.field 81 (.agg #[.int .i64 s, u]) 0).run Tryz.prog W = .ok (.int .i64 s) W := by kernel_rfl
theorem ints_place (w : World) (p q : Nat) : Ints (w.alloc (.cells #[.int .i64 (p : Int), .int .i64 ((q : Int) + 1)] 3)) (.slice (some ⟨w.heap.size, 0, none⟩) 2 2) (pairOf (p, q)) :=
  (fresh_lit w [(p : Int), (q : Int) + 1] #[.int .i64 p, .int .i64 ((q : Int) + 1)] _ rfl (Nat.le_refl _) (by simp)).ints
theorem rowsP_lens {n : Int} {T : List (List RowD)} {P : List (List (RowD × Value))} {k a b : Nat} {L : List (RowD × Value)} (h : rowsP P = lesT n T a b) (hk : k < T.length) (hL : P[k]? = some L) : L.map Prod.fst = lesL n T a b k ∧ L.length = T[k].length := by
  have h1 : (rowsP P)[k]? = some (L.map Prod.fst) := by
    unfold rowsP
    rw [List.getElem?_map, hL]
    rfl
  rw [h, lesT_at hk] at h1
  have h2 := (Option.some.inj h1).symm
  refine ⟨h2, ?_⟩
  have h3 := congrArg List.length h2
  rw [List.length_map, lesL_len hk] at h3
  exact h3
theorem rowsP_lesPut {n : Int} {T : List (List RowD)} {P : List (List (RowD × Value))} {k j : Nat} {L : List (RowD × Value)} {z : Value} (h : rowsP P = lesT n T k j) (hk : k < T.length) (hj : j < T[k].length) (hL : P[k]? = some L) (hr : readyB n T k j = false) : rowsP (P.set k (L.set j (emptyR n, z))) = lesT n T k (j + 1) := by
  unfold rowsP
  rw [List.map_set, List.map_set, (rowsP_lens h hk hL).1]
  show (rowsP P).set k ((lesL n T k j k).set j (emptyR n)) = _
  rw [h, lesT_put hk hj hr]

/-- The ten cells of a row of such a list. -/
def Slots (w : World) (b o : Nat) : Prop := (∃ v, w.cell? ⟨b, o, none⟩ = some v) ∧ (∃ v, w.cell? ⟨b, o + 1, none⟩ = some v) ∧ (∃ v, w.cell? ⟨b, o + 2, none⟩ = some v) ∧ (∃ v, w.cell? ⟨b, o + 3, none⟩ = some v) ∧ (∃ v, w.cell? ⟨b, o + 4, none⟩ = some v) ∧ (∃ v, w.cell? ⟨b, o + 5, none⟩ = some v) ∧ (∃ v, w.cell? ⟨b, o + 6, none⟩ = some v) ∧ (∃ v, w.cell? ⟨b, o + 7, none⟩ = some v) ∧ (∃ v, w.cell? ⟨b, o + 8, none⟩ = some v) ∧ (∃ v, w.cell? ⟨b, o + 9, none⟩ = some v) ∧ (w.frozen? ⟨b, o, none⟩ = false ∧ w.frozen? ⟨b, o + 1, none⟩ = false ∧ w.frozen? ⟨b, o + 2, none⟩ = false ∧ w.frozen? ⟨b, o + 3, none⟩ = false ∧ w.frozen? ⟨b, o + 4, none⟩ = false ∧ w.frozen? ⟨b, o + 5, none⟩ = false ∧ w.frozen? ⟨b, o + 6, none⟩ = false ∧ w.frozen? ⟨b, o + 7, none⟩ = false ∧ w.frozen? ⟨b, o + 8, none⟩ = false ∧ w.frozen? ⟨b, o + 9, none⟩ = false)
theorem FreshZ.slots {lo b m c j : Nat} {w : World} {L : List (RowD × Value)} (h : FreshZ lo w (.slice (some ⟨b, 0, none⟩) m c) L) (hj : j < L.length) : Slots w b (j * 10) := by
  have hn : m = L.length := by
    obtain ⟨a, c', e⟩ := h.form
    simp only [Value.slice.injEq] at e
    exact e.2.1
  subst hn
  have hc : ∀ q, q < 10 → ∃ v, w.cell? ⟨b, j * 10 + q, none⟩ = some v := fun q hq => by
    have h1 := h.cellAt (j * 10 + q) (by omega)
    rw [flatC_at cellsR_len hj hq] at h1
    exact ⟨_, h1.trans (List.getElem?_eq_getElem (by rw [cellsR_len]; exact hq))⟩
  exact ⟨hc 0 (by omega), hc 1 (by omega), hc 2 (by omega), hc 3 (by omega), hc 4 (by omega), hc 5 (by omega), hc 6 (by omega), hc 7 (by omega), hc 8 (by omega), hc 9 (by omega), h.frozenAt (j * 10), h.frozenAt (j * 10 + 1), h.frozenAt (j * 10 + 2), h.frozenAt (j * 10 + 3), h.frozenAt (j * 10 + 4), h.frozenAt (j * 10 + 5), h.frozenAt (j * 10 + 6), h.frozenAt (j * 10 + 7), h.frozenAt (j * 10 + 8), h.frozenAt (j * 10 + 9)⟩

set_option maxHeartbeats 8000000 in
set_option maxRecDepth 100000 in
theorem l6Order_any (n : Int) (u : Value) (T : List (List RowD)) (w : World) (hu : Rowzz w u T) (hg : goodTab n T = true) :
    Calls Tryz.prog 55 #[.agg #[.int .i64 n, u]] w (fun e w' => ∃ v, e = .returned v ∧ Intss w' v (orderP n T) ∧ Ext w w') := by
  obtain ⟨hgrp, hlen, hrows⟩ := goodTab_of hg
  have hl6 : ∀ k (hk : k < T.length), T[k].length ≤ 6 := fun k hk => (hrows _ (List.getElem_mem hk)).1
  have hm5 : T.length ≤ 5 := by rcases isGrp_of hgrp with h | h <;> omega
  obtain ⟨au, cu, rfl, _⟩ := id hu
  have hx0 := Ext.alloc1 w (.cells #[.int .i64 n, .slice au T.length cu] 32)
  have b0 := attrAt_new w 32 n (.slice au T.length cu)
  obtain ⟨wb, hwb⟩ : ∃ wb, wb = w.alloc (.cells #[.int .i64 n, .slice au T.length cu] 32) := ⟨_, rfl⟩
  rw [← hwb] at hx0 b0
  have SB : Hid (wb.heap.size = w.heap.size + 1) := Lib.hid (by rw [hwb]; simp)
  have HU := Lib.hid (hu.ext hx0)
  have HX := Lib.hid hx0
  have HB := Lib.hid b0
  have HWB := Lib.hid hwb
  have HG := Lib.hid hg
  have HGR := Lib.hid hgrp
  have HL6 := Lib.hid hl6
  clear hu hx0 b0 hwb hg hgrp hrows hl6 hlen
  go_enter Tryz.func55, Tryz.ntmps55
  go_wp2_with fail
  rw [← HWB.out]
  refine (l6Ready_any n _ T _ HU.out HG.out).mono ?_
  rintro e w1 ⟨v1, rs, rfl, hpa, x1⟩
  have IR := Lib.hid hpa.intss
  have X1 := Lib.hid x1
  obtain ⟨a1, k1, rfl⟩ := hpa.form
  obtain ⟨c0, c1⟩ := HB.out.ext x1
  have HRL : Hid (rs.length = (readyL n T).length) := Lib.hid hpa.len
  clear hpa x1
  go_wp2_with fail
  refine (l4Own_any n _ T _ (HU.out.ext X1.out) HG.out).mono ?_
  rintro e w2 ⟨g, vs, P0, rfl, ht, hp0, hgl, x2⟩
  have hgl1 : g < w2.heap.size := (World.ownsRow.lt ht.out g rfl).2
  have x3 := Ext.alloc1 w2 (.cells #[.int .i64 n, .slice (some ⟨g, 0, none⟩) T.length T.length] 32)
  have hs : SetS w1 (w2.alloc (.cells #[.int .i64 n, .slice (some ⟨g, 0, none⟩) T.length T.length] 32)) g w2.heap.size n T.length vs P0 := by
    refine ⟨ht.ext x3, attrAt_new w2 32 n (.slice (some ⟨g, 0, none⟩) T.length T.length), fun k v hv => ?_, x2.trans x3, by rw [World.size_alloc]; exact Nat.le_refl _, hgl1, hgl⟩
    have hk : k < P0.length := by have := (List.getElem?_eq_some_iff.1 hv).1; have := ht.vl; have := ht.pl; omega
    cases hb : v.ownBlock with
    | none => exact .inl rfl
    | some b => exact .inr (fun e => by have := (World.ownsRow.lt (ht.row k v _ hv (List.getElem?_eq_getElem hk)) b hb).2; have := Option.some.inj e; omega)
  have HS := Lib.hid hs
  have HP : Hid (rowsP P0 = lesT n T 0 0) := Lib.hid (by rw [lesT_zero]; exact hp0)
  have hgN : g ≠ w2.heap.size := Nat.ne_of_lt hgl1
  have HW1 : Hid (w.heap.size + 1 ≤ w1.heap.size) := Lib.hid (by have := X1.out.size; have := SB.out; omega)
  have HWG : Hid (w1.heap.size ≤ g) := Lib.hid hgl
  clear ht hp0 x2 x3 hs c0 c1 hgl1
  go_wp2
  go_loopw [22] (fun i wr => ∃ (k : Nat) (P : List (List (RowD × Value))), k ≤ T.length ∧ i = .int .i64 k ∧ Hid (SetS w1 wr g w2.heap.size n T.length vs P) ∧ Hid (rowsP P = lesT n T k 0)) (fun i _ => T.length - (intOf i).toNat)
  case atStart => exact ⟨0, P0, Nat.zero_le _, rfl, HS, HP⟩
  case round =>
    clear HS HP
    obtain ⟨k, P, hk, rfl, HS, HP⟩ := hrel
    by_cases hlt : k < T.length
    · obtain ⟨len, hlen⟩ : ∃ l, l = T[k].length := ⟨_, rfl⟩
      have hl6 : len ≤ 6 := by rw [hlen]; exact HL6.out k hlt
      obtain ⟨v, L, hv, hL, q0, q1, fz⟩ := HS.out.tab.at hlt
      obtain ⟨av, cv, rfl⟩ := fz.form
      have hLl : L.length = len := by rw [hlen]; exact (rowsP_lens HP.out hlt hL).2
      rw [hLl] at hv q0
      obtain ⟨a0, b1⟩ := HS.out.box
      have HV := Lib.hid hv
      have HLEN := Lib.hid hlen
      have HLT := Lib.hid hlt
      have HP0 : Hid (rowsP P = lesT n T k 0) := HP
      clear hv hL fz hLl hlen
      go_wp2
      go_loopw [31] (fun i wr => ∃ (j : Nat) (P : List (List (RowD × Value))), j ≤ len ∧ i = .int .i64 j ∧ Hid (SetS w1 wr g w2.heap.size n T.length vs P) ∧ Hid (rowsP P = lesT n T k j)) (fun i _ => len - (intOf i).toNat)
      case atStart => exact ⟨0, P, Nat.zero_le _, rfl, HS, HP0⟩
      case round =>
        clear HS HP HP0 q0 q1 a0 b1
        obtain ⟨j, P, hj, rfl, HS, HP⟩ := hrel
        by_cases hjt : j < len
        · have hjT : j < T[k].length := Nat.lt_of_lt_of_eq hjt HLEN.out
          obtain ⟨v', L, hv', hL, q0, q1, fz⟩ := HS.out.tab.at HLT.out
          obtain rfl : v' = .slice av len cv := by rw [HV.out] at hv'; exact (Option.some.inj hv').symm
          have hLl : L.length = len := by rw [HLEN.out]; exact (rowsP_lens HP.out HLT.out hL).2
          obtain ⟨b, rfl⟩ : ∃ b, av = some ⟨b, 0, none⟩ := by
            rcases fz.2 with ⟨h, _⟩ | ⟨g', cap, cur, h, _⟩
            · simp only [Value.slice.injEq] at h; omega
            · simp only [Value.slice.injEq] at h; exact ⟨g', h.1⟩
          have HQ := Lib.hid (show j < L.length by rw [hLl]; exact hjt)
          have HJT := Lib.hid hjT
          have HL := Lib.hid hL
          have FZ := Lib.hid fz
          have Q0 := Lib.hid q0
          have HI := Lib.hid (IR.out.ext (HS.out.ext.trans (Ext.alloc1 wr (.cells #[.int .i64 (k : Int), .int .i64 ((j : Int) + 1)] 3))))
          have hk5 : (k : Int) ≤ 5 := by have := HLT.out; omega
          have hj5 : (j : Int) < 6 := by omega
          have HJL := Lib.hid hjt
          clear hv' hL hLl fz q0 q1 hjT
          go_wp2_with fail
          refine (l6Find_val _ _ _ (pairOf (k, j)) _ HI.out (ints_place wr k j)).mono ?_
          rintro e w5 ⟨rfl, x5⟩
          have X5 := Lib.hid ((Ext.alloc1 wr (.cells #[.int .i64 (k : Int), .int .i64 ((j : Int) + 1)] 3)).trans x5)
          have S5 := Lib.hid (HS.out.on X5.out)
          obtain ⟨r, hr⟩ : ∃ r, r = findI ((readyL n T).map pairOf) (pairOf (k, j)) := ⟨_, rfl⟩
          rw [← hr]
          clear x5
          cases hrd : readyB n T k j with
          | true =>
            have h0 : 0 ≤ r := Int.not_lt.1 fun h => by
              rw [hr] at h
              have h2 := (find_ready k j).1 h
              rw [hrd] at h2
              cases h2
            have HPN : Hid (rowsP P = lesT n T k (j + 1)) := Lib.hid (by rw [HP.out, lesT_keep hrd])
            clear hr hrd
            go_wp2
            go_roundw
            case rel => exact ⟨j + 1, P, by have := HJL.out; omega, by go_num, S5, HPN⟩
            case measure => simp [intOf]; have := HJL.out; omega
          | false =>
            have h0 : r < 0 := by
              rw [hr]
              exact (find_ready k j).2 hrd
            have HRD := Lib.hid hrd
            obtain ⟨a0, a1⟩ := S5.out.box
            have q0 := X5.out.cell Q0.out
            obtain ⟨t0, t1⟩ := (HB.out.ext X1.out).ext S5.out.ext
            have FZ' : Hid (FreshZ (g + 1) w5 (.slice (some ⟨b, 0, none⟩) len cv) L) := Lib.hid (FZ.out.ext X5.out)
            have lo7 : g + 1 ≤ w5.heap.size := by have := S5.out.lo; have := S5.out.gN; omega
            clear hr hrd
            go_wp2
            go_region_law (go_simp; go_at_call 95; refine (l3None_any n _ HGR.out).mono ?_; rintro e w8 ⟨y9, rfl, f9, x8'⟩; obtain ⟨a9, c9, rfl⟩ := f9.form; have x8 : Ext w5 w8 := (Ext.drew (Ext.refl _)).trans x8'; have m0 := x8.cell a1; have m1 := x8.cell q0; obtain ⟨⟨e0, s0⟩, ⟨e1, s1⟩, ⟨e2, s2⟩, ⟨e3, s3⟩, ⟨e4, s4⟩, ⟨e5, s5⟩, ⟨e6, s6⟩, ⟨e7, s7⟩, ⟨e8, s8⟩, ⟨e9, s9⟩, z0, z1, z2, z3, z4, z5, z6, z7, z8, z9⟩ := FreshZ.slots (FZ'.out.ext x8) HQ.out)
            all_goals
              have hws := Lib.hid ((S5.out.on x8).put (k := k) (b := b) (j := j) HV.out HL.out HQ.out (emptyR n, .slice a9 (noneL n).length c9) (f9.more (by simp; omega)))
              have HPN : Hid (rowsP (P.set k (L.set j (emptyR n, .slice a9 (noneL n).length c9))) = lesT n T k (j + 1)) := Lib.hid (rowsP_lesPut HP.out HLT.out HJT.out HL.out HRD.out)
              clear s0 s1 s2 s3 s4 s5 s6 s7 s8 s9 z0 z1 z2 z3 z4 z5 z6 z7 z8 z9 m0 m1 a0 a1 q0 t0 t1 x8 x8' f9
              go_wp2
              go_roundw
              case rel => exact ⟨j + 1, _, by have := HJL.out; omega, by go_num, hws, HPN⟩
              case measure => simp [intOf]; have := HJL.out; omega
        · obtain rfl : j = len := by omega
          have HPN : Hid (rowsP P = lesT n T (k + 1) 0) := Lib.hid (by rw [HP.out, HLEN.out, lesT_row HLT.out])
          go_wp2
          go_roundw
          case rel => exact ⟨k + 1, P, by have := HLT.out; omega, by go_num, HS, HPN⟩
          case measure => simp [intOf]; have := HLT.out; omega
    · obtain rfl : k = T.length := by omega
      have HPN : Hid (rowsP P = lessT n T) := Lib.hid (by rw [HP.out, lesT_all])
      have hrz := HS.out.tab.rows
      rw [HPN.out] at hrz
      obtain ⟨a0, b1⟩ := HS.out.box
      have HRZ := Lib.hid hrz
      have XR := Lib.hid (X1.out.trans HS.out.ext)
      clear hrz HS HP HPN
      go_wp2_with fail
      refine (l6Graph_any n _ (lessT n T) _ HRZ.out (less_good HG.out)).mono ?_
      rw [less_insts, less_graph]
      rintro e w6 ⟨vp, vg, w5, rfl, fp, x5, fg, x6⟩
      obtain ⟨ps, fv, rv⟩ := fp.vals
      have hpl : ps.length = (readyL n T).length := by rw [rv.len, List.length_map]
      have HRV : Hid (PRows 0 w6 ps (readyL n T)) := Lib.hid (PRows.ext ((show PRows wr.heap.size w5 ps (readyL n T) from ⟨hpl, fun j u x hu hx => rv.row j u _ hu (by rw [List.getElem?_map, hx]; rfl)⟩).more (Nat.zero_le _)) x6)
      have HIG := Lib.hid fg.intss
      have X56 := Lib.hid (XR.out.trans (x5.trans x6))
      have T6 := Lib.hid (HB.out.ext X56.out)
      have hv6 := fv.ext x6
      obtain ⟨m, hm⟩ : ∃ m, m = (readyL n T).length := ⟨_, rfl⟩
      have hm30 : m ≤ 30 := by rw [hm]; exact readyL_short HG.out
      have hpm : ps.length = m := by rw [hpl, hm]
      obtain ⟨ap, kp, rfl⟩ := fv.len
      obtain ⟨ag, kg, hvg, _⟩ := id HIG.out
      subst hvg
      rw [hpm] at hv6 ⊢
      have HV := Lib.hid hv6
      have HM := Lib.hid hm
      have HPL := Lib.hid hpm
      obtain ⟨K, hK⟩ : ∃ K, K = keysP n T (readyL n T) := ⟨_, rfl⟩
      have HK := Lib.hid hK
      have HKL : Hid (K.length = m) := Lib.hid (by rw [hK, hm]; simp [keysP])
      clear fp x5 fg x6 fv rv hpl hv6 hm hpm hK a0 b1 HRZ
      go_wp2
      go_loopw [9, 61] (fun kv i wx => ∃ j : Nat, j ≤ m ∧ i = .int .i64 j ∧ Hid (Fresh w6.heap.size wx kv (K.take j)) ∧ Hid (Ext w6 wx)) (fun _ i _ => m - (intOf i).toNat)
      case atStart => exact ⟨0, Nat.zero_le _, rfl, Lib.hid (World.ownsRow_nil _ _ _ _), Lib.hid (Ext.refl _)⟩
      case round =>
        obtain ⟨j, hj, rfl, HF, HX6⟩ := hrel
        by_cases hlt : j < m
        · have hjl : j < (readyL n T).length := Nat.lt_of_lt_of_eq hlt HM.out
          obtain ⟨x, hx⟩ : ∃ x, (readyL n T)[j]? = some x := ⟨_, List.getElem?_eq_getElem hjl⟩
          obtain ⟨xv, hxv⟩ : ∃ xv, ps[j]? = some xv := ⟨_, List.getElem?_eq_getElem (by rw [HPL.out]; exact hlt)⟩
          obtain ⟨g1, k1', hvd, _, _⟩ := HV.out.big (by rw [HPL.out]; omega)
          simp only [Value.slice.injEq] at hvd
          obtain ⟨rfl, hvn, hvk⟩ := hvd
          subst hvk
          clear hvn
          have gx := HX6.out.cell (HV.out.at HPL.out hxv)
          have HXF := Lib.hid (HRV.out.2 j xv x hxv hx)
          obtain ⟨bx, ox, cx, rfl, x0, x1⟩ := pair_at HXF.out.ints
          obtain ⟨p, q⟩ := x
          have ks : ∀ V, Ext w6 V → V.cell? ⟨w.heap.size, 0, none⟩ = some (.int .i64 n) ∧ V.cell? ⟨w.heap.size, 1, none⟩ = some (.slice au T.length cu) ∧ V.cell? ⟨bx, ox, none⟩ = some (.int .i64 (p : Int)) ∧ V.cell? ⟨bx, ox + 1, none⟩ = some (.int .i64 ((q : Int) + 1)) := fun V hV => by
            obtain ⟨t0, t1⟩ := T6.out.ext hV
            exact ⟨t0, t1, hV.cell x0, hV.cell x1⟩
          have KS := Lib.hid ks
          have hc : instCom T p q = true := readyB_com (mem_readyL.1 (List.mem_of_getElem? hx))
          obtain ⟨hp, hqT, hcs⟩ := instCom_lt hc
          have hq5 : q ≤ 5 := by have := HL6.out p hp; omega
          have hp4 : p ≤ 4 := by omega
          have hs9 : 0 ≤ (rowOf n T p q).s ∧ (rowOf n T p q).s ≤ 999 := seq_in (x := (p, q)) HG.out hc
          have ca : ∀ V, Ext wr V → Calls Tryz.prog 65 #[.agg #[.int .i64 n, .slice au T.length cu], .int .i64 p, .int .i64 ((q : Int) + 1)] V (NewRow (rowOf n T p q) V) := fun V hV => l4At_any n _ T p q V (HU.out.ext (X56.out.trans (HX6.out.trans hV))) HG.out hp hq5
          have hst : K.take (j + 1) = K.take j ++ [100 * (rowOf n T p q).s + 10 * (p : Int) + ((q : Int) + 1)] := by
            rw [HK.out, List.take_add_one]
            unfold keysP
            rw [List.getElem?_map, hx]
            rfl
          obtain ⟨r, hr⟩ : ∃ r, r = rowOf n T p q := ⟨_, rfl⟩
          rw [← hr] at hs9 ca hst
          obtain ⟨hs0, hs1⟩ := hs9
          have CA := Lib.hid ca
          have HST := Lib.hid hst
          obtain ⟨ak, ck, hkv⟩ := HF.out.form
          have hkl : (K.take j).length = j := by rw [List.length_take, HKL.out]; omega
          rw [hkl] at hkv
          subst hkv
          have HKJ := Lib.hid hkl
          have HR := Lib.hid (Ext.trans HX6.out (Ext.drew (Ext.refl wr)))
          have e1 : IntKind.i64.wrap (100 * r.s) = 100 * r.s := IntWalk.i64_in _ (by omega)
          have e2 : IntKind.i64.wrap (10 * (p : Int)) = 10 * (p : Int) := IntWalk.i64_in _ (by omega)
          have e3 : IntKind.i64.wrap (100 * r.s + 10 * (p : Int)) = 100 * r.s + 10 * (p : Int) := IntWalk.i64_in _ (by omega)
          have e4 : IntKind.i64.wrap (100 * r.s + 10 * (p : Int) + ((q : Int) + 1)) = 100 * r.s + 10 * (p : Int) + ((q : Int) + 1) := IntWalk.i64_in _ (by omega)
          have HJ5 : Hid (j ≤ 30) := Lib.hid (by omega)
          clear hjl hx hxv hc hcs hqT ca hst hr hkl ks x0 x1
          go_wp2_with fail
          clear gx
          go_region_held3 (fun V => V.cell? ⟨w.heap.size, 0, none⟩ = some (.int .i64 n) ∧ V.cell? ⟨w.heap.size, 1, none⟩ = some (.slice au T.length cu) ∧ V.cell? ⟨bx, ox, none⟩ = some (.int .i64 (p : Int)) ∧ V.cell? ⟨bx, ox + 1, none⟩ = some (.int .i64 ((q : Int) + 1))) (first | (with_reducible exact KS.out _ HR.out) | (with_reducible exact KS.out _ HWN.out) | (with_reducible exact KS.out _ HW9.out) | (with_reducible exact KS.out _ HW8.out)) (first | (go_at_call 65; refine (CA.out _ (Ext.drew (Ext.refl _))).mono ?_; rintro e w8 ⟨z8, rfl, f8, x8'⟩; have x8 : Ext wr w8 := (Ext.drew (Ext.refl _)).trans x8'; have HW8 := Lib.hid (Ext.trans HX6.out x8); have HW9 := Lib.hid (Ext.alloc (Ext.trans HX6.out x8) (.cells #[.int .i64 (100 * r.s + 10 * (p : Int) + ((q : Int) + 1))] 3)); have hfd := field_rowA r.b r.v r.st r.k r.i r.f r.t r.a r.s z8; have hfe := field_attr0 r.s z8) | (refine step_push rfl (.tmp 65) (.tmp 86) rfl w6.heap.size (.slice ak j ck) (K.take j) (100 * r.s + 10 * (p : Int) + ((q : Int) + 1)) rfl (Fresh.ext HF.out (Ext.alloc x8 _)) ⟨w8.heap.size, 0, none⟩ 1 rfl (cell_alloc_one _ _ _) j HKJ.out (by omega) (by have := HX6.out.size; have := x8.size; simp only [World.size_alloc]; omega) ?_; intro ao' c' W' hf' hg'; have HFN : Hid (Fresh w6.heap.size W' (.slice ao' (j + 1) c') (K.take (j + 1))) := Lib.hid (by rw [HST.out]; exact hf'); have HWN : Hid (Ext w6 W') := Lib.hid (Ext.touch (HX6.out.trans (Ext.alloc x8 _)) (Fresh.ext HF.out (Ext.alloc x8 _)) hg')))
          clear hf' hg' x8 x8' f8 hfd hfe HW8 HW9
          go_wp2
          go_roundw
          case rel => exact ⟨j + 1, by omega, by go_num, HFN, HWN⟩
          case measure => simp [intOf]; omega
        · obtain rfl : m = j := by omega
          have hfk := HF.out
          rw [← HKL.out, List.take_length] at hfk
          have HFK := Lib.hid hfk
          clear HF hfk
          go_wp2_with fail
          refine (l5Order_any _ _ (graphP n T (readyL n T)) K _ (HIG.out.ext HX6.out) HFK.out.ints (by rw [HK.out]; exact keysP_good HG.out)).mono ?_
          rintro e w7 ⟨vo, rfl, fo, x7⟩
          obtain ⟨O, hO⟩ : ∃ O, O = orderL (graphP n T (readyL n T)) K := ⟨_, rfl⟩
          have hin : ∀ z ∈ O, 0 ≤ z ∧ z < (m : Int) := fun z hz => by
            have hg := (goodG_of (keysB_of (keysP_good HG.out)).1)
            rw [hO] at hz
            have h1 := (orderL_perm hg.1 K).mem_iff.1 hz
            have h2 := (rangeI_mem _ _).1 h1
            have h3 : (graphP n T (readyL n T)).length = m := by rw [HM.out]; simp [graphP]
            rw [h3] at h2
            exact h2
          have hol : O.length ≤ 1600 := by
            have h := orderA_len (graphP n T (readyL n T)) K
            unfold orderA at h
            rw [HK.out, keysP_good HG.out, if_pos rfl] at h
            rw [hO, HK.out]
            exact h
          rw [← hO] at fo
          have io := fo.ints
          obtain ⟨ao, co, rfl, hlo, _, dO⟩ := io
          have HD := Lib.hid dO
          have HIN := Lib.hid hin
          have X7 := Lib.hid (HX6.out.trans x7)
          have HOO := Lib.hid hO
          clear fo x7 hin hO dO HFK HIG
          go_wp2
          go_loopw [12, 93] (fun ov i wy => ∃ (t : Nat) (os : List Value), t ≤ O.length ∧ i = .int .i64 t ∧ Hid (FreshV w7.heap.size wy ov os) ∧ Hid (PRows 0 w6 os ((O.take t).map fun k => (readyL n T)[k.toNat]?.getD (0, 0))) ∧ Hid (Ext w7 wy)) (fun _ i _ => O.length - (intOf i).toNat)
          case atStart => exact ⟨0, [], Nat.zero_le _, rfl, Lib.hid (FreshV.nil _ _), Lib.hid (PRows.nil _ _), Lib.hid (Ext.refl _)⟩
          case round =>
            obtain ⟨t, os, ht, rfl, HF, HO, HX7⟩ := hrel
            by_cases htl : t < O.length
            · obtain ⟨bo, oo, rfl, eo⟩ := HD.out (by omega)
              have go := HX7.out.cell (eo t htl)
              obtain ⟨z, hz⟩ : ∃ z, z = O[t] := ⟨_, rfl⟩
              rw [List.getElem?_eq_getElem htl, Option.getD_some, ← hz] at go
              have hzb := HIN.out z (by rw [hz]; exact List.getElem_mem htl)
              obtain ⟨j, rfl⟩ : ∃ j : Nat, z = (j : Int) := ⟨z.toNat, by omega⟩
              have hjm : j < m := by omega
              obtain ⟨x, hx⟩ : ∃ x, (readyL n T)[j]? = some x := ⟨_, List.getElem?_eq_getElem (Nat.lt_of_lt_of_eq hjm HM.out)⟩
              obtain ⟨xv, hxv⟩ : ∃ xv, ps[j]? = some xv := ⟨_, List.getElem?_eq_getElem (by rw [HPL.out]; exact hjm)⟩
              obtain ⟨g1, k1', hvd, _, _⟩ := HV.out.big (by rw [HPL.out]; omega)
              simp only [Value.slice.injEq] at hvd
              obtain ⟨rfl, hvn, hvk⟩ := hvd
              subst hvk
              clear hvn
              have gx := (X7.out.trans HX7.out).cell (HV.out.at HPL.out hxv)
              have HXF := Lib.hid (HRV.out.2 j xv x hxv hx)
              obtain ⟨bx, ox, cx, rfl, _, _⟩ := pair_at HXF.out.ints
              have htk : (O.take (t + 1)).map (fun k => (readyL n T)[k.toNat]?.getD (0, 0)) = (O.take t).map (fun k => (readyL n T)[k.toNat]?.getD (0, 0)) ++ [x] := by
                rw [List.take_succ_eq_append_getElem htl, List.map_append, ← hz]
                simp [hx]
              have HTK := Lib.hid htk
              have HLL : Hid (os.length ≤ 1048576) := Lib.hid (by
                have h1 := HO.out.1
                rw [List.length_map, List.length_take] at h1
                omega)
              have HSZ : Hid (w7.heap.size ≤ (wr.alloc (.cells #[.slice (some ⟨bx, ox, none⟩) 2 cx] 26)).heap.size) := Lib.hid (HX7.out.alloc _).size
              have HF4 := Lib.hid (HF.out.ext (Ext.alloc1 wr (.cells #[.slice (some ⟨bx, ox, none⟩) 2 cx] 26)))
              clear eo hz hx hxv htk hzb HF
              go_wp2_with (at_builtin; refine wpList_pushV rfl _ _ rfl w7.heap.size _ os rfl HF4.out (.slice (some ⟨bx, ox, none⟩) 2 cx) ⟨wr.heap.size, 0, none⟩ 1 rfl (cell_alloc_one _ _ _) rfl HLL.out HSZ.out ?_)
              intro v8 w8 f8 g8 k8
              have F8 := Lib.hid f8
              have X8 := Lib.hid (k8 w7 (HX7.out.alloc _) (Nat.le_refl _))
              have HON := Lib.hid (HO.out.snoc HXF.out)
              clear f8 g8 k8 HF4 HLL HSZ
              go_wp2
              go_roundw
              case rel => exact ⟨t + 1, _, by omega, by go_num, F8, Lib.hid (by rw [HTK.out]; exact HON.out), X8⟩
              case measure => simp [intOf]; omega
            · obtain rfl : t = O.length := by omega
              have hpr := HO.out.ext (X7.out.trans HX7.out)
              rw [List.take_length] at hpr
              have HI := (PRows.at HF.out.zero hpr).intss
              have e9 : (O.map fun k => (readyL n T)[k.toNat]?.getD (0, 0)).map pairOf = orderP n T := by
                rw [HOO.out, HK.out]
                unfold orderP
                rw [List.map_map]
                rfl
              rw [e9] at HI
              have HI9 := Lib.hid HI
              have XE := Lib.hid (HX.out.trans (X56.out.trans (X7.out.trans HX7.out)))
              clear hpr HI e9 HO HF HX7
              go_wp2
              go_ret
              exact ⟨_, rfl, HI9.out, XE.out⟩
end Go.Proofs.YtcpmfcigciknlaaGreat

namespace Go.Proofs.YtcpmfcigciknlaaGreat
open Go.RowKit
set_option linter.unusedVariables false

set_option maxHeartbeats 2000000 in
set_option maxRecDepth 100000 in
theorem specOrderIn_any (n : Int) (u : Value) (T : List (List RowD)) (w : World) (hu : Rowzz w u T) :
    Calls Tryz.prog 27 #[.agg #[.int .i64 n, u]] w (ReadSS (orderR n T) (goodTab n T) w) := by
  obtain ⟨P, hP⟩ : ∃ P, P = orderR n T := ⟨_, rfl⟩
  obtain ⟨g, hg⟩ : ∃ g, g = goodTab n T := ⟨_, rfl⟩
  rw [← hP, ← hg]
  have hx0 := Ext.alloc1 w (.cells #[.int .i64 n, u] 32)
  have b0 := attrAt_new w 32 n u
  have HU := Lib.hid (hu.ext hx0)
  have HX := Lib.hid hx0
  have HP := Lib.hid hP
  have HGG := Lib.hid hg
  obtain ⟨au, cu, rfl, hlu, _, _⟩ := hu
  clear hx0 hP hg
  go_enter Tryz.func27, Tryz.ntmps27
  go_wp2_with fail
  refine (specGoodTable_any n _ T _ HU.out).mono ?_
  rintro e w1 ⟨rfl, x1⟩
  rw [← HGG.out]
  cases g with
  | false =>
    have eP : P = [] := by rw [HP.out]; unfold orderR; rw [← HGG.out]; rfl
    have X1 := Lib.hid (HX.out.trans x1)
    have EP := Lib.hid eP
    clear eP
    go_wp2
    go_ret2
    rw [EP.out]
    exact ⟨_, rfl, Intss.nil _, X1.out⟩
  | true =>
    obtain ⟨c1, c2⟩ := b0.ext x1
    have X1 := Lib.hid (HX.out.trans x1)
    have HU1 := Lib.hid (HU.out.ext x1)
    clear x1 b0
    go_wp2_with fail
    refine (l6Order_any n _ T _ HU1.out HGG.out.symm).mono ?_
    rintro e w5 ⟨v5, rfl, hi, x5⟩
    have HI := Lib.hid hi
    have X5 := Lib.hid (X1.out.trans x5)
    have EP : Hid (P = orderP n T) := Lib.hid (by rw [HP.out]; unfold orderR; rw [← HGG.out]; rfl)
    clear hi x5 c1 c2
    go_wp2
    go_ret2
    rw [EP.out]
    exact ⟨_, rfl, HI.out, X5.out⟩
theorem orderP_len {n : Int} {T : List (List RowD)} (hg : goodTab n T = true) : (orderP n T).length ≤ 30 := by
  have h0 := orderL_perm (goodG_of (keysB_of (keysP_good hg)).1).1 (keysP n T (readyL n T))
  have h1 := h0.length_eq
  have h2 : (graphP n T (readyL n T)).length = (readyL n T).length := by simp [graphP]
  have h3 := readyL_short hg
  unfold orderP
  rw [List.length_map, h1, rangeI_len]
  omega
theorem orderR_bulk (n : Int) (T : List (List RowD)) : bulk (orderR n T) ≤ 1000 := by
  unfold orderR
  cases hg : goodTab n T with
  | false => simp [bulk]
  | true =>
    have h1 := orderP_len hg
    have h2 := bulk_by (L := orderP n T) 2 (fun l hl => by
      unfold orderP at hl
      obtain ⟨x, _, rfl⟩ := List.mem_map.1 hl
      simp [pairOf])
    simp only [if_true]
    omega
end Go.Proofs.YtcpmfcigciknlaaGreat

namespace Go.Proofs.YtcpmfcigciknlaaGreat
open Go.RowKit Go.Maps
set_option linter.unusedVariables false

theorem MapOf.hasNot {D : DataW Value} {S : Nat → Nat → Bool} {f : Nat → Nat → Value} (h : MapOf D S f) {p q : Nat} (hl : p ≤ 1048576 ∧ q ≤ 1048576) (hs : S p q = false) : Maps.has D (kl (p : Int) ((q : Int) + 1)) = false := by
  cases hb : Maps.has D (kl (p : Int) ((q : Int) + 1)) with
  | false => rfl
  | true =>
    obtain ⟨p', q', e, hs'⟩ := h.keys _ hb
    have hl' := h.low p' q' hs'
    by_cases e2 : p = p' ∧ q = q'
    · obtain ⟨rfl, rfl⟩ := e2
      rw [hs] at hs'
      cases hs'
    · exact absurd e (kl_ne hl hl' e2)
theorem lookOk_yes {W : World} {B n0 : Nat} {D : DataW Value} {S : Nat → Nat → Bool} {f : Nat → Nat → Value} (hm : RowMap W B n0 D) (hd : MapOf D S f) {p q : Nat} (hs : S p q = true) :
    (Instr.lookup 106 (.map (some B)) (.agg #[.int .i64 p, .int .i64 ((q : Int) + 1)]) true).run Tryz.prog W = .ok (.tuple #[f p q, .bool true]) W := by
  have hl := hd.low p q hs
  obtain ⟨v, ps, hrun, hv⟩ := hm.look_ok instKeyed Tryz.underlying106 (zeroRow W) (zd := .held _) (zp := []) rfl (keyOf_inst (a := p) (b := (q : Int) + 1) (wf_small (by omega) (by omega)) (wf_small (by omega) (by omega)))
  rw [hd.val p q hs] at hv
  rw [hd.has p q hs] at hrun
  simp only [asIs, Option.some.injEq, Prod.mk.injEq, DataW.held.injEq] at hv
  rw [hv.1] at hrun
  exact hrun
theorem lookOk_no {W : World} {B n0 : Nat} {D : DataW Value} {S : Nat → Nat → Bool} {f : Nat → Nat → Value} (hm : RowMap W B n0 D) (hd : MapOf D S f) {p q : Nat} (hl : p ≤ 1048576 ∧ q ≤ 1048576) (hs : S p q = false) :
    (Instr.lookup 106 (.map (some B)) (.agg #[.int .i64 p, .int .i64 ((q : Int) + 1)]) true).run Tryz.prog W = .ok (.tuple #[.agg #[.int .i64 0, .int .i64 0, .int .i64 0, .int .i64 0, .int .i64 0, .int .i64 0, .int .i64 0, .int .i64 0, .int .i64 0, .slice none 0 0], .bool false]) W := by
  have hn := hd.hasNot hl hs
  obtain ⟨v, ps, hrun, hv⟩ := hm.look_ok instKeyed Tryz.underlying106 (zeroRow W) (zd := .held _) (zp := []) rfl (keyOf_inst (a := p) (b := (q : Int) + 1) (wf_small (by omega) (by omega)) (wf_small (by omega) (by omega)))
  rw [Maps.atKey_of_not_has hn] at hv
  rw [hn] at hrun
  simp only [asIs, Option.some.injEq, Prod.mk.injEq, DataW.held.injEq] at hv
  rw [hv.1] at hrun
  exact hrun

theorem all_upto {L : List (Nat × Nat)} {S : Nat → Nat → Bool} {k : Nat} (h : k < L.length) (ha : (L.take k).all (fun x => S x.1 x.2) = true) (hs : S L[k].1 L[k].2 = true) : (L.take (k + 1)).all (fun x => S x.1 x.2) = true := by
  rw [List.take_add_one, List.getElem?_eq_getElem h, List.all_append, ha]
  simp [hs]

set_option maxHeartbeats 2000000 in
set_option maxRecDepth 100000 in
theorem areAllIn_any (n : Int) (T : List (List RowD)) (U : Nat → Nat → Value) (L : List (Nat × Nat)) (v : Value) (B n0 : Nat) (D : DataW Value) (S : Nat → Nat → Bool) (w : World) (hv : InstsAt w v L) (hlow : ∀ x ∈ L, x.1 ≤ 1048576 ∧ x.2 ≤ 1048576)
    (hm : RowMap w B n0 D) (hd : MapOf D S (rowF n T U)) (hC : ∀ p q, S p q = true → inT T p q = true) (hli : Lists w n T U) :
    Calls Tryz.prog 100 #[.map (some B), v] w (BoolExt (L.all fun x => S x.1 x.2) w) := by
  obtain ⟨b, hb⟩ : ∃ b, b = L.all fun x => S x.1 x.2 := ⟨_, rfl⟩
  rw [← hb]
  have HBB := Lib.hid hb
  have HM := Lib.hid hm
  have HD := Lib.hid hd
  have HC := Lib.hid hC
  have HLI := Lib.hid hli
  have HLOW := Lib.hid hlow
  obtain ⟨au, cu, rfl, hlu, _, hcu⟩ := hv
  unfold maxLen at hlu
  have HCU := Lib.hid hcu
  clear hm hd hC hli hlow hcu hb
  go_enter Tryz.func100, Tryz.ntmps100
  go_wp2
  go_loopw [11] (fun i wr => ∃ k : Nat, k ≤ L.length ∧ i = .int .i64 k ∧ Hid ((L.take k).all (fun x => S x.1 x.2) = true) ∧ Hid (Ext w wr)) (fun i _ => L.length - (intOf i).toNat)
  case atStart => exact ⟨0, Nat.zero_le _, rfl, Lib.hid (by simp), Lib.hid (Ext.refl _)⟩
  case round =>
    obtain ⟨k, hk, rfl, HA, HX⟩ := hrel
    by_cases hlt : k < L.length
    · obtain ⟨bu, ou, rfl, du⟩ := HCU.out (by omega)
      obtain ⟨q0, q1⟩ := du k hlt
      obtain ⟨x, hx⟩ : ∃ x, x = L[k] := ⟨_, rfl⟩
      rw [← hx] at q0 q1
      have g0 := HX.out.cell q0
      have g1 := HX.out.cell q1
      have hxl := HLOW.out x (by rw [hx]; exact List.getElem_mem hlt)
      have HXK := Lib.hid hx
      obtain ⟨p, q⟩ := x
      clear q0 q1 hx du
      cases hs : S p q with
      | true =>
        obtain ⟨au, cu', hUf, _⟩ := HLI.out p q (HC.out p q hs)
        have hlk := lookOk_yes (HM.out.ext (HX.out.alloc (.cells #[.int .i64 p, .int .i64 ((q : Int) + 1)] 101))) HD.out hs
        unfold rowF rowV at hlk
        obtain ⟨d, hd⟩ : ∃ d, d = rowOf n T p q := ⟨_, rfl⟩
        rw [← hd] at hlk hUf
        rw [hUf] at hlk
        have HN : Hid ((L.take (k + 1)).all (fun x => S x.1 x.2) = true) := Lib.hid (all_upto hlt HA.out (by rw [← HXK.out]; exact hs))
        clear hUf hd hs HA
        go_wp2
        go_roundw
        case rel => exact ⟨k + 1, by omega, by go_num, HN, Lib.hid ((HX.out.alloc _).alloc _)⟩
        case measure => simp [intOf]; omega
      | false =>
        have hlk := lookOk_no (HM.out.ext (HX.out.alloc (.cells #[.int .i64 p, .int .i64 ((q : Int) + 1)] 101))) HD.out hxl hs
        have hres : b = false := by
          rw [HBB.out, List.all_eq_false]
          refine ⟨(p, q), by rw [HXK.out]; exact List.getElem_mem hlt, ?_⟩
          simp [hs]
        subst hres
        clear hs HA
        go_wp2
        go_ret
        exact ⟨rfl, (HX.out.alloc _).alloc _⟩
    · obtain rfl : k = L.length := by omega
      have hres : b = true := by rw [HBB.out]; have h := HA.out; rwa [List.take_length] at h
      subst hres
      clear HA
      go_wp2
      go_ret
      exact ⟨rfl, HX.out⟩

end Go.Proofs.YtcpmfcigciknlaaGreat

namespace Go.Proofs.YtcpmfcigciknlaaGreat
open Go.RowKit Go.Maps
set_option linter.unusedVariables false

/-- How many entries a map's block has. -/
def entriesOf (w : World) (b : Nat) : Nat := match w.heap[b]? with
  | some (.map es _) => es.size
  | _ => 0
theorem entries_eq {w : World} {b n : Nat} {D : DataW Value} (h : RowMap w b n D) : entriesOf w b = Maps.size D := by
  obtain ⟨es, clock, hb, F, hs, rfl⟩ := h
  unfold entriesOf
  rw [hb]
  show es.size = _
  rw [Maps.size_eq, length_sorted]
  simp
theorem size_less {w : World} {b n : Nat} {D : DataW Value} (h : RowMap w b n D) {l : Lit} (hh : Maps.has D l = true) : Maps.size (D.del l) + 1 = Maps.size D := by
  have := Maps.size_del (k := l) (h.tidy instKeyed)
  rw [hh] at this
  simpa using this
def flagN : Value → Nat
  | .bool true => 1
  | _ => 0

set_option maxHeartbeats 4000000 in
set_option maxRecDepth 100000 in
theorem readyIn_any (n : Int) (u : Value) (T : List (List RowD)) (U : Nat → Nat → Value) (w : World) (hu : TabAt w u T U) (hg : goodTab n T = true) :
    Calls Tryz.prog 57 #[.agg #[.int .i64 n, u]] w (NewRowMap T (readyB n T) (rowF n T U) w) := by
  have H56 := Lib.hid (goodTab_both hg)
  have HG := Lib.hid hg
  obtain ⟨wb, hwb⟩ : ∃ wb, wb = w.alloc (.cells #[.int .i64 n, u] 32) := ⟨_, rfl⟩
  have xb : Ext w wb := by rw [hwb]; exact Ext.alloc1 _ _
  have HL := Lib.hid ((hu.ext xb).lists n)
  have HU := Lib.hid (hu.ext xb)
  have XB := Lib.hid xb
  have HWB := Lib.hid hwb
  obtain ⟨au, cu, rfl, hlu, _, _⟩ := hu
  unfold maxLen at hlu
  clear hg xb hwb
  go_enter Tryz.func57, Tryz.ntmps57
  go_wp2_with fail
  rw [← HWB.out]
  refine (committedIn_any n _ T U _ HU.out H56.out.1 H56.out.2).mono ?_
  rintro e w1 ⟨B, D0, rfl, m1, d1, hb1, x1⟩
  have HB := Lib.hid hb1
  have M1 := Lib.hid m1
  have D1 := Lib.hid d1
  have X1 := Lib.hid x1
  clear m1 d1 hb1 x1
  go_wp2
  go_loopw [4, 5, 6] (fun f _ _ wr => ∃ (fl : Bool) (D : DataW Value) (S : Nat → Nat → Bool), f = .bool fl ∧ Hid (RowMap wr B 30 D) ∧ Hid (MapOf D S (rowF n T U)) ∧ Hid (Betw n T S) ∧ Hid (fl = false → ∀ p q, S p q = true → AllHere n T S p q) ∧ Hid (Ext wb wr)) (fun f _ _ wr => 2 * entriesOf wr B + flagN f)
  case atStart => exact ⟨true, D0, _, rfl, M1, D1, Lib.hid (Betw.start n T), Lib.hid (fun h => by cases h), X1⟩
  case round =>
    clear M1 D1 X1
    obtain ⟨fl, D, S, rfl, M, MO, BT, CL, X⟩ := hrel
    cases fl with
    | false =>
      have MR : Hid (MapOf D (readyB n T) (rowF n T U)) := Lib.hid (MO.out.congr (fun p q => BT.out.done (CL.out rfl) p q) (fun _ _ _ => rfl))
      have XE := Lib.hid (XB.out.trans X.out)
      have HBE : Hid (w.heap.size ≤ B) := Lib.hid (Nat.le_trans XB.out.size HB.out)
      clear CL MO BT
      go_wp2
      go_ret
      exact ⟨_, D, rfl, M.out, MR.out, HBE.out, XE.out⟩
    | true =>
      clear CL
      go_wp2_with (first | (at_range; refine wpList_range_own _ rfl _ 106 rfl 101 83 instKeyed Tryz.underlying106 asIs B 30 D rfl M.out ?_; intro w2 hrg2 hg2 hs2) | go_in)
      go_frame
      have X2 := Lib.hid (X.out.trans (ext_of_grown hg2))
      have R2 := Lib.hid hrg2
      have HE := Lib.hid (entries_eq M.out)
      obtain ⟨r, hr⟩ : ∃ r, r = wr.heap.size := ⟨_, rfl⟩
      rw [← hr] at R2 ⊢
      have HRB : Hid (wb.heap.size ≤ r) := Lib.hid (by rw [hr]; exact X.out.size)
      obtain ⟨k0, hk0⟩ : ∃ k0, k0 = Maps.size D := ⟨_, rfl⟩
      have HK0 := Lib.hid hk0
      have HST : Hid (∀ p q, S p q = true → Maps.has D (kl (p : Int) ((q : Int) + 1)) = false → AllHere n T S p q) := Lib.hid (fun p q hs hh => by rw [MO.out.has p q hs] at hh; cases hh)
      clear hrg2 hg2 hs2 M X hr hk0
      go_loopw [4, 5, 6] (fun f _ _ wr => ∃ (fl : Bool) (D : DataW Value) (S : Nat → Nat → Bool) (left : Lit → Bool) (cnt : Nat), f = .bool fl ∧ Hid (RowRange wr B r 30 D left cnt) ∧ Hid (MapOf D S (rowF n T U)) ∧ Hid (Betw n T S) ∧ Hid (fl = false → ∀ p q, S p q = true → left (kl (p : Int) ((q : Int) + 1)) = false → AllHere n T S p q) ∧ Hid ((fl = false → Maps.size D = k0) ∧ (fl = true → Maps.size D + 1 ≤ k0)) ∧ Hid (Ext wb wr)) (fun _ _ _ wr => wr.rangeLeft B r)
      case atStart => exact ⟨false, D, S, _, _, rfl, R2, MO, BT, Lib.hid (fun _ => HST.out), Lib.hid ⟨fun _ => HK0.out.symm, fun h => by cases h⟩, X2⟩
      case round =>
        clear R2 MO BT HST X2
        obtain ⟨fl, D', S', left, cnt, rfl, R, MO, BT, CH, SZ, X⟩ := hrel
        go_wp2_with (first | (at_next; refine wpList_next_inst _ rfl _ rfl B r 30 D' left cnt _ _ rfl R.out MO.out ?_ ?_) | go_in)
        · intro hl
          have MN := Lib.hid R.out.owns
          have CN : Hid (fl = false → ∀ p q, S' p q = true → AllHere n T S' p q) := Lib.hid (fun h p q hs => CH.out h p q hs (hl _))
          have EN := Lib.hid (entries_eq MN.out)
          clear CH R hl
          go_wp2
          go_roundw
          case rel => exact ⟨fl, D', S', rfl, MN, MO, BT, CN, X⟩
          case measure =>
            have h1 := HE.out
            have h2 := EN.out
            have h3 := HK0.out
            have h4 := SZ.out
            rw [h1, h2]
            cases fl with
            | true => have := h4.2 rfl; simp [flagN]; omega
            | false => have := h4.1 rfl; simp [flagN]; omega
        · intro p q w3 cnt3 hS hlk hrg3 hlt hg3 hs3 hen
          have hx3 : Ext wb w3 := X.out.turned hg3 HRB.out
          have hcm := BT.out.com p q hS
          have hi := instCom_inT hcm
          obtain ⟨hpT, hqT⟩ := inT_of hi
          obtain ⟨ay, cy, hU, _⟩ := HL.out p q hi
          have hint := (HL.out p q hi).ext hx3
          obtain ⟨d, hd⟩ : ∃ d, d = rowOf n T p q := ⟨_, rfl⟩
          unfold rowF rowV at hen ⊢
          rw [hU] at hint
          rw [← hd] at hen hint hU ⊢
          rw [hU] at hen ⊢
          have hdi : ∀ k, 0 ≤ depI d k ∧ depI d k ≤ 6 := fun k => by rw [hd]; exact dep_in HG.out hpT q k
          have hdl : d.l.length ≤ 5 := by rw [hd]; exact rowOf_list HG.out hpT q
          have HDI := Lib.hid hdi
          have HINT := Lib.hid hint
          have HD := Lib.hid hd
          have R3 := Lib.hid hrg3
          have X3 := Lib.hid hx3
          have HLT := Lib.hid hlt
          have HRO := Lib.hid R.out
          have HS := Lib.hid hS
          have HLK := Lib.hid hlk
          have HI := Lib.hid hi
          clear hrg3 hx3 hg3 hs3 hlk hcm hi hint hU R X hlt hS hdi hd hqT
          go_wp2_with fail
          refine (hungOn_any d d.s _ _ (HINT.out.ext (Ext.alloc2 _ _ _)) hdl HDI.out).mono ?_
          obtain ⟨w4, hw4⟩ : ∃ w4, w4 = ((w3.alloc (.cells #[.int .i64 p, .int .i64 ((q : Int) + 1)] 101)).alloc (.cells #[.int .i64 d.b, .int .i64 d.v, .int .i64 d.st, .int .i64 d.k, .int .i64 d.i, .int .i64 d.f, .int .i64 d.t, .int .i64 d.a, .int .i64 d.s, .slice ay d.l.length cy] 83)) := ⟨_, rfl⟩
          have x34 : Ext w3 w4 := by rw [hw4]; exact Ext.alloc2 _ _ _
          have T4 := Lib.hid (two_new w3 (p : Int) ((q : Int) + 1) 101 83 #[.int .i64 d.b, .int .i64 d.v, .int .i64 d.st, .int .i64 d.k, .int .i64 d.i, .int .i64 d.f, .int .i64 d.t, .int .i64 d.a, .int .i64 d.s, .slice ay d.l.length cy])
          rw [← hw4] at T4 ⊢
          obtain ⟨b5, hb5⟩ : ∃ b5, b5 = w3.heap.size := ⟨_, rfl⟩
          rw [← hb5] at T4 ⊢
          clear hw4 hb5
          rintro e w5 ⟨v5, rfl, f5, x5⟩
          have X5 := Lib.hid (X3.out.trans (x34.trans x5))
          have R5 := Lib.hid (R3.out.ext (x34.trans x5))
          have T5 := Lib.hid (T4.out.ext x5)
          have F5 := Lib.hid f5.at
          have hlow : ∀ x ∈ hungL d, x.1 ≤ 1048576 ∧ x.2 ≤ 1048576 := fun x hx => by
            have h := mem_hungL.1 hx
            have h2 := HDI.out x.1
            unfold depM at h
            omega
          have HLOW := Lib.hid hlow
          have hlow2 := inT_low H56.out.1 H56.out.2 HI.out
          clear x34 x5 f5 R3 X3 T4 hlow HINT
          go_wp2_with fail
          refine (areAllIn_any n T U (hungL d) v5 B 30 D' S' _ F5.out HLOW.out R5.out.owns MO.out (fun p q h => instCom_inT (BT.out.com p q h)) (HL.out.ext X5.out)).mono ?_
          rintro e w6 ⟨rfl, x6⟩
          have X6 := Lib.hid (X5.out.trans x6)
          have R6 := Lib.hid (R5.out.ext x6)
          obtain ⟨t0, t1⟩ := T5.out.ext x6
          have hall : AllHere n T S' p q ↔ ((hungL d).all fun x => S' x.1 x.2) = true := by unfold AllHere; rw [← HD.out]
          have HALL := Lib.hid hall
          clear x6 hall R5 X5 T5 F5 HLOW
          cases hb : ((hungL d).all fun x => S' x.1 x.2) with
          | true =>
            have CN : Hid (fl = false → ∀ p' q', S' p' q' = true → (fun z => left z && !z.sameKey (kl (p : Int) ((q : Int) + 1))) (kl (p' : Int) ((q' : Int) + 1)) = false → AllHere n T S' p' q') := Lib.hid (fun h p' q' hs hl => by
              by_cases e : (p', q') = (p, q)
              · simp only [Prod.mk.injEq] at e
                obtain ⟨rfl, rfl⟩ := e
                exact HALL.out.2 hb
              · have hl' := MO.out.low p' q' hs
                exact CH.out h p' q' hs (left_other (x := (p', q')) hl' (by omega) e hl))
            clear hb CH t0 t1
            go_wp2
            go_roundw
            case rel => exact ⟨fl, D', S', _, _, rfl, R6, MO, BT, CN, SZ, X6⟩
            case measure => rw [R6.out.left_eq, HRO.out.left_eq]; exact HLT.out
          | false =>
            have hnot : ¬ AllHere n T S' p q := fun h => by rw [HALL.out.1 h] at hb; cases hb
            have BN := Lib.hid (BT.out.drop hnot)
            have MN := Lib.hid (MO.out.del (p := p) (q := q) (by omega))
            have hsz := size_less R6.out.owns (MO.out.has p q HS.out)
            have SN : Hid (Maps.size (D'.del (kl (p : Int) ((q : Int) + 1))) + 1 ≤ k0) := Lib.hid (by
              have h4 := SZ.out
              cases fl with
              | true => have := h4.2 rfl; omega
              | false => have := h4.1 rfl; omega)
            clear hb CH hnot hsz BT MO SZ
            go_wp2_with (first | (at_delete; refine wpList_delete_ranges _ rfl _ _ 106 101 rfl 83 instKeyed Tryz.underlying106 asIs B r 30 D' _ _ rfl R6.out _ (kl (p : Int) ((q : Int) + 1)) rfl (keyOf_inst (wf_small (by omega) (by omega)) (wf_small (by omega) (by omega))) ?_; intro w7 cnt7 hrg7 hle ht7) | go_in)
            rw [Maps.strike_twice] at hrg7
            have R7 := Lib.hid hrg7
            have X7 : Hid (Ext wb w7) := Lib.hid (X6.out.turned ht7.grown HB.out)
            have HLE := Lib.hid hle
            clear hrg7 ht7 hle R6 X6
            go_wp2
            go_roundw
            case rel => exact ⟨true, _, _, _, _, rfl, R7, MN, BN, Lib.hid (fun h => by cases h), Lib.hid ⟨(fun h => by cases h), fun _ => SN.out⟩, X7⟩
            case measure => rw [R7.out.left_eq, HRO.out.left_eq]; exact Nat.lt_of_le_of_lt HLE.out HLT.out

end Go.Proofs.YtcpmfcigciknlaaGreat

namespace Go.Proofs.YtcpmfcigciknlaaGreat
open Go.RowKit Go.Maps
set_option linter.unusedVariables false

end Go.Proofs.YtcpmfcigciknlaaGreat

namespace Go.Proofs.YtcpmfcigciknlaaGreat
open Go.RowKit
set_option linter.unusedVariables false

/-- When each point was met (0: not yet), the least that was seen from it, how many of its list were looked at, whether it is open, how many were met, the open ones as they were met, the groups that were told. -/
structure TS where
  N : Nat → Nat
  bk : Nat → Nat
  lk : Nat → Nat
  op : Nat → Bool
  met : Nat
  opn : List Nat
  grp : List (List Int)

def upd {α : Type} (f : Nat → α) (p : Nat) (v : α) : Nat → α := fun i => if i = p then v else f i
theorem upd_same {α : Type} (f : Nat → α) (p : Nat) (v : α) : upd f p v p = v := by simp [upd]
theorem upd_other {α : Type} (f : Nat → α) {p q : Nat} (v : α) (h : q ≠ p) : upd f p v q = f q := by simp [upd, h]
theorem upd_id {α : Type} (f : Nat → α) (p : Nat) : upd f p (f p) = f := by funext i; unfold upd; split <;> simp_all

def rowN (g : List (List Int)) (q : Nat) : List Int := rowG g (q : Int)

structure Inv (g : List (List Int)) (S : TS) (way : List Nat) : Prop where
  small : ∀ q, S.N q ≠ 0 → q < g.length
  le : ∀ q, S.N q ≤ S.met
  inj : ∀ q r, S.N q = S.N r → S.N q ≠ 0 → q = r
  opmet : ∀ q, S.op q = true → S.N q ≠ 0
  opn : ∀ q, q ∈ S.opn ↔ S.op q = true
  sort : S.opn.Pairwise (fun a b => S.N a < S.N b)
  wop : ∀ p ∈ way, S.op p = true
  wsort : way.Pairwise (fun a b => S.N a < S.N b)
  root : ∀ q, S.op q = true → ∃ p ∈ way, S.N p ≤ S.N q
  reach : ∀ p ∈ way, ∀ q, S.op q = true → S.N p ≤ S.N q → Reach g (p : Int) (q : Int)
  low1 : ∀ q, S.op q = true → S.bk q ≤ S.N q
  low2 : ∀ q, S.op q = true → ∃ r, S.op r = true ∧ S.N r = S.bk q ∧ Reach g (q : Int) (r : Int)
  lk0 : ∀ q, S.N q = 0 → S.lk q = 0
  lkle : ∀ q, S.lk q ≤ (rowN g q).length
  look : ∀ q, S.op q = true → ∀ r : Nat, (r : Int) ∈ (rowN g q).take (S.lk q) → S.N r ≠ 0 ∧ (S.op r = true → S.bk q ≤ S.N r)
  fin : ∀ q, S.op q = true → q ∉ way → S.lk q = (rowN g q).length ∧ S.bk q < S.N q
  par : ∀ p ∈ way, ∀ q, S.op q = true → q ∉ way → S.N p < S.N q → (∀ p' ∈ way, S.N p' ≤ S.N p ∨ S.N q < S.N p') → S.bk p ≤ S.bk q
  closed : ∀ q, S.N q ≠ 0 → S.op q = false → ∀ r : Nat, (r : Int) ∈ rowN g q → S.N r ≠ 0 ∧ S.op r = false
  grp : ∀ G ∈ S.grp, ∃ k : Nat, k < g.length ∧ G = groupL g (k : Int) ∧ ∀ x : Nat, (x : Int) ∈ G → S.N x ≠ 0 ∧ S.op x = false
  cov : ∀ q, S.N q ≠ 0 → S.op q = false → ∃ G ∈ S.grp, (q : Int) ∈ G
  apart : S.grp.Pairwise (fun G H => ∀ x, x ∈ G → x ∉ H)

theorem mem_row {g : List (List Int)} (hg : rowsB g = true) {q : Nat} {c : Int} (h : c ∈ rowN g q) : ∃ r : Nat, c = (r : Int) ∧ r < g.length := by
  have := row_in hg h
  exact ⟨c.toNat, by omega, by omega⟩

/-! ### The start of a search -/
def tsStart : TS := ⟨fun _ => 0, fun _ => 0, fun _ => 0, fun _ => false, 0, [], []⟩
theorem Inv.start (g : List (List Int)) : Inv g tsStart [] := by
  constructor <;> simp [tsStart]

/-! ### A point is met -/
def meetS (S : TS) (c : Nat) : TS := ⟨upd S.N c (S.met + 1), upd S.bk c (S.met + 1), S.lk, upd S.op c true, S.met + 1, S.opn ++ [c], S.grp⟩
def lookS (S : TS) (p : Nat) : TS := { S with lk := upd S.lk p (S.lk p + 1) }
def minS (S : TS) (p v : Nat) : TS := { S with bk := upd S.bk p (min (S.bk p) v) }

theorem Inv.last_most {g : List (List Int)} {S : TS} {way : List Nat} {p : Nat} (h : Inv g S (way ++ [p])) : ∀ a ∈ way, S.N a < S.N p := by
  intro a ha
  exact (List.pairwise_append.1 h.wsort).2.2 a ha p (by simp)
theorem Inv.last_le {g : List (List Int)} {S : TS} {way : List Nat} {p : Nat} (h : Inv g S (way ++ [p])) : ∀ a ∈ way ++ [p], S.N a ≤ S.N p := by
  intro a ha
  rcases List.mem_append.1 ha with ha | ha
  · exact Nat.le_of_lt (h.last_most a ha)
  · have : a = p := by simpa using ha
    rw [this]; exact Nat.le_refl _

/-- The first point of a search. -/
theorem Inv.first {g : List (List Int)} (hg : rowsB g = true) {S : TS} {c : Nat} (h : Inv g S []) (hc : c < g.length) (hn : S.N c = 0) : Inv g (meetS S c) [c] := by
  have hno : ∀ q, S.op q = false := fun q => by
    cases e : S.op q with
    | false => rfl
    | true => obtain ⟨p, hp, _⟩ := h.root q e; simp at hp
  have hne : ∀ q, S.N q ≠ 0 → q ≠ c := fun q hq e => hq (by rw [e]; exact hn)
  have hopn : S.opn = [] := List.eq_nil_iff_forall_not_mem.2 (fun q hq => by rw [h.opn, hno] at hq; cases hq)
  have hop : ∀ q, (meetS S c).op q = true → q = c := fun q hq => by
    unfold meetS upd at hq
    by_cases e : q = c
    · exact e
    · simp [e, hno] at hq
  have hopc : (meetS S c).op c = true := upd_same _ _ _
  have hNc : (meetS S c).N c = S.met + 1 := upd_same _ _ _
  have hbc : (meetS S c).bk c = S.met + 1 := upd_same _ _ _
  have hlc : (meetS S c).lk c = 0 := h.lk0 c hn
  constructor
  · intro q hq
    by_cases e : q = c
    · rw [e]; exact hc
    · exact h.small q (by rwa [show (meetS S c).N q = S.N q from upd_other _ _ e] at hq)
  · intro q
    show upd S.N c (S.met + 1) q ≤ S.met + 1
    unfold upd
    split
    · exact Nat.le_refl _
    · have := h.le q; omega
  · intro q r e hq
    have hle := h.le
    simp only [meetS, upd] at e hq
    by_cases e1 : q = c
    · by_cases e2 : r = c
      · rw [e1, e2]
      · simp [e1, e2] at e; have := hle r; omega
    · by_cases e2 : r = c
      · simp [e1, e2] at e; have := hle q; omega
      · simp [e1, e2] at e hq
        exact h.inj q r e hq
  · intro q hq
    rw [hop q hq, hNc]; omega
  · intro q
    show q ∈ S.opn ++ [c] ↔ _
    rw [hopn]
    constructor
    · intro hq; have : q = c := by simpa using hq
      rw [this]; exact hopc
    · intro hq; simp [hop q hq]
  · show (S.opn ++ [c]).Pairwise _
    rw [hopn]; simp
  · intro p hp
    have : p = c := by simpa using hp
    rw [this]; exact hopc
  · simp
  · intro q hq
    exact ⟨c, by simp, by rw [hop q hq]; exact Nat.le_refl _⟩
  · intro p hp q hq _
    have : p = c := by simpa using hp
    rw [this, hop q hq]; exact .self
  · intro q hq
    rw [hop q hq, hbc, hNc]; exact Nat.le_refl _
  · intro q hq
    rw [hop q hq]
    exact ⟨c, hopc, by rw [hbc, hNc], .self⟩
  · intro q hq
    by_cases e : q = c
    · rw [e, hNc] at hq; omega
    · exact h.lk0 q (by rwa [show (meetS S c).N q = S.N q from upd_other _ _ e] at hq)
  · exact h.lkle
  · intro q hq r hr
    rw [hop q hq, hlc] at hr
    simp at hr
  · intro q hq hq'
    exact absurd (by simp [hop q hq]) hq'
  · intro p hp q hq hq'
    exact absurd (by simp [hop q hq]) hq'
  · intro q hq hqo r hr
    by_cases e : q = c
    · rw [e, hopc] at hqo; cases hqo
    · have hq' : S.N q ≠ 0 := by rwa [show (meetS S c).N q = S.N q from upd_other _ _ e] at hq
      obtain ⟨h1, h2⟩ := h.closed q hq' (hno q) r hr
      have er := hne r h1
      exact ⟨by rw [show (meetS S c).N r = S.N r from upd_other _ _ er]; exact h1, by rw [show (meetS S c).op r = S.op r from upd_other _ _ er]; exact h2⟩
  · intro G hG
    obtain ⟨k, hk, e, hx⟩ := h.grp G hG
    refine ⟨k, hk, e, fun x hxG => ?_⟩
    obtain ⟨h1, h2⟩ := hx x hxG
    have er := hne x h1
    exact ⟨by rw [show (meetS S c).N x = S.N x from upd_other _ _ er]; exact h1, by rw [show (meetS S c).op x = S.op x from upd_other _ _ er]; exact h2⟩
  · intro q hq hqo
    by_cases e : q = c
    · rw [e, hopc] at hqo; cases hqo
    · exact h.cov q (by rwa [show (meetS S c).N q = S.N q from upd_other _ _ e] at hq) (hno q)
  · exact h.apart

end Go.Proofs.YtcpmfcigciknlaaGreat
