/- Texts of this proof, part v: words, plain facts, contracts. -/
import Derived.Test.YtcpmfcigciknlaaGreatMBookOfq
import Derived.Test.YtcpmfcigciknlaaGreatMBookOft
import Derived.Test.YtcpmfcigciknlaaGreatMBookOfu
import Derived.Deep.RegionHeld3
import Derived.Test.YtcpmfcigciknlaaGreatMBookOfi
import Derived.Deep.Cut

namespace Go.Proofs.YtcpmfcigciknlaaGreat
open Go.RowKit
set_option linter.unusedVariables false

/-- Sums in new memory, entries apart from them, and a Bool come back. -/
def BookedI (S : List Int) (D : List EnD) (b : Bool) (w : World) (e : Ending) (w' : World) : Prop :=
  ∃ v u, e = .returned (.tuple #[v, u, .bool b]) ∧ Fresh w.heap.size w' v S ∧ EnApart w.heap.size v u w' D ∧ Ext w w'
theorem field_rowC (b v st k i f t a s : Int) (u : Value) (W : World) : (Instr.field 83 (.agg #[.int .i64 b, .int .i64 v, .int .i64 st, .int .i64 k, .int .i64 i, .int .i64 f, .int .i64 t, .int .i64 a, .int .i64 s, u]) 3).run Tryz.prog W = .ok (.agg #[.int .i64 k, .int .i64 i, .int .i64 f, .int .i64 t, .int .i64 a]) W := by kernel_rfl
set_option maxHeartbeats 1000000 in
theorem entererOn_any (ao : Option Addr) (l c : Nat) (w : World) :
    Calls Tryz.prog 37 #[.slice ao l c] w (fun e w' => e = .returned (.func (.func 69) #[] #[.pointer (some ⟨w.heap.size, 0, none⟩)]) ∧ w'.cell? ⟨w.heap.size, 0, none⟩ = some (.slice ao l c) ∧ Ext w w' ∧ w.heap.size < w'.heap.size) := by
  go_enter Tryz.func37, Tryz.ntmps37
  go_wp2
  go_ret
  exact ⟨rfl, by go_simp, Ext.alloc (Ext.refl _) _, by simp⟩
theorem ensTo_ans {w : World} {g m : Nat} {xs : List Value} {L : List EnD} (hb : BoxV w g xs) (hL : L.length = m) (hm : m ≤ maxLen) (hl : xs.length = m * 9) (h : EnsTo xs L m) : EnW g (g + 1) w (.slice (some ⟨g, 0, none⟩) m m) L := by
  subst hL
  exact ⟨g, xs, L.length, Nat.le_refl _, Nat.lt_succ_self _, rfl, Nat.le_refl _, hm, hb, Nat.le_of_eq hl.symm, h⟩

set_option maxHeartbeats 8000000 in
set_option maxRecDepth 100000 in
theorem implBook_any (n : Int) (u : Value) (T : List (List RowD)) (w : World) (hu : Rowzz w u T) (hs : bulkT T ≤ 1099511627776) :
    Calls Tryz.prog 10 #[.agg #[.int .i64 n, u]] w (BookedI (bookSR n T) (bookER n T) (goodTab n T) w) := by
  obtain ⟨SR, hSR⟩ : ∃ x, x = bookSR n T := ⟨_, rfl⟩
  obtain ⟨ER, hER⟩ : ∃ x, x = bookER n T := ⟨_, rfl⟩
  obtain ⟨gd, hg⟩ : ∃ g, g = goodTab n T := ⟨_, rfl⟩
  rw [← hSR, ← hER, ← hg]
  have HS := Lib.hid hs
  have hx0 := Ext.alloc1 w (.cells #[.int .i64 n, u] 32)
  have b0 := attrAt_new w 32 n u
  have HU := Lib.hid (hu.ext hx0)
  have HX := Lib.hid hx0
  have HB0 := Lib.hid b0
  have HSR := Lib.hid hSR
  have HER := Lib.hid hER
  have HGG := Lib.hid hg
  obtain ⟨au, cu, rfl, hlu, _, _⟩ := hu
  clear hx0 hs hSR hER hg b0
  go_enter Tryz.func10, Tryz.ntmps10
  go_wp2_with fail
  refine (implOrderIn_any n _ T _ HU.out HS.out).mono ?_
  rintro e w1 ⟨v1, rfl, f1, x1⟩
  rw [← HGG.out]
  cases gd with
  | false =>
    have eS : SR = [] := by rw [HSR.out]; unfold bookSR; rw [← HGG.out]; rfl
    have eE : ER = [] := by rw [HER.out]; unfold bookER; rw [← HGG.out]; rfl
    have X1 := Lib.hid (HX.out.trans x1)
    have ES := Lib.hid eS
    have EE := Lib.hid eE
    clear eS eE f1 x1
    go_wp2
    go_ret3
    rw [ES.out, EE.out]
    exact ⟨_, _, rfl, fresh_nil _ _, .inl ⟨rfl, rfl⟩, X1.out⟩
  | true =>
    have hio := f1.intss
    rw [show orderR n T = (ordPts n T).map pairOf by rw [ordPts_pairs]; unfold orderR; rw [← HGG.out]; rfl] at hio
    obtain ⟨P, hP⟩ : ∃ P, P = ordPts n T := ⟨_, rfl⟩
    obtain ⟨C, hC⟩ : ∃ C, C = bookC n T := ⟨_, rfl⟩
    have hCl : C.length = P.length := by rw [hC, hP, bookC_len]
    have hP30 : P.length ≤ 30 := by rw [hP]; exact ordPts_len HGG.out.symm
    have hSE : SR = sumsAt C P.length ∧ ER = entsTo P C P.length := by
      refine ⟨?_, ?_⟩
      · rw [HSR.out]; unfold bookSR bookS; rw [← HGG.out, if_pos rfl, ← hC, hCl]
      · rw [HER.out]; unfold bookER bookE; rw [← HGG.out, if_pos rfl, ← hC, ← hP]
    have hgs : ∀ j, j ≤ P.length → goodS (sumsAt C j) = true := fun j hj => sumsAt_good (by rw [hC]; exact bookC_good HGG.out.symm) j (by omega)
    have hPm : ∀ x ∈ P, goodB (rowOf n T x.1 x.2).k (rowOf n T x.1 x.2).i (rowOf n T x.1 x.2).f (rowOf n T x.1 x.2).t (rowOf n T x.1 x.2).a = true ∧ x.1 < T.length ∧ x.2 ≤ 5 := fun x hx => ordPts_row HGG.out.symm (by rw [← hP]; exact hx)
    have hCx : ∀ j (hj : j < P.length) (hj' : j < C.length), C[j] = cmdR (rowOf n T P[j].1 P[j].2) := fun j hj hj' => by
      have h1 : C[j]? = some (cmdR (rowOf n T P[j].1 P[j].2)) := by
        rw [hC]
        unfold bookC
        rw [List.getElem?_map, ← hP, List.getElem?_eq_getElem hj]
        rfl
      exact (List.getElem?_eq_some_iff.1 h1).2
    rw [← hP] at hio
    obtain ⟨ai, ci, rfl, hli, _, hci⟩ := hio
    have hml : (P.map pairOf).length = P.length := by simp
    obtain ⟨m, hm⟩ : ∃ m, m = P.length := ⟨_, rfl⟩
    rw [hml, ← hm] at hli ⊢
    rw [← hm] at hP30
    have HGT := Lib.hid (goodTab_of HGG.out.symm).1
    have HCI := Lib.hid hci
    have HMM := Lib.hid hm
    have HCL := Lib.hid hCl
    have HSE := Lib.hid hSE
    have HGS := Lib.hid hgs
    have HPM := Lib.hid hPm
    have HCX := Lib.hid hCx
    have X1 := Lib.hid x1
    clear hci hm hCl hSE hgs hPm hCx hP hC hml f1 x1 HSR HER
    go_wp2_with fail
    refine (implNewSums_any _).mono ?_
    rintro e w2 ⟨v2, rfl, f2, x2⟩
    have F2 := Lib.hid f2
    obtain ⟨a2, c2, rfl⟩ := f2.form
    have X2 := Lib.hid x2
    clear f2 x2
    go_wp2_with fail
    refine (entererOn_any _ _ _ _).mono ?_
    rintro e w3 ⟨rfl, cb3, x3, l3⟩
    obtain ⟨bm, hbm⟩ : ∃ b, b = w2.heap.size := ⟨_, rfl⟩
    rw [← hbm] at cb3 ⊢
    have HBM := Lib.hid hbm
    have CB3 := Lib.hid cb3
    have L3 := Lib.hid l3
    have F3 := Lib.hid (F2.out.ext x3)
    have X3 := Lib.hid (X2.out.trans x3)
    obtain ⟨i0, hi, hz0, hz1, hz2⟩ := info_parts Tryz.infoEntry
    clear hbm cb3 x3 l3
    go_wp2_with (at_make; refine wpList_make_full _ rfl _ _ 27 rfl w3.heap.size 79 i0 _ 9 Tryz.underlying27 hi hz0 hz1 _ _ _ _ m rfl rfl rfl rfl ?c1 ?c2 ?c3 ?_)
    case c1 => rw [hz2]; omega
    case c2 => unfold maxLen; omega
    case c3 => simp
    intro w4 ho4 hg4
    have hx4 : Ext w3 w4 := ext_of_grown hg4
    have hsz : w3.heap.size < w4.heap.size := by
      rcases ho4.2 with ⟨h, _⟩ | ⟨g, cap, cur, h, hb, hg, _⟩
      · cases h
      · simp only [Value.slice.injEq, Option.some.injEq, Addr.mk.injEq, and_true, true_and] at h
        obtain ⟨rfl, _⟩ := h
        exact (Array.getElem?_eq_some_iff.1 hg).1
    obtain ⟨ys0, hys⟩ : ∃ ys, ys = (madeCells #[.int .i64 0, .int .i64 0, .int .i64 0, .int .i64 0, .int .i64 0, .int .i64 0, .int .i64 0, .int .i64 0, .int .i64 0] (m * 9)).toList := ⟨_, rfl⟩
    rw [← hys] at ho4
    have hly : ys0.length = m * 9 := ho4.1
    have hby : BoxV w4 w3.heap.size ys0 := ⟨fun j v hj => by
      rw [ho4.cellAt _ (by have := (List.getElem?_eq_some_iff.1 hj).1; omega)]; exact hj, fun j _ => ho4.frozenAt j, hsz⟩
    have HBY := Lib.hid hby
    have F4 := Lib.hid (F3.out.ext hx4)
    have CB4 := Lib.hid (hx4.cell CB3.out)
    have X4 := Lib.hid (X3.out.trans hx4)
    obtain ⟨g, hgq⟩ : ∃ g, g = w3.heap.size := ⟨_, rfl⟩
    rw [← hgq] at HBY ⊢
    have GS : Hid (w1.heap.size ≤ g) := Lib.hid (by rw [hgq]; exact X3.out.size)
    have GB : Hid (bm ≠ g) := Lib.hid (by rw [hgq, HBM.out]; have := L3.out; omega)
    have hob : ∀ b, (Value.slice a2 4 c2).ownBlock = some b → b < w2.heap.size := fun b hb => (World.ownsRow.lt F2.out b hb).2
    have NG : Hid ((Value.slice a2 4 c2).ownBlock ≠ some g) := Lib.hid (fun e => by have := hob _ e; have := L3.out; omega)
    have NB : Hid ((Value.slice a2 4 c2).ownBlock ≠ some bm) := Lib.hid (fun e => by have := hob _ e; have := HBM.out; omega)
    have KT : Hid (∀ V, Ext w1 V → V.cell? ⟨w.heap.size, 0, none⟩ = some (.int .i64 n) ∧ V.cell? ⟨w.heap.size, 1, none⟩ = some (.slice au T.length cu)) := Lib.hid (fun V hV => (HB0.out.ext X1.out).ext hV)
    clear ho4 hg4 hz0 hz1 hz2 hi hx4 hsz hys hby hgq hob F2 F3 CB3
    go_wp2
    go_loopw [10, 11, 27] (fun _ _ i wr => ∃ (k : Nat) (ys : List Value), k ≤ m ∧ i = .int .i64 k ∧ Hid (Fresh w1.heap.size wr (.slice a2 4 c2) (sumsAt C k)) ∧ Hid (BoxV wr g ys) ∧ Hid (ys.length = m * 9) ∧ Hid (EnsTo ys (entsTo P C m) k) ∧ Hid (wr.cell? ⟨bm, 0, none⟩ = some (.slice a2 4 c2)) ∧ Hid (Ext w1 wr)) (fun _ _ i _ => m - (intOf i).toNat)
    case atStart => exact ⟨0, ys0, Nat.zero_le _, rfl, F4, HBY, Lib.hid hly, Lib.hid (fun j _ h => by omega), CB4, X4⟩
    case round =>
      clear F4 HBY CB4 X4 hly
      obtain ⟨k, ys, hk, rfl, HF, HB, HYL, HT, HCB, HXW⟩ := hrel
      by_cases hlt : k < m
      · have hkP : k < P.length := Nat.lt_of_lt_of_eq hlt HMM.out
        obtain ⟨bi, oi, rfl, di⟩ := HCI.out (by rw [List.length_map]; omega)
        obtain ⟨xv, gx0, ix⟩ := di k (by rw [List.length_map]; exact hkP)
        rw [List.getElem?_map, List.getElem?_eq_getElem hkP] at ix
        replace ix : Ints w1 xv (pairOf P[k]) := ix
        have gx := HXW.out.cell gx0
        obtain ⟨x, hx⟩ : ∃ x, x = P[k] := ⟨_, rfl⟩
        rw [← hx] at ix
        obtain ⟨bx, ox, cx, rfl, q0, q1⟩ := pair_at ix
        have hxm : x ∈ P := by rw [hx]; exact List.getElem_mem hkP
        obtain ⟨hgb, hpT, hq5⟩ := HPM.out x hxm
        have hck := HCX.out k hkP (by have := HCL.out; omega)
        have hgk := HGS.out k (Nat.le_of_lt hkP)
        obtain ⟨p, q⟩ := x
        dsimp only at hgb hpT hq5
        have hee := entsTo_at (P := P) (C := C) (m := m) (k := k) (by rw [entsTo_len]; exact hlt) hkP (by have := HCL.out; omega)
        have hss := sumsAt_succ (L := C) (j := k) (by have := HCL.out; omega)
        rw [hck, ← hx] at hee hss
        obtain ⟨r, hr⟩ : ∃ r, r = rowOf n T p q := ⟨_, rfl⟩
        have cr : ∀ V, Ext wr V → Calls Tryz.prog 38 #[.agg #[.int .i64 n, .slice au T.length cu], .int .i64 p, .int .i64 ((q : Int) + 1)] V (NewRow r V) := fun V hV => by rw [hr]; exact implRowOf_any n _ T p q V (HU.out.ext (X1.out.trans (HXW.out.trans hV))) HGG.out.symm hpT hq5
        dsimp only at hee hss
        rw [← hr] at hee hss hgb
        obtain ⟨c, hc⟩ : ∃ c, c = didC r.k r.f r.a (sumsAt C k) := ⟨_, rfl⟩
        obtain ⟨s, hs⟩ : ∃ s, s = didS r.k r.f (sumsAt C k) := ⟨_, rfl⟩
        have HE : Hid ((entsTo P C m)[k]'(by rw [entsTo_len]; exact hlt) = ⟨(p : Int), (q : Int) + 1, r.k, r.i, r.f, r.t, r.a, c, s⟩) := Lib.hid (by rw [hee, hc, hs]; rfl)
        have HSS : Hid (didL r.k r.f r.t r.a (sumsAt C k) = sumsAt C (k + 1)) := Lib.hid hss.symm
        have ks : ∀ V, Ext w1 V → V.cell? ⟨w.heap.size, 0, none⟩ = some (.int .i64 n) ∧ V.cell? ⟨w.heap.size, 1, none⟩ = some (.slice au T.length cu) ∧ V.cell? ⟨bx, ox, none⟩ = some (.int .i64 (p : Int)) ∧ V.cell? ⟨bx, ox + 1, none⟩ = some (.int .i64 ((q : Int) + 1)) := fun V hV => by
          obtain ⟨t0, t1⟩ := KT.out V hV
          exact ⟨t0, t1, hV.cell q0, hV.cell q1⟩
        have KS := Lib.hid ks
        have CR := Lib.hid cr
        have HGB := Lib.hid hgb
        have HGK := Lib.hid hgk
        have HC1 := Lib.hid hc
        have HS1 := Lib.hid hs
        have HR := Lib.hid (Ext.trans HXW.out (Ext.drew (Ext.refl wr)))
        have HLTM := Lib.hid hlt
        clear di gx0 ix hx q0 q1 hxm hgb hpT hck hgk hee hss hr cr hc hs ks
        go_wp2_with fail
        clear gx
        go_region_held3 (fun V => V.cell? ⟨w.heap.size, 0, none⟩ = some (.int .i64 n) ∧ V.cell? ⟨w.heap.size, 1, none⟩ = some (.slice au T.length cu) ∧ V.cell? ⟨bx, ox, none⟩ = some (.int .i64 (p : Int)) ∧ V.cell? ⟨bx, ox + 1, none⟩ = some (.int .i64 ((q : Int) + 1))) (first | (with_reducible exact KS.out _ HR.out) | (with_reducible exact KS.out _ HW8.out) | (with_reducible exact KS.out _ HW9.out) | (exact KS.out _ HWS.out)) (first
          | (go_at_call 38; refine (CR.out _ (Ext.drew (Ext.refl _))).mono ?_; rintro e w8 ⟨z8, rfl, f8, x8'⟩; have x8 : Ext wr w8 := (Ext.drew (Ext.refl _)).trans x8'; have HW8 := Lib.hid (Ext.trans HXW.out x8); have hfd := field_rowC r.b r.v r.st r.k r.i r.f r.t r.a r.s z8)
          | (go_at_call 69; refine (enter_any w1.heap.size bm (.slice a2 4 c2) (sumsAt C k) p ((q : Int) + 1) r.k r.i r.f r.t r.a _ (Fresh.ext HF.out x8) HGK.out HGB.out (x8.cell HCB.out) NB.out).mono ?_; rintro e w9 ⟨rfl, f9, g9⟩; rw [← HC1.out, ← HS1.out]; have hw9 := Ext.touch (HXW.out.trans x8) (Fresh.ext HF.out x8) g9; have HW9 := Lib.hid hw9; have B9 := BoxV.but (HB.out.ext x8) g9 NG.out; have HWS : Hid (Ext w1 (w9.setCells g (k * 9) [.int .i64 (p : Int), .int .i64 ((q : Int) + 1), .int .i64 r.k, .int .i64 r.i, .int .i64 r.f, .int .i64 r.t, .int .i64 r.a, .int .i64 c, .int .i64 s])) := Lib.hid ((ins_puts (lo := g) (hi := g + 1) (Nat.le_refl _) (Nat.lt_succ_self _) [.int .i64 (p : Int), .int .i64 ((q : Int) + 1), .int .i64 r.k, .int .i64 r.i, .int .i64 r.f, .int .i64 r.t, .int .i64 r.a, .int .i64 c, .int .i64 s] (k * 9) w9).ext hw9 GS.out); have c9 := cell_but (x8.cell HCB.out) g9 NB.out; obtain ⟨o0, y0⟩ : ∃ v, w9.cell? ⟨g, k * 9, none⟩ = some v := ⟨_, B9.cell (k * 9) _ (List.getElem?_eq_getElem (by have := HYL.out; have := HLTM.out; omega))⟩; have z0 := B9.free (k * 9) (by have := HYL.out; have := HLTM.out; omega); obtain ⟨o1, y1⟩ : ∃ v, w9.cell? ⟨g, k * 9 + 1, none⟩ = some v := ⟨_, B9.cell (k * 9 + 1) _ (List.getElem?_eq_getElem (by have := HYL.out; have := HLTM.out; omega))⟩; have z1 := B9.free (k * 9 + 1) (by have := HYL.out; have := HLTM.out; omega); obtain ⟨o2, y2⟩ : ∃ v, w9.cell? ⟨g, k * 9 + 2, none⟩ = some v := ⟨_, B9.cell (k * 9 + 2) _ (List.getElem?_eq_getElem (by have := HYL.out; have := HLTM.out; omega))⟩; have z2 := B9.free (k * 9 + 2) (by have := HYL.out; have := HLTM.out; omega); obtain ⟨o3, y3⟩ : ∃ v, w9.cell? ⟨g, k * 9 + 3, none⟩ = some v := ⟨_, B9.cell (k * 9 + 3) _ (List.getElem?_eq_getElem (by have := HYL.out; have := HLTM.out; omega))⟩; have z3 := B9.free (k * 9 + 3) (by have := HYL.out; have := HLTM.out; omega); obtain ⟨o4, y4⟩ : ∃ v, w9.cell? ⟨g, k * 9 + 4, none⟩ = some v := ⟨_, B9.cell (k * 9 + 4) _ (List.getElem?_eq_getElem (by have := HYL.out; have := HLTM.out; omega))⟩; have z4 := B9.free (k * 9 + 4) (by have := HYL.out; have := HLTM.out; omega); obtain ⟨o5, y5⟩ : ∃ v, w9.cell? ⟨g, k * 9 + 5, none⟩ = some v := ⟨_, B9.cell (k * 9 + 5) _ (List.getElem?_eq_getElem (by have := HYL.out; have := HLTM.out; omega))⟩; have z5 := B9.free (k * 9 + 5) (by have := HYL.out; have := HLTM.out; omega); obtain ⟨o6, y6⟩ : ∃ v, w9.cell? ⟨g, k * 9 + 6, none⟩ = some v := ⟨_, B9.cell (k * 9 + 6) _ (List.getElem?_eq_getElem (by have := HYL.out; have := HLTM.out; omega))⟩; have z6 := B9.free (k * 9 + 6) (by have := HYL.out; have := HLTM.out; omega); obtain ⟨o7, y7⟩ : ∃ v, w9.cell? ⟨g, k * 9 + 7, none⟩ = some v := ⟨_, B9.cell (k * 9 + 7) _ (List.getElem?_eq_getElem (by have := HYL.out; have := HLTM.out; omega))⟩; have z7 := B9.free (k * 9 + 7) (by have := HYL.out; have := HLTM.out; omega); obtain ⟨o8, y8⟩ : ∃ v, w9.cell? ⟨g, k * 9 + 8, none⟩ = some v := ⟨_, B9.cell (k * 9 + 8) _ (List.getElem?_eq_getElem (by have := HYL.out; have := HLTM.out; omega))⟩; have z8 := B9.free (k * 9 + 8) (by have := HYL.out; have := HLTM.out; omega)))
        have FN : Hid (Fresh w1.heap.size (w9.setCells g (k * 9) [.int .i64 (p : Int), .int .i64 ((q : Int) + 1), .int .i64 r.k, .int .i64 r.i, .int .i64 r.f, .int .i64 r.t, .int .i64 r.a, .int .i64 c, .int .i64 s]) (.slice a2 4 c2) (sumsAt C (k + 1))) := Lib.hid (by rw [← HSS.out]; exact fresh_puts NG.out [.int .i64 (p : Int), .int .i64 ((q : Int) + 1), .int .i64 r.k, .int .i64 r.i, .int .i64 r.f, .int .i64 r.t, .int .i64 r.a, .int .i64 c, .int .i64 s] (k * 9) f9)
        have BN := Lib.hid (boxV_puts [.int .i64 (p : Int), .int .i64 ((q : Int) + 1), .int .i64 r.k, .int .i64 r.i, .int .i64 r.f, .int .i64 r.t, .int .i64 r.a, .int .i64 c, .int .i64 s] (k * 9) _ _ B9 (by simp only [List.length_cons, List.length_nil]; have := HYL.out; have := HLTM.out; omega))
        have TN : Hid (EnsTo (putL ys (k * 9) [.int .i64 (p : Int), .int .i64 ((q : Int) + 1), .int .i64 r.k, .int .i64 r.i, .int .i64 r.f, .int .i64 r.t, .int .i64 r.a, .int .i64 c, .int .i64 s]) (entsTo P C m) (k + 1)) := Lib.hid (by
          have h := HT.out.put (k := k) (by rw [entsTo_len]; exact HLTM.out) (by rw [entsTo_len]; exact HYL.out)
          rw [HE.out] at h
          exact h)
        have CN := Lib.hid (cell_puts (g := g) (a := ⟨bm, 0, none⟩) (by exact GB.out) [.int .i64 (p : Int), .int .i64 ((q : Int) + 1), .int .i64 r.k, .int .i64 r.i, .int .i64 r.f, .int .i64 r.t, .int .i64 r.a, .int .i64 c, .int .i64 s] (k * 9) c9)
        clear y0 z0 y1 z1 y2 z2 y3 z3 y4 z4 y5 z5 y6 z6 y7 z7 y8 z8 f9 g9 hw9 B9 c9 x8 x8' f8 hfd HW8 HW9
        go_wp2
        go_roundw
        case rel => exact ⟨k + 1, _, by have := HLTM.out; omega, by go_num, FN, BN, Lib.hid (by rw [putL_len]; exact HYL.out), TN, CN, HWS⟩
        case measure => simp [intOf]; have := HLTM.out; omega
      · obtain rfl : k = m := by omega
        obtain ⟨eS, eE⟩ := HSE.out
        rw [← HMM.out] at eS eE
        have FE : Hid (Fresh w.heap.size wr (.slice a2 4 c2) SR) := Lib.hid (by rw [eS]; exact HF.out.more ((HX.out.trans X1.out).size))
        have AE : Hid (EnApart w.heap.size (.slice a2 4 c2) (.slice (some ⟨g, 0, none⟩) k k) wr ER) := Lib.hid (by
          rw [eE]
          exact .inr ⟨g, NG.out, Nat.le_trans (HX.out.trans X1.out).size GS.out, ensTo_ans HB.out (entsTo_len _ _ _) (by unfold maxLen; omega) HYL.out HT.out⟩)
        have XE := Lib.hid (HX.out.trans (X1.out.trans HXW.out))
        clear HF HB HYL HT HCB HXW eS eE
        go_wp2
        go_ret3
        exact ⟨_, _, rfl, FE.out, AE.out, XE.out⟩
end Go.Proofs.YtcpmfcigciknlaaGreat

namespace Go.Proofs.YtcpmfcigciknlaaGreat
open Go.RowKit Go.Maps
set_option linter.unusedVariables false

instance (x y : Nat × Nat) : Decidable (lexL x y) := by unfold lexL; infer_instance
/-- How many of the first k stand ahead of x, from behind. -/
def insAtI (L : List (Nat × Nat)) (x : Nat × Nat) : Nat → Nat
  | 0 => 0
  | k + 1 => match L[k]? with
    | some y => if lexL x y then insAtI L x k else k + 1
    | none => k + 1
theorem insAtI_le (L : List (Nat × Nat)) (x : Nat × Nat) : ∀ k, insAtI L x k ≤ k
  | 0 => Nat.le_refl _
  | k + 1 => by
    unfold insAtI
    split
    · split
      · have := insAtI_le L x k; omega
      · exact Nat.le_refl _
    · exact Nat.le_refl _
def insKI (L : List (Nat × Nat)) (x : Nat × Nat) : Nat := insAtI L x L.length
def insL (L : List (Nat × Nat)) (x : Nat × Nat) : List (Nat × Nat) := L.take (insKI L x) ++ [x] ++ L.drop (insKI L x)

/-- A slice of lists, with its values. -/
def ValsAt (w : World) (v : Value) (vs : List Value) : Prop :=
  (v = .slice none 0 0 ∧ vs = []) ∨ ∃ b off cap, v = .slice (some ⟨b, off, none⟩) vs.length cap ∧ vs.length ≤ cap ∧ cap ≤ maxLen ∧ ∀ j z, vs[j]? = some z → w.cell? ⟨b, off + j, none⟩ = some z
theorem ValsAt.ext {w w' : World} {v : Value} {vs : List Value} (h : ValsAt w v vs) (e : Ext w w') : ValsAt w' v vs := by
  rcases h with h | ⟨b, off, cap, h1, h2, h3, h4⟩
  · exact .inl h
  · exact .inr ⟨b, off, cap, h1, h2, h3, fun j z hz => e.cell (h4 j z hz)⟩
theorem FreshV.vals {B : Nat} {w : World} {v : Value} {vs : List Value} (h : FreshV B w v vs) : ValsAt w v vs := by
  have h0 : w.ownsRow B 26 1 v vs.length vs := h
  rcases h0.2 with ⟨rfl, hn⟩ | ⟨g, cap, cur, rfl, _, _, h1, h2, _⟩
  · exact .inl ⟨rfl, List.eq_nil_of_length_eq_zero hn⟩
  · refine .inr ⟨g, 0, cap, rfl, h1, h2, fun j z hz => ?_⟩
    rw [Nat.zero_add]
    exact h.at rfl hz
/-- .. each of which reads as an instance's pair. -/
structure PairsAt (w : World) (v : Value) (vs : List Value) (L : List (Nat × Nat)) : Prop where
  len : vs.length = L.length
  reads : ValsAt w v vs
  row : ∀ (j : Nat) (u : Value) (x : Nat × Nat), vs[j]? = some u → L[j]? = some x → Ints w u (pairOf x)

/-- append(s, x...), x of no cells. -/
theorem wpList_joinV0 {ops : Array Oper} {rest : List Oper} {o : Oper} {a : Act} {Q : Exit → Act → World → Prop} {w : World} (hgd : o.guard = none) (s x : Operand)
    (ho : o.op = .call { callee := .builtin .append, args := #[s, x], argTypes := #[63, 63] })
    (B : Nat) (v : Value) (vs : List Value) (hs : a.eval s = v) (hf : FreshV B w v vs) (hx : a.eval x = .slice none 0 0)
    (h : ∀ v' w', FreshV B w' v' vs → w.grownBy w' v.ownBlock → Kept B w w' → wpList Tryz.prog ops Q rest (a.put o.dst v') w') : wpList Tryz.prog ops Q (o :: rest) a w := by
  obtain ⟨i0, hi, hz0, hz1, hz2⟩ := info_parts Tryz.infoInts
  exact wpList_append_own_none hgd s x 63 ho B 26 i0 1 Tryz.underlying63 hi v vs.length _ hs hf hx (h v w hf ⟨rfl, rfl, rfl, Nat.le_refl _, fun _ _ _ => rfl⟩ (fun w0 hx0 _ => hx0))
/-- .. x of the call's own, too. -/
theorem wpList_joinVV {ops : Array Oper} {rest : List Oper} {o : Oper} {a : Act} {Q : Exit → Act → World → Prop} {w : World} (hgd : o.guard = none) (s x : Operand)
    (ho : o.op = .call { callee := .builtin .append, args := #[s, x], argTypes := #[63, 63] })
    (B B2 : Nat) (v u : Value) (vs us : List Value) (hs : a.eval s = v) (hf : FreshV B w v vs) (hx : a.eval x = u) (hu : FreshV B2 w u us) (h1 : ∀ u ∈ us, u.oneCell' = true) (hl : vs.length + us.length ≤ 1048576) (hB : B ≤ w.heap.size)
    (h : ∀ v' w', FreshV B w' v' (vs ++ us) → w.grownBy w' v.ownBlock → Kept B w w' → wpList Tryz.prog ops Q rest (a.put o.dst v') w') : wpList Tryz.prog ops Q (o :: rest) a w := by
  have hu0 : w.ownsRow B2 26 1 u us.length us := hu
  rcases hu0.2 with ⟨rfl, hn⟩ | ⟨g, cap, cur, rfl, _⟩
  · obtain rfl : us = [] := List.eq_nil_of_length_eq_zero hn
    refine wpList_joinV0 hgd s x ho B v vs hs hf hx (fun v' w' f g k => h v' w' (by rw [List.append_nil]; exact f) g k)
  · refine wpList_joinVn hgd s x ho B v vs us hs hf g 0 us.length cap rfl hx (fun j z hz => ?_) h1 hl hB h
    rw [Nat.zero_add]
    exact hu.at rfl hz

set_option maxHeartbeats 4000000 in
set_option maxRecDepth 100000 in
theorem l6Insert_some (b off cap : Nat) (xv : Value) (vs : List Value) (L : List (Nat × Nat)) (x : Nat × Nat) (w : World) (hlen : vs.length = L.length) (hcap : vs.length ≤ cap) (hcm : cap ≤ maxLen)
    (hc : ∀ j z, vs[j]? = some z → w.cell? ⟨b, off + j, none⟩ = some z) (hrow : ∀ (j : Nat) (u : Value) (x : Nat × Nat), vs[j]? = some u → L[j]? = some x → Ints w u (pairOf x)) (hx : Ints w xv (pairOf x)) (hl : L.length ≤ 1000) (m : Nat) (hm : m = vs.length) :
    Calls Tryz.prog 176 #[.slice (some ⟨b, off, none⟩) m cap, xv] w (fun e w' => ∃ v', e = .returned v' ∧ FreshV w.heap.size w' v' (vs.take (insKI L x) ++ [xv] ++ vs.drop (insKI L x)) ∧ Ext w w') := by
  obtain ⟨bx, ox, cx, rfl, x0, x1⟩ := pair_at hx
  have hmc : m ≤ cap := by omega
  have hone : ∀ u ∈ vs, u.oneCell' = true := fun u hu => by
    obtain ⟨j, hj, e⟩ := List.getElem_of_mem hu
    have hj' : j < L.length := by omega
    obtain ⟨_, _, rfl, _⟩ := hrow j u L[j] (by rw [List.getElem?_eq_getElem hj, e]) (List.getElem?_eq_getElem hj')
    rfl
  have HM := Lib.hid hm
  have HLEN := Lib.hid hlen
  have HROW := Lib.hid hrow
  have HC := Lib.hid hc
  have HONE := Lib.hid hone
  have hm1 : m ≤ 1000 := by omega
  unfold maxLen at hcm
  clear hm hlen hrow hc hx hcap hone
  go_enter Tryz.func176, Tryz.ntmps176
  go_wp2
  go_loopw [5] (fun i wr => ∃ k : Nat, k ≤ m ∧ i = .int .i64 k ∧ Hid (insKI L x = insAtI L x k) ∧ Hid (Ext w wr)) (fun i _ => (intOf i).toNat)
  case atStart => exact ⟨m, Nat.le_refl _, rfl, Lib.hid (by unfold insKI; rw [← HLEN.out, ← HM.out]), Lib.hid (Ext.refl _)⟩
  case round =>
    obtain ⟨k, hk, rfl, HI, HX⟩ := hrel
    by_cases hk0 : k = 0
    · subst hk0
      have HK : Hid (insKI L x = 0) := Lib.hid (by rw [HI.out]; rfl)
      have n0 : decide ((0 : Int) < 0) = false := by decide
      clear HI
      go_wp2_with fail
      go_quiet (fail)
      have hk1 : 0 ≤ cap := by omega
      have XW : Hid (Ext w (wr.drewN nq)) := Lib.hid (HX.out.drewN _)
      obtain ⟨W, hW⟩ : ∃ W, W = wr.drewN nq := ⟨_, rfl⟩
      rw [← hW] at XW ⊢
      clear hW HX
      obtain ⟨tk, htk⟩ : ∃ tk, tk = vs.take 0 := ⟨_, rfl⟩
      obtain ⟨dr, hdr⟩ : ∃ dr, dr = vs.drop 0 := ⟨_, rfl⟩
      have hd1 : dr.length = m - 0 := by rw [hdr, List.length_drop, ← HM.out]
      have ht1 : tk.length = 0 := by rw [htk, List.length_take, ← HM.out]; omega
      have HTK := Lib.hid htk
      have HDR := Lib.hid hdr
      have HD1 := Lib.hid hd1
      have HT1 := Lib.hid ht1
      have HSW : Hid (w.heap.size ≤ (W.alloc (.cells #[] 26)).heap.size) := Lib.hid (Nat.le_trans XW.out.size (Ext.alloc1 _ _).size)
      have HBND : Hid (([] : List Value).length + dr.length ≤ 1048576) := Lib.hid (by rw [hd1]; simp only [List.length_nil]; omega)
      clear hd1 ht1 htk hdr
      by_cases hkc : cap = 0
      · have hmk : m - 0 = 0 := by omega
        have hm2 : m = 0 := by omega
        clear hmk
        subst hkc
        subst hm2
        have HD0 : Hid (dr.length = 0) := Lib.hid (by have := HD1.out; omega)
        clear HD1
        have HD1 := HD0
        clear HD0
        go_wp2_with (at_builtin; go_loud (refine wpList_joinVn rfl _ _ rfl w.heap.size _ [] dr rfl (freshV_lit W w.heap.size XW.out.size) b _ 0 _ HD1.out rfl ?_ (fun u hu => HONE.out u (List.mem_of_mem_drop (by rw [← HDR.out]; exact hu))) HBND.out HSW.out ?_))
        · intro j z hz
          rw [List.eq_nil_of_length_eq_zero HD1.out] at hz
          simp at hz
        intro v2 w2 f2 hg2 hk2
        have F2 : Hid (FreshV w.heap.size w2 v2 dr) := Lib.hid (by simpa using f2)
        have X2 := Lib.hid (hk2 w (XW.out.alloc _) (Nat.le_refl _))
        have XB2 : Hid (Ext w (w2.alloc (.cells #[] 26))) := Lib.hid (X2.out.alloc _)
        have HSB2 : Hid (w2.heap.size ≤ (w2.alloc (.cells #[] 26)).heap.size) := Lib.hid (Ext.alloc1 _ _).size
        have HB2 : Hid (([] : List Value).length + tk.length ≤ 1048576) := Lib.hid (by rw [HT1.out]; simp only [List.length_nil]; omega)
        clear f2 hg2 hk2 XW HBND HSW
        go_wp2_with (at_builtin; refine wpList_joinVn rfl _ _ rfl w2.heap.size _ [] tk rfl (freshV_lit w2 w2.heap.size (Nat.le_refl _)) b off _ _ HT1.out rfl ?_ (fun u hu => HONE.out u (List.mem_of_mem_take (by rw [← HTK.out]; exact hu))) HB2.out HSB2.out ?_)
        · intro j z hz
          rw [HTK.out, List.getElem?_take] at hz
          split at hz
          · exact XB2.out.cell (HC.out _ _ hz)
          · cases hz
        intro v3 w3 f3 hg3 hk3
        have F3 : Hid (FreshV w2.heap.size (w3.alloc (.cells #[.slice (some ⟨bx, ox, none⟩) 2 cx] 26)) v3 tk) := Lib.hid ((show FreshV w2.heap.size w3 v3 tk by simpa using f3).ext (Ext.alloc1 w3 (.cells #[.slice (some ⟨bx, ox, none⟩) 2 cx] 26)))
        have X3 := Lib.hid (hk3 w2 (Ext.alloc1 _ _) (Nat.le_refl _))
        have HL3 : Hid (tk.length ≤ 1048576) := Lib.hid (by rw [HT1.out]; omega)
        have HS3 : Hid (w2.heap.size ≤ (w3.alloc (.cells #[.slice (some ⟨bx, ox, none⟩) 2 cx] 26)).heap.size) := Lib.hid (Nat.le_trans X3.out.size (Ext.alloc1 _ _).size)
        clear f3 hg3 hk3 HB2 XB2
        go_wp2_with (at_builtin; refine wpList_pushV rfl _ _ rfl w2.heap.size _ tk rfl F3.out (.slice (some ⟨bx, ox, none⟩) 2 cx) ⟨w3.heap.size, 0, none⟩ 1 rfl (cell_alloc_one _ _ _) rfl HL3.out HS3.out ?_)
        intro v4 w4 f4 hg4 hk4
        have F4 := Lib.hid f4
        have X4 := Lib.hid (hk4 w2 (X3.out.alloc _) (Nat.le_refl _))
        have G4 : Hid (FreshV w.heap.size w4 v2 dr) := Lib.hid (F2.out.ext X4.out)
        have HO4 : Hid (∀ u ∈ dr, u.oneCell' = true) := Lib.hid (fun u hu => HONE.out u (List.mem_of_mem_drop (by rw [← HDR.out]; exact hu)))
        have HL4 : Hid ((tk ++ [Value.slice (some ⟨bx, ox, none⟩) 2 cx]).length + dr.length ≤ 1048576) := Lib.hid (by
          have h1 := HT1.out
          have h2 := HD1.out
          simp only [List.length_append, h1, h2, List.length_cons, List.length_nil]
          omega)
        clear f4 hg4 hk4 HL3 HS3 F3 F2
        go_wp2_with (at_builtin; refine wpList_joinVV rfl _ _ rfl w2.heap.size w.heap.size _ v2 _ dr rfl F4.out rfl G4.out HO4.out HL4.out X4.out.size ?_)
        intro v5 w5 f5 hg5 hk5
        have F5 := Lib.hid (f5.more X2.out.size)
        have X5 := Lib.hid (X2.out.trans (hk5 w2 X4.out (Nat.le_refl _)))
        clear f5 hg5 hk5 HL4 HO4 G4 F4
        go_wp2
        go_ret
        rw [HK.out, ← HTK.out, ← HDR.out]
        exact ⟨_, rfl, (by simpa using F5.out), X5.out⟩
      · go_wp2_with (at_builtin; refine wpList_joinVn rfl _ _ rfl w.heap.size _ [] dr rfl (freshV_lit W w.heap.size XW.out.size) b _ (m - 0) _ HD1.out rfl ?_ (fun u hu => HONE.out u (List.mem_of_mem_drop (by rw [← HDR.out]; exact hu))) HBND.out HSW.out ?_)
        · intro j z hz
          rw [HDR.out, List.getElem?_drop] at hz
          have h := ((XW.out.alloc (.cells #[] 26)).cell (HC.out _ _ hz))
          simpa [Nat.add_assoc] using h
        intro v2 w2 f2 hg2 hk2
        have F2 : Hid (FreshV w.heap.size w2 v2 dr) := Lib.hid (by simpa using f2)
        have X2 := Lib.hid (hk2 w (XW.out.alloc _) (Nat.le_refl _))
        have XB2 : Hid (Ext w (w2.alloc (.cells #[] 26))) := Lib.hid (X2.out.alloc _)
        have HSB2 : Hid (w2.heap.size ≤ (w2.alloc (.cells #[] 26)).heap.size) := Lib.hid (Ext.alloc1 _ _).size
        have HB2 : Hid (([] : List Value).length + tk.length ≤ 1048576) := Lib.hid (by rw [HT1.out]; simp only [List.length_nil]; omega)
        clear f2 hg2 hk2 XW HBND HSW
        go_wp2_with (at_builtin; refine wpList_joinVn rfl _ _ rfl w2.heap.size _ [] tk rfl (freshV_lit w2 w2.heap.size (Nat.le_refl _)) b off 0 cap HT1.out rfl ?_ (fun u hu => HONE.out u (List.mem_of_mem_take (by rw [← HTK.out]; exact hu))) HB2.out HSB2.out ?_)
        · intro j z hz
          rw [HTK.out, List.getElem?_take] at hz
          split at hz
          · exact XB2.out.cell (HC.out _ _ hz)
          · cases hz
        intro v3 w3 f3 hg3 hk3
        have F3 : Hid (FreshV w2.heap.size (w3.alloc (.cells #[.slice (some ⟨bx, ox, none⟩) 2 cx] 26)) v3 tk) := Lib.hid ((show FreshV w2.heap.size w3 v3 tk by simpa using f3).ext (Ext.alloc1 w3 (.cells #[.slice (some ⟨bx, ox, none⟩) 2 cx] 26)))
        have X3 := Lib.hid (hk3 w2 (Ext.alloc1 _ _) (Nat.le_refl _))
        have HL3 : Hid (tk.length ≤ 1048576) := Lib.hid (by rw [HT1.out]; omega)
        have HS3 : Hid (w2.heap.size ≤ (w3.alloc (.cells #[.slice (some ⟨bx, ox, none⟩) 2 cx] 26)).heap.size) := Lib.hid (Nat.le_trans X3.out.size (Ext.alloc1 _ _).size)
        clear f3 hg3 hk3 HB2 XB2
        go_wp2_with (at_builtin; refine wpList_pushV rfl _ _ rfl w2.heap.size _ tk rfl F3.out (.slice (some ⟨bx, ox, none⟩) 2 cx) ⟨w3.heap.size, 0, none⟩ 1 rfl (cell_alloc_one _ _ _) rfl HL3.out HS3.out ?_)
        intro v4 w4 f4 hg4 hk4
        have F4 := Lib.hid f4
        have X4 := Lib.hid (hk4 w2 (X3.out.alloc _) (Nat.le_refl _))
        have G4 : Hid (FreshV w.heap.size w4 v2 dr) := Lib.hid (F2.out.ext X4.out)
        have HO4 : Hid (∀ u ∈ dr, u.oneCell' = true) := Lib.hid (fun u hu => HONE.out u (List.mem_of_mem_drop (by rw [← HDR.out]; exact hu)))
        have HL4 : Hid ((tk ++ [Value.slice (some ⟨bx, ox, none⟩) 2 cx]).length + dr.length ≤ 1048576) := Lib.hid (by
          have h1 := HT1.out
          have h2 := HD1.out
          simp only [List.length_append, h1, h2, List.length_cons, List.length_nil]
          omega)
        clear f4 hg4 hk4 HL3 HS3 F3 F2
        go_wp2_with (at_builtin; refine wpList_joinVV rfl _ _ rfl w2.heap.size w.heap.size _ v2 _ dr rfl F4.out rfl G4.out HO4.out HL4.out X4.out.size ?_)
        intro v5 w5 f5 hg5 hk5
        have F5 := Lib.hid (f5.more X2.out.size)
        have X5 := Lib.hid (X2.out.trans (hk5 w2 X4.out (Nat.le_refl _)))
        clear f5 hg5 hk5 HL4 HO4 G4 F4
        go_wp2
        go_ret
        rw [HK.out, ← HTK.out, ← HDR.out]
        exact ⟨_, rfl, (by simpa using F5.out), X5.out⟩
    · obtain ⟨k', rfl⟩ : ∃ k', k = k' + 1 := ⟨k - 1, by omega⟩
      have hkl : k' < L.length := by have := HLEN.out; have := HM.out; omega
      have hkv : k' < vs.length := by have := HM.out; omega
      obtain ⟨y, hy⟩ : ∃ y, y = L[k'] := ⟨_, rfl⟩
      have gv := HX.out.cell (HC.out k' _ (List.getElem?_eq_getElem hkv))
      have iy := HROW.out k' _ y (List.getElem?_eq_getElem hkv) (by rw [hy]; exact List.getElem?_eq_getElem hkl)
      obtain ⟨by_, oy, cy, hvy, y0, y1⟩ := pair_at (iy.ext HX.out)
      rw [hvy] at gv
      have f0 := HX.out.cell x0
      have f1 := HX.out.cell x1
      have hw : IntKind.i64.wrap (((k' + 1 : Nat) : Int) - 1) = (k' : Int) := by rw [show (((k' + 1 : Nat) : Int) - 1) = k' by omega]; exact IntWalk.i64_in _ (by omega)
      have hin : insAtI L x (k' + 1) = if lexL x y then insAtI L x k' else k' + 1 := by
        show (match L[k']? with
          | some y => if lexL x y then insAtI L x k' else k' + 1
          | none => k' + 1) = _
        rw [List.getElem?_eq_getElem hkl, hy]
      have HIN := Lib.hid hin
      have p0 : (0 : Int) < ((k' + 1 : Nat) : Int) := by omega
      have b0 : decide ((0 : Int) < ((k' + 1 : Nat) : Int)) = true := decide_eq_true p0
      obtain ⟨X1, hX1⟩ : ∃ X1 : Int, X1 = (x.1 : Int) := ⟨_, rfl⟩
      obtain ⟨X2, hX2⟩ : ∃ X2 : Int, X2 = (x.2 : Int) + 1 := ⟨_, rfl⟩
      obtain ⟨Y1, hY1⟩ : ∃ Y1 : Int, Y1 = (y.1 : Int) := ⟨_, rfl⟩
      obtain ⟨Y2, hY2⟩ : ∃ Y2 : Int, Y2 = (y.2 : Int) + 1 := ⟨_, rfl⟩
      rw [← hX1] at f0
      rw [← hX2] at f1
      rw [← hY1] at y0
      rw [← hY2] at y1
      have HEQ := Lib.hid (And.intro (And.intro hX1 hX2) (And.intro hY1 hY2))
      clear iy hvy hin hy hX1 hX2 hY1 hY2 x0 x1
      by_cases hc1' : X1 < Y1
      · have b1 : decide (X1 < Y1) = true := decide_eq_true hc1'
        have nl : lexL x y := by unfold lexL; have := HEQ.out; omega
        have HK : Hid (insKI L x = insAtI L x k') := Lib.hid (by rw [HI.out, HIN.out, if_pos nl])
        clear HIN nl hc1'
        clear HI
        go_wp2_with fail
        go_quiet (fail)
        go_wp2
        go_roundw
        case rel => exact ⟨k', by omega, by go_num, HK, Lib.hid (HX.out.drewN _)⟩
        case measure => first | (simp [intOf]; done) | (simp [intOf]; omega)
      · by_cases hc2' : Y1 = X1
        · have b1 : decide (X1 < Y1) = false := decide_eq_false hc1'
          have b2 : (Y1 == X1) = true := by simpa using hc2'
          by_cases hc3' : X2 < Y2
          · have b3 : decide (X2 < Y2) = true := decide_eq_true hc3'
            have nl : lexL x y := by unfold lexL; have := HEQ.out; omega
            have HK : Hid (insKI L x = insAtI L x k') := Lib.hid (by rw [HI.out, HIN.out, if_pos nl])
            clear HIN nl hc1' hc2' hc3'
            clear HI
            go_wp2_with fail
            go_quiet (fail)
            go_wp2
            go_roundw
            case rel => exact ⟨k', by omega, by go_num, HK, Lib.hid (HX.out.drewN _)⟩
            case measure => first | (simp [intOf]; done) | (simp [intOf]; omega)
          · have b3 : decide (X2 < Y2) = false := decide_eq_false hc3'
            have nl : ¬ lexL x y := by unfold lexL; have := HEQ.out; omega
            have HK : Hid (insKI L x = k' + 1) := Lib.hid (by rw [HI.out, HIN.out, if_neg nl])
            clear HIN nl hc1' hc2' hc3'
            clear HI
            go_wp2_with fail
            go_quiet (fail)
            have hk1 : (k' + 1) ≤ cap := by omega
            have XW : Hid (Ext w (wr.drewN nq)) := Lib.hid (HX.out.drewN _)
            obtain ⟨W, hW⟩ : ∃ W, W = wr.drewN nq := ⟨_, rfl⟩
            rw [← hW] at XW ⊢
            clear hW HX
            obtain ⟨tk, htk⟩ : ∃ tk, tk = vs.take (k' + 1) := ⟨_, rfl⟩
            obtain ⟨dr, hdr⟩ : ∃ dr, dr = vs.drop (k' + 1) := ⟨_, rfl⟩
            have hd1 : dr.length = m - (k' + 1) := by rw [hdr, List.length_drop, ← HM.out]
            have ht1 : tk.length = (k' + 1) := by rw [htk, List.length_take, ← HM.out]; omega
            have HTK := Lib.hid htk
            have HDR := Lib.hid hdr
            have HD1 := Lib.hid hd1
            have HT1 := Lib.hid ht1
            have HSW : Hid (w.heap.size ≤ (W.alloc (.cells #[] 26)).heap.size) := Lib.hid (Nat.le_trans XW.out.size (Ext.alloc1 _ _).size)
            have HBND : Hid (([] : List Value).length + dr.length ≤ 1048576) := Lib.hid (by rw [hd1]; simp only [List.length_nil]; omega)
            clear hd1 ht1 htk hdr
            by_cases hkc : cap = (k' + 1)
            · have hmk : m - (k' + 1) = 0 := by omega
              have hm2 : m = (k' + 1) := by omega
              clear hmk
              subst hkc
              subst hm2
              have HD0 : Hid (dr.length = 0) := Lib.hid (by have := HD1.out; omega)
              clear HD1
              have HD1 := HD0
              clear HD0
              go_wp2_with (at_builtin; go_loud (refine wpList_joinVn rfl _ _ rfl w.heap.size _ [] dr rfl (freshV_lit W w.heap.size XW.out.size) b _ 0 _ HD1.out rfl ?_ (fun u hu => HONE.out u (List.mem_of_mem_drop (by rw [← HDR.out]; exact hu))) HBND.out HSW.out ?_))
              · intro j z hz
                rw [List.eq_nil_of_length_eq_zero HD1.out] at hz
                simp at hz
              intro v2 w2 f2 hg2 hk2
              have F2 : Hid (FreshV w.heap.size w2 v2 dr) := Lib.hid (by simpa using f2)
              have X2 := Lib.hid (hk2 w (XW.out.alloc _) (Nat.le_refl _))
              have XB2 : Hid (Ext w (w2.alloc (.cells #[] 26))) := Lib.hid (X2.out.alloc _)
              have HSB2 : Hid (w2.heap.size ≤ (w2.alloc (.cells #[] 26)).heap.size) := Lib.hid (Ext.alloc1 _ _).size
              have HB2 : Hid (([] : List Value).length + tk.length ≤ 1048576) := Lib.hid (by rw [HT1.out]; simp only [List.length_nil]; omega)
              clear f2 hg2 hk2 XW HBND HSW
              go_wp2_with (at_builtin; refine wpList_joinVn rfl _ _ rfl w2.heap.size _ [] tk rfl (freshV_lit w2 w2.heap.size (Nat.le_refl _)) b off _ _ HT1.out rfl ?_ (fun u hu => HONE.out u (List.mem_of_mem_take (by rw [← HTK.out]; exact hu))) HB2.out HSB2.out ?_)
              · intro j z hz
                rw [HTK.out, List.getElem?_take] at hz
                split at hz
                · exact XB2.out.cell (HC.out _ _ hz)
                · cases hz
              intro v3 w3 f3 hg3 hk3
              have F3 : Hid (FreshV w2.heap.size (w3.alloc (.cells #[.slice (some ⟨bx, ox, none⟩) 2 cx] 26)) v3 tk) := Lib.hid ((show FreshV w2.heap.size w3 v3 tk by simpa using f3).ext (Ext.alloc1 w3 (.cells #[.slice (some ⟨bx, ox, none⟩) 2 cx] 26)))
              have X3 := Lib.hid (hk3 w2 (Ext.alloc1 _ _) (Nat.le_refl _))
              have HL3 : Hid (tk.length ≤ 1048576) := Lib.hid (by rw [HT1.out]; omega)
              have HS3 : Hid (w2.heap.size ≤ (w3.alloc (.cells #[.slice (some ⟨bx, ox, none⟩) 2 cx] 26)).heap.size) := Lib.hid (Nat.le_trans X3.out.size (Ext.alloc1 _ _).size)
              clear f3 hg3 hk3 HB2 XB2
              go_wp2_with (at_builtin; refine wpList_pushV rfl _ _ rfl w2.heap.size _ tk rfl F3.out (.slice (some ⟨bx, ox, none⟩) 2 cx) ⟨w3.heap.size, 0, none⟩ 1 rfl (cell_alloc_one _ _ _) rfl HL3.out HS3.out ?_)
              intro v4 w4 f4 hg4 hk4
              have F4 := Lib.hid f4
              have X4 := Lib.hid (hk4 w2 (X3.out.alloc _) (Nat.le_refl _))
              have G4 : Hid (FreshV w.heap.size w4 v2 dr) := Lib.hid (F2.out.ext X4.out)
              have HO4 : Hid (∀ u ∈ dr, u.oneCell' = true) := Lib.hid (fun u hu => HONE.out u (List.mem_of_mem_drop (by rw [← HDR.out]; exact hu)))
              have HL4 : Hid ((tk ++ [Value.slice (some ⟨bx, ox, none⟩) 2 cx]).length + dr.length ≤ 1048576) := Lib.hid (by
                have h1 := HT1.out
                have h2 := HD1.out
                simp only [List.length_append, h1, h2, List.length_cons, List.length_nil]
                omega)
              clear f4 hg4 hk4 HL3 HS3 F3 F2
              go_wp2_with (at_builtin; refine wpList_joinVV rfl _ _ rfl w2.heap.size w.heap.size _ v2 _ dr rfl F4.out rfl G4.out HO4.out HL4.out X4.out.size ?_)
              intro v5 w5 f5 hg5 hk5
              have F5 := Lib.hid (f5.more X2.out.size)
              have X5 := Lib.hid (X2.out.trans (hk5 w2 X4.out (Nat.le_refl _)))
              clear f5 hg5 hk5 HL4 HO4 G4 F4
              go_wp2
              go_ret
              rw [HK.out, ← HTK.out, ← HDR.out]
              exact ⟨_, rfl, (by simpa using F5.out), X5.out⟩
            · go_wp2_with (at_builtin; refine wpList_joinVn rfl _ _ rfl w.heap.size _ [] dr rfl (freshV_lit W w.heap.size XW.out.size) b _ (m - (k' + 1)) _ HD1.out rfl ?_ (fun u hu => HONE.out u (List.mem_of_mem_drop (by rw [← HDR.out]; exact hu))) HBND.out HSW.out ?_)
              · intro j z hz
                rw [HDR.out, List.getElem?_drop] at hz
                have h := ((XW.out.alloc (.cells #[] 26)).cell (HC.out _ _ hz))
                simpa [Nat.add_assoc] using h
              intro v2 w2 f2 hg2 hk2
              have F2 : Hid (FreshV w.heap.size w2 v2 dr) := Lib.hid (by simpa using f2)
              have X2 := Lib.hid (hk2 w (XW.out.alloc _) (Nat.le_refl _))
              have XB2 : Hid (Ext w (w2.alloc (.cells #[] 26))) := Lib.hid (X2.out.alloc _)
              have HSB2 : Hid (w2.heap.size ≤ (w2.alloc (.cells #[] 26)).heap.size) := Lib.hid (Ext.alloc1 _ _).size
              have HB2 : Hid (([] : List Value).length + tk.length ≤ 1048576) := Lib.hid (by rw [HT1.out]; simp only [List.length_nil]; omega)
              clear f2 hg2 hk2 XW HBND HSW
              go_wp2_with (at_builtin; refine wpList_joinVn rfl _ _ rfl w2.heap.size _ [] tk rfl (freshV_lit w2 w2.heap.size (Nat.le_refl _)) b off (k' + 1) cap HT1.out rfl ?_ (fun u hu => HONE.out u (List.mem_of_mem_take (by rw [← HTK.out]; exact hu))) HB2.out HSB2.out ?_)
              · intro j z hz
                rw [HTK.out, List.getElem?_take] at hz
                split at hz
                · exact XB2.out.cell (HC.out _ _ hz)
                · cases hz
              intro v3 w3 f3 hg3 hk3
              have F3 : Hid (FreshV w2.heap.size (w3.alloc (.cells #[.slice (some ⟨bx, ox, none⟩) 2 cx] 26)) v3 tk) := Lib.hid ((show FreshV w2.heap.size w3 v3 tk by simpa using f3).ext (Ext.alloc1 w3 (.cells #[.slice (some ⟨bx, ox, none⟩) 2 cx] 26)))
              have X3 := Lib.hid (hk3 w2 (Ext.alloc1 _ _) (Nat.le_refl _))
              have HL3 : Hid (tk.length ≤ 1048576) := Lib.hid (by rw [HT1.out]; omega)
              have HS3 : Hid (w2.heap.size ≤ (w3.alloc (.cells #[.slice (some ⟨bx, ox, none⟩) 2 cx] 26)).heap.size) := Lib.hid (Nat.le_trans X3.out.size (Ext.alloc1 _ _).size)
              clear f3 hg3 hk3 HB2 XB2
              go_wp2_with (at_builtin; refine wpList_pushV rfl _ _ rfl w2.heap.size _ tk rfl F3.out (.slice (some ⟨bx, ox, none⟩) 2 cx) ⟨w3.heap.size, 0, none⟩ 1 rfl (cell_alloc_one _ _ _) rfl HL3.out HS3.out ?_)
              intro v4 w4 f4 hg4 hk4
              have F4 := Lib.hid f4
              have X4 := Lib.hid (hk4 w2 (X3.out.alloc _) (Nat.le_refl _))
              have G4 : Hid (FreshV w.heap.size w4 v2 dr) := Lib.hid (F2.out.ext X4.out)
              have HO4 : Hid (∀ u ∈ dr, u.oneCell' = true) := Lib.hid (fun u hu => HONE.out u (List.mem_of_mem_drop (by rw [← HDR.out]; exact hu)))
              have HL4 : Hid ((tk ++ [Value.slice (some ⟨bx, ox, none⟩) 2 cx]).length + dr.length ≤ 1048576) := Lib.hid (by
                have h1 := HT1.out
                have h2 := HD1.out
                simp only [List.length_append, h1, h2, List.length_cons, List.length_nil]
                omega)
              clear f4 hg4 hk4 HL3 HS3 F3 F2
              go_wp2_with (at_builtin; refine wpList_joinVV rfl _ _ rfl w2.heap.size w.heap.size _ v2 _ dr rfl F4.out rfl G4.out HO4.out HL4.out X4.out.size ?_)
              intro v5 w5 f5 hg5 hk5
              have F5 := Lib.hid (f5.more X2.out.size)
              have X5 := Lib.hid (X2.out.trans (hk5 w2 X4.out (Nat.le_refl _)))
              clear f5 hg5 hk5 HL4 HO4 G4 F4
              go_wp2
              go_ret
              rw [HK.out, ← HTK.out, ← HDR.out]
              exact ⟨_, rfl, (by simpa using F5.out), X5.out⟩
        · have b1 : decide (X1 < Y1) = false := decide_eq_false hc1'
          have b2 : (Y1 == X1) = false := by simpa using hc2'
          have nl : ¬ lexL x y := by unfold lexL; have := HEQ.out; omega
          have HK : Hid (insKI L x = k' + 1) := Lib.hid (by rw [HI.out, HIN.out, if_neg nl])
          clear HIN nl hc1' hc2'
          clear HI
          go_wp2_with fail
          go_quiet (fail)
          have hk1 : (k' + 1) ≤ cap := by omega
          have XW : Hid (Ext w (wr.drewN nq)) := Lib.hid (HX.out.drewN _)
          obtain ⟨W, hW⟩ : ∃ W, W = wr.drewN nq := ⟨_, rfl⟩
          rw [← hW] at XW ⊢
          clear hW HX
          obtain ⟨tk, htk⟩ : ∃ tk, tk = vs.take (k' + 1) := ⟨_, rfl⟩
          obtain ⟨dr, hdr⟩ : ∃ dr, dr = vs.drop (k' + 1) := ⟨_, rfl⟩
          have hd1 : dr.length = m - (k' + 1) := by rw [hdr, List.length_drop, ← HM.out]
          have ht1 : tk.length = (k' + 1) := by rw [htk, List.length_take, ← HM.out]; omega
          have HTK := Lib.hid htk
          have HDR := Lib.hid hdr
          have HD1 := Lib.hid hd1
          have HT1 := Lib.hid ht1
          have HSW : Hid (w.heap.size ≤ (W.alloc (.cells #[] 26)).heap.size) := Lib.hid (Nat.le_trans XW.out.size (Ext.alloc1 _ _).size)
          have HBND : Hid (([] : List Value).length + dr.length ≤ 1048576) := Lib.hid (by rw [hd1]; simp only [List.length_nil]; omega)
          clear hd1 ht1 htk hdr
          by_cases hkc : cap = (k' + 1)
          · have hmk : m - (k' + 1) = 0 := by omega
            have hm2 : m = (k' + 1) := by omega
            clear hmk
            subst hkc
            subst hm2
            have HD0 : Hid (dr.length = 0) := Lib.hid (by have := HD1.out; omega)
            clear HD1
            have HD1 := HD0
            clear HD0
            go_wp2_with (at_builtin; go_loud (refine wpList_joinVn rfl _ _ rfl w.heap.size _ [] dr rfl (freshV_lit W w.heap.size XW.out.size) b _ 0 _ HD1.out rfl ?_ (fun u hu => HONE.out u (List.mem_of_mem_drop (by rw [← HDR.out]; exact hu))) HBND.out HSW.out ?_))
            · intro j z hz
              rw [List.eq_nil_of_length_eq_zero HD1.out] at hz
              simp at hz
            intro v2 w2 f2 hg2 hk2
            have F2 : Hid (FreshV w.heap.size w2 v2 dr) := Lib.hid (by simpa using f2)
            have X2 := Lib.hid (hk2 w (XW.out.alloc _) (Nat.le_refl _))
            have XB2 : Hid (Ext w (w2.alloc (.cells #[] 26))) := Lib.hid (X2.out.alloc _)
            have HSB2 : Hid (w2.heap.size ≤ (w2.alloc (.cells #[] 26)).heap.size) := Lib.hid (Ext.alloc1 _ _).size
            have HB2 : Hid (([] : List Value).length + tk.length ≤ 1048576) := Lib.hid (by rw [HT1.out]; simp only [List.length_nil]; omega)
            clear f2 hg2 hk2 XW HBND HSW
            go_wp2_with (at_builtin; refine wpList_joinVn rfl _ _ rfl w2.heap.size _ [] tk rfl (freshV_lit w2 w2.heap.size (Nat.le_refl _)) b off _ _ HT1.out rfl ?_ (fun u hu => HONE.out u (List.mem_of_mem_take (by rw [← HTK.out]; exact hu))) HB2.out HSB2.out ?_)
            · intro j z hz
              rw [HTK.out, List.getElem?_take] at hz
              split at hz
              · exact XB2.out.cell (HC.out _ _ hz)
              · cases hz
            intro v3 w3 f3 hg3 hk3
            have F3 : Hid (FreshV w2.heap.size (w3.alloc (.cells #[.slice (some ⟨bx, ox, none⟩) 2 cx] 26)) v3 tk) := Lib.hid ((show FreshV w2.heap.size w3 v3 tk by simpa using f3).ext (Ext.alloc1 w3 (.cells #[.slice (some ⟨bx, ox, none⟩) 2 cx] 26)))
            have X3 := Lib.hid (hk3 w2 (Ext.alloc1 _ _) (Nat.le_refl _))
            have HL3 : Hid (tk.length ≤ 1048576) := Lib.hid (by rw [HT1.out]; omega)
            have HS3 : Hid (w2.heap.size ≤ (w3.alloc (.cells #[.slice (some ⟨bx, ox, none⟩) 2 cx] 26)).heap.size) := Lib.hid (Nat.le_trans X3.out.size (Ext.alloc1 _ _).size)
            clear f3 hg3 hk3 HB2 XB2
            go_wp2_with (at_builtin; refine wpList_pushV rfl _ _ rfl w2.heap.size _ tk rfl F3.out (.slice (some ⟨bx, ox, none⟩) 2 cx) ⟨w3.heap.size, 0, none⟩ 1 rfl (cell_alloc_one _ _ _) rfl HL3.out HS3.out ?_)
            intro v4 w4 f4 hg4 hk4
            have F4 := Lib.hid f4
            have X4 := Lib.hid (hk4 w2 (X3.out.alloc _) (Nat.le_refl _))
            have G4 : Hid (FreshV w.heap.size w4 v2 dr) := Lib.hid (F2.out.ext X4.out)
            have HO4 : Hid (∀ u ∈ dr, u.oneCell' = true) := Lib.hid (fun u hu => HONE.out u (List.mem_of_mem_drop (by rw [← HDR.out]; exact hu)))
            have HL4 : Hid ((tk ++ [Value.slice (some ⟨bx, ox, none⟩) 2 cx]).length + dr.length ≤ 1048576) := Lib.hid (by
              have h1 := HT1.out
              have h2 := HD1.out
              simp only [List.length_append, h1, h2, List.length_cons, List.length_nil]
              omega)
            clear f4 hg4 hk4 HL3 HS3 F3 F2
            go_wp2_with (at_builtin; refine wpList_joinVV rfl _ _ rfl w2.heap.size w.heap.size _ v2 _ dr rfl F4.out rfl G4.out HO4.out HL4.out X4.out.size ?_)
            intro v5 w5 f5 hg5 hk5
            have F5 := Lib.hid (f5.more X2.out.size)
            have X5 := Lib.hid (X2.out.trans (hk5 w2 X4.out (Nat.le_refl _)))
            clear f5 hg5 hk5 HL4 HO4 G4 F4
            go_wp2
            go_ret
            rw [HK.out, ← HTK.out, ← HDR.out]
            exact ⟨_, rfl, (by simpa using F5.out), X5.out⟩
          · go_wp2_with (at_builtin; refine wpList_joinVn rfl _ _ rfl w.heap.size _ [] dr rfl (freshV_lit W w.heap.size XW.out.size) b _ (m - (k' + 1)) _ HD1.out rfl ?_ (fun u hu => HONE.out u (List.mem_of_mem_drop (by rw [← HDR.out]; exact hu))) HBND.out HSW.out ?_)
            · intro j z hz
              rw [HDR.out, List.getElem?_drop] at hz
              have h := ((XW.out.alloc (.cells #[] 26)).cell (HC.out _ _ hz))
              simpa [Nat.add_assoc] using h
            intro v2 w2 f2 hg2 hk2
            have F2 : Hid (FreshV w.heap.size w2 v2 dr) := Lib.hid (by simpa using f2)
            have X2 := Lib.hid (hk2 w (XW.out.alloc _) (Nat.le_refl _))
            have XB2 : Hid (Ext w (w2.alloc (.cells #[] 26))) := Lib.hid (X2.out.alloc _)
            have HSB2 : Hid (w2.heap.size ≤ (w2.alloc (.cells #[] 26)).heap.size) := Lib.hid (Ext.alloc1 _ _).size
            have HB2 : Hid (([] : List Value).length + tk.length ≤ 1048576) := Lib.hid (by rw [HT1.out]; simp only [List.length_nil]; omega)
            clear f2 hg2 hk2 XW HBND HSW
            go_wp2_with (at_builtin; refine wpList_joinVn rfl _ _ rfl w2.heap.size _ [] tk rfl (freshV_lit w2 w2.heap.size (Nat.le_refl _)) b off (k' + 1) cap HT1.out rfl ?_ (fun u hu => HONE.out u (List.mem_of_mem_take (by rw [← HTK.out]; exact hu))) HB2.out HSB2.out ?_)
            · intro j z hz
              rw [HTK.out, List.getElem?_take] at hz
              split at hz
              · exact XB2.out.cell (HC.out _ _ hz)
              · cases hz
            intro v3 w3 f3 hg3 hk3
            have F3 : Hid (FreshV w2.heap.size (w3.alloc (.cells #[.slice (some ⟨bx, ox, none⟩) 2 cx] 26)) v3 tk) := Lib.hid ((show FreshV w2.heap.size w3 v3 tk by simpa using f3).ext (Ext.alloc1 w3 (.cells #[.slice (some ⟨bx, ox, none⟩) 2 cx] 26)))
            have X3 := Lib.hid (hk3 w2 (Ext.alloc1 _ _) (Nat.le_refl _))
            have HL3 : Hid (tk.length ≤ 1048576) := Lib.hid (by rw [HT1.out]; omega)
            have HS3 : Hid (w2.heap.size ≤ (w3.alloc (.cells #[.slice (some ⟨bx, ox, none⟩) 2 cx] 26)).heap.size) := Lib.hid (Nat.le_trans X3.out.size (Ext.alloc1 _ _).size)
            clear f3 hg3 hk3 HB2 XB2
            go_wp2_with (at_builtin; refine wpList_pushV rfl _ _ rfl w2.heap.size _ tk rfl F3.out (.slice (some ⟨bx, ox, none⟩) 2 cx) ⟨w3.heap.size, 0, none⟩ 1 rfl (cell_alloc_one _ _ _) rfl HL3.out HS3.out ?_)
            intro v4 w4 f4 hg4 hk4
            have F4 := Lib.hid f4
            have X4 := Lib.hid (hk4 w2 (X3.out.alloc _) (Nat.le_refl _))
            have G4 : Hid (FreshV w.heap.size w4 v2 dr) := Lib.hid (F2.out.ext X4.out)
            have HO4 : Hid (∀ u ∈ dr, u.oneCell' = true) := Lib.hid (fun u hu => HONE.out u (List.mem_of_mem_drop (by rw [← HDR.out]; exact hu)))
            have HL4 : Hid ((tk ++ [Value.slice (some ⟨bx, ox, none⟩) 2 cx]).length + dr.length ≤ 1048576) := Lib.hid (by
              have h1 := HT1.out
              have h2 := HD1.out
              simp only [List.length_append, h1, h2, List.length_cons, List.length_nil]
              omega)
            clear f4 hg4 hk4 HL3 HS3 F3 F2
            go_wp2_with (at_builtin; refine wpList_joinVV rfl _ _ rfl w2.heap.size w.heap.size _ v2 _ dr rfl F4.out rfl G4.out HO4.out HL4.out X4.out.size ?_)
            intro v5 w5 f5 hg5 hk5
            have F5 := Lib.hid (f5.more X2.out.size)
            have X5 := Lib.hid (X2.out.trans (hk5 w2 X4.out (Nat.le_refl _)))
            clear f5 hg5 hk5 HL4 HO4 G4 F4
            go_wp2
            go_ret
            rw [HK.out, ← HTK.out, ← HDR.out]
            exact ⟨_, rfl, (by simpa using F5.out), X5.out⟩

end Go.Proofs.YtcpmfcigciknlaaGreat
