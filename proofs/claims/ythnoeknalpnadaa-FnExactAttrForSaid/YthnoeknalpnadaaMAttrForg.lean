/- Texts of this proof, part g: words, plain facts, contracts. -/
import Derived.Test.YthnoeknalpnadaaMAttrForf

namespace Go.Proofs.Ythnoeknalpnadaa
open Go.RowKit
set_option linter.unusedVariables false

theorem three_boxes (w : World) (n : Int) (u : Value) (T T' T'' : TypeId) (k i f t a : Int) :
    AttrAt (((w.alloc (.cells #[.int .i64 n, u] T)).alloc (.cells #[.int .i64 k, .int .i64 i, .int .i64 f, .int .i64 t, .int .i64 a] T')).alloc (.cells #[.int .i64 0, .slice none 0 0] T'')) w.heap.size n u ∧
    CmdAt (((w.alloc (.cells #[.int .i64 n, u] T)).alloc (.cells #[.int .i64 k, .int .i64 i, .int .i64 f, .int .i64 t, .int .i64 a] T')).alloc (.cells #[.int .i64 0, .slice none 0 0] T'')) (w.heap.size + 1) k i f t a ∧
    OpenAt (((w.alloc (.cells #[.int .i64 n, u] T)).alloc (.cells #[.int .i64 k, .int .i64 i, .int .i64 f, .int .i64 t, .int .i64 a] T')).alloc (.cells #[.int .i64 0, .slice none 0 0] T'')) (w.heap.size + 1 + 1) 0 (.slice none 0 0) := by
  refine ⟨⟨?_, ?_⟩, ⟨?_, ?_, ?_, ?_, ?_⟩, ⟨⟨?_, ?_⟩, ?_, ?_⟩⟩ <;> go_simp
theorem OpenAt.put {W : World} {N : Nat} {s : Int} {u : Value} (h : OpenAt W N s u) (b o : Nat) (x : Value) (hne : ¬ N = b) : OpenAt (W.setCell ⟨b, o, none⟩ x) N s u := by
  obtain ⟨⟨h1, h2⟩, h3, h4⟩ := h
  exact ⟨⟨setc_other h1 (fun e => hne e.symm), setc_other h2 (fun e => hne e.symm)⟩, by rw [World.frozen?_setCell]; exact h3, by rw [World.frozen?_setCell]; exact h4⟩

theorem own_set {B e sz g n cap : Nat} {w : World} {xs : List Value} (h : w.ownsRow B e sz (.slice (some ⟨g, 0, none⟩) n cap) n xs) (b o : Nat) (x : Value) (hne : g ≠ b) : (w.setCell ⟨b, o, none⟩ x).ownsRow B e sz (.slice (some ⟨g, 0, none⟩) n cap) n xs :=
  World.ownsRow.kept h (grownBy_set w b o x) (.inr (fun e => hne (Option.some.inj e)))
theorem noneL_tab {n : Int} {T : List (List RowD)} (h : goodTab n T = true) : (noneL n).length = T.length := by
  obtain ⟨h1, h2, _⟩ := goodTab_of h
  rcases isGrp_of h1 with rfl | rfl <;> simp [noneL, isGrp] <;> omega
/-- A fresh list that is not empty lies at the head of a block. -/
theorem Fresh.head {B : Nat} {w : World} {v : Value} {l : List Int} (h : Fresh B w v l) (hl : 0 < l.length) : ∃ g cap, v = .slice (some ⟨g, 0, none⟩) l.length cap ∧ B ≤ g := by
  rcases h.2 with ⟨_, hn⟩ | ⟨g, cap, cur, hv, hb, _⟩
  · omega
  · exact ⟨g, cap, hv, hb⟩

set_option maxHeartbeats 8000000 in
set_option maxRecDepth 100000 in
theorem l4Attr_any (n : Int) (u : Value) (T : List (List RowD)) (ck ci cf ct ca rep no : Int) (w : World) (hu : Rowzz w u T) (hg : goodTab n T = true) :
    Calls Try.prog 124 #[.agg #[.int .i64 n, u], .agg #[.int .i64 ck, .int .i64 ci, .int .i64 cf, .int .i64 ct, .int .i64 ca], .int .i64 rep, .int .i64 no] w (NewAttr ((attrSD n ck cf ct rep no T).1 + 1) (attrSD n ck cf ct rep no T).2 w) := by
  obtain ⟨au, cu, rfl, hlu, _, hcu⟩ := hu
  unfold maxLen at hlu
  obtain ⟨hgrp, hlen, hrows⟩ := goodTab_of hg
  have hgb := isGrp_bd hgrp
  have hnl := noneL_tab hg
  obtain ⟨wb, hwb⟩ : ∃ wb, wb = ((w.alloc (.cells #[.int .i64 n, .slice au T.length cu] 24)).alloc (.cells #[.int .i64 ck, .int .i64 ci, .int .i64 cf, .int .i64 ct, .int .i64 ca] 36)).alloc (.cells #[.int .i64 0, .slice none 0 0] 39) := ⟨_, rfl⟩
  have ho := three_boxes w n (.slice au T.length cu) 24 36 39 ck ci cf ct ca
  rw [← hwb] at ho
  have xb : Ext w wb := by rw [hwb]; exact Ext.alloc3 _ _ _ _
  have sb : wb.heap.size = w.heap.size + 3 := by rw [hwb]; exact size3 _ _ _ _
  have HWB := Lib.hid hwb
  have HO := Lib.hid ho
  have SB := Lib.hid sb
  have HGRP := Lib.hid hgrp
  have HNL := Lib.hid hnl
  have HR := Lib.hid hrows
  have hT3 : 3 ≤ T.length := by omega
  have hT5 : T.length ≤ 5 := by omega
  clear hwb ho sb hgrp hnl hrows hg hgb hlen
  go_enter Try.func124, Try.ntmps124
  go_wp2_with fail
  rw [← HWB.out]
  refine (l3None_any n _ HGRP.out).mono ?_
  rintro e w1 ⟨v0, rfl, f1, x1⟩
  obtain ⟨g, cap, hv0, hgB⟩ := f1.head (by rw [HNL.out]; omega)
  rw [HNL.out] at hv0
  subst hv0
  have fr : w1.ownsRow w.heap.size 3 1 (.slice (some ⟨g, 0, none⟩) T.length cap) T.length ((noneL n).map (Value.int .i64)) := by
    have := f1.more (B' := w.heap.size) (by have := SB.out; omega)
    unfold Fresh at this
    rw [HNL.out] at this
    exact this
  have hgw : g < w1.heap.size := (World.ownsRow.lt f1 g rfl).2
  have hg3 : w.heap.size + 3 ≤ g := by have := SB.out; omega
  have hw1 : w.heap.size + 3 ≤ w1.heap.size := by omega
  obtain ⟨t0, t1⟩ := HO.out.1.ext (x1.trans (Ext.alloc1 w1 (.cells #[.int .i64 0, .slice (some ⟨g, 0, none⟩) T.length cap] 39)))
  have hlive : LiveA w (w1.alloc (.cells #[.int .i64 0, .slice (some ⟨g, 0, none⟩) T.length cap] 39)) w1.heap.size g cap T.length (w.heap.size + 1) ck ci cf ct ca 0 (noneL n) :=
    ⟨openAt_new _ _ _ _, (Ext.alloc1 w1 _).ownsRow fr, (HO.out.2.1.ext x1).ext (Ext.alloc1 _ _), (xb.trans x1).alloc _⟩
  have hres : OpenAt (w1.alloc (.cells #[.int .i64 0, .slice (some ⟨g, 0, none⟩) T.length cap] 39)) (w.heap.size + 1 + 1) 0 (.slice none 0 0) := (HO.out.2.2.ext x1).ext (Ext.alloc1 _ _)
  have LIVE := Lib.hid hlive
  have HRES := Lib.hid hres
  have hbs : w1.heap.size < (w1.alloc (.cells #[.int .i64 0, .slice (some ⟨g, 0, none⟩) T.length cap] 39)).heap.size := by simp
  have HBS := Lib.hid hbs
  obtain ⟨b, hb⟩ : ∃ b, b = w1.heap.size := ⟨_, rfl⟩
  rw [← hb] at hgw hw1 LIVE HBS
  have hbg : ¬ b = g := by omega
  have hgb' : ¬ g = b := by omega
  have X1 := Lib.hid x1
  have HBE := Lib.hid hb
  clear f1 x1 fr xb hlive hres hbs hb
  go_wp2
  rw [← HBE.out]
  have hNg : ¬ w.heap.size + 1 = g := by omega
  have hNb : ¬ w.heap.size + 1 = b := by omega
  have hwb : w.heap.size ≤ b := by omega
  go_loopw [20] (fun i wr => ∃ (k : Nat) (S : Int) (D : List Int), k ≤ T.length ∧ i = .int .i64 k ∧ Hid ((S, D) = tabTo ck cf ct rep no T k (0, noneL n)) ∧ Hid (0 ≤ S ∧ S ≤ 999) ∧ LiveA w wr b g cap T.length (w.heap.size + 1) ck ci cf ct ca S D ∧ OpenAt wr (w.heap.size + 1 + 1) 0 (.slice none 0 0) ∧ b < wr.heap.size) (fun i _ => T.length - (intOf i).toNat)
  case atStart =>
    have hl := LIVE.out
    have hr := HRES.out
    have hs := HBS.out
    exact ⟨0, 0, noneL n, Nat.zero_le _, rfl, Lib.hid rfl, Lib.hid (by omega), hl, hr, hs⟩
  case round =>
    obtain ⟨k, S0, D0, hk, rfl, HSD0, HBD0, hL, hO, hbs⟩ := hrel
    by_cases hlt : k < T.length
    · obtain ⟨bu, ou, rfl, du⟩ := hcu (by omega)
      obtain ⟨x, hx1, ix⟩ := du k hlt
      have gu := hL.2.2.2.cell hx1
      obtain ⟨R, hR⟩ : ∃ R, R = T[k] := ⟨_, rfl⟩
      rw [← hR] at ix
      have hgr : ∀ r ∈ R, goodRow n r = true := by rw [hR]; exact (HR.out _ (List.getElem_mem hlt)).2
      have hl6 : R.length ≤ 6 := by rw [hR]; exact (HR.out _ (List.getElem_mem hlt)).1
      obtain ⟨ax, cx, rfl, hlx, _, hcx⟩ := ix
      unfold maxLen at hlx
      have HRR := Lib.hid hR
      have HGRS := Lib.hid hgr
      have LK := Lib.hid hL
      have OK := Lib.hid hO
      clear hcu du hx1 hR hgr hL hO
      go_wp2
      go_loopw [27] (fun i wr => ∃ (j : Nat) (S : Int) (D : List Int), j ≤ R.length ∧ i = .int .i64 j ∧ Hid ((S, D) = rowTo ck cf ct rep no k R j (S0, D0)) ∧ Hid (0 ≤ S ∧ S ≤ 999) ∧ LiveA w wr b g cap T.length (w.heap.size + 1) ck ci cf ct ca S D ∧ OpenAt wr (w.heap.size + 1 + 1) 0 (.slice none 0 0) ∧ b < wr.heap.size) (fun i _ => R.length - (intOf i).toNat)
      case atStart =>
        have hl := LK.out
        have hr := OK.out
        exact ⟨0, S0, D0, Nat.zero_le _, rfl, Lib.hid rfl, HBD0, hl, hr, hbs⟩
      case round =>
        clear hbs gu LK OK
        obtain ⟨j, S, D, hj, rfl, HSD, HBD, hL, hO, hbs⟩ := hrel
        by_cases hjt : j < R.length
        · obtain ⟨bx, ox, rfl, dx⟩ := hcx (by omega)
          obtain ⟨y, hy1, iy⟩ := dx j hjt
          obtain ⟨d, hd⟩ : ∃ d, d = R[j] := ⟨_, rfl⟩
          rw [← hd] at hy1 iy
          have gy := hy1.ext hL.2.2.2
          obtain ⟨ay, cy, rfl, _⟩ := iy.ext hL.2.2.2
          have hgd : goodRow n d = true := by rw [hd]; exact HGRS.out _ (List.getElem_mem hjt)
          have HGR := Lib.hid hgd
          have HD := Lib.hid hd
          obtain ⟨wp, hwp⟩ : ∃ wp : World, wp = wr := ⟨_, rfl⟩
          subst hwp
          have l2 := hL.ext (Ext.alloc1 wp (.cells #[.int .i64 d.b, .int .i64 d.v, .int .i64 d.st, .int .i64 d.k, .int .i64 d.i, .int .i64 d.f, .int .i64 d.t, .int .i64 d.a, .int .i64 d.s, .slice ay d.l.length cy] 71))
          have o2 := hO.ext (Ext.alloc1 wp (.cells #[.int .i64 d.b, .int .i64 d.v, .int .i64 d.st, .int .i64 d.k, .int .i64 d.i, .int .i64 d.f, .int .i64 d.t, .int .i64 d.a, .int .i64 d.s, .slice ay d.l.length cy] 71))
          have rr := rowAt_new wp 71 d (.slice ay d.l.length cy)
          have hgs : g < wp.heap.size := by omega
          have hb2 : b < (wp.alloc (.cells #[.int .i64 d.b, .int .i64 d.v, .int .i64 d.st, .int .i64 d.k, .int .i64 d.i, .int .i64 d.f, .int .i64 d.t, .int .i64 d.a, .int .i64 d.s, .slice ay d.l.length cy] 71)).heap.size := by simp; omega
          obtain ⟨q0, q1, q2, q3, q4⟩ := l2.2.2.1
          obtain ⟨g0, g1, g2, g3, g4, g5, g6, g7, g8, g9⟩ := gy
          clear hcx dx hy1 iy hd hL hO hgd
          cases hst : (d.st == 0) with
          | true =>
            have hit : hitB ck cf ct rep no k j d = false := by unfold hitB; rw [hst]; rfl
            have HX := Lib.hid (step_miss (S := S) (D := D) hit)
            have L2 := Lib.hid l2
            have O2 := Lib.hid o2
            clear hit l2 o2 rr q0 q1 q2 q3 q4
            go_wp2
            go_roundw
            case rel => exact ⟨j + 1, S, D, by omega, by go_num, Lib.hid (by rw [rowTo_succ _ _ _ _ _ _ hjt, ← HSD.out, ← HD.out, HX.out]), HBD, L2.out, O2.out, hb2⟩
            case measure => simp [intOf]; omega
          | false =>
            cases hint : interB ck cf ct d.k d.f d.t with
            | false =>
              have hit : hitB ck cf ct rep no k j d = false := by unfold hitB; rw [hst, hint]; rfl
              have HI := Lib.hid hint
              clear hint
              go_wp2_with fail
              refine (l2Interfere_any _ _ _ _ _ _ _ _ _ _ _).mono ?_
              rintro e w3 ⟨rfl, x3⟩
              have HX := Lib.hid (step_miss (S := S) (D := D) hit)
              clear hit
              rw [HI.out]
              have l3 := l2.ext x3
              have o3 := o2.ext x3
              have L3 := Lib.hid l3
              have O3 := Lib.hid o3
              have hb3 := Nat.lt_of_lt_of_le hb2 x3.size
              clear l3 o3 l2 o2 x3 rr q0 q1 q2 q3 q4 g0 g1 g2 g3 g4 g5 g6 g7 g8 g9
              go_wp2
              go_roundw
              case rel => exact ⟨j + 1, S, D, by omega, by go_num, Lib.hid (by rw [rowTo_succ _ _ _ _ _ _ hjt, ← HSD.out, ← HD.out, HX.out]), HBD, L3.out, O3.out, hb3⟩
              case measure => simp [intOf]; omega

            | true =>
              have HI := Lib.hid hint
              cases hkr : ((k : Int) == rep) with
              | true =>
                cases hin : ((j : Int) + 1 == no) with
                | true =>
                  have hit : hitB ck cf ct rep no k j d = false := by unfold hitB; rw [hst, hint, hkr, hin]; rfl
                  clear hint
                  go_wp2_with fail
                  refine (l2Interfere_any _ _ _ _ _ _ _ _ _ _ _).mono ?_
                  rintro e w3 ⟨rfl, x3⟩
                  have HX := Lib.hid (step_miss (S := S) (D := D) hit)
                  clear hit
                  rw [HI.out]
                  have l3 := l2.ext x3
                  have o3 := o2.ext x3
                  have L3 := Lib.hid l3
                  have O3 := Lib.hid o3
                  have hb3 := Nat.lt_of_lt_of_le hb2 x3.size
                  clear l3 o3 l2 o2 x3 rr q0 q1 q2 q3 q4 g0 g1 g2 g3 g4 g5 g6 g7 g8 g9
                  go_wp2
                  go_roundw
                  case rel => exact ⟨j + 1, S, D, by omega, by go_num, Lib.hid (by rw [rowTo_succ _ _ _ _ _ _ hjt, ← HSD.out, ← HD.out, HX.out]), HBD, L3.out, O3.out, hb3⟩
                  case measure => simp [intOf]; omega

                | false =>
                  have hit : hitB ck cf ct rep no k j d = true := by unfold hitB; rw [hst, hint, hkr, hin]; rfl
                  clear hint
                  go_wp2_with fail
                  refine (l2Interfere_any _ _ _ _ _ _ _ _ _ _ _).mono ?_
                  rintro e w3 ⟨rfl, x3⟩
                  have HX := Lib.hid (step_hit (S := S) (D := D) hit)
                  have hbd2 := hit_seq hit HGR.out
                  have HBD2 := Lib.hid hbd2
                  clear hit hbd2
                  rw [HI.out]
                  have l3 := l2.ext x3
                  have o3 := o2.ext x3
                  have l4 := l3.put k ((j : Int) + 1) hbg hNg
                  have o4 := o3.put g k (.int .i64 ((j : Int) + 1)) (by omega)
                  obtain ⟨y0, hy0⟩ := l3.cellAt hlt
                  have gf := l3.2.1.frozenAt k
                  obtain ⟨⟨a0, a1⟩, z0, z1⟩ := l3.1
                  obtain ⟨r0, r1, r2, r3, r4, r5, r6, r7, r8, r9⟩ := rr.ext x3
                  have r84 : ((w3.setCell ⟨g, k, none⟩ (.int .i64 ((j : Int) + 1)))).cell? ⟨wp.heap.size, 8, none⟩ = some (.int .i64 d.s) := setc_other r8 (by omega)
                  have a04 : ((w3.setCell ⟨g, k, none⟩ (.int .i64 ((j : Int) + 1)))).cell? ⟨b, 0, none⟩ = some (.int .i64 S) := l4.1.1.1
                  have z04 : ((w3.setCell ⟨g, k, none⟩ (.int .i64 ((j : Int) + 1)))).frozen? ⟨b, 0, none⟩ = false := l4.1.2.1
                  have L4 := Lib.hid l4
                  have O4 := Lib.hid o4
                  have hb3 : b < ((w3.setCell ⟨g, k, none⟩ (.int .i64 ((j : Int) + 1))).setCell ⟨b, 0, none⟩ (.int .i64 (mxx S d.s))).heap.size := by simp only [World.size_setCell]; exact Nat.lt_of_lt_of_le hb2 x3.size
                  clear l3 o3 l4 o4 l2 o2 x3 rr q0 q1 q2 q3 q4 g0 g1 g2 g3 g4 g5 g6 g7 g8 g9
                  go_wp2_with fail
                  refine (l1Most_any _ _ _).mono ?_
                  rintro e w' ⟨rfl, rfl⟩
                  have l5 := L4.out.seq (mxx S d.s) hbg hNb hwb
                  have o5 := O4.out.put b 0 (.int .i64 (mxx S d.s)) (by omega)
                  have L5 := Lib.hid l5
                  have O5 := Lib.hid o5
                  clear l5 o5
                  go_wp2
                  go_roundw
                  case rel => exact ⟨j + 1, mxx S d.s, D.set k ((j : Int) + 1), by omega, by go_num, Lib.hid (by rw [rowTo_succ _ _ _ _ _ _ hjt, ← HSD.out, ← HD.out, HX.out]), Lib.hid (mxx_bd HBD.out.1 HBD.out.2 HBD2.out.1 HBD2.out.2), L5.out, O5.out, hb3⟩
                  case measure => simp [intOf]; omega

              | false =>
                have hit : hitB ck cf ct rep no k j d = true := by unfold hitB; rw [hst, hint, hkr]; rfl
                clear hint
                go_wp2_with fail
                refine (l2Interfere_any _ _ _ _ _ _ _ _ _ _ _).mono ?_
                rintro e w3 ⟨rfl, x3⟩
                have HX := Lib.hid (step_hit (S := S) (D := D) hit)
                have hbd2 := hit_seq hit HGR.out
                have HBD2 := Lib.hid hbd2
                clear hit hbd2
                rw [HI.out]
                have l3 := l2.ext x3
                have o3 := o2.ext x3
                have l4 := l3.put k ((j : Int) + 1) hbg hNg
                have o4 := o3.put g k (.int .i64 ((j : Int) + 1)) (by omega)
                obtain ⟨y0, hy0⟩ := l3.cellAt hlt
                have gf := l3.2.1.frozenAt k
                obtain ⟨⟨a0, a1⟩, z0, z1⟩ := l3.1
                obtain ⟨r0, r1, r2, r3, r4, r5, r6, r7, r8, r9⟩ := rr.ext x3
                have r84 : ((w3.setCell ⟨g, k, none⟩ (.int .i64 ((j : Int) + 1)))).cell? ⟨wp.heap.size, 8, none⟩ = some (.int .i64 d.s) := setc_other r8 (by omega)
                have a04 : ((w3.setCell ⟨g, k, none⟩ (.int .i64 ((j : Int) + 1)))).cell? ⟨b, 0, none⟩ = some (.int .i64 S) := l4.1.1.1
                have z04 : ((w3.setCell ⟨g, k, none⟩ (.int .i64 ((j : Int) + 1)))).frozen? ⟨b, 0, none⟩ = false := l4.1.2.1
                have L4 := Lib.hid l4
                have O4 := Lib.hid o4
                have hb3 : b < ((w3.setCell ⟨g, k, none⟩ (.int .i64 ((j : Int) + 1))).setCell ⟨b, 0, none⟩ (.int .i64 (mxx S d.s))).heap.size := by simp only [World.size_setCell]; exact Nat.lt_of_lt_of_le hb2 x3.size
                clear l3 o3 l4 o4 l2 o2 x3 rr q0 q1 q2 q3 q4 g0 g1 g2 g3 g4 g5 g6 g7 g8 g9
                go_wp2_with fail
                refine (l1Most_any _ _ _).mono ?_
                rintro e w' ⟨rfl, rfl⟩
                have l5 := L4.out.seq (mxx S d.s) hbg hNb hwb
                have o5 := O4.out.put b 0 (.int .i64 (mxx S d.s)) (by omega)
                have L5 := Lib.hid l5
                have O5 := Lib.hid o5
                clear l5 o5
                go_wp2
                go_roundw
                case rel => exact ⟨j + 1, mxx S d.s, D.set k ((j : Int) + 1), by omega, by go_num, Lib.hid (by rw [rowTo_succ _ _ _ _ _ _ hjt, ← HSD.out, ← HD.out, HX.out]), Lib.hid (mxx_bd HBD.out.1 HBD.out.2 HBD2.out.1 HBD2.out.2), L5.out, O5.out, hb3⟩
                case measure => simp [intOf]; omega

        · obtain rfl : j = R.length := by omega
          have LK := Lib.hid hL
          have OK := Lib.hid hO
          clear hL hO
          go_wp2
          go_roundw
          case rel => exact ⟨k + 1, S, D, by omega, by go_num, Lib.hid (by rw [tabTo_succ _ _ _ _ _ hlt, ← HSD0.out, ← HRR.out, ← HSD.out]), HBD, LK.out, OK.out, hbs⟩
          case measure => simp [intOf]; omega
    · obtain rfl : k = T.length := by omega
      obtain ⟨⟨a0, a1⟩, z0, z1⟩ := hL.1
      obtain ⟨⟨c0, c1⟩, y0, y1⟩ := hO
      have hS0 := HBD0.out.1
      have hS1 := HBD0.out.2
      have LK := Lib.hid hL
      have hsd : S0 = (attrSD n ck cf ct rep no T).1 ∧ D0 = (attrSD n ck cf ct rep no T).2 := by
        have h := HSD0.out
        unfold attrSD
        rw [← h]; exact ⟨rfl, rfl⟩
      have HSDD := Lib.hid hsd
      have hrb : ¬ b = w.heap.size + 1 + 1 := by omega
      have hrb' : ¬ w.heap.size + 1 + 1 = b := by omega
      have hd1 : D0.length = T.length := by have := LK.out.2.1.1; simpa using this
      have HD1 := Lib.hid hd1
      clear hL hsd hd1
      go_wp2
      rw [← HSDD.out.1, ← HSDD.out.2]
      refine bodyPost_ret (v := .agg #[.int .i64 (S0 + 1), .slice (some ⟨g, 0, none⟩) T.length cap]) (by simp [results, Try.results124, go_sem, c0, c1, hrb, hrb']) rfl ⟨_, rfl, ?_, ?_⟩
      · have h1 := own_set (own_set (own_set LK.out.2.1 b 0 (.int .i64 (S0 + 1)) (by omega)) (w.heap.size + 1 + 1) 0 (.int .i64 (S0 + 1)) (by omega)) (w.heap.size + 1 + 1) 1 (.slice (some ⟨g, 0, none⟩) T.length cap) (by omega)
        unfold Fresh
        rw [HD1.out]
        exact h1
      · exact ((LK.out.2.2.2.setc hwb).setc (by dsimp only; omega)).setc (by dsimp only; omega)

end Go.Proofs.Ythnoeknalpnadaa

namespace Go.Proofs.Ythnoeknalpnadaa
open Go.RowKit
set_option linter.unusedVariables false

set_option maxHeartbeats 4000000 in
set_option maxRecDepth 100000 in
theorem specAttrFor_any (n : Int) (u : Value) (T : List (List RowD)) (ck ci cf ct ca rep no : Int) (w : World) (hu : Rowzz w u T) :
    Calls Try.prog 57 #[.agg #[.int .i64 n, u], .agg #[.int .i64 ck, .int .i64 ci, .int .i64 cf, .int .i64 ct, .int .i64 ca], .int .i64 rep, .int .i64 no] w (TwoAttr (attrS n T ck ci cf ct ca rep no) (attrL n T ck ci cf ct ca rep no) (okA n T ck ci cf ct ca rep no) w) := by
  obtain ⟨wb, hwb⟩ : ∃ wb, wb = ((w.alloc (.cells #[.int .i64 n, u] 24)).alloc (.cells #[.int .i64 ck, .int .i64 ci, .int .i64 cf, .int .i64 ct, .int .i64 ca] 36)).alloc (.cells #[.int .i64 0, .slice none 0 0] 39) := ⟨_, rfl⟩
  have ho := three_boxes w n u 24 36 39 ck ci cf ct ca
  rw [← hwb] at ho
  have xb : Ext w wb := by rw [hwb]; exact Ext.alloc3 _ _ _ _
  have sb : wb.heap.size = w.heap.size + 3 := by rw [hwb]; exact size3 _ _ _ _
  have HWB := Lib.hid hwb
  have HO := Lib.hid ho
  have SB := Lib.hid sb
  have HU := Lib.hid (hu.ext xb)
  obtain ⟨t0, t1⟩ := ho.1
  rw [hwb] at t0 t1
  clear hwb ho sb hu
  cases hk : (goodTab n T && instB n rep no) with
  | false =>
    have e : okA n T ck ci cf ct ca rep no = false := by unfold okA; rw [hk]; rfl
    rw [(attr_no e).1, (attr_no e).2, e]
    have HK := Lib.hid hk
    clear hk e
    go_enter Try.func57, Try.ntmps57
    go_wp2_with fail
    rw [← HWB.out]
    refine (l4Asked_any _ _ T _ _ _ HU.out).mono ?_
    rintro e w1 ⟨rfl, x1⟩
    have hx := xb.trans x1
    obtain ⟨⟨c0, c1⟩, z0, z1⟩ := HO.out.2.2.ext x1
    clear x1 xb t0 t1
    rw [HK.out]
    go_wp2
    refine bodyPost_ret (v := .tuple #[.agg #[.int .i64 0, .slice none 0 0], .bool false]) (by simp [results, Try.results57, go_sem, c0, c1]) rfl ⟨_, rfl, fresh_nil _ _, ?_⟩
    exact (hx.setc (by dsimp only; omega)).setc (by dsimp only; omega)
  | true =>
    have hkk : goodTab n T = true ∧ instB n rep no = true := by simpa using hk
    cases hc : goodB ck ci cf ct ca with
    | false =>
      have e : okA n T ck ci cf ct ca rep no = false := by unfold okA; rw [hk, hc]; rfl
      rw [(attr_no e).1, (attr_no e).2, e]
      have HK := Lib.hid hk
      have HC := Lib.hid hc
      clear hk e hc hkk
      go_enter Try.func57, Try.ntmps57
      go_wp2_with fail
      rw [← HWB.out]
      refine (l4Asked_any _ _ T _ _ _ HU.out).mono ?_
      rintro e w1 ⟨rfl, x1⟩
      obtain ⟨q0, q1, q2, q3, q4⟩ := HO.out.2.1.ext x1
      rw [HK.out]
      go_wp2_with fail
      refine (specGood_any _ _ _ _ _ _).mono ?_
      rintro e w2 ⟨rfl, x2⟩
      have hx := (xb.trans x1).trans x2
      obtain ⟨⟨c0, c1⟩, z0, z1⟩ := HO.out.2.2.ext (x1.trans x2)
      clear x1 x2 xb t0 t1 q0 q1 q2 q3 q4
      rw [HC.out]
      go_wp2
      refine bodyPost_ret (v := .tuple #[.agg #[.int .i64 0, .slice none 0 0], .bool false]) (by simp [results, Try.results57, go_sem, c0, c1]) rfl ⟨_, rfl, fresh_nil _ _, ?_⟩
      exact (hx.setc (by dsimp only; omega)).setc (by dsimp only; omega)
    | true =>
      obtain ⟨S, hS⟩ : ∃ S, S = (attrSD n ck cf ct rep no T).1 + 1 := ⟨_, rfl⟩
      obtain ⟨D, hD⟩ : ∃ D, D = (attrSD n ck cf ct rep no T).2 := ⟨_, rfl⟩
      have hcc : ∀ W, Rowzz W u T → Calls Try.prog 124 #[.agg #[.int .i64 n, u], .agg #[.int .i64 ck, .int .i64 ci, .int .i64 cf, .int .i64 ct, .int .i64 ca], .int .i64 rep, .int .i64 no] W (NewAttr S D W) := fun W h => by rw [hS, hD]; exact l4Attr_any n u T ck ci cf ct ca rep no W h hkk.1
      have HCC := Lib.hid hcc
      have HK := Lib.hid hk
      have HC := Lib.hid hc
      by_cases h9 : S ≤ 999
      · have e : okA n T ck ci cf ct ca rep no = true := by unfold okA; rw [hk, hc, ← hS]; simp [h9]
        rw [(attr_yes e).1, (attr_yes e).2, e, ← hS, ← hD]
        clear hk e hc hkk hS hD hcc
        go_enter Try.func57, Try.ntmps57
        go_wp2_with fail
        rw [← HWB.out]
        refine (l4Asked_any _ _ T _ _ _ HU.out).mono ?_
        rintro e w1 ⟨rfl, x1⟩
        obtain ⟨q0, q1, q2, q3, q4⟩ := HO.out.2.1.ext x1
        rw [HK.out]
        go_wp2_with fail
        refine (specGood_any _ _ _ _ _ _).mono ?_
        rintro e w2 ⟨rfl, x2⟩
        clear q0 q1 q2 q3 q4 t0 t1
        obtain ⟨q0, q1, q2, q3, q4⟩ := HO.out.2.1.ext (x1.trans x2)
        obtain ⟨t0, t1⟩ := HO.out.1.ext (x1.trans x2)
        rw [HC.out]
        go_wp2_with fail
        refine (HCC.out _ (HU.out.ext (x1.trans x2))).mono ?_
        rintro e w3 ⟨v, rfl, f3, x3⟩
        obtain ⟨av, cv, rfl⟩ := f3.form
        have x123 := (x1.trans x2).trans x3
        have hx := xb.trans x123
        obtain ⟨⟨c0, c1⟩, z0, z1⟩ := (HO.out.2.2.ext x123).ext (Ext.alloc1 w3 (.cells #[.int .i64 S, .slice av D.length cv] 39))
        have hs3 := (x1.trans x2).size
        have F := Lib.hid ((f3.more (B' := wb.heap.size) hs3).ext (Ext.alloc1 w3 (.cells #[.int .i64 S, .slice av D.length cv] 39)))
        have HX := Lib.hid (hx.alloc (.cells #[.int .i64 S, .slice av D.length cv] 39))
        clear f3 x1 x2 x3 x123 hx hs3 xb t0 t1 q0 q1 q2 q3 q4
        go_wp2
        refine bodyPost_ret (v := .tuple #[.agg #[.int .i64 S, .slice av D.length cv], .bool true]) (by simp [results, Try.results57, go_sem, c0, c1]) rfl ⟨_, rfl, ?_, ?_⟩
        · exact ((F.out.set _ _ _ (by have := SB.out; omega)).set _ _ _ (by have := SB.out; omega)).more (by have := SB.out; omega)
        · exact (HX.out.setc (by dsimp only; omega)).setc (by dsimp only; omega)
      · have e : okA n T ck ci cf ct ca rep no = false := by unfold okA; rw [hk, hc, ← hS]; simp; omega
        rw [(attr_no e).1, (attr_no e).2, e]
        have h9' : 999 < S := by omega
        clear hk e hc hkk hS hD hcc h9
        go_enter Try.func57, Try.ntmps57
        go_wp2_with fail
        rw [← HWB.out]
        refine (l4Asked_any _ _ T _ _ _ HU.out).mono ?_
        rintro e w1 ⟨rfl, x1⟩
        obtain ⟨q0, q1, q2, q3, q4⟩ := HO.out.2.1.ext x1
        rw [HK.out]
        go_wp2_with fail
        refine (specGood_any _ _ _ _ _ _).mono ?_
        rintro e w2 ⟨rfl, x2⟩
        clear q0 q1 q2 q3 q4 t0 t1
        obtain ⟨q0, q1, q2, q3, q4⟩ := HO.out.2.1.ext (x1.trans x2)
        obtain ⟨t0, t1⟩ := HO.out.1.ext (x1.trans x2)
        rw [HC.out]
        go_wp2_with fail
        refine (HCC.out _ (HU.out.ext (x1.trans x2))).mono ?_
        rintro e w3 ⟨v, rfl, f3, x3⟩
        obtain ⟨av, cv, rfl⟩ := f3.form
        have x123 := (x1.trans x2).trans x3
        have hx := xb.trans x123
        obtain ⟨⟨c0, c1⟩, z0, z1⟩ := (HO.out.2.2.ext x123).ext (Ext.alloc1 w3 (.cells #[.int .i64 S, .slice av D.length cv] 39))
        have HX := Lib.hid (hx.alloc (.cells #[.int .i64 S, .slice av D.length cv] 39))
        clear f3 x1 x2 x3 x123 hx xb t0 t1 q0 q1 q2 q3 q4
        go_wp2
        refine bodyPost_ret (v := .tuple #[.agg #[.int .i64 0, .slice none 0 0], .bool false]) (by simp [results, Try.results57, go_sem, c0, c1]) rfl ⟨_, rfl, fresh_nil _ _, ?_⟩
        exact (HX.out.setc (by dsimp only; omega)).setc (by dsimp only; omega)

end Go.Proofs.Ythnoeknalpnadaa

namespace Go.Proofs.Ythnoeknalpnadaa
open Go.RowKit
set_option linter.unusedVariables false

theorem interL_comm (l r : List Int) : interL l r = interL r l := by
  unfold interL hasI
  rw [Bool.eq_iff_iff, List.any_eq_true, List.any_eq_true]
  constructor
  · rintro ⟨x, hx, h⟩
    obtain ⟨y, hy, e⟩ := List.any_eq_true.1 h
    have : y = x := by simpa using e
    subst this
    exact ⟨y, hy, List.any_eq_true.2 ⟨y, hx, by simp⟩⟩
  · rintro ⟨x, hx, h⟩
    obtain ⟨y, hy, e⟩ := List.any_eq_true.1 h
    have : y = x := by simpa using e
    subst this
    exact ⟨y, hy, List.any_eq_true.2 ⟨y, hx, by simp⟩⟩
theorem interB_comm (k f t k' f' t' : Int) : interB k f t k' f' t' = interB k' f' t' k f t := interL_comm _ _
theorem goodRow_cmd {n : Int} {r : RowD} (h : goodRow n r = true) : goodB r.k r.i r.f r.t r.a = true ∧ ((r.st == 0) = true → r.k = 0) := by
  unfold goodRow at h
  simp only [Bool.and_eq_true] at h
  have h2 := h.2
  split at h2
  · unfold emptyB zeroC at h2
    simp only [Bool.and_eq_true, beq_iff_eq] at h2
    obtain ⟨⟨_, e0, e1, e2, e3, e4⟩, _⟩ := h2
    rw [e0, e1, e2, e3, e4]
    exact ⟨rfl, fun _ => rfl⟩
  · rename_i hst
    unfold fullB at h2
    simp only [Bool.and_eq_true] at h2
    exact ⟨h2.1, fun h => absurd h (by simpa using hst)⟩
theorem hit_impl {n : Int} {r : RowD} (h : goodRow n r = true) (ck cf ct rep no : Int) (k i : Nat) : hitB ck cf ct rep no k i r = (interB r.k r.f r.t ck cf ct && !(((k : Int) == rep) && ((i : Int) + 1 == no))) := by
  unfold hitB
  rw [interB_comm r.k r.f r.t ck cf ct]
  cases hst : (r.st == 0) with
  | false => rfl
  | true =>
    have hk := (goodRow_cmd h).2 hst
    have : interB ck cf ct r.k r.f r.t = false := by
      rw [interB_comm, hk]
      unfold interB
      rw [touchesL_else _ _ rfl rfl]
      rfl
    rw [this]; rfl

set_option maxHeartbeats 8000000 in
set_option maxRecDepth 100000 in
theorem implAttrFor_good (n : Int) (u : Value) (T : List (List RowD)) (ck ci cf ct ca rep no : Int) (w : World) (hu : Rowzz w u T) (hs : bulkT T ≤ 1099511627776) (hg : goodTab n T = true) (hi : instB n rep no = true) (hc : goodB ck ci cf ct ca = true) :
    Calls Try.prog 59 #[.agg #[.int .i64 n, u], .agg #[.int .i64 ck, .int .i64 ci, .int .i64 cf, .int .i64 ct, .int .i64 ca], .int .i64 rep, .int .i64 no] w (TwoAttr (attrS n T ck ci cf ct ca rep no) (attrL n T ck ci cf ct ca rep no) (okA n T ck ci cf ct ca rep no) w) := by
  have hu0 := hu
  obtain ⟨au, cu, rfl, hlu, _, hcu⟩ := hu
  unfold maxLen at hlu
  obtain ⟨hgrp, hlen, hrows⟩ := goodTab_of hg
  have hgb := isGrp_bd hgrp
  have hnl := noneL_tab hg
  have hok : okA n T ck ci cf ct ca rep no = decide ((attrSD n ck cf ct rep no T).1 + 1 ≤ 999) := by unfold okA; rw [hg, hi, hc]; rfl
  obtain ⟨wb, hwb⟩ : ∃ wb, wb = ((w.alloc (.cells #[.int .i64 n, .slice au T.length cu] 24)).alloc (.cells #[.int .i64 ck, .int .i64 ci, .int .i64 cf, .int .i64 ct, .int .i64 ca] 36)).alloc (.cells #[.int .i64 0, .slice none 0 0] 39) := ⟨_, rfl⟩
  have ho := three_boxes w n (.slice au T.length cu) 24 36 39 ck ci cf ct ca
  rw [← hwb] at ho
  have xb : Ext w wb := by rw [hwb]; exact Ext.alloc3 _ _ _ _
  have sb : wb.heap.size = w.heap.size + 3 := by rw [hwb]; exact size3 _ _ _ _
  have HU := Lib.hid (hu0.ext xb)
  have HS := Lib.hid hs
  have HG := Lib.hid hg
  have HI := Lib.hid hi
  have HC := Lib.hid hc
  have HOK := Lib.hid hok
  have HWB := Lib.hid hwb
  have HO := Lib.hid ho
  have SB := Lib.hid sb
  have HGRP := Lib.hid hgrp
  have HNL := Lib.hid hnl
  have HR := Lib.hid hrows
  have hT3 : 3 ≤ T.length := by omega
  have hT5 : T.length ≤ 5 := by omega
  obtain ⟨t0, t1⟩ := ho.1
  rw [hwb] at t0 t1
  clear hwb ho sb hgrp hnl hrows hg hgb hlen hs hi hc hu0 hok
  go_enter Try.func59, Try.ntmps59
  go_wp2_with fail
  rw [← HWB.out]
  refine (implGoodTable_any _ _ T _ HU.out HS.out).mono ?_
  rintro e wA ⟨rfl, xA⟩
  clear t0 t1
  obtain ⟨q0, q1, q2, q3, q4⟩ := HO.out.2.1.ext xA
  rw [HG.out]
  go_wp2_with fail
  refine (implGood_any _ _ _ _ _ _).mono ?_
  rintro e wC ⟨rfl, xC⟩
  clear q0 q1 q2 q3 q4
  have xAC := xA.trans xC
  obtain ⟨t0, t1⟩ := HO.out.1.ext xAC
  rw [HC.out]
  go_wp2_with fail
  refine (isInstance_any _ _ _ _ HGRP.out).mono ?_
  rintro e w' ⟨rfl, rfl⟩
  rw [HI.out]
  go_wp2_with fail
  refine (joinNone_any n _ HGRP.out).mono ?_
  rintro e w1 ⟨v0, rfl, f1, xJ⟩
  have x1 := xAC.trans xJ
  have hAC := xAC.size
  obtain ⟨g, cap, hv0, hgB⟩ := f1.head (by rw [HNL.out]; omega)
  rw [HNL.out] at hv0
  subst hv0
  have fr : w1.ownsRow w.heap.size 3 1 (.slice (some ⟨g, 0, none⟩) T.length cap) T.length ((noneL n).map (Value.int .i64)) := by
    have := f1.more (B' := w.heap.size) (by have := SB.out; omega)
    unfold Fresh at this
    rw [HNL.out] at this
    exact this
  have hgw : g < w1.heap.size := (World.ownsRow.lt f1 g rfl).2
  have hg3 : w.heap.size + 3 ≤ g := by have := SB.out; omega
  have hw1 : w.heap.size + 3 ≤ w1.heap.size := by omega
  clear t0 t1
  obtain ⟨t0, t1⟩ := HO.out.1.ext (x1.trans (Ext.alloc1 w1 (.cells #[.int .i64 0, .slice (some ⟨g, 0, none⟩) T.length cap] 39)))
  have hlive : LiveA w (w1.alloc (.cells #[.int .i64 0, .slice (some ⟨g, 0, none⟩) T.length cap] 39)) w1.heap.size g cap T.length (w.heap.size + 1) ck ci cf ct ca 0 (noneL n) :=
    ⟨openAt_new _ _ _ _, (Ext.alloc1 w1 _).ownsRow fr, (HO.out.2.1.ext x1).ext (Ext.alloc1 _ _), (xb.trans x1).alloc _⟩
  have hres : OpenAt (w1.alloc (.cells #[.int .i64 0, .slice (some ⟨g, 0, none⟩) T.length cap] 39)) (w.heap.size + 1 + 1) 0 (.slice none 0 0) := (HO.out.2.2.ext x1).ext (Ext.alloc1 _ _)
  have LIVE := Lib.hid hlive
  have HRES := Lib.hid hres
  have hbs : w1.heap.size < (w1.alloc (.cells #[.int .i64 0, .slice (some ⟨g, 0, none⟩) T.length cap] 39)).heap.size := by simp
  have HBS := Lib.hid hbs
  obtain ⟨b, hb⟩ : ∃ b, b = w1.heap.size := ⟨_, rfl⟩
  rw [← hb] at hgw hw1 LIVE HBS
  have hbg : ¬ b = g := by omega
  have hgb' : ¬ g = b := by omega
  have X1 := Lib.hid x1
  have HBE := Lib.hid hb
  clear f1 x1 fr xb hlive hres hbs hb xA xC xAC xJ hAC
  go_wp2
  rw [← HBE.out]
  have hNg : ¬ w.heap.size + 1 = g := by omega
  have hNb : ¬ w.heap.size + 1 = b := by omega
  have hwb : w.heap.size ≤ b := by omega
  go_loopw [41] (fun i wr => ∃ (k : Nat) (S : Int) (D : List Int), k ≤ T.length ∧ i = .int .i64 k ∧ Hid ((S, D) = tabTo ck cf ct rep no T k (0, noneL n)) ∧ Hid (0 ≤ S ∧ S ≤ 999) ∧ LiveA w wr b g cap T.length (w.heap.size + 1) ck ci cf ct ca S D ∧ OpenAt wr (w.heap.size + 1 + 1) 0 (.slice none 0 0) ∧ b < wr.heap.size) (fun i _ => T.length - (intOf i).toNat)
  case atStart =>
    have hl := LIVE.out
    have hr := HRES.out
    have hs := HBS.out
    exact ⟨0, 0, noneL n, Nat.zero_le _, rfl, Lib.hid rfl, Lib.hid (by omega), hl, hr, hs⟩
  case round =>
    obtain ⟨k, S0, D0, hk, rfl, HSD0, HBD0, hL, hO, hbs⟩ := hrel
    by_cases hlt : k < T.length
    · obtain ⟨bu, ou, rfl, du⟩ := hcu (by omega)
      obtain ⟨x, hx1, ix⟩ := du k hlt
      have gu := hL.2.2.2.cell hx1
      obtain ⟨R, hR⟩ : ∃ R, R = T[k] := ⟨_, rfl⟩
      rw [← hR] at ix
      have hgr : ∀ r ∈ R, goodRow n r = true := by rw [hR]; exact (HR.out _ (List.getElem_mem hlt)).2
      have hl6 : R.length ≤ 6 := by rw [hR]; exact (HR.out _ (List.getElem_mem hlt)).1
      obtain ⟨ax, cx, rfl, hlx, _, hcx⟩ := ix
      unfold maxLen at hlx
      have HRR := Lib.hid hR
      have HGRS := Lib.hid hgr
      have LK := Lib.hid hL
      have OK := Lib.hid hO
      clear hcu du hx1 hR hgr hL hO
      go_wp2
      go_loopw [48] (fun i wr => ∃ (j : Nat) (S : Int) (D : List Int), j ≤ R.length ∧ i = .int .i64 j ∧ Hid ((S, D) = rowTo ck cf ct rep no k R j (S0, D0)) ∧ Hid (0 ≤ S ∧ S ≤ 999) ∧ LiveA w wr b g cap T.length (w.heap.size + 1) ck ci cf ct ca S D ∧ OpenAt wr (w.heap.size + 1 + 1) 0 (.slice none 0 0) ∧ b < wr.heap.size) (fun i _ => R.length - (intOf i).toNat)
      case atStart =>
        have hl := LK.out
        have hr := OK.out
        exact ⟨0, S0, D0, Nat.zero_le _, rfl, Lib.hid rfl, HBD0, hl, hr, hbs⟩
      case round =>
        clear hbs gu LK OK
        obtain ⟨j, S, D, hj, rfl, HSD, HBD, hL, hO, hbs⟩ := hrel
        by_cases hjt : j < R.length
        · obtain ⟨bx, ox, rfl, dx⟩ := hcx (by omega)
          obtain ⟨y, hy1, iy⟩ := dx j hjt
          obtain ⟨d, hd⟩ : ∃ d, d = R[j] := ⟨_, rfl⟩
          rw [← hd] at hy1 iy
          have gy := hy1.ext hL.2.2.2
          obtain ⟨ay, cy, rfl, _⟩ := iy.ext hL.2.2.2
          have hgd : goodRow n d = true := by rw [hd]; exact HGRS.out _ (List.getElem_mem hjt)
          have HGR := Lib.hid hgd
          have HD := Lib.hid hd
          have hcd := (goodRow_cmd hgd).1
          have hci : ∀ W, Calls Try.prog 126 #[.agg #[.int .i64 d.k, .int .i64 d.i, .int .i64 d.f, .int .i64 d.t, .int .i64 d.a], .agg #[.int .i64 ck, .int .i64 ci, .int .i64 cf, .int .i64 ct, .int .i64 ca]] W (TwoB (interB d.k d.f d.t ck cf ct) true W) := fun W => by
            have h := implInterfere_any d.k d.i d.f d.t d.a ck ci cf ct ca W
            rw [hcd, HC.out] at h
            simpa using h
          have HCI := Lib.hid hci
          have hhit := hit_impl hgd ck cf ct rep no k j
          obtain ⟨wp, hwp⟩ : ∃ wp : World, wp = wr := ⟨_, rfl⟩
          subst hwp
          have l2 := hL.ext (Ext.alloc1 wp (.cells #[.int .i64 d.b, .int .i64 d.v, .int .i64 d.st, .int .i64 d.k, .int .i64 d.i, .int .i64 d.f, .int .i64 d.t, .int .i64 d.a, .int .i64 d.s, .slice ay d.l.length cy] 71))
          have o2 := hO.ext (Ext.alloc1 wp (.cells #[.int .i64 d.b, .int .i64 d.v, .int .i64 d.st, .int .i64 d.k, .int .i64 d.i, .int .i64 d.f, .int .i64 d.t, .int .i64 d.a, .int .i64 d.s, .slice ay d.l.length cy] 71))
          have rr := rowAt_new wp 71 d (.slice ay d.l.length cy)
          have hgs : g < wp.heap.size := by omega
          have hb2 : b < (wp.alloc (.cells #[.int .i64 d.b, .int .i64 d.v, .int .i64 d.st, .int .i64 d.k, .int .i64 d.i, .int .i64 d.f, .int .i64 d.t, .int .i64 d.a, .int .i64 d.s, .slice ay d.l.length cy] 71)).heap.size := by simp; omega
          obtain ⟨q0, q1, q2, q3, q4⟩ := l2.2.2.1
          obtain ⟨g0, g1, g2, g3, g4, g5, g6, g7, g8, g9⟩ := gy
          clear hcx dx hy1 iy hd hL hO hgd hcd hci
          cases hint : interB d.k d.f d.t ck cf ct with
          | false =>
            have HI2 := Lib.hid hint
            cases hkr : ((k : Int) == rep) with
            | true =>
              cases hin : ((j : Int) + 1 == no) with
              | true =>
                have hit : hitB ck cf ct rep no k j d = false := by rw [hhit, hint, hkr, hin]; rfl
                clear hint hhit
                go_wp2_with fail
                refine (HCI.out _).mono ?_
                rintro e w3 ⟨rfl, x3⟩
                have HX := Lib.hid (step_miss (S := S) (D := D) hit)
                rw [HI2.out]
                have l3 := l2.ext x3
                have o3 := o2.ext x3
                have L3 := Lib.hid l3
                have O3 := Lib.hid o3
                have hb3 := Nat.lt_of_lt_of_le hb2 x3.size
                clear hit l3 o3 l2 o2 x3 rr q0 q1 q2 q3 q4 g0 g1 g2 g3 g4 g5 g6 g7 g8 g9
                go_wp2
                go_roundw
                case rel => exact ⟨j + 1, S, D, by omega, by go_num, Lib.hid (by rw [rowTo_succ _ _ _ _ _ _ hjt, ← HSD.out, ← HD.out, HX.out]), HBD, L3.out, O3.out, hb3⟩
                case measure => simp [intOf]; omega

              | false =>
                have hit : hitB ck cf ct rep no k j d = false := by rw [hhit, hint, hkr, hin]; rfl
                clear hint hhit
                go_wp2_with fail
                refine (HCI.out _).mono ?_
                rintro e w3 ⟨rfl, x3⟩
                have HX := Lib.hid (step_miss (S := S) (D := D) hit)
                rw [HI2.out]
                have l3 := l2.ext x3
                have o3 := o2.ext x3
                have L3 := Lib.hid l3
                have O3 := Lib.hid o3
                have hb3 := Nat.lt_of_lt_of_le hb2 x3.size
                clear hit l3 o3 l2 o2 x3 rr q0 q1 q2 q3 q4 g0 g1 g2 g3 g4 g5 g6 g7 g8 g9
                go_wp2
                go_roundw
                case rel => exact ⟨j + 1, S, D, by omega, by go_num, Lib.hid (by rw [rowTo_succ _ _ _ _ _ _ hjt, ← HSD.out, ← HD.out, HX.out]), HBD, L3.out, O3.out, hb3⟩
                case measure => simp [intOf]; omega

            | false =>
              have hit : hitB ck cf ct rep no k j d = false := by rw [hhit, hint, hkr]; rfl
              clear hint hhit
              go_wp2_with fail
              refine (HCI.out _).mono ?_
              rintro e w3 ⟨rfl, x3⟩
              have HX := Lib.hid (step_miss (S := S) (D := D) hit)
              rw [HI2.out]
              have l3 := l2.ext x3
              have o3 := o2.ext x3
              have L3 := Lib.hid l3
              have O3 := Lib.hid o3
              have hb3 := Nat.lt_of_lt_of_le hb2 x3.size
              clear hit l3 o3 l2 o2 x3 rr q0 q1 q2 q3 q4 g0 g1 g2 g3 g4 g5 g6 g7 g8 g9
              go_wp2
              go_roundw
              case rel => exact ⟨j + 1, S, D, by omega, by go_num, Lib.hid (by rw [rowTo_succ _ _ _ _ _ _ hjt, ← HSD.out, ← HD.out, HX.out]), HBD, L3.out, O3.out, hb3⟩
              case measure => simp [intOf]; omega

          | true =>
            have HI2 := Lib.hid hint
            cases hkr : ((k : Int) == rep) with
            | true =>
              cases hin : ((j : Int) + 1 == no) with
              | true =>
                have hit : hitB ck cf ct rep no k j d = false := by rw [hhit, hint, hkr, hin]; rfl
                clear hint hhit
                go_wp2_with fail
                refine (HCI.out _).mono ?_
                rintro e w3 ⟨rfl, x3⟩
                have HX := Lib.hid (step_miss (S := S) (D := D) hit)
                rw [HI2.out]
                have l3 := l2.ext x3
                have o3 := o2.ext x3
                have L3 := Lib.hid l3
                have O3 := Lib.hid o3
                have hb3 := Nat.lt_of_lt_of_le hb2 x3.size
                clear hit l3 o3 l2 o2 x3 rr q0 q1 q2 q3 q4 g0 g1 g2 g3 g4 g5 g6 g7 g8 g9
                go_wp2
                go_roundw
                case rel => exact ⟨j + 1, S, D, by omega, by go_num, Lib.hid (by rw [rowTo_succ _ _ _ _ _ _ hjt, ← HSD.out, ← HD.out, HX.out]), HBD, L3.out, O3.out, hb3⟩
                case measure => simp [intOf]; omega

              | false =>
                have hit : hitB ck cf ct rep no k j d = true := by rw [hhit, hint, hkr, hin]; rfl
                clear hint hhit
                go_wp2_with fail
                refine (HCI.out _).mono ?_
                rintro e w3 ⟨rfl, x3⟩
                have HX := Lib.hid (step_hit (S := S) (D := D) hit)
                have hbd2 := hit_seq hit HGR.out
                have HBD2 := Lib.hid hbd2
                rw [HI2.out]
                have hmx : ∀ (ts : Array TypeId) (T' : TypeId) (W : World), (Builtin.max_ ts T' #[.int .i64 S, .int .i64 d.s]).run Try.prog W = .ok (.int .i64 (mxx S d.s)) W := fun ts T' W => by simp only [run_max_int2]; rfl
                have l3 := l2.ext x3
                have o3 := o2.ext x3
                have l4 := l3.seq (mxx S d.s) hbg hNb hwb
                have o4 := o3.put b 0 (.int .i64 (mxx S d.s)) (by omega)
                obtain ⟨y0, hy0⟩ := l4.cellAt hlt
                have gf := l4.2.1.frozenAt k
                obtain ⟨⟨a0, a1⟩, z0, z1⟩ := l3.1
                have a14 := l4.1.1.2
                obtain ⟨r0, r1, r2, r3, r4, r5, r6, r7, r8, r9⟩ := rr.ext x3
                have l5 := l4.put k ((j : Int) + 1) hbg hNg
                have o5 := o4.put g k (.int .i64 ((j : Int) + 1)) (by omega)
                have L5 := Lib.hid l5
                have O5 := Lib.hid o5
                have hb3 : b < ((w3.setCell ⟨b, 0, none⟩ (.int .i64 (mxx S d.s))).setCell ⟨g, k, none⟩ (.int .i64 ((j : Int) + 1))).heap.size := by simp only [World.size_setCell]; exact Nat.lt_of_lt_of_le hb2 x3.size
                clear hit hbd2 l3 o3 l4 o4 l5 o5 l2 o2 x3 rr q0 q1 q2 q3 q4 g0 g1 g2 g3 g4 g5 g6 g7 g8 g9
                go_wp2
                go_roundw
                case rel => exact ⟨j + 1, mxx S d.s, D.set k ((j : Int) + 1), by omega, by go_num, Lib.hid (by rw [rowTo_succ _ _ _ _ _ _ hjt, ← HSD.out, ← HD.out, HX.out]), Lib.hid (mxx_bd HBD.out.1 HBD.out.2 HBD2.out.1 HBD2.out.2), L5.out, O5.out, hb3⟩
                case measure => simp [intOf]; omega

            | false =>
              have hit : hitB ck cf ct rep no k j d = true := by rw [hhit, hint, hkr]; rfl
              clear hint hhit
              go_wp2_with fail
              refine (HCI.out _).mono ?_
              rintro e w3 ⟨rfl, x3⟩
              have HX := Lib.hid (step_hit (S := S) (D := D) hit)
              have hbd2 := hit_seq hit HGR.out
              have HBD2 := Lib.hid hbd2
              rw [HI2.out]
              have hmx : ∀ (ts : Array TypeId) (T' : TypeId) (W : World), (Builtin.max_ ts T' #[.int .i64 S, .int .i64 d.s]).run Try.prog W = .ok (.int .i64 (mxx S d.s)) W := fun ts T' W => by simp only [run_max_int2]; rfl
              have l3 := l2.ext x3
              have o3 := o2.ext x3
              have l4 := l3.seq (mxx S d.s) hbg hNb hwb
              have o4 := o3.put b 0 (.int .i64 (mxx S d.s)) (by omega)
              obtain ⟨y0, hy0⟩ := l4.cellAt hlt
              have gf := l4.2.1.frozenAt k
              obtain ⟨⟨a0, a1⟩, z0, z1⟩ := l3.1
              have a14 := l4.1.1.2
              obtain ⟨r0, r1, r2, r3, r4, r5, r6, r7, r8, r9⟩ := rr.ext x3
              have l5 := l4.put k ((j : Int) + 1) hbg hNg
              have o5 := o4.put g k (.int .i64 ((j : Int) + 1)) (by omega)
              have L5 := Lib.hid l5
              have O5 := Lib.hid o5
              have hb3 : b < ((w3.setCell ⟨b, 0, none⟩ (.int .i64 (mxx S d.s))).setCell ⟨g, k, none⟩ (.int .i64 ((j : Int) + 1))).heap.size := by simp only [World.size_setCell]; exact Nat.lt_of_lt_of_le hb2 x3.size
              clear hit hbd2 l3 o3 l4 o4 l5 o5 l2 o2 x3 rr q0 q1 q2 q3 q4 g0 g1 g2 g3 g4 g5 g6 g7 g8 g9
              go_wp2
              go_roundw
              case rel => exact ⟨j + 1, mxx S d.s, D.set k ((j : Int) + 1), by omega, by go_num, Lib.hid (by rw [rowTo_succ _ _ _ _ _ _ hjt, ← HSD.out, ← HD.out, HX.out]), Lib.hid (mxx_bd HBD.out.1 HBD.out.2 HBD2.out.1 HBD2.out.2), L5.out, O5.out, hb3⟩
              case measure => simp [intOf]; omega

        · obtain rfl : j = R.length := by omega
          have LK := Lib.hid hL
          have OK := Lib.hid hO
          clear hL hO
          go_wp2
          go_roundw
          case rel => exact ⟨k + 1, S, D, by omega, by go_num, Lib.hid (by rw [tabTo_succ _ _ _ _ _ hlt, ← HSD0.out, ← HRR.out, ← HSD.out]), HBD, LK.out, OK.out, hbs⟩
          case measure => simp [intOf]; omega
    · obtain rfl : k = T.length := by omega
      obtain ⟨⟨a0, a1⟩, z0, z1⟩ := hL.1
      obtain ⟨⟨c0, c1⟩, y0, y1⟩ := hO
      have hS0 := HBD0.out.1
      have hS1 := HBD0.out.2
      have LK := Lib.hid hL
      have hsd : S0 = (attrSD n ck cf ct rep no T).1 ∧ D0 = (attrSD n ck cf ct rep no T).2 := by
        have h := HSD0.out
        unfold attrSD
        rw [← h]; exact ⟨rfl, rfl⟩
      have HSDD := Lib.hid hsd
      have hrb : ¬ b = w.heap.size + 1 + 1 := by omega
      have hrb' : ¬ w.heap.size + 1 + 1 = b := by omega
      have hd1 : D0.length = T.length := by have := LK.out.2.1.1; simpa using this
      have HD1 := Lib.hid hd1
      by_cases h9 : S0 = 999
      · have e9 : (S0 == 999) = true := by simp [h9]
        have ek : okA n T ck ci cf ct ca rep no = false := by rw [HOK.out, ← hsd.1, h9]; rfl
        have EK := Lib.hid (And.intro ek (attr_no ek))
        clear hL hsd hd1 h9 ek
        go_wp2
        rw [EK.out.1, EK.out.2.1, EK.out.2.2]
        refine bodyPost_ret (v := .tuple #[.agg #[.int .i64 0, .slice none 0 0], .bool false]) (by simp [results, Try.results59, go_sem, c0, c1, hrb, hrb']) rfl ⟨_, rfl, fresh_nil _ _, ?_⟩
        exact (LK.out.2.2.2.setc (by dsimp only; omega)).setc (by dsimp only; omega)
      · have e9 : (S0 == 999) = false := by simp [h9]
        have ek : okA n T ck ci cf ct ca rep no = true := by rw [HOK.out, ← hsd.1]; simp; omega
        have EK := Lib.hid (And.intro ek (attr_yes ek))
        have hS9 : S0 + 1 ≤ 999 := by omega
        clear hL hsd hd1 h9 ek
        go_wp2
        rw [EK.out.1, EK.out.2.1, EK.out.2.2, ← HSDD.out.1, ← HSDD.out.2]
        refine bodyPost_ret (v := .tuple #[.agg #[.int .i64 (S0 + 1), .slice (some ⟨g, 0, none⟩) T.length cap], .bool true]) (by simp [results, Try.results59, go_sem, c0, c1, hrb, hrb']) rfl ⟨_, rfl, ?_, ?_⟩
        · have h1 := own_set (own_set (own_set LK.out.2.1 b 0 (.int .i64 (S0 + 1)) (by omega)) (w.heap.size + 1 + 1) 0 (.int .i64 (S0 + 1)) (by omega)) (w.heap.size + 1 + 1) 1 (.slice (some ⟨g, 0, none⟩) T.length cap) (by omega)
          unfold Fresh
          rw [HD1.out]
          exact h1
        · exact ((LK.out.2.2.2.setc hwb).setc (by dsimp only; omega)).setc (by dsimp only; omega)

end Go.Proofs.Ythnoeknalpnadaa

namespace Go.Proofs.Ythnoeknalpnadaa
open Go.RowKit
set_option linter.unusedVariables false

set_option maxHeartbeats 4000000 in
set_option maxRecDepth 100000 in
theorem implAttrFor_any (n : Int) (u : Value) (T : List (List RowD)) (ck ci cf ct ca rep no : Int) (w : World) (hu : Rowzz w u T) (hs : bulkT T ≤ 1099511627776) :
    Calls Try.prog 59 #[.agg #[.int .i64 n, u], .agg #[.int .i64 ck, .int .i64 ci, .int .i64 cf, .int .i64 ct, .int .i64 ca], .int .i64 rep, .int .i64 no] w (TwoAttr (attrS n T ck ci cf ct ca rep no) (attrL n T ck ci cf ct ca rep no) (okA n T ck ci cf ct ca rep no) w) := by
  cases hg : goodTab n T with
  | true =>
    cases hi : instB n rep no with
    | true =>
      cases hc : goodB ck ci cf ct ca with
      | true => exact implAttrFor_good n u T ck ci cf ct ca rep no w hu hs hg hi hc
      | false =>
        have e : okA n T ck ci cf ct ca rep no = false := by unfold okA; rw [hc, Bool.and_false]; rfl
        rw [(attr_no e).1, (attr_no e).2, e]
        clear hi e
        obtain ⟨wb, hwb⟩ : ∃ wb, wb = ((w.alloc (.cells #[.int .i64 n, u] 24)).alloc (.cells #[.int .i64 ck, .int .i64 ci, .int .i64 cf, .int .i64 ct, .int .i64 ca] 36)).alloc (.cells #[.int .i64 0, .slice none 0 0] 39) := ⟨_, rfl⟩
        have ho := three_boxes w n u 24 36 39 ck ci cf ct ca
        rw [← hwb] at ho
        have xb : Ext w wb := by rw [hwb]; exact Ext.alloc3 _ _ _ _
        have HWB := Lib.hid hwb
        have HO := Lib.hid ho
        have HU := Lib.hid (hu.ext xb)
        have HS := Lib.hid hs
        have HG := Lib.hid hg
        have HC := Lib.hid hc
        obtain ⟨t0, t1⟩ := ho.1
        rw [hwb] at t0 t1
        clear hwb ho hu hs hg hc
        go_enter Try.func59, Try.ntmps59
        go_wp2_with fail
        rw [← HWB.out]
        refine (implGoodTable_any _ _ T _ HU.out HS.out).mono ?_
        rintro e wA ⟨rfl, xA⟩
        clear t0 t1
        obtain ⟨q0, q1, q2, q3, q4⟩ := HO.out.2.1.ext xA
        rw [HG.out]
        go_wp2_with fail
        refine (implGood_any _ _ _ _ _ _).mono ?_
        rintro e wC ⟨rfl, xC⟩
        clear q0 q1 q2 q3 q4
        have hx := (xb.trans xA).trans xC
        obtain ⟨⟨c0, c1⟩, z0, z1⟩ := HO.out.2.2.ext (xA.trans xC)
        clear xA xC xb
        rw [HC.out]
        go_wp2
        refine bodyPost_ret (v := .tuple #[.agg #[.int .i64 0, .slice none 0 0], .bool false]) (by simp [results, Try.results59, go_sem, c0, c1]) rfl ⟨_, rfl, fresh_nil _ _, ?_⟩
        exact (hx.setc (by dsimp only; omega)).setc (by dsimp only; omega)
    | false =>
      have e : okA n T ck ci cf ct ca rep no = false := by unfold okA; rw [hi, Bool.and_false]; rfl
      rw [(attr_no e).1, (attr_no e).2, e]
      have hgrp := (goodTab_of hg).1
      clear e
      obtain ⟨wb, hwb⟩ : ∃ wb, wb = ((w.alloc (.cells #[.int .i64 n, u] 24)).alloc (.cells #[.int .i64 ck, .int .i64 ci, .int .i64 cf, .int .i64 ct, .int .i64 ca] 36)).alloc (.cells #[.int .i64 0, .slice none 0 0] 39) := ⟨_, rfl⟩
      have ho := three_boxes w n u 24 36 39 ck ci cf ct ca
      rw [← hwb] at ho
      have xb : Ext w wb := by rw [hwb]; exact Ext.alloc3 _ _ _ _
      have HWB := Lib.hid hwb
      have HO := Lib.hid ho
      have HU := Lib.hid (hu.ext xb)
      have HS := Lib.hid hs
      have HG := Lib.hid hg
      have HI := Lib.hid hi
      have HGRP := Lib.hid hgrp
      obtain ⟨t0, t1⟩ := ho.1
      rw [hwb] at t0 t1
      clear hwb ho hu hs hg hi hgrp
      cases hc : goodB ck ci cf ct ca with
      | false =>
        have HC := Lib.hid hc
        clear hc
        go_enter Try.func59, Try.ntmps59
        go_wp2_with fail
        rw [← HWB.out]
        refine (implGoodTable_any _ _ T _ HU.out HS.out).mono ?_
        rintro e wA ⟨rfl, xA⟩
        clear t0 t1
        obtain ⟨q0, q1, q2, q3, q4⟩ := HO.out.2.1.ext xA
        rw [HG.out]
        go_wp2_with fail
        refine (implGood_any _ _ _ _ _ _).mono ?_
        rintro e wC ⟨rfl, xC⟩
        clear q0 q1 q2 q3 q4
        have hx := (xb.trans xA).trans xC
        obtain ⟨⟨c0, c1⟩, z0, z1⟩ := HO.out.2.2.ext (xA.trans xC)
        clear xA xC xb
        rw [HC.out]
        go_wp2
        refine bodyPost_ret (v := .tuple #[.agg #[.int .i64 0, .slice none 0 0], .bool false]) (by simp [results, Try.results59, go_sem, c0, c1]) rfl ⟨_, rfl, fresh_nil _ _, ?_⟩
        exact (hx.setc (by dsimp only; omega)).setc (by dsimp only; omega)
      | true =>
        have HC := Lib.hid hc
        clear hc
        go_enter Try.func59, Try.ntmps59
        go_wp2_with fail
        rw [← HWB.out]
        refine (implGoodTable_any _ _ T _ HU.out HS.out).mono ?_
        rintro e wA ⟨rfl, xA⟩
        clear t0 t1
        obtain ⟨q0, q1, q2, q3, q4⟩ := HO.out.2.1.ext xA
        rw [HG.out]
        go_wp2_with fail
        refine (implGood_any _ _ _ _ _ _).mono ?_
        rintro e wC ⟨rfl, xC⟩
        clear q0 q1 q2 q3 q4
        have hx := (xb.trans xA).trans xC
        obtain ⟨t0, t1⟩ := HO.out.1.ext (xA.trans xC)
        obtain ⟨⟨c0, c1⟩, z0, z1⟩ := HO.out.2.2.ext (xA.trans xC)
        clear xA xC xb
        rw [HC.out]
        go_wp2_with fail
        refine (isInstance_any _ _ _ _ HGRP.out).mono ?_
        rintro e w' ⟨rfl, rfl⟩
        rw [HI.out]
        go_wp2
        refine bodyPost_ret (v := .tuple #[.agg #[.int .i64 0, .slice none 0 0], .bool false]) (by simp [results, Try.results59, go_sem, c0, c1]) rfl ⟨_, rfl, fresh_nil _ _, ?_⟩
        exact (hx.setc (by dsimp only; omega)).setc (by dsimp only; omega)
  | false =>
    have e : okA n T ck ci cf ct ca rep no = false := by unfold okA; rw [hg]; rfl
    rw [(attr_no e).1, (attr_no e).2, e]
    clear e
    obtain ⟨wb, hwb⟩ : ∃ wb, wb = ((w.alloc (.cells #[.int .i64 n, u] 24)).alloc (.cells #[.int .i64 ck, .int .i64 ci, .int .i64 cf, .int .i64 ct, .int .i64 ca] 36)).alloc (.cells #[.int .i64 0, .slice none 0 0] 39) := ⟨_, rfl⟩
    have ho := three_boxes w n u 24 36 39 ck ci cf ct ca
    rw [← hwb] at ho
    have xb : Ext w wb := by rw [hwb]; exact Ext.alloc3 _ _ _ _
    have HWB := Lib.hid hwb
    have HO := Lib.hid ho
    have HU := Lib.hid (hu.ext xb)
    have HS := Lib.hid hs
    have HG := Lib.hid hg
    clear hwb ho hu hs hg
    go_enter Try.func59, Try.ntmps59
    go_wp2_with fail
    rw [← HWB.out]
    refine (implGoodTable_any _ _ T _ HU.out HS.out).mono ?_
    rintro e wA ⟨rfl, xA⟩
    have hx := xb.trans xA
    obtain ⟨⟨c0, c1⟩, z0, z1⟩ := HO.out.2.2.ext xA
    clear xA xb
    rw [HG.out]
    go_wp2
    refine bodyPost_ret (v := .tuple #[.agg #[.int .i64 0, .slice none 0 0], .bool false]) (by simp [results, Try.results59, go_sem, c0, c1]) rfl ⟨_, rfl, fresh_nil _ _, ?_⟩
    exact (hx.setc (by dsimp only; omega)).setc (by dsimp only; omega)

theorem rowTo_len (ck cf ct rep no : Int) (k : Nat) (R : List RowD) (j : Nat) (X : Int × List Int) : (rowTo ck cf ct rep no k R j X).2.length = X.2.length := by
  induction j with
  | zero => rfl
  | succ j ih =>
    unfold rowTo at ih ⊢
    rw [List.range_succ, List.foldl_append]
    simp only [List.foldl_cons, List.foldl_nil]
    split
    · unfold rowStep
      split
      · rw [List.length_set]; exact ih
      · exact ih
    · exact ih
theorem tabTo_len (ck cf ct rep no : Int) (T : List (List RowD)) (k : Nat) (X : Int × List Int) : (tabTo ck cf ct rep no T k X).2.length = X.2.length := by
  induction k with
  | zero => rfl
  | succ k ih =>
    unfold tabTo at ih ⊢
    rw [List.range_succ, List.foldl_append]
    simp only [List.foldl_cons, List.foldl_nil]
    rw [rowTo_len, ih]
theorem attrL_len (n : Int) (T : List (List RowD)) (ck ci cf ct ca rep no : Int) : (attrL n T ck ci cf ct ca rep no).length ≤ 5 := by
  unfold attrL
  split
  · unfold attrSD; rw [tabTo_len]; exact noneL_len n
  · simp

end Go.Proofs.Ythnoeknalpnadaa
