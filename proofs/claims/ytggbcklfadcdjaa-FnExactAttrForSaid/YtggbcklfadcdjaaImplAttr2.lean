/- Contract of the program's AttrFor. -/
import Derived.Test.YtggbcklfadcdjaaSpecAttr2
import Derived.Test.YtggbcklfadcdjaaMarkRow1
namespace Go.Proofs.Ytggbcklfadcdjaa
open Go.RowKit
set_option linter.unusedVariables false

theorem interL_comm (l r : List Int) : interL l r = interL r l := by
  unfold interL hasI
  rw [Bool.eq_iff_iff, List.any_eq_true, List.any_eq_true]
  constructor
  · rintro ⟨x, hx, h⟩
    obtain ⟨y, hy, e⟩ := List.any_eq_true.1 h
    have : y = x := by simpa using e
    subst this
    exact ⟨y, hy, List.any_eq_true.2 ⟨y, hx, by simp⟩⟩
  · rintro ⟨x, hx, h⟩
    obtain ⟨y, hy, e⟩ := List.any_eq_true.1 h
    have : y = x := by simpa using e
    subst this
    exact ⟨y, hy, List.any_eq_true.2 ⟨y, hx, by simp⟩⟩
theorem interB_comm (k f t k' f' t' : Int) : interB k f t k' f' t' = interB k' f' t' k f t := interL_comm _ _
theorem goodRow_cmd {n : Int} {r : RowD} (h : goodRow n r = true) : goodB r.k r.i r.f r.t r.a = true ∧ ((r.st == 0) = true → r.k = 0) := by
  unfold goodRow at h
  simp only [Bool.and_eq_true] at h
  have h2 := h.2
  split at h2
  · unfold emptyB zeroC at h2
    simp only [Bool.and_eq_true, beq_iff_eq] at h2
    obtain ⟨⟨_, e0, e1, e2, e3, e4⟩, _⟩ := h2
    rw [e0, e1, e2, e3, e4]
    exact ⟨rfl, fun _ => rfl⟩
  · rename_i hst
    unfold fullB at h2
    simp only [Bool.and_eq_true] at h2
    exact ⟨h2.1, fun h => absurd h (by simpa using hst)⟩
theorem hit_impl {n : Int} {r : RowD} (h : goodRow n r = true) (ck cf ct rep no : Int) (k i : Nat) : hitB ck cf ct rep no k i r = (interB r.k r.f r.t ck cf ct && !(((k : Int) == rep) && ((i : Int) + 1 == no))) := by
  unfold hitB
  rw [interB_comm r.k r.f r.t ck cf ct]
  cases hst : (r.st == 0) with
  | false => rfl
  | true =>
    have hk := (goodRow_cmd h).2 hst
    have : interB ck cf ct r.k r.f r.t = false := by
      rw [interB_comm, hk]
      unfold interB
      rw [touchesL_else _ _ rfl rfl]
      rfl
    rw [this]; rfl

set_option maxHeartbeats 8000000 in
set_option maxRecDepth 100000 in
theorem implAttrFor_good (n : Int) (u : Value) (T : List (List RowD)) (ck ci cf ct ca rep no : Int) (w : World) (hu : Rowzz w u T) (hs : bulkT T ≤ 1099511627776) (hg : goodTab n T = true) (hi : instB n rep no = true) (hc : goodB ck ci cf ct ca = true) :
    Calls Try.prog 30 #[.agg #[.int .i64 n, u], .agg #[.int .i64 ck, .int .i64 ci, .int .i64 cf, .int .i64 ct, .int .i64 ca], .int .i64 rep, .int .i64 no] w (TwoAttr (attrS n T ck ci cf ct ca rep no) (attrL n T ck ci cf ct ca rep no) (okA n T ck ci cf ct ca rep no) w) := by
  have hu0 := hu
  obtain ⟨au, cu, rfl, hlu, _, hcu⟩ := hu
  unfold maxLen at hlu
  obtain ⟨hgrp, hlen, hrows⟩ := goodTab_of hg
  have hgb := isGrp_bd hgrp
  have hnl := noneL_tab hg
  have hok : okA n T ck ci cf ct ca rep no = decide ((attrSD n ck cf ct rep no T).1 + 1 ≤ 999) := by unfold okA; rw [hg, hi, hc]; rfl
  obtain ⟨wb, hwb⟩ : ∃ wb, wb = ((w.alloc (.cells #[.int .i64 n, .slice au T.length cu] 29)).alloc (.cells #[.int .i64 ck, .int .i64 ci, .int .i64 cf, .int .i64 ct, .int .i64 ca] 38)).alloc (.cells #[.int .i64 0, .slice none 0 0] 41) := ⟨_, rfl⟩
  have ho := three_boxes w n (.slice au T.length cu) 29 38 41 ck ci cf ct ca
  rw [← hwb] at ho
  have xb : Ext w wb := by rw [hwb]; exact Ext.alloc3 _ _ _ _
  have sb : wb.heap.size = w.heap.size + 3 := by rw [hwb]; exact size3 _ _ _ _
  have HU := Lib.hid (hu0.ext xb)
  have HS := Lib.hid hs
  have HG := Lib.hid hg
  have HI := Lib.hid hi
  have HC := Lib.hid hc
  have HOK := Lib.hid hok
  have HWB := Lib.hid hwb
  have HO := Lib.hid ho
  have SB := Lib.hid sb
  have HGRP := Lib.hid hgrp
  have HNL := Lib.hid hnl
  have HR := Lib.hid hrows
  have hT3 : 3 ≤ T.length := by omega
  have hT5 : T.length ≤ 5 := by omega
  obtain ⟨t0, t1⟩ := ho.1
  rw [hwb] at t0 t1
  clear hwb ho sb hgrp hnl hrows hg hgb hlen hs hi hc hu0 hok
  go_enter Try.func30, Try.ntmps30
  go_wp2_with fail
  rw [← HWB.out]
  refine (implGoodTable_any _ _ T _ HU.out HS.out).mono ?_
  rintro e wA ⟨rfl, xA⟩
  clear t0 t1
  obtain ⟨q0, q1, q2, q3, q4⟩ := HO.out.2.1.ext xA
  rw [HG.out]
  go_wp2_with fail
  refine (implGood_any _ _ _ _ _ _).mono ?_
  rintro e wC ⟨rfl, xC⟩
  clear q0 q1 q2 q3 q4
  have xAC := xA.trans xC
  obtain ⟨t0, t1⟩ := HO.out.1.ext xAC
  rw [HC.out]
  go_wp2_with fail
  refine (isInstance_any _ _ _ _ HGRP.out).mono ?_
  rintro e w' ⟨rfl, rfl⟩
  rw [HI.out]
  go_wp2_with fail
  refine (joinNone_any n _ HGRP.out).mono ?_
  rintro e w1 ⟨v0, rfl, f1, xJ⟩
  have x1 := xAC.trans xJ
  have hAC := xAC.size
  obtain ⟨g, cap, hv0, hgB⟩ := f1.head (by rw [HNL.out]; omega)
  rw [HNL.out] at hv0
  subst hv0
  have fr : w1.ownsRow w.heap.size 3 1 (.slice (some ⟨g, 0, none⟩) T.length cap) T.length ((noneL n).map (Value.int .i64)) := by
    have := f1.more (B' := w.heap.size) (by have := SB.out; omega)
    unfold Fresh at this
    rw [HNL.out] at this
    exact this
  have hgw : g < w1.heap.size := (World.ownsRow.lt f1 g rfl).2
  have hg3 : w.heap.size + 3 ≤ g := by have := SB.out; omega
  have hw1 : w.heap.size + 3 ≤ w1.heap.size := by omega
  clear t0 t1
  obtain ⟨t0, t1⟩ := HO.out.1.ext (x1.trans (Ext.alloc1 w1 (.cells #[.int .i64 0, .slice (some ⟨g, 0, none⟩) T.length cap] 41)))
  have hlive : LiveA w (w1.alloc (.cells #[.int .i64 0, .slice (some ⟨g, 0, none⟩) T.length cap] 41)) w1.heap.size g cap T.length (w.heap.size + 1) ck ci cf ct ca 0 (noneL n) :=
    ⟨openAt_new _ _ _ _, (Ext.alloc1 w1 _).ownsRow fr, (HO.out.2.1.ext x1).ext (Ext.alloc1 _ _), (xb.trans x1).alloc _⟩
  have hres : OpenAt (w1.alloc (.cells #[.int .i64 0, .slice (some ⟨g, 0, none⟩) T.length cap] 41)) (w.heap.size + 1 + 1) 0 (.slice none 0 0) := (HO.out.2.2.ext x1).ext (Ext.alloc1 _ _)
  have LIVE := Lib.hid hlive
  have HRES := Lib.hid hres
  have hbs : w1.heap.size < (w1.alloc (.cells #[.int .i64 0, .slice (some ⟨g, 0, none⟩) T.length cap] 41)).heap.size := by simp
  have HBS := Lib.hid hbs
  obtain ⟨b, hb⟩ : ∃ b, b = w1.heap.size := ⟨_, rfl⟩
  rw [← hb] at hgw hw1 LIVE HBS
  have hbg : ¬ b = g := by omega
  have hgb' : ¬ g = b := by omega
  have X1 := Lib.hid x1
  have HBE := Lib.hid hb
  clear f1 x1 fr xb hlive hres hbs hb xA xC xAC xJ hAC
  go_wp2
  rw [← HBE.out]
  have hNg : ¬ w.heap.size + 1 = g := by omega
  have hNb : ¬ w.heap.size + 1 = b := by omega
  have hwb : w.heap.size ≤ b := by omega
  go_loopw [41] (fun i wr => ∃ (k : Nat) (S : Int) (D : List Int), k ≤ T.length ∧ i = .int .i64 k ∧ Hid ((S, D) = tabTo ck cf ct rep no T k (0, noneL n)) ∧ Hid (0 ≤ S ∧ S ≤ 999) ∧ LiveA w wr b g cap T.length (w.heap.size + 1) ck ci cf ct ca S D ∧ OpenAt wr (w.heap.size + 1 + 1) 0 (.slice none 0 0) ∧ b < wr.heap.size) (fun i _ => T.length - (intOf i).toNat)
  case atStart =>
    have hl := LIVE.out
    have hr := HRES.out
    have hs := HBS.out
    exact ⟨0, 0, noneL n, Nat.zero_le _, rfl, Lib.hid rfl, Lib.hid (by omega), hl, hr, hs⟩
  case round =>
    obtain ⟨k, S0, D0, hk, rfl, HSD0, HBD0, hL, hO, hbs⟩ := hrel
    by_cases hlt : k < T.length
    · obtain ⟨bu, ou, rfl, du⟩ := hcu (by omega)
      obtain ⟨x, hx1, ix⟩ := du k hlt
      have gu := hL.2.2.2.cell hx1
      obtain ⟨R, hR⟩ : ∃ R, R = T[k] := ⟨_, rfl⟩
      rw [← hR] at ix
      have hgr : ∀ r ∈ R, goodRow n r = true := by rw [hR]; exact (HR.out _ (List.getElem_mem hlt)).2
      have hl6 : R.length ≤ 6 := by rw [hR]; exact (HR.out _ (List.getElem_mem hlt)).1
      obtain ⟨ax, cx, rfl, hlx, _, hcx⟩ := ix
      unfold maxLen at hlx
      have HRR := Lib.hid hR
      have HGRS := Lib.hid hgr
      have LK := Lib.hid hL
      have OK := Lib.hid hO
      clear hcu du hx1 hR hgr hL hO
      go_wp2
      go_loopw [48] (fun i wr => ∃ (j : Nat) (S : Int) (D : List Int), j ≤ R.length ∧ i = .int .i64 j ∧ Hid ((S, D) = rowTo ck cf ct rep no k R j (S0, D0)) ∧ Hid (0 ≤ S ∧ S ≤ 999) ∧ LiveA w wr b g cap T.length (w.heap.size + 1) ck ci cf ct ca S D ∧ OpenAt wr (w.heap.size + 1 + 1) 0 (.slice none 0 0) ∧ b < wr.heap.size) (fun i _ => R.length - (intOf i).toNat)
      case atStart =>
        have hl := LK.out
        have hr := OK.out
        exact ⟨0, S0, D0, Nat.zero_le _, rfl, Lib.hid rfl, HBD0, hl, hr, hbs⟩
      case round =>
        clear hbs gu LK OK
        obtain ⟨j, S, D, hj, rfl, HSD, HBD, hL, hO, hbs⟩ := hrel
        by_cases hjt : j < R.length
        · obtain ⟨bx, ox, rfl, dx⟩ := hcx (by omega)
          obtain ⟨y, hy1, iy⟩ := dx j hjt
          obtain ⟨d, hd⟩ : ∃ d, d = R[j] := ⟨_, rfl⟩
          rw [← hd] at hy1 iy
          have gy := hy1.ext hL.2.2.2
          obtain ⟨ay, cy, rfl, _⟩ := iy.ext hL.2.2.2
          have hgd : goodRow n d = true := by rw [hd]; exact HGRS.out _ (List.getElem_mem hjt)
          have HGR := Lib.hid hgd
          have HD := Lib.hid hd
          have hcd := (goodRow_cmd hgd).1
          have hci : ∀ W, Calls Try.prog 66 #[.agg #[.int .i64 d.k, .int .i64 d.i, .int .i64 d.f, .int .i64 d.t, .int .i64 d.a], .agg #[.int .i64 ck, .int .i64 ci, .int .i64 cf, .int .i64 ct, .int .i64 ca]] W (TwoB (interB d.k d.f d.t ck cf ct) true W) := fun W => by
            have h := implInterfere_any d.k d.i d.f d.t d.a ck ci cf ct ca W
            rw [hcd, HC.out] at h
            simpa using h
          have HCI := Lib.hid hci
          have hhit := hit_impl hgd ck cf ct rep no k j
          obtain ⟨wp, hwp⟩ : ∃ wp : World, wp = wr := ⟨_, rfl⟩
          subst hwp
          have l2 := hL.ext (Ext.alloc1 wp (.cells #[.int .i64 d.b, .int .i64 d.v, .int .i64 d.st, .int .i64 d.k, .int .i64 d.i, .int .i64 d.f, .int .i64 d.t, .int .i64 d.a, .int .i64 d.s, .slice ay d.l.length cy] 43))
          have o2 := hO.ext (Ext.alloc1 wp (.cells #[.int .i64 d.b, .int .i64 d.v, .int .i64 d.st, .int .i64 d.k, .int .i64 d.i, .int .i64 d.f, .int .i64 d.t, .int .i64 d.a, .int .i64 d.s, .slice ay d.l.length cy] 43))
          have rr := rowAt_new wp 43 d (.slice ay d.l.length cy)
          have hgs : g < wp.heap.size := by omega
          have hb2 : b < (wp.alloc (.cells #[.int .i64 d.b, .int .i64 d.v, .int .i64 d.st, .int .i64 d.k, .int .i64 d.i, .int .i64 d.f, .int .i64 d.t, .int .i64 d.a, .int .i64 d.s, .slice ay d.l.length cy] 43)).heap.size := by simp; omega
          obtain ⟨q0, q1, q2, q3, q4⟩ := l2.2.2.1
          obtain ⟨g0, g1, g2, g3, g4, g5, g6, g7, g8, g9⟩ := gy
          clear hcx dx hy1 iy hd hL hO hgd hcd hci
          cases hint : interB d.k d.f d.t ck cf ct with
          | false =>
            have HI2 := Lib.hid hint
            cases hkr : ((k : Int) == rep) with
            | true =>
              cases hin : ((j : Int) + 1 == no) with
              | true =>
                have hit : hitB ck cf ct rep no k j d = false := by rw [hhit, hint, hkr, hin]; rfl
                clear hint hhit
                go_wp2_with fail
                refine (HCI.out _).mono ?_
                rintro e w3 ⟨rfl, x3⟩
                have HX := Lib.hid (step_miss (S := S) (D := D) hit)
                rw [HI2.out]
                have l3 := l2.ext x3
                have o3 := o2.ext x3
                have L3 := Lib.hid l3
                have O3 := Lib.hid o3
                have hb3 := Nat.lt_of_lt_of_le hb2 x3.size
                clear hit l3 o3 l2 o2 x3 rr q0 q1 q2 q3 q4 g0 g1 g2 g3 g4 g5 g6 g7 g8 g9
                go_wp2
                go_roundw
                case rel => exact ⟨j + 1, S, D, by omega, by go_num, Lib.hid (by rw [rowTo_succ _ _ _ _ _ _ hjt, ← HSD.out, ← HD.out, HX.out]), HBD, L3.out, O3.out, hb3⟩
                case measure => simp [intOf]; omega

              | false =>
                have hit : hitB ck cf ct rep no k j d = false := by rw [hhit, hint, hkr, hin]; rfl
                clear hint hhit
                go_wp2_with fail
                refine (HCI.out _).mono ?_
                rintro e w3 ⟨rfl, x3⟩
                have HX := Lib.hid (step_miss (S := S) (D := D) hit)
                rw [HI2.out]
                have l3 := l2.ext x3
                have o3 := o2.ext x3
                have L3 := Lib.hid l3
                have O3 := Lib.hid o3
                have hb3 := Nat.lt_of_lt_of_le hb2 x3.size
                clear hit l3 o3 l2 o2 x3 rr q0 q1 q2 q3 q4 g0 g1 g2 g3 g4 g5 g6 g7 g8 g9
                go_wp2
                go_roundw
                case rel => exact ⟨j + 1, S, D, by omega, by go_num, Lib.hid (by rw [rowTo_succ _ _ _ _ _ _ hjt, ← HSD.out, ← HD.out, HX.out]), HBD, L3.out, O3.out, hb3⟩
                case measure => simp [intOf]; omega

            | false =>
              have hit : hitB ck cf ct rep no k j d = false := by rw [hhit, hint, hkr]; rfl
              clear hint hhit
              go_wp2_with fail
              refine (HCI.out _).mono ?_
              rintro e w3 ⟨rfl, x3⟩
              have HX := Lib.hid (step_miss (S := S) (D := D) hit)
              rw [HI2.out]
              have l3 := l2.ext x3
              have o3 := o2.ext x3
              have L3 := Lib.hid l3
              have O3 := Lib.hid o3
              have hb3 := Nat.lt_of_lt_of_le hb2 x3.size
              clear hit l3 o3 l2 o2 x3 rr q0 q1 q2 q3 q4 g0 g1 g2 g3 g4 g5 g6 g7 g8 g9
              go_wp2
              go_roundw
              case rel => exact ⟨j + 1, S, D, by omega, by go_num, Lib.hid (by rw [rowTo_succ _ _ _ _ _ _ hjt, ← HSD.out, ← HD.out, HX.out]), HBD, L3.out, O3.out, hb3⟩
              case measure => simp [intOf]; omega

          | true =>
            have HI2 := Lib.hid hint
            cases hkr : ((k : Int) == rep) with
            | true =>
              cases hin : ((j : Int) + 1 == no) with
              | true =>
                have hit : hitB ck cf ct rep no k j d = false := by rw [hhit, hint, hkr, hin]; rfl
                clear hint hhit
                go_wp2_with fail
                refine (HCI.out _).mono ?_
                rintro e w3 ⟨rfl, x3⟩
                have HX := Lib.hid (step_miss (S := S) (D := D) hit)
                rw [HI2.out]
                have l3 := l2.ext x3
                have o3 := o2.ext x3
                have L3 := Lib.hid l3
                have O3 := Lib.hid o3
                have hb3 := Nat.lt_of_lt_of_le hb2 x3.size
                clear hit l3 o3 l2 o2 x3 rr q0 q1 q2 q3 q4 g0 g1 g2 g3 g4 g5 g6 g7 g8 g9
                go_wp2
                go_roundw
                case rel => exact ⟨j + 1, S, D, by omega, by go_num, Lib.hid (by rw [rowTo_succ _ _ _ _ _ _ hjt, ← HSD.out, ← HD.out, HX.out]), HBD, L3.out, O3.out, hb3⟩
                case measure => simp [intOf]; omega

              | false =>
                have hit : hitB ck cf ct rep no k j d = true := by rw [hhit, hint, hkr, hin]; rfl
                clear hint hhit
                go_wp2_with fail
                refine (HCI.out _).mono ?_
                rintro e w3 ⟨rfl, x3⟩
                have HX := Lib.hid (step_hit (S := S) (D := D) hit)
                have hbd2 := hit_seq hit HGR.out
                have HBD2 := Lib.hid hbd2
                rw [HI2.out]
                have hmx : ∀ (ts : Array TypeId) (T' : TypeId) (W : World), (Builtin.max_ ts T' #[.int .i64 S, .int .i64 d.s]).run Try.prog W = .ok (.int .i64 (mxx S d.s)) W := fun ts T' W => by simp only [run_max_int2]; rfl
                have l3 := l2.ext x3
                have o3 := o2.ext x3
                have l4 := l3.seq (mxx S d.s) hbg hNb hwb
                have o4 := o3.put b 0 (.int .i64 (mxx S d.s)) (by omega)
                obtain ⟨y0, hy0⟩ := l4.cellAt hlt
                have gf := l4.2.1.frozenAt k
                obtain ⟨⟨a0, a1⟩, z0, z1⟩ := l3.1
                have a14 := l4.1.1.2
                obtain ⟨r0, r1, r2, r3, r4, r5, r6, r7, r8, r9⟩ := rr.ext x3
                have l5 := l4.put k ((j : Int) + 1) hbg hNg
                have o5 := o4.put g k (.int .i64 ((j : Int) + 1)) (by omega)
                have L5 := Lib.hid l5
                have O5 := Lib.hid o5
                have hb3 : b < ((w3.setCell ⟨b, 0, none⟩ (.int .i64 (mxx S d.s))).setCell ⟨g, k, none⟩ (.int .i64 ((j : Int) + 1))).heap.size := by simp only [World.size_setCell]; exact Nat.lt_of_lt_of_le hb2 x3.size
                clear hit hbd2 l3 o3 l4 o4 l5 o5 l2 o2 x3 rr q0 q1 q2 q3 q4 g0 g1 g2 g3 g4 g5 g6 g7 g8 g9
                go_wp2
                go_roundw
                case rel => exact ⟨j + 1, mxx S d.s, D.set k ((j : Int) + 1), by omega, by go_num, Lib.hid (by rw [rowTo_succ _ _ _ _ _ _ hjt, ← HSD.out, ← HD.out, HX.out]), Lib.hid (mxx_bd HBD.out.1 HBD.out.2 HBD2.out.1 HBD2.out.2), L5.out, O5.out, hb3⟩
                case measure => simp [intOf]; omega

            | false =>
              have hit : hitB ck cf ct rep no k j d = true := by rw [hhit, hint, hkr]; rfl
              clear hint hhit
              go_wp2_with fail
              refine (HCI.out _).mono ?_
              rintro e w3 ⟨rfl, x3⟩
              have HX := Lib.hid (step_hit (S := S) (D := D) hit)
              have hbd2 := hit_seq hit HGR.out
              have HBD2 := Lib.hid hbd2
              rw [HI2.out]
              have hmx : ∀ (ts : Array TypeId) (T' : TypeId) (W : World), (Builtin.max_ ts T' #[.int .i64 S, .int .i64 d.s]).run Try.prog W = .ok (.int .i64 (mxx S d.s)) W := fun ts T' W => by simp only [run_max_int2]; rfl
              have l3 := l2.ext x3
              have o3 := o2.ext x3
              have l4 := l3.seq (mxx S d.s) hbg hNb hwb
              have o4 := o3.put b 0 (.int .i64 (mxx S d.s)) (by omega)
              obtain ⟨y0, hy0⟩ := l4.cellAt hlt
              have gf := l4.2.1.frozenAt k
              obtain ⟨⟨a0, a1⟩, z0, z1⟩ := l3.1
              have a14 := l4.1.1.2
              obtain ⟨r0, r1, r2, r3, r4, r5, r6, r7, r8, r9⟩ := rr.ext x3
              have l5 := l4.put k ((j : Int) + 1) hbg hNg
              have o5 := o4.put g k (.int .i64 ((j : Int) + 1)) (by omega)
              have L5 := Lib.hid l5
              have O5 := Lib.hid o5
              have hb3 : b < ((w3.setCell ⟨b, 0, none⟩ (.int .i64 (mxx S d.s))).setCell ⟨g, k, none⟩ (.int .i64 ((j : Int) + 1))).heap.size := by simp only [World.size_setCell]; exact Nat.lt_of_lt_of_le hb2 x3.size
              clear hit hbd2 l3 o3 l4 o4 l5 o5 l2 o2 x3 rr q0 q1 q2 q3 q4 g0 g1 g2 g3 g4 g5 g6 g7 g8 g9
              go_wp2
              go_roundw
              case rel => exact ⟨j + 1, mxx S d.s, D.set k ((j : Int) + 1), by omega, by go_num, Lib.hid (by rw [rowTo_succ _ _ _ _ _ _ hjt, ← HSD.out, ← HD.out, HX.out]), Lib.hid (mxx_bd HBD.out.1 HBD.out.2 HBD2.out.1 HBD2.out.2), L5.out, O5.out, hb3⟩
              case measure => simp [intOf]; omega

        · obtain rfl : j = R.length := by omega
          have LK := Lib.hid hL
          have OK := Lib.hid hO
          clear hL hO
          go_wp2
          go_roundw
          case rel => exact ⟨k + 1, S, D, by omega, by go_num, Lib.hid (by rw [tabTo_succ _ _ _ _ _ hlt, ← HSD0.out, ← HRR.out, ← HSD.out]), HBD, LK.out, OK.out, hbs⟩
          case measure => simp [intOf]; omega
    · obtain rfl : k = T.length := by omega
      obtain ⟨⟨a0, a1⟩, z0, z1⟩ := hL.1
      obtain ⟨⟨c0, c1⟩, y0, y1⟩ := hO
      have hS0 := HBD0.out.1
      have hS1 := HBD0.out.2
      have LK := Lib.hid hL
      have hsd : S0 = (attrSD n ck cf ct rep no T).1 ∧ D0 = (attrSD n ck cf ct rep no T).2 := by
        have h := HSD0.out
        unfold attrSD
        rw [← h]; exact ⟨rfl, rfl⟩
      have HSDD := Lib.hid hsd
      have hrb : ¬ b = w.heap.size + 1 + 1 := by omega
      have hrb' : ¬ w.heap.size + 1 + 1 = b := by omega
      have hd1 : D0.length = T.length := by have := LK.out.2.1.1; simpa using this
      have HD1 := Lib.hid hd1
      by_cases h9 : S0 = 999
      · have e9 : (S0 == 999) = true := by simp [h9]
        have ek : okA n T ck ci cf ct ca rep no = false := by rw [HOK.out, ← hsd.1, h9]; rfl
        have EK := Lib.hid (And.intro ek (attr_no ek))
        clear hL hsd hd1 h9 ek
        go_wp2
        rw [EK.out.1, EK.out.2.1, EK.out.2.2]
        refine bodyPost_ret (v := .tuple #[.agg #[.int .i64 0, .slice none 0 0], .bool false]) (by simp [results, Try.results30, go_sem, c0, c1, hrb, hrb']) rfl ⟨_, rfl, fresh_nil _ _, ?_⟩
        exact (LK.out.2.2.2.setc (by dsimp only; omega)).setc (by dsimp only; omega)
      · have e9 : (S0 == 999) = false := by simp [h9]
        have ek : okA n T ck ci cf ct ca rep no = true := by rw [HOK.out, ← hsd.1]; simp; omega
        have EK := Lib.hid (And.intro ek (attr_yes ek))
        have hS9 : S0 + 1 ≤ 999 := by omega
        clear hL hsd hd1 h9 ek
        go_wp2
        rw [EK.out.1, EK.out.2.1, EK.out.2.2, ← HSDD.out.1, ← HSDD.out.2]
        refine bodyPost_ret (v := .tuple #[.agg #[.int .i64 (S0 + 1), .slice (some ⟨g, 0, none⟩) T.length cap], .bool true]) (by simp [results, Try.results30, go_sem, c0, c1, hrb, hrb']) rfl ⟨_, rfl, ?_, ?_⟩
        · have h1 := own_set (own_set (own_set LK.out.2.1 b 0 (.int .i64 (S0 + 1)) (by omega)) (w.heap.size + 1 + 1) 0 (.int .i64 (S0 + 1)) (by omega)) (w.heap.size + 1 + 1) 1 (.slice (some ⟨g, 0, none⟩) T.length cap) (by omega)
          unfold Fresh
          rw [HD1.out]
          exact h1
        · exact ((LK.out.2.2.2.setc hwb).setc (by dsimp only; omega)).setc (by dsimp only; omega)

open Go.RowKit
set_option linter.unusedVariables false

set_option maxHeartbeats 4000000 in
set_option maxRecDepth 100000 in
theorem implAttrFor_any (n : Int) (u : Value) (T : List (List RowD)) (ck ci cf ct ca rep no : Int) (w : World) (hu : Rowzz w u T) (hs : bulkT T ≤ 1099511627776) :
    Calls Try.prog 30 #[.agg #[.int .i64 n, u], .agg #[.int .i64 ck, .int .i64 ci, .int .i64 cf, .int .i64 ct, .int .i64 ca], .int .i64 rep, .int .i64 no] w (TwoAttr (attrS n T ck ci cf ct ca rep no) (attrL n T ck ci cf ct ca rep no) (okA n T ck ci cf ct ca rep no) w) := by
  cases hg : goodTab n T with
  | true =>
    cases hi : instB n rep no with
    | true =>
      cases hc : goodB ck ci cf ct ca with
      | true => exact implAttrFor_good n u T ck ci cf ct ca rep no w hu hs hg hi hc
      | false =>
        have e : okA n T ck ci cf ct ca rep no = false := by unfold okA; rw [hc, Bool.and_false]; rfl
        rw [(attr_no e).1, (attr_no e).2, e]
        clear hi e
        obtain ⟨wb, hwb⟩ : ∃ wb, wb = ((w.alloc (.cells #[.int .i64 n, u] 29)).alloc (.cells #[.int .i64 ck, .int .i64 ci, .int .i64 cf, .int .i64 ct, .int .i64 ca] 38)).alloc (.cells #[.int .i64 0, .slice none 0 0] 41) := ⟨_, rfl⟩
        have ho := three_boxes w n u 29 38 41 ck ci cf ct ca
        rw [← hwb] at ho
        have xb : Ext w wb := by rw [hwb]; exact Ext.alloc3 _ _ _ _
        have HWB := Lib.hid hwb
        have HO := Lib.hid ho
        have HU := Lib.hid (hu.ext xb)
        have HS := Lib.hid hs
        have HG := Lib.hid hg
        have HC := Lib.hid hc
        obtain ⟨t0, t1⟩ := ho.1
        rw [hwb] at t0 t1
        clear hwb ho hu hs hg hc
        go_enter Try.func30, Try.ntmps30
        go_wp2_with fail
        rw [← HWB.out]
        refine (implGoodTable_any _ _ T _ HU.out HS.out).mono ?_
        rintro e wA ⟨rfl, xA⟩
        clear t0 t1
        obtain ⟨q0, q1, q2, q3, q4⟩ := HO.out.2.1.ext xA
        rw [HG.out]
        go_wp2_with fail
        refine (implGood_any _ _ _ _ _ _).mono ?_
        rintro e wC ⟨rfl, xC⟩
        clear q0 q1 q2 q3 q4
        have hx := (xb.trans xA).trans xC
        obtain ⟨⟨c0, c1⟩, z0, z1⟩ := HO.out.2.2.ext (xA.trans xC)
        clear xA xC xb
        rw [HC.out]
        go_wp2
        refine bodyPost_ret (v := .tuple #[.agg #[.int .i64 0, .slice none 0 0], .bool false]) (by simp [results, Try.results30, go_sem, c0, c1]) rfl ⟨_, rfl, fresh_nil _ _, ?_⟩
        exact (hx.setc (by dsimp only; omega)).setc (by dsimp only; omega)
    | false =>
      have e : okA n T ck ci cf ct ca rep no = false := by unfold okA; rw [hi, Bool.and_false]; rfl
      rw [(attr_no e).1, (attr_no e).2, e]
      have hgrp := (goodTab_of hg).1
      clear e
      obtain ⟨wb, hwb⟩ : ∃ wb, wb = ((w.alloc (.cells #[.int .i64 n, u] 29)).alloc (.cells #[.int .i64 ck, .int .i64 ci, .int .i64 cf, .int .i64 ct, .int .i64 ca] 38)).alloc (.cells #[.int .i64 0, .slice none 0 0] 41) := ⟨_, rfl⟩
      have ho := three_boxes w n u 29 38 41 ck ci cf ct ca
      rw [← hwb] at ho
      have xb : Ext w wb := by rw [hwb]; exact Ext.alloc3 _ _ _ _
      have HWB := Lib.hid hwb
      have HO := Lib.hid ho
      have HU := Lib.hid (hu.ext xb)
      have HS := Lib.hid hs
      have HG := Lib.hid hg
      have HI := Lib.hid hi
      have HGRP := Lib.hid hgrp
      obtain ⟨t0, t1⟩ := ho.1
      rw [hwb] at t0 t1
      clear hwb ho hu hs hg hi hgrp
      cases hc : goodB ck ci cf ct ca with
      | false =>
        have HC := Lib.hid hc
        clear hc
        go_enter Try.func30, Try.ntmps30
        go_wp2_with fail
        rw [← HWB.out]
        refine (implGoodTable_any _ _ T _ HU.out HS.out).mono ?_
        rintro e wA ⟨rfl, xA⟩
        clear t0 t1
        obtain ⟨q0, q1, q2, q3, q4⟩ := HO.out.2.1.ext xA
        rw [HG.out]
        go_wp2_with fail
        refine (implGood_any _ _ _ _ _ _).mono ?_
        rintro e wC ⟨rfl, xC⟩
        clear q0 q1 q2 q3 q4
        have hx := (xb.trans xA).trans xC
        obtain ⟨⟨c0, c1⟩, z0, z1⟩ := HO.out.2.2.ext (xA.trans xC)
        clear xA xC xb
        rw [HC.out]
        go_wp2
        refine bodyPost_ret (v := .tuple #[.agg #[.int .i64 0, .slice none 0 0], .bool false]) (by simp [results, Try.results30, go_sem, c0, c1]) rfl ⟨_, rfl, fresh_nil _ _, ?_⟩
        exact (hx.setc (by dsimp only; omega)).setc (by dsimp only; omega)
      | true =>
        have HC := Lib.hid hc
        clear hc
        go_enter Try.func30, Try.ntmps30
        go_wp2_with fail
        rw [← HWB.out]
        refine (implGoodTable_any _ _ T _ HU.out HS.out).mono ?_
        rintro e wA ⟨rfl, xA⟩
        clear t0 t1
        obtain ⟨q0, q1, q2, q3, q4⟩ := HO.out.2.1.ext xA
        rw [HG.out]
        go_wp2_with fail
        refine (implGood_any _ _ _ _ _ _).mono ?_
        rintro e wC ⟨rfl, xC⟩
        clear q0 q1 q2 q3 q4
        have hx := (xb.trans xA).trans xC
        obtain ⟨t0, t1⟩ := HO.out.1.ext (xA.trans xC)
        obtain ⟨⟨c0, c1⟩, z0, z1⟩ := HO.out.2.2.ext (xA.trans xC)
        clear xA xC xb
        rw [HC.out]
        go_wp2_with fail
        refine (isInstance_any _ _ _ _ HGRP.out).mono ?_
        rintro e w' ⟨rfl, rfl⟩
        rw [HI.out]
        go_wp2
        refine bodyPost_ret (v := .tuple #[.agg #[.int .i64 0, .slice none 0 0], .bool false]) (by simp [results, Try.results30, go_sem, c0, c1]) rfl ⟨_, rfl, fresh_nil _ _, ?_⟩
        exact (hx.setc (by dsimp only; omega)).setc (by dsimp only; omega)
  | false =>
    have e : okA n T ck ci cf ct ca rep no = false := by unfold okA; rw [hg]; rfl
    rw [(attr_no e).1, (attr_no e).2, e]
    clear e
    obtain ⟨wb, hwb⟩ : ∃ wb, wb = ((w.alloc (.cells #[.int .i64 n, u] 29)).alloc (.cells #[.int .i64 ck, .int .i64 ci, .int .i64 cf, .int .i64 ct, .int .i64 ca] 38)).alloc (.cells #[.int .i64 0, .slice none 0 0] 41) := ⟨_, rfl⟩
    have ho := three_boxes w n u 29 38 41 ck ci cf ct ca
    rw [← hwb] at ho
    have xb : Ext w wb := by rw [hwb]; exact Ext.alloc3 _ _ _ _
    have HWB := Lib.hid hwb
    have HO := Lib.hid ho
    have HU := Lib.hid (hu.ext xb)
    have HS := Lib.hid hs
    have HG := Lib.hid hg
    clear hwb ho hu hs hg
    go_enter Try.func30, Try.ntmps30
    go_wp2_with fail
    rw [← HWB.out]
    refine (implGoodTable_any _ _ T _ HU.out HS.out).mono ?_
    rintro e wA ⟨rfl, xA⟩
    have hx := xb.trans xA
    obtain ⟨⟨c0, c1⟩, z0, z1⟩ := HO.out.2.2.ext xA
    clear xA xb
    rw [HG.out]
    go_wp2
    refine bodyPost_ret (v := .tuple #[.agg #[.int .i64 0, .slice none 0 0], .bool false]) (by simp [results, Try.results30, go_sem, c0, c1]) rfl ⟨_, rfl, fresh_nil _ _, ?_⟩
    exact (hx.setc (by dsimp only; omega)).setc (by dsimp only; omega)

theorem rowTo_len (ck cf ct rep no : Int) (k : Nat) (R : List RowD) (j : Nat) (X : Int × List Int) : (rowTo ck cf ct rep no k R j X).2.length = X.2.length := by
  induction j with
  | zero => rfl
  | succ j ih =>
    unfold rowTo at ih ⊢
    rw [List.range_succ, List.foldl_append]
    simp only [List.foldl_cons, List.foldl_nil]
    split
    · unfold rowStep
      split
      · rw [List.length_set]; exact ih
      · exact ih
    · exact ih
theorem tabTo_len (ck cf ct rep no : Int) (T : List (List RowD)) (k : Nat) (X : Int × List Int) : (tabTo ck cf ct rep no T k X).2.length = X.2.length := by
  induction k with
  | zero => rfl
  | succ k ih =>
    unfold tabTo at ih ⊢
    rw [List.range_succ, List.foldl_append]
    simp only [List.foldl_cons, List.foldl_nil]
    rw [rowTo_len, ih]
theorem attrL_len (n : Int) (T : List (List RowD)) (ck ci cf ct ca rep no : Int) : (attrL n T ck ci cf ct ca rep no).length ≤ 5 := by
  unfold attrL
  split
  · unfold attrSD; rw [tabTo_len]; exact noneL_len n
  · simp

open Go.RowKit
set_option linter.unusedVariables false

theorem CmdAt.ins {lo hi b : Nat} {w w' : World} {k i f t a : Int} (h : CmdAt w b k i f t a) (q : Ins lo hi w w') (hb : b < lo ∨ hi ≤ b) : CmdAt w' b k i f t a :=
  ⟨q.cell h.1 hb, q.cell h.2.1 hb, q.cell h.2.2.1 hb, q.cell h.2.2.2.1 hb, q.cell h.2.2.2.2 hb⟩
/-- The slice v does not lie in the block g. -/
def Off (g : Nat) (v : Value) : Prop := ∀ b, v.ownBlock = some b → b ≠ g
/-- The arguments' boxes N and N + 1, the model's answer in the box P (list v3, below h3), the program's in the box Q (list v5, from B on, reading as M). -/
def LiveT (w W : World) (N P Q h3 B : Nat) (n : Int) (v v3 v5 : Value) (ck ci cf ct ca s : Int) (L M : List Int) : Prop :=
  Ext w W ∧ AttrAt W N n v ∧ CmdAt W (N + 1) ck ci cf ct ca ∧ AttrAt W P s v3 ∧ Fresh 0 W v3 L ∧ AttrAt W Q s v5 ∧ Fresh B W v5 M ∧ Und h3 v3 ∧ Off Q v5
theorem LiveT.ext {w W W' : World} {N P Q h3 B : Nat} {n : Int} {v v3 v5 : Value} {ck ci cf ct ca s : Int} {L M : List Int} (h : LiveT w W N P Q h3 B n v v3 v5 ck ci cf ct ca s L M) (e : Ext W W') : LiveT w W' N P Q h3 B n v v3 v5 ck ci cf ct ca s L M :=
  ⟨h.1.trans e, h.2.1.ext e, h.2.2.1.ext e, h.2.2.2.1.ext e, h.2.2.2.2.1.ext e, h.2.2.2.2.2.1.ext e, h.2.2.2.2.2.2.1.ext e, h.2.2.2.2.2.2.2⟩
theorem LiveT.ins {w W W' : World} {N P Q h3 B lo hi : Nat} {n : Int} {v v3 v5 : Value} {ck ci cf ct ca s : Int} {L M : List Int} (h : LiveT w W N P Q h3 B n v v3 v5 ck ci cf ct ca s L M) (k : Ins lo hi W W')
    (h0 : w.heap.size ≤ lo) (hN : N + 1 < lo) (hP : P < lo) (hh : h3 ≤ lo) (hB : hi ≤ B) (hQ : hi ≤ Q) : LiveT w W' N P Q h3 B n v v3 v5 ck ci cf ct ca s L M := by
  obtain ⟨a, b, b', c, e, f, g, i, j⟩ := h
  exact ⟨k.ext a h0, b.ins k (.inl (by omega)), b'.ins k (.inl hN), c.ins k (.inl hP), k.row e (fun q hq => .inl (Nat.lt_of_lt_of_le (i q hq) hh)), f.ins k (.inr hQ), g.ins_high k hB, i, j⟩
theorem LiveT.mark {w W W' : World} {N P Q h3 B : Nat} {n : Int} {v v3 v5 : Value} {ck ci cf ct ca s : Int} {L M M' : List Int} (h : LiveT w W N P Q h3 B n v v3 v5 ck ci cf ct ca s L M) (t : W.grownBy W' v5.ownBlock) (f' : Fresh B W' v5 M')
    (h0 : w.heap.size ≤ B) (hN : N + 1 < B) (hP : P < B) (hh : h3 ≤ B) : LiveT w W' N P Q h3 B n v v3 v5 ck ci cf ct ca s L M' := by
  obtain ⟨a, b, b', c, e, f, g, i, j⟩ := h
  have k : Ins B W.heap.size W W' := Ins.of_grown t (fun q hq => World.ownsRow.lt g q hq)
  exact ⟨k.ext a h0, b.ins k (.inl (by omega)), b'.ins k (.inl hN), c.ins k (.inl hP), k.row e (fun q hq => .inl (Nat.lt_of_lt_of_le (i q hq) hh)), ⟨World.grownBy.cell t f.1 (fun e => j Q e.symm rfl), World.grownBy.cell t f.2 (fun e => j Q e.symm rfl)⟩, f', i, j⟩

theorem keep7 {W W' : World} {a b c d e f g : Addr} {x0 x1 x2 x3 x4 x5 x6 : Value} (x : Ext W W')
    (h : (W.cell? a = some x0 ∧ W.cell? b = some x1) ∧ W.cell? c = some x2 ∧ W.cell? d = some x3 ∧ W.cell? e = some x4 ∧ W.cell? f = some x5 ∧ W.cell? g = some x6) :
    (W'.cell? a = some x0 ∧ W'.cell? b = some x1) ∧ W'.cell? c = some x2 ∧ W'.cell? d = some x3 ∧ W'.cell? e = some x4 ∧ W'.cell? f = some x5 ∧ W'.cell? g = some x6 :=
  ⟨⟨x.cell h.1.1, x.cell h.1.2⟩, x.cell h.2.1, x.cell h.2.2.1, x.cell h.2.2.2.1, x.cell h.2.2.2.2.1, x.cell h.2.2.2.2.2⟩
theorem cell_swap {W : World} {o o' : Obj} {a : Addr} {u : Value} (ha : a.block < W.heap.size) (h : (W.alloc o).cell? a = some u) : (W.alloc o').cell? a = some u := by
  rw [World.cell?_alloc_lt _ _ _ ha] at h ⊢; exact h
theorem keep7A {W : World} {o o' : Obj} {a b c d e f g : Addr} {x0 x1 x2 x3 x4 x5 x6 : Value} (ha : a.block < W.heap.size) (hb : b.block < W.heap.size) (hc : c.block < W.heap.size) (hd : d.block < W.heap.size) (he : e.block < W.heap.size) (hf : f.block < W.heap.size) (hg : g.block < W.heap.size)
    (h : ((W.alloc o).cell? a = some x0 ∧ (W.alloc o).cell? b = some x1) ∧ (W.alloc o).cell? c = some x2 ∧ (W.alloc o).cell? d = some x3 ∧ (W.alloc o).cell? e = some x4 ∧ (W.alloc o).cell? f = some x5 ∧ (W.alloc o).cell? g = some x6) :
    ((W.alloc o').cell? a = some x0 ∧ (W.alloc o').cell? b = some x1) ∧ (W.alloc o').cell? c = some x2 ∧ (W.alloc o').cell? d = some x3 ∧ (W.alloc o').cell? e = some x4 ∧ (W.alloc o').cell? f = some x5 ∧ (W.alloc o').cell? g = some x6 :=
  ⟨⟨cell_swap ha h.1.1, cell_swap hb h.1.2⟩, cell_swap hc h.2.1, cell_swap hd h.2.2.1, cell_swap he h.2.2.2.1, cell_swap hf h.2.2.2.2.1, cell_swap hg h.2.2.2.2.2⟩
theorem setc_far {W : World} {a p : Addr} {u v : Value} (ha : a.block ≠ p.block) (h : W.cell? a = some u) : (W.setCell p v).cell? a = some u := by
  rw [World.cell?_setCell_other _ _ _ _ (fun e => ha (by rw [e]))]; exact h
theorem keep7S {W : World} {p : Addr} {v : Value} {a b c d e f g : Addr} {x0 x1 x2 x3 x4 x5 x6 : Value} (ha : a.block ≠ p.block) (hb : b.block ≠ p.block) (hc : c.block ≠ p.block) (hd : d.block ≠ p.block) (he : e.block ≠ p.block) (hf : f.block ≠ p.block) (hg : g.block ≠ p.block)
    (h : (W.cell? a = some x0 ∧ W.cell? b = some x1) ∧ W.cell? c = some x2 ∧ W.cell? d = some x3 ∧ W.cell? e = some x4 ∧ W.cell? f = some x5 ∧ W.cell? g = some x6) :
    ((W.setCell p v).cell? a = some x0 ∧ (W.setCell p v).cell? b = some x1) ∧ (W.setCell p v).cell? c = some x2 ∧ (W.setCell p v).cell? d = some x3 ∧ (W.setCell p v).cell? e = some x4 ∧ (W.setCell p v).cell? f = some x5 ∧ (W.setCell p v).cell? g = some x6 :=
  ⟨⟨setc_far ha h.1.1, setc_far hb h.1.2⟩, setc_far hc h.2.1, setc_far hd h.2.2.1, setc_far he h.2.2.2.1, setc_far hf h.2.2.2.2.1, setc_far hg h.2.2.2.2.2⟩
end Go.Proofs.Ytggbcklfadcdjaa
