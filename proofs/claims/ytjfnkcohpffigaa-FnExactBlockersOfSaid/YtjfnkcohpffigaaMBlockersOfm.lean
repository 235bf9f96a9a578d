/- Texts of this proof, part m: words, plain facts, contracts. -/
import Derived.Test.YtjfnkcohpffigaaMBlockersOfl
import Derived.Deep.DeepCutAuto
import Derived.Test.YtjfnkcohpffigaaMBlockersOff
import Derived.Test.YtjfnkcohpffigaaMBlockersOfa
import Derived.Deep.RegionHeld3
import Derived.Test.YtjfnkcohpffigaaMBlockersOfb

namespace Go.Proofs.Ytjfnkcohpffigaa
open Go.RowKit Go.Maps
set_option linter.unusedVariables false

theorem pairOf_inj' {x y : Nat × Nat} (h : pairOf x = pairOf y) : x = y := by
  unfold pairOf at h
  simp only [List.cons.injEq, and_true] at h
  exact Prod.ext (by omega) (by omega)
theorem found_in {L : List (Nat × Nat)} {x : Nat × Nat} {r : Int} (h : FoundAt (L.map pairOf) (pairOf x) r) : ((∃ k : Nat, r = (k : Int)) ∧ x ∈ L) ∨ (r = -1 ∧ x ∉ L) := by
  rcases h with ⟨k, rfl, hk, _⟩ | ⟨rfl, hno⟩
  · refine .inl ⟨⟨k, rfl⟩, ?_⟩
    rw [List.getElem?_map] at hk
    cases hL : L[k]? with
    | none => rw [hL] at hk; simp at hk
    | some y =>
      rw [hL] at hk
      simp only [Option.map_some, Option.some.injEq] at hk
      rw [← pairOf_inj' hk]
      exact List.mem_of_getElem? hL
  · exact .inr ⟨rfl, fun hm => hno (List.mem_map.2 ⟨x, hm, rfl⟩)⟩
theorem FreshV.big {B : Nat} {w : World} {v : Value} {vs : List Value} (h : FreshV B w v vs) (hp : 0 < vs.length) : ∃ g cap, v = .slice (some ⟨g, 0, none⟩) vs.length cap ∧ vs.length ≤ cap ∧ cap ≤ maxLen := by
  have h0 : w.ownsRow B 46 1 v vs.length vs := h
  rcases h0.2 with ⟨rfl, hn⟩ | ⟨g, cap, cur, rfl, _, _, h1, h2, _⟩
  · omega
  · exact ⟨g, cap, rfl, h1, h2⟩
theorem inst_st {n : Int} {T : List (List RowD)} {p q : Nat} (hp : p < T.length) : ((rowOf n T p q).st == 3) = instCom T p q := by
  unfold instCom
  rw [List.getElem?_eq_getElem hp, Option.getD_some]
  by_cases hq : q < T[p].length
  · rw [rowOf_in hp hq, List.getElem?_eq_getElem hq]
  · rw [rowOf_out hp (by omega), List.getElem?_eq_none (by omega)]
    rfl
theorem field_rowS (b v st k i f t a s : Int) (u : Value) (W : World) : (Instr.field 69 (.agg #[.int .i64 b, .int .i64 v, .int .i64 st, .int .i64 k, .int .i64 i, .int .i64 f, .int .i64 t, .int .i64 a, .int .i64 s, u]) 2).run Try.prog W = .ok (.int .i64 st) W := by kernel_rfl
theorem depsL_row {n : Int} {T : List (List RowD)} (hg : goodTab n T = true) {y x : Nat × Nat} (hy : instCom T y.1 y.2 = true) (hx : x ∈ depsL n T y) : x.1 < T.length := by
  have h := (mem_depsL.1 hx).1
  unfold hungL hungTo hungAt depM at h
  simp only [List.mem_flatMap, List.mem_range, List.mem_map] at h
  obtain ⟨p, hp, i, hi, rfl⟩ := h
  have h1 := (com_row hg hy).2.1
  show p < T.length
  omega
theorem depsL_len {n : Int} {T : List (List RowD)} (hg : goodTab n T = true) {y : Nat × Nat} (hy : y.1 < T.length) : (depsL n T y).length ≤ 1000 := by
  have h1 := depsTo_len (r := rowOf n T y.1 y.2) (x := y) (fun k => by have := dep_in hg hy y.2 k; unfold depN; omega) (rowOf n T y.1 y.2).l.length
  have h2 := rowOf_list hg hy y.2
  show (depsTo (rowOf n T y.1 y.2) y (rowOf n T y.1 y.2).l.length).length ≤ 1000
  omega

/-- What the model's l6Blockers tells. -/
def BlkR (n : Int) (T : List (List RowD)) (x0 : Nat × Nat) (w : World) (e : Ending) (w' : World) : Prop :=
  ∃ v os s i, e = .returned v ∧ PairsAt w' v os s.2 ∧ BlkI n T x0 i 0 s ∧ s.1.length ≤ i ∧ BlkB s ∧ Ext w w'

theorem addB_old {T : List (List RowD)} {s : List (Nat × Nat) × List (Nat × Nat)} {x : Nat × Nat} (h : x ∈ s.1 ∨ x ∈ s.2) : addB T s x = s := by unfold addB; rw [if_pos h]
theorem addB_com {T : List (List RowD)} {s : List (Nat × Nat) × List (Nat × Nat)} {x : Nat × Nat} (h1 : x ∉ s.1) (h2 : x ∉ s.2) (h : instCom T x.1 x.2 = true) : addB T s x = (s.1 ++ [x], s.2) := by
  unfold addB; rw [if_neg (by simp [h1, h2]), if_pos h]
theorem addB_not {T : List (List RowD)} {s : List (Nat × Nat) × List (Nat × Nat)} {x : Nat × Nat} (h1 : x ∉ s.1) (h2 : x ∉ s.2) (h : instCom T x.1 x.2 = false) : addB T s x = (s.1, insL s.2 x) := by
  unfold addB; rw [if_neg (by simp [h1, h2]), if_neg (by rw [h]; simp)]

set_option maxHeartbeats 8000000 in
set_option maxRecDepth 100000 in
theorem l6Blockers_any (n : Int) (u : Value) (T : List (List RowD)) (p q : Nat) (w : World) (hu : Rowzz w u T) (hg : goodTab n T = true) (hc : instCom T p q = true) :
    Calls Try.prog 45 #[.agg #[.int .i64 n, u], .int .i64 p, .int .i64 ((q : Int) + 1)] w (BlkR n T (p, q) w) := by
  have HG := Lib.hid hg
  have HC := Lib.hid hc
  have hcr := com_row hg hc
  have hp1 := inT_low (goodTab_both hg).1 (goodTab_both hg).2 (instCom_inT hc)
  obtain ⟨wb, hwb⟩ : ∃ wb, wb = w.alloc (.cells #[.int .i64 n, u] 31) := ⟨_, rfl⟩
  have xb : Ext w wb := by rw [hwb]; exact Ext.alloc1 _ _
  have b0 := attrAt_new w 31 n u
  rw [← hwb] at b0
  have HU := Lib.hid (hu.ext xb)
  have XB := Lib.hid xb
  have HB := Lib.hid b0
  have SB : Hid (wb.heap.size = w.heap.size + 1) := Lib.hid (by rw [hwb]; simp)
  have HWB := Lib.hid hwb
  obtain ⟨au, cu, rfl, hlu, _, _⟩ := hu
  clear hg hc hcr xb b0 hwb hlu
  go_enter Try.func45, Try.ntmps45
  go_wp2
  rw [← HWB.out]
  go_loopw [7, 8, 9] (fun mv ov i wr => ∃ (k : Nat) (s : List (Nat × Nat) × List (Nat × Nat)) (ms os : List Value), i = .int .i64 k ∧ k ≤ s.1.length ∧ Hid (BW wb wr mv ov ms os s) ∧ Hid (BlkI n T (p, q) k 0 s) ∧ Hid (BlkB s)) (fun _ _ i _ => 31 - (intOf i).toNat)
  case atStart =>
    have h := BW.start wb p q
    rw [SB.out] at h
    exact ⟨0, ([(p, q)], []), _, [], rfl, by simp, Lib.hid h, Lib.hid (BlkI.start HC.out), Lib.hid (BlkB.start (by omega))⟩
  case round =>
    obtain ⟨k, s, ms, os, rfl, hk, HW, HI, HBB⟩ := hrel
    have hml := HW.out.rm.1
    have hs1 : 0 < s.1.length := List.length_pos_of_mem HI.out.first
    have hfew := HBB.out.few.1
    obtain ⟨g, cap, rfl, hcap, hcm⟩ := HW.out.fm.big (by omega)
    obtain ⟨m, hm⟩ : ∃ m, m = s.1.length := ⟨_, rfl⟩
    rw [hml, ← hm] at hcap
    have hfm := HW.out.fm
    rw [hml, ← hm] at HW hfm ⊢
    have HM := Lib.hid hm
    have HML : Hid (ms.length = m) := Lib.hid (by rw [hml, hm])
    have HFM := Lib.hid hfm
    unfold maxLen at hcm
    rw [← hm] at hk hs1 hfew
    clear hml hfm hm
    by_cases hlt : k < m
    · have hks : k < s.1.length := by rw [← HM.out]; exact hlt
      obtain ⟨y, hy⟩ : ∃ y, s.1[k]? = some y := ⟨_, List.getElem?_eq_getElem hks⟩
      obtain ⟨yv, hyv⟩ : ∃ yv, ms[k]? = some yv := ⟨_, List.getElem?_eq_getElem (by rw [HW.out.rm.1]; exact hks)⟩
      have gy := HFM.out.at HML.out hyv
      obtain ⟨by_, oy, cy, rfl, y0, y1⟩ := pair_at (HW.out.rm.2 k yv y hyv hy).ints
      have hyc := HI.out.com y (List.mem_of_getElem? hy)
      have hcx := com_row HG.out hyc
      have HY := Lib.hid hy
      have HYC := Lib.hid hyc
      have HBX := Lib.hid (HB.out.ext HW.out.ext)
      have ks : ∀ V, Ext wr V → Ext wr V ∧ V.cell? ⟨w.heap.size, 0, none⟩ = some (.int .i64 n) ∧ V.cell? ⟨w.heap.size, 1, none⟩ = some (.slice au T.length cu) ∧ V.cell? ⟨g, k, none⟩ = some (.slice (some ⟨by_, oy, none⟩) 2 cy) ∧ V.cell? ⟨by_, oy, none⟩ = some (.int .i64 y.1) ∧ V.cell? ⟨by_, oy + 1, none⟩ = some (.int .i64 ((y.2 : Int) + 1)) := fun V hV => ⟨hV, hV.cell HBX.out.1, hV.cell HBX.out.2, hV.cell gy, hV.cell y0, hV.cell y1⟩
      have KS := Lib.hid ks
      have cD : ∀ V, Ext wr V → Calls Try.prog 92 #[.agg #[.int .i64 n, .slice au T.length cu], .int .i64 y.1, .int .i64 ((y.2 : Int) + 1)] V (NewIntss ((depsL n T y).map pairOf) V) := fun V hV => l6Deps_any n _ T y.1 y.2 _ (HU.out.ext (HW.out.ext.trans hV)) HG.out hcx.2.2.1 hcx.2.2.2
      have CD := Lib.hid cD
      have HR := Lib.hid (Ext.drew (Ext.refl wr))
      obtain ⟨P, hP⟩ : ∃ P, P = depsL n T y := ⟨_, rfl⟩
      have HP := Lib.hid hP
      have hPl := depsL_len HG.out hcx.2.2.1
      rw [← hP] at hPl
      clear gy y0 y1 hy hyv hyc hcx ks cD hP
      go_wp2_with fail
      go_region_held3 (fun V => Ext wr V ∧ V.cell? ⟨w.heap.size, 0, none⟩ = some (.int .i64 n) ∧ V.cell? ⟨w.heap.size, 1, none⟩ = some (.slice au T.length cu) ∧ V.cell? ⟨g, k, none⟩ = some (.slice (some ⟨by_, oy, none⟩) 2 cy) ∧ V.cell? ⟨by_, oy, none⟩ = some (.int .i64 y.1) ∧ V.cell? ⟨by_, oy + 1, none⟩ = some (.int .i64 ((y.2 : Int) + 1))) (first | (with_reducible exact KS.out _ HR.out) | (with_reducible exact KS.out _ SS.out)) (first | (go_at_call 92; refine (CD.out _ (And.left (by with_reducible assumption))).mono ?_; rintro e W3 ⟨vd, rfl, fd, x3⟩; obtain ⟨ad, kd, rfl⟩ := fd.form; have SS := Lib.hid (Ext.trans (And.left (by with_reducible assumption)) x3)))
      have W0 := HW.out.on (Ext.drew (Ext.refl wr))
      rw [← HP.out] at fd ⊢
      obtain ⟨ds, hds⟩ := DW.of W0.fm W0.ext.size fd
      have DW3 := Lib.hid (hds.on (Ext.refl _))
      have BW3 := Lib.hid (HW.out.on SS.out)
      have hfl : ((P.map pairOf).length) = P.length := by simp
      obtain ⟨mp, hmp⟩ : ∃ mp, mp = P.length := ⟨_, rfl⟩
      rw [hfl] at DW3
      rw [← hmp] at DW3 ⊢
      rw [← hmp] at hPl
      have HMP := Lib.hid hmp
      have HBT := HI
      clear W0 fd x3 hds hfl hmp HW KS CD HR SS
      go_wp2
      go_loopw [7, 8, 37] (fun mv ov i wr => ∃ (t : Nat) (s : List (Nat × Nat) × List (Nat × Nat)) (ms os : List Value), i = .int .i64 t ∧ t ≤ mp ∧ Hid (BW wb wr mv ov ms os s) ∧ Hid (DW wb wr mv (.slice ad mp kd) ds P) ∧ Hid (BlkI n T (p, q) k t s) ∧ Hid (BlkB s) ∧ Hid (s.1[k]? = some y)) (fun _ _ i _ => mp - (intOf i).toNat)
      case atStart => exact ⟨0, s, ms, os, rfl, Nat.zero_le _, BW3, DW3, HBT, HBB, HY⟩
      case round =>
        clear HI HBB BW3 DW3 HBT HFM HBX HML hcap hcm hs1 HY
        obtain ⟨t, s', ms', os', rfl, ht, HW, HD, HI, HBB, HY⟩ := hrel
        have hm7 : 0 < ms'.length := by rw [HW.out.rm.1]; exact List.length_pos_of_mem HI.out.first
        obtain ⟨g7, c7, rfl, _, _⟩ := HW.out.fm.big hm7
        clear hm7
        by_cases htl : t < mp
        · have htp : t < P.length := by rw [← HMP.out]; exact htl
          have hdl : ds.length = mp := by rw [HD.out.rd.1, HMP.out]
          obtain ⟨x, hx⟩ : ∃ x, P[t]? = some x := ⟨_, List.getElem?_eq_getElem htp⟩
          obtain ⟨xv, hxv⟩ : ∃ xv, ds[t]? = some xv := ⟨_, List.getElem?_eq_getElem (by omega)⟩
          obtain ⟨gd, kd', hvd, _, _⟩ := HD.out.fd.big (by omega)
          simp only [Value.slice.injEq] at hvd
          obtain ⟨rfl, hvn, hvk⟩ := hvd
          subst hvk
          clear hvn
          have gx := HD.out.fd.at hdl hxv
          have HXF := Lib.hid (HD.out.rd.2 t xv x hxv hx)
          obtain ⟨bx, ox, cx, rfl, x0, x1⟩ := pair_at HXF.out.ints
          have HX := Lib.hid (show (depsL n T y)[t]? = some x by rw [← HP.out]; exact hx)
          have hmem := List.mem_of_getElem? HX.out
          have hxT := depsL_row HG.out HYC.out hmem
          have hx6 := (depsL_in HG.out (com_row HG.out HYC.out).2.2.1 hmem).2
          have HML : Hid (ms'.length ≤ 1000) := Lib.hid (by have := HBB.out.few.1; rw [HW.out.rm.1]; omega)
          have HOL : Hid (s'.2.length ≤ 1000) := Lib.hid (by have := HBB.out.few.2; omega)
          have HYT : Hid (y.1 < T.length) := Lib.hid (com_row HG.out HYC.out).2.2.1
          clear hdl hx hxv hmem x0 x1
          go_wp2_with fail
          refine (l6Find_any _ _ (s'.1.map pairOf) (pairOf x) _ (PRows.at HW.out.fm HW.out.rm).intss HXF.out.ints).mono ?_
          rintro e w1 ⟨r, rfl, hf, e1⟩
          have HF := Lib.hid (found_in hf)
          have HW1 := Lib.hid (HW.out.on e1)
          have HD1 := Lib.hid (HD.out.on e1)
          have HX1 := Lib.hid (HXF.out.ext e1)
          clear hf e1 gx HW HD HXF
          rcases HF.out with ⟨⟨kr, rfl⟩, hin⟩ | ⟨rfl, hno⟩
          · have hr0 : (0 : Int) ≤ (kr : Int) := by omega
            have HN := Lib.hid (addB_old (T := T) (s := s') (x := x) (.inl hin))
            clear HF hin
            go_wp2
            go_roundw
            case rel => exact ⟨t + 1, s', ms', os', by go_num, by omega, HW1, HD1, Lib.hid (by have h := HI.out.step HY.out HX.out; rw [HN.out] at h; exact h), HBB, HY⟩
            case measure => simp [intOf]; omega
          · have HNO := Lib.hid hno
            clear HF hno
            go_wp2_with fail
            refine (l6Find_any _ _ (s'.2.map pairOf) (pairOf x) _ (PRows.at HW1.out.fo HW1.out.ro).intss HX1.out.ints).mono ?_
            rintro e w2 ⟨r, rfl, hf, e2⟩
            have HF := Lib.hid (found_in hf)
            have HW2 := Lib.hid (HW1.out.on e2)
            have HD2 := Lib.hid (HD1.out.on e2)
            have HX2 := Lib.hid (HX1.out.ext e2)
            clear hf e2 HW1 HD1 HX1
            rcases HF.out with ⟨⟨kr, rfl⟩, hin⟩ | ⟨rfl, hno⟩
            · have hr0 : (0 : Int) ≤ (kr : Int) := by omega
              have HN := Lib.hid (addB_old (T := T) (s := s') (x := x) (.inr hin))
              clear HF hin
              go_wp2
              go_roundw
              case rel => exact ⟨t + 1, s', ms', os', by go_num, by omega, HW2, HD2, Lib.hid (by have h := HI.out.step HY.out HX.out; rw [HN.out] at h; exact h), HBB, HY⟩
              case measure => simp [intOf]; omega
            · have HNO2 := Lib.hid hno
              clear HF hno
              obtain ⟨z0, z1⟩ : w2.cell? ⟨bx, ox, none⟩ = some (.int .i64 x.1) ∧ w2.cell? ⟨bx, ox + 1, none⟩ = some (.int .i64 ((x.2 : Int) + 1)) := by
                obtain ⟨b', o', c', hv, z0, z1⟩ := pair_at HX2.out.ints
                simp only [Value.slice.injEq, Option.some.injEq, Addr.mk.injEq, and_true] at hv
                obtain ⟨⟨rfl, rfl⟩, _, _⟩ := hv
                exact ⟨z0, z1⟩
              have hbx := HB.out.ext HW2.out.ext
              have ks : ∀ V, Ext w2 V → Ext w2 V ∧ V.cell? ⟨w.heap.size, 0, none⟩ = some (.int .i64 n) ∧ V.cell? ⟨w.heap.size, 1, none⟩ = some (.slice au T.length cu) ∧ V.cell? ⟨bx, ox, none⟩ = some (.int .i64 x.1) ∧ V.cell? ⟨bx, ox + 1, none⟩ = some (.int .i64 ((x.2 : Int) + 1)) := fun V hV => ⟨hV, hV.cell hbx.1, hV.cell hbx.2, hV.cell z0, hV.cell z1⟩
              have KS := Lib.hid ks
              have HR := Lib.hid (Ext.drew (Ext.refl w2))
              obtain ⟨d, hd⟩ : ∃ d, d = rowOf n T x.1 x.2 := ⟨_, rfl⟩
              have hst : (d.st == 3) = instCom T x.1 x.2 := by rw [hd]; exact inst_st hxT
              have cR : ∀ V, Ext w2 V → Calls Try.prog 44 #[.agg #[.int .i64 n, .slice au T.length cu], .int .i64 x.1, .int .i64 ((x.2 : Int) + 1)] V (NewRow d V) := fun V hV => by
                rw [hd]
                exact l4At_any n _ T x.1 x.2 _ (HU.out.ext (HW2.out.ext.trans hV)) HG.out hxT (by omega)
              have CR := Lib.hid cR
              clear z0 z1 hbx ks hd cR
              cases hcm : instCom T x.1 x.2
              all_goals
                rw [hcm] at hst
                have HCM := Lib.hid hcm
                clear hcm
                go_wp2_with fail
                go_region_held3 (fun V => Ext w2 V ∧ V.cell? ⟨w.heap.size, 0, none⟩ = some (.int .i64 n) ∧ V.cell? ⟨w.heap.size, 1, none⟩ = some (.slice au T.length cu) ∧ V.cell? ⟨bx, ox, none⟩ = some (.int .i64 x.1) ∧ V.cell? ⟨bx, ox + 1, none⟩ = some (.int .i64 ((x.2 : Int) + 1))) (first | (with_reducible exact KS.out _ HR.out) | (with_reducible exact KS.out _ SS.out)) (first | (go_at_call 44; refine (CR.out _ (And.left (by with_reducible assumption))).mono ?_; rintro e W3 ⟨ur, rfl, fr, x3⟩; obtain ⟨ar, kr, rfl⟩ := fr.form; have hfd := fun W => field_rowS d.b d.v d.st d.k d.i d.f d.t d.a d.s (.slice ar d.l.length kr) W; have SS := Lib.hid (Ext.trans (And.left (by with_reducible assumption)) x3)))
                clear hfd fr x3 KS CR HR hst
                have HW3 := Lib.hid (HW2.out.on SS.out)
                have HD3 := Lib.hid (HD2.out.on SS.out)
                have HX3 := Lib.hid (HX2.out.ext SS.out)
                clear SS HW2 HD2 HX2
              · have HOB := Lib.hid (PRows.at HW3.out.fo HW3.out.ro)
                go_wp2_with fail
                refine (l6Insert_any HOB.out HX3.out.ints HOL.out).mono ?_
                rintro e w5 ⟨v5, rfl, f5, x5, _⟩
                have HW5 := Lib.hid (HW3.out.block HX3.out f5 x5)
                have HD5 := Lib.hid (HD3.out.on x5)
                have HN := Lib.hid (addB_not HNO.out HNO2.out HCM.out)
                clear f5 x5 HW3 HD3 HX3 HOB
                go_wp2
                go_roundw
                case rel => exact ⟨t + 1, (s'.1, insL s'.2 x), _, _, by go_num, by omega, HW5, HD5, Lib.hid (by have h := HI.out.step HY.out HX.out; rw [HN.out] at h; exact h), Lib.hid (by have h := HBB.out.step HG.out HYT.out (List.mem_of_getElem? HX.out); rw [HN.out] at h; exact h), HY⟩
                case measure => simp [intOf]; omega
              · have HX4 := Lib.hid (HX3.out.ext (Ext.alloc1 W3 (.cells #[.slice (some ⟨bx, ox, none⟩) 2 cx] 46)))
                have HW4 := Lib.hid (HW3.out.on (Ext.alloc1 W3 (.cells #[.slice (some ⟨bx, ox, none⟩) 2 cx] 46)))
                have HD4 := Lib.hid (HD3.out.on (Ext.alloc1 W3 (.cells #[.slice (some ⟨bx, ox, none⟩) 2 cx] 46)))
                have HLL : Hid (ms'.length ≤ 1048576) := Lib.hid (by have := HML.out; omega)
                have HSZ : Hid (wb.heap.size ≤ (W3.alloc (.cells #[.slice (some ⟨bx, ox, none⟩) 2 cx] 46)).heap.size) := Lib.hid HW4.out.ext.size
                clear HW3 HD3 HX3
                go_wp2_with (at_builtin; refine wpList_pushVAt rfl _ _ rfl wb.heap.size _ ms' rfl HW4.out.fm (.slice (some ⟨bx, ox, none⟩) 2 cx) ⟨W3.heap.size, 0, none⟩ 1 rfl (cell_alloc_one _ _ _) rfl HLL.out HSZ.out ?_)
                intro v5 w5 f5 g5 k5 loc5
                have loc6 : v5.ownBlock = (Value.slice (some ⟨g7, 0, none⟩) ms'.length c7).ownBlock ∨ v5.ownBlock = some (W3.alloc (.cells #[.slice (some ⟨bx, ox, none⟩) 2 cx] 46)).heap.size := by rw [World.size_alloc]; exact loc5
                have HW5 := Lib.hid (HW4.out.meet HX4.out f5 g5 k5 loc6)
                have HD5 := Lib.hid (HD4.out.meet HW4.out.fm g5 loc6)
                have HN := Lib.hid (addB_com HNO.out HNO2.out HCM.out)
                have HYN : Hid ((s'.1 ++ [x])[k]? = some y) := Lib.hid (by
                  rw [List.getElem?_append_left (List.getElem?_eq_some_iff.1 HY.out).1]
                  exact HY.out)
                clear f5 g5 k5 loc5 loc6 HW4 HD4 HX4 HLL HSZ
                go_wp2
                go_roundw
                case rel => exact ⟨t + 1, (s'.1 ++ [x], s'.2), _, _, by go_num, by omega, HW5, HD5, Lib.hid (by have h := HI.out.step HY.out HX.out; rw [HN.out] at h; exact h), Lib.hid (by have h := HBB.out.step HG.out HYT.out (List.mem_of_getElem? HX.out); rw [HN.out] at h; exact h), HYN⟩
                case measure => simp [intOf]; omega
        · obtain rfl : t = mp := by omega
          have HIN := Lib.hid (HI.out.next HY.out (by rw [← HP.out, ← HMP.out]; exact Nat.le_refl _))
          have hk1 := (List.getElem?_eq_some_iff.1 HY.out).1
          have HK1 := Lib.hid hk1
          have HF30 := Lib.hid HBB.out.few.1
          clear hk1 HI HD
          go_wp2
          go_roundw
          case rel => exact ⟨k + 1, s', ms', os', by go_num, HK1.out, HW, HIN, HBB⟩
          case measure => simp [intOf]; omega
    · obtain rfl : k = m := by omega
      have HE : Hid (PairsAt wr u8 os s.2) := Lib.hid (PRows.at HW.out.fo HW.out.ro)
      have HX := Lib.hid (XB.out.trans HW.out.ext)
      clear HW HFM
      go_wp2
      go_ret
      exact ⟨_, os, s, k, rfl, HE.out, HI.out, by rw [← HM.out]; exact Nat.le_refl _, HBB.out, HX.out⟩
end Go.Proofs.Ytjfnkcohpffigaa

namespace Go.Proofs.Ytjfnkcohpffigaa
open Go.RowKit
set_option linter.unusedVariables false

/-- How many marks rows bear. -/
def weigh (R : List RowD) : List Nat := R.map fun r => 9 + r.l.length
theorem weigh_len (R : List RowD) : (weigh R).length = R.length := by simp [weigh]
theorem weigh_get {R : List RowD} {k : Nat} (h : k < R.length) : (weigh R)[k]'(by rw [weigh_len]; exact h) = 9 + R[k].l.length := by simp [weigh]
theorem weigh_sum (R : List RowD) : (weigh R).sum ≤ 10 * bulkR R := by
  unfold weigh bulkR
  induction R with
  | nil => simp
  | cons r R ih => simp at ih ⊢; omega

set_option maxHeartbeats 4000000 in
set_option maxRecDepth 100000 in
theorem markRowS_any (lo hi : Nat) (v : Value) (R : List RowD) (k : Int) (w : World) (hv : FreshI lo hi w v R) (h0 : 0 ≤ k) (hk : k ≤ 1099511627776) (h1 : bulkR R ≤ 1099511627776) :
    Calls Try.prog 90 #[v, .int .i64 k] w (fun e w' => e = .returned (.int .i64 (k + (weigh R).sum)) ∧ Ins lo hi w w') := by
  obtain ⟨xs, us, ho, hC, hR, hout, hU, hUs⟩ := hv
  have hul : us.length = R.length := by have := hR.len; simpa using this
  have hws := weigh_sum R
  rcases ho.2 with ⟨rfl, hn⟩ | ⟨g, cap, cur, rfl, hb, hg, hnc, hcm, hcs, htake⟩
  · obtain rfl : R = [] := List.eq_nil_of_length_eq_zero hn
    clear h1 hws
    go_enter Try.func90, Try.ntmps90
    go_wp2
    refine wp_loop_rounds 1 ?_; rw [rounds_succ]
    go_wp2
    go_ret
    exact ⟨by simp [weigh], Ins.refl _ _ _⟩
  · have hout' : ∀ (j : Nat) (u : Value), us[j]? = some u → u.ownBlock = none ∨ u.ownBlock ≠ some g := hout
    have hgi : lo ≤ g ∧ g < hi := ⟨hb, hU g rfl⟩
    have hfr : Hid (∀ i (h : i < R.length) (h' : i < us.length), 0 ≤ i → Fresh lo w us[i] R[i].l) := Lib.hid fun i h h' _ => hR.row i _ _ (List.getElem?_eq_getElem h') (by simp [List.getElem?_eq_getElem h])
    have hxr : Hid (∀ i (h : i < R.length) (h' : i < us.length), 0 ≤ i → XRow xs (i * 10) R[i] us[i]) := Lib.hid fun i h h' _ => hC i h h'
    have HOUT := Lib.hid hout'
    have HAP := Lib.hid hR.apart
    have HUS := Lib.hid hUs
    have HUL := Lib.hid hul
    have HWS := Lib.hid hws
    have HGI := Lib.hid hgi
    have H1 := Lib.hid h1
    have hLen : R.length ≤ 1099511627776 := by unfold bulkR at h1; omega
    clear hg hnc hcm hcs htake cur hb hout hout' hU hUs hul hR hC hws hgi h1
    go_enter Try.func90, Try.ntmps90
    go_wp2
    go_loopw [1, 5] (fun m i wr => ∃ (j : Nat) (r : Int) (ys : List Value), j ≤ R.length ∧ i = .int .i64 j ∧ m = .int .i64 r ∧ Hid (r = k + sumN (weigh R) j) ∧ wr.ownsRow lo 69 10 (.slice (some ⟨g, 0, none⟩) R.length cap) R.length ys ∧ Hid (∀ i (h : i < R.length) (h' : i < us.length), j ≤ i → Fresh lo wr us[i] R[i].l) ∧ Hid (∀ i (h : i < R.length) (h' : i < us.length), j ≤ i → XRow ys (i * 10) R[i] us[i]) ∧ Ins lo hi w wr) (fun _ i _ => R.length - (intOf i).toNat)
    case atStart => exact ⟨0, k, xs, Nat.zero_le _, rfl, rfl, Lib.hid (by rw [sumN_zero]; simp), ho, hfr, hxr, Ins.refl _ _ _⟩
    case round =>
      clear ho hfr hxr
      obtain ⟨j, r, ys, hj, rfl, rfl, hr, ho, hF, hX, hI⟩ := hrel
      by_cases hlt : j < R.length
      · have hju : j < us.length := by rw [HUL.out]; exact hlt
        obtain ⟨d, hd⟩ : ∃ d, d = R[j] := ⟨_, rfl⟩
        obtain ⟨u, hu⟩ : ∃ u, u = us[j] := ⟨_, rfl⟩
        have hx := hX.out j hlt hju (Nat.le_refl _)
        have hf := hF.out j hlt hju (Nat.le_refl _)
        rw [← hd, ← hu] at hx hf
        have hlen : d.l.length ≤ 1099511627776 := by rw [hd]; have := bulkR_row hlt; have := H1.out; omega
        have hr0 : 0 ≤ r := by have := hr.out; omega
        have hr1 : r ≤ 21990232555520 := by
          have h := hr.out
          have h2 := sumN_mono (g := weigh R) (k := j) (by rw [weigh_len]; omega)
          have := HWS.out; have := H1.out; omega
        obtain ⟨g0, g1, g2, g3, g4, g5, g6, g7, g8, g9⟩ := hx.rowIn ho hlt
        have gf : ∀ q, wr.frozen? ⟨g, q, none⟩ = false := fun q => ho.frozenAt q
        obtain ⟨au, cu, rfl⟩ := hf.form
        have HO := Lib.hid ho
        have HFF := Lib.hid hf
        have HD := Lib.hid hd
        have HU := Lib.hid hu
        clear ho hf hx hd hu
        have hst := ownsRow_stores [.int .i64 r, .int .i64 (r + 1), .int .i64 (r + 1 + 1), .int .i64 (r + 1 + 1 + 1), .int .i64 (r + 1 + 1 + 1 + 1), .int .i64 (r + 1 + 1 + 1 + 1 + 1), .int .i64 (r + 1 + 1 + 1 + 1 + 1 + 1), .int .i64 (r + 1 + 1 + 1 + 1 + 1 + 1 + 1), .int .i64 (r + 1 + 1 + 1 + 1 + 1 + 1 + 1 + 1)] (j * 10) wr ys HO.out
        have hub : ∀ b, (Value.slice au d.l.length cu).ownBlock = some b → lo ≤ b ∧ b < hi ∧ b ≠ g := fun b e => by
          have h1 := (World.ownsRow.lt HFF.out b e).1
          have hju' : us[j]? = some (.slice au d.l.length cu) := by rw [List.getElem?_eq_getElem hju, HU.out]
          have h2 := HUS.out j _ hju' b e
          refine ⟨h1, h2, fun e' => ?_⟩
          rcases HOUT.out j _ hju' with h | h
          · rw [h] at e; cases e
          · exact h (by rw [e, e'])
        have hf9 : Fresh lo (wr.setCells g (j * 10) [.int .i64 r, .int .i64 (r + 1), .int .i64 (r + 1 + 1), .int .i64 (r + 1 + 1 + 1), .int .i64 (r + 1 + 1 + 1 + 1), .int .i64 (r + 1 + 1 + 1 + 1 + 1), .int .i64 (r + 1 + 1 + 1 + 1 + 1 + 1), .int .i64 (r + 1 + 1 + 1 + 1 + 1 + 1 + 1), .int .i64 (r + 1 + 1 + 1 + 1 + 1 + 1 + 1 + 1)]) (.slice au d.l.length cu) d.l := World.ownsRow.kept HFF.out hst.2 (by
          cases hob : (Value.slice au d.l.length cu).ownBlock with
          | none => exact .inl rfl
          | some b => exact .inr fun e => (hub b hob).2.2 (Option.some.inj e))
        have hi9 : Ins lo hi wr (wr.setCells g (j * 10) [.int .i64 r, .int .i64 (r + 1), .int .i64 (r + 1 + 1), .int .i64 (r + 1 + 1 + 1), .int .i64 (r + 1 + 1 + 1 + 1), .int .i64 (r + 1 + 1 + 1 + 1 + 1), .int .i64 (r + 1 + 1 + 1 + 1 + 1 + 1), .int .i64 (r + 1 + 1 + 1 + 1 + 1 + 1 + 1), .int .i64 (r + 1 + 1 + 1 + 1 + 1 + 1 + 1 + 1)]) := Ins.of_grown hst.2 (fun q e => by rw [← Option.some.inj e]; exact HGI.out)
        have HST := Lib.hid hst
        have HUB := Lib.hid hub
        have HF9 := Lib.hid hf9
        have HI9 := Lib.hid hi9
        clear hst hub hf9 hi9
        go_wp2_with fail
        refine (markIntS_any lo _ d.l _ (wr.setCells g (j * 10) [.int .i64 r, .int .i64 (r + 1), .int .i64 (r + 1 + 1), .int .i64 (r + 1 + 1 + 1), .int .i64 (r + 1 + 1 + 1 + 1), .int .i64 (r + 1 + 1 + 1 + 1 + 1), .int .i64 (r + 1 + 1 + 1 + 1 + 1 + 1), .int .i64 (r + 1 + 1 + 1 + 1 + 1 + 1 + 1), .int .i64 (r + 1 + 1 + 1 + 1 + 1 + 1 + 1 + 1)]) HF9.out (by omega) (by omega)).mono ?_
        rintro e w3 ⟨rfl, f3, t3⟩
        have T3 := Lib.hid t3
        have hs := sumN_succ (g := weigh R) (k := j) (by rw [weigh_len]; exact hlt)
        rw [weigh_get hlt, ← HD.out] at hs
        have HS := Lib.hid hs
        clear f3 t3 hs g0 g1 g2 g3 g4 g5 g6 g7 g8 g9 gf
        obtain ⟨q, hq⟩ : ∃ q, q = r + 1 + 1 + 1 + 1 + 1 + 1 + 1 + 1 + 1 + (d.l.length : Int) := ⟨_, rfl⟩
        have hq0 : 0 ≤ q := by omega
        rw [← hq]
        have HQ := Lib.hid hq
        clear hq
        go_wp2
        go_roundw
        case rel =>
          have hju' : us[j]? = some (.slice au d.l.length cu) := by rw [List.getElem?_eq_getElem hju, HU.out]
          refine ⟨j + 1, q, _, by omega, by go_num, rfl, Lib.hid (by have h1 := hr.out; have h2 := HS.out; have h3 := HQ.out; omega), World.ownsRow.kept HST.out.1 T3.out ?_, Lib.hid fun i h h' hij => ?_, Lib.hid fun i h h' hij => ?_, (hI.trans HI9.out).trans (Ins.of_grown T3.out (fun b e => ⟨(HUB.out b e).1, (HUB.out b e).2.1⟩))⟩
          · refine .inr fun e => ?_
            have := (HUB.out g e.symm).2.2
            exact this rfl
          · have h9 : Fresh lo (wr.setCells g (j * 10) [.int .i64 r, .int .i64 (r + 1), .int .i64 (r + 1 + 1), .int .i64 (r + 1 + 1 + 1), .int .i64 (r + 1 + 1 + 1 + 1), .int .i64 (r + 1 + 1 + 1 + 1 + 1), .int .i64 (r + 1 + 1 + 1 + 1 + 1 + 1), .int .i64 (r + 1 + 1 + 1 + 1 + 1 + 1 + 1), .int .i64 (r + 1 + 1 + 1 + 1 + 1 + 1 + 1 + 1)]) us[i] R[i].l := World.ownsRow.kept (hF.out i h h' (by omega)) HST.out.2 (HOUT.out i _ (List.getElem?_eq_getElem h'))
            exact World.ownsRow.kept h9 T3.out (HAP.out i j _ _ (by omega) (List.getElem?_eq_getElem h') hju')
          · have hl9 : ∀ (vs : List Value), vs.length = 9 → XRow (putL ys (j * 10) vs) (i * 10) R[i] us[i] := fun vs hvs => by
              obtain ⟨p0, p1, p2, p3, p4, p5, p6, p7, p8, p9⟩ := hX.out i h h' (by omega)
              refine ⟨?_, ?_, ?_, ?_, ?_, ?_, ?_, ?_, ?_, ?_⟩ <;> (rw [putL_out _ _ _ _ (by rw [hvs]; omega)]; assumption)
            exact hl9 _ rfl
        case measure => simp [intOf]; omega
      · obtain rfl : j = R.length := by omega
        go_wp2
        go_ret
        refine ⟨?_, hI⟩
        have h := hr.out
        have h2 := sumN_all (weigh R)
        rw [weigh_len] at h2
        rw [h2] at h
        rw [h]; rfl

end Go.Proofs.Ytjfnkcohpffigaa

namespace Go.Proofs.Ytjfnkcohpffigaa
open Go.RowKit
set_option linter.unusedVariables false

def weighs (T : List (List RowD)) : List Nat := T.map fun R => (weigh R).sum
theorem weighs_len (T : List (List RowD)) : (weighs T).length = T.length := by simp [weighs]
theorem weighs_get {T : List (List RowD)} {k : Nat} (h : k < T.length) : (weighs T)[k]'(by rw [weighs_len]; exact h) = (weigh T[k]).sum := by simp [weighs]
theorem weighs_sum (T : List (List RowD)) : (weighs T).sum ≤ 10 * bulkT T := by
  unfold weighs bulkT
  induction T with
  | nil => simp
  | cons R T ih =>
    have := weigh_sum R
    simp at ih ⊢; omega

/-- So many marks were laid, and nothing else has turned. -/
def Marked (lo hi : Nat) (k : Int) (n : Nat) (w : World) (e : Ending) (w' : World) : Prop := e = .returned (.int .i64 (k + n)) ∧ Ins lo hi w w'

set_option maxHeartbeats 4000000 in
set_option maxRecDepth 100000 in
theorem markRowSS_any (lo hi : Nat) (v : Value) (T : List (List RowD)) (k : Int) (w : World) (hv : FreshT lo hi w v T) (h0 : 0 ≤ k) (hk : k ≤ 1048576) (h1 : bulkT T ≤ 10995116277) :
    Calls Try.prog 40 #[v, .int .i64 k] w (Marked lo hi k (weighs T).sum w) := by
  obtain ⟨vs, cut, ho, hU, hcut, hc0, hcn, hF⟩ := hv
  have hvl : vs.length = T.length := by have := ho.1; omega
  have hws := weighs_sum T
  rcases ho.2 with ⟨rfl, hn⟩ | ⟨g, cap, cur, rfl, hb, hg, hnc, hcm, hcs, htake⟩
  · obtain rfl : T = [] := List.eq_nil_of_length_eq_zero hn
    clear h1 hws
    go_enter Try.func40, Try.ntmps40
    go_wp2
    refine wp_loop_rounds 1 ?_; rw [rounds_succ]
    go_wp2
    go_ret
    exact ⟨by simp [weighs], Ins.refl _ _ _⟩
  · have hgc : g < cut 0 := hU g rfl
    have hm := cut_mono hcut
    have hfr : Hid (∀ i (h : i < T.length) (h' : i < vs.length), 0 ≤ i → FreshI (cut i) (cut (i + 1)) w vs[i] T[i]) := Lib.hid fun i h h' _ => hF i h h'
    have HM := Lib.hid hm
    have HGC := Lib.hid hgc
    have HC0 := Lib.hid hc0
    have HCN := Lib.hid hcn
    have HVL := Lib.hid hvl
    have HWS := Lib.hid hws
    have H1 := Lib.hid h1
    have hLen : T.length ≤ 1099511627776 := by unfold bulkT at h1; omega
    clear hg hnc hcm hcs htake cur hb hU hcut hF hm hgc hc0 hcn hvl hws h1
    go_enter Try.func40, Try.ntmps40
    go_wp2
    go_loopw [1, 5] (fun m i wr => ∃ (j : Nat) (r : Int), j ≤ T.length ∧ i = .int .i64 j ∧ m = .int .i64 r ∧ Hid (r = k + sumN (weighs T) j) ∧ wr.ownsRow lo 116 1 (.slice (some ⟨g, 0, none⟩) T.length cap) T.length vs ∧ Hid (∀ i (h : i < T.length) (h' : i < vs.length), j ≤ i → FreshI (cut i) (cut (i + 1)) wr vs[i] T[i]) ∧ Ins lo hi w wr) (fun _ i _ => T.length - (intOf i).toNat)
    case atStart => exact ⟨0, k, Nat.zero_le _, rfl, rfl, Lib.hid (by rw [sumN_zero]; simp), ho, hfr, Ins.refl _ _ _⟩
    case round =>
      clear ho hfr
      obtain ⟨j, r, hj, rfl, rfl, hr, ho, hF, hI⟩ := hrel
      by_cases hlt : j < T.length
      · have hjv : j < vs.length := by rw [HVL.out]; exact hlt
        obtain ⟨d, hd⟩ : ∃ d, d = T[j] := ⟨_, rfl⟩
        obtain ⟨u, hu⟩ : ∃ u, u = vs[j] := ⟨_, rfl⟩
        have hf := hF.out j hlt hjv (Nat.le_refl _)
        rw [← hd, ← hu] at hf
        have hlen : bulkR d ≤ 1099511627776 := by rw [hd]; have := bulkT_row hlt; have := H1.out; omega
        have hr0 : 0 ≤ r := by have := hr.out; omega
        have hr1 : r ≤ 1099511627776 := by
          have h := hr.out
          have h2 := sumN_mono (g := weighs T) (k := j) (by rw [weighs_len]; omega)
          have := HWS.out; have := H1.out; omega
        have hwd := weigh_sum d
        have hc := (ho.cellAt j (by omega)).trans (List.getElem?_eq_getElem hjv)
        rw [← hu] at hc
        have HO := Lib.hid ho
        have HFF := Lib.hid hf
        have HD := Lib.hid hd
        have HU := Lib.hid hu
        clear ho hf hd hu
        go_wp2_with fail
        refine (markRowS_any (cut j) (cut (j + 1)) _ d _ _ HFF.out hr0 hr1 hlen).mono ?_
        rintro e w3 ⟨rfl, t3⟩
        have T3 := Lib.hid t3
        have hs := sumN_succ (g := weighs T) (k := j) (by rw [weighs_len]; exact hlt)
        rw [weighs_get hlt, ← HD.out] at hs
        have HS := Lib.hid hs
        clear t3 hs hc
        obtain ⟨q, hq⟩ : ∃ q, q = r + ((weigh d).sum : Int) := ⟨_, rfl⟩
        have hq0 : 0 ≤ q := by omega
        rw [← hq]
        have HQ := Lib.hid hq
        clear hq
        go_wp2
        go_roundw
        case rel =>
          have m1 := HM.out 0 j (by omega) (by omega)
          have m2 := HM.out (j + 1) T.length (by omega) (Nat.le_refl _)
          have m3 := HGC.out
          have m4 := HC0.out
          have m5 := HCN.out
          refine ⟨j + 1, q, by omega, by go_num, rfl, Lib.hid (by have h1 := hr.out; have h2 := HS.out; have h3 := HQ.out; omega), T3.out.row HO.out (fun b e => .inl (by have := Option.some.inj e; simp at this; omega)), Lib.hid fun i h h' hij => ?_, hI.trans (T3.out.more (by omega) (by omega))⟩
          obtain ⟨zs, us, q1, q2, q3, q4, q5, q6⟩ := hF.out i h h' (by omega)
          have m6 := HM.out (j + 1) i (by omega) (by omega)
          refine ⟨zs, us, T3.out.row q1 (fun b e => .inr (by have := (World.ownsRow.lt q1 b e).1; omega)), q2, ⟨q3.len, fun a z l hz hl => T3.out.row (q3.row a z l hz hl) (fun b e => .inr (by have := (World.ownsRow.lt (q3.row a z l hz hl) b e).1; omega)), q3.apart⟩, q4, q5, q6⟩
        case measure => simp [intOf]; omega
      · obtain rfl : j = T.length := by omega
        go_wp2
        go_ret
        refine ⟨?_, hI⟩
        have h := hr.out
        have h2 := sumN_all (weighs T)
        rw [weighs_len] at h2
        rw [h2] at h
        rw [h]; rfl

set_option maxHeartbeats 1000000 in
theorem markTable_any (lo hi : Nat) (n : Int) (v : Value) (T : List (List RowD)) (k : Int) (w : World) (hv : FreshT lo hi w v T) (hhi : hi ≤ w.heap.size) (h0 : 0 ≤ k) (hk : k ≤ 1048576) (h1 : bulkT T ≤ 10995116277) :
    Calls Try.prog 14 #[.agg #[.int .i64 n, v], .int .i64 k] w (Marked lo hi k (weighs T).sum w) := by
  have hws := weighs_sum T
  have hq0 : 0 ≤ k + ((weighs T).sum : Int) := by omega
  have HX : Hid (Ins lo hi w (w.alloc (.cells #[.int .i64 n, v] 31))) := Lib.hid (Ins.of_ext (Ext.alloc (Ext.refl _) _))
  have HV := Lib.hid (hv.kept (Stood.of_ext (Ext.alloc (Ext.refl _) (.cells #[.int .i64 n, v] 31)) hhi))
  have H1 := Lib.hid h1
  clear hws hv h1
  go_enter Try.func14, Try.ntmps14
  go_wp2_with fail
  refine (markRowSS_any lo hi _ T _ _ HV.out h0 hk H1.out).mono ?_
  rintro e w1 ⟨rfl, t1⟩
  have T1 := Lib.hid t1
  clear t1
  go_wp2
  go_ret
  exact ⟨rfl, HX.out.trans T1.out⟩

end Go.Proofs.Ytjfnkcohpffigaa

namespace Go.Proofs.Ytjfnkcohpffigaa
open Go.RowKit
set_option linter.unusedVariables false

theorem RowAt.ins {lo hi b : Nat} {w w' : World} {r : RowD} {u : Value} (h : RowAt w b r u) (k : Ins lo hi w w') (hb : b < lo ∨ hi ≤ b) : RowAt w' b r u := by
  obtain ⟨h0, h1, h2, h3, h4, h5, h6, h7, h8, h9⟩ := h
  exact ⟨k.cell h0 hb, k.cell h1 hb, k.cell h2 hb, k.cell h3 hb, k.cell h4 hb, k.cell h5 hb, k.cell h6 hb, k.cell h7 hb, k.cell h8 hb, k.cell h9 hb⟩
theorem AttrAt.ins {lo hi b : Nat} {w w' : World} {s : Int} {u : Value} (h : AttrAt w b s u) (k : Ins lo hi w w') (hb : b < lo ∨ hi ≤ b) : AttrAt w' b s u := ⟨k.cell h.1 hb, k.cell h.2 hb⟩
theorem Rowzz.ins {lo hi : Nat} {w0 w w' : World} {v : Value} {T : List (List RowD)} (h0 : Rowzz w0 v T) (x : Ext w0 w) (k : Ins lo hi w w') (hb : w0.heap.size ≤ lo) : Rowzz w' v T := h0.ext (k.ext x hb)

end Go.Proofs.Ytjfnkcohpffigaa

namespace Go.Proofs.Ytjfnkcohpffigaa
open Go.RowKit
set_option linter.unusedVariables false

theorem eqss_succ {L R : List (List Int)} {k : Nat} (h1 : k < L.length) (h2 : k < R.length) (h : L.take k = R.take k) (he : L[k] = R[k]) : L.take (k + 1) = R.take (k + 1) := by
  rw [List.take_add_one, List.take_add_one, h, List.getElem?_eq_getElem h1, List.getElem?_eq_getElem h2, he]

set_option maxHeartbeats 400000 in
theorem eqIntSS_any (u v : Value) (L R : List (List Int)) (w : World) (hu : Intss w u L) (hv : Intss w v R) :
    Calls Try.prog 12 #[u, v] w (BoolExt (decide (L = R)) w) := by
  obtain ⟨au, cu, rfl, hlu, _, hcu⟩ := hu
  obtain ⟨av, cv, rfl, hlv, _, hcv⟩ := hv
  unfold maxLen at hlu hlv
  by_cases hl : L.length = R.length
  · have e0 : ((L.length : Int) != (R.length : Int)) = false := by simp [hl]
    have HL := Lib.hid hl
    clear hl
    go_enter Try.func12, Try.ntmps12
    go_wp2
    go_loopw [5] (fun i wr => ∃ k : Nat, k ≤ L.length ∧ i = .int .i64 k ∧ L.take k = R.take k ∧ Ext w wr) (fun i _ => L.length - (intOf i).toNat)
    case atStart => exact ⟨0, Nat.zero_le _, rfl, rfl, Ext.refl _⟩
    case round =>
      obtain ⟨k, hk, rfl, ht, hx⟩ := hrel
      have HT := Lib.hid ht
      clear ht
      by_cases hlt : k < L.length
      · have hltr : k < R.length := by have := HL.out; omega
        obtain ⟨bu, ou, rfl, du⟩ := hcu (by omega)
        obtain ⟨bv, ov, rfl, dv⟩ := hcv (by omega)
        obtain ⟨x, hx1, ix⟩ := du k hlt
        obtain ⟨y, hy1, iy⟩ := dv k hltr
        rw [List.getElem?_eq_getElem hlt] at ix
        rw [List.getElem?_eq_getElem hltr] at iy
        have gu := hx.cell hx1
        have gv := hx.cell hy1
        have IX := Lib.hid (ix.ext hx)
        have IY := Lib.hid (iy.ext hx)
        clear hcu hcv du dv hx1 hy1 ix iy
        go_wp2_with fail
        go_region_held3 (fun W => Ext wr W ∧ W.cell? ⟨bu, ou + k, none⟩ = some x ∧ W.cell? ⟨bv, ov + k, none⟩ = some y) (first | (exact step2 (by assumption) (by assumption)) | (exact ⟨Ext.drew (Ext.refl _), gu, gv⟩)) (first | (go_at_call 38; refine (eqIntS_any _ _ _ _ _ (IX.out.ext (Ext.drew (Ext.refl _))) (IY.out.ext (Ext.drew (Ext.refl _)))).mono ?_; rintro e W ⟨rfl, x9⟩))
        rename_i hH
        have hx2 : Ext w W := hx.trans hH.1
        clear hH x9 gu gv hx
        by_cases he : L[k] = R[k]
        · rw [decide_eq_true he]
          have HE := Lib.hid he
          clear he
          go_wp2
          go_roundw
          case rel => exact ⟨k + 1, by omega, by go_num, eqss_succ hlt hltr HT.out HE.out, hx2⟩
          case measure => simp [intOf]; omega
        · rw [decide_eq_false he]
          have HE := Lib.hid he
          clear he
          go_wp2
          go_ret
          refine ⟨?_, hx2⟩
          have hne : decide (L = R) = false := decide_eq_false (fun h => HE.out (by subst h; rfl))
          rw [hne]; rfl
      · have hk' : k = L.length := by omega
        subst hk'
        go_wp2
        go_ret
        refine ⟨?_, hx⟩
        have he : decide (L = R) = true := by
          have h := HT.out
          rw [List.take_length, HL.out, List.take_length] at h
          exact decide_eq_true h
        rw [he]; rfl
  · have e0 : ((L.length : Int) != (R.length : Int)) = true := by simp; omega
    have HL := Lib.hid hl
    clear hl
    go_enter Try.func12, Try.ntmps12
    go_wp2
    go_ret
    refine ⟨?_, Ext.refl w⟩
    have hne : decide (L = R) = false := decide_eq_false (fun h => HL.out (by rw [h]))
    rw [hne]; rfl

end Go.Proofs.Ytjfnkcohpffigaa

namespace Go.Proofs.Ytjfnkcohpffigaa
open Go.RowKit
set_option linter.unusedVariables false

/-- The first j lists bear marks, the others are as they were. -/
def markedSS (k : Int) (L : List (List Int)) (j : Nat) : List (List Int) := (List.range L.length).map fun i => if i < j then marks (k + sumTo L i) (L[i]?.getD []).length else L[i]?.getD []
theorem markedSS_length (k : Int) (L : List (List Int)) (j : Nat) : (markedSS k L j).length = L.length := by simp [markedSS]
theorem markedSS_zero (k : Int) (L : List (List Int)) : markedSS k L 0 = L := by
  apply List.ext_getElem
  · simp [markedSS]
  · intro i h1 h2
    simp [markedSS, List.getElem?_eq_getElem h2]
theorem markedSS_old {k : Int} {L : List (List Int)} {j i : Nat} (hi : i < L.length) (h : j ≤ i) : (markedSS k L j)[i]? = some L[i] := by
  simp [markedSS, hi, Nat.not_lt.2 h]
theorem markedSS_new {k : Int} {L : List (List Int)} {j i : Nat} (hi : i < L.length) (h : i < j) : (markedSS k L j)[i]? = some (marks (k + sumTo L i) (L[i]).length) := by
  simp [markedSS, hi, h]
theorem markedSS_succ {k : Int} {L : List (List Int)} {j : Nat} (h : j < L.length) : (markedSS k L j).set j (marks (k + sumTo L j) (L[j]).length) = markedSS k L (j + 1) := by
  apply List.ext_getElem?
  intro i
  rw [List.getElem?_set, markedSS_length]
  by_cases hi : i < L.length
  · by_cases e : j = i
    · subst e
      rw [if_pos rfl, if_pos h, markedSS_new h (by omega)]
    · rw [if_neg e]
      by_cases hij : i < j
      · rw [markedSS_new hi hij, markedSS_new hi (by omega)]
      · rw [markedSS_old hi (by omega), markedSS_old hi (by omega)]
  · rw [List.getElem?_eq_none (by rw [markedSS_length]; omega), List.getElem?_eq_none (by rw [markedSS_length]; omega)]
    split
    · omega
    · rfl

theorem Rows_.mark {B : Nat} {w w' : World} {vs : List Value} {L : List (List Int)} {j : Nat} {z : Value} {l : List Int} (h : Rows_ B w vs L) (hj : vs[j]? = some z) (t : w.grownBy w' z.ownBlock) (hz : Fresh B w' z l) : Rows_ B w' vs (L.set j l) := by
  have hjl : j < L.length := by rw [← h.len]; exact (List.getElem?_eq_some_iff.1 hj).1
  refine ⟨by simp [h.len], fun i u r hu hr => ?_, h.apart⟩
  rw [List.getElem?_set] at hr
  by_cases e : j = i
  · subst e
    rw [if_pos rfl, if_pos hjl] at hr
    rw [hj] at hu
    cases hu
    cases hr
    exact hz
  · rw [if_neg e] at hr
    exact World.ownsRow.kept (h.row i u r hu hr) t (h.apart i j u z (fun e' => e e'.symm) hu hj)

/-- What comes back of the marks: the number behind the last, and nothing below B has turned. -/
def MarksSS (B : Nat) (k : Int) (v : Value) (L : List (List Int)) (w : World) (e : Ending) (w' : World) : Prop :=
  e = .returned (.int .i64 (k + (L.map List.length).sum)) ∧ FreshSS B w' v (markedSS k L L.length) ∧ Below B w w'

set_option maxHeartbeats 800000 in
theorem markIntSS_any (B : Nat) (v : Value) (L : List (List Int)) (k : Int) (w : World) (hv : FreshSS B w v L) (hB : B ≤ w.heap.size) (h0 : 0 ≤ k) (hk : k ≤ 1048576) (h1 : bulk L ≤ 1099511627776) :
    Calls Try.prog 15 #[v, .int .i64 k] w (MarksSS B k v L w) := by
  obtain ⟨vs, ho, hR, hout⟩ := hv
  have hvl := hR.len
  have hL : L.length ≤ 1099511627776 := by unfold bulk at h1; omega
  have hsum : (L.map List.length).sum ≤ 1099511627776 := by unfold bulk at h1; omega
  rcases ho.2 with ⟨rfl, hn⟩ | ⟨g, cap, cur, rfl, hb, hg, hnc, hcm, hcs, htake⟩
  · obtain rfl : L = [] := List.eq_nil_of_length_eq_zero hn
    clear h1 hsum
    go_enter Try.func15, Try.ntmps15
    go_wp2
    refine wp_loop_rounds 1 ?_; rw [rounds_succ]
    go_wp2
    go_ret
    exact ⟨by simp, FreshSS.nil _ _, Below.refl _ _⟩
  · have hout' : ∀ (j : Nat) (u : Value), vs[j]? = some u → u.ownBlock = none ∨ u.ownBlock ≠ some g := hout
    have HOUT := Lib.hid hout'
    have H1 := Lib.hid h1
    have HVL := Lib.hid hvl
    have HSUM := Lib.hid hsum
    clear hg hnc hcm hcs htake cur hb hout hout' h1 hvl hsum
    go_enter Try.func15, Try.ntmps15
    go_wp2
    go_loopw [1, 5] (fun m i wr => ∃ (j : Nat) (r : Int), j ≤ L.length ∧ i = .int .i64 j ∧ m = .int .i64 r ∧ Hid (r = k + sumTo L j) ∧ wr.ownsRow B 46 1 (.slice (some ⟨g, 0, none⟩) L.length cap) L.length vs ∧ Rows_ B wr vs (markedSS k L j) ∧ Below B w wr) (fun _ i _ => L.length - (intOf i).toNat)
    case atStart => exact ⟨0, k, Nat.zero_le _, rfl, rfl, Lib.hid (by simp [sumTo]), ho, by rw [markedSS_zero]; exact hR, Below.refl _ _⟩
    case round =>
      clear ho hR
      obtain ⟨j, r, hj, rfl, rfl, hr, ho, hR, hx⟩ := hrel
      by_cases hlt : j < L.length
      · obtain ⟨z, hz⟩ : ∃ z, vs[j]? = some z := ⟨_, List.getElem?_eq_getElem (by rw [HVL.out]; exact hlt)⟩
        have hc := (ho.cellAt j (by omega)).trans hz
        have hf := hR.row j z _ hz (markedSS_old hlt (Nat.le_refl _))
        have hrow : (L[j]).length ≤ 1099511627776 := by have := bulk_row hlt; have := H1.out; omega
        have hr0 : 0 ≤ r := by have := hr.out; omega
        have hr1 : r ≤ 2199024304128 := by have h := hr.out; have := sumTo_mono (L := L) (k := j) hj; have := HSUM.out; omega
        have HO := Lib.hid ho
        have HR := Lib.hid hR
        have HZ := Lib.hid hz
        have HX := Lib.hid hx
        have HFF := Lib.hid hf
        clear ho hR hz hx hf
        go_wp2_with fail
        refine (markIntS_any B _ _ _ _ HFF.out hr0 (by omega)).mono ?_
        rintro e w2 ⟨rfl, f2, t2⟩
        have hR2 := HR.out.mark HZ.out t2 (by
          have e := hr.out
          rw [e] at f2
          exact f2)
        rw [markedSS_succ hlt] at hR2
        have ho2 := World.ownsRow.kept HO.out t2 (by
          rcases HOUT.out j z HZ.out with h | h
          · exact .inr (by rw [h]; simp [Value.ownBlock])
          · exact .inr (fun e => h e.symm))
        have hx2 : Below B w w2 := Below.grown HX.out t2 (Nat.le_trans hB HX.out.size) (fun q hq => (World.ownsRow.lt HFF.out q hq).1)
        have hs := sumTo_succ hlt
        have HS := Lib.hid hs
        clear f2 t2 hc hs
        go_wp2
        go_roundw
        case rel => exact ⟨j + 1, r + (L[j]).length, by omega, by go_num, rfl, Lib.hid (by have := hr.out; have := HS.out; omega), ho2, hR2, hx2⟩
        case measure => simp [intOf]; omega
      · obtain rfl : j = L.length := by omega
        have HO := Lib.hid ho
        have HR := Lib.hid hR
        clear ho hR
        go_wp2
        go_ret
        refine ⟨?_, ⟨vs, by rw [markedSS_length]; exact HO.out, HR.out, HOUT.out⟩, hx⟩
        have h := hr.out
        rw [sumTo_all] at h
        rw [h]; rfl

set_option maxHeartbeats 800000 in
/-- Where the marks lie, they are met. -/
theorem heldIntSS_yes (v : Value) (L : List (List Int)) (k : Int) (w : World) (hv : Intss w v (markedSS k L L.length)) (h0 : 0 ≤ k) (hk : k ≤ 1048576) (h1 : bulk L ≤ 1099511627776) :
    Calls Try.prog 16 #[v, .int .i64 k] w (IntExt (k + (L.map List.length).sum) w) := by
  obtain ⟨av, cv, rfl, hlv, _, hcv⟩ := hv
  rw [markedSS_length] at hcv hlv ⊢
  unfold maxLen at hlv
  have hL : L.length ≤ 1099511627776 := by unfold bulk at h1; omega
  have hsum : (L.map List.length).sum ≤ 1099511627776 := by unfold bulk at h1; omega
  have H1 := Lib.hid h1
  have HSUM := Lib.hid hsum
  clear h1 hsum
  go_enter Try.func16, Try.ntmps16
  go_wp2
  go_loopw [1, 5] (fun m i wr => ∃ (j : Nat) (r : Int), j ≤ L.length ∧ i = .int .i64 j ∧ m = .int .i64 r ∧ Hid (r = k + sumTo L j) ∧ Ext w wr) (fun _ i _ => L.length - (intOf i).toNat)
  case atStart => exact ⟨0, k, Nat.zero_le _, rfl, rfl, Lib.hid (by simp [sumTo]), Ext.refl _⟩
  case round =>
    obtain ⟨j, r, hj, rfl, rfl, hr, hx⟩ := hrel
    by_cases hlt : j < L.length
    · obtain ⟨bv, ov, rfl, dv⟩ := hcv (by omega)
      obtain ⟨x, hx1, ix⟩ := dv j hlt
      rw [markedSS_new hlt hlt, Option.getD_some] at ix
      have gv := hx.cell hx1
      have hrow : (L[j]).length ≤ 1099511627776 := by have := bulk_row hlt; have := H1.out; omega
      have hr0 : 0 ≤ r := by have := hr.out; omega
      have hr1 : r ≤ 2199024304128 := by have h := hr.out; have := sumTo_mono (L := L) (k := j) hj; have := HSUM.out; omega
      rw [← hr.out] at ix
      have IX := Lib.hid (ix.ext hx)
      have HS := Lib.hid (sumTo_succ hlt)
      clear hcv dv hx1 ix
      go_wp2_with fail
      refine (heldIntS_yes _ _ _ _ IX.out hr0 (by omega)).mono ?_
      rintro e w2 ⟨rfl, x2⟩
      have hr2 : 0 ≤ r + (L[j]).length := by omega
      go_wp2
      go_roundw
      case rel => exact ⟨j + 1, r + (L[j]).length, by omega, by go_num, rfl, Lib.hid (by have := hr.out; have := HS.out; omega), hx.trans x2⟩
      case measure => simp [intOf]; omega
    · obtain rfl : j = L.length := by omega
      go_wp2
      go_ret
      refine ⟨?_, hx⟩
      have h := hr.out
      rw [sumTo_all] at h
      rw [h]; rfl

/-- What was made before B stands while nothing below B turns. -/
theorem Ext.under {B : Nat} {w0 w w' : World} (e : Ext w0 w) (k : Below B w w') (hb : w0.heap.size ≤ B) : Ext w0 w' := Below.trans e (Below.mono k hb)

end Go.Proofs.Ytjfnkcohpffigaa

namespace Go.Proofs.Ytjfnkcohpffigaa
open Go.RowKit
set_option linter.unusedVariables false

theorem eqIntSS_self (u v : Value) (L : List (List Int)) (w : World) (hu : Intss w u L) (hv : Intss w v L) : Calls Try.prog 12 #[u, v] w (BoolExt true w) := by
  have h := eqIntSS_any u v L L w hu hv
  rwa [decide_eq_true rfl] at h

/-- As FreshSS, from block 0 on, all below h. -/
def SSI (h : Nat) (w : World) (v : Value) (L : List (List Int)) : Prop := ∃ vs, w.ownsRow 0 46 1 v L.length vs ∧ Rows_ 0 w vs L ∧ Und h v ∧ ∀ (j : Nat) (u : Value), vs[j]? = some u → Und h u
theorem FreshSS.below {B h : Nat} {w : World} {v : Value} {L : List (List Int)} (f : FreshSS B w v L) (hb : w.heap.size ≤ h) : SSI h w v L := by
  obtain ⟨vs, h1, h2, _⟩ := f
  refine ⟨vs, ownsRow_more h1 (Nat.zero_le _), h2.more (Nat.zero_le _), fun b e => Nat.lt_of_lt_of_le (World.ownsRow.lt h1 b e).2 hb, fun j u hu => ?_⟩
  have hj : j < vs.length := (List.getElem?_eq_some_iff.1 hu).1
  exact (h2.row j u _ hu (List.getElem?_eq_getElem (by rw [← h2.len]; exact hj))).und.more hb
theorem SSI.stood {h : Nat} {w w' : World} {v : Value} {L : List (List Int)} (f : SSI h w v L) (k : Stood 0 h w w') : SSI h w' v L := by
  obtain ⟨vs, h1, h2, h3, h4⟩ := f
  refine ⟨vs, k.row h1 (fun b e => ⟨Nat.zero_le _, h3 b e⟩), ⟨h2.len, fun j u l hu hl => k.row (h2.row j u l hu hl) (fun b e => ⟨Nat.zero_le _, h4 j u hu b e⟩), h2.apart⟩, h3, h4⟩
theorem SSI.ext {h : Nat} {w w' : World} {v : Value} {L : List (List Int)} (f : SSI h w v L) (e : Ext w w') : SSI h w' v L := by
  obtain ⟨vs, h1, h2, h3, h4⟩ := f
  exact ⟨vs, e.ownsRow h1, h2.ext e, h3, h4⟩
theorem SSI.intss {h : Nat} {w : World} {v : Value} {L : List (List Int)} (f : SSI h w v L) : Intss w v L := by
  obtain ⟨vs, h1, h2, h3, h4⟩ := f
  exact (FreshSS.of h1 h2).intss
theorem FreshSS.ins {lo hi B : Nat} {w w' : World} {v : Value} {L : List (List Int)} (f : FreshSS B w v L) (k : Ins lo hi w w') (hb : hi ≤ B) : FreshSS B w' v L := by
  obtain ⟨vs, h1, h2, h3⟩ := f
  exact ⟨vs, k.row h1 (fun b e => .inr (Nat.le_trans hb (World.ownsRow.lt h1 b e).1)), ⟨h2.len, fun j u l hu hl => (h2.row j u l hu hl).ins_high k hb, h2.apart⟩, h3⟩

/-- The argument's box N, the model's answer v3 (below h3), the program's v5 (from B on). -/
def LiveS (w W : World) (N h3 B : Nat) (n : Int) (v v3 v5 : Value) (L M : List (List Int)) : Prop :=
  Ext w W ∧ AttrAt W N n v ∧ SSI h3 W v3 L ∧ FreshSS B W v5 M
theorem LiveS.ext {w W W' : World} {N h3 B : Nat} {n : Int} {v v3 v5 : Value} {L M : List (List Int)} (h : LiveS w W N h3 B n v v3 v5 L M) (e : Ext W W') : LiveS w W' N h3 B n v v3 v5 L M :=
  ⟨h.1.trans e, h.2.1.ext e, h.2.2.1.ext e, h.2.2.2.ext e⟩
theorem LiveS.ins {w W W' : World} {N h3 B lo hi : Nat} {n : Int} {v v3 v5 : Value} {L M : List (List Int)} (h : LiveS w W N h3 B n v v3 v5 L M) (k : Ins lo hi W W')
    (h0 : w.heap.size ≤ lo) (hN : N < lo) (hh : h3 ≤ lo) (hB : hi ≤ B) (hs : h3 ≤ W.heap.size) : LiveS w W' N h3 B n v v3 v5 L M := by
  obtain ⟨a, b, c, e⟩ := h
  exact ⟨k.ext a h0, b.ins k (.inl hN), c.stood (k.stood hs (.inl hh)), e.ins k hB⟩
theorem LiveS.mark {w W W' : World} {N h3 B : Nat} {n : Int} {v v3 v5 : Value} {L M M' : List (List Int)} (h : LiveS w W N h3 B n v v3 v5 L M) (k : Below B W W') (f' : FreshSS B W' v5 M')
    (h0 : w.heap.size ≤ B) (hN : N < B) (hh : h3 ≤ B) : LiveS w W' N h3 B n v v3 v5 L M' := by
  obtain ⟨a, b, c, e⟩ := h
  exact ⟨a.under k h0, ⟨(Below.cell k (p := ⟨N, 0, none⟩) hN).trans b.1, (Below.cell k (p := ⟨N, 1, none⟩) hN).trans b.2⟩, c.stood ⟨k.size, fun x _ h2 => Below.block k x (by omega)⟩, f'⟩

end Go.Proofs.Ytjfnkcohpffigaa

namespace Go.Proofs.Ytjfnkcohpffigaa
open Go.RowKit
set_option linter.unusedVariables false

/-- A slice that reads as L, and a Bool, come back. -/
def ReadSS (L : List (List Int)) (b : Bool) (w : World) (e : Ending) (w' : World) : Prop := ∃ v, e = .returned (.tuple #[v, .bool b]) ∧ Intss w' v L ∧ Ext w w'
/-- The argument's box N, the model's answer v3 as it lay in W3, the program's v5 (from B on). -/
structure LiveQ (w W3 W : World) (N B : Nat) (n : Int) (v v3 v5 : Value) (L M : List (List Int)) : Prop where
  ext : Ext w W
  arg : AttrAt W N n v
  old : Ext W3 W
  i3 : Intss W3 v3 L
  f5 : FreshSS B W v5 M
theorem LiveQ.read {w W3 W : World} {N B : Nat} {n : Int} {v v3 v5 : Value} {L M : List (List Int)} (h : LiveQ w W3 W N B n v v3 v5 L M) : Intss W v3 L := h.i3.ext h.old
theorem LiveQ.on {w W3 W W' : World} {N B : Nat} {n : Int} {v v3 v5 : Value} {L M : List (List Int)} (h : LiveQ w W3 W N B n v v3 v5 L M) (e : Ext W W') : LiveQ w W3 W' N B n v v3 v5 L M :=
  ⟨h.ext.trans e, h.arg.ext e, h.old.trans e, h.i3, h.f5.ext e⟩
theorem LiveQ.ins {w W3 W W' : World} {N B lo hi : Nat} {n : Int} {v v3 v5 : Value} {L M : List (List Int)} (h : LiveQ w W3 W N B n v v3 v5 L M) (k : Ins lo hi W W')
    (h0 : w.heap.size ≤ lo) (hN : N < lo) (hh : W3.heap.size ≤ lo) (hB : hi ≤ B) : LiveQ w W3 W' N B n v v3 v5 L M :=
  ⟨k.ext h.ext h0, h.arg.ins k (.inl hN), k.ext h.old hh, h.i3, h.f5.ins k hB⟩
theorem LiveQ.mark {w W3 W W' : World} {N B : Nat} {n : Int} {v v3 v5 : Value} {L M M' : List (List Int)} (h : LiveQ w W3 W N B n v v3 v5 L M) (k : Below B W W') (f' : FreshSS B W' v5 M')
    (h0 : w.heap.size ≤ B) (hN : N < B) (hh : W3.heap.size ≤ B) : LiveQ w W3 W' N B n v v3 v5 L M' :=
  ⟨h.ext.under k h0, ⟨(Below.cell k (p := ⟨N, 0, none⟩) hN).trans h.arg.1, (Below.cell k (p := ⟨N, 1, none⟩) hN).trans h.arg.2⟩, h.old.under k hh, h.i3, f'⟩
end Go.Proofs.Ytjfnkcohpffigaa
