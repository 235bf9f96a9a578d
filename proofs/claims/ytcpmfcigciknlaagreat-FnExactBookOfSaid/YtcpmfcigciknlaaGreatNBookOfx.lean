/- Texts of this proof, part x: words, plain facts, contracts. -/
import Derived.Test.YtcpmfcigciknlaaGreatNBookOfw
import Derived.Test.YtcpmfcigciknlaaGreatNBookOfq
import Derived.Test.YtcpmfcigciknlaaGreatNBookOfs
import Derived.Deep.RegionHeld3
import Derived.Test.YtcpmfcigciknlaaGreatNBookOfa
import Derived.Test.YtcpmfcigciknlaaGreatNBookOfc
import Derived.Test.YtcpmfcigciknlaaGreatNBookOfd
import Derived.Test.YtcpmfcigciknlaaGreatNBookOfp
import Derived.Test.YtcpmfcigciknlaaGreatNBookOff
import Derived.Test.YtcpmfcigciknlaaGreatNBookOfe
import Derived.Test.YtcpmfcigciknlaaGreatNBookOfr
set_option linter.unusedVariables false
set_option linter.unusedSimpArgs false

namespace Go.Proofs.YtcpmfcigciknlaaGreat
open Go.RowKit
set_option linter.unusedVariables false
def Booked2 (S : List Int) (D : List EnD) (w : World) (e : Ending) (w' : World) : Prop :=
  ∃ v u, e = .returned (.tuple #[v, u]) ∧ Ints w' v S ∧ Enz w' u D ∧ Ext w w'
def BookedS (S : List Int) (D : List EnD) (b : Bool) (w : World) (e : Ending) (w' : World) : Prop :=
  ∃ v u, e = .returned (.tuple #[v, u, .bool b]) ∧ Ints w' v S ∧ Enz w' u D ∧ Ext w w'
theorem field_rowCs (b v st k i f t a s : Int) (u : Value) (W : World) : (Instr.field 83 (.agg #[.int .i64 b, .int .i64 v, .int .i64 st, .int .i64 k, .int .i64 i, .int .i64 f, .int .i64 t, .int .i64 a, .int .i64 s, u]) 3).run Tryz.prog W = .ok (.agg #[.int .i64 k, .int .i64 i, .int .i64 f, .int .i64 t, .int .i64 a]) W := by kernel_rfl
set_option maxHeartbeats 8000000 in
set_option maxRecDepth 100000 in
theorem l12Book_any (n : Int) (u : Value) (T : List (List RowD)) (w : World) (hu : Rowzz w u T) (hg : goodTab n T = true) :
    Calls Tryz.prog 34 #[.agg #[.int .i64 n, u]] w (Booked2 (bookS n T) (bookE n T) w) := by
  obtain ⟨S, hS⟩ : ∃ x, x = bookS n T := ⟨_, rfl⟩
  obtain ⟨E, hE⟩ : ∃ x, x = bookE n T := ⟨_, rfl⟩
  rw [← hS, ← hE]
  have hx0 := Ext.alloc1 w (.cells #[.int .i64 n, u] 32)
  have b0 := attrAt_new w 32 n u
  have HU := Lib.hid (hu.ext hx0)
  have HX := Lib.hid hx0
  have HB0 := Lib.hid b0
  have HGG := Lib.hid hg
  obtain ⟨au, cu, rfl, hlu, _, _⟩ := hu
  have HS0 := Lib.hid hS
  have HE0 := Lib.hid hE
  clear hx0 b0 hg hS hE
  go_enter Tryz.func34, Tryz.ntmps34
  go_wp2_with fail
  refine (l6Order_any n _ T _ HU.out HGG.out).mono ?_
  rintro e w1 ⟨v1, rfl, hio, x1⟩
  rw [← ordPts_pairs] at hio
  obtain ⟨P, hP⟩ : ∃ P, P = ordPts n T := ⟨_, rfl⟩
  obtain ⟨C, hC⟩ : ∃ C, C = bookC n T := ⟨_, rfl⟩
  have hCl : C.length = P.length := by rw [hC, hP, bookC_len]
  have hP30 : P.length ≤ 30 := by rw [hP]; exact ordPts_len HGG.out
  have hSE : S = sumsAt C P.length ∧ E = entsTo P C P.length := by
    refine ⟨?_, ?_⟩
    · rw [HS0.out]; unfold bookS; rw [← hC, hCl]
    · rw [HE0.out]; unfold bookE; rw [← hC, ← hP]
  have hok : cmdsB C = true := by rw [hC]; exact bookC_ok HGG.out
  have hPm : ∀ x ∈ P, x.1 < T.length ∧ x.2 ≤ 5 := fun x hx => (ordPts_row HGG.out (by rw [← hP]; exact hx)).2
  have hCx : ∀ j (hj : j < P.length) (hj' : j < C.length), C[j] = cmdR (rowOf n T P[j].1 P[j].2) := fun j hj hj' => by
    have h1 : C[j]? = some (cmdR (rowOf n T P[j].1 P[j].2)) := by
      rw [hC]
      unfold bookC
      rw [List.getElem?_map, ← hP, List.getElem?_eq_getElem hj]
      rfl
    exact (List.getElem?_eq_some_iff.1 h1).2
  rw [← hP] at hio
  obtain ⟨ai, ci, rfl, hli, _, hci⟩ := hio
  have hml : (P.map pairOf).length = P.length := by simp
  obtain ⟨m, hm⟩ : ∃ m, m = P.length := ⟨_, rfl⟩
  rw [hml, ← hm] at hli ⊢
  rw [← hm] at hP30
  have HCI := Lib.hid hci
  have HMM := Lib.hid hm
  have HCL := Lib.hid hCl
  have HSE := Lib.hid hSE
  have HOK := Lib.hid hok
  have HPM := Lib.hid hPm
  have HCX := Lib.hid hCx
  have X1 := Lib.hid x1
  have KT : Hid (∀ V, Ext w1 V → V.cell? ⟨w.heap.size, 0, none⟩ = some (.int .i64 n) ∧ V.cell? ⟨w.heap.size, 1, none⟩ = some (.slice au T.length cu)) := Lib.hid (fun V hV => (HB0.out.ext X1.out).ext hV)
  clear hci hm hCl hSE hok hPm hCx hP hC hml x1
  go_wp2
  go_loopw [5, 7, 17] (fun cv _ i wr => ∃ k : Nat, k ≤ m ∧ i = .int .i64 k ∧ Hid (FreshCd w1.heap.size wr cv (C.take k)) ∧ Hid (Ext w1 wr)) (fun _ _ i _ => m - (intOf i).toNat)
  case atStart => exact ⟨0, Nat.zero_le _, rfl, Lib.hid (FreshCd.nil _ _), Lib.hid (Ext.refl _)⟩
  case round =>
    obtain ⟨k, hk, rfl, HF, HXW⟩ := hrel
    by_cases hlt : k < m
    · have hkP : k < P.length := Nat.lt_of_lt_of_eq hlt HMM.out
      have hkC : k < C.length := by have := HCL.out; omega
      obtain ⟨bi, oi, rfl, di⟩ := HCI.out (by rw [List.length_map]; omega)
      obtain ⟨xv, gx0, ix⟩ := di k (by rw [List.length_map]; exact hkP)
      rw [List.getElem?_map, List.getElem?_eq_getElem hkP] at ix
      replace ix : Ints w1 xv (pairOf P[k]) := ix
      have gx := HXW.out.cell gx0
      obtain ⟨x, hx⟩ : ∃ x, x = P[k] := ⟨_, rfl⟩
      rw [← hx] at ix
      obtain ⟨bx, ox, cx, rfl, q0, q1⟩ := pair_at ix
      obtain ⟨hpT, hq5⟩ := HPM.out x (by rw [hx]; exact List.getElem_mem hkP)
      have hck := HCX.out k hkP hkC
      rw [← hx] at hck
      obtain ⟨p, q⟩ := x
      dsimp only at hpT hq5 hck
      obtain ⟨r, hr⟩ : ∃ r, r = rowOf n T p q := ⟨_, rfl⟩
      have ca : ∀ V, Ext wr V → Calls Tryz.prog 65 #[.agg #[.int .i64 n, .slice au T.length cu], .int .i64 p, .int .i64 ((q : Int) + 1)] V (NewRow r V) := fun V hV => by rw [hr]; exact l4At_any n _ T p q V (HU.out.ext (X1.out.trans (HXW.out.trans hV))) HGG.out hpT hq5
      rw [← hr] at hck
      have hst : C.take (k + 1) = C.take k ++ [(⟨r.k, r.i, r.f, r.t, r.a⟩ : CmdD)] := by
        rw [List.take_succ_eq_append_getElem hkC, hck]
        rfl
      obtain ⟨ak, ck, hkv⟩ := HF.out.form
      have hkl : (C.take k).length = k := by rw [List.length_take]; omega
      rw [hkl] at hkv
      subst hkv
      have ks : ∀ V, Ext w1 V → V.cell? ⟨w.heap.size, 0, none⟩ = some (.int .i64 n) ∧ V.cell? ⟨w.heap.size, 1, none⟩ = some (.slice au T.length cu) ∧ V.cell? ⟨bx, ox, none⟩ = some (.int .i64 (p : Int)) ∧ V.cell? ⟨bx, ox + 1, none⟩ = some (.int .i64 ((q : Int) + 1)) := fun V hV => by
        obtain ⟨t0, t1⟩ := KT.out V hV
        exact ⟨t0, t1, hV.cell q0, hV.cell q1⟩
      have KS := Lib.hid ks
      have CA := Lib.hid ca
      have HST := Lib.hid hst
      have HKJ := Lib.hid hkl
      have HR := Lib.hid (Ext.trans HXW.out (Ext.drew (Ext.refl wr)))
      have HLTM := Lib.hid hlt
      have HK30 : Hid (k ≤ 30) := Lib.hid (by omega)
      clear di gx0 ix hx q0 q1 hpT hck hr ca ks hst hkl hkC hkP
      go_wp2_with fail
      clear gx
      go_region_held3 (fun V => V.cell? ⟨w.heap.size, 0, none⟩ = some (.int .i64 n) ∧ V.cell? ⟨w.heap.size, 1, none⟩ = some (.slice au T.length cu) ∧ V.cell? ⟨bx, ox, none⟩ = some (.int .i64 (p : Int)) ∧ V.cell? ⟨bx, ox + 1, none⟩ = some (.int .i64 ((q : Int) + 1))) (first | (with_reducible exact KS.out _ HR.out) | (with_reducible exact KS.out _ HWN.out) | (with_reducible exact KS.out _ HW9.out) | (with_reducible exact KS.out _ HW8.out)) (first
        | (go_at_call 65; refine (CA.out _ (Ext.drew (Ext.refl _))).mono ?_; rintro e w8 ⟨z8, rfl, f8, x8'⟩; have x8 : Ext wr w8 := (Ext.drew (Ext.refl _)).trans x8'; have HW8 := Lib.hid (Ext.trans HXW.out x8); have HW9 := Lib.hid (Ext.alloc (Ext.trans HXW.out x8) (.cells #[.int .i64 r.k, .int .i64 r.i, .int .i64 r.f, .int .i64 r.t, .int .i64 r.a] 77)); have hfd := field_rowCs r.b r.v r.st r.k r.i r.f r.t r.a r.s z8)
        | (refine step_pushCd rfl (.tmp 21) (.tmp 31) rfl w1.heap.size (.slice ak k ck) (C.take k) ⟨r.k, r.i, r.f, r.t, r.a⟩ rfl (FreshCd.ext HF.out (Ext.alloc x8 _)) w8.heap.size 1 rfl (cd_box w8 _ ⟨r.k, r.i, r.f, r.t, r.a⟩) k HKJ.out (by have := HK30.out; omega) (by have := HXW.out.size; have := x8.size; simp only [World.size_alloc]; omega) ?_; intro ao' c' W' hf' hg'; have HFN : Hid (FreshCd w1.heap.size W' (.slice ao' (k + 1) c') (C.take (k + 1))) := Lib.hid (by rw [HST.out]; exact hf'); have HWN : Hid (Ext w1 W') := Lib.hid (FreshCd.touchE (HXW.out.trans (Ext.alloc x8 _)) (FreshCd.ext HF.out (Ext.alloc x8 _)) hg')))
      clear hf' hg' x8 x8' f8 hfd HW8 HW9
      go_wp2
      go_roundw
      case rel => exact ⟨k + 1, by have := HLTM.out; omega, by go_num, HFN, HWN⟩
      case measure => simp [intOf]; have := HLTM.out; omega
    · obtain rfl : k = m := by omega
      have hfc := HF.out.at
      rw [show C.take k = C by rw [HMM.out, ← HCL.out, List.take_length]] at hfc
      have HFC := Lib.hid hfc
      have XA := Lib.hid HXW.out
      clear HF HXW hfc
      go_wp2_with fail
      refine (l11Play_any _ C _ HFC.out HOK.out).mono ?_
      rintro e w7 ⟨vs, vt, rfl, his, htd, x7⟩
      have IS := Lib.hid his
      have X7 := Lib.hid (XA.out.trans x7)
      obtain ⟨ac, cc, hcv, _, _, hcc⟩ := id (HFC.out.ext x7)
      subst hcv
      obtain ⟨at_, ct, rfl, _, _, htt⟩ := htd
      have hlt1 : (toldN C C.length).length = k := by rw [toldN_len, HCL.out, HMM.out]
      have hlc1 : C.length = k := by rw [HCL.out, HMM.out]
      rw [hlt1, hlc1]
      have HCC := Lib.hid hcc
      have HTT := Lib.hid htt
      have HLC := Lib.hid hlc1
      clear his x7 hcc htt hlt1 hlc1 HFC XA
      go_wp2
      go_loopw [10, 11, 12, 41] (fun ev _ _ i wr => ∃ t : Nat, t ≤ k ∧ i = .int .i64 t ∧ Hid (FreshEn w7.heap.size wr ev (entsTo P C t)) ∧ Hid (Ext w7 wr)) (fun _ _ _ i _ => k - (intOf i).toNat)
      case atStart => exact ⟨0, Nat.zero_le _, rfl, Lib.hid (FreshEn.nil _ _), Lib.hid (Ext.refl _)⟩
      case round =>
        obtain ⟨t, ht, rfl, HF, HXW⟩ := hrel
        by_cases htl : t < k
        · have htP : t < P.length := Nat.lt_of_lt_of_eq htl HMM.out
          have htC : t < C.length := by have := HCL.out; omega
          obtain ⟨bi, oi, rfl, di⟩ := HCI.out (by rw [List.length_map]; omega)
          obtain ⟨xv, gx0, ix⟩ := di t (by rw [List.length_map]; exact htP)
          rw [List.getElem?_map, List.getElem?_eq_getElem htP] at ix
          replace ix : Ints w1 xv (pairOf P[t]) := ix
          have gx := (X7.out.trans HXW.out).cell gx0
          obtain ⟨x, hx⟩ : ∃ x, x = P[t] := ⟨_, rfl⟩
          rw [← hx] at ix
          obtain ⟨bx, ox, cx, rfl, q0, q1⟩ := pair_at ix
          obtain ⟨bc, oc, rfl, dc⟩ := HCC.out (by have := HLC.out; omega)
          have hdc := dc t htC
          obtain ⟨d, hd⟩ : ∃ d, d = C[t] := ⟨_, rfl⟩
          rw [← hd] at hdc
          obtain ⟨r0, r1, r2, r3, r4⟩ := cdIn_cells hdc
          obtain ⟨bt, ot, rfl, dt⟩ := HTT.out (by rw [toldN_len]; omega)
          have hdt := dt t (by rw [toldN_len]; exact htC)
          rw [toldN_at htC] at hdt
          obtain ⟨y, hy⟩ : ∃ y, y = toldOne (sumsAt C t) C[t] := ⟨_, rfl⟩
          rw [← hy] at hdt
          obtain ⟨s0, s1⟩ := tdIn_cells hdt
          have hee := entsTo_succ (P := P) (C := C) (k := t) htP htC
          rw [← hx, ← hy, ← hd] at hee
          obtain ⟨p, q⟩ := x
          have HE : Hid (entsTo P C (t + 1) = entsTo P C t ++ [(⟨(p : Int), (q : Int) + 1, d.k, d.i, d.f, d.t, d.a, y.c, y.s⟩ : EnD)]) := Lib.hid hee
          dsimp only at q0 q1
          have ks : ∀ V, Ext w7 V → V.cell? ⟨bx, ox, none⟩ = some (.int .i64 (p : Int)) ∧ V.cell? ⟨bx, ox + 1, none⟩ = some (.int .i64 ((q : Int) + 1)) ∧ V.cell? ⟨bc, oc + t * 5, none⟩ = some (.int .i64 d.k) ∧ V.cell? ⟨bc, oc + t * 5 + 1, none⟩ = some (.int .i64 d.i) ∧ V.cell? ⟨bc, oc + t * 5 + 2, none⟩ = some (.int .i64 d.f) ∧ V.cell? ⟨bc, oc + t * 5 + 3, none⟩ = some (.int .i64 d.t) ∧ V.cell? ⟨bc, oc + t * 5 + 4, none⟩ = some (.int .i64 d.a) ∧ V.cell? ⟨bt, ot + t * 2, none⟩ = some (.int .i64 y.c) ∧ V.cell? ⟨bt, ot + t * 2 + 1, none⟩ = some (.int .i64 y.s) := fun V hV => ⟨hV.cell (X7.out.cell q0), hV.cell (X7.out.cell q1), hV.cell r0, hV.cell r1, hV.cell r2, hV.cell r3, hV.cell r4, hV.cell s0, hV.cell s1⟩
          have KS := Lib.hid ks
          obtain ⟨ak, ck, hkv⟩ := HF.out.form
          rw [entsTo_len] at hkv
          subst hkv
          have HKJ : Hid ((entsTo P C t).length = t) := Lib.hid (entsTo_len _ _ _)
          have HR := Lib.hid (Ext.trans HXW.out (Ext.drew (Ext.refl wr)))
          have HRA := Lib.hid (Ext.drew (Ext.alloc HXW.out (.cells #[.int .i64 (p : Int), .int .i64 ((q : Int) + 1), .int .i64 d.k, .int .i64 d.i, .int .i64 d.f, .int .i64 d.t, .int .i64 d.a, .int .i64 y.c, .int .i64 y.s] 79)))
          have FA := Lib.hid (FreshEn.ext HF.out (Ext.drew (Ext.alloc (Ext.refl wr) (.cells #[.int .i64 (p : Int), .int .i64 ((q : Int) + 1), .int .i64 d.k, .int .i64 d.i, .int .i64 d.f, .int .i64 d.t, .int .i64 d.a, .int .i64 y.c, .int .i64 y.s] 79))))
          have HLTM := Lib.hid htl
          have HK30 : Hid (t ≤ 30) := Lib.hid (by omega)
          have i1 : (0 : Int) ≤ (t : Int) := by omega
          have i2 : (t : Int) < (k : Int) := by omega
          have i3 : (t : Int) ≤ (k : Int) := by omega
          clear di gx0 ix hx q0 q1 dc hdc hd dt hdt hy hee r0 r1 r2 r3 r4 s0 s1 ks htC htP
          go_wp2_with fail
          clear gx
          go_region_held3 (fun V => V.cell? ⟨bx, ox, none⟩ = some (.int .i64 (p : Int)) ∧ V.cell? ⟨bx, ox + 1, none⟩ = some (.int .i64 ((q : Int) + 1)) ∧ V.cell? ⟨bc, oc + t * 5, none⟩ = some (.int .i64 d.k) ∧ V.cell? ⟨bc, oc + t * 5 + 1, none⟩ = some (.int .i64 d.i) ∧ V.cell? ⟨bc, oc + t * 5 + 2, none⟩ = some (.int .i64 d.f) ∧ V.cell? ⟨bc, oc + t * 5 + 3, none⟩ = some (.int .i64 d.t) ∧ V.cell? ⟨bc, oc + t * 5 + 4, none⟩ = some (.int .i64 d.a) ∧ V.cell? ⟨bt, ot + t * 2, none⟩ = some (.int .i64 y.c) ∧ V.cell? ⟨bt, ot + t * 2 + 1, none⟩ = some (.int .i64 y.s)) (first | (with_reducible exact KS.out _ HR.out) | (with_reducible exact KS.out _ HWN.out) | (with_reducible exact KS.out _ HRA.out)) (first
            | (refine step_pushEn rfl (.tmp 46) (.tmp 62) rfl w7.heap.size (.slice ak t ck) (entsTo P C t) ⟨(p : Int), (q : Int) + 1, d.k, d.i, d.f, d.t, d.a, y.c, y.s⟩ rfl FA.out wr.heap.size 1 rfl ((en_box wr _ ⟨(p : Int), (q : Int) + 1, d.k, d.i, d.f, d.t, d.a, y.c, y.s⟩).ext (Ext.drew (Ext.refl _))) t HKJ.out (by have := HK30.out; omega) HRA.out.size ?_; intro ao' c' W' hf' hg'; have HFN : Hid (FreshEn w7.heap.size W' (.slice ao' (t + 1) c') (entsTo P C (t + 1))) := Lib.hid (by rw [HE.out]; exact hf'); have HWN : Hid (Ext w7 W') := Lib.hid (FreshEn.touchE HRA.out FA.out hg')))
          clear hf' hg' HRA FA
          go_wp2
          go_roundw
          case rel => exact ⟨t + 1, by have := HLTM.out; omega, by go_num, HFN, HWN⟩
          case measure => simp [intOf]; have := HLTM.out; omega
        · obtain rfl : t = k := by omega
          obtain ⟨eS, eE⟩ := HSE.out
          rw [← HMM.out] at eS eE
          have hiS := IS.out.ext HXW.out
          rw [HLC.out, ← eS] at hiS
          have heE := HF.out.at
          rw [← eE] at heE
          have HIS := Lib.hid hiS
          have HEE := Lib.hid heE
          have XE := Lib.hid (HX.out.trans (X1.out.trans (X7.out.trans HXW.out)))
          clear HF HXW eS eE hiS heE IS
          go_wp2
          go_ret2
          exact ⟨_, _, rfl, HIS.out, HEE.out, XE.out⟩
set_option maxHeartbeats 2000000 in
set_option maxRecDepth 100000 in
theorem specBook_any (n : Int) (u : Value) (T : List (List RowD)) (w : World) (hu : Rowzz w u T) :
    Calls Tryz.prog 8 #[.agg #[.int .i64 n, u]] w (BookedS (bookSR n T) (bookER n T) (goodTab n T) w) := by
  obtain ⟨SR, hSR⟩ : ∃ x, x = bookSR n T := ⟨_, rfl⟩
  obtain ⟨ER, hER⟩ : ∃ x, x = bookER n T := ⟨_, rfl⟩
  obtain ⟨g, hg⟩ : ∃ g, g = goodTab n T := ⟨_, rfl⟩
  rw [← hSR, ← hER, ← hg]
  have hx0 := Ext.alloc1 w (.cells #[.int .i64 n, u] 32)
  have b0 := attrAt_new w 32 n u
  have HU := Lib.hid (hu.ext hx0)
  have HX := Lib.hid hx0
  have HSR := Lib.hid hSR
  have HER := Lib.hid hER
  have HGG := Lib.hid hg
  obtain ⟨au, cu, rfl, hlu, _, _⟩ := hu
  clear hx0 hSR hER hg
  go_enter Tryz.func8, Tryz.ntmps8
  go_wp2_with fail
  refine (specGoodTable_any n _ T _ HU.out).mono ?_
  rintro e w1 ⟨rfl, x1⟩
  rw [← HGG.out]
  cases g with
  | false =>
    have eS : SR = [] := by rw [HSR.out]; unfold bookSR; rw [← HGG.out]; rfl
    have eE : ER = [] := by rw [HER.out]; unfold bookER; rw [← HGG.out]; rfl
    have X1 := Lib.hid (HX.out.trans x1)
    have ES := Lib.hid eS
    have EE := Lib.hid eE
    clear eS eE
    go_wp2
    go_ret3
    rw [ES.out, EE.out]
    exact ⟨_, _, rfl, Ints.nil _, Enz.nil _, X1.out⟩
  | true =>
    obtain ⟨c1, c2⟩ := b0.ext x1
    have X1 := Lib.hid (HX.out.trans x1)
    have HU1 := Lib.hid (HU.out.ext x1)
    clear x1 b0
    go_wp2_with fail
    refine (l12Book_any n _ T _ HU1.out HGG.out.symm).mono ?_
    rintro e w5 ⟨vs, ve, rfl, his, hes, x5⟩
    have HI := Lib.hid his
    have HE := Lib.hid hes
    have X5 := Lib.hid (X1.out.trans x5)
    have ES : Hid (SR = bookS n T) := Lib.hid (by rw [HSR.out]; unfold bookSR; rw [← HGG.out]; rfl)
    have EE : Hid (ER = bookE n T) := Lib.hid (by rw [HER.out]; unfold bookER; rw [← HGG.out]; rfl)
    clear his hes x5 c1 c2
    go_wp2
    go_ret3
    rw [ES.out, EE.out]
    exact ⟨_, _, rfl, HI.out, HE.out, X5.out⟩
end Go.Proofs.YtcpmfcigciknlaaGreat

namespace Go.Proofs.YtcpmfcigciknlaaGreat
open Go.RowKit
set_option linter.unusedVariables false
structure LiveB (w W3 W : World) (N B : Nat) (n : Int) (v v3 u3 v5 u5 : Value) (S M : List Int) (E F : List EnD) : Prop where
  ext : Ext w W
  arg : AttrAt W N n v
  old : Ext W3 W
  i3 : Ints W3 v3 S
  e3 : Enz W3 u3 E
  f5 : Fresh B W v5 M
  d5 : EnApart B v5 u5 W F
theorem LiveB.readS {w W3 W : World} {N B : Nat} {n : Int} {v v3 u3 v5 u5 : Value} {S M : List Int} {E F : List EnD} (h : LiveB w W3 W N B n v v3 u3 v5 u5 S M E F) : Ints W v3 S := h.i3.ext h.old
theorem LiveB.readE {w W3 W : World} {N B : Nat} {n : Int} {v v3 u3 v5 u5 : Value} {S M : List Int} {E F : List EnD} (h : LiveB w W3 W N B n v v3 u3 v5 u5 S M E F) : Enz W u3 E := h.e3.ext h.old
theorem LiveB.on {w W3 W W' : World} {N B : Nat} {n : Int} {v v3 u3 v5 u5 : Value} {S M : List Int} {E F : List EnD} (h : LiveB w W3 W N B n v v3 u3 v5 u5 S M E F) (e : Ext W W') : LiveB w W3 W' N B n v v3 u3 v5 u5 S M E F :=
  ⟨h.ext.trans e, h.arg.ext e, h.old.trans e, h.i3, h.e3, h.f5.ext e, h.d5.ext e⟩
theorem LiveB.ins {w W3 W W' : World} {N B lo hi : Nat} {n : Int} {v v3 u3 v5 u5 : Value} {S M : List Int} {E F : List EnD} (h : LiveB w W3 W N B n v v3 u3 v5 u5 S M E F) (k : Ins lo hi W W')
    (h0 : w.heap.size ≤ lo) (hN : N < lo) (hh : W3.heap.size ≤ lo) (hB : hi ≤ B) : LiveB w W3 W' N B n v v3 u3 v5 u5 S M E F :=
  ⟨k.ext h.ext h0, h.arg.ins k (.inl hN), k.ext h.old hh, h.i3, h.e3, Fresh.ins_high h.f5 k hB, h.d5.ins k hB⟩
theorem attr_but {W W' : World} {N : Nat} {n : Int} {v : Value} {r : Option Nat} (h : AttrAt W N n v) (t : W.grownBy W' r) (hr : r ≠ some N) : AttrAt W' N n v := ⟨cell_but h.1 t hr, cell_but h.2 t hr⟩
theorem LiveB.markS {w W3 W W' : World} {N B : Nat} {n : Int} {v v3 u3 v5 u5 : Value} {S M M' : List Int} {E F : List EnD} (h : LiveB w W3 W N B n v v3 u3 v5 u5 S M E F) (f' : Fresh B W' v5 M') (t : W.grownBy W' v5.ownBlock)
    (h0 : w.heap.size ≤ B) (hN : N < B) (hh : W3.heap.size ≤ B) : LiveB w W3 W' N B n v v3 u3 v5 u5 S M' E F :=
  ⟨Ext.touch h.ext (h.f5.more h0) t, attr_but h.arg t (fun e => by have := (World.ownsRow.lt h.f5 N e).1; omega), Ext.touch h.old (h.f5.more hh) t, h.i3, h.e3, f', h.d5.grown t⟩
theorem LiveB.markE {w W3 W W' : World} {N B : Nat} {n : Int} {v v3 u3 v5 u5 : Value} {S M : List Int} {E F F' : List EnD} {r : Option Nat} (h : LiveB w W3 W N B n v v3 u3 v5 u5 S M E F) (d' : EnApart B v5 u5 W' F') (t : W.grownBy W' r) (hr : ∀ q, r = some q → B ≤ q) (ap : v5.ownBlock = none ∨ v5.ownBlock ≠ r)
    (h0 : w.heap.size ≤ B) (hN : N < B) (hh : W3.heap.size ≤ B) : LiveB w W3 W' N B n v v3 u3 v5 u5 S M E F' :=
  ⟨Below.grown h.ext t (Ext.size h.ext) (fun q hq => Nat.le_trans h0 (hr q hq)), attr_but h.arg t (fun e => by have := hr N e; omega), Below.grown h.old t (Ext.size h.old) (fun q hq => Nat.le_trans hh (hr q hq)), h.i3, h.e3, World.ownsRow.kept h.f5 t ap, d'⟩
theorem book_small (n : Int) (T : List (List RowD)) : (bookSR n T).length ≤ 4 ∧ (bookER n T).length ≤ 30 := by
  unfold bookSR bookER
  cases hg : goodTab n T with
  | false => simp
  | true =>
    rw [if_pos rfl, if_pos rfl]
    refine ⟨?_, ?_⟩
    · unfold bookS
      exact Nat.le_of_eq (goodS_get (sumsAt_good (bookC_good hg) _ (Nat.le_refl _))).1
    · unfold bookE
      rw [entsTo_len]
      exact ordPts_len hg
end Go.Proofs.YtcpmfcigciknlaaGreat

namespace Go.Proofs.YtcpmfcigciknlaaGreat
open Go.RowKit
set_option linter.unusedVariables false
end Go.Proofs.YtcpmfcigciknlaaGreat

namespace Go.Proofs.YtcpmfcigciknlaaGreat
open Go.RowKit
set_option linter.unusedVariables false
set_option maxHeartbeats 4000000 in
set_option maxRecDepth 100000 in
theorem eqEntry_same (d : EnD) (w : World) : Calls Tryz.prog 39 #[.agg #[.int .i64 d.r, .int .i64 d.n, .int .i64 d.k, .int .i64 d.i, .int .i64 d.f, .int .i64 d.t, .int .i64 d.a, .int .i64 d.c, .int .i64 d.s], .agg #[.int .i64 d.r, .int .i64 d.n, .int .i64 d.k, .int .i64 d.i, .int .i64 d.f, .int .i64 d.t, .int .i64 d.a, .int .i64 d.c, .int .i64 d.s]] w (BoolExt true w) := by
  obtain ⟨wb, hwb⟩ : ∃ wb, wb = (w.alloc (.cells #[.int .i64 d.r, .int .i64 d.n, .int .i64 d.k, .int .i64 d.i, .int .i64 d.f, .int .i64 d.t, .int .i64 d.a, .int .i64 d.c, .int .i64 d.s] 79)).alloc (.cells #[.int .i64 d.r, .int .i64 d.n, .int .i64 d.k, .int .i64 d.i, .int .i64 d.f, .int .i64 d.t, .int .i64 d.a, .int .i64 d.c, .int .i64 d.s] 79) := ⟨_, rfl⟩
  have xb : Ext w wb := by rw [hwb]; exact (Ext.alloc1 _ _).alloc _
  have hp : BoxV wb w.heap.size [.int .i64 d.r, .int .i64 d.n, .int .i64 d.k, .int .i64 d.i, .int .i64 d.f, .int .i64 d.t, .int .i64 d.a, .int .i64 d.c, .int .i64 d.s] := by rw [hwb]; exact (boxV_new w [.int .i64 d.r, .int .i64 d.n, .int .i64 d.k, .int .i64 d.i, .int .i64 d.f, .int .i64 d.t, .int .i64 d.a, .int .i64 d.c, .int .i64 d.s] 79).ext (Ext.alloc1 _ _)
  have hq : BoxV wb (w.heap.size + 1) [.int .i64 d.r, .int .i64 d.n, .int .i64 d.k, .int .i64 d.i, .int .i64 d.f, .int .i64 d.t, .int .i64 d.a, .int .i64 d.c, .int .i64 d.s] := by
    have h := boxV_new (w.alloc (.cells #[.int .i64 d.r, .int .i64 d.n, .int .i64 d.k, .int .i64 d.i, .int .i64 d.f, .int .i64 d.t, .int .i64 d.a, .int .i64 d.c, .int .i64 d.s] 79)) [.int .i64 d.r, .int .i64 d.n, .int .i64 d.k, .int .i64 d.i, .int .i64 d.f, .int .i64 d.t, .int .i64 d.a, .int .i64 d.c, .int .i64 d.s] 79
    rw [World.size_alloc, ← hwb] at h
    exact h
  have n0 : (d.r != d.r) = false := by simp
  have n1 : (d.n != d.n) = false := by simp
  have HX := Lib.hid xb
  have HWB := Lib.hid hwb
  have HP := Lib.hid hp
  have HQ := Lib.hid hq
  have p0 := hp.cell 0 _ rfl
  have q0 := hq.cell 0 _ rfl
  have p1 := hp.cell 1 _ rfl
  have q1 := hq.cell 1 _ rfl
  have p2 := hp.cell 2 _ rfl
  have q2 := hq.cell 2 _ rfl
  have p3 := hp.cell 3 _ rfl
  have q3 := hq.cell 3 _ rfl
  have p4 := hp.cell 4 _ rfl
  have q4 := hq.cell 4 _ rfl
  have p5 := hp.cell 5 _ rfl
  have q5 := hq.cell 5 _ rfl
  have p6 := hp.cell 6 _ rfl
  have q6 := hq.cell 6 _ rfl
  have p7 := hp.cell 7 _ rfl
  have q7 := hq.cell 7 _ rfl
  have p8 := hp.cell 8 _ rfl
  have q8 := hq.cell 8 _ rfl
  rw [hwb] at p0 q0 p1 q1 p2 q2 p3 q3 p4 q4 p5 q5 p6 q6 p7 q7 p8 q8
  clear hp hq xb hwb
  go_enter Tryz.func39, Tryz.ntmps39
  go_wp2_with fail
  rw [← HWB.out]
  refine (eqCmd_same _ _ _ _ _ _).mono ?_
  rintro e w1 ⟨rfl, x1⟩
  have hx := HX.out.trans x1
  have hp1 := HP.out.ext x1
  have hq1 := HQ.out.ext x1
  clear x1 HWB HP HQ p0 q0 p1 q1 p2 q2 p3 q3 p4 q4 p5 q5 p6 q6 p7 q7 p8 q8
  have p7 := hp1.cell 7 _ rfl
  have q7 := hq1.cell 7 _ rfl
  have p8 := hp1.cell 8 _ rfl
  have q8 := hq1.cell 8 _ rfl
  clear hp1 hq1
  go_wp2_with fail
  refine (eqTold_same _ _ _).mono ?_
  rintro e w2 ⟨rfl, x2⟩
  have hx2 := hx.trans x2
  clear x2 hx p7 q7 p8 q8
  go_wp2
  go_ret
  exact ⟨rfl, hx2⟩
end Go.Proofs.YtcpmfcigciknlaaGreat

namespace Go.Proofs.YtcpmfcigciknlaaGreat
open Go.RowKit
set_option linter.unusedVariables false
set_option maxHeartbeats 4000000 in
set_option maxRecDepth 100000 in
theorem eqEnS_same (u v : Value) (L : List EnD) (w : World) (hu : Enz w u L) (hv : Enz w v L) :
    Calls Tryz.prog 12 #[u, v] w (BoolExt true w) := by
  obtain ⟨au, cu, rfl, hlu, _, hcu⟩ := hu
  obtain ⟨av, cv, rfl, hlv, _, hcv⟩ := hv
  unfold maxLen at hlu hlv
  have e0 : ((L.length : Int) != (L.length : Int)) = false := by simp
  go_enter Tryz.func12, Tryz.ntmps12
  go_wp2
  go_loopw [5] (fun i wr => ∃ k : Nat, k ≤ L.length ∧ i = .int .i64 k ∧ Ext w wr) (fun i _ => L.length - (intOf i).toNat)
  case atStart => exact ⟨0, Nat.zero_le _, rfl, Ext.refl _⟩
  case round =>
    obtain ⟨k, hk, rfl, hx⟩ := hrel
    by_cases hlt : k < L.length
    · obtain ⟨bu, ou, rfl, du⟩ := hcu (by omega)
      obtain ⟨bv, ov, rfl, dv⟩ := hcv (by omega)
      have hx1 := du k hlt
      have hy1 := dv k hlt
      obtain ⟨d, hd⟩ : ∃ d, d = L[k] := ⟨_, rfl⟩
      rw [← hd] at hx1 hy1
      obtain ⟨p0, p1, p2, p3, p4, p5, p6, p7, p8⟩ := enIn_cells (hx1.ext hx)
      obtain ⟨q0, q1, q2, q3, q4, q5, q6, q7, q8⟩ := enIn_cells (hy1.ext hx)
      have cE : ∀ E : ExtOf wr, Calls Tryz.prog 39 #[.agg #[.int .i64 d.r, .int .i64 d.n, .int .i64 d.k, .int .i64 d.i, .int .i64 d.f, .int .i64 d.t, .int .i64 d.a, .int .i64 d.c, .int .i64 d.s], .agg #[.int .i64 d.r, .int .i64 d.n, .int .i64 d.k, .int .i64 d.i, .int .i64 d.f, .int .i64 d.t, .int .i64 d.a, .int .i64 d.c, .int .i64 d.s]] E.1 (BoolExt true E.1) := fun E => eqEntry_same d _
      have p0 := fun E : ExtOf wr => E.cell p0
      have q0 := fun E : ExtOf wr => E.cell q0
      have p1 := fun E : ExtOf wr => E.cell p1
      have q1 := fun E : ExtOf wr => E.cell q1
      have p2 := fun E : ExtOf wr => E.cell p2
      have q2 := fun E : ExtOf wr => E.cell q2
      have p3 := fun E : ExtOf wr => E.cell p3
      have q3 := fun E : ExtOf wr => E.cell q3
      have p4 := fun E : ExtOf wr => E.cell p4
      have q4 := fun E : ExtOf wr => E.cell q4
      have p5 := fun E : ExtOf wr => E.cell p5
      have q5 := fun E : ExtOf wr => E.cell q5
      have p6 := fun E : ExtOf wr => E.cell p6
      have q6 := fun E : ExtOf wr => E.cell q6
      have p7 := fun E : ExtOf wr => E.cell p7
      have q7 := fun E : ExtOf wr => E.cell q7
      have p8 := fun E : ExtOf wr => E.cell p8
      have q8 := fun E : ExtOf wr => E.cell q8
      have HX := Lib.hid hx
      have HLT := Lib.hid hlt
      clear hcu hcv du dv hx1 hy1 hd hx
      go_wp2_with fail
      refine wp_region_ext_lit (by kernel_rfl) (by kernel_rfl) ?_
      repeat (go_big_quiet_step (first | (go_at_call 39; with_reducible exact Calls.ext_of _ (cE _))))
      refine wpQuiet_nil ?_
      rintro _ ⟨E, rfl⟩
      have hx2 : Ext w E.1 := HX.out.trans E.2
      clear cE p0 p1 p2 p3 p4 p5 p6 p7 p8 q0 q1 q2 q3 q4 q5 q6 q7 q8
      go_wp2
      go_roundw
      case rel => exact ⟨k + 1, by have := HLT.out; omega, by go_num, hx2⟩
      case measure => simp [intOf]; have := HLT.out; omega
    · obtain rfl : k = L.length := by omega
      go_wp2
      go_ret
      exact ⟨rfl, hx⟩
end Go.Proofs.YtcpmfcigciknlaaGreat

namespace Go.Proofs.YtcpmfcigciknlaaGreat
open Go.RowKit
set_option linter.unusedVariables false
def atE (rep no : Int) (d : EnD) : Bool := d.r == rep && d.n == no
def toldC (E : List EnD) (rep no : Int) : Int := match E.find? (atE rep no) with | some d => d.c | none => 0
def toldS (E : List EnD) (rep no : Int) : Int := match E.find? (atE rep no) with | some d => d.s | none => 0
def toldK (E : List EnD) (rep no : Int) : Bool := match E.find? (atE rep no) with | some d => true | none => false
theorem toldE_no {E : List EnD} {rep no : Int} (h : ∀ j (hj : j < E.length), atE rep no E[j] = false) : toldC E rep no = 0 ∧ toldS E rep no = 0 ∧ toldK E rep no = false := by
  have e : E.find? (atE rep no) = none := by
    rw [List.find?_eq_none]
    intro x hx
    obtain ⟨j, hj, rfl⟩ := List.mem_iff_getElem.1 hx
    rw [h j hj]
    simp
  unfold toldC toldS toldK
  rw [e]
  exact ⟨rfl, rfl, rfl⟩
theorem told_at {E : List EnD} {rep no : Int} {k : Nat} (hk : k < E.length) (h : ∀ j (hj : j < E.length), j < k → atE rep no E[j] = false) (hat : atE rep no E[k] = true) : toldC E rep no = E[k].c ∧ toldS E rep no = E[k].s ∧ toldK E rep no = true := by
  have e : E.find? (atE rep no) = some E[k] := by
    rw [List.find?_eq_some_iff_getElem]
    exact ⟨hat, k, hk, rfl, fun j hj => by rw [h j (by omega) hj]; rfl⟩
  unfold toldC toldS toldK
  rw [e]
  exact ⟨rfl, rfl, rfl⟩
theorem not_at_step {E : List EnD} {rep no : Int} {k : Nat} (h : ∀ j (hj : j < E.length), j < k → atE rep no E[j] = false) (hk : ∀ (h : k < E.length), atE rep no E[k] = false) : ∀ j (hj : j < E.length), j < k + 1 → atE rep no E[j] = false := fun j hj hjk => by
  by_cases e : j = k
  · subst e; exact hk hj
  · exact h j hj (by omega)
def ToldRes (c s : Int) (b : Bool) (w : World) (e : Ending) (w' : World) : Prop := e = .returned (.tuple #[.agg #[.int .i64 c, .int .i64 s], .bool b]) ∧ Ext w w'
theorem told_put {w W : World} {x y : Value} (h : Ext w W) : Ext w ((W.setCell ⟨w.heap.size + 1, 0, none⟩ x).setCell ⟨w.heap.size + 1, 1, none⟩ y) :=
  (h.setc (by dsimp only; omega)).setc (by dsimp only; omega)
def askedB (n : Int) (T : List (List RowD)) (rep no : Int) : Bool := goodTab n T && instB n rep no
theorem asked_good {n : Int} {T : List (List RowD)} {rep no : Int} (h : askedB n T rep no = true) : goodTab n T = true := by
  unfold askedB at h
  rw [Bool.and_eq_true] at h
  exact h.1
theorem bookE_mem {n : Int} {T : List (List RowD)} {d : EnD} (h : d ∈ bookE n T) : ∃ x ∈ ordPts n T, d.r = (x.1 : Int) ∧ d.n = (x.2 : Int) + 1 := by
  unfold bookE entsTo at h
  obtain ⟨j, hj, rfl⟩ := List.mem_map.1 h
  have hj := List.mem_range.1 hj
  refine ⟨(ordPts n T)[j], List.getElem_mem hj, ?_, ?_⟩ <;> (unfold entE; rw [List.getElem?_eq_getElem hj]; rfl)
theorem told_none {n : Int} {T : List (List RowD)} {rep no : Int} (h : askedB n T rep no = false) : toldC (bookER n T) rep no = 0 ∧ toldS (bookER n T) rep no = 0 ∧ toldK (bookER n T) rep no = false := by
  cases hg : goodTab n T with
  | false =>
    rw [show bookER n T = [] by unfold bookER; rw [hg]; rfl]
    exact toldE_no (fun j hj => by simp at hj)
  | true =>
    rw [show bookER n T = bookE n T by unfold bookER; rw [hg]; rfl]
    refine toldE_no fun j hj => ?_
    have hi : instB n rep no = false := by unfold askedB at h; rw [hg, Bool.true_and] at h; exact h
    obtain ⟨x, hx, e1, e2⟩ := bookE_mem (List.getElem_mem hj)
    obtain ⟨_, hp, hq⟩ := ordPts_row hg hx
    have hn := (goodTab_of hg).2.1
    unfold atE
    rw [e1, e2]
    cases h1 : ((x.1 : Int) == rep) with
    | false => rfl
    | true =>
      cases h2 : ((x.2 : Int) + 1 == no) with
      | false => rfl
      | true =>
        simp only [beq_iff_eq] at h1 h2
        have : instB n rep no = true := by
          unfold instB
          simp [inB]
          omega
        rw [hi] at this
        cases this
end Go.Proofs.YtcpmfcigciknlaaGreat

namespace Go.Proofs.YtcpmfcigciknlaaGreat
open Go.RowKit
set_option linter.unusedVariables false
set_option maxHeartbeats 4000000 in
set_option maxRecDepth 100000 in
theorem implTold_any (n : Int) (u : Value) (T : List (List RowD)) (rep no : Int) (w : World) (hu : Rowzz w u T) (hs : bulkT T ≤ 1099511627776) :
    Calls Tryz.prog 20 #[.agg #[.int .i64 n, u], .int .i64 rep, .int .i64 no] w (ToldRes (toldC (bookER n T) rep no) (toldS (bookER n T) rep no) (toldK (bookER n T) rep no) w) := by
  obtain ⟨E, hE⟩ : ∃ x, x = bookER n T := ⟨_, rfl⟩
  rw [← hE]
  obtain ⟨au, cu, rfl, hlu, _, _⟩ := id hu
  obtain ⟨wb, hwb⟩ : ∃ wb, wb = (w.alloc (.cells #[.int .i64 n, .slice au T.length cu] 32)).alloc (.cells #[.int .i64 0, .int .i64 0] 42) := ⟨_, rfl⟩
  have xb : Ext w wb := by rw [hwb]; exact (Ext.alloc (Ext.refl _) _).alloc _
  have bt : BoxV wb w.heap.size [.int .i64 n, .slice au T.length cu] := by rw [hwb]; exact (boxV_new w [.int .i64 n, .slice au T.length cu] 32).ext (Ext.alloc (Ext.refl _) _)
  have br : BoxV wb (w.heap.size + 1) [.int .i64 0, .int .i64 0] := by
    have h := boxV_new (w.alloc (.cells #[.int .i64 n, .slice au T.length cu] 32)) [.int .i64 0, .int .i64 0] 42
    rw [World.size_alloc, ← hwb] at h
    exact h
  have HU := Lib.hid (hu.ext xb)
  have HWB := Lib.hid hwb
  have XB := Lib.hid xb
  have BT := Lib.hid bt
  have BR := Lib.hid br
  have HEE := Lib.hid hE
  have HS := Lib.hid hs
  have t0 := bt.cell 0 _ rfl
  have t1 := bt.cell 1 _ rfl
  rw [hwb] at t0 t1
  clear hu hE hwb xb bt br hs
  go_enter Tryz.func20, Tryz.ntmps20
  go_wp2_with fail
  rw [← HWB.out]
  refine (implBook_any n _ T _ HU.out HS.out).mono ?_
  rintro e w1 ⟨vs, ve, rfl, his, hes, x1⟩
  have HZ := Lib.hid (show Enz w1 ve E by rw [HEE.out]; exact hes.reads)
  obtain ⟨ae, ce, rfl, hle, _, hce⟩ := id HZ.out
  unfold maxLen at hle
  have HCE := Lib.hid hce
  have BR1 := Lib.hid (BR.out.ext x1)
  have X1 := Lib.hid (XB.out.trans x1)
  clear his hes hce x1 HZ t0 t1
  go_wp2
  go_loopw [12, 21] (fun _ i wr => ∃ k : Nat, k ≤ E.length ∧ i = .int .i64 k ∧ Hid (∀ j (h : j < E.length), j < k → atE rep no E[j] = false) ∧ Hid (Ext w1 wr)) (fun _ i _ => E.length - (intOf i).toNat)
  case atStart => exact ⟨0, Nat.zero_le _, rfl, Lib.hid (fun j _ h => by omega), Lib.hid (Ext.refl _)⟩
  case round =>
    obtain ⟨k, hk, rfl, HN, HX⟩ := hrel
    by_cases hlt : k < E.length
    · obtain ⟨b, off, rfl, de⟩ := HCE.out (by omega)
      have hd0 := (de k hlt).ext HX.out
      obtain ⟨d, hd⟩ : ∃ d, d = E[k] := ⟨_, rfl⟩
      rw [← hd] at hd0
      obtain ⟨p0, p1, p2, p3, p4, p5, p6, p7, p8⟩ := enIn_cells hd0
      have HD := Lib.hid hd
      have BRk := BR1.out.ext (HX.out.alloc (.cells #[.int .i64 d.r, .int .i64 d.n, .int .i64 d.k, .int .i64 d.i, .int .i64 d.f, .int .i64 d.t, .int .i64 d.a, .int .i64 d.c, .int .i64 d.s] 79))
      have b0 := BRk.cell 0 _ rfl
      have b1 := BRk.cell 1 _ rfl
      have z0 := BRk.free 0 (of_decide_eq_true rfl)
      have z1 := BRk.free 1 (of_decide_eq_true rfl)
      have X2 := Lib.hid ((X1.out.trans HX.out).alloc (.cells #[.int .i64 d.r, .int .i64 d.n, .int .i64 d.k, .int .i64 d.i, .int .i64 d.f, .int .i64 d.t, .int .i64 d.a, .int .i64 d.c, .int .i64 d.s] 79))
      have HX2 := Lib.hid (HX.out.alloc (.cells #[.int .i64 d.r, .int .i64 d.n, .int .i64 d.k, .int .i64 d.i, .int .i64 d.f, .int .i64 d.t, .int .i64 d.a, .int .i64 d.c, .int .i64 d.s] 79))
      clear de hd0 hd
      by_cases h1 : d.r = rep
      · by_cases h2 : d.n = no
        · have e1 : (d.r == rep) = true := by simp [h1]
          have e2 : (d.n == no) = true := by simp [h2]
          have hf := told_at hlt HN.out (rep := rep) (no := no) (by rw [← HD.out]; unfold atE; rw [e1, e2]; rfl)
          rw [← HD.out] at hf
          have HF := Lib.hid hf
          clear hf h1 h2
          go_wp2
          obtain ⟨n1, n2, n3⟩ := HF.out
          rw [n1, n2, n3]
          exact bodyPost_ret (v := .tuple #[.agg #[.int .i64 d.c, .int .i64 d.s], .bool true]) (by simp [results, Tryz.results20, go_sem, b0, b1]) rfl ⟨rfl, told_put X2.out⟩
        · have e1 : (d.r == rep) = true := by simp [h1]
          have e2 : (d.n == no) = false := by simp [h2]
          have HS2 := Lib.hid (not_at_step HN.out (rep := rep) (no := no) (k := k) (fun h => by rw [← HD.out]; unfold atE; rw [e2, Bool.and_false]))
          clear h1 h2
          go_wp2
          go_roundw
          case rel => exact ⟨k + 1, by omega, by go_num, HS2, HX2⟩
          case measure => simp [intOf]; omega
      · have e1 : (d.r == rep) = false := by simp [h1]
        have HS2 := Lib.hid (not_at_step HN.out (rep := rep) (no := no) (k := k) (fun h => by rw [← HD.out]; unfold atE; rw [e1, Bool.false_and]))
        clear h1
        go_wp2
        go_roundw
        case rel => exact ⟨k + 1, by omega, by go_num, HS2, HX2⟩
        case measure => simp [intOf]; omega
    · obtain rfl : k = E.length := by omega
      have HF := Lib.hid (toldE_no (rep := rep) (no := no) (fun j h => HN.out j h h))
      have BRk := BR1.out.ext HX.out
      have b0 := BRk.cell 0 _ rfl
      have b1 := BRk.cell 1 _ rfl
      have z0 := BRk.free 0 (of_decide_eq_true rfl)
      have z1 := BRk.free 1 (of_decide_eq_true rfl)
      have X2 := Lib.hid (X1.out.trans HX.out)
      go_wp2
      obtain ⟨n1, n2, n3⟩ := HF.out
      rw [n1, n2, n3]
      exact bodyPost_ret (v := .tuple #[.agg #[.int .i64 0, .int .i64 0], .bool false]) (by simp [results, Tryz.results20, go_sem, b0, b1]) rfl ⟨rfl, told_put X2.out⟩
set_option maxHeartbeats 4000000 in
set_option maxRecDepth 100000 in
theorem specTold_any (n : Int) (u : Value) (T : List (List RowD)) (rep no : Int) (w : World) (hu : Rowzz w u T) :
    Calls Tryz.prog 19 #[.agg #[.int .i64 n, u], .int .i64 rep, .int .i64 no] w (ToldRes (toldC (bookER n T) rep no) (toldS (bookER n T) rep no) (toldK (bookER n T) rep no) w) := by
  obtain ⟨E, hE⟩ : ∃ x, x = bookER n T := ⟨_, rfl⟩
  rw [← hE]
  obtain ⟨au, cu, rfl, hlu, _, _⟩ := id hu
  obtain ⟨wb, hwb⟩ : ∃ wb, wb = (w.alloc (.cells #[.int .i64 n, .slice au T.length cu] 32)).alloc (.cells #[.int .i64 0, .int .i64 0] 42) := ⟨_, rfl⟩
  have xb : Ext w wb := by rw [hwb]; exact (Ext.alloc (Ext.refl _) _).alloc _
  have bt : BoxV wb w.heap.size [.int .i64 n, .slice au T.length cu] := by rw [hwb]; exact (boxV_new w [.int .i64 n, .slice au T.length cu] 32).ext (Ext.alloc (Ext.refl _) _)
  have br : BoxV wb (w.heap.size + 1) [.int .i64 0, .int .i64 0] := by
    have h := boxV_new (w.alloc (.cells #[.int .i64 n, .slice au T.length cu] 32)) [.int .i64 0, .int .i64 0] 42
    rw [World.size_alloc, ← hwb] at h
    exact h
  have HU := Lib.hid (hu.ext xb)
  have HWB := Lib.hid hwb
  have XB := Lib.hid xb
  have BT := Lib.hid bt
  have BR := Lib.hid br
  have HEE := Lib.hid hE
  have t0 := bt.cell 0 _ rfl
  have t1 := bt.cell 1 _ rfl
  rw [hwb] at t0 t1
  clear hu hE hwb xb bt br
  go_enter Tryz.func19, Tryz.ntmps19
  go_wp2_with fail
  rw [← HWB.out]
  refine (l4Asked_any n _ T rep no _ HU.out).mono ?_
  rintro e w0 ⟨rfl, x0⟩
  cases hq : askedB n T rep no with
  | false =>
    rw [show (goodTab n T && instB n rep no) = false from hq]
    have hno := told_none (n := n) (T := T) hq
    rw [← HEE.out] at hno
    have HN := Lib.hid hno
    have BR0 := BR.out.ext x0
    have b0 := BR0.cell 0 _ rfl
    have b1 := BR0.cell 1 _ rfl
    have z0 := BR0.free 0 (of_decide_eq_true rfl)
    have z1 := BR0.free 1 (of_decide_eq_true rfl)
    have X0 := Lib.hid (XB.out.trans x0)
    clear hno x0 t0 t1 hq
    go_wp2
    obtain ⟨n1, n2, n3⟩ := HN.out
    rw [n1, n2, n3]
    exact bodyPost_ret (v := .tuple #[.agg #[.int .i64 0, .int .i64 0], .bool false]) (by simp [results, Tryz.results19, go_sem, b0, b1]) rfl ⟨rfl, told_put X0.out⟩
  | true =>
    rw [show (goodTab n T && instB n rep no) = true from hq]
    have hgt := asked_good hq
    have HGT := Lib.hid hgt
    have EB : Hid (E = bookE n T) := Lib.hid (by rw [HEE.out]; unfold bookER; rw [hgt]; rfl)
    have BT0 := BT.out.ext x0
    have s0 := BT0.cell 0 _ rfl
    have s1 := BT0.cell 1 _ rfl
    have X0 := Lib.hid x0
    clear t0 t1 hgt hq BT0 x0
    go_wp2_with fail
    refine (l12Book_any n _ T _ (HU.out.ext X0.out) HGT.out).mono ?_
    rintro e w1 ⟨vs, ve, rfl, his, hes, x1'⟩
    have HZ := Lib.hid (show Enz w1 ve E by rw [EB.out]; exact hes)
    have x1 := X0.out.trans x1'
    obtain ⟨ae, ce, rfl, hle, _, hce⟩ := id HZ.out
    unfold maxLen at hle
    have HCE := Lib.hid hce
    have BR1 := Lib.hid (BR.out.ext x1)
    have X1 := Lib.hid (XB.out.trans x1)
    clear his hes hce x1 HZ s0 s1 x1'
    go_wp2
    go_loopw [11, 25] (fun _ i wr => ∃ k : Nat, k ≤ E.length ∧ i = .int .i64 k ∧ Hid (∀ j (h : j < E.length), j < k → atE rep no E[j] = false) ∧ Hid (Ext w1 wr)) (fun _ i _ => E.length - (intOf i).toNat)
    case atStart => exact ⟨0, Nat.zero_le _, rfl, Lib.hid (fun j _ h => by omega), Lib.hid (Ext.refl _)⟩
    case round =>
      obtain ⟨k, hk, rfl, HN, HX⟩ := hrel
      by_cases hlt : k < E.length
      · obtain ⟨b, off, rfl, de⟩ := HCE.out (by omega)
        have hd0 := (de k hlt).ext HX.out
        obtain ⟨d, hd⟩ : ∃ d, d = E[k] := ⟨_, rfl⟩
        rw [← hd] at hd0
        obtain ⟨p0, p1, p2, p3, p4, p5, p6, p7, p8⟩ := enIn_cells hd0
        have HD := Lib.hid hd
        have BRk := BR1.out.ext (HX.out.alloc (.cells #[.int .i64 d.r, .int .i64 d.n, .int .i64 d.k, .int .i64 d.i, .int .i64 d.f, .int .i64 d.t, .int .i64 d.a, .int .i64 d.c, .int .i64 d.s] 79))
        have b0 := BRk.cell 0 _ rfl
        have b1 := BRk.cell 1 _ rfl
        have z0 := BRk.free 0 (of_decide_eq_true rfl)
        have z1 := BRk.free 1 (of_decide_eq_true rfl)
        have X2 := Lib.hid ((X1.out.trans HX.out).alloc (.cells #[.int .i64 d.r, .int .i64 d.n, .int .i64 d.k, .int .i64 d.i, .int .i64 d.f, .int .i64 d.t, .int .i64 d.a, .int .i64 d.c, .int .i64 d.s] 79))
        have HX2 := Lib.hid (HX.out.alloc (.cells #[.int .i64 d.r, .int .i64 d.n, .int .i64 d.k, .int .i64 d.i, .int .i64 d.f, .int .i64 d.t, .int .i64 d.a, .int .i64 d.c, .int .i64 d.s] 79))
        clear de hd0 hd
        by_cases h1 : d.r = rep
        · by_cases h2 : d.n = no
          · have e1 : (d.r == rep) = true := by simp [h1]
            have e2 : (d.n == no) = true := by simp [h2]
            have hf := told_at hlt HN.out (rep := rep) (no := no) (by rw [← HD.out]; unfold atE; rw [e1, e2]; rfl)
            rw [← HD.out] at hf
            have HF := Lib.hid hf
            clear hf h1 h2
            go_wp2
            obtain ⟨n1, n2, n3⟩ := HF.out
            rw [n1, n2, n3]
            exact bodyPost_ret (v := .tuple #[.agg #[.int .i64 d.c, .int .i64 d.s], .bool true]) (by simp [results, Tryz.results19, go_sem, b0, b1]) rfl ⟨rfl, told_put X2.out⟩
          · have e1 : (d.r == rep) = true := by simp [h1]
            have e2 : (d.n == no) = false := by simp [h2]
            have HS2 := Lib.hid (not_at_step HN.out (rep := rep) (no := no) (k := k) (fun h => by rw [← HD.out]; unfold atE; rw [e2, Bool.and_false]))
            clear h1 h2
            go_wp2
            go_roundw
            case rel => exact ⟨k + 1, by omega, by go_num, HS2, HX2⟩
            case measure => simp [intOf]; omega
        · have e1 : (d.r == rep) = false := by simp [h1]
          have HS2 := Lib.hid (not_at_step HN.out (rep := rep) (no := no) (k := k) (fun h => by rw [← HD.out]; unfold atE; rw [e1, Bool.false_and]))
          clear h1
          go_wp2
          go_roundw
          case rel => exact ⟨k + 1, by omega, by go_num, HS2, HX2⟩
          case measure => simp [intOf]; omega
      · obtain rfl : k = E.length := by omega
        have HF := Lib.hid (toldE_no (rep := rep) (no := no) (fun j h => HN.out j h h))
        have BRk := BR1.out.ext HX.out
        have b0 := BRk.cell 0 _ rfl
        have b1 := BRk.cell 1 _ rfl
        have z0 := BRk.free 0 (of_decide_eq_true rfl)
        have z1 := BRk.free 1 (of_decide_eq_true rfl)
        have X2 := Lib.hid (X1.out.trans HX.out)
        go_wp2
        obtain ⟨n1, n2, n3⟩ := HF.out
        rw [n1, n2, n3]
        exact bodyPost_ret (v := .tuple #[.agg #[.int .i64 0, .int .i64 0], .bool false]) (by simp [results, Tryz.results19, go_sem, b0, b1]) rfl ⟨rfl, told_put X2.out⟩
end Go.Proofs.YtcpmfcigciknlaaGreat
