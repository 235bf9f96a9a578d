/- Contracts of AccountOf, the program's and the model's. -/
import Derived.Test.YtcpmfcigciknlaaAcctP
import Derived.Test.YtcpmfcigciknlaaL1Has
import Derived.Test.YtcpmfcigciknlaaContains
namespace Go.Proofs.Ytcpmfcigciknlaa
open Go.RowKit
set_option linter.unusedVariables false

set_option maxHeartbeats 4000000 in
set_option maxRecDepth 100000 in
theorem specAcct_any (v : Value) (L : List EnD) (x : Int) (w : World) (hv : Enz w v L) :
    Calls Try.prog 6 #[v, .int .i64 x] w (AcctI (acctL L x) (acctOk L x) w) := by
  obtain ⟨av, cv, rfl, hlv, _, hcv⟩ := hv
  unfold maxLen at hlv
  by_cases h1 : L.length ≤ 60
  · have g1 : ¬ (60 : Int) < L.length := by omega
    cases h2 : acctB x with
    | false =>
      have hb := acctOk_acct (L := L) h2
      rw [acctL_no hb, hb]
      have H2 := Lib.hid h2
      clear hcv h2 hb
      go_enter Try.func6, Try.ntmps6
      go_wp2_with fail
      refine (l2Account_any _ _).mono ?_
      rintro e w1 ⟨rfl, rfl⟩
      rw [H2.out]
      go_wp2
      go_ret2
      exact ⟨_, rfl, .inl ⟨rfl, rfl⟩, Ext.refl _⟩
    | true =>
      have H2 := Lib.hid h2
      have H6 := Lib.hid h1
      clear h2 h1
      go_enter Try.func6, Try.ntmps6
      go_wp2_with fail
      refine (l2Account_any _ _).mono ?_
      rintro e w1 ⟨rfl, rfl⟩
      rw [H2.out]
      go_wp2
      go_loopw [6, 8, 19] (fun o _ i wr => ∃ k : Nat, k ≤ L.length ∧ i = .int .i64 k ∧ Hid (∀ j (hj : j < L.length), j < k → goodEn L[j] = true) ∧ Hid (FreshEn w.heap.size wr o (takenE L x k)) ∧ Ext w wr) (fun _ _ i _ => L.length - (intOf i).toNat)
      case atStart => exact ⟨0, Nat.zero_le _, rfl, Lib.hid (fun j _ h => by omega), Lib.hid (FreshEn.nil _ _), Ext.refl _⟩
      case round =>
        obtain ⟨k, hk, rfl, HG, HO, hx⟩ := hrel
        by_cases hlt : k < L.length
        · obtain ⟨b, off, rfl, dv⟩ := hcv (by omega)
          have hd0 := (dv k hlt).ext hx
          obtain ⟨d, hd⟩ : ∃ d, d = L[k] := ⟨_, rfl⟩
          rw [← hd] at hd0
          obtain ⟨p0, p1, p2, p3, p4, p5, p6, p7, p8⟩ := enIn_cells hd0
          obtain ⟨wb, hwb⟩ : ∃ wb, wb = wr.alloc (.cells #[.int .i64 d.r, .int .i64 d.n, .int .i64 d.k, .int .i64 d.i, .int .i64 d.f, .int .i64 d.t, .int .i64 d.a, .int .i64 d.c, .int .i64 d.s] 40) := ⟨_, rfl⟩
          have xb : Ext wr wb := by rw [hwb]; exact Ext.alloc1 _ _
          have hb : BoxV wb wr.heap.size (enVs d) := by rw [hwb]; exact en_box _ _ _
          have HWB := Lib.hid hwb
          have HD := Lib.hid hd
          have XB := Lib.hid (hx.trans xb)
          have HB := Lib.hid hb
          have HO1 := Lib.hid (HO.out.ext xb)
          have HL := Lib.hid (takenE_len L x k)
          clear dv hd0 hd hwb xb hb hcv hx
          go_wp2_with fail
          rw [← HWB.out]
          refine (specGood_any _ _ _ _ _ _).mono ?_
          rintro e w2 ⟨rfl, x2⟩
          have HB2 := Lib.hid (HB.out.ext x2)
          have XB2 := Lib.hid (XB.out.trans x2)
          have HO2 := Lib.hid (HO1.out.ext x2)
          clear x2 p0 p1 p2 p3 p4 p5 p6 p7 p8 HO1 HB
          cases hg : goodB d.k d.i d.f d.t d.a with
          | false =>
            have HQ : Hid (acctOk L x = false) := Lib.hid (acctOk_bad hlt (by rw [← HD.out]; exact hg))
            clear hg
            go_wp2
            go_ret2
            rw [acctL_no HQ.out, HQ.out]
            exact ⟨_, rfl, .inl ⟨rfl, rfl⟩, XB2.out⟩
          | true =>
            have HG1 : Hid (∀ j (hj : j < L.length), j < k + 1 → goodEn L[j] = true) := Lib.hid (fun j hj h => by
              by_cases e : j = k
              · subst e; rw [← HD.out]; exact hg
              · exact HG.out j hj (by omega))
            obtain ⟨p0, p1, p2, p3, p4, p5, p6, p7, p8⟩ := en_cells HB2.out
            clear hg HG
            go_wp2_with fail
            refine (l2Touches_any _ _ _ _ _ _).mono ?_
            rintro e w3 ⟨v3, rfl, f3, x3⟩
            have I3 := Lib.hid f3.ints
            have X3 := Lib.hid x3
            clear f3 x3 p0 p1 p2 p3 p4 p5 p6 p7 p8
            go_wp2_with fail
            refine (l1Has_any _ _ _ _ I3.out).mono ?_
            rintro e w4 ⟨rfl, x4⟩
            have X4 := Lib.hid (X3.out.trans x4)
            have HB4 := Lib.hid (HB2.out.ext X4.out)
            have XB4 := Lib.hid (XB2.out.trans X4.out)
            have HO4 := Lib.hid (HO2.out.ext X4.out)
            clear x4 X3 X4 I3 HB2 XB2 HO2
            cases ht : hasI (touchesL d.k d.f d.t) x with
            | false =>
              have HN := Lib.hid (takenE_no hlt (x := x) (by rw [← HD.out]; exact ht))
              clear ht
              go_wp2
              go_roundw
              case rel => exact ⟨k + 1, by omega, by go_num, HG1, Lib.hid (by rw [HN.out]; exact HO4.out), XB4.out⟩
              case measure => simp [intOf]; omega
            | true =>
              have HN := Lib.hid (takenE_yes hlt (x := x) (by rw [← HD.out]; exact ht))
              obtain ⟨p0, p1, p2, p3, p4, p5, p6, p7, p8⟩ := en_cells HB4.out
              obtain ⟨wc, hwc⟩ : ∃ wc, wc = w4.alloc (.cells #[.int .i64 d.r, .int .i64 d.n, .int .i64 d.k, .int .i64 d.i, .int .i64 d.f, .int .i64 d.t, .int .i64 d.a, .int .i64 d.c, .int .i64 d.s] 40) := ⟨_, rfl⟩
              have xc : Ext w4 wc := by rw [hwc]; exact Ext.alloc1 _ _
              have hb5 : BoxV wc w4.heap.size (enVs d) := by rw [hwc]; exact en_box _ _ _
              have HB5 := Lib.hid hb5
              have HO5 := Lib.hid (HO4.out.ext xc)
              have X5 := Lib.hid (XB4.out.trans xc)
              have HWC := Lib.hid hwc
              clear ht hb5 xc hwc
              go_wp2_with (at_builtin; rw [← HWC.out]; refine wpList_pushEn rfl _ _ rfl w.heap.size _ (takenE L x k) d rfl HO5.out w4.heap.size 1 rfl HB5.out (by have := HL.out; have := H6.out; omega) X5.out.size ?_)
              intro v' w' hf' hg' hk'
              have F' := Lib.hid hf'
              have X' := Lib.hid (hk' w X5.out (Nat.le_refl _))
              clear hf' hg' hk' p0 p1 p2 p3 p4 p5 p6 p7 p8
              go_wp2
              go_roundw
              case rel => exact ⟨k + 1, by omega, by go_num, HG1, Lib.hid (by rw [HN.out, HD.out] at *; exact F'.out), X'.out⟩
              case measure => simp [intOf]; omega
        · obtain rfl : k = L.length := by omega
          have HQ := Lib.hid (acctOk_all H6.out H2.out (fun j hj => HG.out j hj hj))
          have hf := HO.out
          rw [takenE_all, ← acctL_yes HQ.out] at hf
          have HF := Lib.hid hf.ans
          clear hf HO
          go_wp2
          go_ret2
          rw [HQ.out]
          exact ⟨_, rfl, HF.out, hx⟩
  · have hb := acctOk_long (x := x) h1
    rw [acctL_no hb, hb]
    have g1 : (60 : Int) < L.length := by omega
    clear hcv hb
    go_enter Try.func6, Try.ntmps6
    go_wp2
    go_ret2
    exact ⟨_, rfl, .inl ⟨rfl, rfl⟩, Ext.refl _⟩
set_option maxHeartbeats 4000000 in
set_option maxRecDepth 100000 in
theorem implAcct_any (v : Value) (L : List EnD) (x : Int) (w : World) (hv : Enz w v L) :
    Calls Try.prog 8 #[v, .int .i64 x] w (AcctI (acctL L x) (acctOk L x) w) := by
  obtain ⟨av, cv, rfl, hlv, _, hcv⟩ := hv
  unfold maxLen at hlv
  by_cases h1 : L.length ≤ 60
  · have g1 : ¬ (60 : Int) < L.length := by omega
    cases h2 : acctB x with
    | false =>
      have hb := acctOk_acct (L := L) h2
      rw [acctL_no hb, hb]
      have H2 := Lib.hid h2
      clear hcv h2 hb
      go_enter Try.func8, Try.ntmps8
      go_wp2_with fail
      refine (isAccount_any _ _).mono ?_
      rintro e w1 ⟨rfl, rfl⟩
      rw [H2.out]
      go_wp2
      go_ret2
      exact ⟨_, rfl, .inl ⟨rfl, rfl⟩, Ext.refl _⟩
    | true =>
      have H2 := Lib.hid h2
      have H6 := Lib.hid h1
      clear h2 h1
      go_enter Try.func8, Try.ntmps8
      go_wp2_with fail
      refine (isAccount_any _ _).mono ?_
      rintro e w1 ⟨rfl, rfl⟩
      rw [H2.out]
      go_wp2
      go_loopw [6, 8, 9, 10, 21] (fun o _ _ _ i wr => ∃ k : Nat, k ≤ L.length ∧ i = .int .i64 k ∧ Hid (∀ j (hj : j < L.length), j < k → goodEn L[j] = true) ∧ Hid (FreshEn w.heap.size wr o (takenE L x k)) ∧ Ext w wr) (fun _ _ _ _ i _ => L.length - (intOf i).toNat)
      case atStart => exact ⟨0, Nat.zero_le _, rfl, Lib.hid (fun j _ h => by omega), Lib.hid (FreshEn.nil _ _), Ext.refl _⟩
      case round =>
        obtain ⟨k, hk, rfl, HG, HO, hx⟩ := hrel
        by_cases hlt : k < L.length
        · obtain ⟨b, off, rfl, dv⟩ := hcv (by omega)
          have hd0 := (dv k hlt).ext hx
          obtain ⟨d, hd⟩ : ∃ d, d = L[k] := ⟨_, rfl⟩
          rw [← hd] at hd0
          obtain ⟨p0, p1, p2, p3, p4, p5, p6, p7, p8⟩ := enIn_cells hd0
          obtain ⟨wb, hwb⟩ : ∃ wb, wb = wr.alloc (.cells #[.int .i64 d.r, .int .i64 d.n, .int .i64 d.k, .int .i64 d.i, .int .i64 d.f, .int .i64 d.t, .int .i64 d.a, .int .i64 d.c, .int .i64 d.s] 40) := ⟨_, rfl⟩
          have xb : Ext wr wb := by rw [hwb]; exact Ext.alloc1 _ _
          have hb : BoxV wb wr.heap.size (enVs d) := by rw [hwb]; exact en_box _ _ _
          have HWB := Lib.hid hwb
          have HD := Lib.hid hd
          have XB := Lib.hid (hx.trans xb)
          have HB := Lib.hid hb
          have HO1 := Lib.hid (HO.out.ext xb)
          have HL := Lib.hid (takenE_len L x k)
          clear dv hd0 hd hwb xb hb hcv hx
          go_wp2_with fail
          rw [← HWB.out]
          refine (implTouches_any _ _ _ _ _ _).mono ?_
          rintro e w2 ⟨v2, rfl, f2, x2⟩
          have I2 := Lib.hid f2.ints
          have HB2 := Lib.hid (HB.out.ext x2)
          have XB2 := Lib.hid (XB.out.trans x2)
          have HO2 := Lib.hid (HO1.out.ext x2)
          clear f2 x2 p0 p1 p2 p3 p4 p5 p6 p7 p8 HO1 HB
          cases hg : goodB d.k d.i d.f d.t d.a with
          | false =>
            have HQ : Hid (acctOk L x = false) := Lib.hid (acctOk_bad hlt (by rw [← HD.out]; exact hg))
            clear hg
            go_wp2
            go_ret2
            rw [acctL_no HQ.out, HQ.out]
            exact ⟨_, rfl, .inl ⟨rfl, rfl⟩, XB2.out⟩
          | true =>
            have HG1 : Hid (∀ j (hj : j < L.length), j < k + 1 → goodEn L[j] = true) := Lib.hid (fun j hj h => by
              by_cases e : j = k
              · subst e; rw [← HD.out]; exact hg
              · exact HG.out j hj (by omega))
            have hi := I2.out
            rw [touchesOf_good hg] at hi
            have I3 := Lib.hid hi
            clear hg HG hi I2
            go_wp2_with fail
            refine (contains_any _ _ _ _ I3.out).mono ?_
            rintro e w4 ⟨rfl, x4⟩
            have HB4 := Lib.hid (HB2.out.ext x4)
            have XB4 := Lib.hid (XB2.out.trans x4)
            have HO4 := Lib.hid (HO2.out.ext x4)
            clear x4 I3 HB2 XB2 HO2
            cases ht : hasI (touchesL d.k d.f d.t) x with
            | false =>
              have HN := Lib.hid (takenE_no hlt (x := x) (by rw [← HD.out]; exact ht))
              clear ht
              go_wp2
              go_roundw
              case rel => exact ⟨k + 1, by omega, by go_num, HG1, Lib.hid (by rw [HN.out]; exact HO4.out), XB4.out⟩
              case measure => simp [intOf]; omega
            | true =>
              have HN := Lib.hid (takenE_yes hlt (x := x) (by rw [← HD.out]; exact ht))
              obtain ⟨p0, p1, p2, p3, p4, p5, p6, p7, p8⟩ := en_cells HB4.out
              obtain ⟨wc, hwc⟩ : ∃ wc, wc = w4.alloc (.cells #[.int .i64 d.r, .int .i64 d.n, .int .i64 d.k, .int .i64 d.i, .int .i64 d.f, .int .i64 d.t, .int .i64 d.a, .int .i64 d.c, .int .i64 d.s] 40) := ⟨_, rfl⟩
              have xc : Ext w4 wc := by rw [hwc]; exact Ext.alloc1 _ _
              have hb5 : BoxV wc w4.heap.size (enVs d) := by rw [hwc]; exact en_box _ _ _
              have HB5 := Lib.hid hb5
              have HO5 := Lib.hid (HO4.out.ext xc)
              have X5 := Lib.hid (XB4.out.trans xc)
              have HWC := Lib.hid hwc
              clear ht hb5 xc hwc
              go_wp2_with (at_builtin; rw [← HWC.out]; refine wpList_pushEn rfl _ _ rfl w.heap.size _ (takenE L x k) d rfl HO5.out w4.heap.size 1 rfl HB5.out (by have := HL.out; have := H6.out; omega) X5.out.size ?_)
              intro v' w' hf' hg' hk'
              have F' := Lib.hid hf'
              have X' := Lib.hid (hk' w X5.out (Nat.le_refl _))
              clear hf' hg' hk' p0 p1 p2 p3 p4 p5 p6 p7 p8
              go_wp2
              go_roundw
              case rel => exact ⟨k + 1, by omega, by go_num, HG1, Lib.hid (by rw [HN.out, HD.out] at *; exact F'.out), X'.out⟩
              case measure => simp [intOf]; omega
        · obtain rfl : k = L.length := by omega
          have HQ := Lib.hid (acctOk_all H6.out H2.out (fun j hj => HG.out j hj hj))
          have hf := HO.out
          rw [takenE_all, ← acctL_yes HQ.out] at hf
          have HF := Lib.hid hf.ans
          clear hf HO
          go_wp2
          go_ret2
          rw [HQ.out]
          exact ⟨_, rfl, HF.out, hx⟩
  · have hb := acctOk_long (x := x) h1
    rw [acctL_no hb, hb]
    have g1 : (60 : Int) < L.length := by omega
    clear hcv hb
    go_enter Try.func8, Try.ntmps8
    go_wp2
    go_ret2
    exact ⟨_, rfl, .inl ⟨rfl, rfl⟩, Ext.refl _⟩
end Go.Proofs.Ytcpmfcigciknlaa
