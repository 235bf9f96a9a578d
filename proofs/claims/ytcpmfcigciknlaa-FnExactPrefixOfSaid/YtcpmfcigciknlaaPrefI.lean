/- Contracts of PrefixOf: slices.Equal of entries, the program's and the model's. -/
import Derived.Test.YtcpmfcigciknlaaEnCmp
namespace Go.Proofs.Ytcpmfcigciknlaa
open Go.RowKit
set_option linter.unusedVariables false

def eqLE (A B : List EnD) : Bool := decide (A.length = B.length) && prefE A B
theorem eqLE_take {A B : List EnD} (h : A.length ≤ B.length) : eqLE A (B.take A.length) = prefE A B := by
  have h1 : (B.take A.length).length = A.length := by rw [List.length_take]; omega
  have h2 : ∀ (A B : List EnD), prefE A (B.take A.length) = prefE A B := by
    intro A
    induction A with
    | nil => intro B; rfl
    | cons x a ih =>
      intro B
      cases B with
      | nil => rfl
      | cons y b =>
        show (eqE x y && prefE a (b.take a.length)) = (eqE x y && prefE a b)
        rw [ih]
  unfold eqLE
  rw [h1, decide_eq_true rfl, Bool.true_and, h2]
theorem alike_step {A B : List EnD} {k : Nat} (hk : k < A.length) (hk' : k < B.length) (h : ∀ j (h : j < A.length) (h' : j < B.length), j < k → eqE A[j] B[j] = true) (he : eqE A[k] B[k] = true) : ∀ j (h : j < A.length) (h' : j < B.length), j < k + 1 → eqE A[j] B[j] = true := fun j h1 h2 h3 => by
  by_cases e : j = k
  · subst e; exact he
  · exact h j h1 h2 (by omega)

set_option maxHeartbeats 2000000 in
set_option maxRecDepth 100000 in
theorem equalEns_any (u v : Value) (l r : List EnD) (w : World) (hu : Enz w u l) (hv : Enz w v r) :
    Calls Try.prog 23 #[u, v] w (BoolExt (eqLE l r) w) := by
  obtain ⟨au, cu, rfl, hlu, _, hcu⟩ := hu
  obtain ⟨av, cv, rfl, hlv, _, hcv⟩ := hv
  unfold maxLen at hlu hlv
  have hq := neqEn
  unfold enV at hq
  by_cases hl : l.length = r.length
  · have e0 : ((l.length : Int) != (r.length : Int)) = false := by simp [hl]
    have HL := Lib.hid hl
    clear hl
    go_enter Try.func23, Try.ntmps23
    go_wp2
    go_loopw [5, 13] (fun _ i wr => ∃ k : Nat, k ≤ l.length ∧ i = .int .i64 k ∧ Hid (∀ j (h : j < l.length) (h' : j < r.length), j < k → eqE l[j] r[j] = true) ∧ ∃ nq, wr = w.drewN nq) (fun _ i _ => l.length - (intOf i).toNat)
    case atStart => exact ⟨0, Nat.zero_le _, rfl, Lib.hid (fun j _ _ h => by omega), 0, rfl⟩
    case round =>
      obtain ⟨k, hk, rfl, HT, nq0, rfl⟩ := hrel
      by_cases hlt : k < l.length
      · have hltr : k < r.length := by have := HL.out; omega
        obtain ⟨bu, ou, rfl, du⟩ := hcu (by omega)
        obtain ⟨bv, ov, rfl, dv⟩ := hcv (by omega)
        have hx := du k hlt
        have hy := dv k hltr
        obtain ⟨x, hxe⟩ : ∃ x, x = l[k] := ⟨_, rfl⟩
        obtain ⟨y, hye⟩ : ∃ y, y = r[k] := ⟨_, rfl⟩
        rw [← hxe] at hx
        rw [← hye] at hy
        have hqk := fun W => hq x y W
        obtain ⟨p0, p1, p2, p3, p4, p5, p6, p7, p8⟩ := enIn_cells hx
        obtain ⟨q0, q1, q2, q3, q4, q5, q6, q7, q8⟩ := enIn_cells hy
        have HXE := Lib.hid hxe
        have HYE := Lib.hid hye
        clear hcu hcv du dv hx hy hxe hye hq
        cases he : eqE x y with
        | true =>
          simp only [he, Bool.not_true, Bool.not_false] at hqk
          have HE : Hid (eqE l[k] r[k] = true) := Lib.hid (by rw [← HXE.out, ← HYE.out]; exact he)
          clear he
          go_wp2_with fail
          go_quiet (fail)
          clear p0 p1 p2 p3 p4 p5 p6 p7 p8 q0 q1 q2 q3 q4 q5 q6 q7 q8
          go_wp2
          go_roundw
          case rel => exact ⟨k + 1, by omega, by go_num, Lib.hid (alike_step hlt hltr HT.out HE.out), _, rfl⟩
          case measure => simp [intOf]; omega
        | false =>
          simp only [he, Bool.not_true, Bool.not_false] at hqk
          have HE : Hid (eqLE l r = false) := Lib.hid (by
            have h := prefE_no hlt hltr (by rw [← HXE.out, ← HYE.out]; exact he)
            unfold eqLE
            rw [h, Bool.and_false])
          clear he
          go_wp2_with fail
          go_quiet (fail)
          clear p0 p1 p2 p3 p4 p5 p6 p7 p8 q0 q1 q2 q3 q4 q5 q6 q7 q8
          go_wp2
          go_ret
          refine ⟨?_, by repeat (first | exact Ext.refl _ | apply Ext.drewN)⟩
          rw [HE.out]; rfl
      · have hk' : k = l.length := by omega
        subst hk'
        go_wp2
        go_ret
        refine ⟨?_, by repeat (first | exact Ext.refl _ | apply Ext.drewN)⟩
        have he : eqLE l r = true := by
          unfold eqLE
          rw [prefE_yes (by rw [HL.out]; exact Nat.le_refl _) (fun j h1 h2 => HT.out j h1 h2 h1)]
          simp [HL.out]
        rw [he]; rfl
  · have e0 : ((l.length : Int) != (r.length : Int)) = true := by simp; omega
    have HL := Lib.hid hl
    clear hl hq
    go_enter Try.func23, Try.ntmps23
    go_wp2
    go_ret
    refine ⟨?_, Ext.refl w⟩
    have hne : eqLE l r = false := by unfold eqLE; simp [HL.out]
    rw [hne]; rfl

set_option maxHeartbeats 2000000 in
set_option maxRecDepth 100000 in
theorem implPrefix_any (u v : Value) (A B : List EnD) (w : World) (hu : Enz w u A) (hv : Enz w v B) :
    Calls Try.prog 13 #[u, v] w (TwoB (prefOk A B && prefE A B) (prefOk A B) w) := by
  have HU := Lib.hid hu
  have HV := Lib.hid hv
  obtain ⟨au, cu, rfl, hlu, hau, _⟩ := hu
  obtain ⟨av, cv, rfl, hlv, hav, _⟩ := hv
  unfold maxLen at hlu hlv hau hav
  by_cases h1 : A.length ≤ 60
  · by_cases h2 : B.length ≤ 60
    · rw [prefOk_yes h1 h2, Bool.true_and]
      have g1 : ¬ (60 : Int) < A.length := by omega
      have g2 : ¬ (60 : Int) < B.length := by omega
      by_cases h3 : A.length ≤ B.length
      · have HQ := Lib.hid (eqLE_take h3)
        have HT := Lib.hid (enz_take HV.out h3)
        obtain ⟨c0, c1, c2⟩ := hav
        have i3 : (A.length : Int) ≤ (B.length : Int) := by omega
        have i4 : (0 : Int) ≤ (A.length : Int) := by omega
        have i5 : (A.length : Int) ≤ (cv : Int) := by omega
        clear hau c2
        go_enter Try.func13, Try.ntmps13
        go_wp2_with fail
        refine (equalEns_any _ _ A (B.take A.length) _ HU.out HT.out).mono ?_
        rintro e w1 ⟨rfl, x1⟩
        rw [HQ.out]
        go_wp2
        go_ret2
        exact ⟨rfl, x1⟩
      · have HQ := Lib.hid (prefE_short (A := A) (B := B) (by omega))
        have i3 : ¬ (A.length : Int) ≤ (B.length : Int) := by omega
        rw [HQ.out]
        clear hau hav
        go_enter Try.func13, Try.ntmps13
        go_wp2
        go_ret2
        exact ⟨rfl, Ext.refl _⟩
    · rw [prefOk_b h2, Bool.false_and]
      have g1 : ¬ (60 : Int) < A.length := by omega
      have g2 : (60 : Int) < B.length := by omega
      clear hau hav
      go_enter Try.func13, Try.ntmps13
      go_wp2
      go_ret2
      exact ⟨rfl, Ext.refl _⟩
  · rw [prefOk_a h1, Bool.false_and]
    have g1 : (60 : Int) < A.length := by omega
    clear hau hav
    go_enter Try.func13, Try.ntmps13
    go_wp2
    go_ret2
    exact ⟨rfl, Ext.refl _⟩

set_option maxHeartbeats 4000000 in
set_option maxRecDepth 100000 in
theorem specPrefix_any (u v : Value) (A B : List EnD) (w : World) (hu : Enz w u A) (hv : Enz w v B) :
    Calls Try.prog 12 #[u, v] w (TwoB (prefOk A B && prefE A B) (prefOk A B) w) := by
  obtain ⟨au, cu, rfl, hlu, _, hcu⟩ := hu
  obtain ⟨av, cv, rfl, hlv, _, hcv⟩ := hv
  unfold maxLen at hlu hlv
  have hq := neqEn
  unfold enV at hq
  by_cases h1 : A.length ≤ 60
  · by_cases h2 : B.length ≤ 60
    · rw [prefOk_yes h1 h2, Bool.true_and]
      have g1 : ¬ (60 : Int) < A.length := by omega
      have g2 : ¬ (60 : Int) < B.length := by omega
      go_enter Try.func12, Try.ntmps12
      go_wp2
      go_loopw [6, 7, 18] (fun _ _ i wr => ∃ k : Nat, k ≤ A.length ∧ k ≤ B.length ∧ i = .int .i64 k ∧ Hid (∀ j (h : j < A.length) (h' : j < B.length), j < k → eqE A[j] B[j] = true) ∧ Ext w wr) (fun _ _ i _ => A.length - (intOf i).toNat)
      case atStart => exact ⟨0, Nat.zero_le _, Nat.zero_le _, rfl, Lib.hid (fun j _ _ h => by omega), Ext.refl _⟩
      case round =>
        obtain ⟨k, hk, hkb, rfl, HT, hx⟩ := hrel
        by_cases hlt : k < A.length
        · obtain ⟨bu, ou, rfl, du⟩ := hcu (by omega)
          have hx1 := du k hlt
          obtain ⟨x, hxe⟩ : ∃ x, x = A[k] := ⟨_, rfl⟩
          rw [← hxe] at hx1
          obtain ⟨p0, p1, p2, p3, p4, p5, p6, p7, p8⟩ := enIn_cells (hx1.ext hx)
          obtain ⟨wb, hwb⟩ : ∃ wb, wb = wr.alloc (.cells #[.int .i64 x.r, .int .i64 x.n, .int .i64 x.k, .int .i64 x.i, .int .i64 x.f, .int .i64 x.t, .int .i64 x.a, .int .i64 x.c, .int .i64 x.s] 40) := ⟨_, rfl⟩
          have xb : Ext wr wb := by rw [hwb]; exact Ext.alloc1 _ _
          have hb : BoxV wb wr.heap.size (enVs x) := by rw [hwb]; exact en_box _ _ _
          have HWB := Lib.hid hwb
          have HXE := Lib.hid hxe
          have XB := Lib.hid (hx.trans xb)
          have HB := Lib.hid hb
          clear du hx1 hxe hwb xb hb hcu
          go_upto_region 6 with fail
          rw [← HWB.out]
          clear p0 p1 p2 p3 p4 p5 p6 p7 p8
          by_cases hkB : k < B.length
          · obtain ⟨bv, ov, rfl, dv⟩ := hcv (by omega)
            have hy1 := dv k hkB
            obtain ⟨y, hye⟩ : ∃ y, y = B[k] := ⟨_, rfl⟩
            rw [← hye] at hy1
            obtain ⟨q0, q1, q2, q3, q4, q5, q6, q7, q8⟩ := enIn_cells (hy1.ext XB.out)
            obtain ⟨p0, p1, p2, p3, p4, p5, p6, p7, p8⟩ := en_cells HB.out
            have HYE := Lib.hid hye
            have hqk := fun W => hq y x W
            have i0 : ¬ (B.length : Int) ≤ (k : Int) := by omega
            clear dv hy1 hye hq hcv
            cases he : eqE y x with
            | true =>
              simp only [he, Bool.not_true, Bool.not_false] at hqk
              have HE : Hid (eqE A[k] B[k] = true) := Lib.hid (by rw [← HXE.out, ← HYE.out]; rw [eqE_iff] at he ⊢; exact he.symm)
              clear he
              go_wp2_with fail
              go_quiet (fail)
              clear p0 p1 p2 p3 p4 p5 p6 p7 p8 q0 q1 q2 q3 q4 q5 q6 q7 q8
              go_wp2
              go_roundw
              case rel => exact ⟨k + 1, by omega, by omega, by go_num, Lib.hid (alike_step hlt hkB HT.out HE.out), by repeat (first | exact XB.out | apply Ext.drewN | apply Ext.drew)⟩
              case measure => simp [intOf]; omega
            | false =>
              simp only [he, Bool.not_true, Bool.not_false] at hqk
              have HE : Hid (prefE A B = false) := Lib.hid (prefE_no hlt hkB (by
                rw [← HXE.out, ← HYE.out]
                cases e : eqE x y with
                | false => rfl
                | true => rw [eqE_iff.1 e, eqE_iff.2 rfl] at he; cases he))
              clear he
              go_wp2_with fail
              go_quiet (fail)
              clear p0 p1 p2 p3 p4 p5 p6 p7 p8 q0 q1 q2 q3 q4 q5 q6 q7 q8
              go_wp2
              go_ret2
              rw [HE.out]
              exact ⟨rfl, by repeat (first | exact XB.out | apply Ext.drewN | apply Ext.drew)⟩
          · have HE : Hid (prefE A B = false) := Lib.hid (prefE_short (by omega))
            have i0 : (B.length : Int) ≤ (k : Int) := by omega
            obtain ⟨p0, p1, p2, p3, p4, p5, p6, p7, p8⟩ := en_cells HB.out
            clear hq hcv
            go_wp2_with fail
            go_quiet (fail)
            clear p0 p1 p2 p3 p4 p5 p6 p7 p8
            go_wp2
            go_ret2
            rw [HE.out]
            exact ⟨rfl, by repeat (first | exact XB.out | apply Ext.drewN | apply Ext.drew)⟩
        · obtain rfl : k = A.length := by omega
          have HE : Hid (prefE A B = true) := Lib.hid (prefE_yes hkb (fun j h1 h2 => HT.out j h1 h2 h1))
          go_wp2
          go_ret2
          rw [HE.out]
          exact ⟨rfl, hx⟩
    · rw [prefOk_b h2, Bool.false_and]
      have g1 : ¬ (60 : Int) < A.length := by omega
      have g2 : (60 : Int) < B.length := by omega
      clear hq
      go_enter Try.func12, Try.ntmps12
      go_wp2
      go_ret2
      exact ⟨rfl, Ext.refl _⟩
  · rw [prefOk_a h1, Bool.false_and]
    have g1 : (60 : Int) < A.length := by omega
    clear hq
    go_enter Try.func12, Try.ntmps12
    go_wp2
    go_ret2
    exact ⟨rfl, Ext.refl _⟩
end Go.Proofs.Ytcpmfcigciknlaa
