/- Texts of this proof, part f: words, plain facts, contracts. -/
import Derived.Test.YthnoeknalpnadaaMChooseOfe
import Derived.Test.YthnoeknalpnadaaMChooseOfd
import Derived.Test.YthnoeknalpnadaaMChooseOfa
import Derived.Test.YthnoeknalpnadaaMChooseOfc
import Derived.Test.YthnoeknalpnadaaMChooseOfb

namespace Go.Proofs.Ythnoeknalpnadaa
open Go.RowKit
set_option linter.unusedVariables false

theorem two_rows (w : World) (T T' : TypeId) (r d : RowD) (u v : Value) :
    RowAt ((w.alloc (.cells #[.int .i64 r.b, .int .i64 r.v, .int .i64 r.st, .int .i64 r.k, .int .i64 r.i, .int .i64 r.f, .int .i64 r.t, .int .i64 r.a, .int .i64 r.s, u] T)).alloc (.cells #[.int .i64 d.b, .int .i64 d.v, .int .i64 d.st, .int .i64 d.k, .int .i64 d.i, .int .i64 d.f, .int .i64 d.t, .int .i64 d.a, .int .i64 d.s, v] T')) w.heap.size r u ∧
    RowAt ((w.alloc (.cells #[.int .i64 r.b, .int .i64 r.v, .int .i64 r.st, .int .i64 r.k, .int .i64 r.i, .int .i64 r.f, .int .i64 r.t, .int .i64 r.a, .int .i64 r.s, u] T)).alloc (.cells #[.int .i64 d.b, .int .i64 d.v, .int .i64 d.st, .int .i64 d.k, .int .i64 d.i, .int .i64 d.f, .int .i64 d.t, .int .i64 d.a, .int .i64 d.s, v] T')) (w.heap.size + 1) d v := by
  refine ⟨⟨?_, ?_, ?_, ?_, ?_, ?_, ?_, ?_, ?_, ?_⟩, ⟨?_, ?_, ?_, ?_, ?_, ?_, ?_, ?_, ?_, ?_⟩⟩ <;> go_simp

set_option maxHeartbeats 2000000 in
theorem eqRow_same (r : RowD) (u v : Value) (w : World) (hu : Ints w u r.l) (hv : Ints w v r.l) :
    Calls Try.prog 43 #[.agg #[.int .i64 r.b, .int .i64 r.v, .int .i64 r.st, .int .i64 r.k, .int .i64 r.i, .int .i64 r.f, .int .i64 r.t, .int .i64 r.a, .int .i64 r.s, u], .agg #[.int .i64 r.b, .int .i64 r.v, .int .i64 r.st, .int .i64 r.k, .int .i64 r.i, .int .i64 r.f, .int .i64 r.t, .int .i64 r.a, .int .i64 r.s, v]] w (BoolExt true w) := by
  have h2 := two_rows w 71 71 r r u v
  obtain ⟨wb, hwb⟩ : ∃ wb, wb = (w.alloc (.cells #[.int .i64 r.b, .int .i64 r.v, .int .i64 r.st, .int .i64 r.k, .int .i64 r.i, .int .i64 r.f, .int .i64 r.t, .int .i64 r.a, .int .i64 r.s, u] 71)).alloc (.cells #[.int .i64 r.b, .int .i64 r.v, .int .i64 r.st, .int .i64 r.k, .int .i64 r.i, .int .i64 r.f, .int .i64 r.t, .int .i64 r.a, .int .i64 r.s, v] 71) := ⟨_, rfl⟩
  have xb : Ext w wb := by rw [hwb]; exact ((Ext.refl w).alloc _).alloc _
  rw [← hwb] at h2
  have HWB := Lib.hid hwb
  have H2 := Lib.hid h2
  have e0 : (r.b != r.b) = false := by simp
  have e1 : (r.v != r.v) = false := by simp
  have e2 : (r.st != r.st) = false := by simp
  clear hwb h2
  go_enter Try.func43, Try.ntmps43
  go_wp2_with fail
  rw [← HWB.out]
  refine (eqCmd_same _ _ _ _ _ _).mono ?_
  rintro e w1 ⟨rfl, x1⟩
  obtain ⟨p0, p1, p2, p3, p4, p5, p6, p7, p8, p9⟩ := H2.out.1.ext x1
  obtain ⟨q0, q1, q2, q3, q4, q5, q6, q7, q8, q9⟩ := H2.out.2.ext x1
  go_wp2_with fail
  refine (eqAttr_same _ _ _ r.l _ (hu.ext (xb.trans x1)) (hv.ext (xb.trans x1))).mono ?_
  rintro e w2 ⟨rfl, x2⟩
  have hx := (xb.trans x1).trans x2
  clear p0 p1 p2 p3 p4 p5 p6 p7 p8 p9 q0 q1 q2 q3 q4 q5 q6 q7 q8 q9 x1 x2 xb
  go_wp2
  go_ret
  exact ⟨rfl, hx⟩

theorem stepR {wb W W' : World} {b o b' o' : Nat} {r d : RowD} {u v : Value} (x : Ext W W') (h : Ext wb W ∧ RowIn W b o r u ∧ RowIn W b' o' d v) : Ext wb W' ∧ RowIn W' b o r u ∧ RowIn W' b' o' d v :=
  ⟨h.1.trans x, h.2.1.ext x, h.2.2.ext x⟩

set_option maxHeartbeats 2000000 in
theorem eqRowS_same (u v : Value) (R : List RowD) (w : World) (hu : Rowz w u R) (hv : Rowz w v R) :
    Calls Try.prog 26 #[u, v] w (BoolExt true w) := by
  obtain ⟨au, cu, rfl, hlu, _, hcu⟩ := hu
  obtain ⟨av, cv, rfl, hlv, _, hcv⟩ := hv
  unfold maxLen at hlu hlv
  have e0 : ((R.length : Int) != (R.length : Int)) = false := by simp
  go_enter Try.func26, Try.ntmps26
  go_wp2
  go_loopw [5] (fun i wr => ∃ k : Nat, k ≤ R.length ∧ i = .int .i64 k ∧ Ext w wr) (fun i _ => R.length - (intOf i).toNat)
  case atStart => exact ⟨0, Nat.zero_le _, rfl, Ext.refl _⟩
  case round =>
    obtain ⟨k, hk, rfl, hx⟩ := hrel
    by_cases hlt : k < R.length
    · obtain ⟨bu, ou, rfl, du⟩ := hcu (by omega)
      obtain ⟨bv, ov, rfl, dv⟩ := hcv (by omega)
      obtain ⟨x, hx1, ix⟩ := du k hlt
      obtain ⟨y, hy1, iy⟩ := dv k hlt
      obtain ⟨d, hd⟩ : ∃ d, d = R[k] := ⟨_, rfl⟩
      rw [← hd] at hx1 ix hy1 iy
      have gu := hx1.ext hx
      have gv := hy1.ext hx
      have IX := Lib.hid (ix.ext hx)
      have IY := Lib.hid (iy.ext hx)
      clear hcu hcv du dv hx1 hy1 ix iy hd
      have IXY : Hid (RowIn wr bu (ou + k * 10) d x ∧ RowIn wr bv (ov + k * 10) d y) := Lib.hid ⟨gu, gv⟩
      clear gu gv
      go_wp2_with fail
      go_region_held3 (fun W => Ext wr W ∧ (W.cell? ⟨bu, ou + k * 10, none⟩ = some (.int .i64 d.b) ∧ W.cell? ⟨bu, ou + k * 10 + 1, none⟩ = some (.int .i64 d.v) ∧ W.cell? ⟨bu, ou + k * 10 + 2, none⟩ = some (.int .i64 d.st) ∧ W.cell? ⟨bu, ou + k * 10 + 3, none⟩ = some (.int .i64 d.k) ∧ W.cell? ⟨bu, ou + k * 10 + 4, none⟩ = some (.int .i64 d.i) ∧ W.cell? ⟨bu, ou + k * 10 + 5, none⟩ = some (.int .i64 d.f) ∧ W.cell? ⟨bu, ou + k * 10 + 6, none⟩ = some (.int .i64 d.t) ∧ W.cell? ⟨bu, ou + k * 10 + 7, none⟩ = some (.int .i64 d.a) ∧ W.cell? ⟨bu, ou + k * 10 + 8, none⟩ = some (.int .i64 d.s) ∧ W.cell? ⟨bu, ou + k * 10 + 9, none⟩ = some x) ∧ (W.cell? ⟨bv, ov + k * 10, none⟩ = some (.int .i64 d.b) ∧ W.cell? ⟨bv, ov + k * 10 + 1, none⟩ = some (.int .i64 d.v) ∧ W.cell? ⟨bv, ov + k * 10 + 2, none⟩ = some (.int .i64 d.st) ∧ W.cell? ⟨bv, ov + k * 10 + 3, none⟩ = some (.int .i64 d.k) ∧ W.cell? ⟨bv, ov + k * 10 + 4, none⟩ = some (.int .i64 d.i) ∧ W.cell? ⟨bv, ov + k * 10 + 5, none⟩ = some (.int .i64 d.f) ∧ W.cell? ⟨bv, ov + k * 10 + 6, none⟩ = some (.int .i64 d.t) ∧ W.cell? ⟨bv, ov + k * 10 + 7, none⟩ = some (.int .i64 d.a) ∧ W.cell? ⟨bv, ov + k * 10 + 8, none⟩ = some (.int .i64 d.s) ∧ W.cell? ⟨bv, ov + k * 10 + 9, none⟩ = some y)) (first | (exact stepR (b := bu) (o := ou + k * 10) (b' := bv) (o' := ov + k * 10) (r := d) (d := d) (u := x) (v := y) (by assumption) (by assumption)) | (exact ⟨Ext.drew (Ext.refl _), IXY.out⟩)) (first | (go_at_call 43; refine (eqRow_same d _ _ _ (IX.out.ext (Ext.drew (Ext.refl _))) (IY.out.ext (Ext.drew (Ext.refl _)))).mono ?_; rintro e W ⟨rfl, x9⟩))
      rename_i hH
      have hx2 : Ext w W := hx.trans hH.1
      clear hH x9 hx
      go_wp2
      go_roundw
      case rel => exact ⟨k + 1, by omega, by go_num, hx2⟩
      case measure => simp [intOf]; omega
    · obtain rfl : k = R.length := by omega
      go_wp2
      go_ret
      exact ⟨rfl, hx⟩

end Go.Proofs.Ythnoeknalpnadaa

namespace Go.Proofs.Ythnoeknalpnadaa
open Go.RowKit
set_option linter.unusedVariables false

set_option maxHeartbeats 2000000 in
theorem eqRowSS_same (u v : Value) (T : List (List RowD)) (w : World) (hu : Rowzz w u T) (hv : Rowzz w v T) :
    Calls Try.prog 108 #[u, v] w (BoolExt true w) := by
  obtain ⟨au, cu, rfl, hlu, _, hcu⟩ := hu
  obtain ⟨av, cv, rfl, hlv, _, hcv⟩ := hv
  unfold maxLen at hlu hlv
  have e0 : ((T.length : Int) != (T.length : Int)) = false := by simp
  go_enter Try.func108, Try.ntmps108
  go_wp2
  go_loopw [5] (fun i wr => ∃ k : Nat, k ≤ T.length ∧ i = .int .i64 k ∧ Ext w wr) (fun i _ => T.length - (intOf i).toNat)
  case atStart => exact ⟨0, Nat.zero_le _, rfl, Ext.refl _⟩
  case round =>
    obtain ⟨k, hk, rfl, hx⟩ := hrel
    by_cases hlt : k < T.length
    · obtain ⟨bu, ou, rfl, du⟩ := hcu (by omega)
      obtain ⟨bv, ov, rfl, dv⟩ := hcv (by omega)
      obtain ⟨x, hx1, ix⟩ := du k hlt
      obtain ⟨y, hy1, iy⟩ := dv k hlt
      obtain ⟨d, hd⟩ : ∃ d, d = T[k] := ⟨_, rfl⟩
      rw [← hd] at ix iy
      have gu := hx.cell hx1
      have gv := hx.cell hy1
      have IX := Lib.hid (ix.ext hx)
      have IY := Lib.hid (iy.ext hx)
      clear hcu hcv du dv hx1 hy1 ix iy hd
      go_wp2_with fail
      go_region_held3 (fun W => Ext wr W ∧ W.cell? ⟨bu, ou + k, none⟩ = some x ∧ W.cell? ⟨bv, ov + k, none⟩ = some y) (first | (exact step2 (by assumption) (by assumption)) | (exact ⟨Ext.drew (Ext.refl _), gu, gv⟩)) (first | (go_at_call 26; refine (eqRowS_same _ _ d _ (IX.out.ext (Ext.drew (Ext.refl _))) (IY.out.ext (Ext.drew (Ext.refl _)))).mono ?_; rintro e W ⟨rfl, x9⟩))
      rename_i hH
      have hx2 : Ext w W := hx.trans hH.1
      clear hH x9 gu gv hx
      go_wp2
      go_roundw
      case rel => exact ⟨k + 1, by omega, by go_num, hx2⟩
      case measure => simp [intOf]; omega
    · obtain rfl : k = T.length := by omega
      go_wp2
      go_ret
      exact ⟨rfl, hx⟩

set_option maxHeartbeats 1000000 in
theorem eqTable_same (n : Int) (u v : Value) (T : List (List RowD)) (w : World) (hu : Rowzz w u T) (hv : Rowzz w v T) :
    Calls Try.prog 42 #[.agg #[.int .i64 n, u], .agg #[.int .i64 n, v]] w (BoolExt true w) := by
  have hx : Ext w ((w.alloc (.cells #[.int .i64 n, u] 24)).alloc (.cells #[.int .i64 n, v] 24)) := ((Ext.refl w).alloc _).alloc _
  have e0 : ((n : Int) != n) = false := by simp
  go_enter Try.func42, Try.ntmps42
  go_wp2_with fail
  refine (eqRowSS_same _ _ _ _ (hu.ext hx) (hv.ext hx)).mono ?_
  rintro e w1 ⟨rfl, x1⟩
  have hy := hx.trans x1
  clear hx x1
  go_wp2
  go_ret
  exact ⟨rfl, hy⟩

end Go.Proofs.Ythnoeknalpnadaa

namespace Go.Proofs.Ythnoeknalpnadaa
open Go.RowKit
set_option linter.unusedVariables false

theorem allx_take_succ {α : Type} {l : List α} {k : Nat} (h : k < l.length) (p : α → Bool) (ht : (l.take k).all p = true) (hp : p l[k] = true) : (l.take (k + 1)).all p = true := by
  rw [List.take_add_one, List.all_append, ht, List.getElem?_eq_getElem h]
  simpa using hp
theorem allx_false_at {α : Type} {l : List α} {k : Nat} (h : k < l.length) (p : α → Bool) (hp : p l[k] = false) : l.all p = false := by
  rw [List.all_eq_false]
  exact ⟨l[k], List.getElem_mem h, by rw [hp]; simp⟩

/-- Whether a list of rows, whether all lists of a table are good. -/
def goodList (n : Int) (R : List RowD) : Bool := decide (R.length ≤ 6) && R.all (goodRow n)
def goodTab (n : Int) (T : List (List RowD)) : Bool := (isGrp n && decide ((T.length : Int) = n)) && T.all (goodList n)
theorem goodTab_grp {n : Int} {T : List (List RowD)} (h : isGrp n = false) : goodTab n T = false := by unfold goodTab; rw [h]; rfl
theorem goodTab_len {n : Int} {T : List (List RowD)} (h : (T.length : Int) ≠ n) : goodTab n T = false := by unfold goodTab; rw [decide_eq_false h, Bool.and_false]; rfl
theorem goodTab_all {n : Int} {T : List (List RowD)} (h : isGrp n = true) (hl : (T.length : Int) = n) : goodTab n T = T.all (goodList n) := by unfold goodTab; rw [h, decide_eq_true hl]; rfl
theorem goodList_long {n : Int} {R : List RowD} (h : 6 < R.length) : goodList n R = false := by unfold goodList; rw [decide_eq_false (by omega)]; rfl
theorem goodList_all {n : Int} {R : List RowD} (h : R.length ≤ 6) : goodList n R = R.all (goodRow n) := by unfold goodList; rw [decide_eq_true h]; rfl
theorem goodList_row {n : Int} {R : List RowD} (h : R.all (goodRow n) = false) : goodList n R = false := by unfold goodList; rw [h, Bool.and_false]

set_option maxHeartbeats 4000000 in
theorem specGoodTable_any (n : Int) (u : Value) (T : List (List RowD)) (w : World) (hu : Rowzz w u T) :
    Calls Try.prog 93 #[.agg #[.int .i64 n, u]] w (BoolExt (goodTab n T) w) := by
  obtain ⟨au, cu, rfl, hlu, _, hcu⟩ := hu
  unfold maxLen at hlu
  cases hg : isGrp n with
  | false =>
    rw [goodTab_grp hg]
    have HG := Lib.hid hg
    clear hg hcu
    go_enter Try.func93, Try.ntmps93
    go_wp2_with fail
    refine (specIsGroup_any _ _).mono ?_
    rintro e w' ⟨rfl, rfl⟩
    rw [HG.out]
    go_wp2
    go_ret
    exact ⟨rfl, Ext.alloc1 _ _⟩
  | true =>
    have HG := Lib.hid hg
    by_cases hl : (T.length : Int) = n
    · rw [goodTab_all hg hl]
      have e0 : ((T.length : Int) != n) = false := by simp [hl]
      have HL := Lib.hid hl
      obtain ⟨wb, hwb⟩ : ∃ wb, wb = w.alloc (.cells #[.int .i64 n, .slice au T.length cu] 24) := ⟨_, rfl⟩
      have hb := attrAt_new w 24 n (.slice au T.length cu)
      rw [← hwb] at hb
      have xb : Ext w wb := by rw [hwb]; exact Ext.alloc1 _ _
      have HWB := Lib.hid hwb
      have HBB := Lib.hid hb
      clear hg hl hwb hb
      go_enter Try.func93, Try.ntmps93
      go_wp2_with fail
      refine (specIsGroup_any _ _).mono ?_
      rintro e w' ⟨rfl, rfl⟩
      rw [HG.out]
      go_wp2
      rw [← HWB.out]
      go_loopw [22] (fun i wr => ∃ k : Nat, k ≤ T.length ∧ i = .int .i64 k ∧ Hid ((T.take k).all (goodList n) = true) ∧ Ext wb wr) (fun i _ => T.length - (intOf i).toNat)
      case atStart => exact ⟨0, Nat.zero_le _, rfl, Lib.hid (by simp), Ext.refl _⟩
      case round =>
        obtain ⟨k, hk, rfl, HT, hx⟩ := hrel
        by_cases hlt : k < T.length
        · obtain ⟨bu, ou, rfl, du⟩ := hcu (by omega)
          obtain ⟨x, hx1, ix⟩ := du k hlt
          have gu := (xb.trans hx).cell hx1
          have ixr := ix.ext (xb.trans hx)
          obtain ⟨R, hR⟩ : ∃ R, R = T[k] := ⟨_, rfl⟩
          rw [← hR] at ixr
          obtain ⟨ax, cx, rfl, hlx, _, hcx⟩ := ixr
          unfold maxLen at hlx
          have HR := Lib.hid hR
          clear hcu du hx1 ix hR
          obtain ⟨wo, hwo⟩ : ∃ wo : World, wo = wr := ⟨_, rfl⟩
          subst hwo
          go_wp2
          go_loopw [28] (fun i wr => ∃ j : Nat, j ≤ R.length ∧ i = .int .i64 j ∧ Hid ((R.take j).all (goodRow n) = true) ∧ Ext wo wr) (fun i _ => R.length - (intOf i).toNat)
          case atStart => exact ⟨0, Nat.zero_le _, rfl, Lib.hid (by simp), Ext.refl _⟩
          case round =>
            obtain ⟨j, hj, rfl, HS, hy⟩ := hrel
            by_cases hjt : j < R.length
            · obtain ⟨bx, ox, rfl, dx⟩ := hcx (by omega)
              obtain ⟨y, hy1, iy⟩ := dx j hjt
              obtain ⟨d, hd⟩ : ∃ d, d = R[j] := ⟨_, rfl⟩
              rw [← hd] at hy1 iy
              have gy := hy1.ext hy
              have iy2 := iy.ext hy
              obtain ⟨ay, cy, rfl, _⟩ := id iy2
              have IY := Lib.hid iy2
              have HD := Lib.hid hd
              obtain ⟨wp, hwp⟩ : ∃ wp : World, wp = wr := ⟨_, rfl⟩
              subst hwp
              have gn := ((hx.trans hy).trans (Ext.alloc1 wp (.cells #[.int .i64 d.b, .int .i64 d.v, .int .i64 d.st, .int .i64 d.k, .int .i64 d.i, .int .i64 d.f, .int .i64 d.t, .int .i64 d.a, .int .i64 d.s, .slice ay d.l.length cy] 71))).cell HBB.out.1
              clear hcx dx hy1 iy iy2 hd
              obtain ⟨g0, g1, g2, g3, g4, g5, g6, g7, g8, g9⟩ := gy
              go_wp2_with fail
              cases hq : goodRow n d with
              | false =>
                have HQ := Lib.hid hq
                clear hq
                refine (l4Row_any n d _ _ (IY.out.ext (Ext.alloc1 _ _)) HG.out).mono ?_
                rintro e w3 ⟨rfl, x3⟩
                have hz := (xb.trans ((hx.trans hy).trans (Ext.alloc1 _ _))).trans x3
                clear x3 gn g0 g1 g2 g3 g4 g5 g6 g7 g8 g9
                rw [HQ.out]
                go_wp2
                go_ret
                refine ⟨?_, hz⟩
                have h1 : R.all (goodRow n) = false := allx_false_at hjt _ (by rw [← HD.out]; exact HQ.out)
                have h2 : T.all (goodList n) = false := allx_false_at hlt _ (by rw [← HR.out]; exact goodList_row h1)
                rw [h2]; rfl
              | true =>
                have HQ := Lib.hid hq
                clear hq
                refine (l4Row_any n d _ _ (IY.out.ext (Ext.alloc1 _ _)) HG.out).mono ?_
                rintro e w3 ⟨rfl, x3⟩
                have hz := (hy.trans (Ext.alloc1 _ _)).trans x3
                clear x3 gn g0 g1 g2 g3 g4 g5 g6 g7 g8 g9
                rw [HQ.out]
                go_wp2
                go_roundw
                case rel => exact ⟨j + 1, by omega, by go_num, Lib.hid (allx_take_succ hjt _ HS.out (by rw [← HD.out]; exact HQ.out)), hz⟩
                case measure => simp [intOf]; omega
            · obtain rfl : j = R.length := by omega
              have hfull : R.all (goodRow n) = true := by have h := HS.out; rwa [List.take_length] at h
              have HF := Lib.hid hfull
              clear hfull
              by_cases h6 : 6 < R.length
              · go_wp2
                go_ret
                refine ⟨?_, xb.trans (hx.trans hy)⟩
                have h2 : T.all (goodList n) = false := allx_false_at hlt _ (by rw [← HR.out]; exact goodList_long h6)
                rw [h2]; rfl
              · go_wp2
                go_roundw
                case rel => exact ⟨k + 1, by omega, by go_num, Lib.hid (allx_take_succ hlt _ HT.out (by rw [← HR.out, goodList_all (by omega)]; exact HF.out)), hx.trans hy⟩
                case measure => simp [intOf]; omega
        · obtain rfl : k = T.length := by omega
          go_wp2
          go_ret
          refine ⟨?_, xb.trans hx⟩
          have h2 : T.all (goodList n) = true := by have h := HT.out; rwa [List.take_length] at h
          rw [h2]; rfl
    · rw [goodTab_len hl]
      have e0 : ((T.length : Int) != n) = true := by simp [hl]
      clear hg hcu hl
      go_enter Try.func93, Try.ntmps93
      go_wp2_with fail
      refine (specIsGroup_any _ _).mono ?_
      rintro e w' ⟨rfl, rfl⟩
      rw [HG.out]
      go_wp2
      go_ret
      exact ⟨rfl, Ext.alloc1 _ _⟩

end Go.Proofs.Ythnoeknalpnadaa

namespace Go.Proofs.Ythnoeknalpnadaa
open Go.RowKit
set_option linter.unusedVariables false

/-- The least majority, 0 of what is no group. -/
def majN (n : Int) : Int := if n == 3 then 2 else if n == 5 then 3 else 0
theorem majN_half {n : Int} (h : isGrp n = true) : majN n = n / 2 + 1 := by rcases isGrp_of h with rfl | rfl <;> rfl
set_option maxHeartbeats 1000000 in
theorem implMajority_any (n : Int) (w : World) : Calls Try.prog 145 #[.int .i64 n] w (fun e w' => e = .returned (.tuple #[.int .i64 (majN n), .bool (isGrp n)]) ∧ w = w') := by
  cases hg : isGrp n with
  | false =>
    have e : majN n = 0 := by unfold majN; rw [(isGrp_no hg).1, (isGrp_no hg).2]; rfl
    rw [e]
    have HG := Lib.hid hg
    clear hg e
    go_enter Try.func145, Try.ntmps145
    go_wp2_with fail
    refine (implIsGroup_any _ _).mono ?_
    rintro e w' ⟨rfl, rfl⟩
    rw [HG.out]
    go_wp2
    go_ret2
    exact ⟨rfl, rfl⟩
  | true =>
    have HG := Lib.hid hg
    rcases isGrp_of hg with rfl | rfl
    all_goals
      clear hg
      go_enter Try.func145, Try.ntmps145
      go_wp2_with fail
      refine (implIsGroup_any _ _).mono ?_
      rintro e w' ⟨rfl, rfl⟩
      rw [HG.out]
      go_wp2
      go_ret2
      exact ⟨rfl, rfl⟩
/-- Are so many a majority? -/
def mostB (n c : Int) : Bool := isGrp n && decide (majN n ≤ c)
set_option maxHeartbeats 1000000 in
theorem isMost_any (n c : Int) (w : World) : Calls Try.prog 86 #[.int .i64 n, .int .i64 c] w (fun e w' => e = .returned (.bool (mostB n c)) ∧ w = w') := by
  unfold mostB
  obtain ⟨m, hm⟩ : ∃ m, m = majN n := ⟨_, rfl⟩
  have cM := fun W => implMajority_any n W
  rw [← hm] at cM ⊢
  have CM := Lib.hid cM
  clear cM hm
  cases hg : isGrp n with
  | false =>
    rw [hg] at CM
    clear hg
    go_enter Try.func86, Try.ntmps86
    go_wp2_with fail
    refine (CM.out _).mono ?_
    rintro e w' ⟨rfl, rfl⟩
    go_wp2
    go_ret
    exact ⟨rfl, rfl⟩
  | true =>
    rw [hg] at CM
    clear hg
    go_enter Try.func86, Try.ntmps86
    go_wp2_with fail
    refine (CM.out _).mono ?_
    rintro e w' ⟨rfl, rfl⟩
    go_wp2
    go_ret
    exact ⟨by simp, rfl⟩
set_option maxHeartbeats 2000000 in
set_option maxRecDepth 100000 in
theorem isGood_rep (n : Int) (r : RowD) (u : Value) (w : World) (hv : Ints w u r.l) (hn : isGrp n = true) (hs : r.l.length ≤ 1099511627776) :
    Calls Try.prog 146 #[.agg #[.int .i64 r.b, .int .i64 r.v, .int .i64 r.st, .int .i64 r.k, .int .i64 r.i, .int .i64 r.f, .int .i64 r.t, .int .i64 r.a, .int .i64 r.s, u], .int .i64 n] w (BoolExt (toldB n r) w) := by
  have xb := Ext.alloc1 w (.cells #[.int .i64 r.b, .int .i64 r.v, .int .i64 r.st, .int .i64 r.k, .int .i64 r.i, .int .i64 r.f, .int .i64 r.t, .int .i64 r.a, .int .i64 r.s, u] 177)
  unfold toldB
  cases h3 : (r.st == 3)
  · have h3' : (r.st != 3) = true := by simpa using h3
    have HV := Lib.hid (hv.ext xb)
    clear h3 hv
    go_enter Try.func146, Try.ntmps146
    go_wp2_with fail
    refine (isGoodRow_any n r u _ HV.out hs hn).mono ?_
    rintro e w2 ⟨rfl, x2⟩
    have hy := xb.trans x2
    clear x2 xb HV
    cases hA : goodRow n r
    all_goals
      have HA := Lib.hid hA
      clear hA
      go_wp2
      go_ret
      exact ⟨by rw [HA.out]; rfl, hy⟩
  · have h3' : (r.st != 3) = false := by simpa using h3
    clear h3
    go_enter Try.func146, Try.ntmps146
    go_wp2
    go_ret
    exact ⟨rfl, xb⟩
theorem told_succ {n : Int} {S : List RowD} {k : Nat} (h : k < S.length) (ht : (S.take k).all (toldB n) = true) (hk : toldB n S[k] = true) : (S.take (k + 1)).all (toldB n) = true := by
  rw [List.take_succ_eq_append_getElem h, List.all_append, ht]
  simp [hk]
theorem told_no {n : Int} {S : List RowD} {k : Nat} (h : k < S.length) (hk : toldB n S[k] = false) : S.all (toldB n) = false := by
  rw [List.all_eq_false]
  exact ⟨_, List.getElem_mem h, by rw [hk]; simp⟩
set_option maxHeartbeats 4000000 in
set_option maxRecDepth 100000 in
theorem areReports_any (n : Int) (v : Value) (S : List RowD) (w : World) (hv : Rowz w v S) (hn : isGrp n = true) (hs : bulkR S ≤ 1099511627776) :
    Calls Try.prog 87 #[.int .i64 n, v] w (BoolExt (S.all (toldB n)) w) := by
  obtain ⟨av, cv, rfl, hlv, _, hcv⟩ := hv
  unfold maxLen at hlv
  have HCV := Lib.hid hcv
  have HN := Lib.hid hn
  have HS := Lib.hid hs
  clear hcv hn hs
  go_enter Try.func87, Try.ntmps87
  go_wp2
  go_loopw [10] (fun i wr => ∃ k : Nat, k ≤ S.length ∧ i = .int .i64 k ∧ Hid ((S.take k).all (toldB n) = true) ∧ Hid (Ext w wr)) (fun i _ => S.length - (intOf i).toNat)
  case atStart => exact ⟨0, Nat.zero_le _, rfl, Lib.hid (by simp), Lib.hid (Ext.refl _)⟩
  case round =>
    obtain ⟨k, hk, rfl, HT, HX⟩ := hrel
    by_cases hlt : k < S.length
    · obtain ⟨b, off, rfl, dv⟩ := HCV.out (by omega)
      obtain ⟨r, hr⟩ : ∃ r, r = S[k] := ⟨_, rfl⟩
      obtain ⟨u, hu, iu⟩ := dv k hlt
      rw [← hr] at hu iu
      obtain ⟨au, cu, rfl, _, _, _⟩ := id iu
      have HR := Lib.hid hr
      have hl : r.l.length ≤ 1099511627776 := by rw [hr]; have := bulkR_row hlt; have := HS.out; omega
      have HL := Lib.hid hl
      have HLT := Lib.hid hlt
      obtain ⟨g0, g1, g2, g3, g4, g5, g6, g7, g8, g9⟩ := hu.ext HX.out
      obtain ⟨w2, hw2⟩ : ∃ w2, w2 = (wr.alloc (.cells #[.int .i64 r.b, .int .i64 r.v, .int .i64 r.st, .int .i64 r.k, .int .i64 r.i, .int .i64 r.f, .int .i64 r.t, .int .i64 r.a, .int .i64 r.s, .slice au r.l.length cu] 71)).alloc (.cells #[.int .i64 r.b, .int .i64 r.v, .int .i64 r.st, .int .i64 r.k, .int .i64 r.i, .int .i64 r.f, .int .i64 r.t, .int .i64 r.a, .int .i64 r.s, .slice au r.l.length cu] 177) := ⟨_, rfl⟩
      have x2 : Ext wr w2 := by rw [hw2]; exact (Ext.alloc1 _ _).alloc _
      have IU := Lib.hid ((iu.ext HX.out).ext x2)
      have HW2 := Lib.hid hw2
      have X2 := Lib.hid (HX.out.trans x2)
      obtain ⟨c, hc⟩ : ∃ c, c = toldB n r := ⟨_, rfl⟩
      have HC := Lib.hid hc
      clear dv hr hl hu iu hw2 x2 hc
      go_wp2_with fail
      rw [← HW2.out]
      refine (isGood_rep n r _ _ IU.out HN.out HL.out).mono ?_
      rintro e w3 ⟨rfl, x3⟩
      rw [← HC.out]
      have X3 := Lib.hid (X2.out.trans x3)
      clear x3 g0 g1 g2 g3 g4 g5 g6 g7 g8 g9 IU HW2 X2
      cases c with
      | false =>
        have HO : Hid (S.all (toldB n) = false) := Lib.hid (told_no HLT.out (by rw [← HR.out]; exact HC.out.symm))
        go_wp2
        go_ret
        exact ⟨by rw [HO.out]; rfl, X3.out⟩
      | true =>
        have HT1 := Lib.hid (told_succ HLT.out HT.out (by rw [← HR.out]; exact HC.out.symm))
        go_wp2
        go_roundw
        case rel => exact ⟨k + 1, by omega, by go_num, HT1, X3⟩
        case measure => simp [intOf]; omega
    · obtain rfl : k = S.length := by omega
      have HA := HT.out
      rw [List.take_length] at HA
      have HA := Lib.hid HA
      clear HT
      go_wp2
      go_ret
      exact ⟨by rw [HA.out]; rfl, HX.out⟩
end Go.Proofs.Ythnoeknalpnadaa

namespace Go.Proofs.Ythnoeknalpnadaa
open Go.RowKit
set_option linter.unusedVariables false

/-- The cells of a list of structs. -/
def flatC {α : Type} (cells : α → List Value) (L : List α) : List Value := L.flatMap cells
theorem flatC_len {α : Type} {cells : α → List Value} {n : Nat} (h : ∀ x, (cells x).length = n) (L : List α) : (flatC cells L).length = L.length * n := by
  unfold flatC
  induction L with
  | nil => simp
  | cons x t ih => rw [List.flatMap_cons, List.length_append, ih, h, List.length_cons, Nat.add_mul]; omega
theorem flatC_at {α : Type} {cells : α → List Value} {n : Nat} (h : ∀ x, (cells x).length = n) {L : List α} {j i : Nat} (hj : j < L.length) (hi : i < n) : (flatC cells L)[j * n + i]? = (cells L[j])[i]? := by
  induction L generalizing j with
  | nil => simp at hj
  | cons x t ih =>
    unfold flatC
    rw [List.flatMap_cons]
    cases j with
    | zero =>
      rw [List.getElem?_append_left (by rw [h]; omega)]
      simp
    | succ j =>
      have h' : j < t.length := by simpa using hj
      have e1 : (j + 1) * n + i = (cells x).length + (j * n + i) := by rw [h, Nat.add_mul]; omega
      rw [e1, List.getElem?_append_right (by omega), Nat.add_sub_cancel_left]
      have := ih h'
      unfold flatC at this
      rw [this]
      simp

/-! ### Rows -/
def cellsR (x : RowD × Value) : List Value := [.int .i64 x.1.b, .int .i64 x.1.v, .int .i64 x.1.st, .int .i64 x.1.k, .int .i64 x.1.i, .int .i64 x.1.f, .int .i64 x.1.t, .int .i64 x.1.a, .int .i64 x.1.s, x.2]
theorem cellsR_len (x : RowD × Value) : (cellsR x).length = 10 := rfl
/-- v is a slice of rows of a block that was made from block number B on. -/
def FreshZ (B : Nat) (w : World) (v : Value) (P : List (RowD × Value)) : Prop := w.ownsRow B 71 10 v P.length (flatC cellsR P)
theorem FreshZ.nil (B : Nat) (w : World) : FreshZ B w (.slice none 0 0) [] := ⟨rfl, .inl ⟨rfl, rfl⟩⟩
theorem FreshZ.ext {B : Nat} {w w' : World} {v : Value} {P : List (RowD × Value)} (h : FreshZ B w v P) (e : Ext w w') : FreshZ B w' v P := e.ownsRow h
theorem FreshZ.rowz {B : Nat} {w : World} {v : Value} {P : List (RowD × Value)} (h : FreshZ B w v P) (hi : ∀ x ∈ P, Ints w x.2 x.1.l) : Rowz w v (P.map Prod.fst) := by
  rcases h.2 with ⟨rfl, hn⟩ | ⟨g, cap, cur, rfl, hb, hg, hnc, hcm, hcs, htake⟩
  · obtain rfl : P = [] := List.eq_nil_of_length_eq_zero hn
    exact Rowz.nil w
  · refine ⟨some ⟨g, 0, none⟩, cap, by simp, by simp; omega, ⟨by simp; omega, by omega, fun h => by cases h⟩, fun _ => ⟨g, 0, rfl, fun j hj => ?_⟩⟩
    have hj' : j < P.length := by simpa using hj
    have e : (P.map Prod.fst)[j] = P[j].1 := by simp
    rw [e]
    have hc : ∀ i, i < 10 → w.cell? ⟨g, j * 10 + i, none⟩ = (cellsR P[j])[i]? := fun i hi' => by
      rw [World.ownsRow.cellAt h (j * 10 + i) (by omega), flatC_at cellsR_len hj' hi']
    refine ⟨P[j].2, ?_, hi _ (List.getElem_mem hj')⟩
    rw [Nat.zero_add]
    exact ⟨hc 0 (by omega), hc 1 (by omega), hc 2 (by omega), hc 3 (by omega), hc 4 (by omega), hc 5 (by omega), hc 6 (by omega), hc 7 (by omega), hc 8 (by omega), hc 9 (by omega)⟩
theorem Try.infoRowP : (Try.prog.info? 71).map (fun i => (i.zero, i.size, i.bytes)) = some (some (.agg #[.int .i64 0, .int .i64 0, .int .i64 0, .int .i64 0, .int .i64 0, .int .i64 0, .int .i64 0, .int .i64 0, .int .i64 0, .slice none 0 0]), 10, 96) := by kernel_rfl
/-- append(s, r), s of the call's own. -/
theorem wpList_pushR {ops : Array Oper} {rest : List Oper} {o : Oper} {a : Act} {Q : Exit → Act → World → Prop} {w : World} (hgd : o.guard = none) (s x : Operand)
    (ho : o.op = .call { callee := .builtin .append, args := #[s, x], argTypes := #[42, 42] })
    (B : Nat) (v : Value) (P : List (RowD × Value)) (r : RowD) (ya : Option Addr) (yn yc : Nat) (hs : a.eval s = v) (hf : FreshZ B w v P) (g : Nat) (c : Nat) (hx : a.eval x = .slice (some ⟨g, 0, none⟩) 1 c)
    (hr : RowIn w g 0 r (.slice ya yn yc)) (hl : P.length ≤ 1048576) (hB : B ≤ w.heap.size)
    (h : ∀ v' w', FreshZ B w' v' (P ++ [(r, .slice ya yn yc)]) → w.grownBy w' v.ownBlock → Kept B w w' → wpList Try.prog ops Q rest (a.put o.dst v') w') : wpList Try.prog ops Q (o :: rest) a w := by
  obtain ⟨i0, hi, hz0, hz1, hz2⟩ := info_parts Try.infoRowP
  obtain ⟨h0, h1, h2, h3, h4, h5, h6, h7, h8, h9⟩ := hr
  refine wpList_append_own _ hgd s x 42 ho B 71 i0 (.agg #[.int .i64 0, .int .i64 0, .int .i64 0, .int .i64 0, .int .i64 0, .int .i64 0, .int .i64 0, .int .i64 0, .int .i64 0, .slice none 0 0]) 10 96 Try.underlying42 hi hz0 hz1 hz2 rfl (by decide) v P.length _ hs hf ⟨g, 0, none⟩ 1 c (cellsR (r, .slice ya yn yc)) hx rfl ?_ ?_ ?_ ?_ hB ?_
  · intro j u hj
    match j, hj with
    | 0, hj => simp [cellsR] at hj; subst hj; simpa [Addr.add] using h0
    | 1, hj => simp [cellsR] at hj; subst hj; simpa [Addr.add] using h1
    | 2, hj => simp [cellsR] at hj; subst hj; simpa [Addr.add] using h2
    | 3, hj => simp [cellsR] at hj; subst hj; simpa [Addr.add] using h3
    | 4, hj => simp [cellsR] at hj; subst hj; simpa [Addr.add] using h4
    | 5, hj => simp [cellsR] at hj; subst hj; simpa [Addr.add] using h5
    | 6, hj => simp [cellsR] at hj; subst hj; simpa [Addr.add] using h6
    | 7, hj => simp [cellsR] at hj; subst hj; simpa [Addr.add] using h7
    | 8, hj => simp [cellsR] at hj; subst hj; simpa [Addr.add] using h8
    | 9, hj => simp [cellsR] at hj; subst hj; simpa [Addr.add] using h9
  · intro u hu
    simp [cellsR] at hu
    rcases hu with rfl | rfl | rfl | rfl | rfl | rfl | rfl | rfl | rfl | rfl <;> rfl
  · unfold maxLen; omega
  · omega
  · intro v' w' ho' hg _
    refine h v' w' ?_ hg (fun w0 hx0 hB0 => Below.grown hx0 hg hx0.size (fun q hq => Nat.le_trans hB0 (World.ownsRow.lt hf q hq).1))
    unfold FreshZ
    have e : flatC cellsR (P ++ [(r, .slice ya yn yc)]) = flatC cellsR P ++ cellsR (r, .slice ya yn yc) := by simp [flatC]
    rw [e, List.length_append]
    exact ho'

/-! ### Attributes -/
def cellsA (x : (Int × List Int) × Value) : List Value := [.int .i64 x.1.1, x.2]
theorem cellsA_len (x : (Int × List Int) × Value) : (cellsA x).length = 2 := rfl
def FreshA (B : Nat) (w : World) (v : Value) (P : List ((Int × List Int) × Value)) : Prop := w.ownsRow B 39 2 v P.length (flatC cellsA P)
theorem FreshA.nil (B : Nat) (w : World) : FreshA B w (.slice none 0 0) [] := ⟨rfl, .inl ⟨rfl, rfl⟩⟩
theorem FreshA.ext {B : Nat} {w w' : World} {v : Value} {P : List ((Int × List Int) × Value)} (h : FreshA B w v P) (e : Ext w w') : FreshA B w' v P := e.ownsRow h
theorem FreshA.attrs {B : Nat} {w : World} {v : Value} {P : List ((Int × List Int) × Value)} (h : FreshA B w v P) (hi : ∀ x ∈ P, Ints w x.2 x.1.2) : Attrs w v (P.map Prod.fst) := by
  rcases h.2 with ⟨rfl, hn⟩ | ⟨g, cap, cur, rfl, hb, hg, hnc, hcm, hcs, htake⟩
  · obtain rfl : P = [] := List.eq_nil_of_length_eq_zero hn
    exact ⟨none, 0, rfl, by simp, ⟨by simp, by simp, fun _ => rfl⟩, fun h => by simp at h⟩
  · refine ⟨some ⟨g, 0, none⟩, cap, by simp, by simp; omega, ⟨by simp; omega, by omega, fun h => by cases h⟩, fun _ => ⟨g, 0, rfl, fun j hj => ?_⟩⟩
    have hj' : j < P.length := by simpa using hj
    have e : (P.map Prod.fst)[j] = P[j].1 := by simp
    rw [e]
    have hc : ∀ i, i < 2 → w.cell? ⟨g, j * 2 + i, none⟩ = (cellsA P[j])[i]? := fun i hi' => by
      rw [World.ownsRow.cellAt h (j * 2 + i) (by omega), flatC_at cellsA_len hj' hi']
    refine ⟨P[j].2, ?_, ?_, hi _ (List.getElem_mem hj')⟩
    · rw [Nat.zero_add]; exact hc 0 (by omega)
    · rw [Nat.zero_add]; exact hc 1 (by omega)
theorem Try.infoAttrP : (Try.prog.info? 39).map (fun i => (i.zero, i.size, i.bytes)) = some (some (.agg #[.int .i64 0, .slice none 0 0]), 2, 32) := by kernel_rfl
theorem wpList_pushA {ops : Array Oper} {rest : List Oper} {o : Oper} {a : Act} {Q : Exit → Act → World → Prop} {w : World} (hgd : o.guard = none) (s x : Operand)
    (ho : o.op = .call { callee := .builtin .append, args := #[s, x], argTypes := #[129, 129] })
    (B : Nat) (v : Value) (P : List ((Int × List Int) × Value)) (r : Int × List Int) (ya : Option Addr) (yn yc : Nat) (hs : a.eval s = v) (hf : FreshA B w v P) (g : Nat) (c : Nat) (hx : a.eval x = .slice (some ⟨g, 0, none⟩) 1 c)
    (hr0 : w.cell? ⟨g, 0, none⟩ = some (.int .i64 r.1)) (hr1 : w.cell? ⟨g, 1, none⟩ = some (.slice ya yn yc)) (hl : P.length ≤ 1048576) (hB : B ≤ w.heap.size)
    (h : ∀ v' w', FreshA B w' v' (P ++ [(r, .slice ya yn yc)]) → w.grownBy w' v.ownBlock → Kept B w w' → wpList Try.prog ops Q rest (a.put o.dst v') w') : wpList Try.prog ops Q (o :: rest) a w := by
  obtain ⟨i0, hi, hz0, hz1, hz2⟩ := info_parts Try.infoAttrP
  refine wpList_append_own _ hgd s x 129 ho B 39 i0 (.agg #[.int .i64 0, .slice none 0 0]) 2 32 Try.underlying129 hi hz0 hz1 hz2 rfl (by decide) v P.length _ hs hf ⟨g, 0, none⟩ 1 c (cellsA (r, .slice ya yn yc)) hx rfl ?_ ?_ ?_ ?_ hB ?_
  · intro j u hj
    match j, hj with
    | 0, hj => simp [cellsA] at hj; subst hj; simpa [Addr.add] using hr0
    | 1, hj => simp [cellsA] at hj; subst hj; simpa [Addr.add] using hr1
  · intro u hu
    simp [cellsA] at hu
    rcases hu with rfl | rfl <;> rfl
  · unfold maxLen; omega
  · omega
  · intro v' w' ho' hg _
    refine h v' w' ?_ hg (fun w0 hx0 hB0 => Below.grown hx0 hg hx0.size (fun q hq => Nat.le_trans hB0 (World.ownsRow.lt hf q hq).1))
    unfold FreshA
    have e : flatC cellsA (P ++ [(r, .slice ya yn yc)]) = flatC cellsA P ++ cellsA (r, .slice ya yn yc) := by simp [flatC]
    rw [e, List.length_append]
    exact ho'
end Go.Proofs.Ythnoeknalpnadaa

namespace Go.Proofs.Ythnoeknalpnadaa
open Go.RowKit
set_option linter.unusedVariables false

/-- A world that is W with new blocks. -/
def ExtOf (W : World) := {w' : World // Ext W w'}
instance (W : World) : Nonempty (ExtOf W) := ⟨⟨W, Ext.refl W⟩⟩
theorem ExtOf.cell {W : World} (e : ExtOf W) {a : Addr} {v : Value} (h : W.cell? a = some v) : e.1.cell? a = some v := Ext.cell e.2 h
theorem wp_region_ext_lit {P : Program} {id : Nat} {Q : Exit → Act → World → Prop} {a : Act} {w : World} {l : List Oper} (hm : P.follows .mixedOrders = true) (hB : Region.lexB .any l.toArray = true)
    (h : wpQuiet P l.toArray (fun w' => ∃ e : ExtOf w, w' = e.1) (fun a' => ∀ w', (∃ e : ExtOf w, w' = e.1) → Q .normal a' w') l a) : (Code.region id l.toArray true).wp P Q a w :=
  wp_region_quiet (C := fun w' => ∃ e : ExtOf w, w' = e.1) hm hB ⟨⟨w.drew, Ext.drew (Ext.refl w)⟩, rfl⟩ (by simpa using h)
/-- A callee's contract, met in such a world. -/
theorem Calls.ext_of {P : Program} {f : FuncId} {args : Array Value} {W : World} {v : Value} (e : ExtOf W)
    (h : Calls P f args e.1 fun x w' => x = .returned v ∧ Ext e.1 w') : Calls P f args e.1 fun x w'' => x = .returned v ∧ ∃ e' : ExtOf W, w'' = e'.1 :=
  h.mono fun _ w' ⟨he, hx⟩ => ⟨he, ⟨w', e.2.trans hx⟩, rfl⟩

end Go.Proofs.Ythnoeknalpnadaa

namespace Go.Proofs.Ythnoeknalpnadaa
open Go.RowKit
set_option linter.unusedVariables false

/-- The rows of a state come back: their cells in new memory, their lists where they were. -/
def RowsOut (L : List RowD) (w : World) (e : Ending) (w' : World) : Prop := ∃ v P, e = .returned v ∧ FreshZ w.heap.size w' v P ∧ P.map Prod.fst = L ∧ (∀ x ∈ P, Ints w x.2 x.1.l) ∧ Ext w w'
set_option maxHeartbeats 4000000 in
set_option maxRecDepth 100000 in
theorem inState_any (v : Value) (S : List RowD) (st : Int) (w : World) (hv : Rowz w v S) (hl : S.length ≤ 5) :
    Calls Try.prog 88 #[v, .int .i64 st] w (RowsOut (inSt S st) w) := by
  obtain ⟨av, cv, rfl, hlv, _, hcv⟩ := hv
  unfold maxLen at hlv
  have HCV := Lib.hid hcv
  clear hcv
  go_enter Try.func88, Try.ntmps88
  go_wp2
  go_loopw [5, 10] (fun s i wr => ∃ (k : Nat) (P : List (RowD × Value)), k ≤ S.length ∧ i = .int .i64 k ∧ Hid (FreshZ w.heap.size wr s P) ∧ Hid (P.map Prod.fst = inSt (S.take k) st) ∧ Hid (∀ x ∈ P, Ints w x.2 x.1.l) ∧ Hid (P.length ≤ k) ∧ Hid (Ext w wr)) (fun _ i _ => S.length - (intOf i).toNat)
  case atStart => exact ⟨0, [], Nat.zero_le _, rfl, Lib.hid (FreshZ.nil _ _), Lib.hid (by simp [inSt]), Lib.hid (fun _ h => by simp at h), Lib.hid (by simp), Lib.hid (Ext.refl _)⟩
  case round =>
    obtain ⟨k, P, hk, rfl, HF, HP, HI, HLE, HX⟩ := hrel
    by_cases hlt : k < S.length
    · obtain ⟨b, off, rfl, dv⟩ := HCV.out (by omega)
      obtain ⟨r, hr⟩ : ∃ r, r = S[k] := ⟨_, rfl⟩
      obtain ⟨u, hu, iu⟩ := dv k hlt
      rw [← hr] at hu iu
      obtain ⟨au, cu, rfl, _, _, _⟩ := id iu
      have HR := Lib.hid hr
      have HLT := Lib.hid hlt
      obtain ⟨g0, g1, g2, g3, g4, g5, g6, g7, g8, g9⟩ := hu.ext HX.out
      obtain ⟨w2, hw2⟩ : ∃ w2, w2 = wr.alloc (.cells #[.int .i64 r.b, .int .i64 r.v, .int .i64 r.st, .int .i64 r.k, .int .i64 r.i, .int .i64 r.f, .int .i64 r.t, .int .i64 r.a, .int .i64 r.s, .slice au r.l.length cu] 71) := ⟨_, rfl⟩
      have x2 : Ext wr w2 := by rw [hw2]; exact Ext.alloc1 _ _
      have r2 := rowAt_new wr 71 r (.slice au r.l.length cu)
      rw [← hw2] at r2
      have HW2 := Lib.hid hw2
      have X2 := Lib.hid (HX.out.trans x2)
      have F2 := Lib.hid (HF.out.ext x2)
      have I2 := HI
      have IU := Lib.hid iu
      have R2 := Lib.hid r2
      clear dv hr hu iu hw2 x2 r2 HF HI
      by_cases hst : r.st = st
      · have hb : (r.st == st) = true := by simp [hst]
        have HE : Hid (inSt (S.take (k + 1)) st = inSt (S.take k) st ++ [r]) := Lib.hid (by rw [HR.out]; exact inSt_yes HLT.out (by rw [← HR.out]; exact hb))
        clear hst
        have xa := Ext.alloc1 w2 (.cells #[.int .i64 r.b, .int .i64 r.v, .int .i64 r.st, .int .i64 r.k, .int .i64 r.i, .int .i64 r.f, .int .i64 r.t, .int .i64 r.a, .int .i64 r.s, .slice au r.l.length cu] 71)
        have r4 := rowAt_new w2 71 r (.slice au r.l.length cu)
        have f3 := F2.out.ext xa
        have x3 := X2.out.trans xa
        rw [HW2.out] at r4 f3 x3
        rw [World.size_alloc] at r4
        have R4 : Hid (RowIn ((wr.alloc (.cells #[.int .i64 r.b, .int .i64 r.v, .int .i64 r.st, .int .i64 r.k, .int .i64 r.i, .int .i64 r.f, .int .i64 r.t, .int .i64 r.a, .int .i64 r.s, .slice au r.l.length cu] 71)).alloc (.cells #[.int .i64 r.b, .int .i64 r.v, .int .i64 r.st, .int .i64 r.k, .int .i64 r.i, .int .i64 r.f, .int .i64 r.t, .int .i64 r.a, .int .i64 r.s, .slice au r.l.length cu] 71)) (wr.heap.size + 1) 0 r (.slice au r.l.length cu)) := Lib.hid r4
        have F3 := Lib.hid f3
        have X3 := Lib.hid x3
        have IA := Lib.hid (fun x (hx : x ∈ P ++ [(r, Value.slice au r.l.length cu)]) => (show Ints w x.2 x.1.l from by
          rcases List.mem_append.1 hx with h | h
          · exact I2.out x h
          · rw [List.mem_singleton] at h
            subst h
            exact IU.out))
        have HPL : Hid (P.length ≤ 1048576) := Lib.hid (by have := HLE.out; omega)
        clear r4 xa f3 x3 R2 IU F2 I2 X2 HW2
        go_wp2_with (at_builtin; refine wpList_pushR rfl _ _ rfl w.heap.size _ P r au r.l.length cu rfl F3.out (wr.heap.size + 1) 1 rfl R4.out HPL.out X3.out.size ?_; intro v' w4 f4 hg4 hk4)
        have x4 := hk4 w X3.out (Nat.le_refl _)
        have F4 := Lib.hid f4
        have X4 := Lib.hid x4
        have HP2 : Hid ((P ++ [(r, Value.slice au r.l.length cu)]).map Prod.fst = inSt (S.take (k + 1)) st) := Lib.hid (by rw [HE.out, List.map_append, HP.out]; rfl)
        have HL2 : Hid ((P ++ [(r, Value.slice au r.l.length cu)]).length ≤ k + 1) := Lib.hid (by have := HLE.out; simp; omega)
        clear f4 hg4 hk4 x4 F3 X3 g0 g1 g2 g3 g4 g5 g6 g7 g8 g9
        go_wp2
        go_roundw
        case rel => exact ⟨k + 1, _, by have := HLT.out; omega, by go_num, F4, HP2, IA, HL2, X4⟩
        case measure => simp [intOf]; have := HLT.out; omega
      · have hb : (r.st == st) = false := by simpa using hst
        have HE : Hid (inSt (S.take (k + 1)) st = inSt (S.take k) st) := Lib.hid (inSt_no HLT.out (by rw [← HR.out]; exact hb))
        clear hst
        go_wp2
        go_roundw
        case rel => exact ⟨k + 1, P, by have := HLT.out; omega, by go_num, by rw [← HW2.out]; exact F2, Lib.hid (by rw [HE.out]; exact HP.out), I2, Lib.hid (by have := HLE.out; omega), by rw [← HW2.out]; exact X2⟩
        case measure => simp [intOf]; have := HLT.out; omega
    · obtain rfl : k = S.length := by omega
      have HE := HP.out
      rw [List.take_length] at HE
      have HE := Lib.hid HE
      clear HP
      go_wp2
      go_ret
      exact ⟨_, P, rfl, HF.out, HE.out, HI.out, HX.out⟩
end Go.Proofs.Ythnoeknalpnadaa

namespace Go.Proofs.Ythnoeknalpnadaa
open Go.RowKit
set_option linter.unusedVariables false

/-- A block of a row of noughts that may be written. -/
structure OpenRow (w : World) (b : Nat) : Prop where
  row : RowAt w b zeroR (.slice none 0 0)
  free : FreeAt w b
  lt : b < w.heap.size
theorem OpenRow.ext {w w' : World} {b : Nat} (h : OpenRow w b) (e : Ext w w') : OpenRow w' b := ⟨h.row.ext e, h.free.ext h.lt e, Nat.lt_of_lt_of_le h.lt e.size⟩
theorem openRow_new (w : World) (T : TypeId) : OpenRow (w.alloc (.cells #[.int .i64 0, .int .i64 0, .int .i64 0, .int .i64 0, .int .i64 0, .int .i64 0, .int .i64 0, .int .i64 0, .int .i64 0, .slice none 0 0] T)) w.heap.size := by
  refine ⟨rowAt_new w T zeroR _, ⟨?_, ?_, ?_, ?_, ?_, ?_, ?_, ?_, ?_, ?_⟩, by simp⟩ <;> go_simp

abbrev put10 (W : World) (b : Nat) (d : RowD) (u : Value) : World :=
  (((((((((W.setCell ⟨b, 0, none⟩ (.int .i64 d.b)).setCell ⟨b, 1, none⟩ (.int .i64 d.v)).setCell ⟨b, 2, none⟩ (.int .i64 d.st)).setCell ⟨b, 3, none⟩ (.int .i64 d.k)).setCell ⟨b, 4, none⟩ (.int .i64 d.i)).setCell ⟨b, 5, none⟩ (.int .i64 d.f)).setCell ⟨b, 6, none⟩ (.int .i64 d.t)).setCell ⟨b, 7, none⟩ (.int .i64 d.a)).setCell ⟨b, 8, none⟩ (.int .i64 d.s)).setCell ⟨b, 9, none⟩ u

set_option maxHeartbeats 4000000 in
theorem put10_row {W : World} {b : Nat} {d : RowD} {u : Value} (h : OpenRow W b) : RowAt (put10 W b d u) b d u := by
  obtain ⟨o0, o1, o2, o3, o4, o5, o6, o7, o8, o9⟩ := h.row
  unfold put10
  refine ⟨?_, ?_, ?_, ?_, ?_, ?_, ?_, ?_, ?_, ?_⟩ <;> simp [go_sem, o0, o1, o2, o3, o4, o5, o6, o7, o8, o9]
theorem put10_fresh {W : World} {b B : Nat} {d : RowD} {u : Value} {l : List Int} (h : Fresh B W u l) (hb : b < B) : Fresh B (put10 W b d u) u l := by
  unfold put10
  exact (((((((((h.set _ _ _ hb).set _ _ _ hb).set _ _ _ hb).set _ _ _ hb).set _ _ _ hb).set _ _ _ hb).set _ _ _ hb).set _ _ _ hb).set _ _ _ hb).set _ _ _ hb
theorem put10_ext {W w0 : World} {b : Nat} {d : RowD} {u : Value} (h : Ext w0 W) (hb : w0.heap.size ≤ b) : Ext w0 (put10 W b d u) := by
  unfold put10
  exact (((((((((h.setc hb).setc hb).setc hb).setc hb).setc hb).setc hb).setc hb).setc hb).setc hb).setc hb

end Go.Proofs.Ythnoeknalpnadaa

namespace Go.Proofs.Ythnoeknalpnadaa
open Go.RowKit
set_option linter.unusedVariables false

theorem put10_apart {W : World} {b b' : Nat} {d d' : RowD} {u u' : Value} (hne : b ≠ b') (h : RowAt W b' d' u') : RowAt (put10 W b d u) b' d' u' :=
  row_apart _ _ hne (row_apart _ _ hne (row_apart _ _ hne (row_apart _ _ hne (row_apart _ _ hne (row_apart _ _ hne (row_apart _ _ hne (row_apart _ _ hne (row_apart _ _ hne (row_apart _ _ hne h)))))))))
theorem put10_free {W : World} {b b' : Nat} {d : RowD} {u : Value} (h : FreeAt W b') : FreeAt (put10 W b d u) b' :=
  free_set _ _ (free_set _ _ (free_set _ _ (free_set _ _ (free_set _ _ (free_set _ _ (free_set _ _ (free_set _ _ (free_set _ _ (free_set _ _ h)))))))))
set_option maxHeartbeats 4000000 in
theorem put10_any {W : World} {b : Nat} {d d0 : RowD} {u u0 : Value} (h : RowAt W b d0 u0) : RowAt (put10 W b d u) b d u := by
  obtain ⟨o0, o1, o2, o3, o4, o5, o6, o7, o8, o9⟩ := h
  unfold put10
  refine ⟨?_, ?_, ?_, ?_, ?_, ?_, ?_, ?_, ?_, ?_⟩ <;> simp [go_sem, o0, o1, o2, o3, o4, o5, o6, o7, o8, o9]
theorem put10_lt {W : World} {b b' : Nat} {d : RowD} {u : Value} (h : b' < W.heap.size) : b' < (put10 W b d u).heap.size := by simpa [put10] using h
/-- The last vote of the first k, from the first on. -/
def lastTo (L : List RowD) (k : Nat) : RowD := (L.take k).foldl (fun m r => if m.v < r.v then r else m) (L[0]?.getD zeroR)
theorem lastTo_succ {L : List RowD} {k : Nat} (h : k < L.length) : lastTo L (k + 1) = if (lastTo L k).v < L[k].v then L[k] else lastTo L k := by
  unfold lastTo
  rw [List.take_succ_eq_append_getElem h, List.foldl_append]
  rfl
theorem lastTo_all {L : List RowD} (h : 0 < L.length) : lastTo L L.length = lastV L := by
  unfold lastTo
  rw [List.take_length]
  cases L with
  | nil => simp at h
  | cons a t =>
    show (a :: t).foldl _ a = _
    rw [List.foldl_cons, if_neg (by omega)]
    rfl
/-- A row comes back whose list lies where it was. -/
def RowOut (r : RowD) (w : World) (e : Ending) (w' : World) : Prop :=
  ∃ a c, e = .returned (.agg #[.int .i64 r.b, .int .i64 r.v, .int .i64 r.st, .int .i64 r.k, .int .i64 r.i, .int .i64 r.f, .int .i64 r.t, .int .i64 r.a, .int .i64 r.s, .slice a r.l.length c]) ∧ Ints w (.slice a r.l.length c) r.l ∧ Ext w w'
/-- The box of the last vote so far, and the block of the result. -/
def LastAt (w wr : World) (r : RowD) : Prop := ∃ a c, RowAt wr (w.heap.size + 1) r (.slice a r.l.length c) ∧ FreeAt wr (w.heap.size + 1) ∧ OpenRow wr w.heap.size ∧ Ints w (.slice a r.l.length c) r.l ∧ w.heap.size + 1 < wr.heap.size ∧ Ext w wr
set_option maxHeartbeats 4000000 in
set_option maxRecDepth 100000 in
theorem lastVote_any (v : Value) (L : List RowD) (w : World) (hv : Rowz w v L) (h0 : 0 < L.length) :
    Calls Try.prog 89 #[v] w (RowOut (lastV L) w) := by
  rw [← lastTo_all h0]
  obtain ⟨av, cv, rfl, hlv, _, hcv⟩ := hv
  unfold maxLen at hlv
  obtain ⟨b, off, rfl, dv⟩ := hcv h0
  obtain ⟨r, hr⟩ : ∃ r, r = L[0] := ⟨_, rfl⟩
  obtain ⟨u, hu, iu⟩ := dv 0 h0
  rw [← hr] at hu iu
  obtain ⟨au, cu, rfl, _, _, _⟩ := id iu
  have e0 : lastTo L 0 = r := by unfold lastTo; rw [List.getElem?_eq_getElem h0, hr]; rfl
  have HE0 := Lib.hid e0
  rw [Nat.zero_mul, Nat.add_zero] at hu
  obtain ⟨g0, g1, g2, g3, g4, g5, g6, g7, g8, g9⟩ := hu.ext (Ext.alloc1 w (.cells #[.int .i64 0, .int .i64 0, .int .i64 0, .int .i64 0, .int .i64 0, .int .i64 0, .int .i64 0, .int .i64 0, .int .i64 0, .slice none 0 0] 71))
  have DV := Lib.hid dv
  obtain ⟨w2, hw2⟩ : ∃ w2, w2 = (w.alloc (.cells #[.int .i64 0, .int .i64 0, .int .i64 0, .int .i64 0, .int .i64 0, .int .i64 0, .int .i64 0, .int .i64 0, .int .i64 0, .slice none 0 0] 71)).alloc (.cells #[.int .i64 r.b, .int .i64 r.v, .int .i64 r.st, .int .i64 r.k, .int .i64 r.i, .int .i64 r.f, .int .i64 r.t, .int .i64 r.a, .int .i64 r.s, .slice au r.l.length cu] 71) := ⟨_, rfl⟩
  have hL0 : LastAt w w2 r := by
    refine ⟨au, cu, ?_, ?_, ?_, iu, ?_, ?_⟩
    · have h := rowAt_new (w.alloc (.cells #[.int .i64 0, .int .i64 0, .int .i64 0, .int .i64 0, .int .i64 0, .int .i64 0, .int .i64 0, .int .i64 0, .int .i64 0, .slice none 0 0] 71)) 71 r (.slice au r.l.length cu)
      rw [World.size_alloc, ← hw2] at h
      exact h
    · rw [hw2]
      refine ⟨?_, ?_, ?_, ?_, ?_, ?_, ?_, ?_, ?_, ?_⟩ <;> go_simp
    · rw [hw2]; exact (openRow_new w 71).ext (Ext.alloc1 _ _)
    · rw [hw2]; simp
    · rw [hw2]; exact (Ext.alloc1 _ _).alloc _
  have HL0 := Lib.hid hL0
  have HW2 := Lib.hid hw2
  clear dv hcv hr iu e0 hL0 hw2
  go_enter Try.func89, Try.ntmps89
  go_wp2
  rw [← HW2.out]
  clear HW2 g0 g1 g2 g3 g4 g5 g6 g7 g8 g9
  go_loopw [11] (fun i wr => ∃ k : Nat, k ≤ L.length ∧ i = .int .i64 k ∧ Hid (LastAt w wr (lastTo L k))) (fun i _ => L.length - (intOf i).toNat)
  case atStart => exact ⟨0, Nat.zero_le _, rfl, by rw [HE0.out]; exact HL0⟩
  case round =>
    clear HL0 HE0
    obtain ⟨k, hk, rfl, HLA⟩ := hrel
    obtain ⟨m, hm⟩ : ∃ m, m = lastTo L k := ⟨_, rfl⟩
    have HM := Lib.hid hm
    rw [← hm] at HLA
    obtain ⟨am, cm, ram, fam, opm, im, lm, xm⟩ := HLA.out
    by_cases hlt : k < L.length
    · obtain ⟨y, hy⟩ : ∃ y, y = L[k] := ⟨_, rfl⟩
      obtain ⟨uy, huy, iuy⟩ := DV.out k hlt
      rw [← hy] at huy iuy
      obtain ⟨ay, cy, rfl, _, _, _⟩ := id iuy
      have HN : Hid (lastTo L (k + 1) = if m.v < y.v then y else m) := Lib.hid (by rw [lastTo_succ hlt, HM.out, hy])
      obtain ⟨g0, g1, g2, g3, g4, g5, g6, g7, g8, g9⟩ := huy.ext xm
      have xa := Ext.alloc1 wr (.cells #[.int .i64 y.b, .int .i64 y.v, .int .i64 y.st, .int .i64 y.k, .int .i64 y.i, .int .i64 y.f, .int .i64 y.t, .int .i64 y.a, .int .i64 y.s, .slice ay y.l.length cy] 71)
      obtain ⟨m0, m1, m2, m3, m4, m5, m6, m7, m8, m9⟩ := ram.ext xa
      obtain ⟨z0, z1, z2, z3, z4, z5, z6, z7, z8, z9⟩ := fam.ext lm xa
      have LA : Hid (LastAt w (wr.alloc (.cells #[.int .i64 y.b, .int .i64 y.v, .int .i64 y.st, .int .i64 y.k, .int .i64 y.i, .int .i64 y.f, .int .i64 y.t, .int .i64 y.a, .int .i64 y.s, .slice ay y.l.length cy] 71)) m) := Lib.hid ⟨am, cm, ram.ext xa, fam.ext lm xa, opm.ext xa, im, Nat.lt_of_lt_of_le lm xa.size, xm.trans xa⟩
      have IY := Lib.hid iuy
      have HLT := Lib.hid hlt
      clear hm hy huy iuy ram fam opm im lm xm xa HLA HM
      by_cases hgt : m.v < y.v
      · rw [if_pos hgt] at HN
        have LB : Hid (LastAt w (put10 (wr.alloc (.cells #[.int .i64 y.b, .int .i64 y.v, .int .i64 y.st, .int .i64 y.k, .int .i64 y.i, .int .i64 y.f, .int .i64 y.t, .int .i64 y.a, .int .i64 y.s, .slice ay y.l.length cy] 71)) (w.heap.size + 1) y (.slice ay y.l.length cy)) y) := Lib.hid (by
          obtain ⟨a, c, h1, h2, h3, h4, h5, h6⟩ := LA.out
          exact ⟨ay, cy, put10_any h1, put10_free h2, ⟨put10_apart (by omega) h3.row, put10_free h3.free, put10_lt h3.lt⟩, IY.out, put10_lt h5, put10_ext h6 (by omega)⟩)
        clear LA
        go_wp2
        go_roundw
        case rel => exact ⟨k + 1, by have := HLT.out; omega, by go_num, by rw [HN.out]; exact LB⟩
        case measure => simp [intOf]; have := HLT.out; omega
      · rw [if_neg hgt] at HN
        go_wp2
        go_roundw
        case rel => exact ⟨k + 1, by have := HLT.out; omega, by go_num, by rw [HN.out]; exact LA⟩
        case measure => simp [intOf]; have := HLT.out; omega
    · obtain rfl : k = L.length := by omega
      obtain ⟨m0, m1, m2, m3, m4, m5, m6, m7, m8, m9⟩ := ram
      obtain ⟨o0, o1, o2, o3, o4, o5, o6, o7, o8, o9⟩ := opm.row
      obtain ⟨z0, z1, z2, z3, z4, z5, z6, z7, z8, z9⟩ := opm.free
      have IM := Lib.hid im
      have XM := Lib.hid xm
      clear hm im xm opm fam HLA DV
      go_wp2
      refine bodyPost_ret (v := .agg #[.int .i64 m.b, .int .i64 m.v, .int .i64 m.st, .int .i64 m.k, .int .i64 m.i, .int .i64 m.f, .int .i64 m.t, .int .i64 m.a, .int .i64 m.s, .slice am m.l.length cm]) (by simp [results, Try.results89, go_sem, o0, o1, o2, o3, o4, o5, o6, o7, o8, o9]) rfl ⟨am, cm, by rw [← HM.out], by rw [← HM.out]; exact IM.out, ?_⟩
      exact put10_ext (u := .slice am m.l.length cm) (d := m) XM.out (Nat.le_refl _)
end Go.Proofs.Ythnoeknalpnadaa
