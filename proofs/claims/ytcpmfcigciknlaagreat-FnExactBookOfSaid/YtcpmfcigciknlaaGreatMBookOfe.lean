/- Texts of this proof, part e: words, plain facts, contracts. -/
import Derived.Test.YtcpmfcigciknlaaGreatMBookOfd
import Derived.Test.YtcpmfcigciknlaaGreatMBookOfc
import Derived.Test.YtcpmfcigciknlaaGreatMBookOfb
import Derived.Test.YtcpmfcigciknlaaGreatMBookOfa

namespace Go.Proofs.YtcpmfcigciknlaaGreat
open Go.RowKit
set_option linter.unusedVariables false

theorem two_rows (w : World) (T T' : TypeId) (r d : RowD) (u v : Value) :
    RowAt ((w.alloc (.cells #[.int .i64 r.b, .int .i64 r.v, .int .i64 r.st, .int .i64 r.k, .int .i64 r.i, .int .i64 r.f, .int .i64 r.t, .int .i64 r.a, .int .i64 r.s, u] T)).alloc (.cells #[.int .i64 d.b, .int .i64 d.v, .int .i64 d.st, .int .i64 d.k, .int .i64 d.i, .int .i64 d.f, .int .i64 d.t, .int .i64 d.a, .int .i64 d.s, v] T')) w.heap.size r u ∧
    RowAt ((w.alloc (.cells #[.int .i64 r.b, .int .i64 r.v, .int .i64 r.st, .int .i64 r.k, .int .i64 r.i, .int .i64 r.f, .int .i64 r.t, .int .i64 r.a, .int .i64 r.s, u] T)).alloc (.cells #[.int .i64 d.b, .int .i64 d.v, .int .i64 d.st, .int .i64 d.k, .int .i64 d.i, .int .i64 d.f, .int .i64 d.t, .int .i64 d.a, .int .i64 d.s, v] T')) (w.heap.size + 1) d v := by
  refine ⟨⟨?_, ?_, ?_, ?_, ?_, ?_, ?_, ?_, ?_, ?_⟩, ⟨?_, ?_, ?_, ?_, ?_, ?_, ?_, ?_, ?_, ?_⟩⟩ <;> go_simp

set_option maxHeartbeats 2000000 in
theorem eqRow_same (r : RowD) (u v : Value) (w : World) (hu : Ints w u r.l) (hv : Ints w v r.l) :
    Calls Tryz.prog 120 #[.agg #[.int .i64 r.b, .int .i64 r.v, .int .i64 r.st, .int .i64 r.k, .int .i64 r.i, .int .i64 r.f, .int .i64 r.t, .int .i64 r.a, .int .i64 r.s, u], .agg #[.int .i64 r.b, .int .i64 r.v, .int .i64 r.st, .int .i64 r.k, .int .i64 r.i, .int .i64 r.f, .int .i64 r.t, .int .i64 r.a, .int .i64 r.s, v]] w (BoolExt true w) := by
  have h2 := two_rows w 83 83 r r u v
  obtain ⟨wb, hwb⟩ : ∃ wb, wb = (w.alloc (.cells #[.int .i64 r.b, .int .i64 r.v, .int .i64 r.st, .int .i64 r.k, .int .i64 r.i, .int .i64 r.f, .int .i64 r.t, .int .i64 r.a, .int .i64 r.s, u] 83)).alloc (.cells #[.int .i64 r.b, .int .i64 r.v, .int .i64 r.st, .int .i64 r.k, .int .i64 r.i, .int .i64 r.f, .int .i64 r.t, .int .i64 r.a, .int .i64 r.s, v] 83) := ⟨_, rfl⟩
  have xb : Ext w wb := by rw [hwb]; exact ((Ext.refl w).alloc _).alloc _
  rw [← hwb] at h2
  have HWB := Lib.hid hwb
  have H2 := Lib.hid h2
  have e0 : (r.b != r.b) = false := by simp
  have e1 : (r.v != r.v) = false := by simp
  have e2 : (r.st != r.st) = false := by simp
  clear hwb h2
  go_enter Tryz.func120, Tryz.ntmps120
  go_wp2_with fail
  rw [← HWB.out]
  refine (eqCmd_same _ _ _ _ _ _).mono ?_
  rintro e w1 ⟨rfl, x1⟩
  obtain ⟨p0, p1, p2, p3, p4, p5, p6, p7, p8, p9⟩ := H2.out.1.ext x1
  obtain ⟨q0, q1, q2, q3, q4, q5, q6, q7, q8, q9⟩ := H2.out.2.ext x1
  go_wp2_with fail
  refine (eqAttr_same _ _ _ r.l _ (hu.ext (xb.trans x1)) (hv.ext (xb.trans x1))).mono ?_
  rintro e w2 ⟨rfl, x2⟩
  have hx := (xb.trans x1).trans x2
  clear p0 p1 p2 p3 p4 p5 p6 p7 p8 p9 q0 q1 q2 q3 q4 q5 q6 q7 q8 q9 x1 x2 xb
  go_wp2
  go_ret
  exact ⟨rfl, hx⟩

theorem stepR {wb W W' : World} {b o b' o' : Nat} {r d : RowD} {u v : Value} (x : Ext W W') (h : Ext wb W ∧ RowIn W b o r u ∧ RowIn W b' o' d v) : Ext wb W' ∧ RowIn W' b o r u ∧ RowIn W' b' o' d v :=
  ⟨h.1.trans x, h.2.1.ext x, h.2.2.ext x⟩

set_option maxHeartbeats 2000000 in
theorem eqRowS_same (u v : Value) (R : List RowD) (w : World) (hu : Rowz w u R) (hv : Rowz w v R) :
    Calls Tryz.prog 74 #[u, v] w (BoolExt true w) := by
  obtain ⟨au, cu, rfl, hlu, _, hcu⟩ := hu
  obtain ⟨av, cv, rfl, hlv, _, hcv⟩ := hv
  unfold maxLen at hlu hlv
  have e0 : ((R.length : Int) != (R.length : Int)) = false := by simp
  go_enter Tryz.func74, Tryz.ntmps74
  go_wp2
  go_loopw [5] (fun i wr => ∃ k : Nat, k ≤ R.length ∧ i = .int .i64 k ∧ Ext w wr) (fun i _ => R.length - (intOf i).toNat)
  case atStart => exact ⟨0, Nat.zero_le _, rfl, Ext.refl _⟩
  case round =>
    obtain ⟨k, hk, rfl, hx⟩ := hrel
    by_cases hlt : k < R.length
    · obtain ⟨bu, ou, rfl, du⟩ := hcu (by omega)
      obtain ⟨bv, ov, rfl, dv⟩ := hcv (by omega)
      obtain ⟨x, hx1, ix⟩ := du k hlt
      obtain ⟨y, hy1, iy⟩ := dv k hlt
      obtain ⟨d, hd⟩ : ∃ d, d = R[k] := ⟨_, rfl⟩
      rw [← hd] at hx1 ix hy1 iy
      have gu := hx1.ext hx
      have gv := hy1.ext hx
      have IX := Lib.hid (ix.ext hx)
      have IY := Lib.hid (iy.ext hx)
      clear hcu hcv du dv hx1 hy1 ix iy hd
      have IXY : Hid (RowIn wr bu (ou + k * 10) d x ∧ RowIn wr bv (ov + k * 10) d y) := Lib.hid ⟨gu, gv⟩
      clear gu gv
      go_wp2_with fail
      go_region_held3 (fun W => Ext wr W ∧ (W.cell? ⟨bu, ou + k * 10, none⟩ = some (.int .i64 d.b) ∧ W.cell? ⟨bu, ou + k * 10 + 1, none⟩ = some (.int .i64 d.v) ∧ W.cell? ⟨bu, ou + k * 10 + 2, none⟩ = some (.int .i64 d.st) ∧ W.cell? ⟨bu, ou + k * 10 + 3, none⟩ = some (.int .i64 d.k) ∧ W.cell? ⟨bu, ou + k * 10 + 4, none⟩ = some (.int .i64 d.i) ∧ W.cell? ⟨bu, ou + k * 10 + 5, none⟩ = some (.int .i64 d.f) ∧ W.cell? ⟨bu, ou + k * 10 + 6, none⟩ = some (.int .i64 d.t) ∧ W.cell? ⟨bu, ou + k * 10 + 7, none⟩ = some (.int .i64 d.a) ∧ W.cell? ⟨bu, ou + k * 10 + 8, none⟩ = some (.int .i64 d.s) ∧ W.cell? ⟨bu, ou + k * 10 + 9, none⟩ = some x) ∧ (W.cell? ⟨bv, ov + k * 10, none⟩ = some (.int .i64 d.b) ∧ W.cell? ⟨bv, ov + k * 10 + 1, none⟩ = some (.int .i64 d.v) ∧ W.cell? ⟨bv, ov + k * 10 + 2, none⟩ = some (.int .i64 d.st) ∧ W.cell? ⟨bv, ov + k * 10 + 3, none⟩ = some (.int .i64 d.k) ∧ W.cell? ⟨bv, ov + k * 10 + 4, none⟩ = some (.int .i64 d.i) ∧ W.cell? ⟨bv, ov + k * 10 + 5, none⟩ = some (.int .i64 d.f) ∧ W.cell? ⟨bv, ov + k * 10 + 6, none⟩ = some (.int .i64 d.t) ∧ W.cell? ⟨bv, ov + k * 10 + 7, none⟩ = some (.int .i64 d.a) ∧ W.cell? ⟨bv, ov + k * 10 + 8, none⟩ = some (.int .i64 d.s) ∧ W.cell? ⟨bv, ov + k * 10 + 9, none⟩ = some y)) (first | (exact stepR (b := bu) (o := ou + k * 10) (b' := bv) (o' := ov + k * 10) (r := d) (d := d) (u := x) (v := y) (by assumption) (by assumption)) | (exact ⟨Ext.drew (Ext.refl _), IXY.out⟩)) (first | (go_at_call 120; refine (eqRow_same d _ _ _ (IX.out.ext (Ext.drew (Ext.refl _))) (IY.out.ext (Ext.drew (Ext.refl _)))).mono ?_; rintro e W ⟨rfl, x9⟩))
      rename_i hH
      have hx2 : Ext w W := hx.trans hH.1
      clear hH x9 hx
      go_wp2
      go_roundw
      case rel => exact ⟨k + 1, by omega, by go_num, hx2⟩
      case measure => simp [intOf]; omega
    · obtain rfl : k = R.length := by omega
      go_wp2
      go_ret
      exact ⟨rfl, hx⟩

end Go.Proofs.YtcpmfcigciknlaaGreat

namespace Go.Proofs.YtcpmfcigciknlaaGreat
open Go.RowKit
set_option linter.unusedVariables false

set_option maxHeartbeats 2000000 in
theorem eqRowSS_same (u v : Value) (T : List (List RowD)) (w : World) (hu : Rowzz w u T) (hv : Rowzz w v T) :
    Calls Tryz.prog 40 #[u, v] w (BoolExt true w) := by
  obtain ⟨au, cu, rfl, hlu, _, hcu⟩ := hu
  obtain ⟨av, cv, rfl, hlv, _, hcv⟩ := hv
  unfold maxLen at hlu hlv
  have e0 : ((T.length : Int) != (T.length : Int)) = false := by simp
  go_enter Tryz.func40, Tryz.ntmps40
  go_wp2
  go_loopw [5] (fun i wr => ∃ k : Nat, k ≤ T.length ∧ i = .int .i64 k ∧ Ext w wr) (fun i _ => T.length - (intOf i).toNat)
  case atStart => exact ⟨0, Nat.zero_le _, rfl, Ext.refl _⟩
  case round =>
    obtain ⟨k, hk, rfl, hx⟩ := hrel
    by_cases hlt : k < T.length
    · obtain ⟨bu, ou, rfl, du⟩ := hcu (by omega)
      obtain ⟨bv, ov, rfl, dv⟩ := hcv (by omega)
      obtain ⟨x, hx1, ix⟩ := du k hlt
      obtain ⟨y, hy1, iy⟩ := dv k hlt
      obtain ⟨d, hd⟩ : ∃ d, d = T[k] := ⟨_, rfl⟩
      rw [← hd] at ix iy
      have gu := hx.cell hx1
      have gv := hx.cell hy1
      have IX := Lib.hid (ix.ext hx)
      have IY := Lib.hid (iy.ext hx)
      clear hcu hcv du dv hx1 hy1 ix iy hd
      go_wp2_with fail
      go_region_held3 (fun W => Ext wr W ∧ W.cell? ⟨bu, ou + k, none⟩ = some x ∧ W.cell? ⟨bv, ov + k, none⟩ = some y) (first | (exact step2 (by assumption) (by assumption)) | (exact ⟨Ext.drew (Ext.refl _), gu, gv⟩)) (first | (go_at_call 74; refine (eqRowS_same _ _ d _ (IX.out.ext (Ext.drew (Ext.refl _))) (IY.out.ext (Ext.drew (Ext.refl _)))).mono ?_; rintro e W ⟨rfl, x9⟩))
      rename_i hH
      have hx2 : Ext w W := hx.trans hH.1
      clear hH x9 gu gv hx
      go_wp2
      go_roundw
      case rel => exact ⟨k + 1, by omega, by go_num, hx2⟩
      case measure => simp [intOf]; omega
    · obtain rfl : k = T.length := by omega
      go_wp2
      go_ret
      exact ⟨rfl, hx⟩

set_option maxHeartbeats 1000000 in
theorem eqTable_same (n : Int) (u v : Value) (T : List (List RowD)) (w : World) (hu : Rowzz w u T) (hv : Rowzz w v T) :
    Calls Tryz.prog 13 #[.agg #[.int .i64 n, u], .agg #[.int .i64 n, v]] w (BoolExt true w) := by
  have hx : Ext w ((w.alloc (.cells #[.int .i64 n, u] 32)).alloc (.cells #[.int .i64 n, v] 32)) := ((Ext.refl w).alloc _).alloc _
  have e0 : ((n : Int) != n) = false := by simp
  go_enter Tryz.func13, Tryz.ntmps13
  go_wp2_with fail
  refine (eqRowSS_same _ _ _ _ (hu.ext hx) (hv.ext hx)).mono ?_
  rintro e w1 ⟨rfl, x1⟩
  have hy := hx.trans x1
  clear hx x1
  go_wp2
  go_ret
  exact ⟨rfl, hy⟩

end Go.Proofs.YtcpmfcigciknlaaGreat

namespace Go.Proofs.YtcpmfcigciknlaaGreat
open Go.RowKit
set_option linter.unusedVariables false

theorem allx_take_succ {α : Type} {l : List α} {k : Nat} (h : k < l.length) (p : α → Bool) (ht : (l.take k).all p = true) (hp : p l[k] = true) : (l.take (k + 1)).all p = true := by
  rw [List.take_add_one, List.all_append, ht, List.getElem?_eq_getElem h]
  simpa using hp
theorem allx_false_at {α : Type} {l : List α} {k : Nat} (h : k < l.length) (p : α → Bool) (hp : p l[k] = false) : l.all p = false := by
  rw [List.all_eq_false]
  exact ⟨l[k], List.getElem_mem h, by rw [hp]; simp⟩

/-- Whether a list of rows, whether all lists of a table are good. -/
def goodList (n : Int) (R : List RowD) : Bool := decide (R.length ≤ 6) && R.all (goodRow n)
def goodTab (n : Int) (T : List (List RowD)) : Bool := (isGrp n && decide ((T.length : Int) = n)) && T.all (goodList n)
theorem goodTab_grp {n : Int} {T : List (List RowD)} (h : isGrp n = false) : goodTab n T = false := by unfold goodTab; rw [h]; rfl
theorem goodTab_len {n : Int} {T : List (List RowD)} (h : (T.length : Int) ≠ n) : goodTab n T = false := by unfold goodTab; rw [decide_eq_false h, Bool.and_false]; rfl
theorem goodTab_all {n : Int} {T : List (List RowD)} (h : isGrp n = true) (hl : (T.length : Int) = n) : goodTab n T = T.all (goodList n) := by unfold goodTab; rw [h, decide_eq_true hl]; rfl
theorem goodList_long {n : Int} {R : List RowD} (h : 6 < R.length) : goodList n R = false := by unfold goodList; rw [decide_eq_false (by omega)]; rfl
theorem goodList_all {n : Int} {R : List RowD} (h : R.length ≤ 6) : goodList n R = R.all (goodRow n) := by unfold goodList; rw [decide_eq_true h]; rfl
theorem goodList_row {n : Int} {R : List RowD} (h : R.all (goodRow n) = false) : goodList n R = false := by unfold goodList; rw [h, Bool.and_false]

set_option maxHeartbeats 4000000 in
theorem specGoodTable_any (n : Int) (u : Value) (T : List (List RowD)) (w : World) (hu : Rowzz w u T) :
    Calls Tryz.prog 33 #[.agg #[.int .i64 n, u]] w (BoolExt (goodTab n T) w) := by
  obtain ⟨au, cu, rfl, hlu, _, hcu⟩ := hu
  unfold maxLen at hlu
  cases hg : isGrp n with
  | false =>
    rw [goodTab_grp hg]
    have HG := Lib.hid hg
    clear hg hcu
    go_enter Tryz.func33, Tryz.ntmps33
    go_wp2_with fail
    refine (specIsGroup_any _ _).mono ?_
    rintro e w' ⟨rfl, rfl⟩
    rw [HG.out]
    go_wp2
    go_ret
    exact ⟨rfl, Ext.alloc1 _ _⟩
  | true =>
    have HG := Lib.hid hg
    by_cases hl : (T.length : Int) = n
    · rw [goodTab_all hg hl]
      have e0 : ((T.length : Int) != n) = false := by simp [hl]
      have HL := Lib.hid hl
      obtain ⟨wb, hwb⟩ : ∃ wb, wb = w.alloc (.cells #[.int .i64 n, .slice au T.length cu] 32) := ⟨_, rfl⟩
      have hb := attrAt_new w 32 n (.slice au T.length cu)
      rw [← hwb] at hb
      have xb : Ext w wb := by rw [hwb]; exact Ext.alloc1 _ _
      have HWB := Lib.hid hwb
      have HBB := Lib.hid hb
      clear hg hl hwb hb
      go_enter Tryz.func33, Tryz.ntmps33
      go_wp2_with fail
      refine (specIsGroup_any _ _).mono ?_
      rintro e w' ⟨rfl, rfl⟩
      rw [HG.out]
      go_wp2
      rw [← HWB.out]
      go_loopw [22] (fun i wr => ∃ k : Nat, k ≤ T.length ∧ i = .int .i64 k ∧ Hid ((T.take k).all (goodList n) = true) ∧ Ext wb wr) (fun i _ => T.length - (intOf i).toNat)
      case atStart => exact ⟨0, Nat.zero_le _, rfl, Lib.hid (by simp), Ext.refl _⟩
      case round =>
        obtain ⟨k, hk, rfl, HT, hx⟩ := hrel
        by_cases hlt : k < T.length
        · obtain ⟨bu, ou, rfl, du⟩ := hcu (by omega)
          obtain ⟨x, hx1, ix⟩ := du k hlt
          have gu := (xb.trans hx).cell hx1
          have ixr := ix.ext (xb.trans hx)
          obtain ⟨R, hR⟩ : ∃ R, R = T[k] := ⟨_, rfl⟩
          rw [← hR] at ixr
          obtain ⟨ax, cx, rfl, hlx, _, hcx⟩ := ixr
          unfold maxLen at hlx
          have HR := Lib.hid hR
          clear hcu du hx1 ix hR
          obtain ⟨wo, hwo⟩ : ∃ wo : World, wo = wr := ⟨_, rfl⟩
          subst hwo
          go_wp2
          go_loopw [28] (fun i wr => ∃ j : Nat, j ≤ R.length ∧ i = .int .i64 j ∧ Hid ((R.take j).all (goodRow n) = true) ∧ Ext wo wr) (fun i _ => R.length - (intOf i).toNat)
          case atStart => exact ⟨0, Nat.zero_le _, rfl, Lib.hid (by simp), Ext.refl _⟩
          case round =>
            obtain ⟨j, hj, rfl, HS, hy⟩ := hrel
            by_cases hjt : j < R.length
            · obtain ⟨bx, ox, rfl, dx⟩ := hcx (by omega)
              obtain ⟨y, hy1, iy⟩ := dx j hjt
              obtain ⟨d, hd⟩ : ∃ d, d = R[j] := ⟨_, rfl⟩
              rw [← hd] at hy1 iy
              have gy := hy1.ext hy
              have iy2 := iy.ext hy
              obtain ⟨ay, cy, rfl, _⟩ := id iy2
              have IY := Lib.hid iy2
              have HD := Lib.hid hd
              obtain ⟨wp, hwp⟩ : ∃ wp : World, wp = wr := ⟨_, rfl⟩
              subst hwp
              have gn := ((hx.trans hy).trans (Ext.alloc1 wp (.cells #[.int .i64 d.b, .int .i64 d.v, .int .i64 d.st, .int .i64 d.k, .int .i64 d.i, .int .i64 d.f, .int .i64 d.t, .int .i64 d.a, .int .i64 d.s, .slice ay d.l.length cy] 83))).cell HBB.out.1
              clear hcx dx hy1 iy iy2 hd
              obtain ⟨g0, g1, g2, g3, g4, g5, g6, g7, g8, g9⟩ := gy
              go_wp2_with fail
              cases hq : goodRow n d with
              | false =>
                have HQ := Lib.hid hq
                clear hq
                refine (l4Row_any n d _ _ (IY.out.ext (Ext.alloc1 _ _)) HG.out).mono ?_
                rintro e w3 ⟨rfl, x3⟩
                have hz := (xb.trans ((hx.trans hy).trans (Ext.alloc1 _ _))).trans x3
                clear x3 gn g0 g1 g2 g3 g4 g5 g6 g7 g8 g9
                rw [HQ.out]
                go_wp2
                go_ret
                refine ⟨?_, hz⟩
                have h1 : R.all (goodRow n) = false := allx_false_at hjt _ (by rw [← HD.out]; exact HQ.out)
                have h2 : T.all (goodList n) = false := allx_false_at hlt _ (by rw [← HR.out]; exact goodList_row h1)
                rw [h2]; rfl
              | true =>
                have HQ := Lib.hid hq
                clear hq
                refine (l4Row_any n d _ _ (IY.out.ext (Ext.alloc1 _ _)) HG.out).mono ?_
                rintro e w3 ⟨rfl, x3⟩
                have hz := (hy.trans (Ext.alloc1 _ _)).trans x3
                clear x3 gn g0 g1 g2 g3 g4 g5 g6 g7 g8 g9
                rw [HQ.out]
                go_wp2
                go_roundw
                case rel => exact ⟨j + 1, by omega, by go_num, Lib.hid (allx_take_succ hjt _ HS.out (by rw [← HD.out]; exact HQ.out)), hz⟩
                case measure => simp [intOf]; omega
            · obtain rfl : j = R.length := by omega
              have hfull : R.all (goodRow n) = true := by have h := HS.out; rwa [List.take_length] at h
              have HF := Lib.hid hfull
              clear hfull
              by_cases h6 : 6 < R.length
              · go_wp2
                go_ret
                refine ⟨?_, xb.trans (hx.trans hy)⟩
                have h2 : T.all (goodList n) = false := allx_false_at hlt _ (by rw [← HR.out]; exact goodList_long h6)
                rw [h2]; rfl
              · go_wp2
                go_roundw
                case rel => exact ⟨k + 1, by omega, by go_num, Lib.hid (allx_take_succ hlt _ HT.out (by rw [← HR.out, goodList_all (by omega)]; exact HF.out)), hx.trans hy⟩
                case measure => simp [intOf]; omega
        · obtain rfl : k = T.length := by omega
          go_wp2
          go_ret
          refine ⟨?_, xb.trans hx⟩
          have h2 : T.all (goodList n) = true := by have h := HT.out; rwa [List.take_length] at h
          rw [h2]; rfl
    · rw [goodTab_len hl]
      have e0 : ((T.length : Int) != n) = true := by simp [hl]
      clear hg hcu hl
      go_enter Tryz.func33, Tryz.ntmps33
      go_wp2_with fail
      refine (specIsGroup_any _ _).mono ?_
      rintro e w' ⟨rfl, rfl⟩
      rw [HG.out]
      go_wp2
      go_ret
      exact ⟨rfl, Ext.alloc1 _ _⟩

end Go.Proofs.YtcpmfcigciknlaaGreat

namespace Go.Proofs.YtcpmfcigciknlaaGreat
open Go.RowKit
set_option linter.unusedVariables false

set_option maxHeartbeats 2000000 in
theorem areGoodRows_any (n : Int) (u : Value) (R : List RowD) (w : World) (hu : Rowz w u R) (hs : bulkR R ≤ 1099511627776) (hg : isGrp n = true) :
    Calls Tryz.prog 98 #[.int .i64 n, u] w (BoolExt (goodList n R) w) := by
  obtain ⟨au, cu, rfl, hlu, _, hcu⟩ := hu
  unfold maxLen at hlu
  have HG := Lib.hid hg
  have HS := Lib.hid hs
  clear hg hs
  by_cases h6 : 6 < R.length
  · rw [goodList_long h6]
    clear hcu
    go_enter Tryz.func98, Tryz.ntmps98
    go_wp2
    go_ret
    exact ⟨rfl, Ext.refl _⟩
  · have h6' : R.length ≤ 6 := by omega
    rw [goodList_all h6']
    clear h6
    go_enter Tryz.func98, Tryz.ntmps98
    go_wp2
    go_loopw [12] (fun i wr => ∃ j : Nat, j ≤ R.length ∧ i = .int .i64 j ∧ Hid ((R.take j).all (goodRow n) = true) ∧ Ext w wr) (fun i _ => R.length - (intOf i).toNat)
    case atStart => exact ⟨0, Nat.zero_le _, rfl, Lib.hid (by simp), Ext.refl _⟩
    case round =>
      obtain ⟨j, hj, rfl, HT, hy⟩ := hrel
      by_cases hjt : j < R.length
      · obtain ⟨bx, ox, rfl, dx⟩ := hcu (by omega)
        obtain ⟨y, hy1, iy⟩ := dx j hjt
        obtain ⟨d, hd⟩ : ∃ d, d = R[j] := ⟨_, rfl⟩
        rw [← hd] at hy1 iy
        have hsz : d.l.length ≤ 1099511627776 := by rw [hd]; have := bulkR_row hjt; have := HS.out; omega
        have gy := hy1.ext hy
        have iy2 := iy.ext hy
        obtain ⟨ay, cy, rfl, _⟩ := id iy2
        have IY := Lib.hid iy2
        have HD := Lib.hid hd
        clear hcu dx hy1 iy iy2 hd
        obtain ⟨wp, hwp⟩ : ∃ wp : World, wp = wr := ⟨_, rfl⟩
        subst hwp
        obtain ⟨g0, g1, g2, g3, g4, g5, g6, g7, g8, g9⟩ := gy
        go_wp2_with fail
        cases hq : goodRow n d with
        | false =>
          have HQ := Lib.hid hq
          clear hq
          refine (isGoodRow_any n d _ _ (IY.out.ext (Ext.alloc1 _ _)) hsz HG.out).mono ?_
          rintro e w3 ⟨rfl, x3⟩
          have hz := (hy.trans (Ext.alloc1 _ _)).trans x3
          clear x3 g0 g1 g2 g3 g4 g5 g6 g7 g8 g9
          rw [HQ.out]
          go_wp2
          go_ret
          refine ⟨?_, hz⟩
          have h1 : R.all (goodRow n) = false := allx_false_at hjt _ (by rw [← HD.out]; exact HQ.out)
          rw [h1]; rfl
        | true =>
          have HQ := Lib.hid hq
          clear hq
          refine (isGoodRow_any n d _ _ (IY.out.ext (Ext.alloc1 _ _)) hsz HG.out).mono ?_
          rintro e w3 ⟨rfl, x3⟩
          have hz := (hy.trans (Ext.alloc1 _ _)).trans x3
          clear x3 g0 g1 g2 g3 g4 g5 g6 g7 g8 g9
          rw [HQ.out]
          go_wp2
          go_roundw
          case rel => exact ⟨j + 1, by omega, by go_num, Lib.hid (allx_take_succ hjt _ HT.out (by rw [← HD.out]; exact HQ.out)), hz⟩
          case measure => simp [intOf]; omega
      · obtain rfl : j = R.length := by omega
        go_wp2
        go_ret
        refine ⟨?_, hy⟩
        have hfull : R.all (goodRow n) = true := by have h := HT.out; rwa [List.take_length] at h
        rw [hfull]; rfl

set_option maxHeartbeats 4000000 in
theorem implGoodTable_any (n : Int) (u : Value) (T : List (List RowD)) (w : World) (hu : Rowzz w u T) (hs : bulkT T ≤ 1099511627776) :
    Calls Tryz.prog 56 #[.agg #[.int .i64 n, u]] w (BoolExt (goodTab n T) w) := by
  obtain ⟨au, cu, rfl, hlu, _, hcu⟩ := hu
  unfold maxLen at hlu
  have HSZ := Lib.hid hs
  clear hs
  cases hg : isGrp n with
  | false =>
    rw [goodTab_grp hg]
    have HG := Lib.hid hg
    clear hg hcu
    go_enter Tryz.func56, Tryz.ntmps56
    go_wp2_with fail
    refine (implIsGroup_any _ _).mono ?_
    rintro e w' ⟨rfl, rfl⟩
    rw [HG.out]
    go_wp2
    go_ret
    exact ⟨rfl, Ext.alloc1 _ _⟩
  | true =>
    have HG := Lib.hid hg
    by_cases hl : (T.length : Int) = n
    · rw [goodTab_all hg hl]
      have e0 : ((T.length : Int) != n) = false := by simp [hl]
      have HL := Lib.hid hl
      obtain ⟨wb, hwb⟩ : ∃ wb, wb = w.alloc (.cells #[.int .i64 n, .slice au T.length cu] 32) := ⟨_, rfl⟩
      have hb := attrAt_new w 32 n (.slice au T.length cu)
      rw [← hwb] at hb
      have xb : Ext w wb := by rw [hwb]; exact Ext.alloc1 _ _
      have HWB := Lib.hid hwb
      have HBB := Lib.hid hb
      clear hg hl hwb hb
      go_enter Tryz.func56, Tryz.ntmps56
      go_wp2_with fail
      refine (implIsGroup_any _ _).mono ?_
      rintro e w' ⟨rfl, rfl⟩
      rw [HG.out]
      go_wp2
      rw [← HWB.out]
      go_loopw [20] (fun i wr => ∃ k : Nat, k ≤ T.length ∧ i = .int .i64 k ∧ Hid ((T.take k).all (goodList n) = true) ∧ Ext wb wr) (fun i _ => T.length - (intOf i).toNat)
      case atStart => exact ⟨0, Nat.zero_le _, rfl, Lib.hid (by simp), Ext.refl _⟩
      case round =>
        obtain ⟨k, hk, rfl, HT, hx⟩ := hrel
        by_cases hlt : k < T.length
        · obtain ⟨bu, ou, rfl, du⟩ := hcu (by omega)
          obtain ⟨x, hx1, ix⟩ := du k hlt
          have gu := (xb.trans hx).cell hx1
          have gn := hx.cell HBB.out.1
          obtain ⟨R, hR⟩ : ∃ R, R = T[k] := ⟨_, rfl⟩
          rw [← hR] at ix
          have hsz : bulkR R ≤ 1099511627776 := by rw [hR]; have := bulkT_row hlt; have := HSZ.out; omega
          have IX := Lib.hid (ix.ext (xb.trans hx))
          have HR := Lib.hid hR
          clear hcu du hx1 ix hR
          obtain ⟨wo, hwo⟩ : ∃ wo : World, wo = wr := ⟨_, rfl⟩
          subst hwo
          go_wp2_with fail
          cases hq : goodList n R with
          | false =>
            have HQ := Lib.hid hq
            clear hq
            refine (areGoodRows_any n _ R _ IX.out hsz HG.out).mono ?_
            rintro e w3 ⟨rfl, x3⟩
            have hz := xb.trans (hx.trans x3)
            clear x3 gn gu
            rw [HQ.out]
            go_wp2
            go_ret
            refine ⟨?_, hz⟩
            have h2 : T.all (goodList n) = false := allx_false_at hlt _ (by rw [← HR.out]; exact HQ.out)
            rw [h2]; rfl
          | true =>
            have HQ := Lib.hid hq
            clear hq
            refine (areGoodRows_any n _ R _ IX.out hsz HG.out).mono ?_
            rintro e w3 ⟨rfl, x3⟩
            have hz := hx.trans x3
            clear x3 gn gu
            rw [HQ.out]
            go_wp2
            go_roundw
            case rel => exact ⟨k + 1, by omega, by go_num, Lib.hid (allx_take_succ hlt _ HT.out (by rw [← HR.out]; exact HQ.out)), hz⟩
            case measure => simp [intOf]; omega
        · obtain rfl : k = T.length := by omega
          go_wp2
          go_ret
          refine ⟨?_, xb.trans hx⟩
          have h2 : T.all (goodList n) = true := by have h := HT.out; rwa [List.take_length] at h
          rw [h2]; rfl
    · rw [goodTab_len hl]
      have e0 : ((T.length : Int) != n) = true := by simp [hl]
      clear hg hcu hl
      go_enter Tryz.func56, Tryz.ntmps56
      go_wp2_with fail
      refine (implIsGroup_any _ _).mono ?_
      rintro e w' ⟨rfl, rfl⟩
      rw [HG.out]
      go_wp2
      go_ret
      exact ⟨rfl, Ext.alloc1 _ _⟩

end Go.Proofs.YtcpmfcigciknlaaGreat

namespace Go.Proofs.YtcpmfcigciknlaaGreat
open Go.RowKit
set_option linter.unusedVariables false

set_option maxHeartbeats 1000000 in
theorem l1Own_any (u : Value) (l : List Int) (w : World) (hu : Ints w u l) (hl : l.length ≤ 1048576) :
    Calls Tryz.prog 156 #[u] w (NewInts l w) := by
  have hb1 : ([] : List Int).length + l.length ≤ 1099511627776 := by simp; omega
  have HB := Lib.hid hb1
  have HU := Lib.hid hu
  clear hb1 hu hl
  go_enter Tryz.func156, Tryz.ntmps156
  go_wp2_with (at_builtin; refine wpList_join rfl _ _ rfl w.heap.size _ _ [] l rfl (fresh_lit w [] #[] _ rfl (Nat.le_refl _) (Nat.zero_le _)) rfl (HU.out.ext (Ext.alloc (Ext.refl _) _)) HB.out (size_alloc_le (Nat.le_refl _)) ?_)
  intro v1 w1 f1 g1 k1
  have e1' : Ext w w1 := k1 w (Ext.alloc (Ext.refl _) _) (Nat.le_refl _)
  clear g1 k1
  go_wp2
  go_ret
  exact ⟨_, rfl, by simpa using f1, e1'⟩

end Go.Proofs.YtcpmfcigciknlaaGreat

namespace Go.Proofs.YtcpmfcigciknlaaGreat
open Go.RowKit
set_option linter.unusedVariables false

theorem box_res (w : World) (s : Int) (u : Value) (T : TypeId) :
    AttrAt ((w.alloc (.cells #[.int .i64 s, u] T)).alloc (.cells #[.int .i64 0, .slice none 0 0] T)) w.heap.size s u ∧ OpenAt ((w.alloc (.cells #[.int .i64 s, u] T)).alloc (.cells #[.int .i64 0, .slice none 0 0] T)) (w.heap.size + 1) 0 (.slice none 0 0) := by
  refine ⟨⟨?_, ?_⟩, ⟨?_, ?_⟩, ?_, ?_⟩ <;> go_simp

set_option maxHeartbeats 2000000 in
theorem l4OwnAttr_any (s : Int) (u : Value) (l : List Int) (w : World) (hu : Ints w u l) (hl : l.length ≤ 1048576) :
    Calls Tryz.prog 155 #[.agg #[.int .i64 s, u]] w (NewAttr s l w) := by
  have HL := Lib.hid hl
  have HU := Lib.hid hu
  have HO := Lib.hid (box_res w s u 81)
  clear hl hu
  go_enter Tryz.func155, Tryz.ntmps155
  go_wp2_with fail
  go_region_with (go_at_call 156; refine (l1Own_any _ l _ (HU.out.ext (by repeat (first | exact Ext.refl _ | apply Ext.drew | apply Ext.alloc))) HL.out).mono ?_; rintro e W ⟨z, rfl, f9, x9⟩; obtain ⟨az, cz, rfl⟩ := f9.form; obtain ⟨b0, b1⟩ := HO.out.1.ext ((Ext.drew (Ext.refl _)).trans x9); obtain ⟨⟨c0, c1⟩, z0, z1⟩ := HO.out.2.ext ((Ext.drew (Ext.refl _)).trans x9))
  all_goals
    have F9 := Lib.hid f9
    have X9 := Lib.hid x9
    clear f9 x9 b0 b1
    go_wp2
    refine bodyPost_ret (v := .agg #[.int .i64 s, .slice az l.length cz]) (by simp [results, Tryz.results155, go_sem, c0, c1]) rfl ⟨_, rfl, ?_, ?_⟩
    · exact ((F9.out.set _ _ _ (by simp)).set _ _ _ (by simp)).more (by simp; omega)
    · exact (((((Ext.refl w).alloc _).alloc _).trans ((Ext.drew (Ext.refl _)).trans X9.out)).setc (by simp)).setc (by simp)

theorem box_res_row (w : World) (r : RowD) (u : Value) (T : TypeId) :
    (RowAt ((w.alloc (.cells #[.int .i64 r.b, .int .i64 r.v, .int .i64 r.st, .int .i64 r.k, .int .i64 r.i, .int .i64 r.f, .int .i64 r.t, .int .i64 r.a, .int .i64 r.s, u] T)).alloc (.cells #[.int .i64 0, .int .i64 0, .int .i64 0, .int .i64 0, .int .i64 0, .int .i64 0, .int .i64 0, .int .i64 0, .int .i64 0, .slice none 0 0] T)) w.heap.size r u ∧
      FreeAt ((w.alloc (.cells #[.int .i64 r.b, .int .i64 r.v, .int .i64 r.st, .int .i64 r.k, .int .i64 r.i, .int .i64 r.f, .int .i64 r.t, .int .i64 r.a, .int .i64 r.s, u] T)).alloc (.cells #[.int .i64 0, .int .i64 0, .int .i64 0, .int .i64 0, .int .i64 0, .int .i64 0, .int .i64 0, .int .i64 0, .int .i64 0, .slice none 0 0] T)) w.heap.size) ∧
    (RowAt ((w.alloc (.cells #[.int .i64 r.b, .int .i64 r.v, .int .i64 r.st, .int .i64 r.k, .int .i64 r.i, .int .i64 r.f, .int .i64 r.t, .int .i64 r.a, .int .i64 r.s, u] T)).alloc (.cells #[.int .i64 0, .int .i64 0, .int .i64 0, .int .i64 0, .int .i64 0, .int .i64 0, .int .i64 0, .int .i64 0, .int .i64 0, .slice none 0 0] T)) (w.heap.size + 1) zeroR (.slice none 0 0) ∧
      FreeAt ((w.alloc (.cells #[.int .i64 r.b, .int .i64 r.v, .int .i64 r.st, .int .i64 r.k, .int .i64 r.i, .int .i64 r.f, .int .i64 r.t, .int .i64 r.a, .int .i64 r.s, u] T)).alloc (.cells #[.int .i64 0, .int .i64 0, .int .i64 0, .int .i64 0, .int .i64 0, .int .i64 0, .int .i64 0, .int .i64 0, .int .i64 0, .slice none 0 0] T)) (w.heap.size + 1)) := by
  refine ⟨⟨⟨?_, ?_, ?_, ?_, ?_, ?_, ?_, ?_, ?_, ?_⟩, ⟨?_, ?_, ?_, ?_, ?_, ?_, ?_, ?_, ?_, ?_⟩⟩, ⟨⟨?_, ?_, ?_, ?_, ?_, ?_, ?_, ?_, ?_, ?_⟩, ⟨?_, ?_, ?_, ?_, ?_, ?_, ?_, ?_, ?_, ?_⟩⟩⟩ <;> go_simp <;> rfl

set_option maxHeartbeats 2000000 in
set_option maxRecDepth 100000 in
theorem l4OwnRow_any (r : RowD) (u : Value) (w : World) (hu : Ints w u r.l) (hl : r.l.length ≤ 1048576) :
    Calls Tryz.prog 114 #[.agg #[.int .i64 r.b, .int .i64 r.v, .int .i64 r.st, .int .i64 r.k, .int .i64 r.i, .int .i64 r.f, .int .i64 r.t, .int .i64 r.a, .int .i64 r.s, u]] w (NewRow r w) := by
  have HL := Lib.hid hl
  obtain ⟨wb, hwb⟩ : ∃ wb, wb = (w.alloc (.cells #[.int .i64 r.b, .int .i64 r.v, .int .i64 r.st, .int .i64 r.k, .int .i64 r.i, .int .i64 r.f, .int .i64 r.t, .int .i64 r.a, .int .i64 r.s, u] 83)).alloc (.cells #[.int .i64 0, .int .i64 0, .int .i64 0, .int .i64 0, .int .i64 0, .int .i64 0, .int .i64 0, .int .i64 0, .int .i64 0, .slice none 0 0] 83) := ⟨_, rfl⟩
  have ho := box_res_row w r u 83
  rw [← hwb] at ho
  have xb : Ext w wb := by rw [hwb]; exact ((Ext.refl w).alloc _).alloc _
  have sb : wb.heap.size = w.heap.size + 2 := by rw [hwb]; simp
  have HU := Lib.hid (hu.ext xb)
  have HWB := Lib.hid hwb
  have HO := Lib.hid ho
  have SB := Lib.hid sb
  clear hl hu hwb ho sb
  go_enter Tryz.func114, Tryz.ntmps114
  go_wp2_with fail
  rw [← HWB.out]
  refine (l4OwnAttr_any _ _ r.l _ HU.out HL.out).mono ?_
  rintro e w1 ⟨v, rfl, f1, x1⟩
  have hx := xb.trans x1
  obtain ⟨p0, p1, p2, p3, p4, p5, p6, p7, p8, p9⟩ := HO.out.1.1.ext x1
  obtain ⟨y0, y1, y2, y3, y4, y5, y6, y7, y8, y9⟩ := HO.out.1.2.ext (by have := SB.out; omega) x1
  obtain ⟨o0, o1, o2, o3, o4, o5, o6, o7, o8, o9⟩ := HO.out.2.1.ext x1
  obtain ⟨z0, z1, z2, z3, z4, z5, z6, z7, z8, z9⟩ := HO.out.2.2.ext (by have := SB.out; omega) x1
  obtain ⟨au, cu, rfl⟩ := f1.form
  have F := Lib.hid f1
  have hsz : w.heap.size + 2 ≤ wb.heap.size := by have := SB.out; omega
  have HZ := Lib.hid hsz
  clear f1 x1 xb hsz
  go_wp2
  refine bodyPost_ret (v := .agg #[.int .i64 r.b, .int .i64 r.v, .int .i64 r.st, .int .i64 r.k, .int .i64 r.i, .int .i64 r.f, .int .i64 r.t, .int .i64 r.a, .int .i64 r.s, .slice au r.l.length cu]) (by simp [results, Tryz.results114, go_sem, o0, o1, o2, o3, o4, o5, o6, o7, o8, o9]) rfl ⟨_, rfl, ?_, ?_⟩
  · exact ((((((((((((F.out.set _ _ _ (by have := HZ.out; omega)).set _ _ _ (by have := HZ.out; omega)).set _ _ _ (by have := HZ.out; omega)).set _ _ _ (by have := HZ.out; omega)).set _ _ _ (by have := HZ.out; omega)).set _ _ _ (by have := HZ.out; omega)).set _ _ _ (by have := HZ.out; omega)).set _ _ _ (by have := HZ.out; omega)).set _ _ _ (by have := HZ.out; omega)).set _ _ _ (by have := HZ.out; omega)).set _ _ _ (by have := HZ.out; omega)).set _ _ _ (by have := HZ.out; omega)).more (by have := HZ.out; omega)
  · exact (((((((((((hx.setc (by dsimp only; omega)).setc (by dsimp only; omega)).setc (by dsimp only; omega)).setc (by dsimp only; omega)).setc (by dsimp only; omega)).setc (by dsimp only; omega)).setc (by dsimp only; omega)).setc (by dsimp only; omega)).setc (by dsimp only; omega)).setc (by dsimp only; omega)).setc (by dsimp only; omega)).setc (by dsimp only; omega)

end Go.Proofs.YtcpmfcigciknlaaGreat

namespace Go.Proofs.YtcpmfcigciknlaaGreat
open Go.RowKit
set_option linter.unusedVariables false

/-- Whether it is an instance of a group of n. -/
def instB (n rep no : Int) : Bool := inB rep 0 (n - 1) && inB no 1 6
theorem isGrp_bd {n : Int} (h : isGrp n = true) : 3 ≤ n ∧ n ≤ 5 := by rcases isGrp_of h with rfl | rfl <;> omega

set_option maxHeartbeats 400000 in
theorem l3Inst_any (n rep no : Int) (w : World) (h3 : 3 ≤ n) (h5 : n ≤ 5) :
    Calls Tryz.prog 76 #[.int .i64 n, .int .i64 rep, .int .i64 no] w fun e w' => e = .returned (.bool (instB n rep no)) ∧ w = w' := by
  unfold instB
  cases h1 : inB rep 0 (n - 1)
  · have H1 := Lib.hid h1
    clear h1
    go_enter Tryz.func76, Tryz.ntmps76
    go_wp2_with fail
    refine (l1In_any _ _ _ _).mono ?_
    rintro e w' ⟨rfl, rfl⟩
    rw [H1.out]
    go_wp2
    go_ret
    exact ⟨rfl, rfl⟩
  · have H1 := Lib.hid h1
    clear h1
    cases h2 : inB no 1 6
    all_goals
      have H2 := Lib.hid h2
      clear h2
      go_enter Tryz.func76, Tryz.ntmps76
      go_wp2_with fail
      refine (l1In_any _ _ _ _).mono ?_
      rintro e w' ⟨rfl, rfl⟩
      rw [H1.out]
      go_wp2_with fail
      refine (l1In_any _ _ _ _).mono ?_
      rintro e w' ⟨rfl, rfl⟩
      rw [H2.out]
      go_wp2
      go_ret
      exact ⟨rfl, rfl⟩

def repB (n k : Int) : Bool := isGrp n && inB k 0 (n - 1)
set_option maxHeartbeats 1000000 in
theorem isReplica_any (n k : Int) (w : World) :
    Calls Tryz.prog 167 #[.int .i64 n, .int .i64 k] w fun e w' => e = .returned (.bool (repB n k)) ∧ w = w' := by
  unfold repB
  cases hg : isGrp n with
  | false =>
    have HG := Lib.hid hg
    clear hg
    go_enter Tryz.func167, Tryz.ntmps167
    go_wp2_with fail
    refine (implIsGroup_any _ _).mono ?_
    rintro e w' ⟨rfl, rfl⟩
    rw [HG.out]
    go_wp2
    go_ret
    exact ⟨rfl, rfl⟩
  | true =>
    have HG := Lib.hid hg
    clear hg
    by_cases h1 : k < 0
    · have hr : inB k 0 (n - 1) = false := inB_no (by omega)
      rw [hr]
      clear hr
      go_enter Tryz.func167, Tryz.ntmps167
      go_wp2_with fail
      refine (implIsGroup_any _ _).mono ?_
      rintro e w' ⟨rfl, rfl⟩
      rw [HG.out]
      go_wp2
      go_ret
      exact ⟨rfl, rfl⟩
    · by_cases h2 : k < n
      · have h3 : 0 ≤ k := by omega
        have hr : inB k 0 (n - 1) = true := inB_yes h3 (by omega)
        rw [hr]
        clear hr h1
        go_enter Tryz.func167, Tryz.ntmps167
        go_wp2_with fail
        refine (implIsGroup_any _ _).mono ?_
        rintro e w' ⟨rfl, rfl⟩
        rw [HG.out]
        go_wp2
        go_ret
        exact ⟨rfl, rfl⟩
      · have h3 : 0 ≤ k := by omega
        have h4 : n ≤ k := by omega
        have hr : inB k 0 (n - 1) = false := inB_no (by omega)
        have nk : decide (k < n) = false := decide_eq_false h2
        rw [hr]
        clear hr h1 h2 h4
        go_enter Tryz.func167, Tryz.ntmps167
        go_wp2_with fail
        refine (implIsGroup_any _ _).mono ?_
        rintro e w' ⟨rfl, rfl⟩
        rw [HG.out]
        go_wp2
        go_ret
        exact ⟨rfl, rfl⟩

set_option maxHeartbeats 1000000 in
/-- Whether it is an instance, of a group or of none. -/
theorem isInstance_all (n rep no : Int) (w : World) :
    Calls Tryz.prog 129 #[.int .i64 n, .int .i64 rep, .int .i64 no] w fun e w' => e = .returned (.bool (repB n rep && inB no 1 6)) ∧ w = w' := by
  cases hg : repB n rep with
  | false =>
    have HG := Lib.hid hg
    clear hg
    go_enter Tryz.func129, Tryz.ntmps129
    go_wp2_with fail
    refine (isReplica_any _ _ _).mono ?_
    rintro e w' ⟨rfl, rfl⟩
    rw [HG.out]
    go_wp2
    go_ret
    exact ⟨rfl, rfl⟩
  | true =>
    have HG := Lib.hid hg
    clear hg
    by_cases h1 : no < 1
    · have hr : inB no 1 6 = false := inB_no (by omega)
      rw [hr]
      clear hr
      go_enter Tryz.func129, Tryz.ntmps129
      go_wp2_with fail
      refine (isReplica_any _ _ _).mono ?_
      rintro e w' ⟨rfl, rfl⟩
      rw [HG.out]
      go_wp2
      go_ret
      exact ⟨rfl, rfl⟩
    · by_cases h2 : 6 < no
      · have h3 : 1 ≤ no := by omega
        have hr : inB no 1 6 = false := inB_no (by omega)
        have nk : decide (no ≤ 6) = false := decide_eq_false (by omega)
        rw [hr]
        clear hr h1 h2
        go_enter Tryz.func129, Tryz.ntmps129
        go_wp2_with fail
        refine (isReplica_any _ _ _).mono ?_
        rintro e w' ⟨rfl, rfl⟩
        rw [HG.out]
        go_wp2
        go_ret
        exact ⟨rfl, rfl⟩
      · have h3 : 1 ≤ no := by omega
        have h4 : no ≤ 6 := by omega
        have hr : inB no 1 6 = true := inB_yes h3 h4
        rw [hr]
        clear hr h1 h2
        go_enter Tryz.func129, Tryz.ntmps129
        go_wp2_with fail
        refine (isReplica_any _ _ _).mono ?_
        rintro e w' ⟨rfl, rfl⟩
        rw [HG.out]
        go_wp2
        go_ret
        exact ⟨rfl, rfl⟩
theorem isInstance_any (n rep no : Int) (w : World) (hg : isGrp n = true) :
    Calls Tryz.prog 129 #[.int .i64 n, .int .i64 rep, .int .i64 no] w fun e w' => e = .returned (.bool (instB n rep no)) ∧ w = w' := by
  have h := isInstance_all n rep no w
  unfold repB at h
  rw [hg, Bool.true_and] at h
  exact h

/-- Does it hang on the instance? -/
def hangsB (n s : Int) (l : List Int) (rep no : Int) : Bool := goodA n s l && instB n rep no && decide (no ≤ l[rep.toNat]?.getD 0)
def hangsOk (n s : Int) (l : List Int) (rep no : Int) : Bool := goodA n s l && instB n rep no
end Go.Proofs.YtcpmfcigciknlaaGreat

namespace Go.Proofs.YtcpmfcigciknlaaGreat
open Go.RowKit
set_option linter.unusedVariables false

def emptyR (n : Int) : RowD := ⟨0, 0, 0, 0, 0, 0, 0, 0, 0, noneL n⟩
/-- The row of the place (p, q + 1), the empty one behind the list's end. -/
def rowOf (n : Int) (T : List (List RowD)) (p q : Nat) : RowD := (T[p]?.getD [])[q]?.getD (emptyR n)
theorem rowOf_in {n : Int} {T : List (List RowD)} {p q : Nat} (hp : p < T.length) (hq : q < T[p].length) : rowOf n T p q = T[p][q] := by
  unfold rowOf; simp [List.getElem?_eq_getElem hp, List.getElem?_eq_getElem hq]
theorem rowOf_out {n : Int} {T : List (List RowD)} {p q : Nat} (hp : p < T.length) (hq : T[p].length ≤ q) : rowOf n T p q = emptyR n := by
  unfold rowOf; simp [List.getElem?_eq_getElem hp, List.getElem?_eq_none hq]
theorem goodTab_of {n : Int} {T : List (List RowD)} (h : goodTab n T = true) : isGrp n = true ∧ (T.length : Int) = n ∧ ∀ R ∈ T, R.length ≤ 6 ∧ ∀ r ∈ R, goodRow n r = true := by
  unfold goodTab at h
  simp only [Bool.and_eq_true, decide_eq_true_eq, List.all_eq_true] at h
  refine ⟨h.1.1, h.1.2, fun R hR => ?_⟩
  have := h.2 R hR
  unfold goodList at this
  simp only [Bool.and_eq_true, decide_eq_true_eq, List.all_eq_true] at this
  exact this
theorem goodRow_len {n : Int} {r : RowD} (hn : isGrp n = true) (h : goodRow n r = true) : (r.l.length : Int) = n := by
  unfold goodRow at h
  simp only [Bool.and_eq_true] at h
  have h2 := h.2
  split at h2
  · unfold emptyB at h2
    simp only [Bool.and_eq_true] at h2
    have h3 := h2.2
    unfold sameA at h3
    simp only [Bool.and_eq_true, decide_eq_true_eq] at h3
    rw [h3.2]
    rcases isGrp_of hn with rfl | rfl <;> simp [noneL, isGrp]
  · unfold fullB at h2
    simp only [Bool.and_eq_true] at h2
    exact (goodD_of h2.2).2.1
theorem goodTab_row {n : Int} {T : List (List RowD)} (h : goodTab n T = true) {p q : Nat} (hp : p < T.length) (hq : q < T[p].length) : goodRow n T[p][q] = true ∧ (T[p][q].l.length : Int) = n ∧ T[p][q].l.length ≤ 5 := by
  obtain ⟨h1, h2, h3⟩ := goodTab_of h
  have h4 := (h3 _ (List.getElem_mem hp)).2 _ (List.getElem_mem hq)
  have h5 := goodRow_len h1 h4
  have := isGrp_bd h1
  exact ⟨h4, h5, by omega⟩
/-- An instance, in numbers of the model's lists. -/
theorem inst_nat {n rep no : Int} {T : List (List RowD)} (h : goodTab n T = true) (hi : instB n rep no = true) : ∃ p q : Nat, rep = (p : Int) ∧ no = (q : Int) + 1 ∧ p < T.length ∧ q ≤ 5 := by
  obtain ⟨h1, h2, h3⟩ := goodTab_of h
  unfold instB at hi
  simp only [Bool.and_eq_true] at hi
  obtain ⟨ha, hb⟩ := hi
  unfold inB at ha hb
  simp only [Bool.and_eq_true, decide_eq_true_eq] at ha hb
  exact ⟨rep.toNat, (no - 1).toNat, by omega, by omega, by omega, by omega⟩

set_option maxHeartbeats 1000000 in
theorem l4Asked_any (n : Int) (u : Value) (T : List (List RowD)) (rep no : Int) (w : World) (hu : Rowzz w u T) :
    Calls Tryz.prog 42 #[.agg #[.int .i64 n, u], .int .i64 rep, .int .i64 no] w (BoolExt (goodTab n T && instB n rep no) w) := by
  have HB := Lib.hid (attrAt_new w 32 n u)
  have HU := Lib.hid (hu.ext (Ext.alloc1 w (.cells #[.int .i64 n, u] 32)))
  clear hu
  cases hg : goodTab n T with
  | false =>
    have HG := Lib.hid hg
    clear hg
    go_enter Tryz.func42, Tryz.ntmps42
    go_wp2_with fail
    refine (specGoodTable_any _ _ T _ HU.out).mono ?_
    rintro e w1 ⟨rfl, x1⟩
    have hx := (Ext.alloc1 w _).trans x1
    clear x1
    rw [HG.out]
    go_wp2
    go_ret
    exact ⟨rfl, hx⟩
  | true =>
    rw [Bool.true_and]
    have hb := isGrp_bd (goodTab_of hg).1
    have h3 := hb.1
    have h5 := hb.2
    have HG := Lib.hid hg
    clear hg hb
    go_enter Tryz.func42, Tryz.ntmps42
    go_wp2_with fail
    refine (specGoodTable_any _ _ T _ HU.out).mono ?_
    rintro e w1 ⟨rfl, x1⟩
    obtain ⟨c0, c1⟩ := HB.out.ext x1
    have hx := (Ext.alloc1 w _).trans x1
    clear x1
    rw [HG.out]
    go_wp2_with fail
    refine (l3Inst_any _ _ _ _ h3 h5).mono ?_
    rintro e w' ⟨rfl, rfl⟩
    clear c0 c1
    cases hi : instB n rep no
    all_goals
      have HI := Lib.hid hi
      clear hi
      go_wp2
      go_ret
      exact ⟨by rw [HI.out]; rfl, hx⟩

end Go.Proofs.YtcpmfcigciknlaaGreat

namespace Go.Proofs.YtcpmfcigciknlaaGreat
open Go.RowKit
set_option linter.unusedVariables false

/-- Two slices of two element types lie in two blocks. -/
theorem types_apart {w : World} {B B' e e' sz sz' n m : Nat} {v u : Value} {xs ys : List Value} (h : w.ownsRow B e sz v n xs) (k : w.ownsRow B' e' sz' u m ys) (hne : e ≠ e') : u.ownBlock = none ∨ u.ownBlock ≠ v.ownBlock := by
  rcases k.2 with ⟨rfl, _⟩ | ⟨g', cap', cur', rfl, _, hg', _⟩
  · exact .inl rfl
  · refine .inr fun hb => ?_
    rcases h.2 with ⟨rfl, _⟩ | ⟨g, cap, cur, rfl, _, hg, _⟩
    · simp [Value.ownBlock] at hb
    · simp [Value.ownBlock] at hb
      subst hb
      rw [hg] at hg'
      simp at hg'
      exact hne hg'.2
theorem FreshSS.of {B : Nat} {w : World} {v : Value} {L : List (List Int)} {vs : List Value} (h : w.ownsRow B 26 1 v L.length vs) (r : Rows_ B w vs L) : FreshSS B w v L :=
  ⟨vs, h, r, fun j u hu => by
    have hj : j < vs.length := (List.getElem?_eq_some_iff.1 hu).1
    exact types_apart h (r.row j u _ hu (List.getElem?_eq_getElem (by rw [← r.len]; exact hj))) (by decide)⟩
theorem FreshSS.form {B : Nat} {w : World} {v : Value} {L : List (List Int)} (h : FreshSS B w v L) : ∃ ao cap, v = .slice ao L.length cap := by
  obtain ⟨ao, cap, hv, _⟩ := h.intss
  exact ⟨ao, cap, hv⟩

theorem wpList_pushSS {ops : Array Oper} {rest : List Oper} {o : Oper} {a : Act} {Q : Exit → Act → World → Prop} {w : World} (hgd : o.guard = none) (s x : Operand)
    (ho : o.op = .call { callee := .builtin .append, args := #[s, x], argTypes := #[63, 63] })
    (B : Nat) (v : Value) (L : List (List Int)) (l : List Int) (w0 : World) (hs : a.eval s = v) (hf : FreshSS B w0 v L) (e : Ext w0 w) (u : Value) (hu : Fresh w0.heap.size w u l) (ad : Addr) (c : Nat) (hx : a.eval x = .slice (some ad) 1 c)
    (hc : w.cell? ad = some u) (h1 : u.oneCell' = true) (hl : L.length ≤ 1048576) (hB : B ≤ w0.heap.size)
    (h : ∀ v' w', FreshSS B w' v' (L ++ [l]) → Kept B w w' → wpList Tryz.prog ops Q rest (a.put o.dst v') w') : wpList Tryz.prog ops Q (o :: rest) a w := by
  obtain ⟨i0, hi, hz0, hz1, hz2⟩ := info_parts Tryz.infoInts
  obtain ⟨vs, h1r, h2r, _⟩ := hf
  have ho1 := e.ownsRow h1r
  have hR := h2r.snoc e hu hB
  refine wpList_append_own _ hgd s x 63 ho B 26 i0 (.slice none 0 0) 1 24 Tryz.underlying63 hi hz0 hz1 hz2 rfl (by decide) v L.length _ hs ho1 ad 1 c [u] hx rfl ?_ ?_ ?_ ?_ (Nat.le_trans hB e.size) ?_
  · intro j z hj
    match j, hj with
    | 0, hj => simp at hj; subst hj; simpa [Addr.add] using hc
  · intro z hz; simp at hz; subst hz; exact h1
  · unfold maxLen; omega
  · omega
  · intro v' w' ho' hg _
    have hRt : Rows_ B w' (vs ++ [u]) (L ++ [l]) := hR.touch hg (fun j z hz => by
      have hj : j < (vs ++ [u]).length := (List.getElem?_eq_some_iff.1 hz).1
      exact types_apart ho1 (hR.row j z _ hz (List.getElem?_eq_getElem (by rw [← hR.len]; exact hj))) (by decide))
    refine h v' w' (FreshSS.of (by simpa using ho') hRt) (fun q hq hqB => Below.grown hq hg hq.size (fun b hb => Nat.le_trans hqB (World.ownsRow.lt ho1 b hb).1))

end Go.Proofs.YtcpmfcigciknlaaGreat

namespace Go.Proofs.YtcpmfcigciknlaaGreat
open Go.RowKit
set_option linter.unusedVariables false

def comAt (k : Nat) (R : List RowD) (i : Nat) : List (List Int) := match R[i]? with
  | some r => if r.st == 3 then [[(k : Int), (i : Int) + 1]] else []
  | none => []
/-- What is settled among the first j rows of the list of k, among the first k lists. -/
def comTo (k : Nat) (R : List RowD) (j : Nat) : List (List Int) := (List.range j).flatMap (comAt k R)
def allTo (T : List (List RowD)) (k : Nat) : List (List Int) := (List.range k).flatMap fun p => comTo p (T[p]?.getD []) (T[p]?.getD []).length
theorem comTo_succ (k : Nat) (R : List RowD) (j : Nat) : comTo k R (j + 1) = comTo k R j ++ comAt k R j := by simp [comTo, List.range_succ]
theorem comTo_zero (k : Nat) (R : List RowD) : comTo k R 0 = [] := by simp [comTo]
theorem comAt_yes {k : Nat} {R : List RowD} {j : Nat} (h : j < R.length) (hs : (R[j].st == 3) = true) : comAt k R j = [[(k : Int), (j : Int) + 1]] := by simp [comAt, List.getElem?_eq_getElem h, hs]
theorem comAt_no {k : Nat} {R : List RowD} {j : Nat} (h : j < R.length) (hs : (R[j].st == 3) = false) : comAt k R j = [] := by simp [comAt, List.getElem?_eq_getElem h, hs]
theorem allTo_succ {T : List (List RowD)} {k : Nat} (h : k < T.length) : allTo T (k + 1) = allTo T k ++ comTo k T[k] T[k].length := by simp [allTo, List.range_succ, List.getElem?_eq_getElem h]
theorem allTo_zero (T : List (List RowD)) : allTo T 0 = [] := by simp [allTo]
theorem comAt_len (k : Nat) (R : List RowD) (i : Nat) : (comAt k R i).length ≤ 1 := by
  unfold comAt
  split
  · split <;> simp
  · simp
theorem comTo_len (k : Nat) (R : List RowD) (j : Nat) : (comTo k R j).length ≤ j := by
  induction j with
  | zero => simp [comTo]
  | succ j ih =>
    rw [comTo_succ, List.length_append]
    have := comAt_len k R j
    omega
theorem allTo_len {T : List (List RowD)} (hT : ∀ R ∈ T, R.length ≤ 6) (k : Nat) (hk : k ≤ T.length) : (allTo T k).length ≤ 6 * k := by
  induction k with
  | zero => simp [allTo]
  | succ k ih =>
    have h : k < T.length := by omega
    rw [allTo_succ h, List.length_append]
    have h1 := ih (by omega)
    have h2 := comTo_len k T[k] T[k].length
    have h3 := hT _ (List.getElem_mem h)
    omega
/-- What Committed tells. -/
def comR (n : Int) (T : List (List RowD)) : List (List Int) := if goodTab n T then allTo T T.length else []
theorem comR_no {n : Int} {T : List (List RowD)} (h : goodTab n T = false) : comR n T = [] := by unfold comR; rw [h]; rfl
theorem comR_yes {n : Int} {T : List (List RowD)} (h : goodTab n T = true) : comR n T = allTo T T.length := by unfold comR; rw [h]; rfl

theorem fresh_pair (w : World) (o : Obj) (a b : Int) (o' : Obj) : Fresh w.heap.size (((w.alloc o).alloc (.cells #[.int .i64 a, .int .i64 b] 3)).alloc o') (.slice (some ⟨w.heap.size + 1, 0, none⟩) 2 2) [a, b] :=
  (fresh_lit2 w o [a, b] 2 #[.int .i64 a, .int .i64 b] rfl rfl (by simp)).ext (Ext.alloc1 _ _)
theorem cell_alloc_three (w : World) (a b : Obj) (x : Value) (T : TypeId) : (((w.alloc a).alloc b).alloc (.cells #[x] T)).cell? ⟨w.heap.size + 1 + 1, 0, none⟩ = some x := by go_simp

set_option maxHeartbeats 4000000 in
set_option maxRecDepth 100000 in
theorem l4Committed_any (n : Int) (u : Value) (T : List (List RowD)) (w : World) (hu : Rowzz w u T) (hT : T.length ≤ 5) (hR6 : ∀ R ∈ T, R.length ≤ 6) :
    Calls Tryz.prog 133 #[.agg #[.int .i64 n, u]] w (NewIntss (allTo T T.length) w) := by
  obtain ⟨au, cu, rfl, hlu, _, hcu⟩ := hu
  unfold maxLen at hlu
  have xb : Ext w (w.alloc (.cells #[.int .i64 n, .slice au T.length cu] 32)) := Ext.alloc1 _ _
  have H6 := Lib.hid hR6
  clear hR6
  go_enter Tryz.func133, Tryz.ntmps133
  go_wp2
  go_loopw [3, 11] (fun o i wr => ∃ k : Nat, k ≤ T.length ∧ i = .int .i64 k ∧ FreshSS w.heap.size wr o (allTo T k) ∧ Ext w wr) (fun _ i _ => T.length - (intOf i).toNat)
  case atStart => exact ⟨0, Nat.zero_le _, rfl, by rw [allTo_zero]; exact FreshSS.nil _ _, xb⟩
  case round =>
    obtain ⟨k, hk, rfl, hF, hx⟩ := hrel
    by_cases hlt : k < T.length
    · obtain ⟨bu, ou, rfl, du⟩ := hcu (by omega)
      obtain ⟨x, hx1, ix⟩ := du k hlt
      have gu := hx.cell hx1
      obtain ⟨R, hR⟩ : ∃ R, R = T[k] := ⟨_, rfl⟩
      rw [← hR] at ix
      have hl6 : R.length ≤ 6 := by rw [hR]; exact H6.out _ (List.getElem_mem hlt)
      have hal := allTo_len H6.out k (by omega)
      obtain ⟨ax, cx, rfl, hlx, _, hcx⟩ := ix
      unfold maxLen at hlx
      have HR := Lib.hid hR
      have HF0 := Lib.hid hF
      have HAL := Lib.hid hal
      clear hcu du hx1 hR hF hal
      obtain ⟨wo, hwo⟩ : ∃ wo : World, wo = wr := ⟨_, rfl⟩
      subst hwo
      go_wp2
      go_loopw [3, 18] (fun o i wr => ∃ j : Nat, j ≤ R.length ∧ i = .int .i64 j ∧ FreshSS w.heap.size wr o (allTo T k ++ comTo k R j) ∧ Ext w wr) (fun _ i _ => R.length - (intOf i).toNat)
      case atStart => exact ⟨0, Nat.zero_le _, rfl, by rw [comTo_zero, List.append_nil]; exact HF0.out, hx⟩
      case round =>
        obtain ⟨j, hj, rfl, hG, hy⟩ := hrel
        by_cases hjt : j < R.length
        · obtain ⟨bx, ox, rfl, dx⟩ := hcx (by omega)
          obtain ⟨y, hy1, iy⟩ := dx j hjt
          obtain ⟨d, hd⟩ : ∃ d, d = R[j] := ⟨_, rfl⟩
          rw [← hd] at hy1 iy
          have gy := hy1.ext hy
          obtain ⟨ay, cy, rfl, _⟩ := iy.ext hy
          have hcl := comTo_len k R j
          have hll : (allTo T k ++ comTo k R j).length ≤ 1048576 := by rw [List.length_append]; have := HAL.out; omega
          have HLL := Lib.hid hll
          have HD := Lib.hid hd
          have HG := Lib.hid hG
          clear hcx dx hy1 iy hd hG hcl hll
          obtain ⟨wp, hwp⟩ : ∃ wp : World, wp = wr := ⟨_, rfl⟩
          subst hwp
          obtain ⟨g0, g1, g2, g3, g4, g5, g6, g7, g8, g9⟩ := gy
          cases hst : (d.st == 3) with
          | false =>
            have hno : comAt k R j = [] := comAt_no hjt (by rw [← HD.out]; exact hst)
            have HNO := Lib.hid hno
            clear hno
            go_wp2
            go_roundw
            case rel => exact ⟨j + 1, by omega, by go_num, by rw [comTo_succ, HNO.out, List.append_nil]; exact HG.out.ext (Ext.alloc1 _ _), hy.alloc _⟩
            case measure => simp [intOf]; omega
          | true =>
            have hyes : comAt k R j = [[(k : Int), (j : Int) + 1]] := comAt_yes hjt (by rw [← HD.out]; exact hst)
            have HYES := Lib.hid hyes
            clear hyes
            have HBB := Lib.hid hy.size
            go_wp2_with (at_builtin; refine wpList_pushSS rfl _ _ rfl w.heap.size _ (allTo T k ++ comTo k R j) [(k : Int), (j : Int) + 1] wp rfl HG.out (Ext.alloc3 _ _ _ _) _ (fresh_pair _ _ _ _ _) ⟨wp.heap.size + 1 + 1, 0, none⟩ 1 rfl (cell_alloc_three _ _ _ _ _) rfl HLL.out HBB.out ?_)
            intro v' w' f' k'
            have hz : Ext w w' := k' w (hy.trans (Ext.alloc3 _ _ _ _)) (Nat.le_refl _)
            have FF := Lib.hid f'
            clear f' k' g0 g1 g2 g3 g4 g5 g6 g7 g8 g9
            go_wp2
            go_roundw
            case rel => exact ⟨j + 1, by omega, by go_num, by rw [comTo_succ, HYES.out]; exact FF.out, hz⟩
            case measure => simp [intOf]; omega
        · obtain rfl : j = R.length := by omega
          have HG := Lib.hid hG
          clear hG
          go_wp2
          go_roundw
          case rel => exact ⟨k + 1, by omega, by go_num, by rw [allTo_succ hlt, ← HR.out]; exact HG.out, hy⟩
          case measure => simp [intOf]; omega
    · obtain rfl : k = T.length := by omega
      have HF := Lib.hid hF
      clear hF
      go_wp2
      go_ret
      exact ⟨_, rfl, HF.out, hx⟩

end Go.Proofs.YtcpmfcigciknlaaGreat
