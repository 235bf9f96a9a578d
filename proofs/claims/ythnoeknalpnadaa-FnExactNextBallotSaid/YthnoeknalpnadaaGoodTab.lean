/- Contracts of GoodTable, of the model and of the program. -/
import Derived.Test.YthnoeknalpnadaaIsGoodRow
import Derived.Test.YthnoeknalpnadaaEqTab
namespace Go.Proofs.Ythnoeknalpnadaa
open Go.RowKit
set_option linter.unusedVariables false

theorem allx_take_succ {α : Type} {l : List α} {k : Nat} (h : k < l.length) (p : α → Bool) (ht : (l.take k).all p = true) (hp : p l[k] = true) : (l.take (k + 1)).all p = true := by
  rw [List.take_add_one, List.all_append, ht, List.getElem?_eq_getElem h]
  simpa using hp
theorem allx_false_at {α : Type} {l : List α} {k : Nat} (h : k < l.length) (p : α → Bool) (hp : p l[k] = false) : l.all p = false := by
  rw [List.all_eq_false]
  exact ⟨l[k], List.getElem_mem h, by rw [hp]; simp⟩

/-- Whether a list of rows, whether all lists of a table are good. -/
def goodList (n : Int) (R : List RowD) : Bool := decide (R.length ≤ 6) && R.all (goodRow n)
def goodTab (n : Int) (T : List (List RowD)) : Bool := (isGrp n && decide ((T.length : Int) = n)) && T.all (goodList n)
theorem goodTab_grp {n : Int} {T : List (List RowD)} (h : isGrp n = false) : goodTab n T = false := by unfold goodTab; rw [h]; rfl
theorem goodTab_len {n : Int} {T : List (List RowD)} (h : (T.length : Int) ≠ n) : goodTab n T = false := by unfold goodTab; rw [decide_eq_false h, Bool.and_false]; rfl
theorem goodTab_all {n : Int} {T : List (List RowD)} (h : isGrp n = true) (hl : (T.length : Int) = n) : goodTab n T = T.all (goodList n) := by unfold goodTab; rw [h, decide_eq_true hl]; rfl
theorem goodList_long {n : Int} {R : List RowD} (h : 6 < R.length) : goodList n R = false := by unfold goodList; rw [decide_eq_false (by omega)]; rfl
theorem goodList_all {n : Int} {R : List RowD} (h : R.length ≤ 6) : goodList n R = R.all (goodRow n) := by unfold goodList; rw [decide_eq_true h]; rfl
theorem goodList_row {n : Int} {R : List RowD} (h : R.all (goodRow n) = false) : goodList n R = false := by unfold goodList; rw [h, Bool.and_false]

set_option maxHeartbeats 4000000 in
theorem specGoodTable_any (n : Int) (u : Value) (T : List (List RowD)) (w : World) (hu : Rowzz w u T) :
    Calls Try.prog 93 #[.agg #[.int .i64 n, u]] w (BoolExt (goodTab n T) w) := by
  obtain ⟨au, cu, rfl, hlu, _, hcu⟩ := hu
  unfold maxLen at hlu
  cases hg : isGrp n with
  | false =>
    rw [goodTab_grp hg]
    have HG := Lib.hid hg
    clear hg hcu
    go_enter Try.func93, Try.ntmps93
    go_wp2_with fail
    refine (specIsGroup_any _ _).mono ?_
    rintro e w' ⟨rfl, rfl⟩
    rw [HG.out]
    go_wp2
    go_ret
    exact ⟨rfl, Ext.alloc1 _ _⟩
  | true =>
    have HG := Lib.hid hg
    by_cases hl : (T.length : Int) = n
    · rw [goodTab_all hg hl]
      have e0 : ((T.length : Int) != n) = false := by simp [hl]
      have HL := Lib.hid hl
      obtain ⟨wb, hwb⟩ : ∃ wb, wb = w.alloc (.cells #[.int .i64 n, .slice au T.length cu] 24) := ⟨_, rfl⟩
      have hb := attrAt_new w 24 n (.slice au T.length cu)
      rw [← hwb] at hb
      have xb : Ext w wb := by rw [hwb]; exact Ext.alloc1 _ _
      have HWB := Lib.hid hwb
      have HBB := Lib.hid hb
      clear hg hl hwb hb
      go_enter Try.func93, Try.ntmps93
      go_wp2_with fail
      refine (specIsGroup_any _ _).mono ?_
      rintro e w' ⟨rfl, rfl⟩
      rw [HG.out]
      go_wp2
      rw [← HWB.out]
      go_loopw [22] (fun i wr => ∃ k : Nat, k ≤ T.length ∧ i = .int .i64 k ∧ Hid ((T.take k).all (goodList n) = true) ∧ Ext wb wr) (fun i _ => T.length - (intOf i).toNat)
      case atStart => exact ⟨0, Nat.zero_le _, rfl, Lib.hid (by simp), Ext.refl _⟩
      case round =>
        obtain ⟨k, hk, rfl, HT, hx⟩ := hrel
        by_cases hlt : k < T.length
        · obtain ⟨bu, ou, rfl, du⟩ := hcu (by omega)
          obtain ⟨x, hx1, ix⟩ := du k hlt
          have gu := (xb.trans hx).cell hx1
          have ixr := ix.ext (xb.trans hx)
          obtain ⟨R, hR⟩ : ∃ R, R = T[k] := ⟨_, rfl⟩
          rw [← hR] at ixr
          obtain ⟨ax, cx, rfl, hlx, _, hcx⟩ := ixr
          unfold maxLen at hlx
          have HR := Lib.hid hR
          clear hcu du hx1 ix hR
          obtain ⟨wo, hwo⟩ : ∃ wo : World, wo = wr := ⟨_, rfl⟩
          subst hwo
          go_wp2
          go_loopw [28] (fun i wr => ∃ j : Nat, j ≤ R.length ∧ i = .int .i64 j ∧ Hid ((R.take j).all (goodRow n) = true) ∧ Ext wo wr) (fun i _ => R.length - (intOf i).toNat)
          case atStart => exact ⟨0, Nat.zero_le _, rfl, Lib.hid (by simp), Ext.refl _⟩
          case round =>
            obtain ⟨j, hj, rfl, HS, hy⟩ := hrel
            by_cases hjt : j < R.length
            · obtain ⟨bx, ox, rfl, dx⟩ := hcx (by omega)
              obtain ⟨y, hy1, iy⟩ := dx j hjt
              obtain ⟨d, hd⟩ : ∃ d, d = R[j] := ⟨_, rfl⟩
              rw [← hd] at hy1 iy
              have gy := hy1.ext hy
              have iy2 := iy.ext hy
              obtain ⟨ay, cy, rfl, _⟩ := id iy2
              have IY := Lib.hid iy2
              have HD := Lib.hid hd
              obtain ⟨wp, hwp⟩ : ∃ wp : World, wp = wr := ⟨_, rfl⟩
              subst hwp
              have gn := ((hx.trans hy).trans (Ext.alloc1 wp (.cells #[.int .i64 d.b, .int .i64 d.v, .int .i64 d.st, .int .i64 d.k, .int .i64 d.i, .int .i64 d.f, .int .i64 d.t, .int .i64 d.a, .int .i64 d.s, .slice ay d.l.length cy] 71))).cell HBB.out.1
              clear hcx dx hy1 iy iy2 hd
              obtain ⟨g0, g1, g2, g3, g4, g5, g6, g7, g8, g9⟩ := gy
              go_wp2_with fail
              cases hq : goodRow n d with
              | false =>
                have HQ := Lib.hid hq
                clear hq
                refine (l4Row_any n d _ _ (IY.out.ext (Ext.alloc1 _ _)) HG.out).mono ?_
                rintro e w3 ⟨rfl, x3⟩
                have hz := (xb.trans ((hx.trans hy).trans (Ext.alloc1 _ _))).trans x3
                clear x3 gn g0 g1 g2 g3 g4 g5 g6 g7 g8 g9
                rw [HQ.out]
                go_wp2
                go_ret
                refine ⟨?_, hz⟩
                have h1 : R.all (goodRow n) = false := allx_false_at hjt _ (by rw [← HD.out]; exact HQ.out)
                have h2 : T.all (goodList n) = false := allx_false_at hlt _ (by rw [← HR.out]; exact goodList_row h1)
                rw [h2]; rfl
              | true =>
                have HQ := Lib.hid hq
                clear hq
                refine (l4Row_any n d _ _ (IY.out.ext (Ext.alloc1 _ _)) HG.out).mono ?_
                rintro e w3 ⟨rfl, x3⟩
                have hz := (hy.trans (Ext.alloc1 _ _)).trans x3
                clear x3 gn g0 g1 g2 g3 g4 g5 g6 g7 g8 g9
                rw [HQ.out]
                go_wp2
                go_roundw
                case rel => exact ⟨j + 1, by omega, by go_num, Lib.hid (allx_take_succ hjt _ HS.out (by rw [← HD.out]; exact HQ.out)), hz⟩
                case measure => simp [intOf]; omega
            · obtain rfl : j = R.length := by omega
              have hfull : R.all (goodRow n) = true := by have h := HS.out; rwa [List.take_length] at h
              have HF := Lib.hid hfull
              clear hfull
              by_cases h6 : 6 < R.length
              · go_wp2
                go_ret
                refine ⟨?_, xb.trans (hx.trans hy)⟩
                have h2 : T.all (goodList n) = false := allx_false_at hlt _ (by rw [← HR.out]; exact goodList_long h6)
                rw [h2]; rfl
              · go_wp2
                go_roundw
                case rel => exact ⟨k + 1, by omega, by go_num, Lib.hid (allx_take_succ hlt _ HT.out (by rw [← HR.out, goodList_all (by omega)]; exact HF.out)), hx.trans hy⟩
                case measure => simp [intOf]; omega
        · obtain rfl : k = T.length := by omega
          go_wp2
          go_ret
          refine ⟨?_, xb.trans hx⟩
          have h2 : T.all (goodList n) = true := by have h := HT.out; rwa [List.take_length] at h
          rw [h2]; rfl
    · rw [goodTab_len hl]
      have e0 : ((T.length : Int) != n) = true := by simp [hl]
      clear hg hcu hl
      go_enter Try.func93, Try.ntmps93
      go_wp2_with fail
      refine (specIsGroup_any _ _).mono ?_
      rintro e w' ⟨rfl, rfl⟩
      rw [HG.out]
      go_wp2
      go_ret
      exact ⟨rfl, Ext.alloc1 _ _⟩

end Go.Proofs.Ythnoeknalpnadaa
