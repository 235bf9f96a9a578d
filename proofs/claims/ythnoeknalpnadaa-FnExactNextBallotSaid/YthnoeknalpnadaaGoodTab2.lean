/- Contracts of the program's GoodTable. -/
import Derived.Test.YthnoeknalpnadaaGoodTab
namespace Go.Proofs.Ythnoeknalpnadaa
open Go.RowKit
set_option linter.unusedVariables false

set_option maxHeartbeats 2000000 in
theorem areGoodRows_any (n : Int) (u : Value) (R : List RowD) (w : World) (hu : Rowz w u R) (hs : bulkR R ≤ 1099511627776) (hg : isGrp n = true) :
    Calls Try.prog 153 #[.int .i64 n, u] w (BoolExt (goodList n R) w) := by
  obtain ⟨au, cu, rfl, hlu, _, hcu⟩ := hu
  unfold maxLen at hlu
  have HG := Lib.hid hg
  have HS := Lib.hid hs
  clear hg hs
  by_cases h6 : 6 < R.length
  · rw [goodList_long h6]
    clear hcu
    go_enter Try.func153, Try.ntmps153
    go_wp2
    go_ret
    exact ⟨rfl, Ext.refl _⟩
  · have h6' : R.length ≤ 6 := by omega
    rw [goodList_all h6']
    clear h6
    go_enter Try.func153, Try.ntmps153
    go_wp2
    go_loopw [12] (fun i wr => ∃ j : Nat, j ≤ R.length ∧ i = .int .i64 j ∧ Hid ((R.take j).all (goodRow n) = true) ∧ Ext w wr) (fun i _ => R.length - (intOf i).toNat)
    case atStart => exact ⟨0, Nat.zero_le _, rfl, Lib.hid (by simp), Ext.refl _⟩
    case round =>
      obtain ⟨j, hj, rfl, HT, hy⟩ := hrel
      by_cases hjt : j < R.length
      · obtain ⟨bx, ox, rfl, dx⟩ := hcu (by omega)
        obtain ⟨y, hy1, iy⟩ := dx j hjt
        obtain ⟨d, hd⟩ : ∃ d, d = R[j] := ⟨_, rfl⟩
        rw [← hd] at hy1 iy
        have hsz : d.l.length ≤ 1099511627776 := by rw [hd]; have := bulkR_row hjt; have := HS.out; omega
        have gy := hy1.ext hy
        have iy2 := iy.ext hy
        obtain ⟨ay, cy, rfl, _⟩ := id iy2
        have IY := Lib.hid iy2
        have HD := Lib.hid hd
        clear hcu dx hy1 iy iy2 hd
        obtain ⟨wp, hwp⟩ : ∃ wp : World, wp = wr := ⟨_, rfl⟩
        subst hwp
        obtain ⟨g0, g1, g2, g3, g4, g5, g6, g7, g8, g9⟩ := gy
        go_wp2_with fail
        cases hq : goodRow n d with
        | false =>
          have HQ := Lib.hid hq
          clear hq
          refine (isGoodRow_any n d _ _ (IY.out.ext (Ext.alloc1 _ _)) hsz HG.out).mono ?_
          rintro e w3 ⟨rfl, x3⟩
          have hz := (hy.trans (Ext.alloc1 _ _)).trans x3
          clear x3 g0 g1 g2 g3 g4 g5 g6 g7 g8 g9
          rw [HQ.out]
          go_wp2
          go_ret
          refine ⟨?_, hz⟩
          have h1 : R.all (goodRow n) = false := allx_false_at hjt _ (by rw [← HD.out]; exact HQ.out)
          rw [h1]; rfl
        | true =>
          have HQ := Lib.hid hq
          clear hq
          refine (isGoodRow_any n d _ _ (IY.out.ext (Ext.alloc1 _ _)) hsz HG.out).mono ?_
          rintro e w3 ⟨rfl, x3⟩
          have hz := (hy.trans (Ext.alloc1 _ _)).trans x3
          clear x3 g0 g1 g2 g3 g4 g5 g6 g7 g8 g9
          rw [HQ.out]
          go_wp2
          go_roundw
          case rel => exact ⟨j + 1, by omega, by go_num, Lib.hid (allx_take_succ hjt _ HT.out (by rw [← HD.out]; exact HQ.out)), hz⟩
          case measure => simp [intOf]; omega
      · obtain rfl : j = R.length := by omega
        go_wp2
        go_ret
        refine ⟨?_, hy⟩
        have hfull : R.all (goodRow n) = true := by have h := HT.out; rwa [List.take_length] at h
        rw [hfull]; rfl

set_option maxHeartbeats 4000000 in
theorem implGoodTable_any (n : Int) (u : Value) (T : List (List RowD)) (w : World) (hu : Rowzz w u T) (hs : bulkT T ≤ 1099511627776) :
    Calls Try.prog 96 #[.agg #[.int .i64 n, u]] w (BoolExt (goodTab n T) w) := by
  obtain ⟨au, cu, rfl, hlu, _, hcu⟩ := hu
  unfold maxLen at hlu
  have HSZ := Lib.hid hs
  clear hs
  cases hg : isGrp n with
  | false =>
    rw [goodTab_grp hg]
    have HG := Lib.hid hg
    clear hg hcu
    go_enter Try.func96, Try.ntmps96
    go_wp2_with fail
    refine (implIsGroup_any _ _).mono ?_
    rintro e w' ⟨rfl, rfl⟩
    rw [HG.out]
    go_wp2
    go_ret
    exact ⟨rfl, Ext.alloc1 _ _⟩
  | true =>
    have HG := Lib.hid hg
    by_cases hl : (T.length : Int) = n
    · rw [goodTab_all hg hl]
      have e0 : ((T.length : Int) != n) = false := by simp [hl]
      have HL := Lib.hid hl
      obtain ⟨wb, hwb⟩ : ∃ wb, wb = w.alloc (.cells #[.int .i64 n, .slice au T.length cu] 24) := ⟨_, rfl⟩
      have hb := attrAt_new w 24 n (.slice au T.length cu)
      rw [← hwb] at hb
      have xb : Ext w wb := by rw [hwb]; exact Ext.alloc1 _ _
      have HWB := Lib.hid hwb
      have HBB := Lib.hid hb
      clear hg hl hwb hb
      go_enter Try.func96, Try.ntmps96
      go_wp2_with fail
      refine (implIsGroup_any _ _).mono ?_
      rintro e w' ⟨rfl, rfl⟩
      rw [HG.out]
      go_wp2
      rw [← HWB.out]
      go_loopw [20] (fun i wr => ∃ k : Nat, k ≤ T.length ∧ i = .int .i64 k ∧ Hid ((T.take k).all (goodList n) = true) ∧ Ext wb wr) (fun i _ => T.length - (intOf i).toNat)
      case atStart => exact ⟨0, Nat.zero_le _, rfl, Lib.hid (by simp), Ext.refl _⟩
      case round =>
        obtain ⟨k, hk, rfl, HT, hx⟩ := hrel
        by_cases hlt : k < T.length
        · obtain ⟨bu, ou, rfl, du⟩ := hcu (by omega)
          obtain ⟨x, hx1, ix⟩ := du k hlt
          have gu := (xb.trans hx).cell hx1
          have gn := hx.cell HBB.out.1
          obtain ⟨R, hR⟩ : ∃ R, R = T[k] := ⟨_, rfl⟩
          rw [← hR] at ix
          have hsz : bulkR R ≤ 1099511627776 := by rw [hR]; have := bulkT_row hlt; have := HSZ.out; omega
          have IX := Lib.hid (ix.ext (xb.trans hx))
          have HR := Lib.hid hR
          clear hcu du hx1 ix hR
          obtain ⟨wo, hwo⟩ : ∃ wo : World, wo = wr := ⟨_, rfl⟩
          subst hwo
          go_wp2_with fail
          cases hq : goodList n R with
          | false =>
            have HQ := Lib.hid hq
            clear hq
            refine (areGoodRows_any n _ R _ IX.out hsz HG.out).mono ?_
            rintro e w3 ⟨rfl, x3⟩
            have hz := xb.trans (hx.trans x3)
            clear x3 gn gu
            rw [HQ.out]
            go_wp2
            go_ret
            refine ⟨?_, hz⟩
            have h2 : T.all (goodList n) = false := allx_false_at hlt _ (by rw [← HR.out]; exact HQ.out)
            rw [h2]; rfl
          | true =>
            have HQ := Lib.hid hq
            clear hq
            refine (areGoodRows_any n _ R _ IX.out hsz HG.out).mono ?_
            rintro e w3 ⟨rfl, x3⟩
            have hz := hx.trans x3
            clear x3 gn gu
            rw [HQ.out]
            go_wp2
            go_roundw
            case rel => exact ⟨k + 1, by omega, by go_num, Lib.hid (allx_take_succ hlt _ HT.out (by rw [← HR.out]; exact HQ.out)), hz⟩
            case measure => simp [intOf]; omega
        · obtain rfl : k = T.length := by omega
          go_wp2
          go_ret
          refine ⟨?_, xb.trans hx⟩
          have h2 : T.all (goodList n) = true := by have h := HT.out; rwa [List.take_length] at h
          rw [h2]; rfl
    · rw [goodTab_len hl]
      have e0 : ((T.length : Int) != n) = true := by simp [hl]
      clear hg hcu hl
      go_enter Try.func96, Try.ntmps96
      go_wp2_with fail
      refine (implIsGroup_any _ _).mono ?_
      rintro e w' ⟨rfl, rfl⟩
      rw [HG.out]
      go_wp2
      go_ret
      exact ⟨rfl, Ext.alloc1 _ _⟩

end Go.Proofs.Ythnoeknalpnadaa
