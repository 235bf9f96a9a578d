/- Texts of this proof, part i: words, plain facts, contracts. -/
import Derived.Test.YtbffkidkfannhaaMGoodReplicah
import Derived.Test.YtbffkidkfannhaaMGoodReplicab
import Derived.Test.YtbffkidkfannhaaMGoodReplicag
import Derived.Test.YtbffkidkfannhaaMGoodReplicac
import Derived.Test.YtbffkidkfannhaaMGoodReplicae
import Derived.WalkSpells

namespace Go.Proofs.Ytbffkidkfannhaa
open Go.RowKit
set_option linter.unusedVariables false

set_option maxHeartbeats 8000000 in
set_option maxRecDepth 100000 in
theorem l8Lead_ph3 (n me : Int) (d : LeadD) (u1 u2 u3 u4 : Value) (w : World) (hl : LeadL w d u1 u2 u3 u4) (hn : isGrp n = true) (hs : d.seen.all (toldB n) = true) (hp : d.ph = 3) (hc0 : Hid (instB n d.rp d.no = true)) (hc1 : Hid (inB d.bl 0 9999 = true)) (hc2 : Hid (riseB d.who 0 (n - 1) = true)) (hc3 : Hid (hasI d.who me = true)) (hc4 : Hid (goodD n d.s1 d.l1 = true)) (hc5 : Hid (goodD n d.s2 d.l2 = true)) :
    Calls Try.prog 29 #[.int .i64 n, .int .i64 me, .agg #[.int .i64 d.rp, .int .i64 d.no, .int .i64 d.bl, .int .i64 d.ph, .int .i64 d.k, .int .i64 d.i, .int .i64 d.f, .int .i64 d.t, .int .i64 d.a, .int .i64 d.s1, u1, .int .i64 d.s2, u2, .bool d.sm, u3, u4]] w (BoolExt (phaseL n d) w) := by
  obtain ⟨h3, h5⟩ : 3 ≤ n ∧ n ≤ 5 := by rcases isGrp_of hn with rfl | rfl <;> omega
  have HN := Lib.hid hn
  have HNO := Lib.hid hs
  have HPH := Lib.hid hp
  clear hn hs hp
  obtain ⟨wb, hwb⟩ : ∃ wb, wb = w.alloc (.cells #[.int .i64 d.rp, .int .i64 d.no, .int .i64 d.bl, .int .i64 d.ph, .int .i64 d.k, .int .i64 d.i, .int .i64 d.f, .int .i64 d.t, .int .i64 d.a, .int .i64 d.s1, u1, .int .i64 d.s2, u2, .bool d.sm, u3, u4] 69) := ⟨_, rfl⟩
  have x0 : Ext w wb := by rw [hwb]; exact Ext.alloc1 _ _
  have HA : Hid (BoxV wb w.heap.size (leadVs d u1 u2 u3 u4)) := Lib.hid (by rw [hwb]; exact lead_box w _ d u1 u2 u3 u4)
  have HL := Lib.hid hl
  have HX0 := Lib.hid x0
  have HX0w := Lib.hid (Ext.refl wb)
  have HW := Lib.hid hwb
  clear hwb x0 hl
  obtain ⟨av, cv, rfl, hlv, _, hcv⟩ := HL.out.i4
  unfold maxLen at hlv
  have HCV := Lib.hid hcv
  clear hcv
  go_enter Try.func29, Try.ntmps29
  have a0 := (HA.out.ext HX0w.out).cell 0 _ rfl
  have a1 := (HA.out.ext HX0w.out).cell 1 _ rfl
  have a2 := (HA.out.ext HX0w.out).cell 2 _ rfl
  have a3 := (HA.out.ext HX0w.out).cell 3 _ rfl
  have a4 := (HA.out.ext HX0w.out).cell 4 _ rfl
  have a5 := (HA.out.ext HX0w.out).cell 5 _ rfl
  have a6 := (HA.out.ext HX0w.out).cell 6 _ rfl
  have a7 := (HA.out.ext HX0w.out).cell 7 _ rfl
  have a8 := (HA.out.ext HX0w.out).cell 8 _ rfl
  have a9 := (HA.out.ext HX0w.out).cell 9 _ rfl
  have a10 := (HA.out.ext HX0w.out).cell 10 _ rfl
  have a11 := (HA.out.ext HX0w.out).cell 11 _ rfl
  have a12 := (HA.out.ext HX0w.out).cell 12 _ rfl
  have a13 := (HA.out.ext HX0w.out).cell 13 _ rfl
  have a14 := (HA.out.ext HX0w.out).cell 14 _ rfl
  have a15 := (HA.out.ext HX0w.out).cell 15 _ rfl
  go_wp2_with fail
  rw [← HW.out]
  refine (l3Inst_any n d.rp d.no _ h3 h5).mono ?_
  rintro e w1 ⟨rfl, rfl⟩
  rw [hc0.out]
  have HX1 := HX0
  have HX1w := HX0w
  clear a0 a1 a2 a3 a4 a5 a6 a7 a8 a9 a10 a11 a12 a13 a14 a15 HX0 HX0w
  have a0 := (HA.out.ext HX1w.out).cell 0 _ rfl
  have a1 := (HA.out.ext HX1w.out).cell 1 _ rfl
  have a2 := (HA.out.ext HX1w.out).cell 2 _ rfl
  have a3 := (HA.out.ext HX1w.out).cell 3 _ rfl
  have a4 := (HA.out.ext HX1w.out).cell 4 _ rfl
  have a5 := (HA.out.ext HX1w.out).cell 5 _ rfl
  have a6 := (HA.out.ext HX1w.out).cell 6 _ rfl
  have a7 := (HA.out.ext HX1w.out).cell 7 _ rfl
  have a8 := (HA.out.ext HX1w.out).cell 8 _ rfl
  have a9 := (HA.out.ext HX1w.out).cell 9 _ rfl
  have a10 := (HA.out.ext HX1w.out).cell 10 _ rfl
  have a11 := (HA.out.ext HX1w.out).cell 11 _ rfl
  have a12 := (HA.out.ext HX1w.out).cell 12 _ rfl
  have a13 := (HA.out.ext HX1w.out).cell 13 _ rfl
  have a14 := (HA.out.ext HX1w.out).cell 14 _ rfl
  have a15 := (HA.out.ext HX1w.out).cell 15 _ rfl
  go_wp2_with fail
  refine (l1In_any d.bl 0 9999 _).mono ?_
  rintro e w2 ⟨rfl, rfl⟩
  rw [hc1.out]
  have HX2 := HX1
  have HX2w := HX1w
  clear a0 a1 a2 a3 a4 a5 a6 a7 a8 a9 a10 a11 a12 a13 a14 a15 HX1 HX1w
  have a0 := (HA.out.ext HX2w.out).cell 0 _ rfl
  have a1 := (HA.out.ext HX2w.out).cell 1 _ rfl
  have a2 := (HA.out.ext HX2w.out).cell 2 _ rfl
  have a3 := (HA.out.ext HX2w.out).cell 3 _ rfl
  have a4 := (HA.out.ext HX2w.out).cell 4 _ rfl
  have a5 := (HA.out.ext HX2w.out).cell 5 _ rfl
  have a6 := (HA.out.ext HX2w.out).cell 6 _ rfl
  have a7 := (HA.out.ext HX2w.out).cell 7 _ rfl
  have a8 := (HA.out.ext HX2w.out).cell 8 _ rfl
  have a9 := (HA.out.ext HX2w.out).cell 9 _ rfl
  have a10 := (HA.out.ext HX2w.out).cell 10 _ rfl
  have a11 := (HA.out.ext HX2w.out).cell 11 _ rfl
  have a12 := (HA.out.ext HX2w.out).cell 12 _ rfl
  have a13 := (HA.out.ext HX2w.out).cell 13 _ rfl
  have a14 := (HA.out.ext HX2w.out).cell 14 _ rfl
  have a15 := (HA.out.ext HX2w.out).cell 15 _ rfl
  go_wp2_with fail
  refine (l1Rising_any u3 d.who 0 (n - 1) _ (HL.out.i3.ext HX2.out)).mono ?_
  rintro e w3 ⟨rfl, x3⟩
  rw [hc2.out]
  have HX3 := Lib.hid (HX2.out.trans x3)
  have HX3w := Lib.hid (HX2w.out.trans x3)
  clear x3
  clear a0 a1 a2 a3 a4 a5 a6 a7 a8 a9 a10 a11 a12 a13 a14 a15 HX2 HX2w
  have a0 := (HA.out.ext HX3w.out).cell 0 _ rfl
  have a1 := (HA.out.ext HX3w.out).cell 1 _ rfl
  have a2 := (HA.out.ext HX3w.out).cell 2 _ rfl
  have a3 := (HA.out.ext HX3w.out).cell 3 _ rfl
  have a4 := (HA.out.ext HX3w.out).cell 4 _ rfl
  have a5 := (HA.out.ext HX3w.out).cell 5 _ rfl
  have a6 := (HA.out.ext HX3w.out).cell 6 _ rfl
  have a7 := (HA.out.ext HX3w.out).cell 7 _ rfl
  have a8 := (HA.out.ext HX3w.out).cell 8 _ rfl
  have a9 := (HA.out.ext HX3w.out).cell 9 _ rfl
  have a10 := (HA.out.ext HX3w.out).cell 10 _ rfl
  have a11 := (HA.out.ext HX3w.out).cell 11 _ rfl
  have a12 := (HA.out.ext HX3w.out).cell 12 _ rfl
  have a13 := (HA.out.ext HX3w.out).cell 13 _ rfl
  have a14 := (HA.out.ext HX3w.out).cell 14 _ rfl
  have a15 := (HA.out.ext HX3w.out).cell 15 _ rfl
  go_wp2_with fail
  refine (l1Has_any u3 d.who me _ (HL.out.i3.ext HX3.out)).mono ?_
  rintro e w4 ⟨rfl, x4⟩
  rw [hc3.out]
  have HX4 := Lib.hid (HX3.out.trans x4)
  have HX4w := Lib.hid (HX3w.out.trans x4)
  clear x4
  clear a0 a1 a2 a3 a4 a5 a6 a7 a8 a9 a10 a11 a12 a13 a14 a15 HX3 HX3w
  have a0 := (HA.out.ext HX4w.out).cell 0 _ rfl
  have a1 := (HA.out.ext HX4w.out).cell 1 _ rfl
  have a2 := (HA.out.ext HX4w.out).cell 2 _ rfl
  have a3 := (HA.out.ext HX4w.out).cell 3 _ rfl
  have a4 := (HA.out.ext HX4w.out).cell 4 _ rfl
  have a5 := (HA.out.ext HX4w.out).cell 5 _ rfl
  have a6 := (HA.out.ext HX4w.out).cell 6 _ rfl
  have a7 := (HA.out.ext HX4w.out).cell 7 _ rfl
  have a8 := (HA.out.ext HX4w.out).cell 8 _ rfl
  have a9 := (HA.out.ext HX4w.out).cell 9 _ rfl
  have a10 := (HA.out.ext HX4w.out).cell 10 _ rfl
  have a11 := (HA.out.ext HX4w.out).cell 11 _ rfl
  have a12 := (HA.out.ext HX4w.out).cell 12 _ rfl
  have a13 := (HA.out.ext HX4w.out).cell 13 _ rfl
  have a14 := (HA.out.ext HX4w.out).cell 14 _ rfl
  have a15 := (HA.out.ext HX4w.out).cell 15 _ rfl
  go_wp2_with fail
  refine (l3Attr_any n d.s1 u1 d.l1 _ (HL.out.i1.ext HX4.out)).mono ?_
  rintro e w5 ⟨rfl, x5⟩
  rw [hc4.out]
  have HX5 := Lib.hid (HX4.out.trans x5)
  have HX5w := Lib.hid (HX4w.out.trans x5)
  clear x5
  clear a0 a1 a2 a3 a4 a5 a6 a7 a8 a9 a10 a11 a12 a13 a14 a15 HX4 HX4w
  have a0 := (HA.out.ext HX5w.out).cell 0 _ rfl
  have a1 := (HA.out.ext HX5w.out).cell 1 _ rfl
  have a2 := (HA.out.ext HX5w.out).cell 2 _ rfl
  have a3 := (HA.out.ext HX5w.out).cell 3 _ rfl
  have a4 := (HA.out.ext HX5w.out).cell 4 _ rfl
  have a5 := (HA.out.ext HX5w.out).cell 5 _ rfl
  have a6 := (HA.out.ext HX5w.out).cell 6 _ rfl
  have a7 := (HA.out.ext HX5w.out).cell 7 _ rfl
  have a8 := (HA.out.ext HX5w.out).cell 8 _ rfl
  have a9 := (HA.out.ext HX5w.out).cell 9 _ rfl
  have a10 := (HA.out.ext HX5w.out).cell 10 _ rfl
  have a11 := (HA.out.ext HX5w.out).cell 11 _ rfl
  have a12 := (HA.out.ext HX5w.out).cell 12 _ rfl
  have a13 := (HA.out.ext HX5w.out).cell 13 _ rfl
  have a14 := (HA.out.ext HX5w.out).cell 14 _ rfl
  have a15 := (HA.out.ext HX5w.out).cell 15 _ rfl
  go_wp2_with fail
  refine (l3Attr_any n d.s2 u2 d.l2 _ (HL.out.i2.ext HX5.out)).mono ?_
  rintro e w6 ⟨rfl, x6⟩
  rw [hc5.out]
  have HX6 := Lib.hid (HX5.out.trans x6)
  have HX6w := Lib.hid (HX5w.out.trans x6)
  clear x6
  clear a0 a1 a2 a3 a4 a5 a6 a7 a8 a9 a10 a11 a12 a13 a14 a15 HX5 HX5w
  have a15 := (HA.out.ext HX6w.out).cell 15 _ rfl
  go_wp2
  clear a15
  go_loopw [55] (fun i wr => ∃ k : Nat, k ≤ d.seen.length ∧ i = .int .i64 k ∧ Hid ((d.seen.take k).all (toldB n) = true) ∧ Hid (Ext w wr) ∧ Hid (Ext wb wr)) (fun i _ => d.seen.length - (intOf i).toNat)
  case atStart => exact ⟨0, Nat.zero_le _, rfl, Lib.hid (by simp), HX6, HX6w⟩
  case round =>
    obtain ⟨k, hk, rfl, HT, HX, HXW⟩ := hrel
    by_cases hlt : k < d.seen.length
    · obtain ⟨b, off, rfl, dv⟩ := HCV.out (by omega)
      obtain ⟨r, hr⟩ : ∃ r, r = d.seen[k] := ⟨_, rfl⟩
      obtain ⟨u, hu, iu⟩ := dv k hlt
      rw [← hr] at hu iu
      obtain ⟨au, cu, rfl, _, _, _⟩ := id iu
      have HR := Lib.hid hr
      have HLT := Lib.hid hlt
      obtain ⟨g0, g1, g2, g3, g4, g5, g6, g7, g8, g9⟩ := hu.ext HX.out
      obtain ⟨w2, hw2⟩ : ∃ w2, w2 = wr.alloc (.cells #[.int .i64 r.b, .int .i64 r.v, .int .i64 r.st, .int .i64 r.k, .int .i64 r.i, .int .i64 r.f, .int .i64 r.t, .int .i64 r.a, .int .i64 r.s, .slice au r.l.length cu] 57) := ⟨_, rfl⟩
      have x2 : Ext wr w2 := by rw [hw2]; exact Ext.alloc1 _ _
      have ST : Hid (w2.cell? ⟨wr.heap.size, 2, none⟩ = some (.int .i64 r.st)) := Lib.hid (by rw [hw2]; go_simp)
      have IU := Lib.hid ((iu.ext HX.out).ext x2)
      have HW2 := Lib.hid hw2
      have X2 := Lib.hid (HX.out.trans x2)
      have X2W := Lib.hid (HXW.out.trans x2)
      clear dv hr hu iu hw2 x2
      go_wp2_with fail
      rw [← HW2.out]
      refine (l4Row_any n r _ _ IU.out HN.out).mono ?_
      rintro e w3 ⟨rfl, x3⟩
      have X3 := Lib.hid (X2.out.trans x3)
      have X3W := Lib.hid (X2W.out.trans x3)
      have st := x3.cell ST.out
      clear x3 g0 g1 g2 g3 g4 g5 g6 g7 g8 g9 IU HW2 X2 ST
      cases hg : goodRow n r with
      | false =>
        have hno := told_no (n := n) HLT.out (by rw [← HR.out]; simp [toldB, hg])
        rw [HNO.out] at hno
        cases hno
      | true =>
        by_cases h3 : r.st = 3
        · have hno := told_no (n := n) HLT.out (by rw [← HR.out]; simp [toldB, h3])
          rw [HNO.out] at hno
          cases hno
        · have HT1 := Lib.hid (told_succ HLT.out HT.out (by rw [← HR.out]; simp [toldB, hg, h3]))
          have h3' : (r.st == 3) = false := by simpa using h3
          clear h3 hg
          go_wp2
          go_roundw
          case rel => exact ⟨k + 1, by omega, by go_num, HT1, X3, X3W⟩
          case measure => simp [intOf]; omega
    · obtain rfl : k = d.seen.length := by omega
      clear HT
      have hp := HPH.out
      have hP : Hid (phaseL n d = (sameC d.k d.i d.f d.t d.a 0 0 0 0 0 && (sameA d.s1 0 d.l1 (noneL n) && (sameA d.s2 0 d.l2 (noneL n) && (!d.sm && decide (d.seen.length = d.who.length)))))) := Lib.hid (by unfold phaseL; rw [if_neg (by omega), if_neg (by omega), if_pos hp])
      have a0 := (HA.out.ext HXW.out).cell 0 _ rfl
      have a1 := (HA.out.ext HXW.out).cell 1 _ rfl
      have a2 := (HA.out.ext HXW.out).cell 2 _ rfl
      have a3 := (HA.out.ext HXW.out).cell 3 _ rfl
      have a4 := (HA.out.ext HXW.out).cell 4 _ rfl
      have a5 := (HA.out.ext HXW.out).cell 5 _ rfl
      have a6 := (HA.out.ext HXW.out).cell 6 _ rfl
      have a7 := (HA.out.ext HXW.out).cell 7 _ rfl
      have a8 := (HA.out.ext HXW.out).cell 8 _ rfl
      have a9 := (HA.out.ext HXW.out).cell 9 _ rfl
      have a10 := (HA.out.ext HXW.out).cell 10 _ rfl
      have a11 := (HA.out.ext HXW.out).cell 11 _ rfl
      have a12 := (HA.out.ext HXW.out).cell 12 _ rfl
      have a13 := (HA.out.ext HXW.out).cell 13 _ rfl
      have a14 := (HA.out.ext HXW.out).cell 14 _ rfl
      have a15 := (HA.out.ext HXW.out).cell 15 _ rfl
      rw [hp] at a3
      clear hp
      go_wp2_with fail
      refine (l3None_any n _ HN.out).mono ?_
      rintro e w9 ⟨v, rfl, f9, x9⟩
      obtain ⟨vx, vc, rfl⟩ := f9.form
      have HX9 := Lib.hid (HX.out.trans x9)
      have HX9w := Lib.hid (HXW.out.trans x9)
      clear x9 a0 a1 a2 a3 a4 a5 a6 a7 a8 a9 a10 a11 a12 a13 a14 a15
      obtain ⟨wn, hwn⟩ : ∃ wn, wn = w9.alloc (.cells #[.int .i64 0, .slice vx (noneL n).length vc] 55) := ⟨_, rfl⟩
      have xn : Ext w9 wn := by rw [hwn]; exact Ext.alloc1 _ _
      have nn : AttrAt wn w9.heap.size 0 (.slice vx (noneL n).length vc) := by rw [hwn]; exact attrAt_new _ _ _ _
      have FN := Lib.hid (f9.ints.ext xn)
      have HXn := Lib.hid (HX9.out.trans xn)
      have HXnw := Lib.hid (HX9w.out.trans xn)
      have HWN := Lib.hid hwn
      have NN := Lib.hid nn
      clear xn nn hwn f9
      have hbw : w.heap.size < w9.heap.size := (HA.out.ext HX9w.out).lt
      have ec := fun W => eq_cmd d.k d.i d.f d.t d.a 0 0 0 0 0 W
      have a0 := (HA.out.ext HX9w.out).cell 0 _ rfl
      have a1 := (HA.out.ext HX9w.out).cell 1 _ rfl
      have a2 := (HA.out.ext HX9w.out).cell 2 _ rfl
      have a3 := (HA.out.ext HX9w.out).cell 3 _ rfl
      have a4 := (HA.out.ext HX9w.out).cell 4 _ rfl
      have a5 := (HA.out.ext HX9w.out).cell 5 _ rfl
      have a6 := (HA.out.ext HX9w.out).cell 6 _ rfl
      have a7 := (HA.out.ext HX9w.out).cell 7 _ rfl
      have a8 := (HA.out.ext HX9w.out).cell 8 _ rfl
      have a9 := (HA.out.ext HX9w.out).cell 9 _ rfl
      have a10 := (HA.out.ext HX9w.out).cell 10 _ rfl
      have a11 := (HA.out.ext HX9w.out).cell 11 _ rfl
      have a12 := (HA.out.ext HX9w.out).cell 12 _ rfl
      have a13 := (HA.out.ext HX9w.out).cell 13 _ rfl
      have a14 := (HA.out.ext HX9w.out).cell 14 _ rfl
      have a15 := (HA.out.ext HX9w.out).cell 15 _ rfl
      cases hc : sameC d.k d.i d.f d.t d.a 0 0 0 0 0 with
      | false =>
        rw [hc] at ec
        go_wp2
        go_ret
        exact ⟨by rw [hP.out, hc]; rfl, by rw [← HWN.out]; exact HXn.out⟩
      | true =>
        rw [hc] at ec
        go_wp2_with fail
        rw [← HWN.out]
        refine (specSame_any d.s1 0 u1 _ d.l1 (noneL n) _ (HL.out.i1.ext HXn.out) FN.out).mono ?_
        rintro e w10 ⟨rfl, x10⟩
        have HX10 := Lib.hid (HXn.out.trans x10)
        have HX10w := Lib.hid (HXnw.out.trans x10)
        have NN10 := Lib.hid (NN.out.ext x10)
        have FN10 := Lib.hid (FN.out.ext x10)
        clear x10 a0 a1 a2 a3 a4 a5 a6 a7 a8 a9 a10 a11 a12 a13 a14 a15
        obtain ⟨nn0, nn1⟩ := NN10.out
        have a0 := (HA.out.ext HX10w.out).cell 0 _ rfl
        have a1 := (HA.out.ext HX10w.out).cell 1 _ rfl
        have a2 := (HA.out.ext HX10w.out).cell 2 _ rfl
        have a3 := (HA.out.ext HX10w.out).cell 3 _ rfl
        have a4 := (HA.out.ext HX10w.out).cell 4 _ rfl
        have a5 := (HA.out.ext HX10w.out).cell 5 _ rfl
        have a6 := (HA.out.ext HX10w.out).cell 6 _ rfl
        have a7 := (HA.out.ext HX10w.out).cell 7 _ rfl
        have a8 := (HA.out.ext HX10w.out).cell 8 _ rfl
        have a9 := (HA.out.ext HX10w.out).cell 9 _ rfl
        have a10 := (HA.out.ext HX10w.out).cell 10 _ rfl
        have a11 := (HA.out.ext HX10w.out).cell 11 _ rfl
        have a12 := (HA.out.ext HX10w.out).cell 12 _ rfl
        have a13 := (HA.out.ext HX10w.out).cell 13 _ rfl
        have a14 := (HA.out.ext HX10w.out).cell 14 _ rfl
        have a15 := (HA.out.ext HX10w.out).cell 15 _ rfl
        cases h1 : sameA d.s1 0 d.l1 (noneL n) with
        | false =>
          go_wp2
          go_ret
          exact ⟨by rw [hP.out, hc, h1]; rfl, HX10.out⟩
        | true =>
          go_wp2_with fail
          refine (specSame_any d.s2 0 u2 _ d.l2 (noneL n) _ (HL.out.i2.ext HX10.out) FN10.out).mono ?_
          rintro e w11 ⟨rfl, x11⟩
          have HX11 := Lib.hid (HX10.out.trans x11)
          have HX11w := Lib.hid (HX10w.out.trans x11)
          clear x11 nn0 nn1 a0 a1 a2 a3 a4 a5 a6 a7 a8 a9 a10 a11 a12 a13 a14 a15
          have a0 := (HA.out.ext HX11w.out).cell 0 _ rfl
          have a1 := (HA.out.ext HX11w.out).cell 1 _ rfl
          have a2 := (HA.out.ext HX11w.out).cell 2 _ rfl
          have a3 := (HA.out.ext HX11w.out).cell 3 _ rfl
          have a4 := (HA.out.ext HX11w.out).cell 4 _ rfl
          have a5 := (HA.out.ext HX11w.out).cell 5 _ rfl
          have a6 := (HA.out.ext HX11w.out).cell 6 _ rfl
          have a7 := (HA.out.ext HX11w.out).cell 7 _ rfl
          have a8 := (HA.out.ext HX11w.out).cell 8 _ rfl
          have a9 := (HA.out.ext HX11w.out).cell 9 _ rfl
          have a10 := (HA.out.ext HX11w.out).cell 10 _ rfl
          have a11 := (HA.out.ext HX11w.out).cell 11 _ rfl
          have a12 := (HA.out.ext HX11w.out).cell 12 _ rfl
          have a13 := (HA.out.ext HX11w.out).cell 13 _ rfl
          have a14 := (HA.out.ext HX11w.out).cell 14 _ rfl
          have a15 := (HA.out.ext HX11w.out).cell 15 _ rfl
          cases h2 : sameA d.s2 0 d.l2 (noneL n) with
          | false =>
            go_wp2
            go_ret
            exact ⟨by rw [hP.out, hc, h1, h2]; rfl, HX11.out⟩
          | true =>
            cases hm : d.sm with
            | true =>
              rw [hm] at a13
              go_wp2
              go_ret
              exact ⟨by rw [hP.out, hc, h1, h2, hm]; rfl, HX11.out⟩
            | false =>
              rw [hm] at a13
              obtain ⟨aw, cw, hu3, _⟩ := HL.out.i3
              rw [hu3] at a14
              by_cases h0 : d.seen.length = d.who.length
              · have h0' : ((d.seen.length : Int) == (d.who.length : Int)) = true := by simp [h0]
                go_wp2
                go_ret
                exact ⟨by rw [hP.out, hc, h1, h2, hm, decide_eq_true h0]; rfl, HX11.out⟩
              · have h0' : ((d.seen.length : Int) == (d.who.length : Int)) = false := by simp; omega
                go_wp2
                go_ret
                exact ⟨by rw [hP.out, hc, h1, h2, hm, decide_eq_false h0]; rfl, HX11.out⟩
/-- What the model's test of a lead tells. -/
def leadB (n me : Int) (d : LeadD) : Bool := headL n me d && (d.seen.all (toldB n) && phaseL n d)
theorem l8Lead_any (n me : Int) (d : LeadD) (u1 u2 u3 u4 : Value) (w : World) (hl : LeadL w d u1 u2 u3 u4) (hn : isGrp n = true) :
    Calls Try.prog 29 #[.int .i64 n, .int .i64 me, .agg #[.int .i64 d.rp, .int .i64 d.no, .int .i64 d.bl, .int .i64 d.ph, .int .i64 d.k, .int .i64 d.i, .int .i64 d.f, .int .i64 d.t, .int .i64 d.a, .int .i64 d.s1, u1, .int .i64 d.s2, u2, .bool d.sm, u3, u4]] w (BoolExt (leadB n me d) w) := by
  obtain ⟨h3, h5⟩ : 3 ≤ n ∧ n ≤ 5 := by rcases isGrp_of hn with rfl | rfl <;> omega
  unfold leadB
  cases hh : headL n me d with
  | false => exact l8Lead_no n me d u1 u2 u3 u4 w hl h3 h5 hh
  | true =>
    have hd := hh
    simp only [headL, Bool.and_eq_true] at hd
    obtain ⟨c0, c1, c2, c3, c4, c5⟩ := hd
    cases hs : d.seen.all (toldB n) with
    | false => exact l8Lead_seen n me d u1 u2 u3 u4 w hl hn hs (Lib.hid c0) (Lib.hid c1) (Lib.hid c2) (Lib.hid c3) (Lib.hid c4) (Lib.hid c5)
    | true =>
      show Calls _ _ _ _ (BoolExt (phaseL n d) w)
      by_cases p1 : d.ph = 1
      · exact l8Lead_ph1 n me d u1 u2 u3 u4 w hl hn hs p1 (Lib.hid c0) (Lib.hid c1) (Lib.hid c2) (Lib.hid c3) (Lib.hid c4) (Lib.hid c5)
      · by_cases p2 : d.ph = 2
        · exact l8Lead_ph2 n me d u1 u2 u3 u4 w hl hn hs p2 (Lib.hid c0) (Lib.hid c1) (Lib.hid c2) (Lib.hid c3) (Lib.hid c4) (Lib.hid c5)
        · by_cases p3 : d.ph = 3
          · exact l8Lead_ph3 n me d u1 u2 u3 u4 w hl hn hs p3 (Lib.hid c0) (Lib.hid c1) (Lib.hid c2) (Lib.hid c3) (Lib.hid c4) (Lib.hid c5)
          · exact l8Lead_ph0 n me d u1 u2 u3 u4 w hl hn hs ⟨p1, p2, p3⟩ (Lib.hid c0) (Lib.hid c1) (Lib.hid c2) (Lib.hid c3) (Lib.hid c4) (Lib.hid c5)
end Go.Proofs.Ytbffkidkfannhaa

namespace Go.Proofs.Ytbffkidkfannhaa
open Go.RowKit
set_option linter.unusedVariables false

set_option maxHeartbeats 2000000 in
theorem areGoodRows_any (n : Int) (u : Value) (R : List RowD) (w : World) (hu : Rowz w u R) (hs : bulkR R ≤ 1099511627776) (hg : isGrp n = true) :
    Calls Try.prog 68 #[.int .i64 n, u] w (BoolExt (goodList n R) w) := by
  obtain ⟨au, cu, rfl, hlu, _, hcu⟩ := hu
  unfold maxLen at hlu
  have HG := Lib.hid hg
  have HS := Lib.hid hs
  clear hg hs
  by_cases h6 : 6 < R.length
  · rw [goodList_long h6]
    clear hcu
    go_enter Try.func68, Try.ntmps68
    go_wp2
    go_ret
    exact ⟨rfl, Ext.refl _⟩
  · have h6' : R.length ≤ 6 := by omega
    rw [goodList_all h6']
    clear h6
    go_enter Try.func68, Try.ntmps68
    go_wp2
    go_loopw [12] (fun i wr => ∃ j : Nat, j ≤ R.length ∧ i = .int .i64 j ∧ Hid ((R.take j).all (goodRow n) = true) ∧ Ext w wr) (fun i _ => R.length - (intOf i).toNat)
    case atStart => exact ⟨0, Nat.zero_le _, rfl, Lib.hid (by simp), Ext.refl _⟩
    case round =>
      obtain ⟨j, hj, rfl, HT, hy⟩ := hrel
      by_cases hjt : j < R.length
      · obtain ⟨bx, ox, rfl, dx⟩ := hcu (by omega)
        obtain ⟨y, hy1, iy⟩ := dx j hjt
        obtain ⟨d, hd⟩ : ∃ d, d = R[j] := ⟨_, rfl⟩
        rw [← hd] at hy1 iy
        have hsz : d.l.length ≤ 1099511627776 := by rw [hd]; have := bulkR_row hjt; have := HS.out; omega
        have gy := hy1.ext hy
        have iy2 := iy.ext hy
        obtain ⟨ay, cy, rfl, _⟩ := id iy2
        have IY := Lib.hid iy2
        have HD := Lib.hid hd
        clear hcu dx hy1 iy iy2 hd
        obtain ⟨wp, hwp⟩ : ∃ wp : World, wp = wr := ⟨_, rfl⟩
        subst hwp
        obtain ⟨g0, g1, g2, g3, g4, g5, g6, g7, g8, g9⟩ := gy
        go_wp2_with fail
        cases hq : goodRow n d with
        | false =>
          have HQ := Lib.hid hq
          clear hq
          refine (isGoodRow_any n d _ _ (IY.out.ext (Ext.alloc1 _ _)) hsz HG.out).mono ?_
          rintro e w3 ⟨rfl, x3⟩
          have hz := (hy.trans (Ext.alloc1 _ _)).trans x3
          clear x3 g0 g1 g2 g3 g4 g5 g6 g7 g8 g9
          rw [HQ.out]
          go_wp2
          go_ret
          refine ⟨?_, hz⟩
          have h1 : R.all (goodRow n) = false := allx_false_at hjt _ (by rw [← HD.out]; exact HQ.out)
          rw [h1]; rfl
        | true =>
          have HQ := Lib.hid hq
          clear hq
          refine (isGoodRow_any n d _ _ (IY.out.ext (Ext.alloc1 _ _)) hsz HG.out).mono ?_
          rintro e w3 ⟨rfl, x3⟩
          have hz := (hy.trans (Ext.alloc1 _ _)).trans x3
          clear x3 g0 g1 g2 g3 g4 g5 g6 g7 g8 g9
          rw [HQ.out]
          go_wp2
          go_roundw
          case rel => exact ⟨j + 1, by omega, by go_num, Lib.hid (allx_take_succ hjt _ HT.out (by rw [← HD.out]; exact HQ.out)), hz⟩
          case measure => simp [intOf]; omega
      · obtain rfl : j = R.length := by omega
        go_wp2
        go_ret
        refine ⟨?_, hy⟩
        have hfull : R.all (goodRow n) = true := by have h := HT.out; rwa [List.take_length] at h
        rw [hfull]; rfl

set_option maxHeartbeats 4000000 in
theorem implGoodTable_any (n : Int) (u : Value) (T : List (List RowD)) (w : World) (hu : Rowzz w u T) (hs : bulkT T ≤ 1099511627776) :
    Calls Try.prog 31 #[.agg #[.int .i64 n, u]] w (BoolExt (goodTab n T) w) := by
  obtain ⟨au, cu, rfl, hlu, _, hcu⟩ := hu
  unfold maxLen at hlu
  have HSZ := Lib.hid hs
  clear hs
  cases hg : isGrp n with
  | false =>
    rw [goodTab_grp hg]
    have HG := Lib.hid hg
    clear hg hcu
    go_enter Try.func31, Try.ntmps31
    go_wp2_with fail
    refine (implIsGroup_any _ _).mono ?_
    rintro e w' ⟨rfl, rfl⟩
    rw [HG.out]
    go_wp2
    go_ret
    exact ⟨rfl, Ext.alloc1 _ _⟩
  | true =>
    have HG := Lib.hid hg
    by_cases hl : (T.length : Int) = n
    · rw [goodTab_all hg hl]
      have e0 : ((T.length : Int) != n) = false := by simp [hl]
      have HL := Lib.hid hl
      obtain ⟨wb, hwb⟩ : ∃ wb, wb = w.alloc (.cells #[.int .i64 n, .slice au T.length cu] 32) := ⟨_, rfl⟩
      have hb := attrAt_new w 32 n (.slice au T.length cu)
      rw [← hwb] at hb
      have xb : Ext w wb := by rw [hwb]; exact Ext.alloc1 _ _
      have HWB := Lib.hid hwb
      have HBB := Lib.hid hb
      clear hg hl hwb hb
      go_enter Try.func31, Try.ntmps31
      go_wp2_with fail
      refine (implIsGroup_any _ _).mono ?_
      rintro e w' ⟨rfl, rfl⟩
      rw [HG.out]
      go_wp2
      rw [← HWB.out]
      go_loopw [20] (fun i wr => ∃ k : Nat, k ≤ T.length ∧ i = .int .i64 k ∧ Hid ((T.take k).all (goodList n) = true) ∧ Ext wb wr) (fun i _ => T.length - (intOf i).toNat)
      case atStart => exact ⟨0, Nat.zero_le _, rfl, Lib.hid (by simp), Ext.refl _⟩
      case round =>
        obtain ⟨k, hk, rfl, HT, hx⟩ := hrel
        by_cases hlt : k < T.length
        · obtain ⟨bu, ou, rfl, du⟩ := hcu (by omega)
          obtain ⟨x, hx1, ix⟩ := du k hlt
          have gu := (xb.trans hx).cell hx1
          have gn := hx.cell HBB.out.1
          obtain ⟨R, hR⟩ : ∃ R, R = T[k] := ⟨_, rfl⟩
          rw [← hR] at ix
          have hsz : bulkR R ≤ 1099511627776 := by rw [hR]; have := bulkT_row hlt; have := HSZ.out; omega
          have IX := Lib.hid (ix.ext (xb.trans hx))
          have HR := Lib.hid hR
          clear hcu du hx1 ix hR
          obtain ⟨wo, hwo⟩ : ∃ wo : World, wo = wr := ⟨_, rfl⟩
          subst hwo
          go_wp2_with fail
          cases hq : goodList n R with
          | false =>
            have HQ := Lib.hid hq
            clear hq
            refine (areGoodRows_any n _ R _ IX.out hsz HG.out).mono ?_
            rintro e w3 ⟨rfl, x3⟩
            have hz := xb.trans (hx.trans x3)
            clear x3 gn gu
            rw [HQ.out]
            go_wp2
            go_ret
            refine ⟨?_, hz⟩
            have h2 : T.all (goodList n) = false := allx_false_at hlt _ (by rw [← HR.out]; exact HQ.out)
            rw [h2]; rfl
          | true =>
            have HQ := Lib.hid hq
            clear hq
            refine (areGoodRows_any n _ R _ IX.out hsz HG.out).mono ?_
            rintro e w3 ⟨rfl, x3⟩
            have hz := hx.trans x3
            clear x3 gn gu
            rw [HQ.out]
            go_wp2
            go_roundw
            case rel => exact ⟨k + 1, by omega, by go_num, Lib.hid (allx_take_succ hlt _ HT.out (by rw [← HR.out]; exact HQ.out)), hz⟩
            case measure => simp [intOf]; omega
        · obtain rfl : k = T.length := by omega
          go_wp2
          go_ret
          refine ⟨?_, xb.trans hx⟩
          have h2 : T.all (goodList n) = true := by have h := HT.out; rwa [List.take_length] at h
          rw [h2]; rfl
    · rw [goodTab_len hl]
      have e0 : ((T.length : Int) != n) = true := by simp [hl]
      clear hg hcu hl
      go_enter Try.func31, Try.ntmps31
      go_wp2_with fail
      refine (implIsGroup_any _ _).mono ?_
      rintro e w' ⟨rfl, rfl⟩
      rw [HG.out]
      go_wp2
      go_ret
      exact ⟨rfl, Ext.alloc1 _ _⟩

end Go.Proofs.Ytbffkidkfannhaa

namespace Go.Proofs.Ytbffkidkfannhaa
open Go.RowKit
set_option linter.unusedVariables false

/-- The number ahead of place k, -1 ahead of the first. -/
def lastI (l : List Int) (k : Nat) : Int := match k with | 0 => -1 | j + 1 => l[j]?.getD 0
theorem rise_low {l : List Int} {k : Nat} {hi : Int} (hk : k < l.length) (h : l[k]?.getD 0 ≤ lastI l k) : riseB l 0 hi = false := by
  rw [List.getElem?_eq_getElem hk, Option.getD_some] at h
  cases k with
  | zero =>
    refine riseB_out hk ?_
    have h : l[0] ≤ -1 := h
    cases hq : inB l[0] 0 hi with
    | false => rfl
    | true => have := hq; unfold inB at this; simp at this; omega
  | succ j =>
    have h : l[j + 1] ≤ l[j]?.getD 0 := h
    rw [List.getElem?_eq_getElem (show j < l.length by omega), Option.getD_some] at h
    exact riseB_not hk (by omega)
theorem rise_more {l : List Int} {k : Nat} {hi : Int} (hk : k < l.length) (h : ¬ l[k]?.getD 0 ≤ lastI l k) (hr : Rises (l.take k)) : Rises (l.take (k + 1)) := by
  rw [List.getElem?_eq_getElem hk, Option.getD_some] at h
  refine rises_take_succ hk hr (fun h0 => ?_)
  cases k with
  | zero => omega
  | succ j =>
    have h : ¬ l[j + 1] ≤ l[j]?.getD 0 := h
    rw [List.getElem?_eq_getElem (show j < l.length by omega), Option.getD_some] at h
    show l[j + 1 - 1] < l[j + 1]
    have e : j + 1 - 1 = j := rfl
    simp only [e]
    omega

set_option maxHeartbeats 2000000 in
theorem areRisers_any (n : Int) (v : Value) (l : List Int) (w : World) (hv : Ints w v l) (hn : isGrp n = true) :
    Calls Try.prog 98 #[.int .i64 n, v] w (BoolExt (riseB l 0 (n - 1)) w) := by
  have HV := Lib.hid hv
  obtain ⟨av, cv, rfl, hlv, _, hcv⟩ := hv
  unfold maxLen at hlv
  have HN := Lib.hid hn
  have HCV := Lib.hid hcv
  clear hcv hn
  go_enter Try.func98, Try.ntmps98
  go_wp2
  go_loopw [5, 10] (fun s i wr => ∃ k : Nat, k ≤ l.length ∧ i = .int .i64 k ∧ s = .int .i64 (lastI l k) ∧ Hid (Rises (l.take k) ∧ (l.take k).all (fun x => inB x 0 (n - 1)) = true) ∧ wr = w) (fun _ i _ => l.length - (intOf i).toNat)
  case atStart => exact ⟨0, Nat.zero_le _, rfl, rfl, Lib.hid ⟨by simp [Rises], by simp⟩, rfl⟩
  case round =>
    obtain ⟨k, hk, rfl, rfl, HT, rfl⟩ := hrel
    by_cases hlt : k < l.length
    · obtain ⟨bv, ov, rfl, dv⟩ := HCV.out (by omega)
      have gv := dv k hlt
      obtain ⟨x, hx⟩ : ∃ x, x = l[k]?.getD 0 := ⟨_, rfl⟩
      obtain ⟨m, hm⟩ : ∃ m, m = lastI l k := ⟨_, rfl⟩
      rw [← hx] at gv
      rw [← hm]
      have HLT := Lib.hid hlt
      have HXX := Lib.hid hx
      have HM := Lib.hid hm
      clear dv hx hm
      by_cases h1 : x ≤ m
      · have HO : Hid (riseB l 0 (n - 1) = false) := Lib.hid (rise_low HLT.out (by rw [← HXX.out, ← HM.out]; exact h1))
        go_wp2
        go_ret
        exact ⟨by rw [HO.out]; rfl, Ext.refl _⟩
      · have HR := Lib.hid (rise_more (hi := n - 1) HLT.out (by rw [← HXX.out, ← HM.out]; exact h1) HT.out.1)
        go_wp2_with fail
        refine (isReplica_any n x _).mono ?_
        rintro e w1 ⟨rfl, rfl⟩
        have hrep : repB n x = inB x 0 (n - 1) := by unfold repB; rw [HN.out, Bool.true_and]
        rw [hrep]
        clear hrep
        cases hb : inB x 0 (n - 1) with
        | false =>
          have HO : Hid (riseB l 0 (n - 1) = false) := Lib.hid (riseB_out HLT.out (by rw [HXX.out, List.getElem?_eq_getElem HLT.out, Option.getD_some] at hb; exact hb))
          clear hb
          go_wp2
          go_ret
          exact ⟨by rw [HO.out]; rfl, Ext.refl _⟩
        | true =>
          have HA : Hid ((l.take (k + 1)).all (fun x => inB x 0 (n - 1)) = true) := Lib.hid (allx_take_succ HLT.out _ HT.out.2 (by rw [HXX.out, List.getElem?_eq_getElem HLT.out, Option.getD_some] at hb; exact hb))
          have HS : Hid (x = lastI l (k + 1)) := Lib.hid HXX.out
          clear hb
          go_wp2
          go_roundw
          case rel => exact ⟨k + 1, by have := HLT.out; omega, by go_num, by rw [HS.out], Lib.hid ⟨HR.out, HA.out⟩, by trivial⟩
          case measure => simp [intOf]; have := HLT.out; omega
    · obtain rfl : k = l.length := by omega
      have HR : Hid (riseB l 0 (n - 1) = true) := Lib.hid (riseB_all HT.out.1 HT.out.2)
      go_wp2
      go_ret
      exact ⟨by rw [HR.out]; rfl, Ext.refl _⟩
end Go.Proofs.Ytbffkidkfannhaa

namespace Go.Proofs.Ytbffkidkfannhaa
open Go.RowKit
set_option linter.unusedVariables false

/-- A number comes back: from 0 on just where x is met. -/
def IndexOf (l : List Int) (x : Int) (w : World) (e : Ending) (w' : World) : Prop := ∃ n : Int, e = .returned (.int .i64 n) ∧ decide (0 ≤ n) = hasI l x ∧ Ext w w'

set_option maxHeartbeats 800000 in
theorem index_any (v : Value) (l : List Int) (x : Int) (w : World) (hv : Ints w v l) : Calls Try.prog 107 #[v, .int .i64 x] w (IndexOf l x w) := by
  obtain ⟨av, cv, rfl, hlv, _, hcv⟩ := hv
  unfold maxLen at hlv
  have DV := Lib.hid hcv
  clear hcv
  go_enter Try.func107, Try.ntmps107
  go_wp2
  go_loopw [5, 8] (fun _ i wr => ∃ k : Nat, k ≤ l.length ∧ i = .int .i64 k ∧ Hid ((l.take k).any (fun y => y == x) = false) ∧ Ext w wr) (fun _ i _ => l.length - (intOf i).toNat)
  case atStart => exact ⟨0, Nat.zero_le _, rfl, Lib.hid (by simp), Ext.refl _⟩
  case round =>
    obtain ⟨k, hk, rfl, hA, hx⟩ := hrel
    by_cases hlt : k < l.length
    · obtain ⟨bv, ov, rfl, dv⟩ := DV.out (by omega)
      have gv := hx.cell (dv k hlt)
      have hst := any_take_succ (p := fun y => y == x) hlt hA.out
      have htr := any_true_at (p := fun y => y == x) hlt
      rw [List.getElem?_eq_getElem hlt, Option.getD_some] at gv hst htr
      obtain ⟨n, hn⟩ : ∃ n, n = l[k] := ⟨_, rfl⟩
      rw [← hn] at gv hst htr
      have HST := Lib.hid hst
      have HTR := Lib.hid htr
      clear hst htr hn dv
      by_cases e : x = n
      · have e1 : (x == n) = true := by simp [e]
        have HT : Hid (hasI l x = true) := Lib.hid (HTR.out (by simp [e]))
        clear e
        go_wp2
        go_ret
        exact ⟨(k : Int), rfl, by rw [HT.out]; simp, hx⟩
      · have e1 : (x == n) = false := by simp [e]
        have HT : Hid ((l.take (k + 1)).any (fun y => y == x) = false) := Lib.hid (HST.out (by simp; omega))
        clear e
        go_wp2
        go_roundw
        case rel => exact ⟨k + 1, by omega, by go_num, HT, hx⟩
        case measure => simp [intOf]; omega
    · obtain rfl : k = l.length := by omega
      have HT : Hid (hasI l x = false) := Lib.hid (by have := hA.out; rw [List.take_length] at this; exact this)
      go_wp2
      go_ret
      exact ⟨-1, rfl, by rw [HT.out]; decide, hx⟩

set_option maxHeartbeats 800000 in
theorem contains_any (v : Value) (l : List Int) (x : Int) (w : World) (hv : Ints w v l) : Calls Try.prog 99 #[v, .int .i64 x] w (BoolExt (hasI l x) w) := by
  have HV := Lib.hid hv
  obtain ⟨av, cv, rfl, hlv, _, _⟩ := hv
  go_enter Try.func99, Try.ntmps99
  go_wp2_with fail
  refine (index_any _ l x _ HV.out).mono ?_
  rintro e w1 ⟨n, rfl, hn, x1⟩
  have HN := Lib.hid hn
  clear hn
  go_wp2
  go_ret
  exact ⟨by rw [← HN.out]; rfl, x1⟩

end Go.Proofs.Ytbffkidkfannhaa

namespace Go.Proofs.Ytbffkidkfannhaa
open Go.RowKit
set_option linter.unusedVariables false

set_option maxHeartbeats 2000000 in
theorem areVoters_any (n me : Int) (v : Value) (l : List Int) (w : World) (hv : Ints w v l) (hn : isGrp n = true) :
    Calls Try.prog 71 #[.int .i64 n, .int .i64 me, v] w (BoolExt (riseB l 0 (n - 1) && hasI l me) w) := by
  have HV := Lib.hid hv
  have HN := Lib.hid hn
  clear hv hn
  go_enter Try.func71, Try.ntmps71
  go_wp2_with fail
  refine (areRisers_any n v l _ HV.out HN.out).mono ?_
  rintro e w1 ⟨rfl, x1⟩
  have X1 := Lib.hid x1
  clear x1
  cases hr : riseB l 0 (n - 1) with
  | false =>
    have HRR := Lib.hid hr
    clear hr
    go_wp2
    go_ret
    exact ⟨by rw [HRR.out]; rfl, X1.out⟩
  | true =>
    have HRR := Lib.hid hr
    clear hr
    go_wp2_with fail
    refine (contains_any v l me _ (HV.out.ext X1.out)).mono ?_
    rintro e w2 ⟨rfl, x2⟩
    have X2 := Lib.hid (X1.out.trans x2)
    clear x2
    go_wp2
    go_ret
    exact ⟨by rw [HRR.out]; rfl, X2.out⟩

def propB (n : Int) (d : LeadD) : Bool := goodB d.k d.i d.f d.t d.a && (goodA n d.s1 d.l1 && (goodA n d.s2 d.l2 && decide (d.seen.length = 0)))
set_option maxHeartbeats 4000000 in
set_option maxRecDepth 100000 in
theorem goodProp_any (n : Int) (d : LeadD) (u1 u2 u3 u4 : Value) (w : World) (hl : LeadL w d u1 u2 u3 u4) :
    Calls Try.prog 72 #[.int .i64 n, .agg #[.int .i64 d.rp, .int .i64 d.no, .int .i64 d.bl, .int .i64 d.ph, .int .i64 d.k, .int .i64 d.i, .int .i64 d.f, .int .i64 d.t, .int .i64 d.a, .int .i64 d.s1, u1, .int .i64 d.s2, u2, .bool d.sm, u3, u4]] w (BoolExt (propB n d) w) := by
  obtain ⟨wb, hwb⟩ : ∃ wb, wb = w.alloc (.cells #[.int .i64 d.rp, .int .i64 d.no, .int .i64 d.bl, .int .i64 d.ph, .int .i64 d.k, .int .i64 d.i, .int .i64 d.f, .int .i64 d.t, .int .i64 d.a, .int .i64 d.s1, u1, .int .i64 d.s2, u2, .bool d.sm, u3, u4] 69) := ⟨_, rfl⟩
  have x0 : Ext w wb := by rw [hwb]; exact Ext.alloc1 _ _
  have HA : Hid (BoxV wb w.heap.size (leadVs d u1 u2 u3 u4)) := Lib.hid (by rw [hwb]; exact lead_box w _ d u1 u2 u3 u4)
  have HL := Lib.hid (hl.ext x0)
  have HX0 := Lib.hid x0
  have HW := Lib.hid hwb
  clear hwb x0 hl
  go_enter Try.func72, Try.ntmps72
  obtain ⟨a0, a1, a2, a3, a4, a5, a6, a7, a8, a9, a10, a11, a12, a13, a14, a15⟩ := lead_cells HA.out
  go_wp2_with fail
  rw [← HW.out]
  refine (implGood_any _ _ _ _ _ _).mono ?_
  rintro e w1 ⟨rfl, x1⟩
  have X1 := Lib.hid x1
  clear x1 a0 a1 a2 a3 a4 a5 a6 a7 a8 a9 a10 a11 a12 a13 a14 a15
  cases h1 : goodB d.k d.i d.f d.t d.a with
  | false =>
    have HO : Hid (propB n d = false) := Lib.hid (by unfold propB; rw [h1]; rfl)
    go_wp2
    go_ret
    exact ⟨by rw [HO.out]; rfl, HX0.out.trans X1.out⟩
  | true =>
    have H1 := Lib.hid h1
    clear h1
    obtain ⟨a0, a1, a2, a3, a4, a5, a6, a7, a8, a9, a10, a11, a12, a13, a14, a15⟩ := lead_cells (HA.out.ext X1.out)
    go_wp2_with fail
    refine (implGoodAttr_any n _ _ d.l1 _ (HL.out.i1.ext X1.out)).mono ?_
    rintro e w2 ⟨rfl, x2⟩
    have X2 := Lib.hid (X1.out.trans x2)
    clear x2 a0 a1 a2 a3 a4 a5 a6 a7 a8 a9 a10 a11 a12 a13 a14 a15
    cases h2 : goodA n d.s1 d.l1 with
    | false =>
      have HO : Hid (propB n d = false) := Lib.hid (by unfold propB; rw [H1.out, h2]; rfl)
      go_wp2
      go_ret
      exact ⟨by rw [HO.out]; rfl, HX0.out.trans X2.out⟩
    | true =>
      have H2 := Lib.hid h2
      clear h2
      obtain ⟨a0, a1, a2, a3, a4, a5, a6, a7, a8, a9, a10, a11, a12, a13, a14, a15⟩ := lead_cells (HA.out.ext X2.out)
      go_wp2_with fail
      refine (implGoodAttr_any n _ _ d.l2 _ (HL.out.i2.ext X2.out)).mono ?_
      rintro e w3 ⟨rfl, x3⟩
      have X3 := Lib.hid (X2.out.trans x3)
      clear x3 a0 a1 a2 a3 a4 a5 a6 a7 a8 a9 a10 a11 a12 a13 a14 a15
      cases h3 : goodA n d.s2 d.l2 with
      | false =>
        have HO : Hid (propB n d = false) := Lib.hid (by unfold propB; rw [H1.out, H2.out, h3]; rfl)
        go_wp2
        go_ret
        exact ⟨by rw [HO.out]; rfl, HX0.out.trans X3.out⟩
      | true =>
        have H3 := Lib.hid h3
        clear h3
        obtain ⟨a0, a1, a2, a3, a4, a5, a6, a7, a8, a9, a10, a11, a12, a13, a14, a15⟩ := lead_cells (HA.out.ext X3.out)
        obtain ⟨av, cv, hu4, hlv, _, _⟩ := HL.out.i4
        unfold maxLen at hlv
        rw [hu4] at a15
        have HO : Hid (propB n d = decide (d.seen.length = 0)) := Lib.hid (by unfold propB; rw [H1.out, H2.out, H3.out]; rfl)
        by_cases h0 : d.seen.length = 0
        · have h0' : ((d.seen.length : Int) == 0) = true := by simp [h0]
          have HQ := Lib.hid h0
          clear h0 hlv
          go_wp2
          go_ret
          exact ⟨by rw [HO.out, decide_eq_true HQ.out]; rfl, HX0.out.trans X3.out⟩
        · have h0' : ((d.seen.length : Int) == 0) = false := by simp; intro h; exact h0 (by rw [h]; rfl)
          have HQ := Lib.hid h0
          clear h0 hlv
          go_wp2
          go_ret
          exact ⟨by rw [HO.out, decide_eq_false HQ.out]; rfl, HX0.out.trans X3.out⟩
end Go.Proofs.Ytbffkidkfannhaa
