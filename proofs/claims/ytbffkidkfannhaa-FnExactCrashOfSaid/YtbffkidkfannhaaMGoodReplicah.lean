/- Texts of this proof, part h: words, plain facts, contracts. -/
import Derived.Test.YtbffkidkfannhaaMGoodReplicae
import Derived.Test.YtbffkidkfannhaaMGoodReplicag
import Derived.Test.YtbffkidkfannhaaMGoodReplicac
import Derived.Test.YtbffkidkfannhaaMGoodReplicaf
import Derived.Test.YtbffkidkfannhaaMGoodReplicab

namespace Go.Proofs.Ytbffkidkfannhaa
open Go.RowKit
set_option linter.unusedVariables false

def phaseL (n : Int) (d : LeadD) : Bool :=
  if d.ph = 1 then goodB d.k d.i d.f d.t d.a && decide (d.seen.length = 0)
  else if d.ph = 2 then goodB d.k d.i d.f d.t d.a && (decide (d.seen.length = 0) && (!d.sm && sameA d.s1 d.s2 d.l1 d.l2))
  else if d.ph = 3 then sameC d.k d.i d.f d.t d.a 0 0 0 0 0 && (sameA d.s1 0 d.l1 (noneL n) && (sameA d.s2 0 d.l2 (noneL n) && (!d.sm && decide (d.seen.length = d.who.length))))
  else false
set_option maxHeartbeats 8000000 in
set_option maxRecDepth 100000 in
theorem l8Lead_seen (n me : Int) (d : LeadD) (u1 u2 u3 u4 : Value) (w : World) (hl : LeadL w d u1 u2 u3 u4) (hn : isGrp n = true) (hs : d.seen.all (toldB n) = false) (hc0 : Hid (instB n d.rp d.no = true)) (hc1 : Hid (inB d.bl 0 9999 = true)) (hc2 : Hid (riseB d.who 0 (n - 1) = true)) (hc3 : Hid (hasI d.who me = true)) (hc4 : Hid (goodD n d.s1 d.l1 = true)) (hc5 : Hid (goodD n d.s2 d.l2 = true)) :
    Calls Try.prog 29 #[.int .i64 n, .int .i64 me, .agg #[.int .i64 d.rp, .int .i64 d.no, .int .i64 d.bl, .int .i64 d.ph, .int .i64 d.k, .int .i64 d.i, .int .i64 d.f, .int .i64 d.t, .int .i64 d.a, .int .i64 d.s1, u1, .int .i64 d.s2, u2, .bool d.sm, u3, u4]] w (BoolExt false w) := by
  obtain ⟨h3, h5⟩ : 3 ≤ n ∧ n ≤ 5 := by rcases isGrp_of hn with rfl | rfl <;> omega
  have HN := Lib.hid hn
  have HNO := Lib.hid hs
  clear hn hs
  obtain ⟨wb, hwb⟩ : ∃ wb, wb = w.alloc (.cells #[.int .i64 d.rp, .int .i64 d.no, .int .i64 d.bl, .int .i64 d.ph, .int .i64 d.k, .int .i64 d.i, .int .i64 d.f, .int .i64 d.t, .int .i64 d.a, .int .i64 d.s1, u1, .int .i64 d.s2, u2, .bool d.sm, u3, u4] 69) := ⟨_, rfl⟩
  have x0 : Ext w wb := by rw [hwb]; exact Ext.alloc1 _ _
  have HA : Hid (BoxV wb w.heap.size (leadVs d u1 u2 u3 u4)) := Lib.hid (by rw [hwb]; exact lead_box w _ d u1 u2 u3 u4)
  have HL := Lib.hid hl
  have HX0 := Lib.hid x0
  have HX0w := Lib.hid (Ext.refl wb)
  have HW := Lib.hid hwb
  clear hwb x0 hl
  obtain ⟨av, cv, rfl, hlv, _, hcv⟩ := HL.out.i4
  unfold maxLen at hlv
  have HCV := Lib.hid hcv
  clear hcv
  go_enter Try.func29, Try.ntmps29
  have a0 := (HA.out.ext HX0w.out).cell 0 _ rfl
  have a1 := (HA.out.ext HX0w.out).cell 1 _ rfl
  have a2 := (HA.out.ext HX0w.out).cell 2 _ rfl
  have a3 := (HA.out.ext HX0w.out).cell 3 _ rfl
  have a4 := (HA.out.ext HX0w.out).cell 4 _ rfl
  have a5 := (HA.out.ext HX0w.out).cell 5 _ rfl
  have a6 := (HA.out.ext HX0w.out).cell 6 _ rfl
  have a7 := (HA.out.ext HX0w.out).cell 7 _ rfl
  have a8 := (HA.out.ext HX0w.out).cell 8 _ rfl
  have a9 := (HA.out.ext HX0w.out).cell 9 _ rfl
  have a10 := (HA.out.ext HX0w.out).cell 10 _ rfl
  have a11 := (HA.out.ext HX0w.out).cell 11 _ rfl
  have a12 := (HA.out.ext HX0w.out).cell 12 _ rfl
  have a13 := (HA.out.ext HX0w.out).cell 13 _ rfl
  have a14 := (HA.out.ext HX0w.out).cell 14 _ rfl
  have a15 := (HA.out.ext HX0w.out).cell 15 _ rfl
  go_wp2_with fail
  rw [← HW.out]
  refine (l3Inst_any n d.rp d.no _ h3 h5).mono ?_
  rintro e w1 ⟨rfl, rfl⟩
  rw [hc0.out]
  have HX1 := HX0
  have HX1w := HX0w
  clear a0 a1 a2 a3 a4 a5 a6 a7 a8 a9 a10 a11 a12 a13 a14 a15 HX0 HX0w
  have a0 := (HA.out.ext HX1w.out).cell 0 _ rfl
  have a1 := (HA.out.ext HX1w.out).cell 1 _ rfl
  have a2 := (HA.out.ext HX1w.out).cell 2 _ rfl
  have a3 := (HA.out.ext HX1w.out).cell 3 _ rfl
  have a4 := (HA.out.ext HX1w.out).cell 4 _ rfl
  have a5 := (HA.out.ext HX1w.out).cell 5 _ rfl
  have a6 := (HA.out.ext HX1w.out).cell 6 _ rfl
  have a7 := (HA.out.ext HX1w.out).cell 7 _ rfl
  have a8 := (HA.out.ext HX1w.out).cell 8 _ rfl
  have a9 := (HA.out.ext HX1w.out).cell 9 _ rfl
  have a10 := (HA.out.ext HX1w.out).cell 10 _ rfl
  have a11 := (HA.out.ext HX1w.out).cell 11 _ rfl
  have a12 := (HA.out.ext HX1w.out).cell 12 _ rfl
  have a13 := (HA.out.ext HX1w.out).cell 13 _ rfl
  have a14 := (HA.out.ext HX1w.out).cell 14 _ rfl
  have a15 := (HA.out.ext HX1w.out).cell 15 _ rfl
  go_wp2_with fail
  refine (l1In_any d.bl 0 9999 _).mono ?_
  rintro e w2 ⟨rfl, rfl⟩
  rw [hc1.out]
  have HX2 := HX1
  have HX2w := HX1w
  clear a0 a1 a2 a3 a4 a5 a6 a7 a8 a9 a10 a11 a12 a13 a14 a15 HX1 HX1w
  have a0 := (HA.out.ext HX2w.out).cell 0 _ rfl
  have a1 := (HA.out.ext HX2w.out).cell 1 _ rfl
  have a2 := (HA.out.ext HX2w.out).cell 2 _ rfl
  have a3 := (HA.out.ext HX2w.out).cell 3 _ rfl
  have a4 := (HA.out.ext HX2w.out).cell 4 _ rfl
  have a5 := (HA.out.ext HX2w.out).cell 5 _ rfl
  have a6 := (HA.out.ext HX2w.out).cell 6 _ rfl
  have a7 := (HA.out.ext HX2w.out).cell 7 _ rfl
  have a8 := (HA.out.ext HX2w.out).cell 8 _ rfl
  have a9 := (HA.out.ext HX2w.out).cell 9 _ rfl
  have a10 := (HA.out.ext HX2w.out).cell 10 _ rfl
  have a11 := (HA.out.ext HX2w.out).cell 11 _ rfl
  have a12 := (HA.out.ext HX2w.out).cell 12 _ rfl
  have a13 := (HA.out.ext HX2w.out).cell 13 _ rfl
  have a14 := (HA.out.ext HX2w.out).cell 14 _ rfl
  have a15 := (HA.out.ext HX2w.out).cell 15 _ rfl
  go_wp2_with fail
  refine (l1Rising_any u3 d.who 0 (n - 1) _ (HL.out.i3.ext HX2.out)).mono ?_
  rintro e w3 ⟨rfl, x3⟩
  rw [hc2.out]
  have HX3 := Lib.hid (HX2.out.trans x3)
  have HX3w := Lib.hid (HX2w.out.trans x3)
  clear x3
  clear a0 a1 a2 a3 a4 a5 a6 a7 a8 a9 a10 a11 a12 a13 a14 a15 HX2 HX2w
  have a0 := (HA.out.ext HX3w.out).cell 0 _ rfl
  have a1 := (HA.out.ext HX3w.out).cell 1 _ rfl
  have a2 := (HA.out.ext HX3w.out).cell 2 _ rfl
  have a3 := (HA.out.ext HX3w.out).cell 3 _ rfl
  have a4 := (HA.out.ext HX3w.out).cell 4 _ rfl
  have a5 := (HA.out.ext HX3w.out).cell 5 _ rfl
  have a6 := (HA.out.ext HX3w.out).cell 6 _ rfl
  have a7 := (HA.out.ext HX3w.out).cell 7 _ rfl
  have a8 := (HA.out.ext HX3w.out).cell 8 _ rfl
  have a9 := (HA.out.ext HX3w.out).cell 9 _ rfl
  have a10 := (HA.out.ext HX3w.out).cell 10 _ rfl
  have a11 := (HA.out.ext HX3w.out).cell 11 _ rfl
  have a12 := (HA.out.ext HX3w.out).cell 12 _ rfl
  have a13 := (HA.out.ext HX3w.out).cell 13 _ rfl
  have a14 := (HA.out.ext HX3w.out).cell 14 _ rfl
  have a15 := (HA.out.ext HX3w.out).cell 15 _ rfl
  go_wp2_with fail
  refine (l1Has_any u3 d.who me _ (HL.out.i3.ext HX3.out)).mono ?_
  rintro e w4 ⟨rfl, x4⟩
  rw [hc3.out]
  have HX4 := Lib.hid (HX3.out.trans x4)
  have HX4w := Lib.hid (HX3w.out.trans x4)
  clear x4
  clear a0 a1 a2 a3 a4 a5 a6 a7 a8 a9 a10 a11 a12 a13 a14 a15 HX3 HX3w
  have a0 := (HA.out.ext HX4w.out).cell 0 _ rfl
  have a1 := (HA.out.ext HX4w.out).cell 1 _ rfl
  have a2 := (HA.out.ext HX4w.out).cell 2 _ rfl
  have a3 := (HA.out.ext HX4w.out).cell 3 _ rfl
  have a4 := (HA.out.ext HX4w.out).cell 4 _ rfl
  have a5 := (HA.out.ext HX4w.out).cell 5 _ rfl
  have a6 := (HA.out.ext HX4w.out).cell 6 _ rfl
  have a7 := (HA.out.ext HX4w.out).cell 7 _ rfl
  have a8 := (HA.out.ext HX4w.out).cell 8 _ rfl
  have a9 := (HA.out.ext HX4w.out).cell 9 _ rfl
  have a10 := (HA.out.ext HX4w.out).cell 10 _ rfl
  have a11 := (HA.out.ext HX4w.out).cell 11 _ rfl
  have a12 := (HA.out.ext HX4w.out).cell 12 _ rfl
  have a13 := (HA.out.ext HX4w.out).cell 13 _ rfl
  have a14 := (HA.out.ext HX4w.out).cell 14 _ rfl
  have a15 := (HA.out.ext HX4w.out).cell 15 _ rfl
  go_wp2_with fail
  refine (l3Attr_any n d.s1 u1 d.l1 _ (HL.out.i1.ext HX4.out)).mono ?_
  rintro e w5 ⟨rfl, x5⟩
  rw [hc4.out]
  have HX5 := Lib.hid (HX4.out.trans x5)
  have HX5w := Lib.hid (HX4w.out.trans x5)
  clear x5
  clear a0 a1 a2 a3 a4 a5 a6 a7 a8 a9 a10 a11 a12 a13 a14 a15 HX4 HX4w
  have a0 := (HA.out.ext HX5w.out).cell 0 _ rfl
  have a1 := (HA.out.ext HX5w.out).cell 1 _ rfl
  have a2 := (HA.out.ext HX5w.out).cell 2 _ rfl
  have a3 := (HA.out.ext HX5w.out).cell 3 _ rfl
  have a4 := (HA.out.ext HX5w.out).cell 4 _ rfl
  have a5 := (HA.out.ext HX5w.out).cell 5 _ rfl
  have a6 := (HA.out.ext HX5w.out).cell 6 _ rfl
  have a7 := (HA.out.ext HX5w.out).cell 7 _ rfl
  have a8 := (HA.out.ext HX5w.out).cell 8 _ rfl
  have a9 := (HA.out.ext HX5w.out).cell 9 _ rfl
  have a10 := (HA.out.ext HX5w.out).cell 10 _ rfl
  have a11 := (HA.out.ext HX5w.out).cell 11 _ rfl
  have a12 := (HA.out.ext HX5w.out).cell 12 _ rfl
  have a13 := (HA.out.ext HX5w.out).cell 13 _ rfl
  have a14 := (HA.out.ext HX5w.out).cell 14 _ rfl
  have a15 := (HA.out.ext HX5w.out).cell 15 _ rfl
  go_wp2_with fail
  refine (l3Attr_any n d.s2 u2 d.l2 _ (HL.out.i2.ext HX5.out)).mono ?_
  rintro e w6 ⟨rfl, x6⟩
  rw [hc5.out]
  have HX6 := Lib.hid (HX5.out.trans x6)
  have HX6w := Lib.hid (HX5w.out.trans x6)
  clear x6
  clear a0 a1 a2 a3 a4 a5 a6 a7 a8 a9 a10 a11 a12 a13 a14 a15 HX5 HX5w
  have a15 := (HA.out.ext HX6w.out).cell 15 _ rfl
  go_wp2
  clear a15
  go_loopw [55] (fun i wr => ∃ k : Nat, k ≤ d.seen.length ∧ i = .int .i64 k ∧ Hid ((d.seen.take k).all (toldB n) = true) ∧ Hid (Ext w wr)) (fun i _ => d.seen.length - (intOf i).toNat)
  case atStart => exact ⟨0, Nat.zero_le _, rfl, Lib.hid (by simp), HX6⟩
  case round =>
    obtain ⟨k, hk, rfl, HT, HX⟩ := hrel
    by_cases hlt : k < d.seen.length
    · obtain ⟨b, off, rfl, dv⟩ := HCV.out (by omega)
      obtain ⟨r, hr⟩ : ∃ r, r = d.seen[k] := ⟨_, rfl⟩
      obtain ⟨u, hu, iu⟩ := dv k hlt
      rw [← hr] at hu iu
      obtain ⟨au, cu, rfl, _, _, _⟩ := id iu
      have HR := Lib.hid hr
      have HLT := Lib.hid hlt
      obtain ⟨g0, g1, g2, g3, g4, g5, g6, g7, g8, g9⟩ := hu.ext HX.out
      obtain ⟨w2, hw2⟩ : ∃ w2, w2 = wr.alloc (.cells #[.int .i64 r.b, .int .i64 r.v, .int .i64 r.st, .int .i64 r.k, .int .i64 r.i, .int .i64 r.f, .int .i64 r.t, .int .i64 r.a, .int .i64 r.s, .slice au r.l.length cu] 57) := ⟨_, rfl⟩
      have x2 : Ext wr w2 := by rw [hw2]; exact Ext.alloc1 _ _
      have ST : Hid (w2.cell? ⟨wr.heap.size, 2, none⟩ = some (.int .i64 r.st)) := Lib.hid (by rw [hw2]; go_simp)
      have IU := Lib.hid ((iu.ext HX.out).ext x2)
      have HW2 := Lib.hid hw2
      have X2 := Lib.hid (HX.out.trans x2)
      clear dv hr hu iu hw2 x2
      go_wp2_with fail
      rw [← HW2.out]
      refine (l4Row_any n r _ _ IU.out HN.out).mono ?_
      rintro e w3 ⟨rfl, x3⟩
      have X3 := Lib.hid (X2.out.trans x3)
      have st := x3.cell ST.out
      clear x3 g0 g1 g2 g3 g4 g5 g6 g7 g8 g9 IU HW2 X2 ST
      cases hg : goodRow n r with
      | false =>
        clear st
        go_wp2
        go_ret
        exact ⟨rfl, X3.out⟩
      | true =>
        by_cases h3 : r.st = 3
        · rw [h3] at st
          clear h3
          go_wp2
          go_ret
          exact ⟨rfl, X3.out⟩
        · have HT1 := Lib.hid (told_succ HLT.out HT.out (by rw [← HR.out]; simp [toldB, hg, h3]))
          have h3' : (r.st == 3) = false := by simpa using h3
          clear h3 hg
          go_wp2
          go_roundw
          case rel => exact ⟨k + 1, by omega, by go_num, HT1, X3⟩
          case measure => simp [intOf]; omega
    · obtain rfl : k = d.seen.length := by omega
      have hA := HT.out
      rw [List.take_length, HNO.out] at hA
      cases hA
end Go.Proofs.Ytbffkidkfannhaa

namespace Go.Proofs.Ytbffkidkfannhaa
open Go.RowKit
set_option linter.unusedVariables false

set_option maxHeartbeats 8000000 in
set_option maxRecDepth 100000 in
theorem l8Lead_ph0 (n me : Int) (d : LeadD) (u1 u2 u3 u4 : Value) (w : World) (hl : LeadL w d u1 u2 u3 u4) (hn : isGrp n = true) (hs : d.seen.all (toldB n) = true) (hp : d.ph ≠ 1 ∧ d.ph ≠ 2 ∧ d.ph ≠ 3) (hc0 : Hid (instB n d.rp d.no = true)) (hc1 : Hid (inB d.bl 0 9999 = true)) (hc2 : Hid (riseB d.who 0 (n - 1) = true)) (hc3 : Hid (hasI d.who me = true)) (hc4 : Hid (goodD n d.s1 d.l1 = true)) (hc5 : Hid (goodD n d.s2 d.l2 = true)) :
    Calls Try.prog 29 #[.int .i64 n, .int .i64 me, .agg #[.int .i64 d.rp, .int .i64 d.no, .int .i64 d.bl, .int .i64 d.ph, .int .i64 d.k, .int .i64 d.i, .int .i64 d.f, .int .i64 d.t, .int .i64 d.a, .int .i64 d.s1, u1, .int .i64 d.s2, u2, .bool d.sm, u3, u4]] w (BoolExt (phaseL n d) w) := by
  obtain ⟨h3, h5⟩ : 3 ≤ n ∧ n ≤ 5 := by rcases isGrp_of hn with rfl | rfl <;> omega
  have HN := Lib.hid hn
  have HNO := Lib.hid hs
  have HPH := Lib.hid hp
  clear hn hs hp
  obtain ⟨wb, hwb⟩ : ∃ wb, wb = w.alloc (.cells #[.int .i64 d.rp, .int .i64 d.no, .int .i64 d.bl, .int .i64 d.ph, .int .i64 d.k, .int .i64 d.i, .int .i64 d.f, .int .i64 d.t, .int .i64 d.a, .int .i64 d.s1, u1, .int .i64 d.s2, u2, .bool d.sm, u3, u4] 69) := ⟨_, rfl⟩
  have x0 : Ext w wb := by rw [hwb]; exact Ext.alloc1 _ _
  have HA : Hid (BoxV wb w.heap.size (leadVs d u1 u2 u3 u4)) := Lib.hid (by rw [hwb]; exact lead_box w _ d u1 u2 u3 u4)
  have HL := Lib.hid hl
  have HX0 := Lib.hid x0
  have HX0w := Lib.hid (Ext.refl wb)
  have HW := Lib.hid hwb
  clear hwb x0 hl
  obtain ⟨av, cv, rfl, hlv, _, hcv⟩ := HL.out.i4
  unfold maxLen at hlv
  have HCV := Lib.hid hcv
  clear hcv
  go_enter Try.func29, Try.ntmps29
  have a0 := (HA.out.ext HX0w.out).cell 0 _ rfl
  have a1 := (HA.out.ext HX0w.out).cell 1 _ rfl
  have a2 := (HA.out.ext HX0w.out).cell 2 _ rfl
  have a3 := (HA.out.ext HX0w.out).cell 3 _ rfl
  have a4 := (HA.out.ext HX0w.out).cell 4 _ rfl
  have a5 := (HA.out.ext HX0w.out).cell 5 _ rfl
  have a6 := (HA.out.ext HX0w.out).cell 6 _ rfl
  have a7 := (HA.out.ext HX0w.out).cell 7 _ rfl
  have a8 := (HA.out.ext HX0w.out).cell 8 _ rfl
  have a9 := (HA.out.ext HX0w.out).cell 9 _ rfl
  have a10 := (HA.out.ext HX0w.out).cell 10 _ rfl
  have a11 := (HA.out.ext HX0w.out).cell 11 _ rfl
  have a12 := (HA.out.ext HX0w.out).cell 12 _ rfl
  have a13 := (HA.out.ext HX0w.out).cell 13 _ rfl
  have a14 := (HA.out.ext HX0w.out).cell 14 _ rfl
  have a15 := (HA.out.ext HX0w.out).cell 15 _ rfl
  go_wp2_with fail
  rw [← HW.out]
  refine (l3Inst_any n d.rp d.no _ h3 h5).mono ?_
  rintro e w1 ⟨rfl, rfl⟩
  rw [hc0.out]
  have HX1 := HX0
  have HX1w := HX0w
  clear a0 a1 a2 a3 a4 a5 a6 a7 a8 a9 a10 a11 a12 a13 a14 a15 HX0 HX0w
  have a0 := (HA.out.ext HX1w.out).cell 0 _ rfl
  have a1 := (HA.out.ext HX1w.out).cell 1 _ rfl
  have a2 := (HA.out.ext HX1w.out).cell 2 _ rfl
  have a3 := (HA.out.ext HX1w.out).cell 3 _ rfl
  have a4 := (HA.out.ext HX1w.out).cell 4 _ rfl
  have a5 := (HA.out.ext HX1w.out).cell 5 _ rfl
  have a6 := (HA.out.ext HX1w.out).cell 6 _ rfl
  have a7 := (HA.out.ext HX1w.out).cell 7 _ rfl
  have a8 := (HA.out.ext HX1w.out).cell 8 _ rfl
  have a9 := (HA.out.ext HX1w.out).cell 9 _ rfl
  have a10 := (HA.out.ext HX1w.out).cell 10 _ rfl
  have a11 := (HA.out.ext HX1w.out).cell 11 _ rfl
  have a12 := (HA.out.ext HX1w.out).cell 12 _ rfl
  have a13 := (HA.out.ext HX1w.out).cell 13 _ rfl
  have a14 := (HA.out.ext HX1w.out).cell 14 _ rfl
  have a15 := (HA.out.ext HX1w.out).cell 15 _ rfl
  go_wp2_with fail
  refine (l1In_any d.bl 0 9999 _).mono ?_
  rintro e w2 ⟨rfl, rfl⟩
  rw [hc1.out]
  have HX2 := HX1
  have HX2w := HX1w
  clear a0 a1 a2 a3 a4 a5 a6 a7 a8 a9 a10 a11 a12 a13 a14 a15 HX1 HX1w
  have a0 := (HA.out.ext HX2w.out).cell 0 _ rfl
  have a1 := (HA.out.ext HX2w.out).cell 1 _ rfl
  have a2 := (HA.out.ext HX2w.out).cell 2 _ rfl
  have a3 := (HA.out.ext HX2w.out).cell 3 _ rfl
  have a4 := (HA.out.ext HX2w.out).cell 4 _ rfl
  have a5 := (HA.out.ext HX2w.out).cell 5 _ rfl
  have a6 := (HA.out.ext HX2w.out).cell 6 _ rfl
  have a7 := (HA.out.ext HX2w.out).cell 7 _ rfl
  have a8 := (HA.out.ext HX2w.out).cell 8 _ rfl
  have a9 := (HA.out.ext HX2w.out).cell 9 _ rfl
  have a10 := (HA.out.ext HX2w.out).cell 10 _ rfl
  have a11 := (HA.out.ext HX2w.out).cell 11 _ rfl
  have a12 := (HA.out.ext HX2w.out).cell 12 _ rfl
  have a13 := (HA.out.ext HX2w.out).cell 13 _ rfl
  have a14 := (HA.out.ext HX2w.out).cell 14 _ rfl
  have a15 := (HA.out.ext HX2w.out).cell 15 _ rfl
  go_wp2_with fail
  refine (l1Rising_any u3 d.who 0 (n - 1) _ (HL.out.i3.ext HX2.out)).mono ?_
  rintro e w3 ⟨rfl, x3⟩
  rw [hc2.out]
  have HX3 := Lib.hid (HX2.out.trans x3)
  have HX3w := Lib.hid (HX2w.out.trans x3)
  clear x3
  clear a0 a1 a2 a3 a4 a5 a6 a7 a8 a9 a10 a11 a12 a13 a14 a15 HX2 HX2w
  have a0 := (HA.out.ext HX3w.out).cell 0 _ rfl
  have a1 := (HA.out.ext HX3w.out).cell 1 _ rfl
  have a2 := (HA.out.ext HX3w.out).cell 2 _ rfl
  have a3 := (HA.out.ext HX3w.out).cell 3 _ rfl
  have a4 := (HA.out.ext HX3w.out).cell 4 _ rfl
  have a5 := (HA.out.ext HX3w.out).cell 5 _ rfl
  have a6 := (HA.out.ext HX3w.out).cell 6 _ rfl
  have a7 := (HA.out.ext HX3w.out).cell 7 _ rfl
  have a8 := (HA.out.ext HX3w.out).cell 8 _ rfl
  have a9 := (HA.out.ext HX3w.out).cell 9 _ rfl
  have a10 := (HA.out.ext HX3w.out).cell 10 _ rfl
  have a11 := (HA.out.ext HX3w.out).cell 11 _ rfl
  have a12 := (HA.out.ext HX3w.out).cell 12 _ rfl
  have a13 := (HA.out.ext HX3w.out).cell 13 _ rfl
  have a14 := (HA.out.ext HX3w.out).cell 14 _ rfl
  have a15 := (HA.out.ext HX3w.out).cell 15 _ rfl
  go_wp2_with fail
  refine (l1Has_any u3 d.who me _ (HL.out.i3.ext HX3.out)).mono ?_
  rintro e w4 ⟨rfl, x4⟩
  rw [hc3.out]
  have HX4 := Lib.hid (HX3.out.trans x4)
  have HX4w := Lib.hid (HX3w.out.trans x4)
  clear x4
  clear a0 a1 a2 a3 a4 a5 a6 a7 a8 a9 a10 a11 a12 a13 a14 a15 HX3 HX3w
  have a0 := (HA.out.ext HX4w.out).cell 0 _ rfl
  have a1 := (HA.out.ext HX4w.out).cell 1 _ rfl
  have a2 := (HA.out.ext HX4w.out).cell 2 _ rfl
  have a3 := (HA.out.ext HX4w.out).cell 3 _ rfl
  have a4 := (HA.out.ext HX4w.out).cell 4 _ rfl
  have a5 := (HA.out.ext HX4w.out).cell 5 _ rfl
  have a6 := (HA.out.ext HX4w.out).cell 6 _ rfl
  have a7 := (HA.out.ext HX4w.out).cell 7 _ rfl
  have a8 := (HA.out.ext HX4w.out).cell 8 _ rfl
  have a9 := (HA.out.ext HX4w.out).cell 9 _ rfl
  have a10 := (HA.out.ext HX4w.out).cell 10 _ rfl
  have a11 := (HA.out.ext HX4w.out).cell 11 _ rfl
  have a12 := (HA.out.ext HX4w.out).cell 12 _ rfl
  have a13 := (HA.out.ext HX4w.out).cell 13 _ rfl
  have a14 := (HA.out.ext HX4w.out).cell 14 _ rfl
  have a15 := (HA.out.ext HX4w.out).cell 15 _ rfl
  go_wp2_with fail
  refine (l3Attr_any n d.s1 u1 d.l1 _ (HL.out.i1.ext HX4.out)).mono ?_
  rintro e w5 ⟨rfl, x5⟩
  rw [hc4.out]
  have HX5 := Lib.hid (HX4.out.trans x5)
  have HX5w := Lib.hid (HX4w.out.trans x5)
  clear x5
  clear a0 a1 a2 a3 a4 a5 a6 a7 a8 a9 a10 a11 a12 a13 a14 a15 HX4 HX4w
  have a0 := (HA.out.ext HX5w.out).cell 0 _ rfl
  have a1 := (HA.out.ext HX5w.out).cell 1 _ rfl
  have a2 := (HA.out.ext HX5w.out).cell 2 _ rfl
  have a3 := (HA.out.ext HX5w.out).cell 3 _ rfl
  have a4 := (HA.out.ext HX5w.out).cell 4 _ rfl
  have a5 := (HA.out.ext HX5w.out).cell 5 _ rfl
  have a6 := (HA.out.ext HX5w.out).cell 6 _ rfl
  have a7 := (HA.out.ext HX5w.out).cell 7 _ rfl
  have a8 := (HA.out.ext HX5w.out).cell 8 _ rfl
  have a9 := (HA.out.ext HX5w.out).cell 9 _ rfl
  have a10 := (HA.out.ext HX5w.out).cell 10 _ rfl
  have a11 := (HA.out.ext HX5w.out).cell 11 _ rfl
  have a12 := (HA.out.ext HX5w.out).cell 12 _ rfl
  have a13 := (HA.out.ext HX5w.out).cell 13 _ rfl
  have a14 := (HA.out.ext HX5w.out).cell 14 _ rfl
  have a15 := (HA.out.ext HX5w.out).cell 15 _ rfl
  go_wp2_with fail
  refine (l3Attr_any n d.s2 u2 d.l2 _ (HL.out.i2.ext HX5.out)).mono ?_
  rintro e w6 ⟨rfl, x6⟩
  rw [hc5.out]
  have HX6 := Lib.hid (HX5.out.trans x6)
  have HX6w := Lib.hid (HX5w.out.trans x6)
  clear x6
  clear a0 a1 a2 a3 a4 a5 a6 a7 a8 a9 a10 a11 a12 a13 a14 a15 HX5 HX5w
  have a15 := (HA.out.ext HX6w.out).cell 15 _ rfl
  go_wp2
  clear a15
  go_loopw [55] (fun i wr => ∃ k : Nat, k ≤ d.seen.length ∧ i = .int .i64 k ∧ Hid ((d.seen.take k).all (toldB n) = true) ∧ Hid (Ext w wr) ∧ Hid (Ext wb wr)) (fun i _ => d.seen.length - (intOf i).toNat)
  case atStart => exact ⟨0, Nat.zero_le _, rfl, Lib.hid (by simp), HX6, HX6w⟩
  case round =>
    obtain ⟨k, hk, rfl, HT, HX, HXW⟩ := hrel
    by_cases hlt : k < d.seen.length
    · obtain ⟨b, off, rfl, dv⟩ := HCV.out (by omega)
      obtain ⟨r, hr⟩ : ∃ r, r = d.seen[k] := ⟨_, rfl⟩
      obtain ⟨u, hu, iu⟩ := dv k hlt
      rw [← hr] at hu iu
      obtain ⟨au, cu, rfl, _, _, _⟩ := id iu
      have HR := Lib.hid hr
      have HLT := Lib.hid hlt
      obtain ⟨g0, g1, g2, g3, g4, g5, g6, g7, g8, g9⟩ := hu.ext HX.out
      obtain ⟨w2, hw2⟩ : ∃ w2, w2 = wr.alloc (.cells #[.int .i64 r.b, .int .i64 r.v, .int .i64 r.st, .int .i64 r.k, .int .i64 r.i, .int .i64 r.f, .int .i64 r.t, .int .i64 r.a, .int .i64 r.s, .slice au r.l.length cu] 57) := ⟨_, rfl⟩
      have x2 : Ext wr w2 := by rw [hw2]; exact Ext.alloc1 _ _
      have ST : Hid (w2.cell? ⟨wr.heap.size, 2, none⟩ = some (.int .i64 r.st)) := Lib.hid (by rw [hw2]; go_simp)
      have IU := Lib.hid ((iu.ext HX.out).ext x2)
      have HW2 := Lib.hid hw2
      have X2 := Lib.hid (HX.out.trans x2)
      have X2W := Lib.hid (HXW.out.trans x2)
      clear dv hr hu iu hw2 x2
      go_wp2_with fail
      rw [← HW2.out]
      refine (l4Row_any n r _ _ IU.out HN.out).mono ?_
      rintro e w3 ⟨rfl, x3⟩
      have X3 := Lib.hid (X2.out.trans x3)
      have X3W := Lib.hid (X2W.out.trans x3)
      have st := x3.cell ST.out
      clear x3 g0 g1 g2 g3 g4 g5 g6 g7 g8 g9 IU HW2 X2 ST
      cases hg : goodRow n r with
      | false =>
        have hno := told_no (n := n) HLT.out (by rw [← HR.out]; simp [toldB, hg])
        rw [HNO.out] at hno
        cases hno
      | true =>
        by_cases h3 : r.st = 3
        · have hno := told_no (n := n) HLT.out (by rw [← HR.out]; simp [toldB, h3])
          rw [HNO.out] at hno
          cases hno
        · have HT1 := Lib.hid (told_succ HLT.out HT.out (by rw [← HR.out]; simp [toldB, hg, h3]))
          have h3' : (r.st == 3) = false := by simpa using h3
          clear h3 hg
          go_wp2
          go_roundw
          case rel => exact ⟨k + 1, by omega, by go_num, HT1, X3, X3W⟩
          case measure => simp [intOf]; omega
    · obtain rfl : k = d.seen.length := by omega
      clear HT
      have hp := HPH.out
      have e1 : (d.ph == 1) = false := by simpa using hp.1
      have e2 : (d.ph == 2) = false := by simpa using hp.2.1
      have e3 : (d.ph == 3) = false := by simpa using hp.2.2
      have hP : Hid (phaseL n d = false) := Lib.hid (by unfold phaseL; rw [if_neg hp.1, if_neg hp.2.1, if_neg hp.2.2])
      clear hp
      have a0 := (HA.out.ext HXW.out).cell 0 _ rfl
      have a1 := (HA.out.ext HXW.out).cell 1 _ rfl
      have a2 := (HA.out.ext HXW.out).cell 2 _ rfl
      have a3 := (HA.out.ext HXW.out).cell 3 _ rfl
      have a4 := (HA.out.ext HXW.out).cell 4 _ rfl
      have a5 := (HA.out.ext HXW.out).cell 5 _ rfl
      have a6 := (HA.out.ext HXW.out).cell 6 _ rfl
      have a7 := (HA.out.ext HXW.out).cell 7 _ rfl
      have a8 := (HA.out.ext HXW.out).cell 8 _ rfl
      have a9 := (HA.out.ext HXW.out).cell 9 _ rfl
      have a10 := (HA.out.ext HXW.out).cell 10 _ rfl
      have a11 := (HA.out.ext HXW.out).cell 11 _ rfl
      have a12 := (HA.out.ext HXW.out).cell 12 _ rfl
      have a13 := (HA.out.ext HXW.out).cell 13 _ rfl
      have a14 := (HA.out.ext HXW.out).cell 14 _ rfl
      have a15 := (HA.out.ext HXW.out).cell 15 _ rfl
      go_wp2
      go_ret
      exact ⟨by rw [hP.out]; rfl, HX.out⟩
set_option maxHeartbeats 8000000 in
set_option maxRecDepth 100000 in
theorem l8Lead_ph1 (n me : Int) (d : LeadD) (u1 u2 u3 u4 : Value) (w : World) (hl : LeadL w d u1 u2 u3 u4) (hn : isGrp n = true) (hs : d.seen.all (toldB n) = true) (hp : d.ph = 1) (hc0 : Hid (instB n d.rp d.no = true)) (hc1 : Hid (inB d.bl 0 9999 = true)) (hc2 : Hid (riseB d.who 0 (n - 1) = true)) (hc3 : Hid (hasI d.who me = true)) (hc4 : Hid (goodD n d.s1 d.l1 = true)) (hc5 : Hid (goodD n d.s2 d.l2 = true)) :
    Calls Try.prog 29 #[.int .i64 n, .int .i64 me, .agg #[.int .i64 d.rp, .int .i64 d.no, .int .i64 d.bl, .int .i64 d.ph, .int .i64 d.k, .int .i64 d.i, .int .i64 d.f, .int .i64 d.t, .int .i64 d.a, .int .i64 d.s1, u1, .int .i64 d.s2, u2, .bool d.sm, u3, u4]] w (BoolExt (phaseL n d) w) := by
  obtain ⟨h3, h5⟩ : 3 ≤ n ∧ n ≤ 5 := by rcases isGrp_of hn with rfl | rfl <;> omega
  have HN := Lib.hid hn
  have HNO := Lib.hid hs
  have HPH := Lib.hid hp
  clear hn hs hp
  obtain ⟨wb, hwb⟩ : ∃ wb, wb = w.alloc (.cells #[.int .i64 d.rp, .int .i64 d.no, .int .i64 d.bl, .int .i64 d.ph, .int .i64 d.k, .int .i64 d.i, .int .i64 d.f, .int .i64 d.t, .int .i64 d.a, .int .i64 d.s1, u1, .int .i64 d.s2, u2, .bool d.sm, u3, u4] 69) := ⟨_, rfl⟩
  have x0 : Ext w wb := by rw [hwb]; exact Ext.alloc1 _ _
  have HA : Hid (BoxV wb w.heap.size (leadVs d u1 u2 u3 u4)) := Lib.hid (by rw [hwb]; exact lead_box w _ d u1 u2 u3 u4)
  have HL := Lib.hid hl
  have HX0 := Lib.hid x0
  have HX0w := Lib.hid (Ext.refl wb)
  have HW := Lib.hid hwb
  clear hwb x0 hl
  obtain ⟨av, cv, rfl, hlv, _, hcv⟩ := HL.out.i4
  unfold maxLen at hlv
  have HCV := Lib.hid hcv
  clear hcv
  go_enter Try.func29, Try.ntmps29
  have a0 := (HA.out.ext HX0w.out).cell 0 _ rfl
  have a1 := (HA.out.ext HX0w.out).cell 1 _ rfl
  have a2 := (HA.out.ext HX0w.out).cell 2 _ rfl
  have a3 := (HA.out.ext HX0w.out).cell 3 _ rfl
  have a4 := (HA.out.ext HX0w.out).cell 4 _ rfl
  have a5 := (HA.out.ext HX0w.out).cell 5 _ rfl
  have a6 := (HA.out.ext HX0w.out).cell 6 _ rfl
  have a7 := (HA.out.ext HX0w.out).cell 7 _ rfl
  have a8 := (HA.out.ext HX0w.out).cell 8 _ rfl
  have a9 := (HA.out.ext HX0w.out).cell 9 _ rfl
  have a10 := (HA.out.ext HX0w.out).cell 10 _ rfl
  have a11 := (HA.out.ext HX0w.out).cell 11 _ rfl
  have a12 := (HA.out.ext HX0w.out).cell 12 _ rfl
  have a13 := (HA.out.ext HX0w.out).cell 13 _ rfl
  have a14 := (HA.out.ext HX0w.out).cell 14 _ rfl
  have a15 := (HA.out.ext HX0w.out).cell 15 _ rfl
  go_wp2_with fail
  rw [← HW.out]
  refine (l3Inst_any n d.rp d.no _ h3 h5).mono ?_
  rintro e w1 ⟨rfl, rfl⟩
  rw [hc0.out]
  have HX1 := HX0
  have HX1w := HX0w
  clear a0 a1 a2 a3 a4 a5 a6 a7 a8 a9 a10 a11 a12 a13 a14 a15 HX0 HX0w
  have a0 := (HA.out.ext HX1w.out).cell 0 _ rfl
  have a1 := (HA.out.ext HX1w.out).cell 1 _ rfl
  have a2 := (HA.out.ext HX1w.out).cell 2 _ rfl
  have a3 := (HA.out.ext HX1w.out).cell 3 _ rfl
  have a4 := (HA.out.ext HX1w.out).cell 4 _ rfl
  have a5 := (HA.out.ext HX1w.out).cell 5 _ rfl
  have a6 := (HA.out.ext HX1w.out).cell 6 _ rfl
  have a7 := (HA.out.ext HX1w.out).cell 7 _ rfl
  have a8 := (HA.out.ext HX1w.out).cell 8 _ rfl
  have a9 := (HA.out.ext HX1w.out).cell 9 _ rfl
  have a10 := (HA.out.ext HX1w.out).cell 10 _ rfl
  have a11 := (HA.out.ext HX1w.out).cell 11 _ rfl
  have a12 := (HA.out.ext HX1w.out).cell 12 _ rfl
  have a13 := (HA.out.ext HX1w.out).cell 13 _ rfl
  have a14 := (HA.out.ext HX1w.out).cell 14 _ rfl
  have a15 := (HA.out.ext HX1w.out).cell 15 _ rfl
  go_wp2_with fail
  refine (l1In_any d.bl 0 9999 _).mono ?_
  rintro e w2 ⟨rfl, rfl⟩
  rw [hc1.out]
  have HX2 := HX1
  have HX2w := HX1w
  clear a0 a1 a2 a3 a4 a5 a6 a7 a8 a9 a10 a11 a12 a13 a14 a15 HX1 HX1w
  have a0 := (HA.out.ext HX2w.out).cell 0 _ rfl
  have a1 := (HA.out.ext HX2w.out).cell 1 _ rfl
  have a2 := (HA.out.ext HX2w.out).cell 2 _ rfl
  have a3 := (HA.out.ext HX2w.out).cell 3 _ rfl
  have a4 := (HA.out.ext HX2w.out).cell 4 _ rfl
  have a5 := (HA.out.ext HX2w.out).cell 5 _ rfl
  have a6 := (HA.out.ext HX2w.out).cell 6 _ rfl
  have a7 := (HA.out.ext HX2w.out).cell 7 _ rfl
  have a8 := (HA.out.ext HX2w.out).cell 8 _ rfl
  have a9 := (HA.out.ext HX2w.out).cell 9 _ rfl
  have a10 := (HA.out.ext HX2w.out).cell 10 _ rfl
  have a11 := (HA.out.ext HX2w.out).cell 11 _ rfl
  have a12 := (HA.out.ext HX2w.out).cell 12 _ rfl
  have a13 := (HA.out.ext HX2w.out).cell 13 _ rfl
  have a14 := (HA.out.ext HX2w.out).cell 14 _ rfl
  have a15 := (HA.out.ext HX2w.out).cell 15 _ rfl
  go_wp2_with fail
  refine (l1Rising_any u3 d.who 0 (n - 1) _ (HL.out.i3.ext HX2.out)).mono ?_
  rintro e w3 ⟨rfl, x3⟩
  rw [hc2.out]
  have HX3 := Lib.hid (HX2.out.trans x3)
  have HX3w := Lib.hid (HX2w.out.trans x3)
  clear x3
  clear a0 a1 a2 a3 a4 a5 a6 a7 a8 a9 a10 a11 a12 a13 a14 a15 HX2 HX2w
  have a0 := (HA.out.ext HX3w.out).cell 0 _ rfl
  have a1 := (HA.out.ext HX3w.out).cell 1 _ rfl
  have a2 := (HA.out.ext HX3w.out).cell 2 _ rfl
  have a3 := (HA.out.ext HX3w.out).cell 3 _ rfl
  have a4 := (HA.out.ext HX3w.out).cell 4 _ rfl
  have a5 := (HA.out.ext HX3w.out).cell 5 _ rfl
  have a6 := (HA.out.ext HX3w.out).cell 6 _ rfl
  have a7 := (HA.out.ext HX3w.out).cell 7 _ rfl
  have a8 := (HA.out.ext HX3w.out).cell 8 _ rfl
  have a9 := (HA.out.ext HX3w.out).cell 9 _ rfl
  have a10 := (HA.out.ext HX3w.out).cell 10 _ rfl
  have a11 := (HA.out.ext HX3w.out).cell 11 _ rfl
  have a12 := (HA.out.ext HX3w.out).cell 12 _ rfl
  have a13 := (HA.out.ext HX3w.out).cell 13 _ rfl
  have a14 := (HA.out.ext HX3w.out).cell 14 _ rfl
  have a15 := (HA.out.ext HX3w.out).cell 15 _ rfl
  go_wp2_with fail
  refine (l1Has_any u3 d.who me _ (HL.out.i3.ext HX3.out)).mono ?_
  rintro e w4 ⟨rfl, x4⟩
  rw [hc3.out]
  have HX4 := Lib.hid (HX3.out.trans x4)
  have HX4w := Lib.hid (HX3w.out.trans x4)
  clear x4
  clear a0 a1 a2 a3 a4 a5 a6 a7 a8 a9 a10 a11 a12 a13 a14 a15 HX3 HX3w
  have a0 := (HA.out.ext HX4w.out).cell 0 _ rfl
  have a1 := (HA.out.ext HX4w.out).cell 1 _ rfl
  have a2 := (HA.out.ext HX4w.out).cell 2 _ rfl
  have a3 := (HA.out.ext HX4w.out).cell 3 _ rfl
  have a4 := (HA.out.ext HX4w.out).cell 4 _ rfl
  have a5 := (HA.out.ext HX4w.out).cell 5 _ rfl
  have a6 := (HA.out.ext HX4w.out).cell 6 _ rfl
  have a7 := (HA.out.ext HX4w.out).cell 7 _ rfl
  have a8 := (HA.out.ext HX4w.out).cell 8 _ rfl
  have a9 := (HA.out.ext HX4w.out).cell 9 _ rfl
  have a10 := (HA.out.ext HX4w.out).cell 10 _ rfl
  have a11 := (HA.out.ext HX4w.out).cell 11 _ rfl
  have a12 := (HA.out.ext HX4w.out).cell 12 _ rfl
  have a13 := (HA.out.ext HX4w.out).cell 13 _ rfl
  have a14 := (HA.out.ext HX4w.out).cell 14 _ rfl
  have a15 := (HA.out.ext HX4w.out).cell 15 _ rfl
  go_wp2_with fail
  refine (l3Attr_any n d.s1 u1 d.l1 _ (HL.out.i1.ext HX4.out)).mono ?_
  rintro e w5 ⟨rfl, x5⟩
  rw [hc4.out]
  have HX5 := Lib.hid (HX4.out.trans x5)
  have HX5w := Lib.hid (HX4w.out.trans x5)
  clear x5
  clear a0 a1 a2 a3 a4 a5 a6 a7 a8 a9 a10 a11 a12 a13 a14 a15 HX4 HX4w
  have a0 := (HA.out.ext HX5w.out).cell 0 _ rfl
  have a1 := (HA.out.ext HX5w.out).cell 1 _ rfl
  have a2 := (HA.out.ext HX5w.out).cell 2 _ rfl
  have a3 := (HA.out.ext HX5w.out).cell 3 _ rfl
  have a4 := (HA.out.ext HX5w.out).cell 4 _ rfl
  have a5 := (HA.out.ext HX5w.out).cell 5 _ rfl
  have a6 := (HA.out.ext HX5w.out).cell 6 _ rfl
  have a7 := (HA.out.ext HX5w.out).cell 7 _ rfl
  have a8 := (HA.out.ext HX5w.out).cell 8 _ rfl
  have a9 := (HA.out.ext HX5w.out).cell 9 _ rfl
  have a10 := (HA.out.ext HX5w.out).cell 10 _ rfl
  have a11 := (HA.out.ext HX5w.out).cell 11 _ rfl
  have a12 := (HA.out.ext HX5w.out).cell 12 _ rfl
  have a13 := (HA.out.ext HX5w.out).cell 13 _ rfl
  have a14 := (HA.out.ext HX5w.out).cell 14 _ rfl
  have a15 := (HA.out.ext HX5w.out).cell 15 _ rfl
  go_wp2_with fail
  refine (l3Attr_any n d.s2 u2 d.l2 _ (HL.out.i2.ext HX5.out)).mono ?_
  rintro e w6 ⟨rfl, x6⟩
  rw [hc5.out]
  have HX6 := Lib.hid (HX5.out.trans x6)
  have HX6w := Lib.hid (HX5w.out.trans x6)
  clear x6
  clear a0 a1 a2 a3 a4 a5 a6 a7 a8 a9 a10 a11 a12 a13 a14 a15 HX5 HX5w
  have a15 := (HA.out.ext HX6w.out).cell 15 _ rfl
  go_wp2
  clear a15
  go_loopw [55] (fun i wr => ∃ k : Nat, k ≤ d.seen.length ∧ i = .int .i64 k ∧ Hid ((d.seen.take k).all (toldB n) = true) ∧ Hid (Ext w wr) ∧ Hid (Ext wb wr)) (fun i _ => d.seen.length - (intOf i).toNat)
  case atStart => exact ⟨0, Nat.zero_le _, rfl, Lib.hid (by simp), HX6, HX6w⟩
  case round =>
    obtain ⟨k, hk, rfl, HT, HX, HXW⟩ := hrel
    by_cases hlt : k < d.seen.length
    · obtain ⟨b, off, rfl, dv⟩ := HCV.out (by omega)
      obtain ⟨r, hr⟩ : ∃ r, r = d.seen[k] := ⟨_, rfl⟩
      obtain ⟨u, hu, iu⟩ := dv k hlt
      rw [← hr] at hu iu
      obtain ⟨au, cu, rfl, _, _, _⟩ := id iu
      have HR := Lib.hid hr
      have HLT := Lib.hid hlt
      obtain ⟨g0, g1, g2, g3, g4, g5, g6, g7, g8, g9⟩ := hu.ext HX.out
      obtain ⟨w2, hw2⟩ : ∃ w2, w2 = wr.alloc (.cells #[.int .i64 r.b, .int .i64 r.v, .int .i64 r.st, .int .i64 r.k, .int .i64 r.i, .int .i64 r.f, .int .i64 r.t, .int .i64 r.a, .int .i64 r.s, .slice au r.l.length cu] 57) := ⟨_, rfl⟩
      have x2 : Ext wr w2 := by rw [hw2]; exact Ext.alloc1 _ _
      have ST : Hid (w2.cell? ⟨wr.heap.size, 2, none⟩ = some (.int .i64 r.st)) := Lib.hid (by rw [hw2]; go_simp)
      have IU := Lib.hid ((iu.ext HX.out).ext x2)
      have HW2 := Lib.hid hw2
      have X2 := Lib.hid (HX.out.trans x2)
      have X2W := Lib.hid (HXW.out.trans x2)
      clear dv hr hu iu hw2 x2
      go_wp2_with fail
      rw [← HW2.out]
      refine (l4Row_any n r _ _ IU.out HN.out).mono ?_
      rintro e w3 ⟨rfl, x3⟩
      have X3 := Lib.hid (X2.out.trans x3)
      have X3W := Lib.hid (X2W.out.trans x3)
      have st := x3.cell ST.out
      clear x3 g0 g1 g2 g3 g4 g5 g6 g7 g8 g9 IU HW2 X2 ST
      cases hg : goodRow n r with
      | false =>
        have hno := told_no (n := n) HLT.out (by rw [← HR.out]; simp [toldB, hg])
        rw [HNO.out] at hno
        cases hno
      | true =>
        by_cases h3 : r.st = 3
        · have hno := told_no (n := n) HLT.out (by rw [← HR.out]; simp [toldB, h3])
          rw [HNO.out] at hno
          cases hno
        · have HT1 := Lib.hid (told_succ HLT.out HT.out (by rw [← HR.out]; simp [toldB, hg, h3]))
          have h3' : (r.st == 3) = false := by simpa using h3
          clear h3 hg
          go_wp2
          go_roundw
          case rel => exact ⟨k + 1, by omega, by go_num, HT1, X3, X3W⟩
          case measure => simp [intOf]; omega
    · obtain rfl : k = d.seen.length := by omega
      clear HT
      have hp := HPH.out
      have hP : Hid (phaseL n d = (goodB d.k d.i d.f d.t d.a && decide (d.seen.length = 0))) := Lib.hid (by unfold phaseL; rw [if_pos hp])
      have a0 := (HA.out.ext HXW.out).cell 0 _ rfl
      have a1 := (HA.out.ext HXW.out).cell 1 _ rfl
      have a2 := (HA.out.ext HXW.out).cell 2 _ rfl
      have a3 := (HA.out.ext HXW.out).cell 3 _ rfl
      have a4 := (HA.out.ext HXW.out).cell 4 _ rfl
      have a5 := (HA.out.ext HXW.out).cell 5 _ rfl
      have a6 := (HA.out.ext HXW.out).cell 6 _ rfl
      have a7 := (HA.out.ext HXW.out).cell 7 _ rfl
      have a8 := (HA.out.ext HXW.out).cell 8 _ rfl
      have a9 := (HA.out.ext HXW.out).cell 9 _ rfl
      have a10 := (HA.out.ext HXW.out).cell 10 _ rfl
      have a11 := (HA.out.ext HXW.out).cell 11 _ rfl
      have a12 := (HA.out.ext HXW.out).cell 12 _ rfl
      have a13 := (HA.out.ext HXW.out).cell 13 _ rfl
      have a14 := (HA.out.ext HXW.out).cell 14 _ rfl
      have a15 := (HA.out.ext HXW.out).cell 15 _ rfl
      rw [hp] at a3
      clear hp
      go_wp2_with fail
      refine (specGood_any d.k d.i d.f d.t d.a _).mono ?_
      rintro e w9 ⟨rfl, x9⟩
      have b15 := x9.cell a15
      have hx := HX.out.trans x9
      clear x9 a0 a1 a2 a3 a4 a5 a6 a7 a8 a9 a10 a11 a12 a13 a14 a15
      cases hg : goodB d.k d.i d.f d.t d.a with
      | false =>
        go_wp2
        go_ret
        exact ⟨by rw [hP.out, hg]; rfl, hx⟩
      | true =>
        by_cases h0 : d.seen.length = 0
        · have h0' : ((d.seen.length : Int) == 0) = true := by simp [h0]
          go_wp2
          go_ret
          exact ⟨by rw [hP.out, hg, h0]; rfl, hx⟩
        · have h0' : ((d.seen.length : Int) == 0) = false := by simp; exact fun h => h0 (by rw [h]; rfl)
          go_wp2
          go_ret
          exact ⟨by rw [hP.out, hg, decide_eq_false h0]; rfl, hx⟩
set_option maxHeartbeats 8000000 in
set_option maxRecDepth 100000 in
theorem l8Lead_ph2 (n me : Int) (d : LeadD) (u1 u2 u3 u4 : Value) (w : World) (hl : LeadL w d u1 u2 u3 u4) (hn : isGrp n = true) (hs : d.seen.all (toldB n) = true) (hp : d.ph = 2) (hc0 : Hid (instB n d.rp d.no = true)) (hc1 : Hid (inB d.bl 0 9999 = true)) (hc2 : Hid (riseB d.who 0 (n - 1) = true)) (hc3 : Hid (hasI d.who me = true)) (hc4 : Hid (goodD n d.s1 d.l1 = true)) (hc5 : Hid (goodD n d.s2 d.l2 = true)) :
    Calls Try.prog 29 #[.int .i64 n, .int .i64 me, .agg #[.int .i64 d.rp, .int .i64 d.no, .int .i64 d.bl, .int .i64 d.ph, .int .i64 d.k, .int .i64 d.i, .int .i64 d.f, .int .i64 d.t, .int .i64 d.a, .int .i64 d.s1, u1, .int .i64 d.s2, u2, .bool d.sm, u3, u4]] w (BoolExt (phaseL n d) w) := by
  obtain ⟨h3, h5⟩ : 3 ≤ n ∧ n ≤ 5 := by rcases isGrp_of hn with rfl | rfl <;> omega
  have HN := Lib.hid hn
  have HNO := Lib.hid hs
  have HPH := Lib.hid hp
  clear hn hs hp
  obtain ⟨wb, hwb⟩ : ∃ wb, wb = w.alloc (.cells #[.int .i64 d.rp, .int .i64 d.no, .int .i64 d.bl, .int .i64 d.ph, .int .i64 d.k, .int .i64 d.i, .int .i64 d.f, .int .i64 d.t, .int .i64 d.a, .int .i64 d.s1, u1, .int .i64 d.s2, u2, .bool d.sm, u3, u4] 69) := ⟨_, rfl⟩
  have x0 : Ext w wb := by rw [hwb]; exact Ext.alloc1 _ _
  have HA : Hid (BoxV wb w.heap.size (leadVs d u1 u2 u3 u4)) := Lib.hid (by rw [hwb]; exact lead_box w _ d u1 u2 u3 u4)
  have HL := Lib.hid hl
  have HX0 := Lib.hid x0
  have HX0w := Lib.hid (Ext.refl wb)
  have HW := Lib.hid hwb
  clear hwb x0 hl
  obtain ⟨av, cv, rfl, hlv, _, hcv⟩ := HL.out.i4
  unfold maxLen at hlv
  have HCV := Lib.hid hcv
  clear hcv
  go_enter Try.func29, Try.ntmps29
  have a0 := (HA.out.ext HX0w.out).cell 0 _ rfl
  have a1 := (HA.out.ext HX0w.out).cell 1 _ rfl
  have a2 := (HA.out.ext HX0w.out).cell 2 _ rfl
  have a3 := (HA.out.ext HX0w.out).cell 3 _ rfl
  have a4 := (HA.out.ext HX0w.out).cell 4 _ rfl
  have a5 := (HA.out.ext HX0w.out).cell 5 _ rfl
  have a6 := (HA.out.ext HX0w.out).cell 6 _ rfl
  have a7 := (HA.out.ext HX0w.out).cell 7 _ rfl
  have a8 := (HA.out.ext HX0w.out).cell 8 _ rfl
  have a9 := (HA.out.ext HX0w.out).cell 9 _ rfl
  have a10 := (HA.out.ext HX0w.out).cell 10 _ rfl
  have a11 := (HA.out.ext HX0w.out).cell 11 _ rfl
  have a12 := (HA.out.ext HX0w.out).cell 12 _ rfl
  have a13 := (HA.out.ext HX0w.out).cell 13 _ rfl
  have a14 := (HA.out.ext HX0w.out).cell 14 _ rfl
  have a15 := (HA.out.ext HX0w.out).cell 15 _ rfl
  go_wp2_with fail
  rw [← HW.out]
  refine (l3Inst_any n d.rp d.no _ h3 h5).mono ?_
  rintro e w1 ⟨rfl, rfl⟩
  rw [hc0.out]
  have HX1 := HX0
  have HX1w := HX0w
  clear a0 a1 a2 a3 a4 a5 a6 a7 a8 a9 a10 a11 a12 a13 a14 a15 HX0 HX0w
  have a0 := (HA.out.ext HX1w.out).cell 0 _ rfl
  have a1 := (HA.out.ext HX1w.out).cell 1 _ rfl
  have a2 := (HA.out.ext HX1w.out).cell 2 _ rfl
  have a3 := (HA.out.ext HX1w.out).cell 3 _ rfl
  have a4 := (HA.out.ext HX1w.out).cell 4 _ rfl
  have a5 := (HA.out.ext HX1w.out).cell 5 _ rfl
  have a6 := (HA.out.ext HX1w.out).cell 6 _ rfl
  have a7 := (HA.out.ext HX1w.out).cell 7 _ rfl
  have a8 := (HA.out.ext HX1w.out).cell 8 _ rfl
  have a9 := (HA.out.ext HX1w.out).cell 9 _ rfl
  have a10 := (HA.out.ext HX1w.out).cell 10 _ rfl
  have a11 := (HA.out.ext HX1w.out).cell 11 _ rfl
  have a12 := (HA.out.ext HX1w.out).cell 12 _ rfl
  have a13 := (HA.out.ext HX1w.out).cell 13 _ rfl
  have a14 := (HA.out.ext HX1w.out).cell 14 _ rfl
  have a15 := (HA.out.ext HX1w.out).cell 15 _ rfl
  go_wp2_with fail
  refine (l1In_any d.bl 0 9999 _).mono ?_
  rintro e w2 ⟨rfl, rfl⟩
  rw [hc1.out]
  have HX2 := HX1
  have HX2w := HX1w
  clear a0 a1 a2 a3 a4 a5 a6 a7 a8 a9 a10 a11 a12 a13 a14 a15 HX1 HX1w
  have a0 := (HA.out.ext HX2w.out).cell 0 _ rfl
  have a1 := (HA.out.ext HX2w.out).cell 1 _ rfl
  have a2 := (HA.out.ext HX2w.out).cell 2 _ rfl
  have a3 := (HA.out.ext HX2w.out).cell 3 _ rfl
  have a4 := (HA.out.ext HX2w.out).cell 4 _ rfl
  have a5 := (HA.out.ext HX2w.out).cell 5 _ rfl
  have a6 := (HA.out.ext HX2w.out).cell 6 _ rfl
  have a7 := (HA.out.ext HX2w.out).cell 7 _ rfl
  have a8 := (HA.out.ext HX2w.out).cell 8 _ rfl
  have a9 := (HA.out.ext HX2w.out).cell 9 _ rfl
  have a10 := (HA.out.ext HX2w.out).cell 10 _ rfl
  have a11 := (HA.out.ext HX2w.out).cell 11 _ rfl
  have a12 := (HA.out.ext HX2w.out).cell 12 _ rfl
  have a13 := (HA.out.ext HX2w.out).cell 13 _ rfl
  have a14 := (HA.out.ext HX2w.out).cell 14 _ rfl
  have a15 := (HA.out.ext HX2w.out).cell 15 _ rfl
  go_wp2_with fail
  refine (l1Rising_any u3 d.who 0 (n - 1) _ (HL.out.i3.ext HX2.out)).mono ?_
  rintro e w3 ⟨rfl, x3⟩
  rw [hc2.out]
  have HX3 := Lib.hid (HX2.out.trans x3)
  have HX3w := Lib.hid (HX2w.out.trans x3)
  clear x3
  clear a0 a1 a2 a3 a4 a5 a6 a7 a8 a9 a10 a11 a12 a13 a14 a15 HX2 HX2w
  have a0 := (HA.out.ext HX3w.out).cell 0 _ rfl
  have a1 := (HA.out.ext HX3w.out).cell 1 _ rfl
  have a2 := (HA.out.ext HX3w.out).cell 2 _ rfl
  have a3 := (HA.out.ext HX3w.out).cell 3 _ rfl
  have a4 := (HA.out.ext HX3w.out).cell 4 _ rfl
  have a5 := (HA.out.ext HX3w.out).cell 5 _ rfl
  have a6 := (HA.out.ext HX3w.out).cell 6 _ rfl
  have a7 := (HA.out.ext HX3w.out).cell 7 _ rfl
  have a8 := (HA.out.ext HX3w.out).cell 8 _ rfl
  have a9 := (HA.out.ext HX3w.out).cell 9 _ rfl
  have a10 := (HA.out.ext HX3w.out).cell 10 _ rfl
  have a11 := (HA.out.ext HX3w.out).cell 11 _ rfl
  have a12 := (HA.out.ext HX3w.out).cell 12 _ rfl
  have a13 := (HA.out.ext HX3w.out).cell 13 _ rfl
  have a14 := (HA.out.ext HX3w.out).cell 14 _ rfl
  have a15 := (HA.out.ext HX3w.out).cell 15 _ rfl
  go_wp2_with fail
  refine (l1Has_any u3 d.who me _ (HL.out.i3.ext HX3.out)).mono ?_
  rintro e w4 ⟨rfl, x4⟩
  rw [hc3.out]
  have HX4 := Lib.hid (HX3.out.trans x4)
  have HX4w := Lib.hid (HX3w.out.trans x4)
  clear x4
  clear a0 a1 a2 a3 a4 a5 a6 a7 a8 a9 a10 a11 a12 a13 a14 a15 HX3 HX3w
  have a0 := (HA.out.ext HX4w.out).cell 0 _ rfl
  have a1 := (HA.out.ext HX4w.out).cell 1 _ rfl
  have a2 := (HA.out.ext HX4w.out).cell 2 _ rfl
  have a3 := (HA.out.ext HX4w.out).cell 3 _ rfl
  have a4 := (HA.out.ext HX4w.out).cell 4 _ rfl
  have a5 := (HA.out.ext HX4w.out).cell 5 _ rfl
  have a6 := (HA.out.ext HX4w.out).cell 6 _ rfl
  have a7 := (HA.out.ext HX4w.out).cell 7 _ rfl
  have a8 := (HA.out.ext HX4w.out).cell 8 _ rfl
  have a9 := (HA.out.ext HX4w.out).cell 9 _ rfl
  have a10 := (HA.out.ext HX4w.out).cell 10 _ rfl
  have a11 := (HA.out.ext HX4w.out).cell 11 _ rfl
  have a12 := (HA.out.ext HX4w.out).cell 12 _ rfl
  have a13 := (HA.out.ext HX4w.out).cell 13 _ rfl
  have a14 := (HA.out.ext HX4w.out).cell 14 _ rfl
  have a15 := (HA.out.ext HX4w.out).cell 15 _ rfl
  go_wp2_with fail
  refine (l3Attr_any n d.s1 u1 d.l1 _ (HL.out.i1.ext HX4.out)).mono ?_
  rintro e w5 ⟨rfl, x5⟩
  rw [hc4.out]
  have HX5 := Lib.hid (HX4.out.trans x5)
  have HX5w := Lib.hid (HX4w.out.trans x5)
  clear x5
  clear a0 a1 a2 a3 a4 a5 a6 a7 a8 a9 a10 a11 a12 a13 a14 a15 HX4 HX4w
  have a0 := (HA.out.ext HX5w.out).cell 0 _ rfl
  have a1 := (HA.out.ext HX5w.out).cell 1 _ rfl
  have a2 := (HA.out.ext HX5w.out).cell 2 _ rfl
  have a3 := (HA.out.ext HX5w.out).cell 3 _ rfl
  have a4 := (HA.out.ext HX5w.out).cell 4 _ rfl
  have a5 := (HA.out.ext HX5w.out).cell 5 _ rfl
  have a6 := (HA.out.ext HX5w.out).cell 6 _ rfl
  have a7 := (HA.out.ext HX5w.out).cell 7 _ rfl
  have a8 := (HA.out.ext HX5w.out).cell 8 _ rfl
  have a9 := (HA.out.ext HX5w.out).cell 9 _ rfl
  have a10 := (HA.out.ext HX5w.out).cell 10 _ rfl
  have a11 := (HA.out.ext HX5w.out).cell 11 _ rfl
  have a12 := (HA.out.ext HX5w.out).cell 12 _ rfl
  have a13 := (HA.out.ext HX5w.out).cell 13 _ rfl
  have a14 := (HA.out.ext HX5w.out).cell 14 _ rfl
  have a15 := (HA.out.ext HX5w.out).cell 15 _ rfl
  go_wp2_with fail
  refine (l3Attr_any n d.s2 u2 d.l2 _ (HL.out.i2.ext HX5.out)).mono ?_
  rintro e w6 ⟨rfl, x6⟩
  rw [hc5.out]
  have HX6 := Lib.hid (HX5.out.trans x6)
  have HX6w := Lib.hid (HX5w.out.trans x6)
  clear x6
  clear a0 a1 a2 a3 a4 a5 a6 a7 a8 a9 a10 a11 a12 a13 a14 a15 HX5 HX5w
  have a15 := (HA.out.ext HX6w.out).cell 15 _ rfl
  go_wp2
  clear a15
  go_loopw [55] (fun i wr => ∃ k : Nat, k ≤ d.seen.length ∧ i = .int .i64 k ∧ Hid ((d.seen.take k).all (toldB n) = true) ∧ Hid (Ext w wr) ∧ Hid (Ext wb wr)) (fun i _ => d.seen.length - (intOf i).toNat)
  case atStart => exact ⟨0, Nat.zero_le _, rfl, Lib.hid (by simp), HX6, HX6w⟩
  case round =>
    obtain ⟨k, hk, rfl, HT, HX, HXW⟩ := hrel
    by_cases hlt : k < d.seen.length
    · obtain ⟨b, off, rfl, dv⟩ := HCV.out (by omega)
      obtain ⟨r, hr⟩ : ∃ r, r = d.seen[k] := ⟨_, rfl⟩
      obtain ⟨u, hu, iu⟩ := dv k hlt
      rw [← hr] at hu iu
      obtain ⟨au, cu, rfl, _, _, _⟩ := id iu
      have HR := Lib.hid hr
      have HLT := Lib.hid hlt
      obtain ⟨g0, g1, g2, g3, g4, g5, g6, g7, g8, g9⟩ := hu.ext HX.out
      obtain ⟨w2, hw2⟩ : ∃ w2, w2 = wr.alloc (.cells #[.int .i64 r.b, .int .i64 r.v, .int .i64 r.st, .int .i64 r.k, .int .i64 r.i, .int .i64 r.f, .int .i64 r.t, .int .i64 r.a, .int .i64 r.s, .slice au r.l.length cu] 57) := ⟨_, rfl⟩
      have x2 : Ext wr w2 := by rw [hw2]; exact Ext.alloc1 _ _
      have ST : Hid (w2.cell? ⟨wr.heap.size, 2, none⟩ = some (.int .i64 r.st)) := Lib.hid (by rw [hw2]; go_simp)
      have IU := Lib.hid ((iu.ext HX.out).ext x2)
      have HW2 := Lib.hid hw2
      have X2 := Lib.hid (HX.out.trans x2)
      have X2W := Lib.hid (HXW.out.trans x2)
      clear dv hr hu iu hw2 x2
      go_wp2_with fail
      rw [← HW2.out]
      refine (l4Row_any n r _ _ IU.out HN.out).mono ?_
      rintro e w3 ⟨rfl, x3⟩
      have X3 := Lib.hid (X2.out.trans x3)
      have X3W := Lib.hid (X2W.out.trans x3)
      have st := x3.cell ST.out
      clear x3 g0 g1 g2 g3 g4 g5 g6 g7 g8 g9 IU HW2 X2 ST
      cases hg : goodRow n r with
      | false =>
        have hno := told_no (n := n) HLT.out (by rw [← HR.out]; simp [toldB, hg])
        rw [HNO.out] at hno
        cases hno
      | true =>
        by_cases h3 : r.st = 3
        · have hno := told_no (n := n) HLT.out (by rw [← HR.out]; simp [toldB, h3])
          rw [HNO.out] at hno
          cases hno
        · have HT1 := Lib.hid (told_succ HLT.out HT.out (by rw [← HR.out]; simp [toldB, hg, h3]))
          have h3' : (r.st == 3) = false := by simpa using h3
          clear h3 hg
          go_wp2
          go_roundw
          case rel => exact ⟨k + 1, by omega, by go_num, HT1, X3, X3W⟩
          case measure => simp [intOf]; omega
    · obtain rfl : k = d.seen.length := by omega
      clear HT
      have hp := HPH.out
      have hP : Hid (phaseL n d = (goodB d.k d.i d.f d.t d.a && (decide (d.seen.length = 0) && (!d.sm && sameA d.s1 d.s2 d.l1 d.l2)))) := Lib.hid (by unfold phaseL; rw [if_neg (by omega), if_pos hp])
      have a0 := (HA.out.ext HXW.out).cell 0 _ rfl
      have a1 := (HA.out.ext HXW.out).cell 1 _ rfl
      have a2 := (HA.out.ext HXW.out).cell 2 _ rfl
      have a3 := (HA.out.ext HXW.out).cell 3 _ rfl
      have a4 := (HA.out.ext HXW.out).cell 4 _ rfl
      have a5 := (HA.out.ext HXW.out).cell 5 _ rfl
      have a6 := (HA.out.ext HXW.out).cell 6 _ rfl
      have a7 := (HA.out.ext HXW.out).cell 7 _ rfl
      have a8 := (HA.out.ext HXW.out).cell 8 _ rfl
      have a9 := (HA.out.ext HXW.out).cell 9 _ rfl
      have a10 := (HA.out.ext HXW.out).cell 10 _ rfl
      have a11 := (HA.out.ext HXW.out).cell 11 _ rfl
      have a12 := (HA.out.ext HXW.out).cell 12 _ rfl
      have a13 := (HA.out.ext HXW.out).cell 13 _ rfl
      have a14 := (HA.out.ext HXW.out).cell 14 _ rfl
      have a15 := (HA.out.ext HXW.out).cell 15 _ rfl
      rw [hp] at a3
      clear hp
      go_wp2_with fail
      refine (specGood_any d.k d.i d.f d.t d.a _).mono ?_
      rintro e w9 ⟨rfl, x9⟩
      have HX9 := Lib.hid (HX.out.trans x9)
      have HX9w := Lib.hid (HXW.out.trans x9)
      clear x9 a0 a1 a2 a3 a4 a5 a6 a7 a8 a9 a10 a11 a12 a13 a14 a15
      have a0 := (HA.out.ext HX9w.out).cell 0 _ rfl
      have a1 := (HA.out.ext HX9w.out).cell 1 _ rfl
      have a2 := (HA.out.ext HX9w.out).cell 2 _ rfl
      have a3 := (HA.out.ext HX9w.out).cell 3 _ rfl
      have a4 := (HA.out.ext HX9w.out).cell 4 _ rfl
      have a5 := (HA.out.ext HX9w.out).cell 5 _ rfl
      have a6 := (HA.out.ext HX9w.out).cell 6 _ rfl
      have a7 := (HA.out.ext HX9w.out).cell 7 _ rfl
      have a8 := (HA.out.ext HX9w.out).cell 8 _ rfl
      have a9 := (HA.out.ext HX9w.out).cell 9 _ rfl
      have a10 := (HA.out.ext HX9w.out).cell 10 _ rfl
      have a11 := (HA.out.ext HX9w.out).cell 11 _ rfl
      have a12 := (HA.out.ext HX9w.out).cell 12 _ rfl
      have a13 := (HA.out.ext HX9w.out).cell 13 _ rfl
      have a14 := (HA.out.ext HX9w.out).cell 14 _ rfl
      have a15 := (HA.out.ext HX9w.out).cell 15 _ rfl
      cases hg : goodB d.k d.i d.f d.t d.a with
      | false =>
        go_wp2
        go_ret
        exact ⟨by rw [hP.out, hg]; rfl, HX9.out⟩
      | true =>
        by_cases h0 : d.seen.length = 0
        · have h0' : ((d.seen.length : Int) == 0) = true := by simp [h0]
          cases hm : d.sm with
          | true =>
            rw [hm] at a13
            go_wp2
            go_ret
            exact ⟨by rw [hP.out, hg, h0, hm]; rfl, HX9.out⟩
          | false =>
            rw [hm] at a13
            go_wp2_with fail
            refine (specSame_any d.s1 d.s2 u1 u2 d.l1 d.l2 _ (HL.out.i1.ext HX9.out) (HL.out.i2.ext HX9.out)).mono ?_
            rintro e w10 ⟨rfl, x10⟩
            have hx := HX9.out.trans x10
            clear x10 a0 a1 a2 a3 a4 a5 a6 a7 a8 a9 a10 a11 a12 a13 a14 a15
            go_wp2
            go_ret
            exact ⟨by rw [hP.out, hg, h0, hm]; simp, hx⟩
        · have h0' : ((d.seen.length : Int) == 0) = false := by simp; exact fun h => h0 (by rw [h]; rfl)
          go_wp2
          go_ret
          exact ⟨by rw [hP.out, hg, decide_eq_false h0]; rfl, HX9.out⟩
end Go.Proofs.Ytbffkidkfannhaa
