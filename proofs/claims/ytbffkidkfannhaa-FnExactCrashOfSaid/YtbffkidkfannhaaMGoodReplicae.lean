/- Texts of this proof, part e: words, plain facts, contracts. -/
import Derived.Test.YtbffkidkfannhaaMGoodReplicad
import Derived.Test.YtbffkidkfannhaaMGoodReplicab
import Derived.Test.YtbffkidkfannhaaMGoodReplicac

namespace Go.Proofs.Ytbffkidkfannhaa
open Go.RowKit
set_option linter.unusedVariables false

/-- What the first line of both tests asks of a lead. -/
def headL (n me : Int) (d : LeadD) : Bool := instB n d.rp d.no && (inB d.bl 0 9999 && (riseB d.who 0 (n - 1) && (hasI d.who me && (goodD n d.s1 d.l1 && goodD n d.s2 d.l2))))
set_option maxHeartbeats 2000000 in
set_option maxRecDepth 100000 in
theorem l8Lead_head0 (n me : Int) (d : LeadD) (u1 u2 u3 u4 : Value) (w : World) (hl : LeadL w d u1 u2 u3 u4) (h3 : 3 ≤ n) (h5 : n ≤ 5) (hc0 : Hid (instB n d.rp d.no = false)) :
    Calls Try.prog 29 #[.int .i64 n, .int .i64 me, .agg #[.int .i64 d.rp, .int .i64 d.no, .int .i64 d.bl, .int .i64 d.ph, .int .i64 d.k, .int .i64 d.i, .int .i64 d.f, .int .i64 d.t, .int .i64 d.a, .int .i64 d.s1, u1, .int .i64 d.s2, u2, .bool d.sm, u3, u4]] w (BoolExt false w) := by
  obtain ⟨wb, hwb⟩ : ∃ wb, wb = w.alloc (.cells #[.int .i64 d.rp, .int .i64 d.no, .int .i64 d.bl, .int .i64 d.ph, .int .i64 d.k, .int .i64 d.i, .int .i64 d.f, .int .i64 d.t, .int .i64 d.a, .int .i64 d.s1, u1, .int .i64 d.s2, u2, .bool d.sm, u3, u4] 69) := ⟨_, rfl⟩
  have x0 : Ext w wb := by rw [hwb]; exact Ext.alloc1 _ _
  have HA : Hid (BoxV wb w.heap.size (leadVs d u1 u2 u3 u4)) := Lib.hid (by rw [hwb]; exact lead_box w _ d u1 u2 u3 u4)
  have HL := Lib.hid hl
  have HX0 := Lib.hid x0
  have HX0w := Lib.hid (Ext.refl wb)
  have HW := Lib.hid hwb
  clear hwb x0 hl
  go_enter Try.func29, Try.ntmps29
  have a0 := (HA.out.ext HX0w.out).cell 0 _ rfl
  have a1 := (HA.out.ext HX0w.out).cell 1 _ rfl
  have a2 := (HA.out.ext HX0w.out).cell 2 _ rfl
  have a3 := (HA.out.ext HX0w.out).cell 3 _ rfl
  have a4 := (HA.out.ext HX0w.out).cell 4 _ rfl
  have a5 := (HA.out.ext HX0w.out).cell 5 _ rfl
  have a6 := (HA.out.ext HX0w.out).cell 6 _ rfl
  have a7 := (HA.out.ext HX0w.out).cell 7 _ rfl
  have a8 := (HA.out.ext HX0w.out).cell 8 _ rfl
  have a9 := (HA.out.ext HX0w.out).cell 9 _ rfl
  have a10 := (HA.out.ext HX0w.out).cell 10 _ rfl
  have a11 := (HA.out.ext HX0w.out).cell 11 _ rfl
  have a12 := (HA.out.ext HX0w.out).cell 12 _ rfl
  have a13 := (HA.out.ext HX0w.out).cell 13 _ rfl
  have a14 := (HA.out.ext HX0w.out).cell 14 _ rfl
  have a15 := (HA.out.ext HX0w.out).cell 15 _ rfl
  go_wp2_with fail
  rw [← HW.out]
  refine (l3Inst_any n d.rp d.no _ h3 h5).mono ?_
  rintro e w1 ⟨rfl, rfl⟩
  rw [hc0.out]
  have HX1 := HX0
  have HX1w := HX0w
  clear a0 a1 a2 a3 a4 a5 a6 a7 a8 a9 a10 a11 a12 a13 a14 a15 HX0 HX0w
  go_wp2
  go_ret
  exact ⟨rfl, HX1.out⟩
set_option maxHeartbeats 2000000 in
set_option maxRecDepth 100000 in
theorem l8Lead_head1 (n me : Int) (d : LeadD) (u1 u2 u3 u4 : Value) (w : World) (hl : LeadL w d u1 u2 u3 u4) (h3 : 3 ≤ n) (h5 : n ≤ 5) (hc0 : Hid (instB n d.rp d.no = true)) (hc1 : Hid (inB d.bl 0 9999 = false)) :
    Calls Try.prog 29 #[.int .i64 n, .int .i64 me, .agg #[.int .i64 d.rp, .int .i64 d.no, .int .i64 d.bl, .int .i64 d.ph, .int .i64 d.k, .int .i64 d.i, .int .i64 d.f, .int .i64 d.t, .int .i64 d.a, .int .i64 d.s1, u1, .int .i64 d.s2, u2, .bool d.sm, u3, u4]] w (BoolExt false w) := by
  obtain ⟨wb, hwb⟩ : ∃ wb, wb = w.alloc (.cells #[.int .i64 d.rp, .int .i64 d.no, .int .i64 d.bl, .int .i64 d.ph, .int .i64 d.k, .int .i64 d.i, .int .i64 d.f, .int .i64 d.t, .int .i64 d.a, .int .i64 d.s1, u1, .int .i64 d.s2, u2, .bool d.sm, u3, u4] 69) := ⟨_, rfl⟩
  have x0 : Ext w wb := by rw [hwb]; exact Ext.alloc1 _ _
  have HA : Hid (BoxV wb w.heap.size (leadVs d u1 u2 u3 u4)) := Lib.hid (by rw [hwb]; exact lead_box w _ d u1 u2 u3 u4)
  have HL := Lib.hid hl
  have HX0 := Lib.hid x0
  have HX0w := Lib.hid (Ext.refl wb)
  have HW := Lib.hid hwb
  clear hwb x0 hl
  go_enter Try.func29, Try.ntmps29
  have a0 := (HA.out.ext HX0w.out).cell 0 _ rfl
  have a1 := (HA.out.ext HX0w.out).cell 1 _ rfl
  have a2 := (HA.out.ext HX0w.out).cell 2 _ rfl
  have a3 := (HA.out.ext HX0w.out).cell 3 _ rfl
  have a4 := (HA.out.ext HX0w.out).cell 4 _ rfl
  have a5 := (HA.out.ext HX0w.out).cell 5 _ rfl
  have a6 := (HA.out.ext HX0w.out).cell 6 _ rfl
  have a7 := (HA.out.ext HX0w.out).cell 7 _ rfl
  have a8 := (HA.out.ext HX0w.out).cell 8 _ rfl
  have a9 := (HA.out.ext HX0w.out).cell 9 _ rfl
  have a10 := (HA.out.ext HX0w.out).cell 10 _ rfl
  have a11 := (HA.out.ext HX0w.out).cell 11 _ rfl
  have a12 := (HA.out.ext HX0w.out).cell 12 _ rfl
  have a13 := (HA.out.ext HX0w.out).cell 13 _ rfl
  have a14 := (HA.out.ext HX0w.out).cell 14 _ rfl
  have a15 := (HA.out.ext HX0w.out).cell 15 _ rfl
  go_wp2_with fail
  rw [← HW.out]
  refine (l3Inst_any n d.rp d.no _ h3 h5).mono ?_
  rintro e w1 ⟨rfl, rfl⟩
  rw [hc0.out]
  have HX1 := HX0
  have HX1w := HX0w
  clear a0 a1 a2 a3 a4 a5 a6 a7 a8 a9 a10 a11 a12 a13 a14 a15 HX0 HX0w
  have a0 := (HA.out.ext HX1w.out).cell 0 _ rfl
  have a1 := (HA.out.ext HX1w.out).cell 1 _ rfl
  have a2 := (HA.out.ext HX1w.out).cell 2 _ rfl
  have a3 := (HA.out.ext HX1w.out).cell 3 _ rfl
  have a4 := (HA.out.ext HX1w.out).cell 4 _ rfl
  have a5 := (HA.out.ext HX1w.out).cell 5 _ rfl
  have a6 := (HA.out.ext HX1w.out).cell 6 _ rfl
  have a7 := (HA.out.ext HX1w.out).cell 7 _ rfl
  have a8 := (HA.out.ext HX1w.out).cell 8 _ rfl
  have a9 := (HA.out.ext HX1w.out).cell 9 _ rfl
  have a10 := (HA.out.ext HX1w.out).cell 10 _ rfl
  have a11 := (HA.out.ext HX1w.out).cell 11 _ rfl
  have a12 := (HA.out.ext HX1w.out).cell 12 _ rfl
  have a13 := (HA.out.ext HX1w.out).cell 13 _ rfl
  have a14 := (HA.out.ext HX1w.out).cell 14 _ rfl
  have a15 := (HA.out.ext HX1w.out).cell 15 _ rfl
  go_wp2_with fail
  refine (l1In_any d.bl 0 9999 _).mono ?_
  rintro e w2 ⟨rfl, rfl⟩
  rw [hc1.out]
  have HX2 := HX1
  have HX2w := HX1w
  clear a0 a1 a2 a3 a4 a5 a6 a7 a8 a9 a10 a11 a12 a13 a14 a15 HX1 HX1w
  go_wp2
  go_ret
  exact ⟨rfl, HX2.out⟩
set_option maxHeartbeats 2000000 in
set_option maxRecDepth 100000 in
theorem l8Lead_head2 (n me : Int) (d : LeadD) (u1 u2 u3 u4 : Value) (w : World) (hl : LeadL w d u1 u2 u3 u4) (h3 : 3 ≤ n) (h5 : n ≤ 5) (hc0 : Hid (instB n d.rp d.no = true)) (hc1 : Hid (inB d.bl 0 9999 = true)) (hc2 : Hid (riseB d.who 0 (n - 1) = false)) :
    Calls Try.prog 29 #[.int .i64 n, .int .i64 me, .agg #[.int .i64 d.rp, .int .i64 d.no, .int .i64 d.bl, .int .i64 d.ph, .int .i64 d.k, .int .i64 d.i, .int .i64 d.f, .int .i64 d.t, .int .i64 d.a, .int .i64 d.s1, u1, .int .i64 d.s2, u2, .bool d.sm, u3, u4]] w (BoolExt false w) := by
  obtain ⟨wb, hwb⟩ : ∃ wb, wb = w.alloc (.cells #[.int .i64 d.rp, .int .i64 d.no, .int .i64 d.bl, .int .i64 d.ph, .int .i64 d.k, .int .i64 d.i, .int .i64 d.f, .int .i64 d.t, .int .i64 d.a, .int .i64 d.s1, u1, .int .i64 d.s2, u2, .bool d.sm, u3, u4] 69) := ⟨_, rfl⟩
  have x0 : Ext w wb := by rw [hwb]; exact Ext.alloc1 _ _
  have HA : Hid (BoxV wb w.heap.size (leadVs d u1 u2 u3 u4)) := Lib.hid (by rw [hwb]; exact lead_box w _ d u1 u2 u3 u4)
  have HL := Lib.hid hl
  have HX0 := Lib.hid x0
  have HX0w := Lib.hid (Ext.refl wb)
  have HW := Lib.hid hwb
  clear hwb x0 hl
  go_enter Try.func29, Try.ntmps29
  have a0 := (HA.out.ext HX0w.out).cell 0 _ rfl
  have a1 := (HA.out.ext HX0w.out).cell 1 _ rfl
  have a2 := (HA.out.ext HX0w.out).cell 2 _ rfl
  have a3 := (HA.out.ext HX0w.out).cell 3 _ rfl
  have a4 := (HA.out.ext HX0w.out).cell 4 _ rfl
  have a5 := (HA.out.ext HX0w.out).cell 5 _ rfl
  have a6 := (HA.out.ext HX0w.out).cell 6 _ rfl
  have a7 := (HA.out.ext HX0w.out).cell 7 _ rfl
  have a8 := (HA.out.ext HX0w.out).cell 8 _ rfl
  have a9 := (HA.out.ext HX0w.out).cell 9 _ rfl
  have a10 := (HA.out.ext HX0w.out).cell 10 _ rfl
  have a11 := (HA.out.ext HX0w.out).cell 11 _ rfl
  have a12 := (HA.out.ext HX0w.out).cell 12 _ rfl
  have a13 := (HA.out.ext HX0w.out).cell 13 _ rfl
  have a14 := (HA.out.ext HX0w.out).cell 14 _ rfl
  have a15 := (HA.out.ext HX0w.out).cell 15 _ rfl
  go_wp2_with fail
  rw [← HW.out]
  refine (l3Inst_any n d.rp d.no _ h3 h5).mono ?_
  rintro e w1 ⟨rfl, rfl⟩
  rw [hc0.out]
  have HX1 := HX0
  have HX1w := HX0w
  clear a0 a1 a2 a3 a4 a5 a6 a7 a8 a9 a10 a11 a12 a13 a14 a15 HX0 HX0w
  have a0 := (HA.out.ext HX1w.out).cell 0 _ rfl
  have a1 := (HA.out.ext HX1w.out).cell 1 _ rfl
  have a2 := (HA.out.ext HX1w.out).cell 2 _ rfl
  have a3 := (HA.out.ext HX1w.out).cell 3 _ rfl
  have a4 := (HA.out.ext HX1w.out).cell 4 _ rfl
  have a5 := (HA.out.ext HX1w.out).cell 5 _ rfl
  have a6 := (HA.out.ext HX1w.out).cell 6 _ rfl
  have a7 := (HA.out.ext HX1w.out).cell 7 _ rfl
  have a8 := (HA.out.ext HX1w.out).cell 8 _ rfl
  have a9 := (HA.out.ext HX1w.out).cell 9 _ rfl
  have a10 := (HA.out.ext HX1w.out).cell 10 _ rfl
  have a11 := (HA.out.ext HX1w.out).cell 11 _ rfl
  have a12 := (HA.out.ext HX1w.out).cell 12 _ rfl
  have a13 := (HA.out.ext HX1w.out).cell 13 _ rfl
  have a14 := (HA.out.ext HX1w.out).cell 14 _ rfl
  have a15 := (HA.out.ext HX1w.out).cell 15 _ rfl
  go_wp2_with fail
  refine (l1In_any d.bl 0 9999 _).mono ?_
  rintro e w2 ⟨rfl, rfl⟩
  rw [hc1.out]
  have HX2 := HX1
  have HX2w := HX1w
  clear a0 a1 a2 a3 a4 a5 a6 a7 a8 a9 a10 a11 a12 a13 a14 a15 HX1 HX1w
  have a0 := (HA.out.ext HX2w.out).cell 0 _ rfl
  have a1 := (HA.out.ext HX2w.out).cell 1 _ rfl
  have a2 := (HA.out.ext HX2w.out).cell 2 _ rfl
  have a3 := (HA.out.ext HX2w.out).cell 3 _ rfl
  have a4 := (HA.out.ext HX2w.out).cell 4 _ rfl
  have a5 := (HA.out.ext HX2w.out).cell 5 _ rfl
  have a6 := (HA.out.ext HX2w.out).cell 6 _ rfl
  have a7 := (HA.out.ext HX2w.out).cell 7 _ rfl
  have a8 := (HA.out.ext HX2w.out).cell 8 _ rfl
  have a9 := (HA.out.ext HX2w.out).cell 9 _ rfl
  have a10 := (HA.out.ext HX2w.out).cell 10 _ rfl
  have a11 := (HA.out.ext HX2w.out).cell 11 _ rfl
  have a12 := (HA.out.ext HX2w.out).cell 12 _ rfl
  have a13 := (HA.out.ext HX2w.out).cell 13 _ rfl
  have a14 := (HA.out.ext HX2w.out).cell 14 _ rfl
  have a15 := (HA.out.ext HX2w.out).cell 15 _ rfl
  go_wp2_with fail
  refine (l1Rising_any u3 d.who 0 (n - 1) _ (HL.out.i3.ext HX2.out)).mono ?_
  rintro e w3 ⟨rfl, x3⟩
  rw [hc2.out]
  have HX3 := Lib.hid (HX2.out.trans x3)
  have HX3w := Lib.hid (HX2w.out.trans x3)
  clear x3
  clear a0 a1 a2 a3 a4 a5 a6 a7 a8 a9 a10 a11 a12 a13 a14 a15 HX2 HX2w
  go_wp2
  go_ret
  exact ⟨rfl, HX3.out⟩
set_option maxHeartbeats 2000000 in
set_option maxRecDepth 100000 in
theorem l8Lead_head3 (n me : Int) (d : LeadD) (u1 u2 u3 u4 : Value) (w : World) (hl : LeadL w d u1 u2 u3 u4) (h3 : 3 ≤ n) (h5 : n ≤ 5) (hc0 : Hid (instB n d.rp d.no = true)) (hc1 : Hid (inB d.bl 0 9999 = true)) (hc2 : Hid (riseB d.who 0 (n - 1) = true)) (hc3 : Hid (hasI d.who me = false)) :
    Calls Try.prog 29 #[.int .i64 n, .int .i64 me, .agg #[.int .i64 d.rp, .int .i64 d.no, .int .i64 d.bl, .int .i64 d.ph, .int .i64 d.k, .int .i64 d.i, .int .i64 d.f, .int .i64 d.t, .int .i64 d.a, .int .i64 d.s1, u1, .int .i64 d.s2, u2, .bool d.sm, u3, u4]] w (BoolExt false w) := by
  obtain ⟨wb, hwb⟩ : ∃ wb, wb = w.alloc (.cells #[.int .i64 d.rp, .int .i64 d.no, .int .i64 d.bl, .int .i64 d.ph, .int .i64 d.k, .int .i64 d.i, .int .i64 d.f, .int .i64 d.t, .int .i64 d.a, .int .i64 d.s1, u1, .int .i64 d.s2, u2, .bool d.sm, u3, u4] 69) := ⟨_, rfl⟩
  have x0 : Ext w wb := by rw [hwb]; exact Ext.alloc1 _ _
  have HA : Hid (BoxV wb w.heap.size (leadVs d u1 u2 u3 u4)) := Lib.hid (by rw [hwb]; exact lead_box w _ d u1 u2 u3 u4)
  have HL := Lib.hid hl
  have HX0 := Lib.hid x0
  have HX0w := Lib.hid (Ext.refl wb)
  have HW := Lib.hid hwb
  clear hwb x0 hl
  go_enter Try.func29, Try.ntmps29
  have a0 := (HA.out.ext HX0w.out).cell 0 _ rfl
  have a1 := (HA.out.ext HX0w.out).cell 1 _ rfl
  have a2 := (HA.out.ext HX0w.out).cell 2 _ rfl
  have a3 := (HA.out.ext HX0w.out).cell 3 _ rfl
  have a4 := (HA.out.ext HX0w.out).cell 4 _ rfl
  have a5 := (HA.out.ext HX0w.out).cell 5 _ rfl
  have a6 := (HA.out.ext HX0w.out).cell 6 _ rfl
  have a7 := (HA.out.ext HX0w.out).cell 7 _ rfl
  have a8 := (HA.out.ext HX0w.out).cell 8 _ rfl
  have a9 := (HA.out.ext HX0w.out).cell 9 _ rfl
  have a10 := (HA.out.ext HX0w.out).cell 10 _ rfl
  have a11 := (HA.out.ext HX0w.out).cell 11 _ rfl
  have a12 := (HA.out.ext HX0w.out).cell 12 _ rfl
  have a13 := (HA.out.ext HX0w.out).cell 13 _ rfl
  have a14 := (HA.out.ext HX0w.out).cell 14 _ rfl
  have a15 := (HA.out.ext HX0w.out).cell 15 _ rfl
  go_wp2_with fail
  rw [← HW.out]
  refine (l3Inst_any n d.rp d.no _ h3 h5).mono ?_
  rintro e w1 ⟨rfl, rfl⟩
  rw [hc0.out]
  have HX1 := HX0
  have HX1w := HX0w
  clear a0 a1 a2 a3 a4 a5 a6 a7 a8 a9 a10 a11 a12 a13 a14 a15 HX0 HX0w
  have a0 := (HA.out.ext HX1w.out).cell 0 _ rfl
  have a1 := (HA.out.ext HX1w.out).cell 1 _ rfl
  have a2 := (HA.out.ext HX1w.out).cell 2 _ rfl
  have a3 := (HA.out.ext HX1w.out).cell 3 _ rfl
  have a4 := (HA.out.ext HX1w.out).cell 4 _ rfl
  have a5 := (HA.out.ext HX1w.out).cell 5 _ rfl
  have a6 := (HA.out.ext HX1w.out).cell 6 _ rfl
  have a7 := (HA.out.ext HX1w.out).cell 7 _ rfl
  have a8 := (HA.out.ext HX1w.out).cell 8 _ rfl
  have a9 := (HA.out.ext HX1w.out).cell 9 _ rfl
  have a10 := (HA.out.ext HX1w.out).cell 10 _ rfl
  have a11 := (HA.out.ext HX1w.out).cell 11 _ rfl
  have a12 := (HA.out.ext HX1w.out).cell 12 _ rfl
  have a13 := (HA.out.ext HX1w.out).cell 13 _ rfl
  have a14 := (HA.out.ext HX1w.out).cell 14 _ rfl
  have a15 := (HA.out.ext HX1w.out).cell 15 _ rfl
  go_wp2_with fail
  refine (l1In_any d.bl 0 9999 _).mono ?_
  rintro e w2 ⟨rfl, rfl⟩
  rw [hc1.out]
  have HX2 := HX1
  have HX2w := HX1w
  clear a0 a1 a2 a3 a4 a5 a6 a7 a8 a9 a10 a11 a12 a13 a14 a15 HX1 HX1w
  have a0 := (HA.out.ext HX2w.out).cell 0 _ rfl
  have a1 := (HA.out.ext HX2w.out).cell 1 _ rfl
  have a2 := (HA.out.ext HX2w.out).cell 2 _ rfl
  have a3 := (HA.out.ext HX2w.out).cell 3 _ rfl
  have a4 := (HA.out.ext HX2w.out).cell 4 _ rfl
  have a5 := (HA.out.ext HX2w.out).cell 5 _ rfl
  have a6 := (HA.out.ext HX2w.out).cell 6 _ rfl
  have a7 := (HA.out.ext HX2w.out).cell 7 _ rfl
  have a8 := (HA.out.ext HX2w.out).cell 8 _ rfl
  have a9 := (HA.out.ext HX2w.out).cell 9 _ rfl
  have a10 := (HA.out.ext HX2w.out).cell 10 _ rfl
  have a11 := (HA.out.ext HX2w.out).cell 11 _ rfl
  have a12 := (HA.out.ext HX2w.out).cell 12 _ rfl
  have a13 := (HA.out.ext HX2w.out).cell 13 _ rfl
  have a14 := (HA.out.ext HX2w.out).cell 14 _ rfl
  have a15 := (HA.out.ext HX2w.out).cell 15 _ rfl
  go_wp2_with fail
  refine (l1Rising_any u3 d.who 0 (n - 1) _ (HL.out.i3.ext HX2.out)).mono ?_
  rintro e w3 ⟨rfl, x3⟩
  rw [hc2.out]
  have HX3 := Lib.hid (HX2.out.trans x3)
  have HX3w := Lib.hid (HX2w.out.trans x3)
  clear x3
  clear a0 a1 a2 a3 a4 a5 a6 a7 a8 a9 a10 a11 a12 a13 a14 a15 HX2 HX2w
  have a0 := (HA.out.ext HX3w.out).cell 0 _ rfl
  have a1 := (HA.out.ext HX3w.out).cell 1 _ rfl
  have a2 := (HA.out.ext HX3w.out).cell 2 _ rfl
  have a3 := (HA.out.ext HX3w.out).cell 3 _ rfl
  have a4 := (HA.out.ext HX3w.out).cell 4 _ rfl
  have a5 := (HA.out.ext HX3w.out).cell 5 _ rfl
  have a6 := (HA.out.ext HX3w.out).cell 6 _ rfl
  have a7 := (HA.out.ext HX3w.out).cell 7 _ rfl
  have a8 := (HA.out.ext HX3w.out).cell 8 _ rfl
  have a9 := (HA.out.ext HX3w.out).cell 9 _ rfl
  have a10 := (HA.out.ext HX3w.out).cell 10 _ rfl
  have a11 := (HA.out.ext HX3w.out).cell 11 _ rfl
  have a12 := (HA.out.ext HX3w.out).cell 12 _ rfl
  have a13 := (HA.out.ext HX3w.out).cell 13 _ rfl
  have a14 := (HA.out.ext HX3w.out).cell 14 _ rfl
  have a15 := (HA.out.ext HX3w.out).cell 15 _ rfl
  go_wp2_with fail
  refine (l1Has_any u3 d.who me _ (HL.out.i3.ext HX3.out)).mono ?_
  rintro e w4 ⟨rfl, x4⟩
  rw [hc3.out]
  have HX4 := Lib.hid (HX3.out.trans x4)
  have HX4w := Lib.hid (HX3w.out.trans x4)
  clear x4
  clear a0 a1 a2 a3 a4 a5 a6 a7 a8 a9 a10 a11 a12 a13 a14 a15 HX3 HX3w
  go_wp2
  go_ret
  exact ⟨rfl, HX4.out⟩
set_option maxHeartbeats 2000000 in
set_option maxRecDepth 100000 in
theorem l8Lead_head4 (n me : Int) (d : LeadD) (u1 u2 u3 u4 : Value) (w : World) (hl : LeadL w d u1 u2 u3 u4) (h3 : 3 ≤ n) (h5 : n ≤ 5) (hc0 : Hid (instB n d.rp d.no = true)) (hc1 : Hid (inB d.bl 0 9999 = true)) (hc2 : Hid (riseB d.who 0 (n - 1) = true)) (hc3 : Hid (hasI d.who me = true)) (hc4 : Hid (goodD n d.s1 d.l1 = false)) :
    Calls Try.prog 29 #[.int .i64 n, .int .i64 me, .agg #[.int .i64 d.rp, .int .i64 d.no, .int .i64 d.bl, .int .i64 d.ph, .int .i64 d.k, .int .i64 d.i, .int .i64 d.f, .int .i64 d.t, .int .i64 d.a, .int .i64 d.s1, u1, .int .i64 d.s2, u2, .bool d.sm, u3, u4]] w (BoolExt false w) := by
  obtain ⟨wb, hwb⟩ : ∃ wb, wb = w.alloc (.cells #[.int .i64 d.rp, .int .i64 d.no, .int .i64 d.bl, .int .i64 d.ph, .int .i64 d.k, .int .i64 d.i, .int .i64 d.f, .int .i64 d.t, .int .i64 d.a, .int .i64 d.s1, u1, .int .i64 d.s2, u2, .bool d.sm, u3, u4] 69) := ⟨_, rfl⟩
  have x0 : Ext w wb := by rw [hwb]; exact Ext.alloc1 _ _
  have HA : Hid (BoxV wb w.heap.size (leadVs d u1 u2 u3 u4)) := Lib.hid (by rw [hwb]; exact lead_box w _ d u1 u2 u3 u4)
  have HL := Lib.hid hl
  have HX0 := Lib.hid x0
  have HX0w := Lib.hid (Ext.refl wb)
  have HW := Lib.hid hwb
  clear hwb x0 hl
  go_enter Try.func29, Try.ntmps29
  have a0 := (HA.out.ext HX0w.out).cell 0 _ rfl
  have a1 := (HA.out.ext HX0w.out).cell 1 _ rfl
  have a2 := (HA.out.ext HX0w.out).cell 2 _ rfl
  have a3 := (HA.out.ext HX0w.out).cell 3 _ rfl
  have a4 := (HA.out.ext HX0w.out).cell 4 _ rfl
  have a5 := (HA.out.ext HX0w.out).cell 5 _ rfl
  have a6 := (HA.out.ext HX0w.out).cell 6 _ rfl
  have a7 := (HA.out.ext HX0w.out).cell 7 _ rfl
  have a8 := (HA.out.ext HX0w.out).cell 8 _ rfl
  have a9 := (HA.out.ext HX0w.out).cell 9 _ rfl
  have a10 := (HA.out.ext HX0w.out).cell 10 _ rfl
  have a11 := (HA.out.ext HX0w.out).cell 11 _ rfl
  have a12 := (HA.out.ext HX0w.out).cell 12 _ rfl
  have a13 := (HA.out.ext HX0w.out).cell 13 _ rfl
  have a14 := (HA.out.ext HX0w.out).cell 14 _ rfl
  have a15 := (HA.out.ext HX0w.out).cell 15 _ rfl
  go_wp2_with fail
  rw [← HW.out]
  refine (l3Inst_any n d.rp d.no _ h3 h5).mono ?_
  rintro e w1 ⟨rfl, rfl⟩
  rw [hc0.out]
  have HX1 := HX0
  have HX1w := HX0w
  clear a0 a1 a2 a3 a4 a5 a6 a7 a8 a9 a10 a11 a12 a13 a14 a15 HX0 HX0w
  have a0 := (HA.out.ext HX1w.out).cell 0 _ rfl
  have a1 := (HA.out.ext HX1w.out).cell 1 _ rfl
  have a2 := (HA.out.ext HX1w.out).cell 2 _ rfl
  have a3 := (HA.out.ext HX1w.out).cell 3 _ rfl
  have a4 := (HA.out.ext HX1w.out).cell 4 _ rfl
  have a5 := (HA.out.ext HX1w.out).cell 5 _ rfl
  have a6 := (HA.out.ext HX1w.out).cell 6 _ rfl
  have a7 := (HA.out.ext HX1w.out).cell 7 _ rfl
  have a8 := (HA.out.ext HX1w.out).cell 8 _ rfl
  have a9 := (HA.out.ext HX1w.out).cell 9 _ rfl
  have a10 := (HA.out.ext HX1w.out).cell 10 _ rfl
  have a11 := (HA.out.ext HX1w.out).cell 11 _ rfl
  have a12 := (HA.out.ext HX1w.out).cell 12 _ rfl
  have a13 := (HA.out.ext HX1w.out).cell 13 _ rfl
  have a14 := (HA.out.ext HX1w.out).cell 14 _ rfl
  have a15 := (HA.out.ext HX1w.out).cell 15 _ rfl
  go_wp2_with fail
  refine (l1In_any d.bl 0 9999 _).mono ?_
  rintro e w2 ⟨rfl, rfl⟩
  rw [hc1.out]
  have HX2 := HX1
  have HX2w := HX1w
  clear a0 a1 a2 a3 a4 a5 a6 a7 a8 a9 a10 a11 a12 a13 a14 a15 HX1 HX1w
  have a0 := (HA.out.ext HX2w.out).cell 0 _ rfl
  have a1 := (HA.out.ext HX2w.out).cell 1 _ rfl
  have a2 := (HA.out.ext HX2w.out).cell 2 _ rfl
  have a3 := (HA.out.ext HX2w.out).cell 3 _ rfl
  have a4 := (HA.out.ext HX2w.out).cell 4 _ rfl
  have a5 := (HA.out.ext HX2w.out).cell 5 _ rfl
  have a6 := (HA.out.ext HX2w.out).cell 6 _ rfl
  have a7 := (HA.out.ext HX2w.out).cell 7 _ rfl
  have a8 := (HA.out.ext HX2w.out).cell 8 _ rfl
  have a9 := (HA.out.ext HX2w.out).cell 9 _ rfl
  have a10 := (HA.out.ext HX2w.out).cell 10 _ rfl
  have a11 := (HA.out.ext HX2w.out).cell 11 _ rfl
  have a12 := (HA.out.ext HX2w.out).cell 12 _ rfl
  have a13 := (HA.out.ext HX2w.out).cell 13 _ rfl
  have a14 := (HA.out.ext HX2w.out).cell 14 _ rfl
  have a15 := (HA.out.ext HX2w.out).cell 15 _ rfl
  go_wp2_with fail
  refine (l1Rising_any u3 d.who 0 (n - 1) _ (HL.out.i3.ext HX2.out)).mono ?_
  rintro e w3 ⟨rfl, x3⟩
  rw [hc2.out]
  have HX3 := Lib.hid (HX2.out.trans x3)
  have HX3w := Lib.hid (HX2w.out.trans x3)
  clear x3
  clear a0 a1 a2 a3 a4 a5 a6 a7 a8 a9 a10 a11 a12 a13 a14 a15 HX2 HX2w
  have a0 := (HA.out.ext HX3w.out).cell 0 _ rfl
  have a1 := (HA.out.ext HX3w.out).cell 1 _ rfl
  have a2 := (HA.out.ext HX3w.out).cell 2 _ rfl
  have a3 := (HA.out.ext HX3w.out).cell 3 _ rfl
  have a4 := (HA.out.ext HX3w.out).cell 4 _ rfl
  have a5 := (HA.out.ext HX3w.out).cell 5 _ rfl
  have a6 := (HA.out.ext HX3w.out).cell 6 _ rfl
  have a7 := (HA.out.ext HX3w.out).cell 7 _ rfl
  have a8 := (HA.out.ext HX3w.out).cell 8 _ rfl
  have a9 := (HA.out.ext HX3w.out).cell 9 _ rfl
  have a10 := (HA.out.ext HX3w.out).cell 10 _ rfl
  have a11 := (HA.out.ext HX3w.out).cell 11 _ rfl
  have a12 := (HA.out.ext HX3w.out).cell 12 _ rfl
  have a13 := (HA.out.ext HX3w.out).cell 13 _ rfl
  have a14 := (HA.out.ext HX3w.out).cell 14 _ rfl
  have a15 := (HA.out.ext HX3w.out).cell 15 _ rfl
  go_wp2_with fail
  refine (l1Has_any u3 d.who me _ (HL.out.i3.ext HX3.out)).mono ?_
  rintro e w4 ⟨rfl, x4⟩
  rw [hc3.out]
  have HX4 := Lib.hid (HX3.out.trans x4)
  have HX4w := Lib.hid (HX3w.out.trans x4)
  clear x4
  clear a0 a1 a2 a3 a4 a5 a6 a7 a8 a9 a10 a11 a12 a13 a14 a15 HX3 HX3w
  have a0 := (HA.out.ext HX4w.out).cell 0 _ rfl
  have a1 := (HA.out.ext HX4w.out).cell 1 _ rfl
  have a2 := (HA.out.ext HX4w.out).cell 2 _ rfl
  have a3 := (HA.out.ext HX4w.out).cell 3 _ rfl
  have a4 := (HA.out.ext HX4w.out).cell 4 _ rfl
  have a5 := (HA.out.ext HX4w.out).cell 5 _ rfl
  have a6 := (HA.out.ext HX4w.out).cell 6 _ rfl
  have a7 := (HA.out.ext HX4w.out).cell 7 _ rfl
  have a8 := (HA.out.ext HX4w.out).cell 8 _ rfl
  have a9 := (HA.out.ext HX4w.out).cell 9 _ rfl
  have a10 := (HA.out.ext HX4w.out).cell 10 _ rfl
  have a11 := (HA.out.ext HX4w.out).cell 11 _ rfl
  have a12 := (HA.out.ext HX4w.out).cell 12 _ rfl
  have a13 := (HA.out.ext HX4w.out).cell 13 _ rfl
  have a14 := (HA.out.ext HX4w.out).cell 14 _ rfl
  have a15 := (HA.out.ext HX4w.out).cell 15 _ rfl
  go_wp2_with fail
  refine (l3Attr_any n d.s1 u1 d.l1 _ (HL.out.i1.ext HX4.out)).mono ?_
  rintro e w5 ⟨rfl, x5⟩
  rw [hc4.out]
  have HX5 := Lib.hid (HX4.out.trans x5)
  have HX5w := Lib.hid (HX4w.out.trans x5)
  clear x5
  clear a0 a1 a2 a3 a4 a5 a6 a7 a8 a9 a10 a11 a12 a13 a14 a15 HX4 HX4w
  go_wp2
  go_ret
  exact ⟨rfl, HX5.out⟩
set_option maxHeartbeats 2000000 in
set_option maxRecDepth 100000 in
theorem l8Lead_head5 (n me : Int) (d : LeadD) (u1 u2 u3 u4 : Value) (w : World) (hl : LeadL w d u1 u2 u3 u4) (h3 : 3 ≤ n) (h5 : n ≤ 5) (hc0 : Hid (instB n d.rp d.no = true)) (hc1 : Hid (inB d.bl 0 9999 = true)) (hc2 : Hid (riseB d.who 0 (n - 1) = true)) (hc3 : Hid (hasI d.who me = true)) (hc4 : Hid (goodD n d.s1 d.l1 = true)) (hc5 : Hid (goodD n d.s2 d.l2 = false)) :
    Calls Try.prog 29 #[.int .i64 n, .int .i64 me, .agg #[.int .i64 d.rp, .int .i64 d.no, .int .i64 d.bl, .int .i64 d.ph, .int .i64 d.k, .int .i64 d.i, .int .i64 d.f, .int .i64 d.t, .int .i64 d.a, .int .i64 d.s1, u1, .int .i64 d.s2, u2, .bool d.sm, u3, u4]] w (BoolExt false w) := by
  obtain ⟨wb, hwb⟩ : ∃ wb, wb = w.alloc (.cells #[.int .i64 d.rp, .int .i64 d.no, .int .i64 d.bl, .int .i64 d.ph, .int .i64 d.k, .int .i64 d.i, .int .i64 d.f, .int .i64 d.t, .int .i64 d.a, .int .i64 d.s1, u1, .int .i64 d.s2, u2, .bool d.sm, u3, u4] 69) := ⟨_, rfl⟩
  have x0 : Ext w wb := by rw [hwb]; exact Ext.alloc1 _ _
  have HA : Hid (BoxV wb w.heap.size (leadVs d u1 u2 u3 u4)) := Lib.hid (by rw [hwb]; exact lead_box w _ d u1 u2 u3 u4)
  have HL := Lib.hid hl
  have HX0 := Lib.hid x0
  have HX0w := Lib.hid (Ext.refl wb)
  have HW := Lib.hid hwb
  clear hwb x0 hl
  go_enter Try.func29, Try.ntmps29
  have a0 := (HA.out.ext HX0w.out).cell 0 _ rfl
  have a1 := (HA.out.ext HX0w.out).cell 1 _ rfl
  have a2 := (HA.out.ext HX0w.out).cell 2 _ rfl
  have a3 := (HA.out.ext HX0w.out).cell 3 _ rfl
  have a4 := (HA.out.ext HX0w.out).cell 4 _ rfl
  have a5 := (HA.out.ext HX0w.out).cell 5 _ rfl
  have a6 := (HA.out.ext HX0w.out).cell 6 _ rfl
  have a7 := (HA.out.ext HX0w.out).cell 7 _ rfl
  have a8 := (HA.out.ext HX0w.out).cell 8 _ rfl
  have a9 := (HA.out.ext HX0w.out).cell 9 _ rfl
  have a10 := (HA.out.ext HX0w.out).cell 10 _ rfl
  have a11 := (HA.out.ext HX0w.out).cell 11 _ rfl
  have a12 := (HA.out.ext HX0w.out).cell 12 _ rfl
  have a13 := (HA.out.ext HX0w.out).cell 13 _ rfl
  have a14 := (HA.out.ext HX0w.out).cell 14 _ rfl
  have a15 := (HA.out.ext HX0w.out).cell 15 _ rfl
  go_wp2_with fail
  rw [← HW.out]
  refine (l3Inst_any n d.rp d.no _ h3 h5).mono ?_
  rintro e w1 ⟨rfl, rfl⟩
  rw [hc0.out]
  have HX1 := HX0
  have HX1w := HX0w
  clear a0 a1 a2 a3 a4 a5 a6 a7 a8 a9 a10 a11 a12 a13 a14 a15 HX0 HX0w
  have a0 := (HA.out.ext HX1w.out).cell 0 _ rfl
  have a1 := (HA.out.ext HX1w.out).cell 1 _ rfl
  have a2 := (HA.out.ext HX1w.out).cell 2 _ rfl
  have a3 := (HA.out.ext HX1w.out).cell 3 _ rfl
  have a4 := (HA.out.ext HX1w.out).cell 4 _ rfl
  have a5 := (HA.out.ext HX1w.out).cell 5 _ rfl
  have a6 := (HA.out.ext HX1w.out).cell 6 _ rfl
  have a7 := (HA.out.ext HX1w.out).cell 7 _ rfl
  have a8 := (HA.out.ext HX1w.out).cell 8 _ rfl
  have a9 := (HA.out.ext HX1w.out).cell 9 _ rfl
  have a10 := (HA.out.ext HX1w.out).cell 10 _ rfl
  have a11 := (HA.out.ext HX1w.out).cell 11 _ rfl
  have a12 := (HA.out.ext HX1w.out).cell 12 _ rfl
  have a13 := (HA.out.ext HX1w.out).cell 13 _ rfl
  have a14 := (HA.out.ext HX1w.out).cell 14 _ rfl
  have a15 := (HA.out.ext HX1w.out).cell 15 _ rfl
  go_wp2_with fail
  refine (l1In_any d.bl 0 9999 _).mono ?_
  rintro e w2 ⟨rfl, rfl⟩
  rw [hc1.out]
  have HX2 := HX1
  have HX2w := HX1w
  clear a0 a1 a2 a3 a4 a5 a6 a7 a8 a9 a10 a11 a12 a13 a14 a15 HX1 HX1w
  have a0 := (HA.out.ext HX2w.out).cell 0 _ rfl
  have a1 := (HA.out.ext HX2w.out).cell 1 _ rfl
  have a2 := (HA.out.ext HX2w.out).cell 2 _ rfl
  have a3 := (HA.out.ext HX2w.out).cell 3 _ rfl
  have a4 := (HA.out.ext HX2w.out).cell 4 _ rfl
  have a5 := (HA.out.ext HX2w.out).cell 5 _ rfl
  have a6 := (HA.out.ext HX2w.out).cell 6 _ rfl
  have a7 := (HA.out.ext HX2w.out).cell 7 _ rfl
  have a8 := (HA.out.ext HX2w.out).cell 8 _ rfl
  have a9 := (HA.out.ext HX2w.out).cell 9 _ rfl
  have a10 := (HA.out.ext HX2w.out).cell 10 _ rfl
  have a11 := (HA.out.ext HX2w.out).cell 11 _ rfl
  have a12 := (HA.out.ext HX2w.out).cell 12 _ rfl
  have a13 := (HA.out.ext HX2w.out).cell 13 _ rfl
  have a14 := (HA.out.ext HX2w.out).cell 14 _ rfl
  have a15 := (HA.out.ext HX2w.out).cell 15 _ rfl
  go_wp2_with fail
  refine (l1Rising_any u3 d.who 0 (n - 1) _ (HL.out.i3.ext HX2.out)).mono ?_
  rintro e w3 ⟨rfl, x3⟩
  rw [hc2.out]
  have HX3 := Lib.hid (HX2.out.trans x3)
  have HX3w := Lib.hid (HX2w.out.trans x3)
  clear x3
  clear a0 a1 a2 a3 a4 a5 a6 a7 a8 a9 a10 a11 a12 a13 a14 a15 HX2 HX2w
  have a0 := (HA.out.ext HX3w.out).cell 0 _ rfl
  have a1 := (HA.out.ext HX3w.out).cell 1 _ rfl
  have a2 := (HA.out.ext HX3w.out).cell 2 _ rfl
  have a3 := (HA.out.ext HX3w.out).cell 3 _ rfl
  have a4 := (HA.out.ext HX3w.out).cell 4 _ rfl
  have a5 := (HA.out.ext HX3w.out).cell 5 _ rfl
  have a6 := (HA.out.ext HX3w.out).cell 6 _ rfl
  have a7 := (HA.out.ext HX3w.out).cell 7 _ rfl
  have a8 := (HA.out.ext HX3w.out).cell 8 _ rfl
  have a9 := (HA.out.ext HX3w.out).cell 9 _ rfl
  have a10 := (HA.out.ext HX3w.out).cell 10 _ rfl
  have a11 := (HA.out.ext HX3w.out).cell 11 _ rfl
  have a12 := (HA.out.ext HX3w.out).cell 12 _ rfl
  have a13 := (HA.out.ext HX3w.out).cell 13 _ rfl
  have a14 := (HA.out.ext HX3w.out).cell 14 _ rfl
  have a15 := (HA.out.ext HX3w.out).cell 15 _ rfl
  go_wp2_with fail
  refine (l1Has_any u3 d.who me _ (HL.out.i3.ext HX3.out)).mono ?_
  rintro e w4 ⟨rfl, x4⟩
  rw [hc3.out]
  have HX4 := Lib.hid (HX3.out.trans x4)
  have HX4w := Lib.hid (HX3w.out.trans x4)
  clear x4
  clear a0 a1 a2 a3 a4 a5 a6 a7 a8 a9 a10 a11 a12 a13 a14 a15 HX3 HX3w
  have a0 := (HA.out.ext HX4w.out).cell 0 _ rfl
  have a1 := (HA.out.ext HX4w.out).cell 1 _ rfl
  have a2 := (HA.out.ext HX4w.out).cell 2 _ rfl
  have a3 := (HA.out.ext HX4w.out).cell 3 _ rfl
  have a4 := (HA.out.ext HX4w.out).cell 4 _ rfl
  have a5 := (HA.out.ext HX4w.out).cell 5 _ rfl
  have a6 := (HA.out.ext HX4w.out).cell 6 _ rfl
  have a7 := (HA.out.ext HX4w.out).cell 7 _ rfl
  have a8 := (HA.out.ext HX4w.out).cell 8 _ rfl
  have a9 := (HA.out.ext HX4w.out).cell 9 _ rfl
  have a10 := (HA.out.ext HX4w.out).cell 10 _ rfl
  have a11 := (HA.out.ext HX4w.out).cell 11 _ rfl
  have a12 := (HA.out.ext HX4w.out).cell 12 _ rfl
  have a13 := (HA.out.ext HX4w.out).cell 13 _ rfl
  have a14 := (HA.out.ext HX4w.out).cell 14 _ rfl
  have a15 := (HA.out.ext HX4w.out).cell 15 _ rfl
  go_wp2_with fail
  refine (l3Attr_any n d.s1 u1 d.l1 _ (HL.out.i1.ext HX4.out)).mono ?_
  rintro e w5 ⟨rfl, x5⟩
  rw [hc4.out]
  have HX5 := Lib.hid (HX4.out.trans x5)
  have HX5w := Lib.hid (HX4w.out.trans x5)
  clear x5
  clear a0 a1 a2 a3 a4 a5 a6 a7 a8 a9 a10 a11 a12 a13 a14 a15 HX4 HX4w
  have a0 := (HA.out.ext HX5w.out).cell 0 _ rfl
  have a1 := (HA.out.ext HX5w.out).cell 1 _ rfl
  have a2 := (HA.out.ext HX5w.out).cell 2 _ rfl
  have a3 := (HA.out.ext HX5w.out).cell 3 _ rfl
  have a4 := (HA.out.ext HX5w.out).cell 4 _ rfl
  have a5 := (HA.out.ext HX5w.out).cell 5 _ rfl
  have a6 := (HA.out.ext HX5w.out).cell 6 _ rfl
  have a7 := (HA.out.ext HX5w.out).cell 7 _ rfl
  have a8 := (HA.out.ext HX5w.out).cell 8 _ rfl
  have a9 := (HA.out.ext HX5w.out).cell 9 _ rfl
  have a10 := (HA.out.ext HX5w.out).cell 10 _ rfl
  have a11 := (HA.out.ext HX5w.out).cell 11 _ rfl
  have a12 := (HA.out.ext HX5w.out).cell 12 _ rfl
  have a13 := (HA.out.ext HX5w.out).cell 13 _ rfl
  have a14 := (HA.out.ext HX5w.out).cell 14 _ rfl
  have a15 := (HA.out.ext HX5w.out).cell 15 _ rfl
  go_wp2_with fail
  refine (l3Attr_any n d.s2 u2 d.l2 _ (HL.out.i2.ext HX5.out)).mono ?_
  rintro e w6 ⟨rfl, x6⟩
  rw [hc5.out]
  have HX6 := Lib.hid (HX5.out.trans x6)
  have HX6w := Lib.hid (HX5w.out.trans x6)
  clear x6
  clear a0 a1 a2 a3 a4 a5 a6 a7 a8 a9 a10 a11 a12 a13 a14 a15 HX5 HX5w
  go_wp2
  go_ret
  exact ⟨rfl, HX6.out⟩
theorem l8Lead_no (n me : Int) (d : LeadD) (u1 u2 u3 u4 : Value) (w : World) (hl : LeadL w d u1 u2 u3 u4) (h3 : 3 ≤ n) (h5 : n ≤ 5) (h : headL n me d = false) :
    Calls Try.prog 29 #[.int .i64 n, .int .i64 me, .agg #[.int .i64 d.rp, .int .i64 d.no, .int .i64 d.bl, .int .i64 d.ph, .int .i64 d.k, .int .i64 d.i, .int .i64 d.f, .int .i64 d.t, .int .i64 d.a, .int .i64 d.s1, u1, .int .i64 d.s2, u2, .bool d.sm, u3, u4]] w (BoolExt false w) := by
  unfold headL at h
  cases c0 : instB n d.rp d.no
  · exact l8Lead_head0 n me d u1 u2 u3 u4 w hl h3 h5 (Lib.hid c0)
  cases c1 : inB d.bl 0 9999
  · exact l8Lead_head1 n me d u1 u2 u3 u4 w hl h3 h5 (Lib.hid c0) (Lib.hid c1)
  cases c2 : riseB d.who 0 (n - 1)
  · exact l8Lead_head2 n me d u1 u2 u3 u4 w hl h3 h5 (Lib.hid c0) (Lib.hid c1) (Lib.hid c2)
  cases c3 : hasI d.who me
  · exact l8Lead_head3 n me d u1 u2 u3 u4 w hl h3 h5 (Lib.hid c0) (Lib.hid c1) (Lib.hid c2) (Lib.hid c3)
  cases c4 : goodD n d.s1 d.l1
  · exact l8Lead_head4 n me d u1 u2 u3 u4 w hl h3 h5 (Lib.hid c0) (Lib.hid c1) (Lib.hid c2) (Lib.hid c3) (Lib.hid c4)
  cases c5 : goodD n d.s2 d.l2
  · exact l8Lead_head5 n me d u1 u2 u3 u4 w hl h3 h5 (Lib.hid c0) (Lib.hid c1) (Lib.hid c2) (Lib.hid c3) (Lib.hid c4) (Lib.hid c5)
  · simp [c0, c1, c2, c3, c4, c5] at h
end Go.Proofs.Ytbffkidkfannhaa

namespace Go.Proofs.Ytbffkidkfannhaa
open Go.RowKit
set_option linter.unusedVariables false

def mx (x y : Int) : Int := if x < y then y else x
theorem mx_eq (x y : Int) : (if y > x then y else x) = mx x y := rfl

theorem index5_0 (l : List Int) (W : World) : (Instr.index 125 (.agg (five l)) (.int .i64 0)).run Try.prog W = .ok (.int .i64 (at0 l 0)) W := by kernel_rfl
theorem index5_1 (l : List Int) (W : World) : (Instr.index 125 (.agg (five l)) (.int .i64 1)).run Try.prog W = .ok (.int .i64 (at0 l 1)) W := by kernel_rfl
theorem index5_2 (l : List Int) (W : World) : (Instr.index 125 (.agg (five l)) (.int .i64 2)).run Try.prog W = .ok (.int .i64 (at0 l 2)) W := by kernel_rfl
theorem index5_3 (l : List Int) (W : World) : (Instr.index 125 (.agg (five l)) (.int .i64 3)).run Try.prog W = .ok (.int .i64 (at0 l 3)) W := by kernel_rfl
theorem index5_4 (l : List Int) (W : World) : (Instr.index 125 (.agg (five l)) (.int .i64 4)).run Try.prog W = .ok (.int .i64 (at0 l 4)) W := by kernel_rfl

/-- After j numbers. -/
def mixed (d l : List Int) (j i : Nat) : Int := if i < j then mx (at0 d i) (at0 l i) else at0 d i
def MixAt (w : World) (b : Nat) (d l : List Int) (j : Nat) : Prop := FiveAt w b (mixed d l j 0) (mixed d l j 1) (mixed d l j 2) (mixed d l j 3) (mixed d l j 4)

def sOf (s0 s1 : Int) (k : Nat) : Int := if k = 0 then 0 else if k = 1 then mx 0 s0 else mx (mx 0 s0) s1
def dOf (l0 l1 : List Int) (k : Nat) : List Int := (List.range 5).map fun i => if k = 0 then 0 else if k = 1 then mx 0 (at0 l0 i) else mx (mx 0 (at0 l0 i)) (at0 l1 i)
theorem FiveAt.ext {w w' : World} {b : Nat} {x0 x1 x2 x3 x4 : Int} (h : FiveAt w b x0 x1 x2 x3 x4) (e : Ext w w') : FiveAt w' b x0 x1 x2 x3 x4 := e.block h
theorem five_cases {j : Nat} (h : j < 5) : j = 0 ∨ j = 1 ∨ j = 2 ∨ j = 3 ∨ j = 4 := by omega
theorem index5 (l : List Int) (j : Nat) (h : j < 5) (W : World) : (Instr.index 125 (.agg (five l)) (.int .i64 j)).run Try.prog W = .ok (.int .i64 (at0 l j)) W := by
  rcases five_cases h with rfl | rfl | rfl | rfl | rfl
  · exact index5_0 l W
  · exact index5_1 l W
  · exact index5_2 l W
  · exact index5_3 l W
  · exact index5_4 l W
theorem mix_cell {w : World} {b : Nat} {d l : List Int} {j : Nat} (h : MixAt w b d l j) (hj : j < 5) : w.cell? ⟨b, j, none⟩ = some (.int .i64 (at0 d j)) := by
  rw [cell_of_row w b j _ _ _ h]
  rcases five_cases hj with rfl | rfl | rfl | rfl | rfl <;> simp [mixed]
theorem mix_free {w : World} {b : Nat} {d l : List Int} {j : Nat} (h : MixAt w b d l j) (i : Nat) : w.frozen? ⟨b, i, none⟩ = false := frozen_of_row w b i _ _ h
theorem mix_store {w : World} {b : Nat} {d l : List Int} {j : Nat} (h : MixAt w b d l j) (hj : j < 5) : MixAt (w.setCell ⟨b, j, none⟩ (.int .i64 (mx (at0 d j) (at0 l j)))) b d l (j + 1) := by
  have hs := heap_setCell_same w b j _ _ (.int .i64 (mx (at0 d j) (at0 l j))) h
  unfold MixAt FiveAt
  rw [hs]
  rcases five_cases hj with rfl | rfl | rfl | rfl | rfl <;> simp [mixed]
theorem mix_all0 {w : World} {b : Nat} {l0 l1 : List Int} (h : MixAt w b (dOf l0 l1 0) l0 5) : FiveAt w b (at0 (dOf l0 l1 1) 0) (at0 (dOf l0 l1 1) 1) (at0 (dOf l0 l1 1) 2) (at0 (dOf l0 l1 1) 3) (at0 (dOf l0 l1 1) 4) := h
theorem mix_all1 {w : World} {b : Nat} {l0 l1 : List Int} (h : MixAt w b (dOf l0 l1 1) l1 5) : FiveAt w b (at0 (dOf l0 l1 2) 0) (at0 (dOf l0 l1 2) 1) (at0 (dOf l0 l1 2) 2) (at0 (dOf l0 l1 2) 3) (at0 (dOf l0 l1 2) 4) := h
theorem mix_zero {w : World} {b : Nat} {d l : List Int} (h : FiveAt w b (at0 d 0) (at0 d 1) (at0 d 2) (at0 d 3) (at0 d 4)) : MixAt w b d l 0 := by
  unfold MixAt; simpa [mixed] using h

/-- The attributes lie side by side in a block. -/
def TwoAt (w : World) (b : Nat) (s0 : Int) (u0 : Value) (s1 : Int) (u1 : Value) : Prop :=
  w.cell? ⟨b, 0, none⟩ = some (.int .i64 s0) ∧ w.cell? ⟨b, 1, none⟩ = some u0 ∧ w.cell? ⟨b, 2, none⟩ = some (.int .i64 s1) ∧ w.cell? ⟨b, 3, none⟩ = some u1


set_option maxRecDepth 100000 in
set_option maxHeartbeats 4000000 in
theorem joinAttrs_two (n : Int) (hn : isGrp n = true) (ab : Nat) (s0 s1 : Int) (u0 u1 : Value) (l0 l1 : List Int) (w : World) (h0 : Ints w u0 l0) (h1 : Ints w u1 l1) (hA : TwoAt w ab s0 u0 s1 u1) :
    Calls Try.prog 74 #[.int .i64 n, .slice (some ⟨ab, 0, none⟩) 2 2] w (NewAttr (sOf s0 s1 2) ((dOf l0 l1 2).take n.toNat) w) := by
  have HN := Lib.hid hn
  have HA := Lib.hid hA
  have H0 := Lib.hid h0
  have H1 := Lib.hid h1
  obtain ⟨a0, k0, rfl, _⟩ := h0
  obtain ⟨a1, k1, rfl, _⟩ := h1
  have hlt : ab < w.heap.size := World.block_lt_of_cell? w _ hA.1
  have hmax : ∀ (ts : Array TypeId) (T : TypeId) (W : World) (x y : Int), (Builtin.max_ ts T #[.int .i64 x, .int .i64 y]).run Try.prog W = .ok (.int .i64 (mx x y)) W := fun ts T W x y => by simp only [run_max_int2]; rfl
  clear hn hA
  go_enter Try.func74, Try.ntmps74
  go_wp2
  go_loopw [5, 13] (fun s i wr => ∃ k : Nat, k ≤ 2 ∧ i = .int .i64 k ∧ s = .int .i64 (sOf s0 s1 k) ∧ Hid (FiveAt wr (w.heap.size + 1) (at0 (dOf l0 l1 k) 0) (at0 (dOf l0 l1 k) 1) (at0 (dOf l0 l1 k) 2) (at0 (dOf l0 l1 k) 3) (at0 (dOf l0 l1 k) 4)) ∧ OpenAt wr w.heap.size 0 (.slice none 0 0) ∧ Ext w wr) (fun _ i _ => 2 - (intOf i).toNat)
  case atStart => exact ⟨0, by omega, rfl, rfl, Lib.hid (by
    have hf := fiveAt_new (w.alloc (.cells #[.int .i64 0, .slice none 0 0] 55)) 0 0 0 0 0
    rw [World.size_alloc] at hf
    simpa [dOf, at0] using hf), open_next _ _ _ _ _, Ext.alloc2 _ _ _⟩
  case round =>
    obtain ⟨k, hk, rfl, rfl, hF, hO, hx⟩ := hrel
    have hk' : k = 0 ∨ k = 1 ∨ k = 2 := by omega
    rcases hk' with rfl | rfl | rfl
    · have HO := Lib.hid (hO.ext (Ext.alloc (Ext.refl _) (.cells #[.int .i64 s0, .slice a0 l0.length k0] 55)))
      have HF := Lib.hid (hF.out.ext (Ext.alloc (Ext.refl _) (.cells #[.int .i64 s0, .slice a0 l0.length k0] 55)))
      have HX := Lib.hid (hx.alloc (.cells #[.int .i64 s0, .slice a0 l0.length k0] 55))
      obtain ⟨g0, g1, -, -⟩ := HA.out
      have g0 := hx.cell g0
      have g1 := hx.cell g1
      clear hO hF hx
      go_wp2_with fail
      refine (depsIn_any _ l0 _ (H0.out.ext HX.out)).mono ?_
      rintro e W1 ⟨rfl, x1⟩
      have O1 := Lib.hid (HO.out.ext x1)
      have F1 := Lib.hid (mix_zero (l := l0) (HF.out.ext x1))
      have X1 := Lib.hid (HX.out.trans x1)
      have hidx := index5 l0
      clear x1 g0 g1
      go_wp2
      go_loopw [24] (fun i W => ∃ j : Nat, j ≤ 5 ∧ i = .int .i64 j ∧ Hid (MixAt W (w.heap.size + 1) (dOf l0 l1 0) l0 j) ∧ OpenAt W w.heap.size 0 (.slice none 0 0) ∧ Ext w W) (fun i _ => 5 - (intOf i).toNat)
      case atStart => exact ⟨0, by omega, rfl, F1, O1.out, X1.out⟩
      case round =>
        obtain ⟨j, hj, rfl, hM, hO2, hx2⟩ := hrel
        by_cases hlt5 : j < 5
        · have gD := mix_cell hM.out hlt5
          have gF := mix_free hM.out j
          have hi := hidx j hlt5
          clear hidx
          go_wp2
          go_roundw
          case rel => exact ⟨j + 1, by omega, by go_num, Lib.hid (mix_store hM.out hlt5), by
            obtain ⟨⟨a, b⟩, c, d⟩ := hO2
            refine ⟨⟨?_, ?_⟩, ?_, ?_⟩ <;> go_simp, hx2.setc (Nat.le_succ _)⟩
          case measure => simp [intOf]; omega
        · obtain rfl : j = 5 := by omega
          have HF2 := Lib.hid (mix_all0 hM.out)
          clear hidx
          go_wp2
          go_roundw
          case rel => exact ⟨1, by omega, rfl, rfl, HF2, hO2, hx2⟩
          case measure => simp [intOf]
    · have HO := Lib.hid (hO.ext (Ext.alloc (Ext.refl _) (.cells #[.int .i64 s1, .slice a1 l1.length k1] 55)))
      have HF := Lib.hid (hF.out.ext (Ext.alloc (Ext.refl _) (.cells #[.int .i64 s1, .slice a1 l1.length k1] 55)))
      have HX := Lib.hid (hx.alloc (.cells #[.int .i64 s1, .slice a1 l1.length k1] 55))
      obtain ⟨-, -, g0, g1⟩ := HA.out
      have g0 := hx.cell g0
      have g1 := hx.cell g1
      clear hO hF hx
      go_wp2_with fail
      refine (depsIn_any _ l1 _ (H1.out.ext HX.out)).mono ?_
      rintro e W1 ⟨rfl, x1⟩
      have O1 := Lib.hid (HO.out.ext x1)
      have F1 := Lib.hid (mix_zero (l := l1) (HF.out.ext x1))
      have X1 := Lib.hid (HX.out.trans x1)
      have hidx := index5 l1
      clear x1 g0 g1
      go_wp2
      go_loopw [24] (fun i W => ∃ j : Nat, j ≤ 5 ∧ i = .int .i64 j ∧ Hid (MixAt W (w.heap.size + 1) (dOf l0 l1 1) l1 j) ∧ OpenAt W w.heap.size 0 (.slice none 0 0) ∧ Ext w W) (fun i _ => 5 - (intOf i).toNat)
      case atStart => exact ⟨0, by omega, rfl, F1, O1.out, X1.out⟩
      case round =>
        obtain ⟨j, hj, rfl, hM, hO2, hx2⟩ := hrel
        by_cases hlt5 : j < 5
        · have gD := mix_cell hM.out hlt5
          have gF := mix_free hM.out j
          have hi := hidx j hlt5
          clear hidx
          go_wp2
          go_roundw
          case rel => exact ⟨j + 1, by omega, by go_num, Lib.hid (mix_store hM.out hlt5), by
            obtain ⟨⟨a, b⟩, c, d⟩ := hO2
            refine ⟨⟨?_, ?_⟩, ?_, ?_⟩ <;> go_simp, hx2.setc (Nat.le_succ _)⟩
          case measure => simp [intOf]; omega
        · obtain rfl : j = 5 := by omega
          have HF2 := Lib.hid (mix_all1 hM.out)
          clear hidx
          go_wp2
          go_roundw
          case rel => exact ⟨2, by omega, rfl, rfl, HF2, hO2, hx2⟩
          case measure => simp [intOf]
    · have HI := Lib.hid (five_ints hF.out)
      obtain ⟨⟨c0, c1⟩, z0, z1⟩ := hO
      have HO := Lib.hid (show OpenAt wr w.heap.size 0 (.slice none 0 0) from ⟨⟨c0, c1⟩, z0, z1⟩)
      have hD : w.heap.size + 1 < wr.heap.size := (Array.getElem?_eq_some_iff.1 hF.out).1
      rcases isGrp_of HN.out with rfl | rfl
      · have hT : List.take (3 : Int).toNat (dOf l0 l1 2) = [at0 (dOf l0 l1 2) 0, at0 (dOf l0 l1 2) 1, at0 (dOf l0 l1 2) 2] := rfl
        obtain ⟨x0, hx0⟩ : ∃ x, x = at0 (dOf l0 l1 2) 0 := ⟨_, rfl⟩
        obtain ⟨x1, hx1⟩ : ∃ x, x = at0 (dOf l0 l1 2) 1 := ⟨_, rfl⟩
        obtain ⟨x2, hx2⟩ : ∃ x, x = at0 (dOf l0 l1 2) 2 := ⟨_, rfl⟩
        have hI3 := HI.out 3 (by omega)
        rw [← hx0, ← hx1, ← hx2] at hI3 hT
        have HT := Lib.hid hT
        have HI3 := Lib.hid hI3
        clear hF hT hx0 hx1 hx2 hI3 c0 c1 z0 z1
        go_wp2_with fail
        refine (clone_any ⟨w.heap.size + 1, 0, none⟩ 5 [x0, x1, x2] _ HI3.out (by simp)).mono ?_
        rintro e W1 ⟨v, rfl, f1, y1⟩
        obtain ⟨av, cv, rfl⟩ := f1.form
        obtain ⟨⟨c0, c1⟩, z0, z1⟩ := HO.out.ext y1
        have hy := hx.trans y1
        have F := Lib.hid f1
        clear f1 y1
        go_wp2
        refine bodyPost_ret (v := .agg #[.int .i64 (sOf s0 s1 2), .slice av 3 cv]) (by simp [results, Try.results74, go_sem, c0, c1]) rfl ⟨_, rfl, ?_, (hy.setc (Nat.le_refl _)).setc (Nat.le_refl _)⟩
        have hB : w.heap.size < wr.heap.size := by omega
        have F2 := (F.out.set w.heap.size 0 (.int .i64 (sOf s0 s1 2)) hB).set w.heap.size 1 (.slice av 3 cv) hB
        rw [HT.out]
        exact F2.more (Nat.le_of_lt hB)
      · have hT : List.take (5 : Int).toNat (dOf l0 l1 2) = [at0 (dOf l0 l1 2) 0, at0 (dOf l0 l1 2) 1, at0 (dOf l0 l1 2) 2, at0 (dOf l0 l1 2) 3, at0 (dOf l0 l1 2) 4] := rfl
        obtain ⟨x0, hx0⟩ : ∃ x, x = at0 (dOf l0 l1 2) 0 := ⟨_, rfl⟩
        obtain ⟨x1, hx1⟩ : ∃ x, x = at0 (dOf l0 l1 2) 1 := ⟨_, rfl⟩
        obtain ⟨x2, hx2⟩ : ∃ x, x = at0 (dOf l0 l1 2) 2 := ⟨_, rfl⟩
        obtain ⟨x3, hx3⟩ : ∃ x, x = at0 (dOf l0 l1 2) 3 := ⟨_, rfl⟩
        obtain ⟨x4, hx4⟩ : ∃ x, x = at0 (dOf l0 l1 2) 4 := ⟨_, rfl⟩
        have hI3 := HI.out 5 (by omega)
        rw [← hx0, ← hx1, ← hx2, ← hx3, ← hx4] at hI3 hT
        have HT := Lib.hid hT
        have HI3 := Lib.hid hI3
        clear hF hT hx0 hx1 hx2 hx3 hx4 hI3 c0 c1 z0 z1
        go_wp2_with fail
        refine (clone_any ⟨w.heap.size + 1, 0, none⟩ 5 [x0, x1, x2, x3, x4] _ HI3.out (by simp)).mono ?_
        rintro e W1 ⟨v, rfl, f1, y1⟩
        obtain ⟨av, cv, rfl⟩ := f1.form
        obtain ⟨⟨c0, c1⟩, z0, z1⟩ := HO.out.ext y1
        have hy := hx.trans y1
        have F := Lib.hid f1
        clear f1 y1
        go_wp2
        refine bodyPost_ret (v := .agg #[.int .i64 (sOf s0 s1 2), .slice av 5 cv]) (by simp [results, Try.results74, go_sem, c0, c1]) rfl ⟨_, rfl, ?_, (hy.setc (Nat.le_refl _)).setc (Nat.le_refl _)⟩
        have hB : w.heap.size < wr.heap.size := by omega
        have F2 := (F.out.set w.heap.size 0 (.int .i64 (sOf s0 s1 2)) hB).set w.heap.size 1 (.slice av 5 cv) hB
        rw [HT.out]
        exact F2.more (Nat.le_of_lt hB)

end Go.Proofs.Ytbffkidkfannhaa

namespace Go.Proofs.Ytbffkidkfannhaa
open Go.RowKit
set_option linter.unusedVariables false

/-- v is a slice that reads as the attributes A in w. -/
def Attrs (w : World) (v : Value) (A : List (Int × List Int)) : Prop :=
  ∃ ao cap, v = .slice ao A.length cap ∧ A.length ≤ maxLen ∧ (A.length ≤ cap ∧ cap ≤ maxLen ∧ (ao = none → cap = 0)) ∧
    (0 < A.length → ∃ b off, ao = some ⟨b, off, none⟩ ∧ ∀ j (h : j < A.length), ∃ u, w.cell? ⟨b, off + j * 2, none⟩ = some (.int .i64 A[j].1) ∧ w.cell? ⟨b, off + j * 2 + 1, none⟩ = some u ∧ Ints w u A[j].2)
theorem Attrs.ext {w w' : World} {v : Value} {A : List (Int × List Int)} (h : Attrs w v A) (e : Ext w w') : Attrs w' v A := by
  obtain ⟨ao, cap, hv, hm, hcap, hc⟩ := h
  refine ⟨ao, cap, hv, hm, hcap, fun hp => ?_⟩
  obtain ⟨b, off, ha, hc⟩ := hc hp
  refine ⟨b, off, ha, fun j hj => ?_⟩
  obtain ⟨u, h1, h2, h3⟩ := hc j hj
  exact ⟨u, e.cell h1, e.cell h2, h3.ext e⟩
/-- The greatest Seq of the first k, and what they hang on. -/
def sN (A : List (Int × List Int)) (k : Nat) : Int := (A.take k).foldl (fun s x => mx s x.1) 0
def dStep (d l : List Int) : List Int := (List.range 5).map fun i => mx (at0 d i) (at0 l i)
def dN (A : List (Int × List Int)) (k : Nat) : List Int := (A.take k).foldl (fun d x => dStep d x.2) [0, 0, 0, 0, 0]
theorem sN_succ {A : List (Int × List Int)} {k : Nat} (h : k < A.length) : sN A (k + 1) = mx (sN A k) A[k].1 := by
  unfold sN
  rw [List.take_succ_eq_append_getElem h, List.foldl_append]
  rfl
theorem dN_succ {A : List (Int × List Int)} {k : Nat} (h : k < A.length) : dN A (k + 1) = dStep (dN A k) A[k].2 := by
  unfold dN
  rw [List.take_succ_eq_append_getElem h, List.foldl_append]
  rfl
theorem mix_step {w : World} {b : Nat} {d l : List Int} (h : MixAt w b d l 5) : FiveAt w b (at0 (dStep d l) 0) (at0 (dStep d l) 1) (at0 (dStep d l) 2) (at0 (dStep d l) 3) (at0 (dStep d l) 4) := h
theorem dN_len (A : List (Int × List Int)) (k : Nat) : (dN A k).length = 5 := by
  induction k with
  | zero => rfl
  | succ k ih =>
    by_cases h : k < A.length
    · rw [dN_succ h]; simp [dStep]
    · unfold dN at ih ⊢
      rw [List.take_of_length_le (by omega)]
      rw [List.take_of_length_le (by omega)] at ih
      exact ih
theorem take5 {d : List Int} (h : d.length = 5) : d = [at0 d 0, at0 d 1, at0 d 2, at0 d 3, at0 d 4] := by
  match d, h with
  | [a, b, c, e, f], _ => rfl

set_option maxRecDepth 100000 in
set_option maxHeartbeats 4000000 in
theorem joinAttrs_any (n : Int) (hn : isGrp n = true) (v : Value) (A : List (Int × List Int)) (w : World) (hv : Attrs w v A) :
    Calls Try.prog 74 #[.int .i64 n, v] w (NewAttr (sN A A.length) ((dN A A.length).take n.toNat) w) := by
  have HN := Lib.hid hn
  obtain ⟨av, cv, rfl, hlv, _, hcv⟩ := hv
  unfold maxLen at hlv
  have HCV := Lib.hid hcv
  have hmax : ∀ (ts : Array TypeId) (T : TypeId) (W : World) (x y : Int), (Builtin.max_ ts T #[.int .i64 x, .int .i64 y]).run Try.prog W = .ok (.int .i64 (mx x y)) W := fun ts T W x y => by simp only [run_max_int2]; rfl
  clear hn hcv
  go_enter Try.func74, Try.ntmps74
  go_wp2
  go_loopw [5, 13] (fun s i wr => ∃ k : Nat, k ≤ A.length ∧ i = .int .i64 k ∧ s = .int .i64 (sN A k) ∧ Hid (FiveAt wr (w.heap.size + 1) (at0 (dN A k) 0) (at0 (dN A k) 1) (at0 (dN A k) 2) (at0 (dN A k) 3) (at0 (dN A k) 4)) ∧ OpenAt wr w.heap.size 0 (.slice none 0 0) ∧ Ext w wr) (fun _ i _ => A.length - (intOf i).toNat)
  case atStart => exact ⟨0, by omega, rfl, rfl, Lib.hid (by
    have hf := fiveAt_new (w.alloc (.cells #[.int .i64 0, .slice none 0 0] 55)) 0 0 0 0 0
    rw [World.size_alloc] at hf
    simpa [dN, at0] using hf), open_next _ _ _ _ _, Ext.alloc2 _ _ _⟩
  case round =>
    obtain ⟨k, hk, rfl, rfl, hF, hO, hx⟩ := hrel
    by_cases hlt : k < A.length
    · obtain ⟨b, off, rfl, dv⟩ := HCV.out (by omega)
      obtain ⟨x, hxx⟩ : ∃ x, x = A[k] := ⟨_, rfl⟩
      obtain ⟨u, g0, g1, iu⟩ := dv k hlt
      rw [← hxx] at g0 iu
      have HS : Hid (sN A (k + 1) = mx (sN A k) x.1) := Lib.hid (by rw [hxx]; exact sN_succ hlt)
      have HD : Hid (dN A (k + 1) = dStep (dN A k) x.2) := Lib.hid (by rw [hxx]; exact dN_succ hlt)
      have IU := Lib.hid iu
      obtain ⟨au, cu, rfl, hlu, _, _⟩ := iu
      have HO := Lib.hid (hO.ext (Ext.alloc (Ext.refl _) (.cells #[.int .i64 x.1, .slice au x.2.length cu] 55)))
      have HF := Lib.hid (hF.out.ext (Ext.alloc (Ext.refl _) (.cells #[.int .i64 x.1, .slice au x.2.length cu] 55)))
      have HX := Lib.hid (hx.alloc (.cells #[.int .i64 x.1, .slice au x.2.length cu] 55))
      have g0 := hx.cell g0
      have g1 := hx.cell g1
      have hsz : b < wr.heap.size := World.block_lt_of_cell? wr _ g0
      clear hO hF hx dv hxx hlu
      go_wp2_with fail
      refine (depsIn_any _ x.2 _ (IU.out.ext HX.out)).mono ?_
      rintro e W1 ⟨rfl, x1⟩
      have O1 := Lib.hid (HO.out.ext x1)
      have F1 := Lib.hid (mix_zero (l := x.2) (HF.out.ext x1))
      have X1 := Lib.hid (HX.out.trans x1)
      have hidx := index5 x.2
      obtain ⟨D, hD⟩ : ∃ D, D = dN A k := ⟨_, rfl⟩
      rw [← hD] at F1 HD
      clear x1 g0 g1 hsz hD
      go_wp2
      go_loopw [24] (fun i W => ∃ j : Nat, j ≤ 5 ∧ i = .int .i64 j ∧ Hid (MixAt W (w.heap.size + 1) D x.2 j) ∧ OpenAt W w.heap.size 0 (.slice none 0 0) ∧ Ext w W) (fun i _ => 5 - (intOf i).toNat)
      case atStart => exact ⟨0, by omega, rfl, F1, O1.out, X1.out⟩
      case round =>
        obtain ⟨j, hj, rfl, hM, hO2, hx2⟩ := hrel
        by_cases hlt5 : j < 5
        · have gD := mix_cell hM.out hlt5
          have gF := mix_free hM.out j
          have hi := hidx j hlt5
          clear hidx
          go_wp2
          go_roundw
          case rel => exact ⟨j + 1, by omega, by go_num, Lib.hid (mix_store hM.out hlt5), by
            obtain ⟨⟨a, b⟩, c, d⟩ := hO2
            refine ⟨⟨?_, ?_⟩, ?_, ?_⟩ <;> go_simp, hx2.setc (Nat.le_succ _)⟩
          case measure => simp [intOf]; omega
        · obtain rfl : j = 5 := by omega
          have HF2 := mix_step hM.out
          rw [← HD.out] at HF2
          have HF2 := Lib.hid HF2
          clear hidx
          go_wp2
          go_roundw
          case rel => exact ⟨k + 1, by omega, by go_num, by rw [HS.out], HF2, hO2, hx2⟩
          case measure => simp [intOf]; omega
    · obtain rfl : k = A.length := by omega
      have HI := Lib.hid (five_ints hF.out)
      obtain ⟨⟨c0, c1⟩, z0, z1⟩ := hO
      have HO := Lib.hid (show OpenAt wr w.heap.size 0 (.slice none 0 0) from ⟨⟨c0, c1⟩, z0, z1⟩)
      have hD : w.heap.size + 1 < wr.heap.size := (Array.getElem?_eq_some_iff.1 hF.out).1
      obtain ⟨S, hS⟩ : ∃ S, S = sN A A.length := ⟨_, rfl⟩
      obtain ⟨D, hDD⟩ : ∃ D, D = dN A A.length := ⟨_, rfl⟩
      have hD5 : D = [at0 D 0, at0 D 1, at0 D 2, at0 D 3, at0 D 4] := take5 (by rw [hDD]; exact dN_len _ _)
      have HS0 := Lib.hid hS
      have HD0 := Lib.hid hDD
      rw [← hS]
      rw [← hDD] at HI hF
      rcases isGrp_of HN.out with rfl | rfl
      · have hT : List.take (3 : Int).toNat D = [at0 D 0, at0 D 1, at0 D 2] := by rw [hD5]; rfl
        obtain ⟨x0, hx0⟩ : ∃ x, x = at0 D 0 := ⟨_, rfl⟩
        obtain ⟨x1, hx1⟩ : ∃ x, x = at0 D 1 := ⟨_, rfl⟩
        obtain ⟨x2, hx2⟩ : ∃ x, x = at0 D 2 := ⟨_, rfl⟩
        have hI3 := HI.out 3 (by omega)
        rw [← hx0, ← hx1, ← hx2] at hI3 hT
        have HT := Lib.hid hT
        have HI3 := Lib.hid hI3
        clear hF hT hx0 hx1 hx2 hI3 c0 c1 z0 z1 hS hDD hD5
        go_wp2_with fail
        refine (clone_any ⟨w.heap.size + 1, 0, none⟩ 5 [x0, x1, x2] _ HI3.out (by simp)).mono ?_
        rintro e W1 ⟨v, rfl, f1, y1⟩
        obtain ⟨av, cv, rfl⟩ := f1.form
        obtain ⟨⟨c0, c1⟩, z0, z1⟩ := HO.out.ext y1
        have hy := hx.trans y1
        have F := Lib.hid f1
        clear f1 y1
        go_wp2
        refine bodyPost_ret (v := .agg #[.int .i64 S, .slice av 3 cv]) (by simp [results, Try.results74, go_sem, c0, c1]) rfl ⟨_, by rw [HS0.out], ?_, (hy.setc (Nat.le_refl _)).setc (Nat.le_refl _)⟩
        have hB : w.heap.size < wr.heap.size := by omega
        have F2 := (F.out.set w.heap.size 0 (.int .i64 S) hB).set w.heap.size 1 (.slice av 3 cv) hB
        rw [← HD0.out, HT.out]
        exact F2.more (Nat.le_of_lt hB)
      · have hT : List.take (5 : Int).toNat D = [at0 D 0, at0 D 1, at0 D 2, at0 D 3, at0 D 4] := by rw [hD5]; rfl
        obtain ⟨x0, hx0⟩ : ∃ x, x = at0 D 0 := ⟨_, rfl⟩
        obtain ⟨x1, hx1⟩ : ∃ x, x = at0 D 1 := ⟨_, rfl⟩
        obtain ⟨x2, hx2⟩ : ∃ x, x = at0 D 2 := ⟨_, rfl⟩
        obtain ⟨x3, hx3⟩ : ∃ x, x = at0 D 3 := ⟨_, rfl⟩
        obtain ⟨x4, hx4⟩ : ∃ x, x = at0 D 4 := ⟨_, rfl⟩
        have hI3 := HI.out 5 (by omega)
        rw [← hx0, ← hx1, ← hx2, ← hx3, ← hx4] at hI3 hT
        have HT := Lib.hid hT
        have HI3 := Lib.hid hI3
        clear hF hT hx0 hx1 hx2 hx3 hx4 hI3 c0 c1 z0 z1 hS hDD hD5
        go_wp2_with fail
        refine (clone_any ⟨w.heap.size + 1, 0, none⟩ 5 [x0, x1, x2, x3, x4] _ HI3.out (by simp)).mono ?_
        rintro e W1 ⟨v, rfl, f1, y1⟩
        obtain ⟨av, cv, rfl⟩ := f1.form
        obtain ⟨⟨c0, c1⟩, z0, z1⟩ := HO.out.ext y1
        have hy := hx.trans y1
        have F := Lib.hid f1
        clear f1 y1
        go_wp2
        refine bodyPost_ret (v := .agg #[.int .i64 S, .slice av 5 cv]) (by simp [results, Try.results74, go_sem, c0, c1]) rfl ⟨_, by rw [HS0.out], ?_, (hy.setc (Nat.le_refl _)).setc (Nat.le_refl _)⟩
        have hB : w.heap.size < wr.heap.size := by omega
        have F2 := (F.out.set w.heap.size 0 (.int .i64 S) hB).set w.heap.size 1 (.slice av 5 cv) hB
        rw [← HD0.out, HT.out]
        exact F2.more (Nat.le_of_lt hB)

end Go.Proofs.Ytbffkidkfannhaa
