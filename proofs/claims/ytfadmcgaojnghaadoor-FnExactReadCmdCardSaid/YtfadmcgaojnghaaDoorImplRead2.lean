/- Contract of the program's ReadCmd, by cases of the text. -/
import Derived.Test.YtfadmcgaojnghaaDoorImplRead
namespace Go.Proofs.YtfadmcgaojnghaaDoor
open Go.RowKit
set_option linter.unusedVariables false

theorem kindW (k : Nat) (h : k < 3) : kindI (formWord k) = k ∧ isKind (formWord k) = true := kind_hit h rfl

set_option maxRecDepth 100000 in
set_option maxHeartbeats 4000000 in
theorem implRead_1 (s : ByteArray) (w : World) (hs : s.size ≤ 1048576) (hp : Pow w) (he : ErrAt w) (hfm : Forms w) (hmx : MaxAt w) (u0 : ByteArray) (rest : List ByteArray) (hw : words6 s = u0 :: rest) (hk : isKind u0.data.toList = false) :
    Calls Tryd.prog 13 #[.string s] w (CmdRes 0 0 0 0 0 1 false w) := by
  have HK := Lib.hid (show kindI u0.data.toList = 0 ∧ isKind u0.data.toList = false from ⟨by
    unfold isKind at hk
    simp only [Bool.or_eq_false_iff] at hk
    unfold kindI
    rw [hk.1, hk.2.1, hk.2.2]; rfl, hk⟩)
  clear hk
  have HW := Lib.hid hw
  have HP := Lib.hid hp
  have HE := Lib.hid he
  have HF := Lib.hid hfm
  have HMX := Lib.hid hmx
  have HO := Lib.hid (open5_new w 25 0 0 0 0 0)
  have hrl : rest.length ≤ 5 := by
    have h := (words6_len s).2
    rw [hw] at h
    simp at h
    omega
  clear hw hp he hfm hmx
  go_enter Tryd.func13, Tryd.ntmps13
  go_wp2_with fail
  refine (splitN_at s hs _ (HMX.out.ext (Ext.alloc (Ext.refl _) _))).mono ?_
  rintro e w1 ⟨v, rfl, f1, x1⟩
  rw [HW.out] at f1
  obtain ⟨av, cv, rfl, _, hcap, hcv⟩ := f1
  obtain ⟨bv, ov, rfl, dv⟩ := hcv (by simp)
  have g0 : w1.cell? ⟨bv, ov, none⟩ = some (.string u0) := dv 0 (by simp)
  have DV := Lib.hid dv
  have hcap1 : rest.length + 1 ≤ cv := hcap.1
  have hcap2 : cv ≤ 9223372036854775807 := by have h := hcap.2.1; unfold maxLen at h; omega
  have hx : Ext w w1 := (Ext.alloc (Ext.refl _) _).trans x1
  have HOP := Lib.hid (HO.out.ext x1)
  have hln : (u0 :: rest).length = rest.length + 1 := rfl
  rw [hln]
  clear hcap hcv dv x1 hln
  go_wp2_with fail
  refine (kindOfWord_any _ _ (HF.out.ext hx)).mono ?_
  rintro e w2 ⟨rfl, x2⟩
  rw [HK.out.1, HK.out.2]
  have hx2 : Ext w w2 := hx.trans x2
  have hx12 : Ext w1 w2 := x2
  clear x2 g0
  obtain ⟨⟨c0, c1, c2, c3, c4⟩, z0, z1, z2, z3, z4⟩ := HOP.out.ext hx12
  go_wp2
  refine bodyPost_ret (v := .tuple #[.agg #[.int .i64 0, .int .i64 0, .int .i64 0, .int .i64 0, .int .i64 0], .int .i64 1, .bool false]) ?_ rfl ⟨rfl, ?_⟩
  · simp [results, Tryd.results13, go_sem, c0, c1, c2, c3, c4]
  · exact Ext.setc (Ext.setc (Ext.setc (Ext.setc (Ext.setc (hx2) (Nat.le_refl _)) (Nat.le_refl _)) (Nat.le_refl _)) (Nat.le_refl _)) (Nat.le_refl _)

set_option maxRecDepth 100000 in
set_option maxHeartbeats 4000000 in
theorem implRead_2_1 (s : ByteArray) (w : World) (hs : s.size ≤ 1048576) (hp : Pow w) (he : ErrAt w) (hfm : Forms w) (hmx : MaxAt w) (u0 : ByteArray) (rest : List ByteArray) (hw : words6 s = u0 :: rest) (hk : u0.data.toList = [109, 111, 118, 101]) (hl : rest.length + 1 ≠ 5) :
    Calls Tryd.prog 13 #[.string s] w (CmdRes 0 0 0 0 0 2 false w) := by
  have HK := Lib.hid (show kindI u0.data.toList = 1 ∧ isKind u0.data.toList = true by rw [hk]; decide)
  have hb : ((rest.length : Int) + 1 != 5) = true := by rw [bne_iff_ne]; omega
  clear hk hl
  have HW := Lib.hid hw
  have HP := Lib.hid hp
  have HE := Lib.hid he
  have HF := Lib.hid hfm
  have HMX := Lib.hid hmx
  have HO := Lib.hid (open5_new w 25 0 0 0 0 0)
  have hrl : rest.length ≤ 5 := by
    have h := (words6_len s).2
    rw [hw] at h
    simp at h
    omega
  clear hw hp he hfm hmx
  go_enter Tryd.func13, Tryd.ntmps13
  go_wp2_with fail
  refine (splitN_at s hs _ (HMX.out.ext (Ext.alloc (Ext.refl _) _))).mono ?_
  rintro e w1 ⟨v, rfl, f1, x1⟩
  rw [HW.out] at f1
  obtain ⟨av, cv, rfl, _, hcap, hcv⟩ := f1
  obtain ⟨bv, ov, rfl, dv⟩ := hcv (by simp)
  have g0 : w1.cell? ⟨bv, ov, none⟩ = some (.string u0) := dv 0 (by simp)
  have DV := Lib.hid dv
  have hcap1 : rest.length + 1 ≤ cv := hcap.1
  have hcap2 : cv ≤ 9223372036854775807 := by have h := hcap.2.1; unfold maxLen at h; omega
  have hx : Ext w w1 := (Ext.alloc (Ext.refl _) _).trans x1
  have HOP := Lib.hid (HO.out.ext x1)
  have hln : (u0 :: rest).length = rest.length + 1 := rfl
  rw [hln]
  clear hcap hcv dv x1 hln
  go_wp2_with fail
  refine (kindOfWord_any _ _ (HF.out.ext hx)).mono ?_
  rintro e w2 ⟨rfl, x2⟩
  rw [HK.out.1, HK.out.2]
  have hx2 : Ext w w2 := hx.trans x2
  have hx12 : Ext w1 w2 := x2
  clear x2 g0
  obtain ⟨⟨c0, c1, c2, c3, c4⟩, z0, z1, z2, z3, z4⟩ := HOP.out.ext hx12
  obtain ⟨⟨f0, f2, f4⟩, f1, f3, f5⟩ := HF.out.ext hx2
  go_wp2
  refine bodyPost_ret (v := .tuple #[.agg #[.int .i64 0, .int .i64 0, .int .i64 0, .int .i64 0, .int .i64 0], .int .i64 2, .bool false]) ?_ rfl ⟨rfl, ?_⟩
  · simp [results, Tryd.results13, go_sem, c0, c1, c2, c3, c4]
  · exact Ext.setc (Ext.setc (Ext.setc (Ext.setc (Ext.setc (hx2) (Nat.le_refl _)) (Nat.le_refl _)) (Nat.le_refl _)) (Nat.le_refl _)) (Nat.le_refl _)

set_option maxRecDepth 100000 in
set_option maxHeartbeats 4000000 in
theorem implRead_2_2 (s : ByteArray) (w : World) (hs : s.size ≤ 1048576) (hp : Pow w) (he : ErrAt w) (hfm : Forms w) (hmx : MaxAt w) (u0 : ByteArray) (rest : List ByteArray) (hw : words6 s = u0 :: rest) (hk : u0.data.toList = [114, 101, 97, 100]) (hl : rest.length + 1 ≠ 3) :
    Calls Tryd.prog 13 #[.string s] w (CmdRes 0 0 0 0 0 2 false w) := by
  have HK := Lib.hid (show kindI u0.data.toList = 2 ∧ isKind u0.data.toList = true by rw [hk]; decide)
  have hb : ((rest.length : Int) + 1 != 3) = true := by rw [bne_iff_ne]; omega
  clear hk hl
  have HW := Lib.hid hw
  have HP := Lib.hid hp
  have HE := Lib.hid he
  have HF := Lib.hid hfm
  have HMX := Lib.hid hmx
  have HO := Lib.hid (open5_new w 25 0 0 0 0 0)
  have hrl : rest.length ≤ 5 := by
    have h := (words6_len s).2
    rw [hw] at h
    simp at h
    omega
  clear hw hp he hfm hmx
  go_enter Tryd.func13, Tryd.ntmps13
  go_wp2_with fail
  refine (splitN_at s hs _ (HMX.out.ext (Ext.alloc (Ext.refl _) _))).mono ?_
  rintro e w1 ⟨v, rfl, f1, x1⟩
  rw [HW.out] at f1
  obtain ⟨av, cv, rfl, _, hcap, hcv⟩ := f1
  obtain ⟨bv, ov, rfl, dv⟩ := hcv (by simp)
  have g0 : w1.cell? ⟨bv, ov, none⟩ = some (.string u0) := dv 0 (by simp)
  have DV := Lib.hid dv
  have hcap1 : rest.length + 1 ≤ cv := hcap.1
  have hcap2 : cv ≤ 9223372036854775807 := by have h := hcap.2.1; unfold maxLen at h; omega
  have hx : Ext w w1 := (Ext.alloc (Ext.refl _) _).trans x1
  have HOP := Lib.hid (HO.out.ext x1)
  have hln : (u0 :: rest).length = rest.length + 1 := rfl
  rw [hln]
  clear hcap hcv dv x1 hln
  go_wp2_with fail
  refine (kindOfWord_any _ _ (HF.out.ext hx)).mono ?_
  rintro e w2 ⟨rfl, x2⟩
  rw [HK.out.1, HK.out.2]
  have hx2 : Ext w w2 := hx.trans x2
  have hx12 : Ext w1 w2 := x2
  clear x2 g0
  obtain ⟨⟨c0, c1, c2, c3, c4⟩, z0, z1, z2, z3, z4⟩ := HOP.out.ext hx12
  obtain ⟨⟨f0, f2, f4⟩, f1, f3, f5⟩ := HF.out.ext hx2
  go_wp2
  refine bodyPost_ret (v := .tuple #[.agg #[.int .i64 0, .int .i64 0, .int .i64 0, .int .i64 0, .int .i64 0], .int .i64 2, .bool false]) ?_ rfl ⟨rfl, ?_⟩
  · simp [results, Tryd.results13, go_sem, c0, c1, c2, c3, c4]
  · exact Ext.setc (Ext.setc (Ext.setc (Ext.setc (Ext.setc (hx2) (Nat.le_refl _)) (Nat.le_refl _)) (Nat.le_refl _)) (Nat.le_refl _)) (Nat.le_refl _)

set_option maxRecDepth 100000 in
set_option maxHeartbeats 4000000 in
theorem implRead_2_0 (s : ByteArray) (w : World) (hs : s.size ≤ 1048576) (hp : Pow w) (he : ErrAt w) (hfm : Forms w) (hmx : MaxAt w) (u0 : ByteArray) (rest : List ByteArray) (hw : words6 s = u0 :: rest) (hk : u0.data.toList = [45]) (hl : rest.length + 1 ≠ 1) :
    Calls Tryd.prog 13 #[.string s] w (CmdRes 0 0 0 0 0 2 false w) := by
  have HK := Lib.hid (show kindI u0.data.toList = 0 ∧ isKind u0.data.toList = true by rw [hk]; decide)
  have hb : ((rest.length : Int) + 1 != 1) = true := by rw [bne_iff_ne]; omega
  clear hk hl
  have HW := Lib.hid hw
  have HP := Lib.hid hp
  have HE := Lib.hid he
  have HF := Lib.hid hfm
  have HMX := Lib.hid hmx
  have HO := Lib.hid (open5_new w 25 0 0 0 0 0)
  have hrl : rest.length ≤ 5 := by
    have h := (words6_len s).2
    rw [hw] at h
    simp at h
    omega
  clear hw hp he hfm hmx
  go_enter Tryd.func13, Tryd.ntmps13
  go_wp2_with fail
  refine (splitN_at s hs _ (HMX.out.ext (Ext.alloc (Ext.refl _) _))).mono ?_
  rintro e w1 ⟨v, rfl, f1, x1⟩
  rw [HW.out] at f1
  obtain ⟨av, cv, rfl, _, hcap, hcv⟩ := f1
  obtain ⟨bv, ov, rfl, dv⟩ := hcv (by simp)
  have g0 : w1.cell? ⟨bv, ov, none⟩ = some (.string u0) := dv 0 (by simp)
  have DV := Lib.hid dv
  have hcap1 : rest.length + 1 ≤ cv := hcap.1
  have hcap2 : cv ≤ 9223372036854775807 := by have h := hcap.2.1; unfold maxLen at h; omega
  have hx : Ext w w1 := (Ext.alloc (Ext.refl _) _).trans x1
  have HOP := Lib.hid (HO.out.ext x1)
  have hln : (u0 :: rest).length = rest.length + 1 := rfl
  rw [hln]
  clear hcap hcv dv x1 hln
  go_wp2_with fail
  refine (kindOfWord_any _ _ (HF.out.ext hx)).mono ?_
  rintro e w2 ⟨rfl, x2⟩
  rw [HK.out.1, HK.out.2]
  have hx2 : Ext w w2 := hx.trans x2
  have hx12 : Ext w1 w2 := x2
  clear x2 g0
  obtain ⟨⟨c0, c1, c2, c3, c4⟩, z0, z1, z2, z3, z4⟩ := HOP.out.ext hx12
  obtain ⟨⟨f0, f2, f4⟩, f1, f3, f5⟩ := HF.out.ext hx2
  go_wp2
  refine bodyPost_ret (v := .tuple #[.agg #[.int .i64 0, .int .i64 0, .int .i64 0, .int .i64 0, .int .i64 0], .int .i64 2, .bool false]) ?_ rfl ⟨rfl, ?_⟩
  · simp [results, Tryd.results13, go_sem, c0, c1, c2, c3, c4]
  · exact Ext.setc (Ext.setc (Ext.setc (Ext.setc (Ext.setc (hx2) (Nat.le_refl _)) (Nat.le_refl _)) (Nat.le_refl _)) (Nat.le_refl _)) (Nat.le_refl _)

end Go.Proofs.YtfadmcgaojnghaaDoor
