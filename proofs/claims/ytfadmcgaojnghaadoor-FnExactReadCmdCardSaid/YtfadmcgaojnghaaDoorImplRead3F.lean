/- Contract of the program's ReadCmd at texts of the right length: a read that is not good. -/
import Derived.Test.YtfadmcgaojnghaaDoorImplRead3
namespace Go.Proofs.YtfadmcgaojnghaaDoor
open Go.RowKit
set_option linter.unusedVariables false

set_option maxRecDepth 100000 in
set_option maxHeartbeats 4000000 in
theorem implRead_2_code (s : ByteArray) (w : World) (hs : s.size ≤ 1048576) (hp : Pow w) (he : ErrAt w) (hfm : Forms w) (hmx : MaxAt w) (u0 : ByteArray) (rest : List ByteArray) (hw : words6 s = u0 :: rest) (hk : u0.data.toList = [114, 101, 97, 100]) (hl : rest.length = 2) (hsz : ∀ x ∈ rest, x.size ≤ 1048576) (hbad : allNum rest = true) (N0 N1 : Int) (hN : numsW rest = [N0, N1]) (c : Int) (hc : c = codeR N0 N1) (hpos : 0 < c) :
    Calls Tryd.prog 13 #[.string s] w (CmdRes 0 0 0 0 0 c false w) := by
  have HK := Lib.hid (show kindI u0.data.toList = 2 ∧ isKind u0.data.toList = true by rw [hk]; decide)
  have HSZ := Lib.hid hsz
  have HBAD := Lib.hid hbad
  have hb : ((rest.length : Int) + 1 != 3) = false := by simp [hl]
  have H3 := Lib.hid hl
  have hln1 : 1 ≤ rest.length := by omega
  clear hk hsz hbad hl
  have HN := Lib.hid hN
  have HC := Lib.hid hc
  clear hN hc
  have HW := Lib.hid hw
  have HP := Lib.hid hp
  have HE := Lib.hid he
  have HF := Lib.hid hfm
  have HMX := Lib.hid hmx
  have HO := Lib.hid (open5_new w 25 0 0 0 0 0)
  have hrl : rest.length ≤ 5 := by
    have h := (words6_len s).2
    rw [hw] at h
    simp at h
    omega
  clear hw hp he hfm hmx
  go_enter Tryd.func13, Tryd.ntmps13
  go_wp2_with fail
  refine (splitN_at s hs _ (HMX.out.ext (Ext.alloc (Ext.refl _) _))).mono ?_
  rintro e w1 ⟨v, rfl, f1, x1⟩
  rw [HW.out] at f1
  obtain ⟨av, cv, rfl, _, hcap, hcv⟩ := f1
  obtain ⟨bv, ov, rfl, dv⟩ := hcv (by simp)
  have g0 : w1.cell? ⟨bv, ov, none⟩ = some (.string u0) := dv 0 (by simp)
  have DV := Lib.hid dv
  have hcap1 : rest.length + 1 ≤ cv := hcap.1
  have hcap2 : cv ≤ 9223372036854775807 := by have h := hcap.2.1; unfold maxLen at h; omega
  have hx : Ext w w1 := (Ext.alloc (Ext.refl _) _).trans x1
  have HOP := Lib.hid (HO.out.ext x1)
  have hln : (u0 :: rest).length = rest.length + 1 := rfl
  rw [hln]
  clear hcap hcv dv x1 hln
  go_wp2_with fail
  refine (kindOfWord_any _ _ (HF.out.ext hx)).mono ?_
  rintro e w2 ⟨rfl, x2⟩
  rw [HK.out.1, HK.out.2]
  have hx2 : Ext w w2 := hx.trans x2
  have hx12 : Ext w1 w2 := x2
  clear x2 g0
  obtain ⟨⟨f0, f2, f4⟩, f1, f3', f5⟩ := HF.out.ext hx2
  have hcv1 : 1 < cv := by omega
  go_wp2_with fail
  refine (readNumbers_any _ rest _ (strs_tail hx12 hcap1 hcap2 DV.out) HSZ.out (by omega) (HP.out.ext hx2) (HE.out.ext hx2)).mono ?_
  rintro e w3 ⟨v3, rfl, f3, x3⟩
  rw [HBAD.out] at f3 ⊢
  have hx3 : Ext w w3 := hx2.trans x3
  have hx13 : Ext w1 w3 := hx12.trans x3
  clear x3
  rw [if_pos rfl, HN.out] at f3
  clear f0 f1 f2 f3' f4 f5
  go_wp2_with fail
  refine (cmdWith_2 N0 N1 _ _ f3.ints).mono ?_
  rintro e w4 ⟨rfl, x4⟩
  have hx4 : Ext w w4 := hx3.trans x4
  have hx14 : Ext w1 w4 := hx13.trans x4
  have K0 := Lib.hid (cmdAt_new w4 25 2 N0 N1 0 0)
  clear x4 f3
  go_wp2_with fail
  refine (faultOfCmd_read 2 N0 N1 0 0 _ rfl rfl).mono ?_
  rintro e w5 ⟨rfl, x5⟩
  have hx5 : Ext w w5 := (hx4.alloc _).trans x5
  obtain ⟨⟨c0, c1, c2, c3, c4⟩, z0, z1, z2, z3, z4⟩ := HOP.out.ext ((hx14.alloc _).trans x5)
  obtain ⟨p0, p1, p2, p3, p4⟩ := K0.out.ext x5
  clear x5
  rw [← HC.out]
  have hne : (c != 0) = true := by rw [bne_iff_ne]; omega
  go_wp2
  refine bodyPost_ret (v := .tuple #[.agg #[.int .i64 0, .int .i64 0, .int .i64 0, .int .i64 0, .int .i64 0], .int .i64 c, .bool false]) ?_ rfl ⟨rfl, ?_⟩
  · simp [results, Tryd.results13, go_sem, c0, c1, c2, c3, c4]
  · exact Ext.setc (Ext.setc (Ext.setc (Ext.setc (Ext.setc (hx5) (Nat.le_refl _)) (Nat.le_refl _)) (Nat.le_refl _)) (Nat.le_refl _)) (Nat.le_refl _)

end Go.Proofs.YtfadmcgaojnghaaDoor
