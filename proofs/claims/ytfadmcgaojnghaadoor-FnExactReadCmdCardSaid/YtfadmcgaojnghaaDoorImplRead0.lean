/- Contract of the program's ReadCmd at the text of the command that does nothing. -/
import Derived.Test.YtfadmcgaojnghaaDoorImplRead3
namespace Go.Proofs.YtfadmcgaojnghaaDoor
open Go.RowKit
set_option linter.unusedVariables false

theorem words6_dash : words6 ⟨#[45]⟩ = [⟨#[45]⟩] := by
  have hd : (words6 ⟨#[45]⟩).map (·.data.toList) = sp 32 1 [45] := Lib.splitB_data ⟨#[32]⟩ 0 _ ⟨#[45]⟩
  rw [sp_miss 1 (by
    intro j
    match j with
    | 0 => decide
    | j + 1 => simp)] at hd
  match h : words6 ⟨#[45]⟩, hd with
  | [], hd => simp at hd
  | x :: y :: l, hd => simp at hd
  | [x], hd =>
    simp only [List.map_cons, List.map_nil, List.cons.injEq, and_true] at hd
    obtain ⟨⟨a⟩⟩ := x
    simp only at hd
    rw [hd]
theorem splitN_dash (w : World) (hm : MaxAt w) :
    Calls Tryd.prog 39 #[.string ⟨#[45]⟩, .string ⟨#[32]⟩, .int .i64 6] w fun e w' => e = .returned (.slice (some ⟨w.heap.size, 0, none⟩) 1 2) ∧ w'.cell? ⟨w.heap.size, 0, none⟩ = some (.string ⟨#[45]⟩) ∧ Ext w w' := by
  obtain ⟨m, hm⟩ := hm
  refine (Tryd.strings_SplitN ⟨#[45]⟩ ⟨#[32]⟩ 6 m w (by decide) hm (by decide) (by decide) (by decide)).mono ?_
  rintro e w' ⟨rfl, rfl⟩
  refine ⟨?_, ?_, Ext.alloc (Ext.refl _) _⟩
  · show Ending.returned (.slice (some ⟨w.heap.size, 0, none⟩) (words6 ⟨#[45]⟩).length _) = _
    rw [words6_dash]; rfl
  · have hc : (Lib.cellsOf (words6 ⟨#[45]⟩) (min 6 ((⟨#[45]⟩ : ByteArray).size + 1)))[0]? = some (.string ⟨#[45]⟩) := by
      rw [words6_dash]; exact cellsOf_at (us := [⟨#[45]⟩]) (j := 0) (by decide) (by decide)
    show (w.alloc (.cells (Lib.cellsOf (words6 ⟨#[45]⟩) (min 6 ((⟨#[45]⟩ : ByteArray).size + 1))) 9)).cell? ⟨w.heap.size, 0, none⟩ = _
    rw [← hc]
    go_simp

set_option maxRecDepth 100000 in
set_option maxHeartbeats 4000000 in
theorem implRead_0 (w : World) (hp : Pow w) (he : ErrAt w) (hfm : Forms w) (hmx : MaxAt w) :
    Calls Tryd.prog 13 #[.string ⟨#[45]⟩] w (CmdRes 0 0 0 0 0 0 true w) := by
  have HP := Lib.hid hp
  have HE := Lib.hid he
  have HF := Lib.hid hfm
  have HMX := Lib.hid hmx
  have HK := Lib.hid (show kindI (⟨#[45]⟩ : ByteArray).data.toList = 0 ∧ isKind (⟨#[45]⟩ : ByteArray).data.toList = true by decide)
  have HO := Lib.hid (open5_new w 25 0 0 0 0 0)
  clear hp he hfm hmx
  go_enter Tryd.func13, Tryd.ntmps13
  go_wp2_with fail
  refine (splitN_dash _ (HMX.out.ext (Ext.alloc (Ext.refl _) _))).mono ?_
  rintro e w1 ⟨rfl, g0, x1⟩
  rw [World.size_alloc] at g0 ⊢
  have hx : Ext w w1 := (Ext.alloc (Ext.refl _) _).trans x1
  have HOP := Lib.hid (HO.out.ext x1)
  clear x1
  go_wp2_with fail
  refine (kindOfWord_any _ _ (HF.out.ext hx)).mono ?_
  rintro e w2 ⟨rfl, x2⟩
  rw [HK.out.1, HK.out.2]
  have hx2 : Ext w w2 := hx.trans x2
  have hx12 : Ext w1 w2 := x2
  clear x2 g0
  obtain ⟨⟨f0, f2, f4⟩, f1, f3', f5⟩ := HF.out.ext hx2
  have HS : Hid (∀ W : World, Strs W (.slice (some ⟨w.heap.size + 1, 1, none⟩) 0 1) []) := Lib.hid (fun W => ⟨some ⟨w.heap.size + 1, 1, none⟩, 1, rfl, by simp, ⟨by simp, by unfold maxLen; omega, fun h => by cases h⟩, fun h => by simp at h⟩)
  go_wp2_with fail
  refine (readNumbers_any _ [] _ (HS.out _) (fun s h => by cases h) (by simp) (HP.out.ext hx2) (HE.out.ext hx2)).mono ?_
  rintro e w3 ⟨v3, rfl, f3, x3⟩
  have hx3 : Ext w w3 := hx2.trans x3
  have hx13 : Ext w1 w3 := hx12.trans x3
  have HF3 := Lib.hid f3.ints
  rw [show allNum [] = true from rfl]
  clear x3 f0 f1 f2 f3' f4 f5 f3
  go_wp2_with fail
  refine (cmdWith_0 _ _ _ HF3.out).mono ?_
  rintro e w4 ⟨rfl, x4⟩
  have hx4 : Ext w w4 := hx3.trans x4
  have hx14 : Ext w1 w4 := hx13.trans x4
  have K0 := Lib.hid (cmdAt_new w4 25 0 0 0 0 0)
  clear x4
  go_wp2_with fail
  refine (faultOfCmd_none _).mono ?_
  rintro e w5 ⟨rfl, x5⟩
  have hx5 : Ext w w5 := (hx4.alloc _).trans x5
  obtain ⟨⟨c0, c1, c2, c3, c4⟩, z0, z1, z2, z3, z4⟩ := HOP.out.ext ((hx14.alloc _).trans x5)
  obtain ⟨p0, p1, p2, p3, p4⟩ := K0.out.ext x5
  clear x5
  go_wp2
  refine bodyPost_ret (v := .tuple #[.agg #[.int .i64 0, .int .i64 0, .int .i64 0, .int .i64 0, .int .i64 0], .int .i64 0, .bool true]) ?_ rfl ⟨rfl, ?_⟩
  · simp [results, Tryd.results13, go_sem, c0, c1, c2, c3, c4]
  · exact Ext.setc (Ext.setc (Ext.setc (Ext.setc (Ext.setc (hx5) (Nat.le_refl _)) (Nat.le_refl _)) (Nat.le_refl _)) (Nat.le_refl _)) (Nat.le_refl _)

end Go.Proofs.YtfadmcgaojnghaaDoor
