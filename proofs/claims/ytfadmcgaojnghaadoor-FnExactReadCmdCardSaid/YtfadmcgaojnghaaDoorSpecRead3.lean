/- Contract of the model's ReadCmd at texts of the right length, behind moves and reads. -/
import Derived.Test.YtfadmcgaojnghaaDoorSpecRead2
namespace Go.Proofs.YtfadmcgaojnghaaDoor
open Go.RowKit
set_option linter.unusedVariables false

/-- The model's four numbers behind j words. -/
def fillN (ws : List ByteArray) (j : Nat) : List Int := (ws.take j).map (fun s => readL s.data.toList) ++ List.replicate (4 - j) 0
theorem fillN_len (ws : List ByteArray) (j : Nat) (h : j ≤ ws.length) (h4 : j ≤ 4) : (fillN ws j).length = 4 := by simp [fillN]; omega
theorem fillN_zero (ws : List ByteArray) : fillN ws 0 = [0, 0, 0, 0] := by simp [fillN, List.replicate]
theorem fillN_succ (ws : List ByteArray) (j : Nat) (h : j < ws.length) (h4 : j < 4) : (fillN ws j).set j (readL ws[j].data.toList) = fillN ws (j + 1) := by
  unfold fillN
  have hl : ((ws.take j).map (fun s => readL s.data.toList)).length = j := by simp; omega
  rw [List.set_append_right _ _ (by omega), hl, Nat.sub_self, show 4 - j = (4 - (j + 1)) + 1 by omega, List.replicate_succ, List.set_cons_zero, List.take_add_one, List.getElem?_eq_getElem h]
  rw [List.map_append]
  simp only [Option.toList, List.map_cons, List.map_nil, List.append_assoc, List.cons_append, List.nil_append]
theorem four_of {l : List Int} (h : l.length = 4) : ∃ a b c d, l = [a, b, c, d] := by
  match l, h with
  | [a, b, c, d], _ => exact ⟨a, b, c, d, rfl⟩
theorem codeM_sign (i f t a : Int) : codeM i f t a = 0 ∨ 0 < codeM i f t a := by
  unfold codeM
  repeat' split
  all_goals omega
theorem codeR_sign (i f : Int) : codeR i f = 0 ∨ 0 < codeR i f := by
  unfold codeR
  repeat' split
  all_goals omega
theorem fresh_store {B g n cap : Nat} {w : World} {l : List Int} (h : Fresh B w (.slice (some ⟨g, 0, none⟩) n cap) l) (hn : n = l.length) (j : Nat) (x : Int) : Fresh B (w.setCell ⟨g, j, none⟩ (.int .i64 x)) (.slice (some ⟨g, 0, none⟩) n cap) (l.set j x) := by
  subst hn
  have hs := (World.ownsRow.stored h j (.int .i64 x)).1
  rw [← List.map_set] at hs
  unfold Fresh
  rw [List.length_set]
  exact hs

set_option maxRecDepth 100000 in
set_option maxHeartbeats 4000000 in
theorem specRead_1_bad (s : ByteArray) (w : World) (hs : s.size ≤ 1048576) (s0 : ByteArray) (rest : List ByteArray) (hw : pieces s 32 = s0 :: rest) (hk : s0.data.toList = [109, 111, 118, 101]) (hl : rest.length = 4) (hsz : ∀ x ∈ rest, x.size ≤ 1048576) (hbad : allNum rest = false) :
    Calls Tryd.prog 19 #[.string s] w (CmdRes 0 0 0 0 0 3 false w) := by
  have n1 : (s0.toList == ([109, 111, 118, 101] : List UInt8)) = true := by rw [Lib.toList_data, hk]; rfl
  clear hk
  have HSZ := Lib.hid hsz
  have HBAD := Lib.hid hbad
  clear hsz hbad
  have HW := Lib.hid hw
  have HO := Lib.hid (open5_new w 25 0 0 0 0 0)
  have hrl : rest.length ≤ 1048576 := by
    have h := (cutTo_le s 32 s.size).2
    have e : (pieces s 32).length = (cutTo s 32 s.size).1.length + 1 := by simp [pieces]
    rw [hw] at e
    simp at e
    omega
  clear hw
  go_enter Tryd.func19, Tryd.ntmps19
  go_wp2_with fail
  refine (l1Split_any s 32 _ hs).mono ?_
  rintro e w1 ⟨v, rfl, f1, x1⟩
  rw [HW.out] at f1
  have FF := Lib.hid f1
  obtain ⟨av, cv, rfl, _, hcap, hcv⟩ := f1.strs
  obtain ⟨bv, ov, rfl, dv⟩ := hcv (by simp)
  have g0 : w1.cell? ⟨bv, ov, none⟩ = some (.string s0) := dv 0 (by simp)
  have DV := Lib.hid dv
  have hcap1 : rest.length + 1 ≤ cv := hcap.1
  have hcap2 : cv ≤ 9223372036854775807 := by have h := hcap.2.1; unfold maxLen at h; omega
  obtain ⟨⟨c0, c1, c2, c3, c4⟩, z0, z1, z2, z3, z4⟩ := HO.out.ext x1
  have hlt : w.heap.size < w1.heap.size := World.block_lt_of_cell? w1 _ c0
  have hx : Ext w w1 := (Ext.alloc (Ext.refl _) _).trans x1
  have hln : (s0 :: rest).length = rest.length + 1 := rfl
  rw [hln]
  clear hcap hcv dv f1 x1 hln
  have hmk := make4
  have hfr : Fresh w1.heap.size (w1.alloc (.cells #[.int .i64 0, .int .i64 0, .int .i64 0, .int .i64 0] 3)) (.slice (some ⟨w1.heap.size, 0, none⟩) 4 4) [0, 0, 0, 0] := fresh_lit w1 [0, 0, 0, 0] #[.int .i64 0, .int .i64 0, .int .i64 0, .int .i64 0] w1.heap.size rfl (Nat.le_refl _) (by simp)
  have hop : Open5 w1 w.heap.size 0 0 0 0 0 := ⟨⟨c0, c1, c2, c3, c4⟩, z0, z1, z2, z3, z4⟩
  have HOP := Lib.hid hop
  have HFR := Lib.hid hfr
  clear c0 c1 c2 c3 c4 z0 z1 z2 z3 z4 hop hfr
  have h1 : 1 < cv := by omega
  go_wp2
  clear hmk
  go_loopw [34] (fun i wr => ∃ j : Nat, j ≤ rest.length ∧ i = .int .i64 j ∧ (rest.take j).all (fun s => isNum s.data.toList) = true ∧ Fresh w1.heap.size wr (.slice (some ⟨w1.heap.size, 0, none⟩) 4 4) (fillN rest j) ∧ Ext w1 wr) (fun i _ => rest.length - (intOf i).toNat)
  case atStart => exact ⟨0, by omega, rfl, by simp, by rw [fillN_zero]; exact HFR.out, Ext.alloc (Ext.refl _) _⟩
  case round =>
    obtain ⟨j, hj, rfl, ht, hf, hx1⟩ := hrel
    have HT := Lib.hid ht
    clear ht
    have hj4 : j ≤ 4 := by omega
    have hfl := fillN_len rest j hj hj4
    by_cases hjt : j < rest.length
    · have gx := hx1.cell (DV.out (j + 1) (by simp; omega))
      have gx' : wr.cell? ⟨bv, ov + 1 + j, none⟩ = some (.string rest[j]) := by
        rw [show ov + 1 + j = ov + (j + 1) by omega, gx]; rfl
      have hsz : rest[j].size ≤ 1048576 := HSZ.out _ (List.getElem_mem hjt)
      have HF := Lib.hid hf
      have HFL := Lib.hid hfl
      have hm4 : j < 4 := by omega
      clear gx hf hfl
      go_wp2_with fail
      refine (l1Read_any _ _ hsz).mono ?_
      rintro e w2 ⟨rfl, x2⟩
      have f2 := HF.out.ext x2
      have f2' : w2.ownsRow w1.heap.size 3 1 (.slice (some ⟨w1.heap.size, 0, none⟩) 4 4) 4 ((fillN rest j).map (Value.int .i64)) := by
        have h := f2
        unfold Fresh at h
        rw [HFL.out] at h
        exact h
      have go := (f2'.cellAt j (by omega)).trans (show _ = some (Value.int .i64 ((fillN rest j)[j]?.getD 0)) by
        simp [List.getElem?_eq_getElem (show j < (fillN rest j).length by rw [HFL.out]; exact hm4)])
      have gf := f2'.frozenAt j
      have hst := fresh_store f2 HFL.out.symm j (readL rest[j].data.toList)
      rw [fillN_succ rest j hjt hm4] at hst
      have hx2 : Ext w1 (w2.setCell ⟨w1.heap.size, j, none⟩ (.int .i64 (readL rest[j].data.toList))) := Ext.setc (hx1.trans x2) (Nat.le_refl _)
      have HST := Lib.hid hst
      obtain ⟨⟨d0, d1, d2, d3, d4⟩, y0, y1, y2, y3, y4⟩ := HOP.out.ext hx2
      obtain ⟨r, hr⟩ : ∃ r, r = readL rest[j].data.toList := ⟨_, rfl⟩
      rw [← hr] at HST hx2 d0 d1 d2 d3 d4 y0 y1 y2 y3 y4
      rw [← hr]
      have hnum : isNum rest[j].data.toList = (decide (rest[j].size ≤ 4) && decide (0 ≤ r)) := by
        unfold isNum
        rw [← hr, show rest[j].data.toList.length = rest[j].size from Array.length_toList]
      have HNUM := Lib.hid hnum
      have hwn : w.heap.size ≠ w1.heap.size := by omega
      clear f2 f2' hst hr hnum x2 gx'
      by_cases h4 : rest[j].size ≤ 4
      · have i4 : (rest[j].size : Int) ≤ 4 := by omega
        by_cases h0 : 0 ≤ r
        · have hok : isNum rest[j].data.toList = true := by rw [HNUM.out]; simp [h4, h0]
          have ht2 : (rest.take (j + 1)).all (fun s => isNum s.data.toList) = true := by
            rw [List.take_add_one, List.all_append, HT.out, List.getElem?_eq_getElem hjt]
            simpa using hok
          have HT2 := Lib.hid ht2
          clear hok ht2
          go_wp2
          go_roundw
          case rel => exact ⟨j + 1, by omega, by go_num, HT2.out, HST.out, hx2⟩
          case measure => simp [intOf]; omega
        · have h0' : r < 0 := by omega
          clear h0
          go_wp2
          refine bodyPost_ret (v := .tuple #[.agg #[.int .i64 0, .int .i64 0, .int .i64 0, .int .i64 0, .int .i64 0], .int .i64 3, .bool false]) ?_ rfl ⟨rfl, ?_⟩
          · simp [results, Tryd.results19, go_sem, d0, d1, d2, d3, d4]
          · exact Ext.setc (Ext.setc (Ext.setc (Ext.setc (Ext.setc (hx.trans hx2) (Nat.le_refl _)) (Nat.le_refl _)) (Nat.le_refl _)) (Nat.le_refl _)) (Nat.le_refl _)
      · have i4 : (4 : Int) < (rest[j].size : Int) := by omega
        go_wp2
        refine bodyPost_ret (v := .tuple #[.agg #[.int .i64 0, .int .i64 0, .int .i64 0, .int .i64 0, .int .i64 0], .int .i64 3, .bool false]) ?_ rfl ⟨rfl, ?_⟩
        · simp [results, Tryd.results19, go_sem, d0, d1, d2, d3, d4]
        · exact Ext.setc (Ext.setc (Ext.setc (Ext.setc (Ext.setc (hx.trans hx2) (Nat.le_refl _)) (Nat.le_refl _)) (Nat.le_refl _)) (Nat.le_refl _)) (Nat.le_refl _)
    · exfalso
      obtain rfl : j = rest.length := by omega
      have h := HT.out
      rw [List.take_length] at h
      have h2 : allNum rest = true := h
      rw [HBAD.out] at h2
      cases h2

set_option maxRecDepth 100000 in
set_option maxHeartbeats 4000000 in
theorem specRead_2_bad (s : ByteArray) (w : World) (hs : s.size ≤ 1048576) (s0 : ByteArray) (rest : List ByteArray) (hw : pieces s 32 = s0 :: rest) (hk : s0.data.toList = [114, 101, 97, 100]) (hl : rest.length = 2) (hsz : ∀ x ∈ rest, x.size ≤ 1048576) (hbad : allNum rest = false) :
    Calls Tryd.prog 19 #[.string s] w (CmdRes 0 0 0 0 0 3 false w) := by
  have n1 : (s0.toList == ([109, 111, 118, 101] : List UInt8)) = false := by rw [Lib.toList_data, hk]; rfl
  have n2 : (s0.toList == ([114, 101, 97, 100] : List UInt8)) = true := by rw [Lib.toList_data, hk]; rfl
  clear hk
  have HSZ := Lib.hid hsz
  have HBAD := Lib.hid hbad
  clear hsz hbad
  have HW := Lib.hid hw
  have HO := Lib.hid (open5_new w 25 0 0 0 0 0)
  have hrl : rest.length ≤ 1048576 := by
    have h := (cutTo_le s 32 s.size).2
    have e : (pieces s 32).length = (cutTo s 32 s.size).1.length + 1 := by simp [pieces]
    rw [hw] at e
    simp at e
    omega
  clear hw
  go_enter Tryd.func19, Tryd.ntmps19
  go_wp2_with fail
  refine (l1Split_any s 32 _ hs).mono ?_
  rintro e w1 ⟨v, rfl, f1, x1⟩
  rw [HW.out] at f1
  have FF := Lib.hid f1
  obtain ⟨av, cv, rfl, _, hcap, hcv⟩ := f1.strs
  obtain ⟨bv, ov, rfl, dv⟩ := hcv (by simp)
  have g0 : w1.cell? ⟨bv, ov, none⟩ = some (.string s0) := dv 0 (by simp)
  have DV := Lib.hid dv
  have hcap1 : rest.length + 1 ≤ cv := hcap.1
  have hcap2 : cv ≤ 9223372036854775807 := by have h := hcap.2.1; unfold maxLen at h; omega
  obtain ⟨⟨c0, c1, c2, c3, c4⟩, z0, z1, z2, z3, z4⟩ := HO.out.ext x1
  have hlt : w.heap.size < w1.heap.size := World.block_lt_of_cell? w1 _ c0
  have hx : Ext w w1 := (Ext.alloc (Ext.refl _) _).trans x1
  have hln : (s0 :: rest).length = rest.length + 1 := rfl
  rw [hln]
  clear hcap hcv dv f1 x1 hln
  have hmk := make4
  have hfr : Fresh w1.heap.size (w1.alloc (.cells #[.int .i64 0, .int .i64 0, .int .i64 0, .int .i64 0] 3)) (.slice (some ⟨w1.heap.size, 0, none⟩) 4 4) [0, 0, 0, 0] := fresh_lit w1 [0, 0, 0, 0] #[.int .i64 0, .int .i64 0, .int .i64 0, .int .i64 0] w1.heap.size rfl (Nat.le_refl _) (by simp)
  have hop : Open5 w1 w.heap.size 0 0 0 0 0 := ⟨⟨c0, c1, c2, c3, c4⟩, z0, z1, z2, z3, z4⟩
  have HOP := Lib.hid hop
  have HFR := Lib.hid hfr
  clear c0 c1 c2 c3 c4 z0 z1 z2 z3 z4 hop hfr
  have h1 : 1 < cv := by omega
  go_wp2
  clear hmk
  go_loopw [34] (fun i wr => ∃ j : Nat, j ≤ rest.length ∧ i = .int .i64 j ∧ (rest.take j).all (fun s => isNum s.data.toList) = true ∧ Fresh w1.heap.size wr (.slice (some ⟨w1.heap.size, 0, none⟩) 4 4) (fillN rest j) ∧ Ext w1 wr) (fun i _ => rest.length - (intOf i).toNat)
  case atStart => exact ⟨0, by omega, rfl, by simp, by rw [fillN_zero]; exact HFR.out, Ext.alloc (Ext.refl _) _⟩
  case round =>
    obtain ⟨j, hj, rfl, ht, hf, hx1⟩ := hrel
    have HT := Lib.hid ht
    clear ht
    have hj4 : j ≤ 4 := by omega
    have hfl := fillN_len rest j hj hj4
    by_cases hjt : j < rest.length
    · have gx := hx1.cell (DV.out (j + 1) (by simp; omega))
      have gx' : wr.cell? ⟨bv, ov + 1 + j, none⟩ = some (.string rest[j]) := by
        rw [show ov + 1 + j = ov + (j + 1) by omega, gx]; rfl
      have hsz : rest[j].size ≤ 1048576 := HSZ.out _ (List.getElem_mem hjt)
      have HF := Lib.hid hf
      have HFL := Lib.hid hfl
      have hm4 : j < 4 := by omega
      clear gx hf hfl
      go_wp2_with fail
      refine (l1Read_any _ _ hsz).mono ?_
      rintro e w2 ⟨rfl, x2⟩
      have f2 := HF.out.ext x2
      have f2' : w2.ownsRow w1.heap.size 3 1 (.slice (some ⟨w1.heap.size, 0, none⟩) 4 4) 4 ((fillN rest j).map (Value.int .i64)) := by
        have h := f2
        unfold Fresh at h
        rw [HFL.out] at h
        exact h
      have go := (f2'.cellAt j (by omega)).trans (show _ = some (Value.int .i64 ((fillN rest j)[j]?.getD 0)) by
        simp [List.getElem?_eq_getElem (show j < (fillN rest j).length by rw [HFL.out]; exact hm4)])
      have gf := f2'.frozenAt j
      have hst := fresh_store f2 HFL.out.symm j (readL rest[j].data.toList)
      rw [fillN_succ rest j hjt hm4] at hst
      have hx2 : Ext w1 (w2.setCell ⟨w1.heap.size, j, none⟩ (.int .i64 (readL rest[j].data.toList))) := Ext.setc (hx1.trans x2) (Nat.le_refl _)
      have HST := Lib.hid hst
      obtain ⟨⟨d0, d1, d2, d3, d4⟩, y0, y1, y2, y3, y4⟩ := HOP.out.ext hx2
      obtain ⟨r, hr⟩ : ∃ r, r = readL rest[j].data.toList := ⟨_, rfl⟩
      rw [← hr] at HST hx2 d0 d1 d2 d3 d4 y0 y1 y2 y3 y4
      rw [← hr]
      have hnum : isNum rest[j].data.toList = (decide (rest[j].size ≤ 4) && decide (0 ≤ r)) := by
        unfold isNum
        rw [← hr, show rest[j].data.toList.length = rest[j].size from Array.length_toList]
      have HNUM := Lib.hid hnum
      have hwn : w.heap.size ≠ w1.heap.size := by omega
      clear f2 f2' hst hr hnum x2 gx'
      by_cases h4 : rest[j].size ≤ 4
      · have i4 : (rest[j].size : Int) ≤ 4 := by omega
        by_cases h0 : 0 ≤ r
        · have hok : isNum rest[j].data.toList = true := by rw [HNUM.out]; simp [h4, h0]
          have ht2 : (rest.take (j + 1)).all (fun s => isNum s.data.toList) = true := by
            rw [List.take_add_one, List.all_append, HT.out, List.getElem?_eq_getElem hjt]
            simpa using hok
          have HT2 := Lib.hid ht2
          clear hok ht2
          go_wp2
          go_roundw
          case rel => exact ⟨j + 1, by omega, by go_num, HT2.out, HST.out, hx2⟩
          case measure => simp [intOf]; omega
        · have h0' : r < 0 := by omega
          clear h0
          go_wp2
          refine bodyPost_ret (v := .tuple #[.agg #[.int .i64 0, .int .i64 0, .int .i64 0, .int .i64 0, .int .i64 0], .int .i64 3, .bool false]) ?_ rfl ⟨rfl, ?_⟩
          · simp [results, Tryd.results19, go_sem, d0, d1, d2, d3, d4]
          · exact Ext.setc (Ext.setc (Ext.setc (Ext.setc (Ext.setc (hx.trans hx2) (Nat.le_refl _)) (Nat.le_refl _)) (Nat.le_refl _)) (Nat.le_refl _)) (Nat.le_refl _)
      · have i4 : (4 : Int) < (rest[j].size : Int) := by omega
        go_wp2
        refine bodyPost_ret (v := .tuple #[.agg #[.int .i64 0, .int .i64 0, .int .i64 0, .int .i64 0, .int .i64 0], .int .i64 3, .bool false]) ?_ rfl ⟨rfl, ?_⟩
        · simp [results, Tryd.results19, go_sem, d0, d1, d2, d3, d4]
        · exact Ext.setc (Ext.setc (Ext.setc (Ext.setc (Ext.setc (hx.trans hx2) (Nat.le_refl _)) (Nat.le_refl _)) (Nat.le_refl _)) (Nat.le_refl _)) (Nat.le_refl _)
    · exfalso
      obtain rfl : j = rest.length := by omega
      have h := HT.out
      rw [List.take_length] at h
      have h2 : allNum rest = true := h
      rw [HBAD.out] at h2
      cases h2

end Go.Proofs.YtfadmcgaojnghaaDoor
