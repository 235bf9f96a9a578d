/- Contract of the model's ReadAttr at a text of two words. -/
import Derived.Test.YtfadmcgaojnghaaDoorSpecReadA
namespace Go.Proofs.YtfadmcgaojnghaaDoor
open Go.RowKit
set_option linter.unusedVariables false

theorem readsTo_succ {ps : List ByteArray} {k : Nat} (h : k < ps.length) : (ps.take (k + 1)).map (fun x => readL x.data.toList) = (ps.take k).map (fun x => readL x.data.toList) ++ [readL ps[k].data.toList] := by
  rw [List.take_add_one, List.map_append, List.getElem?_eq_getElem h]; rfl
theorem readsTo_len {ps : List ByteArray} {k : Nat} (h : k ≤ ps.length) : ((ps.take k).map (fun x => readL x.data.toList)).length = k := by simp; omega
/-- The texts ps lie from there on. -/
def TextsAt (w : World) (b o : Nat) (ps : List ByteArray) : Prop := ∀ j (h : j < ps.length), w.cell? ⟨b, o + j, none⟩ = some (.string ps[j])

set_option maxRecDepth 100000 in
set_option maxHeartbeats 8000000 in
theorem specReadA_two (n : Int) (s : ByteArray) (w : World) (hs : s.size ≤ 40) (s0 s1 : ByteArray) (hw : pieces s 58 = [s0, s1]) (h0 : s0.size ≤ 40) (h1 : s1.size ≤ 40) (b : Bool) (hb : b = goodA n (readL s0.data.toList) ((pieces s1 44).map fun x => readL x.data.toList)) :
    Calls Tryd.prog 29 #[.int .i64 n, .string s] w (TwoAttr (if b then readL s0.data.toList else 0) (if b then (pieces s1 44).map (fun x => readL x.data.toList) else []) b w) := by
  obtain ⟨r0, hr0⟩ : ∃ r0, r0 = readL s0.data.toList := ⟨_, rfl⟩
  obtain ⟨ps, hps⟩ : ∃ ps, ps = pieces s1 44 := ⟨_, rfl⟩
  have hpl := (pieces_len s1 44)
  have hpsz : ∀ x ∈ ps, x.size ≤ 1048576 := fun x hx => by
    have := pieces_size' s1 44 x (by rw [← hps]; exact hx)
    omega
  rw [← hr0, ← hps] at hb ⊢
  rw [← hps] at hpl
  have HB := Lib.hid hb
  have HR0 := Lib.hid hr0
  have HPS := Lib.hid hps
  have HPZ := Lib.hid hpsz
  have HW := Lib.hid hw
  have HO := Lib.hid (openAt_new w 47 0 (.slice none 0 0))
  have hp40 : ps.length ≤ 41 := by omega
  have hp1 : 1 ≤ ps.length := hpl.1
  have i0 : ¬ (40 : Int) < (s.size : Int) := by omega
  clear hr0 hps hb hw hpsz hpl
  go_enter Tryd.func29, Tryd.ntmps29
  go_wp2_with fail
  refine (l1Split_any s 58 _ (by omega)).mono ?_
  rintro e w1 ⟨v, rfl, f1, x1⟩
  rw [HW.out] at f1
  obtain ⟨av, cv, rfl, _, hcap, hcv⟩ := f1.strs
  obtain ⟨bv, ov, rfl, dv⟩ := hcv (by simp)
  have g0 : w1.cell? ⟨bv, ov, none⟩ = some (.string s0) := dv 0 (by simp)
  have g1 : w1.cell? ⟨bv, ov + 1, none⟩ = some (.string s1) := dv 1 (by simp)
  have HO1 := Lib.hid (HO.out.ext x1)
  have hx1 : Ext w w1 := (Ext.alloc (Ext.refl _) _).trans x1
  have hcap1 : 2 ≤ cv := hcap.1
  have hln : ([s0, s1] : List ByteArray).length = 2 := rfl
  rw [hln]
  clear f1 hcap hcv x1 dv hln
  go_wp2_with fail
  refine (l1Read_any s0 _ (by omega)).mono ?_
  rintro e w2 ⟨rfl, x2⟩
  rw [← HR0.out]
  have g1 := x2.cell g1
  have HO2 := Lib.hid (HO1.out.ext x2)
  have q1 : bv < w2.heap.size := World.block_lt_of_cell? w2 _ g1
  have q2 : bv ≠ w2.heap.size := by omega
  have hx2 : Ext w w2 := hx1.trans x2
  clear g0 x2
  go_wp2_with fail
  refine (l1Split_any s1 44 _ (by omega)).mono ?_
  rintro e w3 ⟨v3, rfl, f3, x3⟩
  rw [← HPS.out] at f3
  have q3 : w.heap.size < w2.heap.size := World.block_lt_of_cell? w2 _ HO2.out.1.1
  have QB : (w2.alloc (.cells #[.int .i64 r0, .slice none 0 0] 47)).heap.size = w2.heap.size + 1 := by simp
  have HO3 := Lib.hid (HO2.out.ext ((Ext.alloc (Ext.refl w2) (.cells #[.int .i64 r0, .slice none 0 0] 47)).trans x3))
  have HA3 := Lib.hid ((openAt_new w2 47 r0 (.slice none 0 0)).ext x3)
  have hx3 : Ext w w3 := (hx2.alloc _).trans x3
  have q4 : w2.heap.size + 1 ≤ w3.heap.size := by have := x3.size; omega
  obtain ⟨av3, cv3, rfl, _, hcap3, hcv3⟩ := f3.strs
  obtain ⟨bv3, ov3, rfl, dv3⟩ := hcv3 (by omega)
  have q5 : w2.heap.size + 1 ≤ bv3 := by
    have := (World.ownsRow.lt f3 bv3 rfl).1
    omega
  have q6 : bv3 < w3.heap.size := World.block_lt_of_cell? w3 _ (dv3 0 (by omega))
  have hT3 : TextsAt w3 bv3 ov3 ps := dv3
  clear f3 x3 hcap3 hcv3 g1 QB dv3
  go_wp2
  go_loopw [9, 31] (fun _ i wr => ∃ (k : Nat) (ao : Option Addr) (c : Nat), k ≤ ps.length ∧ i = .int .i64 k ∧ OpenAt wr w2.heap.size r0 (.slice ao k c) ∧ OpenAt wr w.heap.size 0 (.slice none 0 0) ∧ Fresh w3.heap.size wr (.slice ao k c) ((ps.take k).map (fun x => readL x.data.toList)) ∧ TextsAt wr bv3 ov3 ps ∧ Ext w wr ∧ w3.heap.size ≤ wr.heap.size) (fun _ i _ => ps.length - (intOf i).toNat)
  case atStart => exact ⟨0, none, 0, Nat.zero_le _, rfl, HA3.out, HO3.out, fresh_nil _ _, hT3, hx3, Nat.le_refl _⟩
  case round =>
    obtain ⟨k, ao, c, hk, rfl, hA, hR, hF, hT, hx, hsz⟩ := hrel
    have HF := Lib.hid hF
    have HA := Lib.hid hA
    have HR := Lib.hid hR
    have HX := Lib.hid hx
    have HT := Lib.hid hT
    obtain ⟨⟨a0, a1⟩, -, -⟩ := hA
    by_cases hlt : k < ps.length
    · have gt := hT k hlt
      have hS := Lib.hid (readsTo_succ hlt)
      have hjl : Hid (((ps.take k).map (fun x => readL x.data.toList)).length = k) := Lib.hid (readsTo_len hk)
      have hpz := HPZ.out ps[k] (List.getElem_mem hlt)
      obtain ⟨t, ht⟩ : ∃ t, t = ps[k] := ⟨_, rfl⟩
      rw [← ht] at gt hpz
      have cR : ∀ W, Calls Tryd.prog 50 #[.string t] W (IntExt (readL t.data.toList) W) := fun W => l1Read_any t W hpz
      obtain ⟨y, hy⟩ : ∃ y, y = readL t.data.toList := ⟨_, rfl⟩
      rw [← hy] at cR
      have hS' : Hid ((ps.take (k + 1)).map (fun x => readL x.data.toList) = (ps.take k).map (fun x => readL x.data.toList) ++ [y]) := Lib.hid (by rw [hS.out, hy, ht])
      obtain ⟨L, hL⟩ : ∃ L, L = (ps.take k).map (fun x => readL x.data.toList) := ⟨_, rfl⟩
      rw [← hL] at HF hS' hjl
      have CR := Lib.hid cR
      have hk5 : k ≤ 1099511627776 := by omega
      have i1 : (k : Int) < ps.length := by omega
      have p1 : w2.heap.size < wr.heap.size := by omega
      clear hR hF hx hT hS hpz ht cR hy hL
      go_wp2
      go_region_law (first | (refine step_push rfl (.tmp 36) (.tmp 39) rfl w3.heap.size (.slice ao k c) L y rfl (Fresh.ext HF.out (Ext.alloc x4 _)) ⟨w4.heap.size, 0, none⟩ 1 rfl (by go_simp) k hjl.out hk5 (by have := x4.size; simp; omega) ?_; intro ao' c' W' hf' hg'; obtain ⟨⟨m0, m1⟩, y0, y1⟩ := far_open HF.out (Ext.alloc x4 _) hg' HA.out (by omega)) | (go_simp; go_at_call 50; refine (CR.out _).mono ?_; rintro e w4 ⟨rfl, x⟩; have x4 : Ext wr w4 := (Ext.drew (Ext.refl _)).trans x; obtain ⟨⟨b0, b1⟩, -, -⟩ := HA.out.ext x4; have p2 : w2.heap.size < w4.heap.size := Nat.lt_of_lt_of_le p1 x4.size; have p3 : w2.heap.size ≠ w4.heap.size := Nat.ne_of_lt p2))
      all_goals
        have hX : Ext wr (w4.alloc (.cells #[.int .i64 y] 3)) := x4.alloc _
        have hA' := (far_open HF.out hX hg' HA.out (by omega)).set1 (z := .slice ao' (k + 1) c')
        have hR' := (far_open HF.out hX hg' HR.out (by omega)).other (g := w2.heap.size) (o := 1) (z := .slice ao' (k + 1) c') (by omega)
        have hT' : TextsAt (W'.setCell ⟨w2.heap.size, 1, none⟩ (.slice ao' (k + 1) c')) bv3 ov3 ps := fun j hj => cell_other (by dsimp only; omega) (far_cell HF.out hX hg' (HT.out j hj) (by omega))
        have hF' := hf'.set w2.heap.size 1 (.slice ao' (k + 1) c') (by omega)
        rw [← hS'.out] at hF'
        have hx' : Ext w W' := ((HX.out.trans hX).touch ((HF.out.ext hX).more (by omega)) hg')
        have hx' := hx'.setc (a := ⟨w2.heap.size, 1, none⟩) (v := .slice ao' (k + 1) c') (by dsimp only; omega)
        have hs' : w3.heap.size ≤ (W'.setCell ⟨w2.heap.size, 1, none⟩ (.slice ao' (k + 1) c')).heap.size := by
          have e1 := hg'.size
          have e2 := x4.size
          simp at e1 ⊢
          omega
        have P := Lib.hid (And.intro hA' (And.intro hR' (And.intro hF' (And.intro hT' (And.intro hx' hs')))))
        clear hA' hR' hF' hT' hx' hX hf' hg' hs' m0 m1 y0 y1 a0 a1 b0 b1 gt p2 p3
        go_wp2
        go_roundw
        case rel => exact ⟨k + 1, ao', c', by omega, by go_num, P.out.1, P.out.2.1, P.out.2.2.1, P.out.2.2.2.1, P.out.2.2.2.2.1, P.out.2.2.2.2.2⟩
        case measure => simp [intOf]; omega
    · obtain rfl : k = ps.length := by omega
      have htk : ps.take ps.length = ps := List.take_length
      rw [htk] at HF hF
      have hll : (ps.map (fun x => readL x.data.toList)).length = ps.length := List.length_map _
      have hI : Ints wr (.slice ao ps.length c) (ps.map (fun x => readL x.data.toList)) := HF.out.ints
      have HI := Lib.hid hI
      clear hF hx hT hR hI htk
      go_wp2_with fail
      refine (specGoodAttr_any n r0 _ _ _ HI.out).mono ?_
      rintro e w5 ⟨rfl, x5⟩
      rw [← HB.out]
      obtain ⟨⟨r1, r2⟩, z1, z2⟩ := HR.out.ext x5
      obtain ⟨⟨d0, d1⟩, -, -⟩ := HA.out.ext x5
      have F5 := HF.out.ext x5
      have X5 := HX.out.trans x5
      have FF5 := Lib.hid F5
      have XX5 := Lib.hid X5
      clear a0 a1 F5 X5 x5
      cases b with
      | true =>
        go_wp2
        refine bodyPost_ret (v := .tuple #[.agg #[.int .i64 r0, .slice ao ps.length c], .bool true]) (by simp [results, Tryd.results29, go_sem, r1, r2]) rfl ⟨_, rfl, ?_, ?_⟩
        · exact ((FF5.out.set _ _ _ (by omega)).set _ _ _ (by omega)).more (by omega)
        · exact (XX5.out.setc (Nat.le_refl _)).setc (Nat.le_refl _)
      | false =>
        go_wp2
        refine bodyPost_ret (v := .tuple #[.agg #[.int .i64 0, .slice none 0 0], .bool false]) (by simp [results, Tryd.results29, go_sem, r1, r2]) rfl ⟨_, rfl, fresh_nil _ _, ?_⟩
        exact (XX5.out.setc (Nat.le_refl _)).setc (Nat.le_refl _)

end Go.Proofs.YtfadmcgaojnghaaDoor
