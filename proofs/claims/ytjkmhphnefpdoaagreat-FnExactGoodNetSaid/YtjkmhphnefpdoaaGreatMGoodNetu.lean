/- Texts of this proof, part u: words, plain facts, contracts. -/
import Derived.Test.YtjkmhphnefpdoaaGreatMGoodNetg
import Derived.Test.YtjkmhphnefpdoaaGreatMGoodNeth
import Derived.Test.YtjkmhphnefpdoaaGreatMGoodNett

namespace Go.Proofs.YtjkmhphnefpdoaaGreat
open Go.RowKit
set_option linter.unusedVariables false

theorem Tryz.infoAsk : ((Tryz.prog.info? 144).map (fun i => (i.zero, i.size))) = some (some (.agg #[.int .i64 0, .int .i64 0, .int .i64 0, .int .i64 0, .int .i64 0, .int .i64 0, .int .i64 0]), 7) := by kernel_rfl
theorem ask_parts : ∃ i, Tryz.prog.info? 144 = some i ∧ i.zero = some (.agg #[.int .i64 0, .int .i64 0, .int .i64 0, .int .i64 0, .int .i64 0, .int .i64 0, .int .i64 0]) ∧ i.size = 7 := by
  have h := Tryz.infoAsk
  cases hi : Tryz.prog.info? 144 with
  | none => rw [hi] at h; cases h
  | some i =>
    rw [hi] at h
    simp only [Option.map_some, Option.some.injEq, Prod.mk.injEq] at h
    exact ⟨i, rfl, h.1, h.2⟩
theorem ask_bytes : ∀ i, Tryz.prog.info? 144 = some i → i.bytes ≤ 256 := by
  intro i hi
  have h : ((Tryz.prog.info? 144).map (fun i => decide (i.bytes ≤ 256))) = some true := by kernel_rfl
  rw [hi] at h
  simpa using h
theorem askz_of {w : World} {g n : Nat} {xs : List Value} {L : List AskD} (hb : BoxV w g xs) (hn : n = L.length) (hm : n ≤ maxLen) (hl : xs.length = L.length * 7) (h : AsksTo (g + 1) w xs L n) : AskzM g w (.slice (some ⟨g, 0, none⟩) n n) L := by
  subst hn
  exact ⟨g, xs, Nat.le_refl _, rfl, hm, hb, hl, h⟩

set_option maxHeartbeats 8000000 in
set_option maxRecDepth 100000 in
theorem toAskS_any (u : Value) (L : List AskD) (w : World) (hu : Askz w u L) (hs : bulkAsk L ≤ 549755813888) :
    Calls Tryz.prog 43 #[u] w (NewAskS L w) := by
  obtain ⟨au, cu, rfl, hlu, _, hcu⟩ := hu
  unfold maxLen at hlu
  have hL : L.length ≤ 549755813888 := by unfold bulkAsk at hs; omega
  obtain ⟨i0, hi, hz0, hz1⟩ := ask_parts
  have hz2 := ask_bytes i0 hi
  have HS := Lib.hid hs
  clear hs
  go_enter Tryz.func43, Tryz.ntmps43
  go_wp2_with (at_make; refine wpList_make_full _ rfl _ _ 31 rfl w.heap.size 144 i0 _ 7 Tryz.underlying31 hi hz0 hz1 _ _ _ _ L.length rfl rfl rfl rfl ?c1 ?c2 ?c3 ?_)
  case c1 =>
    have hmul := Nat.mul_le_mul hL hz2
    first
    | exact Nat.le_trans hmul (by decide)
    | (rw [Nat.mul_comm]; exact Nat.le_trans hmul (by decide))
  case c2 => unfold maxLen; omega
  case c3 => simp
  intro w1 ho1 hg1
  have hx1 : Ext w w1 := ext_of_grown hg1
  have hsz : w.heap.size < w1.heap.size := by
    rcases ho1.2 with ⟨h, _⟩ | ⟨g, cap, cur, h, hb, hg, _⟩
    · cases h
    · simp only [Value.slice.injEq, Option.some.injEq, Addr.mk.injEq, and_true, true_and] at h
      obtain ⟨rfl, _⟩ := h
      exact (Array.getElem?_eq_some_iff.1 hg).1
  obtain ⟨xs0, hxs⟩ : ∃ xs, xs = (madeCells #[.int .i64 0, .int .i64 0, .int .i64 0, .int .i64 0, .int .i64 0, .int .i64 0, .int .i64 0] (L.length * 7)).toList := ⟨_, rfl⟩
  rw [← hxs] at ho1
  have hlx : xs0.length = L.length * 7 := ho1.1
  have hbx : BoxV w1 w.heap.size xs0 := ⟨fun j v hj => by
    rw [ho1.cellAt _ (by have := (List.getElem?_eq_some_iff.1 hj).1; omega)]; exact hj, fun j _ => ho1.frozenAt j, hsz⟩
  clear hg1 hz0 hz1 hz2 hi hxs ho1 hsz
  have HBX := Lib.hid hbx
  clear hbx
  go_wp2
  go_loopw [4] (fun i wr => ∃ (k : Nat) (xs : List Value), k ≤ L.length ∧ i = .int .i64 k ∧ Hid (BoxV wr w.heap.size xs) ∧ xs.length = L.length * 7 ∧ Hid (AsksTo (w.heap.size + 1) wr xs L k) ∧ Ext w wr) (fun i _ => L.length - (intOf i).toNat)
  case atStart => exact ⟨0, xs0, Nat.zero_le _, rfl, HBX, hlx, Lib.hid (fun j _ h => by omega), hx1⟩
  case round =>
    clear hx1 HBX hlx
    obtain ⟨k, xs, hk, rfl, hB, hl, hT, hx⟩ := hrel
    by_cases hlt : k < L.length
    · obtain ⟨bu, ou, rfl, du⟩ := hcu (by omega)
      have hy := du k hlt
      obtain ⟨d, hd⟩ : ∃ d, d = L[k] := ⟨_, rfl⟩
      have hbk : bulk1Ask d ≤ 549755813888 := by rw [hd]; have := bulkAsk_at hlt; have := HS.out; omega
      rw [← hd] at hy
      have hy := hy.ext hx
      skip
      have HD := Lib.hid hd
      obtain ⟨c0, c1, c2, c3, c4, c5, c6⟩ := askIn_cells hy
      clear hcu du hy hd
      go_wp2_with fail
      refine (toAsked_any d _).mono ?_
      rintro e w2 ⟨rfl, x2⟩
      clear c0 c1 c2 c3 c4 c5 c6
      have hb2 := hB.out.ext x2
      have HT2 := Lib.hid (hT.out.ext x2)
      skip
      have HB2 := Lib.hid hb2
      obtain ⟨o0, g0⟩ : ∃ v, w2.cell? ⟨w.heap.size, k * 7, none⟩ = some v := ⟨_, hb2.cell (k * 7) _ (List.getElem?_eq_getElem (by omega))⟩
      have n0 := hb2.free (k * 7) (by omega)
      obtain ⟨o1, g1⟩ : ∃ v, w2.cell? ⟨w.heap.size, k * 7 + 1, none⟩ = some v := ⟨_, hb2.cell (k * 7 + 1) _ (List.getElem?_eq_getElem (by omega))⟩
      have n1 := hb2.free (k * 7 + 1) (by omega)
      obtain ⟨o2, g2⟩ : ∃ v, w2.cell? ⟨w.heap.size, k * 7 + 2, none⟩ = some v := ⟨_, hb2.cell (k * 7 + 2) _ (List.getElem?_eq_getElem (by omega))⟩
      have n2 := hb2.free (k * 7 + 2) (by omega)
      obtain ⟨o3, g3⟩ : ∃ v, w2.cell? ⟨w.heap.size, k * 7 + 3, none⟩ = some v := ⟨_, hb2.cell (k * 7 + 3) _ (List.getElem?_eq_getElem (by omega))⟩
      have n3 := hb2.free (k * 7 + 3) (by omega)
      obtain ⟨o4, g4⟩ : ∃ v, w2.cell? ⟨w.heap.size, k * 7 + 4, none⟩ = some v := ⟨_, hb2.cell (k * 7 + 4) _ (List.getElem?_eq_getElem (by omega))⟩
      have n4 := hb2.free (k * 7 + 4) (by omega)
      obtain ⟨o5, g5⟩ : ∃ v, w2.cell? ⟨w.heap.size, k * 7 + 5, none⟩ = some v := ⟨_, hb2.cell (k * 7 + 5) _ (List.getElem?_eq_getElem (by omega))⟩
      have n5 := hb2.free (k * 7 + 5) (by omega)
      obtain ⟨o6, g6⟩ : ∃ v, w2.cell? ⟨w.heap.size, k * 7 + 6, none⟩ = some v := ⟨_, hb2.cell (k * 7 + 6) _ (List.getElem?_eq_getElem (by omega))⟩
      have n6 := hb2.free (k * 7 + 6) (by omega)
      have hxx := hx.trans x2
      clear hb2 hx x2 hB hT
      skip
      go_wp2
      go_roundw
      case rel =>
        refine ⟨k + 1, putL xs (k * 7) (askVs d ), by omega, by go_num, Lib.hid ?_, by rw [putL_len]; exact hl, Lib.hid ?_, ?_⟩
        · rw [← setCells_ask]
          exact boxV_puts _ _ _ _ HB2.out (by rw [askVs_len]; omega)
        · rw [← setCells_ask]
          have hd := HD.out
          subst hd
          exact HT2.out.put hlt hl
        · rw [← setCells_ask]
          exact (ins_puts (lo := w.heap.size) (hi := w.heap.size + 1) (Nat.le_refl _) (Nat.lt_succ_self _) _ _ _).ext hxx (Nat.le_refl _)
      case measure => simp [intOf]; omega
    · obtain rfl : k = L.length := by omega
      go_wp2
      go_ret
      exact ⟨_, rfl, askz_of hB.out rfl (by unfold maxLen; omega) hl hT.out, hx⟩
end Go.Proofs.YtjkmhphnefpdoaaGreat

namespace Go.Proofs.YtjkmhphnefpdoaaGreat
open Go.RowKit
set_option linter.unusedVariables false

/-- Three slices in new memory that read as a net. -/
structure NetM (B : Nat) (w : World) (u v z : Value) (R : List RepD) (M : List MsgD) (K : List AskD) : Prop where
  m1 : RepzM B w u R
  m2 : MeszM B w v M
  m3 : AskzM B w z K
theorem NetM.ext {B : Nat} {w w' : World} {u v z : Value} {R : List RepD} {M : List MsgD} {K : List AskD} (h : NetM B w u v z R M K) (e : Ext w w') : NetM B w' u v z R M K := ⟨h.m1.ext e, h.m2.ext e, h.m3.ext e⟩
theorem NetM.more {B B' : Nat} {w : World} {u v z : Value} {R : List RepD} {M : List MsgD} {K : List AskD} (h : NetM B w u v z R M K) (e : B' ≤ B) : NetM B' w u v z R M K := ⟨h.m1.more e, h.m2.more e, h.m3.more e⟩
theorem NetM.reads {B : Nat} {w : World} {u v z : Value} {R : List RepD} {M : List MsgD} {K : List AskD} (h : NetM B w u v z R M K) : NetL w u v z R M K := ⟨h.m1.reads, h.m2.reads, h.m3.reads⟩
theorem BoxV.ins {lo hi : Nat} {w w' : World} {b : Nat} {vs : List Value} (h : BoxV w b vs) (k : Ins lo hi w w') (hb : b < lo ∨ hi ≤ b) : BoxV w' b vs :=
  ⟨fun j v hj => k.cell (h.cell j v hj) hb, fun j hj => by
    have := h.free j hj
    unfold World.frozen? at this ⊢
    rw [k.block b h.lt hb]
    exact this, Nat.lt_of_lt_of_le h.lt k.size⟩
theorem RepzM.ins {B lo hi : Nat} {w w' : World} {v : Value} {L : List RepD} (h : RepzM B w v L) (k : Ins lo hi w w') (hb : hi ≤ B) : RepzM B w' v L := by
  obtain ⟨g, xs, hg, hv, hm, hx, hl, hc⟩ := h
  refine ⟨g, xs, hg, hv, hm, hx.ins k (.inr (Nat.le_trans hb hg)), hl, fun j hj hjk => ?_⟩
  obtain ⟨u1, u2, a, b⟩ := hc j hj hjk
  exact ⟨u1, u2, a, b.ins k (by omega)⟩
theorem MeszM.ins {B lo hi : Nat} {w w' : World} {v : Value} {L : List MsgD} (h : MeszM B w v L) (k : Ins lo hi w w') (hb : hi ≤ B) : MeszM B w' v L := by
  obtain ⟨g, xs, hg, hv, hm, hx, hl, hc⟩ := h
  refine ⟨g, xs, hg, hv, hm, hx.ins k (.inr (Nat.le_trans hb hg)), hl, fun j hj hjk => ?_⟩
  obtain ⟨u1, a, b⟩ := hc j hj hjk
  exact ⟨u1, a, b.ins k (by omega)⟩
theorem AskzM.ins {B lo hi : Nat} {w w' : World} {v : Value} {L : List AskD} (h : AskzM B w v L) (k : Ins lo hi w w') (hb : hi ≤ B) : AskzM B w' v L := by
  obtain ⟨g, xs, hg, hv, hm, hx, hl, hc⟩ := h
  refine ⟨g, xs, hg, hv, hm, hx.ins k (.inr (Nat.le_trans hb hg)), hl, hc⟩
def NewNetM (R : List RepD) (M : List MsgD) (K : List AskD) (w : World) (e : Ending) (w' : World) : Prop := ∃ u v z, e = .returned (.agg #[u, v, z]) ∧ NetM w.heap.size w' u v z R M K ∧ Ext w w'
set_option maxHeartbeats 4000000 in
set_option maxRecDepth 100000 in
theorem toNet_any (u v z : Value) (R : List RepD) (M : List MsgD) (K : List AskD) (w : World) (hn : NetL w u v z R M K) (hr : bulkRep R ≤ 549755813888) (hm : bulkMes M ≤ 549755813888) (hk : bulkAsk K ≤ 549755813888) :
    Calls Tryz.prog 10 #[.agg #[u, v, z]] w (NewNetM R M K w) := by
  have HRB := Lib.hid hr
  have HMB := Lib.hid hm
  have HKB := Lib.hid hk
  obtain ⟨w0, hw0⟩ : ∃ w0, w0 = ((w.alloc (.cells #[u, v, z] 26)).alloc (.cells #[.slice none 0 0, .slice none 0 0, .slice none 0 0] 33)).alloc (.cells #[.slice none 0 0, .slice none 0 0, .slice none 0 0] 33) := ⟨_, rfl⟩
  have x0 : Ext w w0 := by rw [hw0]; exact ((Ext.alloc1 _ _).alloc _).alloc _
  have s0 : w0.heap.size = w.heap.size + 3 := by rw [hw0]; simp
  have a0 : BoxV w0 w.heap.size [u, v, z] := by rw [hw0]; exact (boxV_new w [u, v, z] 26).ext ((Ext.alloc1 _ _).alloc _)
  have r0 : BoxV w0 (w.heap.size + 1) [.slice none 0 0, .slice none 0 0, .slice none 0 0] := by
    have h := (boxV_new (w.alloc (.cells #[u, v, z] 26)) [.slice none 0 0, .slice none 0 0, .slice none 0 0] 33).ext (Ext.alloc1 _ (.cells #[.slice none 0 0, .slice none 0 0, .slice none 0 0] 33))
    rw [World.size_alloc] at h
    rw [hw0]; exact h
  have o0 : BoxV w0 (w.heap.size + 1 + 1) [.slice none 0 0, .slice none 0 0, .slice none 0 0] := by
    have h := boxV_new ((w.alloc (.cells #[u, v, z] 26)).alloc (.cells #[.slice none 0 0, .slice none 0 0, .slice none 0 0] 33)) [.slice none 0 0, .slice none 0 0, .slice none 0 0] 33
    rw [World.size_alloc, World.size_alloc] at h
    rw [hw0]; exact h
  have HW0 := Lib.hid hw0
  have HA0 := Lib.hid a0
  have HR0 := Lib.hid r0
  have HO0 := Lib.hid o0
  have HX0 := Lib.hid x0
  have HS0 := Lib.hid s0
  have HN := Lib.hid hn
  clear hw0 a0 r0 o0 x0 s0 hr hm hk hn
  have a0 := HA0.out.cell 0 _ rfl
  have a1 := HA0.out.cell 1 _ rfl
  have a2 := HA0.out.cell 2 _ rfl
  rw [HW0.out] at a0 a1 a2
  go_enter Tryz.func10, Tryz.ntmps10
  go_wp2_with fail
  rw [← HW0.out]
  clear a0 a1 a2
  refine (toRepS_any _ R _ (HN.out.i1.ext HX0.out) HRB.out).mono ?_
  rintro e w1 ⟨y1, rfl, f1, x1⟩
  have HA1 := Lib.hid (HA0.out.ext x1)
  have HR1 := Lib.hid (HR0.out.ext x1)
  have HO1 := Lib.hid (HO0.out.ext x1)
  have HX1 := Lib.hid (HX0.out.trans x1)
  have HS1 : Hid (w.heap.size + 3 ≤ w1.heap.size) := Lib.hid (by have := x1.size; have := HS0.out; omega)
  have f1 := f1.more (B' := w.heap.size + 3) (by have := HS0.out; omega)
  obtain ⟨b1, c1, rfl⟩ := f1.form
  have G11 := Lib.hid f1
  clear x1 f1 HA0 HR0 HO0 HX0 HS0 HW0
  have a0 := HA1.out.cell 0 _ rfl
  have a1 := HA1.out.cell 1 _ rfl
  have o0 := HO1.out.cell 0 _ rfl
  have z0 := HO1.out.free 0 (of_decide_eq_true rfl)
  go_wp2_with fail
  clear a0 a1 o0 z0
  have kk : Ins w.heap.size (w.heap.size + 3) w1 (w1.setCell ⟨w.heap.size + 1 + 1, 0, none⟩ (.slice b1 R.length c1)) := ins_set (by omega) (by omega)
  have HA0 := Lib.hid (HA1.out.other ⟨w.heap.size + 1 + 1, 0, none⟩ (.slice b1 R.length c1) (by dsimp only; omega))
  have HR0 := Lib.hid (HR1.out.other ⟨w.heap.size + 1 + 1, 0, none⟩ (.slice b1 R.length c1) (by dsimp only; omega))
  have HO0 := Lib.hid (HO1.out.set 0 (.slice b1 R.length c1) (of_decide_eq_true rfl))
  have HX0 := Lib.hid (kk.ext HX1.out (Nat.le_refl _))
  have HS0 : Hid (w.heap.size + 3 ≤ (w1.setCell ⟨w.heap.size + 1 + 1, 0, none⟩ (.slice b1 R.length c1)).heap.size) := Lib.hid (Nat.le_trans HS1.out kk.size)
  have G11 := Lib.hid (G11.out.ins kk (Nat.le_refl _))
  clear kk HA1 HR1 HO1 HX1 HS1
  obtain ⟨v1, hv1⟩ : ∃ v1, v1 = (w1.setCell ⟨w.heap.size + 1 + 1, 0, none⟩ (.slice b1 R.length c1)) := ⟨_, rfl⟩
  rw [← hv1] at HA0 HR0 HO0 HX0 HS0 G11 ⊢
  clear hv1
  refine (toMesS_any _ M _ (HN.out.i2.ext HX0.out) HMB.out).mono ?_
  rintro e w2 ⟨y2, rfl, f2, x2⟩
  have HA2 := Lib.hid (HA0.out.ext x2)
  have HR2 := Lib.hid (HR0.out.ext x2)
  have HO2 := Lib.hid (HO0.out.ext x2)
  have HX2 := Lib.hid (HX0.out.trans x2)
  have HS2 : Hid (w.heap.size + 3 ≤ w2.heap.size) := Lib.hid (by have := x2.size; have := HS0.out; omega)
  have f2 := f2.more (B' := w.heap.size + 3) (by have := HS0.out; omega)
  obtain ⟨b2, c2, rfl⟩ := f2.form
  have G12 := Lib.hid (G11.out.ext x2)
  have G22 := Lib.hid f2
  clear x2 f2 HA0 HR0 HO0 HX0 HS0
  have a1 := HA2.out.cell 1 _ rfl
  have a2 := HA2.out.cell 2 _ rfl
  have o1 := HO2.out.cell 1 _ rfl
  have z1 := HO2.out.free 1 (of_decide_eq_true rfl)
  go_wp2_with fail
  clear a1 a2 o1 z1
  have kk : Ins w.heap.size (w.heap.size + 3) w2 (w2.setCell ⟨w.heap.size + 1 + 1, 1, none⟩ (.slice b2 M.length c2)) := ins_set (by omega) (by omega)
  have HA0 := Lib.hid (HA2.out.other ⟨w.heap.size + 1 + 1, 1, none⟩ (.slice b2 M.length c2) (by dsimp only; omega))
  have HR0 := Lib.hid (HR2.out.other ⟨w.heap.size + 1 + 1, 1, none⟩ (.slice b2 M.length c2) (by dsimp only; omega))
  have HO0 := Lib.hid (HO2.out.set 1 (.slice b2 M.length c2) (of_decide_eq_true rfl))
  have HX0 := Lib.hid (kk.ext HX2.out (Nat.le_refl _))
  have HS0 : Hid (w.heap.size + 3 ≤ (w2.setCell ⟨w.heap.size + 1 + 1, 1, none⟩ (.slice b2 M.length c2)).heap.size) := Lib.hid (Nat.le_trans HS2.out kk.size)
  have G12 := Lib.hid (G12.out.ins kk (Nat.le_refl _))
  have G22 := Lib.hid (G22.out.ins kk (Nat.le_refl _))
  clear kk HA2 HR2 HO2 HX2 HS2
  obtain ⟨v2, hv2⟩ : ∃ v2, v2 = (w2.setCell ⟨w.heap.size + 1 + 1, 1, none⟩ (.slice b2 M.length c2)) := ⟨_, rfl⟩
  rw [← hv2] at HA0 HR0 HO0 HX0 HS0 G12 G22 ⊢
  clear hv2
  refine (toAskS_any _ K _ (HN.out.i3.ext HX0.out) HKB.out).mono ?_
  rintro e w3 ⟨y3, rfl, f3, x3⟩
  have HA3 := Lib.hid (HA0.out.ext x3)
  have HR3 := Lib.hid (HR0.out.ext x3)
  have HO3 := Lib.hid (HO0.out.ext x3)
  have HX3 := Lib.hid (HX0.out.trans x3)
  have HS3 : Hid (w.heap.size + 3 ≤ w3.heap.size) := Lib.hid (by have := x3.size; have := HS0.out; omega)
  have f3 := f3.more (B' := w.heap.size + 3) (by have := HS0.out; omega)
  obtain ⟨b3, c3, rfl⟩ := f3.form
  have G13 := Lib.hid (G12.out.ext x3)
  have G23 := Lib.hid (G22.out.ext x3)
  have G33 := Lib.hid f3
  clear x3 f3 HA0 HR0 HO0 HX0 HS0
  have o0 := HO3.out.cell 0 _ rfl
  have z0 := HO3.out.free 0 (of_decide_eq_true rfl)
  have r0 := HR3.out.cell 0 _ rfl
  have t0 := HR3.out.free 0 (of_decide_eq_true rfl)
  have o1 := HO3.out.cell 1 _ rfl
  have z1 := HO3.out.free 1 (of_decide_eq_true rfl)
  have r1 := HR3.out.cell 1 _ rfl
  have t1 := HR3.out.free 1 (of_decide_eq_true rfl)
  have o2 := HO3.out.cell 2 _ rfl
  have z2 := HO3.out.free 2 (of_decide_eq_true rfl)
  have r2 := HR3.out.cell 2 _ rfl
  have t2 := HR3.out.free 2 (of_decide_eq_true rfl)
  go_wp2
  clear o0 z0 r0 t0 o1 z1 r1 t1 o2 z2 r2 t2
  have kk : Ins w.heap.size (w.heap.size + 3) w3 ((((w3.setCell ⟨w.heap.size + 1 + 1, 2, none⟩ (.slice b3 K.length c3)).setCell ⟨w.heap.size + 1, 0, none⟩ (.slice b1 R.length c1)).setCell ⟨w.heap.size + 1, 1, none⟩ (.slice b2 M.length c2)).setCell ⟨w.heap.size + 1, 2, none⟩ (.slice b3 K.length c3)) := (ins_set (by omega) (by omega)).trans (ins_puts (b := w.heap.size + 1) (by omega) (by omega) [.slice b1 R.length c1, .slice b2 M.length c2, .slice b3 K.length c3] 0 _)
  have hr : BoxV ((((w3.setCell ⟨w.heap.size + 1 + 1, 2, none⟩ (.slice b3 K.length c3)).setCell ⟨w.heap.size + 1, 0, none⟩ (.slice b1 R.length c1)).setCell ⟨w.heap.size + 1, 1, none⟩ (.slice b2 M.length c2)).setCell ⟨w.heap.size + 1, 2, none⟩ (.slice b3 K.length c3)) (w.heap.size + 1) [.slice b1 R.length c1, .slice b2 M.length c2, .slice b3 K.length c3] := boxV_puts [.slice b1 R.length c1, .slice b2 M.length c2, .slice b3 K.length c3] 0 _ _ (HR3.out.other _ _ (by dsimp only; omega)) (of_decide_eq_true rfl)
  obtain ⟨wz, hwz⟩ : ∃ wz, wz = ((((w3.setCell ⟨w.heap.size + 1 + 1, 2, none⟩ (.slice b3 K.length c3)).setCell ⟨w.heap.size + 1, 0, none⟩ (.slice b1 R.length c1)).setCell ⟨w.heap.size + 1, 1, none⟩ (.slice b2 M.length c2)).setCell ⟨w.heap.size + 1, 2, none⟩ (.slice b3 K.length c3)) := ⟨_, rfl⟩
  rw [← hwz] at kk hr ⊢
  clear hwz
  have r0 := hr.cell 0 _ rfl
  have r1 := hr.cell 1 _ rfl
  have r2 := hr.cell 2 _ rfl
  exact bodyPost_ret (v := .agg #[.slice b1 R.length c1, .slice b2 M.length c2, .slice b3 K.length c3]) (by simp [results, Tryz.results10, go_sem, r0, r1, r2]) rfl ⟨_, _, _, rfl, ⟨(G13.out.ins kk (Nat.le_refl _)).more (Nat.le_add_right _ _), (G23.out.ins kk (Nat.le_refl _)).more (Nat.le_add_right _ _), (G33.out.ins kk (Nat.le_refl _)).more (Nat.le_add_right _ _)⟩, kk.ext HX3.out (Nat.le_refl _)⟩
end Go.Proofs.YtjkmhphnefpdoaaGreat
