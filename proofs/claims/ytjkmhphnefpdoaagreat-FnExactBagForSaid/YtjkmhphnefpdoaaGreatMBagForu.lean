/- Texts of this proof, part u: words, plain facts, contracts. -/
import Derived.Test.YtjkmhphnefpdoaaGreatMBagForg
import Derived.Test.YtjkmhphnefpdoaaGreatMBagForh
import Derived.Test.YtjkmhphnefpdoaaGreatMBagFort
import Derived.Test.YtjkmhphnefpdoaaGreatMBagFord
import Derived.Test.YtjkmhphnefpdoaaGreatMBagFore

namespace Go.Proofs.YtjkmhphnefpdoaaGreat
open Go.RowKit
set_option linter.unusedVariables false

theorem Tryz.infoMes : ((Tryz.prog.info? 80).map (fun i => (i.zero, i.size))) = some (some (.agg #[.int .i64 0, .int .i64 0, .int .i64 0, .int .i64 0, .int .i64 0, .int .i64 0, .int .i64 0, .int .i64 0, .int .i64 0, .int .i64 0, .int .i64 0, .int .i64 0, .int .i64 0, .int .i64 0, .slice none 0 0]), 15) := by kernel_rfl
theorem mes_parts : ∃ i, Tryz.prog.info? 80 = some i ∧ i.zero = some (.agg #[.int .i64 0, .int .i64 0, .int .i64 0, .int .i64 0, .int .i64 0, .int .i64 0, .int .i64 0, .int .i64 0, .int .i64 0, .int .i64 0, .int .i64 0, .int .i64 0, .int .i64 0, .int .i64 0, .slice none 0 0]) ∧ i.size = 15 := by
  have h := Tryz.infoMes
  cases hi : Tryz.prog.info? 80 with
  | none => rw [hi] at h; cases h
  | some i =>
    rw [hi] at h
    simp only [Option.map_some, Option.some.injEq, Prod.mk.injEq] at h
    exact ⟨i, rfl, h.1, h.2⟩
theorem mes_bytes : ∀ i, Tryz.prog.info? 80 = some i → i.bytes ≤ 256 := by
  intro i hi
  have h : ((Tryz.prog.info? 80).map (fun i => decide (i.bytes ≤ 256))) = some true := by kernel_rfl
  rw [hi] at h
  simpa using h
theorem mesz_of {w : World} {g n : Nat} {xs : List Value} {L : List MsgD} {cut : Nat → Nat} (hb : BoxV w g xs) (hn : n = L.length) (hm : n ≤ maxLen) (hl : xs.length = L.length * 15) (hk : CutOk (g + 1) n w.heap.size cut) (h : MessTo cut w xs L n) : MeszM g w.heap.size w (.slice (some ⟨g, 0, none⟩) n n) L := by
  subst hn
  exact ⟨g, xs, cut, Nat.le_refl _, rfl, hm, hb, hl, hk, h⟩

set_option maxHeartbeats 8000000 in
set_option maxRecDepth 100000 in
theorem toMesS_any (u : Value) (L : List MsgD) (w : World) (hu : Mesz w u L) (hs : bulkMes L ≤ 549755813888) :
    Calls Tryz.prog 42 #[u] w (NewMesS L w) := by
  obtain ⟨au, cu, rfl, hlu, _, hcu⟩ := hu
  unfold maxLen at hlu
  have hL : L.length ≤ 549755813888 := by unfold bulkMes at hs; omega
  obtain ⟨i0, hi, hz0, hz1⟩ := mes_parts
  have hz2 := mes_bytes i0 hi
  have HS := Lib.hid hs
  clear hs
  go_enter Tryz.func42, Tryz.ntmps42
  go_wp2_with (at_make; refine wpList_make_full _ rfl _ _ 30 rfl w.heap.size 80 i0 _ 15 Tryz.underlying30 hi hz0 hz1 _ _ _ _ L.length rfl rfl rfl rfl ?c1 ?c2 ?c3 ?_)
  case c1 =>
    have hmul := Nat.mul_le_mul hL hz2
    first
    | exact Nat.le_trans hmul (by decide)
    | (rw [Nat.mul_comm]; exact Nat.le_trans hmul (by decide))
  case c2 => unfold maxLen; omega
  case c3 => simp
  intro w1 ho1 hg1
  have hx1 : Ext w w1 := ext_of_grown hg1
  have hsz : w.heap.size < w1.heap.size := by
    rcases ho1.2 with ⟨h, _⟩ | ⟨g, cap, cur, h, hb, hg, _⟩
    · cases h
    · simp only [Value.slice.injEq, Option.some.injEq, Addr.mk.injEq, and_true, true_and] at h
      obtain ⟨rfl, _⟩ := h
      exact (Array.getElem?_eq_some_iff.1 hg).1
  obtain ⟨xs0, hxs⟩ : ∃ xs, xs = (madeCells #[.int .i64 0, .int .i64 0, .int .i64 0, .int .i64 0, .int .i64 0, .int .i64 0, .int .i64 0, .int .i64 0, .int .i64 0, .int .i64 0, .int .i64 0, .int .i64 0, .int .i64 0, .int .i64 0, .slice none 0 0] (L.length * 15)).toList := ⟨_, rfl⟩
  rw [← hxs] at ho1
  have hlx : xs0.length = L.length * 15 := ho1.1
  have hbx : BoxV w1 w.heap.size xs0 := ⟨fun j v hj => by
    rw [ho1.cellAt _ (by have := (List.getElem?_eq_some_iff.1 hj).1; omega)]; exact hj, fun j _ => ho1.frozenAt j, hsz⟩
  clear hg1 hz0 hz1 hz2 hi hxs ho1 hsz
  have HBX := Lib.hid hbx
  clear hbx
  go_wp2
  go_loopw [4] (fun i wr => ∃ (k : Nat) (xs : List Value) (cut : Nat → Nat), k ≤ L.length ∧ i = .int .i64 k ∧ Hid (BoxV wr w.heap.size xs) ∧ xs.length = L.length * 15 ∧ Hid (CutOk (w.heap.size + 1) k wr.heap.size cut) ∧ Hid (MessTo cut wr xs L k) ∧ Ext w wr) (fun i _ => L.length - (intOf i).toNat)
  case atStart => exact ⟨0, xs0, _, Nat.zero_le _, rfl, HBX, hlx, Lib.hid (CutOk.start HBX.out.lt (Nat.le_refl _)), Lib.hid (fun j _ h => by omega), hx1⟩
  case round =>
    clear hx1 HBX hlx
    obtain ⟨k, xs, cut, hk, rfl, hB, hl, hC, hT, hx⟩ := hrel
    by_cases hlt : k < L.length
    · obtain ⟨bu, ou, rfl, du⟩ := hcu (by omega)
      obtain ⟨y1, hy, iy⟩ := du k hlt
      obtain ⟨d, hd⟩ : ∃ d, d = L[k] := ⟨_, rfl⟩
      have hbk : bulk1Mes d ≤ 35184372088831 := by rw [hd]; have := bulkMes_at hlt; have := HS.out; omega
      rw [← hd] at hy iy
      have hy := hy.ext hx
      have IY := Lib.hid (iy.ext hx)
      have HD := Lib.hid hd
      obtain ⟨c0, c1, c2, c3, c4, c5, c6, c7, c8, c9, c10, c11, c12, c13, c14⟩ := mesIn_cells hy
      clear hcu du hy iy hd
      go_wp2_with fail
      refine (toMsg_any d y1 _ IY.out.i1 (by unfold bulk1Mes at hbk; omega)).mono ?_
      rintro e w2 ⟨z1, rfl, gE, x2⟩
      have f2 : MesE wr.heap.size w2.heap.size w2 d z1 := ⟨gE, gE.und⟩
      clear c0 c1 c2 c3 c4 c5 c6 c7 c8 c9 c10 c11 c12 c13 c14
      have hb2 := hB.out.ext x2
      have HT2 := Lib.hid (hT.out.kept hC.out (Stood.of_ext x2 (Nat.le_refl _)))
      have HC2 := Lib.hid (hC.out.more (Nat.le_refl _) x2.size)
      have HC3 := Lib.hid (hC.out.to x2.size)
      have F2 := Lib.hid (f2.more hC.out.hi (Nat.le_refl _))
      have HB2 := Lib.hid hb2
      obtain ⟨o0, g0⟩ : ∃ v, w2.cell? ⟨w.heap.size, k * 15, none⟩ = some v := ⟨_, hb2.cell (k * 15) _ (List.getElem?_eq_getElem (by omega))⟩
      have n0 := hb2.free (k * 15) (by omega)
      obtain ⟨o1, g1⟩ : ∃ v, w2.cell? ⟨w.heap.size, k * 15 + 1, none⟩ = some v := ⟨_, hb2.cell (k * 15 + 1) _ (List.getElem?_eq_getElem (by omega))⟩
      have n1 := hb2.free (k * 15 + 1) (by omega)
      obtain ⟨o2, g2⟩ : ∃ v, w2.cell? ⟨w.heap.size, k * 15 + 2, none⟩ = some v := ⟨_, hb2.cell (k * 15 + 2) _ (List.getElem?_eq_getElem (by omega))⟩
      have n2 := hb2.free (k * 15 + 2) (by omega)
      obtain ⟨o3, g3⟩ : ∃ v, w2.cell? ⟨w.heap.size, k * 15 + 3, none⟩ = some v := ⟨_, hb2.cell (k * 15 + 3) _ (List.getElem?_eq_getElem (by omega))⟩
      have n3 := hb2.free (k * 15 + 3) (by omega)
      obtain ⟨o4, g4⟩ : ∃ v, w2.cell? ⟨w.heap.size, k * 15 + 4, none⟩ = some v := ⟨_, hb2.cell (k * 15 + 4) _ (List.getElem?_eq_getElem (by omega))⟩
      have n4 := hb2.free (k * 15 + 4) (by omega)
      obtain ⟨o5, g5⟩ : ∃ v, w2.cell? ⟨w.heap.size, k * 15 + 5, none⟩ = some v := ⟨_, hb2.cell (k * 15 + 5) _ (List.getElem?_eq_getElem (by omega))⟩
      have n5 := hb2.free (k * 15 + 5) (by omega)
      obtain ⟨o6, g6⟩ : ∃ v, w2.cell? ⟨w.heap.size, k * 15 + 6, none⟩ = some v := ⟨_, hb2.cell (k * 15 + 6) _ (List.getElem?_eq_getElem (by omega))⟩
      have n6 := hb2.free (k * 15 + 6) (by omega)
      obtain ⟨o7, g7⟩ : ∃ v, w2.cell? ⟨w.heap.size, k * 15 + 7, none⟩ = some v := ⟨_, hb2.cell (k * 15 + 7) _ (List.getElem?_eq_getElem (by omega))⟩
      have n7 := hb2.free (k * 15 + 7) (by omega)
      obtain ⟨o8, g8⟩ : ∃ v, w2.cell? ⟨w.heap.size, k * 15 + 8, none⟩ = some v := ⟨_, hb2.cell (k * 15 + 8) _ (List.getElem?_eq_getElem (by omega))⟩
      have n8 := hb2.free (k * 15 + 8) (by omega)
      obtain ⟨o9, g9⟩ : ∃ v, w2.cell? ⟨w.heap.size, k * 15 + 9, none⟩ = some v := ⟨_, hb2.cell (k * 15 + 9) _ (List.getElem?_eq_getElem (by omega))⟩
      have n9 := hb2.free (k * 15 + 9) (by omega)
      obtain ⟨o10, g10⟩ : ∃ v, w2.cell? ⟨w.heap.size, k * 15 + 10, none⟩ = some v := ⟨_, hb2.cell (k * 15 + 10) _ (List.getElem?_eq_getElem (by omega))⟩
      have n10 := hb2.free (k * 15 + 10) (by omega)
      obtain ⟨o11, g11⟩ : ∃ v, w2.cell? ⟨w.heap.size, k * 15 + 11, none⟩ = some v := ⟨_, hb2.cell (k * 15 + 11) _ (List.getElem?_eq_getElem (by omega))⟩
      have n11 := hb2.free (k * 15 + 11) (by omega)
      obtain ⟨o12, g12⟩ : ∃ v, w2.cell? ⟨w.heap.size, k * 15 + 12, none⟩ = some v := ⟨_, hb2.cell (k * 15 + 12) _ (List.getElem?_eq_getElem (by omega))⟩
      have n12 := hb2.free (k * 15 + 12) (by omega)
      obtain ⟨o13, g13⟩ : ∃ v, w2.cell? ⟨w.heap.size, k * 15 + 13, none⟩ = some v := ⟨_, hb2.cell (k * 15 + 13) _ (List.getElem?_eq_getElem (by omega))⟩
      have n13 := hb2.free (k * 15 + 13) (by omega)
      obtain ⟨o14, g14⟩ : ∃ v, w2.cell? ⟨w.heap.size, k * 15 + 14, none⟩ = some v := ⟨_, hb2.cell (k * 15 + 14) _ (List.getElem?_eq_getElem (by omega))⟩
      have n14 := hb2.free (k * 15 + 14) (by omega)
      obtain ⟨a1, k1, e1⟩ := gE.form
      have hxx := hx.trans x2
      clear f2 gE hC hb2 hx x2 hB hT
      subst e1
      go_wp2
      go_roundw
      case rel =>
        refine ⟨k + 1, putL xs (k * 15) (mesVs d (.slice a1 d.l.length k1)), cutTo cut k w2.heap.size, by omega, by go_num, Lib.hid ?_, by rw [putL_len]; exact hl, Lib.hid ?_, Lib.hid ?_, ?_⟩
        · rw [← setCells_mes]
          exact boxV_puts _ _ _ _ HB2.out (by rw [mesVs_len]; omega)
        · rw [← setCells_mes]
          exact HC3.out.more (Nat.le_refl _) (ins_puts (lo := w.heap.size) (hi := w.heap.size + 1) (Nat.le_refl _) (Nat.lt_succ_self _) _ _ _).size
        · rw [← setCells_mes]
          have hd := HD.out
          subst hd
          exact HT2.out.put HC2.out hlt hl (Nat.le_refl _) F2.out
        · rw [← setCells_mes]
          exact (ins_puts (lo := w.heap.size) (hi := w.heap.size + 1) (Nat.le_refl _) (Nat.lt_succ_self _) _ _ _).ext hxx (Nat.le_refl _)
      case measure => simp [intOf]; omega
    · obtain rfl : k = L.length := by omega
      go_wp2
      go_ret
      exact ⟨_, rfl, mesz_of hB.out rfl (by unfold maxLen; omega) hl hC.out hT.out, hx⟩
end Go.Proofs.YtjkmhphnefpdoaaGreat

namespace Go.Proofs.YtjkmhphnefpdoaaGreat
open Go.RowKit
set_option linter.unusedVariables false

theorem Tryz.infoAsk : ((Tryz.prog.info? 144).map (fun i => (i.zero, i.size))) = some (some (.agg #[.int .i64 0, .int .i64 0, .int .i64 0, .int .i64 0, .int .i64 0, .int .i64 0, .int .i64 0]), 7) := by kernel_rfl
theorem ask_parts : ∃ i, Tryz.prog.info? 144 = some i ∧ i.zero = some (.agg #[.int .i64 0, .int .i64 0, .int .i64 0, .int .i64 0, .int .i64 0, .int .i64 0, .int .i64 0]) ∧ i.size = 7 := by
  have h := Tryz.infoAsk
  cases hi : Tryz.prog.info? 144 with
  | none => rw [hi] at h; cases h
  | some i =>
    rw [hi] at h
    simp only [Option.map_some, Option.some.injEq, Prod.mk.injEq] at h
    exact ⟨i, rfl, h.1, h.2⟩
theorem ask_bytes : ∀ i, Tryz.prog.info? 144 = some i → i.bytes ≤ 256 := by
  intro i hi
  have h : ((Tryz.prog.info? 144).map (fun i => decide (i.bytes ≤ 256))) = some true := by kernel_rfl
  rw [hi] at h
  simpa using h
theorem askz_of {w : World} {g n : Nat} {xs : List Value} {L : List AskD} (hb : BoxV w g xs) (hn : n = L.length) (hm : n ≤ maxLen) (hl : xs.length = L.length * 7) (h : AsksTo xs L n) : AskzM g w.heap.size w (.slice (some ⟨g, 0, none⟩) n n) L := by
  subst hn
  exact ⟨g, xs, Nat.le_refl _, hb.lt, rfl, hm, hb, hl, h⟩

set_option maxHeartbeats 8000000 in
set_option maxRecDepth 100000 in
theorem toAskS_any (u : Value) (L : List AskD) (w : World) (hu : Askz w u L) (hs : bulkAsk L ≤ 549755813888) :
    Calls Tryz.prog 43 #[u] w (NewAskS L w) := by
  obtain ⟨au, cu, rfl, hlu, _, hcu⟩ := hu
  unfold maxLen at hlu
  have hL : L.length ≤ 549755813888 := by unfold bulkAsk at hs; omega
  obtain ⟨i0, hi, hz0, hz1⟩ := ask_parts
  have hz2 := ask_bytes i0 hi
  have HS := Lib.hid hs
  clear hs
  go_enter Tryz.func43, Tryz.ntmps43
  go_wp2_with (at_make; refine wpList_make_full _ rfl _ _ 31 rfl w.heap.size 144 i0 _ 7 Tryz.underlying31 hi hz0 hz1 _ _ _ _ L.length rfl rfl rfl rfl ?c1 ?c2 ?c3 ?_)
  case c1 =>
    have hmul := Nat.mul_le_mul hL hz2
    first
    | exact Nat.le_trans hmul (by decide)
    | (rw [Nat.mul_comm]; exact Nat.le_trans hmul (by decide))
  case c2 => unfold maxLen; omega
  case c3 => simp
  intro w1 ho1 hg1
  have hx1 : Ext w w1 := ext_of_grown hg1
  have hsz : w.heap.size < w1.heap.size := by
    rcases ho1.2 with ⟨h, _⟩ | ⟨g, cap, cur, h, hb, hg, _⟩
    · cases h
    · simp only [Value.slice.injEq, Option.some.injEq, Addr.mk.injEq, and_true, true_and] at h
      obtain ⟨rfl, _⟩ := h
      exact (Array.getElem?_eq_some_iff.1 hg).1
  obtain ⟨xs0, hxs⟩ : ∃ xs, xs = (madeCells #[.int .i64 0, .int .i64 0, .int .i64 0, .int .i64 0, .int .i64 0, .int .i64 0, .int .i64 0] (L.length * 7)).toList := ⟨_, rfl⟩
  rw [← hxs] at ho1
  have hlx : xs0.length = L.length * 7 := ho1.1
  have hbx : BoxV w1 w.heap.size xs0 := ⟨fun j v hj => by
    rw [ho1.cellAt _ (by have := (List.getElem?_eq_some_iff.1 hj).1; omega)]; exact hj, fun j _ => ho1.frozenAt j, hsz⟩
  clear hg1 hz0 hz1 hz2 hi hxs ho1 hsz
  have HBX := Lib.hid hbx
  clear hbx
  go_wp2
  go_loopw [4] (fun i wr => ∃ (k : Nat) (xs : List Value), k ≤ L.length ∧ i = .int .i64 k ∧ Hid (BoxV wr w.heap.size xs) ∧ xs.length = L.length * 7 ∧ Hid (AsksTo xs L k) ∧ Ext w wr) (fun i _ => L.length - (intOf i).toNat)
  case atStart => exact ⟨0, xs0, Nat.zero_le _, rfl, HBX, hlx, Lib.hid (fun j _ h => by omega), hx1⟩
  case round =>
    clear hx1 HBX hlx
    obtain ⟨k, xs, hk, rfl, hB, hl, hT, hx⟩ := hrel
    by_cases hlt : k < L.length
    · obtain ⟨bu, ou, rfl, du⟩ := hcu (by omega)
      have hy := du k hlt
      obtain ⟨d, hd⟩ : ∃ d, d = L[k] := ⟨_, rfl⟩
      have hbk : bulk1Ask d ≤ 549755813888 := by rw [hd]; have := bulkAsk_at hlt; have := HS.out; omega
      rw [← hd] at hy
      have hy := hy.ext hx
      skip
      have HD := Lib.hid hd
      obtain ⟨c0, c1, c2, c3, c4, c5, c6⟩ := askIn_cells hy
      clear hcu du hy hd
      go_wp2_with fail
      refine (toAsked_any d _).mono ?_
      rintro e w2 ⟨rfl, x2⟩
      clear c0 c1 c2 c3 c4 c5 c6
      have hb2 := hB.out.ext x2
      have HT2 := hT
      skip
      have HB2 := Lib.hid hb2
      obtain ⟨o0, g0⟩ : ∃ v, w2.cell? ⟨w.heap.size, k * 7, none⟩ = some v := ⟨_, hb2.cell (k * 7) _ (List.getElem?_eq_getElem (by omega))⟩
      have n0 := hb2.free (k * 7) (by omega)
      obtain ⟨o1, g1⟩ : ∃ v, w2.cell? ⟨w.heap.size, k * 7 + 1, none⟩ = some v := ⟨_, hb2.cell (k * 7 + 1) _ (List.getElem?_eq_getElem (by omega))⟩
      have n1 := hb2.free (k * 7 + 1) (by omega)
      obtain ⟨o2, g2⟩ : ∃ v, w2.cell? ⟨w.heap.size, k * 7 + 2, none⟩ = some v := ⟨_, hb2.cell (k * 7 + 2) _ (List.getElem?_eq_getElem (by omega))⟩
      have n2 := hb2.free (k * 7 + 2) (by omega)
      obtain ⟨o3, g3⟩ : ∃ v, w2.cell? ⟨w.heap.size, k * 7 + 3, none⟩ = some v := ⟨_, hb2.cell (k * 7 + 3) _ (List.getElem?_eq_getElem (by omega))⟩
      have n3 := hb2.free (k * 7 + 3) (by omega)
      obtain ⟨o4, g4⟩ : ∃ v, w2.cell? ⟨w.heap.size, k * 7 + 4, none⟩ = some v := ⟨_, hb2.cell (k * 7 + 4) _ (List.getElem?_eq_getElem (by omega))⟩
      have n4 := hb2.free (k * 7 + 4) (by omega)
      obtain ⟨o5, g5⟩ : ∃ v, w2.cell? ⟨w.heap.size, k * 7 + 5, none⟩ = some v := ⟨_, hb2.cell (k * 7 + 5) _ (List.getElem?_eq_getElem (by omega))⟩
      have n5 := hb2.free (k * 7 + 5) (by omega)
      obtain ⟨o6, g6⟩ : ∃ v, w2.cell? ⟨w.heap.size, k * 7 + 6, none⟩ = some v := ⟨_, hb2.cell (k * 7 + 6) _ (List.getElem?_eq_getElem (by omega))⟩
      have n6 := hb2.free (k * 7 + 6) (by omega)
      have hxx := hx.trans x2
      clear hb2 hx x2 hB hT
      skip
      go_wp2
      go_roundw
      case rel =>
        refine ⟨k + 1, putL xs (k * 7) (askVs d ), by omega, by go_num, Lib.hid ?_, by rw [putL_len]; exact hl, Lib.hid ?_, ?_⟩
        · rw [← setCells_ask]
          exact boxV_puts _ _ _ _ HB2.out (by rw [askVs_len]; omega)
        · have hd := HD.out
          subst hd
          exact HT2.out.put hlt hl
        · rw [← setCells_ask]
          exact (ins_puts (lo := w.heap.size) (hi := w.heap.size + 1) (Nat.le_refl _) (Nat.lt_succ_self _) _ _ _).ext hxx (Nat.le_refl _)
      case measure => simp [intOf]; omega
    · obtain rfl : k = L.length := by omega
      go_wp2
      go_ret
      exact ⟨_, rfl, askz_of hB.out rfl (by unfold maxLen; omega) hl hT.out, hx⟩
end Go.Proofs.YtjkmhphnefpdoaaGreat

namespace Go.Proofs.YtjkmhphnefpdoaaGreat
open Go.RowKit
set_option linter.unusedVariables false

/-- Three slices that read as a net, in ranges of blocks from lo on, below hi. -/
def NetM (lo hi : Nat) (w : World) (u v z : Value) (R : List RepD) (M : List MsgD) (K : List AskD) : Prop := ∃ c1 c2, RepzM lo c1 w u R ∧ MeszM c1 c2 w v M ∧ AskzM c2 hi w z K
theorem RepzM.ord {lo hi : Nat} {w : World} {v : Value} {L : List RepD} (h : RepzM lo hi w v L) : lo ≤ hi := by
  obtain ⟨g, xs, cut, hg, _, _, _, _, hk, _⟩ := h
  have := Nat.le_trans hk.lo (hk.high (Nat.zero_le _))
  omega
theorem MeszM.ord {lo hi : Nat} {w : World} {v : Value} {L : List MsgD} (h : MeszM lo hi w v L) : lo ≤ hi := by
  obtain ⟨g, xs, cut, hg, _, _, _, _, hk, _⟩ := h
  have := Nat.le_trans hk.lo (hk.high (Nat.zero_le _))
  omega
theorem AskzM.ord {lo hi : Nat} {w : World} {v : Value} {L : List AskD} (h : AskzM lo hi w v L) : lo ≤ hi := by
  obtain ⟨g, xs, hg, h⟩ := h
  omega
theorem NetM.kept {lo hi : Nat} {w w' : World} {u v z : Value} {R : List RepD} {M : List MsgD} {K : List AskD} (h : NetM lo hi w u v z R M K) (s : Stood lo hi w w') : NetM lo hi w' u v z R M K := by
  obtain ⟨c1, c2, h1, h2, h3⟩ := h
  have o1 := h1.ord
  have o2 := h2.ord
  have o3 := h3.ord
  exact ⟨c1, c2, h1.kept (s.within (Nat.le_refl _) (by omega)), h2.kept (s.within (by omega) (by omega)), h3.kept (s.within (by omega) (Nat.le_refl _))⟩
theorem NetM.more {lo hi lo' hi' : Nat} {w : World} {u v z : Value} {R : List RepD} {M : List MsgD} {K : List AskD} (h : NetM lo hi w u v z R M K) (p : lo' ≤ lo) (q : hi ≤ hi') : NetM lo' hi' w u v z R M K := by
  obtain ⟨c1, c2, h1, h2, h3⟩ := h
  exact ⟨c1, c2, h1.more p (Nat.le_refl _), h2, h3.more (Nat.le_refl _) q⟩
theorem NetM.reads {lo hi : Nat} {w : World} {u v z : Value} {R : List RepD} {M : List MsgD} {K : List AskD} (h : NetM lo hi w u v z R M K) : NetL w u v z R M K := by
  obtain ⟨c1, c2, h1, h2, h3⟩ := h
  exact ⟨h1.reads, h2.reads, h3.reads⟩
theorem NetM.form {lo hi : Nat} {w : World} {u v z : Value} {R : List RepD} {M : List MsgD} {K : List AskD} (h : NetM lo hi w u v z R M K) : (∃ a c, u = .slice a R.length c) ∧ (∃ a c, v = .slice a M.length c) ∧ (∃ a c, z = .slice a K.length c) := by
  obtain ⟨c1, c2, h1, h2, h3⟩ := h
  exact ⟨h1.form, h2.form, h3.form⟩
def NewNetM (R : List RepD) (M : List MsgD) (K : List AskD) (w : World) (e : Ending) (w' : World) : Prop := ∃ u v z, e = .returned (.agg #[u, v, z]) ∧ NetM w.heap.size w'.heap.size w' u v z R M K ∧ Ext w w'
set_option maxHeartbeats 4000000 in
set_option maxRecDepth 100000 in
theorem toNet_any (u v z : Value) (R : List RepD) (M : List MsgD) (K : List AskD) (w : World) (hn : NetL w u v z R M K) (hr : bulkRep R ≤ 549755813888) (hm : bulkMes M ≤ 549755813888) (hk : bulkAsk K ≤ 549755813888) :
    Calls Tryz.prog 10 #[.agg #[u, v, z]] w (NewNetM R M K w) := by
  have HRB := Lib.hid hr
  have HMB := Lib.hid hm
  have HKB := Lib.hid hk
  obtain ⟨w0, hw0⟩ : ∃ w0, w0 = ((w.alloc (.cells #[u, v, z] 26)).alloc (.cells #[.slice none 0 0, .slice none 0 0, .slice none 0 0] 33)).alloc (.cells #[.slice none 0 0, .slice none 0 0, .slice none 0 0] 33) := ⟨_, rfl⟩
  have x0 : Ext w w0 := by rw [hw0]; exact ((Ext.alloc1 _ _).alloc _).alloc _
  have s0 : w0.heap.size = w.heap.size + 3 := by rw [hw0]; simp
  have a0 : BoxV w0 w.heap.size [u, v, z] := by rw [hw0]; exact (boxV_new w [u, v, z] 26).ext ((Ext.alloc1 _ _).alloc _)
  have r0 : BoxV w0 (w.heap.size + 1) [.slice none 0 0, .slice none 0 0, .slice none 0 0] := by
    have h := (boxV_new (w.alloc (.cells #[u, v, z] 26)) [.slice none 0 0, .slice none 0 0, .slice none 0 0] 33).ext (Ext.alloc1 _ (.cells #[.slice none 0 0, .slice none 0 0, .slice none 0 0] 33))
    rw [World.size_alloc] at h
    rw [hw0]; exact h
  have o0 : BoxV w0 (w.heap.size + 1 + 1) [.slice none 0 0, .slice none 0 0, .slice none 0 0] := by
    have h := boxV_new ((w.alloc (.cells #[u, v, z] 26)).alloc (.cells #[.slice none 0 0, .slice none 0 0, .slice none 0 0] 33)) [.slice none 0 0, .slice none 0 0, .slice none 0 0] 33
    rw [World.size_alloc, World.size_alloc] at h
    rw [hw0]; exact h
  have HW0 := Lib.hid hw0
  have HA0 := Lib.hid a0
  have HR0 := Lib.hid r0
  have HO0 := Lib.hid o0
  have HX0 := Lib.hid x0
  have HS0 := Lib.hid s0
  have HN := Lib.hid hn
  clear hw0 a0 r0 o0 x0 s0 hr hm hk hn
  have a0 := HA0.out.cell 0 _ rfl
  have a1 := HA0.out.cell 1 _ rfl
  have a2 := HA0.out.cell 2 _ rfl
  rw [HW0.out] at a0 a1 a2
  go_enter Tryz.func10, Tryz.ntmps10
  go_wp2_with fail
  rw [← HW0.out]
  clear a0 a1 a2
  refine (toRepS_any _ R _ (HN.out.i1.ext HX0.out) HRB.out).mono ?_
  rintro e w1 ⟨y1, rfl, f1, x1⟩
  have HA1 := Lib.hid (HA0.out.ext x1)
  have HR1 := Lib.hid (HR0.out.ext x1)
  have HO1 := Lib.hid (HO0.out.ext x1)
  have HX1 := Lib.hid (HX0.out.trans x1)
  have XS1 : Hid (w0.heap.size ≤ w1.heap.size) := Lib.hid x1.size
  have LO1 : Hid (w.heap.size + 3 ≤ w0.heap.size) := Lib.hid (Nat.le_of_eq HS0.out.symm)
  have HS1 : Hid (w.heap.size + 3 ≤ w1.heap.size) := Lib.hid (Nat.le_trans LO1.out XS1.out)
  obtain ⟨b1, c1, rfl⟩ := f1.form
  have G11 := Lib.hid f1
  clear x1 f1 HA0 HR0 HO0 HX0 HS0 HW0
  have a0 := HA1.out.cell 0 _ rfl
  have a1 := HA1.out.cell 1 _ rfl
  have o0 := HO1.out.cell 0 _ rfl
  have z0 := HO1.out.free 0 (of_decide_eq_true rfl)
  go_wp2_with fail
  clear a0 a1 o0 z0
  have kk : Ins w.heap.size (w.heap.size + 3) w1 (w1.setCell ⟨w.heap.size + 1 + 1, 0, none⟩ (.slice b1 R.length c1)) := ins_set (by omega) (by omega)
  have HA0 := Lib.hid (HA1.out.other ⟨w.heap.size + 1 + 1, 0, none⟩ (.slice b1 R.length c1) (by dsimp only; omega))
  have HR0 := Lib.hid (HR1.out.other ⟨w.heap.size + 1 + 1, 0, none⟩ (.slice b1 R.length c1) (by dsimp only; omega))
  have HO0 := Lib.hid (HO1.out.set 0 (.slice b1 R.length c1) (of_decide_eq_true rfl))
  have HX0 := Lib.hid (kk.ext HX1.out (Nat.le_refl _))
  have LH1 : Hid (w1.heap.size ≤ (w1.setCell ⟨w.heap.size + 1 + 1, 0, none⟩ (.slice b1 R.length c1)).heap.size) := Lib.hid kk.size
  have HS0 : Hid (w.heap.size + 3 ≤ (w1.setCell ⟨w.heap.size + 1 + 1, 0, none⟩ (.slice b1 R.length c1)).heap.size) := Lib.hid (Nat.le_trans HS1.out kk.size)
  have G11 := Lib.hid (G11.out.kept (kk.stood (by have := XS1.out; omega) (.inr LO1.out)))
  clear kk HA1 HR1 HO1 HX1 HS1
  obtain ⟨v1, hv1⟩ : ∃ v1, v1 = (w1.setCell ⟨w.heap.size + 1 + 1, 0, none⟩ (.slice b1 R.length c1)) := ⟨_, rfl⟩
  rw [← hv1] at HA0 HR0 HO0 HX0 HS0 LH1 G11 ⊢
  clear hv1
  refine (toMesS_any _ M _ (HN.out.i2.ext HX0.out) HMB.out).mono ?_
  rintro e w2 ⟨y2, rfl, f2, x2⟩
  have HA2 := Lib.hid (HA0.out.ext x2)
  have HR2 := Lib.hid (HR0.out.ext x2)
  have HO2 := Lib.hid (HO0.out.ext x2)
  have HX2 := Lib.hid (HX0.out.trans x2)
  have XS2 : Hid (v1.heap.size ≤ w2.heap.size) := Lib.hid x2.size
  have LO2 : Hid (w.heap.size + 3 ≤ v1.heap.size) := Lib.hid (HS0.out)
  have HS2 : Hid (w.heap.size + 3 ≤ w2.heap.size) := Lib.hid (Nat.le_trans LO2.out XS2.out)
  obtain ⟨b2, c2, rfl⟩ := f2.form
  have G12 := Lib.hid (G11.out.kept (Stood.of_ext x2 (by have := XS1.out; have := LH1.out; omega)))
  have G22 := Lib.hid f2
  clear x2 f2 HA0 HR0 HO0 HX0 HS0
  have a1 := HA2.out.cell 1 _ rfl
  have a2 := HA2.out.cell 2 _ rfl
  have o1 := HO2.out.cell 1 _ rfl
  have z1 := HO2.out.free 1 (of_decide_eq_true rfl)
  go_wp2_with fail
  clear a1 a2 o1 z1
  have kk : Ins w.heap.size (w.heap.size + 3) w2 (w2.setCell ⟨w.heap.size + 1 + 1, 1, none⟩ (.slice b2 M.length c2)) := ins_set (by omega) (by omega)
  have HA0 := Lib.hid (HA2.out.other ⟨w.heap.size + 1 + 1, 1, none⟩ (.slice b2 M.length c2) (by dsimp only; omega))
  have HR0 := Lib.hid (HR2.out.other ⟨w.heap.size + 1 + 1, 1, none⟩ (.slice b2 M.length c2) (by dsimp only; omega))
  have HO0 := Lib.hid (HO2.out.set 1 (.slice b2 M.length c2) (of_decide_eq_true rfl))
  have HX0 := Lib.hid (kk.ext HX2.out (Nat.le_refl _))
  have LH2 : Hid (w2.heap.size ≤ (w2.setCell ⟨w.heap.size + 1 + 1, 1, none⟩ (.slice b2 M.length c2)).heap.size) := Lib.hid kk.size
  have HS0 : Hid (w.heap.size + 3 ≤ (w2.setCell ⟨w.heap.size + 1 + 1, 1, none⟩ (.slice b2 M.length c2)).heap.size) := Lib.hid (Nat.le_trans HS2.out kk.size)
  have G12 := Lib.hid (G12.out.kept (kk.stood (by have := XS1.out; have := LH1.out; have := XS2.out; omega) (.inr LO1.out)))
  have G22 := Lib.hid (G22.out.kept (kk.stood (by have := XS1.out; have := LH1.out; have := XS2.out; omega) (.inr LO2.out)))
  clear kk HA2 HR2 HO2 HX2 HS2
  obtain ⟨v2, hv2⟩ : ∃ v2, v2 = (w2.setCell ⟨w.heap.size + 1 + 1, 1, none⟩ (.slice b2 M.length c2)) := ⟨_, rfl⟩
  rw [← hv2] at HA0 HR0 HO0 HX0 HS0 LH2 G12 G22 ⊢
  clear hv2
  refine (toAskS_any _ K _ (HN.out.i3.ext HX0.out) HKB.out).mono ?_
  rintro e w3 ⟨y3, rfl, f3, x3⟩
  have HA3 := Lib.hid (HA0.out.ext x3)
  have HR3 := Lib.hid (HR0.out.ext x3)
  have HO3 := Lib.hid (HO0.out.ext x3)
  have HX3 := Lib.hid (HX0.out.trans x3)
  have XS3 : Hid (v2.heap.size ≤ w3.heap.size) := Lib.hid x3.size
  have LO3 : Hid (w.heap.size + 3 ≤ v2.heap.size) := Lib.hid (HS0.out)
  have HS3 : Hid (w.heap.size + 3 ≤ w3.heap.size) := Lib.hid (Nat.le_trans LO3.out XS3.out)
  obtain ⟨b3, c3, rfl⟩ := f3.form
  have G13 := Lib.hid (G12.out.kept (Stood.of_ext x3 (by have := XS1.out; have := LH1.out; have := XS2.out; have := LH2.out; omega)))
  have G23 := Lib.hid (G22.out.kept (Stood.of_ext x3 (by have := XS1.out; have := LH1.out; have := XS2.out; have := LH2.out; omega)))
  have G33 := Lib.hid f3
  clear x3 f3 HA0 HR0 HO0 HX0 HS0
  have o0 := HO3.out.cell 0 _ rfl
  have z0 := HO3.out.free 0 (of_decide_eq_true rfl)
  have r0 := HR3.out.cell 0 _ rfl
  have t0 := HR3.out.free 0 (of_decide_eq_true rfl)
  have o1 := HO3.out.cell 1 _ rfl
  have z1 := HO3.out.free 1 (of_decide_eq_true rfl)
  have r1 := HR3.out.cell 1 _ rfl
  have t1 := HR3.out.free 1 (of_decide_eq_true rfl)
  have o2 := HO3.out.cell 2 _ rfl
  have z2 := HO3.out.free 2 (of_decide_eq_true rfl)
  have r2 := HR3.out.cell 2 _ rfl
  have t2 := HR3.out.free 2 (of_decide_eq_true rfl)
  go_wp2
  clear o0 z0 r0 t0 o1 z1 r1 t1 o2 z2 r2 t2
  have kk : Ins w.heap.size (w.heap.size + 3) w3 ((((w3.setCell ⟨w.heap.size + 1 + 1, 2, none⟩ (.slice b3 K.length c3)).setCell ⟨w.heap.size + 1, 0, none⟩ (.slice b1 R.length c1)).setCell ⟨w.heap.size + 1, 1, none⟩ (.slice b2 M.length c2)).setCell ⟨w.heap.size + 1, 2, none⟩ (.slice b3 K.length c3)) := (ins_set (by omega) (by omega)).trans (ins_puts (b := w.heap.size + 1) (by omega) (by omega) [.slice b1 R.length c1, .slice b2 M.length c2, .slice b3 K.length c3] 0 _)
  have hr : BoxV ((((w3.setCell ⟨w.heap.size + 1 + 1, 2, none⟩ (.slice b3 K.length c3)).setCell ⟨w.heap.size + 1, 0, none⟩ (.slice b1 R.length c1)).setCell ⟨w.heap.size + 1, 1, none⟩ (.slice b2 M.length c2)).setCell ⟨w.heap.size + 1, 2, none⟩ (.slice b3 K.length c3)) (w.heap.size + 1) [.slice b1 R.length c1, .slice b2 M.length c2, .slice b3 K.length c3] := boxV_puts [.slice b1 R.length c1, .slice b2 M.length c2, .slice b3 K.length c3] 0 _ _ (HR3.out.other _ _ (by dsimp only; omega)) (of_decide_eq_true rfl)
  obtain ⟨wz, hwz⟩ : ∃ wz, wz = ((((w3.setCell ⟨w.heap.size + 1 + 1, 2, none⟩ (.slice b3 K.length c3)).setCell ⟨w.heap.size + 1, 0, none⟩ (.slice b1 R.length c1)).setCell ⟨w.heap.size + 1, 1, none⟩ (.slice b2 M.length c2)).setCell ⟨w.heap.size + 1, 2, none⟩ (.slice b3 K.length c3)) := ⟨_, rfl⟩
  rw [← hwz] at kk hr ⊢
  clear hwz
  have r0 := hr.cell 0 _ rfl
  have r1 := hr.cell 1 _ rfl
  have r2 := hr.cell 2 _ rfl
  have e1 := XS1.out
  have e2 := LH1.out
  have e3 := XS2.out
  have e4 := LH2.out
  have e5 := XS3.out
  have e6 := LO1.out
  refine bodyPost_ret (v := .agg #[.slice b1 R.length c1, .slice b2 M.length c2, .slice b3 K.length c3]) (by simp [results, Tryz.results10, go_sem, r0, r1, r2]) rfl ⟨_, _, _, rfl, ⟨w1.heap.size, w2.heap.size, ?_, ?_, ?_⟩, kk.ext HX3.out (Nat.le_refl _)⟩
  · exact (G13.out.kept (kk.stood (by omega) (.inr LO1.out))).more (by omega) (Nat.le_refl _)
  · exact (G23.out.kept (kk.stood (by omega) (.inr LO2.out))).more (by omega) (Nat.le_refl _)
  · exact (G33.out.kept (kk.stood (Nat.le_refl _) (.inr LO3.out))).more (by omega) kk.size
end Go.Proofs.YtjkmhphnefpdoaaGreat

namespace Go.Proofs.YtjkmhphnefpdoaaGreat
open Go.RowKit
set_option linter.unusedVariables false

/-- How many marks rows bear. -/
def weigh (R : List RowD) : List Nat := R.map fun r => 9 + r.l.length
theorem weigh_len (R : List RowD) : (weigh R).length = R.length := by simp [weigh]
theorem weigh_get {R : List RowD} {k : Nat} (h : k < R.length) : (weigh R)[k]'(by rw [weigh_len]; exact h) = 9 + R[k].l.length := by simp [weigh]
theorem weigh_sum (R : List RowD) : (weigh R).sum ≤ 10 * bulkR R := by
  unfold weigh bulkR
  induction R with
  | nil => simp
  | cons r R ih => simp at ih ⊢; omega

set_option maxHeartbeats 4000000 in
set_option maxRecDepth 100000 in
theorem markRowS_any (lo hi : Nat) (v : Value) (R : List RowD) (k : Int) (w : World) (hv : FreshI lo hi w v R) (h0 : 0 ≤ k) (hk : k ≤ 1099511627776) (h1 : bulkR R ≤ 1099511627776) :
    Calls Tryz.prog 127 #[v, .int .i64 k] w (fun e w' => e = .returned (.int .i64 (k + (weigh R).sum)) ∧ Ins lo hi w w') := by
  obtain ⟨xs, us, ho, hC, hR, hout, hU, hUs⟩ := hv
  have hul : us.length = R.length := by have := hR.len; simpa using this
  have hws := weigh_sum R
  rcases ho.2 with ⟨rfl, hn⟩ | ⟨g, cap, cur, rfl, hb, hg, hnc, hcm, hcs, htake⟩
  · obtain rfl : R = [] := List.eq_nil_of_length_eq_zero hn
    clear h1 hws
    go_enter Tryz.func127, Tryz.ntmps127
    go_wp2
    refine wp_loop_rounds 1 ?_; rw [rounds_succ]
    go_wp2
    go_ret
    exact ⟨by simp [weigh], Ins.refl _ _ _⟩
  · have hout' : ∀ (j : Nat) (u : Value), us[j]? = some u → u.ownBlock = none ∨ u.ownBlock ≠ some g := hout
    have hgi : lo ≤ g ∧ g < hi := ⟨hb, hU g rfl⟩
    have hfr : Hid (∀ i (h : i < R.length) (h' : i < us.length), 0 ≤ i → Fresh lo w us[i] R[i].l) := Lib.hid fun i h h' _ => hR.row i _ _ (List.getElem?_eq_getElem h') (by simp [List.getElem?_eq_getElem h])
    have hxr : Hid (∀ i (h : i < R.length) (h' : i < us.length), 0 ≤ i → XRow xs (i * 10) R[i] us[i]) := Lib.hid fun i h h' _ => hC i h h'
    have HOUT := Lib.hid hout'
    have HAP := Lib.hid hR.apart
    have HUS := Lib.hid hUs
    have HUL := Lib.hid hul
    have HWS := Lib.hid hws
    have HGI := Lib.hid hgi
    have H1 := Lib.hid h1
    have hLen : R.length ≤ 1099511627776 := by unfold bulkR at h1; omega
    clear hg hnc hcm hcs htake cur hb hout hout' hU hUs hul hR hC hws hgi h1
    go_enter Tryz.func127, Tryz.ntmps127
    go_wp2
    go_loopw [1, 5] (fun m i wr => ∃ (j : Nat) (r : Int) (ys : List Value), j ≤ R.length ∧ i = .int .i64 j ∧ m = .int .i64 r ∧ Hid (r = k + sumN (weigh R) j) ∧ wr.ownsRow lo 118 10 (.slice (some ⟨g, 0, none⟩) R.length cap) R.length ys ∧ Hid (∀ i (h : i < R.length) (h' : i < us.length), j ≤ i → Fresh lo wr us[i] R[i].l) ∧ Hid (∀ i (h : i < R.length) (h' : i < us.length), j ≤ i → XRow ys (i * 10) R[i] us[i]) ∧ Ins lo hi w wr) (fun _ i _ => R.length - (intOf i).toNat)
    case atStart => exact ⟨0, k, xs, Nat.zero_le _, rfl, rfl, Lib.hid (by rw [sumN_zero]; simp), ho, hfr, hxr, Ins.refl _ _ _⟩
    case round =>
      clear ho hfr hxr
      obtain ⟨j, r, ys, hj, rfl, rfl, hr, ho, hF, hX, hI⟩ := hrel
      by_cases hlt : j < R.length
      · have hju : j < us.length := by rw [HUL.out]; exact hlt
        obtain ⟨d, hd⟩ : ∃ d, d = R[j] := ⟨_, rfl⟩
        obtain ⟨u, hu⟩ : ∃ u, u = us[j] := ⟨_, rfl⟩
        have hx := hX.out j hlt hju (Nat.le_refl _)
        have hf := hF.out j hlt hju (Nat.le_refl _)
        rw [← hd, ← hu] at hx hf
        have hlen : d.l.length ≤ 1099511627776 := by rw [hd]; have := bulkR_row hlt; have := H1.out; omega
        have hr0 : 0 ≤ r := by have := hr.out; omega
        have hr1 : r ≤ 21990232555520 := by
          have h := hr.out
          have h2 := sumN_mono (g := weigh R) (k := j) (by rw [weigh_len]; omega)
          have := HWS.out; have := H1.out; omega
        obtain ⟨g0, g1, g2, g3, g4, g5, g6, g7, g8, g9⟩ := hx.rowIn ho hlt
        have gf : ∀ q, wr.frozen? ⟨g, q, none⟩ = false := fun q => ho.frozenAt q
        obtain ⟨au, cu, rfl⟩ := hf.form
        have HO := Lib.hid ho
        have HFF := Lib.hid hf
        have HD := Lib.hid hd
        have HU := Lib.hid hu
        clear ho hf hx hd hu
        have hst := ownsRow_stores [.int .i64 r, .int .i64 (r + 1), .int .i64 (r + 1 + 1), .int .i64 (r + 1 + 1 + 1), .int .i64 (r + 1 + 1 + 1 + 1), .int .i64 (r + 1 + 1 + 1 + 1 + 1), .int .i64 (r + 1 + 1 + 1 + 1 + 1 + 1), .int .i64 (r + 1 + 1 + 1 + 1 + 1 + 1 + 1), .int .i64 (r + 1 + 1 + 1 + 1 + 1 + 1 + 1 + 1)] (j * 10) wr ys HO.out
        have hub : ∀ b, (Value.slice au d.l.length cu).ownBlock = some b → lo ≤ b ∧ b < hi ∧ b ≠ g := fun b e => by
          have h1 := (World.ownsRow.lt HFF.out b e).1
          have hju' : us[j]? = some (.slice au d.l.length cu) := by rw [List.getElem?_eq_getElem hju, HU.out]
          have h2 := HUS.out j _ hju' b e
          refine ⟨h1, h2, fun e' => ?_⟩
          rcases HOUT.out j _ hju' with h | h
          · rw [h] at e; cases e
          · exact h (by rw [e, e'])
        have hf9 : Fresh lo (wr.setCells g (j * 10) [.int .i64 r, .int .i64 (r + 1), .int .i64 (r + 1 + 1), .int .i64 (r + 1 + 1 + 1), .int .i64 (r + 1 + 1 + 1 + 1), .int .i64 (r + 1 + 1 + 1 + 1 + 1), .int .i64 (r + 1 + 1 + 1 + 1 + 1 + 1), .int .i64 (r + 1 + 1 + 1 + 1 + 1 + 1 + 1), .int .i64 (r + 1 + 1 + 1 + 1 + 1 + 1 + 1 + 1)]) (.slice au d.l.length cu) d.l := World.ownsRow.kept HFF.out hst.2 (by
          cases hob : (Value.slice au d.l.length cu).ownBlock with
          | none => exact .inl rfl
          | some b => exact .inr fun e => (hub b hob).2.2 (Option.some.inj e))
        have hi9 : Ins lo hi wr (wr.setCells g (j * 10) [.int .i64 r, .int .i64 (r + 1), .int .i64 (r + 1 + 1), .int .i64 (r + 1 + 1 + 1), .int .i64 (r + 1 + 1 + 1 + 1), .int .i64 (r + 1 + 1 + 1 + 1 + 1), .int .i64 (r + 1 + 1 + 1 + 1 + 1 + 1), .int .i64 (r + 1 + 1 + 1 + 1 + 1 + 1 + 1), .int .i64 (r + 1 + 1 + 1 + 1 + 1 + 1 + 1 + 1)]) := Ins.of_grown hst.2 (fun q e => by rw [← Option.some.inj e]; exact HGI.out)
        have HST := Lib.hid hst
        have HUB := Lib.hid hub
        have HF9 := Lib.hid hf9
        have HI9 := Lib.hid hi9
        clear hst hub hf9 hi9
        go_wp2_with fail
        refine (markIntS_any lo _ d.l _ (wr.setCells g (j * 10) [.int .i64 r, .int .i64 (r + 1), .int .i64 (r + 1 + 1), .int .i64 (r + 1 + 1 + 1), .int .i64 (r + 1 + 1 + 1 + 1), .int .i64 (r + 1 + 1 + 1 + 1 + 1), .int .i64 (r + 1 + 1 + 1 + 1 + 1 + 1), .int .i64 (r + 1 + 1 + 1 + 1 + 1 + 1 + 1), .int .i64 (r + 1 + 1 + 1 + 1 + 1 + 1 + 1 + 1)]) HF9.out (by omega) (by omega)).mono ?_
        rintro e w3 ⟨rfl, f3, t3⟩
        have T3 := Lib.hid t3
        have hs := sumN_succ (g := weigh R) (k := j) (by rw [weigh_len]; exact hlt)
        rw [weigh_get hlt, ← HD.out] at hs
        have HS := Lib.hid hs
        clear f3 t3 hs g0 g1 g2 g3 g4 g5 g6 g7 g8 g9 gf
        obtain ⟨q, hq⟩ : ∃ q, q = r + 1 + 1 + 1 + 1 + 1 + 1 + 1 + 1 + 1 + (d.l.length : Int) := ⟨_, rfl⟩
        have hq0 : 0 ≤ q := by omega
        rw [← hq]
        have HQ := Lib.hid hq
        clear hq
        go_wp2
        go_roundw
        case rel =>
          have hju' : us[j]? = some (.slice au d.l.length cu) := by rw [List.getElem?_eq_getElem hju, HU.out]
          refine ⟨j + 1, q, _, by omega, by go_num, rfl, Lib.hid (by have h1 := hr.out; have h2 := HS.out; have h3 := HQ.out; omega), World.ownsRow.kept HST.out.1 T3.out ?_, Lib.hid fun i h h' hij => ?_, Lib.hid fun i h h' hij => ?_, (hI.trans HI9.out).trans (Ins.of_grown T3.out (fun b e => ⟨(HUB.out b e).1, (HUB.out b e).2.1⟩))⟩
          · refine .inr fun e => ?_
            have := (HUB.out g e.symm).2.2
            exact this rfl
          · have h9 : Fresh lo (wr.setCells g (j * 10) [.int .i64 r, .int .i64 (r + 1), .int .i64 (r + 1 + 1), .int .i64 (r + 1 + 1 + 1), .int .i64 (r + 1 + 1 + 1 + 1), .int .i64 (r + 1 + 1 + 1 + 1 + 1), .int .i64 (r + 1 + 1 + 1 + 1 + 1 + 1), .int .i64 (r + 1 + 1 + 1 + 1 + 1 + 1 + 1), .int .i64 (r + 1 + 1 + 1 + 1 + 1 + 1 + 1 + 1)]) us[i] R[i].l := World.ownsRow.kept (hF.out i h h' (by omega)) HST.out.2 (HOUT.out i _ (List.getElem?_eq_getElem h'))
            exact World.ownsRow.kept h9 T3.out (HAP.out i j _ _ (by omega) (List.getElem?_eq_getElem h') hju')
          · have hl9 : ∀ (vs : List Value), vs.length = 9 → XRow (putL ys (j * 10) vs) (i * 10) R[i] us[i] := fun vs hvs => by
              obtain ⟨p0, p1, p2, p3, p4, p5, p6, p7, p8, p9⟩ := hX.out i h h' (by omega)
              refine ⟨?_, ?_, ?_, ?_, ?_, ?_, ?_, ?_, ?_, ?_⟩ <;> (rw [putL_out _ _ _ _ (by rw [hvs]; omega)]; assumption)
            exact hl9 _ rfl
        case measure => simp [intOf]; omega
      · obtain rfl : j = R.length := by omega
        go_wp2
        go_ret
        refine ⟨?_, hI⟩
        have h := hr.out
        have h2 := sumN_all (weigh R)
        rw [weigh_len] at h2
        rw [h2] at h
        rw [h]; rfl

end Go.Proofs.YtjkmhphnefpdoaaGreat

namespace Go.Proofs.YtjkmhphnefpdoaaGreat
open Go.RowKit
set_option linter.unusedVariables false

def weighs (T : List (List RowD)) : List Nat := T.map fun R => (weigh R).sum
theorem weighs_len (T : List (List RowD)) : (weighs T).length = T.length := by simp [weighs]
theorem weighs_get {T : List (List RowD)} {k : Nat} (h : k < T.length) : (weighs T)[k]'(by rw [weighs_len]; exact h) = (weigh T[k]).sum := by simp [weighs]
theorem weighs_sum (T : List (List RowD)) : (weighs T).sum ≤ 10 * bulkT T := by
  unfold weighs bulkT
  induction T with
  | nil => simp
  | cons R T ih =>
    have := weigh_sum R
    simp at ih ⊢; omega

/-- So many marks were laid, and nothing else has turned. -/
def Marked (lo hi : Nat) (k : Int) (n : Nat) (w : World) (e : Ending) (w' : World) : Prop := e = .returned (.int .i64 (k + n)) ∧ Ins lo hi w w'

set_option maxHeartbeats 4000000 in
set_option maxRecDepth 100000 in
theorem markRowSS_any (lo hi : Nat) (v : Value) (T : List (List RowD)) (k : Int) (w : World) (hv : FreshT lo hi w v T) (h0 : 0 ≤ k) (hk : k ≤ 1073741824) (h1 : bulkT T ≤ 10995116277) :
    Calls Tryz.prog 105 #[v, .int .i64 k] w (Marked lo hi k (weighs T).sum w) := by
  obtain ⟨vs, cut, ho, hU, hcut, hc0, hcn, hF⟩ := hv
  have hvl : vs.length = T.length := by have := ho.1; omega
  have hws := weighs_sum T
  rcases ho.2 with ⟨rfl, hn⟩ | ⟨g, cap, cur, rfl, hb, hg, hnc, hcm, hcs, htake⟩
  · obtain rfl : T = [] := List.eq_nil_of_length_eq_zero hn
    clear h1 hws
    go_enter Tryz.func105, Tryz.ntmps105
    go_wp2
    refine wp_loop_rounds 1 ?_; rw [rounds_succ]
    go_wp2
    go_ret
    exact ⟨by simp [weighs], Ins.refl _ _ _⟩
  · have hgc : g < cut 0 := hU g rfl
    have hm := cut_mono hcut
    have hfr : Hid (∀ i (h : i < T.length) (h' : i < vs.length), 0 ≤ i → FreshI (cut i) (cut (i + 1)) w vs[i] T[i]) := Lib.hid fun i h h' _ => hF i h h'
    have HM := Lib.hid hm
    have HGC := Lib.hid hgc
    have HC0 := Lib.hid hc0
    have HCN := Lib.hid hcn
    have HVL := Lib.hid hvl
    have HWS := Lib.hid hws
    have H1 := Lib.hid h1
    have hLen : T.length ≤ 1099511627776 := by unfold bulkT at h1; omega
    clear hg hnc hcm hcs htake cur hb hU hcut hF hm hgc hc0 hcn hvl hws h1
    go_enter Tryz.func105, Tryz.ntmps105
    go_wp2
    go_loopw [1, 5] (fun m i wr => ∃ (j : Nat) (r : Int), j ≤ T.length ∧ i = .int .i64 j ∧ m = .int .i64 r ∧ Hid (r = k + sumN (weighs T) j) ∧ wr.ownsRow lo 96 1 (.slice (some ⟨g, 0, none⟩) T.length cap) T.length vs ∧ Hid (∀ i (h : i < T.length) (h' : i < vs.length), j ≤ i → FreshI (cut i) (cut (i + 1)) wr vs[i] T[i]) ∧ Ins lo hi w wr) (fun _ i _ => T.length - (intOf i).toNat)
    case atStart => exact ⟨0, k, Nat.zero_le _, rfl, rfl, Lib.hid (by rw [sumN_zero]; simp), ho, hfr, Ins.refl _ _ _⟩
    case round =>
      clear ho hfr
      obtain ⟨j, r, hj, rfl, rfl, hr, ho, hF, hI⟩ := hrel
      by_cases hlt : j < T.length
      · have hjv : j < vs.length := by rw [HVL.out]; exact hlt
        obtain ⟨d, hd⟩ : ∃ d, d = T[j] := ⟨_, rfl⟩
        obtain ⟨u, hu⟩ : ∃ u, u = vs[j] := ⟨_, rfl⟩
        have hf := hF.out j hlt hjv (Nat.le_refl _)
        rw [← hd, ← hu] at hf
        have hlen : bulkR d ≤ 1099511627776 := by rw [hd]; have := bulkT_row hlt; have := H1.out; omega
        have hr0 : 0 ≤ r := by have := hr.out; omega
        have hr1 : r ≤ 1099511627776 := by
          have h := hr.out
          have h2 := sumN_mono (g := weighs T) (k := j) (by rw [weighs_len]; omega)
          have := HWS.out; have := H1.out; omega
        have hwd := weigh_sum d
        have hc := (ho.cellAt j (by omega)).trans (List.getElem?_eq_getElem hjv)
        rw [← hu] at hc
        have HO := Lib.hid ho
        have HFF := Lib.hid hf
        have HD := Lib.hid hd
        have HU := Lib.hid hu
        clear ho hf hd hu
        go_wp2_with fail
        refine (markRowS_any (cut j) (cut (j + 1)) _ d _ _ HFF.out hr0 hr1 hlen).mono ?_
        rintro e w3 ⟨rfl, t3⟩
        have T3 := Lib.hid t3
        have hs := sumN_succ (g := weighs T) (k := j) (by rw [weighs_len]; exact hlt)
        rw [weighs_get hlt, ← HD.out] at hs
        have HS := Lib.hid hs
        clear t3 hs hc
        obtain ⟨q, hq⟩ : ∃ q, q = r + ((weigh d).sum : Int) := ⟨_, rfl⟩
        have hq0 : 0 ≤ q := by omega
        rw [← hq]
        have HQ := Lib.hid hq
        clear hq
        go_wp2
        go_roundw
        case rel =>
          have m1 := HM.out 0 j (by omega) (by omega)
          have m2 := HM.out (j + 1) T.length (by omega) (Nat.le_refl _)
          have m3 := HGC.out
          have m4 := HC0.out
          have m5 := HCN.out
          refine ⟨j + 1, q, by omega, by go_num, rfl, Lib.hid (by have h1 := hr.out; have h2 := HS.out; have h3 := HQ.out; omega), T3.out.row HO.out (fun b e => .inl (by have := Option.some.inj e; simp at this; omega)), Lib.hid fun i h h' hij => ?_, hI.trans (T3.out.more (by omega) (by omega))⟩
          obtain ⟨zs, us, q1, q2, q3, q4, q5, q6⟩ := hF.out i h h' (by omega)
          have m6 := HM.out (j + 1) i (by omega) (by omega)
          refine ⟨zs, us, T3.out.row q1 (fun b e => .inr (by have := (World.ownsRow.lt q1 b e).1; omega)), q2, ⟨q3.len, fun a z l hz hl => T3.out.row (q3.row a z l hz hl) (fun b e => .inr (by have := (World.ownsRow.lt (q3.row a z l hz hl) b e).1; omega)), q3.apart⟩, q4, q5, q6⟩
        case measure => simp [intOf]; omega
      · obtain rfl : j = T.length := by omega
        go_wp2
        go_ret
        refine ⟨?_, hI⟩
        have h := hr.out
        have h2 := sumN_all (weighs T)
        rw [weighs_len] at h2
        rw [h2] at h
        rw [h]; rfl

set_option maxHeartbeats 1000000 in
theorem markTable_any (lo hi : Nat) (n : Int) (v : Value) (T : List (List RowD)) (k : Int) (w : World) (hv : FreshT lo hi w v T) (hhi : hi ≤ w.heap.size) (h0 : 0 ≤ k) (hk : k ≤ 1073741824) (h1 : bulkT T ≤ 10995116277) :
    Calls Tryz.prog 73 #[.agg #[.int .i64 n, v], .int .i64 k] w (Marked lo hi k (weighs T).sum w) := by
  have hws := weighs_sum T
  have hq0 : 0 ≤ k + ((weighs T).sum : Int) := by omega
  have HX : Hid (Ins lo hi w (w.alloc (.cells #[.int .i64 n, v] 55))) := Lib.hid (Ins.of_ext (Ext.alloc (Ext.refl _) _))
  have HV := Lib.hid (hv.kept (Stood.of_ext (Ext.alloc (Ext.refl _) (.cells #[.int .i64 n, v] 55)) hhi))
  have H1 := Lib.hid h1
  clear hws hv h1
  go_enter Tryz.func73, Tryz.ntmps73
  go_wp2_with fail
  refine (markRowSS_any lo hi _ T _ _ HV.out h0 hk H1.out).mono ?_
  rintro e w1 ⟨rfl, t1⟩
  have T1 := Lib.hid t1
  clear t1
  go_wp2
  go_ret
  exact ⟨rfl, HX.out.trans T1.out⟩

end Go.Proofs.YtjkmhphnefpdoaaGreat

namespace Go.Proofs.YtjkmhphnefpdoaaGreat
open Go.RowKit
set_option linter.unusedVariables false

/-- From q0 on the cells of vs stand in ys, from o on. -/
def RestX (ys : List Value) (o q0 : Nat) (vs : List Value) : Prop := ∀ q v, q0 ≤ q → vs[q]? = some v → ys[o + q]? = some v
theorem RestX.put {ys vs ms : List Value} {o q0 p q1 : Nat} (h : RestX ys o q0 vs) (h0 : q0 ≤ q1) (h1 : p + ms.length ≤ o + q1) : RestX (putL ys p ms) o q1 vs := fun q v hq hv => by
  rw [putL_out _ _ _ _ (by omega)]
  exact h q v (by omega) hv
/-- But from a on, below b, the lists are one. -/
def KeptX (ys zs : List Value) (a b : Nat) : Prop := zs.length = ys.length ∧ ∀ q, (q < a ∨ b ≤ q) → zs[q]? = ys[q]?
theorem KeptX.refl (ys : List Value) (a b : Nat) : KeptX ys ys a b := ⟨rfl, fun _ _ => rfl⟩
theorem KeptX.put {ys zs ms : List Value} {a b p : Nat} (h : KeptX ys zs a b) (h1 : a ≤ p) (h2 : p + ms.length ≤ b) : KeptX ys (putL zs p ms) a b :=
  ⟨by rw [putL_len]; exact h.1, fun q hq => by rw [putL_out _ _ _ _ (by omega)]; exact h.2 q hq⟩
theorem BoxV.ins' {lo hi : Nat} {w w' : World} {b : Nat} {vs : List Value} (h : BoxV w b vs) (k : Ins lo hi w w') (hb : b < lo ∨ hi ≤ b) : BoxV w' b vs :=
  ⟨fun j v hj => k.cell (h.cell j v hj) hb, fun j hj => by
    have := h.free j hj
    unfold World.frozen? at this ⊢
    rw [k.block b h.lt hb]
    exact this, Nat.lt_of_lt_of_le h.lt k.size⟩
/-- Marks were laid, so many at most, between two blocks. -/
def MarkUp (lo hi : Nat) (k : Int) (n : Nat) (w : World) (e : Ending) (w' : World) : Prop := ∃ k' : Int, e = .returned (.int .i64 k') ∧ k ≤ k' ∧ k' ≤ k + 16 * (n : Int) ∧ Ins lo hi w w'
end Go.Proofs.YtjkmhphnefpdoaaGreat
