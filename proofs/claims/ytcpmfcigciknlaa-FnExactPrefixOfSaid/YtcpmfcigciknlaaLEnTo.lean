/- The law's copy of slices of Entry. -/
import Derived.Test.YtcpmfcigciknlaaLEnW
import Derived.Test.YtcpmfcigciknlaaLEnSz
import Derived.Test.YtcpmfcigciknlaaEnt
namespace Go.Proofs.Ytcpmfcigciknlaa
open Go.RowKit
set_option linter.unusedVariables false

theorem Try.infoEn : ((Try.prog.info? 40).map (fun i => (i.zero, i.size))) = some (some (.agg #[.int .i64 0, .int .i64 0, .int .i64 0, .int .i64 0, .int .i64 0, .int .i64 0, .int .i64 0, .int .i64 0, .int .i64 0]), 9) := by kernel_rfl
theorem en_parts : ∃ i, Try.prog.info? 40 = some i ∧ i.zero = some (.agg #[.int .i64 0, .int .i64 0, .int .i64 0, .int .i64 0, .int .i64 0, .int .i64 0, .int .i64 0, .int .i64 0, .int .i64 0]) ∧ i.size = 9 := by
  have h := Try.infoEn
  cases hi : Try.prog.info? 40 with
  | none => rw [hi] at h; cases h
  | some i =>
    rw [hi] at h
    simp only [Option.map_some, Option.some.injEq, Prod.mk.injEq] at h
    exact ⟨i, rfl, h.1, h.2⟩
theorem en_bytes : ∀ i, Try.prog.info? 40 = some i → i.bytes ≤ 256 := by
  intro i hi
  have h : ((Try.prog.info? 40).map (fun i => decide (i.bytes ≤ 256))) = some true := by kernel_rfl
  rw [hi] at h
  simpa using h
theorem enz_of {w : World} {g n : Nat} {xs : List Value} {L : List EnD} (hb : BoxV w g xs) (hn : n = L.length) (hm : n ≤ maxLen) (hl : xs.length = L.length * 9) (h : EnsTo xs L n) : EnzM g w.heap.size w (.slice (some ⟨g, 0, none⟩) n n) L := by
  subst hn
  exact ⟨g, xs, Nat.le_refl _, hb.lt, rfl, hm, hb, hl, h⟩

set_option maxHeartbeats 8000000 in
set_option maxRecDepth 100000 in
theorem toEnS_any (u : Value) (L : List EnD) (w : World) (hu : Enz w u L) (hs : bulkEn L ≤ 549755813888) :
    Calls Try.prog 7 #[u] w (NewEnS L w) := by
  obtain ⟨au, cu, rfl, hlu, _, hcu⟩ := hu
  unfold maxLen at hlu
  have hL : L.length ≤ 549755813888 := by unfold bulkEn at hs; omega
  obtain ⟨i0, hi, hz0, hz1⟩ := en_parts
  have hz2 := en_bytes i0 hi
  have HS := Lib.hid hs
  clear hs
  go_enter Try.func7, Try.ntmps7
  go_wp2_with (at_make; refine wpList_make_full _ rfl _ _ 24 rfl w.heap.size 40 i0 _ 9 Try.underlying24 hi hz0 hz1 _ _ _ _ L.length rfl rfl rfl rfl ?c1 ?c2 ?c3 ?_)
  case c1 =>
    have hmul := Nat.mul_le_mul hL hz2
    first
    | exact Nat.le_trans hmul (by decide)
    | (rw [Nat.mul_comm]; exact Nat.le_trans hmul (by decide))
  case c2 => unfold maxLen; omega
  case c3 => simp
  intro w1 ho1 hg1
  have hx1 : Ext w w1 := ext_of_grown hg1
  have hsz : w.heap.size < w1.heap.size := by
    rcases ho1.2 with ⟨h, _⟩ | ⟨g, cap, cur, h, hb, hg, _⟩
    · cases h
    · simp only [Value.slice.injEq, Option.some.injEq, Addr.mk.injEq, and_true, true_and] at h
      obtain ⟨rfl, _⟩ := h
      exact (Array.getElem?_eq_some_iff.1 hg).1
  obtain ⟨xs0, hxs⟩ : ∃ xs, xs = (madeCells #[.int .i64 0, .int .i64 0, .int .i64 0, .int .i64 0, .int .i64 0, .int .i64 0, .int .i64 0, .int .i64 0, .int .i64 0] (L.length * 9)).toList := ⟨_, rfl⟩
  rw [← hxs] at ho1
  have hlx : xs0.length = L.length * 9 := ho1.1
  have hbx : BoxV w1 w.heap.size xs0 := ⟨fun j v hj => by
    rw [ho1.cellAt _ (by have := (List.getElem?_eq_some_iff.1 hj).1; omega)]; exact hj, fun j _ => ho1.frozenAt j, hsz⟩
  clear hg1 hz0 hz1 hz2 hi hxs ho1 hsz
  have HBX := Lib.hid hbx
  clear hbx
  go_wp2
  go_loopw [4] (fun i wr => ∃ (k : Nat) (xs : List Value), k ≤ L.length ∧ i = .int .i64 k ∧ Hid (BoxV wr w.heap.size xs) ∧ xs.length = L.length * 9 ∧ Hid (EnsTo xs L k) ∧ Ext w wr) (fun i _ => L.length - (intOf i).toNat)
  case atStart => exact ⟨0, xs0, Nat.zero_le _, rfl, HBX, hlx, Lib.hid (fun j _ h => by omega), hx1⟩
  case round =>
    clear hx1 HBX hlx
    obtain ⟨k, xs, hk, rfl, hB, hl, hT, hx⟩ := hrel
    by_cases hlt : k < L.length
    · obtain ⟨bu, ou, rfl, du⟩ := hcu (by omega)
      have hy := du k hlt
      obtain ⟨d, hd⟩ : ∃ d, d = L[k] := ⟨_, rfl⟩
      have hbk : bulk1En d ≤ 549755813888 := by rw [hd]; have := bulkEn_at hlt; have := HS.out; omega
      rw [← hd] at hy
      have hy := hy.ext hx
      skip
      have HD := Lib.hid hd
      obtain ⟨c0, c1, c2, c3, c4, c5, c6, c7, c8⟩ := enIn_cells hy
      clear hcu du hy hd
      go_wp2_with fail
      refine (toEntry_any d _).mono ?_
      rintro e w2 ⟨rfl, x2⟩
      clear c0 c1 c2 c3 c4 c5 c6 c7 c8
      have hb2 := hB.out.ext x2
      have HT2 := hT
      skip
      have HB2 := Lib.hid hb2
      obtain ⟨o0, g0⟩ : ∃ v, w2.cell? ⟨w.heap.size, k * 9, none⟩ = some v := ⟨_, hb2.cell (k * 9) _ (List.getElem?_eq_getElem (by omega))⟩
      have n0 := hb2.free (k * 9) (by omega)
      obtain ⟨o1, g1⟩ : ∃ v, w2.cell? ⟨w.heap.size, k * 9 + 1, none⟩ = some v := ⟨_, hb2.cell (k * 9 + 1) _ (List.getElem?_eq_getElem (by omega))⟩
      have n1 := hb2.free (k * 9 + 1) (by omega)
      obtain ⟨o2, g2⟩ : ∃ v, w2.cell? ⟨w.heap.size, k * 9 + 2, none⟩ = some v := ⟨_, hb2.cell (k * 9 + 2) _ (List.getElem?_eq_getElem (by omega))⟩
      have n2 := hb2.free (k * 9 + 2) (by omega)
      obtain ⟨o3, g3⟩ : ∃ v, w2.cell? ⟨w.heap.size, k * 9 + 3, none⟩ = some v := ⟨_, hb2.cell (k * 9 + 3) _ (List.getElem?_eq_getElem (by omega))⟩
      have n3 := hb2.free (k * 9 + 3) (by omega)
      obtain ⟨o4, g4⟩ : ∃ v, w2.cell? ⟨w.heap.size, k * 9 + 4, none⟩ = some v := ⟨_, hb2.cell (k * 9 + 4) _ (List.getElem?_eq_getElem (by omega))⟩
      have n4 := hb2.free (k * 9 + 4) (by omega)
      obtain ⟨o5, g5⟩ : ∃ v, w2.cell? ⟨w.heap.size, k * 9 + 5, none⟩ = some v := ⟨_, hb2.cell (k * 9 + 5) _ (List.getElem?_eq_getElem (by omega))⟩
      have n5 := hb2.free (k * 9 + 5) (by omega)
      obtain ⟨o6, g6⟩ : ∃ v, w2.cell? ⟨w.heap.size, k * 9 + 6, none⟩ = some v := ⟨_, hb2.cell (k * 9 + 6) _ (List.getElem?_eq_getElem (by omega))⟩
      have n6 := hb2.free (k * 9 + 6) (by omega)
      obtain ⟨o7, g7⟩ : ∃ v, w2.cell? ⟨w.heap.size, k * 9 + 7, none⟩ = some v := ⟨_, hb2.cell (k * 9 + 7) _ (List.getElem?_eq_getElem (by omega))⟩
      have n7 := hb2.free (k * 9 + 7) (by omega)
      obtain ⟨o8, g8⟩ : ∃ v, w2.cell? ⟨w.heap.size, k * 9 + 8, none⟩ = some v := ⟨_, hb2.cell (k * 9 + 8) _ (List.getElem?_eq_getElem (by omega))⟩
      have n8 := hb2.free (k * 9 + 8) (by omega)
      have hxx := hx.trans x2
      clear hb2 hx x2 hB hT
      skip
      go_wp2
      go_roundw
      case rel =>
        refine ⟨k + 1, putL xs (k * 9) (enVs d ), by omega, by go_num, Lib.hid ?_, by rw [putL_len]; exact hl, Lib.hid ?_, ?_⟩
        · rw [← setCells_en]
          exact boxV_puts _ _ _ _ HB2.out (by rw [enVs_len]; omega)
        · have hd := HD.out
          subst hd
          exact HT2.out.put hlt hl
        · rw [← setCells_en]
          exact (ins_puts (lo := w.heap.size) (hi := w.heap.size + 1) (Nat.le_refl _) (Nat.lt_succ_self _) _ _ _).ext hxx (Nat.le_refl _)
      case measure => simp [intOf]; omega
    · obtain rfl : k = L.length := by omega
      go_wp2
      go_ret
      exact ⟨_, rfl, enz_of hB.out rfl (by unfold maxLen; omega) hl hT.out, hx⟩
end Go.Proofs.Ytcpmfcigciknlaa
