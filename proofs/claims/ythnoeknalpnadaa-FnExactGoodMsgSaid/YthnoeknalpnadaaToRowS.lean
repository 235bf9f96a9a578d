/- Contracts of the laws' copies of rows, of lists of them, and of tables. -/
import Derived.Test.YthnoeknalpnadaaFreshRow
namespace Go.Proofs.Ythnoeknalpnadaa
open Go.RowKit
set_option linter.unusedVariables false

theorem setCells_row (w : World) (g o : Nat) (r : RowD) (u : Value) :
    w.setCells g o (rowL r u) = ((((((((((w.setCell ⟨g, o, none⟩ (.int .i64 r.b)).setCell ⟨g, o + 1, none⟩ (.int .i64 r.v)).setCell ⟨g, o + 2, none⟩ (.int .i64 r.st)).setCell ⟨g, o + 3, none⟩ (.int .i64 r.k)).setCell ⟨g, o + 4, none⟩ (.int .i64 r.i)).setCell ⟨g, o + 5, none⟩ (.int .i64 r.f)).setCell ⟨g, o + 6, none⟩ (.int .i64 r.t)).setCell ⟨g, o + 7, none⟩ (.int .i64 r.a)).setCell ⟨g, o + 8, none⟩ (.int .i64 r.s)).setCell ⟨g, o + 9, none⟩ u) := rfl

set_option maxHeartbeats 2000000 in
set_option maxRecDepth 100000 in
theorem toRowS_any (u : Value) (R : List RowD) (w : World) (hu : Rowz w u R) (hs : bulkR R ≤ 1099511627776) :
    Calls Try.prog 22 #[u] w (NewRows R w) := by
  obtain ⟨au, cu, rfl, hlu, _, hcu⟩ := hu
  unfold maxLen at hlu
  have hL : R.length ≤ 1099511627776 := by unfold bulkR at hs; omega
  obtain ⟨i0, hi, hz0, hz1, hz2⟩ := info_parts Try.infoRow
  have HS := Lib.hid hs
  clear hs
  go_enter Try.func22, Try.ntmps22
  go_wp2_with (at_make; refine wpList_make_full _ rfl _ _ 42 rfl w.heap.size 71 i0 _ 10 Try.underlying42 hi hz0 hz1 _ _ _ _ R.length rfl rfl rfl rfl ?c1 ?c2 ?c3 ?_)
  case c1 => rw [hz2]; omega
  case c2 => unfold maxLen; omega
  case c3 => simp
  intro w1 ho1 hg1
  have hx1 : Ext w w1 := ext_of_grown hg1
  have hz : ∀ j, 0 ≤ j → j < R.length → XRow (madeCells #[.int .i64 0, .int .i64 0, .int .i64 0, .int .i64 0, .int .i64 0, .int .i64 0, .int .i64 0, .int .i64 0, .int .i64 0, .slice none 0 0] (R.length * 10)).toList (j * 10) zeroR (.slice none 0 0) := fun j _ hj => made_row _ j hj
  have hsz : w.heap.size < w1.heap.size := by
    rcases ho1.2 with ⟨h, _⟩ | ⟨g, cap, cur, h, hb, hg, _⟩
    · cases h
    · simp only [Value.slice.injEq, Option.some.injEq, Addr.mk.injEq, and_true, true_and] at h
      obtain ⟨rfl, _⟩ := h
      exact (Array.getElem?_eq_some_iff.1 hg).1
  obtain ⟨xs0, hxs⟩ : ∃ xs, xs = (madeCells #[.int .i64 0, .int .i64 0, .int .i64 0, .int .i64 0, .int .i64 0, .int .i64 0, .int .i64 0, .int .i64 0, .int .i64 0, .slice none 0 0] (R.length * 10)).toList := ⟨_, rfl⟩
  rw [← hxs] at ho1 hz
  clear hg1 hz0 hz1 hz2 hi hxs
  have HZ := Lib.hid hz
  clear hz
  go_wp2
  go_loopw [4] (fun i wr => ∃ (k : Nat) (xs us : List Value), k ≤ R.length ∧ i = .int .i64 k ∧ wr.ownsRow w.heap.size 71 10 (.slice (some ⟨w.heap.size, 0, none⟩) R.length R.length) R.length xs ∧ Hid (Cells xs us (R.take k)) ∧ Hid (∀ j, k ≤ j → j < R.length → XRow xs (j * 10) zeroR (.slice none 0 0)) ∧ Rows_ (w.heap.size + 1) wr us ((R.take k).map fun r => r.l) ∧ w.heap.size < wr.heap.size ∧ Ext w wr) (fun i _ => R.length - (intOf i).toNat)
  case atStart => exact ⟨0, xs0, [], Nat.zero_le _, rfl, ho1, Lib.hid (by simpa using Cells.nil _), HZ, by simpa using Rows_.nil _ _, hsz, hx1⟩
  case round =>
    clear ho1 hx1 hsz HZ
    obtain ⟨k, xs, us, hk, rfl, ho, hC, hZ, hR, hsz, hx⟩ := hrel
    have hul : us.length = k := by rw [hR.len]; simp; omega
    by_cases hlt : k < R.length
    · obtain ⟨bu, ou, rfl, du⟩ := hcu (by omega)
      obtain ⟨y, hy, iy⟩ := du k hlt
      obtain ⟨d, hd⟩ : ∃ d, d = R[k] := ⟨_, rfl⟩
      have hrow : d.l.length ≤ 35184372088831 := by rw [hd]; have := bulkR_row hlt; have := HS.out; omega
      rw [← hd] at hy iy
      obtain ⟨c0, c1, c2, c3, c4, c5, c6, c7, c8, c9⟩ := hy.ext hx
      have IY := Lib.hid (iy.ext hx)
      have HD := Lib.hid hd
      have HO := Lib.hid ho
      have HR := Lib.hid hR
      have HV := Lib.hid hul
      clear hcu du hy iy ho hR hul hd
      go_wp2_with fail
      refine (toRow_any d y _ IY.out hrow).mono ?_
      rintro e w2 ⟨z, rfl, f2, x2⟩
      clear c0 c1 c2 c3 c4 c5 c6 c7 c8 c9
      have ho2 := x2.ownsRow HO.out
      obtain ⟨g0, g1, g2, g3, g4, g5, g6, g7, g8, g9⟩ := XRow.rowIn ho2 hlt (hZ.out k (Nat.le_refl _) hlt)
      have gf : ∀ q, w2.frozen? ⟨w.heap.size, q, none⟩ = false := fun q => ho2.frozenAt q
      have HST := Lib.hid (ownsRow_stores (rowL d z) (k * 10) _ _ ho2)
      have F2 := Lib.hid f2
      obtain ⟨ax, cx, hz'⟩ := f2.form
      have HXL := Lib.hid (show xs.length = R.length * 10 from ho2.1)
      clear ho2 f2
      subst hz'
      go_wp2
      go_roundw
      case rel =>
        have hst := HST.out
        rw [setCells_row] at hst
        have hsn := HR.out.snoc x2 F2.out (by omega)
        have htk : R.take k ++ [d] = R.take (k + 1) := by rw [HD.out, List.take_add_one, List.getElem?_eq_getElem hlt]; rfl
        have htm : ((R.take k).map fun r => r.l) ++ [d.l] = (R.take (k + 1)).map fun r => r.l := by rw [← htk]; simp
        rw [htm] at hsn
        have hlk : (R.take k).length = k := by simp; omega
        have hcs := hC.out.snoc (d := d) (z := .slice ax d.l.length cx) (by rw [HV.out, hlk]) (by rw [hlk, HXL.out]; omega)
        rw [hlk, htk] at hcs
        refine ⟨k + 1, _, _, by omega, by go_num, hst.1, Lib.hid hcs, Lib.hid fun j hj hj' => (hZ.out j (by omega) hj').put_other (.inr (by omega)), hsn.touch hst.2 (hsn.low (by omega)), ?_, ?_⟩
        · have := x2.size
          simp only [World.size_setCell]; omega
        · exact ((((((((((hx.trans x2).setc (Nat.le_refl _)).setc (Nat.le_refl _)).setc (Nat.le_refl _)).setc (Nat.le_refl _)).setc (Nat.le_refl _)).setc (Nat.le_refl _)).setc (Nat.le_refl _)).setc (Nat.le_refl _)).setc (Nat.le_refl _)).setc (Nat.le_refl _)
      case measure => simp [intOf]; omega
    · obtain rfl : k = R.length := by omega
      have HO := Lib.hid ho
      have HR := Lib.hid hR
      clear ho hR
      go_wp2
      go_ret
      have hC' := hC.out
      have hR' := HR.out
      rw [List.take_length] at hC' hR'
      exact ⟨_, rfl, ⟨xs, us, HO.out, hC', hR'.more (by omega), hR'.low (g := w.heap.size) (by omega)⟩, hx⟩

end Go.Proofs.Ythnoeknalpnadaa
