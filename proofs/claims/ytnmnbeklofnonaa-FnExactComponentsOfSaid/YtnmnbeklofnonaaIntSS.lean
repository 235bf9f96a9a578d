/- Contracts of the laws' helpers over slices of slices of integers (copy, compare, mark, ask the marks), each by a walk of its own. -/
import Derived.Test.YtnmnbeklofnonaaSS
import Derived.Test.YtnmnbeklofnonaaIntS
import Derived.Deep.RegionHeld3
namespace Go.Proofs.Ytnmnbeklofnonaa
open Go.RowKit
set_option linter.unusedVariables false

theorem eqss_succ {L R : List (List Int)} {k : Nat} (h1 : k < L.length) (h2 : k < R.length) (h : L.take k = R.take k) (he : L[k] = R[k]) : L.take (k + 1) = R.take (k + 1) := by
  rw [List.take_add_one, List.take_add_one, h, List.getElem?_eq_getElem h1, List.getElem?_eq_getElem h2, he]

set_option maxHeartbeats 400000 in
theorem eqIntSS_any (u v : Value) (L R : List (List Int)) (w : World) (hu : Intss w u L) (hv : Intss w v R) :
    Calls Try.prog 25 #[u, v] w (BoolExt (decide (L = R)) w) := by
  obtain ⟨au, cu, rfl, hlu, _, hcu⟩ := hu
  obtain ⟨av, cv, rfl, hlv, _, hcv⟩ := hv
  unfold maxLen at hlu hlv
  by_cases hl : L.length = R.length
  · have e0 : ((L.length : Int) != (R.length : Int)) = false := by simp [hl]
    have HL := Lib.hid hl
    clear hl
    go_enter Try.func25, Try.ntmps25
    go_wp2
    go_loopw [5] (fun i wr => ∃ k : Nat, k ≤ L.length ∧ i = .int .i64 k ∧ L.take k = R.take k ∧ Ext w wr) (fun i _ => L.length - (intOf i).toNat)
    case atStart => exact ⟨0, Nat.zero_le _, rfl, rfl, Ext.refl _⟩
    case round =>
      obtain ⟨k, hk, rfl, ht, hx⟩ := hrel
      have HT := Lib.hid ht
      clear ht
      by_cases hlt : k < L.length
      · have hltr : k < R.length := by have := HL.out; omega
        obtain ⟨bu, ou, rfl, du⟩ := hcu (by omega)
        obtain ⟨bv, ov, rfl, dv⟩ := hcv (by omega)
        obtain ⟨x, hx1, ix⟩ := du k hlt
        obtain ⟨y, hy1, iy⟩ := dv k hltr
        rw [List.getElem?_eq_getElem hlt] at ix
        rw [List.getElem?_eq_getElem hltr] at iy
        have gu := hx.cell hx1
        have gv := hx.cell hy1
        have IX := Lib.hid (ix.ext hx)
        have IY := Lib.hid (iy.ext hx)
        clear hcu hcv du dv hx1 hy1 ix iy
        go_wp2_with fail
        go_region_held3 (fun W => Ext wr W ∧ W.cell? ⟨bu, ou + k, none⟩ = some x ∧ W.cell? ⟨bv, ov + k, none⟩ = some y) (first | (exact step2 (by assumption) (by assumption)) | (exact ⟨Ext.drew (Ext.refl _), gu, gv⟩)) (first | (go_at_call 32; refine (eqIntS_any _ _ _ _ _ (IX.out.ext (Ext.drew (Ext.refl _))) (IY.out.ext (Ext.drew (Ext.refl _)))).mono ?_; rintro e W ⟨rfl, x9⟩))
        rename_i hH
        have hx2 : Ext w W := hx.trans hH.1
        clear hH x9 gu gv hx
        by_cases he : L[k] = R[k]
        · rw [decide_eq_true he]
          have HE := Lib.hid he
          clear he
          go_wp2
          go_roundw
          case rel => exact ⟨k + 1, by omega, by go_num, eqss_succ hlt hltr HT.out HE.out, hx2⟩
          case measure => simp [intOf]; omega
        · rw [decide_eq_false he]
          have HE := Lib.hid he
          clear he
          go_wp2
          go_ret
          refine ⟨?_, hx2⟩
          have hne : decide (L = R) = false := decide_eq_false (fun h => HE.out (by subst h; rfl))
          rw [hne]; rfl
      · have hk' : k = L.length := by omega
        subst hk'
        go_wp2
        go_ret
        refine ⟨?_, hx⟩
        have he : decide (L = R) = true := by
          have h := HT.out
          rw [List.take_length, HL.out, List.take_length] at h
          exact decide_eq_true h
        rw [he]; rfl
  · have e0 : ((L.length : Int) != (R.length : Int)) = true := by simp; omega
    have HL := Lib.hid hl
    clear hl
    go_enter Try.func25, Try.ntmps25
    go_wp2
    go_ret
    refine ⟨?_, Ext.refl w⟩
    have hne : decide (L = R) = false := decide_eq_false (fun h => HL.out (by rw [h]))
    rw [hne]; rfl

end Go.Proofs.Ytnmnbeklofnonaa
