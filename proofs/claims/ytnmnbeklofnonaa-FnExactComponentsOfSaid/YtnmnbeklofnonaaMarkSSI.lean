/- Contract of the laws' marks in slices of slices of integers: which blocks they turn. -/
import Derived.Test.YtnmnbeklofnonaaIntSS3
import Derived.Test.YtnmnbeklofnonaaIns
namespace Go.Proofs.Ytnmnbeklofnonaa
open Go.RowKit
set_option linter.unusedVariables false

/-- As FreshSS, all blocks from lo on, below hi. -/
def SSR (lo hi : Nat) (w : World) (v : Value) (L : List (List Int)) : Prop :=
  ∃ vs, w.ownsRow lo 27 1 v L.length vs ∧ Rows_ lo w vs L ∧ (∀ (j : Nat) (u : Value), vs[j]? = some u → u.ownBlock = none ∨ u.ownBlock ≠ v.ownBlock) ∧ Und hi v ∧ ∀ (j : Nat) (u : Value), vs[j]? = some u → Und hi u
theorem FreshSS.range {B h : Nat} {w : World} {v : Value} {L : List (List Int)} (f : FreshSS B w v L) (hb : w.heap.size ≤ h) : SSR B h w v L := by
  obtain ⟨vs, h1, h2, h3⟩ := f
  refine ⟨vs, h1, h2, h3, fun b e => Nat.lt_of_lt_of_le (World.ownsRow.lt h1 b e).2 hb, fun j u hu => ?_⟩
  have hj : j < vs.length := (List.getElem?_eq_some_iff.1 hu).1
  exact (h2.row j u _ hu (List.getElem?_eq_getElem (by rw [← h2.len]; exact hj))).und.more hb
theorem SSR.ext {lo hi : Nat} {w w' : World} {v : Value} {L : List (List Int)} (f : SSR lo hi w v L) (e : Ext w w') : SSR lo hi w' v L := by
  obtain ⟨vs, h1, h2, h3, h4, h5⟩ := f
  exact ⟨vs, e.ownsRow h1, h2.ext e, h3, h4, h5⟩
theorem SSR.intss {lo hi : Nat} {w : World} {v : Value} {L : List (List Int)} (f : SSR lo hi w v L) : Intss w v L := by
  obtain ⟨vs, h1, h2, h3, _⟩ := f
  exact FreshSS.intss ⟨vs, h1, h2, h3⟩

set_option maxHeartbeats 800000 in
theorem markIntSS_ins (B hi : Nat) (v : Value) (L : List (List Int)) (k : Int) (w : World) (hv : SSR B hi w v L) (h0 : 0 ≤ k) (hk : k ≤ 1048576) (h1 : bulk L ≤ 1099511627776) :
    Calls Try.prog 28 #[v, .int .i64 k] w (fun e w' => e = .returned (.int .i64 (k + (L.map List.length).sum)) ∧ Ins B hi w w') := by
  obtain ⟨vs, ho, hR, hout, hU, hUs⟩ := hv
  have hvl := hR.len
  have hL : L.length ≤ 1099511627776 := by unfold bulk at h1; omega
  have hsum : (L.map List.length).sum ≤ 1099511627776 := by unfold bulk at h1; omega
  rcases ho.2 with ⟨rfl, hn⟩ | ⟨g, cap, cur, rfl, hb, hg, hnc, hcm, hcs, htake⟩
  · obtain rfl : L = [] := List.eq_nil_of_length_eq_zero hn
    clear h1 hsum
    go_enter Try.func28, Try.ntmps28
    go_wp2
    refine wp_loop_rounds 1 ?_; rw [rounds_succ]
    go_wp2
    go_ret
    exact ⟨by simp, Ins.refl _ _ _⟩
  · have hout' : ∀ (j : Nat) (u : Value), vs[j]? = some u → u.ownBlock = none ∨ u.ownBlock ≠ some g := hout
    have HOUT := Lib.hid hout'
    have H1 := Lib.hid h1
    have HVL := Lib.hid hvl
    have HSUM := Lib.hid hsum
    have HUS := Lib.hid hUs
    clear hg hnc hcm hcs htake cur hb hout hout' h1 hvl hsum hU hUs
    go_enter Try.func28, Try.ntmps28
    go_wp2
    go_loopw [1, 5] (fun m i wr => ∃ (j : Nat) (r : Int), j ≤ L.length ∧ i = .int .i64 j ∧ m = .int .i64 r ∧ Hid (r = k + sumTo L j) ∧ wr.ownsRow B 27 1 (.slice (some ⟨g, 0, none⟩) L.length cap) L.length vs ∧ Rows_ B wr vs (markedSS k L j) ∧ Ins B hi w wr) (fun _ i _ => L.length - (intOf i).toNat)
    case atStart => exact ⟨0, k, Nat.zero_le _, rfl, rfl, Lib.hid (by simp [sumTo]), ho, by rw [markedSS_zero]; exact hR, Ins.refl _ _ _⟩
    case round =>
      clear ho hR
      obtain ⟨j, r, hj, rfl, rfl, hr, ho, hR, hx⟩ := hrel
      by_cases hlt : j < L.length
      · obtain ⟨z, hz⟩ : ∃ z, vs[j]? = some z := ⟨_, List.getElem?_eq_getElem (by rw [HVL.out]; exact hlt)⟩
        have hc := (ho.cellAt j (by omega)).trans hz
        have hf := hR.row j z _ hz (markedSS_old hlt (Nat.le_refl _))
        have hrow : (L[j]).length ≤ 1099511627776 := by have := bulk_row hlt; have := H1.out; omega
        have hr0 : 0 ≤ r := by have := hr.out; omega
        have hr1 : r ≤ 2199024304128 := by have h := hr.out; have := sumTo_mono (L := L) (k := j) hj; have := HSUM.out; omega
        have HO := Lib.hid ho
        have HR := Lib.hid hR
        have HZ := Lib.hid hz
        have HX := Lib.hid hx
        have HFF := Lib.hid hf
        clear ho hR hz hx hf
        go_wp2_with fail
        refine (markIntS_any B _ _ _ _ HFF.out hr0 (by omega)).mono ?_
        rintro e w2 ⟨rfl, f2, t2⟩
        have hR2 := HR.out.mark HZ.out t2 (by
          have e := hr.out
          rw [e] at f2
          exact f2)
        rw [markedSS_succ hlt] at hR2
        have ho2 := World.ownsRow.kept HO.out t2 (by
          rcases HOUT.out j z HZ.out with h | h
          · exact .inr (by rw [h]; simp [Value.ownBlock])
          · exact .inr (fun e => h e.symm))
        have hx2 : Ins B hi w w2 := HX.out.trans (Ins.of_grown t2 (fun q hq => ⟨(World.ownsRow.lt HFF.out q hq).1, HUS.out j z HZ.out q hq⟩))
        have hs := sumTo_succ hlt
        have HS := Lib.hid hs
        clear f2 t2 hc hs
        go_wp2
        go_roundw
        case rel => exact ⟨j + 1, r + (L[j]).length, by omega, by go_num, rfl, Lib.hid (by have := hr.out; have := HS.out; omega), ho2, hR2, hx2⟩
        case measure => simp [intOf]; omega
      · obtain rfl : j = L.length := by omega
        have HO := Lib.hid ho
        have HR := Lib.hid hR
        clear ho hR
        go_wp2
        go_ret
        refine ⟨?_, hx⟩
        have h := hr.out
        rw [sumTo_all] at h
        rw [h]; rfl

end Go.Proofs.Ytnmnbeklofnonaa
