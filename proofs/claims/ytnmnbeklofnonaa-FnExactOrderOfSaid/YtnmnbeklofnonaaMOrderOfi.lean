/- Texts of this proof, part i: words, plain facts, contracts. -/
import Derived.Test.YtnmnbeklofnonaaMOrderOfa
import Derived.Test.YtnmnbeklofnonaaMOrderOfh
import Derived.Deep.RegionHeld3
import Derived.Test.YtnmnbeklofnonaaMOrderOfd
import Derived.Test.YtnmnbeklofnonaaMOrderOfg
import Derived.Test.YtnmnbeklofnonaaMOrderOfc
import Derived.Test.YtnmnbeklofnonaaShelf

namespace Go.Proofs.Ytnmnbeklofnonaa
open Go.RowKit
set_option linter.unusedVariables false

theorem eqss_succ {L R : List (List Int)} {k : Nat} (h1 : k < L.length) (h2 : k < R.length) (h : L.take k = R.take k) (he : L[k] = R[k]) : L.take (k + 1) = R.take (k + 1) := by
  rw [List.take_add_one, List.take_add_one, h, List.getElem?_eq_getElem h1, List.getElem?_eq_getElem h2, he]

set_option maxHeartbeats 400000 in
theorem eqIntSS_any (u v : Value) (L R : List (List Int)) (w : World) (hu : Intss w u L) (hv : Intss w v R) :
    Calls Try.prog 25 #[u, v] w (BoolExt (decide (L = R)) w) := by
  obtain ⟨au, cu, rfl, hlu, _, hcu⟩ := hu
  obtain ⟨av, cv, rfl, hlv, _, hcv⟩ := hv
  unfold maxLen at hlu hlv
  by_cases hl : L.length = R.length
  · have e0 : ((L.length : Int) != (R.length : Int)) = false := by simp [hl]
    have HL := Lib.hid hl
    clear hl
    go_enter Try.func25, Try.ntmps25
    go_wp2
    go_loopw [5] (fun i wr => ∃ k : Nat, k ≤ L.length ∧ i = .int .i64 k ∧ L.take k = R.take k ∧ Ext w wr) (fun i _ => L.length - (intOf i).toNat)
    case atStart => exact ⟨0, Nat.zero_le _, rfl, rfl, Ext.refl _⟩
    case round =>
      obtain ⟨k, hk, rfl, ht, hx⟩ := hrel
      have HT := Lib.hid ht
      clear ht
      by_cases hlt : k < L.length
      · have hltr : k < R.length := by have := HL.out; omega
        obtain ⟨bu, ou, rfl, du⟩ := hcu (by omega)
        obtain ⟨bv, ov, rfl, dv⟩ := hcv (by omega)
        obtain ⟨x, hx1, ix⟩ := du k hlt
        obtain ⟨y, hy1, iy⟩ := dv k hltr
        rw [List.getElem?_eq_getElem hlt] at ix
        rw [List.getElem?_eq_getElem hltr] at iy
        have gu := hx.cell hx1
        have gv := hx.cell hy1
        have IX := Lib.hid (ix.ext hx)
        have IY := Lib.hid (iy.ext hx)
        clear hcu hcv du dv hx1 hy1 ix iy
        go_wp2_with fail
        go_region_held3 (fun W => Ext wr W ∧ W.cell? ⟨bu, ou + k, none⟩ = some x ∧ W.cell? ⟨bv, ov + k, none⟩ = some y) (first | (exact step2 (by assumption) (by assumption)) | (exact ⟨Ext.drew (Ext.refl _), gu, gv⟩)) (first | (go_at_call 32; refine (eqIntS_any _ _ _ _ _ (IX.out.ext (Ext.drew (Ext.refl _))) (IY.out.ext (Ext.drew (Ext.refl _)))).mono ?_; rintro e W ⟨rfl, x9⟩))
        rename_i hH
        have hx2 : Ext w W := hx.trans hH.1
        clear hH x9 gu gv hx
        by_cases he : L[k] = R[k]
        · rw [decide_eq_true he]
          have HE := Lib.hid he
          clear he
          go_wp2
          go_roundw
          case rel => exact ⟨k + 1, by omega, by go_num, eqss_succ hlt hltr HT.out HE.out, hx2⟩
          case measure => simp [intOf]; omega
        · rw [decide_eq_false he]
          have HE := Lib.hid he
          clear he
          go_wp2
          go_ret
          refine ⟨?_, hx2⟩
          have hne : decide (L = R) = false := decide_eq_false (fun h => HE.out (by subst h; rfl))
          rw [hne]; rfl
      · have hk' : k = L.length := by omega
        subst hk'
        go_wp2
        go_ret
        refine ⟨?_, hx⟩
        have he : decide (L = R) = true := by
          have h := HT.out
          rw [List.take_length, HL.out, List.take_length] at h
          exact decide_eq_true h
        rw [he]; rfl
  · have e0 : ((L.length : Int) != (R.length : Int)) = true := by simp; omega
    have HL := Lib.hid hl
    clear hl
    go_enter Try.func25, Try.ntmps25
    go_wp2
    go_ret
    refine ⟨?_, Ext.refl w⟩
    have hne : decide (L = R) = false := decide_eq_false (fun h => HL.out (by rw [h]))
    rw [hne]; rfl

end Go.Proofs.Ytnmnbeklofnonaa

namespace Go.Proofs.Ytnmnbeklofnonaa
open Go.RowKit
set_option linter.unusedVariables false

/-- The first j lists bear marks, the others are as they were. -/
def markedSS (k : Int) (L : List (List Int)) (j : Nat) : List (List Int) := (List.range L.length).map fun i => if i < j then marks (k + sumTo L i) (L[i]?.getD []).length else L[i]?.getD []
theorem markedSS_length (k : Int) (L : List (List Int)) (j : Nat) : (markedSS k L j).length = L.length := by simp [markedSS]
theorem markedSS_zero (k : Int) (L : List (List Int)) : markedSS k L 0 = L := by
  apply List.ext_getElem
  · simp [markedSS]
  · intro i h1 h2
    simp [markedSS, List.getElem?_eq_getElem h2]
theorem markedSS_old {k : Int} {L : List (List Int)} {j i : Nat} (hi : i < L.length) (h : j ≤ i) : (markedSS k L j)[i]? = some L[i] := by
  simp [markedSS, hi, Nat.not_lt.2 h]
theorem markedSS_new {k : Int} {L : List (List Int)} {j i : Nat} (hi : i < L.length) (h : i < j) : (markedSS k L j)[i]? = some (marks (k + sumTo L i) (L[i]).length) := by
  simp [markedSS, hi, h]
theorem markedSS_succ {k : Int} {L : List (List Int)} {j : Nat} (h : j < L.length) : (markedSS k L j).set j (marks (k + sumTo L j) (L[j]).length) = markedSS k L (j + 1) := by
  apply List.ext_getElem?
  intro i
  rw [List.getElem?_set, markedSS_length]
  by_cases hi : i < L.length
  · by_cases e : j = i
    · subst e
      rw [if_pos rfl, if_pos h, markedSS_new h (by omega)]
    · rw [if_neg e]
      by_cases hij : i < j
      · rw [markedSS_new hi hij, markedSS_new hi (by omega)]
      · rw [markedSS_old hi (by omega), markedSS_old hi (by omega)]
  · rw [List.getElem?_eq_none (by rw [markedSS_length]; omega), List.getElem?_eq_none (by rw [markedSS_length]; omega)]
    split
    · omega
    · rfl

theorem Rows_.mark {B : Nat} {w w' : World} {vs : List Value} {L : List (List Int)} {j : Nat} {z : Value} {l : List Int} (h : Rows_ B w vs L) (hj : vs[j]? = some z) (t : w.grownBy w' z.ownBlock) (hz : Fresh B w' z l) : Rows_ B w' vs (L.set j l) := by
  have hjl : j < L.length := by rw [← h.len]; exact (List.getElem?_eq_some_iff.1 hj).1
  refine ⟨by simp [h.len], fun i u r hu hr => ?_, h.apart⟩
  rw [List.getElem?_set] at hr
  by_cases e : j = i
  · subst e
    rw [if_pos rfl, if_pos hjl] at hr
    rw [hj] at hu
    cases hu
    cases hr
    exact hz
  · rw [if_neg e] at hr
    exact World.ownsRow.kept (h.row i u r hu hr) t (h.apart i j u z (fun e' => e e'.symm) hu hj)

/-- What comes back of the marks: the number behind the last, and nothing below B has turned. -/
def MarksSS (B : Nat) (k : Int) (v : Value) (L : List (List Int)) (w : World) (e : Ending) (w' : World) : Prop :=
  e = .returned (.int .i64 (k + (L.map List.length).sum)) ∧ FreshSS B w' v (markedSS k L L.length) ∧ Below B w w'

set_option maxHeartbeats 800000 in
theorem markIntSS_any (B : Nat) (v : Value) (L : List (List Int)) (k : Int) (w : World) (hv : FreshSS B w v L) (hB : B ≤ w.heap.size) (h0 : 0 ≤ k) (hk : k ≤ 1048576) (h1 : bulk L ≤ 1099511627776) :
    Calls Try.prog 28 #[v, .int .i64 k] w (MarksSS B k v L w) := by
  obtain ⟨vs, ho, hR, hout⟩ := hv
  have hvl := hR.len
  have hL : L.length ≤ 1099511627776 := by unfold bulk at h1; omega
  have hsum : (L.map List.length).sum ≤ 1099511627776 := by unfold bulk at h1; omega
  rcases ho.2 with ⟨rfl, hn⟩ | ⟨g, cap, cur, rfl, hb, hg, hnc, hcm, hcs, htake⟩
  · obtain rfl : L = [] := List.eq_nil_of_length_eq_zero hn
    clear h1 hsum
    go_enter Try.func28, Try.ntmps28
    go_wp2
    refine wp_loop_rounds 1 ?_; rw [rounds_succ]
    go_wp2
    go_ret
    exact ⟨by simp, FreshSS.nil _ _, Below.refl _ _⟩
  · have hout' : ∀ (j : Nat) (u : Value), vs[j]? = some u → u.ownBlock = none ∨ u.ownBlock ≠ some g := hout
    have HOUT := Lib.hid hout'
    have H1 := Lib.hid h1
    have HVL := Lib.hid hvl
    have HSUM := Lib.hid hsum
    clear hg hnc hcm hcs htake cur hb hout hout' h1 hvl hsum
    go_enter Try.func28, Try.ntmps28
    go_wp2
    go_loopw [1, 5] (fun m i wr => ∃ (j : Nat) (r : Int), j ≤ L.length ∧ i = .int .i64 j ∧ m = .int .i64 r ∧ Hid (r = k + sumTo L j) ∧ wr.ownsRow B 27 1 (.slice (some ⟨g, 0, none⟩) L.length cap) L.length vs ∧ Rows_ B wr vs (markedSS k L j) ∧ Below B w wr) (fun _ i _ => L.length - (intOf i).toNat)
    case atStart => exact ⟨0, k, Nat.zero_le _, rfl, rfl, Lib.hid (by simp [sumTo]), ho, by rw [markedSS_zero]; exact hR, Below.refl _ _⟩
    case round =>
      clear ho hR
      obtain ⟨j, r, hj, rfl, rfl, hr, ho, hR, hx⟩ := hrel
      by_cases hlt : j < L.length
      · obtain ⟨z, hz⟩ : ∃ z, vs[j]? = some z := ⟨_, List.getElem?_eq_getElem (by rw [HVL.out]; exact hlt)⟩
        have hc := (ho.cellAt j (by omega)).trans hz
        have hf := hR.row j z _ hz (markedSS_old hlt (Nat.le_refl _))
        have hrow : (L[j]).length ≤ 1099511627776 := by have := bulk_row hlt; have := H1.out; omega
        have hr0 : 0 ≤ r := by have := hr.out; omega
        have hr1 : r ≤ 2199024304128 := by have h := hr.out; have := sumTo_mono (L := L) (k := j) hj; have := HSUM.out; omega
        have HO := Lib.hid ho
        have HR := Lib.hid hR
        have HZ := Lib.hid hz
        have HX := Lib.hid hx
        have HFF := Lib.hid hf
        clear ho hR hz hx hf
        go_wp2_with fail
        refine (markIntS_any B _ _ _ _ HFF.out hr0 (by omega)).mono ?_
        rintro e w2 ⟨rfl, f2, t2⟩
        have hR2 := HR.out.mark HZ.out t2 (by
          have e := hr.out
          rw [e] at f2
          exact f2)
        rw [markedSS_succ hlt] at hR2
        have ho2 := World.ownsRow.kept HO.out t2 (by
          rcases HOUT.out j z HZ.out with h | h
          · exact .inr (by rw [h]; simp [Value.ownBlock])
          · exact .inr (fun e => h e.symm))
        have hx2 : Below B w w2 := Below.grown HX.out t2 (Nat.le_trans hB HX.out.size) (fun q hq => (World.ownsRow.lt HFF.out q hq).1)
        have hs := sumTo_succ hlt
        have HS := Lib.hid hs
        clear f2 t2 hc hs
        go_wp2
        go_roundw
        case rel => exact ⟨j + 1, r + (L[j]).length, by omega, by go_num, rfl, Lib.hid (by have := hr.out; have := HS.out; omega), ho2, hR2, hx2⟩
        case measure => simp [intOf]; omega
      · obtain rfl : j = L.length := by omega
        have HO := Lib.hid ho
        have HR := Lib.hid hR
        clear ho hR
        go_wp2
        go_ret
        refine ⟨?_, ⟨vs, by rw [markedSS_length]; exact HO.out, HR.out, HOUT.out⟩, hx⟩
        have h := hr.out
        rw [sumTo_all] at h
        rw [h]; rfl

set_option maxHeartbeats 800000 in
/-- Where the marks lie, they are met. -/
theorem heldIntSS_yes (v : Value) (L : List (List Int)) (k : Int) (w : World) (hv : Intss w v (markedSS k L L.length)) (h0 : 0 ≤ k) (hk : k ≤ 1048576) (h1 : bulk L ≤ 1099511627776) :
    Calls Try.prog 29 #[v, .int .i64 k] w (IntExt (k + (L.map List.length).sum) w) := by
  obtain ⟨av, cv, rfl, hlv, _, hcv⟩ := hv
  rw [markedSS_length] at hcv hlv ⊢
  unfold maxLen at hlv
  have hL : L.length ≤ 1099511627776 := by unfold bulk at h1; omega
  have hsum : (L.map List.length).sum ≤ 1099511627776 := by unfold bulk at h1; omega
  have H1 := Lib.hid h1
  have HSUM := Lib.hid hsum
  clear h1 hsum
  go_enter Try.func29, Try.ntmps29
  go_wp2
  go_loopw [1, 5] (fun m i wr => ∃ (j : Nat) (r : Int), j ≤ L.length ∧ i = .int .i64 j ∧ m = .int .i64 r ∧ Hid (r = k + sumTo L j) ∧ Ext w wr) (fun _ i _ => L.length - (intOf i).toNat)
  case atStart => exact ⟨0, k, Nat.zero_le _, rfl, rfl, Lib.hid (by simp [sumTo]), Ext.refl _⟩
  case round =>
    obtain ⟨j, r, hj, rfl, rfl, hr, hx⟩ := hrel
    by_cases hlt : j < L.length
    · obtain ⟨bv, ov, rfl, dv⟩ := hcv (by omega)
      obtain ⟨x, hx1, ix⟩ := dv j hlt
      rw [markedSS_new hlt hlt, Option.getD_some] at ix
      have gv := hx.cell hx1
      have hrow : (L[j]).length ≤ 1099511627776 := by have := bulk_row hlt; have := H1.out; omega
      have hr0 : 0 ≤ r := by have := hr.out; omega
      have hr1 : r ≤ 2199024304128 := by have h := hr.out; have := sumTo_mono (L := L) (k := j) hj; have := HSUM.out; omega
      rw [← hr.out] at ix
      have IX := Lib.hid (ix.ext hx)
      have HS := Lib.hid (sumTo_succ hlt)
      clear hcv dv hx1 ix
      go_wp2_with fail
      refine (heldIntS_yes _ _ _ _ IX.out hr0 (by omega)).mono ?_
      rintro e w2 ⟨rfl, x2⟩
      have hr2 : 0 ≤ r + (L[j]).length := by omega
      go_wp2
      go_roundw
      case rel => exact ⟨j + 1, r + (L[j]).length, by omega, by go_num, rfl, Lib.hid (by have := hr.out; have := HS.out; omega), hx.trans x2⟩
      case measure => simp [intOf]; omega
    · obtain rfl : j = L.length := by omega
      go_wp2
      go_ret
      refine ⟨?_, hx⟩
      have h := hr.out
      rw [sumTo_all] at h
      rw [h]; rfl

/-- What was made before B stands while nothing below B turns. -/
theorem Ext.under {B : Nat} {w0 w w' : World} (e : Ext w0 w) (k : Below B w w') (hb : w0.heap.size ≤ B) : Ext w0 w' := Below.trans e (Below.mono k hb)

end Go.Proofs.Ytnmnbeklofnonaa

namespace Go.Proofs.Ytnmnbeklofnonaa
open Go.RowKit
set_option linter.unusedVariables false

/-- The first t lists by f, the others as they are. -/
def doneTo (C : List (List Int)) (f : List Int → List Int) (t : Nat) : List (List Int) := (C.take t).map f ++ C.drop t
theorem doneTo_zero (C : List (List Int)) (f : List Int → List Int) : doneTo C f 0 = C := by simp [doneTo]
theorem doneTo_all (C : List (List Int)) (f : List Int → List Int) : doneTo C f C.length = C.map f := by simp [doneTo]
theorem doneTo_len (C : List (List Int)) (f : List Int → List Int) (t : Nat) : (doneTo C f t).length = C.length := by unfold doneTo; simp; omega
theorem doneTo_at (C : List (List Int)) (f : List Int → List Int) {t : Nat} (h : t < C.length) : (doneTo C f t)[t]? = some C[t] := by
  unfold doneTo
  rw [List.getElem?_append_right (by simp; omega)]
  have : t - ((C.take t).map f).length = 0 := by simp; omega
  rw [this, List.getElem?_drop, Nat.add_zero, List.getElem?_eq_getElem h]
theorem doneTo_set (C : List (List Int)) (f : List Int → List Int) {t : Nat} (h : t < C.length) : (doneTo C f t).set t (f C[t]) = doneTo C f (t + 1) := by
  unfold doneTo
  have hl : ((C.take t).map f).length = t := by simp; omega
  rw [List.set_append_right t _ (by omega), hl, Nat.sub_self, List.drop_eq_getElem_cons h, List.set_cons_zero, List.take_add_one, List.getElem?_eq_getElem h, List.map_append]
  simp

noncomputable def byKeyS (g : List (List Int)) (key : List Int) : List (List Int) := (compsL g).map (byKeyL (keyAt key))

theorem compsL_rises {g : List (List Int)} (hg : rowsB g = true) {G : List Int} (h : G ∈ compsL g) : Rises G := by
  obtain ⟨k, hk, e⟩ := (left_groups hg).1 G (compsC_mem g _ _ G h)
  rw [e]; exact groupL_rises g k

set_option maxRecDepth 100000 in
set_option maxHeartbeats 4000000 in
theorem groupsByKey_any (v u : Value) (g : List (List Int)) (key : List Int) (w : World) (hv : Intss w v g) (hu : Ints w u key) (hk : keysB g key = true) :
    Calls Try.prog 74 #[v, u] w (NewSS (byKeyS g key) w) := by
  have HV := Lib.hid hv
  have HU := Lib.hid hu
  obtain ⟨av, cv, rfl, hlv, _, _⟩ := hv
  obtain ⟨au, cu, rfl, hlu, _, _⟩ := hu
  unfold maxLen at hlv hlu
  obtain ⟨hg, hkl, hr, hnd⟩ := keysB_of hk
  obtain ⟨ha, hb⟩ := goodG_of hg
  obtain ⟨F, hF⟩ : ∃ F, F = byKeyL (keyAt key) := ⟨_, rfl⟩
  obtain ⟨C, hC⟩ : ∃ C, C = compsL g := ⟨_, rfl⟩
  obtain ⟨hc1, hc2⟩ := compsL_size hb
  rw [← hC] at hc1 hc2
  have hin : ∀ G ∈ C, Rises G ∧ (∀ x ∈ G, 0 ≤ x ∧ x < (key.length : Int)) ∧ G.length ≤ 1048576 := fun G hG => by
    have h2 := hc2 G hG
    rw [hC] at hG
    refine ⟨compsL_rises ha hG, fun x hx => ?_, by omega⟩
    have := compsL_in ha hG x hx
    omega
  have hS : byKeyS g key = C.map F := by unfold byKeyS; rw [hC, hF]
  rw [hS]
  have HA := Lib.hid ha
  have HIN := Lib.hid hin
  have HKK := Lib.hid (And.intro hr hnd)
  have HF := Lib.hid hF
  have HC := Lib.hid hC
  obtain ⟨W1, hW1⟩ : ∃ W1, W1 = w.alloc (.cells #[.slice au key.length cu] 27) := ⟨_, rfl⟩
  have x1 : Ext w W1 := by rw [hW1]; exact Ext.alloc (Ext.refl _) _
  have hbx : W1.cell? ⟨w.heap.size, 0, none⟩ = some (.slice au key.length cu) := by rw [hW1]; exact cell_alloc_one _ _ _
  have X1 := Lib.hid x1
  have BX := Lib.hid hbx
  have HW1 := Lib.hid hW1
  clear hin hS ha hF hC hc2 hk hg hkl hr hnd x1 hbx hW1
  go_enter Try.func74, Try.ntmps74
  go_wp2_with fail
  rw [← HW1.out]
  refine (groupsInTurn_any g HA.out hb _ _ (HV.out.ext X1.out)).mono ?_
  rw [← HC.out]
  rintro e w2 ⟨v2, rfl, f2, x2⟩
  obtain ⟨VS, fv, hR⟩ := f2.vals
  obtain ⟨a2, c2, rfl⟩ := fv.len
  have hVL : VS.length = C.length := hR.len
  obtain ⟨B, hB⟩ : ∃ B, B = W1.heap.size := ⟨_, rfl⟩
  rw [← hB] at fv hR
  have HBB := Lib.hid hB
  have HR := Lib.hid (show Rows_ B w2 VS (doneTo C F 0) by rw [doneTo_zero]; exact hR)
  have HVL := Lib.hid hVL
  have FV := Lib.hid fv
  have X2 := Lib.hid x2
  have hn40 : VS.length ≤ 40 := by omega
  clear f2 fv hR hVL x2 hB HW1
  go_wp2
  go_loopw [7, 12] (fun _ i wr => ∃ t : Nat, t ≤ C.length ∧ i = .int .i64 t ∧ Hid (Rows_ B wr VS (doneTo C F t)) ∧ Hid (FreshV B wr (.slice a2 VS.length c2) VS) ∧ Hid (Ext W1 wr)) (fun _ i _ => C.length - (intOf i).toNat)
  case atStart => exact ⟨0, Nat.zero_le _, rfl, HR, FV, X2⟩
  case round =>
    clear HR FV X2
    obtain ⟨t, ht, rfl, hR, hV, hX⟩ := hrel
    obtain ⟨w3, hw3⟩ : ∃ x : World, x = wr := ⟨_, rfl⟩
    subst hw3
    by_cases hlt : t < C.length
    · have hlt2 : t < VS.length := by rw [HVL.out]; exact hlt
      obtain ⟨gv, cap, hvv, hc1, hc2⟩ := hV.out.form (n := VS.length) rfl (by omega)
      simp only [Value.slice.injEq, true_and] at hvv
      obtain ⟨rfl, rfl⟩ := hvv
      obtain ⟨z, hz⟩ : ∃ z, VS[t]? = some z := ⟨_, List.getElem?_eq_getElem hlt2⟩
      have zz := hV.out.at rfl hz
      have hfz := hR.out.row t z _ hz (doneTo_at C F hlt)
      obtain ⟨h1, h2, h3⟩ := HIN.out _ (List.getElem_mem hlt)
      have hst : ∀ W, w3.grownBy W z.ownBlock → W.cell? ⟨w.heap.size, 0, none⟩ = some (.slice au key.length cu) ∧ Ints W (.slice au key.length cu) key := fun W hW => by
        have e := hX.out.grown hW (fun b hb => by have := (World.ownsRow.lt hfz b hb).1; rw [HBB.out] at this; exact this)
        exact ⟨e.cell BX.out, (HU.out.ext X1.out).ext e⟩
      have HST := Lib.hid hst
      have HFZ := Lib.hid hfz
      have HZ := Lib.hid hz
      have H123 := Lib.hid (And.intro h1 (And.intro h2 h3))
      have HSET := Lib.hid (doneTo_set C F hlt)
      obtain ⟨G, hG⟩ : ∃ G, G = C[t] := ⟨_, rfl⟩
      rw [← hG] at HFZ H123 HSET
      clear hst hfz hz h1 h2 h3 hG
      go_wp2_with fail
      refine (sortByKey_any key _ _ B z G _ HST.out HKK.out.1 HKK.out.2 HFZ.out H123.out.1 H123.out.2.1 H123.out.2.2).mono ?_
      rintro e w4 ⟨⟨r, rfl⟩, f4, g4⟩
      rw [← HF.out] at f4
      have hR4 : Rows_ B w4 VS (doneTo C F (t + 1)) := by
        rw [← HSET.out]
        exact hR.out.mark HZ.out g4 f4
      have hV0 : w3.ownsRow B 27 1 (.slice (some ⟨gv, 0, none⟩) VS.length c2) VS.length VS := hV.out
      have hV4 : FreshV B w4 (.slice (some ⟨gv, 0, none⟩) VS.length c2) VS := World.ownsRow.kept hV0 g4 (types_apart HFZ.out hV0 (by decide))
      have hX4 : Ext W1 w4 := hX.out.grown g4 (fun b hb => by have := (World.ownsRow.lt HFZ.out b hb).1; rw [HBB.out] at this; exact this)
      have R4 := Lib.hid hR4
      have V4 := Lib.hid hV4
      have X4 := Lib.hid hX4
      clear f4 g4 hR4 hV0 hV4 hX4 zz
      go_wp2
      go_roundw
      case rel => exact ⟨t + 1, by omega, by go_num, R4, V4, X4⟩
      case measure => simp [intOf]; omega
    · obtain rfl : t = C.length := by omega
      have hRA := hR.out
      rw [doneTo_all] at hRA
      have HFIN := Lib.hid ((FreshV.ss hV.out hRA).more (show w.heap.size ≤ B by rw [HBB.out]; exact X1.out.size))
      have HXX := Lib.hid (X1.out.trans hX.out)
      have hno : ¬ C.length < VS.length := by have := HVL.out; omega
      clear hRA
      go_wp2
      go_ret
      exact ⟨_, rfl, HFIN.out, HXX.out⟩

end Go.Proofs.Ytnmnbeklofnonaa

namespace Go.Proofs.Ytnmnbeklofnonaa
open Go.RowKit
set_option linter.unusedVariables false

def unlikeB (l : List Int) (many e : Int) : Bool := decide ((l.length : Int) = many) && (allIn l 0 (e - 1) && decide l.Nodup)
theorem ints_upto {w : World} {ao : Option Addr} {cap : Nat} {l : List Int} (h : Ints w (.slice ao l.length cap) l) (k : Nat) (hk : k ≤ l.length) : Ints w (.slice ao k cap) (l.take k) := by
  obtain ⟨a, c, hv, hm, hc, hd⟩ := h
  simp only [Value.slice.injEq, true_and] at hv
  obtain ⟨rfl, rfl⟩ := hv
  have e : (l.take k).length = k := by rw [List.length_take]; omega
  refine ⟨ao, cap, by rw [e], by rw [e]; omega, ⟨by rw [e]; omega, hc.2⟩, fun hp => ?_⟩
  rw [e] at hp
  obtain ⟨b, off, hab, hcc⟩ := hd (by omega)
  refine ⟨b, off, hab, fun j hj => ?_⟩
  rw [e] at hj
  rw [hcc j (by omega), List.getElem?_take_of_lt hj]

set_option maxHeartbeats 4000000 in
theorem areUnlike_any (v : Value) (l : List Int) (many e : Int) (w : World) (hv : Ints w v l) :
    Calls Try.prog 79 #[v, .int .i64 many, .int .i64 e] w (BoolExt (unlikeB l many e) w) := by
  have HV := Lib.hid hv
  obtain ⟨av, cv, rfl, hlv, hcap, dv⟩ := hv
  unfold maxLen at hlv
  have hcap1 := hcap.1
  have hcap2 := hcap.2.1
  unfold maxLen at hcap2
  have DV := Lib.hid dv
  clear dv hcap
  by_cases hm : (l.length : Int) = many
  · subst hm
    have hU : unlikeB l l.length e = (allIn l 0 (e - 1) && decide l.Nodup) := by simp [unlikeB]
    rw [hU]
    clear hU
    have e0 : ((l.length : Int) != (l.length : Int)) = false := by simp
    go_enter Try.func79, Try.ntmps79
    go_wp2
    go_loopw [7, 8, 15] (fun _ _ i wr => ∃ k : Nat, k ≤ l.length ∧ i = .int .i64 k ∧ Hid ((l.take k).all (fun x => inB x 0 (e - 1)) = true ∧ (l.take k).Nodup) ∧ Ext w wr) (fun _ _ i _ => l.length - (intOf i).toNat)
    case atStart => exact ⟨0, Nat.zero_le _, rfl, Lib.hid ⟨by simp, by simp⟩, Ext.refl _⟩
    case round =>
      obtain ⟨k, hk, rfl, hA, hx⟩ := hrel
      by_cases hlt : k < l.length
      · obtain ⟨bv, ov, rfl, ev⟩ := DV.out (by omega)
        have z1 := hx.cell (ev k hlt)
        rw [List.getElem?_eq_getElem hlt, Option.getD_some] at z1
        have hout : inB l[k] 0 (e - 1) = false → allIn l 0 (e - 1) = false := fun h => all_false_at hlt (fun x => inB x 0 (e - 1)) (by rw [List.getElem?_eq_getElem hlt, Option.getD_some]; exact h)
        have hnext : inB l[k] 0 (e - 1) = true → (l.take (k + 1)).all (fun x => inB x 0 (e - 1)) = true := fun h => all_take_succ hlt (fun x => inB x 0 (e - 1)) hA.out.1 (by rw [List.getElem?_eq_getElem hlt, Option.getD_some]; exact h)
        have hdup : l[k] ∈ l.take k → ¬ l.Nodup := nodup_not hlt
        have hnd : l[k] ∉ l.take k → (l.take (k + 1)).Nodup := fun h => nodup_succ hlt hA.out.2 h
        obtain ⟨n, hn⟩ : ∃ n, n = l[k] := ⟨_, rfl⟩
        rw [← hn] at z1 hout hnext hdup hnd
        have HOUT := Lib.hid hout
        have HNEXT := Lib.hid hnext
        have HDUP := Lib.hid hdup
        have HND := Lib.hid hnd
        have HX := Lib.hid hx
        have j1 : (0 : Int) ≤ (k : Int) ∧ (k : Int) ≤ (cv : Int) := by omega
        clear hout hnext hdup hnd hn hx ev
        by_cases h1 : n < 0
        · have HF : Hid ((allIn l 0 (e - 1) && decide l.Nodup) = false) := Lib.hid (by rw [HOUT.out (inB_no (by omega))]; rfl)
          go_wp2
          go_ret
          exact ⟨by rw [HF.out]; rfl, HX.out⟩
        · by_cases h2 : e ≤ n
          · have HF : Hid ((allIn l 0 (e - 1) && decide l.Nodup) = false) := Lib.hid (by rw [HOUT.out (inB_no (by omega))]; rfl)
            have h1' : ¬ n < 0 := h1
            go_wp2
            go_ret
            exact ⟨by rw [HF.out]; rfl, HX.out⟩
          · go_wp2_with fail
            refine (contains_any _ (l.take k) n _ (ints_upto (HV.out.ext HX.out) k (by omega))).mono ?_
            rintro e w2 ⟨rfl, x2⟩
            have HX2 := Lib.hid (HX.out.trans x2)
            obtain ⟨hh, hhh⟩ : ∃ hh, hh = hasI (l.take k) n := ⟨_, rfl⟩
            rw [← hhh]
            have HH := Lib.hid hhh
            clear hhh x2
            cases hh with
            | true =>
              have HF : Hid ((allIn l 0 (e - 1) && decide l.Nodup) = false) := Lib.hid (by
                have h3 : n ∈ l.take k := by have := HH.out; simpa [hasI] using this.symm
                rw [decide_eq_false (HDUP.out h3), Bool.and_false])
              go_wp2
              go_ret
              exact ⟨by rw [HF.out]; rfl, HX2.out⟩
            | false =>
              have HN : Hid ((l.take (k + 1)).all (fun x => inB x 0 (e - 1)) = true ∧ (l.take (k + 1)).Nodup) := Lib.hid ⟨HNEXT.out (inB_yes (by omega) (by omega)), HND.out (fun h3 => by
                have h4 : hasI (l.take k) n = true := by simpa [hasI] using h3
                rw [← HH.out] at h4; cases h4)⟩
              go_wp2
              go_roundw
              case rel => exact ⟨k + 1, by omega, by go_num, HN, HX2.out⟩
              case measure => simp [intOf]; omega
      · obtain rfl : k = l.length := by omega
        have HF : Hid ((allIn l 0 (e - 1) && decide l.Nodup) = true) := Lib.hid (by
          have h := hA.out
          rw [List.take_length] at h
          unfold allIn
          rw [h.1, decide_eq_true h.2]; rfl)
        go_wp2
        go_ret
        exact ⟨by rw [HF.out]; rfl, hx⟩
  · have hU : unlikeB l many e = false := by simp [unlikeB, hm]
    have e0 : ((l.length : Int) != many) = true := by simp [hm]
    rw [hU]
    clear hU hm
    go_enter Try.func79, Try.ntmps79
    go_wp2
    go_ret
    exact ⟨rfl, Ext.refl _⟩

set_option maxHeartbeats 1000000 in
theorem arePointKeys_any (v : Value) (l : List Int) (many : Int) (w : World) (hv : Ints w v l) :
    Calls Try.prog 72 #[v, .int .i64 many] w (BoolExt (unlikeB l many 1000000) w) := by
  have HV := Lib.hid hv
  obtain ⟨av, cv, rfl, _, _, _⟩ := hv
  go_enter Try.func72, Try.ntmps72
  go_wp2_with fail
  refine (areUnlike_any _ l many 1000000 _ HV.out).mono ?_
  rintro e w1 ⟨rfl, x1⟩
  obtain ⟨b, hb⟩ : ∃ b, b = unlikeB l many 1000000 := ⟨_, rfl⟩
  have HBB := Lib.hid hb
  rw [← hb]
  clear hb
  go_wp2
  go_ret
  exact ⟨by rw [← HBB.out]; rfl, x1⟩
theorem keysB_eq (g : List (List Int)) (key : List Int) : keysB g key = (goodG g && unlikeB key g.length 1000000) := by
  unfold keysB unlikeB
  have : decide ((key.length : Int) = (g.length : Int)) = decide (key.length = g.length) := by rw [decide_eq_decide]; omega
  rw [this]
  rfl

end Go.Proofs.Ytnmnbeklofnonaa

namespace Go.Proofs.Ytnmnbeklofnonaa
open Go.RowKit Go.Shelf
set_option linter.unusedVariables false

theorem zeroCells_size (n : Nat) : (Builtin.zeroCells (Value.int .i64 0).cells n).size = n := by
  unfold Builtin.zeroCells
  simp [Value.cells]

theorem growI_none (n : Nat) (w : World) (hn : n ≤ 1048576) :
    Calls Try.prog 111 #[.slice none 0 0, .int .i64 n] w (NewInts [] w) := by
  by_cases h0 : n = 0
  · subst h0
    refine (Any8.slices_Grow_room Try.growI none 0 0 0 w (by omega) (by omega) (by omega) (by omega)).mono ?_
    rintro e w' ⟨rfl, rfl⟩
    exact ⟨_, rfl, fresh_nil _ _, Ext.refl _⟩
  · obtain ⟨i0, hi, hz0, hz1, hz2⟩ := info_parts Try.infoInt
    have h := Any8.slices_Grow_grow Try.growI i0 (.int .i64 0) hi hz0 (by omega) none 0 0 n [] w (by omega) (by omega) (by rw [hz2]; omega) (by omega) (by simp) (fun _ => rfl) (fun a ha => by cases ha)
    refine h.mono ?_
    rintro e w' ⟨rfl, rfl⟩
    have hge := grownCap_ge w (0 + n) 0 3
    have hle := grownCap_le_maxLen w (0 + n) 0 3 (by unfold maxLen; omega)
    refine ⟨_, rfl, ?_, (Ext.refl w).drew.alloc _⟩
    refine ⟨by simp, .inr ⟨w.heap.size, grownCap w (0 + n) 0 3, _, rfl, Nat.le_refl _, heap_alloc_new w.drew _, by simp, hle, ?_, by simp⟩⟩
    rw [Array.size_append, Array.size_append, zeroCells_size, zeroCells_size]
    have : (0 + n) - 0 = n := by omega
    simp
    have h2 := grownCap_ge w n 0 (Try.growI_ren.t 25)
    have h3 : grownCap w n 0 (Try.growI_ren.t 25) = grownCap w n 0 3 := rfl
    omega

theorem flat_sum (L : List (List Int)) : L.flatten.length = (L.map List.length).sum := List.length_flatten
theorem flat_take (L : List (List Int)) (t : Nat) : ((L.take t).flatten).length = sumTo L t := by rw [flat_sum]; rfl

set_option maxHeartbeats 4000000 in
theorem concat_any (v : Value) (L : List (List Int)) (w : World) (hv : Intss w v L) (hb : (L.map List.length).sum ≤ 1048576) :
    Calls Try.prog 73 #[v] w (NewInts L.flatten w) := by
  have HV := Lib.hid hv
  obtain ⟨av, cv, rfl, hlv, _, dv⟩ := hv
  unfold maxLen at hlv
  have DV := Lib.hid dv
  have HB := Lib.hid hb
  clear dv hb
  go_enter Try.func73, Try.ntmps73
  go_wp2
  go_loopw [3, 5, 11] (fun s _ i wr => ∃ t : Nat, t ≤ L.length ∧ i = .int .i64 t ∧ s = .int .i64 (sumTo L t) ∧ Ext w wr) (fun _ _ i _ => L.length - (intOf i).toNat)
  case atStart => exact ⟨0, Nat.zero_le _, rfl, by simp [sumTo], Ext.refl _⟩
  case round =>
    obtain ⟨t, ht, rfl, rfl, hx⟩ := hrel
    obtain ⟨w1, hw1⟩ : ∃ x : World, x = wr := ⟨_, rfl⟩
    subst hw1
    by_cases hlt : t < L.length
    · obtain ⟨bv, ov, rfl, ev⟩ := DV.out (by omega)
      obtain ⟨z, hz, iz⟩ := ev t hlt
      rw [List.getElem?_eq_getElem hlt, Option.getD_some] at iz
      have z1 := hx.cell hz
      have hss := sumTo_succ hlt
      have hm := sumTo_mono (L := L) (k := t + 1) (by omega)
      have hbb := HB.out
      obtain ⟨az, cz, rfl, hlz, _, _⟩ := iz
      unfold maxLen at hlz
      obtain ⟨m, hmm⟩ : ∃ m, m = (L[t]).length := ⟨_, rfl⟩
      rw [← hmm] at z1 hss hlz
      obtain ⟨s, hs⟩ : ∃ s, s = sumTo L t := ⟨_, rfl⟩
      rw [← hs] at hss ⊢
      have hsm : s + m ≤ 1048576 := by omega
      have HSS := Lib.hid hss
      have j0 : ¬ ((s : Int) + (m : Int) < 0) := by omega
      clear ev hz hss hm hbb hmm hs
      go_wp2
      go_roundw
      case rel => exact ⟨t + 1, by omega, by go_num, by rw [HSS.out]; go_num, hx⟩
      case measure => simp [intOf]; omega
    · obtain rfl : t = L.length := by omega
      have hsn : sumTo L L.length ≤ 1048576 := by rw [sumTo_all]; exact HB.out
      obtain ⟨s, hs⟩ : ∃ s, s = sumTo L L.length := ⟨_, rfl⟩
      rw [← hs] at hsn ⊢
      have HX := Lib.hid hx
      clear hs hx
      go_wp2_with fail
      refine (growI_none s _ hsn).mono ?_
      rintro e w2 ⟨v2, rfl, f2, x2⟩
      have F2 := Lib.hid f2
      have X2 := Lib.hid (HX.out.trans x2)
      have S2 := Lib.hid x2.size
      clear f2 x2
      go_wp2
      go_loopw [6, 8, 27] (fun vo _ i wr => ∃ t : Nat, t ≤ L.length ∧ i = .int .i64 t ∧ Fresh w.heap.size wr vo ((L.take t).flatten) ∧ Ext w wr) (fun _ _ i _ => L.length - (intOf i).toNat)
      case atStart => exact ⟨0, Nat.zero_le _, rfl, by simpa using F2.out.more HX.out.size, X2.out⟩
      case round =>
        obtain ⟨t, ht, rfl, hf, hx⟩ := hrel
        by_cases hlt2 : t < L.length
        · obtain ⟨bv, ov, rfl, ev⟩ := DV.out (by omega)
          obtain ⟨z, hz, iz⟩ := ev t hlt2
          rw [List.getElem?_eq_getElem hlt2, Option.getD_some] at iz
          have z1 := hx.cell hz
          have hst : (L.take (t + 1)).flatten = (L.take t).flatten ++ L[t] := by
            rw [List.take_add_one, List.getElem?_eq_getElem hlt2, List.flatten_append]
            simp
          have hbd : ((L.take t).flatten).length + (L[t]).length ≤ 1099511627776 := by
            have h1 := flat_take L t
            have h2 := sumTo_succ hlt2
            have h3 := sumTo_mono (L := L) (k := t + 1) (by omega)
            have := HB.out
            omega
          obtain ⟨G, hG⟩ : ∃ G, G = L[t] := ⟨_, rfl⟩
          rw [← hG] at iz hst hbd
          have IZ := Lib.hid (iz.ext hx)
          have HST := Lib.hid hst
          have HBD := Lib.hid hbd
          have HF := Lib.hid hf
          have HXX := Lib.hid hx
          clear ev hz iz hst hbd hG hf hx
          go_wp2_with (at_builtin; refine wpList_join rfl _ _ rfl w.heap.size _ _ ((L.take t).flatten) G rfl HF.out rfl IZ.out HBD.out HXX.out.size ?_)
          intro v4 w4 f4 g4 k4
          have e4 : Ext w w4 := k4 w HXX.out (Nat.le_refl _)
          rw [← HST.out] at f4
          have F4 := Lib.hid f4
          have E4 := Lib.hid e4
          clear f4 g4 k4 e4
          go_wp2
          go_roundw
          case rel => exact ⟨t + 1, by omega, by go_num, F4.out, E4.out⟩
          case measure => simp [intOf]; omega
        · obtain rfl : t = L.length := by omega
          rw [List.take_length] at hf
          have HF := Lib.hid hf
          clear hf
          go_wp2
          go_ret
          exact ⟨_, rfl, HF.out, hx⟩

end Go.Proofs.Ytnmnbeklofnonaa

namespace Go.Proofs.Ytnmnbeklofnonaa
open Go.RowKit
set_option linter.unusedVariables false

theorem orderL_flat (g : List (List Int)) (key : List Int) : orderL g key = (byKeyS g key).flatten := by
  unfold orderL byKeyS
  rw [List.flatMap_def]
theorem byKeyS_sum {g : List (List Int)} (hl : g.length ≤ 40) (key : List Int) : ((byKeyS g key).map List.length).sum ≤ 1600 := by
  rw [← List.length_flatten, ← orderL_flat]
  obtain ⟨h1, h2⟩ := compsL_size hl
  have h3 := flat_len 40 h2 (byKeyL (keyAt key)) (byKeyL_len _)
  have h4 : (compsL g).length * 40 ≤ 40 * 40 := Nat.mul_le_mul_right _ h1
  unfold orderL
  omega

set_option maxHeartbeats 4000000 in
theorem implOrder_any (v u : Value) (g : List (List Int)) (key : List Int) (w : World) (hv : Intss w v g) (hu : Ints w u key) :
    Calls Try.prog 37 #[v, u] w (TwoInts (orderA g key) (keysB g key) w) := by
  have HV := Lib.hid hv
  have HU := Lib.hid hu
  obtain ⟨av, cv, rfl, hlv, _, _⟩ := hv
  obtain ⟨au, cu, rfl, hlu, _, _⟩ := hu
  unfold maxLen at hlv hlu
  have hkq := keysB_eq g key
  cases hg : goodG g with
  | false =>
    have hk : keysB g key = false := by rw [hkq, hg]; rfl
    have hc : orderA g key = [] := by unfold orderA; rw [hk]; rfl
    rw [hc, hk]
    have HG := Lib.hid hg
    clear hg hc hk hkq
    go_enter Try.func37, Try.ntmps37
    go_wp2_with fail
    refine (implGoodGraph_any _ _ _ HV.out).mono ?_
    rintro e w1 ⟨rfl, x1⟩
    rw [HG.out]
    go_wp2
    go_ret2
    exact ⟨_, rfl, fresh_nil _ _, x1⟩
  | true =>
    rw [hg, Bool.true_and] at hkq
    cases hk : keysB g key with
    | false =>
      have hc : orderA g key = [] := by unfold orderA; rw [hk]; rfl
      rw [hc]
      have HK := Lib.hid (hkq.symm.trans hk)
      have HG := Lib.hid hg
      clear hg hc hk hkq
      go_enter Try.func37, Try.ntmps37
      go_wp2_with fail
      refine (implGoodGraph_any _ _ _ HV.out).mono ?_
      rintro e w1 ⟨rfl, x1⟩
      have X1 := Lib.hid x1
      rw [HG.out]
      clear x1
      go_wp2_with fail
      refine (arePointKeys_any _ key g.length _ (HU.out.ext X1.out)).mono ?_
      rintro e w2 ⟨rfl, x2⟩
      have X2 := Lib.hid (X1.out.trans x2)
      rw [HK.out]
      clear x2
      go_wp2
      go_ret2
      exact ⟨_, rfl, fresh_nil _ _, X2.out⟩
    | true =>
      have hc : orderA g key = (byKeyS g key).flatten := by unfold orderA; rw [hk, if_pos rfl, orderL_flat]
      rw [hc]
      obtain ⟨_, hl⟩ := goodG_of hg
      have hsum := byKeyS_sum hl key
      have hby := fun W (h : Ext w W) => groupsByKey_any _ _ g key W (HV.out.ext h) (HU.out.ext h) hk
      obtain ⟨D, hD⟩ : ∃ D, D = byKeyS g key := ⟨_, rfl⟩
      rw [← hD] at hsum hby ⊢
      have HBY := Lib.hid hby
      have HSUM := Lib.hid hsum
      have HK := Lib.hid (hkq.symm.trans hk)
      have HG := Lib.hid hg
      clear hg hc hk hkq hl hsum hby hD
      go_enter Try.func37, Try.ntmps37
      go_wp2_with fail
      refine (implGoodGraph_any _ _ _ HV.out).mono ?_
      rintro e w1 ⟨rfl, x1⟩
      have X1 := Lib.hid x1
      rw [HG.out]
      clear x1
      go_wp2_with fail
      refine (arePointKeys_any _ key g.length _ (HU.out.ext X1.out)).mono ?_
      rintro e w2 ⟨rfl, x2⟩
      have X2 := Lib.hid (X1.out.trans x2)
      rw [HK.out]
      clear x2
      go_wp2_with fail
      refine (HBY.out _ X2.out).mono ?_
      rintro e w3 ⟨v3, rfl, f3, x3⟩
      have F3 := Lib.hid f3.intss
      have X3 := Lib.hid (X2.out.trans x3)
      clear f3 x3
      go_wp2_with fail
      refine (concat_any _ D _ F3.out (by have := HSUM.out; omega)).mono ?_
      rintro e w4 ⟨v4, rfl, f4, x4⟩
      have F4 := Lib.hid (f4.more X3.out.size)
      have X4 := Lib.hid (X3.out.trans x4)
      clear f4 x4
      go_wp2
      go_ret2
      exact ⟨_, rfl, F4.out, X4.out⟩

end Go.Proofs.Ytnmnbeklofnonaa

namespace Go.Proofs.Ytnmnbeklofnonaa
open Go.RowKit
set_option linter.unusedVariables false

/-- The blocks from lo on, below hi, are as they were. -/
def Stood (lo hi : Nat) (w w' : World) : Prop := w.heap.size ≤ w'.heap.size ∧ ∀ b, lo ≤ b → b < hi → w'.heap[b]? = w.heap[b]?
theorem Stood.refl (lo hi : Nat) (w : World) : Stood lo hi w w := ⟨Nat.le_refl _, fun _ _ _ => rfl⟩
theorem Stood.trans {lo hi : Nat} {a b c : World} (h : Stood lo hi a b) (k : Stood lo hi b c) : Stood lo hi a c :=
  ⟨Nat.le_trans h.1 k.1, fun x h1 h2 => (k.2 x h1 h2).trans (h.2 x h1 h2)⟩
theorem Stood.of_ext {lo hi : Nat} {w w' : World} (h : Ext w w') (hb : hi ≤ w.heap.size) : Stood lo hi w w' := ⟨h.size, fun b _ h2 => Below.block h b (by omega)⟩
theorem Stood.row {lo hi B e sz n : Nat} {w w' : World} {v : Value} {xs : List Value} (h : w.ownsRow B e sz v n xs) (k : Stood lo hi w w') (hb : ∀ b, v.ownBlock = some b → lo ≤ b ∧ b < hi) : w'.ownsRow B e sz v n xs := by
  refine ⟨h.1, ?_⟩
  rcases h.2 with hn | ⟨g, cap, cur, rfl, hbg, hgg, rest⟩
  · exact .inl hn
  · refine .inr ⟨g, cap, cur, rfl, hbg, ?_, rest⟩
    have := hb g rfl
    rw [k.2 g this.1 this.2]; exact hgg

/-- v lies below hi. -/
def Und (hi : Nat) (v : Value) : Prop := ∀ b, v.ownBlock = some b → b < hi
theorem Und.more {hi hi' : Nat} {v : Value} (h : Und hi v) (k : hi ≤ hi') : Und hi' v := fun b hb => Nat.lt_of_lt_of_le (h b hb) k
theorem Fresh.und {B : Nat} {w : World} {v : Value} {l : List Int} (h : Fresh B w v l) : Und w.heap.size v := fun b hb => (World.ownsRow.lt h b hb).2
/-- Nothing has turned but blocks from lo on, below hi; there may be new ones. -/
structure Ins (lo hi : Nat) (w w' : World) : Prop where
  os : w'.os = w.os
  tape : w'.tape = w.tape
  output : w'.output = w.output
  size : w.heap.size ≤ w'.heap.size
  block : ∀ b, b < w.heap.size → (b < lo ∨ hi ≤ b) → w'.heap[b]? = w.heap[b]?
theorem Ins.refl (lo hi : Nat) (w : World) : Ins lo hi w w := ⟨rfl, rfl, rfl, Nat.le_refl _, fun _ _ _ => rfl⟩
theorem Ins.trans {lo hi : Nat} {a b c : World} (h : Ins lo hi a b) (k : Ins lo hi b c) : Ins lo hi a c :=
  ⟨k.os.trans h.os, k.tape.trans h.tape, k.output.trans h.output, Nat.le_trans h.size k.size, fun x hx hy => (k.block x (Nat.lt_of_lt_of_le hx h.size) hy).trans (h.block x hx hy)⟩
theorem Ins.more {lo hi lo' hi' : Nat} {w w' : World} (h : Ins lo hi w w') (h1 : lo' ≤ lo) (h2 : hi ≤ hi') : Ins lo' hi' w w' :=
  ⟨h.os, h.tape, h.output, h.size, fun b hb hc => h.block b hb (by omega)⟩
theorem Ins.of_grown {lo hi : Nat} {w w' : World} {row : Option Nat} (h : w.grownBy w' row) (hr : ∀ g, row = some g → lo ≤ g ∧ g < hi) : Ins lo hi w w' :=
  ⟨h.os, h.tape, h.output, h.size, fun b hb hc => h.block b hb (fun e => by have := hr b e.symm; omega)⟩
theorem Ins.of_ext {lo hi : Nat} {w w' : World} (h : Ext w w') : Ins lo hi w w' :=
  ⟨h.os, h.tape, h.output, h.size, fun b hb _ => Below.block h b hb⟩
theorem Ins.stood {lo hi a b : Nat} {w w' : World} (h : Ins lo hi w w') (hb : b ≤ w.heap.size) (hab : b ≤ lo ∨ hi ≤ a) : Stood a b w w' :=
  ⟨h.size, fun x h1 h2 => h.block x (by omega) (by omega)⟩
theorem Ins.ext {lo hi : Nat} {w0 w w' : World} (h : Ins lo hi w w') (e : Ext w0 w) (hb : w0.heap.size ≤ lo) : Ext w0 w' :=
  ⟨h.os.trans e.os, h.tape.trans e.tape, h.output.trans e.output, Nat.le_trans e.size h.size, fun k hk => (h.block k (Nat.lt_of_lt_of_le hk e.size) (.inl (by omega))).trans (Below.block e k hk)⟩
theorem Ins.row {lo hi B e sz n : Nat} {w w' : World} {v : Value} {xs : List Value} (h : Ins lo hi w w') (f : w.ownsRow B e sz v n xs) (hv : ∀ b, v.ownBlock = some b → b < lo ∨ hi ≤ b) : w'.ownsRow B e sz v n xs := by
  refine ⟨f.1, ?_⟩
  rcases f.2 with hn | ⟨g, cap, cur, rfl, hbg, hgg, rest⟩
  · exact .inl hn
  · refine .inr ⟨g, cap, cur, rfl, hbg, ?_, rest⟩
    rw [h.block g (Array.getElem?_eq_some_iff.1 hgg).1 (hv g rfl)]; exact hgg
theorem Ins.cell {lo hi : Nat} {w w' : World} {a : Addr} {v : Value} (h : Ins lo hi w w') (hc : w.cell? a = some v) (ha : a.block < lo ∨ hi ≤ a.block) : w'.cell? a = some v :=
  (World.cell?_of_block (h.block a.block (World.block_lt_of_cell? w a hc) ha)).trans hc

/-- A list that was made in a time when no block from hi on was there, or later than all below hi, outlives marks between lo and hi. -/
theorem Fresh.ins_low {lo hi B : Nat} {w0 w w' : World} {v : Value} {l : List Int} (f0 : Fresh B w0 v l) (h : Fresh B w v l) (k : Ins lo hi w w') (hb : w0.heap.size ≤ lo) : Fresh B w' v l :=
  k.row h (fun b e => .inl (Nat.lt_of_lt_of_le (World.ownsRow.lt f0 b e).2 hb))
theorem Fresh.ins_high {lo hi B : Nat} {w w' : World} {v : Value} {l : List Int} (h : Fresh B w v l) (k : Ins lo hi w w') (hb : hi ≤ B) : Fresh B w' v l :=
  k.row h (fun b e => .inr (Nat.le_trans hb (World.ownsRow.lt h b e).1))
theorem Ints.ins {lo hi : Nat} {w0 w w' : World} {v : Value} {l : List Int} (h0 : Ints w0 v l) (x : Ext w0 w) (k : Ins lo hi w w') (hb : w0.heap.size ≤ lo) : Ints w' v l := h0.ext (k.ext x hb)

end Go.Proofs.Ytnmnbeklofnonaa

namespace Go.Proofs.Ytnmnbeklofnonaa
open Go.RowKit
set_option linter.unusedVariables false

/-- As FreshSS, all blocks from lo on, below hi. -/
def SSR (lo hi : Nat) (w : World) (v : Value) (L : List (List Int)) : Prop :=
  ∃ vs, w.ownsRow lo 27 1 v L.length vs ∧ Rows_ lo w vs L ∧ (∀ (j : Nat) (u : Value), vs[j]? = some u → u.ownBlock = none ∨ u.ownBlock ≠ v.ownBlock) ∧ Und hi v ∧ ∀ (j : Nat) (u : Value), vs[j]? = some u → Und hi u
theorem FreshSS.range {B h : Nat} {w : World} {v : Value} {L : List (List Int)} (f : FreshSS B w v L) (hb : w.heap.size ≤ h) : SSR B h w v L := by
  obtain ⟨vs, h1, h2, h3⟩ := f
  refine ⟨vs, h1, h2, h3, fun b e => Nat.lt_of_lt_of_le (World.ownsRow.lt h1 b e).2 hb, fun j u hu => ?_⟩
  have hj : j < vs.length := (List.getElem?_eq_some_iff.1 hu).1
  exact (h2.row j u _ hu (List.getElem?_eq_getElem (by rw [← h2.len]; exact hj))).und.more hb
theorem SSR.ext {lo hi : Nat} {w w' : World} {v : Value} {L : List (List Int)} (f : SSR lo hi w v L) (e : Ext w w') : SSR lo hi w' v L := by
  obtain ⟨vs, h1, h2, h3, h4, h5⟩ := f
  exact ⟨vs, e.ownsRow h1, h2.ext e, h3, h4, h5⟩
theorem SSR.intss {lo hi : Nat} {w : World} {v : Value} {L : List (List Int)} (f : SSR lo hi w v L) : Intss w v L := by
  obtain ⟨vs, h1, h2, h3, _⟩ := f
  exact FreshSS.intss ⟨vs, h1, h2, h3⟩

set_option maxHeartbeats 800000 in
theorem markIntSS_ins (B hi : Nat) (v : Value) (L : List (List Int)) (k : Int) (w : World) (hv : SSR B hi w v L) (h0 : 0 ≤ k) (hk : k ≤ 1048576) (h1 : bulk L ≤ 1099511627776) :
    Calls Try.prog 28 #[v, .int .i64 k] w (fun e w' => e = .returned (.int .i64 (k + (L.map List.length).sum)) ∧ Ins B hi w w') := by
  obtain ⟨vs, ho, hR, hout, hU, hUs⟩ := hv
  have hvl := hR.len
  have hL : L.length ≤ 1099511627776 := by unfold bulk at h1; omega
  have hsum : (L.map List.length).sum ≤ 1099511627776 := by unfold bulk at h1; omega
  rcases ho.2 with ⟨rfl, hn⟩ | ⟨g, cap, cur, rfl, hb, hg, hnc, hcm, hcs, htake⟩
  · obtain rfl : L = [] := List.eq_nil_of_length_eq_zero hn
    clear h1 hsum
    go_enter Try.func28, Try.ntmps28
    go_wp2
    refine wp_loop_rounds 1 ?_; rw [rounds_succ]
    go_wp2
    go_ret
    exact ⟨by simp, Ins.refl _ _ _⟩
  · have hout' : ∀ (j : Nat) (u : Value), vs[j]? = some u → u.ownBlock = none ∨ u.ownBlock ≠ some g := hout
    have HOUT := Lib.hid hout'
    have H1 := Lib.hid h1
    have HVL := Lib.hid hvl
    have HSUM := Lib.hid hsum
    have HUS := Lib.hid hUs
    clear hg hnc hcm hcs htake cur hb hout hout' h1 hvl hsum hU hUs
    go_enter Try.func28, Try.ntmps28
    go_wp2
    go_loopw [1, 5] (fun m i wr => ∃ (j : Nat) (r : Int), j ≤ L.length ∧ i = .int .i64 j ∧ m = .int .i64 r ∧ Hid (r = k + sumTo L j) ∧ wr.ownsRow B 27 1 (.slice (some ⟨g, 0, none⟩) L.length cap) L.length vs ∧ Rows_ B wr vs (markedSS k L j) ∧ Ins B hi w wr) (fun _ i _ => L.length - (intOf i).toNat)
    case atStart => exact ⟨0, k, Nat.zero_le _, rfl, rfl, Lib.hid (by simp [sumTo]), ho, by rw [markedSS_zero]; exact hR, Ins.refl _ _ _⟩
    case round =>
      clear ho hR
      obtain ⟨j, r, hj, rfl, rfl, hr, ho, hR, hx⟩ := hrel
      by_cases hlt : j < L.length
      · obtain ⟨z, hz⟩ : ∃ z, vs[j]? = some z := ⟨_, List.getElem?_eq_getElem (by rw [HVL.out]; exact hlt)⟩
        have hc := (ho.cellAt j (by omega)).trans hz
        have hf := hR.row j z _ hz (markedSS_old hlt (Nat.le_refl _))
        have hrow : (L[j]).length ≤ 1099511627776 := by have := bulk_row hlt; have := H1.out; omega
        have hr0 : 0 ≤ r := by have := hr.out; omega
        have hr1 : r ≤ 2199024304128 := by have h := hr.out; have := sumTo_mono (L := L) (k := j) hj; have := HSUM.out; omega
        have HO := Lib.hid ho
        have HR := Lib.hid hR
        have HZ := Lib.hid hz
        have HX := Lib.hid hx
        have HFF := Lib.hid hf
        clear ho hR hz hx hf
        go_wp2_with fail
        refine (markIntS_any B _ _ _ _ HFF.out hr0 (by omega)).mono ?_
        rintro e w2 ⟨rfl, f2, t2⟩
        have hR2 := HR.out.mark HZ.out t2 (by
          have e := hr.out
          rw [e] at f2
          exact f2)
        rw [markedSS_succ hlt] at hR2
        have ho2 := World.ownsRow.kept HO.out t2 (by
          rcases HOUT.out j z HZ.out with h | h
          · exact .inr (by rw [h]; simp [Value.ownBlock])
          · exact .inr (fun e => h e.symm))
        have hx2 : Ins B hi w w2 := HX.out.trans (Ins.of_grown t2 (fun q hq => ⟨(World.ownsRow.lt HFF.out q hq).1, HUS.out j z HZ.out q hq⟩))
        have hs := sumTo_succ hlt
        have HS := Lib.hid hs
        clear f2 t2 hc hs
        go_wp2
        go_roundw
        case rel => exact ⟨j + 1, r + (L[j]).length, by omega, by go_num, rfl, Lib.hid (by have := hr.out; have := HS.out; omega), ho2, hR2, hx2⟩
        case measure => simp [intOf]; omega
      · obtain rfl : j = L.length := by omega
        have HO := Lib.hid ho
        have HR := Lib.hid hR
        clear ho hR
        go_wp2
        go_ret
        refine ⟨?_, hx⟩
        have h := hr.out
        rw [sumTo_all] at h
        rw [h]; rfl

end Go.Proofs.Ytnmnbeklofnonaa

namespace Go.Proofs.Ytnmnbeklofnonaa
open Go.RowKit
set_option linter.unusedVariables false

/-- What is left, -1 where there is not enough. -/
def lessened (left : Int) (n : Nat) : Int := if left < n then -1 else left - n
theorem lessened_no {left : Int} {n : Nat} (h : left < n) : lessened left n = -1 := by unfold lessened; rw [if_pos h]
theorem lessened_yes {left : Int} {n : Nat} (h : (n : Int) ≤ left) : lessened left n = left - n := by unfold lessened; rw [if_neg (by omega)]

set_option maxHeartbeats 400000 in
theorem szIntS_any (v : Value) (l : List Int) (left : Int) (w : World) (hv : Ints w v l) (h0 : 0 ≤ left) (h1 : left ≤ 1099511627776) :
    Calls Try.prog 62 #[v, .int .i64 left] w fun e w' => e = .returned (.int .i64 (lessened left l.length)) ∧ w = w' := by
  obtain ⟨av, cv, rfl, hlv, _, hcv⟩ := hv
  unfold maxLen at hlv
  by_cases hlt : left < l.length
  · rw [lessened_no hlt]
    go_enter Try.func62, Try.ntmps62
    go_wp2
    go_ret
    exact ⟨rfl, rfl⟩
  · rw [lessened_yes (by omega)]
    go_enter Try.func62, Try.ntmps62
    go_wp2
    go_ret
    exact ⟨rfl, rfl⟩

set_option maxHeartbeats 800000 in
theorem szIntSS_any (v : Value) (L : List (List Int)) (left : Int) (w : World) (hv : Intss w v L) (h0 : 0 ≤ left) (h1 : left ≤ 1099511627776) :
    Calls Try.prog 21 #[v, .int .i64 left] w (IntExt (lessened left (bulk L)) w) := by
  obtain ⟨av, cv, rfl, hlv, _, hcv⟩ := hv
  unfold maxLen at hlv
  have hb : bulk L = L.length + (L.map List.length).sum := rfl
  by_cases hlt : left < L.length
  · rw [lessened_no (by omega)]
    clear hb hcv
    go_enter Try.func21, Try.ntmps21
    go_wp2
    go_ret
    exact ⟨rfl, Ext.refl _⟩
  · have HBK := Lib.hid hb
    have hle : (L.length : Int) ≤ left := by omega
    clear hb hlt
    go_enter Try.func21, Try.ntmps21
    go_wp2
    go_loopw [1, 5] (fun m i wr => ∃ (k : Nat) (r : Int), k ≤ L.length ∧ i = .int .i64 k ∧ m = .int .i64 r ∧ 0 ≤ r ∧ Hid (r = left - L.length - sumTo L k) ∧ wr = w) (fun _ i _ => L.length - (intOf i).toNat)
    case atStart => exact ⟨0, left - L.length, Nat.zero_le _, rfl, rfl, by omega, Lib.hid (by simp [sumTo]), rfl⟩
    case round =>
      obtain ⟨k, r, hk, rfl, rfl, hr0, hr, rfl⟩ := hrel
      have hr1 : r ≤ 1099511627776 := by have := hr.out; omega
      by_cases hk' : k < L.length
      · obtain ⟨bv, ov, rfl, dv⟩ := hcv (by omega)
        obtain ⟨x, hx1, ix⟩ := dv k hk'
        rw [List.getElem?_eq_getElem hk', Option.getD_some] at ix
        have hs := sumTo_succ hk'
        have hm := sumTo_mono (L := L) (k := k + 1) (by omega)
        have HS := Lib.hid (And.intro hs hm)
        clear hcv dv hs hm
        go_wp2_with fail
        refine (szIntS_any _ _ _ _ ix hr0 hr1).mono ?_
        rintro e w' ⟨rfl, rfl⟩
        by_cases hc : r < (L[k]).length
        · rw [lessened_no hc]
          go_wp2
          go_ret
          refine ⟨?_, Ext.refl _⟩
          have h1 := hr.out
          have h2 := HS.out
          have h3 := HBK.out
          rw [lessened_no (by omega)]
          rfl
        · rw [lessened_yes (by omega)]
          skip
          have hr2 : 0 ≤ r - (L[k]).length := by omega
          go_wp2
          go_roundw
          case rel => exact ⟨k + 1, r - (L[k]).length, by omega, by go_num, rfl, hr2, Lib.hid (by have h1 := hr.out; have h2 := HS.out.1; omega), by trivial⟩
          case measure => simp [intOf]; omega
      · obtain rfl : k = L.length := by omega
        go_wp2
        go_ret
        refine ⟨?_, Ext.refl _⟩
        have h1 := hr.out
        have h3 := HBK.out
        rw [sumTo_all] at h1
        have he : lessened left (bulk L) = r := by rw [lessened_yes (by omega)]; omega
        rw [he]; rfl

theorem set_next (vs : List Value) (z n : Value) (k m : Nat) (hk : vs.length = k) (hm : k < m) : (vs ++ List.replicate (m - k) n).set k z = (vs ++ [z]) ++ List.replicate (m - (k + 1)) n := by
  rw [List.set_append_right _ _ (by omega), hk, Nat.sub_self]
  have e : m - k = (m - (k + 1)) + 1 := by omega
  rw [e, List.replicate_succ, List.set_cons_zero]
  simp

set_option maxHeartbeats 800000 in
theorem toIntSS_any (u : Value) (L : List (List Int)) (w : World) (hu : Intss w u L) (hs : bulk L ≤ 1099511627776) :
    Calls Try.prog 23 #[u] w (NewIntss L w) := by
  obtain ⟨au, cu, rfl, hlu, _, hcu⟩ := hu
  unfold maxLen at hlu
  have hL : L.length ≤ 1099511627776 := by unfold bulk at hs; omega
  obtain ⟨i0, hi, hz0, hz1, hz2⟩ := info_parts Try.infoInts
  have HS := Lib.hid hs
  clear hs
  go_enter Try.func23, Try.ntmps23
  go_wp2_with (at_make; refine wpList_make_full _ rfl _ _ 50 rfl w.heap.size 27 i0 (.slice none 0 0) 1 Try.underlying50 hi hz0 hz1 _ _ _ _ L.length rfl rfl rfl rfl ?c1 ?c2 ?c3 ?_)
  case c1 => rw [hz2]; omega
  case c2 => unfold maxLen; omega
  case c3 => simp
  intro w1 ho1 hg1
  have hx1 : Ext w w1 := ext_of_grown hg1
  have ho : w1.ownsRow w.heap.size 27 1 (.slice (some ⟨w.heap.size, 0, none⟩) L.length L.length) L.length (([] : List Value) ++ List.replicate (L.length - 0) (.slice none 0 0)) := by
    rw [toList_madeCells_one] at ho1
    simpa using ho1
  have hsz : w.heap.size < w1.heap.size := by
    rcases ho1.2 with ⟨h, _⟩ | ⟨g, cap, cur, h, hb, hg, _⟩
    · cases h
    · simp only [Value.slice.injEq, Option.some.injEq, Addr.mk.injEq, and_true, true_and] at h
      obtain ⟨rfl, _⟩ := h
      exact (Array.getElem?_eq_some_iff.1 hg).1
  clear ho1 hg1 hz0 hz1 hz2 hi
  go_wp2
  go_loopw [4] (fun i wr => ∃ (k : Nat) (vs : List Value), k ≤ L.length ∧ i = .int .i64 k ∧ wr.ownsRow w.heap.size 27 1 (.slice (some ⟨w.heap.size, 0, none⟩) L.length L.length) L.length (vs ++ List.replicate (L.length - k) (.slice none 0 0)) ∧ Rows_ (w.heap.size + 1) wr vs (L.take k) ∧ w.heap.size < wr.heap.size ∧ Ext w wr) (fun i _ => L.length - (intOf i).toNat)
  case atStart => exact ⟨0, [], Nat.zero_le _, rfl, ho, by simpa using Rows_.nil _ _, hsz, hx1⟩
  case round =>
    clear ho hx1 hsz
    obtain ⟨k, vs, hk, rfl, ho, hR, hsz, hx⟩ := hrel
    have hvl : vs.length = k := by rw [hR.len]; simp; omega
    by_cases hlt : k < L.length
    · obtain ⟨bu, ou, rfl, du⟩ := hcu (by omega)
      obtain ⟨x, hx1, ix⟩ := du k hlt
      rw [List.getElem?_eq_getElem hlt, Option.getD_some] at ix
      have gu := hx.cell hx1
      have IX := Lib.hid (ix.ext hx)
      have hrow : (L[k]).length ≤ 35184372088831 := by have := bulk_row hlt; have := HS.out; omega
      have HO := Lib.hid ho
      have HR := Lib.hid hR
      have HV := Lib.hid hvl
      clear hcu du hx1 ix ho hR hvl
      go_wp2_with fail
      refine (toIntS_any _ _ _ IX.out hrow).mono ?_
      rintro e w2 ⟨z, rfl, f2, x2⟩
      have ho2 := x2.ownsRow HO.out
      have hlen2 : (vs ++ List.replicate (L.length - k) (Value.slice none 0 0)).length = L.length := by simp [HV.out]; omega
      have go := (ho2.cellAt k (by omega)).trans (show _ = some (Value.slice none 0 0) by
        rw [List.getElem?_append_right (by have := HV.out; omega)]
        rw [List.getElem?_replicate, if_pos (by have := HV.out; omega)])
      have gf := ho2.frozenAt k
      clear hlen2
      have hst := ho2.stored k z
      have HST := Lib.hid hst
      clear hst
      have F2 := Lib.hid f2
      obtain ⟨ax, cx, hz, _⟩ := f2.ints
      have hz' := Lib.hid hz
      clear ho2
      subst hz
      go_wp2
      go_roundw
      case rel =>
        have hst := HST.out
        rw [set_next vs _ _ k L.length HV.out hlt] at hst
        have hsn := HR.out.snoc x2 F2.out (by omega)
        have htk : L.take k ++ [L[k]] = L.take (k + 1) := by rw [List.take_add_one, List.getElem?_eq_getElem hlt]; rfl
        rw [htk] at hsn
        refine ⟨k + 1, _, by omega, by go_num, hst.1, hsn.touch hst.2 (hsn.low (by omega)), ?_, Below.setCell (hx.trans x2) (Nat.le_refl _) _⟩
        have := x2.size
        simp; omega
      case measure => simp [intOf]; omega
    · obtain rfl : k = L.length := by omega
      have HO := Lib.hid ho
      have HR := Lib.hid hR
      clear ho hR
      go_wp2
      go_ret
      refine ⟨_, rfl, ⟨vs, ?_, ?_, ?_⟩, hx⟩
      · have h := HO.out
        rw [Nat.sub_self] at h
        simpa using h
      · have h := HR.out
        rw [List.take_length] at h
        exact h.more (by omega)
      · exact HR.out.low (g := w.heap.size) (by omega)

end Go.Proofs.Ytnmnbeklofnonaa
