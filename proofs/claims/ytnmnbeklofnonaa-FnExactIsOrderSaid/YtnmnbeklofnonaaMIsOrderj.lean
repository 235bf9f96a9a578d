/- Texts of this proof, part j: words, plain facts, contracts. -/
import Derived.Test.YtnmnbeklofnonaaMIsOrdera
import Derived.Test.YtnmnbeklofnonaaMIsOrderi
import Derived.Deep.RegionHeld3
import Derived.Test.YtnmnbeklofnonaaMIsOrderd
import Derived.Test.YtnmnbeklofnonaaMIsOrdere
import Derived.Test.YtnmnbeklofnonaaMIsOrderf

namespace Go.Proofs.Ytnmnbeklofnonaa
open Go.RowKit
set_option linter.unusedVariables false

theorem eqss_succ {L R : List (List Int)} {k : Nat} (h1 : k < L.length) (h2 : k < R.length) (h : L.take k = R.take k) (he : L[k] = R[k]) : L.take (k + 1) = R.take (k + 1) := by
  rw [List.take_add_one, List.take_add_one, h, List.getElem?_eq_getElem h1, List.getElem?_eq_getElem h2, he]

set_option maxHeartbeats 400000 in
theorem eqIntSS_any (u v : Value) (L R : List (List Int)) (w : World) (hu : Intss w u L) (hv : Intss w v R) :
    Calls Try.prog 25 #[u, v] w (BoolExt (decide (L = R)) w) := by
  obtain ⟨au, cu, rfl, hlu, _, hcu⟩ := hu
  obtain ⟨av, cv, rfl, hlv, _, hcv⟩ := hv
  unfold maxLen at hlu hlv
  by_cases hl : L.length = R.length
  · have e0 : ((L.length : Int) != (R.length : Int)) = false := by simp [hl]
    have HL := Lib.hid hl
    clear hl
    go_enter Try.func25, Try.ntmps25
    go_wp2
    go_loopw [5] (fun i wr => ∃ k : Nat, k ≤ L.length ∧ i = .int .i64 k ∧ L.take k = R.take k ∧ Ext w wr) (fun i _ => L.length - (intOf i).toNat)
    case atStart => exact ⟨0, Nat.zero_le _, rfl, rfl, Ext.refl _⟩
    case round =>
      obtain ⟨k, hk, rfl, ht, hx⟩ := hrel
      have HT := Lib.hid ht
      clear ht
      by_cases hlt : k < L.length
      · have hltr : k < R.length := by have := HL.out; omega
        obtain ⟨bu, ou, rfl, du⟩ := hcu (by omega)
        obtain ⟨bv, ov, rfl, dv⟩ := hcv (by omega)
        obtain ⟨x, hx1, ix⟩ := du k hlt
        obtain ⟨y, hy1, iy⟩ := dv k hltr
        rw [List.getElem?_eq_getElem hlt] at ix
        rw [List.getElem?_eq_getElem hltr] at iy
        have gu := hx.cell hx1
        have gv := hx.cell hy1
        have IX := Lib.hid (ix.ext hx)
        have IY := Lib.hid (iy.ext hx)
        clear hcu hcv du dv hx1 hy1 ix iy
        go_wp2_with fail
        go_region_held3 (fun W => Ext wr W ∧ W.cell? ⟨bu, ou + k, none⟩ = some x ∧ W.cell? ⟨bv, ov + k, none⟩ = some y) (first | (exact step2 (by assumption) (by assumption)) | (exact ⟨Ext.drew (Ext.refl _), gu, gv⟩)) (first | (go_at_call 32; refine (eqIntS_any _ _ _ _ _ (IX.out.ext (Ext.drew (Ext.refl _))) (IY.out.ext (Ext.drew (Ext.refl _)))).mono ?_; rintro e W ⟨rfl, x9⟩))
        rename_i hH
        have hx2 : Ext w W := hx.trans hH.1
        clear hH x9 gu gv hx
        by_cases he : L[k] = R[k]
        · rw [decide_eq_true he]
          have HE := Lib.hid he
          clear he
          go_wp2
          go_roundw
          case rel => exact ⟨k + 1, by omega, by go_num, eqss_succ hlt hltr HT.out HE.out, hx2⟩
          case measure => simp [intOf]; omega
        · rw [decide_eq_false he]
          have HE := Lib.hid he
          clear he
          go_wp2
          go_ret
          refine ⟨?_, hx2⟩
          have hne : decide (L = R) = false := decide_eq_false (fun h => HE.out (by subst h; rfl))
          rw [hne]; rfl
      · have hk' : k = L.length := by omega
        subst hk'
        go_wp2
        go_ret
        refine ⟨?_, hx⟩
        have he : decide (L = R) = true := by
          have h := HT.out
          rw [List.take_length, HL.out, List.take_length] at h
          exact decide_eq_true h
        rw [he]; rfl
  · have e0 : ((L.length : Int) != (R.length : Int)) = true := by simp; omega
    have HL := Lib.hid hl
    clear hl
    go_enter Try.func25, Try.ntmps25
    go_wp2
    go_ret
    refine ⟨?_, Ext.refl w⟩
    have hne : decide (L = R) = false := decide_eq_false (fun h => HL.out (by rw [h]))
    rw [hne]; rfl

end Go.Proofs.Ytnmnbeklofnonaa

namespace Go.Proofs.Ytnmnbeklofnonaa
open Go.RowKit
set_option linter.unusedVariables false

/-- The first j lists bear marks, the others are as they were. -/
def markedSS (k : Int) (L : List (List Int)) (j : Nat) : List (List Int) := (List.range L.length).map fun i => if i < j then marks (k + sumTo L i) (L[i]?.getD []).length else L[i]?.getD []
theorem markedSS_length (k : Int) (L : List (List Int)) (j : Nat) : (markedSS k L j).length = L.length := by simp [markedSS]
theorem markedSS_zero (k : Int) (L : List (List Int)) : markedSS k L 0 = L := by
  apply List.ext_getElem
  · simp [markedSS]
  · intro i h1 h2
    simp [markedSS, List.getElem?_eq_getElem h2]
theorem markedSS_old {k : Int} {L : List (List Int)} {j i : Nat} (hi : i < L.length) (h : j ≤ i) : (markedSS k L j)[i]? = some L[i] := by
  simp [markedSS, hi, Nat.not_lt.2 h]
theorem markedSS_new {k : Int} {L : List (List Int)} {j i : Nat} (hi : i < L.length) (h : i < j) : (markedSS k L j)[i]? = some (marks (k + sumTo L i) (L[i]).length) := by
  simp [markedSS, hi, h]
theorem markedSS_succ {k : Int} {L : List (List Int)} {j : Nat} (h : j < L.length) : (markedSS k L j).set j (marks (k + sumTo L j) (L[j]).length) = markedSS k L (j + 1) := by
  apply List.ext_getElem?
  intro i
  rw [List.getElem?_set, markedSS_length]
  by_cases hi : i < L.length
  · by_cases e : j = i
    · subst e
      rw [if_pos rfl, if_pos h, markedSS_new h (by omega)]
    · rw [if_neg e]
      by_cases hij : i < j
      · rw [markedSS_new hi hij, markedSS_new hi (by omega)]
      · rw [markedSS_old hi (by omega), markedSS_old hi (by omega)]
  · rw [List.getElem?_eq_none (by rw [markedSS_length]; omega), List.getElem?_eq_none (by rw [markedSS_length]; omega)]
    split
    · omega
    · rfl

theorem Rows_.mark {B : Nat} {w w' : World} {vs : List Value} {L : List (List Int)} {j : Nat} {z : Value} {l : List Int} (h : Rows_ B w vs L) (hj : vs[j]? = some z) (t : w.grownBy w' z.ownBlock) (hz : Fresh B w' z l) : Rows_ B w' vs (L.set j l) := by
  have hjl : j < L.length := by rw [← h.len]; exact (List.getElem?_eq_some_iff.1 hj).1
  refine ⟨by simp [h.len], fun i u r hu hr => ?_, h.apart⟩
  rw [List.getElem?_set] at hr
  by_cases e : j = i
  · subst e
    rw [if_pos rfl, if_pos hjl] at hr
    rw [hj] at hu
    cases hu
    cases hr
    exact hz
  · rw [if_neg e] at hr
    exact World.ownsRow.kept (h.row i u r hu hr) t (h.apart i j u z (fun e' => e e'.symm) hu hj)

/-- What comes back of the marks: the number behind the last, and nothing below B has turned. -/
def MarksSS (B : Nat) (k : Int) (v : Value) (L : List (List Int)) (w : World) (e : Ending) (w' : World) : Prop :=
  e = .returned (.int .i64 (k + (L.map List.length).sum)) ∧ FreshSS B w' v (markedSS k L L.length) ∧ Below B w w'

set_option maxHeartbeats 800000 in
theorem markIntSS_any (B : Nat) (v : Value) (L : List (List Int)) (k : Int) (w : World) (hv : FreshSS B w v L) (hB : B ≤ w.heap.size) (h0 : 0 ≤ k) (hk : k ≤ 1048576) (h1 : bulk L ≤ 1099511627776) :
    Calls Try.prog 28 #[v, .int .i64 k] w (MarksSS B k v L w) := by
  obtain ⟨vs, ho, hR, hout⟩ := hv
  have hvl := hR.len
  have hL : L.length ≤ 1099511627776 := by unfold bulk at h1; omega
  have hsum : (L.map List.length).sum ≤ 1099511627776 := by unfold bulk at h1; omega
  rcases ho.2 with ⟨rfl, hn⟩ | ⟨g, cap, cur, rfl, hb, hg, hnc, hcm, hcs, htake⟩
  · obtain rfl : L = [] := List.eq_nil_of_length_eq_zero hn
    clear h1 hsum
    go_enter Try.func28, Try.ntmps28
    go_wp2
    refine wp_loop_rounds 1 ?_; rw [rounds_succ]
    go_wp2
    go_ret
    exact ⟨by simp, FreshSS.nil _ _, Below.refl _ _⟩
  · have hout' : ∀ (j : Nat) (u : Value), vs[j]? = some u → u.ownBlock = none ∨ u.ownBlock ≠ some g := hout
    have HOUT := Lib.hid hout'
    have H1 := Lib.hid h1
    have HVL := Lib.hid hvl
    have HSUM := Lib.hid hsum
    clear hg hnc hcm hcs htake cur hb hout hout' h1 hvl hsum
    go_enter Try.func28, Try.ntmps28
    go_wp2
    go_loopw [1, 5] (fun m i wr => ∃ (j : Nat) (r : Int), j ≤ L.length ∧ i = .int .i64 j ∧ m = .int .i64 r ∧ Hid (r = k + sumTo L j) ∧ wr.ownsRow B 27 1 (.slice (some ⟨g, 0, none⟩) L.length cap) L.length vs ∧ Rows_ B wr vs (markedSS k L j) ∧ Below B w wr) (fun _ i _ => L.length - (intOf i).toNat)
    case atStart => exact ⟨0, k, Nat.zero_le _, rfl, rfl, Lib.hid (by simp [sumTo]), ho, by rw [markedSS_zero]; exact hR, Below.refl _ _⟩
    case round =>
      clear ho hR
      obtain ⟨j, r, hj, rfl, rfl, hr, ho, hR, hx⟩ := hrel
      by_cases hlt : j < L.length
      · obtain ⟨z, hz⟩ : ∃ z, vs[j]? = some z := ⟨_, List.getElem?_eq_getElem (by rw [HVL.out]; exact hlt)⟩
        have hc := (ho.cellAt j (by omega)).trans hz
        have hf := hR.row j z _ hz (markedSS_old hlt (Nat.le_refl _))
        have hrow : (L[j]).length ≤ 1099511627776 := by have := bulk_row hlt; have := H1.out; omega
        have hr0 : 0 ≤ r := by have := hr.out; omega
        have hr1 : r ≤ 2199024304128 := by have h := hr.out; have := sumTo_mono (L := L) (k := j) hj; have := HSUM.out; omega
        have HO := Lib.hid ho
        have HR := Lib.hid hR
        have HZ := Lib.hid hz
        have HX := Lib.hid hx
        have HFF := Lib.hid hf
        clear ho hR hz hx hf
        go_wp2_with fail
        refine (markIntS_any B _ _ _ _ HFF.out hr0 (by omega)).mono ?_
        rintro e w2 ⟨rfl, f2, t2⟩
        have hR2 := HR.out.mark HZ.out t2 (by
          have e := hr.out
          rw [e] at f2
          exact f2)
        rw [markedSS_succ hlt] at hR2
        have ho2 := World.ownsRow.kept HO.out t2 (by
          rcases HOUT.out j z HZ.out with h | h
          · exact .inr (by rw [h]; simp [Value.ownBlock])
          · exact .inr (fun e => h e.symm))
        have hx2 : Below B w w2 := Below.grown HX.out t2 (Nat.le_trans hB HX.out.size) (fun q hq => (World.ownsRow.lt HFF.out q hq).1)
        have hs := sumTo_succ hlt
        have HS := Lib.hid hs
        clear f2 t2 hc hs
        go_wp2
        go_roundw
        case rel => exact ⟨j + 1, r + (L[j]).length, by omega, by go_num, rfl, Lib.hid (by have := hr.out; have := HS.out; omega), ho2, hR2, hx2⟩
        case measure => simp [intOf]; omega
      · obtain rfl : j = L.length := by omega
        have HO := Lib.hid ho
        have HR := Lib.hid hR
        clear ho hR
        go_wp2
        go_ret
        refine ⟨?_, ⟨vs, by rw [markedSS_length]; exact HO.out, HR.out, HOUT.out⟩, hx⟩
        have h := hr.out
        rw [sumTo_all] at h
        rw [h]; rfl

set_option maxHeartbeats 800000 in
/-- Where the marks lie, they are met. -/
theorem heldIntSS_yes (v : Value) (L : List (List Int)) (k : Int) (w : World) (hv : Intss w v (markedSS k L L.length)) (h0 : 0 ≤ k) (hk : k ≤ 1048576) (h1 : bulk L ≤ 1099511627776) :
    Calls Try.prog 29 #[v, .int .i64 k] w (IntExt (k + (L.map List.length).sum) w) := by
  obtain ⟨av, cv, rfl, hlv, _, hcv⟩ := hv
  rw [markedSS_length] at hcv hlv ⊢
  unfold maxLen at hlv
  have hL : L.length ≤ 1099511627776 := by unfold bulk at h1; omega
  have hsum : (L.map List.length).sum ≤ 1099511627776 := by unfold bulk at h1; omega
  have H1 := Lib.hid h1
  have HSUM := Lib.hid hsum
  clear h1 hsum
  go_enter Try.func29, Try.ntmps29
  go_wp2
  go_loopw [1, 5] (fun m i wr => ∃ (j : Nat) (r : Int), j ≤ L.length ∧ i = .int .i64 j ∧ m = .int .i64 r ∧ Hid (r = k + sumTo L j) ∧ Ext w wr) (fun _ i _ => L.length - (intOf i).toNat)
  case atStart => exact ⟨0, k, Nat.zero_le _, rfl, rfl, Lib.hid (by simp [sumTo]), Ext.refl _⟩
  case round =>
    obtain ⟨j, r, hj, rfl, rfl, hr, hx⟩ := hrel
    by_cases hlt : j < L.length
    · obtain ⟨bv, ov, rfl, dv⟩ := hcv (by omega)
      obtain ⟨x, hx1, ix⟩ := dv j hlt
      rw [markedSS_new hlt hlt, Option.getD_some] at ix
      have gv := hx.cell hx1
      have hrow : (L[j]).length ≤ 1099511627776 := by have := bulk_row hlt; have := H1.out; omega
      have hr0 : 0 ≤ r := by have := hr.out; omega
      have hr1 : r ≤ 2199024304128 := by have h := hr.out; have := sumTo_mono (L := L) (k := j) hj; have := HSUM.out; omega
      rw [← hr.out] at ix
      have IX := Lib.hid (ix.ext hx)
      have HS := Lib.hid (sumTo_succ hlt)
      clear hcv dv hx1 ix
      go_wp2_with fail
      refine (heldIntS_yes _ _ _ _ IX.out hr0 (by omega)).mono ?_
      rintro e w2 ⟨rfl, x2⟩
      have hr2 : 0 ≤ r + (L[j]).length := by omega
      go_wp2
      go_roundw
      case rel => exact ⟨j + 1, r + (L[j]).length, by omega, by go_num, rfl, Lib.hid (by have := hr.out; have := HS.out; omega), hx.trans x2⟩
      case measure => simp [intOf]; omega
    · obtain rfl : j = L.length := by omega
      go_wp2
      go_ret
      refine ⟨?_, hx⟩
      have h := hr.out
      rw [sumTo_all] at h
      rw [h]; rfl

/-- What was made before B stands while nothing below B turns. -/
theorem Ext.under {B : Nat} {w0 w w' : World} (e : Ext w0 w) (k : Below B w w') (hb : w0.heap.size ≤ B) : Ext w0 w' := Below.trans e (Below.mono k hb)

end Go.Proofs.Ytnmnbeklofnonaa

namespace Go.Proofs.Ytnmnbeklofnonaa
open Go.RowKit
set_option linter.unusedVariables false

/-- The first t lists by f, the others as they are. -/
def doneTo (C : List (List Int)) (f : List Int → List Int) (t : Nat) : List (List Int) := (C.take t).map f ++ C.drop t
theorem doneTo_zero (C : List (List Int)) (f : List Int → List Int) : doneTo C f 0 = C := by simp [doneTo]
theorem doneTo_all (C : List (List Int)) (f : List Int → List Int) : doneTo C f C.length = C.map f := by simp [doneTo]
theorem doneTo_len (C : List (List Int)) (f : List Int → List Int) (t : Nat) : (doneTo C f t).length = C.length := by unfold doneTo; simp; omega
theorem doneTo_at (C : List (List Int)) (f : List Int → List Int) {t : Nat} (h : t < C.length) : (doneTo C f t)[t]? = some C[t] := by
  unfold doneTo
  rw [List.getElem?_append_right (by simp; omega)]
  have : t - ((C.take t).map f).length = 0 := by simp; omega
  rw [this, List.getElem?_drop, Nat.add_zero, List.getElem?_eq_getElem h]
theorem doneTo_set (C : List (List Int)) (f : List Int → List Int) {t : Nat} (h : t < C.length) : (doneTo C f t).set t (f C[t]) = doneTo C f (t + 1) := by
  unfold doneTo
  have hl : ((C.take t).map f).length = t := by simp; omega
  rw [List.set_append_right t _ (by omega), hl, Nat.sub_self, List.drop_eq_getElem_cons h, List.set_cons_zero, List.take_add_one, List.getElem?_eq_getElem h, List.map_append]
  simp

noncomputable def byKeyS (g : List (List Int)) (key : List Int) : List (List Int) := (compsL g).map (byKeyL (keyAt key))

theorem compsL_rises {g : List (List Int)} (hg : rowsB g = true) {G : List Int} (h : G ∈ compsL g) : Rises G := by
  obtain ⟨k, hk, e⟩ := (left_groups hg).1 G (compsC_mem g _ _ G h)
  rw [e]; exact groupL_rises g k

set_option maxRecDepth 100000 in
set_option maxHeartbeats 4000000 in
theorem groupsByKey_any (v u : Value) (g : List (List Int)) (key : List Int) (w : World) (hv : Intss w v g) (hu : Ints w u key) (hk : keysB g key = true) :
    Calls Try.prog 74 #[v, u] w (NewSS (byKeyS g key) w) := by
  have HV := Lib.hid hv
  have HU := Lib.hid hu
  obtain ⟨av, cv, rfl, hlv, _, _⟩ := hv
  obtain ⟨au, cu, rfl, hlu, _, _⟩ := hu
  unfold maxLen at hlv hlu
  obtain ⟨hg, hkl, hr, hnd⟩ := keysB_of hk
  obtain ⟨ha, hb⟩ := goodG_of hg
  obtain ⟨F, hF⟩ : ∃ F, F = byKeyL (keyAt key) := ⟨_, rfl⟩
  obtain ⟨C, hC⟩ : ∃ C, C = compsL g := ⟨_, rfl⟩
  obtain ⟨hc1, hc2⟩ := compsL_size hb
  rw [← hC] at hc1 hc2
  have hin : ∀ G ∈ C, Rises G ∧ (∀ x ∈ G, 0 ≤ x ∧ x < (key.length : Int)) ∧ G.length ≤ 1048576 := fun G hG => by
    have h2 := hc2 G hG
    rw [hC] at hG
    refine ⟨compsL_rises ha hG, fun x hx => ?_, by omega⟩
    have := compsL_in ha hG x hx
    omega
  have hS : byKeyS g key = C.map F := by unfold byKeyS; rw [hC, hF]
  rw [hS]
  have HA := Lib.hid ha
  have HIN := Lib.hid hin
  have HKK := Lib.hid (And.intro hr hnd)
  have HF := Lib.hid hF
  have HC := Lib.hid hC
  obtain ⟨W1, hW1⟩ : ∃ W1, W1 = w.alloc (.cells #[.slice au key.length cu] 27) := ⟨_, rfl⟩
  have x1 : Ext w W1 := by rw [hW1]; exact Ext.alloc (Ext.refl _) _
  have hbx : W1.cell? ⟨w.heap.size, 0, none⟩ = some (.slice au key.length cu) := by rw [hW1]; exact cell_alloc_one _ _ _
  have X1 := Lib.hid x1
  have BX := Lib.hid hbx
  have HW1 := Lib.hid hW1
  clear hin hS ha hF hC hc2 hk hg hkl hr hnd x1 hbx hW1
  go_enter Try.func74, Try.ntmps74
  go_wp2_with fail
  rw [← HW1.out]
  refine (groupsInTurn_any g HA.out hb _ _ (HV.out.ext X1.out)).mono ?_
  rw [← HC.out]
  rintro e w2 ⟨v2, rfl, f2, x2⟩
  obtain ⟨VS, fv, hR⟩ := f2.vals
  obtain ⟨a2, c2, rfl⟩ := fv.len
  have hVL : VS.length = C.length := hR.len
  obtain ⟨B, hB⟩ : ∃ B, B = W1.heap.size := ⟨_, rfl⟩
  rw [← hB] at fv hR
  have HBB := Lib.hid hB
  have HR := Lib.hid (show Rows_ B w2 VS (doneTo C F 0) by rw [doneTo_zero]; exact hR)
  have HVL := Lib.hid hVL
  have FV := Lib.hid fv
  have X2 := Lib.hid x2
  have hn40 : VS.length ≤ 40 := by omega
  clear f2 fv hR hVL x2 hB HW1
  go_wp2
  go_loopw [7, 12] (fun _ i wr => ∃ t : Nat, t ≤ C.length ∧ i = .int .i64 t ∧ Hid (Rows_ B wr VS (doneTo C F t)) ∧ Hid (FreshV B wr (.slice a2 VS.length c2) VS) ∧ Hid (Ext W1 wr)) (fun _ i _ => C.length - (intOf i).toNat)
  case atStart => exact ⟨0, Nat.zero_le _, rfl, HR, FV, X2⟩
  case round =>
    clear HR FV X2
    obtain ⟨t, ht, rfl, hR, hV, hX⟩ := hrel
    obtain ⟨w3, hw3⟩ : ∃ x : World, x = wr := ⟨_, rfl⟩
    subst hw3
    by_cases hlt : t < C.length
    · have hlt2 : t < VS.length := by rw [HVL.out]; exact hlt
      obtain ⟨gv, cap, hvv, hc1, hc2⟩ := hV.out.form (n := VS.length) rfl (by omega)
      simp only [Value.slice.injEq, true_and] at hvv
      obtain ⟨rfl, rfl⟩ := hvv
      obtain ⟨z, hz⟩ : ∃ z, VS[t]? = some z := ⟨_, List.getElem?_eq_getElem hlt2⟩
      have zz := hV.out.at rfl hz
      have hfz := hR.out.row t z _ hz (doneTo_at C F hlt)
      obtain ⟨h1, h2, h3⟩ := HIN.out _ (List.getElem_mem hlt)
      have hst : ∀ W, w3.grownBy W z.ownBlock → W.cell? ⟨w.heap.size, 0, none⟩ = some (.slice au key.length cu) ∧ Ints W (.slice au key.length cu) key := fun W hW => by
        have e := hX.out.grown hW (fun b hb => by have := (World.ownsRow.lt hfz b hb).1; rw [HBB.out] at this; exact this)
        exact ⟨e.cell BX.out, (HU.out.ext X1.out).ext e⟩
      have HST := Lib.hid hst
      have HFZ := Lib.hid hfz
      have HZ := Lib.hid hz
      have H123 := Lib.hid (And.intro h1 (And.intro h2 h3))
      have HSET := Lib.hid (doneTo_set C F hlt)
      obtain ⟨G, hG⟩ : ∃ G, G = C[t] := ⟨_, rfl⟩
      rw [← hG] at HFZ H123 HSET
      clear hst hfz hz h1 h2 h3 hG
      go_wp2_with fail
      refine (sortByKey_any key _ _ B z G _ HST.out HKK.out.1 HKK.out.2 HFZ.out H123.out.1 H123.out.2.1 H123.out.2.2).mono ?_
      rintro e w4 ⟨⟨r, rfl⟩, f4, g4⟩
      rw [← HF.out] at f4
      have hR4 : Rows_ B w4 VS (doneTo C F (t + 1)) := by
        rw [← HSET.out]
        exact hR.out.mark HZ.out g4 f4
      have hV0 : w3.ownsRow B 27 1 (.slice (some ⟨gv, 0, none⟩) VS.length c2) VS.length VS := hV.out
      have hV4 : FreshV B w4 (.slice (some ⟨gv, 0, none⟩) VS.length c2) VS := World.ownsRow.kept hV0 g4 (types_apart HFZ.out hV0 (by decide))
      have hX4 : Ext W1 w4 := hX.out.grown g4 (fun b hb => by have := (World.ownsRow.lt HFZ.out b hb).1; rw [HBB.out] at this; exact this)
      have R4 := Lib.hid hR4
      have V4 := Lib.hid hV4
      have X4 := Lib.hid hX4
      clear f4 g4 hR4 hV0 hV4 hX4 zz
      go_wp2
      go_roundw
      case rel => exact ⟨t + 1, by omega, by go_num, R4, V4, X4⟩
      case measure => simp [intOf]; omega
    · obtain rfl : t = C.length := by omega
      have hRA := hR.out
      rw [doneTo_all] at hRA
      have HFIN := Lib.hid ((FreshV.ss hV.out hRA).more (show w.heap.size ≤ B by rw [HBB.out]; exact X1.out.size))
      have HXX := Lib.hid (X1.out.trans hX.out)
      have hno : ¬ C.length < VS.length := by have := HVL.out; omega
      clear hRA
      go_wp2
      go_ret
      exact ⟨_, rfl, HFIN.out, HXX.out⟩

end Go.Proofs.Ytnmnbeklofnonaa

namespace Go.Proofs.Ytnmnbeklofnonaa
open Go.RowKit
set_option linter.unusedVariables false

theorem atN_set {fs : List Int} {p : Nat} (hp : p < fs.length) (n : Int) (q : Nat) : atN (fs.set p n) q = if q = p then n else atN fs q := by
  unfold atN
  rw [List.getElem?_set]
  by_cases e : p = q
  · subst e; simp [hp]
  · rw [if_neg e, if_neg (fun h => e h.symm)]
theorem byKeyS_in {g : List (List Int)} (hg : rowsB g = true) (key : List Int) {D : List Int} (h : D ∈ byKeyS g key) : 0 < D.length ∧ (∀ x ∈ D, 0 ≤ x ∧ x < (g.length : Int)) ∧ D.length ≤ g.length := by
  unfold byKeyS at h
  obtain ⟨G, hG, rfl⟩ := List.mem_map.1 h
  obtain ⟨h1, h2, h3⟩ := groupsL_pos hg ((compsL_iff hg G).1 hG)
  have hp := byKeyL_perm (keyAt key) G
  rw [hp.length_eq]
  exact ⟨h1, fun x hx => h2 x (hp.mem_iff.1 hx), h3⟩
theorem blockB_not {g : List (List Int)} {P : Int → Int} {G : List Int} {k : Nat} (hk : k < G.length) (h : stepB g P G k = false) : blockB g P G = false := by
  unfold blockB
  rw [List.all_eq_false]
  exact ⟨k, List.mem_range.2 hk, by rw [h]; simp⟩
theorem blockB_yes {g : List (List Int)} {P : Int → Int} {G : List Int} (h : ∀ k, k < G.length → stepB g P G k = true) : blockB g P G = true := by
  unfold blockB
  rw [List.all_eq_true]
  intro k hk
  exact h k (List.mem_range.1 hk)

set_option maxRecDepth 100000 in
set_option maxHeartbeats 16000000 in
theorem implIsOrder_any (v u q : Value) (g : List (List Int)) (key l : List Int) (w : World) (hv : Intss w v g) (hu : Ints w u key) (hq : Ints w q l) :
    Calls Try.prog 39 #[v, u, q] w (TwoB (ordV g key l) (ordOk g key l) w) := by
  have HV := Lib.hid hv
  have HU := Lib.hid hu
  have HQ := Lib.hid hq
  obtain ⟨av, cv, rfl, hlv, _, dv⟩ := hv
  obtain ⟨au, cu, rfl, hlu, _, _⟩ := hu
  obtain ⟨aq, cq, rfl, hlq, _, dq⟩ := hq
  unfold maxLen at hlv hlu hlq
  have hkq := keysB_eq g key
  cases hg : goodG g with
  | false =>
    have h1 : ordOk g key l = false := by unfold ordOk; rw [hkq, hg]; rfl
    have h2 : ordV g key l = false := by unfold ordV; rw [h1]; rfl
    rw [h1, h2]
    have HG := Lib.hid hg
    clear hg h1 h2 hkq dv dq
    go_enter Try.func39, Try.ntmps39
    go_wp2_with fail
    refine (implGoodGraph_any _ _ _ HV.out).mono ?_
    rintro e w1 ⟨rfl, x1⟩
    rw [HG.out]
    go_wp2
    go_ret2
    exact ⟨rfl, x1⟩
  | true =>
    rw [hg, Bool.true_and] at hkq
    have HG := Lib.hid hg
    cases hk : unlikeB key g.length 1000000 with
    | false =>
      have h1 : ordOk g key l = false := by unfold ordOk; rw [hkq, hk]; rfl
      have h2 : ordV g key l = false := by unfold ordV; rw [h1]; rfl
      rw [h1, h2]
      have HK := Lib.hid hk
      clear hg h1 h2 hkq hk dv dq
      go_enter Try.func39, Try.ntmps39
      go_wp2_with fail
      refine (implGoodGraph_any _ _ _ HV.out).mono ?_
      rintro e w1 ⟨rfl, x1⟩
      have X1 := Lib.hid x1
      rw [HG.out]
      clear x1
      go_wp2_with fail
      refine (arePointKeys_any _ key g.length _ (HU.out.ext X1.out)).mono ?_
      rintro e w2 ⟨rfl, x2⟩
      have X2 := Lib.hid (X1.out.trans x2)
      rw [HK.out]
      clear x2
      go_wp2
      go_ret2
      exact ⟨rfl, X2.out⟩
    | true =>
      have HK := Lib.hid hk
      have hkk : keysB g key = true := hkq.trans hk
      have h1 : ordOk g key l = unlikeB l g.length g.length := by unfold ordOk; rw [hkk, Bool.true_and]
      cases hun : unlikeB l g.length g.length with
      | false =>
        have h3 : ordOk g key l = false := h1.trans hun
        have h2 : ordV g key l = false := by unfold ordV; rw [h3]; rfl
        rw [h3, h2]
        have HN := Lib.hid hun
        clear hg h1 h2 h3 hkq hk hkk hun dv dq
        go_enter Try.func39, Try.ntmps39
        go_wp2_with fail
        refine (implGoodGraph_any _ _ _ HV.out).mono ?_
        rintro e w1 ⟨rfl, x1⟩
        have X1 := Lib.hid x1
        rw [HG.out]
        clear x1
        go_wp2_with fail
        refine (arePointKeys_any _ key g.length _ (HU.out.ext X1.out)).mono ?_
        rintro e w2 ⟨rfl, x2⟩
        have X2 := Lib.hid (X1.out.trans x2)
        rw [HK.out]
        clear x2
        go_wp2_with fail
        refine (areUnlike_any _ l g.length g.length _ (HQ.out.ext X2.out)).mono ?_
        rintro e w3 ⟨rfl, x3⟩
        have X3 := Lib.hid (X2.out.trans x3)
        rw [HN.out]
        clear x3
        go_wp2
        go_ret2
        exact ⟨rfl, X3.out⟩
      | true =>
        obtain ⟨ha, hb⟩ := goodG_of hg
        have h3 : ordOk g key l = true := h1.trans hun
        have h2 : ordV g key l = ordP g key l := by unfold ordV; rw [h3, Bool.true_and, ord_same ha hun]
        rw [h3, h2]
        have HN := Lib.hid hun
        have HA := Lib.hid ha
        have HB := Lib.hid hb
        obtain ⟨hlen, hcov⟩ := (unlike_iff l g.length).1 hun
        have hln : (∀ x ∈ l, 0 ≤ x ∧ x < (g.length : Int)) ∧ l.Nodup := by
          have h4 := hun
          unfold unlikeB allIn at h4
          rw [Bool.and_eq_true, Bool.and_eq_true, decide_eq_true_iff, decide_eq_true_iff, List.all_eq_true] at h4
          refine ⟨fun x hx => ?_, h4.2.2⟩
          have := h4.2.1 x hx
          unfold inB at this
          simp at this
          omega
        have HLEN := Lib.hid hlen
        have HCOV := Lib.hid hcov
        have HLN := Lib.hid hln
        have HKK := Lib.hid hkk
        have DV := Lib.hid dv
        have DQ := Lib.hid dq
        have hq40 : l.length ≤ 40 := by omega
        clear hg h1 h2 h3 hkq hk hkk hun ha hb hlen hcov hln dv dq
        go_enter Try.func39, Try.ntmps39
        go_wp2_with fail
        refine (implGoodGraph_any _ _ _ HV.out).mono ?_
        rintro e w1 ⟨rfl, x1⟩
        have X1 := Lib.hid x1
        rw [HG.out]
        clear x1
        go_wp2_with fail
        refine (arePointKeys_any _ key g.length _ (HU.out.ext X1.out)).mono ?_
        rintro e w2 ⟨rfl, x2⟩
        have X2 := Lib.hid (X1.out.trans x2)
        rw [HK.out]
        clear x2
        go_wp2_with fail
        refine (areUnlike_any _ l g.length g.length _ (HQ.out.ext X2.out)).mono ?_
        rintro e w3 ⟨rfl, x3⟩
        have X3 := Lib.hid (X2.out.trans x3)
        rw [HN.out]
        clear x3
        go_wp2
        change Code.wp _ _ _ _ (w3.alloc (.cells (numsA (List.replicate 40 0)) 96))
        obtain ⟨w4, hw4⟩ : ∃ w4, w4 = w3.alloc (.cells (numsA (List.replicate 40 0)) 96) := ⟨_, rfl⟩
        obtain ⟨b8, hb8⟩ : ∃ b8, b8 = w3.heap.size := ⟨_, rfl⟩
        rw [← hw4, ← hb8]
        have HS4 : Hid (w4.heap[b8]? = some (.cells (numsA (List.replicate 40 0)) 96 (0, 0)) ∧ Ext w w4 ∧ w.heap.size ≤ b8) := Lib.hid ⟨by rw [hw4, hb8]; exact heap_alloc_last w3 _, by rw [hw4]; exact X3.out.alloc _, by rw [hb8]; exact X3.out.size⟩
        clear hw4 hb8
        go_loopw [9, 10, 36] (fun _ _ i wr => ∃ (k : Nat) (fs : List Int), k ≤ l.length ∧ i = .int .i64 k ∧ Hid (fs.length = 40 ∧ wr.heap[b8]? = some (.cells (numsA fs) 96 (0, 0)) ∧ (∀ j (hj : j < l.length), j < k → atN fs (l[j]).toNat = j) ∧ Ext w wr)) (fun _ _ i _ => l.length - (intOf i).toNat)
        case atStart => exact ⟨0, _, Nat.zero_le _, rfl, Lib.hid ⟨by simp, HS4.out.1, fun j _ hj => by omega, HS4.out.2.1⟩⟩
        case round =>
          obtain ⟨k, fs, hk, rfl, hF⟩ := hrel
          by_cases hlt : k < l.length
          · obtain ⟨bq, oq, rfl, eq⟩ := DQ.out (by omega)
            have z1 := hF.out.2.2.2.cell (eq k hlt)
            rw [List.getElem?_eq_getElem hlt, Option.getD_some] at z1
            have hpb := HLN.out.1 _ (List.getElem_mem hlt)
            obtain ⟨p, hp⟩ : ∃ p : Nat, l[k] = (p : Int) := ⟨l[k].toNat, by omega⟩
            have hp40 : p < 40 := by have := HB.out; omega
            rw [hp] at z1
            have z2 := nums_cell hF.out.2.1 hF.out.1 hp40
            have f2 : wr.frozen? ⟨b8, p, none⟩ = false := frozen_of_row wr b8 p _ _ hF.out.2.1
            have hpl : p < fs.length := by rw [hF.out.1]; exact hp40
            have HF2 : Hid ((fs.set p (k : Int)).length = 40 ∧ (wr.setCell ⟨b8, p, none⟩ (.int .i64 k)).heap[b8]? = some (.cells (numsA (fs.set p (k : Int))) 96 (0, 0)) ∧ (∀ j (hj : j < l.length), j < k + 1 → atN (fs.set p (k : Int)) (l[j]).toNat = j) ∧ Ext w (wr.setCell ⟨b8, p, none⟩ (.int .i64 k))) := Lib.hid (by
              refine ⟨by rw [List.length_set]; exact hF.out.1, ?_, fun j hj hjk => ?_, Below.setCell hF.out.2.2.2 HS4.out.2.2 _⟩
              · have := heap_setCell_same wr b8 p _ _ (.int .i64 (k : Int)) hF.out.2.1
                rw [numsA_set] at this
                exact this
              · rw [atN_set hpl]
                by_cases e : j = k
                · subst e
                  rw [hp, Int.toNat_natCast, if_pos rfl]
                · have hne : (l[j]).toNat ≠ p := fun h => by
                    have h1 := HLN.out.1 _ (List.getElem_mem hj)
                    have h2 : l[j] = l[k] := by rw [hp]; omega
                    exact e ((List.getElem_inj HLN.out.2).1 h2)
                  rw [if_neg hne]
                  exact hF.out.2.2.1 j hj (by omega))
            have i0 : (0 : Int) ≤ (p : Int) := by omega
            have i1 : (p : Int) < 40 := by omega
            clear eq hpb hp hpl hF
            go_wp2
            go_roundw
            case rel => exact ⟨k + 1, _, by omega, by go_num, HF2⟩
            case measure => simp [intOf]; omega
          · obtain rfl : k = l.length := by omega
            obtain ⟨w5, hw5⟩ : ∃ x : World, x = wr := ⟨_, rfl⟩
            subst hw5
            obtain ⟨f1, f2, f3, f4⟩ := hF.out
            have HPA : Hid (∀ p : Int, 0 ≤ p → p < (g.length : Int) → atN fs p.toNat = placeI l p) := Lib.hid (fun p h1 h2 => by
              have h5 := HCOV.out p.toNat (by omega)
              rw [Int.toNat_of_nonneg h1] at h5
              obtain ⟨j, hj, e⟩ := List.getElem_of_mem h5
              have h6 := f3 j hj hj
              rw [e] at h6
              rw [h6, placeI_at HLN.out.2 (j := j) (by rw [List.getElem?_eq_getElem hj, e])])
            have FK := Lib.hid (And.intro f1 f2)
            have X5 := Lib.hid f4
            clear f1 f2 f3 f4 hF HS4
            go_wp2_with fail
            refine (groupsByKey_any _ _ g key _ (HV.out.ext X5.out) (HU.out.ext X5.out) HKK.out).mono ?_
            rintro e w6 ⟨v6, rfl, f6, x6⟩
            have i6 := f6.intss
            obtain ⟨P, hP⟩ : ∃ P, P = placeI l := ⟨_, rfl⟩
            have hpb : ∀ p, -1 ≤ P p ∧ P p < 41 := fun p => by
              rw [hP]
              have := placeI_bounds l p
              omega
            have hord : ordP g key l = (byKeyS g key).all (blockB g P) := by unfold ordP; rw [← hP]; rfl
            have hin : ∀ D ∈ byKeyS g key, 0 < D.length ∧ (∀ x ∈ D, 0 ≤ x ∧ x < (g.length : Int)) ∧ D.length ≤ g.length := fun D hD => byKeyS_in HA.out key hD
            rw [← hP] at HPA
            obtain ⟨C, hC⟩ : ∃ C, C = byKeyS g key := ⟨_, rfl⟩
            rw [← hC] at i6 hord hin
            obtain ⟨a1, c1, rfl, hl1, _, d1⟩ := i6
            unfold maxLen at hl1
            have D1 := Lib.hid d1
            have HPB := Lib.hid hpb
            have HORD := Lib.hid hord
            have HIN := Lib.hid hin
            have X6 := Lib.hid (X5.out.trans x6)
            have FK6 : Hid (fs.length = 40 ∧ w6.heap[b8]? = some (.cells (numsA fs) 96 (0, 0))) := Lib.hid ⟨FK.out.1, x6.block FK.out.2⟩
            clear f6 x6 d1 hP hpb hord hin hC FK
            go_wp2
            go_loopw [12, 13, 14, 49] (fun _ _ _ i wr => ∃ t : Nat, t ≤ C.length ∧ i = .int .i64 t ∧ Hid (∀ G ∈ C.take t, blockB g P G = true) ∧ Hid (Ext w6 wr)) (fun _ _ _ i _ => C.length - (intOf i).toNat)
            case atStart => exact ⟨0, Nat.zero_le _, rfl, Lib.hid (fun G hG => by simp at hG), Lib.hid (Ext.refl _)⟩
            case round =>
              obtain ⟨t, ht, rfl, hS, hX⟩ := hrel
              obtain ⟨w7, hw7⟩ : ∃ x : World, x = wr := ⟨_, rfl⟩
              subst hw7
              by_cases hlt4 : t < C.length
              · obtain ⟨b1, o1, rfl, e1⟩ := D1.out (by omega)
                obtain ⟨z, hz, iz⟩ := e1 t hlt4
                rw [List.getElem?_eq_getElem hlt4, Option.getD_some] at iz
                have zz := hX.out.cell hz
                have HSY : Hid (blockB g P C[t] = true → ∀ G ∈ C.take (t + 1), blockB g P G = true) := Lib.hid (fun h G hG => by
                  rw [List.take_add_one, List.getElem?_eq_getElem hlt4] at hG
                  rcases List.mem_append.1 hG with hG | hG
                  · exact hS.out G hG
                  · have : G = C[t] := by simpa using hG
                    rw [this]; exact h)
                have HSN : Hid (blockB g P C[t] = false → ordP g key l = false) := Lib.hid (fun h => by
                  rw [HORD.out, List.all_eq_false]
                  exact ⟨C[t], List.getElem_mem hlt4, by rw [h]; simp⟩)
                have HDI := Lib.hid (HIN.out C[t] (List.getElem_mem hlt4))
                obtain ⟨D, hD⟩ : ∃ D, D = C[t] := ⟨_, rfl⟩
                rw [← hD] at HSY HSN HDI iz
                obtain ⟨ad, cd, rfl, hld, _, dd⟩ := iz
                unfold maxLen at hld
                obtain ⟨bd, od, rfl, ed⟩ := dd HDI.out.1
                obtain ⟨mm, hm⟩ : ∃ mm, mm + 1 = D.length := ⟨D.length - 1, by have := HDI.out.1; omega⟩
                have HM := Lib.hid hm
                rw [← hm] at hld zz
                have hm40 : mm + 1 ≤ 40 := by have := HDI.out.2.2; have := HB.out; omega
                have hm0 : 0 < mm + 1 := by omega
                have HED : Hid (∀ j (hj : j < D.length), w6.cell? ⟨bd, od + j, none⟩ = some (.int .i64 D[j])) := Lib.hid (fun j hj => by rw [ed j hj, List.getElem?_eq_getElem hj]; rfl)
                clear e1 hz hD dd ed hm
                go_wp2
                go_loopw [13, 14, 55] (fun _ _ i wr => ∃ k : Nat, k ≤ mm + 1 ∧ i = .int .i64 k ∧ Hid (∀ j, j < k → stepB g P D j = true) ∧ Hid (Ext w6 wr)) (fun _ _ i _ => mm + 1 - (intOf i).toNat)
                case atStart => exact ⟨0, Nat.zero_le _, rfl, Lib.hid (fun j hj => by omega), hX⟩
                case round =>
                  obtain ⟨k, hk, rfl, hJ, hX8⟩ := hrel
                  obtain ⟨w8, hw8⟩ : ∃ x : World, x = wr := ⟨_, rfl⟩
                  subst hw8
                  by_cases hlt5 : k < mm + 1
                  · have hkD : k < D.length := by rw [← HM.out]; exact hlt5
                    have h0D : 0 < D.length := HDI.out.1
                    have hlD : mm < D.length := by rw [← HM.out]; omega
                    have zk := hX8.out.cell (HED.out k hkD)
                    have z0 := hX8.out.cell (HED.out 0 h0D)
                    have zl := hX8.out.cell (HED.out mm hlD)
                    rw [Nat.add_zero] at z0
                    have rk := HDI.out.2.1 _ (List.getElem_mem hkD)
                    have r0 := HDI.out.2.1 _ (List.getElem_mem h0D)
                    have rl := HDI.out.2.1 _ (List.getElem_mem hlD)
                    obtain ⟨p, hp⟩ : ∃ p : Nat, D[k] = (p : Int) := ⟨D[k].toNat, by omega⟩
                    obtain ⟨p0, hp0⟩ : ∃ p : Nat, D[0] = (p : Int) := ⟨D[0].toNat, by omega⟩
                    obtain ⟨pl, hpl⟩ : ∃ p : Nat, D[mm] = (p : Int) := ⟨D[mm].toNat, by omega⟩
                    have hpg : p < g.length := by omega
                    have hp0g : p0 < g.length := by omega
                    have hplg : pl < g.length := by omega
                    rw [hp] at zk
                    rw [hp0] at z0
                    rw [hpl] at zl
                    have hb8 : w8.heap[b8]? = some (.cells (numsA fs) 96 (0, 0)) := hX8.out.block FK6.out.2
                    have zpp := nums_cell hb8 FK6.out.1 (show p < 40 by have := HB.out; omega)
                    have zp0 := nums_cell hb8 FK6.out.1 (show p0 < 40 by have := HB.out; omega)
                    have qp : atN fs p = P (p : Int) := by have := HPA.out (p : Int) (by omega) (by omega); rwa [Int.toNat_natCast] at this
                    have q0 : atN fs p0 = P (p0 : Int) := by have := HPA.out (p0 : Int) (by omega) (by omega); rwa [Int.toNat_natCast] at this
                    rw [qp] at zpp
                    rw [q0] at zp0
                    have hst : stepB g P D k = (decide (P (p : Int) = P (p0 : Int) + k) && !behindB g P (p : Int) (pl : Int)) := by
                      unfold stepB lastI
                      rw [row_getD hkD, row_getD h0D, hp, hp0, ← HM.out, Nat.add_sub_cancel, row_getD hlD, hpl]
                    have HST := Lib.hid hst
                    have HJY : Hid (stepB g P D k = true → ∀ j, j < k + 1 → stepB g P D j = true) := Lib.hid (fun h j hj => by
                      by_cases e : j = k
                      · rw [e]; exact h
                      · exact hJ.out j (by omega))
                    have HJN : Hid (stepB g P D k = false → ordP g key l = false) := Lib.hid (fun h => HSN.out (blockB_not hkD h))
                    have bp := HPB.out (p : Int)
                    have b0 := HPB.out (p0 : Int)
                    have HPP := Lib.hid (show ∀ n : Int, 0 ≤ n → n < (g.length : Int) → atN fs n.toNat = P n from HPA.out)
                    obtain ⟨x, hx⟩ : ∃ x, x = P (p : Int) := ⟨_, rfl⟩
                    obtain ⟨y, hy⟩ : ∃ y, y = P (p0 : Int) := ⟨_, rfl⟩
                    rw [← hx] at zpp bp HST
                    rw [← hy] at zp0 b0 HST
                    have i0 : (0 : Int) ≤ (p : Int) := by omega
                    have i1 : (p : Int) < 40 := by have := HB.out; omega
                    have i2 : (0 : Int) ≤ (p0 : Int) := by omega
                    have i3 : (p0 : Int) < 40 := by have := HB.out; omega
                    have i4 : (0 : Int) < (mm : Int) + 1 := by omega
                    have HZL := Lib.hid zl
                    clear hkD h0D hlD rk r0 rl hp hp0 hpl qp q0 hst hx hy hJ zl hb8
                    go_wp2
                    go_quiet (fail)
                    obtain ⟨w9, hw9⟩ : ∃ w9, w9 = w8.drewN nq := ⟨_, rfl⟩
                    have x9 : Ext w8 w9 := by rw [hw9]; exact (Ext.refl _).drewN nq
                    rw [← hw9]
                    have X9 := Lib.hid (hX8.out.trans x9)
                    have HZL9 := Lib.hid (x9.cell HZL.out)
                    clear hw9 x9 zk z0 zpp zp0
                    by_cases heq : x = y + k
                    · have eb : (x != y + (k : Int)) = false := by rw [heq]; simp
                      have HST2 : Hid (stepB g P D k = !behindB g P (p : Int) (pl : Int)) := Lib.hid (by rw [HST.out, heq]; simp)
                      clear heq
                      obtain ⟨bv, ov, rfl, ev⟩ := DV.out (by omega)
                      obtain ⟨zr, hzr, ir⟩ := ev p hpg
                      rw [List.getElem?_eq_getElem hpg, Option.getD_some, ← rowG_at hpg] at ir
                      have zr1 := (X6.out.trans X9.out).cell hzr
                      have IR := Lib.hid (ir.ext (X6.out.trans X9.out))
                      have zl := HZL9.out
                      have HZN : Hid ((numsA fs).size = 40) := Lib.hid (by rw [numsA_size]; exact FK6.out.1)
                      have HK9 : Hid (w9.heap[b8]? = some (.cells (numsA fs) 96 (0, 0))) := Lib.hid (X9.out.block FK6.out.2)
                      have i5 : (p : Int) < (g.length : Int) := by omega
                      have hpl40 : pl < 40 := by have := HB.out; omega
                      have hRI : ∀ x ∈ rowG g (p : Int), 0 ≤ x ∧ x < (g.length : Int) := fun x hx => row_in HA.out hx
                      have HSB : Hid (∀ (b : Value) (W : World), Ints W b (rowG g (p : Int)) → Calls Try.prog 80 #[b, .agg (numsA fs), .int .i64 pl] W (BoolExt (behindB g P (p : Int) (pl : Int)) W)) := Lib.hid (fun b W hI => by
                        have h1 := standsBehind_any b (rowG g (p : Int)) fs pl W hI FK6.out.1 hpl40 (fun x hx => by have := hRI x hx; have := HB.out; omega)
                        have e2 : (rowG g (p : Int)).any (fun n => decide (atN fs n.toNat > atN fs pl)) = behindB g P (p : Int) (pl : Int) := by
                          unfold behindB
                          have hlq : atN fs pl = P (pl : Int) := by have := HPP.out (pl : Int) (by omega) (by omega); rwa [Int.toNat_natCast] at this
                          rw [Bool.eq_iff_iff, List.any_eq_true, List.any_eq_true]
                          constructor
                          · rintro ⟨x, hx, h⟩
                            have h3 := hRI x hx
                            rw [HPP.out x h3.1 h3.2, hlq] at h
                            exact ⟨x, hx, h⟩
                          · rintro ⟨x, hx, h⟩
                            have h3 := hRI x hx
                            rw [← HPP.out x h3.1 h3.2, ← hlq] at h
                            exact ⟨x, hx, h⟩
                        rw [e2] at h1
                        exact h1)
                      have x99 : Ext w9 w9.drew := (Ext.refl _).drew
                      have zr2 := x99.cell zr1
                      have zl2 := x99.cell zl
                      have HK10 : Hid (w9.drew.heap[b8]? = some (.cells (numsA fs) 96 (0, 0))) := Lib.hid (x99.block HK9.out)
                      have IR2 := Lib.hid (IR.out.ext x99)
                      have XX := Lib.hid (X9.out.trans x99)
                      have i6 : (0 : Int) ≤ (mm : Int) := by omega
                      have i7 : (mm : Int) < (mm : Int) + 1 := by omega
                      have hwr : IntKind.i64.wrap (mm : Int) = (mm : Int) := by rw [IntKind.wrap_i64]; omega
                      clear hRI ev hzr ir zr1 zl x99 HK9
                      go_wp2
                      go_still_tail 11, (by kernel_rfl)
                      refine wpStill_load_row rfl 96 _ rfl b8 rfl _ _ _ _ HK10.out Try.underlying96 rfl (by rw [HZN.out]; exact Try.infoNums) ?_
                      repeat still_step
                      refine wpStill_nil ?_
                      change wpList _ _ _ _ _ w9.drew
                      obtain ⟨w10, hw10⟩ : ∃ w10, w10 = w9.drew := ⟨_, rfl⟩
                      have IR7 : Hid (Ints w10 zr (rowG g (p : Int))) := Lib.hid (by rw [hw10]; exact IR2.out)
                      have XX7 : Hid (Ext w6 w10) := Lib.hid (by rw [hw10]; exact XX.out)
                      rw [← hw10]
                      clear hwr i7 i6 zr2 zl2 hw10 IR2 XX HK10
                      go_wp2_with fail
                      refine (HSB.out _ _ IR7.out).mono ?_
                      rintro e w11 ⟨rfl, x10⟩
                      have X10 := Lib.hid (XX7.out.trans x10)
                      obtain ⟨bb, hbb⟩ : ∃ bb, bb = behindB g P (p : Int) (pl : Int) := ⟨_, rfl⟩
                      rw [← hbb] at HST2 ⊢
                      clear hbb x10
                      cases bb with
                      | true =>
                        have HNO := Lib.hid (HJN.out (by rw [HST2.out]; rfl))
                        go_wp2
                        go_ret2
                        exact ⟨by rw [HNO.out]; rfl, X6.out.trans X10.out⟩
                      | false =>
                        have HJJ := Lib.hid (HJY.out (by rw [HST2.out]; rfl))
                        go_wp2
                        go_roundw
                        case rel => exact ⟨k + 1, by omega, by go_num, HJJ, X10⟩
                        case measure => simp [intOf]; omega
                    · have eb : (x != y + (k : Int)) = true := by simp [heq]
                      have HNO : Hid (ordP g key l = false) := Lib.hid (HJN.out (by rw [HST.out, decide_eq_false heq]; rfl))
                      clear heq
                      go_wp2
                      go_ret2
                      exact ⟨by rw [HNO.out]; rfl, X6.out.trans X9.out⟩
                  · obtain rfl : k = mm + 1 := by omega
                    have HSS := Lib.hid (HSY.out (blockB_yes (fun j hj => hJ.out j (by rw [HM.out]; exact hj))))
                    go_wp2
                    go_roundw
                    case rel => exact ⟨t + 1, by omega, by go_num, HSS, hX8⟩
                    case measure => simp [intOf]; omega
              · obtain rfl : t = C.length := by omega
                have HFIN : Hid (ordP g key l = true) := Lib.hid (by
                  rw [HORD.out, List.all_eq_true]
                  have := hS.out
                  rwa [List.take_length] at this)
                go_wp2
                go_ret2
                exact ⟨by rw [HFIN.out]; rfl, X6.out.trans hX.out⟩

end Go.Proofs.Ytnmnbeklofnonaa

namespace Go.Proofs.Ytnmnbeklofnonaa
open Go.RowKit
set_option linter.unusedVariables false

/-- The blocks from lo on, below hi, are as they were. -/
def Stood (lo hi : Nat) (w w' : World) : Prop := w.heap.size ≤ w'.heap.size ∧ ∀ b, lo ≤ b → b < hi → w'.heap[b]? = w.heap[b]?
theorem Stood.refl (lo hi : Nat) (w : World) : Stood lo hi w w := ⟨Nat.le_refl _, fun _ _ _ => rfl⟩
theorem Stood.trans {lo hi : Nat} {a b c : World} (h : Stood lo hi a b) (k : Stood lo hi b c) : Stood lo hi a c :=
  ⟨Nat.le_trans h.1 k.1, fun x h1 h2 => (k.2 x h1 h2).trans (h.2 x h1 h2)⟩
theorem Stood.of_ext {lo hi : Nat} {w w' : World} (h : Ext w w') (hb : hi ≤ w.heap.size) : Stood lo hi w w' := ⟨h.size, fun b _ h2 => Below.block h b (by omega)⟩
theorem Stood.row {lo hi B e sz n : Nat} {w w' : World} {v : Value} {xs : List Value} (h : w.ownsRow B e sz v n xs) (k : Stood lo hi w w') (hb : ∀ b, v.ownBlock = some b → lo ≤ b ∧ b < hi) : w'.ownsRow B e sz v n xs := by
  refine ⟨h.1, ?_⟩
  rcases h.2 with hn | ⟨g, cap, cur, rfl, hbg, hgg, rest⟩
  · exact .inl hn
  · refine .inr ⟨g, cap, cur, rfl, hbg, ?_, rest⟩
    have := hb g rfl
    rw [k.2 g this.1 this.2]; exact hgg

/-- v lies below hi. -/
def Und (hi : Nat) (v : Value) : Prop := ∀ b, v.ownBlock = some b → b < hi
theorem Und.more {hi hi' : Nat} {v : Value} (h : Und hi v) (k : hi ≤ hi') : Und hi' v := fun b hb => Nat.lt_of_lt_of_le (h b hb) k
theorem Fresh.und {B : Nat} {w : World} {v : Value} {l : List Int} (h : Fresh B w v l) : Und w.heap.size v := fun b hb => (World.ownsRow.lt h b hb).2
/-- Nothing has turned but blocks from lo on, below hi; there may be new ones. -/
structure Ins (lo hi : Nat) (w w' : World) : Prop where
  os : w'.os = w.os
  tape : w'.tape = w.tape
  output : w'.output = w.output
  size : w.heap.size ≤ w'.heap.size
  block : ∀ b, b < w.heap.size → (b < lo ∨ hi ≤ b) → w'.heap[b]? = w.heap[b]?
theorem Ins.refl (lo hi : Nat) (w : World) : Ins lo hi w w := ⟨rfl, rfl, rfl, Nat.le_refl _, fun _ _ _ => rfl⟩
theorem Ins.trans {lo hi : Nat} {a b c : World} (h : Ins lo hi a b) (k : Ins lo hi b c) : Ins lo hi a c :=
  ⟨k.os.trans h.os, k.tape.trans h.tape, k.output.trans h.output, Nat.le_trans h.size k.size, fun x hx hy => (k.block x (Nat.lt_of_lt_of_le hx h.size) hy).trans (h.block x hx hy)⟩
theorem Ins.more {lo hi lo' hi' : Nat} {w w' : World} (h : Ins lo hi w w') (h1 : lo' ≤ lo) (h2 : hi ≤ hi') : Ins lo' hi' w w' :=
  ⟨h.os, h.tape, h.output, h.size, fun b hb hc => h.block b hb (by omega)⟩
theorem Ins.of_grown {lo hi : Nat} {w w' : World} {row : Option Nat} (h : w.grownBy w' row) (hr : ∀ g, row = some g → lo ≤ g ∧ g < hi) : Ins lo hi w w' :=
  ⟨h.os, h.tape, h.output, h.size, fun b hb hc => h.block b hb (fun e => by have := hr b e.symm; omega)⟩
theorem Ins.of_ext {lo hi : Nat} {w w' : World} (h : Ext w w') : Ins lo hi w w' :=
  ⟨h.os, h.tape, h.output, h.size, fun b hb _ => Below.block h b hb⟩
theorem Ins.stood {lo hi a b : Nat} {w w' : World} (h : Ins lo hi w w') (hb : b ≤ w.heap.size) (hab : b ≤ lo ∨ hi ≤ a) : Stood a b w w' :=
  ⟨h.size, fun x h1 h2 => h.block x (by omega) (by omega)⟩
theorem Ins.ext {lo hi : Nat} {w0 w w' : World} (h : Ins lo hi w w') (e : Ext w0 w) (hb : w0.heap.size ≤ lo) : Ext w0 w' :=
  ⟨h.os.trans e.os, h.tape.trans e.tape, h.output.trans e.output, Nat.le_trans e.size h.size, fun k hk => (h.block k (Nat.lt_of_lt_of_le hk e.size) (.inl (by omega))).trans (Below.block e k hk)⟩
theorem Ins.row {lo hi B e sz n : Nat} {w w' : World} {v : Value} {xs : List Value} (h : Ins lo hi w w') (f : w.ownsRow B e sz v n xs) (hv : ∀ b, v.ownBlock = some b → b < lo ∨ hi ≤ b) : w'.ownsRow B e sz v n xs := by
  refine ⟨f.1, ?_⟩
  rcases f.2 with hn | ⟨g, cap, cur, rfl, hbg, hgg, rest⟩
  · exact .inl hn
  · refine .inr ⟨g, cap, cur, rfl, hbg, ?_, rest⟩
    rw [h.block g (Array.getElem?_eq_some_iff.1 hgg).1 (hv g rfl)]; exact hgg
theorem Ins.cell {lo hi : Nat} {w w' : World} {a : Addr} {v : Value} (h : Ins lo hi w w') (hc : w.cell? a = some v) (ha : a.block < lo ∨ hi ≤ a.block) : w'.cell? a = some v :=
  (World.cell?_of_block (h.block a.block (World.block_lt_of_cell? w a hc) ha)).trans hc

/-- A list that was made in a time when no block from hi on was there, or later than all below hi, outlives marks between lo and hi. -/
theorem Fresh.ins_low {lo hi B : Nat} {w0 w w' : World} {v : Value} {l : List Int} (f0 : Fresh B w0 v l) (h : Fresh B w v l) (k : Ins lo hi w w') (hb : w0.heap.size ≤ lo) : Fresh B w' v l :=
  k.row h (fun b e => .inl (Nat.lt_of_lt_of_le (World.ownsRow.lt f0 b e).2 hb))
theorem Fresh.ins_high {lo hi B : Nat} {w w' : World} {v : Value} {l : List Int} (h : Fresh B w v l) (k : Ins lo hi w w') (hb : hi ≤ B) : Fresh B w' v l :=
  k.row h (fun b e => .inr (Nat.le_trans hb (World.ownsRow.lt h b e).1))
theorem Ints.ins {lo hi : Nat} {w0 w w' : World} {v : Value} {l : List Int} (h0 : Ints w0 v l) (x : Ext w0 w) (k : Ins lo hi w w') (hb : w0.heap.size ≤ lo) : Ints w' v l := h0.ext (k.ext x hb)

end Go.Proofs.Ytnmnbeklofnonaa

namespace Go.Proofs.Ytnmnbeklofnonaa
open Go.RowKit
set_option linter.unusedVariables false

/-- As FreshSS, all blocks from lo on, below hi. -/
def SSR (lo hi : Nat) (w : World) (v : Value) (L : List (List Int)) : Prop :=
  ∃ vs, w.ownsRow lo 27 1 v L.length vs ∧ Rows_ lo w vs L ∧ (∀ (j : Nat) (u : Value), vs[j]? = some u → u.ownBlock = none ∨ u.ownBlock ≠ v.ownBlock) ∧ Und hi v ∧ ∀ (j : Nat) (u : Value), vs[j]? = some u → Und hi u
theorem FreshSS.range {B h : Nat} {w : World} {v : Value} {L : List (List Int)} (f : FreshSS B w v L) (hb : w.heap.size ≤ h) : SSR B h w v L := by
  obtain ⟨vs, h1, h2, h3⟩ := f
  refine ⟨vs, h1, h2, h3, fun b e => Nat.lt_of_lt_of_le (World.ownsRow.lt h1 b e).2 hb, fun j u hu => ?_⟩
  have hj : j < vs.length := (List.getElem?_eq_some_iff.1 hu).1
  exact (h2.row j u _ hu (List.getElem?_eq_getElem (by rw [← h2.len]; exact hj))).und.more hb
theorem SSR.ext {lo hi : Nat} {w w' : World} {v : Value} {L : List (List Int)} (f : SSR lo hi w v L) (e : Ext w w') : SSR lo hi w' v L := by
  obtain ⟨vs, h1, h2, h3, h4, h5⟩ := f
  exact ⟨vs, e.ownsRow h1, h2.ext e, h3, h4, h5⟩
theorem SSR.intss {lo hi : Nat} {w : World} {v : Value} {L : List (List Int)} (f : SSR lo hi w v L) : Intss w v L := by
  obtain ⟨vs, h1, h2, h3, _⟩ := f
  exact FreshSS.intss ⟨vs, h1, h2, h3⟩

set_option maxHeartbeats 800000 in
theorem markIntSS_ins (B hi : Nat) (v : Value) (L : List (List Int)) (k : Int) (w : World) (hv : SSR B hi w v L) (h0 : 0 ≤ k) (hk : k ≤ 1048576) (h1 : bulk L ≤ 1099511627776) :
    Calls Try.prog 28 #[v, .int .i64 k] w (fun e w' => e = .returned (.int .i64 (k + (L.map List.length).sum)) ∧ Ins B hi w w') := by
  obtain ⟨vs, ho, hR, hout, hU, hUs⟩ := hv
  have hvl := hR.len
  have hL : L.length ≤ 1099511627776 := by unfold bulk at h1; omega
  have hsum : (L.map List.length).sum ≤ 1099511627776 := by unfold bulk at h1; omega
  rcases ho.2 with ⟨rfl, hn⟩ | ⟨g, cap, cur, rfl, hb, hg, hnc, hcm, hcs, htake⟩
  · obtain rfl : L = [] := List.eq_nil_of_length_eq_zero hn
    clear h1 hsum
    go_enter Try.func28, Try.ntmps28
    go_wp2
    refine wp_loop_rounds 1 ?_; rw [rounds_succ]
    go_wp2
    go_ret
    exact ⟨by simp, Ins.refl _ _ _⟩
  · have hout' : ∀ (j : Nat) (u : Value), vs[j]? = some u → u.ownBlock = none ∨ u.ownBlock ≠ some g := hout
    have HOUT := Lib.hid hout'
    have H1 := Lib.hid h1
    have HVL := Lib.hid hvl
    have HSUM := Lib.hid hsum
    have HUS := Lib.hid hUs
    clear hg hnc hcm hcs htake cur hb hout hout' h1 hvl hsum hU hUs
    go_enter Try.func28, Try.ntmps28
    go_wp2
    go_loopw [1, 5] (fun m i wr => ∃ (j : Nat) (r : Int), j ≤ L.length ∧ i = .int .i64 j ∧ m = .int .i64 r ∧ Hid (r = k + sumTo L j) ∧ wr.ownsRow B 27 1 (.slice (some ⟨g, 0, none⟩) L.length cap) L.length vs ∧ Rows_ B wr vs (markedSS k L j) ∧ Ins B hi w wr) (fun _ i _ => L.length - (intOf i).toNat)
    case atStart => exact ⟨0, k, Nat.zero_le _, rfl, rfl, Lib.hid (by simp [sumTo]), ho, by rw [markedSS_zero]; exact hR, Ins.refl _ _ _⟩
    case round =>
      clear ho hR
      obtain ⟨j, r, hj, rfl, rfl, hr, ho, hR, hx⟩ := hrel
      by_cases hlt : j < L.length
      · obtain ⟨z, hz⟩ : ∃ z, vs[j]? = some z := ⟨_, List.getElem?_eq_getElem (by rw [HVL.out]; exact hlt)⟩
        have hc := (ho.cellAt j (by omega)).trans hz
        have hf := hR.row j z _ hz (markedSS_old hlt (Nat.le_refl _))
        have hrow : (L[j]).length ≤ 1099511627776 := by have := bulk_row hlt; have := H1.out; omega
        have hr0 : 0 ≤ r := by have := hr.out; omega
        have hr1 : r ≤ 2199024304128 := by have h := hr.out; have := sumTo_mono (L := L) (k := j) hj; have := HSUM.out; omega
        have HO := Lib.hid ho
        have HR := Lib.hid hR
        have HZ := Lib.hid hz
        have HX := Lib.hid hx
        have HFF := Lib.hid hf
        clear ho hR hz hx hf
        go_wp2_with fail
        refine (markIntS_any B _ _ _ _ HFF.out hr0 (by omega)).mono ?_
        rintro e w2 ⟨rfl, f2, t2⟩
        have hR2 := HR.out.mark HZ.out t2 (by
          have e := hr.out
          rw [e] at f2
          exact f2)
        rw [markedSS_succ hlt] at hR2
        have ho2 := World.ownsRow.kept HO.out t2 (by
          rcases HOUT.out j z HZ.out with h | h
          · exact .inr (by rw [h]; simp [Value.ownBlock])
          · exact .inr (fun e => h e.symm))
        have hx2 : Ins B hi w w2 := HX.out.trans (Ins.of_grown t2 (fun q hq => ⟨(World.ownsRow.lt HFF.out q hq).1, HUS.out j z HZ.out q hq⟩))
        have hs := sumTo_succ hlt
        have HS := Lib.hid hs
        clear f2 t2 hc hs
        go_wp2
        go_roundw
        case rel => exact ⟨j + 1, r + (L[j]).length, by omega, by go_num, rfl, Lib.hid (by have := hr.out; have := HS.out; omega), ho2, hR2, hx2⟩
        case measure => simp [intOf]; omega
      · obtain rfl : j = L.length := by omega
        have HO := Lib.hid ho
        have HR := Lib.hid hR
        clear ho hR
        go_wp2
        go_ret
        refine ⟨?_, hx⟩
        have h := hr.out
        rw [sumTo_all] at h
        rw [h]; rfl

end Go.Proofs.Ytnmnbeklofnonaa
