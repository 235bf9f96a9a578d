/- Texts of this proof, part q: words, plain facts, contracts. -/
import Derived.Test.YtcpmfcigciknlaaGreatMBookOfp
import Derived.Test.YtcpmfcigciknlaaGreatMBookOfj
import Derived.Test.YtcpmfcigciknlaaGreatMBookOfe
import Derived.Test.YtcpmfcigciknlaaGreatShelf
import Derived.Test.YtcpmfcigciknlaaGreatMBookOfk
import Derived.Test.YtcpmfcigciknlaaGreatMBookOfl
import Derived.Test.YtcpmfcigciknlaaGreatMBookOfg
import Derived.Test.YtcpmfcigciknlaaGreatMBookOfa
import Derived.Deep.RegionLaw
import Derived.Deep.DeepCutAuto
import Derived.Test.YtcpmfcigciknlaaGreatMBookOfd

namespace Go.Proofs.YtcpmfcigciknlaaGreat
open Go.RowKit
set_option linter.unusedVariables false

/-- The first j lists bear marks, the others are as they were. -/
def markedSS (k : Int) (L : List (List Int)) (j : Nat) : List (List Int) := (List.range L.length).map fun i => if i < j then marks (k + sumTo L i) (L[i]?.getD []).length else L[i]?.getD []
theorem markedSS_length (k : Int) (L : List (List Int)) (j : Nat) : (markedSS k L j).length = L.length := by simp [markedSS]
theorem markedSS_zero (k : Int) (L : List (List Int)) : markedSS k L 0 = L := by
  apply List.ext_getElem
  · simp [markedSS]
  · intro i h1 h2
    simp [markedSS, List.getElem?_eq_getElem h2]
theorem markedSS_old {k : Int} {L : List (List Int)} {j i : Nat} (hi : i < L.length) (h : j ≤ i) : (markedSS k L j)[i]? = some L[i] := by
  simp [markedSS, hi, Nat.not_lt.2 h]
theorem markedSS_new {k : Int} {L : List (List Int)} {j i : Nat} (hi : i < L.length) (h : i < j) : (markedSS k L j)[i]? = some (marks (k + sumTo L i) (L[i]).length) := by
  simp [markedSS, hi, h]
theorem markedSS_succ {k : Int} {L : List (List Int)} {j : Nat} (h : j < L.length) : (markedSS k L j).set j (marks (k + sumTo L j) (L[j]).length) = markedSS k L (j + 1) := by
  apply List.ext_getElem?
  intro i
  rw [List.getElem?_set, markedSS_length]
  by_cases hi : i < L.length
  · by_cases e : j = i
    · subst e
      rw [if_pos rfl, if_pos h, markedSS_new h (by omega)]
    · rw [if_neg e]
      by_cases hij : i < j
      · rw [markedSS_new hi hij, markedSS_new hi (by omega)]
      · rw [markedSS_old hi (by omega), markedSS_old hi (by omega)]
  · rw [List.getElem?_eq_none (by rw [markedSS_length]; omega), List.getElem?_eq_none (by rw [markedSS_length]; omega)]
    split
    · omega
    · rfl

theorem Rows_.mark {B : Nat} {w w' : World} {vs : List Value} {L : List (List Int)} {j : Nat} {z : Value} {l : List Int} (h : Rows_ B w vs L) (hj : vs[j]? = some z) (t : w.grownBy w' z.ownBlock) (hz : Fresh B w' z l) : Rows_ B w' vs (L.set j l) := by
  have hjl : j < L.length := by rw [← h.len]; exact (List.getElem?_eq_some_iff.1 hj).1
  refine ⟨by simp [h.len], fun i u r hu hr => ?_, h.apart⟩
  rw [List.getElem?_set] at hr
  by_cases e : j = i
  · subst e
    rw [if_pos rfl, if_pos hjl] at hr
    rw [hj] at hu
    cases hu
    cases hr
    exact hz
  · rw [if_neg e] at hr
    exact World.ownsRow.kept (h.row i u r hu hr) t (h.apart i j u z (fun e' => e e'.symm) hu hj)

/-- What comes back of the marks: the number behind the last, and nothing below B has turned. -/
def MarksSS (B : Nat) (k : Int) (v : Value) (L : List (List Int)) (w : World) (e : Ending) (w' : World) : Prop :=
  e = .returned (.int .i64 (k + (L.map List.length).sum)) ∧ FreshSS B w' v (markedSS k L L.length) ∧ Below B w w'

set_option maxHeartbeats 800000 in
theorem markIntSS_any (B : Nat) (v : Value) (L : List (List Int)) (k : Int) (w : World) (hv : FreshSS B w v L) (hB : B ≤ w.heap.size) (h0 : 0 ≤ k) (hk : k ≤ 1048576) (h1 : bulk L ≤ 1099511627776) :
    Calls Tryz.prog 30 #[v, .int .i64 k] w (MarksSS B k v L w) := by
  obtain ⟨vs, ho, hR, hout⟩ := hv
  have hvl := hR.len
  have hL : L.length ≤ 1099511627776 := by unfold bulk at h1; omega
  have hsum : (L.map List.length).sum ≤ 1099511627776 := by unfold bulk at h1; omega
  rcases ho.2 with ⟨rfl, hn⟩ | ⟨g, cap, cur, rfl, hb, hg, hnc, hcm, hcs, htake⟩
  · obtain rfl : L = [] := List.eq_nil_of_length_eq_zero hn
    clear h1 hsum
    go_enter Tryz.func30, Tryz.ntmps30
    go_wp2
    refine wp_loop_rounds 1 ?_; rw [rounds_succ]
    go_wp2
    go_ret
    exact ⟨by simp, FreshSS.nil _ _, Below.refl _ _⟩
  · have hout' : ∀ (j : Nat) (u : Value), vs[j]? = some u → u.ownBlock = none ∨ u.ownBlock ≠ some g := hout
    have HOUT := Lib.hid hout'
    have H1 := Lib.hid h1
    have HVL := Lib.hid hvl
    have HSUM := Lib.hid hsum
    clear hg hnc hcm hcs htake cur hb hout hout' h1 hvl hsum
    go_enter Tryz.func30, Tryz.ntmps30
    go_wp2
    go_loopw [1, 5] (fun m i wr => ∃ (j : Nat) (r : Int), j ≤ L.length ∧ i = .int .i64 j ∧ m = .int .i64 r ∧ Hid (r = k + sumTo L j) ∧ wr.ownsRow B 26 1 (.slice (some ⟨g, 0, none⟩) L.length cap) L.length vs ∧ Rows_ B wr vs (markedSS k L j) ∧ Below B w wr) (fun _ i _ => L.length - (intOf i).toNat)
    case atStart => exact ⟨0, k, Nat.zero_le _, rfl, rfl, Lib.hid (by simp [sumTo]), ho, by rw [markedSS_zero]; exact hR, Below.refl _ _⟩
    case round =>
      clear ho hR
      obtain ⟨j, r, hj, rfl, rfl, hr, ho, hR, hx⟩ := hrel
      by_cases hlt : j < L.length
      · obtain ⟨z, hz⟩ : ∃ z, vs[j]? = some z := ⟨_, List.getElem?_eq_getElem (by rw [HVL.out]; exact hlt)⟩
        have hc := (ho.cellAt j (by omega)).trans hz
        have hf := hR.row j z _ hz (markedSS_old hlt (Nat.le_refl _))
        have hrow : (L[j]).length ≤ 1099511627776 := by have := bulk_row hlt; have := H1.out; omega
        have hr0 : 0 ≤ r := by have := hr.out; omega
        have hr1 : r ≤ 2199024304128 := by have h := hr.out; have := sumTo_mono (L := L) (k := j) hj; have := HSUM.out; omega
        have HO := Lib.hid ho
        have HR := Lib.hid hR
        have HZ := Lib.hid hz
        have HX := Lib.hid hx
        have HFF := Lib.hid hf
        clear ho hR hz hx hf
        go_wp2_with fail
        refine (markIntS_any B _ _ _ _ HFF.out hr0 (by omega)).mono ?_
        rintro e w2 ⟨rfl, f2, t2⟩
        have hR2 := HR.out.mark HZ.out t2 (by
          have e := hr.out
          rw [e] at f2
          exact f2)
        rw [markedSS_succ hlt] at hR2
        have ho2 := World.ownsRow.kept HO.out t2 (by
          rcases HOUT.out j z HZ.out with h | h
          · exact .inr (by rw [h]; simp [Value.ownBlock])
          · exact .inr (fun e => h e.symm))
        have hx2 : Below B w w2 := Below.grown HX.out t2 (Nat.le_trans hB HX.out.size) (fun q hq => (World.ownsRow.lt HFF.out q hq).1)
        have hs := sumTo_succ hlt
        have HS := Lib.hid hs
        clear f2 t2 hc hs
        go_wp2
        go_roundw
        case rel => exact ⟨j + 1, r + (L[j]).length, by omega, by go_num, rfl, Lib.hid (by have := hr.out; have := HS.out; omega), ho2, hR2, hx2⟩
        case measure => simp [intOf]; omega
      · obtain rfl : j = L.length := by omega
        have HO := Lib.hid ho
        have HR := Lib.hid hR
        clear ho hR
        go_wp2
        go_ret
        refine ⟨?_, ⟨vs, by rw [markedSS_length]; exact HO.out, HR.out, HOUT.out⟩, hx⟩
        have h := hr.out
        rw [sumTo_all] at h
        rw [h]; rfl

set_option maxHeartbeats 800000 in
/-- Where the marks lie, they are met. -/
theorem heldIntSS_yes (v : Value) (L : List (List Int)) (k : Int) (w : World) (hv : Intss w v (markedSS k L L.length)) (h0 : 0 ≤ k) (hk : k ≤ 1048576) (h1 : bulk L ≤ 1099511627776) :
    Calls Tryz.prog 31 #[v, .int .i64 k] w (IntExt (k + (L.map List.length).sum) w) := by
  obtain ⟨av, cv, rfl, hlv, _, hcv⟩ := hv
  rw [markedSS_length] at hcv hlv ⊢
  unfold maxLen at hlv
  have hL : L.length ≤ 1099511627776 := by unfold bulk at h1; omega
  have hsum : (L.map List.length).sum ≤ 1099511627776 := by unfold bulk at h1; omega
  have H1 := Lib.hid h1
  have HSUM := Lib.hid hsum
  clear h1 hsum
  go_enter Tryz.func31, Tryz.ntmps31
  go_wp2
  go_loopw [1, 5] (fun m i wr => ∃ (j : Nat) (r : Int), j ≤ L.length ∧ i = .int .i64 j ∧ m = .int .i64 r ∧ Hid (r = k + sumTo L j) ∧ Ext w wr) (fun _ i _ => L.length - (intOf i).toNat)
  case atStart => exact ⟨0, k, Nat.zero_le _, rfl, rfl, Lib.hid (by simp [sumTo]), Ext.refl _⟩
  case round =>
    obtain ⟨j, r, hj, rfl, rfl, hr, hx⟩ := hrel
    by_cases hlt : j < L.length
    · obtain ⟨bv, ov, rfl, dv⟩ := hcv (by omega)
      obtain ⟨x, hx1, ix⟩ := dv j hlt
      rw [markedSS_new hlt hlt, Option.getD_some] at ix
      have gv := hx.cell hx1
      have hrow : (L[j]).length ≤ 1099511627776 := by have := bulk_row hlt; have := H1.out; omega
      have hr0 : 0 ≤ r := by have := hr.out; omega
      have hr1 : r ≤ 2199024304128 := by have h := hr.out; have := sumTo_mono (L := L) (k := j) hj; have := HSUM.out; omega
      rw [← hr.out] at ix
      have IX := Lib.hid (ix.ext hx)
      have HS := Lib.hid (sumTo_succ hlt)
      clear hcv dv hx1 ix
      go_wp2_with fail
      refine (heldIntS_yes _ _ _ _ IX.out hr0 (by omega)).mono ?_
      rintro e w2 ⟨rfl, x2⟩
      have hr2 : 0 ≤ r + (L[j]).length := by omega
      go_wp2
      go_roundw
      case rel => exact ⟨j + 1, r + (L[j]).length, by omega, by go_num, rfl, Lib.hid (by have := hr.out; have := HS.out; omega), hx.trans x2⟩
      case measure => simp [intOf]; omega
    · obtain rfl : j = L.length := by omega
      go_wp2
      go_ret
      refine ⟨?_, hx⟩
      have h := hr.out
      rw [sumTo_all] at h
      rw [h]; rfl

/-- What was made before B stands while nothing below B turns. -/
theorem Ext.under {B : Nat} {w0 w w' : World} (e : Ext w0 w) (k : Below B w w') (hb : w0.heap.size ≤ B) : Ext w0 w' := Below.trans e (Below.mono k hb)

end Go.Proofs.YtcpmfcigciknlaaGreat

namespace Go.Proofs.YtcpmfcigciknlaaGreat
open Go.RowKit
set_option linter.unusedVariables false

/-- The first t lists by f, the others as they are. -/
def doneTo (C : List (List Int)) (f : List Int → List Int) (t : Nat) : List (List Int) := (C.take t).map f ++ C.drop t
theorem doneTo_zero (C : List (List Int)) (f : List Int → List Int) : doneTo C f 0 = C := by simp [doneTo]
theorem doneTo_all (C : List (List Int)) (f : List Int → List Int) : doneTo C f C.length = C.map f := by simp [doneTo]
theorem doneTo_len (C : List (List Int)) (f : List Int → List Int) (t : Nat) : (doneTo C f t).length = C.length := by unfold doneTo; simp; omega
theorem doneTo_at (C : List (List Int)) (f : List Int → List Int) {t : Nat} (h : t < C.length) : (doneTo C f t)[t]? = some C[t] := by
  unfold doneTo
  rw [List.getElem?_append_right (by simp; omega)]
  have : t - ((C.take t).map f).length = 0 := by simp; omega
  rw [this, List.getElem?_drop, Nat.add_zero, List.getElem?_eq_getElem h]
theorem doneTo_set (C : List (List Int)) (f : List Int → List Int) {t : Nat} (h : t < C.length) : (doneTo C f t).set t (f C[t]) = doneTo C f (t + 1) := by
  unfold doneTo
  have hl : ((C.take t).map f).length = t := by simp; omega
  rw [List.set_append_right t _ (by omega), hl, Nat.sub_self, List.drop_eq_getElem_cons h, List.set_cons_zero, List.take_add_one, List.getElem?_eq_getElem h, List.map_append]
  simp

noncomputable def byKeyS (g : List (List Int)) (key : List Int) : List (List Int) := (compsL g).map (byKeyL (keyAt key))

theorem compsL_rises {g : List (List Int)} (hg : rowsB g = true) {G : List Int} (h : G ∈ compsL g) : Rises G := by
  obtain ⟨k, hk, e⟩ := (left_groups hg).1 G (compsC_mem g _ _ G h)
  rw [e]; exact groupL_rises g k

set_option maxRecDepth 100000 in
set_option maxHeartbeats 4000000 in
theorem groupsByKey_any (v u : Value) (g : List (List Int)) (key : List Int) (w : World) (hv : Intss w v g) (hu : Ints w u key) (hk : keysB g key = true) :
    Calls Tryz.prog 107 #[v, u] w (NewSS (byKeyS g key) w) := by
  have HV := Lib.hid hv
  have HU := Lib.hid hu
  obtain ⟨av, cv, rfl, hlv, _, _⟩ := hv
  obtain ⟨au, cu, rfl, hlu, _, _⟩ := hu
  unfold maxLen at hlv hlu
  obtain ⟨hg, hkl, hr, hnd⟩ := keysB_of hk
  obtain ⟨ha, hb⟩ := goodG_of hg
  obtain ⟨F, hF⟩ : ∃ F, F = byKeyL (keyAt key) := ⟨_, rfl⟩
  obtain ⟨C, hC⟩ : ∃ C, C = compsL g := ⟨_, rfl⟩
  obtain ⟨hc1, hc2⟩ := compsL_size hb
  rw [← hC] at hc1 hc2
  have hin : ∀ G ∈ C, Rises G ∧ (∀ x ∈ G, 0 ≤ x ∧ x < (key.length : Int)) ∧ G.length ≤ 1048576 := fun G hG => by
    have h2 := hc2 G hG
    rw [hC] at hG
    refine ⟨compsL_rises ha hG, fun x hx => ?_, by omega⟩
    have := compsL_in ha hG x hx
    omega
  have hS : byKeyS g key = C.map F := by unfold byKeyS; rw [hC, hF]
  rw [hS]
  have HA := Lib.hid ha
  have HIN := Lib.hid hin
  have HKK := Lib.hid (And.intro hr hnd)
  have HF := Lib.hid hF
  have HC := Lib.hid hC
  obtain ⟨W1, hW1⟩ : ∃ W1, W1 = w.alloc (.cells #[.slice au key.length cu] 26) := ⟨_, rfl⟩
  have x1 : Ext w W1 := by rw [hW1]; exact Ext.alloc (Ext.refl _) _
  have hbx : W1.cell? ⟨w.heap.size, 0, none⟩ = some (.slice au key.length cu) := by rw [hW1]; exact cell_alloc_one _ _ _
  have X1 := Lib.hid x1
  have BX := Lib.hid hbx
  have HW1 := Lib.hid hW1
  clear hin hS ha hF hC hc2 hk hg hkl hr hnd x1 hbx hW1
  go_enter Tryz.func107, Tryz.ntmps107
  go_wp2_with fail
  rw [← HW1.out]
  refine (groupsInTurn_any g HA.out hb _ _ (HV.out.ext X1.out)).mono ?_
  rw [← HC.out]
  rintro e w2 ⟨v2, rfl, f2, x2⟩
  obtain ⟨VS, fv, hR⟩ := f2.vals
  obtain ⟨a2, c2, rfl⟩ := fv.len
  have hVL : VS.length = C.length := hR.len
  obtain ⟨B, hB⟩ : ∃ B, B = W1.heap.size := ⟨_, rfl⟩
  rw [← hB] at fv hR
  have HBB := Lib.hid hB
  have HR := Lib.hid (show Rows_ B w2 VS (doneTo C F 0) by rw [doneTo_zero]; exact hR)
  have HVL := Lib.hid hVL
  have FV := Lib.hid fv
  have X2 := Lib.hid x2
  have hn40 : VS.length ≤ 40 := by omega
  clear f2 fv hR hVL x2 hB HW1
  go_wp2
  go_loopw [7, 12] (fun _ i wr => ∃ t : Nat, t ≤ C.length ∧ i = .int .i64 t ∧ Hid (Rows_ B wr VS (doneTo C F t)) ∧ Hid (FreshV B wr (.slice a2 VS.length c2) VS) ∧ Hid (Ext W1 wr)) (fun _ i _ => C.length - (intOf i).toNat)
  case atStart => exact ⟨0, Nat.zero_le _, rfl, HR, FV, X2⟩
  case round =>
    clear HR FV X2
    obtain ⟨t, ht, rfl, hR, hV, hX⟩ := hrel
    obtain ⟨w3, hw3⟩ : ∃ x : World, x = wr := ⟨_, rfl⟩
    subst hw3
    by_cases hlt : t < C.length
    · have hlt2 : t < VS.length := by rw [HVL.out]; exact hlt
      obtain ⟨gv, cap, hvv, hc1, hc2⟩ := hV.out.form (n := VS.length) rfl (by omega)
      simp only [Value.slice.injEq, true_and] at hvv
      obtain ⟨rfl, rfl⟩ := hvv
      obtain ⟨z, hz⟩ : ∃ z, VS[t]? = some z := ⟨_, List.getElem?_eq_getElem hlt2⟩
      have zz := hV.out.at rfl hz
      have hfz := hR.out.row t z _ hz (doneTo_at C F hlt)
      obtain ⟨h1, h2, h3⟩ := HIN.out _ (List.getElem_mem hlt)
      have hst : ∀ W, w3.grownBy W z.ownBlock → W.cell? ⟨w.heap.size, 0, none⟩ = some (.slice au key.length cu) ∧ Ints W (.slice au key.length cu) key := fun W hW => by
        have e := hX.out.grown hW (fun b hb => by have := (World.ownsRow.lt hfz b hb).1; rw [HBB.out] at this; exact this)
        exact ⟨e.cell BX.out, (HU.out.ext X1.out).ext e⟩
      have HST := Lib.hid hst
      have HFZ := Lib.hid hfz
      have HZ := Lib.hid hz
      have H123 := Lib.hid (And.intro h1 (And.intro h2 h3))
      have HSET := Lib.hid (doneTo_set C F hlt)
      obtain ⟨G, hG⟩ : ∃ G, G = C[t] := ⟨_, rfl⟩
      rw [← hG] at HFZ H123 HSET
      clear hst hfz hz h1 h2 h3 hG
      go_wp2_with fail
      refine (sortByKey_any key _ _ B z G _ HST.out HKK.out.1 HKK.out.2 HFZ.out H123.out.1 H123.out.2.1 H123.out.2.2).mono ?_
      rintro e w4 ⟨⟨r, rfl⟩, f4, g4⟩
      rw [← HF.out] at f4
      have hR4 : Rows_ B w4 VS (doneTo C F (t + 1)) := by
        rw [← HSET.out]
        exact hR.out.mark HZ.out g4 f4
      have hV0 : w3.ownsRow B 26 1 (.slice (some ⟨gv, 0, none⟩) VS.length c2) VS.length VS := hV.out
      have hV4 : FreshV B w4 (.slice (some ⟨gv, 0, none⟩) VS.length c2) VS := World.ownsRow.kept hV0 g4 (types_apart HFZ.out hV0 (by decide))
      have hX4 : Ext W1 w4 := hX.out.grown g4 (fun b hb => by have := (World.ownsRow.lt HFZ.out b hb).1; rw [HBB.out] at this; exact this)
      have R4 := Lib.hid hR4
      have V4 := Lib.hid hV4
      have X4 := Lib.hid hX4
      clear f4 g4 hR4 hV0 hV4 hX4 zz
      go_wp2
      go_roundw
      case rel => exact ⟨t + 1, by omega, by go_num, R4, V4, X4⟩
      case measure => simp [intOf]; omega
    · obtain rfl : t = C.length := by omega
      have hRA := hR.out
      rw [doneTo_all] at hRA
      have HFIN := Lib.hid ((FreshV.ss hV.out hRA).more (show w.heap.size ≤ B by rw [HBB.out]; exact X1.out.size))
      have HXX := Lib.hid (X1.out.trans hX.out)
      have hno : ¬ C.length < VS.length := by have := HVL.out; omega
      clear hRA
      go_wp2
      go_ret
      exact ⟨_, rfl, HFIN.out, HXX.out⟩

end Go.Proofs.YtcpmfcigciknlaaGreat

namespace Go.Proofs.YtcpmfcigciknlaaGreat
open Go.RowKit Go.Shelf
set_option linter.unusedVariables false

theorem zeroCells_size (n : Nat) : (Builtin.zeroCells (Value.int .i64 0).cells n).size = n := by
  unfold Builtin.zeroCells
  simp [Value.cells]

theorem growI_none (n : Nat) (w : World) (hn : n ≤ 1048576) :
    Calls Tryz.prog 149 #[.slice none 0 0, .int .i64 n] w (NewInts [] w) := by
  by_cases h0 : n = 0
  · subst h0
    refine (Any8.slices_Grow_room Tryz.growI none 0 0 0 w (by omega) (by omega) (by omega) (by omega)).mono ?_
    rintro e w' ⟨rfl, rfl⟩
    exact ⟨_, rfl, fresh_nil _ _, Ext.refl _⟩
  · obtain ⟨i0, hi, hz0, hz1, hz2⟩ := info_parts Tryz.infoInt
    have h := Any8.slices_Grow_grow Tryz.growI i0 (.int .i64 0) hi hz0 (by omega) none 0 0 n [] w (by omega) (by omega) (by rw [hz2]; omega) (by omega) (by simp) (fun _ => rfl) (fun a ha => by cases ha)
    refine h.mono ?_
    rintro e w' ⟨rfl, rfl⟩
    have hge := grownCap_ge w (0 + n) 0 3
    have hle := grownCap_le_maxLen w (0 + n) 0 3 (by unfold maxLen; omega)
    refine ⟨_, rfl, ?_, (Ext.refl w).drew.alloc _⟩
    refine ⟨by simp, .inr ⟨w.heap.size, grownCap w (0 + n) 0 3, _, rfl, Nat.le_refl _, heap_alloc_new w.drew _, by simp, hle, ?_, by simp⟩⟩
    rw [Array.size_append, Array.size_append, zeroCells_size, zeroCells_size]
    have : (0 + n) - 0 = n := by omega
    simp
    have h2 := grownCap_ge w n 0 (Tryz.growI_ren.t 25)
    have h3 : grownCap w n 0 (Tryz.growI_ren.t 25) = grownCap w n 0 3 := rfl
    omega

theorem flat_sum (L : List (List Int)) : L.flatten.length = (L.map List.length).sum := List.length_flatten
theorem flat_take (L : List (List Int)) (t : Nat) : ((L.take t).flatten).length = sumTo L t := by rw [flat_sum]; rfl

set_option maxHeartbeats 4000000 in
theorem concat_any (v : Value) (L : List (List Int)) (w : World) (hv : Intss w v L) (hb : (L.map List.length).sum ≤ 1048576) :
    Calls Tryz.prog 106 #[v] w (NewInts L.flatten w) := by
  have HV := Lib.hid hv
  obtain ⟨av, cv, rfl, hlv, _, dv⟩ := hv
  unfold maxLen at hlv
  have DV := Lib.hid dv
  have HB := Lib.hid hb
  clear dv hb
  go_enter Tryz.func106, Tryz.ntmps106
  go_wp2
  go_loopw [3, 5, 11] (fun s _ i wr => ∃ t : Nat, t ≤ L.length ∧ i = .int .i64 t ∧ s = .int .i64 (sumTo L t) ∧ Ext w wr) (fun _ _ i _ => L.length - (intOf i).toNat)
  case atStart => exact ⟨0, Nat.zero_le _, rfl, by simp [sumTo], Ext.refl _⟩
  case round =>
    obtain ⟨t, ht, rfl, rfl, hx⟩ := hrel
    obtain ⟨w1, hw1⟩ : ∃ x : World, x = wr := ⟨_, rfl⟩
    subst hw1
    by_cases hlt : t < L.length
    · obtain ⟨bv, ov, rfl, ev⟩ := DV.out (by omega)
      obtain ⟨z, hz, iz⟩ := ev t hlt
      rw [List.getElem?_eq_getElem hlt, Option.getD_some] at iz
      have z1 := hx.cell hz
      have hss := sumTo_succ hlt
      have hm := sumTo_mono (L := L) (k := t + 1) (by omega)
      have hbb := HB.out
      obtain ⟨az, cz, rfl, hlz, _, _⟩ := iz
      unfold maxLen at hlz
      obtain ⟨m, hmm⟩ : ∃ m, m = (L[t]).length := ⟨_, rfl⟩
      rw [← hmm] at z1 hss hlz
      obtain ⟨s, hs⟩ : ∃ s, s = sumTo L t := ⟨_, rfl⟩
      rw [← hs] at hss ⊢
      have hsm : s + m ≤ 1048576 := by omega
      have HSS := Lib.hid hss
      have j0 : ¬ ((s : Int) + (m : Int) < 0) := by omega
      clear ev hz hss hm hbb hmm hs
      go_wp2
      go_roundw
      case rel => exact ⟨t + 1, by omega, by go_num, by rw [HSS.out]; go_num, hx⟩
      case measure => simp [intOf]; omega
    · obtain rfl : t = L.length := by omega
      have hsn : sumTo L L.length ≤ 1048576 := by rw [sumTo_all]; exact HB.out
      obtain ⟨s, hs⟩ : ∃ s, s = sumTo L L.length := ⟨_, rfl⟩
      rw [← hs] at hsn ⊢
      have HX := Lib.hid hx
      clear hs hx
      go_wp2_with fail
      refine (growI_none s _ hsn).mono ?_
      rintro e w2 ⟨v2, rfl, f2, x2⟩
      have F2 := Lib.hid f2
      have X2 := Lib.hid (HX.out.trans x2)
      have S2 := Lib.hid x2.size
      clear f2 x2
      go_wp2
      go_loopw [6, 8, 27] (fun vo _ i wr => ∃ t : Nat, t ≤ L.length ∧ i = .int .i64 t ∧ Fresh w.heap.size wr vo ((L.take t).flatten) ∧ Ext w wr) (fun _ _ i _ => L.length - (intOf i).toNat)
      case atStart => exact ⟨0, Nat.zero_le _, rfl, by simpa using F2.out.more HX.out.size, X2.out⟩
      case round =>
        obtain ⟨t, ht, rfl, hf, hx⟩ := hrel
        by_cases hlt2 : t < L.length
        · obtain ⟨bv, ov, rfl, ev⟩ := DV.out (by omega)
          obtain ⟨z, hz, iz⟩ := ev t hlt2
          rw [List.getElem?_eq_getElem hlt2, Option.getD_some] at iz
          have z1 := hx.cell hz
          have hst : (L.take (t + 1)).flatten = (L.take t).flatten ++ L[t] := by
            rw [List.take_add_one, List.getElem?_eq_getElem hlt2, List.flatten_append]
            simp
          have hbd : ((L.take t).flatten).length + (L[t]).length ≤ 1099511627776 := by
            have h1 := flat_take L t
            have h2 := sumTo_succ hlt2
            have h3 := sumTo_mono (L := L) (k := t + 1) (by omega)
            have := HB.out
            omega
          obtain ⟨G, hG⟩ : ∃ G, G = L[t] := ⟨_, rfl⟩
          rw [← hG] at iz hst hbd
          have IZ := Lib.hid (iz.ext hx)
          have HST := Lib.hid hst
          have HBD := Lib.hid hbd
          have HF := Lib.hid hf
          have HXX := Lib.hid hx
          clear ev hz iz hst hbd hG hf hx
          go_wp2_with (at_builtin; refine wpList_join rfl _ _ rfl w.heap.size _ _ ((L.take t).flatten) G rfl HF.out rfl IZ.out HBD.out HXX.out.size ?_)
          intro v4 w4 f4 g4 k4
          have e4 : Ext w w4 := k4 w HXX.out (Nat.le_refl _)
          rw [← HST.out] at f4
          have F4 := Lib.hid f4
          have E4 := Lib.hid e4
          clear f4 g4 k4 e4
          go_wp2
          go_roundw
          case rel => exact ⟨t + 1, by omega, by go_num, F4.out, E4.out⟩
          case measure => simp [intOf]; omega
        · obtain rfl : t = L.length := by omega
          rw [List.take_length] at hf
          have HF := Lib.hid hf
          clear hf
          go_wp2
          go_ret
          exact ⟨_, rfl, HF.out, hx⟩

end Go.Proofs.YtcpmfcigciknlaaGreat

namespace Go.Proofs.YtcpmfcigciknlaaGreat
open Go.RowKit
set_option linter.unusedVariables false

theorem orderL_flat (g : List (List Int)) (key : List Int) : orderL g key = (byKeyS g key).flatten := by
  unfold orderL byKeyS
  rw [List.flatMap_def]
theorem byKeyS_sum {g : List (List Int)} (hl : g.length ≤ 40) (key : List Int) : ((byKeyS g key).map List.length).sum ≤ 1600 := by
  rw [← List.length_flatten, ← orderL_flat]
  obtain ⟨h1, h2⟩ := compsL_size hl
  have h3 := flat_len 40 h2 (byKeyL (keyAt key)) (byKeyL_len _)
  have h4 : (compsL g).length * 40 ≤ 40 * 40 := Nat.mul_le_mul_right _ h1
  unfold orderL
  omega

set_option maxHeartbeats 4000000 in
theorem implOrder_any (v u : Value) (g : List (List Int)) (key : List Int) (w : World) (hv : Intss w v g) (hu : Ints w u key) :
    Calls Tryz.prog 59 #[v, u] w (TwoInts (orderA g key) (keysB g key) w) := by
  have HV := Lib.hid hv
  have HU := Lib.hid hu
  obtain ⟨av, cv, rfl, hlv, _, _⟩ := hv
  obtain ⟨au, cu, rfl, hlu, _, _⟩ := hu
  unfold maxLen at hlv hlu
  have hkq := keysB_eq g key
  cases hg : goodG g with
  | false =>
    have hk : keysB g key = false := by rw [hkq, hg]; rfl
    have hc : orderA g key = [] := by unfold orderA; rw [hk]; rfl
    rw [hc, hk]
    have HG := Lib.hid hg
    clear hg hc hk hkq
    go_enter Tryz.func59, Tryz.ntmps59
    go_wp2_with fail
    refine (implGoodGraph_any _ _ _ HV.out).mono ?_
    rintro e w1 ⟨rfl, x1⟩
    rw [HG.out]
    go_wp2
    go_ret2
    exact ⟨_, rfl, fresh_nil _ _, x1⟩
  | true =>
    rw [hg, Bool.true_and] at hkq
    cases hk : keysB g key with
    | false =>
      have hc : orderA g key = [] := by unfold orderA; rw [hk]; rfl
      rw [hc]
      have HK := Lib.hid (hkq.symm.trans hk)
      have HG := Lib.hid hg
      clear hg hc hk hkq
      go_enter Tryz.func59, Tryz.ntmps59
      go_wp2_with fail
      refine (implGoodGraph_any _ _ _ HV.out).mono ?_
      rintro e w1 ⟨rfl, x1⟩
      have X1 := Lib.hid x1
      rw [HG.out]
      clear x1
      go_wp2_with fail
      refine (arePointKeys_any _ key g.length _ (HU.out.ext X1.out)).mono ?_
      rintro e w2 ⟨rfl, x2⟩
      have X2 := Lib.hid (X1.out.trans x2)
      rw [HK.out]
      clear x2
      go_wp2
      go_ret2
      exact ⟨_, rfl, fresh_nil _ _, X2.out⟩
    | true =>
      have hc : orderA g key = (byKeyS g key).flatten := by unfold orderA; rw [hk, if_pos rfl, orderL_flat]
      rw [hc]
      obtain ⟨_, hl⟩ := goodG_of hg
      have hsum := byKeyS_sum hl key
      have hby := fun W (h : Ext w W) => groupsByKey_any _ _ g key W (HV.out.ext h) (HU.out.ext h) hk
      obtain ⟨D, hD⟩ : ∃ D, D = byKeyS g key := ⟨_, rfl⟩
      rw [← hD] at hsum hby ⊢
      have HBY := Lib.hid hby
      have HSUM := Lib.hid hsum
      have HK := Lib.hid (hkq.symm.trans hk)
      have HG := Lib.hid hg
      clear hg hc hk hkq hl hsum hby hD
      go_enter Tryz.func59, Tryz.ntmps59
      go_wp2_with fail
      refine (implGoodGraph_any _ _ _ HV.out).mono ?_
      rintro e w1 ⟨rfl, x1⟩
      have X1 := Lib.hid x1
      rw [HG.out]
      clear x1
      go_wp2_with fail
      refine (arePointKeys_any _ key g.length _ (HU.out.ext X1.out)).mono ?_
      rintro e w2 ⟨rfl, x2⟩
      have X2 := Lib.hid (X1.out.trans x2)
      rw [HK.out]
      clear x2
      go_wp2_with fail
      refine (HBY.out _ X2.out).mono ?_
      rintro e w3 ⟨v3, rfl, f3, x3⟩
      have F3 := Lib.hid f3.intss
      have X3 := Lib.hid (X2.out.trans x3)
      clear f3 x3
      go_wp2_with fail
      refine (concat_any _ D _ F3.out (by have := HSUM.out; omega)).mono ?_
      rintro e w4 ⟨v4, rfl, f4, x4⟩
      have F4 := Lib.hid (f4.more X3.out.size)
      have X4 := Lib.hid (X3.out.trans x4)
      clear f4 x4
      go_wp2
      go_ret2
      exact ⟨_, rfl, F4.out, X4.out⟩

end Go.Proofs.YtcpmfcigciknlaaGreat

namespace Go.Proofs.YtcpmfcigciknlaaGreat
open Go.RowKit Go.Maps
set_option linter.unusedVariables false

theorem field_attrS (s : Int) (u : Value) (W : World) : (Instr.field 81 (.agg #[.int .i64 s, u]) 0).run Tryz.prog W = .ok (.int .i64 s) W := by kernel_rfl
/-- The first k cells hold the numbers. -/
def IntsTo (xs : List Value) (K : List Int) (k : Nat) : Prop := ∀ j, j < k → xs[j]? = some (.int .i64 (K[j]?.getD 0))
theorem IntsTo.put {xs : List Value} {K : List Int} {k : Nat} {x : Int} (h : IntsTo xs K k) (hk : k < xs.length) (hx : K[k]?.getD 0 = x) : IntsTo (xs.set k (.int .i64 x)) K (k + 1) := fun j hj => by
  by_cases e : j = k
  · subst e
    rw [List.getElem?_set_self hk, hx]
  · rw [List.getElem?_set_ne (fun h => e h.symm)]
    exact h j (by omega)
theorem IntsTo.ints {w : World} {g m : Nat} {xs : List Value} {K : List Int} (hb : BoxV w g xs) (hK : K.length = m) (hm : m ≤ maxLen) (h : IntsTo xs K m) : Ints w (.slice (some ⟨g, 0, none⟩) m m) K := by
  subst hK
  refine ⟨some ⟨g, 0, none⟩, K.length, rfl, hm, ⟨Nat.le_refl _, hm, fun h => by cases h⟩, fun _ => ⟨g, 0, rfl, fun j hj => ?_⟩⟩
  rw [Nat.zero_add]
  exact hb.cell j _ (h j hj)
/-- The first k pairs of cells hold the instances. -/
def PtsTo (xs : List Value) (P : List (Nat × Nat)) (k : Nat) : Prop := ∀ j (h : j < P.length), j < k → xs[j * 2]? = some (.int .i64 (P[j].1 : Int)) ∧ xs[j * 2 + 1]? = some (.int .i64 ((P[j].2 : Int) + 1))
theorem PtsTo.put {xs : List Value} {P : List (Nat × Nat)} {k : Nat} {x : Nat × Nat} (h : PtsTo xs P k) (hl : xs.length = P.length * 2) (hk : k < P.length) (hx : P[k] = x) : PtsTo ((xs.set (k * 2) (.int .i64 (x.1 : Int))).set (k * 2 + 1) (.int .i64 ((x.2 : Int) + 1))) P (k + 1) := fun j hj hjk => by
  by_cases e : j = k
  · subst e
    rw [hx]
    refine ⟨?_, ?_⟩
    · rw [List.getElem?_set_ne (by omega), List.getElem?_set_self (by omega)]
    · rw [List.getElem?_set_self (by rw [List.length_set]; omega)]
  · obtain ⟨h1, h2⟩ := h j hj (by omega)
    refine ⟨?_, ?_⟩
    · rw [List.getElem?_set_ne (by omega), List.getElem?_set_ne (by omega)]; exact h1
    · rw [List.getElem?_set_ne (by omega), List.getElem?_set_ne (by omega)]; exact h2
theorem PtsTo.insts {w : World} {g m : Nat} {xs : List Value} {P : List (Nat × Nat)} (hb : BoxV w g xs) (hP : P.length = m) (hm : m ≤ maxLen) (h : PtsTo xs P m) : InstsAt w (.slice (some ⟨g, 0, none⟩) m m) P := by
  subst hP
  refine ⟨some ⟨g, 0, none⟩, P.length, rfl, hm, ⟨Nat.le_refl _, hm, fun h => by cases h⟩, fun _ => ⟨g, 0, rfl, fun j hj => ?_⟩⟩
  obtain ⟨h1, h2⟩ := h j hj hj
  rw [Nat.zero_add]
  exact ⟨hb.cell _ _ h1, hb.cell _ _ h2⟩
set_option maxHeartbeats 4000000 in
set_option maxRecDepth 100000 in
theorem implOrderIn_any (n : Int) (u : Value) (T : List (List RowD)) (w : World) (hu : Rowzz w u T) (hs : bulkT T ≤ 1099511627776) :
    Calls Tryz.prog 28 #[.agg #[.int .i64 n, u]] w (TwoIntss (orderR n T) (goodTab n T) w) := by
  obtain ⟨P, hP⟩ : ∃ P, P = orderR n T := ⟨_, rfl⟩
  obtain ⟨g, hg⟩ : ∃ g, g = goodTab n T := ⟨_, rfl⟩
  rw [← hP, ← hg]
  have HS := Lib.hid hs
  have hx0 := Ext.alloc1 w (.cells #[.int .i64 n, u] 32)
  have b0 := attrAt_new w 32 n u
  have HU := Lib.hid (hu.ext hx0)
  have HX := Lib.hid hx0
  have HP := Lib.hid hP
  have HGG := Lib.hid hg
  obtain ⟨au, cu, rfl, hlu, _, _⟩ := hu
  clear hx0 hs hP hg
  go_enter Tryz.func28, Tryz.ntmps28
  go_wp2_with fail
  refine (implGoodTable_any n _ T _ HU.out HS.out).mono ?_
  rintro e w1 ⟨rfl, x1⟩
  rw [← HGG.out]
  cases g with
  | false =>
    have eP : P = [] := by rw [HP.out]; unfold orderR; rw [← HGG.out]; rfl
    have X1 := Lib.hid (HX.out.trans x1)
    have EP := Lib.hid eP
    clear eP
    go_wp2
    go_ret2
    rw [EP.out]
    exact ⟨_, rfl, FreshSS.nil _ _, X1.out⟩
  | true =>
    have EP : Hid (P = (ordPts n T).map pairOf) := Lib.hid (by rw [HP.out, ordPts_pairs]; unfold orderR; rw [← HGG.out]; rfl)
    have H56 := Lib.hid (goodTab_both HGG.out.symm)
    obtain ⟨U, hU⟩ := tabAt_of (HU.out.ext x1)
    have HT := Lib.hid hU
    have X1 := Lib.hid (HX.out.trans x1)
    have HL := Lib.hid (hU.lists n)
    obtain ⟨c1, c2⟩ := b0.ext x1
    clear x1 hU HU b0 HP
    go_wp2_with fail
    refine (readyIn_any n _ T U _ HT.out HGG.out.symm).mono ?_
    rintro e w2 ⟨B, D, rfl, m2, d2, hb2, x2⟩
    have M2 := Lib.hid m2
    have D2 := Lib.hid d2
    have X2 := Lib.hid (X1.out.trans x2)
    have HL2 := Lib.hid (HL.out.ext x2)
    clear m2 d2 hb2 x2 c1 c2 X1 HT HL
    go_wp2_with fail
    refine (inOrderRow_any B 30 D (readyB n T) (rowOf n T) U _ M2.out D2.out (by omega)).mono ?_
    rintro e w3 ⟨v3, L, rfl, f3, hlex, hmem, x3⟩
    have eL : L = readyL n T := readyL_of hlex hmem
    subst eL
    have hi3 := f3.at
    obtain ⟨a3, k3, rfl, _, _, hc3⟩ := id hi3
    obtain ⟨L, hL⟩ : ∃ L, L = readyL n T := ⟨_, rfl⟩
    have hLM : ∀ x ∈ L, readyB n T x.1 x.2 = true ∧ x.1 ≤ 4 ∧ x.2 ≤ 5 ∧ 0 ≤ (rowOf n T x.1 x.2).s ∧ (rowOf n T x.1 x.2).s ≤ 999 := fun x hx => ready_low HGG.out.symm (by rw [← hL]; exact hx)
    have hL30 : L.length ≤ 30 := by rw [hL]; exact readyL_short HGG.out.symm
    rw [← hL] at hi3 hc3 ⊢
    obtain ⟨m, hm⟩ : ∃ m, m = L.length := ⟨_, rfl⟩
    rw [← hm] at hL30 hi3 ⊢
    have I3 := Lib.hid hi3
    have C3 := Lib.hid hc3
    have X3 := Lib.hid (X2.out.trans x3)
    have M3 := Lib.hid (M2.out.ext x3)
    have HL3 := Lib.hid (HL2.out.ext x3)
    have HLE := Lib.hid hL
    have HLM := Lib.hid hLM
    have HMM := Lib.hid hm
    obtain ⟨K, hK⟩ : ∃ K, K = keysP n T L := ⟨_, rfl⟩
    have HK := Lib.hid hK
    have HKL : Hid (K.length = m) := Lib.hid (by rw [hK, hm]; simp [keysP])
    obtain ⟨i0, hi, hz0, hz1, hz2⟩ := info_parts Tryz.infoInt
    clear f3 hlex hmem x3 M2 X2 HL2 hi3 hc3 hL hLM hm hK
    go_wp2_with (at_make; refine wpList_make_full _ rfl _ _ 26 rfl w3.heap.size 3 i0 (.int .i64 0) 1 Tryz.underlying26 hi hz0 hz1 _ _ _ _ m rfl rfl rfl rfl ?c1 ?c2 ?c3 ?_)
    case c1 => rw [hz2]; omega
    case c2 => unfold maxLen; omega
    case c3 => simp
    intro w4 ho4 hg4
    have hx4 : Ext w3 w4 := ext_of_grown hg4
    have hsz : w3.heap.size < w4.heap.size := by
      rcases ho4.2 with ⟨h, _⟩ | ⟨g, cap, cur, h, hb, hg, _⟩
      · cases h
      · simp only [Value.slice.injEq, Option.some.injEq, Addr.mk.injEq, and_true, true_and] at h
        obtain ⟨rfl, _⟩ := h
        exact (Array.getElem?_eq_some_iff.1 hg).1
    obtain ⟨xs0, hxs⟩ : ∃ xs, xs = (madeCells #[.int .i64 0] m).toList := ⟨_, rfl⟩
    rw [← hxs] at ho4
    have hlx : xs0.length = m := by have := ho4.1; omega
    have hbx : BoxV w4 w3.heap.size xs0 := ⟨fun j v hj => by
      rw [ho4.cellAt _ (by have := (List.getElem?_eq_some_iff.1 hj).1; omega)]; exact hj, fun j _ => ho4.frozenAt j, hsz⟩
    have HBX := Lib.hid hbx
    have HX4 := Lib.hid hx4
    obtain ⟨g4, hgq⟩ : ∃ g, g = w3.heap.size := ⟨_, rfl⟩
    rw [← hgq] at HBX ⊢
    have HG4 := Lib.hid hgq
    clear ho4 hg4 hz0 hz1 hz2 hi hx4 hsz hxs hbx hgq
    go_wp2
    go_loopw [7, 8, 26] (fun _ _ i wr => ∃ (k : Nat) (xs : List Value), k ≤ m ∧ i = .int .i64 k ∧ Hid (BoxV wr g4 xs) ∧ xs.length = m ∧ Hid (IntsTo xs K k) ∧ Hid (Ext w3 wr)) (fun _ _ i _ => m - (intOf i).toNat)
    case atStart => exact ⟨0, xs0, Nat.zero_le _, rfl, HBX, hlx, Lib.hid (fun j h => by omega), HX4⟩
    case round =>
      clear HBX HX4 hlx
      obtain ⟨k, xs, hk, rfl, hB, hl, hT, hX⟩ := hrel
      by_cases hlt : k < m
      · have hkL : k < L.length := by rw [← HMM.out]; exact hlt
        obtain ⟨bu, ou, rfl, du⟩ := C3.out (by omega)
        obtain ⟨q0, q1⟩ := du k hkL
        obtain ⟨x, hx⟩ : ∃ x, x = L[k] := ⟨_, rfl⟩
        rw [← hx] at q0 q1
        have p0 := hX.out.cell q0
        have p1 := hX.out.cell q1
        have hxm : x ∈ L := by rw [hx]; exact List.getElem_mem hkL
        obtain ⟨hr, hp4, hq5, hs0, hs9⟩ := HLM.out x hxm
        have hkx : K[k]?.getD 0 = keyOf1 n T x := by
          rw [HK.out]
          unfold keysP
          rw [List.getElem?_map, List.getElem?_eq_getElem hkL, ← hx]
          rfl
        obtain ⟨p, q⟩ := x
        dsimp only at hr hp4 hq5 hs0 hs9
        have hkx2 : K[k]?.getD 0 = 100 * (rowOf n T p q).s + 10 * (p : Int) + ((q : Int) + 1) := hkx
        obtain ⟨w9, hw9⟩ : ∃ w9, w9 = wr.alloc (.cells #[.int .i64 p, .int .i64 ((q : Int) + 1)] 101) := ⟨_, rfl⟩
        have x9 : Ext wr w9 := by rw [hw9]; exact Ext.alloc1 _ _
        have hb9 : BoxV w9 wr.heap.size [.int .i64 p, .int .i64 ((q : Int) + 1)] := by rw [hw9]; exact boxV_new _ _ _
        have HW9 := Lib.hid hw9
        have HKX := Lib.hid hkx2
        have hlk := fun (W : World) (e : Ext w3 W) => look_inst (M3.out.ext e) D2.out hr
        unfold rowF rowV at hlk
        obtain ⟨r, hrr⟩ : ∃ r, r = rowOf n T p q := ⟨_, rfl⟩
        rw [← hrr] at hlk HKX hs0 hs9
        have l1 := hlk w9 (hX.out.trans x9)
        have l2 := hlk w9.drew ((hX.out.trans x9).trans (Ext.drew (Ext.refl _)))
        have b0 := hb9.cell 0 _ rfl
        have b1 := hb9.cell 1 _ rfl
        have hB9 := hB.out.ext x9
        obtain ⟨o0, g0⟩ : ∃ v, w9.cell? ⟨g4, k, none⟩ = some v := ⟨_, hB9.cell k _ (List.getElem?_eq_getElem (by omega))⟩
        have n0 := hB9.free k (by omega)
        have hfd := field_rowA r.b r.v r.st r.k r.i r.f r.t r.a r.s (U p q)
        have hfe := field_attrS r.s (U p q)
        have e1 : IntKind.i64.wrap (100 * r.s) = 100 * r.s := IntWalk.i64_in _ (by omega)
        have e2 : IntKind.i64.wrap (10 * (p : Int)) = 10 * (p : Int) := IntWalk.i64_in _ (by omega)
        have e3 : IntKind.i64.wrap (100 * r.s + 10 * (p : Int)) = 100 * r.s + 10 * (p : Int) := IntWalk.i64_in _ (by omega)
        have e4 : IntKind.i64.wrap (100 * r.s + 10 * (p : Int) + ((q : Int) + 1)) = 100 * r.s + 10 * (p : Int) + ((q : Int) + 1) := IntWalk.i64_in _ (by omega)
        have HB9 := Lib.hid hB9
        have HX9 := Lib.hid (hX.out.trans x9)
        clear du q0 q1 hx hxm hr hkx hkx2 hw9 hb9 hlk hrr hB9 hB hX x9
        go_upto_region 9 with fail
        rw [← HW9.out]
        clear p0 p1
        go_wp2_with fail
        go_region_law (fail)
        all_goals
          have HBN := Lib.hid ((HB9.out.set k (.int .i64 (100 * r.s + 10 * (p : Int) + ((q : Int) + 1))) (by omega)).ext (Ext.drew (Ext.refl _)))
          have HTN := Lib.hid (hT.out.put (by omega) HKX.out)
          have HXN : Hid (Ext w3 ((w9.setCell ⟨g4, k, none⟩ (.int .i64 (100 * r.s + 10 * (p : Int) + ((q : Int) + 1)))).drew)) := Lib.hid (Ext.drew (HX9.out.setc (by show w3.heap.size ≤ g4; rw [HG4.out]; exact Nat.le_refl _)))
          clear l1 l2 b0 b1 g0 n0 hfd hfe e1 e2 e3 e4 HB9 HX9
          go_wp2
          go_roundw
          case rel => exact ⟨k + 1, _, by omega, by go_num, HBN, by rw [List.length_set]; exact hl, HTN, HXN⟩
          case measure => simp [intOf]; omega
      · obtain rfl : k = m := by omega
        have HI := Lib.hid (IntsTo.ints hB.out HKL.out (by unfold maxLen; omega) hT.out)
        have I4 := Lib.hid (I3.out.ext hX.out)
        have M4 := Lib.hid (M3.out.ext hX.out)
        have HL4 := Lib.hid (HL3.out.ext hX.out)
        have XW := Lib.hid (X3.out.trans hX.out)
        have XL := Lib.hid hX.out
        clear hB hl hT hX M3 HL3
        go_wp2_with fail
        refine (graphAmong_any n T U L _ B 30 D (readyB n T) _ I4.out (by have := HMM.out; omega) M4.out D2.out (fun x hx => (HLM.out x hx).1) (fun p q h => readyB_com h) HGG.out.symm HL4.out).mono ?_
        rintro e w5 ⟨vg, rfl, fg, x5⟩
        have IG := Lib.hid fg.intss
        have X5 := Lib.hid x5
        clear fg x5 M4 HL4 D2
        go_wp2_with fail
        refine (implOrder_any _ _ (graphP n T L) K _ IG.out (HI.out.ext X5.out)).mono ?_
        have hk : keysB (graphP n T L) K = true := by rw [HK.out, HLE.out]; exact keysP_good HGG.out.symm
        obtain ⟨O, hO⟩ : ∃ O, O = orderL (graphP n T L) K := ⟨_, rfl⟩
        rw [show orderA (graphP n T L) K = O by unfold orderA; rw [hk, if_pos rfl, hO], hk]
        rintro e w6 ⟨vo, rfl, fo, x6⟩
        have hgl : (graphP n T L).length = k := by rw [HMM.out]; simp [graphP]
        have hpm := orderL_perm (goodG_of (keysB_of hk).1).1 K
        rw [← hO, hgl] at hpm
        have hin : ∀ z ∈ O, 0 ≤ z ∧ z < (k : Int) := fun z hz => (rangeI_mem _ _).1 (hpm.mem_iff.1 hz)
        have hol : O.length = k := by rw [hpm.length_eq, rangeI_len]
        obtain ⟨ao, co, rfl, hlo, _, dO⟩ := fo.ints
        have X6 := Lib.hid (X5.out.trans x6)
        have HDO := Lib.hid dO
        have HIN := Lib.hid hin
        obtain ⟨Q, hQ⟩ : ∃ Q, Q = O.map fun z => L[z.toNat]?.getD (0, 0) := ⟨_, rfl⟩
        have HQ := Lib.hid hQ
        have HQE : Hid (Q = ordPts n T) := Lib.hid (by rw [hQ, hO, HK.out, HLE.out]; rfl)
        have HQL : Hid (Q.length = O.length) := Lib.hid (by rw [hQ]; simp)
        obtain ⟨c, hc⟩ : ∃ c, c = O.length := ⟨_, rfl⟩
        rw [← hc] at hol ⊢
        have HCO := Lib.hid hc
        obtain ⟨i0, hi, hz0, hz1, hz2⟩ := info_parts Tryz.infoInst
        have hc30 : c ≤ 30 := by omega
        have HX5I := Lib.hid (I4.out.ext X6.out)
        clear fo x6 hk hO hgl hpm hin dO hQ hc hol I4 IG HI hlo
        go_wp2_with (at_make; refine wpList_make_full _ rfl _ _ 108 rfl w6.heap.size 101 i0 _ 2 Tryz.underlying108 hi hz0 hz1 _ _ _ _ c rfl rfl rfl rfl ?c1 ?c2 ?c3 ?_)
        case c1 => rw [hz2]; omega
        case c2 => unfold maxLen; omega
        case c3 => simp
        intro w7 ho7 hg7
        have hx7 : Ext w6 w7 := ext_of_grown hg7
        have hsz : w6.heap.size < w7.heap.size := by
          rcases ho7.2 with ⟨h, _⟩ | ⟨g, cap, cur, h, hb, hg, _⟩
          · cases h
          · simp only [Value.slice.injEq, Option.some.injEq, Addr.mk.injEq, and_true, true_and] at h
            obtain ⟨rfl, _⟩ := h
            exact (Array.getElem?_eq_some_iff.1 hg).1
        obtain ⟨ys0, hys⟩ : ∃ ys, ys = (madeCells #[.int .i64 0, .int .i64 0] (c * 2)).toList := ⟨_, rfl⟩
        rw [← hys] at ho7
        have hly : ys0.length = c * 2 := ho7.1
        have hby : BoxV w7 w6.heap.size ys0 := ⟨fun j v hj => by
          rw [ho7.cellAt _ (by have := (List.getElem?_eq_some_iff.1 hj).1; omega)]; exact hj, fun j _ => ho7.frozenAt j, hsz⟩
        have HBY := Lib.hid hby
        have HX7 := Lib.hid hx7
        obtain ⟨g7, hgq⟩ : ∃ g, g = w6.heap.size := ⟨_, rfl⟩
        rw [← hgq] at HBY ⊢
        have HG7 := Lib.hid hgq
        clear ho7 hg7 hz0 hz1 hz2 hi hx7 hsz hys hby hgq
        go_wp2
        go_loopw [12, 13, 61] (fun _ _ i wr => ∃ (t : Nat) (ys : List Value), t ≤ c ∧ i = .int .i64 t ∧ Hid (BoxV wr g7 ys) ∧ ys.length = c * 2 ∧ Hid (PtsTo ys Q t) ∧ Hid (Ext w6 wr)) (fun _ _ i _ => c - (intOf i).toNat)
        case atStart => exact ⟨0, ys0, Nat.zero_le _, rfl, HBY, hly, Lib.hid (fun j _ h => by omega), HX7⟩
        case round =>
          clear HBY HX7 hly
          obtain ⟨t, ys, ht, rfl, hB, hl, hT, hX⟩ := hrel
          by_cases htl : t < c
          · have htO : t < O.length := by rw [← HCO.out]; exact htl
            obtain ⟨bo, oo, rfl, eo⟩ := HDO.out (by omega)
            have go := hX.out.cell (eo t htO)
            obtain ⟨z, hz⟩ : ∃ z, z = O[t] := ⟨_, rfl⟩
            rw [List.getElem?_eq_getElem htO, Option.getD_some, ← hz] at go
            have hzb := HIN.out z (by rw [hz]; exact List.getElem_mem htO)
            obtain ⟨j, rfl⟩ : ∃ j : Nat, z = (j : Int) := ⟨z.toNat, by omega⟩
            have hjk : j < k := by omega
            have hjL : j < L.length := by rw [← HMM.out]; exact hjk
            obtain ⟨bu, ou, rfl, du⟩ := C3.out (by omega)
            obtain ⟨q0, q1⟩ := du j hjL
            obtain ⟨x, hx⟩ : ∃ x, x = L[j] := ⟨_, rfl⟩
            rw [← hx] at q0 q1
            have xx := (XL.out.trans X6.out).trans hX.out
            have p0 := xx.cell q0
            have p1 := xx.cell q1
            have hQt : Q[t]'(by rw [HQL.out]; exact htO) = x := by
              have h1 : Q[t]? = some x := by
                rw [HQ.out, List.getElem?_map, List.getElem?_eq_getElem htO, ← hz]
                show some (L[(j : Int).toNat]?.getD (0, 0)) = some x
                rw [Int.toNat_natCast, List.getElem?_eq_getElem hjL, ← hx]
                rfl
              exact (List.getElem?_eq_some_iff.1 h1).2
            obtain ⟨o0, g0⟩ : ∃ v, wr.cell? ⟨g7, t * 2, none⟩ = some v := ⟨_, hB.out.cell (t * 2) _ (List.getElem?_eq_getElem (by omega))⟩
            obtain ⟨o1, g1⟩ : ∃ v, wr.cell? ⟨g7, t * 2 + 1, none⟩ = some v := ⟨_, hB.out.cell (t * 2 + 1) _ (List.getElem?_eq_getElem (by omega))⟩
            have n0 := hB.out.free (t * 2) (by omega)
            have n1 := hB.out.free (t * 2 + 1) (by omega)
            have HQT := Lib.hid hQt
            clear eo hz hx hQt xx du q0 q1
            go_wp2
            have HBN := Lib.hid ((hB.out.set (t * 2) (.int .i64 (x.1 : Int)) (by omega)).set (t * 2 + 1) (.int .i64 ((x.2 : Int) + 1)) (by rw [List.length_set]; omega))
            have HTN := Lib.hid (hT.out.put (by rw [HQL.out, ← HCO.out]; exact hl) (by rw [HQL.out]; exact htO) HQT.out)
            have HXN : Hid (Ext w6 ((wr.setCell ⟨g7, t * 2, none⟩ (.int .i64 (x.1 : Int))).setCell ⟨g7, t * 2 + 1, none⟩ (.int .i64 ((x.2 : Int) + 1)))) := Lib.hid ((hX.out.setc (by show w6.heap.size ≤ g7; rw [HG7.out]; exact Nat.le_refl _)).setc (by show w6.heap.size ≤ g7; rw [HG7.out]; exact Nat.le_refl _))
            clear go p0 p1 g0 g1 n0 n1 hB hT hX
            go_roundw
            case rel => exact ⟨t + 1, _, by omega, by go_num, HBN, by rw [List.length_set, List.length_set]; exact hl, HTN, HXN⟩
            case measure => simp [intOf]; omega
          · obtain rfl : t = c := by omega
            have HII := Lib.hid (PtsTo.insts hB.out (by rw [HQL.out, HCO.out]) (by unfold maxLen; omega) hT.out)
            have XN := Lib.hid ((XW.out.trans X6.out).trans hX.out)
            clear hB hl hT hX
            go_wp2_with fail
            refine (pairsOf_any _ Q _ HII.out (by have := HQL.out; have := HCO.out; omega)).mono ?_
            rintro e w8 ⟨v8, rfl, f8, x8⟩
            have F8 := Lib.hid (f8.more XN.out.size)
            have X8 := Lib.hid (XN.out.trans x8)
            clear f8 x8
            go_wp2
            go_ret2
            rw [EP.out, ← HQE.out]
            exact ⟨_, rfl, F8.out, X8.out⟩
end Go.Proofs.YtcpmfcigciknlaaGreat

namespace Go.Proofs.YtcpmfcigciknlaaGreat
open Go.RowKit
set_option linter.unusedVariables false

structure LeadD where
  rp : Int
  no : Int
  bl : Int
  ph : Int
  k : Int
  i : Int
  f : Int
  t : Int
  a : Int
  s1 : Int
  l1 : List Int
  s2 : Int
  l2 : List Int
  sm : Bool
  who : List Int
  seen : List RowD
/-- Its cells, the lists in the slices u1 .. u4. -/
def leadVs (d : LeadD) (u1 u2 u3 u4 : Value) : List Value := [.int .i64 d.rp, .int .i64 d.no, .int .i64 d.bl, .int .i64 d.ph, .int .i64 d.k, .int .i64 d.i, .int .i64 d.f, .int .i64 d.t, .int .i64 d.a, .int .i64 d.s1, u1, .int .i64 d.s2, u2, .bool d.sm, u3, u4]
/-- Its lists read so. -/
structure LeadL (w : World) (d : LeadD) (u1 u2 u3 u4 : Value) : Prop where
  i1 : Ints w u1 d.l1
  i2 : Ints w u2 d.l2
  i3 : Ints w u3 d.who
  i4 : Rowz w u4 d.seen
theorem LeadL.ext {w w' : World} {d : LeadD} {u1 u2 u3 u4 : Value} (h : LeadL w d u1 u2 u3 u4) (e : Ext w w') : LeadL w' d u1 u2 u3 u4 := ⟨h.i1.ext e, h.i2.ext e, h.i3.ext e, h.i4.ext e⟩
/-- The cells lie in block b from o on. -/
def LeadIn (w : World) (b o : Nat) (d : LeadD) (u1 u2 u3 u4 : Value) : Prop := ∀ j v, (leadVs d u1 u2 u3 u4)[j]? = some v → w.cell? ⟨b, o + j, none⟩ = some v
theorem LeadIn.ext {w w' : World} {b o : Nat} {d : LeadD} {u1 u2 u3 u4 : Value} (h : LeadIn w b o d u1 u2 u3 u4) (e : Ext w w') : LeadIn w' b o d u1 u2 u3 u4 := fun j v hj => e.cell (h j v hj)
/-- v is a slice that reads as the leads L in w. -/
def Leadz (w : World) (v : Value) (L : List LeadD) : Prop :=
  ∃ ao cap, v = .slice ao L.length cap ∧ L.length ≤ maxLen ∧ (L.length ≤ cap ∧ cap ≤ maxLen ∧ (ao = none → cap = 0)) ∧
    (0 < L.length → ∃ b off, ao = some ⟨b, off, none⟩ ∧ ∀ j (h : j < L.length), ∃ u1 u2 u3 u4, LeadIn w b (off + j * 16) L[j] u1 u2 u3 u4 ∧ LeadL w L[j] u1 u2 u3 u4)
theorem Leadz.ext {w w' : World} {v : Value} {L : List LeadD} (h : Leadz w v L) (e : Ext w w') : Leadz w' v L := by
  obtain ⟨ao, cap, hv, hm, hcap, hc⟩ := h
  refine ⟨ao, cap, hv, hm, hcap, fun hp => ?_⟩
  obtain ⟨b, off, ha, hc⟩ := hc hp
  refine ⟨b, off, ha, fun j hj => ?_⟩
  obtain ⟨u1, u2, u3, u4, hu, hi⟩ := hc j hj
  exact ⟨u1, u2, u3, u4, hu.ext e, hi.ext e⟩
theorem Leadz.nil (w : World) : Leadz w (.slice none 0 0) [] := ⟨none, 0, rfl, by simp, ⟨by simp, by simp, fun _ => rfl⟩, fun h => by simp at h⟩
/-- How much a lead, leads weigh. -/
def bulkD (d : LeadD) : Nat := d.l1.length + d.l2.length + d.who.length + bulkR d.seen
def bulkL (L : List LeadD) : Nat := L.length + (L.map bulkD).sum
theorem bulkL_lead {L : List LeadD} {j : Nat} (h : j < L.length) : bulkD L[j] ≤ bulkL L := by
  unfold bulkL
  have := len_le_sum (L.map bulkD) _ (List.mem_map.2 ⟨L[j], List.getElem_mem h, rfl⟩)
  omega
theorem lead_box (w : World) (T : TypeId) (d : LeadD) (u1 u2 u3 u4 : Value) : BoxV (w.alloc (.cells #[.int .i64 d.rp, .int .i64 d.no, .int .i64 d.bl, .int .i64 d.ph, .int .i64 d.k, .int .i64 d.i, .int .i64 d.f, .int .i64 d.t, .int .i64 d.a, .int .i64 d.s1, u1, .int .i64 d.s2, u2, .bool d.sm, u3, u4] T)) w.heap.size (leadVs d u1 u2 u3 u4) := boxV_new w (leadVs d u1 u2 u3 u4) T
end Go.Proofs.YtcpmfcigciknlaaGreat

namespace Go.Proofs.YtcpmfcigciknlaaGreat
open Go.RowKit
set_option linter.unusedVariables false

def lensR (R : List RowD) : List Nat := R.map fun r => r.l.length
theorem lensR_len (R : List RowD) : (lensR R).length = R.length := by simp [lensR]
theorem lensR_get {R : List RowD} {k : Nat} (h : k < R.length) : (lensR R)[k]'(by rw [lensR_len]; exact h) = R[k].l.length := by simp [lensR]

set_option maxHeartbeats 1000000 in
theorem szRowS_any (v : Value) (R : List RowD) (left : Int) (w : World) (hv : Rowz w v R) (h0 : 0 ≤ left) (h1 : left ≤ 1099511627776) :
    Calls Tryz.prog 62 #[v, .int .i64 left] w (IntExt (lessened left (bulkR R)) w) := by
  obtain ⟨av, cv, rfl, hlv, _, hcv⟩ := hv
  unfold maxLen at hlv
  have hb : bulkR R = R.length + (lensR R).sum := rfl
  by_cases hlt : left < R.length
  · rw [lessened_no (by omega)]
    clear hb hcv
    go_enter Tryz.func62, Tryz.ntmps62
    go_wp2
    go_ret
    exact ⟨rfl, Ext.refl _⟩
  · have HBK := Lib.hid hb
    have hle : (R.length : Int) ≤ left := by omega
    clear hb hlt
    go_enter Tryz.func62, Tryz.ntmps62
    go_wp2
    go_loopw [1, 5] (fun m i wr => ∃ (k : Nat) (r : Int), k ≤ R.length ∧ i = .int .i64 k ∧ m = .int .i64 r ∧ 0 ≤ r ∧ Hid (r = left - R.length - sumN (lensR R) k) ∧ Ext w wr) (fun _ i _ => R.length - (intOf i).toNat)
    case atStart => exact ⟨0, left - R.length, Nat.zero_le _, rfl, rfl, by omega, Lib.hid (by rw [sumN_zero]; simp), Ext.refl _⟩
    case round =>
      obtain ⟨k, r, hk, rfl, rfl, hr0, hr, hx⟩ := hrel
      have hr1 : r ≤ 1099511627776 := by have := hr.out; omega
      by_cases hlt : k < R.length
      · obtain ⟨b, off, rfl, dv⟩ := hcv (by omega)
        obtain ⟨u, hu, iu⟩ := dv k hlt
        have hs := sumN_succ (g := lensR R) (k := k) (by rw [lensR_len]; exact hlt)
        rw [lensR_get hlt] at hs
        obtain ⟨d, hd⟩ : ∃ d, d = R[k] := ⟨_, rfl⟩
        rw [← hd] at hu iu hs
        obtain ⟨c0, c1, c2, c3, c4, c5, c6, c7, c8, c9⟩ := hu.ext hx
        have IU := Lib.hid (iu.ext hx)
        have HS := Lib.hid hs
        clear hcv dv hu iu hs hd
        by_cases hl : r < d.l.length
        · have L := Lib.hid (lessened_no hl)
          have hsum := sumN_mono (g := lensR R) (k := k + 1) (by rw [lensR_len]; omega)
          have HL := Lib.hid (show lessened left (bulkR R) = -1 from lessened_no (by have h1 := hr.out; have h2 := HS.out; have h3 := HBK.out; omega))
          clear hl hsum
          go_wp2_with fail
          refine (szRow_any d _ _ _ IU.out hr0 (by omega)).mono ?_
          rintro e w2 ⟨rfl, x2⟩
          have hx2 := hx.trans x2
          clear x2 hx c0 c1 c2 c3 c4 c5 c6 c7 c8 c9
          rw [L.out]
          go_wp2
          go_ret
          exact ⟨by rw [HL.out]; rfl, hx2⟩
        · obtain ⟨q, hq⟩ : ∃ q, q = r - (d.l.length : Int) := ⟨_, rfl⟩
          have hq0 : 0 ≤ q := by omega
          have L : Hid (lessened r d.l.length = q) := Lib.hid (by rw [hq]; exact lessened_yes (by omega))
          have HQ := Lib.hid hq
          clear hl hq
          go_wp2_with fail
          refine (szRow_any d _ _ _ IU.out hr0 (by omega)).mono ?_
          rintro e w2 ⟨rfl, x2⟩
          have hx2 := hx.trans x2
          clear x2 hx c0 c1 c2 c3 c4 c5 c6 c7 c8 c9
          rw [L.out]
          go_wp2
          go_roundw
          case rel => exact ⟨k + 1, q, by omega, by go_num, rfl, hq0, Lib.hid (by have h1 := hr.out; have h2 := HS.out; have h3 := HQ.out; omega), hx2⟩
          case measure => simp [intOf]; omega
      · obtain rfl : k = R.length := by omega
        go_wp2
        go_ret
        refine ⟨?_, hx⟩
        have h1 := hr.out
        have h3 := HBK.out
        have h4 := sumN_all (lensR R)
        rw [lensR_len] at h4
        have he : lessened left (bulkR R) = r := by rw [lessened_yes (by omega)]; omega
        rw [he]; rfl

def bulks (T : List (List RowD)) : List Nat := T.map bulkR
theorem bulks_len (T : List (List RowD)) : (bulks T).length = T.length := by simp [bulks]
theorem bulks_get {T : List (List RowD)} {k : Nat} (h : k < T.length) : (bulks T)[k]'(by rw [bulks_len]; exact h) = bulkR T[k] := by simp [bulks]

set_option maxHeartbeats 1000000 in
theorem szRowSS_any (v : Value) (T : List (List RowD)) (left : Int) (w : World) (hv : Rowzz w v T) (h0 : 0 ≤ left) (h1 : left ≤ 1099511627776) :
    Calls Tryz.prog 32 #[v, .int .i64 left] w (IntExt (lessened left (bulkT T)) w) := by
  obtain ⟨av, cv, rfl, hlv, _, hcv⟩ := hv
  unfold maxLen at hlv
  have hb : bulkT T = T.length + (bulks T).sum := rfl
  by_cases hlt : left < T.length
  · rw [lessened_no (by omega)]
    clear hb hcv
    go_enter Tryz.func32, Tryz.ntmps32
    go_wp2
    go_ret
    exact ⟨rfl, Ext.refl _⟩
  · have HBK := Lib.hid hb
    have hle : (T.length : Int) ≤ left := by omega
    clear hb hlt
    go_enter Tryz.func32, Tryz.ntmps32
    go_wp2
    go_loopw [1, 5] (fun m i wr => ∃ (k : Nat) (r : Int), k ≤ T.length ∧ i = .int .i64 k ∧ m = .int .i64 r ∧ 0 ≤ r ∧ Hid (r = left - T.length - sumN (bulks T) k) ∧ Ext w wr) (fun _ i _ => T.length - (intOf i).toNat)
    case atStart => exact ⟨0, left - T.length, Nat.zero_le _, rfl, rfl, by omega, Lib.hid (by rw [sumN_zero]; simp), Ext.refl _⟩
    case round =>
      obtain ⟨k, r, hk, rfl, rfl, hr0, hr, hx⟩ := hrel
      have hr1 : r ≤ 1099511627776 := by have := hr.out; omega
      by_cases hlt : k < T.length
      · obtain ⟨b, off, rfl, dv⟩ := hcv (by omega)
        obtain ⟨u, hu, iu⟩ := dv k hlt
        have hs := sumN_succ (g := bulks T) (k := k) (by rw [bulks_len]; exact hlt)
        rw [bulks_get hlt] at hs
        obtain ⟨d, hd⟩ : ∃ d, d = T[k] := ⟨_, rfl⟩
        rw [← hd] at iu hs
        have c0 := hx.cell hu
        have IU := Lib.hid (iu.ext hx)
        have HS := Lib.hid hs
        clear hcv dv hu iu hs hd
        by_cases hl : r < bulkR d
        · have L := Lib.hid (lessened_no hl)
          have hsum := sumN_mono (g := bulks T) (k := k + 1) (by rw [bulks_len]; omega)
          have HL := Lib.hid (show lessened left (bulkT T) = -1 from lessened_no (by have h1 := hr.out; have h2 := HS.out; have h3 := HBK.out; omega))
          clear hl hsum
          go_wp2_with fail
          refine (szRowS_any _ d _ _ IU.out hr0 (by omega)).mono ?_
          rintro e w2 ⟨rfl, x2⟩
          have hx2 := hx.trans x2
          clear x2 hx c0
          rw [L.out]
          go_wp2
          go_ret
          exact ⟨by rw [HL.out]; rfl, hx2⟩
        · obtain ⟨q, hq⟩ : ∃ q, q = r - (bulkR d : Int) := ⟨_, rfl⟩
          have hq0 : 0 ≤ q := by omega
          have L : Hid (lessened r (bulkR d) = q) := Lib.hid (by rw [hq]; exact lessened_yes (by omega))
          have HQ := Lib.hid hq
          clear hl hq
          go_wp2_with fail
          refine (szRowS_any _ d _ _ IU.out hr0 (by omega)).mono ?_
          rintro e w2 ⟨rfl, x2⟩
          have hx2 := hx.trans x2
          clear x2 hx c0
          rw [L.out]
          go_wp2
          go_roundw
          case rel => exact ⟨k + 1, q, by omega, by go_num, rfl, hq0, Lib.hid (by have h1 := hr.out; have h2 := HS.out; have h3 := HQ.out; omega), hx2⟩
          case measure => simp [intOf]; omega
      · obtain rfl : k = T.length := by omega
        go_wp2
        go_ret
        refine ⟨?_, hx⟩
        have h1 := hr.out
        have h3 := HBK.out
        have h4 := sumN_all (bulks T)
        rw [bulks_len] at h4
        have he : lessened left (bulkT T) = r := by rw [lessened_yes (by omega)]; omega
        rw [he]; rfl

set_option maxHeartbeats 1000000 in
theorem szTable_any (n : Int) (u : Value) (T : List (List RowD)) (left : Int) (w : World) (hv : Rowzz w u T) (h0 : 0 ≤ left) (h1 : left ≤ 1099511627776) :
    Calls Tryz.prog 7 #[.agg #[.int .i64 n, u], .int .i64 left] w (IntExt (lessened left (bulkT T)) w) := by
  have HB := attrAt_new w 24 n u
  by_cases hlt : left < bulkT T
  · have L := Lib.hid (lessened_no hlt)
    clear hlt
    go_enter Tryz.func7, Tryz.ntmps7
    go_wp2_with fail
    refine (szRowSS_any _ _ _ _ (hv.ext (Ext.alloc (Ext.refl _) _)) h0 h1).mono ?_
    rintro e w1 ⟨rfl, x1⟩
    have hx := (Ext.alloc (Ext.refl w) _).trans x1
    clear x1 HB
    rw [L.out]
    go_wp2
    go_ret
    exact ⟨by rw [L.out]; rfl, hx⟩
  · obtain ⟨q, hq⟩ : ∃ q, q = left - (bulkT T : Int) := ⟨_, rfl⟩
    have hq0 : 0 ≤ q := by omega
    have LR : Hid (lessened left (bulkT T) = q) := Lib.hid (by rw [hq]; exact lessened_yes (by omega))
    clear hlt hq
    rw [LR.out]
    go_enter Tryz.func7, Tryz.ntmps7
    go_wp2_with fail
    refine (szRowSS_any _ _ _ _ (hv.ext (Ext.alloc (Ext.refl _) _)) h0 h1).mono ?_
    rintro e w1 ⟨rfl, x1⟩
    have hx := (Ext.alloc (Ext.refl w) _).trans x1
    clear x1 HB
    rw [LR.out]
    go_wp2
    go_ret
    exact ⟨rfl, hx⟩

end Go.Proofs.YtcpmfcigciknlaaGreat
