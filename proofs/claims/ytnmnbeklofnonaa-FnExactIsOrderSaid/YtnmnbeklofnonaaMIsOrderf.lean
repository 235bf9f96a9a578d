/- Texts of this proof, part f: words, plain facts, contracts. -/
import Derived.Test.YtnmnbeklofnonaaMIsOrdere
import Derived.Test.YtnmnbeklofnonaaMIsOrderb

namespace Go.Proofs.Ytnmnbeklofnonaa
open Go.RowKit
set_option linter.unusedVariables false

theorem placeI_bounds (l : List Int) (p : Int) : -1 ≤ placeI l p ∧ placeI l p < l.length := by
  unfold placeI
  rcases placeFrom_spec l p 0 with ⟨h1, h2⟩ | ⟨j, h1, h2, _⟩
  · rw [h2]; omega
  · have := (List.getElem?_eq_some_iff.1 h1).1
    rw [h2]; omega
noncomputable def edgeN (g : List (List Int)) (P : Int → Int) (p n : Int) : Bool := hasI (reachL g n) p || decide (¬ P n > P p)
def ordOk (g : List (List Int)) (key l : List Int) : Bool := keysB g key && unlikeB l g.length g.length
noncomputable def ordV (g : List (List Int)) (key l : List Int) : Bool := ordOk g key l && ordM g key l
theorem groupsL_pos {g : List (List Int)} (hg : rowsB g = true) {G : List Int} (h : G ∈ groupsL g) : 0 < G.length ∧ (∀ x ∈ G, 0 ≤ x ∧ x < (g.length : Int)) ∧ G.length ≤ g.length := by
  have h3 := groupsL_rowlen g G h
  obtain ⟨k, hk, e⟩ := (groupsL_mem hg G).1 h
  have hs : (k : Int) ∈ G := by rw [e]; exact groupL_self hg (by omega)
  refine ⟨List.length_pos_of_mem hs, fun x hx => ?_, h3⟩
  rw [e] at hx
  exact groupL_in hg (by omega) hx
theorem ordM_not1 {g : List (List Int)} {key l : List Int} {k : Nat} (hk : k < g.length) (h : edgeB g (placeI l) (k : Int) = false) : ordM g key l = false := by
  unfold ordM
  rw [Bool.and_eq_false_iff]
  left
  rw [List.all_eq_false]
  exact ⟨k, (rangeI_mem _ _).2 (by omega), by rw [h]; simp⟩
theorem ordM_not2 {g : List (List Int)} {key l : List Int} {G : List Int} (hG : G ∈ groupsL g) (h : sideB (placeI l) (byKeyL (keyAt key) G) = false) : ordM g key l = false := by
  unfold ordM
  rw [Bool.and_eq_false_iff]
  right
  rw [List.all_eq_false]
  exact ⟨G, hG, by rw [h]; simp⟩
theorem ordM_yes {g : List (List Int)} {key l : List Int} (h1 : ∀ k : Nat, k < g.length → edgeB g (placeI l) (k : Int) = true) (h2 : ∀ G ∈ groupsL g, sideB (placeI l) (byKeyL (keyAt key) G) = true) : ordM g key l = true := by
  unfold ordM
  rw [Bool.and_eq_true, List.all_eq_true, List.all_eq_true]
  refine ⟨fun p hp => ?_, h2⟩
  have := (rangeI_mem _ _).1 hp
  have h := h1 p.toNat (by omega)
  rwa [Int.toNat_of_nonneg this.1] at h
theorem sideB_not {P : Int → Int} {G : List Int} {k : Nat} (hk : k < G.length) (h : P G[k] ≠ P (G[0]?.getD 0) + k) : sideB P G = false := by
  unfold sideB
  rw [List.all_eq_false]
  exact ⟨k, List.mem_range.2 hk, by rw [row_getD hk]; simpa using h⟩
theorem sideB_yes {P : Int → Int} {G : List Int} (h : ∀ k (hk : k < G.length), P G[k] = P (G[0]?.getD 0) + k) : sideB P G = true := by
  unfold sideB
  rw [List.all_eq_true]
  intro k hk
  have hk := List.mem_range.1 hk
  rw [row_getD hk, decide_eq_true_iff]
  exact h k hk

set_option maxRecDepth 100000 in
set_option maxHeartbeats 16000000 in
theorem specIsOrder_any (v u q : Value) (g : List (List Int)) (key l : List Int) (w : World) (hv : Intss w v g) (hu : Ints w u key) (hq : Ints w q l) :
    Calls Try.prog 38 #[v, u, q] w (TwoB (ordV g key l) (ordOk g key l) w) := by
  have HV := Lib.hid hv
  have HU := Lib.hid hu
  have HQ := Lib.hid hq
  obtain ⟨av, cv, rfl, hlv, _, dv⟩ := hv
  obtain ⟨au, cu, rfl, hlu, _, _⟩ := hu
  obtain ⟨aq, cq, rfl, hlq, _, _⟩ := hq
  unfold maxLen at hlv hlu hlq
  cases hk : keysB g key with
  | false =>
    have h1 : ordOk g key l = false := by unfold ordOk; rw [hk]; rfl
    have h2 : ordV g key l = false := by unfold ordV; rw [h1]; rfl
    rw [h1, h2]
    have HK := Lib.hid hk
    clear hk h1 h2 dv
    go_enter Try.func38, Try.ntmps38
    go_wp2_with fail
    refine (l5Keys_any _ _ _ _ _ HV.out HU.out).mono ?_
    rintro e w1 ⟨rfl, x1⟩
    rw [HK.out]
    go_wp2
    go_ret2
    exact ⟨rfl, x1⟩
  | true =>
    obtain ⟨hg, hkl, _, _⟩ := keysB_of hk
    obtain ⟨ha, hb⟩ := goodG_of hg
    have HK := Lib.hid hk
    have HG := Lib.hid hg
    have HA := Lib.hid ha
    have HB := Lib.hid hb
    have HKL := Lib.hid hkl
    have DV := Lib.hid dv
    have hoq : ordOk g key l = unlikeB l g.length g.length := by unfold ordOk; rw [hk, Bool.true_and]
    have hoV : ordV g key l = (unlikeB l g.length g.length && ordM g key l) := by unfold ordV; rw [hoq]
    rw [hoq, hoV]
    clear hk hg ha hb hkl dv hoq hoV
    by_cases hlen : l.length = g.length
    · have e0 : ((l.length : Int) != (g.length : Int)) = false := by simp [hlen]
      have HLEN := Lib.hid hlen
      obtain ⟨P, hP⟩ : ∃ P, P = placeI l := ⟨_, rfl⟩
      have hpl : ∀ (p : Int) (W : World), Ext w W → Calls Try.prog 75 #[.slice aq l.length cq, .int .i64 p] W (IntExt (P p) W) := fun p W h => by rw [hP]; exact l5Place_any _ l p W (HQ.out.ext h)
      have hpb : ∀ p, -1 ≤ P p ∧ P p < 41 := fun p => by
        rw [hP]
        have := placeI_bounds l p
        have := HB.out
        omega
      have HPL := Lib.hid hpl
      have HPB := Lib.hid hpb
      have HP := Lib.hid hP
      clear hlen hpl hpb hP
      go_enter Try.func38, Try.ntmps38
      go_wp2_with fail
      refine (l5Keys_any _ _ _ _ _ HV.out HU.out).mono ?_
      rintro e w1 ⟨rfl, x1⟩
      have X1 := Lib.hid x1
      rw [HK.out]
      clear x1
      go_wp2
      go_loopw [8, 30] (fun _ i wr => ∃ k : Nat, k ≤ g.length ∧ i = .int .i64 k ∧ Hid (∀ j : Nat, j < k → (j : Int) ∈ l) ∧ Hid (Ext w wr)) (fun _ i _ => g.length - (intOf i).toNat)
      case atStart => exact ⟨0, Nat.zero_le _, rfl, Lib.hid (fun j hj => by omega), X1⟩
      case round =>
        obtain ⟨k, hk, rfl, hA, hX⟩ := hrel
        obtain ⟨wa, hwa⟩ : ∃ x : World, x = wr := ⟨_, rfl⟩
        subst hwa
        by_cases hlt : k < g.length
        · go_wp2_with fail
          refine (HPL.out (k : Int) _ hX.out).mono ?_
          rintro e w2 ⟨rfl, x2⟩
          have X2 := Lib.hid (hX.out.trans x2)
          clear x2
          obtain ⟨n, hn⟩ : ∃ n, n = P (k : Int) := ⟨_, rfl⟩
          rw [← hn]
          by_cases hneg : n < 0
          · have HNO : Hid (unlikeB l g.length g.length = false) := Lib.hid (by
              cases hu2 : unlikeB l g.length g.length with
              | false => rfl
              | true =>
                have h3 := ((unlike_iff l g.length).1 hu2).2 k hlt
                rw [hn, HP.out] at hneg
                exact absurd h3 (placeI_none.1 hneg))
            clear hn
            go_wp2
            go_ret2
            exact ⟨by rw [HNO.out]; rfl, X2.out⟩
          · have HN : Hid (∀ j : Nat, j < k + 1 → (j : Int) ∈ l) := Lib.hid (fun j hj => by
              by_cases e : j = k
              · subst e
                rw [hn, HP.out] at hneg
                exact Classical.not_not.1 (fun h => hneg (placeI_none.2 h))
              · exact hA.out j (by omega))
            clear hn
            go_wp2
            go_roundw
            case rel => exact ⟨k + 1, by omega, by go_num, HN, X2⟩
            case measure => simp [intOf]; omega
        · obtain rfl : k = g.length := by omega
          have HYES : Hid (unlikeB l g.length g.length = true) := Lib.hid ((unlike_iff l g.length).2 ⟨HLEN.out, hA.out⟩)
          clear hA
          go_wp2
          go_loopw [9, 11, 40] (fun _ _ i wr => ∃ k : Nat, k ≤ g.length ∧ i = .int .i64 k ∧ Hid (∀ j : Nat, j < k → edgeB g P (j : Int) = true) ∧ Hid (Ext w wr)) (fun _ _ i _ => g.length - (intOf i).toNat)
          case atStart => exact ⟨0, Nat.zero_le _, rfl, Lib.hid (fun j hj => by omega), hX⟩
          case round =>
            clear hX
            obtain ⟨k, hk, rfl, hE, hX⟩ := hrel
            obtain ⟨wb, hwb⟩ : ∃ x : World, x = wr := ⟨_, rfl⟩
            subst hwb
            by_cases hlt : k < g.length
            · obtain ⟨bv, ov, rfl, ev⟩ := DV.out (by omega)
              obtain ⟨z, hz, iz⟩ := ev k hlt
              rw [List.getElem?_eq_getElem hlt, Option.getD_some, ← rowG_at hlt] at iz
              have zz := hX.out.cell hz
              have HRI := Lib.hid (fun o ho => row_in HA.out (p := (k : Int)) (c := o) ho)
              have hedge : edgeB g P (k : Int) = (rowG g (k : Int)).all (edgeN g P (k : Int)) := rfl
              have HM1 : Hid (edgeB g P (k : Int) = false → ordM g key l = false) := Lib.hid (fun h => ordM_not1 hlt (by rw [← HP.out]; exact h))
              obtain ⟨R, hR⟩ : ∃ R, R = rowG g (k : Int) := ⟨_, rfl⟩
              rw [← hR] at iz HRI hedge
              obtain ⟨az, cz, rfl, hlz, _, dz⟩ := iz
              unfold maxLen at hlz
              have DZ := Lib.hid dz
              have HED := Lib.hid hedge
              clear ev hz dz hR hedge
              go_wp2
              go_loopw [11, 48] (fun _ i wr => ∃ t : Nat, t ≤ R.length ∧ i = .int .i64 t ∧ Hid ((R.take t).all (edgeN g P (k : Int)) = true) ∧ Hid (Ext w wr)) (fun _ i _ => R.length - (intOf i).toNat)
              case atStart => exact ⟨0, Nat.zero_le _, rfl, Lib.hid (by simp), hX⟩
              case round =>
                obtain ⟨t, ht, rfl, hT, hX3⟩ := hrel
                obtain ⟨wc, hwc⟩ : ∃ x : World, x = wr := ⟨_, rfl⟩
                subst hwc
                by_cases hlt3 : t < R.length
                · obtain ⟨br, orr, rfl, er⟩ := DZ.out (by omega)
                  have zo := hX3.out.cell (er t hlt3)
                  rw [List.getElem?_eq_getElem hlt3, Option.getD_some] at zo
                  have hob := HRI.out _ (List.getElem_mem hlt3)
                  obtain ⟨o, ho⟩ : ∃ o : Nat, R[t] = (o : Int) := ⟨R[t].toNat, by omega⟩
                  have hog : o < g.length := by omega
                  have HNX : Hid (edgeN g P (k : Int) (o : Int) = true → (R.take (t + 1)).all (edgeN g P (k : Int)) = true) := Lib.hid (fun h => by
                    rw [List.take_add_one, List.getElem?_eq_getElem hlt3, List.all_append, hT.out, ho]
                    simp [h])
                  have HNN : Hid (edgeN g P (k : Int) (o : Int) = false → ordM g key l = false) := Lib.hid (fun h => HM1.out (by
                    rw [HED.out, List.all_eq_false]
                    exact ⟨R[t], List.getElem_mem hlt3, by rw [ho, h]; simp⟩))
                  have HEN : Hid (edgeN g P (k : Int) (o : Int) = (hasI (reachL g (o : Int)) (k : Int) || decide (¬ P (o : Int) > P (k : Int)))) := Lib.hid rfl
                  rw [ho] at zo
                  clear er hob ho
                  go_wp2_with fail
                  refine (l5Reached_any _ g o _ (HV.out.ext hX3.out) HA.out (by have := HB.out; omega) hog).mono ?_
                  rintro e w4 ⟨v4, rfl, f4, x4⟩
                  obtain ⟨a4, c4, rfl, _, _, _⟩ := f4.ints
                  have F4 := Lib.hid f4.ints
                  have X4 := Lib.hid (hX3.out.trans x4)
                  clear f4 x4
                  go_wp2_with fail
                  refine (l1Has_any _ (reachL g (o : Int)) (k : Int) _ F4.out).mono ?_
                  rintro e w5 ⟨rfl, x5⟩
                  have X5 := Lib.hid (X4.out.trans x5)
                  obtain ⟨hh, hhh⟩ : ∃ hh, hh = hasI (reachL g (o : Int)) (k : Int) := ⟨_, rfl⟩
                  rw [← hhh] at HEN ⊢
                  clear x5 hhh F4
                  cases hh with
                  | true =>
                    have HQY := Lib.hid (HNX.out (by rw [HEN.out]; rfl))
                    go_wp2
                    go_roundw
                    case rel => exact ⟨t + 1, by omega, by go_num, HQY, X5⟩
                    case measure => simp [intOf]; omega
                  | false =>
                    go_wp2_with fail
                    refine (HPL.out (o : Int) _ X5.out).mono ?_
                    rintro e w6 ⟨rfl, x6⟩
                    have X6 := Lib.hid (X5.out.trans x6)
                    clear x6
                    go_wp2_with fail
                    refine (HPL.out (k : Int) _ X6.out).mono ?_
                    rintro e w7 ⟨rfl, x7⟩
                    have X7 := Lib.hid (X6.out.trans x7)
                    obtain ⟨a, hra⟩ : ∃ a, a = P (o : Int) := ⟨_, rfl⟩
                    obtain ⟨b, hrb⟩ : ∃ b, b = P (k : Int) := ⟨_, rfl⟩
                    rw [← hra, ← hrb] at HEN ⊢
                    clear x7 hra hrb
                    by_cases hgt : a > b
                    · have HQN := Lib.hid (HNN.out (by rw [HEN.out]; simp; omega))
                      go_wp2
                      go_ret2
                      exact ⟨by rw [HYES.out, HQN.out]; rfl, X7.out⟩
                    · have HQY := Lib.hid (HNX.out (by rw [HEN.out]; simp; omega))
                      have hgt' : ¬ b < a := hgt
                      go_wp2
                      go_roundw
                      case rel => exact ⟨t + 1, by omega, by go_num, HQY, X7⟩
                      case measure => simp [intOf]; omega
                · obtain rfl : t = R.length := by omega
                  have HEY : Hid (edgeB g P (k : Int) = true) := Lib.hid (by rw [HED.out]; have := hT.out; rwa [List.take_length] at this)
                  go_wp2
                  go_roundw
                  case rel => exact ⟨k + 1, by omega, by go_num, Lib.hid (fun j hj => by
                      by_cases e : j = k
                      · rw [e]; exact HEY.out
                      · exact hE.out j (by omega)), hX3⟩
                  case measure => simp [intOf]; omega
            · obtain rfl : k = g.length := by omega
              have hgl : (groupsL g).length ≤ g.length := by rw [← grpTo_all]; exact grpTo_len g _
              have HE := Lib.hid hE.out
              have HGL := Lib.hid hgl
              clear hE hgl
              go_wp2_with fail
              refine (l5Groups_any _ g _ (HV.out.ext hX.out) HG.out).mono ?_
              rintro e wd ⟨v1, rfl, f1, x1⟩
              have i1 := f1.intss
              have hpos : ∀ G ∈ groupsL g, 0 < G.length ∧ (∀ x ∈ G, 0 ≤ x ∧ x < (g.length : Int)) ∧ G.length ≤ g.length := fun G hG => groupsL_pos HA.out hG
              have hn2 : ∀ G ∈ groupsL g, sideB P (byKeyL (keyAt key) G) = false → ordM g key l = false := fun G hG h => ordM_not2 hG (by rw [← HP.out]; exact h)
              have hy2 : (∀ G ∈ groupsL g, sideB P (byKeyL (keyAt key) G) = true) → ordM g key l = true := fun h => ordM_yes (fun k hk => by rw [← HP.out]; exact HE.out k hk) (fun G hG => by rw [← HP.out]; exact h G hG)
              obtain ⟨F, hF⟩ : ∃ F, F = byKeyL (keyAt key) := ⟨_, rfl⟩
              have hby : ∀ (b : Value) (G : List Int) (W : World), G ∈ groupsL g → Ext w W → Ints W b G → Calls Try.prog 78 #[b, .slice au key.length cu] W (OneInts (F G) W) := fun b G W hG hW hI => by
                rw [hF]
                obtain ⟨_, h2, h3⟩ := hpos G hG
                exact l5ByKey_any b _ G key W hI (HU.out.ext hW) (by have := HB.out; omega) (fun x hx => by have := h2 x hx; have := HKL.out; omega)
              have hfl : ∀ G ∈ groupsL g, 0 < (F G).length ∧ (F G).length ≤ 40 := fun G hG => by
                obtain ⟨h1, _, h3⟩ := hpos G hG
                rw [hF, byKeyL_len]
                have := HB.out
                omega
              rw [← hF] at hn2 hy2
              obtain ⟨C, hC⟩ : ∃ C, C = groupsL g := ⟨_, rfl⟩
              rw [← hC] at i1 hn2 hy2 hby hfl
              obtain ⟨a1, c1, rfl, hl1, _, d1⟩ := i1
              unfold maxLen at hl1
              have D1 := Lib.hid d1
              have HN2 := Lib.hid hn2
              have HY2 := Lib.hid hy2
              have HBY := Lib.hid hby
              have HFL := Lib.hid hfl
              have XD := Lib.hid (hX.out.trans x1)
              clear f1 x1 d1 hpos hn2 hy2 hby hfl hF hC hX HE HGL
              go_wp2
              go_loopw [13, 14, 15, 16, 72] (fun _ _ _ _ i wr => ∃ t : Nat, t ≤ C.length ∧ i = .int .i64 t ∧ Hid (∀ G ∈ C.take t, sideB P (F G) = true) ∧ Hid (Ext wd wr)) (fun _ _ _ _ i _ => C.length - (intOf i).toNat)
              case atStart => exact ⟨0, Nat.zero_le _, rfl, Lib.hid (fun G hG => by simp at hG), Lib.hid (Ext.refl _)⟩
              case round =>
                obtain ⟨t, ht, rfl, hS, hX⟩ := hrel
                obtain ⟨we, hwe⟩ : ∃ x : World, x = wr := ⟨_, rfl⟩
                subst hwe
                by_cases hlt4 : t < C.length
                · obtain ⟨b1, o1, rfl, e1⟩ := D1.out (by omega)
                  obtain ⟨z, hz, iz⟩ := e1 t hlt4
                  rw [List.getElem?_eq_getElem hlt4, Option.getD_some] at iz
                  have zz := hX.out.cell hz
                  have HSY : Hid (sideB P (F C[t]) = true → ∀ G ∈ C.take (t + 1), sideB P (F G) = true) := Lib.hid (fun h G hG => by
                    rw [List.take_add_one, List.getElem?_eq_getElem hlt4] at hG
                    rcases List.mem_append.1 hG with hG | hG
                    · exact hS.out G hG
                    · have : G = C[t] := by simpa using hG
                      rw [this]; exact h)
                  have HSN := Lib.hid (HN2.out C[t] (List.getElem_mem hlt4))
                  have HBG := Lib.hid (fun b W => HBY.out b C[t] W (List.getElem_mem hlt4))
                  have HFG := Lib.hid (HFL.out C[t] (List.getElem_mem hlt4))
                  have IZ := Lib.hid (iz.ext hX.out)
                  obtain ⟨D, hD⟩ : ∃ D, D = F C[t] := ⟨_, rfl⟩
                  rw [← hD] at HSY HSN HBG HFG
                  clear e1 hz iz hD
                  have HXE := Lib.hid (XD.out.trans hX.out)
                  go_wp2_with fail
                  refine (HBG.out z _ HXE.out IZ.out).mono ?_
                  rintro e w4 ⟨v4, rfl, f4, x4⟩
                  obtain ⟨a4, c4, rfl, hl4, _, d4⟩ := f4.ints
                  unfold maxLen at hl4
                  obtain ⟨b4, o4, rfl, e4⟩ := d4 HFG.out.1
                  have z4 := e4 0 HFG.out.1
                  rw [Nat.add_zero] at z4
                  have X4 := Lib.hid (HXE.out.trans x4)
                  have Y4 := Lib.hid x4
                  obtain ⟨dd, hdd⟩ : ∃ dd, dd = D[0]?.getD 0 := ⟨_, rfl⟩
                  rw [← hdd] at z4
                  have HDD := Lib.hid hdd
                  obtain ⟨dn, hdn⟩ : ∃ dn, dn = D.length := ⟨_, rfl⟩
                  have hd0 : (0 : Int) < (dn : Int) := by have := HFG.out.1; omega
                  rw [← hdn] at hl4 ⊢
                  have HDN := Lib.hid hdn
                  clear f4 x4 d4 e4 hdd hdn
                  go_wp2_with fail
                  refine (HPL.out dd _ X4.out).mono ?_
                  rintro e w5 ⟨rfl, x5⟩
                  have X5 := Lib.hid (X4.out.trans x5)
                  have Y5 := Lib.hid (Y4.out.trans x5)
                  have h5b := HPB.out dd
                  obtain ⟨s0, hs0⟩ : ∃ s0, s0 = P dd := ⟨_, rfl⟩
                  rw [← hs0] at h5b ⊢
                  have HS0 := Lib.hid hs0
                  clear x5 hs0 z4
                  go_wp2_with fail
                  refine (HBG.out z _ X5.out (IZ.out.ext Y5.out)).mono ?_
                  rintro e w6 ⟨v6, rfl, f6, x6⟩
                  obtain ⟨a6, c6, rfl, hl6, _, d6⟩ := f6.ints
                  unfold maxLen at hl6
                  have D6 := Lib.hid d6
                  have X6 := Lib.hid (X5.out.trans x6)
                  have Y6 := Lib.hid ((hX.out.trans Y5.out).trans x6)
                  clear f6 x6 d6 zz
                  go_wp2
                  go_loopw [15, 16, 87] (fun _ _ i wr => ∃ k : Nat, k ≤ D.length ∧ i = .int .i64 k ∧ Hid (∀ j (hj : j < D.length), j < k → P D[j] = s0 + j) ∧ Hid (Ext w6 wr)) (fun _ _ i _ => D.length - (intOf i).toNat)
                  case atStart => exact ⟨0, Nat.zero_le _, rfl, Lib.hid (fun j _ hj => by omega), Lib.hid (Ext.refl _)⟩
                  case round =>
                    obtain ⟨k, hk, rfl, hJ, hX6⟩ := hrel
                    by_cases hlt5 : k < D.length
                    · obtain ⟨b6, o6, rfl, e6⟩ := D6.out (by omega)
                      have z6 := hX6.out.cell (e6 k hlt5)
                      rw [List.getElem?_eq_getElem hlt5, Option.getD_some] at z6
                      have HXR := Lib.hid (X6.out.trans hX6.out)
                      have h40 := HFG.out.2
                      have h7b := HPB.out D[k]
                      have HJN : Hid (P D[k] = s0 + k → ∀ j (hj : j < D.length), j < k + 1 → P D[j] = s0 + j) := Lib.hid (fun h j hj hjk => by
                        by_cases e : j = k
                        · subst e; exact h
                        · exact hJ.out j hj (by omega))
                      have HJS : Hid (P D[k] ≠ s0 + k → ordM g key l = false) := Lib.hid (fun h => HSN.out (sideB_not hlt5 (by rw [← HDD.out, ← HS0.out]; exact h)))
                      obtain ⟨n, hn⟩ : ∃ n, n = D[k] := ⟨_, rfl⟩
                      rw [← hn] at z6 h7b HJN HJS
                      clear e6 hn
                      go_wp2_with fail
                      refine (HPL.out n _ HXR.out).mono ?_
                      rintro e w8 ⟨rfl, x8⟩
                      have X8 := Lib.hid (HXR.out.trans x8)
                      have Y8 := Lib.hid (hX6.out.trans x8)
                      obtain ⟨m, hm⟩ : ∃ m, m = P n := ⟨_, rfl⟩
                      rw [← hm] at h7b HJN HJS ⊢
                      clear x8 hm z6
                      by_cases heq : m = s0 + k
                      · have HOK := Lib.hid (HJN.out heq)
                        have eb : (m != s0 + (k : Int)) = false := by rw [heq]; simp
                        clear heq
                        go_wp2
                        go_roundw
                        case rel => exact ⟨k + 1, by omega, by go_num, HOK, Y8⟩
                        case measure => simp [intOf]; omega
                      · have HNO := Lib.hid (HJS.out heq)
                        have eb : (m != s0 + (k : Int)) = true := by simp [heq]
                        clear heq
                        go_wp2
                        go_ret2
                        exact ⟨by rw [HYES.out, HNO.out]; rfl, X8.out⟩
                    · obtain rfl : k = D.length := by omega
                      have HSS := Lib.hid (HSY.out (sideB_yes (fun j hj => by rw [← HDD.out, ← HS0.out]; exact hJ.out j hj hj)))
                      go_wp2
                      go_roundw
                      case rel => exact ⟨t + 1, by omega, by go_num, HSS, Lib.hid (Y6.out.trans hX6.out)⟩
                      case measure => simp [intOf]; omega
                · obtain rfl : t = C.length := by omega
                  have HFIN := Lib.hid (HY2.out (by have := hS.out; rwa [List.take_length] at this))
                  go_wp2
                  go_ret2
                  exact ⟨by rw [HYES.out, HFIN.out]; rfl, XD.out.trans hX.out⟩
    · have e0 : ((l.length : Int) != (g.length : Int)) = true := by simp; omega
      have hno : unlikeB l g.length g.length = false := by
        unfold unlikeB
        rw [decide_eq_false (by omega)]; rfl
      have HNO := Lib.hid hno
      clear hno hlen
      go_enter Try.func38, Try.ntmps38
      go_wp2_with fail
      refine (l5Keys_any _ _ _ _ _ HV.out HU.out).mono ?_
      rintro e w1 ⟨rfl, x1⟩
      have X1 := Lib.hid x1
      rw [HK.out]
      clear x1
      go_wp2
      go_ret2
      exact ⟨by rw [HNO.out]; rfl, X1.out⟩

end Go.Proofs.Ytnmnbeklofnonaa

namespace Go.Proofs.Ytnmnbeklofnonaa
open Go.RowKit
set_option linter.unusedVariables false

/-- When each point was met (0: not yet), the least that was seen from it, how many of its list were looked at, whether it is open, how many were met, the open ones as they were met, the groups that were told. -/
structure TS where
  N : Nat → Nat
  bk : Nat → Nat
  lk : Nat → Nat
  op : Nat → Bool
  met : Nat
  opn : List Nat
  grp : List (List Int)

def upd {α : Type} (f : Nat → α) (p : Nat) (v : α) : Nat → α := fun i => if i = p then v else f i
theorem upd_same {α : Type} (f : Nat → α) (p : Nat) (v : α) : upd f p v p = v := by simp [upd]
theorem upd_other {α : Type} (f : Nat → α) {p q : Nat} (v : α) (h : q ≠ p) : upd f p v q = f q := by simp [upd, h]
theorem upd_id {α : Type} (f : Nat → α) (p : Nat) : upd f p (f p) = f := by funext i; unfold upd; split <;> simp_all

def rowN (g : List (List Int)) (q : Nat) : List Int := rowG g (q : Int)

structure Inv (g : List (List Int)) (S : TS) (way : List Nat) : Prop where
  small : ∀ q, S.N q ≠ 0 → q < g.length
  le : ∀ q, S.N q ≤ S.met
  inj : ∀ q r, S.N q = S.N r → S.N q ≠ 0 → q = r
  opmet : ∀ q, S.op q = true → S.N q ≠ 0
  opn : ∀ q, q ∈ S.opn ↔ S.op q = true
  sort : S.opn.Pairwise (fun a b => S.N a < S.N b)
  wop : ∀ p ∈ way, S.op p = true
  wsort : way.Pairwise (fun a b => S.N a < S.N b)
  root : ∀ q, S.op q = true → ∃ p ∈ way, S.N p ≤ S.N q
  reach : ∀ p ∈ way, ∀ q, S.op q = true → S.N p ≤ S.N q → Reach g (p : Int) (q : Int)
  low1 : ∀ q, S.op q = true → S.bk q ≤ S.N q
  low2 : ∀ q, S.op q = true → ∃ r, S.op r = true ∧ S.N r = S.bk q ∧ Reach g (q : Int) (r : Int)
  lk0 : ∀ q, S.N q = 0 → S.lk q = 0
  lkle : ∀ q, S.lk q ≤ (rowN g q).length
  look : ∀ q, S.op q = true → ∀ r : Nat, (r : Int) ∈ (rowN g q).take (S.lk q) → S.N r ≠ 0 ∧ (S.op r = true → S.bk q ≤ S.N r)
  fin : ∀ q, S.op q = true → q ∉ way → S.lk q = (rowN g q).length ∧ S.bk q < S.N q
  par : ∀ p ∈ way, ∀ q, S.op q = true → q ∉ way → S.N p < S.N q → (∀ p' ∈ way, S.N p' ≤ S.N p ∨ S.N q < S.N p') → S.bk p ≤ S.bk q
  closed : ∀ q, S.N q ≠ 0 → S.op q = false → ∀ r : Nat, (r : Int) ∈ rowN g q → S.N r ≠ 0 ∧ S.op r = false
  grp : ∀ G ∈ S.grp, ∃ k : Nat, k < g.length ∧ G = groupL g (k : Int) ∧ ∀ x : Nat, (x : Int) ∈ G → S.N x ≠ 0 ∧ S.op x = false
  cov : ∀ q, S.N q ≠ 0 → S.op q = false → ∃ G ∈ S.grp, (q : Int) ∈ G
  apart : S.grp.Pairwise (fun G H => ∀ x, x ∈ G → x ∉ H)

theorem mem_row {g : List (List Int)} (hg : rowsB g = true) {q : Nat} {c : Int} (h : c ∈ rowN g q) : ∃ r : Nat, c = (r : Int) ∧ r < g.length := by
  have := row_in hg h
  exact ⟨c.toNat, by omega, by omega⟩

/-! ### The start of a search -/
def tsStart : TS := ⟨fun _ => 0, fun _ => 0, fun _ => 0, fun _ => false, 0, [], []⟩
theorem Inv.start (g : List (List Int)) : Inv g tsStart [] := by
  constructor <;> simp [tsStart]

/-! ### A point is met -/
def meetS (S : TS) (c : Nat) : TS := ⟨upd S.N c (S.met + 1), upd S.bk c (S.met + 1), S.lk, upd S.op c true, S.met + 1, S.opn ++ [c], S.grp⟩
def lookS (S : TS) (p : Nat) : TS := { S with lk := upd S.lk p (S.lk p + 1) }
def minS (S : TS) (p v : Nat) : TS := { S with bk := upd S.bk p (min (S.bk p) v) }

theorem Inv.last_most {g : List (List Int)} {S : TS} {way : List Nat} {p : Nat} (h : Inv g S (way ++ [p])) : ∀ a ∈ way, S.N a < S.N p := by
  intro a ha
  exact (List.pairwise_append.1 h.wsort).2.2 a ha p (by simp)
theorem Inv.last_le {g : List (List Int)} {S : TS} {way : List Nat} {p : Nat} (h : Inv g S (way ++ [p])) : ∀ a ∈ way ++ [p], S.N a ≤ S.N p := by
  intro a ha
  rcases List.mem_append.1 ha with ha | ha
  · exact Nat.le_of_lt (h.last_most a ha)
  · have : a = p := by simpa using ha
    rw [this]; exact Nat.le_refl _

/-- The first point of a search. -/
theorem Inv.first {g : List (List Int)} (hg : rowsB g = true) {S : TS} {c : Nat} (h : Inv g S []) (hc : c < g.length) (hn : S.N c = 0) : Inv g (meetS S c) [c] := by
  have hno : ∀ q, S.op q = false := fun q => by
    cases e : S.op q with
    | false => rfl
    | true => obtain ⟨p, hp, _⟩ := h.root q e; simp at hp
  have hne : ∀ q, S.N q ≠ 0 → q ≠ c := fun q hq e => hq (by rw [e]; exact hn)
  have hopn : S.opn = [] := List.eq_nil_iff_forall_not_mem.2 (fun q hq => by rw [h.opn, hno] at hq; cases hq)
  have hop : ∀ q, (meetS S c).op q = true → q = c := fun q hq => by
    unfold meetS upd at hq
    by_cases e : q = c
    · exact e
    · simp [e, hno] at hq
  have hopc : (meetS S c).op c = true := upd_same _ _ _
  have hNc : (meetS S c).N c = S.met + 1 := upd_same _ _ _
  have hbc : (meetS S c).bk c = S.met + 1 := upd_same _ _ _
  have hlc : (meetS S c).lk c = 0 := h.lk0 c hn
  constructor
  · intro q hq
    by_cases e : q = c
    · rw [e]; exact hc
    · exact h.small q (by rwa [show (meetS S c).N q = S.N q from upd_other _ _ e] at hq)
  · intro q
    show upd S.N c (S.met + 1) q ≤ S.met + 1
    unfold upd
    split
    · exact Nat.le_refl _
    · have := h.le q; omega
  · intro q r e hq
    have hle := h.le
    simp only [meetS, upd] at e hq
    by_cases e1 : q = c
    · by_cases e2 : r = c
      · rw [e1, e2]
      · simp [e1, e2] at e; have := hle r; omega
    · by_cases e2 : r = c
      · simp [e1, e2] at e; have := hle q; omega
      · simp [e1, e2] at e hq
        exact h.inj q r e hq
  · intro q hq
    rw [hop q hq, hNc]; omega
  · intro q
    show q ∈ S.opn ++ [c] ↔ _
    rw [hopn]
    constructor
    · intro hq; have : q = c := by simpa using hq
      rw [this]; exact hopc
    · intro hq; simp [hop q hq]
  · show (S.opn ++ [c]).Pairwise _
    rw [hopn]; simp
  · intro p hp
    have : p = c := by simpa using hp
    rw [this]; exact hopc
  · simp
  · intro q hq
    exact ⟨c, by simp, by rw [hop q hq]; exact Nat.le_refl _⟩
  · intro p hp q hq _
    have : p = c := by simpa using hp
    rw [this, hop q hq]; exact .self
  · intro q hq
    rw [hop q hq, hbc, hNc]; exact Nat.le_refl _
  · intro q hq
    rw [hop q hq]
    exact ⟨c, hopc, by rw [hbc, hNc], .self⟩
  · intro q hq
    by_cases e : q = c
    · rw [e, hNc] at hq; omega
    · exact h.lk0 q (by rwa [show (meetS S c).N q = S.N q from upd_other _ _ e] at hq)
  · exact h.lkle
  · intro q hq r hr
    rw [hop q hq, hlc] at hr
    simp at hr
  · intro q hq hq'
    exact absurd (by simp [hop q hq]) hq'
  · intro p hp q hq hq'
    exact absurd (by simp [hop q hq]) hq'
  · intro q hq hqo r hr
    by_cases e : q = c
    · rw [e, hopc] at hqo; cases hqo
    · have hq' : S.N q ≠ 0 := by rwa [show (meetS S c).N q = S.N q from upd_other _ _ e] at hq
      obtain ⟨h1, h2⟩ := h.closed q hq' (hno q) r hr
      have er := hne r h1
      exact ⟨by rw [show (meetS S c).N r = S.N r from upd_other _ _ er]; exact h1, by rw [show (meetS S c).op r = S.op r from upd_other _ _ er]; exact h2⟩
  · intro G hG
    obtain ⟨k, hk, e, hx⟩ := h.grp G hG
    refine ⟨k, hk, e, fun x hxG => ?_⟩
    obtain ⟨h1, h2⟩ := hx x hxG
    have er := hne x h1
    exact ⟨by rw [show (meetS S c).N x = S.N x from upd_other _ _ er]; exact h1, by rw [show (meetS S c).op x = S.op x from upd_other _ _ er]; exact h2⟩
  · intro q hq hqo
    by_cases e : q = c
    · rw [e, hopc] at hqo; cases hqo
    · exact h.cov q (by rwa [show (meetS S c).N q = S.N q from upd_other _ _ e] at hq) (hno q)
  · exact h.apart

end Go.Proofs.Ytnmnbeklofnonaa

namespace Go.Proofs.Ytnmnbeklofnonaa
open Go.RowKit
set_option linter.unusedVariables false

theorem take_look {l : List Int} {n : Nat} (h : n < l.length) {x : Int} (hx : x ∈ l.take (n + 1)) : x ∈ l.take n ∨ x = l[n] := by
  rw [List.take_add_one, List.getElem?_eq_getElem h] at hx
  rcases List.mem_append.1 hx with hx | hx
  · exact .inl hx
  · exact .inr (by simpa using hx)

/-- The next point is not met: it is met, and the way goes on to it. -/
theorem Inv.down {g : List (List Int)} (hg : rowsB g = true) {S : TS} {way : List Nat} {p c : Nat} (h : Inv g S (way ++ [p])) (hl : S.lk p < (rowN g p).length) (he : (rowN g p)[S.lk p] = (c : Int)) (hn : S.N c = 0) :
    Inv g (meetS (lookS S p) c) (way ++ [p] ++ [c]) := by
  have hop := h.wop p (by simp)
  have hcl : c < g.length := by
    have := row_in hg (List.getElem_mem hl)
    rw [he] at this; omega
  have hpc : p ≠ c := fun e => h.opmet p hop (by rw [e]; exact hn)
  have hedge : Reach g (p : Int) (c : Int) := Reach.self.step (by rw [← he]; exact List.getElem_mem hl)
  have hco : S.op c = false := by
    cases e : S.op c with
    | false => rfl
    | true => exact absurd hn (h.opmet c e)
  have hopn : c ∉ S.opn := fun e => by rw [h.opn, hco] at e; cases e
  have hwc : c ∉ way ++ [p] := fun e => by have := h.wop c e; rw [hco] at this; cases this
  obtain ⟨S', hS'⟩ : ∃ S', S' = meetS (lookS S p) c := ⟨_, rfl⟩
  have N1 : ∀ q, q ≠ c → S'.N q = S.N q := fun q e => by rw [hS']; exact upd_other _ _ e
  have N2 : S'.N c = S.met + 1 := by rw [hS']; exact upd_same _ _ _
  have b1 : ∀ q, q ≠ c → S'.bk q = S.bk q := fun q e => by rw [hS']; exact upd_other _ _ e
  have b2 : S'.bk c = S.met + 1 := by rw [hS']; exact upd_same _ _ _
  have l1 : ∀ q, q ≠ p → S'.lk q = S.lk q := fun q e => by rw [hS']; exact upd_other _ _ e
  have l2 : S'.lk p = S.lk p + 1 := by rw [hS']; exact upd_same _ _ _
  have o1 : ∀ q, q ≠ c → S'.op q = S.op q := fun q e => by rw [hS']; exact upd_other _ _ e
  have o2 : S'.op c = true := by rw [hS']; exact upd_same _ _ _
  have m1 : S'.met = S.met + 1 := by rw [hS']; rfl
  have p1 : S'.opn = S.opn ++ [c] := by rw [hS']; rfl
  have g1 : S'.grp = S.grp := by rw [hS']; rfl
  rw [← hS']
  clear hS'
  have hle := h.le
  have ne_of : ∀ q, S.op q = true → q ≠ c := fun q hq e => by rw [e, hco] at hq; cases hq
  have ne_met : ∀ q, S.N q ≠ 0 → q ≠ c := fun q hq e => hq (by rw [e]; exact hn)
  have hlt : ∀ q, q ≠ c → S'.N q < S'.N c := fun q e => by rw [N1 q e, N2]; have := hle q; omega
  constructor
  · intro q hq
    by_cases e : q = c
    · rw [e]; exact hcl
    · exact h.small q (by rwa [N1 q e] at hq)
  · intro q
    rw [m1]
    by_cases e : q = c
    · rw [e, N2]; exact Nat.le_refl _
    · rw [N1 q e]; have := hle q; omega
  · intro q r e hq
    by_cases e1 : q = c
    · by_cases e2 : r = c
      · rw [e1, e2]
      · have := hlt r e2; rw [e1] at e; omega
    · by_cases e2 : r = c
      · have := hlt q e1; rw [e2] at e; omega
      · rw [N1 q e1] at e hq; rw [N1 r e2] at e
        exact h.inj q r e hq
  · intro q hq
    by_cases e : q = c
    · rw [e, N2]; omega
    · rw [N1 q e]; rw [o1 q e] at hq; exact h.opmet q hq
  · intro q
    rw [p1, List.mem_append]
    by_cases e : q = c
    · rw [e]; simp [o2]
    · rw [o1 q e, ← h.opn]; simp [e]
  · rw [p1, List.pairwise_append]
    refine ⟨h.sort.imp_of_mem ?_, by simp, ?_⟩
    · intro a b ha hb hab
      have ea : a ≠ c := fun e => hopn (by rw [← e]; exact ha)
      have eb : b ≠ c := fun e => hopn (by rw [← e]; exact hb)
      rw [N1 a ea, N1 b eb]; exact hab
    · intro a ha b hb
      have ea : a ≠ c := fun e => hopn (by rw [← e]; exact ha)
      have eb : b = c := by simpa using hb
      rw [eb]; exact hlt a ea
  · intro q hq
    rcases List.mem_append.1 hq with hq | hq
    · have e : q ≠ c := fun e => hwc (by rw [← e]; exact hq)
      rw [o1 q e]; exact h.wop q hq
    · have e : q = c := by simpa using hq
      rw [e]; exact o2
  · rw [List.pairwise_append]
    refine ⟨h.wsort.imp_of_mem ?_, by simp, ?_⟩
    · intro a b ha hb hab
      have ea : a ≠ c := fun e => hwc (by rw [← e]; exact ha)
      have eb : b ≠ c := fun e => hwc (by rw [← e]; exact hb)
      rw [N1 a ea, N1 b eb]; exact hab
    · intro a ha b hb
      have ea : a ≠ c := fun e => hwc (by rw [← e]; exact ha)
      have eb : b = c := by simpa using hb
      rw [eb]; exact hlt a ea
  · intro q hq
    by_cases e : q = c
    · exact ⟨c, by simp, by rw [e]; exact Nat.le_refl _⟩
    · obtain ⟨a, ha, hle'⟩ := h.root q (by rwa [o1 q e] at hq)
      have ea : a ≠ c := fun e => hwc (by rw [← e]; exact ha)
      exact ⟨a, List.mem_append_left _ ha, by rw [N1 a ea, N1 q e]; exact hle'⟩
  · intro a ha q hq hN
    rcases List.mem_append.1 ha with ha | ha
    · have ea : a ≠ c := fun e => hwc (by rw [← e]; exact ha)
      by_cases e : q = c
      · rw [e]
        have : Reach g (a : Int) (p : Int) := h.reach a ha p hop (h.last_le a ha)
        exact this.trans hedge
      · rw [N1 a ea, N1 q e] at hN
        exact h.reach a ha q (by rwa [o1 q e] at hq) hN
    · have ea : a = c := by simpa using ha
      rw [ea] at hN ⊢
      by_cases e : q = c
      · rw [e]; exact .self
      · have := hlt q e; omega
  · intro q hq
    by_cases e : q = c
    · rw [e, N2, b2]; exact Nat.le_refl _
    · rw [N1 q e, b1 q e]; exact h.low1 q (by rwa [o1 q e] at hq)
  · intro q hq
    by_cases e : q = c
    · rw [e]; exact ⟨c, o2, by rw [N2, b2], .self⟩
    · obtain ⟨r, hr, hN, hR⟩ := h.low2 q (by rwa [o1 q e] at hq)
      have er := ne_of r hr
      exact ⟨r, by rw [o1 r er]; exact hr, by rw [N1 r er, b1 q e]; exact hN, hR⟩
  · intro q hq
    by_cases e : q = c
    · rw [e, N2] at hq; omega
    · rw [N1 q e] at hq
      have ep : q ≠ p := fun e' => h.opmet p hop (by rw [← e']; exact hq)
      rw [l1 q ep]; exact h.lk0 q hq
  · intro q
    by_cases e : q = p
    · rw [e, l2]; omega
    · rw [l1 q e]; exact h.lkle q
  · intro q hq r hr
    by_cases e : q = c
    · rw [e, l1 c (Ne.symm hpc), h.lk0 c hn] at hr
      simp at hr
    · have hq' : S.op q = true := by rwa [o1 q e] at hq
      by_cases er : r = c
      · rw [er]
        refine ⟨by rw [N2]; omega, fun _ => ?_⟩
        rw [b1 q e, N2]
        have := h.low1 q hq'
        have := hle q
        omega
      · have hr' : (r : Int) ∈ (rowN g q).take (S.lk q) := by
          by_cases ep : q = p
          · rw [ep, l2] at hr
            rcases take_look hl hr with h1 | h1
            · rw [ep]; exact h1
            · rw [he] at h1; omega
          · rwa [l1 q ep] at hr
        obtain ⟨h1, h2⟩ := h.look q hq' r hr'
        rw [N1 r er, o1 r er, b1 q e]
        exact ⟨h1, h2⟩
  · intro q hq hqw
    have e : q ≠ c := fun e => hqw (by simp [e])
    have ew : q ∉ way ++ [p] := fun e' => hqw (List.mem_append_left _ e')
    have ep : q ≠ p := fun e' => ew (by simp [e'])
    rw [l1 q ep, b1 q e, N1 q e]
    exact h.fin q (by rwa [o1 q e] at hq) ew
  · intro a ha q hq hqw hN hb
    have e : q ≠ c := fun e => hqw (by simp [e])
    have ew : q ∉ way ++ [p] := fun e' => hqw (List.mem_append_left _ e')
    rcases List.mem_append.1 ha with ha | ha
    · have ea : a ≠ c := fun e => hwc (by rw [← e]; exact ha)
      rw [N1 a ea, N1 q e] at hN
      rw [b1 a ea, b1 q e]
      refine h.par a ha q (by rwa [o1 q e] at hq) ew hN (fun p' hp' => ?_)
      have e' : p' ≠ c := fun e => hwc (by rw [← e]; exact hp')
      have := hb p' (List.mem_append_left _ hp')
      rwa [N1 p' e', N1 a ea, N1 q e] at this
    · have ea : a = c := by simpa using ha
      have := hlt q e
      rw [ea] at hN; omega
  · intro q hq hqo r hr
    have e : q ≠ c := fun e => by rw [e, o2] at hqo; cases hqo
    rw [N1 q e] at hq
    rw [o1 q e] at hqo
    obtain ⟨h1, h2⟩ := h.closed q hq hqo r hr
    have er := ne_met r h1
    rw [N1 r er, o1 r er]
    exact ⟨h1, h2⟩
  · intro G hG
    rw [g1] at hG
    obtain ⟨k, hk, e, hx⟩ := h.grp G hG
    refine ⟨k, hk, e, fun x hxG => ?_⟩
    obtain ⟨h1, h2⟩ := hx x hxG
    have er := ne_met x h1
    rw [N1 x er, o1 x er]
    exact ⟨h1, h2⟩
  · intro q hq hqo
    have e : q ≠ c := fun e => by rw [e, o2] at hqo; cases hqo
    rw [g1]
    exact h.cov q (by rwa [N1 q e] at hq) (by rwa [o1 q e] at hqo)
  · rw [g1]; exact h.apart

/-- The next point is told already. -/
theorem Inv.past {g : List (List Int)} {S : TS} {way : List Nat} {p c : Nat} (h : Inv g S (way ++ [p])) (hl : S.lk p < (rowN g p).length) (he : (rowN g p)[S.lk p] = (c : Int)) (hn : S.N c ≠ 0) (hc : S.op c = true → S.bk p ≤ S.N c) :
    Inv g (lookS S p) (way ++ [p]) := by
  have hop := h.wop p (by simp)
  have l1 : ∀ q, q ≠ p → (lookS S p).lk q = S.lk q := fun q e => upd_other _ _ e
  have l2 : (lookS S p).lk p = S.lk p + 1 := upd_same _ _ _
  refine ⟨h.small, h.le, h.inj, h.opmet, h.opn, h.sort, h.wop, h.wsort, h.root, h.reach, h.low1, h.low2, fun q hq => ?_, fun q => ?_, fun q hq r hr => ?_, fun q hq hqw => ?_, h.par, h.closed, h.grp, h.cov, h.apart⟩
  · have ep : q ≠ p := fun e' => h.opmet p hop (by rw [← e']; exact hq)
    rw [l1 q ep]; exact h.lk0 q hq
  · by_cases e : q = p
    · rw [e, l2]; omega
    · rw [l1 q e]; exact h.lkle q
  · by_cases e : q = p
    · rw [e, l2] at hr
      rcases take_look hl hr with h1 | h1
      · rw [e]; exact h.look p hop r h1
      · rw [he] at h1
        have : r = c := by omega
        rw [this, e]; exact ⟨hn, hc⟩
    · rw [l1 q e] at hr
      exact h.look q hq r hr
  · have ep : q ≠ p := fun e' => hqw (by simp [e'])
    rw [l1 q ep]
    exact h.fin q hq hqw

/-- A point of the way sees one that it leads to and that is open. -/
theorem Inv.sees {g : List (List Int)} {S : TS} {way : List Nat} {p r : Nat} (h : Inv g S (way ++ [p])) (hr : S.op r = true) (hR : Reach g (p : Int) (r : Int)) (v : Nat) (hv : S.N r = v) : Inv g (minS S p v) (way ++ [p]) := by
  have hop := h.wop p (by simp)
  have b1 : ∀ q, q ≠ p → (minS S p v).bk q = S.bk q := fun q e => upd_other _ _ e
  have b2 : (minS S p v).bk p = min (S.bk p) v := upd_same _ _ _
  have ble : ∀ q, (minS S p v).bk q ≤ S.bk q := fun q => by
    by_cases e : q = p
    · rw [e, b2]; exact Nat.min_le_left _ _
    · rw [b1 q e]; exact Nat.le_refl _
  refine ⟨h.small, h.le, h.inj, h.opmet, h.opn, h.sort, h.wop, h.wsort, h.root, h.reach, fun q hq => Nat.le_trans (ble q) (h.low1 q hq), fun q hq => ?_, h.lk0, h.lkle, fun q hq r hr => ?_, fun q hq hqw => ?_, fun a ha q hq hqw hN hb => ?_, h.closed, h.grp, h.cov, h.apart⟩
  · by_cases e : q = p
    · rw [e, b2]
      rcases Nat.le_total (S.bk p) v with hm | hm
      · rw [Nat.min_eq_left hm]; exact h.low2 p hop
      · rw [Nat.min_eq_right hm]; exact ⟨r, hr, hv, hR⟩
    · rw [b1 q e]; exact h.low2 q hq
  · obtain ⟨h1, h2⟩ := h.look q hq r hr
    exact ⟨h1, fun ho => Nat.le_trans (ble q) (h2 ho)⟩
  · have ep : q ≠ p := fun e' => hqw (by simp [e'])
    rw [b1 q ep]
    exact h.fin q hq hqw
  · have ep : q ≠ p := fun e' => hqw (by simp [e'])
    rw [b1 q ep]
    exact Nat.le_trans (ble a) (h.par a ha q hq hqw hN hb)

end Go.Proofs.Ytnmnbeklofnonaa

namespace Go.Proofs.Ytnmnbeklofnonaa
open Go.RowKit
set_option linter.unusedVariables false

/-- A point that is looked through and has seen one met before it stays open: the way turns back. -/
theorem Inv.back {g : List (List Int)} {S : TS} {way : List Nat} {a p : Nat} (h : Inv g S (way ++ [a] ++ [p])) (hl : S.lk p = (rowN g p).length) (hb : S.bk p < S.N p) :
    Inv g (minS S a (S.bk p)) (way ++ [a]) := by
  have hop := h.wop p (by simp)
  have hoa := h.wop a (by simp)
  have hap : S.N a < S.N p := h.last_most a (by simp)
  have hnp : a ≠ p := fun e => by rw [e] at hap; omega
  have hpw : p ∉ way ++ [a] := fun e => by have := h.last_most p e; omega
  have hra : Reach g (a : Int) (p : Int) := h.reach a (by simp) p hop (by omega)
  have b1 : ∀ q, q ≠ a → (minS S a (S.bk p)).bk q = S.bk q := fun q e => upd_other _ _ e
  have b2 : (minS S a (S.bk p)).bk a = min (S.bk a) (S.bk p) := upd_same _ _ _
  have ble : ∀ q, (minS S a (S.bk p)).bk q ≤ S.bk q := fun q => by
    by_cases e : q = a
    · rw [e, b2]; exact Nat.min_le_left _ _
    · rw [b1 q e]; exact Nat.le_refl _
  refine ⟨h.small, h.le, h.inj, h.opmet, h.opn, h.sort, fun q hq => h.wop q (List.mem_append_left _ hq), (List.pairwise_append.1 h.wsort).1, fun q hq => ?_, fun x hx q hq hN => h.reach x (List.mem_append_left _ hx) q hq hN, fun q hq => Nat.le_trans (ble q) (h.low1 q hq), fun q hq => ?_, h.lk0, h.lkle, fun q hq r hr => ?_, fun q hq hqw => ?_, fun x hx q hq hqw hN hbt => ?_, h.closed, h.grp, h.cov, h.apart⟩
  · obtain ⟨x, hx, hle⟩ := h.root q hq
    rcases List.mem_append.1 hx with hx | hx
    · exact ⟨x, hx, hle⟩
    · have e : x = p := by simpa using hx
      rw [e] at hle
      exact ⟨a, by simp, by show S.N a ≤ S.N q; omega⟩
  · by_cases e : q = a
    · rw [e, b2]
      rcases Nat.le_total (S.bk a) (S.bk p) with hm | hm
      · rw [Nat.min_eq_left hm]; exact h.low2 a hoa
      · rw [Nat.min_eq_right hm]
        obtain ⟨r, h1, h2, h3⟩ := h.low2 p hop
        exact ⟨r, h1, h2, hra.trans h3⟩
    · rw [b1 q e]; exact h.low2 q hq
  · obtain ⟨h1, h2⟩ := h.look q hq r hr
    exact ⟨h1, fun ho => Nat.le_trans (ble q) (h2 ho)⟩
  · have ea : q ≠ a := fun e => hqw (by simp [e])
    rw [b1 q ea]
    by_cases ep : q = p
    · rw [ep]; exact ⟨hl, hb⟩
    · refine h.fin q hq (fun e => ?_)
      rcases List.mem_append.1 e with e | e
      · exact hqw e
      · exact ep (by simpa using e)
  · have ea : q ≠ a := fun e => hqw (by simp [e])
    rw [b1 q ea]
    have hNxq : S.N x < S.N q := hN
    have hbt' : ∀ p' ∈ way ++ [a], S.N p' ≤ S.N x ∨ S.N q < S.N p' := hbt
    by_cases ex : x = a
    · rw [ex, b2]
      rw [ex] at hNxq
      by_cases ep : q = p
      · rw [ep]; exact Nat.min_le_right _ _
      · have hqw' : q ∉ way ++ [a] ++ [p] := fun e => by
          rcases List.mem_append.1 e with e | e
          · exact hqw e
          · exact ep (by simpa using e)
        have hne : S.N q ≠ S.N p := fun e => ep (h.inj q p e (h.opmet q hq))
        by_cases hlt : S.N q < S.N p
        · refine Nat.le_trans (Nat.min_le_left _ _) (h.par a (by simp) q hq hqw' hNxq (fun p' hp' => ?_))
          rcases List.mem_append.1 hp' with hp' | hp'
          · have := hbt' p' hp'; rw [ex] at this; exact this
          · have : p' = p := by simpa using hp'
            rw [this]; exact .inr hlt
        · refine Nat.le_trans (Nat.min_le_right _ _) (h.par p (by simp) q hq hqw' (by omega) (fun p' hp' => .inl (h.last_le p' hp')))
    · rw [b1 x ex]
      have hxa : S.N x < S.N a := by
        rcases List.mem_append.1 hx with hx | hx
        · exact (List.pairwise_append.1 (List.pairwise_append.1 h.wsort).1).2.2 x hx a (by simp)
        · exact absurd (by simpa using hx) ex
      have hqa : S.N q < S.N a := by
        rcases hbt' a (by simp) with e | e
        · omega
        · exact e
      have ep : q ≠ p := fun e => by rw [e] at hqa; omega
      refine h.par x (List.mem_append_left _ hx) q hq (fun e => ?_) hNxq (fun p' hp' => ?_)
      · rcases List.mem_append.1 e with e | e
        · exact hqw e
        · exact ep (by simpa using e)
      · rcases List.mem_append.1 hp' with hp' | hp'
        · exact hbt' p' hp'
        · have : p' = p := by simpa using hp'
          rw [this]; exact .inr (by omega)

/-- The points that are open from p on. -/
def regI (S : TS) (p q : Nat) : Prop := S.op q = true ∧ S.N p ≤ S.N q

theorem Inv.reg_out {g : List (List Int)} {S : TS} {way : List Nat} {p : Nat} (h : Inv g S (way ++ [p])) {q : Nat} (hq : regI S p q) (e : q ≠ p) : q ∉ way ++ [p] := by
  intro hw
  have hne : S.N q ≠ S.N p := fun e' => e (h.inj q p e' (h.opmet q hq.1))
  have := h.last_le q hw
  have := hq.2
  omega
theorem Inv.reg_low {g : List (List Int)} {S : TS} {way : List Nat} {p : Nat} (h : Inv g S (way ++ [p])) (hb : S.bk p = S.N p) {q : Nat} (hq : regI S p q) : S.N p ≤ S.bk q := by
  by_cases e : q = p
  · rw [e, hb]; exact Nat.le_refl _
  · have hne : S.N q ≠ S.N p := fun e' => e (h.inj q p e' (h.opmet q hq.1))
    have := h.par p (by simp) q hq.1 (h.reg_out hq e) (by have := hq.2; omega) (fun p' hp' => .inl (h.last_le p' hp'))
    rwa [hb] at this
/-- All of them lead to p. -/
theorem Inv.reg_to {g : List (List Int)} {S : TS} {way : List Nat} {p : Nat} (h : Inv g S (way ++ [p])) (hb : S.bk p = S.N p) : ∀ (n q : Nat), S.N q ≤ n → regI S p q → Reach g (q : Int) (p : Int) := by
  intro n
  induction n with
  | zero =>
    intro q hn hq
    exact absurd (Nat.le_zero.1 hn) (h.opmet q hq.1)
  | succ n ih =>
    intro q hn hq
    by_cases e : q = p
    · rw [e]; exact .self
    · obtain ⟨_, hlt⟩ := h.fin q hq.1 (h.reg_out hq e)
      obtain ⟨r, hr, hN, hR⟩ := h.low2 q hq.1
      have hl := h.reg_low hb hq
      exact hR.trans (ih r (by omega) ⟨hr, by omega⟩)
/-- What p leads to lies there, or is told. -/
theorem Inv.reg_from {g : List (List Int)} (hg : rowsB g = true) {S : TS} {way : List Nat} {p : Nat} (h : Inv g S (way ++ [p])) (hl : S.lk p = (rowN g p).length) (hb : S.bk p = S.N p) {x : Int} (hx : Reach g (p : Int) x) :
    ∃ q : Nat, x = (q : Int) ∧ (regI S p q ∨ (S.N q ≠ 0 ∧ S.op q = false)) := by
  induction hx with
  | self => exact ⟨p, rfl, .inl ⟨h.wop p (by simp), Nat.le_refl _⟩⟩
  | step _ hc ih =>
    obtain ⟨b, rfl, hb'⟩ := ih
    obtain ⟨r, rfl, _⟩ := mem_row hg hc
    refine ⟨r, rfl, ?_⟩
    rcases hb' with hb' | hb'
    · have hlen : S.lk b = (rowN g b).length := by
        by_cases e : b = p
        · rw [e]; exact hl
        · exact (h.fin b hb'.1 (h.reg_out hb' e)).1
      obtain ⟨h1, h2⟩ := h.look b hb'.1 r (by rw [hlen, List.take_length]; exact hc)
      cases ho : S.op r with
      | false => exact .inr ⟨h1, rfl⟩
      | true =>
        have := h.reg_low hb hb'
        have := h2 ho
        exact .inl ⟨ho, by omega⟩
    · exact .inr (h.closed b hb'.1 hb'.2 r hc)
theorem Inv.told_out {g : List (List Int)} (hg : rowsB g = true) {S : TS} {way : List Nat} (h : Inv g S way) {q : Nat} (hq : S.N q ≠ 0 ∧ S.op q = false) {x : Int} (hx : Reach g (q : Int) x) : ∃ r : Nat, x = (r : Int) ∧ S.N r ≠ 0 ∧ S.op r = false := by
  induction hx with
  | self => exact ⟨q, rfl, hq⟩
  | step _ hc ih =>
    obtain ⟨b, rfl, hb⟩ := ih
    obtain ⟨r, rfl, _⟩ := mem_row hg hc
    exact ⟨r, rfl, h.closed b hb.1 hb.2 r hc⟩
/-- So they are the group of p. -/
theorem Inv.reg_group {g : List (List Int)} (hg : rowsB g = true) {S : TS} {way : List Nat} {p : Nat} (h : Inv g S (way ++ [p])) (hl : S.lk p = (rowN g p).length) (hb : S.bk p = S.N p) (x : Int) :
    x ∈ groupL g (p : Int) ↔ ∃ q : Nat, x = (q : Int) ∧ regI S p q := by
  have hop := h.wop p (by simp)
  have hpg := h.small p (h.opmet p hop)
  rw [groupL_mem hg (by omega)]
  constructor
  · rintro ⟨h1, h2⟩
    obtain ⟨q, rfl, hq | hq⟩ := h.reg_from hg hl hb h1
    · exact ⟨q, rfl, hq⟩
    · obtain ⟨r, hr, _, hno⟩ := h.told_out hg hq h2
      have : r = p := by omega
      rw [this, hop] at hno; cases hno
  · rintro ⟨q, rfl, hq⟩
    exact ⟨h.reach p (by simp) q hq.1 hq.2, h.reg_to hb _ q (Nat.le_refl _) hq⟩

/-- The open points from p on are told. -/
noncomputable def closeS (g : List (List Int)) (S : TS) (A B : List Nat) (p : Nat) : TS := { S with op := fun q => S.op q && !decide (q ∈ p :: B), opn := A, grp := S.grp ++ [groupL g (p : Int)] }

theorem Inv.reg_mem {g : List (List Int)} {S : TS} {way A B : List Nat} {p : Nat} (h : Inv g S way) (e : S.opn = A ++ p :: B) (q : Nat) : q ∈ p :: B ↔ regI S p q := by
  have hs := h.sort
  rw [e] at hs
  obtain ⟨s1, s2, s3⟩ := List.pairwise_append.1 hs
  obtain ⟨s4, _⟩ := List.pairwise_cons.1 s2
  constructor
  · intro hq
    refine ⟨(h.opn q).1 (by rw [e]; exact List.mem_append_right _ hq), ?_⟩
    rcases List.mem_cons.1 hq with rfl | hq
    · exact Nat.le_refl _
    · exact Nat.le_of_lt (s4 q hq)
  · rintro ⟨h1, h2⟩
    have hq := (h.opn q).2 h1
    rw [e] at hq
    rcases List.mem_append.1 hq with hq | hq
    · have := s3 q hq p (by simp); omega
    · exact hq

/-- A point that is looked through and has seen none met before it: its group is told, and the way turns back. -/
theorem Inv.tell {g : List (List Int)} (hg : rowsB g = true) {S : TS} {way A B : List Nat} {p : Nat} (h : Inv g S (way ++ [p])) (hl : S.lk p = (rowN g p).length) (hb : S.bk p = S.N p) (e : S.opn = A ++ p :: B) :
    Inv g (closeS g S A B p) way := by
  have hop := h.wop p (by simp)
  have hpg := h.small p (h.opmet p hop)
  have hm := h.reg_mem e
  have o1 : ∀ q, (closeS g S A B p).op q = true ↔ S.op q = true ∧ S.N q < S.N p := fun q => by
    show (S.op q && !decide (q ∈ p :: B)) = true ↔ _
    rw [Bool.and_eq_true, Bool.not_eq_true', decide_eq_false_iff_not, hm]
    constructor
    · rintro ⟨h1, h2⟩
      refine ⟨h1, ?_⟩
      rcases Nat.lt_or_ge (S.N q) (S.N p) with h3 | h3
      · exact h3
      · exact absurd ⟨h1, h3⟩ h2
    · rintro ⟨h1, h2⟩
      exact ⟨h1, fun h3 => by have := h3.2; omega⟩
  have o0 : ∀ q, S.N q ≠ 0 → (closeS g S A B p).op q = false → S.op q = false ∨ regI S p q := fun q hq ho => by
    cases e1 : S.op q with
    | false => exact .inl rfl
    | true =>
      rcases Nat.lt_or_ge (S.N q) (S.N p) with h3 | h3
      · rw [(o1 q).2 ⟨e1, h3⟩] at ho; cases ho
      · exact .inr ⟨e1, h3⟩
  have of : ∀ q, regI S p q → (closeS g S A B p).op q = false := fun q hq => by
    cases e1 : (closeS g S A B p).op q with
    | false => rfl
    | true => have := ((o1 q).1 e1).2; have := hq.2; omega
  have of' : ∀ q, S.op q = false → (closeS g S A B p).op q = false := fun q hq => by
    cases e1 : (closeS g S A B p).op q with
    | false => rfl
    | true => have := ((o1 q).1 e1).1; rw [hq] at this; cases this
  have hs := h.sort
  rw [e] at hs
  obtain ⟨s1, s2, s3⟩ := List.pairwise_append.1 hs
  have hway : ∀ q ∈ way, S.N q < S.N p := h.last_most
  have hrg := h.reg_group hg hl hb
  refine ⟨h.small, h.le, h.inj, fun q hq => h.opmet q ((o1 q).1 hq).1, fun q => ?_, s1, fun q hq => (o1 q).2 ⟨h.wop q (List.mem_append_left _ hq), hway q hq⟩, (List.pairwise_append.1 h.wsort).1, fun q hq => ?_, fun x hx q hq hN => h.reach x (List.mem_append_left _ hx) q ((o1 q).1 hq).1 hN, fun q hq => h.low1 q ((o1 q).1 hq).1, fun q hq => ?_, h.lk0, h.lkle, fun q hq r hr => ?_, fun q hq hqw => ?_, fun x hx q hq hqw hN hbt => ?_, fun q hq hqo r hr => ?_, fun G hG => ?_, fun q hq hqo => ?_, ?_⟩
  · rw [o1]
    show q ∈ A ↔ _
    constructor
    · intro hq
      exact ⟨(h.opn q).1 (by rw [e]; exact List.mem_append_left _ hq), s3 q hq p (by simp)⟩
    · rintro ⟨h1, h2⟩
      have hq := (h.opn q).2 h1
      rw [e] at hq
      rcases List.mem_append.1 hq with hq | hq
      · exact hq
      · have := ((hm q).1 hq).2; omega
  · obtain ⟨h1, h2⟩ := (o1 q).1 hq
    obtain ⟨x, hx, hle⟩ := h.root q h1
    rcases List.mem_append.1 hx with hx | hx
    · exact ⟨x, hx, hle⟩
    · have : x = p := by simpa using hx
      rw [this] at hle; omega
  · obtain ⟨h1, h2⟩ := (o1 q).1 hq
    obtain ⟨r, h3, h4, h5⟩ := h.low2 q h1
    have := h.low1 q h1
    exact ⟨r, (o1 r).2 ⟨h3, by omega⟩, h4, h5⟩
  · obtain ⟨h1, h2⟩ := (o1 q).1 hq
    obtain ⟨h3, h4⟩ := h.look q h1 r hr
    exact ⟨h3, fun ho => h4 ((o1 r).1 ho).1⟩
  · obtain ⟨h1, h2⟩ := (o1 q).1 hq
    refine h.fin q h1 (fun e' => ?_)
    rcases List.mem_append.1 e' with e' | e'
    · exact hqw e'
    · have : q = p := by simpa using e'
      rw [this] at h2; omega
  · obtain ⟨h1, h2⟩ := (o1 q).1 hq
    refine h.par x (List.mem_append_left _ hx) q h1 (fun e' => ?_) hN (fun p' hp' => ?_)
    · rcases List.mem_append.1 e' with e' | e'
      · exact hqw e'
      · have : q = p := by simpa using e'
        rw [this] at h2; omega
    · rcases List.mem_append.1 hp' with hp' | hp'
      · exact hbt p' hp'
      · have : p' = p := by simpa using hp'
        rw [this]; exact .inr h2
  · rcases o0 q hq hqo with h1 | h1
    · obtain ⟨h2, h3⟩ := h.closed q hq h1 r hr
      exact ⟨h2, of' r h3⟩
    · have hR : Reach g (p : Int) (r : Int) := (h.reach p (by simp) q h1.1 h1.2).step hr
      obtain ⟨r', hr', h2⟩ := h.reg_from hg hl hb hR
      have : r' = r := by omega
      rw [this] at h2
      rcases h2 with h2 | h2
      · exact ⟨h.opmet r h2.1, of r h2⟩
      · exact ⟨h2.1, of' r h2.2⟩
  · rcases List.mem_append.1 hG with hG | hG
    · obtain ⟨k, hk, e1, h1⟩ := h.grp G hG
      exact ⟨k, hk, e1, fun x hx => ⟨(h1 x hx).1, of' x (h1 x hx).2⟩⟩
    · have e1 : G = groupL g (p : Int) := by simpa using hG
      refine ⟨p, hpg, e1, fun x hx => ?_⟩
      rw [e1] at hx
      obtain ⟨q, hq, h1⟩ := (hrg x).1 hx
      have : q = x := by omega
      rw [this] at h1
      exact ⟨h.opmet x h1.1, of x h1⟩
  · rcases o0 q hq hqo with h1 | h1
    · obtain ⟨G, hG, h2⟩ := h.cov q hq h1
      exact ⟨G, List.mem_append_left _ hG, h2⟩
    · exact ⟨groupL g (p : Int), List.mem_append_right _ (by simp), (hrg q).2 ⟨q, rfl, h1⟩⟩
  · show (S.grp ++ [groupL g (p : Int)]).Pairwise _
    rw [List.pairwise_append]
    refine ⟨h.apart, by simp, fun G hG H hH x hxG hxH => ?_⟩
    have e1 : H = groupL g (p : Int) := by simpa using hH
    rw [e1] at hxH
    obtain ⟨q, rfl, h1⟩ := (hrg x).1 hxH
    obtain ⟨k, hk, e2, h2⟩ := h.grp G hG
    have := (h2 q hxG).2
    rw [h1.1] at this; cases this

theorem Inv.min_none {g : List (List Int)} {S : TS} {way : List Nat} {a : Nat} (h : Inv g S way) (ha : S.op a = true) {v : Nat} (hv : S.N a ≤ v) : minS S a v = S := by
  have := h.low1 a ha
  unfold minS
  rw [Nat.min_eq_left (by omega), upd_id]

end Go.Proofs.Ytnmnbeklofnonaa
