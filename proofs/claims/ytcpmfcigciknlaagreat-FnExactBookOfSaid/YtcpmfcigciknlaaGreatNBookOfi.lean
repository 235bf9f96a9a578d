/- Texts of this proof, part i: words, plain facts, contracts. -/
import Derived.Test.YtcpmfcigciknlaaGreatNBookOfg
import Derived.Test.YtcpmfcigciknlaaGreatNBookOfe
import Derived.Test.YtcpmfcigciknlaaGreatNBookOfb
import Derived.Test.YtcpmfcigciknlaaGreatNBookOfh
import Derived.Test.YtcpmfcigciknlaaGreatNBookOfc
import Derived.WalkSpells
set_option linter.unusedVariables false
set_option linter.unusedSimpArgs false

namespace Go.Proofs.YtcpmfcigciknlaaGreat
open Go.RowKit
set_option linter.unusedVariables false
theorem Fresh.upto {B : Nat} {w : World} {ao : Option Addr} {cap : Nat} {l : List Int} (h : Fresh B w (.slice ao l.length cap) l) (k : Nat) (hk : k ≤ l.length) : Fresh B w (.slice ao k cap) (l.take k) := by
  have e : (l.take k).length = k := by simp; omega
  unfold Fresh
  rw [e]
  refine ⟨by simp; omega, ?_⟩
  rcases h.2 with ⟨hv, hn⟩ | ⟨g, cap', cur, hv, hb, hg, hnc, hcm, hcs, ht⟩
  · left
    simp only [Value.slice.injEq] at hv
    obtain ⟨rfl, _, rfl⟩ := hv
    have : k = 0 := by omega
    subst this
    exact ⟨rfl, rfl⟩
  · right
    simp only [Value.slice.injEq] at hv
    obtain ⟨rfl, _, rfl⟩ := hv
    refine ⟨g, cap, cur, rfl, hb, hg, by omega, hcm, hcs, ?_⟩
    rw [List.map_take, ← ht, List.take_take]
    congr 1
    omega
def insAt (K : Int → Int) (out : List Int) (p : Int) : Nat → Nat
  | 0 => 0
  | k + 1 => if K p < K (out[k]?.getD 0) then insAt K out p k else k + 1
theorem insAt_le (K : Int → Int) (out : List Int) (p : Int) : ∀ k, insAt K out p k ≤ k
  | 0 => Nat.le_refl _
  | k + 1 => by
    unfold insAt
    split
    · exact Nat.le_succ_of_le (insAt_le K out p k)
    · exact Nat.le_refl _
def insK (K : Int → Int) (out : List Int) (p : Int) : List Int := out.take (insAt K out p out.length) ++ [p] ++ out.drop (insAt K out p out.length)
theorem insK_len (K : Int → Int) (out : List Int) (p : Int) : (insK K out p).length = out.length + 1 := by
  have := insAt_le K out p out.length
  unfold insK
  simp
  omega
theorem insK_mem {K : Int → Int} {out : List Int} {p x : Int} (h : x ∈ insK K out p) : x ∈ out ∨ x = p := by
  unfold insK at h
  rcases List.mem_append.1 h with h | h
  · rcases List.mem_append.1 h with h | h
    · exact .inl (List.mem_of_mem_take h)
    · exact .inr (by simpa using h)
  · exact .inl (List.mem_of_mem_drop h)
def byKeyL (K : Int → Int) (l : List Int) : List Int := l.foldl (insK K) []
theorem byKeyL_succ (K : Int → Int) {l : List Int} {t : Nat} (h : t < l.length) : byKeyL K (l.take (t + 1)) = insK K (byKeyL K (l.take t)) l[t] := by
  unfold byKeyL
  rw [List.take_add_one, List.getElem?_eq_getElem h, List.foldl_append]
  rfl
theorem byKeyL_in (K : Int → Int) {l : List Int} : ∀ (t : Nat), t ≤ l.length → (byKeyL K (l.take t)).length = t ∧ ∀ x ∈ byKeyL K (l.take t), x ∈ l
  | 0, _ => by simp [byKeyL]
  | t + 1, h => by
    obtain ⟨h1, h2⟩ := byKeyL_in K (l := l) t (by omega)
    rw [byKeyL_succ K (by omega), insK_len, h1]
    refine ⟨rfl, fun x hx => ?_⟩
    rcases insK_mem hx with hx | rfl
    · exact h2 x hx
    · exact List.getElem_mem _
def keyAt (key : List Int) (p : Int) : Int := key[p.toNat]?.getD 0
set_option maxHeartbeats 4000000 in
theorem l5ByKey_any (v u : Value) (l key : List Int) (w : World) (hv : Ints w v l) (hu : Ints w u key) (hl : l.length ≤ 1048576) (hin : ∀ x ∈ l, 0 ≤ x ∧ x < key.length) :
    Calls Tryz.prog 140 #[v, u] w (OneInts (byKeyL (keyAt key) l) w) := by
  obtain ⟨av, cv, rfl, hlv, _, dv⟩ := hv
  obtain ⟨au, cu, rfl, hlu, _, du⟩ := hu
  unfold maxLen at hlv hlu
  obtain ⟨K, hK⟩ : ∃ K, K = keyAt key := ⟨_, rfl⟩
  have hKs : ∀ p : Nat, K p = key[p]?.getD 0 := fun p => by rw [hK]; unfold keyAt; rw [Int.toNat_natCast]
  rw [← hK]
  have HK := Lib.hid hKs
  have HIN := Lib.hid hin
  have DV := Lib.hid dv
  have DU := Lib.hid du
  have HL := Lib.hid hl
  clear hK hKs hin dv du hl
  go_enter Tryz.func140, Tryz.ntmps140
  go_wp2
  go_loopw [5, 7, 8, 9, 12] (fun vo _ _ _ i wr => ∃ t : Nat, t ≤ l.length ∧ i = .int .i64 t ∧ Fresh w.heap.size wr vo (byKeyL K (l.take t)) ∧ Ext w wr) (fun _ _ _ _ i _ => l.length - (intOf i).toNat)
  case atStart => exact ⟨0, Nat.zero_le _, rfl, World.ownsRow_nil _ _ _ _, Ext.refl _⟩
  case round =>
    obtain ⟨t, ht, rfl, hf, hx⟩ := hrel
    obtain ⟨wo, hwo⟩ : ∃ x : World, x = wr := ⟨_, rfl⟩
    subst hwo
    by_cases hlt : t < l.length
    · obtain ⟨bv, ov, rfl, ev⟩ := DV.out (by omega)
      have gv := hx.cell (ev t hlt)
      rw [List.getElem?_eq_getElem hlt, Option.getD_some] at gv
      have hp := HIN.out _ (List.getElem_mem hlt)
      obtain ⟨p, hpp⟩ : ∃ p : Nat, l[t] = (p : Int) := ⟨l[t].toNat, by omega⟩
      have hpk : p < key.length := by omega
      rw [hpp] at gv
      obtain ⟨h1, h2⟩ := byKeyL_in K t ht
      have h3 := byKeyL_succ K hlt
      rw [hpp] at h3
      obtain ⟨out, hO⟩ : ∃ out, out = byKeyL K (l.take t) := ⟨_, rfl⟩
      rw [← hO] at h1 h2 h3 hf
      obtain ⟨bu, ou, rfl, eu⟩ := DU.out (by omega)
      have gp := hx.cell (eu p hpk)
      rw [← HK.out p] at gp
      have h4 : ∀ (j : Nat) (hj : j < out.length), ∃ q : Nat, out[j] = (q : Int) ∧ q < key.length := fun j hj => by
        have := HIN.out _ (h2 _ (List.getElem_mem hj))
        exact ⟨(out[j]).toNat, by omega, by omega⟩
      obtain ⟨ao, co, rfl, hlo, hco, dO⟩ := hf.ints
      have hco1 := hco.1
      have hco2 := hco.2.1
      unfold maxLen at hlo hco2
      have HCO := Lib.hid hco
      have DO := Lib.hid dO
      have H1 := Lib.hid h1
      have H3 := Lib.hid h3
      have H4 := Lib.hid h4
      have HF := Lib.hid hf
      have HX := Lib.hid hx
      have EU := Lib.hid eu
      clear ev hp hpp h1 h2 h3 hO h4 dO hf hx eu hco
      go_wp2
      go_loopw [8] (fun i wr => ∃ k : Nat, k ≤ out.length ∧ i = .int .i64 k ∧ insAt K out p out.length = insAt K out p k ∧ Ext wo wr) (fun i _ => (intOf i).toNat)
      case atStart => exact ⟨out.length, Nat.le_refl _, rfl, rfl, Ext.refl _⟩
      case round =>
        obtain ⟨k, hk, rfl, hi, hxr⟩ := hrel
        obtain ⟨w2, hw2⟩ : ∃ x : World, x = wr := ⟨_, rfl⟩
        subst hw2
        have HXR := Lib.hid hxr
        have gv := hxr.cell gv
        have gp := hxr.cell gp
        have HF := Lib.hid (HF.out.ext hxr)
        have HX := Lib.hid (HX.out.trans hxr)
        cases ao with
        | none =>
          have hco0 : co = 0 := HCO.out.2.2 rfl
          obtain rfl : out = [] := List.eq_nil_of_length_eq_zero (by omega)
          obtain rfl : k = 0 := by simpa using hk
          have e0 : decide ((0 : Nat) < 0) = false := rfl
          have hI : insK K [] (p : Int) = [(p : Int)] := rfl
          have HI := Lib.hid hI
          subst hco0
          have hd1 : (([] : List Int)).length ≤ 1048576 := by simp
          have hb1 : (([] : List Int)).length ≤ 1099511627776 := by simp
          have hb2 : (([] : List Int) ++ [(p : Int)]).length + (([] : List Int)).length ≤ 1099511627776 := by simp
          have HDL := Lib.hid hd1
          have HB1 := Lib.hid hb1
          have HB2 := Lib.hid hb2
          clear hi hxr hI hd1 hb1 hb2
          go_wp2
          go_quiet (fail)
          go_wp2_with fail
          refine (l1Own_any _ ([] : List Int) _ (Ints.nil _) HDL.out).mono ?_
          rintro e w5 ⟨v5, rfl, f5, x5⟩
          have x5' : Ext w2 w5 := (Ext.drewN (Ext.refl w2) _).trans x5
          have F5 := Lib.hid f5
          have X5 := Lib.hid (HX.out.trans x5')
          clear f5 x5 x5'
          go_wp2_with (at_builtin; refine wpList_push rfl _ _ rfl w.heap.size _ ([] : List Int) (p : Int) rfl (World.ownsRow_nil _ _ _ _) ⟨w5.heap.size, 0, none⟩ 1 rfl (cell_alloc_one _ _ _) HB1.out (size_alloc_le X5.out.size) ?_)
          intro v6 w6 f6 g6 k6
          have E6 := Lib.hid (k6 w (X5.out.alloc _) (Nat.le_refl _))
          have G6 := Lib.hid ((F5.out.ext (Ext.alloc (Ext.refl _) _)).ext (ext_of_grown g6))
          have F6 := Lib.hid f6
          clear f6 g6 k6
          go_wp2_with (at_builtin; refine wpList_join rfl _ _ rfl w.heap.size _ _ (([] : List Int) ++ [(p : Int)]) ([] : List Int) rfl F6.out rfl G6.out.ints HB2.out E6.out.size ?_)
          intro v7 w7 f7 g7 k7
          have E7 := Lib.hid (k7 w E6.out (Nat.le_refl _))
          have F7 := Lib.hid f7
          clear f7 g7 k7
          go_wp2
          go_roundw
          case rel => exact ⟨t + 1, by omega, by go_num, by rw [H3.out, HI.out]; simpa using F7.out, E7.out⟩
          case measure => simp [intOf]; omega
        | some aa =>
          obtain ⟨bo, rfl⟩ : ∃ bo, aa = ⟨bo, 0, none⟩ := by
            rcases HF.out.2 with ⟨hv, _⟩ | ⟨g, _, _, hv, _⟩
            · cases hv
            · simp only [Value.slice.injEq, Option.some.injEq] at hv
              exact ⟨g, hv.1⟩
          have hints := HF.out.ints
          rcases Nat.eq_zero_or_pos k with h0 | h0
          · have e0 : decide (0 < k) = false := by simp; omega
            have hi' : insAt K out p out.length = k := by rw [hi, h0]; rfl
            clear hi h0 hxr
            have HI := Lib.hid hi'
            have HFU := Lib.hid (HF.out.upto k hk)
            have hd1 : (out.drop k).length ≤ 1048576 := by have := HL.out; have := H1.out; simp; omega
            have HDL := Lib.hid hd1
            have hb1 : (out.take k).length ≤ 1099511627776 := by have := HL.out; have := H1.out; simp; omega
            have HB1 := Lib.hid hb1
            have hb2 : (out.take k ++ [(p : Int)]).length + (out.drop k).length ≤ 1099511627776 := by have := HL.out; have := H1.out; simp; omega
            have HB2 := Lib.hid hb2
            have hkc : k ≤ co := by omega
            clear hi' hd1 hb1 hb2
            by_cases hco : co = k
            · have hlen : out.length = k := by omega
              have hco2 : k = co := hco.symm
              subst hco2
              have ib : Ints w2 (.slice (some ⟨bo, 0, none⟩) 0 0) (out.drop k) := by
                rw [show out.drop k = [] by rw [← hlen]; exact List.drop_length]
                exact Ints.none_of (by simp) (fun h => rfl)
              have IB := Lib.hid ib
              clear ib hlen hints
              go_wp2
              go_quiet (fail)
              go_wp2_with fail
              refine (l1Own_any _ (out.drop k) _ (IB.out.ext (Ext.drewN (Ext.refl _) _)) HDL.out).mono ?_
              rintro e w5 ⟨v5, rfl, f5, x5⟩
              have x5' : Ext w2 w5 := (Ext.drewN (Ext.refl w2) _).trans x5
              have F5 := Lib.hid f5
              have X5 := Lib.hid (HX.out.trans x5')
              have HFU5 := Lib.hid (HFU.out.ext x5')
              have AP := Lib.hid ((HFU.out.ext (Ext.drewN (Ext.refl w2) _)).apart f5 (Nat.le_refl _))
              clear f5 x5 x5'
              go_wp2_with (at_builtin; refine wpList_push rfl _ _ rfl w.heap.size _ (out.take k) (p : Int) rfl (HFU5.out.ext (Ext.alloc (Ext.refl _) _)) ⟨w5.heap.size, 0, none⟩ 1 rfl (cell_alloc_one _ _ _) HB1.out (size_alloc_le X5.out.size) ?_)
              intro v6 w6 f6 g6 k6
              have E6 := Lib.hid (k6 w (X5.out.alloc _) (Nat.le_refl _))
              have G6 := Lib.hid ((F5.out.ext (Ext.alloc (Ext.refl _) _)).touch g6 AP.out)
              have F6 := Lib.hid f6
              clear f6 g6 k6
              go_wp2_with (at_builtin; refine wpList_join rfl _ _ rfl w.heap.size _ _ (out.take k ++ [(p : Int)]) (out.drop k) rfl F6.out rfl G6.out.ints HB2.out E6.out.size ?_)
              intro v7 w7 f7 g7 k7
              have E7 := Lib.hid (k7 w E6.out (Nat.le_refl _))
              have F7 := Lib.hid f7
              clear f7 g7 k7
              go_wp2
              go_roundw
              case rel => exact ⟨t + 1, by omega, by go_num, by rw [H3.out]; unfold insK; rw [HI.out, List.append_assoc]; exact F7.out, E7.out⟩
              case measure => simp [intOf]; omega
            · have ib := hints.behind k hk
              rw [Nat.zero_add] at ib
              have IB := Lib.hid ib
              clear ib hints
              go_wp2
              go_quiet (fail)
              go_wp2_with fail
              refine (l1Own_any _ (out.drop k) _ (IB.out.ext (Ext.drewN (Ext.refl _) _)) HDL.out).mono ?_
              rintro e w5 ⟨v5, rfl, f5, x5⟩
              have x5' : Ext w2 w5 := (Ext.drewN (Ext.refl w2) _).trans x5
              have F5 := Lib.hid f5
              have X5 := Lib.hid (HX.out.trans x5')
              have HFU5 := Lib.hid (HFU.out.ext x5')
              have AP := Lib.hid ((HFU.out.ext (Ext.drewN (Ext.refl w2) _)).apart f5 (Nat.le_refl _))
              clear f5 x5 x5'
              go_wp2_with (at_builtin; refine wpList_push rfl _ _ rfl w.heap.size _ (out.take k) (p : Int) rfl (HFU5.out.ext (Ext.alloc (Ext.refl _) _)) ⟨w5.heap.size, 0, none⟩ 1 rfl (cell_alloc_one _ _ _) HB1.out (size_alloc_le X5.out.size) ?_)
              intro v6 w6 f6 g6 k6
              have E6 := Lib.hid (k6 w (X5.out.alloc _) (Nat.le_refl _))
              have G6 := Lib.hid ((F5.out.ext (Ext.alloc (Ext.refl _) _)).touch g6 AP.out)
              have F6 := Lib.hid f6
              clear f6 g6 k6
              go_wp2_with (at_builtin; refine wpList_join rfl _ _ rfl w.heap.size _ _ (out.take k ++ [(p : Int)]) (out.drop k) rfl F6.out rfl G6.out.ints HB2.out E6.out.size ?_)
              intro v7 w7 f7 g7 k7
              have E7 := Lib.hid (k7 w E6.out (Nat.le_refl _))
              have F7 := Lib.hid f7
              clear f7 g7 k7
              go_wp2
              go_roundw
              case rel => exact ⟨t + 1, by omega, by go_num, by rw [H3.out]; unfold insK; rw [HI.out, List.append_assoc]; exact F7.out, E7.out⟩
              case measure => simp [intOf]; omega
          · obtain ⟨j, hj⟩ : ∃ j, j = k - 1 := ⟨_, rfl⟩
            have hkj : k = j + 1 := by omega
            have hjo : j < out.length := by omega
            obtain ⟨q, hq, hqk⟩ := H4.out j hjo
            obtain ⟨b1, o1, hbo, eo⟩ := DO.out (by omega)
            have gj := HXR.out.cell (eo j hjo)
            simp only [Option.some.injEq, Addr.mk.injEq] at hbo
            rw [← hbo.1, ← hbo.2.1, List.getElem?_eq_getElem hjo, Option.getD_some, hq, Nat.zero_add] at gj
            have gq := HX.out.cell (EU.out q hqk)
            rw [← HK.out q] at gq
            have e1 : (k : Int) - 1 = (j : Int) := by omega
            have e0 : decide (0 < k) = true := by simp; omega
            have hst : insAt K out p k = if K p < K q then insAt K out p j else k := by
              rw [hkj]
              show (if K p < K (out[j]?.getD 0) then insAt K out p j else j + 1) = _
              rw [List.getElem?_eq_getElem hjo, Option.getD_some, hq]
            have HST := Lib.hid hst
            have HKJ := Lib.hid hkj
            have HI0 := Lib.hid hi
            clear hj hkj hq hbo eo hi hst h0 hxr
            by_cases hc : K (p : Int) < K (q : Int)
            · have hd : decide (K (p : Int) < K (q : Int)) = true := decide_eq_true hc
              have hs := HST.out
              rw [if_pos hc] at hs
              have HS := Lib.hid hs
              clear hs hc hints
              go_wp2
              go_quiet (fail)
              go_wp2
              go_roundw
              case rel => exact ⟨j, by omega, by go_num, by rw [HI0.out, HS.out], HXR.out.drewN _⟩
              case measure => have := HKJ.out; simp [intOf]; omega
            · have hd : decide (K (p : Int) < K (q : Int)) = false := decide_eq_false hc
              have hs := HST.out
              rw [if_neg hc] at hs
              have hi' : insAt K out p out.length = k := by rw [HI0.out, hs]
              clear hs hc
              have HI := Lib.hid hi'
              have HFU := Lib.hid (HF.out.upto k hk)
              have hd1 : (out.drop k).length ≤ 1048576 := by have := HL.out; have := H1.out; simp; omega
              have HDL := Lib.hid hd1
              have hb1 : (out.take k).length ≤ 1099511627776 := by have := HL.out; have := H1.out; simp; omega
              have HB1 := Lib.hid hb1
              have hb2 : (out.take k ++ [(p : Int)]).length + (out.drop k).length ≤ 1099511627776 := by have := HL.out; have := H1.out; simp; omega
              have HB2 := Lib.hid hb2
              have hkc : k ≤ co := by omega
              clear hi' hd1 hb1 hb2
              by_cases hco : co = k
              · have hlen : out.length = k := by omega
                have hco2 : k = co := hco.symm
                subst hco2
                have ib : Ints w2 (.slice (some ⟨bo, 0, none⟩) 0 0) (out.drop k) := by
                  rw [show out.drop k = [] by rw [← hlen]; exact List.drop_length]
                  exact Ints.none_of (by simp) (fun h => rfl)
                have IB := Lib.hid ib
                clear ib hlen hints
                go_wp2
                go_quiet (fail)
                go_wp2_with fail
                refine (l1Own_any _ (out.drop k) _ (IB.out.ext (Ext.drewN (Ext.refl _) _)) HDL.out).mono ?_
                rintro e w5 ⟨v5, rfl, f5, x5⟩
                have x5' : Ext w2 w5 := (Ext.drewN (Ext.refl w2) _).trans x5
                have F5 := Lib.hid f5
                have X5 := Lib.hid (HX.out.trans x5')
                have HFU5 := Lib.hid (HFU.out.ext x5')
                have AP := Lib.hid ((HFU.out.ext (Ext.drewN (Ext.refl w2) _)).apart f5 (Nat.le_refl _))
                clear f5 x5 x5'
                go_wp2_with (at_builtin; refine wpList_push rfl _ _ rfl w.heap.size _ (out.take k) (p : Int) rfl (HFU5.out.ext (Ext.alloc (Ext.refl _) _)) ⟨w5.heap.size, 0, none⟩ 1 rfl (cell_alloc_one _ _ _) HB1.out (size_alloc_le X5.out.size) ?_)
                intro v6 w6 f6 g6 k6
                have E6 := Lib.hid (k6 w (X5.out.alloc _) (Nat.le_refl _))
                have G6 := Lib.hid ((F5.out.ext (Ext.alloc (Ext.refl _) _)).touch g6 AP.out)
                have F6 := Lib.hid f6
                clear f6 g6 k6
                go_wp2_with (at_builtin; refine wpList_join rfl _ _ rfl w.heap.size _ _ (out.take k ++ [(p : Int)]) (out.drop k) rfl F6.out rfl G6.out.ints HB2.out E6.out.size ?_)
                intro v7 w7 f7 g7 k7
                have E7 := Lib.hid (k7 w E6.out (Nat.le_refl _))
                have F7 := Lib.hid f7
                clear f7 g7 k7
                go_wp2
                go_roundw
                case rel => exact ⟨t + 1, by omega, by go_num, by rw [H3.out]; unfold insK; rw [HI.out, List.append_assoc]; exact F7.out, E7.out⟩
                case measure => simp [intOf]; omega
              · have ib := hints.behind k hk
                rw [Nat.zero_add] at ib
                have IB := Lib.hid ib
                clear ib hints
                go_wp2
                go_quiet (fail)
                go_wp2_with fail
                refine (l1Own_any _ (out.drop k) _ (IB.out.ext (Ext.drewN (Ext.refl _) _)) HDL.out).mono ?_
                rintro e w5 ⟨v5, rfl, f5, x5⟩
                have x5' : Ext w2 w5 := (Ext.drewN (Ext.refl w2) _).trans x5
                have F5 := Lib.hid f5
                have X5 := Lib.hid (HX.out.trans x5')
                have HFU5 := Lib.hid (HFU.out.ext x5')
                have AP := Lib.hid ((HFU.out.ext (Ext.drewN (Ext.refl w2) _)).apart f5 (Nat.le_refl _))
                clear f5 x5 x5'
                go_wp2_with (at_builtin; refine wpList_push rfl _ _ rfl w.heap.size _ (out.take k) (p : Int) rfl (HFU5.out.ext (Ext.alloc (Ext.refl _) _)) ⟨w5.heap.size, 0, none⟩ 1 rfl (cell_alloc_one _ _ _) HB1.out (size_alloc_le X5.out.size) ?_)
                intro v6 w6 f6 g6 k6
                have E6 := Lib.hid (k6 w (X5.out.alloc _) (Nat.le_refl _))
                have G6 := Lib.hid ((F5.out.ext (Ext.alloc (Ext.refl _) _)).touch g6 AP.out)
                have F6 := Lib.hid f6
                clear f6 g6 k6
                go_wp2_with (at_builtin; refine wpList_join rfl _ _ rfl w.heap.size _ _ (out.take k ++ [(p : Int)]) (out.drop k) rfl F6.out rfl G6.out.ints HB2.out E6.out.size ?_)
                intro v7 w7 f7 g7 k7
                have E7 := Lib.hid (k7 w E6.out (Nat.le_refl _))
                have F7 := Lib.hid f7
                clear f7 g7 k7
                go_wp2
                go_roundw
                case rel => exact ⟨t + 1, by omega, by go_num, by rw [H3.out]; unfold insK; rw [HI.out, List.append_assoc]; exact F7.out, E7.out⟩
                case measure => simp [intOf]; omega
    · obtain rfl : t = l.length := by omega
      rw [List.take_length] at hf
      have HF := Lib.hid hf
      clear hf
      go_wp2
      go_ret
      exact ⟨_, rfl, HF.out, hx⟩
end Go.Proofs.YtcpmfcigciknlaaGreat

namespace Go.Proofs.YtcpmfcigciknlaaGreat
open Go.RowKit
set_option linter.unusedVariables false
def keysB (g : List (List Int)) (key : List Int) : Bool := goodG g && (decide (key.length = g.length) && (allIn key 0 999999 && decide key.Nodup))
theorem nodup_succ {l : List Int} {k : Nat} (h : k < l.length) (hd : (l.take k).Nodup) (hn : l[k] ∉ l.take k) : (l.take (k + 1)).Nodup := by
  rw [List.take_add_one, List.getElem?_eq_getElem h]
  rw [List.nodup_append]
  refine ⟨hd, by simp, ?_⟩
  intro a ha b hb
  obtain rfl : b = l[k] := by simpa using hb
  rintro rfl
  exact hn ha
theorem nodup_not {l : List Int} {k : Nat} (h : k < l.length) (hn : l[k] ∈ l.take k) : ¬ l.Nodup := by
  intro hd
  have h1 := hd.sublist (List.take_sublist (k + 1) l)
  rw [List.take_add_one, List.getElem?_eq_getElem h, List.nodup_append] at h1
  exact h1.2.2 _ hn _ (by simp) rfl
end Go.Proofs.YtcpmfcigciknlaaGreat

namespace Go.Proofs.YtcpmfcigciknlaaGreat
open Go.RowKit
set_option linter.unusedVariables false
theorem compsL_size {g : List (List Int)} (hl : g.length ≤ 40) : (compsL g).length ≤ 40 ∧ ∀ G ∈ compsL g, G.length ≤ 40 := by
  obtain ⟨h1, h2⟩ := compsC_bound g g.length (groupsL g).length (groupsL g) (groupsL_rowlen g)
  have h6 : (groupsL g).length ≤ g.length := by rw [← grpTo_all]; exact grpTo_len g _
  exact ⟨by unfold compsL; omega, fun G hG => by have := h2 G hG; omega⟩
theorem insK_perm (K : Int → Int) (out : List Int) (p : Int) : (insK K out p).Perm (p :: out) := by
  unfold insK
  rw [List.append_assoc]
  have h := List.perm_append_comm (l₁ := out.take (insAt K out p out.length)) (l₂ := [p])
  have h2 := h.append_right (out.drop (insAt K out p out.length))
  rw [List.append_assoc, List.append_assoc, List.take_append_drop] at h2
  exact h2
theorem byKeyL_perm (K : Int → Int) (l : List Int) : (byKeyL K l).Perm l := by
  have key : ∀ (l out : List Int), (l.foldl (insK K) out).Perm (l ++ out) := by
    intro l
    induction l with
    | nil => intro out; exact List.Perm.refl _
    | cons a t ih =>
      intro out
      simp only [List.foldl_cons]
      refine (ih (insK K out a)).trans ?_
      have h1 := (insK_perm K out a).append_left t
      refine h1.trans ?_
      exact List.perm_middle
  have := key l []
  rw [List.append_nil] at this
  exact this
theorem byKeyL_len (K : Int → Int) (l : List Int) : (byKeyL K l).length = l.length := (byKeyL_perm K l).length_eq
noncomputable def orderL (g : List (List Int)) (key : List Int) : List Int := (compsL g).flatMap (byKeyL (keyAt key))
noncomputable def orderA (g : List (List Int)) (key : List Int) : List Int := if keysB g key then orderL g key else []
theorem keysB_of {g : List (List Int)} {key : List Int} (h : keysB g key = true) : goodG g = true ∧ key.length = g.length ∧ allIn key 0 999999 = true ∧ key.Nodup := by
  unfold keysB at h
  rw [Bool.and_eq_true, Bool.and_eq_true, Bool.and_eq_true, decide_eq_true_iff, decide_eq_true_iff] at h
  exact ⟨h.1, h.2.1, h.2.2.1, h.2.2.2⟩
theorem flat_len {l : List (List Int)} (m : Nat) (h : ∀ G ∈ l, G.length ≤ m) (f : List Int → List Int) (hf : ∀ G, (f G).length = G.length) : (l.flatMap f).length ≤ l.length * m := by
  induction l with
  | nil => simp
  | cons a t ih =>
    have h1 := ih (fun G hG => h G (List.mem_cons_of_mem _ hG))
    have h2 := h a (by simp)
    rw [List.flatMap_cons, List.length_append, hf, List.length_cons, Nat.succ_mul]
    omega
theorem orderA_len (g : List (List Int)) (key : List Int) : (orderA g key).length ≤ 1600 := by
  unfold orderA
  split
  · rename_i h
    obtain ⟨hg, _⟩ := keysB_of h
    obtain ⟨_, hl⟩ := goodG_of hg
    obtain ⟨h1, h2⟩ := compsL_size hl
    have h3 := flat_len 40 h2 (byKeyL (keyAt key)) (byKeyL_len _)
    have h4 : (compsL g).length * 40 ≤ 40 * 40 := Nat.mul_le_mul_right _ h1
    unfold orderL
    omega
  · simp
set_option maxHeartbeats 4000000 in
theorem l5Order_any (v u : Value) (g : List (List Int)) (key : List Int) (w : World) (hv : Intss w v g) (hu : Ints w u key) (hk : keysB g key = true) :
    Calls Tryz.prog 97 #[v, u] w (OneInts (orderL g key) w) := by
  have HV := Lib.hid hv
  have HU := Lib.hid hu
  obtain ⟨av, cv, rfl, hlv, _, _⟩ := hv
  obtain ⟨au, cu, rfl, hlu, _, _⟩ := hu
  unfold maxLen at hlv hlu
  obtain ⟨hg, hkl, _, _⟩ := keysB_of hk
  obtain ⟨ha, hb⟩ := goodG_of hg
  have HG := Lib.hid hg
  obtain ⟨F, hF⟩ : ∃ F, F = byKeyL (keyAt key) := ⟨_, rfl⟩
  obtain ⟨C, hC⟩ : ∃ C, C = compsL g := ⟨_, rfl⟩
  obtain ⟨hc1, hc2⟩ := compsL_size hb
  rw [← hC] at hc1 hc2
  have hin : ∀ G ∈ C, ∀ x ∈ G, 0 ≤ x ∧ x < (key.length : Int) := fun G hG x hx => by
    rw [hC] at hG
    have := compsL_in ha hG x hx
    omega
  have hby : ∀ (b : Value) (G : List Int) (W : World), G ∈ C → Ext w W → Ints W b G → Calls Tryz.prog 140 #[b, .slice au key.length cu] W (OneInts (F G) W) := fun b G W hG hW hI => by
    rw [hF]
    exact l5ByKey_any b _ G key W hI (HU.out.ext hW) (by have := hc2 G hG; omega) (hin G hG)
  have hor : orderL g key = C.flatMap F := by unfold orderL; rw [hF, hC]
  have hfl : ∀ t, ((C.take t).flatMap F).length ≤ 1600 := fun t => by
    have h3 := flat_len (l := C.take t) 40 (fun G hG => hc2 G (List.mem_of_mem_take hG)) F (fun G => by rw [hF]; exact byKeyL_len _ G)
    have h4 : (C.take t).length ≤ 40 := by rw [List.length_take]; omega
    have h5 : (C.take t).length * 40 ≤ 40 * 40 := Nat.mul_le_mul_right _ h4
    omega
  have hFl : ∀ G ∈ C, (F G).length ≤ 40 := fun G hG => by rw [hF, byKeyL_len]; exact hc2 G hG
  rw [hor]
  have HBY := Lib.hid hby
  have HFL := Lib.hid hfl
  have HFL2 := Lib.hid hFl
  have HC := Lib.hid hC
  clear hF hc1 hc2 hin hby hor hfl hFl hg ha hb hkl hk hC
  go_enter Tryz.func97, Tryz.ntmps97
  go_wp2_with fail
  refine (l5Components_any _ g _ HV.out HG.out).mono ?_
  rw [← HC.out]
  rintro e w1 ⟨v1, rfl, f1, x1⟩
  have i1 := f1.intss
  obtain ⟨a1, c1, rfl, hl1, _, d1⟩ := i1
  unfold maxLen at hl1
  have X1 := Lib.hid x1
  have D1 := Lib.hid d1
  clear f1 x1 d1 HC
  go_wp2
  go_loopw [5, 7, 11] (fun vo _ i wr => ∃ t : Nat, t ≤ C.length ∧ i = .int .i64 t ∧ Fresh w1.heap.size wr vo ((C.take t).flatMap F) ∧ Ext w1 wr) (fun _ _ i _ => C.length - (intOf i).toNat)
  case atStart => exact ⟨0, Nat.zero_le _, rfl, World.ownsRow_nil _ _ _ _, Ext.refl _⟩
  case round =>
    obtain ⟨t, ht, rfl, hf, hx⟩ := hrel
    by_cases hlt : t < C.length
    · obtain ⟨b1, o1, rfl, e1⟩ := D1.out (by omega)
      obtain ⟨u1, hu1, iu1⟩ := e1 t hlt
      rw [List.getElem?_eq_getElem hlt, Option.getD_some] at iu1
      have z1 := hx.cell hu1
      have hst : (C.take (t + 1)).flatMap F = (C.take t).flatMap F ++ F C[t] := by
        rw [List.take_add_one, List.getElem?_eq_getElem hlt, List.flatMap_append]
        simp
      have HM := Lib.hid (List.getElem_mem hlt)
      obtain ⟨G, hG⟩ : ∃ G, G = C[t] := ⟨_, rfl⟩
      rw [← hG] at iu1 hst HM
      have HST := Lib.hid hst
      have HF := Lib.hid hf
      have HX := Lib.hid hx
      have IU := Lib.hid (iu1.ext hx)
      clear e1 hu1 iu1 hst hG hf hx
      go_wp2_with fail
      refine (HBY.out _ G _ HM.out (X1.out.trans HX.out) IU.out).mono ?_
      rintro e w3 ⟨v3, rfl, f3, x3⟩
      have HB3 : Hid (((C.take t).flatMap F).length + (F G).length ≤ 1099511627776) := Lib.hid (by have := HFL.out t; have := HFL2.out G HM.out; omega)
      have HF3 := Lib.hid (HF.out.ext x3)
      have F3 := Lib.hid f3.ints
      have X3 := Lib.hid (HX.out.trans x3)
      have HW3 : Hid (w1.heap.size ≤ w3.heap.size) := Lib.hid X3.out.size
      clear f3 x3 z1
      go_wp2_with (at_builtin; refine wpList_join rfl _ _ rfl w1.heap.size _ _ ((C.take t).flatMap F) (F G) rfl HF3.out rfl F3.out HB3.out HW3.out ?_)
      intro v4 w4 f4 g4 k4
      rw [← HST.out] at f4
      have e4 : Ext w1 w4 := k4 w1 X3.out (Nat.le_refl _)
      have F4 := Lib.hid f4
      have E4 := Lib.hid e4
      clear f4 g4 k4 e4
      go_wp2
      go_roundw
      case rel => exact ⟨t + 1, by omega, by go_num, F4.out, E4.out⟩
      case measure => simp [intOf]; omega
    · obtain rfl : t = C.length := by omega
      rw [List.take_length] at hf
      have HX := Lib.hid (X1.out.trans hx)
      clear hx
      go_wp2
      go_ret
      exact ⟨_, rfl, hf.more X1.out.size, HX.out⟩
end Go.Proofs.YtcpmfcigciknlaaGreat

namespace Go.Proofs.YtcpmfcigciknlaaGreat
open Go.RowKit Go.Sort Go.Shelf
set_option linter.unusedVariables false
theorem insAt_spec (K : Int → Int) (out : List Int) (p : Int) : ∀ k, k ≤ out.length →
    (insAt K out p k = 0 ∨ ∃ x, out[insAt K out p k - 1]? = some x ∧ ¬ K p < K x) ∧ ∀ j x, insAt K out p k ≤ j → j < k → out[j]? = some x → K p < K x
  | 0, _ => ⟨.inl rfl, fun j x _ h => by omega⟩
  | k + 1, hk => by
    have hx : out[k]? = some out[k] := List.getElem?_eq_getElem (by omega)
    unfold insAt
    rw [hx, Option.getD_some]
    split
    · rename_i h
      obtain ⟨h1, h2⟩ := insAt_spec K out p k (by omega)
      refine ⟨h1, fun j x hj hjk hx' => ?_⟩
      by_cases e : j = k
      · subst e
        rw [hx] at hx'
        rw [← Option.some.inj hx']; exact h
      · exact h2 j x hj (by omega) hx'
    · rename_i h
      exact ⟨.inr ⟨out[k], by rw [Nat.add_sub_cancel]; exact hx, h⟩, fun j x h1 h2 => by omega⟩
theorem insK_sorted {K : Int → Int} {out : List Int} {p : Int} (h : out.Pairwise (fun a b => K a < K b)) (hp : ∀ x ∈ out, K x ≠ K p) : (insK K out p).Pairwise (fun a b => K a < K b) := by
  obtain ⟨h1, h2⟩ := insAt_spec K out p out.length (Nat.le_refl _)
  have hle := insAt_le K out p out.length
  unfold insK
  obtain ⟨i, hi⟩ : ∃ i, i = insAt K out p out.length := ⟨_, rfl⟩
  rw [← hi] at h1 h2 hle ⊢
  have hpg := List.pairwise_iff_getElem.1 h
  have hlow : ∀ x ∈ out.take i, K x < K p := fun x hx => by
    obtain ⟨j, hj, rfl⟩ := List.getElem_of_mem hx
    rw [List.length_take] at hj
    rw [List.getElem_take]
    have hne := hp _ (List.getElem_mem (show j < out.length by omega))
    rcases h1 with h1 | ⟨y, hy, hny⟩
    · omega
    · have hil : i - 1 < out.length := by omega
      rw [List.getElem?_eq_getElem hil] at hy
      have hy := Option.some.inj hy
      by_cases e : j = i - 1
      · subst e; rw [hy] at hne ⊢; omega
      · have := hpg j (i - 1) (by omega) hil (by omega)
        rw [hy] at this; omega
  have hhigh : ∀ x ∈ out.drop i, K p < K x := fun x hx => by
    obtain ⟨j, hj, rfl⟩ := List.getElem_of_mem hx
    rw [List.length_drop] at hj
    rw [List.getElem_drop]
    exact h2 (i + j) _ (by omega) (by omega) (List.getElem?_eq_getElem (by omega))
  rw [List.pairwise_append, List.pairwise_append]
  refine ⟨⟨h.sublist (List.take_sublist _ _), by simp, fun a ha b hb => ?_⟩, h.sublist (List.drop_sublist _ _), fun a ha b hb => ?_⟩
  · rw [List.mem_singleton.1 hb]; exact hlow a ha
  · have hb' := hhigh b hb
    rcases List.mem_append.1 ha with ha | ha
    · have := hlow a ha; omega
    · rw [List.mem_singleton.1 ha]; exact hb'
theorem byKeyL_sorted (K : Int → Int) (l : List Int) (h : l.Pairwise (fun a b => K a ≠ K b)) : (byKeyL K l).Pairwise (fun a b => K a < K b) := by
  have key : ∀ (t : Nat), t ≤ l.length → (byKeyL K (l.take t)).Pairwise (fun a b => K a < K b) := by
    intro t
    induction t with
    | zero => intro _; simp [byKeyL]
    | succ t ih =>
      intro ht
      rw [byKeyL_succ K (by omega)]
      refine insK_sorted (ih (by omega)) (fun x hx => ?_)
      have hx := (byKeyL_perm K (l.take t)).mem_iff.1 hx
      obtain ⟨j, hj, rfl⟩ := List.getElem_of_mem hx
      rw [List.length_take] at hj
      rw [List.getElem_take]
      exact List.pairwise_iff_getElem.1 h j t (by omega) (by omega) (by omega)
  have := key l.length (Nat.le_refl _)
  rwa [List.take_length] at this
theorem byKey_unique {K : Int → Int} {l r : List Int} (h : l.Pairwise (fun a b => K a ≠ K b)) (hp : r.Perm l) (hs : r.Pairwise (fun a b => K a ≤ K b)) : r = byKeyL K l := by
  have hr : r.Pairwise (fun a b => K a ≠ K b) := (hp.pairwise_iff (fun {a b} h e => h e.symm)).2 h
  refine keys_ext K ?_ (byKeyL_sorted K l h) (fun x => by rw [hp.mem_iff, (byKeyL_perm K l).mem_iff])
  exact (hs.and hr).imp (fun ⟨a, b⟩ => by omega)
theorem keys_apart {key l : List Int} (hk : key.Nodup) (hl : Rises l) (hin : ∀ x ∈ l, 0 ≤ x ∧ x < (key.length : Int)) : l.Pairwise (fun a b => keyAt key a ≠ keyAt key b) := by
  refine List.Pairwise.imp_of_mem ?_ hl
  intro a b ha hb hab e
  have h1 := hin a ha
  have h2 := hin b hb
  unfold keyAt at e
  rw [List.getElem?_eq_getElem (show a.toNat < key.length by omega), List.getElem?_eq_getElem (show b.toNat < key.length by omega), Option.getD_some, Option.getD_some] at e
  have := (List.getElem_inj hk).1 e
  omega

/-! ### The closure and the sort -/
set_option maxHeartbeats 2000000 in
theorem keyClosure_any (key : List Int) (kv : Value) (b3 x y : Nat) (w : World) (hb : w.cell? ⟨b3, 0, none⟩ = some kv) (hk : Ints w kv key) (hx : x < key.length) (hy : y < key.length) (hr : allIn key 0 999999 = true) :
    Calls Tryz.prog 152 #[.int .i64 x, .int .i64 y, .pointer (some ⟨b3, 0, none⟩)] w (fun e w' => e = .returned (.int .i64 (keyAt key x - keyAt key y)) ∧ ∃ q, w' = w.drewN q) := by
  obtain ⟨ak, ck, rfl, hlk, _, dk⟩ := hk
  unfold maxLen at hlk
  obtain ⟨bk, ok, rfl, ek⟩ := dk (by omega)
  have z1 := ek x hx
  have z2 := ek y hy
  have kx : keyAt key x = key[x]?.getD 0 := by unfold keyAt; rw [Int.toNat_natCast]
  have ky : keyAt key y = key[y]?.getD 0 := by unfold keyAt; rw [Int.toNat_natCast]
  rw [← kx] at z1
  rw [← ky] at z2
  have bnd : ∀ p : Nat, p < key.length → 0 ≤ key[p]?.getD 0 ∧ key[p]?.getD 0 ≤ 999999 := fun p hp => by
    rw [List.getElem?_eq_getElem hp, Option.getD_some]
    have := List.all_eq_true.1 hr _ (List.getElem_mem hp)
    unfold inB at this
    simp at this
    exact this
  have hbx := bnd x hx
  have hby := bnd y hy
  rw [← kx] at hbx
  rw [← ky] at hby
  obtain ⟨X, hX⟩ : ∃ X, X = keyAt key x := ⟨_, rfl⟩
  obtain ⟨Y, hY⟩ : ∃ Y, Y = keyAt key y := ⟨_, rfl⟩
  rw [← hX] at z1 hbx ⊢
  rw [← hY] at z2 hby ⊢
  have i0 : (0 : Int) ≤ (x : Int) := by omega
  have i1 : (x : Int) < (key.length : Int) := by omega
  have i2 : (0 : Int) ≤ (y : Int) := by omega
  have i3 : (y : Int) < (key.length : Int) := by omega
  obtain ⟨hx1, hx2⟩ := hbx
  obtain ⟨hy1, hy2⟩ := hby
  clear dk ek kx ky bnd hX hY hr
  go_enter Tryz.func152, Tryz.ntmps152
  go_wp2
  go_quiet (fail)
  go_wp2
  go_ret
  exact ⟨rfl, nq, rfl⟩
theorem lift_points (N : Nat) : ∀ (l : List Int), (∀ x ∈ l, 0 ≤ x ∧ x < (N : Int)) → ∃ d : List {n : Nat // n < N}, d.map (fun a => ((a.1 : Nat) : Int)) = l
  | [], _ => ⟨[], rfl⟩
  | x :: t, h => by
    obtain ⟨d, hd⟩ := lift_points N t (fun y hy => h y (List.mem_cons_of_mem _ hy))
    have hx := h x (by simp)
    exact ⟨⟨x.toNat, by omega⟩ :: d, by rw [List.map_cons, hd]; congr 1; show ((x.toNat : Nat) : Int) = x; omega⟩
def ByKey (B : Nat) (K : Int → Int) (u : Value) (l : List Int) (w : World) (e : Ending) (w' : World) : Prop :=
  (∃ r, e = .returned r) ∧ Fresh B w' u (byKeyL K l) ∧ w.grownBy w' u.ownBlock
theorem sortByKey_any (key : List Int) (kv : Value) (b3 B : Nat) (u : Value) (l : List Int) (w : World) (hst : ∀ W, w.grownBy W u.ownBlock → W.cell? ⟨b3, 0, none⟩ = some kv ∧ Ints W kv key)
    (hr : allIn key 0 999999 = true) (hnd : key.Nodup) (hf : Fresh B w u l) (hl : Rises l) (hin : ∀ x ∈ l, 0 ≤ x ∧ x < (key.length : Int)) (hlen : l.length ≤ 1048576) :
    Calls Tryz.prog 151 #[u, .func (.func 152) #[] #[.pointer (some ⟨b3, 0, none⟩)]] w (ByKey B (keyAt key) u l w) := by
  by_cases h0 : l = []
  · subst h0
    obtain ⟨ao, cap, rfl⟩ : ∃ ao cap, u = .slice ao 0 cap := by
      obtain ⟨ao, cap, hv, _⟩ := hf.ints
      exact ⟨ao, cap, hv⟩
    refine (Tryz.slices_SortFunc_none_f151 (α := Nat) ao cap _ w).mono ?_
    rintro e w' ⟨rfl, rfl⟩
    exact ⟨⟨_, rfl⟩, hf, ⟨rfl, rfl, rfl, Nat.le_refl _, fun _ _ _ => rfl⟩⟩
  · have hpos : 0 < l.length := List.length_pos_iff.2 h0
    have hN : 0 < key.length := by
      have := hin _ (List.getElem_mem hpos)
      omega
    have hf0 : w.ownsRow B 3 1 u l.length (l.map (Value.int .i64)) := hf
    obtain ⟨g, cap, rfl, _, _⟩ := World.ownsRow.form hf0 hpos
    have hgw : g < w.heap.size := (World.ownsRow.lt hf0 g rfl).2
    letI : Inhabited {n : Nat // n < key.length} := ⟨⟨0, hN⟩⟩
    obtain ⟨d, hd⟩ := lift_points key.length l hin
    obtain ⟨enc, henc⟩ : ∃ enc : {n : Nat // n < key.length} → Value, enc = fun a => Value.int .i64 ((a.1 : Nat) : Int) := ⟨_, rfl⟩
    obtain ⟨cf, hcf⟩ : ∃ cf : {n : Nat // n < key.length} → {n : Nat // n < key.length} → Int, cf = fun a b => keyAt key ((a.1 : Nat) : Int) - keyAt key ((b.1 : Nat) : Int) := ⟨_, rfl⟩
    have hmap : ∀ t : List {n : Nat // n < key.length}, t.map enc = (t.map (fun a => ((a.1 : Nat) : Int))).map (Value.int .i64) := fun t => by rw [henc, List.map_map]; rfl
    have hdl : d.length = l.length := by rw [← hd, List.length_map]
    have hrow : w.ownsRow B 3 1 (.slice (some ⟨g, 0, none⟩) l.length cap) l.length (d.map enc) := by rw [hmap, hd]; exact hf0
    have hH := holds_of_own enc hrow hdl
    have h1 : Go.Proofs.OneCell enc := fun a => by rw [henc]; rfl
    have hO : SWO (Go.Proofs.ltOf cf) := by
      refine ⟨fun x => ?_, fun x y z h k => ?_, fun x y z h k => ?_⟩
      · unfold Go.Proofs.ltOf; rw [hcf, decide_eq_false_iff_not]; show ¬ _ - _ < 0; omega
      · unfold Go.Proofs.ltOf at *
        rw [hcf, decide_eq_true_iff] at *
        have h : keyAt key ((x.1 : Nat) : Int) - keyAt key ((y.1 : Nat) : Int) < 0 := h
        have k : keyAt key ((y.1 : Nat) : Int) - keyAt key ((z.1 : Nat) : Int) < 0 := k
        show keyAt key ((x.1 : Nat) : Int) - keyAt key ((z.1 : Nat) : Int) < 0
        omega
      · unfold Go.Proofs.ltOf at *
        rw [hcf, decide_eq_false_iff_not] at *
        have h : ¬ keyAt key ((x.1 : Nat) : Int) - keyAt key ((y.1 : Nat) : Int) < 0 := h
        have k : ¬ keyAt key ((y.1 : Nat) : Int) - keyAt key ((z.1 : Nat) : Int) < 0 := k
        show ¬ keyAt key ((x.1 : Nat) : Int) - keyAt key ((z.1 : Nat) : Int) < 0
        omega
    have hsz : d.toArray.size = l.length := by simp [hdl]
    have hcmp : Go.Proofs.CmpLays1 Tryz.prog 152 #[.pointer (some ⟨b3, 0, none⟩)] enc cf g 0 d.toArray.size w := by
      intro m os dk _ x y
      have ht : w.grownBy (sortWorld enc w g 0 m dk os) (some g) := grown_put enc dk
      obtain ⟨hc1, hc2⟩ := hst _ ht
      rw [henc, hcf]
      refine (keyClosure_any key kv b3 x.1 y.1 _ (by rw [henc] at hc1; exact hc1) (by rw [henc] at hc2; exact hc2) x.2 y.2 hr).mono ?_
      rintro e w' ⟨rfl, q, rfl⟩
      exact ⟨rfl, q, #[], by rw [grow_empty]⟩
    have hc := Tryz.slices_SortFunc_f151 enc h1 cf hO 152 #[.pointer (some ⟨b3, 0, none⟩)] g 0 cap d.toArray w (enters_of Tryz.func152 (by kernel_rfl) rfl) hcmp hH hgw (by rw [hsz]; omega)
    rw [hsz] at hc
    refine hc.mono ?_
    rintro e w' ⟨rfl, d', n, os, hp, hs, rfl⟩
    have hdn : d'.toList.length = l.length := by rw [Array.length_toList, hp.1, hsz]
    have hds : d'.size = l.length := by rw [hp.1, hsz]
    have hperm : d'.toList.Perm d := by
      have h := hp.2.2
      have e1 : d'.extract 0 l.length = d' := by rw [← hds]; simp
      have e2 : d.toArray.extract 0 l.length = d.toArray := by
        have := Array.extract_size (xs := d.toArray)
        rwa [hsz] at this
      rw [e1, e2] at h
      simpa using h
    have hpl : (d'.toList.map (fun a => ((a.1 : Nat) : Int))).Perm l := by
      have := hperm.map (fun a => ((a.1 : Nat) : Int))
      rwa [hd] at this
    have hsorted : (d'.toList.map (fun a => ((a.1 : Nat) : Int))).Pairwise (fun a b => keyAt key a ≤ keyAt key b) := by
      rw [List.pairwise_map, List.pairwise_iff_getElem]
      intro i j hi hj hij
      rw [hdn] at hi hj
      have h := hs i j (Nat.zero_le _) hij hj
      unfold Go.Proofs.ltOf at h
      rw [hcf, decide_eq_false_iff_not] at h
      have ei : d'[i]! = d'.toList[i]'(by rw [hdn]; exact hi) := by simp [show i < d'.size by omega]
      have ej : d'[j]! = d'.toList[j]'(by rw [hdn]; exact hj) := by simp [show j < d'.size by omega]
      rw [ei, ej] at h
      have h : ¬ keyAt key (((d'.toList[j]'(by rw [hdn]; exact hj)).1 : Nat) : Int) - keyAt key (((d'.toList[i]'(by rw [hdn]; exact hi)).1 : Nat) : Int) < 0 := h
      omega
    have hun := byKey_unique (keys_apart hnd hl hin) hpl hsorted
    refine ⟨⟨_, rfl⟩, ?_, grown_put enc d'⟩
    have := own_put enc (m := n) (os := os) (ts := d'.toList) hrow hdn
    have e3 : d'.toList.toArray = d' := by simp
    rw [e3, hmap, hun] at this
    unfold Fresh
    rw [byKeyL_len]
    exact this
end Go.Proofs.YtcpmfcigciknlaaGreat

namespace Go.Proofs.YtcpmfcigciknlaaGreat
open Go.RowKit
set_option linter.unusedVariables false
def IndexOf (l : List Int) (x : Int) (w : World) (e : Ending) (w' : World) : Prop := ∃ n : Int, e = .returned (.int .i64 n) ∧ decide (0 ≤ n) = hasI l x ∧ Ext w w'
set_option maxHeartbeats 800000 in
theorem index_any (v : Value) (l : List Int) (x : Int) (w : World) (hv : Ints w v l) : Calls Tryz.prog 213 #[v, .int .i64 x] w (IndexOf l x w) := by
  obtain ⟨av, cv, rfl, hlv, _, hcv⟩ := hv
  unfold maxLen at hlv
  have DV := Lib.hid hcv
  clear hcv
  go_enter Tryz.func213, Tryz.ntmps213
  go_wp2
  go_loopw [5, 8] (fun _ i wr => ∃ k : Nat, k ≤ l.length ∧ i = .int .i64 k ∧ Hid ((l.take k).any (fun y => y == x) = false) ∧ Ext w wr) (fun _ i _ => l.length - (intOf i).toNat)
  case atStart => exact ⟨0, Nat.zero_le _, rfl, Lib.hid (by simp), Ext.refl _⟩
  case round =>
    obtain ⟨k, hk, rfl, hA, hx⟩ := hrel
    by_cases hlt : k < l.length
    · obtain ⟨bv, ov, rfl, dv⟩ := DV.out (by omega)
      have gv := hx.cell (dv k hlt)
      have hst := any_take_succ (p := fun y => y == x) hlt hA.out
      have htr := any_true_at (p := fun y => y == x) hlt
      rw [List.getElem?_eq_getElem hlt, Option.getD_some] at gv hst htr
      obtain ⟨n, hn⟩ : ∃ n, n = l[k] := ⟨_, rfl⟩
      rw [← hn] at gv hst htr
      have HST := Lib.hid hst
      have HTR := Lib.hid htr
      clear hst htr hn dv
      by_cases e : x = n
      · have e1 : (x == n) = true := by simp [e]
        have HT : Hid (hasI l x = true) := Lib.hid (HTR.out (by simp [e]))
        clear e
        go_wp2
        go_ret
        exact ⟨(k : Int), rfl, by rw [HT.out]; simp, hx⟩
      · have e1 : (x == n) = false := by simp [e]
        have HT : Hid ((l.take (k + 1)).any (fun y => y == x) = false) := Lib.hid (HST.out (by simp; omega))
        clear e
        go_wp2
        go_roundw
        case rel => exact ⟨k + 1, by omega, by go_num, HT, hx⟩
        case measure => simp [intOf]; omega
    · obtain rfl : k = l.length := by omega
      have HT : Hid (hasI l x = false) := Lib.hid (by have := hA.out; rw [List.take_length] at this; exact this)
      go_wp2
      go_ret
      exact ⟨-1, rfl, by rw [HT.out]; decide, hx⟩
set_option maxHeartbeats 800000 in
theorem contains_any (v : Value) (l : List Int) (x : Int) (w : World) (hv : Ints w v l) : Calls Tryz.prog 191 #[v, .int .i64 x] w (BoolExt (hasI l x) w) := by
  have HV := Lib.hid hv
  obtain ⟨av, cv, rfl, hlv, _, _⟩ := hv
  go_enter Tryz.func191, Tryz.ntmps191
  go_wp2_with fail
  refine (index_any _ l x _ HV.out).mono ?_
  rintro e w1 ⟨n, rfl, hn, x1⟩
  have HN := Lib.hid hn
  clear hn
  go_wp2
  go_ret
  exact ⟨by rw [← HN.out]; rfl, x1⟩
end Go.Proofs.YtcpmfcigciknlaaGreat

namespace Go.Proofs.YtcpmfcigciknlaaGreat
open Go.RowKit
set_option linter.unusedVariables false
def unlikeB (l : List Int) (many e : Int) : Bool := decide ((l.length : Int) = many) && (allIn l 0 (e - 1) && decide l.Nodup)
theorem ints_upto {w : World} {ao : Option Addr} {cap : Nat} {l : List Int} (h : Ints w (.slice ao l.length cap) l) (k : Nat) (hk : k ≤ l.length) : Ints w (.slice ao k cap) (l.take k) := by
  obtain ⟨a, c, hv, hm, hc, hd⟩ := h
  simp only [Value.slice.injEq, true_and] at hv
  obtain ⟨rfl, rfl⟩ := hv
  have e : (l.take k).length = k := by rw [List.length_take]; omega
  refine ⟨ao, cap, by rw [e], by rw [e]; omega, ⟨by rw [e]; omega, hc.2⟩, fun hp => ?_⟩
  rw [e] at hp
  obtain ⟨b, off, hab, hcc⟩ := hd (by omega)
  refine ⟨b, off, hab, fun j hj => ?_⟩
  rw [e] at hj
  rw [hcc j (by omega), List.getElem?_take_of_lt hj]
set_option maxHeartbeats 4000000 in
theorem areUnlike_any (v : Value) (l : List Int) (many e : Int) (w : World) (hv : Ints w v l) :
    Calls Tryz.prog 148 #[v, .int .i64 many, .int .i64 e] w (BoolExt (unlikeB l many e) w) := by
  have HV := Lib.hid hv
  obtain ⟨av, cv, rfl, hlv, hcap, dv⟩ := hv
  unfold maxLen at hlv
  have hcap1 := hcap.1
  have hcap2 := hcap.2.1
  unfold maxLen at hcap2
  have DV := Lib.hid dv
  clear dv hcap
  by_cases hm : (l.length : Int) = many
  · subst hm
    have hU : unlikeB l l.length e = (allIn l 0 (e - 1) && decide l.Nodup) := by simp [unlikeB]
    rw [hU]
    clear hU
    have e0 : ((l.length : Int) != (l.length : Int)) = false := by simp
    go_enter Tryz.func148, Tryz.ntmps148
    go_wp2
    go_loopw [7, 8, 15] (fun _ _ i wr => ∃ k : Nat, k ≤ l.length ∧ i = .int .i64 k ∧ Hid ((l.take k).all (fun x => inB x 0 (e - 1)) = true ∧ (l.take k).Nodup) ∧ Ext w wr) (fun _ _ i _ => l.length - (intOf i).toNat)
    case atStart => exact ⟨0, Nat.zero_le _, rfl, Lib.hid ⟨by simp, by simp⟩, Ext.refl _⟩
    case round =>
      obtain ⟨k, hk, rfl, hA, hx⟩ := hrel
      by_cases hlt : k < l.length
      · obtain ⟨bv, ov, rfl, ev⟩ := DV.out (by omega)
        have z1 := hx.cell (ev k hlt)
        rw [List.getElem?_eq_getElem hlt, Option.getD_some] at z1
        have hout : inB l[k] 0 (e - 1) = false → allIn l 0 (e - 1) = false := fun h => all_false_at hlt (fun x => inB x 0 (e - 1)) (by rw [List.getElem?_eq_getElem hlt, Option.getD_some]; exact h)
        have hnext : inB l[k] 0 (e - 1) = true → (l.take (k + 1)).all (fun x => inB x 0 (e - 1)) = true := fun h => all_take_succ hlt (fun x => inB x 0 (e - 1)) hA.out.1 (by rw [List.getElem?_eq_getElem hlt, Option.getD_some]; exact h)
        have hdup : l[k] ∈ l.take k → ¬ l.Nodup := nodup_not hlt
        have hnd : l[k] ∉ l.take k → (l.take (k + 1)).Nodup := fun h => nodup_succ hlt hA.out.2 h
        obtain ⟨n, hn⟩ : ∃ n, n = l[k] := ⟨_, rfl⟩
        rw [← hn] at z1 hout hnext hdup hnd
        have HOUT := Lib.hid hout
        have HNEXT := Lib.hid hnext
        have HDUP := Lib.hid hdup
        have HND := Lib.hid hnd
        have HX := Lib.hid hx
        have j1 : (0 : Int) ≤ (k : Int) ∧ (k : Int) ≤ (cv : Int) := by omega
        clear hout hnext hdup hnd hn hx ev
        by_cases h1 : n < 0
        · have HF : Hid ((allIn l 0 (e - 1) && decide l.Nodup) = false) := Lib.hid (by rw [HOUT.out (inB_no (by omega))]; rfl)
          go_wp2
          go_ret
          exact ⟨by rw [HF.out]; rfl, HX.out⟩
        · by_cases h2 : e ≤ n
          · have HF : Hid ((allIn l 0 (e - 1) && decide l.Nodup) = false) := Lib.hid (by rw [HOUT.out (inB_no (by omega))]; rfl)
            have h1' : ¬ n < 0 := h1
            go_wp2
            go_ret
            exact ⟨by rw [HF.out]; rfl, HX.out⟩
          · go_wp2_with fail
            refine (contains_any _ (l.take k) n _ (ints_upto (HV.out.ext HX.out) k (by omega))).mono ?_
            rintro e w2 ⟨rfl, x2⟩
            have HX2 := Lib.hid (HX.out.trans x2)
            obtain ⟨hh, hhh⟩ : ∃ hh, hh = hasI (l.take k) n := ⟨_, rfl⟩
            rw [← hhh]
            have HH := Lib.hid hhh
            clear hhh x2
            cases hh with
            | true =>
              have HF : Hid ((allIn l 0 (e - 1) && decide l.Nodup) = false) := Lib.hid (by
                have h3 : n ∈ l.take k := by have := HH.out; simpa [hasI] using this.symm
                rw [decide_eq_false (HDUP.out h3), Bool.and_false])
              go_wp2
              go_ret
              exact ⟨by rw [HF.out]; rfl, HX2.out⟩
            | false =>
              have HN : Hid ((l.take (k + 1)).all (fun x => inB x 0 (e - 1)) = true ∧ (l.take (k + 1)).Nodup) := Lib.hid ⟨HNEXT.out (inB_yes (by omega) (by omega)), HND.out (fun h3 => by
                have h4 : hasI (l.take k) n = true := by simpa [hasI] using h3
                rw [← HH.out] at h4; cases h4)⟩
              go_wp2
              go_roundw
              case rel => exact ⟨k + 1, by omega, by go_num, HN, HX2.out⟩
              case measure => simp [intOf]; omega
      · obtain rfl : k = l.length := by omega
        have HF : Hid ((allIn l 0 (e - 1) && decide l.Nodup) = true) := Lib.hid (by
          have h := hA.out
          rw [List.take_length] at h
          unfold allIn
          rw [h.1, decide_eq_true h.2]; rfl)
        go_wp2
        go_ret
        exact ⟨by rw [HF.out]; rfl, hx⟩
  · have hU : unlikeB l many e = false := by simp [unlikeB, hm]
    have e0 : ((l.length : Int) != many) = true := by simp [hm]
    rw [hU]
    clear hU hm
    go_enter Tryz.func148, Tryz.ntmps148
    go_wp2
    go_ret
    exact ⟨rfl, Ext.refl _⟩
set_option maxHeartbeats 1000000 in
theorem arePointKeys_any (v : Value) (l : List Int) (many : Int) (w : World) (hv : Ints w v l) :
    Calls Tryz.prog 105 #[v, .int .i64 many] w (BoolExt (unlikeB l many 1000000) w) := by
  have HV := Lib.hid hv
  obtain ⟨av, cv, rfl, _, _, _⟩ := hv
  go_enter Tryz.func105, Tryz.ntmps105
  go_wp2_with fail
  refine (areUnlike_any _ l many 1000000 _ HV.out).mono ?_
  rintro e w1 ⟨rfl, x1⟩
  obtain ⟨b, hb⟩ : ∃ b, b = unlikeB l many 1000000 := ⟨_, rfl⟩
  have HBB := Lib.hid hb
  rw [← hb]
  clear hb
  go_wp2
  go_ret
  exact ⟨by rw [← HBB.out]; rfl, x1⟩
theorem keysB_eq (g : List (List Int)) (key : List Int) : keysB g key = (goodG g && unlikeB key g.length 1000000) := by
  unfold keysB unlikeB
  have : decide ((key.length : Int) = (g.length : Int)) = decide (key.length = g.length) := by rw [decide_eq_decide]; omega
  rw [this]
  rfl
end Go.Proofs.YtcpmfcigciknlaaGreat

namespace Go.Proofs.YtcpmfcigciknlaaGreat
open Go.RowKit
set_option linter.unusedVariables false
theorem perm_of_covers : ∀ (R l : List Int), R.Nodup → (∀ x ∈ R, x ∈ l) → R.length ≤ l.length ∧ (R.length = l.length → l.Perm R)
  | [], l, _, _ => ⟨Nat.zero_le _, fun e => by
      have : l = [] := List.eq_nil_of_length_eq_zero (by simpa using e.symm)
      rw [this]⟩
  | a :: R, l, hn, h => by
    obtain ⟨h1, h2⟩ := List.nodup_cons.1 hn
    have ha := h a (by simp)
    obtain ⟨i1, i2⟩ := perm_of_covers R (l.erase a) h2 (fun x hx => by
      have hne : x ≠ a := fun e => h1 (by rw [← e]; exact hx)
      exact (List.mem_erase_of_ne hne).2 (h x (List.mem_cons_of_mem _ hx)))
    have hp := List.perm_cons_erase ha
    have hl := hp.length_eq
    rw [List.length_cons] at hl
    refine ⟨by rw [List.length_cons]; omega, fun e => ?_⟩
    rw [List.length_cons] at e
    exact hp.trans ((i2 (by omega)).cons a)
def rangeI (n : Nat) : List Int := (List.range n).map fun (i : Nat) => (i : Int)
theorem rangeI_mem (n : Nat) (x : Int) : x ∈ rangeI n ↔ 0 ≤ x ∧ x < n := by
  unfold rangeI
  rw [List.mem_map]
  constructor
  · rintro ⟨i, hi, rfl⟩
    have := List.mem_range.1 hi
    omega
  · rintro ⟨h1, h2⟩
    exact ⟨x.toNat, List.mem_range.2 (by omega), by omega⟩
theorem rangeI_nodup (n : Nat) : (rangeI n).Nodup := (range_rises n).imp (fun h => by omega)
theorem rangeI_len (n : Nat) : (rangeI n).length = n := by simp [rangeI]
end Go.Proofs.YtcpmfcigciknlaaGreat

namespace Go.Proofs.YtcpmfcigciknlaaGreat
open Go.RowKit
set_option linter.unusedVariables false

/-! ### Lists of unlike numbers -/
end Go.Proofs.YtcpmfcigciknlaaGreat

namespace Go.Proofs.YtcpmfcigciknlaaGreat
open Go.RowKit
set_option linter.unusedVariables false
theorem orderL_perm {g : List (List Int)} (hg : rowsB g = true) (key : List Int) : (orderL g key).Perm (rangeI g.length) := by
  have hnd : (orderL g key).Nodup := by
    unfold orderL
    rw [List.flatMap_def]
    unfold List.Nodup
    rw [List.pairwise_flatten]
    refine ⟨fun l hl => ?_, ?_⟩
    · obtain ⟨G, hG, rfl⟩ := List.mem_map.1 hl
      have hr := compsL_rises' hg hG
      exact (byKeyL_perm _ G).nodup_iff.2 (hr.imp (fun h => by omega))
    · rw [List.pairwise_map]
      refine (compsL_apart hg).imp (fun {G H} h x hx y hy e => ?_)
      have h1 := (byKeyL_perm (keyAt key) G).mem_iff.1 hx
      have h2 := (byKeyL_perm (keyAt key) H).mem_iff.1 hy
      rw [e] at h1
      exact h y h1 h2
  have hmem : ∀ x, x ∈ orderL g key ↔ x ∈ rangeI g.length := fun x => by
    unfold orderL
    rw [List.mem_flatMap, rangeI_mem]
    constructor
    · rintro ⟨G, hG, hx⟩
      exact compsL_in hg hG x ((byKeyL_perm _ G).mem_iff.1 hx)
    · intro hx
      obtain ⟨H, hH, hxH⟩ := compsL_covers hg hx
      exact ⟨H, hH, (byKeyL_perm _ H).mem_iff.2 hxH⟩
  have h1 := perm_of_covers (orderL g key) (rangeI g.length) hnd (fun x hx => (hmem x).1 hx)
  have h2 := perm_of_covers (rangeI g.length) (orderL g key) (rangeI_nodup _) (fun x hx => (hmem x).2 hx)
  exact (h1.2 (by omega)).symm
end Go.Proofs.YtcpmfcigciknlaaGreat
