/- Contract of the model's l5Reached: all points that a point leads to, rising, in new memory. -/
import Derived.Test.YtnmnbeklofnonaaSpecGraph
import Derived.Test.YtnmnbeklofnonaaL1Has
import Derived.Test.YtnmnbeklofnonaaPut
namespace Go.Proofs.Ytnmnbeklofnonaa
open Go.RowKit
set_option linter.unusedVariables false

def OneInts (l : List Int) (w : World) (e : Ending) (w' : World) : Prop := ∃ v, e = .returned v ∧ Fresh w.heap.size w' v l ∧ Ext w w'
theorem hasI_iff (l : List Int) (n : Int) : hasI l n = true ↔ n ∈ l := by simp [hasI]

/-- The two lists of the search, each in new memory of its own. -/
def Pair (w wr : World) (vm vo : Value) (met out : List Int) : Prop :=
  Fresh w.heap.size wr vm met ∧ Fresh w.heap.size wr vo out ∧ (vo.ownBlock = none ∨ vo.ownBlock ≠ vm.ownBlock) ∧ Ext w wr
theorem Pair.ext {w wr w1 : World} {vm vo : Value} {met out : List Int} (h : Pair w wr vm vo met out) (x : Ext wr w1) : Pair w w1 vm vo met out :=
  ⟨h.1.ext x, h.2.1.ext x, h.2.2.1, h.2.2.2.trans x⟩
theorem Pair.add {w wr w1 w2 : World} {vm vo v1 v2 : Value} {met out : List Int} {n : Int} (h : Pair w wr vm vo met out)
    (f1 : Fresh w.heap.size w1 v1 (met ++ [n])) (x1 : Ext w w1) (f2 : Fresh w1.heap.size w2 v2 (putI out n)) (x2 : Ext w1 w2) : Pair w w2 v1 v2 (met ++ [n]) (putI out n) :=
  ⟨f1.ext x2, f2.more x1.size, f1.apart f2 (Nat.le_refl _), x1.trans x2⟩
theorem pair_start (w : World) (k : Int) : Pair w ((w.alloc (.cells #[.int .i64 k] 3)).alloc (.cells #[.int .i64 k] 3)) (.slice (some ⟨w.heap.size + 1, 0, none⟩) 1 1) (.slice (some ⟨w.heap.size, 0, none⟩) 1 1) [k] [k] := by
  have e : (w.alloc (.cells #[.int .i64 k] 3)).heap.size = w.heap.size + 1 := by simp
  refine ⟨fresh_lit2 w _ [k] 1 _ rfl rfl (by simp), ?_, .inr ?_, (Ext.alloc (Ext.refl _) _).alloc _⟩
  · exact (fresh_lit w [k] _ _ rfl (Nat.le_refl _) (by simp)).ext (Ext.alloc (Ext.refl _) _)
  · simp [Value.ownBlock]

set_option maxHeartbeats 4000000 in
theorem l5Reached_any (v : Value) (g : List (List Int)) (k : Nat) (w : World) (hv : Intss w v g) (hg : rowsB g = true) (hs : g.length ≤ 1048576) (hk : k < g.length) :
    Calls Try.prog 68 #[v, .int .i64 k] w (OneInts (reachL g k) w) := by
  have HV := Lib.hid hv
  have HG := Lib.hid hg
  have HK := Lib.hid hk
  have HS := Lib.hid hs
  have hki : 0 ≤ (k : Int) ∧ (k : Int) < g.length := by omega
  have HKI := Lib.hid hki
  obtain ⟨av, cv, rfl, hlv, hcap, hcv⟩ := hv
  clear hg hk hs hki hlv hcap
  have hst := pair_start w (k : Int)
  have HST := Lib.hid hst
  clear hst
  go_enter Try.func68, Try.ntmps68
  go_wp2
  go_loopw [5, 6, 7, 9] (fun vo vm i _ wr => ∃ (j : Nat) (met out : List Int), i = .int .i64 j ∧ j ≤ met.length ∧ Srch g k j met out ∧ Pair w wr vm vo met out) (fun _ _ i _ _ => g.length - (intOf i).toNat)
  case atStart => exact ⟨0, [(k : Int)], [(k : Int)], rfl, by simp, Srch.start g k, HST.out⟩
  case round =>
    obtain ⟨j, met, out, rfl, hj, hS, hP⟩ := hrel
    have hm := hS.small HG.out HKI.out
    by_cases hlt : j < met.length
    · have hin := reach_in HG.out HKI.out (hS.reach _ (List.getElem_mem hlt))
      obtain ⟨q, hq⟩ : ∃ q : Nat, met[j] = (q : Int) := ⟨met[j].toNat, by omega⟩
      have hqg : q < g.length := by omega
      have hlook := hS.look hlt
      rw [hq] at hlook
      obtain ⟨am, cm, rfl, hlm, hcm, dm⟩ := hP.1.ints
      obtain ⟨bm, om, rfl, em⟩ := dm (by omega)
      have gm := em j hlt
      rw [List.getElem?_eq_getElem hlt, Option.getD_some, hq] at gm
      obtain ⟨bg, og, rfl, dg⟩ := hcv (by omega)
      obtain ⟨x, hx1, ix⟩ := dg q hqg
      rw [List.getElem?_eq_getElem hqg, Option.getD_some] at ix
      have gg := hP.2.2.2.cell hx1
      have hrow := rowG_at hqg
      obtain ⟨ax, cx, rfl, hlx, hcx, dx⟩ := ix
      have HR := Lib.hid hrow
      have HP := Lib.hid hP
      have HL := Lib.hid hlook
      have HC := Lib.hid hcv
      have DX := Lib.hid dx
      unfold maxLen at hlx
      clear hrow hP hlook hcv dm em dg hx1 dx hcx hlm hcm hS hin hq
      go_wp2
      go_loopw [5, 6, 9, 28] (fun vo vm _ i w2 => ∃ (t : Nat) (met' out' : List Int), i = .int .i64 t ∧ t ≤ g[q].length ∧ SrchAt g k j t q met' out' ∧ Pair w w2 vm vo met' out') (fun _ _ _ i _ => g[q].length - (intOf i).toNat)
      case atStart => exact ⟨0, met, out, rfl, Nat.zero_le _, HL.out, HP.out⟩
      case round =>
        obtain ⟨t, met', out', rfl, ht, hA, hP'⟩ := hrel
        by_cases hti : t < g[q].length
        · obtain ⟨bx, ox, rfl, ex⟩ := DX.out (by omega)
          have gx := hP'.2.2.2.cell (ex t hti)
          rw [List.getElem?_eq_getElem hti, Option.getD_some] at gx
          have htr : t < (rowG g q).length := by rw [HR.out]; exact hti
          have hn : (rowG g q)[t] = g[q][t] := by simp only [HR.out]
          have hm' := hA.1.small HG.out HKI.out
          have hl' := hA.1.len
          obtain ⟨n, hnn⟩ : ∃ n, n = g[q][t] := ⟨_, rfl⟩
          rw [← hnn] at gx hn
          have HN := Lib.hid hn
          have HA := Lib.hid hA
          have HP2 := Lib.hid hP'
          have HH := Lib.hid hnn
          clear ex hn hA hP' hnn
          go_wp2_with fail
          refine (l1Has_any _ met' n _ HP2.out.1.ints).mono ?_
          rintro e w3 ⟨rfl, x3⟩
          have HP3 := Lib.hid (HP2.out.ext x3)
          clear x3 gx HP2
          cases hh : hasI met' n with
          | true =>
            have HM := Lib.hid ((hasI_iff _ _).1 hh)
            go_wp2
            go_roundw
            case rel => exact ⟨t + 1, met', out', by go_num, by omega, HA.out.known htr (by rw [HN.out]; exact HM.out), HP3.out⟩
            case measure => simp [intOf]; omega
          | false =>
            have hno : n ∉ met' := fun h => by rw [(hasI_iff _ _).2 h] at hh; cases hh
            have HM := Lib.hid hno
            have hb1 : met'.length ≤ 1099511627776 := by have := HS.out; omega
            have hb2 : out'.length ≤ 1048576 := by have := HS.out; omega
            have HB := Lib.hid (And.intro hb1 hb2)
            clear hno hb1 hb2
            go_wp2_with (at_builtin; refine wpList_push rfl _ _ rfl w.heap.size _ met' n rfl (HP3.out.1.ext (Ext.alloc (Ext.refl _) _)) ⟨w3.heap.size, 0, none⟩ 1 rfl (cell_alloc_one _ _ _) HB.out.1 (size_alloc_le HP3.out.2.2.2.size) ?_)
            intro v4 w4 f4 g4 k4
            have e4 : Ext w w4 := k4 w (HP3.out.2.2.2.alloc _) (Nat.le_refl _)
            have o4 := (HP3.out.2.1.ext (Ext.alloc (Ext.refl _) _)).touch g4 HP3.out.2.2.1
            have F4 := Lib.hid f4
            have E4 := Lib.hid e4
            have O4 := Lib.hid o4
            clear f4 g4 k4 e4 o4
            go_wp2_with fail
            refine (l1Put_any _ out' n _ O4.out.ints HB.out.2).mono ?_
            rintro e w5 ⟨v5, rfl, x5, h5⟩
            have hno : n ∉ out' := fun h => HM.out ((HA.out.1.same n).1 h)
            have f5 : Fresh w4.heap.size w5 v5 (putI out' n) := by
              rcases h5 with ⟨_, h5⟩ | h5
              · have := putI_len hno
                rw [h5] at this
                omega
              · exact h5
            have hP5 := HP3.out.add F4.out E4.out f5 x5
            have HP5 := Lib.hid hP5
            clear h5 f5 hP5 x5 hno
            go_wp2
            go_roundw
            case rel =>
              have ha := HA.out.add htr (by rw [HN.out]; exact HM.out)
              rw [HN.out] at ha
              exact ⟨t + 1, met' ++ [n], putI out' n, by go_num, by omega, ha, HP5.out⟩
            case measure => simp [intOf]; omega
        · have htt : (rowG g q).length ≤ t := by rw [HR.out]; omega
          have hN := hA.next htt
          have hm' := hA.1.small HG.out HKI.out
          have hj' : j < met'.length := (List.getElem?_eq_some_iff.1 hA.2.1).1
          have HN := Lib.hid hN
          have HP2 := Lib.hid hP'
          have hb : j < 1048576 := by have := HS.out; omega
          clear hN hP' hA htt
          go_wp2
          go_roundw
          case rel => exact ⟨j + 1, met', out', by go_num, by omega, HN.out, HP2.out⟩
          case measure => simp [intOf]; omega
    · obtain rfl : j = met.length := by omega
      have hd := hS.done HG.out HKI.out (Nat.le_refl _)
      obtain ⟨am, cm, rfl, hlm, hcm, dm⟩ := hP.1.ints
      have HD := Lib.hid hd
      have HP := Lib.hid hP
      clear hcv dm hd hP hS hcm
      go_wp2
      go_ret
      exact ⟨_, rfl, HD.out ▸ HP.out.2.1, HP.out.2.2.2⟩

end Go.Proofs.Ytnmnbeklofnonaa
