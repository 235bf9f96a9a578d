/- Contract of the model's l5Groups: all groups, by their first points, in new memory. -/
import Derived.Test.YtnmnbeklofnonaaReached
import Derived.Test.YtnmnbeklofnonaaComps
import Derived.Test.YtnmnbeklofnonaaPushSS
namespace Go.Proofs.Ytnmnbeklofnonaa
open Go.RowKit
set_option linter.unusedVariables false

noncomputable def allL (g : List (List Int)) (t : Nat) : List (List Int) := (List.range t).map fun (i : Nat) => reachL g (i : Int)
theorem allL_len (g : List (List Int)) (t : Nat) : (allL g t).length = t := by simp [allL]
theorem allL_succ (g : List (List Int)) (t : Nat) : allL g (t + 1) = allL g t ++ [reachL g (t : Int)] := by simp [allL, List.range_succ]
theorem allL_at (g : List (List Int)) {t m : Nat} (h : m < t) : (allL g t)[m]? = some (reachL g (m : Int)) := by simp [allL, h]
open Classical in
noncomputable def grpTo (g : List (List Int)) (t : Nat) : List (List Int) :=
  (((List.range t).map fun (i : Nat) => (i : Int)).filter fun k => decide ((groupL g k).head? = some k)).map (groupL g)
theorem grpTo_all (g : List (List Int)) : grpTo g g.length = groupsL g := by
  unfold grpTo groupsL
  congr 1
theorem grpTo_len (g : List (List Int)) (t : Nat) : (grpTo g t).length ≤ t := by
  unfold grpTo
  rw [List.length_map]
  refine Nat.le_trans (List.length_filter_le _ _) (by simp)
theorem grpTo_yes (g : List (List Int)) (t : Nat) (h : (groupL g (t : Int)).head? = some (t : Int)) : grpTo g (t + 1) = grpTo g t ++ [groupL g (t : Int)] := by
  unfold grpTo
  rw [List.range_succ, List.map_append, List.filter_append, List.map_append]
  simp [h]
theorem grpTo_no (g : List (List Int)) (t : Nat) (h : (groupL g (t : Int)).head? ≠ some (t : Int)) : grpTo g (t + 1) = grpTo g t := by
  unfold grpTo
  rw [List.range_succ, List.map_append, List.filter_append, List.map_append]
  simp [h]
/-- Whether k is among the points that n leads to. -/
noncomputable def backB (g : List (List Int)) (k n : Int) : Bool := hasI (reachL g n) k
theorem groupL_back (g : List (List Int)) (k : Int) : groupL g k = (reachL g k).filter (backB g k) := by
  unfold groupL backB
  apply List.filter_congr
  intro x _
  rw [Bool.eq_iff_iff, hasI_iff, decide_eq_true_iff]

theorem reachL_in {g : List (List Int)} {k x : Int} (h : x ∈ reachL g k) : 0 ≤ x ∧ x < g.length := by
  unfold reachL at h
  obtain ⟨i, hi, rfl⟩ := List.mem_map.1 (List.mem_filter.1 h).1
  have := List.mem_range.1 hi
  omega
theorem filt_succ {l : List Int} {k : Nat} (h : k < l.length) (p : Int → Bool) : (l.take (k + 1)).filter p = (l.take k).filter p ++ (if p l[k] then [l[k]] else []) := by
  rw [List.take_add_one, List.getElem?_eq_getElem h, List.filter_append]
  cases hp : p l[k] <;> simp [hp]

def NewSS (L : List (List Int)) (w : World) (e : Ending) (w' : World) : Prop := ∃ v, e = .returned v ∧ FreshSS w.heap.size w' v L ∧ Ext w w'

set_option maxHeartbeats 4000000 in
theorem l5Groups_any (v : Value) (g : List (List Int)) (w : World) (hv : Intss w v g) (hg : goodG g = true) :
    Calls Try.prog 77 #[v] w (NewSS (groupsL g) w) := by
  have HV := Lib.hid hv
  obtain ⟨av, cv, rfl, hlv, hcap, hcv⟩ := hv
  unfold maxLen at hlv
  clear hcap hcv
  obtain ⟨ha, hb⟩ := goodG_of hg
  have hb' : g.length ≤ 1048576 := by omega
  have HA := Lib.hid ha
  have HB := Lib.hid hb
  have hr := fun (m : Nat) (hm : m < g.length) W h => l5Reached_any (.slice av g.length cv) g m W h ha hb' hm
  have HR := Lib.hid hr
  clear ha hb hb' hg hr
  go_enter Try.func77, Try.ntmps77
  go_wp2
  go_loopw [3, 4, 12] (fun va _ i wr => ∃ t : Nat, t ≤ g.length ∧ i = .int .i64 t ∧ FreshSS w.heap.size wr va (allL g t) ∧ Ext w wr) (fun _ _ i _ => g.length - (intOf i).toNat)
  case atStart => exact ⟨0, Nat.zero_le _, rfl, FreshSS.nil _ _, Ext.refl _⟩
  case round =>
    obtain ⟨t, ht, rfl, hf, hx⟩ := hrel
    by_cases hlt : t < g.length
    · have HF := Lib.hid hf
      have HX := Lib.hid hx
      have htb : t ≤ 1048576 := by have := HB.out; omega
      have hll : (allL g t).length ≤ 1048576 := by rw [allL_len]; exact htb
      have HLL := Lib.hid hll
      clear hf hx hll
      go_wp2_with fail
      refine (HR.out t hlt _ (HV.out.ext HX.out)).mono ?_
      rintro e w3 ⟨v3, rfl, f3, x3⟩
      obtain ⟨a3, c3, rfl, _⟩ := f3.ints
      have hx3 := HX.out.trans x3
      have F3 := Lib.hid f3
      have X3 := Lib.hid x3
      have HX3 := Lib.hid hx3
      clear f3 x3 hx3
      go_wp2_with (at_builtin; refine wpList_pushSS rfl _ _ rfl w.heap.size _ (allL g t) (reachL g (t : Int)) wr rfl HF.out (X3.out.alloc _) _ (F3.out.ext (Ext.alloc (Ext.refl _) _)) ⟨w3.heap.size, 0, none⟩ 1 rfl (cell_alloc_one _ _ _) rfl HLL.out HX.out.size ?_)
      intro v4 w4 f4 k4
      have e4 : Ext w w4 := k4 w (HX3.out.alloc _) (Nat.le_refl _)
      rw [← allL_succ] at f4
      have F4 := Lib.hid f4
      have E4 := Lib.hid e4
      clear f4 k4 e4
      go_wp2
      go_roundw
      case rel => exact ⟨t + 1, by omega, by go_num, F4.out, E4.out⟩
      case measure => simp [intOf]; omega
    · obtain rfl : t = g.length := by omega
      obtain ⟨wa, hwa⟩ : ∃ x : World, x = wr := ⟨_, rfl⟩
      subst hwa
      have HFA := Lib.hid hf
      have HXA := Lib.hid hx
      have hia := hf.intss
      obtain ⟨aa, ca, rfl, hla, hca, da⟩ := hia
      have DA := Lib.hid da
      clear hf hx hca da
      rw [allL_len] at hla
      unfold maxLen at hla
      simp only [allL_len] at *
      go_wp2
      go_loopw [5, 6, 7, 9, 24] (fun vo _ _ _ i wr => ∃ t : Nat, t ≤ g.length ∧ i = .int .i64 t ∧ FreshSS wa.heap.size wr vo (grpTo g t) ∧ Ext wa wr) (fun _ _ _ _ i _ => g.length - (intOf i).toNat)
      case atStart => exact ⟨0, Nat.zero_le _, rfl, FreshSS.nil _ _, Ext.refl _⟩
      case round =>
        obtain ⟨t, ht, rfl, hf, hx⟩ := hrel
        obtain ⟨wo, hwo⟩ : ∃ x : World, x = wr := ⟨_, rfl⟩
        subst hwo
        by_cases hlt : t < g.length
        · obtain ⟨ba, oa, rfl, ea⟩ := DA.out (by omega)
          obtain ⟨x, hx1, ix⟩ := ea t hlt
          obtain ⟨R, hRR⟩ : ∃ R, R = reachL g (t : Int) := ⟨_, rfl⟩
          rw [allL_at g hlt, Option.getD_some, ← hRR] at ix
          have gx := hx.cell hx1
          have IX := Lib.hid (ix.ext hx)
          have EA := Lib.hid ea
          have HF := Lib.hid hf
          have HX := Lib.hid hx
          obtain ⟨ax, cx, rfl, hlx, _, dx⟩ := ix
          have DX := Lib.hid dx
          unfold maxLen at hlx
          have hrn : ∀ (s : Nat) (h : s < R.length), ∃ n : Nat, R[s] = (n : Int) ∧ n < g.length := fun s h => by
            have := reachL_in (g := g) (k := (t : Int)) (x := R[s]) (by rw [← hRR]; exact List.getElem_mem h)
            exact ⟨(R[s]).toNat, by omega, by omega⟩
          have HRN := Lib.hid hrn
          have hrl : R.length ≤ g.length := by rw [hRR]; exact reachL_len g (t : Int)
          have hG : groupL g (t : Int) = (reachL g (t : Int)).filter (backB g t) := groupL_back g t
          have hself := groupL_self HA.out (k := (t : Int)) (by omega)
          have hgl : (groupL g (t : Int)).length ≤ g.length := by rw [hG]; exact Nat.le_trans (List.length_filter_le _ _) (reachL_len g (t : Int))
          obtain ⟨G, hGG⟩ : ∃ G, G = groupL g (t : Int) := ⟨_, rfl⟩
          obtain ⟨P, hPP⟩ : ∃ P, P = backB g (t : Int) := ⟨_, rfl⟩
          have hPs : ∀ n, P n = hasI (reachL g n) t := fun n => by rw [hPP]; rfl
          rw [← hGG] at hself hgl
          rw [← hGG, ← hRR, ← hPP] at hG
          have hYes := grpTo_yes g t
          have hNo := grpTo_no g t
          rw [← hGG] at hYes hNo
          have HYES := Lib.hid hYes
          have HNO := Lib.hid hNo
          have HG := Lib.hid hG
          have HSELF := Lib.hid hself
          have HGL := Lib.hid hgl
          have HP := Lib.hid hPs
          have HRL := Lib.hid hrl
          clear ea hx1 hf hx dx hrn hG hself hgl hPs hGG hPP hYes hNo hrl hRR
          go_wp2
          go_loopw [7, 9, 32] (fun vg _ i w3 => ∃ s : Nat, s ≤ R.length ∧ i = .int .i64 s ∧ Fresh wo.heap.size w3 vg ((R.take s).filter P) ∧ Ext wo w3) (fun _ _ i _ => R.length - (intOf i).toNat)
          case atStart => exact ⟨0, Nat.zero_le _, rfl, World.ownsRow_nil _ _ _ _, Ext.refl _⟩
          case round =>
            obtain ⟨s, hs, rfl, hfg, hx3⟩ := hrel
            by_cases hls : s < R.length
            · obtain ⟨bx, ox, rfl, ex⟩ := DX.out (by omega)
              have gs := hx3.cell (HX.out.cell (ex s hls))
              obtain ⟨n, hn, hng⟩ := HRN.out s hls
              rw [List.getElem?_eq_getElem hls, Option.getD_some, hn] at gs
              obtain ⟨y, hy1, iy⟩ := EA.out n hng
              rw [allL_at g hng, Option.getD_some] at iy
              have gy := hx3.cell (HX.out.cell hy1)
              have IY := Lib.hid (iy.ext (HX.out.trans hx3))
              have hfs := filt_succ hls P
              rw [hn] at hfs
              have HFS := Lib.hid hfs
              have HFG := Lib.hid hfg
              have HX3 := Lib.hid hx3
              have hsb : ((R.take s).filter P).length ≤ 1099511627776 := by
                have h1 := List.length_filter_le P (R.take s)
                have h2 : (R.take s).length ≤ s := by simp; omega
                have := HB.out
                have := HRL.out
                omega
              have HSB := Lib.hid hsb
              clear ex hn hy1 iy hfs hfg hx3 hsb
              go_wp2_with fail
              refine (l1Has_any y (reachL g (n : Int)) (t : Int) _ IY.out).mono ?_
              rintro e w5 ⟨rfl, x5⟩
              rw [← HP.out]
              have HX5 := Lib.hid (HX3.out.trans x5)
              have HFG5 := Lib.hid (HFG.out.ext x5)
              clear x5 gs gy HX3 HFG
              cases hp : P (n : Int) with
              | true =>
                have hfs := HFS.out
                rw [hp, if_pos rfl] at hfs
                have HFS2 := Lib.hid hfs
                clear hfs HFS
                go_wp2_with (at_builtin; refine wpList_push rfl _ _ rfl wo.heap.size _ _ (n : Int) rfl (HFG5.out.ext (Ext.alloc (Ext.refl _) _)) ⟨w5.heap.size, 0, none⟩ 1 rfl (cell_alloc_one _ _ _) HSB.out (size_alloc_le HX5.out.size) ?_)
                intro v6 w6 f6 g6 k6
                have F6 := Lib.hid f6
                have E6 := Lib.hid (k6 wo (HX5.out.alloc _) (Nat.le_refl _))
                clear f6 g6 k6
                go_wp2
                go_roundw
                case rel => exact ⟨s + 1, by omega, by go_num, by rw [HFS2.out]; exact F6.out, E6.out⟩
                case measure => simp [intOf]; omega
              | false =>
                have hfs := HFS.out
                rw [hp, if_neg (by simp), List.append_nil] at hfs
                have HFS2 := Lib.hid hfs
                clear hfs HFS
                go_wp2
                go_roundw
                case rel => exact ⟨s + 1, by omega, by go_num, by rw [HFS2.out]; exact HFG5.out, HX5.out⟩
                case measure => simp [intOf]; omega
            · obtain rfl : s = R.length := by omega
              rw [List.take_length, ← HG.out] at hfg
              obtain ⟨ag, cg, rfl, hlg, _, dg⟩ := hfg.ints
              obtain ⟨h0, tl, hGc⟩ : ∃ h0 tl, G = h0 :: tl := by
                cases hGe : G with
                | nil => have := HSELF.out; rw [hGe] at this; simp at this
                | cons a b => exact ⟨a, b, rfl⟩
              have hGlen : 0 < G.length := by rw [hGc]; simp
              obtain ⟨bg, og, rfl, eg⟩ := dg hGlen
              have gg := eg 0 hGlen
              have hg0 : G[0]?.getD 0 = h0 := by rw [hGc]; rfl
              have hhd : G.head? = some h0 := by rw [hGc]; rfl
              rw [hg0, Nat.add_zero] at gg
              have HHD := Lib.hid hhd
              have HFG := Lib.hid hfg
              have HX3 := Lib.hid hx3
              clear hfg hx3 dg eg hg0 hhd hGc
              by_cases he : h0 = (t : Int)
              · have hyes := HYES.out (by rw [HHD.out, he])
                have HY := Lib.hid hyes
                have e1 : (h0 == (t : Int)) = true := by simp [he]
                have HE := Lib.hid he
                have hll : (grpTo g t).length ≤ 1048576 := by have := grpTo_len g t; have := HB.out; omega
                have HLL := Lib.hid hll
                have HXR := Lib.hid HX.out.size
                clear hyes he hll
                go_wp2_with (at_builtin; refine wpList_pushSS rfl _ _ rfl wa.heap.size _ (grpTo g t) G wo rfl HF.out (HX3.out.alloc _) _ (HFG.out.ext (Ext.alloc (Ext.refl _) _)) ⟨_, 0, none⟩ 1 rfl (cell_alloc_one _ _ _) rfl HLL.out HXR.out ?_)
                intro v7 w7 f7 k7
                have E7 := Lib.hid (k7 wa ((HX.out.trans HX3.out).alloc _) (Nat.le_refl _))
                rw [← HY.out] at f7
                have F7 := Lib.hid f7
                clear f7 k7
                go_wp2
                go_roundw
                case rel => exact ⟨t + 1, by omega, by go_num, F7.out, E7.out⟩
                case measure => simp [intOf]; omega
              · have hno := HNO.out (by rw [HHD.out]; intro e; exact he (by simpa using e))
                have HN := Lib.hid hno
                have e1 : (h0 == (t : Int)) = false := by simp [he]
                have HFO := Lib.hid (HF.out.ext HX3.out)
                have HE := Lib.hid he
                clear hno he
                go_wp2
                go_roundw
                case rel => exact ⟨t + 1, by omega, by go_num, by rw [HN.out]; exact HFO.out, HX.out.trans HX3.out⟩
                case measure => simp [intOf]; omega
        · obtain rfl : t = g.length := by omega
          rw [grpTo_all] at hf
          have HF := Lib.hid (hf.more HXA.out.size)
          have HX := Lib.hid (HXA.out.trans hx)
          clear hf hx
          go_wp2
          go_ret
          exact ⟨_, rfl, HF.out, HX.out⟩

end Go.Proofs.Ytnmnbeklofnonaa
