/- Texts of this proof, part h: words, plain facts, contracts. -/
import Derived.Test.YtcpmfcigciknlaaGreatNBookOfg
import Derived.Test.YtcpmfcigciknlaaGreatNBookOfe
import Derived.Deep.AppendLies
set_option linter.unusedVariables false
set_option linter.unusedSimpArgs false

namespace Go.Proofs.YtcpmfcigciknlaaGreat
open Go.RowKit
set_option linter.unusedVariables false
noncomputable def allL (g : List (List Int)) (t : Nat) : List (List Int) := (List.range t).map fun (i : Nat) => reachL g (i : Int)
theorem allL_len (g : List (List Int)) (t : Nat) : (allL g t).length = t := by simp [allL]
theorem allL_succ (g : List (List Int)) (t : Nat) : allL g (t + 1) = allL g t ++ [reachL g (t : Int)] := by simp [allL, List.range_succ]
theorem allL_at (g : List (List Int)) {t m : Nat} (h : m < t) : (allL g t)[m]? = some (reachL g (m : Int)) := by simp [allL, h]
open Classical in
noncomputable def grpTo (g : List (List Int)) (t : Nat) : List (List Int) :=
  (((List.range t).map fun (i : Nat) => (i : Int)).filter fun k => decide ((groupL g k).head? = some k)).map (groupL g)
theorem grpTo_all (g : List (List Int)) : grpTo g g.length = groupsL g := by
  unfold grpTo groupsL
  congr 1
theorem grpTo_len (g : List (List Int)) (t : Nat) : (grpTo g t).length ≤ t := by
  unfold grpTo
  rw [List.length_map]
  refine Nat.le_trans (List.length_filter_le _ _) (by simp)
theorem grpTo_yes (g : List (List Int)) (t : Nat) (h : (groupL g (t : Int)).head? = some (t : Int)) : grpTo g (t + 1) = grpTo g t ++ [groupL g (t : Int)] := by
  unfold grpTo
  rw [List.range_succ, List.map_append, List.filter_append, List.map_append]
  simp [h]
theorem grpTo_no (g : List (List Int)) (t : Nat) (h : (groupL g (t : Int)).head? ≠ some (t : Int)) : grpTo g (t + 1) = grpTo g t := by
  unfold grpTo
  rw [List.range_succ, List.map_append, List.filter_append, List.map_append]
  simp [h]
noncomputable def backB (g : List (List Int)) (k n : Int) : Bool := hasI (reachL g n) k
theorem groupL_back (g : List (List Int)) (k : Int) : groupL g k = (reachL g k).filter (backB g k) := by
  unfold groupL backB
  apply List.filter_congr
  intro x _
  rw [Bool.eq_iff_iff, hasI_iff, decide_eq_true_iff]
theorem reachL_in {g : List (List Int)} {k x : Int} (h : x ∈ reachL g k) : 0 ≤ x ∧ x < g.length := by
  unfold reachL at h
  obtain ⟨i, hi, rfl⟩ := List.mem_map.1 (List.mem_filter.1 h).1
  have := List.mem_range.1 hi
  omega
theorem filt_succ {l : List Int} {k : Nat} (h : k < l.length) (p : Int → Bool) : (l.take (k + 1)).filter p = (l.take k).filter p ++ (if p l[k] then [l[k]] else []) := by
  rw [List.take_add_one, List.getElem?_eq_getElem h, List.filter_append]
  cases hp : p l[k] <;> simp [hp]
def NewSS (L : List (List Int)) (w : World) (e : Ending) (w' : World) : Prop := ∃ v, e = .returned v ∧ FreshSS w.heap.size w' v L ∧ Ext w w'
set_option maxHeartbeats 4000000 in
theorem l5Groups_any (v : Value) (g : List (List Int)) (w : World) (hv : Intss w v g) (hg : goodG g = true) :
    Calls Tryz.prog 177 #[v] w (NewSS (groupsL g) w) := by
  have HV := Lib.hid hv
  obtain ⟨av, cv, rfl, hlv, hcap, hcv⟩ := hv
  unfold maxLen at hlv
  clear hcap hcv
  obtain ⟨ha, hb⟩ := goodG_of hg
  have hb' : g.length ≤ 1048576 := by omega
  have HA := Lib.hid ha
  have HB := Lib.hid hb
  have hr := fun (m : Nat) (hm : m < g.length) W h => l5Reached_any (.slice av g.length cv) g m W h ha hb' hm
  have HR := Lib.hid hr
  clear ha hb hb' hg hr
  go_enter Tryz.func177, Tryz.ntmps177
  go_wp2
  go_loopw [3, 4, 12] (fun va _ i wr => ∃ t : Nat, t ≤ g.length ∧ i = .int .i64 t ∧ FreshSS w.heap.size wr va (allL g t) ∧ Ext w wr) (fun _ _ i _ => g.length - (intOf i).toNat)
  case atStart => exact ⟨0, Nat.zero_le _, rfl, FreshSS.nil _ _, Ext.refl _⟩
  case round =>
    obtain ⟨t, ht, rfl, hf, hx⟩ := hrel
    by_cases hlt : t < g.length
    · have HF := Lib.hid hf
      have HX := Lib.hid hx
      have htb : t ≤ 1048576 := by have := HB.out; omega
      have hll : (allL g t).length ≤ 1048576 := by rw [allL_len]; exact htb
      have HLL := Lib.hid hll
      clear hf hx hll
      go_wp2_with fail
      refine (HR.out t hlt _ (HV.out.ext HX.out)).mono ?_
      rintro e w3 ⟨v3, rfl, f3, x3⟩
      obtain ⟨a3, c3, rfl, _⟩ := f3.ints
      have hx3 := HX.out.trans x3
      have F3 := Lib.hid f3
      have X3 := Lib.hid x3
      have HX3 := Lib.hid hx3
      clear f3 x3 hx3
      go_wp2_with (at_builtin; refine wpList_pushSS rfl _ _ rfl w.heap.size _ (allL g t) (reachL g (t : Int)) wr rfl HF.out (X3.out.alloc _) _ (F3.out.ext (Ext.alloc (Ext.refl _) _)) ⟨w3.heap.size, 0, none⟩ 1 rfl (cell_alloc_one _ _ _) rfl HLL.out HX.out.size ?_)
      intro v4 w4 f4 k4
      have e4 : Ext w w4 := k4 w (HX3.out.alloc _) (Nat.le_refl _)
      rw [← allL_succ] at f4
      have F4 := Lib.hid f4
      have E4 := Lib.hid e4
      clear f4 k4 e4
      go_wp2
      go_roundw
      case rel => exact ⟨t + 1, by omega, by go_num, F4.out, E4.out⟩
      case measure => simp [intOf]; omega
    · obtain rfl : t = g.length := by omega
      obtain ⟨wa, hwa⟩ : ∃ x : World, x = wr := ⟨_, rfl⟩
      subst hwa
      have HFA := Lib.hid hf
      have HXA := Lib.hid hx
      have hia := hf.intss
      obtain ⟨aa, ca, rfl, hla, hca, da⟩ := hia
      have DA := Lib.hid da
      clear hf hx hca da
      rw [allL_len] at hla
      unfold maxLen at hla
      simp only [allL_len] at *
      go_wp2
      go_loopw [5, 6, 7, 9, 24] (fun vo _ _ _ i wr => ∃ t : Nat, t ≤ g.length ∧ i = .int .i64 t ∧ FreshSS wa.heap.size wr vo (grpTo g t) ∧ Ext wa wr) (fun _ _ _ _ i _ => g.length - (intOf i).toNat)
      case atStart => exact ⟨0, Nat.zero_le _, rfl, FreshSS.nil _ _, Ext.refl _⟩
      case round =>
        obtain ⟨t, ht, rfl, hf, hx⟩ := hrel
        obtain ⟨wo, hwo⟩ : ∃ x : World, x = wr := ⟨_, rfl⟩
        subst hwo
        by_cases hlt : t < g.length
        · obtain ⟨ba, oa, rfl, ea⟩ := DA.out (by omega)
          obtain ⟨x, hx1, ix⟩ := ea t hlt
          obtain ⟨R, hRR⟩ : ∃ R, R = reachL g (t : Int) := ⟨_, rfl⟩
          rw [allL_at g hlt, Option.getD_some, ← hRR] at ix
          have gx := hx.cell hx1
          have IX := Lib.hid (ix.ext hx)
          have EA := Lib.hid ea
          have HF := Lib.hid hf
          have HX := Lib.hid hx
          obtain ⟨ax, cx, rfl, hlx, _, dx⟩ := ix
          have DX := Lib.hid dx
          unfold maxLen at hlx
          have hrn : ∀ (s : Nat) (h : s < R.length), ∃ n : Nat, R[s] = (n : Int) ∧ n < g.length := fun s h => by
            have := reachL_in (g := g) (k := (t : Int)) (x := R[s]) (by rw [← hRR]; exact List.getElem_mem h)
            exact ⟨(R[s]).toNat, by omega, by omega⟩
          have HRN := Lib.hid hrn
          have hrl : R.length ≤ g.length := by rw [hRR]; exact reachL_len g (t : Int)
          have hG : groupL g (t : Int) = (reachL g (t : Int)).filter (backB g t) := groupL_back g t
          have hself := groupL_self HA.out (k := (t : Int)) (by omega)
          have hgl : (groupL g (t : Int)).length ≤ g.length := by rw [hG]; exact Nat.le_trans (List.length_filter_le _ _) (reachL_len g (t : Int))
          obtain ⟨G, hGG⟩ : ∃ G, G = groupL g (t : Int) := ⟨_, rfl⟩
          obtain ⟨P, hPP⟩ : ∃ P, P = backB g (t : Int) := ⟨_, rfl⟩
          have hPs : ∀ n, P n = hasI (reachL g n) t := fun n => by rw [hPP]; rfl
          rw [← hGG] at hself hgl
          rw [← hGG, ← hRR, ← hPP] at hG
          have hYes := grpTo_yes g t
          have hNo := grpTo_no g t
          rw [← hGG] at hYes hNo
          have HYES := Lib.hid hYes
          have HNO := Lib.hid hNo
          have HG := Lib.hid hG
          have HSELF := Lib.hid hself
          have HGL := Lib.hid hgl
          have HP := Lib.hid hPs
          have HRL := Lib.hid hrl
          clear ea hx1 hf hx dx hrn hG hself hgl hPs hGG hPP hYes hNo hrl hRR
          go_wp2
          go_loopw [7, 9, 32] (fun vg _ i w3 => ∃ s : Nat, s ≤ R.length ∧ i = .int .i64 s ∧ Fresh wo.heap.size w3 vg ((R.take s).filter P) ∧ Ext wo w3) (fun _ _ i _ => R.length - (intOf i).toNat)
          case atStart => exact ⟨0, Nat.zero_le _, rfl, World.ownsRow_nil _ _ _ _, Ext.refl _⟩
          case round =>
            obtain ⟨s, hs, rfl, hfg, hx3⟩ := hrel
            by_cases hls : s < R.length
            · obtain ⟨bx, ox, rfl, ex⟩ := DX.out (by omega)
              have gs := hx3.cell (HX.out.cell (ex s hls))
              obtain ⟨n, hn, hng⟩ := HRN.out s hls
              rw [List.getElem?_eq_getElem hls, Option.getD_some, hn] at gs
              obtain ⟨y, hy1, iy⟩ := EA.out n hng
              rw [allL_at g hng, Option.getD_some] at iy
              have gy := hx3.cell (HX.out.cell hy1)
              have IY := Lib.hid (iy.ext (HX.out.trans hx3))
              have hfs := filt_succ hls P
              rw [hn] at hfs
              have HFS := Lib.hid hfs
              have HFG := Lib.hid hfg
              have HX3 := Lib.hid hx3
              have hsb : ((R.take s).filter P).length ≤ 1099511627776 := by
                have h1 := List.length_filter_le P (R.take s)
                have h2 : (R.take s).length ≤ s := by simp; omega
                have := HB.out
                have := HRL.out
                omega
              have HSB := Lib.hid hsb
              clear ex hn hy1 iy hfs hfg hx3 hsb
              go_wp2_with fail
              refine (l1Has_any y (reachL g (n : Int)) (t : Int) _ IY.out).mono ?_
              rintro e w5 ⟨rfl, x5⟩
              rw [← HP.out]
              have HX5 := Lib.hid (HX3.out.trans x5)
              have HFG5 := Lib.hid (HFG.out.ext x5)
              clear x5 gs gy HX3 HFG
              cases hp : P (n : Int) with
              | true =>
                have hfs := HFS.out
                rw [hp, if_pos rfl] at hfs
                have HFS2 := Lib.hid hfs
                clear hfs HFS
                go_wp2_with (at_builtin; refine wpList_push rfl _ _ rfl wo.heap.size _ _ (n : Int) rfl (HFG5.out.ext (Ext.alloc (Ext.refl _) _)) ⟨w5.heap.size, 0, none⟩ 1 rfl (cell_alloc_one _ _ _) HSB.out (size_alloc_le HX5.out.size) ?_)
                intro v6 w6 f6 g6 k6
                have F6 := Lib.hid f6
                have E6 := Lib.hid (k6 wo (HX5.out.alloc _) (Nat.le_refl _))
                clear f6 g6 k6
                go_wp2
                go_roundw
                case rel => exact ⟨s + 1, by omega, by go_num, by rw [HFS2.out]; exact F6.out, E6.out⟩
                case measure => simp [intOf]; omega
              | false =>
                have hfs := HFS.out
                rw [hp, if_neg (by simp), List.append_nil] at hfs
                have HFS2 := Lib.hid hfs
                clear hfs HFS
                go_wp2
                go_roundw
                case rel => exact ⟨s + 1, by omega, by go_num, by rw [HFS2.out]; exact HFG5.out, HX5.out⟩
                case measure => simp [intOf]; omega
            · obtain rfl : s = R.length := by omega
              rw [List.take_length, ← HG.out] at hfg
              obtain ⟨ag, cg, rfl, hlg, _, dg⟩ := hfg.ints
              obtain ⟨h0, tl, hGc⟩ : ∃ h0 tl, G = h0 :: tl := by
                cases hGe : G with
                | nil => have := HSELF.out; rw [hGe] at this; simp at this
                | cons a b => exact ⟨a, b, rfl⟩
              have hGlen : 0 < G.length := by rw [hGc]; simp
              obtain ⟨bg, og, rfl, eg⟩ := dg hGlen
              have gg := eg 0 hGlen
              have hg0 : G[0]?.getD 0 = h0 := by rw [hGc]; rfl
              have hhd : G.head? = some h0 := by rw [hGc]; rfl
              rw [hg0, Nat.add_zero] at gg
              have HHD := Lib.hid hhd
              have HFG := Lib.hid hfg
              have HX3 := Lib.hid hx3
              clear hfg hx3 dg eg hg0 hhd hGc
              by_cases he : h0 = (t : Int)
              · have hyes := HYES.out (by rw [HHD.out, he])
                have HY := Lib.hid hyes
                have e1 : (h0 == (t : Int)) = true := by simp [he]
                have HE := Lib.hid he
                have hll : (grpTo g t).length ≤ 1048576 := by have := grpTo_len g t; have := HB.out; omega
                have HLL := Lib.hid hll
                have HXR := Lib.hid HX.out.size
                clear hyes he hll
                go_wp2_with (at_builtin; refine wpList_pushSS rfl _ _ rfl wa.heap.size _ (grpTo g t) G wo rfl HF.out (HX3.out.alloc _) _ (HFG.out.ext (Ext.alloc (Ext.refl _) _)) ⟨_, 0, none⟩ 1 rfl (cell_alloc_one _ _ _) rfl HLL.out HXR.out ?_)
                intro v7 w7 f7 k7
                have E7 := Lib.hid (k7 wa ((HX.out.trans HX3.out).alloc _) (Nat.le_refl _))
                rw [← HY.out] at f7
                have F7 := Lib.hid f7
                clear f7 k7
                go_wp2
                go_roundw
                case rel => exact ⟨t + 1, by omega, by go_num, F7.out, E7.out⟩
                case measure => simp [intOf]; omega
              · have hno := HNO.out (by rw [HHD.out]; intro e; exact he (by simpa using e))
                have HN := Lib.hid hno
                have e1 : (h0 == (t : Int)) = false := by simp [he]
                have HFO := Lib.hid (HF.out.ext HX3.out)
                have HE := Lib.hid he
                clear hno he
                go_wp2
                go_roundw
                case rel => exact ⟨t + 1, by omega, by go_num, by rw [HN.out]; exact HFO.out, HX.out.trans HX3.out⟩
                case measure => simp [intOf]; omega
        · obtain rfl : t = g.length := by omega
          rw [grpTo_all] at hf
          have HF := Lib.hid (hf.more HXA.out.size)
          have HX := Lib.hid (HXA.out.trans hx)
          clear hf hx
          go_wp2
          go_ret
          exact ⟨_, rfl, HF.out, HX.out⟩
end Go.Proofs.YtcpmfcigciknlaaGreat

namespace Go.Proofs.YtcpmfcigciknlaaGreat
open Go.RowKit
set_option linter.unusedVariables false
def FreshV (B : Nat) (w : World) (v : Value) (vs : List Value) : Prop := w.ownsRow B 26 1 v vs.length vs
theorem FreshV.ext {B : Nat} {w w' : World} {v : Value} {vs : List Value} (h : FreshV B w v vs) (e : Ext w w') : FreshV B w' v vs := e.ownsRow h
theorem FreshV.more {B B' : Nat} {w : World} {v : Value} {vs : List Value} (h : FreshV B w v vs) (hb : B' ≤ B) : FreshV B' w v vs := ownsRow_more h hb
theorem FreshV.nil (B : Nat) (w : World) : FreshV B w (.slice none 0 0) [] := World.ownsRow_nil _ _ _ _
theorem wpList_pushV {ops : Array Oper} {rest : List Oper} {o : Oper} {a : Act} {Q : Exit → Act → World → Prop} {w : World} (hgd : o.guard = none) (s x : Operand)
    (ho : o.op = .call { callee := .builtin .append, args := #[s, x], argTypes := #[63, 63] })
    (B : Nat) (v : Value) (vs : List Value) (hs : a.eval s = v) (hf : FreshV B w v vs) (u : Value) (ad : Addr) (c : Nat) (hx : a.eval x = .slice (some ad) 1 c)
    (hc : w.cell? ad = some u) (h1 : u.oneCell' = true) (hl : vs.length ≤ 1048576) (hB : B ≤ w.heap.size)
    (h : ∀ v' w', FreshV B w' v' (vs ++ [u]) → w.grownBy w' v.ownBlock → Kept B w w' → wpList Tryz.prog ops Q rest (a.put o.dst v') w') : wpList Tryz.prog ops Q (o :: rest) a w := by
  obtain ⟨i0, hi, hz0, hz1, hz2⟩ := info_parts Tryz.infoInts
  refine wpList_append_own _ hgd s x 63 ho B 26 i0 (.slice none 0 0) 1 24 Tryz.underlying63 hi hz0 hz1 hz2 rfl (by decide) v vs.length _ hs hf ad 1 c [u] hx rfl ?_ ?_ ?_ ?_ hB ?_
  · intro j z hj
    match j, hj with
    | 0, hj => simp at hj; subst hj; simpa [Addr.add] using hc
  · intro z hz; simp at hz; subst hz; exact h1
  · unfold maxLen; omega
  · omega
  · intro v' w' ho' hg _
    exact h v' w' (by unfold FreshV; simpa using ho') hg (fun q hq hqB => Below.grown hq hg hq.size (fun b hb => Nat.le_trans hqB (World.ownsRow.lt hf b hb).1))
theorem wpList_joinV {ops : Array Oper} {rest : List Oper} {o : Oper} {a : Act} {Q : Exit → Act → World → Prop} {w : World} (hgd : o.guard = none) (s x : Operand)
    (ho : o.op = .call { callee := .builtin .append, args := #[s, x], argTypes := #[63, 63] })
    (B : Nat) (v : Value) (vs us : List Value) (hs : a.eval s = v) (hf : FreshV B w v vs) (b off c : Nat) (hx : a.eval x = .slice (some ⟨b, off, none⟩) us.length c)
    (hc : ∀ j z, us[j]? = some z → w.cell? ⟨b, off + j, none⟩ = some z) (h1 : ∀ u ∈ us, u.oneCell' = true) (hl : vs.length + us.length ≤ 1048576) (hB : B ≤ w.heap.size)
    (h : ∀ v' w', FreshV B w' v' (vs ++ us) → w.grownBy w' v.ownBlock → Kept B w w' → wpList Tryz.prog ops Q rest (a.put o.dst v') w') : wpList Tryz.prog ops Q (o :: rest) a w := by
  obtain ⟨i0, hi, hz0, hz1, hz2⟩ := info_parts Tryz.infoInts
  refine wpList_append_own _ hgd s x 63 ho B 26 i0 (.slice none 0 0) 1 24 Tryz.underlying63 hi hz0 hz1 hz2 rfl (by decide) v vs.length _ hs hf ⟨b, off, none⟩ us.length c us hx (by simp) ?_ ?_ ?_ ?_ hB ?_
  · intro j z hj
    rw [show (⟨b, off, none⟩ : Addr).add j = ⟨b, off + j, none⟩ by simp [Addr.add]]
    exact hc j z hj
  · intro z hz; exact h1 z hz
  · unfold maxLen; omega
  · omega
  · intro v' w' ho' hg _
    exact h v' w' (by unfold FreshV; rw [List.length_append]; exact ho') hg (fun q hq hqB => Below.grown hq hg hq.size (fun b hb => Nat.le_trans hqB (World.ownsRow.lt hf b hb).1))
theorem FreshSS.vals {B : Nat} {w : World} {v : Value} {L : List (List Int)} (h : FreshSS B w v L) : ∃ vs, FreshV B w v vs ∧ Rows_ B w vs L := by
  obtain ⟨vs, h1, h2, _⟩ := h
  exact ⟨vs, by unfold FreshV; rw [h2.len]; exact h1, h2⟩
theorem FreshV.ss {B : Nat} {w : World} {v : Value} {vs : List Value} {L : List (List Int)} (h : FreshV B w v vs) (r : Rows_ B w vs L) : FreshSS B w v L :=
  FreshSS.of (by rw [← r.len]; exact h) r
theorem Rows_.pick {B : Nat} {w : World} {vs : List Value} {L : List (List Int)} (h : Rows_ B w vs L) (is : List Nat) (hn : is.Nodup) (hb : ∀ i ∈ is, i < vs.length) :
    Rows_ B w (is.map fun i => vs[i]?.getD (.slice none 0 0)) (is.map fun i => L[i]?.getD []) := by
  refine ⟨by simp, fun j u l hu hl => ?_, fun i j u z hij hu hz => ?_⟩
  · rw [List.getElem?_map] at hu hl
    cases hj : is[j]? with
    | none => rw [hj] at hu; simp at hu
    | some i =>
      have hi := hb i (List.mem_of_getElem? hj)
      rw [hj] at hu hl
      simp only [Option.map_some, Option.some.injEq] at hu hl
      rw [List.getElem?_eq_getElem hi, Option.getD_some] at hu
      rw [List.getElem?_eq_getElem (by rw [← h.len]; exact hi), Option.getD_some] at hl
      exact h.row i u l (by rw [List.getElem?_eq_getElem hi, hu]) (by rw [List.getElem?_eq_getElem (by rw [← h.len]; exact hi), hl])
  · rw [List.getElem?_map] at hu hz
    cases hi : is[i]? with
    | none => rw [hi] at hu; simp at hu
    | some a =>
      cases hj : is[j]? with
      | none => rw [hj] at hz; simp at hz
      | some b =>
        have ha := hb a (List.mem_of_getElem? hi)
        have hb' := hb b (List.mem_of_getElem? hj)
        rw [hi] at hu
        rw [hj] at hz
        simp only [Option.map_some, Option.some.injEq] at hu hz
        rw [List.getElem?_eq_getElem ha, Option.getD_some] at hu
        rw [List.getElem?_eq_getElem hb', Option.getD_some] at hz
        have hab : a ≠ b := by
          intro e
          subst e
          have h1 := (List.getElem?_eq_some_iff.1 hi)
          have h2 := (List.getElem?_eq_some_iff.1 hj)
          obtain ⟨l1, e1⟩ := h1
          obtain ⟨l2, e2⟩ := h2
          exact hij ((List.getElem_inj hn).1 (by rw [e1, e2]))
        exact h.apart a b u z hab (by rw [List.getElem?_eq_getElem ha, hu]) (by rw [List.getElem?_eq_getElem hb', hz])
end Go.Proofs.YtcpmfcigciknlaaGreat

namespace Go.Proofs.YtcpmfcigciknlaaGreat
open Go.RowKit
set_option linter.unusedVariables false
theorem nodup_len : ∀ (N : Nat) (l : List Nat), l.Nodup → (∀ i ∈ l, i < N) → l.length ≤ N
  | 0, l, _, h => by
    cases l with
    | nil => simp
    | cons a t => exact absurd (h a (by simp)) (by omega)
  | N + 1, l, hn, h => by
    have ih := nodup_len N (l.erase N) (hn.erase N) (fun i hi => by
      have h1 := (hn.mem_erase_iff).1 hi
      have := h i h1.2
      have := h1.1
      omega)
    rw [List.length_erase] at ih
    split at ih <;> omega
def lenV : Value → Nat
  | .slice _ n _ => n
  | _ => 0
def pickV (VS : List Value) (is : List Nat) : List Value := is.map fun i => VS[i]?.getD (.slice none 0 0)
theorem pickV_len (VS : List Value) (is : List Nat) : (pickV VS is).length = is.length := by simp [pickV]
theorem pickL_len (L : List (List Int)) (is : List Nat) : (pickL L is).length = is.length := by simp [pickL]
theorem pickV_at {VS : List Value} {is : List Nat} {k i : Nat} (h : is[k]? = some i) : (pickV VS is)[k]? = some (VS[i]?.getD (.slice none 0 0)) := by
  unfold pickV
  rw [List.getElem?_map, h]; rfl
theorem pickV_erase (VS : List Value) (is : List Nat) (k : Nat) : pickV VS (is.eraseIdx k) = (pickV VS is).take k ++ (pickV VS is).drop (k + 1) := by
  unfold pickV
  rw [erase_map, List.eraseIdx_eq_take_drop_succ]
theorem pickV_snoc (VS : List Value) (is : List Nat) (i : Nat) : pickV VS (is ++ [i]) = pickV VS is ++ [VS[i]?.getD (.slice none 0 0)] := by simp [pickV]
theorem FreshV.zero {B : Nat} {w : World} {v : Value} {vs : List Value} (h : FreshV B w v vs) : FreshV 0 w v vs := h.more (Nat.zero_le _)
theorem FreshV.at {B : Nat} {w : World} {g n cap : Nat} {vs : List Value} (h : FreshV B w (.slice (some ⟨g, 0, none⟩) n cap) vs) (hn : vs.length = n) {j : Nat} {z : Value} (hj : vs[j]? = some z) : w.cell? ⟨g, j, none⟩ = some z := by
  subst hn
  have hlt := (List.getElem?_eq_some_iff.1 hj).1
  have := World.ownsRow.cellAt h j (by omega)
  rw [this, hj]
theorem FreshV.form {B : Nat} {w : World} {v : Value} {vs : List Value} (h : FreshV B w v vs) {n : Nat} (hn : vs.length = n) (h0 : 0 < n) : ∃ g cap, v = .slice (some ⟨g, 0, none⟩) n cap ∧ n ≤ cap ∧ cap ≤ maxLen := by
  subst hn
  rcases h.2 with ⟨_, h1⟩ | ⟨g, cap, cur, hv, hb, hg, hnc, hcm, _⟩
  · omega
  · exact ⟨g, cap, hv, by omega, hcm⟩
theorem FreshV.len {B : Nat} {w : World} {v : Value} {vs : List Value} (h : FreshV B w v vs) : ∃ ao cap, v = .slice ao vs.length cap := by
  rcases h.2 with ⟨hv, h1⟩ | ⟨g, cap, cur, hv, _⟩
  · exact ⟨none, 0, by rw [hv, h1]⟩
  · exact ⟨_, cap, hv⟩
theorem wpList_joinVn {ops : Array Oper} {rest : List Oper} {o : Oper} {a : Act} {Q : Exit → Act → World → Prop} {w : World} (hgd : o.guard = none) (s x : Operand)
    (ho : o.op = .call { callee := .builtin .append, args := #[s, x], argTypes := #[63, 63] })
    (B : Nat) (v : Value) (vs us : List Value) (hs : a.eval s = v) (hf : FreshV B w v vs) (b off n c : Nat) (hn : us.length = n) (hx : a.eval x = .slice (some ⟨b, off, none⟩) n c)
    (hc : ∀ j z, us[j]? = some z → w.cell? ⟨b, off + j, none⟩ = some z) (h1 : ∀ u ∈ us, u.oneCell' = true) (hl : vs.length + us.length ≤ 1048576) (hB : B ≤ w.heap.size)
    (h : ∀ v' w', FreshV B w' v' (vs ++ us) → w.grownBy w' v.ownBlock → Kept B w w' → wpList Tryz.prog ops Q rest (a.put o.dst v') w') : wpList Tryz.prog ops Q (o :: rest) a w := by
  subst hn
  exact wpList_joinV hgd s x ho B v vs us hs hf b off c hx hc h1 hl hB h
theorem freshV_lit (w : World) (B : Nat) (hB : B ≤ w.heap.size) : FreshV B (w.alloc (.cells #[] 26)) (.slice (some ⟨w.heap.size, 0, none⟩) 0 0) [] := by
  have h := World.ownsRow_lit (e := 26) (size := 1) w #[] 0 hB (by unfold maxLen; omega) (by simp)
  exact h
theorem Rows_.ints {B : Nat} {w : World} {VS : List Value} {L : List (List Int)} (h : Rows_ B w VS L) {i : Nat} (hi : i < L.length) : Ints w (VS[i]?.getD (.slice none 0 0)) (L[i]?.getD []) := by
  have h1 : VS[i]? = some (VS[i]'(by rw [h.len]; exact hi)) := List.getElem?_eq_getElem _
  have h2 : L[i]? = some L[i] := List.getElem?_eq_getElem hi
  rw [h1, h2]
  exact (h.row i _ _ h1 h2).ints
theorem Rows_.one {B : Nat} {w : World} {VS : List Value} {L : List (List Int)} (h : Rows_ B w VS L) (i : Nat) : (VS[i]?.getD (.slice none 0 0)).oneCell' = true := by
  cases hj : VS[i]? with
  | none => rfl
  | some u =>
    have hlt := (List.getElem?_eq_some_iff.1 hj).1
    have := h.ints (i := i) (by rw [← h.len]; exact hlt)
    rw [hj] at this
    obtain ⟨_, _, hv, _⟩ := this
    rw [Option.getD_some] at hv ⊢
    rw [hv]; rfl
theorem Left.in {g LL : List (List Int)} (hg : rowsB g = true) (h : Left g LL) {k : Nat} {G : List Int} (hk : LL[k]? = some G) : ∀ p ∈ G, 0 ≤ p ∧ p < (g.length : Int) := by
  intro p hp
  obtain ⟨q, hq, rfl⟩ := h.1 G (List.mem_of_getElem? hk)
  exact groupL_in hg hq hp
def fromP (g LL : List (List Int)) (k : Nat) (p : Int) : Bool := (List.range LL.length).all fun i => freeN g LL k p i
theorem freeB_all (g LL : List (List Int)) (k : Nat) (G : List Int) (h : LL[k]? = some G) : freeB g LL k = G.all (fromP g LL k) := by
  rw [freeB_eq, h, Option.getD_some]; rfl
def upTo (g LL : List (List Int)) (k : Nat) (p : Int) (t : Nat) : Bool := (List.range t).all fun i => freeN g LL k p i
theorem upTo_succ (g LL : List (List Int)) (k : Nat) (p : Int) (t : Nat) : upTo g LL k p (t + 1) = (upTo g LL k p t && freeN g LL k p t) := by
  unfold upTo
  rw [List.range_succ, List.all_append]
  simp
def inTo (g : List (List Int)) (k t : Nat) (p : Int) (O : List Int) (s : Nat) : Bool := (O.take s).all fun n => decide (t = k) || !hasI (rowG g p) n
theorem inTo_succ (g : List (List Int)) (k t : Nat) (p : Int) (O : List Int) {s : Nat} (h : s < O.length) : inTo g k t p O (s + 1) = (inTo g k t p O s && (decide (t = k) || !hasI (rowG g p) O[s])) := by
  unfold inTo
  rw [List.take_add_one, List.getElem?_eq_getElem h, List.all_append]
  simp
theorem inTo_all (g LL : List (List Int)) (k t : Nat) (p : Int) (O : List Int) (h : LL[t]? = some O) : inTo g k t p O O.length = freeN g LL k p t := by
  unfold inTo freeN
  rw [List.take_length, h, Option.getD_some]
theorem takeAll_succ {l : List Int} {k : Nat} (h : k < l.length) (p : Int → Bool) : (l.take (k + 1)).all p = ((l.take k).all p && p l[k]) := by
  rw [List.take_add_one, List.getElem?_eq_getElem h, List.all_append]
  simp
set_option maxRecDepth 100000 in
set_option maxHeartbeats 8000000 in
theorem l5Components_any (v : Value) (g : List (List Int)) (w : World) (hv : Intss w v g) (hg : goodG g = true) :
    Calls Tryz.prog 139 #[v] w (NewSS (compsL g) w) := by
  have HV := Lib.hid hv
  obtain ⟨av, cv, rfl, hlv, _, dv⟩ := hv
  unfold maxLen at hlv
  obtain ⟨ha, hb⟩ := goodG_of hg
  have HG := Lib.hid hg
  have HA := Lib.hid ha
  have HB := Lib.hid hb
  have DV := Lib.hid dv
  clear hg ha hb dv
  go_enter Tryz.func139, Tryz.ntmps139
  go_wp2_with fail
  refine (l5Groups_any _ g _ HV.out HG.out).mono ?_
  rintro e wb ⟨v1, rfl, f1, x1⟩
  obtain ⟨VS, fv, hR⟩ := f1.vals
  obtain ⟨a1, c1, rfl⟩ := fv.len
  have hVL : VS.length = (groupsL g).length := hR.len
  have HXB := Lib.hid x1
  have HR := Lib.hid hR
  have HVL := Lib.hid hVL
  have HCS := Lib.hid (CompS.start HA.out)
  have hF0 : FreshV 0 wb (.slice a1 VS.length c1) (pickV VS (List.range (groupsL g).length)) := by
    have : pickV VS (List.range (groupsL g).length) = VS := by
      rw [← hVL]
      unfold pickV
      apply List.ext_getElem (by simp)
      intro i h1 h2
      simp [h2]
    rw [this]; exact fv.zero
  have HF0 := Lib.hid hF0
  have HL0 : Hid (VS.length = (List.range (groupsL g).length).length) := Lib.hid (by rw [List.length_range]; exact hVL)
  clear f1 fv hR hVL hF0 x1
  go_wp2
  go_loopw [3, 4, 5, 6, 7, 9, 10, 11, 13, 14] (fun vl vo _ _ _ _ _ _ _ _ wr => ∃ (isO isL : List Nat) (ao : Option Addr) (n c : Nat), vl = .slice ao n c ∧ Hid (isL.length = n) ∧ Hid (CompS g isO isL) ∧ Hid (FreshV 0 wr vl (pickV VS isL)) ∧ Hid (FreshV wb.heap.size wr vo (pickV VS isO)) ∧ Hid (Ext wb wr) ∧ Hid (∀ b, vl.ownBlock = some b → vo.ownBlock ≠ some b)) (fun vl _ _ _ _ _ _ _ _ _ _ => lenV vl)
  case atStart => exact ⟨[], _, a1, VS.length, c1, rfl, Lib.hid HL0.out.symm, HCS, HF0, Lib.hid (FreshV.nil _ _), Lib.hid (Ext.refl _), Lib.hid (fun b _ => by simp [Value.ownBlock])⟩
  case round =>
    obtain ⟨isO, isL, ao, n, c, rfl, hn, hC, hFl, hFo, hX, hAp⟩ := hrel
    obtain ⟨wa, hwa⟩ : ∃ x : World, x = wr := ⟨_, rfl⟩
    subst hwa
    obtain ⟨vo, hvo⟩ : ∃ x : Value, x = u4 := ⟨_, rfl⟩
    subst hvo
    by_cases h0 : n = 0
    · subst h0
      obtain rfl : isL = [] := List.eq_nil_of_length_eq_zero hn.out
      go_wp2
      go_ret
      have hd := hC.out.done
      have hp := (HR.out.ext hX.out).pick isO (by have := hC.out.nodup; simpa using this) (fun i hi => by rw [HVL.out]; exact hC.out.bound i (by simpa using hi))
      rw [← hd]
      exact ⟨_, rfl, FreshV.ss (hFo.out.more HXB.out.size) hp, HXB.out.trans hX.out⟩
    · obtain ⟨gl, cl, hvl, hcl1, hcl2⟩ := hFl.out.form (n := n) (by rw [pickV_len]; exact hn.out) (by omega)
      simp only [Value.slice.injEq, true_and] at hvl
      obtain ⟨rfl, rfl⟩ := hvl
      unfold maxLen at hcl2
      have hnn : n ≤ 40 := by
        have h1 := hC.out.nodup
        have h2 := hC.out.bound
        have h3 : isL.length ≤ (groupsL g).length := by
          have h4 := (List.nodup_append.1 h1).2.1
          exact nodup_len _ _ h4 (fun i hi => h2 i (List.mem_append_right _ hi))
        have h6 : (groupsL g).length ≤ g.length := by rw [← grpTo_all]; exact grpTo_len g _
        have := hn.out
        have := HB.out
        omega
      obtain ⟨LL, hLL⟩ : ∃ LL, LL = pickL (groupsL g) isL := ⟨_, rfl⟩
      have hLn : LL.length = n := by rw [hLL, pickL_len]; exact hn.out
      have hlef : Left g LL := by rw [hLL]; exact hC.out.left
      have HLL := Lib.hid hLL
      have HLN := Lib.hid hLn
      have HLE := Lib.hid hlef
      have hpos : 0 < n := by omega
      clear hLL hLn hlef
      go_wp2
      go_loopw [3, 4, 5, 6, 7, 9, 10, 11, 13, 14, 22] (fun vl vo2 _ _ _ _ _ _ _ _ i wr => ∃ k : Nat, k ≤ n ∧ i = .int .i64 k ∧ vl = .slice (some ⟨gl, 0, none⟩) n c ∧ vo2 = vo ∧ Hid (∀ j, j < k → freeB g LL j = false) ∧ Hid (Ext wa wr)) (fun _ _ _ _ _ _ _ _ _ _ i _ => n - (intOf i).toNat)
      case atStart => exact ⟨0, Nat.zero_le _, rfl, rfl, rfl, Lib.hid (fun j hj => by omega), Lib.hid (Ext.refl _)⟩
      case round =>
        obtain ⟨k, hk, rfl, rfl, rfl, hno, hX2⟩ := hrel
        obtain ⟨w2, hw2⟩ : ∃ x : World, x = wr := ⟨_, rfl⟩
        subst hw2
        by_cases hlt : k < n
        · obtain ⟨i, hi⟩ : ∃ i, isL[k]? = some i := ⟨_, List.getElem?_eq_getElem (by rw [hn.out]; exact hlt)⟩
          have hib : i < (groupsL g).length := hC.out.bound i (List.mem_append_right _ (List.mem_of_getElem? hi))
          obtain ⟨u, hu⟩ : ∃ u, u = VS[i]?.getD (.slice none 0 0) := ⟨_, rfl⟩
          obtain ⟨G, hG⟩ : ∃ G, G = (groupsL g)[i]?.getD [] := ⟨_, rfl⟩
          have hGk : LL[k]? = some G := by rw [HLL.out, hG]; exact pickL_at hi
          have zu : w2.cell? ⟨gl, k, none⟩ = some u := hX2.out.cell (by rw [hu]; exact hFl.out.at (by rw [pickV_len]; exact hn.out) (pickV_at hi))
          have iu : Ints wb u G := by rw [hu, hG]; exact HR.out.ints hib
          have hGin := HLE.out.in HA.out hGk
          have hfr := freeB_all g LL k G hGk
          have HU := Lib.hid hu
          have HGK := Lib.hid hGk
          have HGI := Lib.hid hGin
          have HFR := Lib.hid hfr
          have HI := Lib.hid hi
          obtain ⟨au, cu, rfl, hlu, _, du⟩ := iu
          have DU := Lib.hid du
          unfold maxLen at hlu
          clear hu hG hGk hGin hfr hi hib du
          go_wp2
          go_loopw [7, 9, 10, 11, 13, 29] (fun b _ _ _ _ i wr => ∃ s : Nat, s ≤ G.length ∧ i = .int .i64 s ∧ b = .bool ((G.take s).all (fromP g LL k)) ∧ Ext w2 wr) (fun _ _ _ _ _ i _ => G.length - (intOf i).toNat)
          case atStart => exact ⟨0, Nat.zero_le _, rfl, by simp, Ext.refl _⟩
          case round =>
            obtain ⟨s, hs, rfl, hb, hx3⟩ := hrel
            obtain ⟨w3, hw3⟩ : ∃ x : World, x = wr := ⟨_, rfl⟩
            subst hw3
            by_cases hls : s < G.length
            · have HX3 := Lib.hid (hX2.out.trans hx3)
              obtain ⟨bu, ou, rfl, eu⟩ := DU.out (by omega)
              have zp := (hX.out.trans HX3.out).cell (eu s hls)
              rw [List.getElem?_eq_getElem hls, Option.getD_some] at zp
              have hpb := HGI.out _ (List.getElem_mem hls)
              obtain ⟨p, hp⟩ : ∃ p : Nat, G[s] = (p : Int) := ⟨G[s].toNat, by omega⟩
              have hpg : p < g.length := by omega
              have hsc := takeAll_succ hls (fromP g LL k)
              rw [hp] at zp hsc
              obtain ⟨A, hA⟩ : ∃ A, A = (G.take s).all (fromP g LL k) := ⟨_, rfl⟩
              rw [← hA] at hb hsc
              subst hb
              have HSC := Lib.hid hsc
              have HX3' := Lib.hid hx3
              clear hA hpb hp hsc hx3 eu
              go_wp2
              go_loopw [7, 10, 11, 13, 35] (fun b _ _ _ i wr => ∃ t : Nat, t ≤ n ∧ i = .int .i64 t ∧ b = .bool (A && upTo g LL k p t) ∧ Ext w3 wr) (fun _ _ _ _ i _ => n - (intOf i).toNat)
              case atStart => exact ⟨0, Nat.zero_le _, rfl, by simp [upTo], Ext.refl _⟩
              case round =>
                obtain ⟨t, ht, rfl, hb, hx4⟩ := hrel
                obtain ⟨w4, hw4⟩ : ∃ x : World, x = wr := ⟨_, rfl⟩
                subst hw4
                by_cases hlt4 : t < n
                · have HX4 := Lib.hid (HX3.out.trans hx4)
                  obtain ⟨i', hi'⟩ : ∃ i, isL[t]? = some i := ⟨_, List.getElem?_eq_getElem (by rw [hn.out]; exact hlt4)⟩
                  have hib' : i' < (groupsL g).length := hC.out.bound i' (List.mem_append_right _ (List.mem_of_getElem? hi'))
                  obtain ⟨u', hu'⟩ : ∃ u, u = VS[i']?.getD (.slice none 0 0) := ⟨_, rfl⟩
                  obtain ⟨O, hO⟩ : ∃ O, O = (groupsL g)[i']?.getD [] := ⟨_, rfl⟩
                  have hOt : LL[t]? = some O := by rw [HLL.out, hO]; exact pickL_at hi'
                  have zo : w4.cell? ⟨gl, t, none⟩ = some u' := HX4.out.cell (by rw [hu']; exact hFl.out.at (by rw [pickV_len]; exact hn.out) (pickV_at hi'))
                  have io : Ints wb u' O := by rw [hu', hO]; exact HR.out.ints hib'
                  have hfa := inTo_all g LL k t (p : Int) O hOt
                  have hus := upTo_succ g LL k (p : Int) t
                  obtain ⟨ao, co, rfl, hlo, _, dO⟩ := io
                  unfold maxLen at hlo
                  obtain ⟨A2, hA2⟩ : ∃ A2, A2 = (A && upTo g LL k p t) := ⟨_, rfl⟩
                  have hus2 : (A && upTo g LL k (p : Int) (t + 1)) = (A2 && freeN g LL k (p : Int) t) := by rw [hus, hA2, Bool.and_assoc]
                  rw [← hA2] at hb
                  subst hb
                  have DO := Lib.hid dO
                  have HFA := Lib.hid hfa
                  have HUS := Lib.hid hus2
                  have HX4' := Lib.hid hx4
                  clear hA2 hu' hO hOt hfa hus hus2 dO hi' hib' hx4
                  go_wp2
                  go_loopw [7, 13, 42] (fun b _ i wr => ∃ s : Nat, s ≤ O.length ∧ i = .int .i64 s ∧ b = .bool (A2 && inTo g k t p O s) ∧ Ext w4 wr) (fun _ _ i _ => O.length - (intOf i).toNat)
                  case atStart => exact ⟨0, Nat.zero_le _, rfl, by simp [inTo], Ext.refl _⟩
                  case round =>
                    obtain ⟨s5, hs5, rfl, hb, hx5⟩ := hrel
                    by_cases hls5 : s5 < O.length
                    · have HX5 := Lib.hid (HX4.out.trans hx5)
                      obtain ⟨bo, oo, rfl, eo⟩ := DO.out (by omega)
                      have zn := (hX.out.trans HX5.out).cell (eo s5 hls5)
                      rw [List.getElem?_eq_getElem hls5, Option.getD_some] at zn
                      have hin := inTo_succ g k t (p : Int) O hls5
                      obtain ⟨m, hm⟩ : ∃ m, m = O[s5] := ⟨_, rfl⟩
                      rw [← hm] at zn hin
                      obtain ⟨A3, hA3⟩ : ∃ A3, A3 = (A2 && inTo g k t p O s5) := ⟨_, rfl⟩
                      have hin2 : (A2 && inTo g k t p O (s5 + 1)) = (A3 && (decide (t = k) || !hasI (rowG g p) m)) := by rw [hin, hA3, Bool.and_assoc]
                      rw [← hA3] at hb
                      subst hb
                      have HIN := Lib.hid hin2
                      have HX5' := Lib.hid hx5
                      clear hA3 hm hin hin2 hx5 eo
                      obtain ⟨bg, og, rfl, eg⟩ := DV.out (by omega)
                      obtain ⟨ur, hur, ir⟩ := eg p hpg
                      rw [List.getElem?_eq_getElem hpg, Option.getD_some, ← rowG_at hpg] at ir
                      have zr := ((HXB.out.trans hX.out).trans HX5.out).cell hur
                      have IR := Lib.hid (ir.ext ((HXB.out.trans hX.out).trans HX5.out))
                      clear eg hur ir
                      cases A3 with
                      | false =>
                        go_wp2
                        go_roundw
                        case rel => exact ⟨s5 + 1, by omega, by go_num, by rw [HIN.out]; simp, HX5'.out⟩
                        case measure => simp [intOf]; omega
                      | true =>
                        by_cases etk : t = k
                        · subst etk
                          go_wp2
                          go_roundw
                          case rel => exact ⟨s5 + 1, by omega, by go_num, by rw [HIN.out]; simp, HX5'.out⟩
                          case measure => simp [intOf]; omega
                        · have e1 : ((t : Int) == (k : Int)) = false := by simp; omega
                          have e2 : decide (t = k) = false := by simp [etk]
                          rw [e2, Bool.false_or, Bool.true_and] at HIN
                          clear e2
                          go_wp2_with fail
                          refine (l1Has_any _ (rowG g p) m _ IR.out).mono ?_
                          rintro e w6 ⟨rfl, x6⟩
                          have hx6 := HX5'.out.trans x6
                          obtain ⟨hb, hhb⟩ : ∃ hb, hb = hasI (rowG g p) m := ⟨_, rfl⟩
                          rw [← hhb] at HIN ⊢
                          clear x6 hhb zn zr
                          go_wp2
                          go_roundw
                          case rel => exact ⟨s5 + 1, by omega, by go_num, by rw [HIN.out], hx6⟩
                          case measure => simp [intOf]; omega
                    · obtain rfl : s5 = O.length := by omega
                      rw [HFA.out, ← HUS.out] at hb
                      subst hb
                      have hx5 := hx5
                      go_wp2
                      go_roundw
                      case rel => exact ⟨t + 1, by omega, by go_num, rfl, HX4'.out.trans hx5⟩
                      case measure => simp [intOf]; omega
                · obtain rfl : t = n := by omega
                  have e4 : upTo g LL k p t = fromP g LL k p := by unfold upTo fromP; rw [HLN.out]
                  rw [e4, ← HSC.out] at hb
                  subst hb
                  clear e4
                  go_wp2
                  go_roundw
                  case rel => exact ⟨s + 1, by omega, by go_num, rfl, HX3'.out.trans hx4⟩
                  case measure => simp [intOf]; omega
            · obtain rfl : s = G.length := by omega
              rw [List.take_length, ← HFR.out] at hb
              have HX3 := Lib.hid (hX2.out.trans hx3)
              cases hf : freeB g LL k with
              | false =>
                rw [hf] at hb
                subst hb
                have HF := Lib.hid hf
                clear hf hx3
                go_wp2
                go_roundw
                case rel => exact ⟨k + 1, by omega, by go_num, rfl, rfl, Lib.hid (fun j hj => by
                    by_cases e : j = k
                    · rw [e]; exact HF.out
                    · exact hno.out j (by omega)), HX3⟩
                case measure => simp [intOf]; omega
              | true =>
                rw [hf] at hb
                subst hb
                have HPK : Hid (pickC g LL = some k) := Lib.hid (pickC_at (by rw [HLN.out]; exact hlt) hf hno.out)
                have HN2 : Hid (CompS g (isO ++ [i]) (isL.eraseIdx k)) := Lib.hid (hC.out.next HI.out (by rw [← HLL.out]; exact HPK.out))
                have hFo2 := hFo.out.ext HX3.out
                have hon : (pickV VS isO).length ≤ 1048576 := by
                  rw [pickV_len]
                  have h1 := nodup_len _ _ (List.nodup_append.1 hC.out.nodup).1 (fun i hi => hC.out.bound i (List.mem_append_left _ hi))
                  have h6 : (groupsL g).length ≤ g.length := by rw [← grpTo_all]; exact grpTo_len g _
                  have := HB.out
                  omega
                have HO2 := Lib.hid hFo2
                have HON := Lib.hid hon
                have HBW : Hid (wb.heap.size ≤ (w3.alloc (.cells #[Value.slice au G.length cu] 26)).heap.size) := Lib.hid (size_alloc_le (hX.out.trans HX3.out).size)
                clear hf hFo2 hon hx3
                go_wp2_with (at_builtin; refine wpList_pushV rfl _ _ rfl wb.heap.size _ (pickV VS isO) rfl (HO2.out.ext (Ext.alloc (Ext.refl _) _)) (.slice au G.length cu) ⟨w3.heap.size, 0, none⟩ 1 rfl (cell_alloc_one _ _ _) rfl HON.out HBW.out ?_)
                intro v4 w4 f4 g4 k4
                have x4 : Ext wb w4 := k4 wb ((hX.out.trans HX3.out).alloc _) (Nat.le_refl _)
                have fl4 : FreshV 0 w4 (.slice (some ⟨gl, 0, none⟩) n c) (pickV VS isL) := World.ownsRow.kept ((hFl.out.ext HX3.out).ext (Ext.alloc (Ext.refl _) _)) g4 (.inr fun e => hAp.out gl rfl e.symm)
                have f4' : FreshV wb.heap.size w4 v4 (pickV VS (isO ++ [i])) := by
                  rw [pickV_snoc, ← HU.out]; exact f4
                have hlv4 : (pickV VS isL).length = n := by rw [pickV_len]; exact hn.out
                have h1v : ∀ (is : List Nat), ∀ z ∈ pickV VS is, z.oneCell' = true := fun is z hz => by
                  unfold pickV at hz
                  obtain ⟨q, _, rfl⟩ := List.mem_map.1 hz
                  exact HR.out.one q
                have ha4 : ∀ b, v4.ownBlock = some b → b < w4.heap.size := fun b hb => (World.ownsRow.lt f4 b hb).2
                have X4 := Lib.hid x4
                have FL4 := Lib.hid fl4
                have F4 := Lib.hid f4'
                have HLV := Lib.hid hlv4
                have H1V := Lib.hid h1v
                have HA4 := Lib.hid ha4
                have j1 : (0 : Int) ≤ (k : Int) ∧ (k : Int) ≤ (c : Int) := by omega
                have HTL : Hid (((pickV VS isL).take k).length = k) := Lib.hid (by rw [List.length_take, hlv4]; omega)
                have HDL : Hid (((pickV VS isL).drop (k + 1)).length = n - (k + 1)) := Lib.hid (by rw [List.length_drop, hlv4])
                have hc1 : ∀ j z, ((pickV VS isL).take k)[j]? = some z → (w4.alloc (.cells #[] 26)).cell? ⟨gl, 0 + j, none⟩ = some z := fun j z hz => by
                  have hj := (List.getElem?_eq_some_iff.1 hz).1
                  rw [List.getElem?_take_of_lt (by rw [HTL.out] at hj; exact hj)] at hz
                  rw [Nat.zero_add]
                  exact (Ext.alloc (Ext.refl _) _).cell (FL4.out.at hlv4 hz)
                have HC1 := Lib.hid hc1
                have HB1 : Hid (([] : List Value).length + ((pickV VS isL).take k).length ≤ 1048576) := Lib.hid (by rw [HTL.out]; simp; omega)
                clear f4 g4 k4 x4 fl4 f4' hlv4 h1v ha4 hc1 HO2 HON HBW
                go_wp2_with (at_builtin; refine wpList_joinVn rfl _ _ rfl w4.heap.size _ [] ((pickV VS isL).take k) rfl (freshV_lit w4 _ (Nat.le_refl _)) gl 0 k c HTL.out rfl HC1.out (fun z hz => H1V.out isL z (List.mem_of_mem_take hz)) HB1.out (size_alloc_le (Nat.le_refl _)) ?_)
                intro v5 w5 f5 g5 k5
                have x5 : Ext w4 w5 := k5 w4 (Ext.alloc (Ext.refl _) _) (Nat.le_refl _)
                have X5 := Lib.hid (X4.out.trans x5)
                have X45 := Lib.hid x5
                have F5 := Lib.hid f5
                have hpe := pickV_erase VS isL k
                have HPE := Lib.hid hpe
                have HB2 : Hid (((pickV VS isL).take k).length + ((pickV VS isL).drop (k + 1)).length ≤ 1048576) := Lib.hid (by rw [HTL.out, HDL.out]; omega)
                have HB5 : Hid (w4.heap.size ≤ w5.heap.size) := Lib.hid x5.size
                have HEL : Hid ((isL.eraseIdx k).length = n - 1) := Lib.hid (by rw [List.length_eraseIdx, hn.out]; simp [hlt])
                clear f5 g5 k5 x5 hpe
                by_cases hkc : k + 1 = c
                · subst hkc
                  have hnk : n = k + 1 := by omega
                  have HD0 : Hid ((pickV VS isL).drop (k + 1) = []) := Lib.hid (List.eq_nil_of_length_eq_zero (by rw [HDL.out]; omega))
                  have HNK := Lib.hid hnk
                  clear hnk
                  go_wp2_with (at_builtin; refine wpList_joinVn rfl _ _ rfl w4.heap.size _ ((pickV VS isL).take k) ((pickV VS isL).drop (k + 1)) rfl F5.out gl 0 0 0 (by rw [HD0.out]; rfl) rfl (fun j z hz => by rw [HD0.out] at hz; simp at hz) (fun z hz => by rw [HD0.out] at hz; simp at hz) HB2.out HB5.out ?_)
                  intro v6 w6 f6 g6 k6
                  have x6 : Ext w4 w6 := k6 w4 X45.out (Nat.le_refl _)
                  rw [← HPE.out] at f6
                  have f60 : FreshV 0 w6 v6 (pickV VS (isL.eraseIdx k)) := f6.zero
                  have ap6 : ∀ b, v6.ownBlock = some b → v4.ownBlock ≠ some b := fun b hb e => by
                    have h1 := (World.ownsRow.lt f6 b hb).1
                    have h2 := HA4.out b e
                    omega
                  obtain ⟨a6, c6, rfl⟩ := f6.len
                  have hl6 : (pickV VS (isL.eraseIdx k)).length = n - 1 := by rw [pickV_len]; exact HEL.out
                  rw [hl6] at f60 ap6 ⊢
                  have F60 := Lib.hid f60
                  have AP6 := Lib.hid ap6
                  have HX6 := Lib.hid (X4.out.trans x6)
                  have F46 := Lib.hid (F4.out.ext x6)
                  clear f6 g6 k6 x6 f60 ap6 hl6
                  go_wp2
                  go_roundw
                  case rel => exact ⟨isO ++ [i], isL.eraseIdx k, a6, n - 1, c6, rfl, HEL, HN2, F60, F46, HX6, AP6⟩
                  case measure => simp [lenV]; omega
                · have j2 : (0 : Int) ≤ (k : Int) + 1 ∧ (k : Int) + 1 ≤ (n : Int) := by omega
                  have hlv4 := HLV.out
                  have hc2 : ∀ j z, ((pickV VS isL).drop (k + 1))[j]? = some z → w5.cell? ⟨gl, k + 1 + j, none⟩ = some z := fun j z hz => by
                    rw [List.getElem?_drop] at hz
                    exact X45.out.cell (FL4.out.at hlv4 hz)
                  have HC2 := Lib.hid hc2
                  clear hc2 hlv4
                  go_wp2_with (at_builtin; refine wpList_joinVn rfl _ _ rfl w4.heap.size _ ((pickV VS isL).take k) ((pickV VS isL).drop (k + 1)) rfl F5.out gl (k + 1) (n - (k + 1)) (c - (k + 1)) HDL.out rfl HC2.out (fun z hz => H1V.out isL z (List.mem_of_mem_drop hz)) HB2.out HB5.out ?_)
                  intro v6 w6 f6 g6 k6
                  have x6 : Ext w4 w6 := k6 w4 X45.out (Nat.le_refl _)
                  rw [← HPE.out] at f6
                  have f60 : FreshV 0 w6 v6 (pickV VS (isL.eraseIdx k)) := f6.zero
                  have ap6 : ∀ b, v6.ownBlock = some b → v4.ownBlock ≠ some b := fun b hb e => by
                    have h1 := (World.ownsRow.lt f6 b hb).1
                    have h2 := HA4.out b e
                    omega
                  obtain ⟨a6, c6, rfl⟩ := f6.len
                  have hl6 : (pickV VS (isL.eraseIdx k)).length = n - 1 := by rw [pickV_len]; exact HEL.out
                  rw [hl6] at f60 ap6 ⊢
                  have F60 := Lib.hid f60
                  have AP6 := Lib.hid ap6
                  have HX6 := Lib.hid (X4.out.trans x6)
                  have F46 := Lib.hid (F4.out.ext x6)
                  clear f6 g6 k6 x6 f60 ap6 hl6
                  go_wp2
                  go_roundw
                  case rel => exact ⟨isO ++ [i], isL.eraseIdx k, a6, n - 1, c6, rfl, HEL, HN2, F60, F46, HX6, AP6⟩
                  case measure => simp [lenV]; omega
        · obtain rfl : k = n := by omega
          exact absurd (pickC_must HA.out HLE.out (by intro e; have := HLN.out; rw [e] at this; simp at this; omega) (by rw [HLN.out]; exact hno.out)) id
end Go.Proofs.YtcpmfcigciknlaaGreat

namespace Go.Proofs.YtcpmfcigciknlaaGreat
open Go.RowKit
set_option linter.unusedVariables false
theorem compsC_bound (g : List (List Int)) (m : Nat) : ∀ (f : Nat) (left : List (List Int)), (∀ G ∈ left, G.length ≤ m) → (compsC g f left).length ≤ f ∧ ∀ G ∈ compsC g f left, G.length ≤ m
  | 0, left, _ => by simp [compsC]
  | f + 1, left, h => by
    unfold compsC
    cases hp : pickC g left with
    | none => simp
    | some k =>
      obtain ⟨h1, h2⟩ := compsC_bound g m f (left.eraseIdx k) (fun G hG => h G ((List.eraseIdx_sublist _ _).subset hG))
      simp only [List.length_cons]
      refine ⟨by omega, fun G hG => ?_⟩
      rcases List.mem_cons.1 hG with rfl | hG
      · cases hk : left[k]? with
        | none => simp
        | some G => exact h G (List.mem_of_getElem? hk)
      · exact h2 G hG
theorem groupsL_rowlen (g : List (List Int)) : ∀ G ∈ groupsL g, G.length ≤ g.length := fun G hG => by
  unfold groupsL at hG
  obtain ⟨k, _, rfl⟩ := List.mem_map.1 hG
  unfold groupL
  exact Nat.le_trans (List.length_filter_le _ _) (reachL_len g k)
end Go.Proofs.YtcpmfcigciknlaaGreat

namespace Go.Proofs.YtcpmfcigciknlaaGreat
open Go.RowKit
set_option linter.unusedVariables false
theorem compsC_mem (g : List (List Int)) : ∀ (f : Nat) (left : List (List Int)) (G : List Int), G ∈ compsC g f left → G ∈ left
  | 0, left, G, h => by simp [compsC] at h
  | f + 1, left, G, h => by
    unfold compsC at h
    cases hp : pickC g left with
    | none => rw [hp] at h; simp at h
    | some k =>
      rw [hp] at h
      simp only at h
      have hk : k < left.length := by
        unfold pickC at hp
        have := List.find?_range_eq_some.1 hp
        simpa using this.2.1
      rcases List.mem_cons.1 h with e | h
      · rw [e, List.getElem?_eq_getElem hk, Option.getD_some]; exact List.getElem_mem hk
      · exact (List.eraseIdx_sublist _ _).subset (compsC_mem g f _ G h)
theorem compsL_in {g : List (List Int)} (hg : rowsB g = true) {G : List Int} (h : G ∈ compsL g) : ∀ x ∈ G, 0 ≤ x ∧ x < (g.length : Int) := by
  intro x hx
  obtain ⟨k, hk, e⟩ := (left_groups hg).1 G (compsC_mem g _ _ G h)
  rw [e] at hx
  exact groupL_in hg hk hx
theorem compsC_all {g : List (List Int)} (hg : rowsB g = true) : ∀ (f : Nat) (left : List (List Int)), Left g left → left.length ≤ f → ∀ G ∈ left, G ∈ compsC g f left
  | 0, left, _, hf, G, hG => by
    have : left = [] := List.eq_nil_of_length_eq_zero (by omega)
    rw [this] at hG; simp at hG
  | f + 1, left, hl, hf, G, hG => by
    obtain ⟨k, hp, hk⟩ := pickC_some hg hl (fun e => by rw [e] at hG; simp at hG)
    unfold compsC
    rw [hp]
    simp only
    have hkk : left[k]? = some left[k] := List.getElem?_eq_getElem hk
    rcases mem_erase_or hkk hG with e | e
    · rw [hkk, e]; simp
    · refine List.mem_cons_of_mem _ (compsC_all hg f _ (hl.erase k) ?_ G e)
      rw [List.length_eraseIdx]
      simp [hk]; omega
theorem compsL_iff {g : List (List Int)} (hg : rowsB g = true) (G : List Int) : G ∈ compsL g ↔ G ∈ groupsL g :=
  ⟨compsC_mem g _ _ G, compsC_all hg _ _ (left_groups hg) (Nat.le_refl _) G⟩
theorem compsC_perm {g : List (List Int)} (hg : rowsB g = true) : ∀ (f : Nat) (left : List (List Int)), Left g left → left.length ≤ f → (compsC g f left).Perm left
  | 0, left, _, hf => by
    have : left = [] := List.eq_nil_of_length_eq_zero (by omega)
    rw [this]; simp [compsC]
  | f + 1, left, hl, hf => by
    by_cases hne : left = []
    · subst hne
      have : pickC g [] = none := by simp [pickC]
      unfold compsC
      rw [this]
    · obtain ⟨k, hp, hk⟩ := pickC_some hg hl hne
      unfold compsC
      rw [hp]
      simp only
      rw [List.getElem?_eq_getElem hk, Option.getD_some]
      have ih := compsC_perm hg f _ (hl.erase k) (by rw [List.length_eraseIdx]; simp [hk]; omega)
      exact (ih.cons _).trans (perm_erase left k hk)
theorem compsL_perm {g : List (List Int)} (hg : rowsB g = true) : (compsL g).Perm (groupsL g) := compsC_perm hg _ _ (left_groups hg) (Nat.le_refl _)
theorem compsL_apart {g : List (List Int)} (hg : rowsB g = true) : (compsL g).Pairwise (fun G H => ∀ x, x ∈ G → x ∉ H) :=
  ((compsL_perm hg).pairwise_iff (fun {a b} h x h1 h2 => h x h2 h1)).2 (left_groups hg).2
theorem compsL_rises' {g : List (List Int)} (hg : rowsB g = true) {G : List Int} (h : G ∈ compsL g) : Rises G := by
  obtain ⟨k, hk, e⟩ := (left_groups hg).1 G (compsC_mem g _ _ G h)
  rw [e]; exact groupL_rises g k
theorem compsL_covers {g : List (List Int)} (hg : rowsB g = true) {n : Int} (hn : 0 ≤ n ∧ n < (g.length : Int)) : ∃ H ∈ compsL g, n ∈ H :=
  ⟨groupL g n, (compsL_iff hg _).2 ((groupsL_mem hg _).2 ⟨n.toNat, by omega, by congr 1; omega⟩), groupL_self hg hn⟩
end Go.Proofs.YtcpmfcigciknlaaGreat
