/- Texts of this proof, part j: words, plain facts, contracts. -/
import Derived.Test.YtcpmfcigciknlaaGreatNBookOfg
import Derived.Test.YtcpmfcigciknlaaGreatNBookOfi
import Derived.Test.YtcpmfcigciknlaaGreatNBookOff
import Derived.Deep.Cut
import Derived.Test.YtcpmfcigciknlaaGreatNBookOfe
import Derived.Test.YtcpmfcigciknlaaGreatNBookOfd
set_option linter.unusedVariables false
set_option linter.unusedSimpArgs false

namespace Go.Proofs.YtcpmfcigciknlaaGreat
open Go.RowKit
set_option linter.unusedVariables false
noncomputable def lessR (n : Int) (T : List (List RowD)) (p : Nat) : List RowD := (List.range (T[p]?.getD []).length).map fun q => if readyB n T p q then rowOf n T p q else emptyR n
noncomputable def lessT (n : Int) (T : List (List RowD)) : List (List RowD) := (List.range T.length).map (lessR n T)
theorem lessT_len (n : Int) (T : List (List RowD)) : (lessT n T).length = T.length := by simp [lessT]
theorem lessT_get {n : Int} {T : List (List RowD)} {p : Nat} (h : p < T.length) : (lessT n T)[p]? = some (lessR n T p) := by simp [lessT, h]
theorem lessR_len {n : Int} {T : List (List RowD)} {p : Nat} (h : p < T.length) : (lessR n T p).length = T[p].length := by simp [lessR, List.getElem?_eq_getElem h]
theorem lessR_get {n : Int} {T : List (List RowD)} {p q : Nat} (h : p < T.length) (hq : q < T[p].length) : (lessR n T p)[q]? = some (if readyB n T p q then rowOf n T p q else emptyR n) := by
  unfold lessR
  rw [List.getElem?_eq_getElem h, Option.getD_some, List.getElem?_map, List.getElem?_range hq]
  rfl
theorem less_rowOf {n : Int} {T : List (List RowD)} {p : Nat} (hp : p < T.length) (q : Nat) : rowOf n (lessT n T) p q = if readyB n T p q then rowOf n T p q else emptyR n := by
  by_cases hq : q < T[p].length
  · unfold rowOf
    rw [lessT_get hp, Option.getD_some, lessR_get hp hq, Option.getD_some]
    rfl
  · have hr : readyB n T p q = false := by
      cases e : readyB n T p q with
      | false => rfl
      | true =>
        obtain ⟨hp', hq', _⟩ := instCom_lt (readyB_com e)
        omega
    rw [hr]
    unfold rowOf
    rw [lessT_get hp, Option.getD_some, List.getElem?_eq_none (by rw [lessR_len hp]; omega)]
    rfl
theorem less_com {n : Int} {T : List (List RowD)} (p q : Nat) : instCom (lessT n T) p q = readyB n T p q := by
  by_cases hp : p < T.length
  · by_cases hq : q < T[p].length
    · unfold instCom
      rw [lessT_get hp, Option.getD_some, lessR_get hp hq]
      cases e : readyB n T p q with
      | false => rw [if_neg (by simp)]; rfl
      | true =>
        rw [if_pos rfl]
        obtain ⟨hp', hq', hs⟩ := instCom_lt (readyB_com e)
        show ((rowOf n T p q).st == 3) = true
        rw [rowOf_in hp hq, hs]
        rfl
    · have h1 : instCom (lessT n T) p q = false := by
        unfold instCom
        rw [lessT_get hp, Option.getD_some, List.getElem?_eq_none (by rw [lessR_len hp]; omega)]
      rw [h1]
      cases e : readyB n T p q with
      | false => rfl
      | true =>
        obtain ⟨hp', hq', _⟩ := instCom_lt (readyB_com e)
        omega
  · have h1 : instCom (lessT n T) p q = false := by
      have e0 : (lessT n T)[p]? = none := List.getElem?_eq_none (by rw [lessT_len]; omega)
      unfold instCom
      rw [e0]
      rfl
    rw [h1]
    cases e : readyB n T p q with
    | false => rfl
    | true =>
      obtain ⟨hp', _⟩ := instCom_lt (readyB_com e)
      omega
theorem less_insts (n : Int) (T : List (List RowD)) : insts (lessT n T) = readyL n T :=
  readyL_of (insts_lex _) (fun x => by rw [mem_insts, less_com])
theorem goodRow_emptyR {n : Int} (h : isGrp n = true) : goodRow n (emptyR n) = true := by
  rcases isGrp_of h with rfl | rfl <;> decide
theorem less_good {n : Int} {T : List (List RowD)} (hg : goodTab n T = true) : goodTab n (lessT n T) = true := by
  obtain ⟨h1, h2, h3⟩ := goodTab_of hg
  rw [goodTab_all h1 (by rw [lessT_len]; exact h2), List.all_eq_true]
  intro R hR
  obtain ⟨p, hp, rfl⟩ := List.mem_map.1 hR
  have hp := List.mem_range.1 hp
  have hl := (h3 _ (List.getElem_mem hp)).1
  rw [goodList_all (by rw [lessR_len hp]; exact hl), List.all_eq_true]
  intro r hr
  obtain ⟨q, hq, rfl⟩ := List.mem_map.1 hr
  have hq := List.mem_range.1 hq
  rw [List.getElem?_eq_getElem hp, Option.getD_some] at hq
  split
  · rw [rowOf_in hp hq]; exact (goodTab_row hg hp hq).1
  · exact goodRow_emptyR h1
theorem mem_readyL {n : Int} {T : List (List RowD)} {x : Nat × Nat} : x ∈ readyL n T ↔ readyB n T x.1 x.2 = true := by
  rw [← less_insts, mem_insts, less_com]
theorem less_graph {n : Int} {T : List (List RowD)} : graphP n (lessT n T) (readyL n T) = graphP n T (readyL n T) := by
  unfold graphP
  refine List.map_congr_left fun x hx => ?_
  have hr := mem_readyL.1 hx
  obtain ⟨hp, hq, _⟩ := instCom_lt (readyB_com hr)
  have e : rowOf n (lessT n T) x.1 x.2 = rowOf n T x.1 x.2 := by rw [less_rowOf hp, if_pos hr]
  unfold rowE edgeB
  rw [e]
def keyOf1 (n : Int) (T : List (List RowD)) (x : Nat × Nat) : Int := 100 * (rowOf n T x.1 x.2).s + 10 * (x.1 : Int) + ((x.2 : Int) + 1)
def keysP (n : Int) (T : List (List RowD)) (L : List (Nat × Nat)) : List Int := L.map (keyOf1 n T)
theorem rowE_rises (n : Int) (T : List (List RowD)) (L : List (Nat × Nat)) (x : Nat × Nat) (k m : Nat) (h : k ≤ m) : riseB (rowE n T L x k) 0 ((m : Int) - 1) = true := by
  unfold riseB allIn
  rw [Bool.and_eq_true]
  constructor
  · first
      | (rw [List.all_eq_true]
         intro y hy
         obtain ⟨j, hj, rfl⟩ := List.mem_map.1 hy
         have := List.mem_range.1 (List.mem_filter.1 hj).1
         exact inB_yes (by omega) (by omega))
      | (refine decide_eq_true ?_
         unfold Rises rowE
         rw [List.pairwise_map]
         exact (List.pairwise_lt_range.filter _).imp fun h => by omega)
  · first
      | (refine decide_eq_true ?_
         unfold Rises rowE
         rw [List.pairwise_map]
         exact (List.pairwise_lt_range.filter _).imp fun h => by omega)
      | (rw [List.all_eq_true]
         intro y hy
         obtain ⟨j, hj, rfl⟩ := List.mem_map.1 hy
         have := List.mem_range.1 (List.mem_filter.1 hj).1
         exact inB_yes (by omega) (by omega))
theorem seq_in {n : Int} {T : List (List RowD)} (hg : goodTab n T = true) {x : Nat × Nat} (hc : instCom T x.1 x.2 = true) : 0 ≤ (rowOf n T x.1 x.2).s ∧ (rowOf n T x.1 x.2).s ≤ 999 := by
  obtain ⟨hp, hq, hs⟩ := instCom_lt hc
  rw [rowOf_in hp hq]
  have h := (goodTab_row hg hp hq).1
  unfold goodRow at h
  simp only [Bool.and_eq_true] at h
  have h2 := h.2
  rw [hs] at h2
  rw [if_neg (by decide)] at h2
  unfold fullB at h2
  simp only [Bool.and_eq_true] at h2
  have h3 := (goodD_of h2.2).1
  unfold inB at h3
  simpa using h3
theorem keysP_good {n : Int} {T : List (List RowD)} (hg : goodTab n T = true) : keysB (graphP n T (readyL n T)) (keysP n T (readyL n T)) = true := by
  have hl := readyL_short hg
  have hgl : (graphP n T (readyL n T)).length = (readyL n T).length := by simp [graphP]
  have h56 := goodTab_both hg
  have hin : ∀ x ∈ readyL n T, x.1 ≤ 4 ∧ x.2 ≤ 5 ∧ 0 ≤ (rowOf n T x.1 x.2).s ∧ (rowOf n T x.1 x.2).s ≤ 999 := fun x hx => by
    have hc := readyB_com (mem_readyL.1 hx)
    have h1 := inT_low h56.1 h56.2 (instCom_inT hc)
    exact ⟨h1.1, h1.2, seq_in hg hc⟩
  unfold keysB goodG rowsB
  simp only [Bool.and_eq_true, decide_eq_true_eq]
  refine ⟨⟨?_, by omega⟩, by rw [hgl]; simp [keysP], ?_, ?_⟩
  · rw [List.all_eq_true]
    intro l hl'
    obtain ⟨x, hx, rfl⟩ := List.mem_map.1 hl'
    rw [hgl]
    exact rowE_rises n T _ x _ _ (Nat.le_refl _)
  · unfold allIn
    rw [List.all_eq_true]
    intro y hy
    obtain ⟨x, hx, rfl⟩ := List.mem_map.1 hy
    have h := hin x hx
    unfold keyOf1
    exact inB_yes (by omega) (by omega)
  · unfold keysP
    have hnd : (readyL n T).Pairwise lexL := by rw [← less_insts]; exact insts_lex _
    unfold List.Nodup
    rw [List.pairwise_map]
    refine hnd.imp_of_mem ?_
    intro x y hx hy hxy
    have h1 := hin x hx
    have h2 := hin y hy
    unfold keyOf1
    unfold lexL at hxy
    omega
noncomputable def orderP (n : Int) (T : List (List RowD)) : List (List Int) := (orderL (graphP n T (readyL n T)) (keysP n T (readyL n T))).map fun k => pairOf ((readyL n T)[k.toNat]?.getD (0, 0))
noncomputable def orderR (n : Int) (T : List (List RowD)) : List (List Int) := if goodTab n T then orderP n T else []
end Go.Proofs.YtcpmfcigciknlaaGreat

namespace Go.Proofs.YtcpmfcigciknlaaGreat
open Go.RowKit
set_option linter.unusedVariables false
theorem ready_low {n : Int} {T : List (List RowD)} (hg : goodTab n T = true) {x : Nat × Nat} (hx : x ∈ readyL n T) : readyB n T x.1 x.2 = true ∧ x.1 ≤ 4 ∧ x.2 ≤ 5 ∧ 0 ≤ (rowOf n T x.1 x.2).s ∧ (rowOf n T x.1 x.2).s ≤ 999 := by
  have hr := mem_readyL.1 hx
  have hc := readyB_com hr
  have h56 := goodTab_both hg
  have h1 := inT_low h56.1 h56.2 (instCom_inT hc)
  exact ⟨hr, h1.1, h1.2, seq_in hg hc⟩
noncomputable def ordPts (n : Int) (T : List (List RowD)) : List (Nat × Nat) := (orderL (graphP n T (readyL n T)) (keysP n T (readyL n T))).map fun k => (readyL n T)[k.toNat]?.getD (0, 0)
theorem ordPts_pairs (n : Int) (T : List (List RowD)) : (ordPts n T).map pairOf = orderP n T := by
  unfold ordPts orderP
  rw [List.map_map]
  rfl
end Go.Proofs.YtcpmfcigciknlaaGreat

namespace Go.Proofs.YtcpmfcigciknlaaGreat
open Go.RowKit Go.Maps
set_option linter.unusedVariables false
theorem field_rowA (b v st k i f t a s : Int) (u : Value) (W : World) : (Instr.field 83 (.agg #[.int .i64 b, .int .i64 v, .int .i64 st, .int .i64 k, .int .i64 i, .int .i64 f, .int .i64 t, .int .i64 a, .int .i64 s, u]) 4).run Tryz.prog W = .ok (.agg #[.int .i64 s, u]) W := by kernel_rfl
theorem zeroRow (W : World) : (zeroValue 83).run Tryz.prog W = .ok (.agg #[.int .i64 0, .int .i64 0, .int .i64 0, .int .i64 0, .int .i64 0, .int .i64 0, .int .i64 0, .int .i64 0, .int .i64 0, .slice none 0 0]) W := by kernel_rfl
theorem cell_offG {W : World} {g o : Nat} {a : Addr} {z u : Value} (hne : a.block ≠ g) (h : W.cell? a = some u) : (W.setCell ⟨g, o, none⟩ z).cell? a = some u := by
  have hh := Below.heap_setCell W ⟨g, o, none⟩ z a.block hne
  have e : (W.setCell ⟨g, o, none⟩ z).cell? a = W.cell? a := by unfold World.cell?; rw [hh]
  rw [e]; exact h
def NilFrom (vs : List Value) (k : Nat) : Prop := ∀ (i : Nat) (z : Value), k ≤ i → vs[i]? = some z → z = .slice none 0 0
def Behind (vs : List Value) (k b : Nat) : Prop := ∀ z : Value, vs[k]? = some z → ∀ g, z.ownBlock = some g → b < g
theorem look_inst {W : World} {B n0 : Nat} {D : DataW Value} {S : Nat → Nat → Bool} {f : Nat → Nat → Value} (hm : RowMap W B n0 D) (hd : MapOf D S f) {p q : Nat} (hs : S p q = true) :
    (Instr.lookup 106 (.map (some B)) (.agg #[.int .i64 p, .int .i64 ((q : Int) + 1)]) false).run Tryz.prog W = .ok (f p q) W := by
  have hl := hd.low p q hs
  obtain ⟨v, ps, hrun, hv⟩ := hm.lookup instKeyed Tryz.underlying106 (zeroRow W) (zd := .held _) (zp := []) rfl (keyOf_inst (a := p) (b := (q : Int) + 1) (wf_small (by omega) (by omega)) (wf_small (by omega) (by omega)))
  rw [hd.val p q hs] at hv
  simp only [asIs, Option.some.injEq, Prod.mk.injEq, DataW.held.injEq] at hv
  rw [hv.1] at hrun
  exact hrun
set_option maxHeartbeats 4000000 in
set_option maxRecDepth 100000 in
theorem graphAmong_any (n : Int) (T : List (List RowD)) (U : Nat → Nat → Value) (L : List (Nat × Nat)) (v : Value) (B n0 : Nat) (D : DataW Value) (S : Nat → Nat → Bool) (w : World) (hv : InstsAt w v L) (hl : L.length ≤ 1000)
    (hm : RowMap w B n0 D) (hd : MapOf D S (rowF n T U)) (hS : ∀ x ∈ L, S x.1 x.2 = true) (hC : ∀ p q, S p q = true → instCom T p q = true) (hg : goodTab n T = true) (hli : Lists w n T U) :
    Calls Tryz.prog 60 #[v, .map (some B)] w (NewIntss (graphP n T L) w) := by
  obtain ⟨au, cu, rfl, hlu, _, hcu⟩ := hv
  unfold maxLen at hlu
  obtain ⟨i0, hi, hz0, hz1, hz2⟩ := info_parts Tryz.infoInts
  have HCU := Lib.hid hcu
  have HM := Lib.hid hm
  have HD := Lib.hid hd
  have HS := Lib.hid hS
  have HC := Lib.hid hC
  have HG := Lib.hid hg
  have HLI := Lib.hid hli
  clear hcu hm hd hS hC hg hli
  go_enter Tryz.func60, Tryz.ntmps60
  go_wp2_with (at_make; refine wpList_make_full _ rfl _ _ 63 rfl w.heap.size 26 i0 (.slice none 0 0) 1 Tryz.underlying63 hi hz0 hz1 _ _ _ _ L.length rfl rfl rfl rfl ?c1 ?c2 ?c3 ?_)
  case c1 => rw [hz2]; omega
  case c2 => unfold maxLen; omega
  case c3 => simp
  intro w1 ho1 hg1
  have hx1 : Ext w w1 := ext_of_grown hg1
  have ho : w1.ownsRow w.heap.size 26 1 (.slice (some ⟨w.heap.size, 0, none⟩) L.length L.length) L.length (List.replicate L.length (.slice none 0 0)) := by
    rw [toList_madeCells_one] at ho1
    simpa using ho1
  have hsz : w.heap.size < w1.heap.size := by
    rcases ho1.2 with ⟨h, _⟩ | ⟨g, cap, cur, h, hb, hg, _⟩
    · cases h
    · simp only [Value.slice.injEq, Option.some.injEq, Addr.mk.injEq, and_true, true_and] at h
      obtain ⟨rfl, _⟩ := h
      exact (Array.getElem?_eq_some_iff.1 hg).1
  have hrows : Rows_ (w.heap.size + 1) w1 (List.replicate L.length (.slice none 0 0)) (halfG n T L 0 0) := by
    rw [halfG_zero]
    refine ⟨by simp, fun j u l hu hl => ?_, fun i j u z _ hu _ => ?_⟩
    · rw [List.getElem?_replicate] at hu hl
      split at hu
      · rw [if_pos (by assumption)] at hl
        cases hu
        cases hl
        exact ⟨rfl, .inl ⟨rfl, rfl⟩⟩
      · cases hu
    · rw [List.getElem?_replicate] at hu
      split at hu
      · cases hu
        exact .inl rfl
      · cases hu
  have HO1 := Lib.hid ho
  have HR1 := Lib.hid hrows
  have HX1 := Lib.hid hx1
  have HZ1 := Lib.hid hsz
  clear ho1 hg1 hz0 hz1 hz2 hi ho hrows hx1 hsz
  go_wp2
  go_loopw [15] (fun i wr => ∃ (k : Nat) (vs : List Value), k ≤ L.length ∧ i = .int .i64 k ∧ Hid (wr.ownsRow w.heap.size 26 1 (.slice (some ⟨w.heap.size, 0, none⟩) L.length L.length) L.length vs) ∧ Hid (Rows_ (w.heap.size + 1) wr vs (halfG n T L k 0)) ∧ Hid (w.heap.size < wr.heap.size) ∧ Hid (Ext w wr) ∧ Hid (NilFrom vs k)) (fun i _ => L.length - (intOf i).toNat)
  case atStart => exact ⟨0, _, Nat.zero_le _, rfl, HO1, HR1, HZ1, HX1, Lib.hid (fun i z _ hz => by rw [List.getElem?_replicate] at hz; split at hz <;> cases hz; rfl)⟩
  case round =>
    clear HO1 HR1 HZ1 HX1
    obtain ⟨k, vs, hk, rfl, HO, HR, HZ, HX, HN⟩ := hrel
    by_cases hlt : k < L.length
    · obtain ⟨bu, ou, rfl, du⟩ := HCU.out (by omega)
      obtain ⟨q0, q1⟩ := du k hlt
      obtain ⟨x, hx⟩ : ∃ x, x = L[k] := ⟨_, rfl⟩
      rw [← hx] at q0 q1
      have g0 := HX.out.cell q0
      have g1 := HX.out.cell q1
      have hxm : x ∈ L := by rw [hx]; exact List.getElem_mem hlt
      have hsx := HS.out x hxm
      have HSX := Lib.hid hsx
      have HXK := Lib.hid hx
      obtain ⟨p, q⟩ := x
      have HDU := Lib.hid du
      clear q0 q1 hx hxm hsx du
      obtain ⟨b7, hb7⟩ : ∃ b7, b7 = wr.heap.size := ⟨_, rfl⟩
      have hbox : PairAt (wr.alloc (.cells #[.int .i64 p, .int .i64 ((q : Int) + 1)] 101)) b7 (p : Int) ((q : Int) + 1) := by rw [hb7]; exact ⟨by go_simp, by go_simp⟩
      have HB7 := Lib.hid hb7
      have HBOX := Lib.hid hbox
      have OA := Lib.hid ((Ext.alloc1 wr (.cells #[.int .i64 p, .int .i64 ((q : Int) + 1)] 101)).ownsRow HO.out)
      have RA := Lib.hid (HR.out.ext (Ext.alloc1 wr (.cells #[.int .i64 p, .int .i64 ((q : Int) + 1)] 101)))
      have ZA : Hid (w.heap.size < (wr.alloc (.cells #[.int .i64 p, .int .i64 ((q : Int) + 1)] 101)).heap.size) := Lib.hid (Nat.lt_of_lt_of_le HZ.out (Ext.alloc1 _ _).size)
      have XA := Lib.hid (HX.out.alloc (.cells #[.int .i64 p, .int .i64 ((q : Int) + 1)] 101))
      have NA : Hid (NilFrom vs (k + 1)) := Lib.hid (fun i z hi hz => HN.out i z (by omega) hz)
      have KA : Hid (Behind vs k b7) := Lib.hid (fun z hz g hg => by rw [HN.out k z (Nat.le_refl _) hz] at hg; cases hg)
      clear hbox hb7
      go_wp2
      rw [← HB7.out]
      go_loopw [22] (fun i wr => ∃ (j : Nat) (vs : List Value), j ≤ L.length ∧ i = .int .i64 j ∧ Hid (wr.ownsRow w.heap.size 26 1 (.slice (some ⟨w.heap.size, 0, none⟩) L.length L.length) L.length vs) ∧ Hid (Rows_ (w.heap.size + 1) wr vs (halfG n T L k j)) ∧ Hid (w.heap.size < wr.heap.size) ∧ Hid (Ext w wr) ∧ Hid (PairAt wr b7 (p : Int) ((q : Int) + 1)) ∧ Hid (NilFrom vs (k + 1)) ∧ Hid (Behind vs k b7)) (fun i _ => L.length - (intOf i).toNat)
      case atStart => exact ⟨0, vs, Nat.zero_le _, rfl, OA, RA, ZA, XA, HBOX, NA, KA⟩
      case round =>
        have HB70 : Hid (w.heap.size < b7) := Lib.hid (by rw [HB7.out]; exact HZ.out)
        clear OA RA ZA XA HBOX NA KA g0 g1 HO HR HZ HX HN HB7
        obtain ⟨j, vs, hj, rfl, HO, HR, HZ, HX, HB, HN, HK7⟩ := hrel
        by_cases hjl : j < L.length
        · obtain ⟨q0, q1⟩ := HDU.out j hjl
          obtain ⟨y, hy⟩ : ∃ y, y = L[j] := ⟨_, rfl⟩
          rw [← hy] at q0 q1
          have g0 := HX.out.cell q0
          have g1 := HX.out.cell q1
          have hsy := HS.out y (by rw [hy]; exact List.getElem_mem hjl)
          have HSY := Lib.hid hsy
          have HYK := Lib.hid hy
          obtain ⟨p', q'⟩ := y
          clear q0 q1 hy hsy
          go_upto_region 8 with fail
          obtain ⟨w9, hw9⟩ : ∃ w9, w9 = wr.alloc (.cells #[.int .i64 p', .int .i64 ((q' : Int) + 1)] 101) := ⟨_, rfl⟩
          obtain ⟨b9, hb9⟩ : ∃ b9, b9 = wr.heap.size := ⟨_, rfl⟩
          have x29 : Ext wr w9 := by rw [hw9]; exact Ext.alloc1 _ _
          have k0 : w9.cell? ⟨b9, 0, none⟩ = some (.int .i64 p') := by rw [hw9, hb9]; go_simp
          have k1 : w9.cell? ⟨b9, 1, none⟩ = some (.int .i64 ((q' : Int) + 1)) := by rw [hw9, hb9]; go_simp
          rw [← hw9, ← hb9]
          obtain ⟨f0, f1⟩ := HB.out.ext x29
          have f0 := fun E : ExtOf w9 => E.cell f0
          have f1 := fun E : ExtOf w9 => E.cell f1
          have k0 := fun E : ExtOf w9 => E.cell k0
          have k1 := fun E : ExtOf w9 => E.cell k1
          clear g0 g1 hw9 hb9
          have hcx := com_row HG.out (HC.out p q HSX.out)
          have hcy := com_row HG.out (HC.out p' q' HSY.out)
          obtain ⟨bb, hbb⟩ : ∃ b, b = decide ((q' : Int) + 1 ≤ depI (rowOf n T p q) p') := ⟨_, rfl⟩
          have hedge : edgeB n T (p, q) (p', q') = (!(decide ((p, q) = (p', q'))) && bb) := by unfold edgeB; rw [hbb]
          have HEDGE0 := Lib.hid hedge
          clear hedge
          by_cases he : p = p' ∧ q = q'
          · obtain ⟨rfl, rfl⟩ := he
            have HEDGE : Hid (edgeB n T (p, q) (p, q) = false) := Lib.hid (by rw [HEDGE0.out]; simp)
            clear hbb HEDGE0 hcx hcy
            have cA : True := trivial
            go_wp2_with fail
            refine wp_region_ext_lit (by kernel_rfl) (by kernel_rfl) ?_
            repeat (go_big_quiet_step (first | (go_at_call 108; fail)))
            refine wpQuiet_nil ?_
            rintro _ ⟨E, rfl⟩
            have he : rowE n T L L[k] (j + 1) = rowE n T L L[k] j := by rw [rowE_succ hjl, ← HXK.out, ← HYK.out, HEDGE.out]; simp
            have RN : Hid (Rows_ (w.heap.size + 1) E.1 vs (halfG n T L k (j + 1))) := Lib.hid (by rw [halfG_stay j hlt he]; exact HR.out.ext (x29.trans E.2))
            have ON := Lib.hid ((x29.trans E.2).ownsRow HO.out)
            have ZN : Hid (w.heap.size < E.1.heap.size) := Lib.hid (Nat.lt_of_lt_of_le HZ.out (x29.trans E.2).size)
            have XN := Lib.hid (HX.out.trans (x29.trans E.2))
            have BN := Lib.hid (HB.out.ext (x29.trans E.2))
            clear he HR HO HZ HX HB x29
            go_wp2
            go_roundw
            case rel => exact ⟨j + 1, vs, by omega, by go_num, ON, RN, ZN, XN, BN, HN, HK7⟩
            case measure => simp [intOf]; omega
          · have hzne : ¬ ((p' : Int) = p) ∨ (p = p' ∧ ¬ ((q' : Int) = q)) := by omega
            obtain ⟨au, cu', hUf, _⟩ := HLI.out p q (instCom_inT (HC.out p q HSX.out))
            have hi9 : Ints w9 (U p q) (rowOf n T p q).l := (HLI.out p q (instCom_inT (HC.out p q HSX.out))).ext (HX.out.trans x29)
            have hlk : ∀ E : ExtOf w9, (Instr.lookup 106 (.map (some B)) (.agg #[.int .i64 p, .int .i64 ((q : Int) + 1)]) false).run Tryz.prog E.1 = .ok (rowF n T U p q) E.1 := fun E => look_inst (HM.out.ext ((HX.out.trans x29).trans E.2)) HD.out HSX.out
            unfold rowF rowV at hlk
            obtain ⟨d, hd⟩ : ∃ d, d = rowOf n T p q := ⟨_, rfl⟩
            rw [← hd] at hlk hUf hi9 hcx hbb
            rw [hUf] at hlk hi9
            have hfd : ∀ E : ExtOf w9, (Instr.field 83 (.agg #[.int .i64 d.b, .int .i64 d.v, .int .i64 d.st, .int .i64 d.k, .int .i64 d.i, .int .i64 d.f, .int .i64 d.t, .int .i64 d.a, .int .i64 d.s, .slice au d.l.length cu']) 4).run Tryz.prog E.1 = .ok (.agg #[.int .i64 d.s, .slice au d.l.length cu']) E.1 := fun E => field_rowA _ _ _ _ _ _ _ _ _ _ _
            have cA : ∀ E : ExtOf w9, Calls Tryz.prog 108 #[.agg #[.int .i64 d.s, .slice au d.l.length cu'], .agg #[.int .i64 p', .int .i64 ((q' : Int) + 1)]] E.1 (BoolExt bb E.1) := fun E => by
              rw [hbb]
              exact hangs_any d.s _ d.l p' q' E.1 (hi9.ext E.2) (by omega) (by omega)
            clear hUf hd hi9 hcx hcy hbb
            rcases hzne with hzn | ⟨rfl, hzn⟩
            · cases bb with
              | false =>
                have HEDGE : Hid (edgeB n T (p, q) (p', q') = false) := Lib.hid (by rw [HEDGE0.out]; simp)
                go_wp2_with fail
                refine wp_region_ext_lit (by kernel_rfl) (by kernel_rfl) ?_
                repeat (go_big_quiet_step (first | (go_at_call 108; with_reducible exact Calls.ext_of _ (cA _))))
                refine wpQuiet_nil ?_
                rintro _ ⟨E, rfl⟩
                have he : rowE n T L L[k] (j + 1) = rowE n T L L[k] j := by rw [rowE_succ hjl, ← HXK.out, ← HYK.out, HEDGE.out]; simp
                have RN : Hid (Rows_ (w.heap.size + 1) E.1 vs (halfG n T L k (j + 1))) := Lib.hid (by rw [halfG_stay j hlt he]; exact HR.out.ext (x29.trans E.2))
                have ON := Lib.hid ((x29.trans E.2).ownsRow HO.out)
                have ZN : Hid (w.heap.size < E.1.heap.size) := Lib.hid (Nat.lt_of_lt_of_le HZ.out (x29.trans E.2).size)
                have XN := Lib.hid (HX.out.trans (x29.trans E.2))
                have BN := Lib.hid (HB.out.ext (x29.trans E.2))
                clear he HR HO HZ HX HB x29
                go_wp2
                go_roundw
                case rel => exact ⟨j + 1, vs, by omega, by go_num, ON, RN, ZN, XN, BN, HN, HK7⟩
                case measure => simp [intOf]; omega
              | true =>
                have HEDGE : Hid (edgeB n T (p, q) (p', q') = true) := Lib.hid (by rw [HEDGE0.out]; simp; omega)
                go_wp2_with fail
                refine wp_region_ext_lit (by kernel_rfl) (by kernel_rfl) ?_
                repeat (go_big_quiet_step (first | (go_at_call 108; with_reducible exact Calls.ext_of _ (cA _))))
                refine wpQuiet_nil ?_
                rintro _ ⟨E, rfl⟩
                have he : rowE n T L L[k] (j + 1) = rowE n T L L[k] j ++ [(j : Int)] := by rw [rowE_succ hjl, ← HXK.out, ← HYK.out, HEDGE.out]; simp
                obtain ⟨z, hz⟩ : ∃ z, vs[k]? = some z := ⟨_, List.getElem?_eq_getElem (by have := HR.out.len; rw [halfG_len] at this; omega)⟩
                obtain ⟨W, hW⟩ : ∃ W, W = E.1 := ⟨_, rfl⟩
                have xW : Ext wr W := by rw [hW]; exact x29.trans E.2
                rw [← hW]
                clear hW
                have fz : Fresh (w.heap.size + 1) wr z (rowE n T L L[k] j) := HR.out.row k z _ hz (halfG_at j hlt)
                have FZ := Lib.hid ((fz.ext xW).ext (Ext.alloc1 W (.cells #[.int .i64 j] 3)))
                have gz := ((xW.ownsRow HO.out).cellAt k (by omega)).trans hz
                have HZV := Lib.hid hz
                have HXW := Lib.hid xW
                have HE := Lib.hid he
                have hlen := rowE_len n T L L[k] j
                have HLEN : Hid ((rowE n T L L[k] j).length ≤ 1099511627776) := Lib.hid (by omega)
                have HSZW : Hid (w.heap.size + 1 ≤ (W.alloc (.cells #[.int .i64 j] 3)).heap.size) := Lib.hid (by have := HZ.out; have := xW.size; simp; omega)
                obtain ⟨az, cz, hzf, _⟩ := fz.ints
                obtain ⟨lz, hlz⟩ : ∃ lz, lz = (rowE n T L L[k] j).length := ⟨_, rfl⟩
                rw [← hlz] at hzf
                subst hzf
                clear fz x29 hlen he xW hlz
                go_wp2_with (at_builtin; refine wpList_pushAt rfl _ _ rfl (w.heap.size + 1) _ (rowE n T L L[k] j) (j : Int) rfl FZ.out ⟨W.heap.size, 0, none⟩ 1 rfl (cell_alloc_one _ _ _) HLEN.out HSZW.out ?_)
                intro v' w5 f5 hg5 hk5 hloc5
                have hsA : (W.alloc (.cells #[.int .i64 j] 3)).heap.size = W.heap.size + 1 := by simp
                have xa := HXW.out.trans (Ext.alloc1 W (.cells #[.int .i64 j] 3))
                have hro := (HR.out.ext xa).push HZV.out hg5 f5 (by rw [hsA]; exact hloc5)
                rw [← HE.out, ← halfG_set j hlt] at hro
                have hne : ∀ g, (Value.slice az lz cz).ownBlock = some g → w.heap.size + 1 ≤ g := fun g hgz => (World.ownsRow.lt FZ.out g hgz).1
                have ho5 : w5.ownsRow w.heap.size 26 1 (.slice (some ⟨w.heap.size, 0, none⟩) L.length L.length) L.length vs := World.ownsRow.kept (xa.ownsRow HO.out) hg5 (.inr (fun e => by have := hne w.heap.size e.symm; omega))
                have gf := ho5.frozenAt k
                have gs := (ho5.cellAt k (by omega)).trans HZV.out
                have hst := ho5.stored k v'
                obtain ⟨av, cv, hvf, _⟩ := f5.ints
                obtain ⟨lv, hlv⟩ : ∃ lv, lv = (rowE n T L L[k] j ++ [(j : Int)]).length := ⟨_, rfl⟩
                rw [← hlv] at hvf
                have hb5 : PairAt w5 b7 (p : Int) ((q : Int) + 1) := by
                  have h0 := HB.out.ext xa
                  have hb : ∀ g, (Value.slice az lz cz).ownBlock = some g → b7 < g := HK7.out _ HZV.out
                  exact ⟨World.grownBy.cell hg5 h0.1 (fun e => by have := hb b7 e.symm; omega), World.grownBy.cell hg5 h0.2 (fun e => by have := hb b7 e.symm; omega)⟩
                have hrn := hro.touch hst.2 (hro.low (Nat.lt_succ_self _))
                have RN := Lib.hid hrn
                have ON := Lib.hid hst.1
                have hxx : Ext w w5 := hk5 w (HX.out.trans xa) (by omega)
                have XN : Hid (Ext w (w5.setCell ⟨w.heap.size, k, none⟩ v')) := Lib.hid (hxx.setc (Nat.le_refl _))
                have ZN : Hid (w.heap.size < (w5.setCell ⟨w.heap.size, k, none⟩ v').heap.size) := Lib.hid (by have := HZ.out; have := xa.size; have := hg5.size; have := hst.2.size; omega)
                have BN : Hid (PairAt (w5.setCell ⟨w.heap.size, k, none⟩ v') b7 (p : Int) ((q : Int) + 1)) := Lib.hid (by
                  have := HB70.out
                  exact ⟨cell_offG (by dsimp only; omega) hb5.1, cell_offG (by dsimp only; omega) hb5.2⟩)
                have NN : Hid (NilFrom (vs.set k v') (k + 1)) := Lib.hid (fun i z hi hz => by
                  rw [List.getElem?_set_ne (by omega)] at hz
                  exact HN.out i z hi hz)
                have KN : Hid (Behind (vs.set k v') k b7) := Lib.hid (fun z hz g hg => by
                  rw [List.getElem?_set] at hz
                  split at hz
                  · split at hz
                    · cases hz
                      rcases hloc5 with e | e
                      · rw [e] at hg
                        exact HK7.out _ HZV.out g hg
                      · rw [e] at hg
                        cases hg
                        have h1 : b7 < (W.alloc (.cells #[.int .i64 j] 3)).heap.size := World.block_lt_of_cell? _ _ (HB.out.ext xa).1
                        rw [hsA] at h1
                        exact h1
                    · cases hz
                  · omega)
                subst hvf
                clear hlv hsA hro hne ho5 hst hb5 hrn hxx f5 hg5 hk5 hloc5 xa HR HO HZ HX HB HK7 HN FZ
                go_wp2
                go_roundw
                case rel => exact ⟨j + 1, _, by omega, by go_num, ON, RN, ZN, XN, BN, NN, KN⟩
                case measure => simp [intOf]; omega
            · cases bb with
              | false =>
                have HEDGE : Hid (edgeB n T (p, q) (p, q') = false) := Lib.hid (by rw [HEDGE0.out]; simp)
                go_wp2_with fail
                refine wp_region_ext_lit (by kernel_rfl) (by kernel_rfl) ?_
                repeat (go_big_quiet_step (first | (go_at_call 108; with_reducible exact Calls.ext_of _ (cA _))))
                refine wpQuiet_nil ?_
                rintro _ ⟨E, rfl⟩
                have he : rowE n T L L[k] (j + 1) = rowE n T L L[k] j := by rw [rowE_succ hjl, ← HXK.out, ← HYK.out, HEDGE.out]; simp
                have RN : Hid (Rows_ (w.heap.size + 1) E.1 vs (halfG n T L k (j + 1))) := Lib.hid (by rw [halfG_stay j hlt he]; exact HR.out.ext (x29.trans E.2))
                have ON := Lib.hid ((x29.trans E.2).ownsRow HO.out)
                have ZN : Hid (w.heap.size < E.1.heap.size) := Lib.hid (Nat.lt_of_lt_of_le HZ.out (x29.trans E.2).size)
                have XN := Lib.hid (HX.out.trans (x29.trans E.2))
                have BN := Lib.hid (HB.out.ext (x29.trans E.2))
                clear he HR HO HZ HX HB x29
                go_wp2
                go_roundw
                case rel => exact ⟨j + 1, vs, by omega, by go_num, ON, RN, ZN, XN, BN, HN, HK7⟩
                case measure => simp [intOf]; omega
              | true =>
                have HEDGE : Hid (edgeB n T (p, q) (p, q') = true) := Lib.hid (by rw [HEDGE0.out]; simp; omega)
                go_wp2_with fail
                refine wp_region_ext_lit (by kernel_rfl) (by kernel_rfl) ?_
                repeat (go_big_quiet_step (first | (go_at_call 108; with_reducible exact Calls.ext_of _ (cA _))))
                refine wpQuiet_nil ?_
                rintro _ ⟨E, rfl⟩
                have he : rowE n T L L[k] (j + 1) = rowE n T L L[k] j ++ [(j : Int)] := by rw [rowE_succ hjl, ← HXK.out, ← HYK.out, HEDGE.out]; simp
                obtain ⟨z, hz⟩ : ∃ z, vs[k]? = some z := ⟨_, List.getElem?_eq_getElem (by have := HR.out.len; rw [halfG_len] at this; omega)⟩
                obtain ⟨W, hW⟩ : ∃ W, W = E.1 := ⟨_, rfl⟩
                have xW : Ext wr W := by rw [hW]; exact x29.trans E.2
                rw [← hW]
                clear hW
                have fz : Fresh (w.heap.size + 1) wr z (rowE n T L L[k] j) := HR.out.row k z _ hz (halfG_at j hlt)
                have FZ := Lib.hid ((fz.ext xW).ext (Ext.alloc1 W (.cells #[.int .i64 j] 3)))
                have gz := ((xW.ownsRow HO.out).cellAt k (by omega)).trans hz
                have HZV := Lib.hid hz
                have HXW := Lib.hid xW
                have HE := Lib.hid he
                have hlen := rowE_len n T L L[k] j
                have HLEN : Hid ((rowE n T L L[k] j).length ≤ 1099511627776) := Lib.hid (by omega)
                have HSZW : Hid (w.heap.size + 1 ≤ (W.alloc (.cells #[.int .i64 j] 3)).heap.size) := Lib.hid (by have := HZ.out; have := xW.size; simp; omega)
                obtain ⟨az, cz, hzf, _⟩ := fz.ints
                obtain ⟨lz, hlz⟩ : ∃ lz, lz = (rowE n T L L[k] j).length := ⟨_, rfl⟩
                rw [← hlz] at hzf
                subst hzf
                clear fz x29 hlen he xW hlz
                go_wp2_with (at_builtin; refine wpList_pushAt rfl _ _ rfl (w.heap.size + 1) _ (rowE n T L L[k] j) (j : Int) rfl FZ.out ⟨W.heap.size, 0, none⟩ 1 rfl (cell_alloc_one _ _ _) HLEN.out HSZW.out ?_)
                intro v' w5 f5 hg5 hk5 hloc5
                have hsA : (W.alloc (.cells #[.int .i64 j] 3)).heap.size = W.heap.size + 1 := by simp
                have xa := HXW.out.trans (Ext.alloc1 W (.cells #[.int .i64 j] 3))
                have hro := (HR.out.ext xa).push HZV.out hg5 f5 (by rw [hsA]; exact hloc5)
                rw [← HE.out, ← halfG_set j hlt] at hro
                have hne : ∀ g, (Value.slice az lz cz).ownBlock = some g → w.heap.size + 1 ≤ g := fun g hgz => (World.ownsRow.lt FZ.out g hgz).1
                have ho5 : w5.ownsRow w.heap.size 26 1 (.slice (some ⟨w.heap.size, 0, none⟩) L.length L.length) L.length vs := World.ownsRow.kept (xa.ownsRow HO.out) hg5 (.inr (fun e => by have := hne w.heap.size e.symm; omega))
                have gf := ho5.frozenAt k
                have gs := (ho5.cellAt k (by omega)).trans HZV.out
                have hst := ho5.stored k v'
                obtain ⟨av, cv, hvf, _⟩ := f5.ints
                obtain ⟨lv, hlv⟩ : ∃ lv, lv = (rowE n T L L[k] j ++ [(j : Int)]).length := ⟨_, rfl⟩
                rw [← hlv] at hvf
                have hb5 : PairAt w5 b7 (p : Int) ((q : Int) + 1) := by
                  have h0 := HB.out.ext xa
                  have hb : ∀ g, (Value.slice az lz cz).ownBlock = some g → b7 < g := HK7.out _ HZV.out
                  exact ⟨World.grownBy.cell hg5 h0.1 (fun e => by have := hb b7 e.symm; omega), World.grownBy.cell hg5 h0.2 (fun e => by have := hb b7 e.symm; omega)⟩
                have hrn := hro.touch hst.2 (hro.low (Nat.lt_succ_self _))
                have RN := Lib.hid hrn
                have ON := Lib.hid hst.1
                have hxx : Ext w w5 := hk5 w (HX.out.trans xa) (by omega)
                have XN : Hid (Ext w (w5.setCell ⟨w.heap.size, k, none⟩ v')) := Lib.hid (hxx.setc (Nat.le_refl _))
                have ZN : Hid (w.heap.size < (w5.setCell ⟨w.heap.size, k, none⟩ v').heap.size) := Lib.hid (by have := HZ.out; have := xa.size; have := hg5.size; have := hst.2.size; omega)
                have BN : Hid (PairAt (w5.setCell ⟨w.heap.size, k, none⟩ v') b7 (p : Int) ((q : Int) + 1)) := Lib.hid (by
                  have := HB70.out
                  exact ⟨cell_offG (by dsimp only; omega) hb5.1, cell_offG (by dsimp only; omega) hb5.2⟩)
                have NN : Hid (NilFrom (vs.set k v') (k + 1)) := Lib.hid (fun i z hi hz => by
                  rw [List.getElem?_set_ne (by omega)] at hz
                  exact HN.out i z hi hz)
                have KN : Hid (Behind (vs.set k v') k b7) := Lib.hid (fun z hz g hg => by
                  rw [List.getElem?_set] at hz
                  split at hz
                  · split at hz
                    · cases hz
                      rcases hloc5 with e | e
                      · rw [e] at hg
                        exact HK7.out _ HZV.out g hg
                      · rw [e] at hg
                        cases hg
                        have h1 : b7 < (W.alloc (.cells #[.int .i64 j] 3)).heap.size := World.block_lt_of_cell? _ _ (HB.out.ext xa).1
                        rw [hsA] at h1
                        exact h1
                    · cases hz
                  · omega)
                subst hvf
                clear hlv hsA hro hne ho5 hst hb5 hrn hxx f5 hg5 hk5 hloc5 xa HR HO HZ HX HB HK7 HN FZ
                go_wp2
                go_roundw
                case rel => exact ⟨j + 1, _, by omega, by go_num, ON, RN, ZN, XN, BN, NN, KN⟩
                case measure => simp [intOf]; omega
        · obtain rfl : j = L.length := by omega
          have RN : Hid (Rows_ (w.heap.size + 1) wr vs (halfG n T L (k + 1) 0)) := Lib.hid (by rw [← halfG_next]; exact HR.out)
          clear HR HB HK7
          go_wp2
          go_roundw
          case rel => exact ⟨k + 1, vs, by omega, by go_num, HO, RN, HZ, HX, HN⟩
          case measure => simp [intOf]; omega
    · obtain rfl : k = L.length := by omega
      have RN : Hid (Rows_ (w.heap.size + 1) wr vs (graphP n T L)) := Lib.hid (by rw [← halfG_all]; exact HR.out)
      clear HR
      go_wp2
      go_ret
      have hgl : (graphP n T L).length = L.length := by simp [graphP]
      refine ⟨_, rfl, ⟨vs, ?_, RN.out.more (by omega), RN.out.low (g := w.heap.size) (by omega)⟩, HX.out⟩
      rw [hgl]
      exact HO.out
end Go.Proofs.YtcpmfcigciknlaaGreat

namespace Go.Proofs.YtcpmfcigciknlaaGreat
open Go.RowKit Go.Maps
set_option linter.unusedVariables false
theorem MapOf.hasNot {D : DataW Value} {S : Nat → Nat → Bool} {f : Nat → Nat → Value} (h : MapOf D S f) {p q : Nat} (hl : p ≤ 1048576 ∧ q ≤ 1048576) (hs : S p q = false) : Maps.has D (kl (p : Int) ((q : Int) + 1)) = false := by
  cases hb : Maps.has D (kl (p : Int) ((q : Int) + 1)) with
  | false => rfl
  | true =>
    obtain ⟨p', q', e, hs'⟩ := h.keys _ hb
    have hl' := h.low p' q' hs'
    by_cases e2 : p = p' ∧ q = q'
    · obtain ⟨rfl, rfl⟩ := e2
      rw [hs] at hs'
      cases hs'
    · exact absurd e (kl_ne hl hl' e2)
theorem lookOk_yes {W : World} {B n0 : Nat} {D : DataW Value} {S : Nat → Nat → Bool} {f : Nat → Nat → Value} (hm : RowMap W B n0 D) (hd : MapOf D S f) {p q : Nat} (hs : S p q = true) :
    (Instr.lookup 106 (.map (some B)) (.agg #[.int .i64 p, .int .i64 ((q : Int) + 1)]) true).run Tryz.prog W = .ok (.tuple #[f p q, .bool true]) W := by
  have hl := hd.low p q hs
  obtain ⟨v, ps, hrun, hv⟩ := hm.look_ok instKeyed Tryz.underlying106 (zeroRow W) (zd := .held _) (zp := []) rfl (keyOf_inst (a := p) (b := (q : Int) + 1) (wf_small (by omega) (by omega)) (wf_small (by omega) (by omega)))
  rw [hd.val p q hs] at hv
  rw [hd.has p q hs] at hrun
  simp only [asIs, Option.some.injEq, Prod.mk.injEq, DataW.held.injEq] at hv
  rw [hv.1] at hrun
  exact hrun
theorem lookOk_no {W : World} {B n0 : Nat} {D : DataW Value} {S : Nat → Nat → Bool} {f : Nat → Nat → Value} (hm : RowMap W B n0 D) (hd : MapOf D S f) {p q : Nat} (hl : p ≤ 1048576 ∧ q ≤ 1048576) (hs : S p q = false) :
    (Instr.lookup 106 (.map (some B)) (.agg #[.int .i64 p, .int .i64 ((q : Int) + 1)]) true).run Tryz.prog W = .ok (.tuple #[.agg #[.int .i64 0, .int .i64 0, .int .i64 0, .int .i64 0, .int .i64 0, .int .i64 0, .int .i64 0, .int .i64 0, .int .i64 0, .slice none 0 0], .bool false]) W := by
  have hn := hd.hasNot hl hs
  obtain ⟨v, ps, hrun, hv⟩ := hm.look_ok instKeyed Tryz.underlying106 (zeroRow W) (zd := .held _) (zp := []) rfl (keyOf_inst (a := p) (b := (q : Int) + 1) (wf_small (by omega) (by omega)) (wf_small (by omega) (by omega)))
  rw [Maps.atKey_of_not_has hn] at hv
  rw [hn] at hrun
  simp only [asIs, Option.some.injEq, Prod.mk.injEq, DataW.held.injEq] at hv
  rw [hv.1] at hrun
  exact hrun
theorem all_upto {L : List (Nat × Nat)} {S : Nat → Nat → Bool} {k : Nat} (h : k < L.length) (ha : (L.take k).all (fun x => S x.1 x.2) = true) (hs : S L[k].1 L[k].2 = true) : (L.take (k + 1)).all (fun x => S x.1 x.2) = true := by
  rw [List.take_add_one, List.getElem?_eq_getElem h, List.all_append, ha]
  simp [hs]
set_option maxHeartbeats 2000000 in
set_option maxRecDepth 100000 in
theorem areAllIn_any (n : Int) (T : List (List RowD)) (U : Nat → Nat → Value) (L : List (Nat × Nat)) (v : Value) (B n0 : Nat) (D : DataW Value) (S : Nat → Nat → Bool) (w : World) (hv : InstsAt w v L) (hlow : ∀ x ∈ L, x.1 ≤ 1048576 ∧ x.2 ≤ 1048576)
    (hm : RowMap w B n0 D) (hd : MapOf D S (rowF n T U)) (hC : ∀ p q, S p q = true → inT T p q = true) (hli : Lists w n T U) :
    Calls Tryz.prog 100 #[.map (some B), v] w (BoolExt (L.all fun x => S x.1 x.2) w) := by
  obtain ⟨b, hb⟩ : ∃ b, b = L.all fun x => S x.1 x.2 := ⟨_, rfl⟩
  rw [← hb]
  have HBB := Lib.hid hb
  have HM := Lib.hid hm
  have HD := Lib.hid hd
  have HC := Lib.hid hC
  have HLI := Lib.hid hli
  have HLOW := Lib.hid hlow
  obtain ⟨au, cu, rfl, hlu, _, hcu⟩ := hv
  unfold maxLen at hlu
  have HCU := Lib.hid hcu
  clear hm hd hC hli hlow hcu hb
  go_enter Tryz.func100, Tryz.ntmps100
  go_wp2
  go_loopw [11] (fun i wr => ∃ k : Nat, k ≤ L.length ∧ i = .int .i64 k ∧ Hid ((L.take k).all (fun x => S x.1 x.2) = true) ∧ Hid (Ext w wr)) (fun i _ => L.length - (intOf i).toNat)
  case atStart => exact ⟨0, Nat.zero_le _, rfl, Lib.hid (by simp), Lib.hid (Ext.refl _)⟩
  case round =>
    obtain ⟨k, hk, rfl, HA, HX⟩ := hrel
    by_cases hlt : k < L.length
    · obtain ⟨bu, ou, rfl, du⟩ := HCU.out (by omega)
      obtain ⟨q0, q1⟩ := du k hlt
      obtain ⟨x, hx⟩ : ∃ x, x = L[k] := ⟨_, rfl⟩
      rw [← hx] at q0 q1
      have g0 := HX.out.cell q0
      have g1 := HX.out.cell q1
      have hxl := HLOW.out x (by rw [hx]; exact List.getElem_mem hlt)
      have HXK := Lib.hid hx
      obtain ⟨p, q⟩ := x
      clear q0 q1 hx du
      cases hs : S p q with
      | true =>
        obtain ⟨au, cu', hUf, _⟩ := HLI.out p q (HC.out p q hs)
        have hlk := lookOk_yes (HM.out.ext (HX.out.alloc (.cells #[.int .i64 p, .int .i64 ((q : Int) + 1)] 101))) HD.out hs
        unfold rowF rowV at hlk
        obtain ⟨d, hd⟩ : ∃ d, d = rowOf n T p q := ⟨_, rfl⟩
        rw [← hd] at hlk hUf
        rw [hUf] at hlk
        have HN : Hid ((L.take (k + 1)).all (fun x => S x.1 x.2) = true) := Lib.hid (all_upto hlt HA.out (by rw [← HXK.out]; exact hs))
        clear hUf hd hs HA
        go_wp2
        go_roundw
        case rel => exact ⟨k + 1, by omega, by go_num, HN, Lib.hid ((HX.out.alloc _).alloc _)⟩
        case measure => simp [intOf]; omega
      | false =>
        have hlk := lookOk_no (HM.out.ext (HX.out.alloc (.cells #[.int .i64 p, .int .i64 ((q : Int) + 1)] 101))) HD.out hxl hs
        have hres : b = false := by
          rw [HBB.out, List.all_eq_false]
          refine ⟨(p, q), by rw [HXK.out]; exact List.getElem_mem hlt, ?_⟩
          simp [hs]
        subst hres
        clear hs HA
        go_wp2
        go_ret
        exact ⟨rfl, (HX.out.alloc _).alloc _⟩
    · obtain rfl : k = L.length := by omega
      have hres : b = true := by rw [HBB.out]; have h := HA.out; rwa [List.take_length] at h
      subst hres
      clear HA
      go_wp2
      go_ret
      exact ⟨rfl, HX.out⟩
end Go.Proofs.YtcpmfcigciknlaaGreat

namespace Go.Proofs.YtcpmfcigciknlaaGreat
open Go.RowKit
set_option linter.unusedVariables false
theorem tab_res (w : World) (n : Int) (u : Value) (T T' : TypeId) :
    AttrAt ((w.alloc (.cells #[.int .i64 n, u] T)).alloc (.cells #[.int .i64 0, .int .i64 0, .int .i64 0, .int .i64 0, .int .i64 0, .int .i64 0, .int .i64 0, .int .i64 0, .int .i64 0, .slice none 0 0] T')) w.heap.size n u ∧
    RowAt ((w.alloc (.cells #[.int .i64 n, u] T)).alloc (.cells #[.int .i64 0, .int .i64 0, .int .i64 0, .int .i64 0, .int .i64 0, .int .i64 0, .int .i64 0, .int .i64 0, .int .i64 0, .slice none 0 0] T')) (w.heap.size + 1) ⟨0, 0, 0, 0, 0, 0, 0, 0, 0, []⟩ (.slice none 0 0) ∧
      FreeAt ((w.alloc (.cells #[.int .i64 n, u] T)).alloc (.cells #[.int .i64 0, .int .i64 0, .int .i64 0, .int .i64 0, .int .i64 0, .int .i64 0, .int .i64 0, .int .i64 0, .int .i64 0, .slice none 0 0] T')) (w.heap.size + 1) := by
  refine ⟨⟨?_, ?_⟩, ⟨?_, ?_, ?_, ?_, ?_, ?_, ?_, ?_, ?_, ?_⟩, ⟨?_, ?_, ?_, ?_, ?_, ?_, ?_, ?_, ?_, ?_⟩⟩ <;> go_simp
set_option maxHeartbeats 2000000 in
set_option maxRecDepth 100000 in
theorem l4At_any (n : Int) (u : Value) (T : List (List RowD)) (p q : Nat) (w : World) (hu : Rowzz w u T) (hg : goodTab n T = true) (hp : p < T.length) (hq : q ≤ 5) :
    Calls Tryz.prog 65 #[.agg #[.int .i64 n, u], .int .i64 p, .int .i64 ((q : Int) + 1)] w (NewRow (rowOf n T p q) w) := by
  have hu0 := hu
  obtain ⟨au, cu, rfl, hlu, _, hcu⟩ := hu
  unfold maxLen at hlu
  obtain ⟨bu, ou, rfl, du⟩ := hcu (by omega)
  obtain ⟨x, hx1, ix⟩ := du p hp
  obtain ⟨R, hR⟩ : ∃ R, R = T[p] := ⟨_, rfl⟩
  rw [← hR] at ix
  obtain ⟨wb, hwb⟩ : ∃ wb, wb = (w.alloc (.cells #[.int .i64 n, .slice (some ⟨bu, ou, none⟩) T.length cu] 32)).alloc (.cells #[.int .i64 0, .int .i64 0, .int .i64 0, .int .i64 0, .int .i64 0, .int .i64 0, .int .i64 0, .int .i64 0, .int .i64 0, .slice none 0 0] 83) := ⟨_, rfl⟩
  have ho := tab_res w n (.slice (some ⟨bu, ou, none⟩) T.length cu) 32 83
  rw [← hwb] at ho
  have xb : Ext w wb := by rw [hwb]; exact ((Ext.refl w).alloc _).alloc _
  have sb : w.heap.size + 2 ≤ wb.heap.size := by rw [hwb]; simp
  have gx := xb.cell hx1
  have ixb := ix.ext xb
  obtain ⟨ax, cx, rfl, hlx, _, hcx⟩ := ixb
  unfold maxLen at hlx
  have hgrp := (goodTab_of hg).1
  by_cases hqt : q < R.length
  · have hqt' : q < T[p].length := by rw [← hR]; exact hqt
    have hrow := goodTab_row hg hp hqt'
    have e : rowOf n T p q = R[q] := by rw [rowOf_in hp hqt']; simp only [hR]
    rw [e]
    obtain ⟨d, hd⟩ : ∃ d, d = R[q] := ⟨_, rfl⟩
    obtain ⟨bx, ox, rfl, dx⟩ := hcx (by omega)
    obtain ⟨y, hy1, iy⟩ := dx q hqt
    rw [← hd] at hy1 iy ⊢
    have hdl : d.l.length ≤ 1048576 := by have : d = T[p][q] := by rw [hd]; simp only [hR]
                                          rw [this]; omega
    have HWB := Lib.hid hwb
    have HO := Lib.hid ho
    have IY := Lib.hid iy
    have SB := Lib.hid sb
    obtain ⟨g0, g1, g2, g3, g4, g5, g6, g7, g8, g9⟩ := hy1
    obtain ⟨t0, t1⟩ := ho.1
    have hq0 : (q : Int) ≤ 5 := by omega
    have hq1 : (q : Int) + 1 ≤ R.length := by omega
    rw [hwb] at g0 g1 g2 g3 g4 g5 g6 g7 g8 g9 gx t0 t1
    clear hwb ho hu0 hcu du hx1 ix hR hcx dx iy hd hrow hqt' e hg hgrp sb
    go_enter Tryz.func65, Tryz.ntmps65
    go_wp2_with fail
    rw [← HWB.out]
    refine (l4OwnRow_any d y _ IY.out hdl).mono ?_
    rintro e w1 ⟨v, rfl, f1, x1⟩
    have hx := xb.trans x1
    obtain ⟨o0, o1, o2, o3, o4, o5, o6, o7, o8, o9⟩ := HO.out.2.1.ext x1
    obtain ⟨z0, z1, z2, z3, z4, z5, z6, z7, z8, z9⟩ := HO.out.2.2.ext (by have := SB.out; omega) x1
    obtain ⟨ay, cy, rfl⟩ := f1.form
    have F := Lib.hid f1
    clear f1 x1 xb g0 g1 g2 g3 g4 g5 g6 g7 g8 g9 gx t0 t1
    go_wp2
    refine bodyPost_ret (v := .agg #[.int .i64 d.b, .int .i64 d.v, .int .i64 d.st, .int .i64 d.k, .int .i64 d.i, .int .i64 d.f, .int .i64 d.t, .int .i64 d.a, .int .i64 d.s, .slice ay d.l.length cy]) (by simp [results, Tryz.results65, go_sem, o0, o1, o2, o3, o4, o5, o6, o7, o8, o9]) rfl ⟨_, rfl, ?_, ?_⟩
    · exact ((((((((((F.out.set _ _ _ (by have := SB.out; omega)).set _ _ _ (by have := SB.out; omega)).set _ _ _ (by have := SB.out; omega)).set _ _ _ (by have := SB.out; omega)).set _ _ _ (by have := SB.out; omega)).set _ _ _ (by have := SB.out; omega)).set _ _ _ (by have := SB.out; omega)).set _ _ _ (by have := SB.out; omega)).set _ _ _ (by have := SB.out; omega)).set _ _ _ (by have := SB.out; omega)).more (by have := SB.out; omega)
    · exact (((((((((hx.setc (by dsimp only; omega)).setc (by dsimp only; omega)).setc (by dsimp only; omega)).setc (by dsimp only; omega)).setc (by dsimp only; omega)).setc (by dsimp only; omega)).setc (by dsimp only; omega)).setc (by dsimp only; omega)).setc (by dsimp only; omega)).setc (by dsimp only; omega)
  · have e : rowOf n T p q = emptyR n := rowOf_out hp (by rw [← hR]; omega)
    rw [e]
    obtain ⟨L, hL⟩ : ∃ L, L = noneL n := ⟨_, rfl⟩
    have hc := fun W => l3None_any n W hgrp
    have hLE : emptyR n = ⟨0, 0, 0, 0, 0, 0, 0, 0, 0, L⟩ := by rw [hL]; rfl
    rw [← hL] at hc
    rw [hLE]
    have HC := Lib.hid hc
    have HWB := Lib.hid hwb
    have HO := Lib.hid ho
    have SB := Lib.hid sb
    obtain ⟨t0, t1⟩ := ho.1
    have hq0 : (q : Int) ≤ 5 := by omega
    have hq1 : (R.length : Int) < (q : Int) + 1 := by omega
    rw [hwb] at gx t0 t1
    clear hwb ho hu0 hcu du hx1 ix hR hcx e hg hgrp sb hL hc hLE hqt
    go_enter Tryz.func65, Tryz.ntmps65
    go_wp2_with fail
    rw [← HWB.out]
    refine (HC.out _).mono ?_
    rintro e w1 ⟨v, rfl, f1, x1⟩
    have hx := xb.trans x1
    obtain ⟨o0, o1, o2, o3, o4, o5, o6, o7, o8, o9⟩ := HO.out.2.1.ext x1
    obtain ⟨z0, z1, z2, z3, z4, z5, z6, z7, z8, z9⟩ := HO.out.2.2.ext (by have := SB.out; omega) x1
    obtain ⟨ay, cy, rfl⟩ := f1.form
    have F := Lib.hid f1
    clear f1 x1 xb gx t0 t1
    go_wp2
    refine bodyPost_ret (v := .agg #[.int .i64 0, .int .i64 0, .int .i64 0, .int .i64 0, .int .i64 0, .int .i64 0, .int .i64 0, .int .i64 0, .int .i64 0, .slice ay L.length cy]) (by simp [results, Tryz.results65, go_sem, o0, o1, o2, o3, o4, o5, o6, o7, o8, o9]) rfl ⟨_, rfl, ?_, ?_⟩
    · exact ((((((((((F.out.set _ _ _ (by have := SB.out; omega)).set _ _ _ (by have := SB.out; omega)).set _ _ _ (by have := SB.out; omega)).set _ _ _ (by have := SB.out; omega)).set _ _ _ (by have := SB.out; omega)).set _ _ _ (by have := SB.out; omega)).set _ _ _ (by have := SB.out; omega)).set _ _ _ (by have := SB.out; omega)).set _ _ _ (by have := SB.out; omega)).set _ _ _ (by have := SB.out; omega)).more (by have := SB.out; omega)
    · exact (((((((((hx.setc (by dsimp only; omega)).setc (by dsimp only; omega)).setc (by dsimp only; omega)).setc (by dsimp only; omega)).setc (by dsimp only; omega)).setc (by dsimp only; omega)).setc (by dsimp only; omega)).setc (by dsimp only; omega)).setc (by dsimp only; omega)).setc (by dsimp only; omega)
end Go.Proofs.YtcpmfcigciknlaaGreat

namespace Go.Proofs.YtcpmfcigciknlaaGreat
open Go.RowKit
set_option linter.unusedVariables false
structure OpenRow (w : World) (b : Nat) : Prop where
  row : RowAt w b zeroR (.slice none 0 0)
  free : FreeAt w b
  lt : b < w.heap.size
theorem OpenRow.ext {w w' : World} {b : Nat} (h : OpenRow w b) (e : Ext w w') : OpenRow w' b := ⟨h.row.ext e, h.free.ext h.lt e, Nat.lt_of_lt_of_le h.lt e.size⟩
end Go.Proofs.YtcpmfcigciknlaaGreat

namespace Go.Proofs.YtcpmfcigciknlaaGreat
open Go.RowKit
set_option linter.unusedVariables false
theorem dep_in {n : Int} {T : List (List RowD)} (hg : goodTab n T = true) {p : Nat} (hp : p < T.length) (q k : Nat) : 0 ≤ depI (rowOf n T p q) k ∧ depI (rowOf n T p q) k ≤ 6 := by
  have hz : ∀ j : Nat, (noneL n)[j]?.getD 0 = 0 := fun j => by
    unfold noneL
    split
    · rw [List.getElem?_replicate]
      split <;> rfl
    · rfl
  by_cases hq : q < T[p].length
  · rw [rowOf_in hp hq]
    have h := (goodTab_row hg hp hq).1
    unfold goodRow at h
    simp only [Bool.and_eq_true] at h
    have h2 := h.2
    unfold depI
    split at h2
    · unfold emptyB sameA at h2
      simp only [Bool.and_eq_true, decide_eq_true_eq] at h2
      rw [h2.2.2, hz]
      omega
    · unfold fullB at h2
      simp only [Bool.and_eq_true] at h2
      have h3 := (goodD_of h2.2).2.2
      by_cases hk : k < T[p][q].l.length
      · rw [List.getElem?_eq_getElem hk, Option.getD_some]
        have := List.all_eq_true.1 h3 _ (List.getElem_mem hk)
        unfold inB at this
        simp at this
        omega
      · rw [List.getElem?_eq_none (by omega)]
        simp
  · rw [rowOf_out hp (by omega)]
    unfold depI emptyR
    rw [hz]
    omega
end Go.Proofs.YtcpmfcigciknlaaGreat
