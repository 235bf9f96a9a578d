/- Texts of this proof, part i: words, plain facts, contracts. -/
import Derived.Test.YtihknedmkkakhaaMFnComponentsd
import Derived.Test.YtihknedmkkakhaaMFnComponentsf
import Derived.Test.YtihknedmkkakhaaMFnComponentsa
import Derived.Maps.Own
import Derived.Maps.OwnOps
import Derived.Maps.Views

namespace Go.Proofs.Ytihknedmkkakhaa
open Go.RowKit
set_option linter.unusedVariables false

def reachOk (g : List (List Int)) (k : Int) : Bool := goodG g && inB k 0 ((g.length : Int) - 1)
noncomputable def reachA (g : List (List Int)) (k : Int) : List Int := if reachOk g k then reachL g k else []
theorem inB_of {n lo hi : Int} (h : inB n lo hi = true) : lo ≤ n ∧ n ≤ hi := by
  unfold inB at h
  simpa using h

set_option maxHeartbeats 2000000 in
theorem specReachedFrom_any (v : Value) (g : List (List Int)) (k : Int) (w : World) (hv : Intss w v g) :
    Calls Try.prog 19 #[v, .int .i64 k] w (TwoInts (reachA g k) (reachOk g k) w) := by
  have HV := Lib.hid hv
  obtain ⟨av, cv, rfl, hlv, hcap, hcv⟩ := hv
  unfold maxLen at hlv
  clear hcap hcv
  cases hg : goodG g with
  | false =>
    have h1 : reachOk g k = false := by unfold reachOk; rw [hg]; rfl
    have h2 : reachA g k = [] := by unfold reachA; rw [h1]; rfl
    rw [h1, h2]
    have HG := Lib.hid hg
    clear hg h1 h2
    go_enter Try.func19, Try.ntmps19
    go_wp2_with fail
    refine (specGoodGraph_any _ _ _ HV.out).mono ?_
    rintro e w1 ⟨rfl, x1⟩
    rw [HG.out]
    go_wp2
    go_ret2
    exact ⟨_, rfl, World.ownsRow_nil _ _ _ _, x1⟩
  | true =>
    cases hi : inB k 0 ((g.length : Int) - 1) with
    | false =>
      have h1 : reachOk g k = false := by unfold reachOk; rw [hg, hi]; rfl
      have h2 : reachA g k = [] := by unfold reachA; rw [h1]; rfl
      rw [h1, h2]
      have HG := Lib.hid hg
      have HI := Lib.hid hi
      clear hg hi h1 h2
      go_enter Try.func19, Try.ntmps19
      go_wp2_with fail
      refine (specGoodGraph_any _ _ _ HV.out).mono ?_
      rintro e w1 ⟨rfl, x1⟩
      rw [HG.out]
      go_wp2_with fail
      refine (l1In_any _ _ _ _).mono ?_
      rintro e w' ⟨rfl, rfl⟩
      rw [HI.out]
      go_wp2
      go_ret2
      exact ⟨_, rfl, World.ownsRow_nil _ _ _ _, x1⟩
    | true =>
      have h1 : reachOk g k = true := by unfold reachOk; rw [hg, hi]; rfl
      have h2 : reachA g k = reachL g k := by unfold reachA; rw [h1]; rfl
      rw [h1, h2]
      obtain ⟨ha, hb⟩ := goodG_of hg
      obtain ⟨hc, hd⟩ := inB_of hi
      obtain ⟨m, rfl⟩ : ∃ m : Nat, k = (m : Int) := ⟨k.toNat, by omega⟩
      have hm : m < g.length := by omega
      have hb' : g.length ≤ 1048576 := by omega
      obtain ⟨R, hR⟩ : ∃ R, R = reachL g m := ⟨_, rfl⟩
      have hr := fun W h => l5Reached_any (.slice av g.length cv) g m W h ha hb' hm
      rw [← hR] at hr ⊢
      have HR := Lib.hid hr
      have HG := Lib.hid hg
      have HI := Lib.hid hi
      clear hg hi h1 h2 ha hb hc hd hm hb' hr hR
      go_enter Try.func19, Try.ntmps19
      go_wp2_with fail
      refine (specGoodGraph_any _ _ _ HV.out).mono ?_
      rintro e w1 ⟨rfl, x1⟩
      rw [HG.out]
      go_wp2_with fail
      refine (l1In_any _ _ _ _).mono ?_
      rintro e w' ⟨rfl, rfl⟩
      rw [HI.out]
      go_wp2_with fail
      refine (HR.out _ (HV.out.ext x1)).mono ?_
      rintro e w2 ⟨v2, rfl, f2, x2⟩
      have F2 := Lib.hid (f2.more x1.size)
      have hx := x1.trans x2
      clear f2 x1 x2
      go_wp2
      go_ret2
      exact ⟨_, rfl, F2.out, hx⟩

/-- Of the points of the list those that lead to points of the list alone. -/
noncomputable def shutB (g : List (List Int)) (l : List Int) (p : Int) : Bool := (reachL g p).all fun n => hasI l n
noncomputable def closedL (g : List (List Int)) (l : List Int) : List Int := l.filter (shutB g l)
def closedOk (g : List (List Int)) (l : List Int) : Bool := goodG g && riseB l 0 ((g.length : Int) - 1)
noncomputable def closedA (g : List (List Int)) (l : List Int) : List Int := if closedOk g l then closedL g l else []
theorem filter_succ {l : List Int} {k : Nat} (h : k < l.length) (p : Int → Bool) : (l.take (k + 1)).filter p = (l.take k).filter p ++ (if p l[k] then [l[k]] else []) := by
  rw [List.take_add_one, List.getElem?_eq_getElem h, List.filter_append]
  cases hp : p l[k] <;> simp [hp]

theorem all_succ (l : List Int) {k : Nat} (h : k < l.length) (p : Int → Bool) : (l.take (k + 1)).all p = ((l.take k).all p && p l[k]) := by
  rw [List.take_add_one, List.getElem?_eq_getElem h, List.all_append]
  simp

set_option maxHeartbeats 4000000 in
theorem specClosedIn_good (v u : Value) (g : List (List Int)) (l : List Int) (w : World) (hv : Intss w v g) (hu : Ints w u l) (hok : closedOk g l = true) :
    Calls Try.prog 22 #[v, u] w (TwoInts (closedL g l) true w) := by
  have HV := Lib.hid hv
  have HU := Lib.hid hu
  obtain ⟨av, cv, rfl, hlv, hcap, hcv⟩ := hv
  obtain ⟨au, cu, rfl, hlu, hcu, du⟩ := hu
  unfold maxLen at hlv hlu
  clear hcap hcv hcu
  have hok' := hok
  unfold closedOk at hok'
  rw [Bool.and_eq_true] at hok'
  obtain ⟨hg, hi⟩ := hok'
  obtain ⟨ha, hb⟩ := goodG_of hg
  obtain ⟨hc, hd⟩ := riseB_of hi
  have hll := rises_len 0 g.length hc (fun x hx => by have := hd x hx; omega) (by omega)
  have hb' : g.length ≤ 1048576 := by omega
  have hr := fun (m : Nat) (hm : m < g.length) W h => l5Reached_any (.slice av g.length cv) g m W h ha hb' hm
  have hl40 : l.length ≤ 40 := by omega
  have hrl : ∀ m, (reachL g m).length ≤ 40 := fun m => Nat.le_trans (reachL_len g m) hb
  obtain ⟨P, hP⟩ : ∃ P, P = shutB g l := ⟨_, rfl⟩
  have hPs : ∀ p, P p = (reachL g p).all fun n => hasI l n := fun p => by rw [hP]; rfl
  obtain ⟨C, hC⟩ : ∃ C, C = closedL g l := ⟨_, rfl⟩
  have hCs : C = l.filter P := by rw [hC, hP]; rfl
  rw [← hC]
  have HR := Lib.hid hr
  have HG := Lib.hid hg
  have HI := Lib.hid hi
  have HD := Lib.hid hd
  have HRL := Lib.hid hrl
  have HP := Lib.hid hPs
  have HC := Lib.hid hCs
  have DU := Lib.hid du
  clear hok hg hi ha hb hc hd hll hb' hr hrl hP hPs hC hCs du
  go_enter Try.func22, Try.ntmps22
  go_wp2_with fail
  refine (specGoodGraph_any _ _ _ HV.out).mono ?_
  rintro e w1 ⟨rfl, x1⟩
  rw [HG.out]
  go_wp2_with fail
  refine (l1Rising_any _ _ _ _ _ (HU.out.ext x1)).mono ?_
  rintro e w2 ⟨rfl, x2⟩
  have hx2 := x1.trans x2
  clear x1 x2
  rw [HI.out]
  go_wp2
  go_loopw [6, 8, 9, 11, 25] (fun vo _ _ _ i wr => ∃ t : Nat, t ≤ l.length ∧ i = .int .i64 t ∧ Fresh w.heap.size wr vo ((l.take t).filter P) ∧ Ext w wr) (fun _ _ _ _ i _ => l.length - (intOf i).toNat)
  case atStart => exact ⟨0, Nat.zero_le _, rfl, World.ownsRow_nil _ _ _ _, hx2⟩
  case round =>
    obtain ⟨t, ht, rfl, hf, hx⟩ := hrel
    by_cases hlt : t < l.length
    · obtain ⟨bu, ou, rfl, eu⟩ := DU.out (by omega)
      have gu := hx.cell (eu t hlt)
      rw [List.getElem?_eq_getElem hlt, Option.getD_some] at gu
      have hb := HD.out _ (List.getElem_mem hlt)
      obtain ⟨m, hm⟩ : ∃ m : Nat, l[t] = (m : Int) := ⟨l[t].toNat, by omega⟩
      have hmg : m < g.length := by omega
      have hfs := filter_succ hlt P
      rw [hm] at gu hfs
      have HF := Lib.hid hf
      have HX := Lib.hid hx
      have HFS := Lib.hid hfs
      clear eu hb hm hf hx hfs
      go_wp2_with fail
      refine (HR.out m hmg _ (HV.out.ext HX.out)).mono ?_
      rintro e w3 ⟨v3, rfl, f3, x3⟩
      obtain ⟨a3, c3, rfl, hl3, _, d3⟩ := f3.ints
      have hl40' := HRL.out (m : Int)
      have HF3 := Lib.hid (HF.out.ext x3)
      have HX3 := Lib.hid (HX.out.trans x3)
      have D3 := Lib.hid d3
      clear x3 gu HF HX d3 f3 hl3
      go_wp2
      go_loopw [9, 11, 33] (fun b _ i wr => ∃ s : Nat, s ≤ (reachL g m).length ∧ i = .int .i64 s ∧ b = .bool (((reachL g m).take s).all fun n => hasI l n) ∧ Ext w3 wr) (fun _ _ i _ => (reachL g m).length - (intOf i).toNat)
      case atStart => exact ⟨0, Nat.zero_le _, rfl, by simp, Ext.refl _⟩
      case round =>
        obtain ⟨s, hs, rfl, hb, hx4⟩ := hrel
        by_cases hls : s < (reachL g m).length
        · obtain ⟨b3, o3, rfl, e3⟩ := D3.out (by omega)
          have g3 := hx4.cell (e3 s hls)
          rw [List.getElem?_eq_getElem hls, Option.getD_some] at g3
          have hsc := all_succ (reachL g m) hls (fun n => hasI l n)
          obtain ⟨n, hn⟩ : ∃ n, n = (reachL g m)[s] := ⟨_, rfl⟩
          rw [← hn] at g3 hsc
          have HSC := Lib.hid hsc
          have HX4 := Lib.hid hx4
          clear e3 hsc hx4 hn
          cases hall : ((reachL g m).take s).all fun n => hasI l n with
          | true =>
            rw [hall] at hb HSC
            subst hb
            go_wp2_with fail
            refine (l1Has_any _ l n _ (HU.out.ext (HX3.out.trans HX4.out))).mono ?_
            rintro e w5 ⟨rfl, x5⟩
            have hx5 := HX4.out.trans x5
            clear x5 g3
            obtain ⟨hb, hhb⟩ : ∃ hb, hb = hasI l n := ⟨_, rfl⟩
            rw [← hhb] at HSC ⊢
            clear hhb
            go_wp2
            go_roundw
            case rel => exact ⟨s + 1, by omega, by go_num, by rw [HSC.out]; simp, hx5⟩
            case measure => simp [intOf]; omega
          | false =>
            rw [hall] at hb HSC
            subst hb
            go_wp2
            go_roundw
            case rel => exact ⟨s + 1, by omega, by go_num, by rw [HSC.out]; simp, HX4.out⟩
            case measure => simp [intOf]; omega
        · obtain rfl : s = (reachL g m).length := by omega
          rw [List.take_length, ← HP.out] at hb
          subst hb
          have HX4 := Lib.hid hx4
          clear hx4
          cases hp : P m with
          | true =>
            have hfs := HFS.out
            rw [hp, if_pos rfl] at hfs
            have HFS2 := Lib.hid hfs
            have hfl : ((l.take t).filter P).length ≤ 1099511627776 := by
              have h1 := List.length_filter_le P (l.take t)
              have h2 : (l.take t).length ≤ t := by simp; omega
              omega
            have HFL := Lib.hid hfl
            have HF4 := Lib.hid (HF3.out.ext HX4.out)
            have HX5 := Lib.hid (HX3.out.trans HX4.out)
            clear hfs hfl HFS HF3 HX3 HX4
            go_wp2_with (at_builtin; refine wpList_push rfl _ _ rfl w.heap.size _ _ (m : Int) rfl (HF4.out.ext (Ext.alloc (Ext.refl _) _)) ⟨wr.heap.size, 0, none⟩ 1 rfl (cell_alloc_one _ _ _) HFL.out (size_alloc_le HX5.out.size) ?_)
            intro v4 w4 f4 g4 k4
            have e4 : Ext w w4 := k4 w (HX5.out.alloc _) (Nat.le_refl _)
            have F4 := Lib.hid f4
            have E4 := Lib.hid e4
            clear f4 g4 k4 e4
            go_wp2
            go_roundw
            case rel => exact ⟨t + 1, by omega, by go_num, by rw [HFS2.out]; exact F4.out, E4.out⟩
            case measure => simp [intOf]; omega
          | false =>
            have hfs := HFS.out
            rw [hp, if_neg (by simp), List.append_nil] at hfs
            have HFS2 := Lib.hid hfs
            have HF4 := Lib.hid (HF3.out.ext HX4.out)
            have HX5 := Lib.hid (HX3.out.trans HX4.out)
            clear hfs HFS HF3 HX3 HX4
            go_wp2
            go_roundw
            case rel => exact ⟨t + 1, by omega, by go_num, by rw [HFS2.out]; exact HF4.out, HX5.out⟩
            case measure => simp [intOf]; omega
    · obtain rfl : t = l.length := by omega
      rw [List.take_length, ← HC.out] at hf
      have HF := Lib.hid hf
      clear hf
      go_wp2
      go_ret2
      exact ⟨_, rfl, HF.out, hx⟩

set_option maxHeartbeats 2000000 in
theorem specClosedIn_any (v u : Value) (g : List (List Int)) (l : List Int) (w : World) (hv : Intss w v g) (hu : Ints w u l) :
    Calls Try.prog 22 #[v, u] w (TwoInts (closedA g l) (closedOk g l) w) := by
  cases hok : closedOk g l with
  | true =>
    have h2 : closedA g l = closedL g l := by unfold closedA; rw [hok]; rfl
    rw [h2]
    exact specClosedIn_good v u g l w hv hu hok
  | false =>
    have h2 : closedA g l = [] := by unfold closedA; rw [hok]; rfl
    rw [h2]
    have HV := Lib.hid hv
    have HU := Lib.hid hu
    obtain ⟨av, cv, rfl, hlv, hcap, hcv⟩ := hv
    unfold maxLen at hlv
    clear hcap hcv hu h2
    cases hg : goodG g with
    | false =>
      have HG := Lib.hid hg
      clear hg hok
      go_enter Try.func22, Try.ntmps22
      go_wp2_with fail
      refine (specGoodGraph_any _ _ _ HV.out).mono ?_
      rintro e w1 ⟨rfl, x1⟩
      rw [HG.out]
      go_wp2
      go_ret2
      exact ⟨_, rfl, World.ownsRow_nil _ _ _ _, x1⟩
    | true =>
      have hi : riseB l 0 ((g.length : Int) - 1) = false := by
        unfold closedOk at hok
        rw [hg] at hok
        exact hok
      have HG := Lib.hid hg
      have HI := Lib.hid hi
      clear hg hok hi
      go_enter Try.func22, Try.ntmps22
      go_wp2_with fail
      refine (specGoodGraph_any _ _ _ HV.out).mono ?_
      rintro e w1 ⟨rfl, x1⟩
      rw [HG.out]
      go_wp2_with fail
      refine (l1Rising_any _ _ _ _ _ (HU.out.ext x1)).mono ?_
      rintro e w2 ⟨rfl, x2⟩
      have hx2 := x1.trans x2
      clear x1 x2
      rw [HI.out]
      go_wp2
      go_ret2
      exact ⟨_, rfl, World.ownsRow_nil _ _ _ _, hx2⟩

end Go.Proofs.Ytihknedmkkakhaa

namespace Go.Proofs.Ytihknedmkkakhaa
open Go.RowKit
set_option linter.unusedVariables false

theorem AtB.done {w wr : World} {bs : List Bool} {vl : Value} {left : List Int} (h : AtB w wr bs vl left) :
    (wr.setRow w.heap.size (marksB bs)).heap[w.heap.size]? = some (.cells (marksB bs) 63 (0, 0)) ∧ Ext w (wr.setRow w.heap.size (marksB bs)) := by
  refine ⟨setRow_heap wr w.heap.size _ _ _ _ h.out, ?_⟩
  refine ⟨h.ext.os, h.ext.tape, h.ext.output, by simpa using h.ext.size, fun k hk => ?_⟩
  rw [setRow_other wr w.heap.size k _ (by omega)]
  exact Below.block h.ext k hk

theorem nil_or_last (l : List Int) : l = [] ∨ ∃ (r : List Int) (p : Int), l = r ++ [p] := by
  rcases List.eq_nil_or_concat l with h | ⟨r, p, h⟩
  · exact .inl h
  · exact .inr ⟨r, p, by rw [h, List.concat_eq_append]⟩

def Marks40 (bs : List Bool) (w : World) (e : Ending) (w' : World) : Prop := e = .returned (.agg (marksB bs)) ∧ Ext w w'

set_option maxHeartbeats 4000000 in
theorem ledFrom_any (v : Value) (g : List (List Int)) (k : Nat) (w : World) (hv : Intss w v g) (hg : rowsB g = true) (hs : g.length ≤ 40) (hk : k < g.length) :
    Calls Try.prog 48 #[v, .int .i64 k] w (Marks40 (ledL g k) w) := by
  have HG := Lib.hid hg
  have HS := Lib.hid hs
  have HK := Lib.hid hk
  obtain ⟨av, cv, rfl, hlv, hcap, hcv⟩ := hv
  have hk40 : k < 40 := by omega
  have HCV := Lib.hid hcv
  have HST := Lib.hid (atB_start w k hk40)
  have HL := Lib.hid (And.intro (Led.start g k hk40) (roomB_start k hk40))
  clear hg hlv hcap hcv hs hk
  go_enter Try.func48, Try.ntmps48
  go_wp2
  go_loopg [6, 7, 9] 40 (fun n vl _ _ wr => ∃ (bs : List Bool) (left : List Int), Hid (Led g k bs left ∧ roomB bs left ≤ n) ∧ n ≤ 40 ∧ AtB w wr bs vl left)
  case atStart => exact ⟨_, _, Lib.hid ⟨HL.out.1, Nat.le_of_eq HL.out.2⟩, Nat.le_refl _, HST.out⟩
  case round =>
    obtain ⟨bs, left, hL, hgk40, hA⟩ := hrel
    clear HST HL
    rcases nil_or_last left with rfl | ⟨left, p, rfl⟩
    · obtain ⟨ao, cap, rfl, _⟩ := hA.left.ints
      have hb := hL.out.1.all
      have hd := hA.done
      have hl := hA.led
      have ho := hA.out
      have hz : (marksB bs).size = 40 := by rw [marksB_size, hL.out.1.len]
      have HB := Lib.hid hb
      have HD := Lib.hid hd
      have HLL := Lib.hid hl
      have HO := Lib.hid ho
      have HZ := Lib.hid hz
      clear hb hd hl ho hz hA hL
      go_wp2_with (first
        | (refine wpList_load_row rfl 63 _ rfl (w.heap.size + 1) rfl _ _ _ _ HLL.out Try.underlying63 rfl (by rw [HZ.out]; exact Try.infoFourty) ?_)
        | (refine wpList_store_row rfl 63 _ _ rfl w.heap.size (marksB bs) rfl rfl _ _ HO.out (by rw [HZ.out]; exact Try.infoFourty) (by rw [HZ.out]; rfl) (marksB_all _) ?_))
      refine bodyPost_ret (v := .agg (marksB bs)) (results_cell_row Try.results48 _ _ w.heap.size 63 (marksB bs) (0, 0) _ rfl HD.out.1 Try.underlying63 rfl (by rw [HZ.out]; exact Try.infoFourty)) rfl ⟨by rw [HB.out], HD.out.2⟩
    · obtain ⟨t, ht⟩ : ∃ t, left.length = t := ⟨_, rfl⟩
      have hon := hL.out.1.stack p (by simp)
      have hin := reach_in HG.out (by have := HK.out; omega) (hL.out.1.reach p hon)
      obtain ⟨q, rfl⟩ : ∃ q : Nat, p = (q : Int) := ⟨p.toNat, by omega⟩
      have hqg : q < g.length := by omega
      have hroom : roomB bs left + 1 ≤ gk := by rw [← roomB_pop bs left (q : Int)]; exact hL.out.2
      have hpop := Lib.hid (And.intro hL.out.1.pop hroom)
      have hgk : 0 < gk := by omega
      have hlen : (left ++ [(q : Int)]).length = t + 1 := by simp [ht]
      obtain ⟨am, cm, hvl, hlm, hcm, dm⟩ := hA.left.ints
      rw [hlen] at hvl hlm hcm dm
      subst hvl
      obtain ⟨bm, om, rfl, em⟩ := dm (by omega)
      have gm := em t (by omega)
      have hlast : (left ++ [(q : Int)])[t]?.getD 0 = (q : Int) := by
        subst ht
        simp
      rw [hlast] at gm
      have hA2 := AtB.less ht hA
      obtain ⟨bg, og, rfl, dg⟩ := HCV.out (by omega)
      obtain ⟨x, hx1, ix⟩ := dg q hqg
      rw [List.getElem?_eq_getElem hqg, Option.getD_some] at ix
      have gg := hA.ext.cell hx1
      have HR := Lib.hid (rowG_at hqg)
      obtain ⟨ax, cx, rfl, hlx, hcx, dx⟩ := ix
      have DX := Lib.hid dx
      have HA2 := Lib.hid hA2
      have HT := Lib.hid ht
      obtain ⟨htc, _⟩ := hcm
      unfold maxLen at hlx hlm
      clear hon hin hroom hlen dm em hlast hA hA2 dg hx1 dx hcx hL ht HCV
      go_wp2
      go_loopw [6, 9, 33] (fun vl _ i w2 => ∃ (s : Nat) (bs' : List Bool) (left' : List Int), i = .int .i64 s ∧ s ≤ g[q].length ∧ Hid (LedAt g k q s bs' left' ∧ roomB bs' left' + 1 ≤ gk) ∧ AtB w w2 bs' vl left') (fun _ _ i _ => g[q].length - (intOf i).toNat)
      case atStart => exact ⟨0, bs, left, rfl, Nat.zero_le _, hpop, HA2.out⟩
      case round =>
        obtain ⟨s, bs', left', rfl, hsl, hL', hA'⟩ := hrel
        clear HA2 hpop gm gg
        by_cases hsi : s < g[q].length
        · obtain ⟨bx, ox, rfl, ex⟩ := DX.out (by omega)
          have gx := hA'.ext.cell (ex s hsi)
          rw [List.getElem?_eq_getElem hsi, Option.getD_some] at gx
          have hsr : s < (rowG g q).length := by rw [HR.out]; exact hsi
          have hn : (rowG g q)[s] = g[q][s] := by simp only [HR.out]
          have hni := row_in HG.out (List.getElem_mem hsr)
          obtain ⟨m, hm⟩ : ∃ m : Nat, g[q][s] = (m : Int) := ⟨g[q][s].toNat, by omega⟩
          rw [hm] at gx hn
          have hm40 : m < 40 := by have := HS.out; omega
          have hml : m < bs'.length := by rw [hL'.out.1.len]; exact hm40
          have hb : bs'[m]? = some bs'[m] := List.getElem?_eq_getElem hml
          have gc := hA'.cell hb
          have gf := hA'.free m
          have HSR := Lib.hid hsr
          have HN := Lib.hid hn
          cases hbb : bs'[m] with
          | true =>
            rw [hbb] at gc hb
            have HB := Lib.hid hb
            have HA := Lib.hid hA'
            clear ex hn hni hm hb hbb hA' hml
            go_wp2
            go_roundw
            case rel => exact ⟨s + 1, bs', left', by go_num, by omega, Lib.hid ⟨hL'.out.1.known HSR.out (by rw [HN.out]; exact ⟨m, rfl, HB.out⟩), hL'.out.2⟩, HA.out⟩
            case measure => simp [intOf]; omega
          | false =>
            rw [hbb] at gc hb
            have hA3 := hA'.mark m
            have hroom' := roomB_add (left := left') (m : Int) hb
            have hl40 : left'.length ≤ 40 := by
              have h1 := hL'.out.2
              unfold roomB at h1
              omega
            have hszc : (wr.setCell ⟨w.heap.size + 1, m, none⟩ (.bool true)).heap.size = wr.heap.size := by simp
            have hcell := cell_alloc_one (wr.setCell ⟨w.heap.size + 1, m, none⟩ (.bool true)) (.int .i64 m) 3
            rw [hszc] at hcell
            have HB := Lib.hid hb
            have HA := Lib.hid hA3
            have HC := Lib.hid hcell
            have HRM := Lib.hid hroom'
            clear ex hn hni hm hb hbb hA' hA3 hml hszc hcell hroom'
            go_wp2_with (at_builtin; refine wpList_push rfl _ _ rfl (w.heap.size + 2) _ left' (m : Int) rfl (HA.out.left.ext (Ext.alloc (Ext.refl _) _)) ⟨wr.heap.size, 0, none⟩ 1 rfl HC.out (by omega) (size_alloc_le HA.out.size) ?_)
            intro v4 w4 f4 g4 k4
            have hA4 := HA.out.push f4 g4 k4
            have HA4 := Lib.hid hA4
            clear f4 g4 k4 hA4 HA HC gc gf
            go_wp2
            go_roundw
            case rel => exact ⟨s + 1, _, _, by go_num, by omega, Lib.hid ⟨hL'.out.1.add HSR.out HN.out hm40, by rw [HRM.out]; exact hL'.out.2⟩, HA4.out⟩
            case measure => simp [intOf]; omega
        · have hst : (rowG g q).length ≤ s := by rw [HR.out]; omega
          have hN := hL'.out.1.next hst
          have HN := Lib.hid (And.intro hN hL'.out.2)
          have HA := Lib.hid hA'
          clear hN hA' hst hL'
          go_wp2
          go_roundg (gk - 1)
          case rel => exact ⟨bs', left', Lib.hid ⟨HN.out.1, by have := HN.out.2; omega⟩, by omega, HA.out⟩
          case measure => omega

end Go.Proofs.Ytihknedmkkakhaa

namespace Go.Proofs.Ytihknedmkkakhaa
open Go.RowKit
set_option linter.unusedVariables false

theorem index40 (bs : List Bool) (j : Nat) (h : j < 40) (b : Bool) (hb : bs[j]? = some b) (W : World) : (Instr.index 63 (.agg (marksB bs)) (.int .i64 j)).run Try.prog W = .ok (.bool b) W := by
  have hc : Try.prog.cellsOf 4 = 1 := by kernel_rfl
  have hg : (marksB bs)[j]? = some (.bool b) := by rw [marksB_get, hb]; rfl
  have hp : (part 4 (marksB bs) j).run Try.prog W = .ok (.bool b) W := by
    unfold part
    go_simp
  unfold Instr.index
  go_simp

open Classical in
theorem ledL_step (g : List (List Int)) (k : Int) {i : Nat} (h : i < 40) : ∃ b, (ledL g k)[i]? = some b ∧ toldL g k (i + 1) = (if b then toldL g k i ++ [(i : Int)] else toldL g k i) := by
  by_cases hr : Reach g k (i : Int)
  · exact ⟨true, by rw [ledL_get g k h, decide_eq_true hr], by rw [toldL_hit hr]; rfl⟩
  · exact ⟨false, by rw [ledL_get g k h, decide_eq_false hr], by rw [toldL_miss hr]; rfl⟩

set_option maxHeartbeats 2000000 in
theorem implReached_good (v : Value) (g : List (List Int)) (k : Nat) (w : World) (hv : Intss w v g) (hg : goodG g = true) (hk : k < g.length) :
    Calls Try.prog 16 #[v, .int .i64 k] w (TwoInts (reachL g k) true w) := by
  have HV := Lib.hid hv
  obtain ⟨av, cv, rfl, hlv, hcap, hcv⟩ := hv
  unfold maxLen at hlv
  clear hcap hcv
  obtain ⟨ha, hb⟩ := goodG_of hg
  have hall := toldL_all ha hb (k := (k : Int)) (by omega)
  have hled := fun W h => ledFrom_any (.slice av g.length cv) g k W h ha hb hk
  have hstep := fun (i : Nat) (h : i < 40) => ledL_step g (k : Int) h
  have h0 : toldL g (k : Int) 0 = [] := rfl
  have hlen := toldL_len g (k : Int)
  obtain ⟨T, hT⟩ : ∃ T, T = toldL g (k : Int) := ⟨_, rfl⟩
  obtain ⟨R, hR⟩ : ∃ R, R = ledL g (k : Int) := ⟨_, rfl⟩
  obtain ⟨Z, hZ⟩ : ∃ Z, Z = reachL g (k : Int) := ⟨_, rfl⟩
  rw [← hT] at h0 hall hstep hlen
  rw [← hR] at hled hstep
  rw [← hZ] at hall ⊢
  have HLED := Lib.hid hled
  have HSTEP := Lib.hid hstep
  have HALL := Lib.hid hall
  have HLEN := Lib.hid hlen
  have HG := Lib.hid hg
  have H0 := Lib.hid h0
  clear hg ha hb hall hled hstep h0 hlen hT hR hZ
  go_enter Try.func16, Try.ntmps16
  go_wp2_with fail
  refine (implGoodGraph_any _ _ _ HV.out).mono ?_
  rintro e w1 ⟨rfl, x1⟩
  rw [HG.out]
  go_wp2_with fail
  refine (HLED.out _ (HV.out.ext x1)).mono ?_
  rintro e w2 ⟨rfl, x2⟩
  have hx2 := x1.trans x2
  clear x1 x2
  go_wp2
  go_loopw [6, 7, 8, 25] (fun vo _ _ i wr => ∃ t : Nat, t ≤ 40 ∧ i = .int .i64 t ∧ Fresh w.heap.size wr vo (T t) ∧ Ext w wr) (fun _ _ _ i _ => 40 - (intOf i).toNat)
  case atStart => exact ⟨0, Nat.zero_le _, rfl, by rw [H0.out]; exact World.ownsRow_nil _ _ _ _, hx2⟩
  case round =>
    clear hx2
    obtain ⟨t, ht, rfl, hf, hx⟩ := hrel
    by_cases hlt : t < 40
    · obtain ⟨b, hb, hn⟩ := HSTEP.out t hlt
      have hix := index40 R t hlt b hb
      have hfl : (T t).length ≤ 1099511627776 := by have := HLEN.out t; omega
      have HF := Lib.hid hf
      have HX := Lib.hid hx
      have HN := Lib.hid hn
      clear hf hx hn hb
      cases b with
      | true =>
        go_wp2_with (at_builtin; refine wpList_push rfl _ _ rfl w.heap.size _ (T t) (t : Int) rfl (HF.out.ext (Ext.alloc (Ext.refl _) _)) ⟨wr.heap.size, 0, none⟩ 1 rfl (cell_alloc_one _ _ _) hfl (size_alloc_le HX.out.size) ?_)
        intro v4 w4 f4 g4 k4
        have e4 : Ext w w4 := k4 w (HX.out.alloc _) (Nat.le_refl _)
        have F4 := Lib.hid f4
        have E4 := Lib.hid e4
        clear f4 g4 k4 e4 hix
        go_wp2
        go_roundw
        case rel => exact ⟨t + 1, by omega, by go_num, by rw [HN.out]; exact F4.out, E4.out⟩
        case measure => simp [intOf]; omega
      | false =>
        go_wp2
        go_roundw
        case rel => exact ⟨t + 1, by omega, by go_num, by rw [HN.out]; exact HF.out, HX.out⟩
        case measure => simp [intOf]; omega
    · obtain rfl : t = 40 := by omega
      rw [HALL.out] at hf
      have HF := Lib.hid hf
      clear hf
      go_wp2
      go_ret2
      exact ⟨_, rfl, HF.out, hx⟩

set_option maxHeartbeats 2000000 in
theorem implReachedFrom_any (v : Value) (g : List (List Int)) (k : Int) (w : World) (hv : Intss w v g) :
    Calls Try.prog 16 #[v, .int .i64 k] w (TwoInts (reachA g k) (reachOk g k) w) := by
  cases hok : reachOk g k with
  | true =>
    have h2 : reachA g k = reachL g k := by unfold reachA; rw [hok]; rfl
    rw [h2]
    have h := hok
    unfold reachOk at h
    rw [Bool.and_eq_true] at h
    obtain ⟨hc, hd⟩ := inB_of h.2
    obtain ⟨m, rfl⟩ : ∃ m : Nat, k = (m : Int) := ⟨k.toNat, by omega⟩
    exact implReached_good v g m w hv h.1 (by omega)
  | false =>
    have h2 : reachA g k = [] := by unfold reachA; rw [hok]; rfl
    rw [h2]
    have HV := Lib.hid hv
    obtain ⟨av, cv, rfl, hlv, hcap, hcv⟩ := hv
    unfold maxLen at hlv
    clear hcap hcv h2
    cases hg : goodG g with
    | false =>
      have HG := Lib.hid hg
      clear hg hok
      go_enter Try.func16, Try.ntmps16
      go_wp2_with fail
      refine (implGoodGraph_any _ _ _ HV.out).mono ?_
      rintro e w1 ⟨rfl, x1⟩
      rw [HG.out]
      go_wp2
      go_ret2
      exact ⟨_, rfl, World.ownsRow_nil _ _ _ _, x1⟩
    | true =>
      have hi : inB k 0 ((g.length : Int) - 1) = false := by
        unfold reachOk at hok
        rw [hg] at hok
        exact hok
      have hbad : ¬ (0 ≤ k ∧ k ≤ (g.length : Int) - 1) := fun h => by rw [inB_yes h.1 h.2] at hi; cases hi
      have HG := Lib.hid hg
      clear hg hok hi
      by_cases h0 : k < 0
      · clear hbad
        go_enter Try.func16, Try.ntmps16
        go_wp2_with fail
        refine (implGoodGraph_any _ _ _ HV.out).mono ?_
        rintro e w1 ⟨rfl, x1⟩
        rw [HG.out]
        go_wp2
        go_ret2
        exact ⟨_, rfl, World.ownsRow_nil _ _ _ _, x1⟩
      · have h1 : (g.length : Int) ≤ k := by omega
        have h3 : 0 ≤ k := by omega
        clear hbad h0
        go_enter Try.func16, Try.ntmps16
        go_wp2_with fail
        refine (implGoodGraph_any _ _ _ HV.out).mono ?_
        rintro e w1 ⟨rfl, x1⟩
        rw [HG.out]
        go_wp2
        go_ret2
        exact ⟨_, rfl, World.ownsRow_nil _ _ _ _, x1⟩

end Go.Proofs.Ytihknedmkkakhaa

namespace Go.Proofs.Ytihknedmkkakhaa
open Go.RowKit Go.Maps
set_option linter.unusedVariables false

theorem plainElem_bool_inv {H : Type} {P : Program} {e : TypeId} (he : P.underlying e = some .bool) {v : Value} {z : DataW H × List MemPlace} (h : plainElem P e v = some z) : ∃ x, v = .bool x ∧ z = (.lit (.bool x), []) := by
  unfold plainElem at h
  rw [he] at h
  cases v <;> simp at h
  subst h
  exact ⟨_, rfl, rfl⟩
theorem lookup_bool {H : Type} {P : Program} {w : World} {k t e : TypeId} {b n : Nat} {D : DataW H} (h : w.ownsMap P k (plainElem P e) b n D) (K : Keyed P k) (ht : P.underlying t = some (.map k e)) (he : P.underlying e = some .bool) (hz : (zeroValue e).run P w = .ok (.bool false) w)
    {key : Value} {kl : Lit} (hkey : keyOf P k key = some kl) : ∃ c, (Instr.lookup t (.map (some b)) key false).run P w = .ok (.bool c) w ∧ D.atKey kl (.lit (.bool false)) = .lit (.bool c) := by
  obtain ⟨v, ps, hrun, hv⟩ := h.lookup K ht hz (plainElem_bool he false) hkey
  obtain ⟨c, rfl, hc⟩ := plainElem_bool_inv he hv
  simp only [Prod.mk.injEq] at hc
  exact ⟨c, hrun, hc.1⟩

/-- The set of the first numbers, as a datum. -/
def setI (l : List Int) : DataW Unit := l.foldl (fun m x => m.put (.int .i64 x) (.lit (.bool true))) (.map [])
theorem setI_snoc (l : List Int) (x : Int) : setI (l ++ [x]) = (setI l).put (.int .i64 x) (.lit (.bool true)) := by simp [setI]
theorem setI_map (l : List Int) : IsMap (setI l) := by
  unfold setI
  suffices h : ∀ (l : List Int) (m : DataW Unit), IsMap m → IsMap (l.foldl (fun m x => m.put (.int .i64 x) (.lit (.bool true))) m) from h l _ isMap_empty
  intro l
  induction l with
  | nil => intro m h; exact h
  | cons x l ih => intro m h; exact ih _ (h.put _ _)
theorem fold_at (x : Int) : ∀ (l : List Int) (m : DataW Unit), IsMap m → (l.foldl (fun m x => m.put (.int .i64 x) (.lit (.bool true))) m).atKey (.int .i64 x) (.lit (.bool false)) = if hasI l x then .lit (.bool true) else m.atKey (.int .i64 x) (.lit (.bool false)) := by
  intro l
  induction l with
  | nil => intro m _; simp [hasI]
  | cons y l ih =>
    intro m hm
    rw [List.foldl_cons, ih _ (hm.put _ _)]
    by_cases h : y = x
    · subst h
      rw [atKey_put_same hm (by trivial)]
      have e : hasI (y :: l) y = true := by simp [hasI]
      rw [e]
      split <;> rfl
    · rw [atKey_put_other (by simp; exact fun e => h e.symm)]
      have e : hasI (y :: l) x = hasI l x := by simp [hasI, h]
      rw [e]
theorem setI_at (l : List Int) (x : Int) : (setI l).atKey (.int .i64 x) (.lit (.bool false)) = .lit (.bool (hasI l x)) := by
  unfold setI
  rw [fold_at x l _ isMap_empty]
  cases hasI l x <;> rfl

/-- The block b is a map that holds the set of l. -/
def SetAt (b n : Nat) (w : World) (l : List Int) : Prop := w.ownsMap Try.prog 3 (plainElem Try.prog 4) b n (setI l)
theorem Try.keyedInt : Keyed Try.prog 3 := int_keyed Try.underlying3
theorem Try.zeroBool (w : World) : (zeroValue 4).run Try.prog w = .ok (.bool false) w := by kernel_rfl
theorem SetAt.ask {b n : Nat} {w : World} {l : List Int} (h : SetAt b n w l) (x : Int) (hx : wf64 x) : (Instr.lookup 74 (.map (some b)) (.int .i64 x) false).run Try.prog w = .ok (.bool (hasI l x)) w := by
  obtain ⟨c, hrun, hat⟩ := lookup_bool h Try.keyedInt Try.underlying74 Try.underlying4 (Try.zeroBool w) (keyOf_int_mk Try.underlying3 hx)
  rw [setI_at] at hat
  cases hat
  exact hrun
theorem SetAt.ext {b n : Nat} {w w' : World} {l : List Int} (h : SetAt b n w l) (e : Ext w w') : SetAt b n w' l := by
  obtain ⟨es, clock, hb, rest⟩ := h
  exact ⟨es, clock, e.block hb, rest⟩
theorem SetAt.made (w : World) : SetAt w.heap.size 0 (w.alloc (.map #[] 0)) [] := World.ownsMap_made _ _ _ _
theorem run_makeMap_sized (n : Nat) (w : World) : (Instr.makeMap 74 (some (.int .i64 (n : Int)))).run Try.prog w = .ok (.map (some w.heap.size)) (w.alloc (.map #[] 0)) := by
  unfold Instr.makeMap
  simp [asInt, asIntOf]

end Go.Proofs.Ytihknedmkkakhaa

namespace Go.Proofs.Ytihknedmkkakhaa
open Go.RowKit Go.Maps
set_option linter.unusedVariables false

def MapNew (l : List Int) (w : World) (e : Ending) (w' : World) : Prop := ∃ b, e = .returned (.map (some b)) ∧ SetAt b l.length w' l ∧ Ext w w'

set_option maxHeartbeats 800000 in
theorem numbersOf_lists (v : Value) (l : List Int) (w : World) (hv : Ints w v l) (hwf : ∀ x ∈ l, wf64 x) (hl : l.length ≤ 1099511627776) :
    Calls Try.prog 54 #[v] w (MapNew l w) := by
  obtain ⟨av, cv, rfl, hlv, _, hcv⟩ := hv
  unfold maxLen at hlv
  have hmm := run_makeMap_sized l.length
  have HWF := Lib.hid hwf
  clear hwf
  go_enter Try.func54, Try.ntmps54
  go_wp2
  go_loopw [5, 11] (fun _ i wr => ∃ k : Nat, k ≤ l.length ∧ i = .int .i64 k ∧ SetAt w.heap.size k wr (l.take k) ∧ Ext w wr) (fun _ i _ => l.length - (intOf i).toNat)
  case atStart => exact ⟨0, Nat.zero_le _, rfl, SetAt.made w, Ext.alloc (Ext.refl _) _⟩
  case round =>
    clear hmm
    obtain ⟨k, hk, rfl, hs, hx⟩ := hrel
    by_cases hlt : k < l.length
    · obtain ⟨bv, ov, rfl, dv⟩ := hcv (by omega)
      have gv := hx.cell (dv k hlt)
      clear hcv dv
      have hkey : keyOf Try.prog 3 (.int .i64 l[k]) = some (.int .i64 l[k]) := keyOf_int_mk Try.underlying3 (HWF.out _ (List.getElem_mem hlt))
      go_wp2_with (at_mapUpdate; refine wpList_mapUpdate_own _ rfl _ _ _ 74 rfl 3 4 Try.keyedInt Try.underlying74 _ w.heap.size k _ rfl hs (by unfold maxLen; omega) _ _ _ rfl rfl hkey _ [] (plainElem_bool Try.underlying4 true) ?_; intro w1 hs1 hg1)
      have hx1 : Ext w w1 := Below.grown hx hg1 hx.size (fun q hq => by cases hq; exact Nat.le_refl _)
      have hs2 : SetAt w.heap.size (k + 1) w1 (l.take (k + 1)) := by
        unfold SetAt
        rw [List.take_add_one, List.getElem?_eq_getElem hlt, Option.toList, setI_snoc]
        exact hs1
      clear hs hs1 hg1 hx hkey
      go_wp2
      go_roundw
      case rel => exact ⟨k + 1, by omega, by go_num, hs2, hx1⟩
      case measure => simp [intOf]; omega
    · obtain rfl : k = l.length := by omega
      have ht : l.take l.length = l := List.take_length
      rw [ht] at hs
      go_wp2
      go_ret
      exact ⟨_, rfl, hs, hx⟩

end Go.Proofs.Ytihknedmkkakhaa

namespace Go.Proofs.Ytihknedmkkakhaa
open Go.RowKit Go.Maps
set_option linter.unusedVariables false

open Classical in
theorem shutB_no {g : List (List Int)} (hg : rowsB g = true) {l : List Int} {p : Int} (hp : 0 ≤ p ∧ p < g.length) {t : Nat} (ht : t < 40) (hb : (ledL g p)[t]? = some true) (hn : hasI l (t : Int) = false) : shutB g l p = false := by
  rw [ledL_get g p ht] at hb
  have hr : Reach g p (t : Int) := by simpa using hb
  unfold shutB
  rw [List.all_eq_false]
  exact ⟨(t : Int), (reachL_mem hg hp _).2 hr, by rw [hn]; simp⟩
open Classical in
theorem shutB_yes {g : List (List Int)} (hg : rowsB g = true) (hl : g.length ≤ 40) {l : List Int} {p : Int} (hp : 0 ≤ p ∧ p < g.length) (h : ∀ t : Nat, t < 40 → (ledL g p)[t]? = some true → hasI l (t : Int) = true) : shutB g l p = true := by
  unfold shutB
  rw [List.all_eq_true]
  intro x hx
  have hr := (reachL_mem hg hp x).1 hx
  have hi := reach_in hg hp hr
  obtain ⟨t, rfl⟩ : ∃ t : Nat, x = (t : Int) := ⟨x.toNat, by omega⟩
  have ht : t < 40 := by omega
  exact h t ht (by rw [ledL_get g p ht, decide_eq_true hr])

set_option maxRecDepth 100000 in
set_option maxHeartbeats 4000000 in
theorem implClosed_good (v u : Value) (g : List (List Int)) (l : List Int) (w : World) (hv : Intss w v g) (hu : Ints w u l) (hok : closedOk g l = true) :
    Calls Try.prog 21 #[v, u] w (TwoInts (closedL g l) true w) := by
  have HV := Lib.hid hv
  have HU := Lib.hid hu
  obtain ⟨av, cv, rfl, hlv, hcap, hcv⟩ := hv
  obtain ⟨au, cu, rfl, hlu, hcu, du⟩ := hu
  unfold maxLen at hlv hlu
  clear hcap hcv hcu
  have hok' := hok
  unfold closedOk at hok'
  rw [Bool.and_eq_true] at hok'
  obtain ⟨hg, hi⟩ := hok'
  obtain ⟨ha, hb⟩ := goodG_of hg
  obtain ⟨hc, hd⟩ := riseB_of hi
  have hll := rises_len 0 g.length hc (fun x hx => by have := hd x hx; omega) (by omega)
  have hl40 : l.length ≤ 40 := by omega
  have hwf : ∀ x ∈ l, wf64 x := fun x hx => by
    have := hd x hx
    exact WalkArith.wf_i64 (by omega)
  have hled := fun (m : Nat) (hm : m < g.length) W h => ledFrom_any (.slice av g.length cv) g m W h ha hb hm
  obtain ⟨P, hP⟩ : ∃ P, P = shutB g l := ⟨_, rfl⟩
  obtain ⟨C, hC⟩ : ∃ C, C = closedL g l := ⟨_, rfl⟩
  have hCs : C = l.filter P := by rw [hC, hP]; rfl
  have hno := fun (m : Nat) (hm : m < g.length) (t : Nat) (ht : t < 40) => shutB_no ha (l := l) (p := (m : Int)) (by omega) ht
  have hyes := fun (m : Nat) (hm : m < g.length) => shutB_yes ha hb (l := l) (p := (m : Int)) (by omega)
  have hsz := fun (m : Int) (t : Nat) (ht : t < 40) => ledL_step g m ht
  rw [← hC]
  rw [← hP] at hno hyes
  obtain ⟨R, hR⟩ : ∃ R, R = ledL g := ⟨_, rfl⟩
  rw [← hR] at hled hno hyes hsz
  have HLED := Lib.hid hled
  have HNO := Lib.hid hno
  have HYES := Lib.hid hyes
  have HSZ := Lib.hid hsz
  have HG := Lib.hid hg
  have HI := Lib.hid hi
  have HD := Lib.hid hd
  have HC := Lib.hid hCs
  have DU := Lib.hid du
  have HWF := Lib.hid hwf
  clear hok hg hi ha hb hc hd hll hled hno hyes hP hC hR hCs du hsz hwf
  go_enter Try.func21, Try.ntmps21
  go_wp2
  go_step3
  go_wp2_with fail
  refine (implGoodGraph_any _ _ _ HV.out).mono ?_
  rintro e w1 ⟨rfl, x1⟩
  rw [HG.out]
  go_wp2_with fail
  refine (isRisingBelow_any _ _ g.length _ (HU.out.ext x1) (by omega)).mono ?_
  rintro e w2 ⟨rfl, x2⟩
  have hx2 := x1.trans x2
  clear x1 x2
  rw [HI.out]
  go_wp2_with fail
  refine (numbersOf_lists _ _ _ (HU.out.ext hx2) HWF.out (by omega)).mono ?_
  rintro e w3 ⟨bm, rfl, hs, x3⟩
  have HS := Lib.hid hs
  have hx3 := hx2.trans x3
  have hx3s := hx3.size
  clear hs hx2 x3
  go_wp2
  go_step3
  go_wp2
  go_loopg [7, 9, 10, 11, 26] l.length (fun n vo _ _ _ i wr => ∃ t : Nat, t + n = l.length ∧ i = .int .i64 t ∧ Fresh w3.heap.size wr vo ((l.take t).filter P) ∧ Ext w3 wr ∧ Ext w wr)
  case atStart => exact ⟨0, by omega, rfl, World.ownsRow_nil _ _ _ _, Ext.refl _, hx3⟩
  case round =>
    clear hx3
    obtain ⟨t, ht, rfl, hf, hx3, hx⟩ := hrel
    by_cases hlt : t < l.length
    · obtain ⟨bu, ou, rfl, eu⟩ := DU.out (by omega)
      have gu := hx.cell (eu t hlt)
      rw [List.getElem?_eq_getElem hlt, Option.getD_some] at gu
      have hb := HD.out _ (List.getElem_mem hlt)
      obtain ⟨m, hm⟩ : ∃ m : Nat, l[t] = (m : Int) := ⟨l[t].toNat, by omega⟩
      have hmg : m < g.length := by omega
      have hfs := filter_succ hlt P
      rw [hm] at gu hfs
      have HF := Lib.hid hf
      have HX := Lib.hid hx
      have HX3 := Lib.hid hx3
      have HFS := Lib.hid hfs
      obtain ⟨wo, hwo⟩ : ∃ wo : World, wo = wr := ⟨_, rfl⟩
      subst hwo
      obtain ⟨go, hgo⟩ : ∃ n : Nat, n = gk := ⟨_, rfl⟩
      subst hgo
      clear eu hb hm hf hx hx3 hfs
      go_wp2_with fail
      refine (HLED.out m hmg _ (HV.out.ext HX.out)).mono ?_
      rintro e w4 ⟨rfl, x4⟩
      have HF4 := Lib.hid (HF.out.ext x4)
      have HX4 := Lib.hid (HX.out.trans x4)
      have HS4 := Lib.hid (HS.out.ext (HX3.out.trans x4))
      have HX34 := Lib.hid (HX3.out.trans x4)
      clear x4 gu HF HX HX3
      go_wp2
      go_loopg [10, 11, 33] 40 (fun n _ _ i w5 => ∃ s : Nat, s + n = 40 ∧ i = .int .i64 s ∧ Hid (∀ r : Nat, r < s → (R m)[r]? = some true → hasI l (r : Int) = true) ∧ Ext w4 w5)
      case atStart => exact ⟨0, by omega, rfl, Lib.hid (fun r hr => by omega), Ext.refl _⟩
      case round =>
        obtain ⟨s, hs, rfl, hall, hx5⟩ := hrel
        by_cases hls : s < 40
        · obtain ⟨b, hb, _⟩ := HSZ.out (m : Int) s hls
          have hix := index40 (R m) s hls b hb
          have HB := Lib.hid hb
          clear hb
          cases b with
          | false =>
            have HN : Hid (∀ r : Nat, r < s + 1 → (R m)[r]? = some true → hasI l (r : Int) = true) := Lib.hid (fun r hr hq => by
              by_cases e : r = s
              · subst e
                rw [HB.out] at hq; cases hq
              · exact hall.out r (by omega) hq)
            clear hall
            go_wp2
            go_roundg (39 - s)
            case rel => exact ⟨s + 1, by omega, by go_num, HN, hx5⟩
            case measure => omega
          | true =>
            have hask := (HS4.out.ext hx5).ask (s : Int) (WalkArith.wf_i64 (by omega))
            cases hh : hasI l (s : Int) with
            | true =>
              rw [hh] at hask
              have HN : Hid (∀ r : Nat, r < s + 1 → (R m)[r]? = some true → hasI l (r : Int) = true) := Lib.hid (fun r hr hq => by
                by_cases e : r = s
                · subst e
                  exact hh
                · exact hall.out r (by omega) hq)
              clear hall hh
              go_wp2
              go_roundg (39 - s)
              case rel => exact ⟨s + 1, by omega, by go_num, HN, hx5⟩
              case measure => omega
            | false =>
              rw [hh] at hask
              have hp := HNO.out m hmg s hls HB.out hh
              have hfs := HFS.out
              rw [hp, if_neg (by simp), List.append_nil] at hfs
              have HFS2 := Lib.hid hfs
              have HF5 := Lib.hid (HF4.out.ext hx5)
              have HX5 := Lib.hid (HX4.out.trans hx5)
              have HX35 := Lib.hid (HX34.out.trans hx5)
              clear hall hh hp hfs hx5
              go_wp2
              go_roundg (go - 1)
              case rel => exact ⟨t + 1, by omega, by go_num, by rw [HFS2.out]; exact HF5.out, HX35.out, HX5.out⟩
              case measure => omega
        · obtain rfl : s = 40 := by omega
          have hp := HYES.out m hmg (fun r hr => hall.out r hr)
          have hfs := HFS.out
          rw [hp, if_pos rfl] at hfs
          have HFS2 := Lib.hid hfs
          have hfl : ((l.take t).filter P).length ≤ 1099511627776 := by
            have h1 := List.length_filter_le P (l.take t)
            have h2 : (l.take t).length ≤ t := by simp; omega
            omega
          have HF5 := Lib.hid (HF4.out.ext hx5)
          have HX5 := Lib.hid (HX4.out.trans hx5)
          have HX35 := Lib.hid (HX34.out.trans hx5)
          have HFL := Lib.hid hfl
          clear hfs hfl hall hp hx5
          go_wp2_with (at_builtin; refine wpList_push rfl _ _ rfl w3.heap.size _ _ (m : Int) rfl (HF5.out.ext (Ext.alloc (Ext.refl _) _)) ⟨wr.heap.size, 0, none⟩ 1 rfl (cell_alloc_one _ _ _) HFL.out (size_alloc_le HX35.out.size) ?_)
          intro v6 w6 f6 g6 k6
          have e6 : Ext w w6 := k6 w (HX5.out.alloc _) hx3s
          have e36 : Ext w3 w6 := k6 w3 (HX35.out.alloc _) (Nat.le_refl _)
          have F6 := Lib.hid f6
          have E6 := Lib.hid e6
          have E36 := Lib.hid e36
          clear f6 g6 k6 e6 e36
          go_wp2
          go_roundg (go - 1)
          case rel => exact ⟨t + 1, by omega, by go_num, by rw [HFS2.out]; exact F6.out, E36.out, E6.out⟩
          case measure => omega
    · obtain rfl : t = l.length := by omega
      rw [List.take_length, ← HC.out] at hf
      have HF := Lib.hid hf
      clear hf
      go_wp2
      try rw [Exit.noGoto_ret]
      go_ret2
      exact ⟨_, rfl, HF.out.more hx3s, hx⟩

set_option maxHeartbeats 2000000 in
theorem implClosedIn_any (v u : Value) (g : List (List Int)) (l : List Int) (w : World) (hv : Intss w v g) (hu : Ints w u l) :
    Calls Try.prog 21 #[v, u] w (TwoInts (closedA g l) (closedOk g l) w) := by
  cases hok : closedOk g l with
  | true =>
    have h2 : closedA g l = closedL g l := by unfold closedA; rw [hok]; rfl
    rw [h2]
    exact implClosed_good v u g l w hv hu hok
  | false =>
    have h2 : closedA g l = [] := by unfold closedA; rw [hok]; rfl
    rw [h2]
    have HV := Lib.hid hv
    have HU := Lib.hid hu
    obtain ⟨av, cv, rfl, hlv, hcap, hcv⟩ := hv
    unfold maxLen at hlv
    clear hcap hcv hu h2
    cases hg : goodG g with
    | false =>
      have HG := Lib.hid hg
      clear hg hok
      go_enter Try.func21, Try.ntmps21
      go_wp2
      go_step3
      go_wp2_with fail
      refine (implGoodGraph_any _ _ _ HV.out).mono ?_
      rintro e w1 ⟨rfl, x1⟩
      rw [HG.out]
      go_wp2
      try rw [Exit.noGoto_ret]
      go_ret2
      exact ⟨_, rfl, World.ownsRow_nil _ _ _ _, x1⟩
    | true =>
      have hi : riseB l 0 ((g.length : Int) - 1) = false := by
        unfold closedOk at hok
        rw [hg] at hok
        exact hok
      have HG := Lib.hid hg
      have HI := Lib.hid hi
      clear hg hok hi
      go_enter Try.func21, Try.ntmps21
      go_wp2
      go_step3
      go_wp2_with fail
      refine (implGoodGraph_any _ _ _ HV.out).mono ?_
      rintro e w1 ⟨rfl, x1⟩
      rw [HG.out]
      go_wp2_with fail
      refine (isRisingBelow_any _ _ g.length _ (HU.out.ext x1) (by omega)).mono ?_
      rintro e w2 ⟨rfl, x2⟩
      have hx2 := x1.trans x2
      clear x1 x2
      rw [HI.out]
      go_wp2
      try rw [Exit.noGoto_ret]
      go_ret2
      exact ⟨_, rfl, World.ownsRow_nil _ _ _ _, hx2⟩

end Go.Proofs.Ytihknedmkkakhaa
