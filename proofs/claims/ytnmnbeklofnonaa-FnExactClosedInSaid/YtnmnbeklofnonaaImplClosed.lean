/- Contract of the program's ClosedIn. -/
import Derived.Test.YtnmnbeklofnonaaImplReach
import Derived.Test.YtnmnbeklofnonaaNumbers
namespace Go.Proofs.Ytnmnbeklofnonaa
open Go.RowKit Go.Maps
set_option linter.unusedVariables false

open Classical in
theorem shutB_no {g : List (List Int)} (hg : rowsB g = true) {l : List Int} {p : Int} (hp : 0 ≤ p ∧ p < g.length) {t : Nat} (ht : t < 40) (hb : (ledL g p)[t]? = some true) (hn : hasI l (t : Int) = false) : shutB g l p = false := by
  rw [ledL_get g p ht] at hb
  have hr : Reach g p (t : Int) := by simpa using hb
  unfold shutB
  rw [List.all_eq_false]
  exact ⟨(t : Int), (reachL_mem hg hp _).2 hr, by rw [hn]; simp⟩
open Classical in
theorem shutB_yes {g : List (List Int)} (hg : rowsB g = true) (hl : g.length ≤ 40) {l : List Int} {p : Int} (hp : 0 ≤ p ∧ p < g.length) (h : ∀ t : Nat, t < 40 → (ledL g p)[t]? = some true → hasI l (t : Int) = true) : shutB g l p = true := by
  unfold shutB
  rw [List.all_eq_true]
  intro x hx
  have hr := (reachL_mem hg hp x).1 hx
  have hi := reach_in hg hp hr
  obtain ⟨t, rfl⟩ : ∃ t : Nat, x = (t : Int) := ⟨x.toNat, by omega⟩
  have ht : t < 40 := by omega
  exact h t ht (by rw [ledL_get g p ht, decide_eq_true hr])

set_option maxRecDepth 100000 in
set_option maxHeartbeats 4000000 in
theorem implClosed_good (v u : Value) (g : List (List Int)) (l : List Int) (w : World) (hv : Intss w v g) (hu : Ints w u l) (hok : closedOk g l = true) :
    Calls Try.prog 41 #[v, u] w (TwoInts (closedL g l) true w) := by
  have HV := Lib.hid hv
  have HU := Lib.hid hu
  obtain ⟨av, cv, rfl, hlv, hcap, hcv⟩ := hv
  obtain ⟨au, cu, rfl, hlu, hcu, du⟩ := hu
  unfold maxLen at hlv hlu
  clear hcap hcv hcu
  have hok' := hok
  unfold closedOk at hok'
  rw [Bool.and_eq_true] at hok'
  obtain ⟨hg, hi⟩ := hok'
  obtain ⟨ha, hb⟩ := goodG_of hg
  obtain ⟨hc, hd⟩ := riseB_of hi
  have hll := rises_len 0 g.length hc (fun x hx => by have := hd x hx; omega) (by omega)
  have hl40 : l.length ≤ 40 := by omega
  have hwf : ∀ x ∈ l, wf64 x := fun x hx => by
    have := hd x hx
    exact WalkArith.wf_i64 (by omega)
  have hled := fun (m : Nat) (hm : m < g.length) W h => ledFrom_any (.slice av g.length cv) g m W h ha hb hm
  obtain ⟨P, hP⟩ : ∃ P, P = shutB g l := ⟨_, rfl⟩
  obtain ⟨C, hC⟩ : ∃ C, C = closedL g l := ⟨_, rfl⟩
  have hCs : C = l.filter P := by rw [hC, hP]; rfl
  have hno := fun (m : Nat) (hm : m < g.length) (t : Nat) (ht : t < 40) => shutB_no ha (l := l) (p := (m : Int)) (by omega) ht
  have hyes := fun (m : Nat) (hm : m < g.length) => shutB_yes ha hb (l := l) (p := (m : Int)) (by omega)
  have hsz := fun (m : Int) (t : Nat) (ht : t < 40) => ledL_step g m ht
  rw [← hC]
  rw [← hP] at hno hyes
  obtain ⟨R, hR⟩ : ∃ R, R = ledL g := ⟨_, rfl⟩
  rw [← hR] at hled hno hyes hsz
  have HLED := Lib.hid hled
  have HNO := Lib.hid hno
  have HYES := Lib.hid hyes
  have HSZ := Lib.hid hsz
  have HG := Lib.hid hg
  have HI := Lib.hid hi
  have HD := Lib.hid hd
  have HC := Lib.hid hCs
  have DU := Lib.hid du
  have HWF := Lib.hid hwf
  clear hok hg hi ha hb hc hd hll hled hno hyes hP hC hR hCs du hsz hwf
  go_enter Try.func41, Try.ntmps41
  go_wp2
  go_step3
  go_wp2_with fail
  refine (implGoodGraph_any _ _ _ HV.out).mono ?_
  rintro e w1 ⟨rfl, x1⟩
  rw [HG.out]
  go_wp2_with fail
  refine (isRisingBelow_any _ _ g.length _ (HU.out.ext x1) (by omega)).mono ?_
  rintro e w2 ⟨rfl, x2⟩
  have hx2 := x1.trans x2
  clear x1 x2
  rw [HI.out]
  go_wp2_with fail
  refine (numbersOf_lists _ _ _ (HU.out.ext hx2) HWF.out (by omega)).mono ?_
  rintro e w3 ⟨bm, rfl, hs, x3⟩
  have HS := Lib.hid hs
  have hx3 := hx2.trans x3
  have hx3s := hx3.size
  clear hs hx2 x3
  go_wp2
  go_step3
  go_wp2
  go_loopg [7, 9, 10, 11, 26] l.length (fun n vo _ _ _ i wr => ∃ t : Nat, t + n = l.length ∧ i = .int .i64 t ∧ Fresh w3.heap.size wr vo ((l.take t).filter P) ∧ Ext w3 wr ∧ Ext w wr)
  case atStart => exact ⟨0, by omega, rfl, World.ownsRow_nil _ _ _ _, Ext.refl _, hx3⟩
  case round =>
    clear hx3
    obtain ⟨t, ht, rfl, hf, hx3, hx⟩ := hrel
    by_cases hlt : t < l.length
    · obtain ⟨bu, ou, rfl, eu⟩ := DU.out (by omega)
      have gu := hx.cell (eu t hlt)
      rw [List.getElem?_eq_getElem hlt, Option.getD_some] at gu
      have hb := HD.out _ (List.getElem_mem hlt)
      obtain ⟨m, hm⟩ : ∃ m : Nat, l[t] = (m : Int) := ⟨l[t].toNat, by omega⟩
      have hmg : m < g.length := by omega
      have hfs := filter_succ hlt P
      rw [hm] at gu hfs
      have HF := Lib.hid hf
      have HX := Lib.hid hx
      have HX3 := Lib.hid hx3
      have HFS := Lib.hid hfs
      obtain ⟨wo, hwo⟩ : ∃ wo : World, wo = wr := ⟨_, rfl⟩
      subst hwo
      obtain ⟨go, hgo⟩ : ∃ n : Nat, n = gk := ⟨_, rfl⟩
      subst hgo
      clear eu hb hm hf hx hx3 hfs
      go_wp2_with fail
      refine (HLED.out m hmg _ (HV.out.ext HX.out)).mono ?_
      rintro e w4 ⟨rfl, x4⟩
      have HF4 := Lib.hid (HF.out.ext x4)
      have HX4 := Lib.hid (HX.out.trans x4)
      have HS4 := Lib.hid (HS.out.ext (HX3.out.trans x4))
      have HX34 := Lib.hid (HX3.out.trans x4)
      clear x4 gu HF HX HX3
      go_wp2
      go_loopg [10, 11, 33] 40 (fun n _ _ i w5 => ∃ s : Nat, s + n = 40 ∧ i = .int .i64 s ∧ Hid (∀ r : Nat, r < s → (R m)[r]? = some true → hasI l (r : Int) = true) ∧ Ext w4 w5)
      case atStart => exact ⟨0, by omega, rfl, Lib.hid (fun r hr => by omega), Ext.refl _⟩
      case round =>
        obtain ⟨s, hs, rfl, hall, hx5⟩ := hrel
        by_cases hls : s < 40
        · obtain ⟨b, hb, _⟩ := HSZ.out (m : Int) s hls
          have hix := index40 (R m) s hls b hb
          have HB := Lib.hid hb
          clear hb
          cases b with
          | false =>
            have HN : Hid (∀ r : Nat, r < s + 1 → (R m)[r]? = some true → hasI l (r : Int) = true) := Lib.hid (fun r hr hq => by
              by_cases e : r = s
              · subst e
                rw [HB.out] at hq; cases hq
              · exact hall.out r (by omega) hq)
            clear hall
            go_wp2
            go_roundg (39 - s)
            case rel => exact ⟨s + 1, by omega, by go_num, HN, hx5⟩
            case measure => omega
          | true =>
            have hask := (HS4.out.ext hx5).ask (s : Int) (WalkArith.wf_i64 (by omega))
            cases hh : hasI l (s : Int) with
            | true =>
              rw [hh] at hask
              have HN : Hid (∀ r : Nat, r < s + 1 → (R m)[r]? = some true → hasI l (r : Int) = true) := Lib.hid (fun r hr hq => by
                by_cases e : r = s
                · subst e
                  exact hh
                · exact hall.out r (by omega) hq)
              clear hall hh
              go_wp2
              go_roundg (39 - s)
              case rel => exact ⟨s + 1, by omega, by go_num, HN, hx5⟩
              case measure => omega
            | false =>
              rw [hh] at hask
              have hp := HNO.out m hmg s hls HB.out hh
              have hfs := HFS.out
              rw [hp, if_neg (by simp), List.append_nil] at hfs
              have HFS2 := Lib.hid hfs
              have HF5 := Lib.hid (HF4.out.ext hx5)
              have HX5 := Lib.hid (HX4.out.trans hx5)
              have HX35 := Lib.hid (HX34.out.trans hx5)
              clear hall hh hp hfs hx5
              go_wp2
              go_roundg (go - 1)
              case rel => exact ⟨t + 1, by omega, by go_num, by rw [HFS2.out]; exact HF5.out, HX35.out, HX5.out⟩
              case measure => omega
        · obtain rfl : s = 40 := by omega
          have hp := HYES.out m hmg (fun r hr => hall.out r hr)
          have hfs := HFS.out
          rw [hp, if_pos rfl] at hfs
          have HFS2 := Lib.hid hfs
          have hfl : ((l.take t).filter P).length ≤ 1099511627776 := by
            have h1 := List.length_filter_le P (l.take t)
            have h2 : (l.take t).length ≤ t := by simp; omega
            omega
          have HF5 := Lib.hid (HF4.out.ext hx5)
          have HX5 := Lib.hid (HX4.out.trans hx5)
          have HX35 := Lib.hid (HX34.out.trans hx5)
          have HFL := Lib.hid hfl
          clear hfs hfl hall hp hx5
          go_wp2_with (at_builtin; refine wpList_push rfl _ _ rfl w3.heap.size _ _ (m : Int) rfl (HF5.out.ext (Ext.alloc (Ext.refl _) _)) ⟨wr.heap.size, 0, none⟩ 1 rfl (cell_alloc_one _ _ _) HFL.out (size_alloc_le HX35.out.size) ?_)
          intro v6 w6 f6 g6 k6
          have e6 : Ext w w6 := k6 w (HX5.out.alloc _) hx3s
          have e36 : Ext w3 w6 := k6 w3 (HX35.out.alloc _) (Nat.le_refl _)
          have F6 := Lib.hid f6
          have E6 := Lib.hid e6
          have E36 := Lib.hid e36
          clear f6 g6 k6 e6 e36
          go_wp2
          go_roundg (go - 1)
          case rel => exact ⟨t + 1, by omega, by go_num, by rw [HFS2.out]; exact F6.out, E36.out, E6.out⟩
          case measure => omega
    · obtain rfl : t = l.length := by omega
      rw [List.take_length, ← HC.out] at hf
      have HF := Lib.hid hf
      clear hf
      go_wp2
      try rw [Exit.noGoto_ret]
      go_ret2
      exact ⟨_, rfl, HF.out.more hx3s, hx⟩

set_option maxHeartbeats 2000000 in
theorem implClosedIn_any (v u : Value) (g : List (List Int)) (l : List Int) (w : World) (hv : Intss w v g) (hu : Ints w u l) :
    Calls Try.prog 41 #[v, u] w (TwoInts (closedA g l) (closedOk g l) w) := by
  cases hok : closedOk g l with
  | true =>
    have h2 : closedA g l = closedL g l := by unfold closedA; rw [hok]; rfl
    rw [h2]
    exact implClosed_good v u g l w hv hu hok
  | false =>
    have h2 : closedA g l = [] := by unfold closedA; rw [hok]; rfl
    rw [h2]
    have HV := Lib.hid hv
    have HU := Lib.hid hu
    obtain ⟨av, cv, rfl, hlv, hcap, hcv⟩ := hv
    unfold maxLen at hlv
    clear hcap hcv hu h2
    cases hg : goodG g with
    | false =>
      have HG := Lib.hid hg
      clear hg hok
      go_enter Try.func41, Try.ntmps41
      go_wp2
      go_step3
      go_wp2_with fail
      refine (implGoodGraph_any _ _ _ HV.out).mono ?_
      rintro e w1 ⟨rfl, x1⟩
      rw [HG.out]
      go_wp2
      try rw [Exit.noGoto_ret]
      go_ret2
      exact ⟨_, rfl, World.ownsRow_nil _ _ _ _, x1⟩
    | true =>
      have hi : riseB l 0 ((g.length : Int) - 1) = false := by
        unfold closedOk at hok
        rw [hg] at hok
        exact hok
      have HG := Lib.hid hg
      have HI := Lib.hid hi
      clear hg hok hi
      go_enter Try.func41, Try.ntmps41
      go_wp2
      go_step3
      go_wp2_with fail
      refine (implGoodGraph_any _ _ _ HV.out).mono ?_
      rintro e w1 ⟨rfl, x1⟩
      rw [HG.out]
      go_wp2_with fail
      refine (isRisingBelow_any _ _ g.length _ (HU.out.ext x1) (by omega)).mono ?_
      rintro e w2 ⟨rfl, x2⟩
      have hx2 := x1.trans x2
      clear x1 x2
      rw [HI.out]
      go_wp2
      try rw [Exit.noGoto_ret]
      go_ret2
      exact ⟨_, rfl, World.ownsRow_nil _ _ _ _, hx2⟩

end Go.Proofs.Ytnmnbeklofnonaa
