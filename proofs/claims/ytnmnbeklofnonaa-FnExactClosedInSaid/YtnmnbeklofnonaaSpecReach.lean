/- Contracts of the model's ReachedFrom and ClosedIn. -/
import Derived.Test.YtnmnbeklofnonaaReached
namespace Go.Proofs.Ytnmnbeklofnonaa
open Go.RowKit
set_option linter.unusedVariables false

def reachOk (g : List (List Int)) (k : Int) : Bool := goodG g && inB k 0 ((g.length : Int) - 1)
noncomputable def reachA (g : List (List Int)) (k : Int) : List Int := if reachOk g k then reachL g k else []
theorem inB_of {n lo hi : Int} (h : inB n lo hi = true) : lo ≤ n ∧ n ≤ hi := by
  unfold inB at h
  simpa using h

set_option maxHeartbeats 2000000 in
theorem specReachedFrom_any (v : Value) (g : List (List Int)) (k : Int) (w : World) (hv : Intss w v g) :
    Calls Try.prog 30 #[v, .int .i64 k] w (TwoInts (reachA g k) (reachOk g k) w) := by
  have HV := Lib.hid hv
  obtain ⟨av, cv, rfl, hlv, hcap, hcv⟩ := hv
  unfold maxLen at hlv
  clear hcap hcv
  cases hg : goodG g with
  | false =>
    have h1 : reachOk g k = false := by unfold reachOk; rw [hg]; rfl
    have h2 : reachA g k = [] := by unfold reachA; rw [h1]; rfl
    rw [h1, h2]
    have HG := Lib.hid hg
    clear hg h1 h2
    go_enter Try.func30, Try.ntmps30
    go_wp2_with fail
    refine (specGoodGraph_any _ _ _ HV.out).mono ?_
    rintro e w1 ⟨rfl, x1⟩
    rw [HG.out]
    go_wp2
    go_ret2
    exact ⟨_, rfl, World.ownsRow_nil _ _ _ _, x1⟩
  | true =>
    cases hi : inB k 0 ((g.length : Int) - 1) with
    | false =>
      have h1 : reachOk g k = false := by unfold reachOk; rw [hg, hi]; rfl
      have h2 : reachA g k = [] := by unfold reachA; rw [h1]; rfl
      rw [h1, h2]
      have HG := Lib.hid hg
      have HI := Lib.hid hi
      clear hg hi h1 h2
      go_enter Try.func30, Try.ntmps30
      go_wp2_with fail
      refine (specGoodGraph_any _ _ _ HV.out).mono ?_
      rintro e w1 ⟨rfl, x1⟩
      rw [HG.out]
      go_wp2_with fail
      refine (l1In_any _ _ _ _).mono ?_
      rintro e w' ⟨rfl, rfl⟩
      rw [HI.out]
      go_wp2
      go_ret2
      exact ⟨_, rfl, World.ownsRow_nil _ _ _ _, x1⟩
    | true =>
      have h1 : reachOk g k = true := by unfold reachOk; rw [hg, hi]; rfl
      have h2 : reachA g k = reachL g k := by unfold reachA; rw [h1]; rfl
      rw [h1, h2]
      obtain ⟨ha, hb⟩ := goodG_of hg
      obtain ⟨hc, hd⟩ := inB_of hi
      obtain ⟨m, rfl⟩ : ∃ m : Nat, k = (m : Int) := ⟨k.toNat, by omega⟩
      have hm : m < g.length := by omega
      have hb' : g.length ≤ 1048576 := by omega
      obtain ⟨R, hR⟩ : ∃ R, R = reachL g m := ⟨_, rfl⟩
      have hr := fun W h => l5Reached_any (.slice av g.length cv) g m W h ha hb' hm
      rw [← hR] at hr ⊢
      have HR := Lib.hid hr
      have HG := Lib.hid hg
      have HI := Lib.hid hi
      clear hg hi h1 h2 ha hb hc hd hm hb' hr hR
      go_enter Try.func30, Try.ntmps30
      go_wp2_with fail
      refine (specGoodGraph_any _ _ _ HV.out).mono ?_
      rintro e w1 ⟨rfl, x1⟩
      rw [HG.out]
      go_wp2_with fail
      refine (l1In_any _ _ _ _).mono ?_
      rintro e w' ⟨rfl, rfl⟩
      rw [HI.out]
      go_wp2_with fail
      refine (HR.out _ (HV.out.ext x1)).mono ?_
      rintro e w2 ⟨v2, rfl, f2, x2⟩
      have F2 := Lib.hid (f2.more x1.size)
      have hx := x1.trans x2
      clear f2 x1 x2
      go_wp2
      go_ret2
      exact ⟨_, rfl, F2.out, hx⟩

/-- Of the points of the list those that lead to points of the list alone. -/
noncomputable def shutB (g : List (List Int)) (l : List Int) (p : Int) : Bool := (reachL g p).all fun n => hasI l n
noncomputable def closedL (g : List (List Int)) (l : List Int) : List Int := l.filter (shutB g l)
def closedOk (g : List (List Int)) (l : List Int) : Bool := goodG g && riseB l 0 ((g.length : Int) - 1)
noncomputable def closedA (g : List (List Int)) (l : List Int) : List Int := if closedOk g l then closedL g l else []
theorem filter_succ {l : List Int} {k : Nat} (h : k < l.length) (p : Int → Bool) : (l.take (k + 1)).filter p = (l.take k).filter p ++ (if p l[k] then [l[k]] else []) := by
  rw [List.take_add_one, List.getElem?_eq_getElem h, List.filter_append]
  cases hp : p l[k] <;> simp [hp]

theorem all_succ (l : List Int) {k : Nat} (h : k < l.length) (p : Int → Bool) : (l.take (k + 1)).all p = ((l.take k).all p && p l[k]) := by
  rw [List.take_add_one, List.getElem?_eq_getElem h, List.all_append]
  simp

set_option maxHeartbeats 4000000 in
theorem specClosedIn_good (v u : Value) (g : List (List Int)) (l : List Int) (w : World) (hv : Intss w v g) (hu : Ints w u l) (hok : closedOk g l = true) :
    Calls Try.prog 40 #[v, u] w (TwoInts (closedL g l) true w) := by
  have HV := Lib.hid hv
  have HU := Lib.hid hu
  obtain ⟨av, cv, rfl, hlv, hcap, hcv⟩ := hv
  obtain ⟨au, cu, rfl, hlu, hcu, du⟩ := hu
  unfold maxLen at hlv hlu
  clear hcap hcv hcu
  have hok' := hok
  unfold closedOk at hok'
  rw [Bool.and_eq_true] at hok'
  obtain ⟨hg, hi⟩ := hok'
  obtain ⟨ha, hb⟩ := goodG_of hg
  obtain ⟨hc, hd⟩ := riseB_of hi
  have hll := rises_len 0 g.length hc (fun x hx => by have := hd x hx; omega) (by omega)
  have hb' : g.length ≤ 1048576 := by omega
  have hr := fun (m : Nat) (hm : m < g.length) W h => l5Reached_any (.slice av g.length cv) g m W h ha hb' hm
  have hl40 : l.length ≤ 40 := by omega
  have hrl : ∀ m, (reachL g m).length ≤ 40 := fun m => Nat.le_trans (reachL_len g m) hb
  obtain ⟨P, hP⟩ : ∃ P, P = shutB g l := ⟨_, rfl⟩
  have hPs : ∀ p, P p = (reachL g p).all fun n => hasI l n := fun p => by rw [hP]; rfl
  obtain ⟨C, hC⟩ : ∃ C, C = closedL g l := ⟨_, rfl⟩
  have hCs : C = l.filter P := by rw [hC, hP]; rfl
  rw [← hC]
  have HR := Lib.hid hr
  have HG := Lib.hid hg
  have HI := Lib.hid hi
  have HD := Lib.hid hd
  have HRL := Lib.hid hrl
  have HP := Lib.hid hPs
  have HC := Lib.hid hCs
  have DU := Lib.hid du
  clear hok hg hi ha hb hc hd hll hb' hr hrl hP hPs hC hCs du
  go_enter Try.func40, Try.ntmps40
  go_wp2_with fail
  refine (specGoodGraph_any _ _ _ HV.out).mono ?_
  rintro e w1 ⟨rfl, x1⟩
  rw [HG.out]
  go_wp2_with fail
  refine (l1Rising_any _ _ _ _ _ (HU.out.ext x1)).mono ?_
  rintro e w2 ⟨rfl, x2⟩
  have hx2 := x1.trans x2
  clear x1 x2
  rw [HI.out]
  go_wp2
  go_loopw [6, 8, 9, 11, 25] (fun vo _ _ _ i wr => ∃ t : Nat, t ≤ l.length ∧ i = .int .i64 t ∧ Fresh w.heap.size wr vo ((l.take t).filter P) ∧ Ext w wr) (fun _ _ _ _ i _ => l.length - (intOf i).toNat)
  case atStart => exact ⟨0, Nat.zero_le _, rfl, World.ownsRow_nil _ _ _ _, hx2⟩
  case round =>
    obtain ⟨t, ht, rfl, hf, hx⟩ := hrel
    by_cases hlt : t < l.length
    · obtain ⟨bu, ou, rfl, eu⟩ := DU.out (by omega)
      have gu := hx.cell (eu t hlt)
      rw [List.getElem?_eq_getElem hlt, Option.getD_some] at gu
      have hb := HD.out _ (List.getElem_mem hlt)
      obtain ⟨m, hm⟩ : ∃ m : Nat, l[t] = (m : Int) := ⟨l[t].toNat, by omega⟩
      have hmg : m < g.length := by omega
      have hfs := filter_succ hlt P
      rw [hm] at gu hfs
      have HF := Lib.hid hf
      have HX := Lib.hid hx
      have HFS := Lib.hid hfs
      clear eu hb hm hf hx hfs
      go_wp2_with fail
      refine (HR.out m hmg _ (HV.out.ext HX.out)).mono ?_
      rintro e w3 ⟨v3, rfl, f3, x3⟩
      obtain ⟨a3, c3, rfl, hl3, _, d3⟩ := f3.ints
      have hl40' := HRL.out (m : Int)
      have HF3 := Lib.hid (HF.out.ext x3)
      have HX3 := Lib.hid (HX.out.trans x3)
      have D3 := Lib.hid d3
      clear x3 gu HF HX d3 f3 hl3
      go_wp2
      go_loopw [9, 11, 33] (fun b _ i wr => ∃ s : Nat, s ≤ (reachL g m).length ∧ i = .int .i64 s ∧ b = .bool (((reachL g m).take s).all fun n => hasI l n) ∧ Ext w3 wr) (fun _ _ i _ => (reachL g m).length - (intOf i).toNat)
      case atStart => exact ⟨0, Nat.zero_le _, rfl, by simp, Ext.refl _⟩
      case round =>
        obtain ⟨s, hs, rfl, hb, hx4⟩ := hrel
        by_cases hls : s < (reachL g m).length
        · obtain ⟨b3, o3, rfl, e3⟩ := D3.out (by omega)
          have g3 := hx4.cell (e3 s hls)
          rw [List.getElem?_eq_getElem hls, Option.getD_some] at g3
          have hsc := all_succ (reachL g m) hls (fun n => hasI l n)
          obtain ⟨n, hn⟩ : ∃ n, n = (reachL g m)[s] := ⟨_, rfl⟩
          rw [← hn] at g3 hsc
          have HSC := Lib.hid hsc
          have HX4 := Lib.hid hx4
          clear e3 hsc hx4 hn
          cases hall : ((reachL g m).take s).all fun n => hasI l n with
          | true =>
            rw [hall] at hb HSC
            subst hb
            go_wp2_with fail
            refine (l1Has_any _ l n _ (HU.out.ext (HX3.out.trans HX4.out))).mono ?_
            rintro e w5 ⟨rfl, x5⟩
            have hx5 := HX4.out.trans x5
            clear x5 g3
            obtain ⟨hb, hhb⟩ : ∃ hb, hb = hasI l n := ⟨_, rfl⟩
            rw [← hhb] at HSC ⊢
            clear hhb
            go_wp2
            go_roundw
            case rel => exact ⟨s + 1, by omega, by go_num, by rw [HSC.out]; simp, hx5⟩
            case measure => simp [intOf]; omega
          | false =>
            rw [hall] at hb HSC
            subst hb
            go_wp2
            go_roundw
            case rel => exact ⟨s + 1, by omega, by go_num, by rw [HSC.out]; simp, HX4.out⟩
            case measure => simp [intOf]; omega
        · obtain rfl : s = (reachL g m).length := by omega
          rw [List.take_length, ← HP.out] at hb
          subst hb
          have HX4 := Lib.hid hx4
          clear hx4
          cases hp : P m with
          | true =>
            have hfs := HFS.out
            rw [hp, if_pos rfl] at hfs
            have HFS2 := Lib.hid hfs
            have hfl : ((l.take t).filter P).length ≤ 1099511627776 := by
              have h1 := List.length_filter_le P (l.take t)
              have h2 : (l.take t).length ≤ t := by simp; omega
              omega
            have HFL := Lib.hid hfl
            have HF4 := Lib.hid (HF3.out.ext HX4.out)
            have HX5 := Lib.hid (HX3.out.trans HX4.out)
            clear hfs hfl HFS HF3 HX3 HX4
            go_wp2_with (at_builtin; refine wpList_push rfl _ _ rfl w.heap.size _ _ (m : Int) rfl (HF4.out.ext (Ext.alloc (Ext.refl _) _)) ⟨wr.heap.size, 0, none⟩ 1 rfl (cell_alloc_one _ _ _) HFL.out (size_alloc_le HX5.out.size) ?_)
            intro v4 w4 f4 g4 k4
            have e4 : Ext w w4 := k4 w (HX5.out.alloc _) (Nat.le_refl _)
            have F4 := Lib.hid f4
            have E4 := Lib.hid e4
            clear f4 g4 k4 e4
            go_wp2
            go_roundw
            case rel => exact ⟨t + 1, by omega, by go_num, by rw [HFS2.out]; exact F4.out, E4.out⟩
            case measure => simp [intOf]; omega
          | false =>
            have hfs := HFS.out
            rw [hp, if_neg (by simp), List.append_nil] at hfs
            have HFS2 := Lib.hid hfs
            have HF4 := Lib.hid (HF3.out.ext HX4.out)
            have HX5 := Lib.hid (HX3.out.trans HX4.out)
            clear hfs HFS HF3 HX3 HX4
            go_wp2
            go_roundw
            case rel => exact ⟨t + 1, by omega, by go_num, by rw [HFS2.out]; exact HF4.out, HX5.out⟩
            case measure => simp [intOf]; omega
    · obtain rfl : t = l.length := by omega
      rw [List.take_length, ← HC.out] at hf
      have HF := Lib.hid hf
      clear hf
      go_wp2
      go_ret2
      exact ⟨_, rfl, HF.out, hx⟩

set_option maxHeartbeats 2000000 in
theorem specClosedIn_any (v u : Value) (g : List (List Int)) (l : List Int) (w : World) (hv : Intss w v g) (hu : Ints w u l) :
    Calls Try.prog 40 #[v, u] w (TwoInts (closedA g l) (closedOk g l) w) := by
  cases hok : closedOk g l with
  | true =>
    have h2 : closedA g l = closedL g l := by unfold closedA; rw [hok]; rfl
    rw [h2]
    exact specClosedIn_good v u g l w hv hu hok
  | false =>
    have h2 : closedA g l = [] := by unfold closedA; rw [hok]; rfl
    rw [h2]
    have HV := Lib.hid hv
    have HU := Lib.hid hu
    obtain ⟨av, cv, rfl, hlv, hcap, hcv⟩ := hv
    unfold maxLen at hlv
    clear hcap hcv hu h2
    cases hg : goodG g with
    | false =>
      have HG := Lib.hid hg
      clear hg hok
      go_enter Try.func40, Try.ntmps40
      go_wp2_with fail
      refine (specGoodGraph_any _ _ _ HV.out).mono ?_
      rintro e w1 ⟨rfl, x1⟩
      rw [HG.out]
      go_wp2
      go_ret2
      exact ⟨_, rfl, World.ownsRow_nil _ _ _ _, x1⟩
    | true =>
      have hi : riseB l 0 ((g.length : Int) - 1) = false := by
        unfold closedOk at hok
        rw [hg] at hok
        exact hok
      have HG := Lib.hid hg
      have HI := Lib.hid hi
      clear hg hok hi
      go_enter Try.func40, Try.ntmps40
      go_wp2_with fail
      refine (specGoodGraph_any _ _ _ HV.out).mono ?_
      rintro e w1 ⟨rfl, x1⟩
      rw [HG.out]
      go_wp2_with fail
      refine (l1Rising_any _ _ _ _ _ (HU.out.ext x1)).mono ?_
      rintro e w2 ⟨rfl, x2⟩
      have hx2 := x1.trans x2
      clear x1 x2
      rw [HI.out]
      go_wp2
      go_ret2
      exact ⟨_, rfl, World.ownsRow_nil _ _ _ _, hx2⟩

end Go.Proofs.Ytnmnbeklofnonaa
