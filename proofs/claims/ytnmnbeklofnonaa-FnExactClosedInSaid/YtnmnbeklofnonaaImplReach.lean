/- Contract of the program's ReachedFrom. -/
import Derived.Test.YtnmnbeklofnonaaImplLed
import Derived.Test.YtnmnbeklofnonaaSpecReach
namespace Go.Proofs.Ytnmnbeklofnonaa
open Go.RowKit
set_option linter.unusedVariables false

theorem index40 (bs : List Bool) (j : Nat) (h : j < 40) (b : Bool) (hb : bs[j]? = some b) (W : World) : (Instr.index 90 (.agg (marksB bs)) (.int .i64 j)).run Try.prog W = .ok (.bool b) W := by
  have hc : Try.prog.cellsOf 4 = 1 := by kernel_rfl
  have hg : (marksB bs)[j]? = some (.bool b) := by rw [marksB_get, hb]; rfl
  have hp : (part 4 (marksB bs) j).run Try.prog W = .ok (.bool b) W := by
    unfold part
    go_simp
  unfold Instr.index
  go_simp

open Classical in
theorem ledL_step (g : List (List Int)) (k : Int) {i : Nat} (h : i < 40) : ∃ b, (ledL g k)[i]? = some b ∧ toldL g k (i + 1) = (if b then toldL g k i ++ [(i : Int)] else toldL g k i) := by
  by_cases hr : Reach g k (i : Int)
  · exact ⟨true, by rw [ledL_get g k h, decide_eq_true hr], by rw [toldL_hit hr]; rfl⟩
  · exact ⟨false, by rw [ledL_get g k h, decide_eq_false hr], by rw [toldL_miss hr]; rfl⟩

set_option maxHeartbeats 2000000 in
theorem implReached_good (v : Value) (g : List (List Int)) (k : Nat) (w : World) (hv : Intss w v g) (hg : goodG g = true) (hk : k < g.length) :
    Calls Try.prog 31 #[v, .int .i64 k] w (TwoInts (reachL g k) true w) := by
  have HV := Lib.hid hv
  obtain ⟨av, cv, rfl, hlv, hcap, hcv⟩ := hv
  unfold maxLen at hlv
  clear hcap hcv
  obtain ⟨ha, hb⟩ := goodG_of hg
  have hall := toldL_all ha hb (k := (k : Int)) (by omega)
  have hled := fun W h => ledFrom_any (.slice av g.length cv) g k W h ha hb hk
  have hstep := fun (i : Nat) (h : i < 40) => ledL_step g (k : Int) h
  have h0 : toldL g (k : Int) 0 = [] := rfl
  have hlen := toldL_len g (k : Int)
  obtain ⟨T, hT⟩ : ∃ T, T = toldL g (k : Int) := ⟨_, rfl⟩
  obtain ⟨R, hR⟩ : ∃ R, R = ledL g (k : Int) := ⟨_, rfl⟩
  obtain ⟨Z, hZ⟩ : ∃ Z, Z = reachL g (k : Int) := ⟨_, rfl⟩
  rw [← hT] at h0 hall hstep hlen
  rw [← hR] at hled hstep
  rw [← hZ] at hall ⊢
  have HLED := Lib.hid hled
  have HSTEP := Lib.hid hstep
  have HALL := Lib.hid hall
  have HLEN := Lib.hid hlen
  have HG := Lib.hid hg
  have H0 := Lib.hid h0
  clear hg ha hb hall hled hstep h0 hlen hT hR hZ
  go_enter Try.func31, Try.ntmps31
  go_wp2_with fail
  refine (implGoodGraph_any _ _ _ HV.out).mono ?_
  rintro e w1 ⟨rfl, x1⟩
  rw [HG.out]
  go_wp2_with fail
  refine (HLED.out _ (HV.out.ext x1)).mono ?_
  rintro e w2 ⟨rfl, x2⟩
  have hx2 := x1.trans x2
  clear x1 x2
  go_wp2
  go_loopw [6, 7, 8, 25] (fun vo _ _ i wr => ∃ t : Nat, t ≤ 40 ∧ i = .int .i64 t ∧ Fresh w.heap.size wr vo (T t) ∧ Ext w wr) (fun _ _ _ i _ => 40 - (intOf i).toNat)
  case atStart => exact ⟨0, Nat.zero_le _, rfl, by rw [H0.out]; exact World.ownsRow_nil _ _ _ _, hx2⟩
  case round =>
    clear hx2
    obtain ⟨t, ht, rfl, hf, hx⟩ := hrel
    by_cases hlt : t < 40
    · obtain ⟨b, hb, hn⟩ := HSTEP.out t hlt
      have hix := index40 R t hlt b hb
      have hfl : (T t).length ≤ 1099511627776 := by have := HLEN.out t; omega
      have HF := Lib.hid hf
      have HX := Lib.hid hx
      have HN := Lib.hid hn
      clear hf hx hn hb
      cases b with
      | true =>
        go_wp2_with (at_builtin; refine wpList_push rfl _ _ rfl w.heap.size _ (T t) (t : Int) rfl (HF.out.ext (Ext.alloc (Ext.refl _) _)) ⟨wr.heap.size, 0, none⟩ 1 rfl (cell_alloc_one _ _ _) hfl (size_alloc_le HX.out.size) ?_)
        intro v4 w4 f4 g4 k4
        have e4 : Ext w w4 := k4 w (HX.out.alloc _) (Nat.le_refl _)
        have F4 := Lib.hid f4
        have E4 := Lib.hid e4
        clear f4 g4 k4 e4 hix
        go_wp2
        go_roundw
        case rel => exact ⟨t + 1, by omega, by go_num, by rw [HN.out]; exact F4.out, E4.out⟩
        case measure => simp [intOf]; omega
      | false =>
        go_wp2
        go_roundw
        case rel => exact ⟨t + 1, by omega, by go_num, by rw [HN.out]; exact HF.out, HX.out⟩
        case measure => simp [intOf]; omega
    · obtain rfl : t = 40 := by omega
      rw [HALL.out] at hf
      have HF := Lib.hid hf
      clear hf
      go_wp2
      go_ret2
      exact ⟨_, rfl, HF.out, hx⟩

set_option maxHeartbeats 2000000 in
theorem implReachedFrom_any (v : Value) (g : List (List Int)) (k : Int) (w : World) (hv : Intss w v g) :
    Calls Try.prog 31 #[v, .int .i64 k] w (TwoInts (reachA g k) (reachOk g k) w) := by
  cases hok : reachOk g k with
  | true =>
    have h2 : reachA g k = reachL g k := by unfold reachA; rw [hok]; rfl
    rw [h2]
    have h := hok
    unfold reachOk at h
    rw [Bool.and_eq_true] at h
    obtain ⟨hc, hd⟩ := inB_of h.2
    obtain ⟨m, rfl⟩ : ∃ m : Nat, k = (m : Int) := ⟨k.toNat, by omega⟩
    exact implReached_good v g m w hv h.1 (by omega)
  | false =>
    have h2 : reachA g k = [] := by unfold reachA; rw [hok]; rfl
    rw [h2]
    have HV := Lib.hid hv
    obtain ⟨av, cv, rfl, hlv, hcap, hcv⟩ := hv
    unfold maxLen at hlv
    clear hcap hcv h2
    cases hg : goodG g with
    | false =>
      have HG := Lib.hid hg
      clear hg hok
      go_enter Try.func31, Try.ntmps31
      go_wp2_with fail
      refine (implGoodGraph_any _ _ _ HV.out).mono ?_
      rintro e w1 ⟨rfl, x1⟩
      rw [HG.out]
      go_wp2
      go_ret2
      exact ⟨_, rfl, World.ownsRow_nil _ _ _ _, x1⟩
    | true =>
      have hi : inB k 0 ((g.length : Int) - 1) = false := by
        unfold reachOk at hok
        rw [hg] at hok
        exact hok
      have hbad : ¬ (0 ≤ k ∧ k ≤ (g.length : Int) - 1) := fun h => by rw [inB_yes h.1 h.2] at hi; cases hi
      have HG := Lib.hid hg
      clear hg hok hi
      by_cases h0 : k < 0
      · clear hbad
        go_enter Try.func31, Try.ntmps31
        go_wp2_with fail
        refine (implGoodGraph_any _ _ _ HV.out).mono ?_
        rintro e w1 ⟨rfl, x1⟩
        rw [HG.out]
        go_wp2
        go_ret2
        exact ⟨_, rfl, World.ownsRow_nil _ _ _ _, x1⟩
      · have h1 : (g.length : Int) ≤ k := by omega
        have h3 : 0 ≤ k := by omega
        clear hbad h0
        go_enter Try.func31, Try.ntmps31
        go_wp2_with fail
        refine (implGoodGraph_any _ _ _ HV.out).mono ?_
        rintro e w1 ⟨rfl, x1⟩
        rw [HG.out]
        go_wp2
        go_ret2
        exact ⟨_, rfl, World.ownsRow_nil _ _ _ _, x1⟩

end Go.Proofs.Ytnmnbeklofnonaa
