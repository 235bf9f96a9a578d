/- Contracts of the two functions GoodAttr, of the program and of the model. -/
import Derived.Test.YthnoeknalpnadaaAttr
import Derived.Test.YthnoeknalpnadaaGroup
import Derived.Test.YthnoeknalpnadaaL1All
namespace Go.Proofs.Ythnoeknalpnadaa
open Go.RowKit
set_option linter.unusedVariables false

/-- Whether the numbers fit a group of n. -/
def goodD (n s : Int) (l : List Int) : Bool := inB s 0 999 && decide ((l.length : Int) = n) && allIn l 0 6
def goodA (n s : Int) (l : List Int) : Bool := isGrp n && goodD n s l
theorem goodD_s {n s : Int} {l : List Int} (h : inB s 0 999 = false) : goodD n s l = false := by unfold goodD; rw [h]; rfl
theorem goodD_l {n s : Int} {l : List Int} (h : (l.length : Int) ≠ n) : goodD n s l = false := by unfold goodD; rw [decide_eq_false h, Bool.and_false, Bool.false_and]
theorem goodD_a {n s : Int} {l : List Int} (h : inB s 0 999 = true) (hl : (l.length : Int) = n) : goodD n s l = allIn l 0 6 := by unfold goodD; rw [h, decide_eq_true hl]; rfl
theorem goodD_of {n s : Int} {l : List Int} (h : goodD n s l = true) : inB s 0 999 = true ∧ (l.length : Int) = n ∧ allIn l 0 6 = true := by
  unfold goodD at h
  simp only [Bool.and_eq_true, decide_eq_true_eq] at h
  exact ⟨h.1.1, h.1.2, h.2⟩

set_option maxHeartbeats 1000000 in
theorem l3Attr_any (n s : Int) (u : Value) (l : List Int) (w : World) (hv : Ints w u l) :
    Calls Try.prog 133 #[.int .i64 n, .agg #[.int .i64 s, u]] w (BoolExt (goodD n s l) w) := by
  obtain ⟨au, cu, rfl, hlu, hcap, hcu⟩ := hv
  have HV : Hid (Ints w (.slice au l.length cu) l) := Lib.hid ⟨au, cu, rfl, hlu, hcap, hcu⟩
  clear hlu hcap hcu
  cases hp : inB s 0 999 with
  | false =>
    have HG := Lib.hid (goodD_s (n := n) (l := l) hp)
    have HP := Lib.hid hp
    clear hp
    go_enter Try.func133, Try.ntmps133
    go_wp2_with fail
    refine (l1In_any _ _ _ _).mono ?_
    rintro e w' ⟨rfl, rfl⟩
    rw [HP.out]
    go_wp2
    go_ret
    exact ⟨by rw [HG.out]; rfl, Ext.alloc (Ext.refl _) _⟩
  | true =>
    by_cases hl : (l.length : Int) = n
    · have HG := Lib.hid (goodD_a (n := n) hp hl)
      have HP := Lib.hid hp
      have e0 : ((l.length : Int) == n) = true := by simp [hl]
      clear hp hl
      rw [HG.out]
      go_enter Try.func133, Try.ntmps133
      go_wp2_with fail
      refine (l1In_any _ _ _ _).mono ?_
      rintro e w' ⟨rfl, rfl⟩
      rw [HP.out]
      go_wp2_with fail
      refine (l1All_any _ _ _ _ _ (HV.out.ext (Ext.alloc (Ext.refl _) _))).mono ?_
      rintro e w1 ⟨rfl, x1⟩
      have hx : Ext w w1 := (Ext.alloc (Ext.refl _) _).trans x1
      clear x1
      cases hA : allIn l 0 6
      all_goals
        have HA := Lib.hid hA
        clear hA
        go_wp2
        go_ret
        exact ⟨by rw [HA.out]; rfl, hx⟩
    · have HG := Lib.hid (goodD_l (s := s) hl)
      have HP := Lib.hid hp
      have e0 : ((l.length : Int) == n) = false := by simp [hl]
      clear hp hl
      go_enter Try.func133, Try.ntmps133
      go_wp2_with fail
      refine (l1In_any _ _ _ _).mono ?_
      rintro e w' ⟨rfl, rfl⟩
      rw [HP.out]
      go_wp2
      go_ret
      exact ⟨by rw [HG.out]; rfl, Ext.alloc (Ext.refl _) _⟩

set_option maxHeartbeats 1000000 in
theorem specGoodAttr_any (n s : Int) (u : Value) (l : List Int) (w : World) (hv : Ints w u l) :
    Calls Try.prog 130 #[.int .i64 n, .agg #[.int .i64 s, u]] w (BoolExt (goodA n s l) w) := by
  have hb := attrAt_new w 39 s u
  unfold goodA
  cases hg : isGrp n with
  | false =>
    go_enter Try.func130, Try.ntmps130
    go_wp2_with fail
    refine (specIsGroup_any _ _).mono ?_
    rintro e w' ⟨rfl, rfl⟩
    go_wp2
    go_ret
    exact ⟨rfl, Ext.alloc (Ext.refl _) _⟩
  | true =>
    have HG := Lib.hid hg
    clear hg
    rw [Bool.true_and]
    go_enter Try.func130, Try.ntmps130
    go_wp2_with fail
    refine (specIsGroup_any _ _).mono ?_
    rintro e w' ⟨rfl, rfl⟩
    rw [HG.out]
    go_wp2_with fail
    refine (l3Attr_any _ _ _ l _ (hv.ext (Ext.alloc (Ext.refl _) _))).mono ?_
    rintro e w1 ⟨rfl, x1⟩
    have hx : Ext w w1 := (Ext.alloc (Ext.refl _) _).trans x1
    clear x1 hv hb
    cases hA : goodD n s l
    all_goals
      have HA := Lib.hid hA
      clear hA
      go_wp2
      go_ret
      exact ⟨by rw [HA.out]; rfl, hx⟩

theorem goodA_no {n s : Int} {l : List Int} (h : isGrp n = false) : goodA n s l = false := by unfold goodA; rw [h]; rfl
theorem goodA_d {n s : Int} {l : List Int} (h : goodD n s l = false) : goodA n s l = false := by unfold goodA; rw [h, Bool.and_false]
theorem goodA_of {n s : Int} {l : List Int} (h : goodA n s l = true) : isGrp n = true ∧ goodD n s l = true := by unfold goodA at h; simpa using h

set_option maxHeartbeats 1000000 in
/-- The program's function where the loop is not come to. -/
theorem implGoodAttr_early (n s : Int) (u : Value) (l : List Int) (w : World) (hv : Ints w u l) (h : isGrp n = false ∨ (l.length : Int) ≠ n ∨ s < 0 ∨ 999 < s) :
    Calls Try.prog 132 #[.int .i64 n, .agg #[.int .i64 s, u]] w (BoolExt false w) := by
  obtain ⟨au, cu, rfl, hlu, hcap, hcu⟩ := hv
  clear hlu hcap hcu
  cases hg : isGrp n with
  | false =>
    have HG := Lib.hid hg
    clear hg h
    go_enter Try.func132, Try.ntmps132
    go_wp2_with fail
    refine (implIsGroup_any _ _).mono ?_
    rintro e w' ⟨rfl, rfl⟩
    rw [HG.out]
    go_wp2
    go_ret
    exact ⟨rfl, Ext.alloc (Ext.refl _) _⟩
  | true =>
    have h' : (l.length : Int) ≠ n ∨ s < 0 ∨ 999 < s := by
      rcases h with h | h
      · rw [hg] at h; cases h
      · exact h
    clear h
    have HG := Lib.hid hg
    clear hg
    by_cases hl : (l.length : Int) = n
    · have h2 : s < 0 ∨ 999 < s := by
        rcases h' with h | h
        · exact absurd hl h
        · exact h
      have e0 : ((l.length : Int) != n) = false := by simp [hl]
      clear h' hl
      by_cases hs : s < 0
      · clear h2
        go_enter Try.func132, Try.ntmps132
        go_wp2_with fail
        refine (implIsGroup_any _ _).mono ?_
        rintro e w' ⟨rfl, rfl⟩
        rw [HG.out]
        go_wp2
        go_ret
        exact ⟨rfl, Ext.alloc (Ext.refl _) _⟩
      · have h0 : 0 ≤ s := by omega
        have h1 : 999 < s := by omega
        clear h2 hs
        go_enter Try.func132, Try.ntmps132
        go_wp2_with fail
        refine (implIsGroup_any _ _).mono ?_
        rintro e w' ⟨rfl, rfl⟩
        rw [HG.out]
        go_wp2
        go_ret
        exact ⟨rfl, Ext.alloc (Ext.refl _) _⟩
    · have e0 : ((l.length : Int) != n) = true := by simp [hl]
      clear h' hl
      go_enter Try.func132, Try.ntmps132
      go_wp2_with fail
      refine (implIsGroup_any _ _).mono ?_
      rintro e w' ⟨rfl, rfl⟩
      rw [HG.out]
      go_wp2
      go_ret
      exact ⟨rfl, Ext.alloc (Ext.refl _) _⟩

set_option maxHeartbeats 1000000 in
/-- The program's function where the loop is come to. -/
theorem implGoodAttr_loop (n s : Int) (u : Value) (l : List Int) (w : World) (hv : Ints w u l) (hg : isGrp n = true) (hl : (l.length : Int) = n) (h0 : 0 ≤ s) (h1 : s ≤ 999) :
    Calls Try.prog 132 #[.int .i64 n, .agg #[.int .i64 s, u]] w (BoolExt (allIn l 0 6) w) := by
  obtain ⟨au, cu, rfl, hlu, hcap, hcu⟩ := hv
  have hlen : l.length ≤ 5 := by rcases isGrp_of hg with h | h <;> omega
  have HG := Lib.hid hg
  have e0 : ((l.length : Int) != n) = false := by simp [hl]
  have e1 : (s < 0) = False := by simp; omega
  clear hlu hcap hg hl e1
  go_enter Try.func132, Try.ntmps132
  go_wp2_with fail
  refine (implIsGroup_any _ _).mono ?_
  rintro e w' ⟨rfl, rfl⟩
  rw [HG.out]
  go_wp2
  go_loopw [6, 30] (fun _ i wr => ∃ k : Nat, k ≤ l.length ∧ i = .int .i64 k ∧ Hid ((l.take k).all (fun x => inB x 0 6) = true) ∧ Ext w wr) (fun _ i _ => l.length - (intOf i).toNat)
  case atStart => exact ⟨0, Nat.zero_le _, rfl, Lib.hid (by simp), Ext.alloc (Ext.refl _) _⟩
  case round =>
    obtain ⟨k, hk, rfl, HT, hx⟩ := hrel
    by_cases hlt : k < l.length
    · obtain ⟨bv, ov, rfl, dv⟩ := hcu (by omega)
      have gv := hx.cell (dv k hlt)
      rw [List.getElem?_eq_getElem hlt, Option.getD_some] at gv
      obtain ⟨y, hy⟩ : ∃ y : Int, y = l[k] := ⟨_, rfl⟩
      rw [← hy] at gv
      have HY := Lib.hid hy
      clear hcu dv hy
      by_cases ha : y < 0
      · go_wp2
        go_ret
        refine ⟨?_, hx⟩
        have hf : allIn l 0 6 = false := all_false_at hlt _ (by rw [List.getElem?_eq_getElem hlt, Option.getD_some, ← HY.out]; exact inB_no (by omega))
        rw [hf]; rfl
      · have ha' : 0 ≤ y := by omega
        clear ha
        by_cases hb : 6 < y
        · go_wp2
          go_ret
          refine ⟨?_, hx⟩
          have hf : allIn l 0 6 = false := all_false_at hlt _ (by rw [List.getElem?_eq_getElem hlt, Option.getD_some, ← HY.out]; exact inB_no (by omega))
          rw [hf]; rfl
        · have hb' : y ≤ 6 := by omega
          clear hb
          go_wp2
          go_roundw
          case rel => exact ⟨k + 1, by omega, by go_num, Lib.hid (all_take_succ hlt _ HT.out (by rw [List.getElem?_eq_getElem hlt, Option.getD_some, ← HY.out]; exact inB_yes ha' hb')), hx⟩
          case measure => simp [intOf]; omega
    · obtain rfl : k = l.length := by omega
      go_wp2
      go_ret
      refine ⟨?_, hx⟩
      have hf : allIn l 0 6 = true := by have h := HT.out; rwa [List.take_length] at h
      rw [hf]; rfl

theorem implGoodAttr_any (n s : Int) (u : Value) (l : List Int) (w : World) (hv : Ints w u l) :
    Calls Try.prog 132 #[.int .i64 n, .agg #[.int .i64 s, u]] w (BoolExt (goodA n s l) w) := by
  by_cases h : isGrp n = false ∨ (l.length : Int) ≠ n ∨ s < 0 ∨ 999 < s
  · have e : goodA n s l = false := by
      rcases h with h | h | h
      · exact goodA_no h
      · exact goodA_d (goodD_l h)
      · exact goodA_d (goodD_s (inB_no (by omega)))
    rw [e]
    exact implGoodAttr_early n s u l w hv h
  · have hg : isGrp n = true := by
      cases hh : isGrp n with
      | true => rfl
      | false => exact absurd (Or.inl hh) h
    have hl : (l.length : Int) = n := Classical.byContradiction fun hh => h (.inr (.inl hh))
    have h0 : 0 ≤ s := by
      by_cases hh : s < 0
      · exact absurd (.inr (.inr (.inl hh))) h
      · omega
    have h1 : s ≤ 999 := by
      by_cases hh : 999 < s
      · exact absurd (.inr (.inr (.inr hh))) h
      · omega
    have e : goodA n s l = allIn l 0 6 := by unfold goodA; rw [hg, goodD_a (inB_yes h0 h1) hl]; rfl
    rw [e]
    exact implGoodAttr_loop n s u l w hv hg hl h0 h1

end Go.Proofs.Ythnoeknalpnadaa
