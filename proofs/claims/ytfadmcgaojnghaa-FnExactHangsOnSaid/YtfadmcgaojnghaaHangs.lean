/- Contracts of the two functions HangsOn, of the program and of the model. -/
import Derived.Test.YtfadmcgaojnghaaGoodAttr
namespace Go.Proofs.Ytfadmcgaojnghaa
open Go.RowKit
set_option linter.unusedVariables false

/-- Whether it is an instance of a group of n. -/
def instB (n rep no : Int) : Bool := inB rep 0 (n - 1) && inB no 1 6
theorem isGrp_bd {n : Int} (h : isGrp n = true) : 3 ≤ n ∧ n ≤ 5 := by rcases isGrp_of h with rfl | rfl <;> omega

set_option maxHeartbeats 400000 in
theorem l3Inst_any (n rep no : Int) (w : World) (h3 : 3 ≤ n) (h5 : n ≤ 5) :
    Calls Try.prog 36 #[.int .i64 n, .int .i64 rep, .int .i64 no] w fun e w' => e = .returned (.bool (instB n rep no)) ∧ w = w' := by
  unfold instB
  cases h1 : inB rep 0 (n - 1)
  · have H1 := Lib.hid h1
    clear h1
    go_enter Try.func36, Try.ntmps36
    go_wp2_with fail
    refine (l1In_any _ _ _ _).mono ?_
    rintro e w' ⟨rfl, rfl⟩
    rw [H1.out]
    go_wp2
    go_ret
    exact ⟨rfl, rfl⟩
  · have H1 := Lib.hid h1
    clear h1
    cases h2 : inB no 1 6
    all_goals
      have H2 := Lib.hid h2
      clear h2
      go_enter Try.func36, Try.ntmps36
      go_wp2_with fail
      refine (l1In_any _ _ _ _).mono ?_
      rintro e w' ⟨rfl, rfl⟩
      rw [H1.out]
      go_wp2_with fail
      refine (l1In_any _ _ _ _).mono ?_
      rintro e w' ⟨rfl, rfl⟩
      rw [H2.out]
      go_wp2
      go_ret
      exact ⟨rfl, rfl⟩

set_option maxHeartbeats 1000000 in
theorem isInstance_any (n rep no : Int) (w : World) (hg : isGrp n = true) :
    Calls Try.prog 37 #[.int .i64 n, .int .i64 rep, .int .i64 no] w fun e w' => e = .returned (.bool (instB n rep no)) ∧ w = w' := by
  have HG := Lib.hid hg
  clear hg
  by_cases h1 : rep < 0
  · have hr : instB n rep no = false := by unfold instB; rw [inB_no (by omega)]; rfl
    rw [hr]
    clear hr
    go_enter Try.func37, Try.ntmps37
    go_wp2_with fail
    refine (implIsGroup_any _ _).mono ?_
    rintro e w' ⟨rfl, rfl⟩
    rw [HG.out]
    go_wp2
    go_ret
    exact ⟨rfl, rfl⟩
  · have h1' : 0 ≤ rep := by omega
    clear h1
    by_cases h2 : rep < n
    · by_cases h3 : no < 1
      · have hr : instB n rep no = false := by unfold instB; rw [inB_no (n := no) (by omega), Bool.and_false]
        rw [hr]
        clear hr
        go_enter Try.func37, Try.ntmps37
        go_wp2_with fail
        refine (implIsGroup_any _ _).mono ?_
        rintro e w' ⟨rfl, rfl⟩
        rw [HG.out]
        go_wp2
        go_ret
        exact ⟨rfl, rfl⟩
      · have h3' : 1 ≤ no := by omega
        clear h3
        by_cases h4 : no ≤ 6
        · have hr : instB n rep no = true := by unfold instB; rw [inB_yes (n := no) (by omega) (by omega), inB_yes (by omega) (by omega)]; rfl
          rw [hr]
          clear hr
          go_enter Try.func37, Try.ntmps37
          go_wp2_with fail
          refine (implIsGroup_any _ _).mono ?_
          rintro e w' ⟨rfl, rfl⟩
          rw [HG.out]
          go_wp2
          go_ret
          exact ⟨rfl, rfl⟩
        · have hr : instB n rep no = false := by unfold instB; rw [inB_no (n := no) (by omega), Bool.and_false]
          rw [hr]
          have d4 : decide (no ≤ 6) = false := by simpa using h4
          clear hr h4
          go_enter Try.func37, Try.ntmps37
          go_wp2_with fail
          refine (implIsGroup_any _ _).mono ?_
          rintro e w' ⟨rfl, rfl⟩
          rw [HG.out]
          go_wp2
          go_ret
          exact ⟨rfl, rfl⟩
    · have hr : instB n rep no = false := by unfold instB; rw [inB_no (n := rep) (by omega)]; rfl
      rw [hr]
      have h2' : n ≤ rep := by omega
      clear hr h2
      go_enter Try.func37, Try.ntmps37
      go_wp2_with fail
      refine (implIsGroup_any _ _).mono ?_
      rintro e w' ⟨rfl, rfl⟩
      rw [HG.out]
      go_wp2
      go_ret
      exact ⟨rfl, rfl⟩

/-- What HangsOn tells. -/
def hangsB (n s : Int) (l : List Int) (rep no : Int) : Bool := goodA n s l && instB n rep no && decide (no ≤ l[rep.toNat]?.getD 0)
def hangsOk (n s : Int) (l : List Int) (rep no : Int) : Bool := goodA n s l && instB n rep no

set_option maxHeartbeats 1000000 in
theorem specHangs_any (n s : Int) (u : Value) (l : List Int) (rep no : Int) (w : World) (hv : Ints w u l) :
    Calls Try.prog 21 #[.int .i64 n, .agg #[.int .i64 s, u], .int .i64 rep, .int .i64 no] w (TwoB (hangsB n s l rep no) (hangsOk n s l rep no) w) := by
  have hb := attrAt_new w 27 s u
  obtain ⟨au, cu, rfl, hlu, hcap, hcu⟩ := hv
  have HV : Hid (Ints w (.slice au l.length cu) l) := Lib.hid ⟨au, cu, rfl, hlu, hcap, hcu⟩
  clear hlu hcap
  unfold hangsB hangsOk
  cases hg : goodA n s l with
  | false =>
    have HG := Lib.hid hg
    clear hg hcu
    go_enter Try.func21, Try.ntmps21
    go_wp2_with fail
    refine (specGoodAttr_any _ _ _ l _ (HV.out.ext (Ext.alloc (Ext.refl _) _))).mono ?_
    rintro e w1 ⟨rfl, x1⟩
    rw [HG.out]
    have hx : Ext w w1 := (Ext.alloc (Ext.refl _) _).trans x1
    clear x1 hb
    go_wp2
    go_ret2
    exact ⟨rfl, hx⟩
  | true =>
    have HG := Lib.hid hg
    obtain ⟨hgr, hgd⟩ := goodA_of hg
    obtain ⟨_, hlen, _⟩ := goodD_of hgd
    obtain ⟨h3, h5⟩ := isGrp_bd hgr
    clear hg hgr hgd
    cases hi : instB n rep no with
    | false =>
      have HI := Lib.hid hi
      clear hi hcu
      go_enter Try.func21, Try.ntmps21
      go_wp2_with fail
      refine (specGoodAttr_any _ _ _ l _ (HV.out.ext (Ext.alloc (Ext.refl _) _))).mono ?_
      rintro e w1 ⟨rfl, x1⟩
      rw [HG.out]
      have hx : Ext w w1 := (Ext.alloc (Ext.refl _) _).trans x1
      clear x1 hb hlen
      go_wp2_with fail
      refine (l3Inst_any _ _ _ _ h3 h5).mono ?_
      rintro e w' ⟨rfl, rfl⟩
      rw [HI.out]
      go_wp2
      go_ret2
      exact ⟨rfl, hx⟩
    | true =>
      have HI := Lib.hid hi
      obtain ⟨hr, hno⟩ : (0 ≤ rep ∧ rep < l.length) ∧ 1 ≤ no := by
        unfold instB inB at hi
        simp only [Bool.and_eq_true, decide_eq_true_eq] at hi
        omega
      obtain ⟨k, rfl⟩ : ∃ k : Nat, rep = (k : Int) := ⟨rep.toNat, by omega⟩
      have hk : k < l.length := by omega
      obtain ⟨bv, ov, rfl, dv⟩ := hcu (by omega)
      have gv := dv k hk
      rw [List.getElem?_eq_getElem hk, Option.getD_some] at gv
      rw [Int.toNat_natCast, List.getElem?_eq_getElem hk, Option.getD_some, Bool.true_and, Bool.true_and]
      obtain ⟨y, hy⟩ : ∃ y : Int, y = l[k] := ⟨_, rfl⟩
      rw [← hy] at gv ⊢
      have HL := Lib.hid hlen
      clear hi hcu dv hy hr hlen
      go_enter Try.func21, Try.ntmps21
      go_wp2_with fail
      refine (specGoodAttr_any _ _ _ l _ (HV.out.ext (Ext.alloc (Ext.refl _) _))).mono ?_
      rintro e w1 ⟨rfl, x1⟩
      rw [HG.out]
      obtain ⟨c0, c1⟩ := hb.ext x1
      have hx : Ext w w1 := (Ext.alloc (Ext.refl _) _).trans x1
      have gv1 := hx.cell gv
      clear x1 hb gv
      go_wp2_with fail
      refine (l3Inst_any _ _ _ _ h3 h5).mono ?_
      rintro e w' ⟨rfl, rfl⟩
      rw [HI.out]
      go_wp2
      go_ret2
      exact ⟨rfl, hx⟩

set_option maxHeartbeats 1000000 in
theorem implHangs_any (n s : Int) (u : Value) (l : List Int) (rep no : Int) (w : World) (hv : Ints w u l) :
    Calls Try.prog 22 #[.int .i64 n, .agg #[.int .i64 s, u], .int .i64 rep, .int .i64 no] w (TwoB (hangsB n s l rep no) (hangsOk n s l rep no) w) := by
  have hb := attrAt_new w 27 s u
  obtain ⟨au, cu, rfl, hlu, hcap, hcu⟩ := hv
  have HV : Hid (Ints w (.slice au l.length cu) l) := Lib.hid ⟨au, cu, rfl, hlu, hcap, hcu⟩
  clear hlu hcap
  unfold hangsB hangsOk
  cases hg : goodA n s l with
  | false =>
    have HG := Lib.hid hg
    clear hg hcu
    go_enter Try.func22, Try.ntmps22
    go_wp2_with fail
    refine (implGoodAttr_any _ _ _ l _ (HV.out.ext (Ext.alloc (Ext.refl _) _))).mono ?_
    rintro e w1 ⟨rfl, x1⟩
    rw [HG.out]
    have hx : Ext w w1 := (Ext.alloc (Ext.refl _) _).trans x1
    clear x1 hb
    go_wp2
    go_ret2
    exact ⟨rfl, hx⟩
  | true =>
    have HG := Lib.hid hg
    obtain ⟨hgr, hgd⟩ := goodA_of hg
    obtain ⟨_, hlen, _⟩ := goodD_of hgd
    obtain ⟨h3, h5⟩ := isGrp_bd hgr
    have HGR := Lib.hid hgr
    clear hg hgr hgd
    cases hi : instB n rep no with
    | false =>
      have HI := Lib.hid hi
      clear hi hcu
      go_enter Try.func22, Try.ntmps22
      go_wp2_with fail
      refine (implGoodAttr_any _ _ _ l _ (HV.out.ext (Ext.alloc (Ext.refl _) _))).mono ?_
      rintro e w1 ⟨rfl, x1⟩
      rw [HG.out]
      have hx : Ext w w1 := (Ext.alloc (Ext.refl _) _).trans x1
      clear x1 hb hlen
      go_wp2_with fail
      refine (isInstance_any _ _ _ _ HGR.out).mono ?_
      rintro e w' ⟨rfl, rfl⟩
      rw [HI.out]
      go_wp2
      go_ret2
      exact ⟨rfl, hx⟩
    | true =>
      have HI := Lib.hid hi
      obtain ⟨hr, hno⟩ : (0 ≤ rep ∧ rep < l.length) ∧ 1 ≤ no := by
        unfold instB inB at hi
        simp only [Bool.and_eq_true, decide_eq_true_eq] at hi
        omega
      obtain ⟨k, rfl⟩ : ∃ k : Nat, rep = (k : Int) := ⟨rep.toNat, by omega⟩
      have hk : k < l.length := by omega
      obtain ⟨bv, ov, rfl, dv⟩ := hcu (by omega)
      have gv := dv k hk
      rw [List.getElem?_eq_getElem hk, Option.getD_some] at gv
      rw [Int.toNat_natCast, List.getElem?_eq_getElem hk, Option.getD_some, Bool.true_and, Bool.true_and]
      obtain ⟨y, hy⟩ : ∃ y : Int, y = l[k] := ⟨_, rfl⟩
      rw [← hy] at gv ⊢
      clear hi hcu dv hy hr hlen
      go_enter Try.func22, Try.ntmps22
      go_wp2_with fail
      refine (implGoodAttr_any _ _ _ l _ (HV.out.ext (Ext.alloc (Ext.refl _) _))).mono ?_
      rintro e w1 ⟨rfl, x1⟩
      rw [HG.out]
      obtain ⟨c0, c1⟩ := hb.ext x1
      have hx : Ext w w1 := (Ext.alloc (Ext.refl _) _).trans x1
      have gv1 := hx.cell gv
      clear x1 hb gv
      go_wp2_with fail
      refine (isInstance_any _ _ _ _ HGR.out).mono ?_
      rintro e w' ⟨rfl, rfl⟩
      rw [HI.out]
      go_wp2
      go_ret2
      exact ⟨rfl, hx⟩

end Go.Proofs.Ytfadmcgaojnghaa
