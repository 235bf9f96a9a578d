/- Contracts of the two functions HangsOn, of the program and of the model. -/
import Derived.Test.YthnoeknalpnadaaGoodAttr
namespace Go.Proofs.Ythnoeknalpnadaa
open Go.RowKit
set_option linter.unusedVariables false

/-- Whether it is an instance of a group of n. -/
def instB (n rep no : Int) : Bool := inB rep 0 (n - 1) && inB no 1 6
theorem isGrp_bd {n : Int} (h : isGrp n = true) : 3 ≤ n ∧ n ≤ 5 := by rcases isGrp_of h with rfl | rfl <;> omega

set_option maxHeartbeats 400000 in
theorem l3Inst_any (n rep no : Int) (w : World) (h3 : 3 ≤ n) (h5 : n ≤ 5) :
    Calls Try.prog 131 #[.int .i64 n, .int .i64 rep, .int .i64 no] w fun e w' => e = .returned (.bool (instB n rep no)) ∧ w = w' := by
  unfold instB
  cases h1 : inB rep 0 (n - 1)
  · have H1 := Lib.hid h1
    clear h1
    go_enter Try.func131, Try.ntmps131
    go_wp2_with fail
    refine (l1In_any _ _ _ _).mono ?_
    rintro e w' ⟨rfl, rfl⟩
    rw [H1.out]
    go_wp2
    go_ret
    exact ⟨rfl, rfl⟩
  · have H1 := Lib.hid h1
    clear h1
    cases h2 : inB no 1 6
    all_goals
      have H2 := Lib.hid h2
      clear h2
      go_enter Try.func131, Try.ntmps131
      go_wp2_with fail
      refine (l1In_any _ _ _ _).mono ?_
      rintro e w' ⟨rfl, rfl⟩
      rw [H1.out]
      go_wp2_with fail
      refine (l1In_any _ _ _ _).mono ?_
      rintro e w' ⟨rfl, rfl⟩
      rw [H2.out]
      go_wp2
      go_ret
      exact ⟨rfl, rfl⟩

def repB (n k : Int) : Bool := isGrp n && inB k 0 (n - 1)
set_option maxHeartbeats 1000000 in
theorem isReplica_any (n k : Int) (w : World) :
    Calls Try.prog 78 #[.int .i64 n, .int .i64 k] w fun e w' => e = .returned (.bool (repB n k)) ∧ w = w' := by
  unfold repB
  cases hg : isGrp n with
  | false =>
    have HG := Lib.hid hg
    clear hg
    go_enter Try.func78, Try.ntmps78
    go_wp2_with fail
    refine (implIsGroup_any _ _).mono ?_
    rintro e w' ⟨rfl, rfl⟩
    rw [HG.out]
    go_wp2
    go_ret
    exact ⟨rfl, rfl⟩
  | true =>
    have HG := Lib.hid hg
    clear hg
    by_cases h1 : k < 0
    · have hr : inB k 0 (n - 1) = false := inB_no (by omega)
      rw [hr]
      clear hr
      go_enter Try.func78, Try.ntmps78
      go_wp2_with fail
      refine (implIsGroup_any _ _).mono ?_
      rintro e w' ⟨rfl, rfl⟩
      rw [HG.out]
      go_wp2
      go_ret
      exact ⟨rfl, rfl⟩
    · by_cases h2 : k < n
      · have h3 : 0 ≤ k := by omega
        have hr : inB k 0 (n - 1) = true := inB_yes h3 (by omega)
        rw [hr]
        clear hr h1
        go_enter Try.func78, Try.ntmps78
        go_wp2_with fail
        refine (implIsGroup_any _ _).mono ?_
        rintro e w' ⟨rfl, rfl⟩
        rw [HG.out]
        go_wp2
        go_ret
        exact ⟨rfl, rfl⟩
      · have h3 : 0 ≤ k := by omega
        have h4 : n ≤ k := by omega
        have hr : inB k 0 (n - 1) = false := inB_no (by omega)
        have nk : decide (k < n) = false := decide_eq_false h2
        rw [hr]
        clear hr h1 h2 h4
        go_enter Try.func78, Try.ntmps78
        go_wp2_with fail
        refine (implIsGroup_any _ _).mono ?_
        rintro e w' ⟨rfl, rfl⟩
        rw [HG.out]
        go_wp2
        go_ret
        exact ⟨rfl, rfl⟩

set_option maxHeartbeats 1000000 in
/-- Whether it is an instance, of a group or of none. -/
theorem isInstance_all (n rep no : Int) (w : World) :
    Calls Try.prog 105 #[.int .i64 n, .int .i64 rep, .int .i64 no] w fun e w' => e = .returned (.bool (repB n rep && inB no 1 6)) ∧ w = w' := by
  cases hg : repB n rep with
  | false =>
    have HG := Lib.hid hg
    clear hg
    go_enter Try.func105, Try.ntmps105
    go_wp2_with fail
    refine (isReplica_any _ _ _).mono ?_
    rintro e w' ⟨rfl, rfl⟩
    rw [HG.out]
    go_wp2
    go_ret
    exact ⟨rfl, rfl⟩
  | true =>
    have HG := Lib.hid hg
    clear hg
    by_cases h1 : no < 1
    · have hr : inB no 1 6 = false := inB_no (by omega)
      rw [hr]
      clear hr
      go_enter Try.func105, Try.ntmps105
      go_wp2_with fail
      refine (isReplica_any _ _ _).mono ?_
      rintro e w' ⟨rfl, rfl⟩
      rw [HG.out]
      go_wp2
      go_ret
      exact ⟨rfl, rfl⟩
    · by_cases h2 : 6 < no
      · have h3 : 1 ≤ no := by omega
        have hr : inB no 1 6 = false := inB_no (by omega)
        have nk : decide (no ≤ 6) = false := decide_eq_false (by omega)
        rw [hr]
        clear hr h1 h2
        go_enter Try.func105, Try.ntmps105
        go_wp2_with fail
        refine (isReplica_any _ _ _).mono ?_
        rintro e w' ⟨rfl, rfl⟩
        rw [HG.out]
        go_wp2
        go_ret
        exact ⟨rfl, rfl⟩
      · have h3 : 1 ≤ no := by omega
        have h4 : no ≤ 6 := by omega
        have hr : inB no 1 6 = true := inB_yes h3 h4
        rw [hr]
        clear hr h1 h2
        go_enter Try.func105, Try.ntmps105
        go_wp2_with fail
        refine (isReplica_any _ _ _).mono ?_
        rintro e w' ⟨rfl, rfl⟩
        rw [HG.out]
        go_wp2
        go_ret
        exact ⟨rfl, rfl⟩
theorem isInstance_any (n rep no : Int) (w : World) (hg : isGrp n = true) :
    Calls Try.prog 105 #[.int .i64 n, .int .i64 rep, .int .i64 no] w fun e w' => e = .returned (.bool (instB n rep no)) ∧ w = w' := by
  have h := isInstance_all n rep no w
  unfold repB at h
  rw [hg, Bool.true_and] at h
  exact h

/-- Does it hang on the instance? -/
def hangsB (n s : Int) (l : List Int) (rep no : Int) : Bool := goodA n s l && instB n rep no && decide (no ≤ l[rep.toNat]?.getD 0)
def hangsOk (n s : Int) (l : List Int) (rep no : Int) : Bool := goodA n s l && instB n rep no
set_option maxHeartbeats 1000000 in
theorem specHangs_any (n s : Int) (u : Value) (l : List Int) (rep no : Int) (w : World) (hv : Ints w u l) :
    Calls Try.prog 67 #[.int .i64 n, .agg #[.int .i64 s, u], .int .i64 rep, .int .i64 no] w (TwoB (hangsB n s l rep no) (hangsOk n s l rep no) w) := by
  have hb := attrAt_new w 39 s u
  obtain ⟨au, cu, rfl, hlu, hcap, hcu⟩ := hv
  have HV : Hid (Ints w (.slice au l.length cu) l) := Lib.hid ⟨au, cu, rfl, hlu, hcap, hcu⟩
  clear hlu hcap
  unfold hangsB hangsOk
  cases hg : goodA n s l with
  | false =>
    have HG := Lib.hid hg
    clear hg hcu
    go_enter Try.func67, Try.ntmps67
    go_wp2_with fail
    refine (specGoodAttr_any _ _ _ l _ (HV.out.ext (Ext.alloc (Ext.refl _) _))).mono ?_
    rintro e w1 ⟨rfl, x1⟩
    rw [HG.out]
    have hx : Ext w w1 := (Ext.alloc (Ext.refl _) _).trans x1
    clear x1 hb
    go_wp2
    go_ret2
    exact ⟨rfl, hx⟩
  | true =>
    have HG := Lib.hid hg
    obtain ⟨hgr, hgd⟩ := goodA_of hg
    obtain ⟨_, hlen, _⟩ := goodD_of hgd
    obtain ⟨h3, h5⟩ := isGrp_bd hgr
    clear hg hgr hgd
    cases hi : instB n rep no with
    | false =>
      have HI := Lib.hid hi
      clear hi hcu
      go_enter Try.func67, Try.ntmps67
      go_wp2_with fail
      refine (specGoodAttr_any _ _ _ l _ (HV.out.ext (Ext.alloc (Ext.refl _) _))).mono ?_
      rintro e w1 ⟨rfl, x1⟩
      rw [HG.out]
      have hx : Ext w w1 := (Ext.alloc (Ext.refl _) _).trans x1
      clear x1 hb hlen
      go_wp2_with fail
      refine (l3Inst_any _ _ _ _ h3 h5).mono ?_
      rintro e w' ⟨rfl, rfl⟩
      rw [HI.out]
      go_wp2
      go_ret2
      exact ⟨rfl, hx⟩
    | true =>
      have HI := Lib.hid hi
      obtain ⟨hr, hno⟩ : (0 ≤ rep ∧ rep < l.length) ∧ 1 ≤ no := by
        unfold instB inB at hi
        simp only [Bool.and_eq_true, decide_eq_true_eq] at hi
        omega
      obtain ⟨k, rfl⟩ : ∃ k : Nat, rep = (k : Int) := ⟨rep.toNat, by omega⟩
      have hk : k < l.length := by omega
      obtain ⟨bv, ov, rfl, dv⟩ := hcu (by omega)
      have gv := dv k hk
      rw [List.getElem?_eq_getElem hk, Option.getD_some] at gv
      rw [Int.toNat_natCast, List.getElem?_eq_getElem hk, Option.getD_some, Bool.true_and, Bool.true_and]
      obtain ⟨y, hy⟩ : ∃ y : Int, y = l[k] := ⟨_, rfl⟩
      rw [← hy] at gv ⊢
      have HL := Lib.hid hlen
      clear hi hcu dv hy hr hlen
      go_enter Try.func67, Try.ntmps67
      go_wp2_with fail
      refine (specGoodAttr_any _ _ _ l _ (HV.out.ext (Ext.alloc (Ext.refl _) _))).mono ?_
      rintro e w1 ⟨rfl, x1⟩
      rw [HG.out]
      obtain ⟨c0, c1⟩ := hb.ext x1
      have hx : Ext w w1 := (Ext.alloc (Ext.refl _) _).trans x1
      have gv1 := hx.cell gv
      clear x1 hb gv
      go_wp2_with fail
      refine (l3Inst_any _ _ _ _ h3 h5).mono ?_
      rintro e w' ⟨rfl, rfl⟩
      rw [HI.out]
      go_wp2
      go_ret2
      exact ⟨rfl, hx⟩

set_option maxHeartbeats 1000000 in
theorem implHangs_any (n s : Int) (u : Value) (l : List Int) (rep no : Int) (w : World) (hv : Ints w u l) :
    Calls Try.prog 69 #[.int .i64 n, .agg #[.int .i64 s, u], .int .i64 rep, .int .i64 no] w (TwoB (hangsB n s l rep no) (hangsOk n s l rep no) w) := by
  have hb := attrAt_new w 39 s u
  obtain ⟨au, cu, rfl, hlu, hcap, hcu⟩ := hv
  have HV : Hid (Ints w (.slice au l.length cu) l) := Lib.hid ⟨au, cu, rfl, hlu, hcap, hcu⟩
  clear hlu hcap
  unfold hangsB hangsOk
  cases hg : goodA n s l with
  | false =>
    have HG := Lib.hid hg
    clear hg hcu
    go_enter Try.func69, Try.ntmps69
    go_wp2_with fail
    refine (implGoodAttr_any _ _ _ l _ (HV.out.ext (Ext.alloc (Ext.refl _) _))).mono ?_
    rintro e w1 ⟨rfl, x1⟩
    rw [HG.out]
    have hx : Ext w w1 := (Ext.alloc (Ext.refl _) _).trans x1
    clear x1 hb
    go_wp2
    go_ret2
    exact ⟨rfl, hx⟩
  | true =>
    have HG := Lib.hid hg
    obtain ⟨hgr, hgd⟩ := goodA_of hg
    obtain ⟨_, hlen, _⟩ := goodD_of hgd
    obtain ⟨h3, h5⟩ := isGrp_bd hgr
    have HGR := Lib.hid hgr
    clear hg hgr hgd
    cases hi : instB n rep no with
    | false =>
      have HI := Lib.hid hi
      clear hi hcu
      go_enter Try.func69, Try.ntmps69
      go_wp2_with fail
      refine (implGoodAttr_any _ _ _ l _ (HV.out.ext (Ext.alloc (Ext.refl _) _))).mono ?_
      rintro e w1 ⟨rfl, x1⟩
      rw [HG.out]
      have hx : Ext w w1 := (Ext.alloc (Ext.refl _) _).trans x1
      clear x1 hb hlen
      go_wp2_with fail
      refine (isInstance_any _ _ _ _ HGR.out).mono ?_
      rintro e w' ⟨rfl, rfl⟩
      rw [HI.out]
      go_wp2
      go_ret2
      exact ⟨rfl, hx⟩
    | true =>
      have HI := Lib.hid hi
      obtain ⟨hr, hno⟩ : (0 ≤ rep ∧ rep < l.length) ∧ 1 ≤ no := by
        unfold instB inB at hi
        simp only [Bool.and_eq_true, decide_eq_true_eq] at hi
        omega
      obtain ⟨k, rfl⟩ : ∃ k : Nat, rep = (k : Int) := ⟨rep.toNat, by omega⟩
      have hk : k < l.length := by omega
      obtain ⟨bv, ov, rfl, dv⟩ := hcu (by omega)
      have gv := dv k hk
      rw [List.getElem?_eq_getElem hk, Option.getD_some] at gv
      rw [Int.toNat_natCast, List.getElem?_eq_getElem hk, Option.getD_some, Bool.true_and, Bool.true_and]
      obtain ⟨y, hy⟩ : ∃ y : Int, y = l[k] := ⟨_, rfl⟩
      rw [← hy] at gv ⊢
      clear hi hcu dv hy hr hlen
      go_enter Try.func69, Try.ntmps69
      go_wp2_with fail
      refine (implGoodAttr_any _ _ _ l _ (HV.out.ext (Ext.alloc (Ext.refl _) _))).mono ?_
      rintro e w1 ⟨rfl, x1⟩
      rw [HG.out]
      obtain ⟨c0, c1⟩ := hb.ext x1
      have hx : Ext w w1 := (Ext.alloc (Ext.refl _) _).trans x1
      have gv1 := hx.cell gv
      clear x1 hb gv
      go_wp2_with fail
      refine (isInstance_any _ _ _ _ HGR.out).mono ?_
      rintro e w' ⟨rfl, rfl⟩
      rw [HI.out]
      go_wp2
      go_ret2
      exact ⟨rfl, hx⟩

end Go.Proofs.Ythnoeknalpnadaa
