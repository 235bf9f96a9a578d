/- Texts of this proof, part f: words, plain facts, contracts. -/
import Derived.Test.YthnoeknalpnadaaMSameOrdersb
import Derived.Test.YthnoeknalpnadaaMSameOrderse
import Derived.Test.YthnoeknalpnadaaMSameOrdersa
import Derived.Test.YthnoeknalpnadaaMSameOrdersc

namespace Go.Proofs.Ythnoeknalpnadaa
open Go.RowKit
set_option linter.unusedVariables false

/-- Whether it is an instance of a group of n. -/
def instB (n rep no : Int) : Bool := inB rep 0 (n - 1) && inB no 1 6
theorem isGrp_bd {n : Int} (h : isGrp n = true) : 3 ≤ n ∧ n ≤ 5 := by rcases isGrp_of h with rfl | rfl <;> omega

set_option maxHeartbeats 400000 in
theorem l3Inst_any (n rep no : Int) (w : World) (h3 : 3 ≤ n) (h5 : n ≤ 5) :
    Calls Try.prog 131 #[.int .i64 n, .int .i64 rep, .int .i64 no] w fun e w' => e = .returned (.bool (instB n rep no)) ∧ w = w' := by
  unfold instB
  cases h1 : inB rep 0 (n - 1)
  · have H1 := Lib.hid h1
    clear h1
    go_enter Try.func131, Try.ntmps131
    go_wp2_with fail
    refine (l1In_any _ _ _ _).mono ?_
    rintro e w' ⟨rfl, rfl⟩
    rw [H1.out]
    go_wp2
    go_ret
    exact ⟨rfl, rfl⟩
  · have H1 := Lib.hid h1
    clear h1
    cases h2 : inB no 1 6
    all_goals
      have H2 := Lib.hid h2
      clear h2
      go_enter Try.func131, Try.ntmps131
      go_wp2_with fail
      refine (l1In_any _ _ _ _).mono ?_
      rintro e w' ⟨rfl, rfl⟩
      rw [H1.out]
      go_wp2_with fail
      refine (l1In_any _ _ _ _).mono ?_
      rintro e w' ⟨rfl, rfl⟩
      rw [H2.out]
      go_wp2
      go_ret
      exact ⟨rfl, rfl⟩

def repB (n k : Int) : Bool := isGrp n && inB k 0 (n - 1)
set_option maxHeartbeats 1000000 in
theorem isReplica_any (n k : Int) (w : World) :
    Calls Try.prog 78 #[.int .i64 n, .int .i64 k] w fun e w' => e = .returned (.bool (repB n k)) ∧ w = w' := by
  unfold repB
  cases hg : isGrp n with
  | false =>
    have HG := Lib.hid hg
    clear hg
    go_enter Try.func78, Try.ntmps78
    go_wp2_with fail
    refine (implIsGroup_any _ _).mono ?_
    rintro e w' ⟨rfl, rfl⟩
    rw [HG.out]
    go_wp2
    go_ret
    exact ⟨rfl, rfl⟩
  | true =>
    have HG := Lib.hid hg
    clear hg
    by_cases h1 : k < 0
    · have hr : inB k 0 (n - 1) = false := inB_no (by omega)
      rw [hr]
      clear hr
      go_enter Try.func78, Try.ntmps78
      go_wp2_with fail
      refine (implIsGroup_any _ _).mono ?_
      rintro e w' ⟨rfl, rfl⟩
      rw [HG.out]
      go_wp2
      go_ret
      exact ⟨rfl, rfl⟩
    · by_cases h2 : k < n
      · have h3 : 0 ≤ k := by omega
        have hr : inB k 0 (n - 1) = true := inB_yes h3 (by omega)
        rw [hr]
        clear hr h1
        go_enter Try.func78, Try.ntmps78
        go_wp2_with fail
        refine (implIsGroup_any _ _).mono ?_
        rintro e w' ⟨rfl, rfl⟩
        rw [HG.out]
        go_wp2
        go_ret
        exact ⟨rfl, rfl⟩
      · have h3 : 0 ≤ k := by omega
        have h4 : n ≤ k := by omega
        have hr : inB k 0 (n - 1) = false := inB_no (by omega)
        have nk : decide (k < n) = false := decide_eq_false h2
        rw [hr]
        clear hr h1 h2 h4
        go_enter Try.func78, Try.ntmps78
        go_wp2_with fail
        refine (implIsGroup_any _ _).mono ?_
        rintro e w' ⟨rfl, rfl⟩
        rw [HG.out]
        go_wp2
        go_ret
        exact ⟨rfl, rfl⟩

set_option maxHeartbeats 1000000 in
/-- Whether it is an instance, of a group or of none. -/
theorem isInstance_all (n rep no : Int) (w : World) :
    Calls Try.prog 105 #[.int .i64 n, .int .i64 rep, .int .i64 no] w fun e w' => e = .returned (.bool (repB n rep && inB no 1 6)) ∧ w = w' := by
  cases hg : repB n rep with
  | false =>
    have HG := Lib.hid hg
    clear hg
    go_enter Try.func105, Try.ntmps105
    go_wp2_with fail
    refine (isReplica_any _ _ _).mono ?_
    rintro e w' ⟨rfl, rfl⟩
    rw [HG.out]
    go_wp2
    go_ret
    exact ⟨rfl, rfl⟩
  | true =>
    have HG := Lib.hid hg
    clear hg
    by_cases h1 : no < 1
    · have hr : inB no 1 6 = false := inB_no (by omega)
      rw [hr]
      clear hr
      go_enter Try.func105, Try.ntmps105
      go_wp2_with fail
      refine (isReplica_any _ _ _).mono ?_
      rintro e w' ⟨rfl, rfl⟩
      rw [HG.out]
      go_wp2
      go_ret
      exact ⟨rfl, rfl⟩
    · by_cases h2 : 6 < no
      · have h3 : 1 ≤ no := by omega
        have hr : inB no 1 6 = false := inB_no (by omega)
        have nk : decide (no ≤ 6) = false := decide_eq_false (by omega)
        rw [hr]
        clear hr h1 h2
        go_enter Try.func105, Try.ntmps105
        go_wp2_with fail
        refine (isReplica_any _ _ _).mono ?_
        rintro e w' ⟨rfl, rfl⟩
        rw [HG.out]
        go_wp2
        go_ret
        exact ⟨rfl, rfl⟩
      · have h3 : 1 ≤ no := by omega
        have h4 : no ≤ 6 := by omega
        have hr : inB no 1 6 = true := inB_yes h3 h4
        rw [hr]
        clear hr h1 h2
        go_enter Try.func105, Try.ntmps105
        go_wp2_with fail
        refine (isReplica_any _ _ _).mono ?_
        rintro e w' ⟨rfl, rfl⟩
        rw [HG.out]
        go_wp2
        go_ret
        exact ⟨rfl, rfl⟩
theorem isInstance_any (n rep no : Int) (w : World) (hg : isGrp n = true) :
    Calls Try.prog 105 #[.int .i64 n, .int .i64 rep, .int .i64 no] w fun e w' => e = .returned (.bool (instB n rep no)) ∧ w = w' := by
  have h := isInstance_all n rep no w
  unfold repB at h
  rw [hg, Bool.true_and] at h
  exact h

/-- Does it hang on the instance? -/
def hangsB (n s : Int) (l : List Int) (rep no : Int) : Bool := goodA n s l && instB n rep no && decide (no ≤ l[rep.toNat]?.getD 0)
def hangsOk (n s : Int) (l : List Int) (rep no : Int) : Bool := goodA n s l && instB n rep no
set_option maxHeartbeats 1000000 in
theorem specHangs_any (n s : Int) (u : Value) (l : List Int) (rep no : Int) (w : World) (hv : Ints w u l) :
    Calls Try.prog 67 #[.int .i64 n, .agg #[.int .i64 s, u], .int .i64 rep, .int .i64 no] w (TwoB (hangsB n s l rep no) (hangsOk n s l rep no) w) := by
  have hb := attrAt_new w 39 s u
  obtain ⟨au, cu, rfl, hlu, hcap, hcu⟩ := hv
  have HV : Hid (Ints w (.slice au l.length cu) l) := Lib.hid ⟨au, cu, rfl, hlu, hcap, hcu⟩
  clear hlu hcap
  unfold hangsB hangsOk
  cases hg : goodA n s l with
  | false =>
    have HG := Lib.hid hg
    clear hg hcu
    go_enter Try.func67, Try.ntmps67
    go_wp2_with fail
    refine (specGoodAttr_any _ _ _ l _ (HV.out.ext (Ext.alloc (Ext.refl _) _))).mono ?_
    rintro e w1 ⟨rfl, x1⟩
    rw [HG.out]
    have hx : Ext w w1 := (Ext.alloc (Ext.refl _) _).trans x1
    clear x1 hb
    go_wp2
    go_ret2
    exact ⟨rfl, hx⟩
  | true =>
    have HG := Lib.hid hg
    obtain ⟨hgr, hgd⟩ := goodA_of hg
    obtain ⟨_, hlen, _⟩ := goodD_of hgd
    obtain ⟨h3, h5⟩ := isGrp_bd hgr
    clear hg hgr hgd
    cases hi : instB n rep no with
    | false =>
      have HI := Lib.hid hi
      clear hi hcu
      go_enter Try.func67, Try.ntmps67
      go_wp2_with fail
      refine (specGoodAttr_any _ _ _ l _ (HV.out.ext (Ext.alloc (Ext.refl _) _))).mono ?_
      rintro e w1 ⟨rfl, x1⟩
      rw [HG.out]
      have hx : Ext w w1 := (Ext.alloc (Ext.refl _) _).trans x1
      clear x1 hb hlen
      go_wp2_with fail
      refine (l3Inst_any _ _ _ _ h3 h5).mono ?_
      rintro e w' ⟨rfl, rfl⟩
      rw [HI.out]
      go_wp2
      go_ret2
      exact ⟨rfl, hx⟩
    | true =>
      have HI := Lib.hid hi
      obtain ⟨hr, hno⟩ : (0 ≤ rep ∧ rep < l.length) ∧ 1 ≤ no := by
        unfold instB inB at hi
        simp only [Bool.and_eq_true, decide_eq_true_eq] at hi
        omega
      obtain ⟨k, rfl⟩ : ∃ k : Nat, rep = (k : Int) := ⟨rep.toNat, by omega⟩
      have hk : k < l.length := by omega
      obtain ⟨bv, ov, rfl, dv⟩ := hcu (by omega)
      have gv := dv k hk
      rw [List.getElem?_eq_getElem hk, Option.getD_some] at gv
      rw [Int.toNat_natCast, List.getElem?_eq_getElem hk, Option.getD_some, Bool.true_and, Bool.true_and]
      obtain ⟨y, hy⟩ : ∃ y : Int, y = l[k] := ⟨_, rfl⟩
      rw [← hy] at gv ⊢
      have HL := Lib.hid hlen
      clear hi hcu dv hy hr hlen
      go_enter Try.func67, Try.ntmps67
      go_wp2_with fail
      refine (specGoodAttr_any _ _ _ l _ (HV.out.ext (Ext.alloc (Ext.refl _) _))).mono ?_
      rintro e w1 ⟨rfl, x1⟩
      rw [HG.out]
      obtain ⟨c0, c1⟩ := hb.ext x1
      have hx : Ext w w1 := (Ext.alloc (Ext.refl _) _).trans x1
      have gv1 := hx.cell gv
      clear x1 hb gv
      go_wp2_with fail
      refine (l3Inst_any _ _ _ _ h3 h5).mono ?_
      rintro e w' ⟨rfl, rfl⟩
      rw [HI.out]
      go_wp2
      go_ret2
      exact ⟨rfl, hx⟩

set_option maxHeartbeats 1000000 in
theorem implHangs_any (n s : Int) (u : Value) (l : List Int) (rep no : Int) (w : World) (hv : Ints w u l) :
    Calls Try.prog 69 #[.int .i64 n, .agg #[.int .i64 s, u], .int .i64 rep, .int .i64 no] w (TwoB (hangsB n s l rep no) (hangsOk n s l rep no) w) := by
  have hb := attrAt_new w 39 s u
  obtain ⟨au, cu, rfl, hlu, hcap, hcu⟩ := hv
  have HV : Hid (Ints w (.slice au l.length cu) l) := Lib.hid ⟨au, cu, rfl, hlu, hcap, hcu⟩
  clear hlu hcap
  unfold hangsB hangsOk
  cases hg : goodA n s l with
  | false =>
    have HG := Lib.hid hg
    clear hg hcu
    go_enter Try.func69, Try.ntmps69
    go_wp2_with fail
    refine (implGoodAttr_any _ _ _ l _ (HV.out.ext (Ext.alloc (Ext.refl _) _))).mono ?_
    rintro e w1 ⟨rfl, x1⟩
    rw [HG.out]
    have hx : Ext w w1 := (Ext.alloc (Ext.refl _) _).trans x1
    clear x1 hb
    go_wp2
    go_ret2
    exact ⟨rfl, hx⟩
  | true =>
    have HG := Lib.hid hg
    obtain ⟨hgr, hgd⟩ := goodA_of hg
    obtain ⟨_, hlen, _⟩ := goodD_of hgd
    obtain ⟨h3, h5⟩ := isGrp_bd hgr
    have HGR := Lib.hid hgr
    clear hg hgr hgd
    cases hi : instB n rep no with
    | false =>
      have HI := Lib.hid hi
      clear hi hcu
      go_enter Try.func69, Try.ntmps69
      go_wp2_with fail
      refine (implGoodAttr_any _ _ _ l _ (HV.out.ext (Ext.alloc (Ext.refl _) _))).mono ?_
      rintro e w1 ⟨rfl, x1⟩
      rw [HG.out]
      have hx : Ext w w1 := (Ext.alloc (Ext.refl _) _).trans x1
      clear x1 hb hlen
      go_wp2_with fail
      refine (isInstance_any _ _ _ _ HGR.out).mono ?_
      rintro e w' ⟨rfl, rfl⟩
      rw [HI.out]
      go_wp2
      go_ret2
      exact ⟨rfl, hx⟩
    | true =>
      have HI := Lib.hid hi
      obtain ⟨hr, hno⟩ : (0 ≤ rep ∧ rep < l.length) ∧ 1 ≤ no := by
        unfold instB inB at hi
        simp only [Bool.and_eq_true, decide_eq_true_eq] at hi
        omega
      obtain ⟨k, rfl⟩ : ∃ k : Nat, rep = (k : Int) := ⟨rep.toNat, by omega⟩
      have hk : k < l.length := by omega
      obtain ⟨bv, ov, rfl, dv⟩ := hcu (by omega)
      have gv := dv k hk
      rw [List.getElem?_eq_getElem hk, Option.getD_some] at gv
      rw [Int.toNat_natCast, List.getElem?_eq_getElem hk, Option.getD_some, Bool.true_and, Bool.true_and]
      obtain ⟨y, hy⟩ : ∃ y : Int, y = l[k] := ⟨_, rfl⟩
      rw [← hy] at gv ⊢
      clear hi hcu dv hy hr hlen
      go_enter Try.func69, Try.ntmps69
      go_wp2_with fail
      refine (implGoodAttr_any _ _ _ l _ (HV.out.ext (Ext.alloc (Ext.refl _) _))).mono ?_
      rintro e w1 ⟨rfl, x1⟩
      rw [HG.out]
      obtain ⟨c0, c1⟩ := hb.ext x1
      have hx : Ext w w1 := (Ext.alloc (Ext.refl _) _).trans x1
      have gv1 := hx.cell gv
      clear x1 hb gv
      go_wp2_with fail
      refine (isInstance_any _ _ _ _ HGR.out).mono ?_
      rintro e w' ⟨rfl, rfl⟩
      rw [HI.out]
      go_wp2
      go_ret2
      exact ⟨rfl, hx⟩

end Go.Proofs.Ythnoeknalpnadaa

namespace Go.Proofs.Ythnoeknalpnadaa
open Go.RowKit
set_option linter.unusedVariables false

def emptyR (n : Int) : RowD := ⟨0, 0, 0, 0, 0, 0, 0, 0, 0, noneL n⟩
/-- The row of the place (p, q + 1), the empty one behind the list's end. -/
def rowOf (n : Int) (T : List (List RowD)) (p q : Nat) : RowD := (T[p]?.getD [])[q]?.getD (emptyR n)
theorem rowOf_in {n : Int} {T : List (List RowD)} {p q : Nat} (hp : p < T.length) (hq : q < T[p].length) : rowOf n T p q = T[p][q] := by
  unfold rowOf; simp [List.getElem?_eq_getElem hp, List.getElem?_eq_getElem hq]
theorem rowOf_out {n : Int} {T : List (List RowD)} {p q : Nat} (hp : p < T.length) (hq : T[p].length ≤ q) : rowOf n T p q = emptyR n := by
  unfold rowOf; simp [List.getElem?_eq_getElem hp, List.getElem?_eq_none hq]
theorem goodTab_of {n : Int} {T : List (List RowD)} (h : goodTab n T = true) : isGrp n = true ∧ (T.length : Int) = n ∧ ∀ R ∈ T, R.length ≤ 6 ∧ ∀ r ∈ R, goodRow n r = true := by
  unfold goodTab at h
  simp only [Bool.and_eq_true, decide_eq_true_eq, List.all_eq_true] at h
  refine ⟨h.1.1, h.1.2, fun R hR => ?_⟩
  have := h.2 R hR
  unfold goodList at this
  simp only [Bool.and_eq_true, decide_eq_true_eq, List.all_eq_true] at this
  exact this
theorem goodRow_len {n : Int} {r : RowD} (hn : isGrp n = true) (h : goodRow n r = true) : (r.l.length : Int) = n := by
  unfold goodRow at h
  simp only [Bool.and_eq_true] at h
  have h2 := h.2
  split at h2
  · unfold emptyB at h2
    simp only [Bool.and_eq_true] at h2
    have h3 := h2.2
    unfold sameA at h3
    simp only [Bool.and_eq_true, decide_eq_true_eq] at h3
    rw [h3.2]
    rcases isGrp_of hn with rfl | rfl <;> simp [noneL, isGrp]
  · unfold fullB at h2
    simp only [Bool.and_eq_true] at h2
    exact (goodD_of h2.2).2.1
theorem goodTab_row {n : Int} {T : List (List RowD)} (h : goodTab n T = true) {p q : Nat} (hp : p < T.length) (hq : q < T[p].length) : goodRow n T[p][q] = true ∧ (T[p][q].l.length : Int) = n ∧ T[p][q].l.length ≤ 5 := by
  obtain ⟨h1, h2, h3⟩ := goodTab_of h
  have h4 := (h3 _ (List.getElem_mem hp)).2 _ (List.getElem_mem hq)
  have h5 := goodRow_len h1 h4
  have := isGrp_bd h1
  exact ⟨h4, h5, by omega⟩
/-- An instance, in numbers of the model's lists. -/
theorem inst_nat {n rep no : Int} {T : List (List RowD)} (h : goodTab n T = true) (hi : instB n rep no = true) : ∃ p q : Nat, rep = (p : Int) ∧ no = (q : Int) + 1 ∧ p < T.length ∧ q ≤ 5 := by
  obtain ⟨h1, h2, h3⟩ := goodTab_of h
  unfold instB at hi
  simp only [Bool.and_eq_true] at hi
  obtain ⟨ha, hb⟩ := hi
  unfold inB at ha hb
  simp only [Bool.and_eq_true, decide_eq_true_eq] at ha hb
  exact ⟨rep.toNat, (no - 1).toNat, by omega, by omega, by omega, by omega⟩

set_option maxHeartbeats 1000000 in
theorem l4Asked_any (n : Int) (u : Value) (T : List (List RowD)) (rep no : Int) (w : World) (hu : Rowzz w u T) :
    Calls Try.prog 102 #[.agg #[.int .i64 n, u], .int .i64 rep, .int .i64 no] w (BoolExt (goodTab n T && instB n rep no) w) := by
  have HB := Lib.hid (attrAt_new w 24 n u)
  have HU := Lib.hid (hu.ext (Ext.alloc1 w (.cells #[.int .i64 n, u] 24)))
  clear hu
  cases hg : goodTab n T with
  | false =>
    have HG := Lib.hid hg
    clear hg
    go_enter Try.func102, Try.ntmps102
    go_wp2_with fail
    refine (specGoodTable_any _ _ T _ HU.out).mono ?_
    rintro e w1 ⟨rfl, x1⟩
    have hx := (Ext.alloc1 w _).trans x1
    clear x1
    rw [HG.out]
    go_wp2
    go_ret
    exact ⟨rfl, hx⟩
  | true =>
    rw [Bool.true_and]
    have hb := isGrp_bd (goodTab_of hg).1
    have h3 := hb.1
    have h5 := hb.2
    have HG := Lib.hid hg
    clear hg hb
    go_enter Try.func102, Try.ntmps102
    go_wp2_with fail
    refine (specGoodTable_any _ _ T _ HU.out).mono ?_
    rintro e w1 ⟨rfl, x1⟩
    obtain ⟨c0, c1⟩ := HB.out.ext x1
    have hx := (Ext.alloc1 w _).trans x1
    clear x1
    rw [HG.out]
    go_wp2_with fail
    refine (l3Inst_any _ _ _ _ h3 h5).mono ?_
    rintro e w' ⟨rfl, rfl⟩
    clear c0 c1
    cases hi : instB n rep no
    all_goals
      have HI := Lib.hid hi
      clear hi
      go_wp2
      go_ret
      exact ⟨by rw [HI.out]; rfl, hx⟩

end Go.Proofs.Ythnoeknalpnadaa

namespace Go.Proofs.Ythnoeknalpnadaa
open Go.RowKit
set_option linter.unusedVariables false

/-- Two slices of two element types lie in two blocks. -/
theorem types_apart {w : World} {B B' e e' sz sz' n m : Nat} {v u : Value} {xs ys : List Value} (h : w.ownsRow B e sz v n xs) (k : w.ownsRow B' e' sz' u m ys) (hne : e ≠ e') : u.ownBlock = none ∨ u.ownBlock ≠ v.ownBlock := by
  rcases k.2 with ⟨rfl, _⟩ | ⟨g', cap', cur', rfl, _, hg', _⟩
  · exact .inl rfl
  · refine .inr fun hb => ?_
    rcases h.2 with ⟨rfl, _⟩ | ⟨g, cap, cur, rfl, _, hg, _⟩
    · simp [Value.ownBlock] at hb
    · simp [Value.ownBlock] at hb
      subst hb
      rw [hg] at hg'
      simp at hg'
      exact hne hg'.2
theorem FreshSS.of {B : Nat} {w : World} {v : Value} {L : List (List Int)} {vs : List Value} (h : w.ownsRow B 37 1 v L.length vs) (r : Rows_ B w vs L) : FreshSS B w v L :=
  ⟨vs, h, r, fun j u hu => by
    have hj : j < vs.length := (List.getElem?_eq_some_iff.1 hu).1
    exact types_apart h (r.row j u _ hu (List.getElem?_eq_getElem (by rw [← r.len]; exact hj))) (by decide)⟩
theorem FreshSS.form {B : Nat} {w : World} {v : Value} {L : List (List Int)} (h : FreshSS B w v L) : ∃ ao cap, v = .slice ao L.length cap := by
  obtain ⟨ao, cap, hv, _⟩ := h.intss
  exact ⟨ao, cap, hv⟩

theorem wpList_pushSS {ops : Array Oper} {rest : List Oper} {o : Oper} {a : Act} {Q : Exit → Act → World → Prop} {w : World} (hgd : o.guard = none) (s x : Operand)
    (ho : o.op = .call { callee := .builtin .append, args := #[s, x], argTypes := #[78, 78] })
    (B : Nat) (v : Value) (L : List (List Int)) (l : List Int) (w0 : World) (hs : a.eval s = v) (hf : FreshSS B w0 v L) (e : Ext w0 w) (u : Value) (hu : Fresh w0.heap.size w u l) (ad : Addr) (c : Nat) (hx : a.eval x = .slice (some ad) 1 c)
    (hc : w.cell? ad = some u) (h1 : u.oneCell' = true) (hl : L.length ≤ 1048576) (hB : B ≤ w0.heap.size)
    (h : ∀ v' w', FreshSS B w' v' (L ++ [l]) → Kept B w w' → wpList Try.prog ops Q rest (a.put o.dst v') w') : wpList Try.prog ops Q (o :: rest) a w := by
  obtain ⟨i0, hi, hz0, hz1, hz2⟩ := info_parts Try.infoInts
  obtain ⟨vs, h1r, h2r, _⟩ := hf
  have ho1 := e.ownsRow h1r
  have hR := h2r.snoc e hu hB
  refine wpList_append_own _ hgd s x 78 ho B 37 i0 (.slice none 0 0) 1 24 Try.underlying78 hi hz0 hz1 hz2 rfl (by decide) v L.length _ hs ho1 ad 1 c [u] hx rfl ?_ ?_ ?_ ?_ (Nat.le_trans hB e.size) ?_
  · intro j z hj
    match j, hj with
    | 0, hj => simp at hj; subst hj; simpa [Addr.add] using hc
  · intro z hz; simp at hz; subst hz; exact h1
  · unfold maxLen; omega
  · omega
  · intro v' w' ho' hg _
    have hRt : Rows_ B w' (vs ++ [u]) (L ++ [l]) := hR.touch hg (fun j z hz => by
      have hj : j < (vs ++ [u]).length := (List.getElem?_eq_some_iff.1 hz).1
      exact types_apart ho1 (hR.row j z _ hz (List.getElem?_eq_getElem (by rw [← hR.len]; exact hj))) (by decide))
    refine h v' w' (FreshSS.of (by simpa using ho') hRt) (fun q hq hqB => Below.grown hq hg hq.size (fun b hb => Nat.le_trans hqB (World.ownsRow.lt ho1 b hb).1))

end Go.Proofs.Ythnoeknalpnadaa

namespace Go.Proofs.Ythnoeknalpnadaa
open Go.RowKit
set_option linter.unusedVariables false

def comAt (k : Nat) (R : List RowD) (i : Nat) : List (List Int) := match R[i]? with
  | some r => if r.st == 3 then [[(k : Int), (i : Int) + 1]] else []
  | none => []
/-- What is settled among the first j rows of the list of k, among the first k lists. -/
def comTo (k : Nat) (R : List RowD) (j : Nat) : List (List Int) := (List.range j).flatMap (comAt k R)
def allTo (T : List (List RowD)) (k : Nat) : List (List Int) := (List.range k).flatMap fun p => comTo p (T[p]?.getD []) (T[p]?.getD []).length
theorem comTo_succ (k : Nat) (R : List RowD) (j : Nat) : comTo k R (j + 1) = comTo k R j ++ comAt k R j := by simp [comTo, List.range_succ]
theorem comTo_zero (k : Nat) (R : List RowD) : comTo k R 0 = [] := by simp [comTo]
theorem comAt_yes {k : Nat} {R : List RowD} {j : Nat} (h : j < R.length) (hs : (R[j].st == 3) = true) : comAt k R j = [[(k : Int), (j : Int) + 1]] := by simp [comAt, List.getElem?_eq_getElem h, hs]
theorem comAt_no {k : Nat} {R : List RowD} {j : Nat} (h : j < R.length) (hs : (R[j].st == 3) = false) : comAt k R j = [] := by simp [comAt, List.getElem?_eq_getElem h, hs]
theorem allTo_succ {T : List (List RowD)} {k : Nat} (h : k < T.length) : allTo T (k + 1) = allTo T k ++ comTo k T[k] T[k].length := by simp [allTo, List.range_succ, List.getElem?_eq_getElem h]
theorem allTo_zero (T : List (List RowD)) : allTo T 0 = [] := by simp [allTo]
theorem comAt_len (k : Nat) (R : List RowD) (i : Nat) : (comAt k R i).length ≤ 1 := by
  unfold comAt
  split
  · split <;> simp
  · simp
theorem comTo_len (k : Nat) (R : List RowD) (j : Nat) : (comTo k R j).length ≤ j := by
  induction j with
  | zero => simp [comTo]
  | succ j ih =>
    rw [comTo_succ, List.length_append]
    have := comAt_len k R j
    omega
theorem allTo_len {T : List (List RowD)} (hT : ∀ R ∈ T, R.length ≤ 6) (k : Nat) (hk : k ≤ T.length) : (allTo T k).length ≤ 6 * k := by
  induction k with
  | zero => simp [allTo]
  | succ k ih =>
    have h : k < T.length := by omega
    rw [allTo_succ h, List.length_append]
    have h1 := ih (by omega)
    have h2 := comTo_len k T[k] T[k].length
    have h3 := hT _ (List.getElem_mem h)
    omega
/-- What Committed tells. -/
def comR (n : Int) (T : List (List RowD)) : List (List Int) := if goodTab n T then allTo T T.length else []
theorem comR_no {n : Int} {T : List (List RowD)} (h : goodTab n T = false) : comR n T = [] := by unfold comR; rw [h]; rfl
theorem comR_yes {n : Int} {T : List (List RowD)} (h : goodTab n T = true) : comR n T = allTo T T.length := by unfold comR; rw [h]; rfl

theorem fresh_pair (w : World) (o : Obj) (a b : Int) (o' : Obj) : Fresh w.heap.size (((w.alloc o).alloc (.cells #[.int .i64 a, .int .i64 b] 3)).alloc o') (.slice (some ⟨w.heap.size + 1, 0, none⟩) 2 2) [a, b] :=
  (fresh_lit2 w o [a, b] 2 #[.int .i64 a, .int .i64 b] rfl rfl (by simp)).ext (Ext.alloc1 _ _)
theorem cell_alloc_three (w : World) (a b : Obj) (x : Value) (T : TypeId) : (((w.alloc a).alloc b).alloc (.cells #[x] T)).cell? ⟨w.heap.size + 1 + 1, 0, none⟩ = some x := by go_simp

end Go.Proofs.Ythnoeknalpnadaa

namespace Go.Proofs.Ythnoeknalpnadaa
open Go.RowKit

/-- How many from the front are less. -/
def ahead (l : List Int) (n : Int) : Nat := (l.takeWhile fun x => decide (x < n)).length
def putI (l : List Int) (n : Int) : List Int := if l[ahead l n]? = some n then l else l.take (ahead l n) ++ [n] ++ l.drop (ahead l n)
theorem ahead_stop {l : List Int} {n : Int} {k : Nat} (hk : k < l.length) (ha : ∀ x ∈ l.take k, x < n) (hs : ¬ l[k] < n) : ahead l n = k := by
  induction l generalizing k with
  | nil => simp at hk
  | cons y l ih =>
    cases k with
    | zero => simp at hs; simp [ahead, List.takeWhile_cons]; omega
    | succ k =>
      have hy : y < n := ha y (by simp)
      have := ih (k := k) (by simpa using hk) (fun x hx => ha x (by simp [hx])) (by simpa using hs)
      unfold ahead at this ⊢
      rw [List.takeWhile_cons, if_pos (by simpa using hy), List.length_cons, this]
theorem ahead_all {l : List Int} {n : Int} (ha : ∀ x ∈ l, x < n) : ahead l n = l.length := by
  unfold ahead
  induction l with
  | nil => rfl
  | cons y l ih => rw [List.takeWhile_cons, if_pos (by simpa using ha y (by simp)), List.length_cons, ih (fun x hx => ha x (by simp [hx])), List.length_cons]

def PutR (v : Value) (l : List Int) (n : Int) (w : World) (e : Ending) (w' : World) : Prop :=
  ∃ v', e = .returned v' ∧ Ext w w' ∧ ((v' = v ∧ putI l n = l) ∨ Fresh w.heap.size w' v' (putI l n))

theorem Ints.behind {w : World} {cap : Nat} {l : List Int} {b off : Nat} (h : Ints w (.slice (some ⟨b, off, none⟩) l.length cap) l) (k : Nat) (hk : k ≤ l.length) : Ints w (.slice (some ⟨b, off + k, none⟩) (l.length - k) (cap - k)) (l.drop k) := by
  obtain ⟨ao', cap', he, hm, hcap, hc⟩ := h
  simp only [Value.slice.injEq] at he
  obtain ⟨rfl, _, rfl⟩ := he
  have e : (l.drop k).length = l.length - k := by simp
  refine ⟨some ⟨b, off + k, none⟩, cap - k, by rw [e], by omega, ⟨by have := hcap.1; omega, by have := hcap.2.1; omega, fun h => by cases h⟩, fun hp => ?_⟩
  obtain ⟨b', off', ha, hj⟩ := hc (by omega)
  cases ha
  refine ⟨b, off + k, rfl, fun j hjl => ?_⟩
  rw [Nat.add_assoc, hj (k + j) (by omega), List.getElem?_drop]
theorem Ints.none_of {w : World} {ao : Option Addr} {cap : Nat} (hc : cap ≤ maxLen) (h : ao = none → cap = 0) : Ints w (.slice ao 0 cap) [] :=
  ⟨ao, cap, rfl, by simp, ⟨by simp, hc, h⟩, fun h => by simp at h⟩

/-- The two ends of a cut. -/
theorem Ints.upto {w : World} {ao : Option Addr} {cap : Nat} {l : List Int} (h : Ints w (.slice ao l.length cap) l) (k : Nat) (hk : k ≤ l.length) : Ints w (.slice ao k cap) (l.take k) := by
  obtain ⟨ao', cap', he, hm, hcap, hc⟩ := h
  simp only [Value.slice.injEq] at he
  obtain ⟨rfl, _, rfl⟩ := he
  have e : (l.take k).length = k := by first | omega | (simp; omega)
  refine ⟨ao, cap, by rw [e], by omega, ⟨by omega, hcap.2⟩, fun hp => ?_⟩
  obtain ⟨b, off, ha, hj⟩ := hc (by omega)
  refine ⟨b, off, ha, fun j hjl => ?_⟩
  rw [hj j (by omega), List.getElem?_take, if_pos (by omega)]

set_option maxHeartbeats 1000000 in
theorem l1Put_any (v : Value) (l : List Int) (n : Int) (w : World) (hv : Ints w v l) (hl : l.length ≤ 1048576) :
    Calls Try.prog 176 #[v, .int .i64 n] w (PutR v l n w) := by
  have hv0 := hv
  obtain ⟨av, cv, rfl, hlv, hcap, hcv⟩ := hv
  have hcap1 := hcap.1
  have hcap2 := hcap.2.1
  unfold maxLen at hlv hcap2
  go_enter Try.func176, Try.ntmps176
  go_wp2
  go_loop [5] (fun i => ∃ k : Nat, k ≤ l.length ∧ i = .int .i64 k ∧ (∀ x ∈ l.take k, x < n)) (fun i => l.length - (intOf i).toNat)
  case atStart => exact ⟨0, Nat.zero_le _, rfl, by simp⟩
  case round =>
    obtain ⟨k, hk, rfl, ha⟩ := hrel
    have HA := Lib.hid ha
    clear ha
    by_cases hlt : k < l.length
    · obtain ⟨bv, ov, rfl, dv⟩ := hcv (by omega)
      have gv := dv k hlt
      have HC := Lib.hid hcap
      clear hcv dv hcap
      by_cases hx : l[k] < n
      · go_wp2
        go_round
        case rel => exact ⟨k + 1, by omega, by go_num, by
          intro x hxm
          rw [List.take_add_one, List.getElem?_eq_getElem hlt] at hxm
          rcases List.mem_append.1 hxm with h | h
          · exact HA.out x h
          · simp at h; omega⟩
        case measure => simp [intOf]; omega
      · have HX : ahead l n = k := ahead_stop hlt HA.out hx
        have HK := Lib.hid HX
        clear HX
        by_cases he : l[k] = n
        · have e1 : (l[k] == n) = true := by simp [he]
          have HE := Lib.hid he
          clear he
          go_wp2
          go_ret
          refine ⟨_, rfl, Ext.refl _, .inl ⟨rfl, ?_⟩⟩
          unfold putI
          rw [HK.out, List.getElem?_eq_getElem hlt, HE.out, if_pos rfl]
        · have e1 : (l[k] == n) = false := by simp [he]
          have HE := Lib.hid he
          clear he
          have hp : putI l n = l.take k ++ [n] ++ l.drop k := by
            unfold putI
            rw [HK.out, if_neg (by rw [List.getElem?_eq_getElem hlt]; intro h; exact HE.out (by simpa using h))]
          have HP := Lib.hid hp
          clear hp
          have hb1 : ([] : List Int).length + (l.take k).length ≤ 1099511627776 := by first | omega | (simp; omega)
          have hb2 : (l.take k).length ≤ 1099511627776 := by first | omega | (simp; omega)
          have hb3 : (l.take k ++ [n]).length + (l.drop k).length ≤ 1099511627776 := by first | omega | (simp; omega)
          have HB := Lib.hid (And.intro hb1 (And.intro hb2 hb3))
          clear hb1 hb2 hb3
          go_wp2_with (at_builtin; refine wpList_join rfl _ _ rfl w.heap.size _ _ [] (l.take k) rfl (fresh_lit w [] #[] _ rfl (Nat.le_refl _) (Nat.zero_le _)) rfl ((hv0.upto k hk).ext (Ext.alloc (Ext.refl _) _)) HB.out.1 (size_alloc_le (Nat.le_refl _)) ?_)
          intro v1 w1 f1 g1 k1
          have e1' : Ext w w1 := k1 w (Ext.alloc (Ext.refl _) _) (Nat.le_refl _)
          go_wp2_with (at_builtin; refine wpList_push rfl _ _ rfl w.heap.size _ (l.take k) n rfl (f1.ext (Ext.alloc (Ext.refl _) _)) ⟨w1.heap.size, 0, none⟩ 1 rfl (cell_alloc_one _ _ _) HB.out.2.1 (size_alloc_le e1'.size) ?_)
          intro v2 w2 f2 g2 k2
          have e2' : Ext w w2 := k2 w (e1'.alloc _) (Nat.le_refl _)
          go_wp2_with (at_builtin; refine wpList_join rfl _ _ rfl w.heap.size _ _ (l.take k ++ [n]) (l.drop k) rfl f2 rfl ((hv0.behind k hk).ext e2') HB.out.2.2 e2'.size ?_)
          intro v3 w3 f3 g3 k3
          have e3' : Ext w w3 := k3 w e2' (Nat.le_refl _)
          clear f1 f2 g1 g2 g3 k1 k2 k3 e1' e2'
          go_wp2
          go_ret
          exact ⟨_, rfl, e3', .inr (by rw [HP.out]; simpa using f3)⟩
    · obtain rfl : k = l.length := by omega
      have hp : putI l n = l ++ [n] := by
        have hh := HA.out
        rw [List.take_length] at hh
        unfold putI
        rw [ahead_all hh, List.getElem?_eq_none (Nat.le_refl _), if_neg (by simp), List.take_length, List.drop_length, List.append_nil]
      have HP := Lib.hid hp
      have HC := Lib.hid hcap
      clear hp hcap
      cases av with
      | none =>
        obtain rfl : cv = 0 := HC.out.2.2 rfl
        obtain rfl : l = [] := List.eq_nil_of_length_eq_zero (by omega)
        have hb1 : ([] : List Int).length + (([] : List Int)).length ≤ 1099511627776 := by simp
        have hb2 : (([] : List Int)).length ≤ 1099511627776 := by simp
        have hb3 : (([] : List Int) ++ [n]).length + (([] : List Int)).length ≤ 1099511627776 := by simp
        have HB := Lib.hid (And.intro hb1 (And.intro hb2 hb3))
        clear hb1 hb2 hb3
        go_wp2_with (at_builtin; refine wpList_join rfl _ _ rfl w.heap.size _ _ [] (([] : List Int)) rfl (fresh_lit w [] #[] _ rfl (Nat.le_refl _) (Nat.zero_le _)) rfl (Ints.nil _) HB.out.1 (size_alloc_le (Nat.le_refl _)) ?_)
        intro v1 w1 f1 g1 k1
        have e1' : Ext w w1 := k1 w (Ext.alloc (Ext.refl _) _) (Nat.le_refl _)
        go_wp2_with (at_builtin; refine wpList_push rfl _ _ rfl w.heap.size _ (([] : List Int)) n rfl (f1.ext (Ext.alloc (Ext.refl _) _)) ⟨w1.heap.size, 0, none⟩ 1 rfl (cell_alloc_one _ _ _) HB.out.2.1 (size_alloc_le e1'.size) ?_)
        intro v2 w2 f2 g2 k2
        have e2' : Ext w w2 := k2 w (e1'.alloc _) (Nat.le_refl _)
        go_wp2_with (at_builtin; refine wpList_join rfl _ _ rfl w.heap.size _ _ (([] : List Int) ++ [n]) (([] : List Int)) rfl f2 rfl (Ints.nil _) HB.out.2.2 e2'.size ?_)
        intro v3 w3 f3 g3 k3
        have e3' : Ext w w3 := k3 w e2' (Nat.le_refl _)
        clear f1 f2 g1 g2 g3 k1 k2 k3 e1' e2'
        go_wp2
        go_ret
        exact ⟨_, rfl, e3', .inr (by rw [HP.out]; simpa using f3)⟩
      | some ad =>
        by_cases hl0 : l.length = 0
        · obtain rfl : l = [] := List.eq_nil_of_length_eq_zero hl0
          have hs0 : ∀ W, Ints W (.slice (some ad) 0 cv) [] := fun W => Ints.none_of (by unfold maxLen; omega) (fun h => by cases h)
          have HS := Lib.hid hs0
          clear hs0 hl0
          have hb1 : ([] : List Int).length + (([] : List Int)).length ≤ 1099511627776 := by simp
          have hb2 : (([] : List Int)).length ≤ 1099511627776 := by simp
          have hb3 : (([] : List Int) ++ [n]).length + (([] : List Int)).length ≤ 1099511627776 := by simp
          have HB := Lib.hid (And.intro hb1 (And.intro hb2 hb3))
          clear hb1 hb2 hb3
          go_wp2_with (at_builtin; refine wpList_join rfl _ _ rfl w.heap.size _ _ [] (([] : List Int)) rfl (fresh_lit w [] #[] _ rfl (Nat.le_refl _) (Nat.zero_le _)) rfl (HS.out _) HB.out.1 (size_alloc_le (Nat.le_refl _)) ?_)
          intro v1 w1 f1 g1 k1
          have e1' : Ext w w1 := k1 w (Ext.alloc (Ext.refl _) _) (Nat.le_refl _)
          go_wp2_with (at_builtin; refine wpList_push rfl _ _ rfl w.heap.size _ (([] : List Int)) n rfl (f1.ext (Ext.alloc (Ext.refl _) _)) ⟨w1.heap.size, 0, none⟩ 1 rfl (cell_alloc_one _ _ _) HB.out.2.1 (size_alloc_le e1'.size) ?_)
          intro v2 w2 f2 g2 k2
          have e2' : Ext w w2 := k2 w (e1'.alloc _) (Nat.le_refl _)
          go_wp2_with (at_builtin; refine wpList_join rfl _ _ rfl w.heap.size _ _ (([] : List Int) ++ [n]) (([] : List Int)) rfl f2 rfl (HS.out _) HB.out.2.2 e2'.size ?_)
          intro v3 w3 f3 g3 k3
          have e3' : Ext w w3 := k3 w e2' (Nat.le_refl _)
          clear f1 f2 g1 g2 g3 k1 k2 k3 e1' e2'
          go_wp2
          go_ret
          exact ⟨_, rfl, e3', .inr (by rw [HP.out]; simpa using f3)⟩
        · obtain ⟨bv, ov, had, _⟩ := hcv (by omega)
          cases had
          clear hcv
          have hs1 : ∀ W, Ext w W → Ints W (.slice (some ⟨bv, ov, none⟩) l.length cv) l := fun W h => hv0.ext h
          by_cases hcl : cv = l.length
          · subst hcl
            have hs3 : ∀ W, Ints W (.slice (some ⟨bv, ov, none⟩) 0 0) [] := fun W => Ints.none_of (by simp) (fun _ => rfl)
            have HS := Lib.hid (And.intro hs1 hs3)
            clear hs1 hs3
            have hb1 : ([] : List Int).length + (l).length ≤ 1099511627776 := by first | omega | (simp; omega)
            have hb2 : (l).length ≤ 1099511627776 := by first | omega | (simp; omega)
            have hb3 : (l ++ [n]).length + (([] : List Int)).length ≤ 1099511627776 := by first | omega | (simp; omega)
            have HB := Lib.hid (And.intro hb1 (And.intro hb2 hb3))
            clear hb1 hb2 hb3
            go_wp2_with (at_builtin; refine wpList_join rfl _ _ rfl w.heap.size _ _ [] (l) rfl (fresh_lit w [] #[] _ rfl (Nat.le_refl _) (Nat.zero_le _)) rfl (HS.out.1 _ (Ext.alloc (Ext.refl _) _)) HB.out.1 (size_alloc_le (Nat.le_refl _)) ?_)
            intro v1 w1 f1 g1 k1
            have e1' : Ext w w1 := k1 w (Ext.alloc (Ext.refl _) _) (Nat.le_refl _)
            go_wp2_with (at_builtin; refine wpList_push rfl _ _ rfl w.heap.size _ (l) n rfl (f1.ext (Ext.alloc (Ext.refl _) _)) ⟨w1.heap.size, 0, none⟩ 1 rfl (cell_alloc_one _ _ _) HB.out.2.1 (size_alloc_le e1'.size) ?_)
            intro v2 w2 f2 g2 k2
            have e2' : Ext w w2 := k2 w (e1'.alloc _) (Nat.le_refl _)
            go_wp2_with (at_builtin; refine wpList_join rfl _ _ rfl w.heap.size _ _ (l ++ [n]) (([] : List Int)) rfl f2 rfl (HS.out.2 _) HB.out.2.2 e2'.size ?_)
            intro v3 w3 f3 g3 k3
            have e3' : Ext w w3 := k3 w e2' (Nat.le_refl _)
            clear f1 f2 g1 g2 g3 k1 k2 k3 e1' e2'
            go_wp2
            go_ret
            exact ⟨_, rfl, e3', .inr (by rw [HP.out]; simpa using f3)⟩
          · have hs3 : ∀ W, Ints W (.slice (some ⟨bv, ov + l.length, none⟩) 0 (cv - l.length)) [] := fun W => Ints.none_of (by unfold maxLen; omega) (fun h => by cases h)
            have HS := Lib.hid (And.intro hs1 hs3)
            clear hs1 hs3
            have hb1 : ([] : List Int).length + (l).length ≤ 1099511627776 := by first | omega | (simp; omega)
            have hb2 : (l).length ≤ 1099511627776 := by first | omega | (simp; omega)
            have hb3 : (l ++ [n]).length + (([] : List Int)).length ≤ 1099511627776 := by first | omega | (simp; omega)
            have HB := Lib.hid (And.intro hb1 (And.intro hb2 hb3))
            clear hb1 hb2 hb3
            go_wp2_with (at_builtin; refine wpList_join rfl _ _ rfl w.heap.size _ _ [] (l) rfl (fresh_lit w [] #[] _ rfl (Nat.le_refl _) (Nat.zero_le _)) rfl (HS.out.1 _ (Ext.alloc (Ext.refl _) _)) HB.out.1 (size_alloc_le (Nat.le_refl _)) ?_)
            intro v1 w1 f1 g1 k1
            have e1' : Ext w w1 := k1 w (Ext.alloc (Ext.refl _) _) (Nat.le_refl _)
            go_wp2_with (at_builtin; refine wpList_push rfl _ _ rfl w.heap.size _ (l) n rfl (f1.ext (Ext.alloc (Ext.refl _) _)) ⟨w1.heap.size, 0, none⟩ 1 rfl (cell_alloc_one _ _ _) HB.out.2.1 (size_alloc_le e1'.size) ?_)
            intro v2 w2 f2 g2 k2
            have e2' : Ext w w2 := k2 w (e1'.alloc _) (Nat.le_refl _)
            go_wp2_with (at_builtin; refine wpList_join rfl _ _ rfl w.heap.size _ _ (l ++ [n]) (([] : List Int)) rfl f2 rfl (HS.out.2 _) HB.out.2.2 e2'.size ?_)
            intro v3 w3 f3 g3 k3
            have e3' : Ext w w3 := k3 w e2' (Nat.le_refl _)
            clear f1 f2 g1 g2 g3 k1 k2 k3 e1' e2'
            go_wp2
            go_ret
            exact ⟨_, rfl, e3', .inr (by rw [HP.out]; simpa using f3)⟩

end Go.Proofs.Ythnoeknalpnadaa

namespace Go.Proofs.Ythnoeknalpnadaa
open Go.RowKit

set_option maxHeartbeats 400000 in
theorem l1Has_any (v : Value) (l : List Int) (n : Int) (w : World) (hv : Ints w v l) :
    Calls Try.prog 128 #[v, .int .i64 n] w (BoolExt (hasI l n) w) := by
  obtain ⟨av, cv, rfl, hlv, _, hcv⟩ := hv
  unfold maxLen at hlv
  go_enter Try.func128, Try.ntmps128
  go_wp2
  go_loopw [6, 9] (fun _ i wr => ∃ k : Nat, k ≤ l.length ∧ i = .int .i64 k ∧ (l.take k).any (fun x => x == n) = false ∧ Ext w wr) (fun _ i _ => l.length - (intOf i).toNat)
  case atStart => exact ⟨0, Nat.zero_le _, rfl, by simp, Ext.refl _⟩
  case round =>
    obtain ⟨k, hk, rfl, ht, hx⟩ := hrel
    have HT := Lib.hid ht
    clear ht
    by_cases hlt : k < l.length
    · obtain ⟨bv, ov, rfl, dv⟩ := hcv (by omega)
      have gv := hx.cell (dv k hlt)
      clear hcv dv
      cases hp : (l[k] == n) with
      | true =>
        go_wp2
        go_ret
        refine ⟨?_, hx⟩
        have hf : hasI l n = true := any_true_at hlt _ (by rw [List.getElem?_eq_getElem hlt]; exact hp)
        rw [hf]; rfl
      | false =>
        go_wp2
        go_roundw
        case rel => exact ⟨k + 1, by omega, by go_num, any_take_succ hlt _ HT.out (by rw [List.getElem?_eq_getElem hlt]; exact hp), hx⟩
        case measure => simp [intOf]; omega
    · obtain rfl : k = l.length := by omega
      go_wp2
      go_ret
      refine ⟨?_, hx⟩
      have hf : hasI l n = false := by have h := HT.out; rwa [List.take_length] at h
      rw [hf]; rfl

end Go.Proofs.Ythnoeknalpnadaa

namespace Go.Proofs.Ythnoeknalpnadaa
open Go.RowKit
set_option linter.unusedVariables false

/-- The accounts that a command touches. -/
def touchesL (k f t : Int) : List Int := if k == 1 then putI [f] t else if k == 2 then [f] else []
theorem touchesL_1 (f t : Int) : touchesL 1 f t = putI [f] t := rfl
theorem touchesL_2 (f t : Int) : touchesL 2 f t = [f] := rfl
theorem touchesL_else {k : Int} (f t : Int) (h1 : (k == 1) = false) (h2 : (k == 2) = false) : touchesL k f t = [] := by simp [touchesL, h1, h2]

set_option maxHeartbeats 1000000 in
theorem l2Touches_any (k i f t a : Int) (w : World) :
    Calls Try.prog 163 #[.agg #[.int .i64 k, .int .i64 i, .int .i64 f, .int .i64 t, .int .i64 a]] w (NewInts (touchesL k f t) w) := by
  by_cases h1 : k = 1
  · subst h1
    rw [touchesL_1]
    have f0 := fresh_lit2 w (.cells #[.int .i64 1, .int .i64 i, .int .i64 f, .int .i64 t, .int .i64 a] 36) [f] 1 #[.int .i64 f] rfl rfl (by simp)
    go_enter Try.func163, Try.ntmps163
    go_wp2_with fail
    refine (l1Put_any _ _ _ _ f0.ints (by simp)).mono ?_
    rintro e w1 ⟨v', rfl, x1, hor⟩
    have hr : Fresh w.heap.size w1 v' (putI [f] t) := by
      rcases hor with ⟨rfl, hp⟩ | hf
      · rw [hp]; exact f0.ext x1
      · exact hf.more (size_alloc_le (size_alloc_le (Nat.le_refl _)))
    have hx : Ext w w1 := ((Ext.alloc (Ext.refl _) _).alloc _).trans x1
    clear f0 x1 hor
    go_wp2
    go_ret
    exact ⟨_, rfl, hr, hx⟩
  · have e1 : (k == 1) = false := by simp [h1]
    by_cases h2 : k = 2
    · subst h2
      rw [touchesL_2]
      go_enter Try.func163, Try.ntmps163
      go_wp2
      go_ret
      refine ⟨_, rfl, ?_, Ext.alloc (Ext.alloc (Ext.refl _) _) _⟩
      exact fresh_lit2 w _ [f] 1 #[.int .i64 f] rfl rfl (by simp)
    · have e2 : (k == 2) = false := by simp [h2]
      rw [touchesL_else f t e1 e2]
      go_enter Try.func163, Try.ntmps163
      go_wp2
      go_ret
      exact ⟨_, rfl, fresh_nil _ _, Ext.alloc (Ext.refl _) _⟩

/-- Whether a command touches the account j. -/
def touchB (k f t j : Int) : Bool := if k == 1 then t == j || f == j else if k == 2 then f == j else false

/-- The four marks of touchedBy. -/
def FourB (k f t : Int) (w : World) (e : Ending) (w' : World) : Prop :=
  e = .returned (.agg #[.bool (touchB k f t 0), .bool (touchB k f t 1), .bool (touchB k f t 2), .bool (touchB k f t 3)]) ∧ Ext w w'

set_option maxHeartbeats 4000000 in
theorem touchedBy_move (i f t a : Int) (w : World) (hf : 0 ≤ f ∧ f ≤ 3) (ht : 0 ≤ t ∧ t ≤ 3) :
    Calls Try.prog 169 #[.agg #[.int .i64 1, .int .i64 i, .int .i64 f, .int .i64 t, .int .i64 a]] w (FourB 1 f t w) := by
  have hf' : f = 0 ∨ f = 1 ∨ f = 2 ∨ f = 3 := by omega
  have ht' : t = 0 ∨ t = 1 ∨ t = 2 ∨ t = 3 := by omega
  clear hf ht
  rcases hf' with rfl | rfl | rfl | rfl
  all_goals
    rcases ht' with rfl | rfl | rfl | rfl
    all_goals
      go_enter Try.func169, Try.ntmps169
      go_wp2
      exact bodyPost_ret (v := .agg #[.bool (touchB 1 _ _ 0), .bool (touchB 1 _ _ 1), .bool (touchB 1 _ _ 2), .bool (touchB 1 _ _ 3)]) (by simp [results, Try.results169, go_sem, touchB]) rfl ⟨rfl, by repeat (first | exact Ext.refl _ | apply Ext.drew | apply Ext.alloc)⟩

set_option maxHeartbeats 2000000 in
theorem touchedBy_read (i f t a : Int) (w : World) (hf : 0 ≤ f ∧ f ≤ 3) :
    Calls Try.prog 169 #[.agg #[.int .i64 2, .int .i64 i, .int .i64 f, .int .i64 t, .int .i64 a]] w (FourB 2 f t w) := by
  have hf' : f = 0 ∨ f = 1 ∨ f = 2 ∨ f = 3 := by omega
  clear hf
  rcases hf' with rfl | rfl | rfl | rfl
  all_goals
    go_enter Try.func169, Try.ntmps169
    go_wp2
    exact bodyPost_ret (v := .agg #[.bool (touchB 2 _ t 0), .bool (touchB 2 _ t 1), .bool (touchB 2 _ t 2), .bool (touchB 2 _ t 3)]) (by simp [results, Try.results169, go_sem, touchB]) rfl ⟨rfl, by repeat (first | exact Ext.refl _ | apply Ext.drew | apply Ext.alloc)⟩

set_option maxHeartbeats 1000000 in
theorem touchedBy_none (k i f t a : Int) (w : World) (h1 : (k == 1) = false) (h2 : (k == 2) = false) :
    Calls Try.prog 169 #[.agg #[.int .i64 k, .int .i64 i, .int .i64 f, .int .i64 t, .int .i64 a]] w (FourB k f t w) := by
  have hb : ∀ j, touchB k f t j = false := fun j => by simp [touchB, h1, h2]
  have HB := Lib.hid hb
  clear hb
  go_enter Try.func169, Try.ntmps169
  go_wp2
  exact bodyPost_ret (v := .agg #[.bool (touchB k f t 0), .bool (touchB k f t 1), .bool (touchB k f t 2), .bool (touchB k f t 3)]) (by simp [results, Try.results169, go_sem, HB.out]) rfl ⟨rfl, by repeat (first | exact Ext.refl _ | apply Ext.drew | apply Ext.alloc)⟩

theorem codeM_good {i f t a : Int} (h : (codeM i f t a == 0) = true) : (0 ≤ f ∧ f ≤ 3) ∧ (0 ≤ t ∧ t ≤ 3) ∧ f ≠ t ∧ inB i 1 999 = true ∧ inB a 1 1000 = true := by
  unfold codeM at h
  cases h1 : acctB f <;> simp [h1] at h
  cases h2 : acctB t <;> simp [h2] at h
  by_cases h3 : f = t
  · simp [h3] at h
  · simp [h3] at h
    cases h4 : inB i 1 999 <;> simp [h4] at h
    cases h5 : inB a 1 1000 <;> simp [h5] at h
    exact ⟨acctB_yes h1, acctB_yes h2, h3, rfl, rfl⟩
theorem codeR_good {i f : Int} (h : (codeR i f == 0) = true) : (0 ≤ f ∧ f ≤ 3) ∧ inB i 1 999 = true := by
  unfold codeR at h
  cases h1 : acctB f <;> simp [h1] at h
  cases h4 : inB i 1 999 <;> simp [h4] at h
  exact ⟨acctB_yes h1, rfl⟩
/-- What a good command is. -/
theorem goodB_cases {k i f t a : Int} (h : goodB k i f t a = true) : (k = 0 ∧ i = 0 ∧ f = 0 ∧ t = 0 ∧ a = 0) ∨ (k = 1 ∧ (codeM i f t a == 0) = true) ∨ (k = 2 ∧ (codeR i f == 0) = true ∧ t = 0 ∧ a = 0) := by
  by_cases h0 : k = 0
  · subst h0; rw [goodB_0] at h; simp [zeroB] at h; exact .inl ⟨rfl, h.1, h.2.1, h.2.2.1, h.2.2.2⟩
  · by_cases h1 : k = 1
    · subst h1; rw [goodB_1] at h; exact .inr (.inl ⟨rfl, h⟩)
    · by_cases h2 : k = 2
      · subst h2; rw [goodB_2] at h; simp at h; exact .inr (.inr ⟨rfl, by simp [h.1.1], h.1.2, h.2⟩)
      · rw [goodB_else _ _ _ _ (by simp [h0]) (by simp [h1]) (by simp [h2])] at h; cases h

theorem touchedBy_any (k i f t a : Int) (w : World) (hg : goodB k i f t a = true) :
    Calls Try.prog 169 #[.agg #[.int .i64 k, .int .i64 i, .int .i64 f, .int .i64 t, .int .i64 a]] w (FourB k f t w) := by
  rcases goodB_cases hg with ⟨rfl, rfl, rfl, rfl, rfl⟩ | ⟨rfl, hc⟩ | ⟨rfl, hc, rfl, rfl⟩
  · exact touchedBy_none 0 0 0 0 0 w rfl rfl
  · exact touchedBy_move i f t a w (codeM_good hc).1 (codeM_good hc).2.1
  · exact touchedBy_read i f 0 0 w (codeR_good hc).1

/-- The accounts below n that are touched. -/
def touchedTo (k f t : Int) (n : Nat) : List Int := ((List.range n).filter fun (j : Nat) => touchB k f t (j : Int)).map fun (j : Nat) => (j : Int)
theorem touchedTo_hit {k f t : Int} {n : Nat} (h : touchB k f t (n : Int) = true) : touchedTo k f t (n + 1) = touchedTo k f t n ++ [(n : Int)] := by
  simp [touchedTo, List.range_succ, List.filter_append, h]
theorem touchedTo_miss {k f t : Int} {n : Nat} (h : touchB k f t (n : Int) = false) : touchedTo k f t (n + 1) = touchedTo k f t n := by
  simp [touchedTo, List.range_succ, List.filter_append, h]
theorem touchedTo_len (k f t : Int) (n : Nat) : (touchedTo k f t n).length ≤ n := by
  unfold touchedTo
  rw [List.length_map]
  exact Nat.le_trans (List.length_filter_le _ _) (by simp)
theorem touchedTo_all {k i f t a : Int} (hg : goodB k i f t a = true) : touchedTo k f t 4 = touchesL k f t := by
  rcases goodB_cases hg with ⟨rfl, rfl, rfl, rfl, rfl⟩ | ⟨rfl, hc⟩ | ⟨rfl, hc, rfl, rfl⟩
  · decide
  · obtain ⟨hf, ht, hne, _, _⟩ := codeM_good hc
    have hf' : f = 0 ∨ f = 1 ∨ f = 2 ∨ f = 3 := by omega
    have ht' : t = 0 ∨ t = 1 ∨ t = 2 ∨ t = 3 := by omega
    clear hf ht hc hg
    rcases hf' with rfl | rfl | rfl | rfl <;> rcases ht' with rfl | rfl | rfl | rfl <;> first | (exact absurd rfl hne) | decide
  · have hf := (codeR_good hc).1
    have hf' : f = 0 ∨ f = 1 ∨ f = 2 ∨ f = 3 := by omega
    clear hf hc hg
    rcases hf' with rfl | rfl | rfl | rfl <;> decide

end Go.Proofs.Ythnoeknalpnadaa

namespace Go.Proofs.Ythnoeknalpnadaa
open Go.RowKit
set_option linter.unusedVariables false

def touchesOf (k i f t a : Int) : List Int := if goodB k i f t a then touchesL k f t else []
theorem touchesOf_good {k i f t a : Int} (h : goodB k i f t a = true) : touchesOf k i f t a = touchesL k f t := by unfold touchesOf; rw [h]; rfl
theorem touchesOf_bad {k i f t a : Int} (h : goodB k i f t a = false) : touchesOf k i f t a = [] := by unfold touchesOf; rw [h]; rfl

theorem index4_0 (a b c d : Value) (W : World) : (Instr.index 196 (.agg #[a, b, c, d]) (.int .i64 0)).run Try.prog W = .ok a W := by kernel_rfl
theorem index4_1 (a b c d : Value) (W : World) : (Instr.index 196 (.agg #[a, b, c, d]) (.int .i64 1)).run Try.prog W = .ok b W := by kernel_rfl
theorem index4_2 (a b c d : Value) (W : World) : (Instr.index 196 (.agg #[a, b, c, d]) (.int .i64 2)).run Try.prog W = .ok c W := by kernel_rfl
theorem index4_3 (a b c d : Value) (W : World) : (Instr.index 196 (.agg #[a, b, c, d]) (.int .i64 3)).run Try.prog W = .ok d W := by kernel_rfl

end Go.Proofs.Ythnoeknalpnadaa

namespace Go.Proofs.Ythnoeknalpnadaa
open Go.RowKit
set_option linter.unusedVariables false

/-- Whether two commands touch some one account. -/
def interL (l r : List Int) : Bool := l.any fun x => hasI r x
def interB (k f t k' f' t' : Int) : Bool := interL (touchesL k f t) (touchesL k' f' t')

theorem putI_one_len (f t : Int) : (putI [f] t).length ≤ 2 := by
  unfold putI
  split
  · simp
  · simp; omega
theorem touchesL_len (k f t : Int) : (touchesL k f t).length ≤ 2 := by
  unfold touchesL
  split
  · exact putI_one_len f t
  · split <;> simp

set_option maxHeartbeats 2000000 in
theorem l2Interfere_any (k i f t a k' i' f' t' a' : Int) (w : World) :
    Calls Try.prog 114 #[.agg #[.int .i64 k, .int .i64 i, .int .i64 f, .int .i64 t, .int .i64 a], .agg #[.int .i64 k', .int .i64 i', .int .i64 f', .int .i64 t', .int .i64 a']] w (BoolExt (interB k f t k' f' t') w) := by
  have hlen := touchesL_len k f t
  unfold interB interL
  obtain ⟨l, hl⟩ : ∃ l, l = touchesL k f t := ⟨_, rfl⟩
  obtain ⟨r, hr⟩ : ∃ r, r = touchesL k' f' t' := ⟨_, rfl⟩
  rw [← hl] at hlen
  rw [← hl, ← hr]
  have HL := Lib.hid hl
  have HR := Lib.hid hr
  clear hl hr
  go_enter Try.func114, Try.ntmps114
  go_wp2_with fail
  refine (l2Touches_any _ _ _ _ _ _).mono ?_
  rintro e w1 ⟨v, rfl, f1, x1⟩
  rw [← HL.out] at f1
  have hb := (cmdAt_new2 w (.cells #[.int .i64 k, .int .i64 i, .int .i64 f, .int .i64 t, .int .i64 a] 36) 36 k' i' f' t' a').ext x1
  have HB := Lib.hid hb
  have hx : Ext w w1 := ((Ext.alloc (Ext.refl _) _).alloc _).trans x1
  clear x1 hb
  obtain ⟨av, cv, rfl, hlv, hcap, hcv⟩ := f1.ints
  have HC := Lib.hid hcap
  clear hcap f1 hlv
  go_wp2
  go_loopw [10] (fun j wr => ∃ n : Nat, n ≤ l.length ∧ j = .int .i64 n ∧ (l.take n).any (fun x => hasI r x) = false ∧ Ext w1 wr) (fun j _ => l.length - (intOf j).toNat)
  case atStart => exact ⟨0, by omega, rfl, by simp, Ext.refl _⟩
  case round =>
    obtain ⟨n, hn, rfl, ha, hx1⟩ := hrel
    have HA := Lib.hid ha
    clear ha
    by_cases hlt : n < l.length
    · obtain ⟨bv, ov, rfl, dv⟩ := hcv (by omega)
      have gv := hx1.cell (dv n hlt)
      clear hcv dv
      obtain ⟨c0, c1, c2, c3, c4⟩ := HB.out.ext hx1
      go_wp2_with fail
      refine (l2Touches_any _ _ _ _ _ _).mono ?_
      rintro e w2 ⟨u, rfl, f2, x2⟩
      rw [← HR.out] at f2
      go_wp2_with fail
      refine (l1Has_any _ _ _ _ f2.ints).mono ?_
      rintro e w3 ⟨rfl, x3⟩
      have hx3 : Ext w1 w3 := (hx1.trans x2).trans x3
      clear c0 c1 c2 c3 c4 f2 x2 x3 hx1
      cases hp : hasI r l[n] with
      | true =>
        have HP := Lib.hid hp
        go_wp2
        go_ret
        refine ⟨?_, hx.trans hx3⟩
        have hf : (l.any fun x => hasI r x) = true := any_true_at hlt _ (by rw [List.getElem?_eq_getElem hlt]; exact HP.out)
        rw [hf]; rfl
      | false =>
        have HP := Lib.hid hp
        go_wp2
        go_roundw
        case rel => exact ⟨n + 1, by omega, by go_num, any_take_succ hlt _ HA.out (by rw [List.getElem?_eq_getElem hlt]; exact HP.out), hx3⟩
        case measure => simp [intOf]; omega
    · obtain rfl : n = l.length := by omega
      go_wp2
      go_ret
      refine ⟨?_, hx.trans hx1⟩
      have hf : (l.any fun x => hasI r x) = false := by have h := HA.out; rwa [List.take_length] at h
      rw [hf]; rfl


end Go.Proofs.Ythnoeknalpnadaa
