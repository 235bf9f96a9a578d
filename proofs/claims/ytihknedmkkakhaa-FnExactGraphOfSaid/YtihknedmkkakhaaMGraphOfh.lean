/- Texts of this proof, part h: words, plain facts, contracts. -/
import Derived.Test.YtihknedmkkakhaaMGraphOfg
import Derived.Test.YtihknedmkkakhaaMGraphOfe
import Derived.Deep.Cut

namespace Go.Proofs.Ytihknedmkkakhaa
open Go.RowKit Go.Maps
set_option linter.unusedVariables false

/-- All instances that have come conflict with none. -/
def DoneH (n : Int) (T : List (List RowD)) (left : Lit → Bool) : Prop := ∀ x ∈ insts T, left (kl (x.1 : Int) ((x.2 : Int) + 1)) = false → ∀ y ∈ insts T, x ≠ y → cfl n T x y = false
/-- .. those that have come do not conflict with this one. -/
def DoneI (n : Int) (T : List (List RowD)) (x : Nat × Nat) (left : Lit → Bool) : Prop := ∀ y ∈ insts T, left (kl (y.1 : Int) ((y.2 : Int) + 1)) = false → x ≠ y → cfl n T x y = false

theorem left_other {left : Lit → Bool} {x : Nat × Nat} {p q : Nat} (h1 : x.1 ≤ 1048576 ∧ x.2 ≤ 1048576) (h2 : p ≤ 1048576 ∧ q ≤ 1048576) (e : ¬ x = (p, q))
    (h : (fun z : Lit => left z && !z.sameKey (kl (p : Int) ((q : Int) + 1))) (kl (x.1 : Int) ((x.2 : Int) + 1)) = false) : left (kl (x.1 : Int) ((x.2 : Int) + 1)) = false := by
  have h' : (left (kl (x.1 : Int) ((x.2 : Int) + 1)) && !(kl (x.1 : Int) ((x.2 : Int) + 1)).sameKey (kl (p : Int) ((q : Int) + 1))) = false := h
  rw [same_kl h1 h2] at h'
  have : (decide (x.1 = p) && decide (x.2 = q)) = false := by
    simp only [Bool.and_eq_false_iff, decide_eq_false_iff_not]
    by_cases e1 : x.1 = p
    · exact .inr (fun e2 => e (Prod.ext e1 e2))
    · exact .inl e1
  rw [this] at h'
  simpa using h'
theorem goodTab_both {n : Int} {T : List (List RowD)} (h : goodTab n T = true) : T.length ≤ 5 ∧ ∀ R ∈ T, R.length ≤ 6 := by
  obtain ⟨h1, h2, h3⟩ := goodTab_of h
  refine ⟨?_, fun R hR => (h3 R hR).1⟩
  rcases isGrp_of h1 with e | e <;> omega
theorem goodRow_cmd' {n : Int} {r : RowD} (h : goodRow n r = true) : goodB r.k r.i r.f r.t r.a = true ∧ ((r.st == 0) = true → r.k = 0) := by
  unfold goodRow at h
  simp only [Bool.and_eq_true] at h
  have h2 := h.2
  split at h2
  · unfold emptyB zeroC at h2
    simp only [Bool.and_eq_true, beq_iff_eq] at h2
    obtain ⟨⟨_, e0, e1, e2, e3, e4⟩, _⟩ := h2
    rw [e0, e1, e2, e3, e4]
    exact ⟨rfl, fun _ => rfl⟩
  · rename_i hst
    unfold fullB at h2
    simp only [Bool.and_eq_true] at h2
    exact ⟨h2.1, fun h => absurd h (by simpa using hst)⟩
/-- A settled row of a good table: its command is good, its list has an entry for each replica. -/
theorem com_row {n : Int} {T : List (List RowD)} (h : goodTab n T = true) {p q : Nat} (hc : instCom T p q = true) :
    goodB (rowOf n T p q).k (rowOf n T p q).i (rowOf n T p q).f (rowOf n T p q).t (rowOf n T p q).a = true ∧ (rowOf n T p q).l.length = T.length ∧ p < T.length ∧ q ≤ 5 := by
  obtain ⟨hp, hq, hs⟩ := instCom_lt hc
  have h1 := goodTab_row h hp hq
  have h2 := goodTab_of h
  have h3 := (h2.2.2 _ (List.getElem_mem hp)).1
  rw [rowOf_in hp hq]
  refine ⟨?_, by omega, hp, by omega⟩
  exact (goodRow_cmd' h1.1).1
/-- Two integers in a block. -/
def TwoAt (w : World) (b : Nat) (x y : Int) : Prop := w.cell? ⟨b, 0, none⟩ = some (.int .i64 x) ∧ w.cell? ⟨b, 1, none⟩ = some (.int .i64 y)
theorem TwoAt.ext {w w' : World} {b : Nat} {x y : Int} (h : TwoAt w b x y) (e : Ext w w') : TwoAt w' b x y := ⟨e.cell h.1, e.cell h.2⟩
theorem two_new (w : World) (x y : Int) (T T' : TypeId) (C : Array Value) : TwoAt ((w.alloc (.cells #[.int .i64 x, .int .i64 y] T)).alloc (.cells C T')) w.heap.size x y := by
  refine ⟨?_, ?_⟩ <;> go_simp
theorem row_new (w : World) (o : Obj) (T : TypeId) (r : RowD) (u : Value) : RowAt ((w.alloc o).alloc (.cells #[.int .i64 r.b, .int .i64 r.v, .int .i64 r.st, .int .i64 r.k, .int .i64 r.i, .int .i64 r.f, .int .i64 r.t, .int .i64 r.a, .int .i64 r.s, u] T)) (w.heap.size + 1) r u := by
  have h := rowAt_new (w.alloc o) T r u
  simpa using h

set_option maxHeartbeats 4000000 in
set_option maxRecDepth 100000 in
theorem implHold_good (n : Int) (u : Value) (T : List (List RowD)) (w : World) (hu : Rowzz w u T) (hg : goodTab n T = true) (hs : bulkT T ≤ 1099511627776) :
    Calls Try.prog 42 #[.agg #[.int .i64 n, u]] w (TwoB (holdB n T) true w) := by
  have H56 := Lib.hid (goodTab_both hg)
  have HG := Lib.hid hg
  have HS := Lib.hid hs
  have hu0 := hu.ext (Ext.alloc1 w (.cells #[.int .i64 n, u] 48))
  have HU := Lib.hid hu0
  obtain ⟨au, cu, rfl, hlu, _, _⟩ := hu
  unfold maxLen at hlu
  clear hs hu0
  go_enter Try.func42, Try.ntmps42
  go_wp2_with fail
  refine (implGoodTable_any n _ T _ HU.out HS.out).mono ?_
  rintro e w1 ⟨rfl, x1⟩
  rw [HG.out]
  obtain ⟨U, hU⟩ := tabAt_of (HU.out.ext x1)
  have HT := Lib.hid hU
  have HL := Lib.hid (hU.lists n)
  have X1 := Lib.hid ((Ext.alloc1 w (.cells #[.int .i64 n, .slice au T.length cu] 48)).trans x1)
  have c1 : w1.cell? ⟨w.heap.size, 0, none⟩ = some (.int .i64 n) := x1.cell (by go_simp)
  have c2 : w1.cell? ⟨w.heap.size, 1, none⟩ = some (.slice au T.length cu) := x1.cell (by go_simp)
  clear x1 hU HU hg
  go_wp2_with fail
  refine (committedIn_any n _ T U _ HT.out H56.out.1 H56.out.2).mono ?_
  rintro e w2 ⟨B, D, rfl, m2, d2, hb2, x2⟩
  have M2 := Lib.hid m2
  have MO := Lib.hid d2
  have X2 := Lib.hid (X1.out.trans x2)
  have HB : Hid (w.heap.size ≤ B) := Lib.hid (Nat.le_trans X1.out.size hb2)
  have HL2 := Lib.hid (HL.out.ext x2)
  clear m2 d2 hb2 x2 c1 c2 X1 HL HT
  go_wp2_with (first | (at_range; refine wpList_range_own _ rfl _ 81 rfl 101 90 instKeyed Try.underlying81 asIs B 30 D rfl M2.out ?_; intro w3 hrg3 hg3 hs3) | go_in)
  go_frame
  have X3 := Lib.hid (ext_of_grown hg3)
  have R3 := Lib.hid hrg3
  obtain ⟨r, hr⟩ : ∃ r, r = w2.heap.size := ⟨_, rfl⟩
  rw [← hr] at R3 ⊢
  have HRB : Hid (w2.heap.size ≤ r) := Lib.hid (by rw [hr]; exact Nat.le_refl _)
  clear hrg3 hg3 hs3 M2 hr
  go_loopw [5, 6, 7, 8] (fun _ _ _ _ wr => ∃ (left : Lit → Bool) (cnt : Nat), Hid (RowRange wr B r 30 D left cnt) ∧ Hid (DoneH n T left) ∧ Hid (Ext w2 wr)) (fun _ _ _ _ wr => wr.rangeLeft B r)
  case atStart => exact ⟨_, _, R3, Lib.hid (fun x hx hl => by
    have h := MO.out.has x.1 x.2 (mem_insts.1 hx)
    rw [h] at hl; cases hl), X3⟩
  case round =>
    clear R3 X3
    obtain ⟨left, cnt, R, DH, X⟩ := hrel
    go_wp2_with (first | (at_next; refine wpList_next_inst _ rfl _ rfl B r 30 D left cnt _ _ rfl R.out MO.out ?_ ?_) | go_in)
    · intro hl
      have hres : holdB n T = true := holdB_yes fun x hx => DH.out x hx (hl _)
      have HRES := Lib.hid hres
      clear R DH hl hres
      go_wp2
      go_ret2
      rw [HRES.out]
      exact ⟨rfl, X2.out.trans X.out⟩
    · intro p q w4 cnt4 hS hlk hrg4 hlt hg4 hs4 hen
      have hx4 : Ext w2 w4 := X.out.turned hg4 HRB.out
      have hi := instCom_inT hS
      obtain ⟨d, hd⟩ : ∃ d, d = rowOf n T p q := ⟨_, rfl⟩
      obtain ⟨ay, cy, hU, hint⟩ := HL2.out p q hi
      unfold rowF rowV at hen ⊢
      rw [← hd] at hen hU ⊢
      rw [hU] at hen ⊢
      have hints : Ints w4 (.slice ay d.l.length cy) d.l := by
        rw [← hU, hd]
        exact (HL2.out p q hi).ext hx4
      have I4 := Lib.hid hints
      have R4 := Lib.hid hrg4
      have X4 := Lib.hid hx4
      have HR := Lib.hid R.out
      have HLT := Lib.hid hlt
      have HS := Lib.hid hS
      have HD := Lib.hid hd
      have hcd := com_row HG.out hS
      rw [← hd] at hcd
      have HCD := Lib.hid hcd
      clear hrg4 hx4 hg4 hs4 hi R X hlt hS hd hU hlk hint hints hcd
      go_wp2_with (first | (at_range; refine wpList_range_own _ rfl _ 81 rfl 101 90 instKeyed Try.underlying81 asIs B 30 D rfl ((R4.out.owns.alloc _).alloc _) ?_; intro w5 hrg5 hg5 hs5) | go_in)
      go_frame
      have t5 := two_new w4 (p : Int) ((q : Int) + 1) 101 90 #[.int .i64 d.b, .int .i64 d.v, .int .i64 d.st, .int .i64 d.k, .int .i64 d.i, .int .i64 d.f, .int .i64 d.t, .int .i64 d.a, .int .i64 d.s, .slice ay d.l.length cy]
      have r5 := row_new w4 (.cells #[.int .i64 p, .int .i64 ((q : Int) + 1)] 101) 90 d (.slice ay d.l.length cy)
      obtain ⟨wb, hwb⟩ : ∃ wb, wb = ((w4.alloc (.cells #[.int .i64 p, .int .i64 ((q : Int) + 1)] 101)).alloc (.cells #[.int .i64 d.b, .int .i64 d.v, .int .i64 d.st, .int .i64 d.k, .int .i64 d.i, .int .i64 d.f, .int .i64 d.t, .int .i64 d.a, .int .i64 d.s, .slice ay d.l.length cy] 90)) := ⟨_, rfl⟩
      have x4b : Ext w4 wb := by rw [hwb]; exact (Ext.alloc1 _ _).alloc _
      rw [← hwb] at t5 r5 hrg5 hg5 ⊢
      have T5 := Lib.hid t5
      have R5 := Lib.hid r5
      have X4B := Lib.hid x4b
      have Q5 := Lib.hid hrg5
      have X5 := Lib.hid (ext_of_grown hg5)
      obtain ⟨r2, hr2⟩ : ∃ r2, r2 = wb.heap.size := ⟨_, rfl⟩
      obtain ⟨b5, hb5⟩ : ∃ b5, b5 = w4.heap.size := ⟨_, rfl⟩
      have HR2 : Hid (wb.heap.size ≤ r2) := Lib.hid (by rw [hr2]; exact Nat.le_refl _)
      rw [← hr2] at Q5 ⊢
      rw [← hb5] at T5 R5 ⊢
      clear t5 r5 x4b hrg5 hg5 hs5 hr2 hwb hb5
      go_loopw [7, 8] (fun _ _ wr => ∃ (left2 : Lit → Bool) (cnt2 : Nat), Hid (RowRange wr B r2 30 D left2 cnt2) ∧ Hid (DoneI n T (p, q) left2) ∧ Hid (Ext wb wr)) (fun _ _ wr => wr.rangeLeft B r2)
      case atStart => exact ⟨_, _, Q5, Lib.hid (fun x hx hl => by
        have h := MO.out.has x.1 x.2 (mem_insts.1 hx)
        rw [h] at hl; cases hl), X5⟩
      case round =>
        clear Q5 X5
        obtain ⟨left2, cnt2, R, DI, X⟩ := hrel
        go_wp2_with (first | (at_next; refine wpList_next_inst _ rfl _ rfl B r2 30 D left2 cnt2 _ _ rfl R.out MO.out ?_ ?_) | go_in)
        · intro hl
          have hdone : DoneH n T (fun z => left z && !z.sameKey (kl (p : Int) ((q : Int) + 1))) := fun x hx hlx y hy hne => by
            by_cases e : x = (p, q)
            · subst e
              exact DI.out y hy (hl _) hne
            · have h1 := com_row HG.out (mem_insts.1 hx)
              have h2 := HCD.out
              have h5 := H56.out.1
              exact DH.out x hx (left_other (by omega) (by omega) e hlx) y hy hne
          have HDONE := Lib.hid hdone
          have R6 := Lib.hid ((R4.out.ext X4B.out).ext X.out)
          have X6 := Lib.hid ((X4.out.trans X4B.out).trans X.out)
          clear DH DI hl hdone R
          go_wp2
          go_roundw
          case rel => exact ⟨_, _, R6, HDONE, X6⟩
          case measure => rw [R6.out.left_eq, HR.out.left_eq]; exact HLT.out
        · intro p' q' w6 cnt6 hS hlk hrg6 hlt hg6 hs6 hen
          have hx6 : Ext wb w6 := X.out.turned hg6 HR2.out
          have hi := instCom_inT hS
          obtain ⟨d', hd'⟩ : ∃ d', d' = rowOf n T p' q' := ⟨_, rfl⟩
          obtain ⟨az, cz, hU, _⟩ := HL2.out p' q' hi
          unfold rowF rowV at hen ⊢
          rw [← hd'] at hen hU ⊢
          rw [hU] at hen ⊢
          have hints : Ints w6 (.slice az d'.l.length cz) d'.l := by
            rw [← hU, hd']
            exact (HL2.out p' q' hi).ext ((X4.out.trans X4B.out).trans hx6)
          have hcd := com_row HG.out hS
          rw [← hd'] at hcd
          have J6 := Lib.hid hints
          have R6 := Lib.hid hrg6
          have X6 := Lib.hid hx6
          have HR2' := Lib.hid R.out
          have HLT2 := Lib.hid hlt
          have HS2 := Lib.hid hS
          have HD2 := Lib.hid hd'
          have HCD2 := Lib.hid hcd
          clear hrg6 hx6 hg6 hs6 hi R X hlt hS hd' hU hlk hints hcd
          go_upto_region 10 with fail
          have t7 := two_new w6 (p' : Int) ((q' : Int) + 1) 101 90 #[.int .i64 d'.b, .int .i64 d'.v, .int .i64 d'.st, .int .i64 d'.k, .int .i64 d'.i, .int .i64 d'.f, .int .i64 d'.t, .int .i64 d'.a, .int .i64 d'.s, .slice az d'.l.length cz]
          have r7 := row_new w6 (.cells #[.int .i64 p', .int .i64 ((q' : Int) + 1)] 101) 90 d' (.slice az d'.l.length cz)
          obtain ⟨w7, hw7⟩ : ∃ w7, w7 = ((w6.alloc (.cells #[.int .i64 p', .int .i64 ((q' : Int) + 1)] 101)).alloc (.cells #[.int .i64 d'.b, .int .i64 d'.v, .int .i64 d'.st, .int .i64 d'.k, .int .i64 d'.i, .int .i64 d'.f, .int .i64 d'.t, .int .i64 d'.a, .int .i64 d'.s, .slice az d'.l.length cz] 90)) := ⟨_, rfl⟩
          have x67 : Ext w6 w7 := by rw [hw7]; exact (Ext.alloc1 _ _).alloc _
          rw [← hw7] at t7 r7 ⊢
          obtain ⟨b7, hb7⟩ : ∃ b7, b7 = w6.heap.size := ⟨_, rfl⟩
          rw [← hb7] at t7 r7 ⊢
          clear hw7 hb7
          have t5 := T5.out.ext (X6.out.trans x67)
          have r5 := R5.out.ext (X6.out.trans x67)
          have R7 := Lib.hid (R6.out.ext x67)
          have X7 := Lib.hid (X6.out.trans x67)
          have I7 := Lib.hid (I4.out.ext ((X4B.out.trans X6.out).trans x67))
          have J7 := Lib.hid (J6.out.ext x67)
          have hdone2 : (¬ (p = p' ∧ q = q') → cfl n T (p, q) (p', q') = false) → DoneI n T (p, q) (fun z => left2 z && !z.sameKey (kl (p' : Int) ((q' : Int) + 1))) := fun hno y hy hly hne => by
            by_cases e : y = (p', q')
            · subst e
              exact hno (fun e => hne (by rw [e.1, e.2]))
            · have h1 := com_row HG.out (mem_insts.1 hy)
              have h2 := HCD2.out
              have h5 := H56.out.1
              exact DI.out y hy (left_other (by omega) (by omega) e hly) hne
          have HDONE2 := Lib.hid hdone2
          have hbad : ¬ (p = p' ∧ q = q') → cfl n T (p, q) (p', q') = true → holdB n T = false := fun hne hc => holdB_no (x := (p, q)) (y := (p', q')) (mem_insts.2 HS.out) (mem_insts.2 HS2.out) (fun e => hne (by cases e; exact ⟨rfl, rfl⟩)) hc
          have HBAD := Lib.hid hbad
          have hcfl : cfl n T (p, q) (p', q') = (interB d.k d.f d.t d'.k d'.f d'.t && (decide (d.l[p']?.getD 0 < (q' : Int) + 1) && decide (d'.l[p]?.getD 0 < (q : Int) + 1))) := by
            unfold cfl depI
            simp only [← HD.out, ← HD2.out]
          have HCFL := Lib.hid hcfl
          obtain ⟨bi, hbi⟩ : ∃ b, b = interB d.k d.f d.t d'.k d'.f d'.t := ⟨_, rfl⟩
          have cI : ∀ E : ExtOf w7, Calls Try.prog 86 #[.agg #[.int .i64 d.b, .int .i64 d.v, .int .i64 d.st, .int .i64 d.k, .int .i64 d.i, .int .i64 d.f, .int .i64 d.t, .int .i64 d.a, .int .i64 d.s, .slice ay d.l.length cy], .agg #[.int .i64 d'.b, .int .i64 d'.v, .int .i64 d'.st, .int .i64 d'.k, .int .i64 d'.i, .int .i64 d'.f, .int .i64 d'.t, .int .i64 d'.a, .int .i64 d'.s, .slice az d'.l.length cz]] E.1 (BoolExt bi E.1) := fun E => by
            have h := doInterfere_any d d' (.slice ay d.l.length cy) (.slice az d'.l.length cz) E.1 ⟨_, _, _, rfl⟩ ⟨_, _, _, rfl⟩
            rw [HCD.out.1, HCD2.out.1, ← hbi] at h
            exact h
          obtain ⟨ba, hba⟩ : ∃ b, b = decide ((q' : Int) + 1 ≤ d.l[p']?.getD 0) := ⟨_, rfl⟩
          have cA : ∀ E : ExtOf w7, Calls Try.prog 88 #[.agg #[.int .i64 d.s, .slice ay d.l.length cy], .agg #[.int .i64 p', .int .i64 ((q' : Int) + 1)]] E.1 (BoolExt ba E.1) := fun E => by
            have h1 := HCD.out
            have h2 := HCD2.out
            rw [hba]
            exact hangs_any d.s _ d.l p' q' E.1 (I7.out.ext E.2) (by omega) (by omega)
          obtain ⟨bc, hbc⟩ : ∃ b, b = decide ((q : Int) + 1 ≤ d'.l[p]?.getD 0) := ⟨_, rfl⟩
          have cB : ∀ E : ExtOf w7, Calls Try.prog 88 #[.agg #[.int .i64 d'.s, .slice az d'.l.length cz], .agg #[.int .i64 p, .int .i64 ((q : Int) + 1)]] E.1 (BoolExt bc E.1) := fun E => by
            have h1 := HCD.out
            have h2 := HCD2.out
            rw [hbc]
            exact hangs_any d'.s _ d'.l p q E.1 (J7.out.ext E.2) (by omega) (by omega)
          have hc2 : cfl n T (p, q) (p', q') = (bi && (!ba && !bc)) := by
            rw [HCFL.out, hbi, hba, hbc]
            congr 2
            · rw [← decide_not]; congr 1; simp
            · rw [← decide_not]; congr 1; simp
          have HC2 := Lib.hid hc2
          have T7 := Lib.hid t7
          have P7 := Lib.hid r7
          have T57 := Lib.hid t5
          have R57 := Lib.hid r5
          have CI := Lib.hid cI
          have CA := Lib.hid cA
          have CB := Lib.hid cB
          obtain ⟨f0, f1⟩ := t5
          obtain ⟨k0, k1⟩ := t7
          clear x67 X6 R6 hdone2 hbad hcfl hc2 hbi hba hbc r5 r7 cI cA cB
          by_cases hne : p = p' ∧ q = q'
          · obtain ⟨rfl, rfl⟩ := hne
            have hno : DoneI n T (p, q) (fun z => left2 z && !z.sameKey (kl (p : Int) ((q : Int) + 1))) := HDONE2.out (fun h => absurd ⟨rfl, rfl⟩ h)
            have HNO := Lib.hid hno
            clear hno HDONE2 HBAD
            go_wp2
            go_roundw
            case rel => exact ⟨_, _, R7, HNO, X7⟩
            case measure => rw [R7.out.left_eq, HR2'.out.left_eq]; exact HLT2.out
          · have hz : ¬ ((p : Int) = p') ∨ ((p : Int) = p' ∧ ¬ ((q : Int) = q')) := by omega
            rcases hz with hz | ⟨hz, hz2⟩
            · obtain ⟨g0, g1, g2, g3, g4, g5, g6, g7, g8, g9⟩ := P7.out
              obtain ⟨m0, m1, m2, m3, m4, m5, m6, m7, m8, m9⟩ := R57.out
              go_wp2_with fail
              refine (CI.out ⟨w7, Ext.refl _⟩).mono ?_
              rintro e w8 ⟨rfl, x8'⟩
              have x8 : Ext w7 w8 := x8'
              clear g0 g1 g2 g3 g4 g5 g6 g7 g8 g9 m0 m1 m2 m3 m4 m5 m6 m7 m8 m9 f0 f1 k0 k1 x8'
              cases bi with
              | false =>
                have XE := Lib.hid (X7.out.trans x8)
                have RE := Lib.hid (R7.out.ext x8)
                have HNO := Lib.hid (HDONE2.out (fun _ => by rw [HC2.out]; rfl))
                clear HDONE2 HBAD
                go_wp2
                go_roundw
                case rel => exact ⟨_, _, RE, HNO, XE⟩
                case measure => rw [RE.out.left_eq, HR2'.out.left_eq]; exact HLT2.out
              | true =>
                obtain ⟨k0, k1⟩ := T7.out.ext x8
                obtain ⟨m0, m1, m2, m3, m4, m5, m6, m7, m8, m9⟩ := R57.out.ext x8
                go_wp2_with fail
                refine (CA.out ⟨w8, x8⟩).mono ?_
                rintro e w9 ⟨rfl, x9'⟩
                have x9 : Ext w7 w9 := x8.trans x9'
                clear m0 m1 m2 m3 m4 m5 m6 m7 m8 m9 k0 k1 x9' x8
                cases ba with
                | true =>
                  have XE := Lib.hid (X7.out.trans x9)
                  have RE := Lib.hid (R7.out.ext x9)
                  have HNO := Lib.hid (HDONE2.out (fun _ => by rw [HC2.out]; rfl))
                  clear HDONE2 HBAD
                  go_wp2
                  go_roundw
                  case rel => exact ⟨_, _, RE, HNO, XE⟩
                  case measure => rw [RE.out.left_eq, HR2'.out.left_eq]; exact HLT2.out
                | false =>
                  obtain ⟨f0, f1⟩ := T57.out.ext x9
                  obtain ⟨g0, g1, g2, g3, g4, g5, g6, g7, g8, g9⟩ := P7.out.ext x9
                  clear CI CA hz
                  go_wp2_with fail
                  refine (CB.out ⟨w9, x9⟩).mono ?_
                  rintro e w10 ⟨rfl, x10'⟩
                  have x10 : Ext w7 w10 := x9.trans x10'
                  clear g0 g1 g2 g3 g4 g5 g6 g7 g8 g9 f0 f1 x10' x9
                  cases bc with
                  | true =>
                    have XE := Lib.hid (X7.out.trans x10)
                    have RE := Lib.hid (R7.out.ext x10)
                    have HNO := Lib.hid (HDONE2.out (fun _ => by rw [HC2.out]; rfl))
                    clear HDONE2 HBAD
                    go_wp2
                    go_roundw
                    case rel => exact ⟨_, _, RE, HNO, XE⟩
                    case measure => rw [RE.out.left_eq, HR2'.out.left_eq]; exact HLT2.out
                  | false =>
                    have hres := HBAD.out hne (by rw [HC2.out]; rfl)
                    have HRES := Lib.hid hres
                    have XE := Lib.hid ((((X2.out.trans X4.out).trans X4B.out).trans X7.out).trans x10)
                    clear HDONE2 HBAD hres
                    go_wp2
                    go_ret2
                    rw [HRES.out]
                    exact ⟨rfl, XE.out⟩
            · obtain rfl : p = p' := by omega
              obtain ⟨g0, g1, g2, g3, g4, g5, g6, g7, g8, g9⟩ := P7.out
              obtain ⟨m0, m1, m2, m3, m4, m5, m6, m7, m8, m9⟩ := R57.out
              go_wp2_with fail
              refine (CI.out ⟨w7, Ext.refl _⟩).mono ?_
              rintro e w8 ⟨rfl, x8'⟩
              have x8 : Ext w7 w8 := x8'
              clear g0 g1 g2 g3 g4 g5 g6 g7 g8 g9 m0 m1 m2 m3 m4 m5 m6 m7 m8 m9 f0 f1 k0 k1 x8'
              cases bi with
              | false =>
                have XE := Lib.hid (X7.out.trans x8)
                have RE := Lib.hid (R7.out.ext x8)
                have HNO := Lib.hid (HDONE2.out (fun _ => by rw [HC2.out]; rfl))
                clear HDONE2 HBAD
                go_wp2
                go_roundw
                case rel => exact ⟨_, _, RE, HNO, XE⟩
                case measure => rw [RE.out.left_eq, HR2'.out.left_eq]; exact HLT2.out
              | true =>
                obtain ⟨k0, k1⟩ := T7.out.ext x8
                obtain ⟨m0, m1, m2, m3, m4, m5, m6, m7, m8, m9⟩ := R57.out.ext x8
                go_wp2_with fail
                refine (CA.out ⟨w8, x8⟩).mono ?_
                rintro e w9 ⟨rfl, x9'⟩
                have x9 : Ext w7 w9 := x8.trans x9'
                clear m0 m1 m2 m3 m4 m5 m6 m7 m8 m9 k0 k1 x9' x8
                cases ba with
                | true =>
                  have XE := Lib.hid (X7.out.trans x9)
                  have RE := Lib.hid (R7.out.ext x9)
                  have HNO := Lib.hid (HDONE2.out (fun _ => by rw [HC2.out]; rfl))
                  clear HDONE2 HBAD
                  go_wp2
                  go_roundw
                  case rel => exact ⟨_, _, RE, HNO, XE⟩
                  case measure => rw [RE.out.left_eq, HR2'.out.left_eq]; exact HLT2.out
                | false =>
                  obtain ⟨f0, f1⟩ := T57.out.ext x9
                  obtain ⟨g0, g1, g2, g3, g4, g5, g6, g7, g8, g9⟩ := P7.out.ext x9
                  clear CI CA hz hz2
                  go_wp2_with fail
                  refine (CB.out ⟨w9, x9⟩).mono ?_
                  rintro e w10 ⟨rfl, x10'⟩
                  have x10 : Ext w7 w10 := x9.trans x10'
                  clear g0 g1 g2 g3 g4 g5 g6 g7 g8 g9 f0 f1 x10' x9
                  cases bc with
                  | true =>
                    have XE := Lib.hid (X7.out.trans x10)
                    have RE := Lib.hid (R7.out.ext x10)
                    have HNO := Lib.hid (HDONE2.out (fun _ => by rw [HC2.out]; rfl))
                    clear HDONE2 HBAD
                    go_wp2
                    go_roundw
                    case rel => exact ⟨_, _, RE, HNO, XE⟩
                    case measure => rw [RE.out.left_eq, HR2'.out.left_eq]; exact HLT2.out
                  | false =>
                    have hres := HBAD.out hne (by rw [HC2.out]; rfl)
                    have HRES := Lib.hid hres
                    have XE := Lib.hid ((((X2.out.trans X4.out).trans X4B.out).trans X7.out).trans x10)
                    clear HDONE2 HBAD hres
                    go_wp2
                    go_ret2
                    rw [HRES.out]
                    exact ⟨rfl, XE.out⟩

theorem implHold_any (n : Int) (u : Value) (T : List (List RowD)) (w : World) (hu : Rowzz w u T) (hs : bulkT T ≤ 1099511627776) :
    Calls Try.prog 42 #[.agg #[.int .i64 n, u]] w (TwoB (goodTab n T && holdB n T) (goodTab n T) w) := by
  cases hg : goodTab n T with
  | true => exact implHold_good n u T w hu hg hs
  | false =>
    have HG := Lib.hid hg
    have HS := Lib.hid hs
    have HU := Lib.hid (hu.ext (Ext.alloc1 w (.cells #[.int .i64 n, u] 48)))
    obtain ⟨au, cu, rfl, hlu, _, _⟩ := hu
    clear hs hg
    go_enter Try.func42, Try.ntmps42
    go_wp2_with fail
    refine (implGoodTable_any n _ T _ HU.out HS.out).mono ?_
    rintro e w1 ⟨rfl, x1⟩
    rw [HG.out]
    go_wp2
    go_ret2
    exact ⟨rfl, (Ext.alloc1 _ _).trans x1⟩

end Go.Proofs.Ytihknedmkkakhaa

namespace Go.Proofs.Ytihknedmkkakhaa
open Go.RowKit Go.Maps
set_option linter.unusedVariables false

theorem field_rowA (b v st k i f t a s : Int) (u : Value) (W : World) : (Instr.field 90 (.agg #[.int .i64 b, .int .i64 v, .int .i64 st, .int .i64 k, .int .i64 i, .int .i64 f, .int .i64 t, .int .i64 a, .int .i64 s, u]) 4).run Try.prog W = .ok (.agg #[.int .i64 s, u]) W := by kernel_rfl
theorem zeroRow (W : World) : (zeroValue 90).run Try.prog W = .ok (.agg #[.int .i64 0, .int .i64 0, .int .i64 0, .int .i64 0, .int .i64 0, .int .i64 0, .int .i64 0, .int .i64 0, .int .i64 0, .slice none 0 0]) W := by kernel_rfl

theorem cell_offG {W : World} {g o : Nat} {a : Addr} {z u : Value} (hne : a.block ≠ g) (h : W.cell? a = some u) : (W.setCell ⟨g, o, none⟩ z).cell? a = some u := by
  have hh := Below.heap_setCell W ⟨g, o, none⟩ z a.block hne
  have e : (W.setCell ⟨g, o, none⟩ z).cell? a = W.cell? a := by unfold World.cell?; rw [hh]
  rw [e]; exact h
/-- From place k on the lists are nil. -/
def NilFrom (vs : List Value) (k : Nat) : Prop := ∀ (i : Nat) (z : Value), k ≤ i → vs[i]? = some z → z = .slice none 0 0
/-- The list at place k lies behind block b. -/
def Behind (vs : List Value) (k b : Nat) : Prop := ∀ z : Value, vs[k]? = some z → ∀ g, z.ownBlock = some g → b < g

/-- What a map has at an instance that is there. -/
theorem look_inst {W : World} {B n0 : Nat} {D : DataW Value} {S : Nat → Nat → Bool} {f : Nat → Nat → Value} (hm : RowMap W B n0 D) (hd : MapOf D S f) {p q : Nat} (hs : S p q = true) :
    (Instr.lookup 81 (.map (some B)) (.agg #[.int .i64 p, .int .i64 ((q : Int) + 1)]) false).run Try.prog W = .ok (f p q) W := by
  have hl := hd.low p q hs
  obtain ⟨v, ps, hrun, hv⟩ := hm.lookup instKeyed Try.underlying81 (zeroRow W) (zd := .held _) (zp := []) rfl (keyOf_inst (a := p) (b := (q : Int) + 1) (wf_small (by omega) (by omega)) (wf_small (by omega) (by omega)))
  rw [hd.val p q hs] at hv
  simp only [asIs, Option.some.injEq, Prod.mk.injEq, DataW.held.injEq] at hv
  rw [hv.1] at hrun
  exact hrun

set_option maxHeartbeats 4000000 in
set_option maxRecDepth 100000 in
theorem graphAmong_any (n : Int) (T : List (List RowD)) (U : Nat → Nat → Value) (L : List (Nat × Nat)) (v : Value) (B n0 : Nat) (D : DataW Value) (S : Nat → Nat → Bool) (w : World) (hv : InstsAt w v L) (hl : L.length ≤ 1000)
    (hm : RowMap w B n0 D) (hd : MapOf D S (rowF n T U)) (hS : ∀ x ∈ L, S x.1 x.2 = true) (hC : ∀ p q, S p q = true → instCom T p q = true) (hg : goodTab n T = true) (hli : Lists w n T U) :
    Calls Try.prog 64 #[v, .map (some B)] w (NewIntss (graphP n T L) w) := by
  obtain ⟨au, cu, rfl, hlu, _, hcu⟩ := hv
  unfold maxLen at hlu
  obtain ⟨i0, hi, hz0, hz1, hz2⟩ := info_parts Try.infoInts
  have HCU := Lib.hid hcu
  have HM := Lib.hid hm
  have HD := Lib.hid hd
  have HS := Lib.hid hS
  have HC := Lib.hid hC
  have HG := Lib.hid hg
  have HLI := Lib.hid hli
  clear hcu hm hd hS hC hg hli
  go_enter Try.func64, Try.ntmps64
  go_wp2_with (at_make; refine wpList_make_full _ rfl _ _ 24 rfl w.heap.size 30 i0 (.slice none 0 0) 1 Try.underlying24 hi hz0 hz1 _ _ _ _ L.length rfl rfl rfl rfl ?c1 ?c2 ?c3 ?_)
  case c1 => rw [hz2]; omega
  case c2 => unfold maxLen; omega
  case c3 => simp
  intro w1 ho1 hg1
  have hx1 : Ext w w1 := ext_of_grown hg1
  have ho : w1.ownsRow w.heap.size 30 1 (.slice (some ⟨w.heap.size, 0, none⟩) L.length L.length) L.length (List.replicate L.length (.slice none 0 0)) := by
    rw [toList_madeCells_one] at ho1
    simpa using ho1
  have hsz : w.heap.size < w1.heap.size := by
    rcases ho1.2 with ⟨h, _⟩ | ⟨g, cap, cur, h, hb, hg, _⟩
    · cases h
    · simp only [Value.slice.injEq, Option.some.injEq, Addr.mk.injEq, and_true, true_and] at h
      obtain ⟨rfl, _⟩ := h
      exact (Array.getElem?_eq_some_iff.1 hg).1
  have hrows : Rows_ (w.heap.size + 1) w1 (List.replicate L.length (.slice none 0 0)) (halfG n T L 0 0) := by
    rw [halfG_zero]
    refine ⟨by simp, fun j u l hu hl => ?_, fun i j u z _ hu _ => ?_⟩
    · rw [List.getElem?_replicate] at hu hl
      split at hu
      · rw [if_pos (by assumption)] at hl
        cases hu
        cases hl
        exact ⟨rfl, .inl ⟨rfl, rfl⟩⟩
      · cases hu
    · rw [List.getElem?_replicate] at hu
      split at hu
      · cases hu
        exact .inl rfl
      · cases hu
  have HO1 := Lib.hid ho
  have HR1 := Lib.hid hrows
  have HX1 := Lib.hid hx1
  have HZ1 := Lib.hid hsz
  clear ho1 hg1 hz0 hz1 hz2 hi ho hrows hx1 hsz
  go_wp2
  go_loopw [15] (fun i wr => ∃ (k : Nat) (vs : List Value), k ≤ L.length ∧ i = .int .i64 k ∧ Hid (wr.ownsRow w.heap.size 30 1 (.slice (some ⟨w.heap.size, 0, none⟩) L.length L.length) L.length vs) ∧ Hid (Rows_ (w.heap.size + 1) wr vs (halfG n T L k 0)) ∧ Hid (w.heap.size < wr.heap.size) ∧ Hid (Ext w wr) ∧ Hid (NilFrom vs k)) (fun i _ => L.length - (intOf i).toNat)
  case atStart => exact ⟨0, _, Nat.zero_le _, rfl, HO1, HR1, HZ1, HX1, Lib.hid (fun i z _ hz => by rw [List.getElem?_replicate] at hz; split at hz <;> cases hz; rfl)⟩
  case round =>
    clear HO1 HR1 HZ1 HX1
    obtain ⟨k, vs, hk, rfl, HO, HR, HZ, HX, HN⟩ := hrel
    by_cases hlt : k < L.length
    · obtain ⟨bu, ou, rfl, du⟩ := HCU.out (by omega)
      obtain ⟨q0, q1⟩ := du k hlt
      obtain ⟨x, hx⟩ : ∃ x, x = L[k] := ⟨_, rfl⟩
      rw [← hx] at q0 q1
      have g0 := HX.out.cell q0
      have g1 := HX.out.cell q1
      have hxm : x ∈ L := by rw [hx]; exact List.getElem_mem hlt
      have hsx := HS.out x hxm
      have HSX := Lib.hid hsx
      have HXK := Lib.hid hx
      obtain ⟨p, q⟩ := x
      have HDU := Lib.hid du
      clear q0 q1 hx hxm hsx du
      obtain ⟨b7, hb7⟩ : ∃ b7, b7 = wr.heap.size := ⟨_, rfl⟩
      have hbox : TwoAt (wr.alloc (.cells #[.int .i64 p, .int .i64 ((q : Int) + 1)] 101)) b7 (p : Int) ((q : Int) + 1) := by rw [hb7]; exact ⟨by go_simp, by go_simp⟩
      have HB7 := Lib.hid hb7
      have HBOX := Lib.hid hbox
      have OA := Lib.hid ((Ext.alloc1 wr (.cells #[.int .i64 p, .int .i64 ((q : Int) + 1)] 101)).ownsRow HO.out)
      have RA := Lib.hid (HR.out.ext (Ext.alloc1 wr (.cells #[.int .i64 p, .int .i64 ((q : Int) + 1)] 101)))
      have ZA : Hid (w.heap.size < (wr.alloc (.cells #[.int .i64 p, .int .i64 ((q : Int) + 1)] 101)).heap.size) := Lib.hid (Nat.lt_of_lt_of_le HZ.out (Ext.alloc1 _ _).size)
      have XA := Lib.hid (HX.out.alloc (.cells #[.int .i64 p, .int .i64 ((q : Int) + 1)] 101))
      have NA : Hid (NilFrom vs (k + 1)) := Lib.hid (fun i z hi hz => HN.out i z (by omega) hz)
      have KA : Hid (Behind vs k b7) := Lib.hid (fun z hz g hg => by rw [HN.out k z (Nat.le_refl _) hz] at hg; cases hg)
      clear hbox hb7
      go_wp2
      rw [← HB7.out]
      go_loopw [22] (fun i wr => ∃ (j : Nat) (vs : List Value), j ≤ L.length ∧ i = .int .i64 j ∧ Hid (wr.ownsRow w.heap.size 30 1 (.slice (some ⟨w.heap.size, 0, none⟩) L.length L.length) L.length vs) ∧ Hid (Rows_ (w.heap.size + 1) wr vs (halfG n T L k j)) ∧ Hid (w.heap.size < wr.heap.size) ∧ Hid (Ext w wr) ∧ Hid (TwoAt wr b7 (p : Int) ((q : Int) + 1)) ∧ Hid (NilFrom vs (k + 1)) ∧ Hid (Behind vs k b7)) (fun i _ => L.length - (intOf i).toNat)
      case atStart => exact ⟨0, vs, Nat.zero_le _, rfl, OA, RA, ZA, XA, HBOX, NA, KA⟩
      case round =>
        have HB70 : Hid (w.heap.size < b7) := Lib.hid (by rw [HB7.out]; exact HZ.out)
        clear OA RA ZA XA HBOX NA KA g0 g1 HO HR HZ HX HN HB7
        obtain ⟨j, vs, hj, rfl, HO, HR, HZ, HX, HB, HN, HK7⟩ := hrel
        by_cases hjl : j < L.length
        · obtain ⟨q0, q1⟩ := HDU.out j hjl
          obtain ⟨y, hy⟩ : ∃ y, y = L[j] := ⟨_, rfl⟩
          rw [← hy] at q0 q1
          have g0 := HX.out.cell q0
          have g1 := HX.out.cell q1
          have hsy := HS.out y (by rw [hy]; exact List.getElem_mem hjl)
          have HSY := Lib.hid hsy
          have HYK := Lib.hid hy
          obtain ⟨p', q'⟩ := y
          clear q0 q1 hy hsy
          go_upto_region 8 with fail
          obtain ⟨w9, hw9⟩ : ∃ w9, w9 = wr.alloc (.cells #[.int .i64 p', .int .i64 ((q' : Int) + 1)] 101) := ⟨_, rfl⟩
          obtain ⟨b9, hb9⟩ : ∃ b9, b9 = wr.heap.size := ⟨_, rfl⟩
          have x29 : Ext wr w9 := by rw [hw9]; exact Ext.alloc1 _ _
          have k0 : w9.cell? ⟨b9, 0, none⟩ = some (.int .i64 p') := by rw [hw9, hb9]; go_simp
          have k1 : w9.cell? ⟨b9, 1, none⟩ = some (.int .i64 ((q' : Int) + 1)) := by rw [hw9, hb9]; go_simp
          rw [← hw9, ← hb9]
          obtain ⟨f0, f1⟩ := HB.out.ext x29
          have f0 := fun E : ExtOf w9 => E.cell f0
          have f1 := fun E : ExtOf w9 => E.cell f1
          have k0 := fun E : ExtOf w9 => E.cell k0
          have k1 := fun E : ExtOf w9 => E.cell k1
          clear g0 g1 hw9 hb9
          have hcx := com_row HG.out (HC.out p q HSX.out)
          have hcy := com_row HG.out (HC.out p' q' HSY.out)
          obtain ⟨bb, hbb⟩ : ∃ b, b = decide ((q' : Int) + 1 ≤ depI (rowOf n T p q) p') := ⟨_, rfl⟩
          have hedge : edgeB n T (p, q) (p', q') = (!(decide ((p, q) = (p', q'))) && bb) := by unfold edgeB; rw [hbb]
          have HEDGE0 := Lib.hid hedge
          clear hedge
          by_cases he : p = p' ∧ q = q'
          · obtain ⟨rfl, rfl⟩ := he
            have HEDGE : Hid (edgeB n T (p, q) (p, q) = false) := Lib.hid (by rw [HEDGE0.out]; simp)
            clear hbb HEDGE0 hcx hcy
            have cA : True := trivial
            go_wp2_with fail
            refine wp_region_ext_lit (by kernel_rfl) (by kernel_rfl) ?_
            repeat (go_big_quiet_step (first | (go_at_call 88; fail)))
            refine wpQuiet_nil ?_
            rintro _ ⟨E, rfl⟩
            have he : rowE n T L L[k] (j + 1) = rowE n T L L[k] j := by rw [rowE_succ hjl, ← HXK.out, ← HYK.out, HEDGE.out]; simp
            have RN : Hid (Rows_ (w.heap.size + 1) E.1 vs (halfG n T L k (j + 1))) := Lib.hid (by rw [halfG_stay j hlt he]; exact HR.out.ext (x29.trans E.2))
            have ON := Lib.hid ((x29.trans E.2).ownsRow HO.out)
            have ZN : Hid (w.heap.size < E.1.heap.size) := Lib.hid (Nat.lt_of_lt_of_le HZ.out (x29.trans E.2).size)
            have XN := Lib.hid (HX.out.trans (x29.trans E.2))
            have BN := Lib.hid (HB.out.ext (x29.trans E.2))
            clear he HR HO HZ HX HB x29
            go_wp2
            go_roundw
            case rel => exact ⟨j + 1, vs, by omega, by go_num, ON, RN, ZN, XN, BN, HN, HK7⟩
            case measure => simp [intOf]; omega
          · have hzne : ¬ ((p' : Int) = p) ∨ (p = p' ∧ ¬ ((q' : Int) = q)) := by omega
            obtain ⟨au, cu', hUf, _⟩ := HLI.out p q (instCom_inT (HC.out p q HSX.out))
            have hi9 : Ints w9 (U p q) (rowOf n T p q).l := (HLI.out p q (instCom_inT (HC.out p q HSX.out))).ext (HX.out.trans x29)
            have hlk : ∀ E : ExtOf w9, (Instr.lookup 81 (.map (some B)) (.agg #[.int .i64 p, .int .i64 ((q : Int) + 1)]) false).run Try.prog E.1 = .ok (rowF n T U p q) E.1 := fun E => look_inst (HM.out.ext ((HX.out.trans x29).trans E.2)) HD.out HSX.out
            unfold rowF rowV at hlk
            obtain ⟨d, hd⟩ : ∃ d, d = rowOf n T p q := ⟨_, rfl⟩
            rw [← hd] at hlk hUf hi9 hcx hbb
            rw [hUf] at hlk hi9
            have hfd : ∀ E : ExtOf w9, (Instr.field 90 (.agg #[.int .i64 d.b, .int .i64 d.v, .int .i64 d.st, .int .i64 d.k, .int .i64 d.i, .int .i64 d.f, .int .i64 d.t, .int .i64 d.a, .int .i64 d.s, .slice au d.l.length cu']) 4).run Try.prog E.1 = .ok (.agg #[.int .i64 d.s, .slice au d.l.length cu']) E.1 := fun E => field_rowA _ _ _ _ _ _ _ _ _ _ _
            have cA : ∀ E : ExtOf w9, Calls Try.prog 88 #[.agg #[.int .i64 d.s, .slice au d.l.length cu'], .agg #[.int .i64 p', .int .i64 ((q' : Int) + 1)]] E.1 (BoolExt bb E.1) := fun E => by
              rw [hbb]
              exact hangs_any d.s _ d.l p' q' E.1 (hi9.ext E.2) (by omega) (by omega)
            clear hUf hd hi9 hcx hcy hbb
            rcases hzne with hzn | ⟨rfl, hzn⟩
            · cases bb with
              | false =>
                have HEDGE : Hid (edgeB n T (p, q) (p', q') = false) := Lib.hid (by rw [HEDGE0.out]; simp)
                go_wp2_with fail
                refine wp_region_ext_lit (by kernel_rfl) (by kernel_rfl) ?_
                repeat (go_big_quiet_step (first | (go_at_call 88; with_reducible exact Calls.ext_of _ (cA _))))
                refine wpQuiet_nil ?_
                rintro _ ⟨E, rfl⟩
                have he : rowE n T L L[k] (j + 1) = rowE n T L L[k] j := by rw [rowE_succ hjl, ← HXK.out, ← HYK.out, HEDGE.out]; simp
                have RN : Hid (Rows_ (w.heap.size + 1) E.1 vs (halfG n T L k (j + 1))) := Lib.hid (by rw [halfG_stay j hlt he]; exact HR.out.ext (x29.trans E.2))
                have ON := Lib.hid ((x29.trans E.2).ownsRow HO.out)
                have ZN : Hid (w.heap.size < E.1.heap.size) := Lib.hid (Nat.lt_of_lt_of_le HZ.out (x29.trans E.2).size)
                have XN := Lib.hid (HX.out.trans (x29.trans E.2))
                have BN := Lib.hid (HB.out.ext (x29.trans E.2))
                clear he HR HO HZ HX HB x29
                go_wp2
                go_roundw
                case rel => exact ⟨j + 1, vs, by omega, by go_num, ON, RN, ZN, XN, BN, HN, HK7⟩
                case measure => simp [intOf]; omega
              | true =>
                have HEDGE : Hid (edgeB n T (p, q) (p', q') = true) := Lib.hid (by rw [HEDGE0.out]; simp; omega)
                go_wp2_with fail
                refine wp_region_ext_lit (by kernel_rfl) (by kernel_rfl) ?_
                repeat (go_big_quiet_step (first | (go_at_call 88; with_reducible exact Calls.ext_of _ (cA _))))
                refine wpQuiet_nil ?_
                rintro _ ⟨E, rfl⟩
                have he : rowE n T L L[k] (j + 1) = rowE n T L L[k] j ++ [(j : Int)] := by rw [rowE_succ hjl, ← HXK.out, ← HYK.out, HEDGE.out]; simp
                obtain ⟨z, hz⟩ : ∃ z, vs[k]? = some z := ⟨_, List.getElem?_eq_getElem (by have := HR.out.len; rw [halfG_len] at this; omega)⟩
                obtain ⟨W, hW⟩ : ∃ W, W = E.1 := ⟨_, rfl⟩
                have xW : Ext wr W := by rw [hW]; exact x29.trans E.2
                rw [← hW]
                clear hW
                have fz : Fresh (w.heap.size + 1) wr z (rowE n T L L[k] j) := HR.out.row k z _ hz (halfG_at j hlt)
                have FZ := Lib.hid ((fz.ext xW).ext (Ext.alloc1 W (.cells #[.int .i64 j] 3)))
                have gz := ((xW.ownsRow HO.out).cellAt k (by omega)).trans hz
                have HZV := Lib.hid hz
                have HXW := Lib.hid xW
                have HE := Lib.hid he
                have hlen := rowE_len n T L L[k] j
                have HLEN : Hid ((rowE n T L L[k] j).length ≤ 1099511627776) := Lib.hid (by omega)
                have HSZW : Hid (w.heap.size + 1 ≤ (W.alloc (.cells #[.int .i64 j] 3)).heap.size) := Lib.hid (by have := HZ.out; have := xW.size; simp; omega)
                obtain ⟨az, cz, hzf, _⟩ := fz.ints
                obtain ⟨lz, hlz⟩ : ∃ lz, lz = (rowE n T L L[k] j).length := ⟨_, rfl⟩
                rw [← hlz] at hzf
                subst hzf
                clear fz x29 hlen he xW hlz
                go_wp2_with (at_builtin; refine wpList_pushAt rfl _ _ rfl (w.heap.size + 1) _ (rowE n T L L[k] j) (j : Int) rfl FZ.out ⟨W.heap.size, 0, none⟩ 1 rfl (cell_alloc_one _ _ _) HLEN.out HSZW.out ?_)
                intro v' w5 f5 hg5 hk5 hloc5
                have hsA : (W.alloc (.cells #[.int .i64 j] 3)).heap.size = W.heap.size + 1 := by simp
                have xa := HXW.out.trans (Ext.alloc1 W (.cells #[.int .i64 j] 3))
                have hro := (HR.out.ext xa).push HZV.out hg5 f5 (by rw [hsA]; exact hloc5)
                rw [← HE.out, ← halfG_set j hlt] at hro
                have hne : ∀ g, (Value.slice az lz cz).ownBlock = some g → w.heap.size + 1 ≤ g := fun g hgz => (World.ownsRow.lt FZ.out g hgz).1
                have ho5 : w5.ownsRow w.heap.size 30 1 (.slice (some ⟨w.heap.size, 0, none⟩) L.length L.length) L.length vs := World.ownsRow.kept (xa.ownsRow HO.out) hg5 (.inr (fun e => by have := hne w.heap.size e.symm; omega))
                have gf := ho5.frozenAt k
                have gs := (ho5.cellAt k (by omega)).trans HZV.out
                have hst := ho5.stored k v'
                obtain ⟨av, cv, hvf, _⟩ := f5.ints
                obtain ⟨lv, hlv⟩ : ∃ lv, lv = (rowE n T L L[k] j ++ [(j : Int)]).length := ⟨_, rfl⟩
                rw [← hlv] at hvf
                have hb5 : TwoAt w5 b7 (p : Int) ((q : Int) + 1) := by
                  have h0 := HB.out.ext xa
                  have hb : ∀ g, (Value.slice az lz cz).ownBlock = some g → b7 < g := HK7.out _ HZV.out
                  exact ⟨World.grownBy.cell hg5 h0.1 (fun e => by have := hb b7 e.symm; omega), World.grownBy.cell hg5 h0.2 (fun e => by have := hb b7 e.symm; omega)⟩
                have hrn := hro.touch hst.2 (hro.low (Nat.lt_succ_self _))
                have RN := Lib.hid hrn
                have ON := Lib.hid hst.1
                have hxx : Ext w w5 := hk5 w (HX.out.trans xa) (by omega)
                have XN : Hid (Ext w (w5.setCell ⟨w.heap.size, k, none⟩ v')) := Lib.hid (hxx.setc (Nat.le_refl _))
                have ZN : Hid (w.heap.size < (w5.setCell ⟨w.heap.size, k, none⟩ v').heap.size) := Lib.hid (by have := HZ.out; have := xa.size; have := hg5.size; have := hst.2.size; omega)
                have BN : Hid (TwoAt (w5.setCell ⟨w.heap.size, k, none⟩ v') b7 (p : Int) ((q : Int) + 1)) := Lib.hid (by
                  have := HB70.out
                  exact ⟨cell_offG (by dsimp only; omega) hb5.1, cell_offG (by dsimp only; omega) hb5.2⟩)
                have NN : Hid (NilFrom (vs.set k v') (k + 1)) := Lib.hid (fun i z hi hz => by
                  rw [List.getElem?_set_ne (by omega)] at hz
                  exact HN.out i z hi hz)
                have KN : Hid (Behind (vs.set k v') k b7) := Lib.hid (fun z hz g hg => by
                  rw [List.getElem?_set] at hz
                  split at hz
                  · split at hz
                    · cases hz
                      rcases hloc5 with e | e
                      · rw [e] at hg
                        exact HK7.out _ HZV.out g hg
                      · rw [e] at hg
                        cases hg
                        have h1 : b7 < (W.alloc (.cells #[.int .i64 j] 3)).heap.size := World.block_lt_of_cell? _ _ (HB.out.ext xa).1
                        rw [hsA] at h1
                        exact h1
                    · cases hz
                  · omega)
                subst hvf
                clear hlv hsA hro hne ho5 hst hb5 hrn hxx f5 hg5 hk5 hloc5 xa HR HO HZ HX HB HK7 HN FZ
                go_wp2
                go_roundw
                case rel => exact ⟨j + 1, _, by omega, by go_num, ON, RN, ZN, XN, BN, NN, KN⟩
                case measure => simp [intOf]; omega
            · cases bb with
              | false =>
                have HEDGE : Hid (edgeB n T (p, q) (p, q') = false) := Lib.hid (by rw [HEDGE0.out]; simp)
                go_wp2_with fail
                refine wp_region_ext_lit (by kernel_rfl) (by kernel_rfl) ?_
                repeat (go_big_quiet_step (first | (go_at_call 88; with_reducible exact Calls.ext_of _ (cA _))))
                refine wpQuiet_nil ?_
                rintro _ ⟨E, rfl⟩
                have he : rowE n T L L[k] (j + 1) = rowE n T L L[k] j := by rw [rowE_succ hjl, ← HXK.out, ← HYK.out, HEDGE.out]; simp
                have RN : Hid (Rows_ (w.heap.size + 1) E.1 vs (halfG n T L k (j + 1))) := Lib.hid (by rw [halfG_stay j hlt he]; exact HR.out.ext (x29.trans E.2))
                have ON := Lib.hid ((x29.trans E.2).ownsRow HO.out)
                have ZN : Hid (w.heap.size < E.1.heap.size) := Lib.hid (Nat.lt_of_lt_of_le HZ.out (x29.trans E.2).size)
                have XN := Lib.hid (HX.out.trans (x29.trans E.2))
                have BN := Lib.hid (HB.out.ext (x29.trans E.2))
                clear he HR HO HZ HX HB x29
                go_wp2
                go_roundw
                case rel => exact ⟨j + 1, vs, by omega, by go_num, ON, RN, ZN, XN, BN, HN, HK7⟩
                case measure => simp [intOf]; omega
              | true =>
                have HEDGE : Hid (edgeB n T (p, q) (p, q') = true) := Lib.hid (by rw [HEDGE0.out]; simp; omega)
                go_wp2_with fail
                refine wp_region_ext_lit (by kernel_rfl) (by kernel_rfl) ?_
                repeat (go_big_quiet_step (first | (go_at_call 88; with_reducible exact Calls.ext_of _ (cA _))))
                refine wpQuiet_nil ?_
                rintro _ ⟨E, rfl⟩
                have he : rowE n T L L[k] (j + 1) = rowE n T L L[k] j ++ [(j : Int)] := by rw [rowE_succ hjl, ← HXK.out, ← HYK.out, HEDGE.out]; simp
                obtain ⟨z, hz⟩ : ∃ z, vs[k]? = some z := ⟨_, List.getElem?_eq_getElem (by have := HR.out.len; rw [halfG_len] at this; omega)⟩
                obtain ⟨W, hW⟩ : ∃ W, W = E.1 := ⟨_, rfl⟩
                have xW : Ext wr W := by rw [hW]; exact x29.trans E.2
                rw [← hW]
                clear hW
                have fz : Fresh (w.heap.size + 1) wr z (rowE n T L L[k] j) := HR.out.row k z _ hz (halfG_at j hlt)
                have FZ := Lib.hid ((fz.ext xW).ext (Ext.alloc1 W (.cells #[.int .i64 j] 3)))
                have gz := ((xW.ownsRow HO.out).cellAt k (by omega)).trans hz
                have HZV := Lib.hid hz
                have HXW := Lib.hid xW
                have HE := Lib.hid he
                have hlen := rowE_len n T L L[k] j
                have HLEN : Hid ((rowE n T L L[k] j).length ≤ 1099511627776) := Lib.hid (by omega)
                have HSZW : Hid (w.heap.size + 1 ≤ (W.alloc (.cells #[.int .i64 j] 3)).heap.size) := Lib.hid (by have := HZ.out; have := xW.size; simp; omega)
                obtain ⟨az, cz, hzf, _⟩ := fz.ints
                obtain ⟨lz, hlz⟩ : ∃ lz, lz = (rowE n T L L[k] j).length := ⟨_, rfl⟩
                rw [← hlz] at hzf
                subst hzf
                clear fz x29 hlen he xW hlz
                go_wp2_with (at_builtin; refine wpList_pushAt rfl _ _ rfl (w.heap.size + 1) _ (rowE n T L L[k] j) (j : Int) rfl FZ.out ⟨W.heap.size, 0, none⟩ 1 rfl (cell_alloc_one _ _ _) HLEN.out HSZW.out ?_)
                intro v' w5 f5 hg5 hk5 hloc5
                have hsA : (W.alloc (.cells #[.int .i64 j] 3)).heap.size = W.heap.size + 1 := by simp
                have xa := HXW.out.trans (Ext.alloc1 W (.cells #[.int .i64 j] 3))
                have hro := (HR.out.ext xa).push HZV.out hg5 f5 (by rw [hsA]; exact hloc5)
                rw [← HE.out, ← halfG_set j hlt] at hro
                have hne : ∀ g, (Value.slice az lz cz).ownBlock = some g → w.heap.size + 1 ≤ g := fun g hgz => (World.ownsRow.lt FZ.out g hgz).1
                have ho5 : w5.ownsRow w.heap.size 30 1 (.slice (some ⟨w.heap.size, 0, none⟩) L.length L.length) L.length vs := World.ownsRow.kept (xa.ownsRow HO.out) hg5 (.inr (fun e => by have := hne w.heap.size e.symm; omega))
                have gf := ho5.frozenAt k
                have gs := (ho5.cellAt k (by omega)).trans HZV.out
                have hst := ho5.stored k v'
                obtain ⟨av, cv, hvf, _⟩ := f5.ints
                obtain ⟨lv, hlv⟩ : ∃ lv, lv = (rowE n T L L[k] j ++ [(j : Int)]).length := ⟨_, rfl⟩
                rw [← hlv] at hvf
                have hb5 : TwoAt w5 b7 (p : Int) ((q : Int) + 1) := by
                  have h0 := HB.out.ext xa
                  have hb : ∀ g, (Value.slice az lz cz).ownBlock = some g → b7 < g := HK7.out _ HZV.out
                  exact ⟨World.grownBy.cell hg5 h0.1 (fun e => by have := hb b7 e.symm; omega), World.grownBy.cell hg5 h0.2 (fun e => by have := hb b7 e.symm; omega)⟩
                have hrn := hro.touch hst.2 (hro.low (Nat.lt_succ_self _))
                have RN := Lib.hid hrn
                have ON := Lib.hid hst.1
                have hxx : Ext w w5 := hk5 w (HX.out.trans xa) (by omega)
                have XN : Hid (Ext w (w5.setCell ⟨w.heap.size, k, none⟩ v')) := Lib.hid (hxx.setc (Nat.le_refl _))
                have ZN : Hid (w.heap.size < (w5.setCell ⟨w.heap.size, k, none⟩ v').heap.size) := Lib.hid (by have := HZ.out; have := xa.size; have := hg5.size; have := hst.2.size; omega)
                have BN : Hid (TwoAt (w5.setCell ⟨w.heap.size, k, none⟩ v') b7 (p : Int) ((q : Int) + 1)) := Lib.hid (by
                  have := HB70.out
                  exact ⟨cell_offG (by dsimp only; omega) hb5.1, cell_offG (by dsimp only; omega) hb5.2⟩)
                have NN : Hid (NilFrom (vs.set k v') (k + 1)) := Lib.hid (fun i z hi hz => by
                  rw [List.getElem?_set_ne (by omega)] at hz
                  exact HN.out i z hi hz)
                have KN : Hid (Behind (vs.set k v') k b7) := Lib.hid (fun z hz g hg => by
                  rw [List.getElem?_set] at hz
                  split at hz
                  · split at hz
                    · cases hz
                      rcases hloc5 with e | e
                      · rw [e] at hg
                        exact HK7.out _ HZV.out g hg
                      · rw [e] at hg
                        cases hg
                        have h1 : b7 < (W.alloc (.cells #[.int .i64 j] 3)).heap.size := World.block_lt_of_cell? _ _ (HB.out.ext xa).1
                        rw [hsA] at h1
                        exact h1
                    · cases hz
                  · omega)
                subst hvf
                clear hlv hsA hro hne ho5 hst hb5 hrn hxx f5 hg5 hk5 hloc5 xa HR HO HZ HX HB HK7 HN FZ
                go_wp2
                go_roundw
                case rel => exact ⟨j + 1, _, by omega, by go_num, ON, RN, ZN, XN, BN, NN, KN⟩
                case measure => simp [intOf]; omega
        · obtain rfl : j = L.length := by omega
          have RN : Hid (Rows_ (w.heap.size + 1) wr vs (halfG n T L (k + 1) 0)) := Lib.hid (by rw [← halfG_next]; exact HR.out)
          clear HR HB HK7
          go_wp2
          go_roundw
          case rel => exact ⟨k + 1, vs, by omega, by go_num, HO, RN, HZ, HX, HN⟩
          case measure => simp [intOf]; omega
    · obtain rfl : k = L.length := by omega
      have RN : Hid (Rows_ (w.heap.size + 1) wr vs (graphP n T L)) := Lib.hid (by rw [← halfG_all]; exact HR.out)
      clear HR
      go_wp2
      go_ret
      have hgl : (graphP n T L).length = L.length := by simp [graphP]
      refine ⟨_, rfl, ⟨vs, ?_, RN.out.more (by omega), RN.out.low (g := w.heap.size) (by omega)⟩, HX.out⟩
      rw [hgl]
      exact HO.out

end Go.Proofs.Ytihknedmkkakhaa
