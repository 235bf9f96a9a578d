/- Texts of this proof, part x: words, plain facts, contracts. -/
import Derived.Test.YtbffkidkfannhaaGreatMGoodNets
import Derived.Test.YtbffkidkfannhaaGreatMGoodNetf
import Derived.Test.YtbffkidkfannhaaGreatMGoodNetq4
import Derived.Deep.Cut
import Derived.Test.YtbffkidkfannhaaGreatMGoodNetw
import Derived.Test.YtbffkidkfannhaaGreatMGoodNetv
import Derived.Laws.CopyOwn
import Derived.IntWalk

namespace Go.Proofs.YtbffkidkfannhaaGreat
open Go.RowKit Go.Maps
set_option linter.unusedVariables false

/-- The instances ahead of (k, j). -/
def tillT (T : List (List RowD)) (k j p q : Nat) : Bool := inT T p q && (decide (p < k) || (decide (p = k) && decide (q < j)))
theorem tillT_zero (T : List (List RowD)) (p q : Nat) : tillT T 0 0 p q = false := by simp [tillT]
theorem tillT_step {T : List (List RowD)} {k j : Nat} (hk : k < T.length) (hj : j < T[k].length) (p q : Nat) :
    tillT T k (j + 1) p q = (tillT T k j p q || (decide (p = k) && decide (q = j))) := by
  unfold tillT
  by_cases e : p = k ∧ q = j
  · obtain ⟨rfl, rfl⟩ := e
    rw [inT_mk hk hj]
    simp
  · have h1 : (decide (p = k) && decide (q = j)) = false := by simpa using e
    rw [h1, Bool.or_false]
    congr 1
    rw [Bool.eq_iff_iff]
    simp
    omega
theorem tillT_next {T : List (List RowD)} {k : Nat} (hk : k < T.length) (p q : Nat) : tillT T (k + 1) 0 p q = tillT T k T[k].length p q := by
  unfold tillT
  cases hi : inT T p q with
  | false => rfl
  | true =>
    obtain ⟨hp, hq⟩ := inT_of hi
    rw [Bool.eq_iff_iff]
    simp
    by_cases e : p = k
    · subst e
      simp [hq]
    · omega
theorem tillT_all {T : List (List RowD)} (p q : Nat) : tillT T T.length 0 p q = inT T p q := by
  unfold tillT
  cases hi : inT T p q with
  | false => rfl
  | true =>
    obtain ⟨hp, hq⟩ := inT_of hi
    simp [hp]

/-- A map of a table's instances comes back, in new memory. -/
def NewRowMap (T : List (List RowD)) (S : Nat → Nat → Bool) (f : Nat → Nat → Value) (w : World) (e : Ending) (w' : World) : Prop :=
  ∃ b D, e = .returned (.map (some b)) ∧ RowMap w' b 30 D ∧ MapOf D S f ∧ w.heap.size ≤ b ∧ Ext w w'

theorem Ext.turned {w0 w w' : World} {b : Nat} (h : Ext w0 w) (t : w.grownBy w' (some b)) (hb : w0.heap.size ≤ b) : Ext w0 w' := Below.grown h t h.size (fun k hk => by cases hk; exact hb)

set_option maxHeartbeats 4000000 in
set_option maxRecDepth 100000 in
theorem rowsIn_any (n : Int) (u : Value) (T : List (List RowD)) (U : Nat → Nat → Value) (w : World) (hu : TabAt w u T U) (hT : T.length ≤ 5) (hR6 : ∀ R ∈ T, R.length ≤ 6) :
    Calls Tryz.prog 83 #[.agg #[.int .i64 n, u]] w (NewRowMap T (inT T) (rowF n T U) w) := by
  obtain ⟨au, cu, rfl, hlu, _, hcu⟩ := hu
  unfold maxLen at hlu
  have H6 := Lib.hid hR6
  clear hR6
  have hmm := @run_makeMap Tryz.prog
  have hx0 : Ext w ((w.alloc (.cells #[.int .i64 n, .slice au T.length cu] 67)).alloc (.map #[] 0)) := Ext.alloc (Ext.alloc1 _ _) _
  have hm0 : RowMap ((w.alloc (.cells #[.int .i64 n, .slice au T.length cu] 67)).alloc (.map #[] 0)) (w.heap.size + 1) 0 (.map []) := by
    have h := World.ownsMap_made (w.alloc (.cells #[.int .i64 n, .slice au T.length cu] 67)) Tryz.prog 112 asIs
    simpa using h
  have HX0 := Lib.hid hx0
  have HM0 := Lib.hid hm0
  clear hx0 hm0
  go_enter Tryz.func83, Tryz.ntmps83
  go_wp2
  go_loopw [12] (fun i wr => ∃ (k : Nat) (D : DataW Value), k ≤ T.length ∧ i = .int .i64 k ∧ Hid (RowMap wr (w.heap.size + 1) (6 * k) D) ∧ Hid (MapOf D (tillT T k 0) (rowF n T U)) ∧ Ext w wr) (fun i _ => T.length - (intOf i).toNat)
  case atStart => exact ⟨0, _, Nat.zero_le _, rfl, HM0, Lib.hid ((MapOf.empty (rowF n T U)).congr (fun p q => tillT_zero T p q) (fun _ _ h => by cases h)), HX0.out⟩
  case round =>
    clear HM0 HX0
    obtain ⟨k, D, hk, rfl, HM, HD, hx⟩ := hrel
    by_cases hlt : k < T.length
    · obtain ⟨bu, ou, rfl, du⟩ := hcu (by omega)
      obtain ⟨x, hx1, ix⟩ := du k hlt
      have gu := hx.cell hx1
      obtain ⟨R, hR⟩ : ∃ R, R = T[k] := ⟨_, rfl⟩
      rw [← hR] at ix
      have hl6 : R.length ≤ 6 := by rw [hR]; exact H6.out _ (List.getElem_mem hlt)
      obtain ⟨ax, cx, rfl, hlx, _, hcx⟩ := ix
      unfold maxLen at hlx
      have HR := Lib.hid hR
      have HX := Lib.hid hx
      clear hcu du hx1 hR hx
      go_wp2
      go_loopw [19] (fun i wr => ∃ (j : Nat) (D : DataW Value), j ≤ R.length ∧ i = .int .i64 j ∧ Hid (RowMap wr (w.heap.size + 1) (6 * k + j) D) ∧ Hid (MapOf D (tillT T k j) (rowF n T U)) ∧ Ext w wr) (fun i _ => R.length - (intOf i).toNat)
      case atStart => exact ⟨0, D, Nat.zero_le _, rfl, HM, HD, HX.out⟩
      case round =>
        clear HM HD HX
        obtain ⟨j, D, hj, rfl, HM, HD, hy⟩ := hrel
        by_cases hjt : j < R.length
        · obtain ⟨bx, ox, rfl, dx⟩ := hcx (by omega)
          obtain ⟨hy1, iy⟩ := dx j hjt
          obtain ⟨ay, cy, hU, _⟩ := iy
          have hval : rowF n T U k j = rowV R[j] (U k j) := by
            unfold rowF
            rw [rowOf_in hlt (by rw [← HR.out]; exact hjt)]
            simp only [HR.out]
          obtain ⟨d, hd⟩ : ∃ d, d = R[j] := ⟨_, rfl⟩
          rw [← hd] at hy1 hval hU
          rw [hU] at hy1 hval
          obtain ⟨g0, g1, g2, g3, g4, g5, g6, g7, g8, g9⟩ := hy1.ext hy
          have hput := HD.out.put (p := k) (q := j) (by omega) hval
          have HP := Lib.hid (hput.congr (S' := tillT T k (j + 1)) (f' := rowF n T U) (fun p q => tillT_step hlt (by rw [← HR.out]; exact hjt) p q) (fun _ _ _ => rfl))
          have HY := Lib.hid hy
          have HB : Hid (w.heap.size ≤ w.heap.size + 1) := Lib.hid (by omega)
          clear dx hy1 hd hcx hval hput HD hy hU
          go_wp2_with (at_mapUpdate; refine wpList_mapUpdate_own _ rfl _ _ _ 139 rfl 112 101 instKeyed Tryz.underlying139 asIs (w.heap.size + 1) (6 * k + j) D rfl (HM.out.alloc _) (by unfold maxLen; omega) _ _ (kl (k : Int) ((j : Int) + 1)) rfl rfl (keyOf_inst (wf_small (by omega) (by omega)) (wf_small (by omega) (by omega))) (.held (rowV d (.slice ay d.l.length cy))) [] rfl ?_)
          intro w1 hown1 hgrow1
          have hz : Ext w w1 := (HY.out.alloc _).turned hgrow1 HB.out
          have HO := Lib.hid hown1
          clear hown1 hgrow1 HM HY
          go_wp2
          go_roundw
          case rel => exact ⟨j + 1, _, by omega, by go_num, HO, HP, hz⟩
          case measure => simp [intOf]; omega
        · obtain rfl : j = R.length := by omega
          have HD' : Hid (MapOf D (tillT T (k + 1) 0) (rowF n T U)) := Lib.hid (HD.out.congr (fun p q => by rw [tillT_next hlt, ← HR.out]) (fun _ _ _ => rfl))
          have HM' : Hid (RowMap wr (w.heap.size + 1) (6 * (k + 1)) D) := Lib.hid (HM.out.mono (by omega))
          clear HD HM
          go_wp2
          go_roundw
          case rel => exact ⟨k + 1, D, by omega, by go_num, HM', HD', hy⟩
          case measure => simp [intOf]; omega
    · obtain rfl : k = T.length := by omega
      have HD' : Hid (MapOf D (inT T) (rowF n T U)) := Lib.hid (HD.out.congr (fun p q => (tillT_all p q).symm) (fun _ _ _ => rfl))
      have HM' : Hid (RowMap wr (w.heap.size + 1) 30 D) := Lib.hid (HM.out.mono (by omega))
      clear HD HM
      go_wp2
      go_ret
      exact ⟨_, D, rfl, HM'.out, HD'.out, by omega, hx⟩

end Go.Proofs.YtbffkidkfannhaaGreat

namespace Go.Proofs.YtbffkidkfannhaaGreat
open Go.RowKit
set_option linter.unusedVariables false

def bothTo (k f t k' f' t' : Int) (n : Nat) : Bool := (List.range n).any fun (j : Nat) => touchB k f t (j : Int) && touchB k' f' t' (j : Int)
theorem bothTo_succ (k f t k' f' t' : Int) (n : Nat) : bothTo k f t k' f' t' (n + 1) = (bothTo k f t k' f' t' n || (touchB k f t (n : Int) && touchB k' f' t' (n : Int))) := by
  simp [bothTo, List.range_succ]
theorem bothTo_all {k i f t a k' i' f' t' a' : Int} (hg : goodB k i f t a = true) (hg' : goodB k' i' f' t' a' = true) : interB k f t k' f' t' = bothTo k f t k' f' t' 4 := by
  unfold interB
  rw [← touchedTo_all hg, ← touchedTo_all hg']
  have r4 : List.range 4 = [0, 1, 2, 3] := rfl
  unfold touchedTo bothTo interL
  rw [r4]
  simp only [List.filter_cons, List.filter_nil, List.any_cons, List.any_nil]
  generalize touchB k f t ((0 : Nat) : Int) = a0
  generalize touchB k f t ((1 : Nat) : Int) = a1
  generalize touchB k f t ((2 : Nat) : Int) = a2
  generalize touchB k f t ((3 : Nat) : Int) = a3
  generalize touchB k' f' t' ((0 : Nat) : Int) = b0
  generalize touchB k' f' t' ((1 : Nat) : Int) = b1
  generalize touchB k' f' t' ((2 : Nat) : Int) = b2
  generalize touchB k' f' t' ((3 : Nat) : Int) = b3
  revert a0 a1 a2 a3 b0 b1 b2 b3
  decide

end Go.Proofs.YtbffkidkfannhaaGreat

namespace Go.Proofs.YtbffkidkfannhaaGreat
open Go.RowKit Go.Maps
set_option linter.unusedVariables false

/-- What is left of all instances while the map is swept: those that are settled, and those still to come. -/
def sweptT (T : List (List RowD)) (left : Lit → Bool) (p q : Nat) : Bool := inT T p q && (instCom T p q || left (kl (p : Int) ((q : Int) + 1)))
theorem inT_low {T : List (List RowD)} (hT : T.length ≤ 5) (hR6 : ∀ R ∈ T, R.length ≤ 6) {p q : Nat} (h : inT T p q = true) : p ≤ 4 ∧ q ≤ 5 := by
  obtain ⟨hp, hq⟩ := inT_of h
  have := hR6 _ (List.getElem_mem hp)
  omega
theorem instCom_inT {T : List (List RowD)} {p q : Nat} (h : instCom T p q = true) : inT T p q = true := by
  obtain ⟨hp, hq, _⟩ := instCom_lt h
  exact inT_mk hp hq
theorem instCom_row {n : Int} {T : List (List RowD)} {p q : Nat} (h : inT T p q = true) : instCom T p q = ((rowOf n T p q).st == 3) := by
  obtain ⟨hp, hq⟩ := inT_of h
  rw [instCom_in hp hq, rowOf_in hp hq]
theorem same_kl {p q p' q' : Nat} (h1 : p ≤ 1048576 ∧ q ≤ 1048576) (h2 : p' ≤ 1048576 ∧ q' ≤ 1048576) : (kl (p : Int) ((q : Int) + 1)).sameKey (kl (p' : Int) ((q' : Int) + 1)) = (decide (p = p') && decide (q = q')) := by
  by_cases e : p = p' ∧ q = q'
  · obtain ⟨rfl, rfl⟩ := e
    rw [WideAt.sameKey_self (instKeyed.key (keyOf_inst (wf_small (by omega) (by omega)) (wf_small (by omega) (by omega))))]
    simp
  · rw [Maps.sameKey_ne (kl_ne h1 h2 e)]
    symm
    simpa using e

/-- One instance has come: it is settled. -/
theorem swept_stays {T : List (List RowD)} (hT : T.length ≤ 5) (hR6 : ∀ R ∈ T, R.length ≤ 6) {left : Lit → Bool} {p q : Nat} (hi : inT T p q = true) (hc : instCom T p q = true) (p' q' : Nat) :
    sweptT T (fun z => left z && !z.sameKey (kl (p : Int) ((q : Int) + 1))) p' q' = sweptT T left p' q' := by
  unfold sweptT
  cases hi' : inT T p' q' with
  | false => rfl
  | true =>
    have h1 := inT_low hT hR6 hi
    have h2 := inT_low hT hR6 hi'
    simp only [Bool.true_and]
    rw [same_kl (by omega) (by omega)]
    by_cases e : p' = p ∧ q' = q
    · obtain ⟨rfl, rfl⟩ := e
      rw [hc]; rfl
    · have : (decide (p' = p) && decide (q' = q)) = false := by simpa using e
      rw [this]
      simp
/-- .. it is not. -/
theorem swept_goes {T : List (List RowD)} (hT : T.length ≤ 5) (hR6 : ∀ R ∈ T, R.length ≤ 6) {left : Lit → Bool} {p q : Nat} (hi : inT T p q = true) (hc : instCom T p q = false) (p' q' : Nat) :
    sweptT T (fun z => left z && !z.sameKey (kl (p : Int) ((q : Int) + 1))) p' q' = (sweptT T left p' q' && !(decide (p' = p) && decide (q' = q))) := by
  unfold sweptT
  cases hi' : inT T p' q' with
  | false => rfl
  | true =>
    have h1 := inT_low hT hR6 hi
    have h2 := inT_low hT hR6 hi'
    simp only [Bool.true_and]
    rw [same_kl (by omega) (by omega)]
    by_cases e : p' = p ∧ q' = q
    · obtain ⟨rfl, rfl⟩ := e
      rw [hc]; simp
    · have : (decide (p' = p) && decide (q' = q)) = false := by simpa using e
      rw [this]
      simp

theorem swept_start {T : List (List RowD)} {D : DataW Value} {f : Nat → Nat → Value} (h : MapOf D (inT T) f) (p q : Nat) : sweptT T (Maps.has D) p q = inT T p q := by
  unfold sweptT
  cases hi : inT T p q with
  | false => rfl
  | true => rw [h.has p q hi]; simp
theorem swept_end {T : List (List RowD)} {left : Lit → Bool} (h : ∀ l, left l = false) (p q : Nat) : instCom T p q = sweptT T left p q := by
  unfold sweptT
  rw [h]
  cases hi : instCom T p q with
  | false => simp
  | true => rw [instCom_inT hi]; rfl
theorem swept_in {T : List (List RowD)} {left : Lit → Bool} {p q : Nat} (h : sweptT T left p q = true) : inT T p q = true := by
  unfold sweptT at h
  rw [Bool.and_eq_true] at h
  exact h.1

end Go.Proofs.YtbffkidkfannhaaGreat

namespace Go.Proofs.YtbffkidkfannhaaGreat
open Go.RowKit Go.Maps
set_option linter.unusedVariables false

end Go.Proofs.YtbffkidkfannhaaGreat

namespace Go.Proofs.YtbffkidkfannhaaGreat
open Go.RowKit Go.Maps
set_option linter.unusedVariables false

/-- All instances that have come conflict with none. -/
def DoneH (n : Int) (T : List (List RowD)) (left : Lit → Bool) : Prop := ∀ x ∈ insts T, left (kl (x.1 : Int) ((x.2 : Int) + 1)) = false → ∀ y ∈ insts T, x ≠ y → cfl n T x y = false
/-- .. those that have come do not conflict with this one. -/
def DoneI (n : Int) (T : List (List RowD)) (x : Nat × Nat) (left : Lit → Bool) : Prop := ∀ y ∈ insts T, left (kl (y.1 : Int) ((y.2 : Int) + 1)) = false → x ≠ y → cfl n T x y = false

theorem left_other {left : Lit → Bool} {x : Nat × Nat} {p q : Nat} (h1 : x.1 ≤ 1048576 ∧ x.2 ≤ 1048576) (h2 : p ≤ 1048576 ∧ q ≤ 1048576) (e : ¬ x = (p, q))
    (h : (fun z : Lit => left z && !z.sameKey (kl (p : Int) ((q : Int) + 1))) (kl (x.1 : Int) ((x.2 : Int) + 1)) = false) : left (kl (x.1 : Int) ((x.2 : Int) + 1)) = false := by
  have h' : (left (kl (x.1 : Int) ((x.2 : Int) + 1)) && !(kl (x.1 : Int) ((x.2 : Int) + 1)).sameKey (kl (p : Int) ((q : Int) + 1))) = false := h
  rw [same_kl h1 h2] at h'
  have : (decide (x.1 = p) && decide (x.2 = q)) = false := by
    simp only [Bool.and_eq_false_iff, decide_eq_false_iff_not]
    by_cases e1 : x.1 = p
    · exact .inr (fun e2 => e (Prod.ext e1 e2))
    · exact .inl e1
  rw [this] at h'
  simpa using h'
theorem goodTab_both {n : Int} {T : List (List RowD)} (h : goodTab n T = true) : T.length ≤ 5 ∧ ∀ R ∈ T, R.length ≤ 6 := by
  obtain ⟨h1, h2, h3⟩ := goodTab_of h
  refine ⟨?_, fun R hR => (h3 R hR).1⟩
  rcases isGrp_of h1 with e | e <;> omega
theorem goodRow_cmd' {n : Int} {r : RowD} (h : goodRow n r = true) : goodB r.k r.i r.f r.t r.a = true ∧ ((r.st == 0) = true → r.k = 0) := by
  unfold goodRow at h
  simp only [Bool.and_eq_true] at h
  have h2 := h.2
  split at h2
  · unfold emptyB zeroC at h2
    simp only [Bool.and_eq_true, beq_iff_eq] at h2
    obtain ⟨⟨_, e0, e1, e2, e3, e4⟩, _⟩ := h2
    rw [e0, e1, e2, e3, e4]
    exact ⟨rfl, fun _ => rfl⟩
  · rename_i hst
    unfold fullB at h2
    simp only [Bool.and_eq_true] at h2
    exact ⟨h2.1, fun h => absurd h (by simpa using hst)⟩
/-- A settled row of a good table: its command is good, its list has an entry for each replica. -/
theorem com_row {n : Int} {T : List (List RowD)} (h : goodTab n T = true) {p q : Nat} (hc : instCom T p q = true) :
    goodB (rowOf n T p q).k (rowOf n T p q).i (rowOf n T p q).f (rowOf n T p q).t (rowOf n T p q).a = true ∧ (rowOf n T p q).l.length = T.length ∧ p < T.length ∧ q ≤ 5 := by
  obtain ⟨hp, hq, hs⟩ := instCom_lt hc
  have h1 := goodTab_row h hp hq
  have h2 := goodTab_of h
  have h3 := (h2.2.2 _ (List.getElem_mem hp)).1
  rw [rowOf_in hp hq]
  refine ⟨?_, by omega, hp, by omega⟩
  exact (goodRow_cmd' h1.1).1
/-- Two integers in a block. -/
def PairAt (w : World) (b : Nat) (x y : Int) : Prop := w.cell? ⟨b, 0, none⟩ = some (.int .i64 x) ∧ w.cell? ⟨b, 1, none⟩ = some (.int .i64 y)
theorem PairAt.ext {w w' : World} {b : Nat} {x y : Int} (h : PairAt w b x y) (e : Ext w w') : PairAt w' b x y := ⟨e.cell h.1, e.cell h.2⟩
theorem two_new (w : World) (x y : Int) (T T' : TypeId) (C : Array Value) : PairAt ((w.alloc (.cells #[.int .i64 x, .int .i64 y] T)).alloc (.cells C T')) w.heap.size x y := by
  refine ⟨?_, ?_⟩ <;> go_simp
theorem row_new (w : World) (o : Obj) (T : TypeId) (r : RowD) (u : Value) : RowAt ((w.alloc o).alloc (.cells #[.int .i64 r.b, .int .i64 r.v, .int .i64 r.st, .int .i64 r.k, .int .i64 r.i, .int .i64 r.f, .int .i64 r.t, .int .i64 r.a, .int .i64 r.s, u] T)) (w.heap.size + 1) r u := by
  have h := rowAt_new (w.alloc o) T r u
  simpa using h

end Go.Proofs.YtbffkidkfannhaaGreat

namespace Go.Proofs.YtbffkidkfannhaaGreat
open Go.RowKit Go.Maps
set_option linter.unusedVariables false

def yesV (_ _ : Nat) : Value := .bool true
/-- A set of instances comes back, in new memory, of at most N entries. -/
def NewSet (S : Nat → Nat → Bool) (N : Nat) (w : World) (e : Ending) (w' : World) : Prop :=
  ∃ b n D, e = .returned (.map (some b)) ∧ RowMap w' b n D ∧ n ≤ N ∧ MapOf D S yesV ∧ w.heap.size ≤ b ∧ Ext w w'

/-- What is met while the map of all rows is walked: by the instances that have come. -/
def metL (n : Int) (T : List (List RowD)) (left : Lit → Bool) (p q : Nat) : Bool :=
  (inT T p q && !left (kl (p : Int) ((q : Int) + 1))) || (insts T).any fun x => !left (kl (x.1 : Int) ((x.2 : Int) + 1)) && decide ((p, q) ∈ hungL (rowOf n T x.1 x.2))
theorem metL_start {n : Int} {T : List (List RowD)} {D : DataW Value} {f : Nat → Nat → Value} (h : MapOf D (inT T) f) (p q : Nat) : metL n T (Maps.has D) p q = false := by
  unfold metL
  rw [Bool.or_eq_false_iff]
  refine ⟨?_, ?_⟩
  · cases hi : inT T p q with
    | false => rfl
    | true => rw [h.has p q hi]; rfl
  · rw [List.any_eq_false]
    intro x hx
    rw [h.has x.1 x.2 (instCom_inT (mem_insts.1 hx))]
    simp
theorem metL_end {n : Int} {T : List (List RowD)} {left : Lit → Bool} (h : ∀ l, left l = false) (p q : Nat) : metB n T p q = metL n T left p q := by
  unfold metL metB hungB
  rw [h]
  simp only [Bool.not_false, Bool.and_true]
  congr 1
  congr 1
  funext x
  rw [h]
  simp
/-- One instance has come. -/
theorem metL_step {n : Int} {T : List (List RowD)} (hT : T.length ≤ 5) (hR6 : ∀ R ∈ T, R.length ≤ 6) {left : Lit → Bool} {p0 q0 : Nat} (hi : inT T p0 q0 = true) (p q : Nat) :
    metL n T (fun z => left z && !z.sameKey (kl (p0 : Int) ((q0 : Int) + 1))) p q =
      ((metL n T left p q || (decide (p = p0) && decide (q = q0))) || (instCom T p0 q0 && decide ((p, q) ∈ hungL (rowOf n T p0 q0)))) := by
  have h1 := inT_low hT hR6 hi
  rw [Bool.eq_iff_iff]
  unfold metL
  simp only [Bool.or_eq_true, Bool.and_eq_true, List.any_eq_true, decide_eq_true_eq, Bool.not_eq_true', Bool.and_eq_false_iff, Bool.not_eq_false']
  constructor
  · rintro (⟨h2, h3⟩ | ⟨x, hx, h3, h4⟩)
    · rcases h3 with h3 | h3
      · exact .inl (.inl (.inl ⟨h2, h3⟩))
      · have h5 := inT_low hT hR6 h2
        rw [same_kl (by omega) (by omega)] at h3
        simp only [Bool.and_eq_true, decide_eq_true_eq] at h3
        exact .inl (.inr h3)
    · rcases h3 with h3 | h3
      · exact .inl (.inl (.inr ⟨x, hx, h3, h4⟩))
      · have h5 := inT_low hT hR6 (instCom_inT (mem_insts.1 hx))
        rw [same_kl (by omega) (by omega)] at h3
        simp only [Bool.and_eq_true, decide_eq_true_eq] at h3
        obtain ⟨e1, e2⟩ := h3
        rw [e1, e2] at h4
        have h6 := mem_insts.1 hx
        rw [e1, e2] at h6
        exact .inr ⟨h6, h4⟩
  · rintro ((( ⟨h2, h3⟩ | ⟨x, hx, h3, h4⟩) | ⟨rfl, rfl⟩) | ⟨h2, h3⟩)
    · exact .inl ⟨h2, .inl h3⟩
    · exact .inr ⟨x, hx, .inl h3, h4⟩
    · refine .inl ⟨hi, .inr ?_⟩
      rw [same_kl (by omega) (by omega)]
      simp
    · refine .inr ⟨(p0, q0), mem_insts.2 h2, .inr ?_, h3⟩
      rw [same_kl (by omega) (by omega)]
      simp

/-- .. and the first j of those on which it hangs. -/
def metJ (n : Int) (T : List (List RowD)) (left : Lit → Bool) (p0 q0 : Nat) (L : List (Nat × Nat)) (j : Nat) (p q : Nat) : Bool := (metL n T left p q || (decide (p = p0) && decide (q = q0))) || decide ((p, q) ∈ L.take j)
theorem metJ_zero (n : Int) (T : List (List RowD)) (left : Lit → Bool) (p0 q0 : Nat) (L : List (Nat × Nat)) (p q : Nat) : metJ n T left p0 q0 L 0 p q = (metL n T left p q || (decide (p = p0) && decide (q = q0))) := by simp [metJ]
theorem metJ_succ {n : Int} {T : List (List RowD)} {left : Lit → Bool} {p0 q0 : Nat} {L : List (Nat × Nat)} {j : Nat} (h : j < L.length) (p q : Nat) :
    metJ n T left p0 q0 L (j + 1) p q = (metJ n T left p0 q0 L j p q || (decide (p = L[j].1) && decide (q = L[j].2))) := by
  have e : (p, q) ∈ L.take (j + 1) ↔ (p, q) ∈ L.take j ∨ (p = L[j].1 ∧ q = L[j].2) := by
    rw [List.take_succ_eq_append_getElem h, List.mem_append, List.mem_singleton, Prod.ext_iff]
  unfold metJ
  rw [Bool.or_assoc (metL n T left p q || (decide (p = p0) && decide (q = q0)))]
  congr 1
  rw [Bool.eq_iff_iff]
  simp only [decide_eq_true_eq, Bool.or_eq_true, Bool.and_eq_true]
  exact e
theorem hung_low {n : Int} {T : List (List RowD)} (hg : goodTab n T = true) {p q : Nat} (hi : inT T p q = true) :
    (rowOf n T p q).l.length ≤ 5 ∧ (∀ k, 0 ≤ depI (rowOf n T p q) k ∧ depI (rowOf n T p q) k ≤ 6) ∧ (∀ y ∈ hungL (rowOf n T p q), y.1 < 5 ∧ y.2 < 6) ∧ (hungL (rowOf n T p q)).length ≤ 30 := by
  obtain ⟨hp, hq⟩ := inT_of hi
  have hl : (rowOf n T p q).l.length ≤ 5 := by rw [rowOf_in hp hq]; exact (goodTab_row hg hp hq).2.2
  have hd : ∀ k, 0 ≤ depI (rowOf n T p q) k ∧ depI (rowOf n T p q) k ≤ 6 := fun k => dep_in hg hp q k
  refine ⟨hl, hd, fun y hy => ?_, ?_⟩
  · obtain ⟨h1, h2⟩ := mem_hungL.1 hy
    have h3 := (hd y.1).2
    unfold depM at h2
    omega
  · have h := hungTo_len (r := rowOf n T p q) (fun k => by have := hd k; unfold depM; omega) (rowOf n T p q).l.length
    unfold hungL
    omega

theorem freshIn_form {B : Nat} {w : World} {v : Value} {L : List (Nat × Nat)} (h : FreshIn B w v L) : ∃ ao cap, v = .slice ao L.length cap := by
  rcases h.2 with ⟨rfl, hn⟩ | ⟨g, cap, cur, rfl, _⟩
  · exact ⟨none, 0, by rw [hn]⟩
  · exact ⟨_, _, rfl⟩
theorem freshIn_two {B : Nat} {w : World} {ao : Option Addr} {n cap : Nat} {L : List (Nat × Nat)} (h : FreshIn B w (.slice ao n cap) L) {j : Nat} (hj : j < L.length) :
    ∃ g, ao = some ⟨g, 0, none⟩ ∧ w.cell? ⟨g, j * 2, none⟩ = some (.int .i64 (L[j].1 : Int)) ∧ w.cell? ⟨g, j * 2 + 1, none⟩ = some (.int .i64 ((L[j].2 : Int) + 1)) := by
  rcases id h.2 with ⟨_, hn⟩ | ⟨g, cap', cur, hv, _⟩
  · omega
  · simp only [Value.slice.injEq] at hv
    obtain ⟨rfl, rfl, rfl⟩ := hv
    have hc1 := World.ownsRow.cellAt h (j * 2) (by omega)
    have hc2 := World.ownsRow.cellAt h (j * 2 + 1) (by omega)
    obtain ⟨f1, f2⟩ := flatI_at hj
    exact ⟨g, rfl, hc1.trans f1, hc2.trans f2⟩

set_option maxHeartbeats 4000000 in
set_option maxRecDepth 100000 in
theorem metIn_any (n : Int) (u : Value) (T : List (List RowD)) (w : World) (hu : Rowzz w u T) (hg : goodTab n T = true) :
    Calls Tryz.prog 54 #[.agg #[.int .i64 n, u]] w (NewSet (metB n T) 930 w) := by
  obtain ⟨hT, hR6⟩ := goodTab_both hg
  have hx0 : Ext w ((w.alloc (.cells #[.int .i64 n, u] 67)).alloc (.map #[] 0)) := Ext.alloc (Ext.alloc1 _ _) _
  have hm0 : RowMap ((w.alloc (.cells #[.int .i64 n, u] 67)).alloc (.map #[] 0)) (w.heap.size + 1) 0 (.map []) := by
    have h := World.ownsMap_made (w.alloc (.cells #[.int .i64 n, u] 67)) Tryz.prog 112 asIs
    simpa using h
  have hmm := @run_makeMap Tryz.prog
  obtain ⟨U, hU⟩ := tabAt_of hu
  have HL := Lib.hid (hU.lists n)
  have HU := Lib.hid (hU.ext hx0)
  have HX0 := Lib.hid hx0
  have HM0 := Lib.hid hm0
  have HG := Lib.hid hg
  have H5 := Lib.hid hT
  have H6 := Lib.hid hR6
  obtain ⟨au, cu, rfl, hlu, _, _⟩ := hu
  unfold maxLen at hlu
  clear hx0 hm0 hU hR6 hg
  go_enter Tryz.func54, Tryz.ntmps54
  go_wp2_with fail
  refine (rowsIn_any n _ T U _ HU.out H5.out H6.out).mono ?_
  rintro e w1 ⟨B, D0, rfl, m1, d1, hb1, x1⟩
  have M0 := Lib.hid (RowMap.ext HM0.out x1)
  have hx1 : Ext w w1 := HX0.out.trans x1
  have hB : w.heap.size + 2 ≤ B := by
    have h := hb1
    simp at h
    exact h
  have hlow : w.heap.size + 2 ≤ w1.heap.size := by have h := x1.size; simp at h; exact h
  have M1 := Lib.hid m1
  have D1 := Lib.hid d1
  have X1 := Lib.hid hx1
  clear m1 d1 hx1 x1 hb1 HM0
  go_wp2_with (first | (at_range; refine wpList_range_own _ rfl _ 139 rfl 112 101 instKeyed Tryz.underlying139 asIs B 30 D0 rfl M1.out ?_; intro w2 hrg2 hg2 hs2) | go_in)
  go_frame
  have hsz : Maps.size D0 ≤ 30 := World.ownsMap.size_le M1.out
  have X2 := Lib.hid (X1.out.trans (ext_of_grown hg2))
  have M2 := Lib.hid (RowMap.ext M0.out (ext_of_grown hg2))
  have R2 := Lib.hid hrg2
  obtain ⟨r, hr⟩ : ∃ r, r = w1.heap.size := ⟨_, rfl⟩
  rw [← hr] at R2 ⊢
  have hrb : w.heap.size + 2 ≤ r := by omega
  have HRB := Lib.hid hrb
  have HBB := Lib.hid hB
  have HSZ := Lib.hid hsz
  clear hr hrg2 hg2 hs2 M1 X1 M0 hrb hB hlow hsz
  obtain ⟨b, hb⟩ : ∃ b, b = w.heap.size + 1 := ⟨_, rfl⟩
  rw [← hb] at M2 ⊢
  have hbB : b ≠ B := by have := HBB.out; omega
  have hbr : b ≠ r := by have := HRB.out; omega
  have hwb : w.heap.size ≤ b := by omega
  have HBW := Lib.hid hwb
  clear hb hmm
  go_loopw [4, 5, 7] (fun _ _ _ wr => ∃ (left : Lit → Bool) (cnt N : Nat) (D : DataW Value), Hid (RowRange wr B r 30 D0 left cnt) ∧ Hid (RowMap wr b N D) ∧ Hid (N + 31 * cnt ≤ 930) ∧ Hid (MapOf D (metL n T left) yesV) ∧ Hid (Ext w wr)) (fun _ _ _ wr => wr.rangeLeft B r)
  case atStart => exact ⟨_, _, 0, _, R2, M2, Lib.hid (by have := HSZ.out; omega), Lib.hid ((MapOf.empty yesV).congr (fun p q => metL_start D1.out p q) (fun _ _ h => by cases h)), X2⟩
  case round =>
    clear R2 M2 X2
    obtain ⟨left, cnt, N, D, R, M, HN, HD, X⟩ := hrel
    go_wp2_with (first | (at_next; refine wpList_next_inst _ rfl _ rfl B r 30 D0 left cnt _ _ rfl R.out D1.out ?_ ?_) | go_in)
    · intro hl
      have HD' := Lib.hid (HD.out.congr (S' := metB n T) (f' := yesV) (fun p q => metL_end hl p q) (fun _ _ _ => rfl))
      clear HD R
      go_wp2
      go_ret
      exact ⟨b, N, D, rfl, M.out, by have := HN.out; omega, HD'.out, HBW.out, X.out⟩
    · intro p q w3 cnt3 hS hlk hrg3 hlt hg3 hs3 hen
      have hx3 : Ext w w3 := X.out.turned hg3 (by have := HRB.out; omega)
      obtain ⟨hl5, hd6, hh, hhl⟩ := hung_low HG.out hS
      obtain ⟨ay, cy, hU, _⟩ := HL.out p q hS
      have hint := HL.out p q hS
      obtain ⟨d, hd⟩ : ∃ d, d = rowOf n T p q := ⟨_, rfl⟩
      have hcom : instCom T p q = (d.st == 3) := by rw [hd]; exact instCom_row hS
      unfold rowF rowV at hen ⊢
      rw [← hd] at hen hint hU hl5 hd6 hh hhl ⊢
      rw [hU] at hen hint ⊢
      have hst := fun p' q' => metL_step (n := n) (left := left) H5.out H6.out hS p' q'
      rw [hcom, ← hd] at hst
      have hlow := inT_low H5.out H6.out hS
      have M3 := Lib.hid (World.ownsMap.kept M.out hg3 (by simpa using hbr))
      have HST := Lib.hid hst
      have HLT := Lib.hid hlt
      have HRO := Lib.hid R.out
      have R3 := Lib.hid hrg3
      have X3 := Lib.hid hx3
      have HINT := Lib.hid hint
      have HL5 := Lib.hid hl5
      have HD6 := Lib.hid hd6
      have HH := Lib.hid hh
      have HHL := Lib.hid hhl
      have HNN : Hid (N ≤ 930) := Lib.hid (by have := HN.out; omega)
      clear hrg3 hx3 hg3 hs3 hlk hd hU R X hS hlt hcom hst hint hl5 hd6 hh hhl M
      have hbN : b ≠ w3.heap.size + 1 := by have := (World.ownsMap.lt M3.out); omega
      obtain ⟨w4, hw4⟩ : ∃ w4, w4 = ((w3.alloc (.cells #[.int .i64 p, .int .i64 ((q : Int) + 1)] 112)).alloc (.cells #[.int .i64 d.b, .int .i64 d.v, .int .i64 d.st, .int .i64 d.k, .int .i64 d.i, .int .i64 d.f, .int .i64 d.t, .int .i64 d.a, .int .i64 d.s, .slice ay d.l.length cy] 101)) := ⟨_, rfl⟩
      have x34 : Ext w3 w4 := by rw [hw4]; exact Ext.alloc2 _ _ _
      have k2 : w4.cell? ⟨w3.heap.size + 1, 2, none⟩ = some (.int .i64 d.st) := by rw [hw4]; go_simp
      have k8 : w4.cell? ⟨w3.heap.size + 1, 8, none⟩ = some (.int .i64 d.s) := by rw [hw4]; go_simp
      have k9 : w4.cell? ⟨w3.heap.size + 1, 9, none⟩ = some (.slice ay d.l.length cy) := by rw [hw4]; go_simp
      have M4 := Lib.hid (RowMap.ext M3.out x34)
      have R4 := Lib.hid (RowRange.ext R3.out x34)
      have X4 := Lib.hid (X3.out.trans x34)
      have K2 := Lib.hid k2
      have K8 := Lib.hid k8
      have K9 := Lib.hid k9
      have HBN := Lib.hid hbN
      have HW4 := Lib.hid hw4
      clear x34 k2 k8 k9 M3 R3 X3 hbN hw4
      go_wp2_with (at_mapUpdate; rw [← HW4.out]; refine wpList_mapUpdate_own _ rfl _ _ _ 58 rfl 112 4 instKeyed Tryz.underlying58 asIs b N D rfl M4.out (by have := HNN.out; unfold maxLen; omega) _ _ (kl (p : Int) ((q : Int) + 1)) rfl rfl (keyOf_inst (wf_small (by omega) (by omega)) (wf_small (by omega) (by omega))) (.held (.bool true)) [] rfl ?_)
      intro w5 hown5 hgrow5
      have g2 := World.grownBy.cell hgrow5 K2.out (by simpa using fun e => HBN.out e.symm)
      have g8 := World.grownBy.cell hgrow5 K8.out (by simpa using fun e => HBN.out e.symm)
      have g9 := World.grownBy.cell hgrow5 K9.out (by simpa using fun e => HBN.out e.symm)
      have hx5 : Ext w w5 := X4.out.turned hgrow5 HBW.out
      have M5 := Lib.hid hown5
      have R5 := Lib.hid (World.ranges.kept R4.out hgrow5 (by simpa using fun e => hbB e.symm) (by simpa using fun e => hbr e.symm))
      have D5 := Lib.hid (HD.out.put (p := p) (q := q) (v := .bool true) (by omega) rfl)
      have X5 := Lib.hid hx5
      have s5 : b < w5.heap.size := World.ownsMap.lt hown5
      have S5 := Lib.hid s5
      clear hown5 hgrow5 hx5 K2 K8 K9 M4 R4 X4 HD s5 HW4
      cases hst : (d.st == 3) with
      | false =>
        have h3 : ¬ d.st = 3 := by simpa using hst
        have ns : (d.st != 3) = true := by simp [h3]
        have D6 := Lib.hid (D5.out.congr (S' := metL n T (fun z => left z && !z.sameKey (kl (p : Int) ((q : Int) + 1)))) (f' := yesV) (fun p' q' => by rw [HST.out p' q', hst]; simp) (fun _ _ _ => rfl))
        clear hst h3 D5
        go_wp2
        go_roundw
        case rel => exact ⟨_, cnt3, N + 1, _, R5, M5, Lib.hid (by have := HN.out; have := HLT.out; omega), D6, X5⟩
        case measure => rw [R5.out.left_eq, HRO.out.left_eq]; exact HLT.out
      | true =>
        have h3 : d.st = 3 := by simpa using hst
        have ns : (d.st != 3) = false := by simp [h3]
        have D6 := Lib.hid (D5.out.congr (S' := metJ n T left p q (hungL d) 0) (f' := yesV) (fun p' q' => by rw [metJ_zero]) (fun _ _ _ => rfl))
        have HS3 := Lib.hid hst
        clear hst h3 D5
        go_wp2_with fail
        refine (hungOn_any d d.s _ _ (HINT.out.ext X5.out) HL5.out HD6.out).mono ?_
        rintro e w6 ⟨v6, rfl, f6, x6⟩
        obtain ⟨ao, cap, rfl⟩ := freshIn_form f6
        have M6 := Lib.hid (RowMap.ext M5.out x6)
        have R6 := Lib.hid (RowRange.ext R5.out x6)
        have X6 := Lib.hid (X5.out.trans x6)
        have F6 := Lib.hid f6
        obtain ⟨L, hL⟩ : ∃ L, L = hungL d := ⟨_, rfl⟩
        have HLE := Lib.hid hL
        rw [← hL] at F6 D6 HH HHL ⊢
        have hL30 := HHL.out
        clear M5 R5 X5 f6 x6 g2 g8 g9 hL
        go_wp2
        go_loopw [7, 26] (fun _ i wr => ∃ (j N' : Nat) (D : DataW Value), j ≤ L.length ∧ i = .int .i64 j ∧ Hid (RowRange wr B r 30 D0 (fun z => left z && !z.sameKey (kl (p : Int) ((q : Int) + 1))) cnt3) ∧ Hid (RowMap wr b N' D) ∧ Hid (N' = N + 1 + j) ∧ Hid (MapOf D (metJ n T left p q L j) yesV) ∧ Hid (FreshIn w5.heap.size wr (.slice ao L.length cap) L) ∧ Hid (Ext w wr)) (fun _ i _ => L.length - (intOf i).toNat)
        case atStart => exact ⟨0, N + 1, _, Nat.zero_le _, rfl, R6, M6, Lib.hid rfl, D6, F6, X6⟩
        case round =>
          clear R6 M6 D6 F6 X6
          obtain ⟨j, N', D', hj, rfl, R7, M7, HN7, D7, F7, X7⟩ := hrel
          by_cases hjt : j < L.length
          · obtain ⟨g, rfl, c0, c1⟩ := freshIn_two F7.out hjt
            obtain ⟨y, hy⟩ : ∃ y, y = L[j] := ⟨_, rfl⟩
            rw [← hy] at c0 c1
            have hyl := HH.out y (by rw [hy]; exact List.getElem_mem hjt)
            have hgb : g ≠ b := by
              have h := (World.ownsRow.lt F7.out g rfl).1
              have h2 := S5.out
              omega
            have HGB := Lib.hid hgb
            have HY := Lib.hid hy
            have HJT := Lib.hid hjt
            clear hy hgb
            go_wp2_with (at_mapUpdate; refine wpList_mapUpdate_own _ rfl _ _ _ 58 rfl 112 4 instKeyed Tryz.underlying58 asIs b N' D' rfl (RowMap.ext M7.out (Ext.alloc1 _ _)) (by have := HN7.out; have := HNN.out; unfold maxLen; omega) _ _ (kl (y.1 : Int) ((y.2 : Int) + 1)) rfl rfl (keyOf_inst (wf_small (by omega) (by omega)) (wf_small (by omega) (by omega))) (.held (.bool true)) [] rfl ?_)
            intro w8 hown8 hgrow8
            have M8 := Lib.hid hown8
            have R8 := Lib.hid (World.ranges.kept (RowRange.ext R7.out (Ext.alloc1 _ _)) hgrow8 (by simpa using fun e => hbB e.symm) (by simpa using fun e => hbr e.symm))
            have D8 := Lib.hid ((D7.out.put (p := y.1) (q := y.2) (v := .bool true) (by omega) rfl).congr (S' := metJ n T left p q L (j + 1)) (f' := yesV) (fun p' q' => by rw [metJ_succ HJT.out, ← HY.out]) (fun _ _ _ => rfl))
            have F8 := Lib.hid (World.ownsRow.kept (F7.out.ext (Ext.alloc1 _ _)) hgrow8 (.inr (by simpa [Value.ownBlock] using HGB.out)))
            have X8 : Hid (Ext w w8) := Lib.hid ((X7.out.trans (Ext.alloc1 _ _)).turned hgrow8 HBW.out)
            clear hown8 hgrow8 M7 R7 D7 F7 X7 c0 c1
            go_wp2
            go_roundw
            case rel => exact ⟨j + 1, N' + 1, _, by have := HJT.out; omega, by go_num, R8, M8, Lib.hid (by have := HN7.out; omega), D8, F8, X8⟩
            case measure => simp [intOf]; have := HJT.out; omega
          · obtain rfl : j = L.length := by omega
            have D8 := Lib.hid (D7.out.congr (S' := metL n T (fun z => left z && !z.sameKey (kl (p : Int) ((q : Int) + 1)))) (f' := yesV) (fun p' q' => by rw [HST.out p' q', HS3.out]; unfold metJ; rw [List.take_length, HLE.out]; simp) (fun _ _ _ => rfl))
            clear D7 F7
            go_wp2
            go_roundw
            case rel => exact ⟨_, cnt3, N', D', R7, M7, Lib.hid (by have := HN7.out; have := HN.out; have := HLT.out; omega), D8, X7⟩
            case measure => rw [R7.out.left_eq, HRO.out.left_eq]; exact HLT.out
end Go.Proofs.YtbffkidkfannhaaGreat

namespace Go.Proofs.YtbffkidkfannhaaGreat
open Go.RowKit
set_option linter.unusedVariables false

def okAt (n : Int) (T : List (List RowD)) (rep no : Int) : Bool := goodTab n T && instB n rep no
/-- What RowAt tells. -/
def rowAtR (n : Int) (T : List (List RowD)) (rep no : Int) : RowD := if okAt n T rep no then rowOf n T rep.toNat (no - 1).toNat else zeroR
theorem rowAtR_no {n : Int} {T : List (List RowD)} {rep no : Int} (h : okAt n T rep no = false) : rowAtR n T rep no = zeroR := by unfold rowAtR; rw [h]; rfl
theorem rowAtR_yes {n : Int} {T : List (List RowD)} {p q : Nat} (h : okAt n T (p : Int) ((q : Int) + 1) = true) : rowAtR n T (p : Int) ((q : Int) + 1) = rowOf n T p q := by
  unfold rowAtR; rw [h]

  simp
theorem okAt_of {n : Int} {T : List (List RowD)} {rep no : Int} (h : okAt n T rep no = true) : goodTab n T = true ∧ instB n rep no = true := by
  unfold okAt at h; simpa using h
theorem rowOf_len {n : Int} {T : List (List RowD)} {p q : Nat} (h : goodTab n T = true) (hp : p < T.length) : (rowOf n T p q).l.length ≤ 5 := by
  by_cases hq : q < T[p].length
  · rw [rowOf_in hp hq]; exact (goodTab_row h hp hq).2.2
  · rw [rowOf_out hp (by omega)]; exact noneL_len n
theorem rowAtR_len (n : Int) (T : List (List RowD)) (rep no : Int) : (rowAtR n T rep no).l.length ≤ 5 := by
  cases h : okAt n T rep no with
  | false => rw [rowAtR_no h]; simp [zeroR]
  | true =>
    obtain ⟨h1, h2⟩ := okAt_of h
    obtain ⟨p, q, rfl, rfl, hp, _⟩ := inst_nat h1 h2
    rw [rowAtR_yes h]
    exact rowOf_len h1 hp

end Go.Proofs.YtbffkidkfannhaaGreat

namespace Go.Proofs.YtbffkidkfannhaaGreat
open Go.RowKit
set_option linter.unusedVariables false

theorem make_m (m : Nat) (h : m = 3 ∨ m = 5) (W : World) : (Instr.makeSlice 27 (.int .i64 (m : Int)) (.int .i64 (m : Int))).run Tryz.prog W = .ok (.slice (some ⟨W.heap.size, 0, none⟩) m m) (W.alloc (.cells (Array.replicate m (Value.int .i64 0)) 3)) := by
  rcases h with rfl | rfl
  · exact make_3 W
  · exact make_5 W

theorem splice_all (m : Nat) (l : List Int) (h : l.length = m) : splice (List.replicate m (Value.int .i64 0)) 0 (l.map (Value.int .i64)) = l.map (Value.int .i64) := by
  subst h
  simp [splice]

set_option maxRecDepth 100000 in
set_option maxHeartbeats 2000000 in
theorem copyRow_nat (m : Nat) (hm : m = 3 ∨ m = 5) (r : RowD) (u : Value) (w : World) (hv : Ints w u r.l) (hl : r.l.length = m) :
    Calls Tryz.prog 110 #[.int .i64 m, .agg #[.int .i64 r.b, .int .i64 r.v, .int .i64 r.st, .int .i64 r.k, .int .i64 r.i, .int .i64 r.f, .int .i64 r.t, .int .i64 r.a, .int .i64 r.s, u]] w (NewRow r w) := by
  obtain ⟨au, cu, rfl, hlu, hcap, hcu⟩ := hv
  obtain ⟨wc, hwc⟩ : ∃ wc, wc = (((w.alloc (.cells #[.int .i64 r.b, .int .i64 r.v, .int .i64 r.st, .int .i64 r.k, .int .i64 r.i, .int .i64 r.f, .int .i64 r.t, .int .i64 r.a, .int .i64 r.s, .slice au r.l.length cu] 101)).alloc (.cells #[.int .i64 0, .int .i64 0, .int .i64 0, .int .i64 0, .int .i64 0, .int .i64 0, .int .i64 0, .int .i64 0, .int .i64 0, .slice none 0 0] 101)).alloc (.cells (Array.replicate m (Value.int .i64 0)) 3)) := ⟨_, rfl⟩
  have ho := box_res_row w r (.slice au r.l.length cu) 101
  have xb : Ext w wc := by rw [hwc]; exact Ext.alloc3 _ _ _ _
  have hmk := make_m m hm
  have HWC := Lib.hid hwc
  have HO := Lib.hid ho
  have HCU := Lib.hid hcu
  have HL := Lib.hid hl
  have hsz : ((w.alloc (.cells #[.int .i64 r.b, .int .i64 r.v, .int .i64 r.st, .int .i64 r.k, .int .i64 r.i, .int .i64 r.f, .int .i64 r.t, .int .i64 r.a, .int .i64 r.s, .slice au r.l.length cu] 101)).alloc (.cells #[.int .i64 0, .int .i64 0, .int .i64 0, .int .i64 0, .int .i64 0, .int .i64 0, .int .i64 0, .int .i64 0, .int .i64 0, .slice none 0 0] 101)).heap.size = w.heap.size + 2 := by simp
  have HZ := Lib.hid hsz
  have hlen0 : (r.l.length : Int) ≤ 5 := by omega
  have hcap1 : r.l.length ≤ cu := hcap.1
  clear hwc ho hcu hl hlu hcap hsz
  go_enter Tryz.func110, Tryz.ntmps110
  go_wp2_with (with_reducible refine wpList_copy_splice rfl _ _ 27 27 rfl 3 Tryz.underlying27 rfl _ _ m m r.l.length cu rfl rfl (w.heap.size + 2) 0 (List.replicate m (Value.int .i64 0)) 3 ?c1 (r.l.map (Value.int .i64)) ?c2 ?c3 ?c4 ?c5 (w.heap.size + 2) wc ?c6 (Nat.le_refl _) ?_)
  case c1 =>
    have h := heap_alloc_new ((w.alloc (.cells #[.int .i64 r.b, .int .i64 r.v, .int .i64 r.st, .int .i64 r.k, .int .i64 r.i, .int .i64 r.f, .int .i64 r.t, .int .i64 r.a, .int .i64 r.s, .slice au r.l.length cu] 101)).alloc (.cells #[.int .i64 0, .int .i64 0, .int .i64 0, .int .i64 0, .int .i64 0, .int .i64 0, .int .i64 0, .int .i64 0, .int .i64 0, .slice none 0 0] 101)) (.cells (Array.replicate m (Value.int .i64 0)) 3)
    rw [HZ.out] at h
    rw [h]
    simp
  case c2 =>
    rw [List.length_map, HL.out]
    exact (Nat.min_self m).symm
  case c3 =>
    intro hp
    have hp' : 0 < r.l.length := by simpa using hp
    obtain ⟨b, off, rfl, hc⟩ := HCU.out hp'
    refine ⟨_, rfl, fun j z hj => ?_⟩
    have hj5 : j < r.l.length := (List.getElem?_eq_some_iff.1 hj).1
    have hx := xb.cell (hc j hj5)
    rw [HWC.out] at hx
    rw [show (⟨b, off, none⟩ : Addr).add j = ⟨b, off + j, none⟩ by simp [Addr.add], hx, hj]
    rfl
  case c4 =>
    rw [List.length_map, List.length_replicate, HL.out]; omega
  case c5 =>
    intro z hz
    obtain ⟨q, _, rfl⟩ := List.mem_map.1 hz
    rfl
  case c6 => rw [HWC.out]; exact Below.refl _ _
  intro w' HG hb
  have hg := HG.out
  rw [splice_all m r.l HL.out] at hg
  have hso : w.heap.size + 2 ≤ wc.heap.size := by rw [HWC.out]; simp
  have x2 : Ext w w' := Below.trans xb (Below.mono hb (by omega))
  have hfr : Fresh (w.heap.size + 2) w' (.slice (some ⟨w.heap.size + 2, 0, none⟩) m m) r.l := by
    refine ⟨by simp, .inr ⟨w.heap.size + 2, m, (r.l.map (Value.int .i64)).toArray, by rw [HL.out], Nat.le_refl _, hg, by rw [HL.out]; exact Nat.le_refl _, by unfold maxLen; omega, by simp [HL.out], by simp [← List.map_take]⟩⟩
  have hlow : ∀ b o, b < w.heap.size + 2 → w'.cell? ⟨b, o, none⟩ = wc.cell? ⟨b, o, none⟩ := fun b o hbo => hb.cell (p := ⟨b, o, none⟩) hbo
  have hfro : ∀ b o, b < w.heap.size + 2 → w'.frozen? ⟨b, o, none⟩ = wc.frozen? ⟨b, o, none⟩ := fun b o hbo => hb.frozen (p := ⟨b, o, none⟩) hbo
  have xo : Ext ((w.alloc (.cells #[.int .i64 r.b, .int .i64 r.v, .int .i64 r.st, .int .i64 r.k, .int .i64 r.i, .int .i64 r.f, .int .i64 r.t, .int .i64 r.a, .int .i64 r.s, .slice au r.l.length cu] 101)).alloc (.cells #[.int .i64 0, .int .i64 0, .int .i64 0, .int .i64 0, .int .i64 0, .int .i64 0, .int .i64 0, .int .i64 0, .int .i64 0, .slice none 0 0] 101)) wc := by rw [HWC.out]; exact Ext.alloc1 ((w.alloc (.cells #[.int .i64 r.b, .int .i64 r.v, .int .i64 r.st, .int .i64 r.k, .int .i64 r.i, .int .i64 r.f, .int .i64 r.t, .int .i64 r.a, .int .i64 r.s, .slice au r.l.length cu] 101)).alloc (.cells #[.int .i64 0, .int .i64 0, .int .i64 0, .int .i64 0, .int .i64 0, .int .i64 0, .int .i64 0, .int .i64 0, .int .i64 0, .slice none 0 0] 101)) (.cells (Array.replicate m (Value.int .i64 0)) 3)
  obtain ⟨p0, p1, p2, p3, p4, p5, p6, p7, p8, p9⟩ := HO.out.1.1.ext xo
  obtain ⟨y0, y1, y2, y3, y4, y5, y6, y7, y8, y9⟩ := HO.out.1.2.ext (by rw [HZ.out]; omega) xo
  obtain ⟨o0, o1, o2, o3, o4, o5, o6, o7, o8, o9⟩ := HO.out.2.1.ext xo
  obtain ⟨z0, z1, z2, z3, z4, z5, z6, z7, z8, z9⟩ := HO.out.2.2.ext (by rw [HZ.out]; omega) xo
  have l0 : w.heap.size < w.heap.size + 2 := by omega
  have l1 : w.heap.size + 1 < w.heap.size + 2 := by omega
  rw [← hlow _ _ l0] at p0 p1 p2 p3 p4 p5 p6 p7 p8 p9
  rw [← hfro _ _ l0] at y0 y1 y2 y3 y4 y5 y6 y7 y8 y9
  rw [← hlow _ _ l1] at o0 o1 o2 o3 o4 o5 o6 o7 o8 o9
  rw [← hfro _ _ l1] at z0 z1 z2 z3 z4 z5 z6 z7 z8 z9
  have F := Lib.hid hfr
  clear hlow hfro hg HG hb l0 l1 hfr xo hso hmk hlen0 hcap1
  go_wp2
  refine bodyPost_ret (v := .agg #[.int .i64 r.b, .int .i64 r.v, .int .i64 r.st, .int .i64 r.k, .int .i64 r.i, .int .i64 r.f, .int .i64 r.t, .int .i64 r.a, .int .i64 r.s, .slice (some ⟨w.heap.size + 2, 0, none⟩) m m]) (by simp [results, Tryz.results110, go_sem, o0, o1, o2, o3, o4, o5, o6, o7, o8, o9]) rfl ⟨_, rfl, ?_, ?_⟩
  · exact (((((((((((F.out.set _ _ _ (by omega)).set _ _ _ (by omega)).set _ _ _ (by omega)).set _ _ _ (by omega)).set _ _ _ (by omega)).set _ _ _ (by omega)).set _ _ _ (by omega)).set _ _ _ (by omega)).set _ _ _ (by omega)).set _ _ _ (by omega)).set _ _ _ (by omega)).more (by omega)
  · exact (((((((((((x2.setc (by dsimp only; omega)).setc (by dsimp only; omega)).setc (by dsimp only; omega)).setc (by dsimp only; omega)).setc (by dsimp only; omega)).setc (by dsimp only; omega)).setc (by dsimp only; omega)).setc (by dsimp only; omega)).setc (by dsimp only; omega)).setc (by dsimp only; omega)).setc (by dsimp only; omega))

theorem copyRow_any (n : Int) (r : RowD) (u : Value) (w : World) (hn : isGrp n = true) (hv : Ints w u r.l) (hl : (r.l.length : Int) = n) :
    Calls Tryz.prog 110 #[.int .i64 n, .agg #[.int .i64 r.b, .int .i64 r.v, .int .i64 r.st, .int .i64 r.k, .int .i64 r.i, .int .i64 r.f, .int .i64 r.t, .int .i64 r.a, .int .i64 r.s, u]] w (NewRow r w) := by
  obtain ⟨m, rfl, hm⟩ := nat_of_grp hn
  exact copyRow_nat m hm r u w hv (by omega)

theorem res_row (w : World) (T : TypeId) : RowAt (w.alloc (.cells #[.int .i64 0, .int .i64 0, .int .i64 0, .int .i64 0, .int .i64 0, .int .i64 0, .int .i64 0, .int .i64 0, .int .i64 0, .slice none 0 0] T)) w.heap.size ⟨0, 0, 0, 0, 0, 0, 0, 0, 0, []⟩ (.slice none 0 0) ∧
    FreeAt (w.alloc (.cells #[.int .i64 0, .int .i64 0, .int .i64 0, .int .i64 0, .int .i64 0, .int .i64 0, .int .i64 0, .int .i64 0, .int .i64 0, .slice none 0 0] T)) w.heap.size := by
  refine ⟨⟨?_, ?_, ?_, ?_, ?_, ?_, ?_, ?_, ?_, ?_⟩, ⟨?_, ?_, ?_, ?_, ?_, ?_, ?_, ?_, ?_, ?_⟩⟩ <;> go_simp

set_option maxRecDepth 100000 in
set_option maxHeartbeats 2000000 in
theorem emptyRow_any (n : Int) (w : World) (hn : isGrp n = true) :
    Calls Tryz.prog 111 #[.int .i64 n] w (NewRow (emptyR n) w) := by
  obtain ⟨L, hL⟩ : ∃ L, L = noneL n := ⟨_, rfl⟩
  have hc := fun W => joinNone_any n W hn
  have hLE : emptyR n = ⟨0, 0, 0, 0, 0, 0, 0, 0, 0, L⟩ := by rw [hL]; rfl
  rw [← hL] at hc
  rw [hLE]
  have HC := Lib.hid hc
  have HO := Lib.hid (res_row w 101)
  clear hL hc hLE hn
  go_enter Tryz.func111, Tryz.ntmps111
  go_wp2_with fail
  refine (HC.out _).mono ?_
  rintro e w1 ⟨v, rfl, f1, x1⟩
  have hx := (Ext.alloc1 w _).trans x1
  obtain ⟨o0, o1, o2, o3, o4, o5, o6, o7, o8, o9⟩ := HO.out.1.ext x1
  obtain ⟨z0, z1, z2, z3, z4, z5, z6, z7, z8, z9⟩ := HO.out.2.ext (by simp) x1
  obtain ⟨ay, cy, rfl⟩ := f1.form
  rw [World.size_alloc] at f1
  have F := Lib.hid f1
  clear f1 x1
  go_wp2
  refine bodyPost_ret (v := .agg #[.int .i64 0, .int .i64 0, .int .i64 0, .int .i64 0, .int .i64 0, .int .i64 0, .int .i64 0, .int .i64 0, .int .i64 0, .slice ay L.length cy]) (by simp [results, Tryz.results111, go_sem, o0, o1, o2, o3, o4, o5, o6, o7, o8, o9]) rfl ⟨_, rfl, ?_, ?_⟩
  · exact ((((((((((F.out.set _ _ _ (by omega)).set _ _ _ (by omega)).set _ _ _ (by omega)).set _ _ _ (by omega)).set _ _ _ (by omega)).set _ _ _ (by omega)).set _ _ _ (by omega)).set _ _ _ (by omega)).set _ _ _ (by omega)).set _ _ _ (by omega)).more (by omega)
  · exact ((((((((((hx.setc (Nat.le_refl _)).setc (Nat.le_refl _)).setc (Nat.le_refl _)).setc (Nat.le_refl _)).setc (Nat.le_refl _)).setc (Nat.le_refl _)).setc (Nat.le_refl _)).setc (Nat.le_refl _)).setc (Nat.le_refl _)).setc (Nat.le_refl _))

end Go.Proofs.YtbffkidkfannhaaGreat

namespace Go.Proofs.YtbffkidkfannhaaGreat
open Go.RowKit
set_option linter.unusedVariables false

set_option maxHeartbeats 4000000 in
set_option maxRecDepth 100000 in
theorem implRowOf_any (n : Int) (u : Value) (T : List (List RowD)) (p q : Nat) (w : World) (hu : Rowzz w u T) (h1 : goodTab n T = true) (hp : p < T.length) (hq : q ≤ 5) :
    Calls Tryz.prog 85 #[.agg #[.int .i64 n, u], .int .i64 p, .int .i64 ((q : Int) + 1)] w (NewRow (rowOf n T p q) w) := by
  obtain ⟨wb, hwb⟩ : ∃ wb, wb = (w.alloc (.cells #[.int .i64 n, u] 67)).alloc (.cells #[.int .i64 0, .int .i64 0, .int .i64 0, .int .i64 0, .int .i64 0, .int .i64 0, .int .i64 0, .int .i64 0, .int .i64 0, .slice none 0 0] 101) := ⟨_, rfl⟩
  have ho := tab_res w n u 67 101
  rw [← hwb] at ho
  have xb : Ext w wb := by rw [hwb]; exact ((Ext.refl w).alloc _).alloc _
  have sb : w.heap.size + 2 ≤ wb.heap.size := by rw [hwb]; simp
  have HWB := Lib.hid hwb
  have HO := Lib.hid ho
  have SB := Lib.hid sb
  have HU := Lib.hid (hu.ext xb)
  obtain ⟨t0, t1⟩ := ho.1
  have HT := Lib.hid (And.intro t0 t1)
  clear ho sb hu
  have hgrp := (goodTab_of h1).1
  have HGRP := Lib.hid hgrp
  have hu0 := HU.out
  obtain ⟨au, cu, rfl, hlu, _, hcu⟩ := hu0
  rw [hwb] at t0 t1
  clear hwb
  unfold maxLen at hlu
  obtain ⟨bu, ou, rfl, du⟩ := hcu (by omega)
  obtain ⟨x, hx1, ix⟩ := du p hp
  obtain ⟨R, hR⟩ : ∃ R, R = T[p] := ⟨_, rfl⟩
  rw [← hR] at ix
  have IX := Lib.hid ix
  obtain ⟨ax, cx, rfl, hlx, _, hcx⟩ := ix
  unfold maxLen at hlx
  have hq0 : (q : Int) ≤ 5 := by omega
  by_cases hqt : q < R.length
  · have hqt' : q < T[p].length := by rw [← hR]; exact hqt
    have hrow := goodTab_row h1 hp hqt'
    have e : rowOf n T p q = R[q] := by rw [rowOf_in hp hqt']; simp only [hR]
    rw [e]
    obtain ⟨d, hd⟩ : ∃ d, d = R[q] := ⟨_, rfl⟩
    obtain ⟨bx, ox, rfl, dx⟩ := hcx (by omega)
    obtain ⟨y, hy1, iy⟩ := dx q hqt
    rw [← hd] at hy1 iy ⊢
    have hdl : (d.l.length : Int) = n := by
      have : d = T[p][q] := by rw [hd]; simp only [hR]
      rw [this]; exact hrow.2.1
    have HDL := Lib.hid hdl
    have IY := Lib.hid iy
    have HY := Lib.hid hy1
    have HX := Lib.hid hx1
    have gx := hx1
    rw [HWB.out] at gx
    have hq1 : (q : Int) + 1 ≤ R.length := by omega
    clear hcu du hx1 hR hcx dx iy hd hrow hqt' e hgrp h1 hdl hy1
    go_enter Tryz.func85, Tryz.ntmps85

    have X0 := Lib.hid xb
    have X1 := Lib.hid (Ext.refl wb)
    have hw : IntKind.i64.wrap ((q : Int) + 1 - 1) = (q : Int) := by rw [show (q : Int) + 1 - 1 = q by omega]; exact IntWalk.i64_in _ (by omega)
    have hw2 : IntKind.i64.wrap (q : Int) = (q : Int) := IntWalk.i64_in _ (by omega)
    have hw0 : (0 : Int) ≤ (q : Int) := by omega
    have hw1 : (q : Int) < (R.length : Int) := by omega
    clear xb
    go_wp2_with fail
    rw [← HWB.out]
    obtain ⟨t0, t1⟩ := HT.out
    obtain ⟨g0, g1, g2, g3, g4, g5, g6, g7, g8, g9⟩ := HY.out
    obtain ⟨o0, o1, o2, o3, o4, o5, o6, o7, o8, o9⟩ := HO.out.2.1
    obtain ⟨z0, z1, z2, z3, z4, z5, z6, z7, z8, z9⟩ := HO.out.2.2
    go_region_with (go_at_call 110; refine (copyRow_any n d y _ HGRP.out ((IY.out.ext X1.out).ext (by repeat (first | exact Ext.refl _ | apply Ext.drew | apply Ext.alloc))) HDL.out).mono ?_; rintro e W ⟨v, rfl, f9, x9⟩; obtain ⟨ay, cy, rfl⟩ := f9.form; have x91 := X1.out.trans (Ext.trans (Ext.drew (Ext.refl _)) x9); obtain ⟨o0, o1, o2, o3, o4, o5, o6, o7, o8, o9⟩ := HO.out.2.1.ext x91; obtain ⟨z0, z1, z2, z3, z4, z5, z6, z7, z8, z9⟩ := HO.out.2.2.ext (by have := SB.out; omega) x91)
    all_goals
      have hsz9 := X1.out.size
      have F := Lib.hid (f9.more (B' := wb.heap.size) hsz9)
      have hx := X0.out.trans (Ext.trans (Ext.drew (Ext.refl _)) x9)
      clear f9 x9 x91 t0 t1 g0 g1 g2 g3 g4 g5 g6 g7 g8 g9 hw hw2 hsz9
      go_wp2
      refine bodyPost_ret (v := .agg #[.int .i64 d.b, .int .i64 d.v, .int .i64 d.st, .int .i64 d.k, .int .i64 d.i, .int .i64 d.f, .int .i64 d.t, .int .i64 d.a, .int .i64 d.s, .slice ay d.l.length cy]) (by simp [results, Tryz.results85, go_sem, o0, o1, o2, o3, o4, o5, o6, o7, o8, o9]) rfl ⟨_, rfl, ?_, ?_⟩
      · exact ((((((((((F.out.set _ _ _ (by have := SB.out; omega)).set _ _ _ (by have := SB.out; omega)).set _ _ _ (by have := SB.out; omega)).set _ _ _ (by have := SB.out; omega)).set _ _ _ (by have := SB.out; omega)).set _ _ _ (by have := SB.out; omega)).set _ _ _ (by have := SB.out; omega)).set _ _ _ (by have := SB.out; omega)).set _ _ _ (by have := SB.out; omega)).set _ _ _ (by have := SB.out; omega)).more (by have := SB.out; omega)
      · exact ((((((((((hx.setc (by dsimp only; omega)).setc (by dsimp only; omega)).setc (by dsimp only; omega)).setc (by dsimp only; omega)).setc (by dsimp only; omega)).setc (by dsimp only; omega)).setc (by dsimp only; omega)).setc (by dsimp only; omega)).setc (by dsimp only; omega)).setc (by dsimp only; omega))
  · have e : rowOf n T p q = emptyR n := rowOf_out hp (by rw [← hR]; omega)
    rw [e]
    obtain ⟨L, hL⟩ : ∃ L, L = noneL n := ⟨_, rfl⟩
    have hLE : emptyR n = ⟨0, 0, 0, 0, 0, 0, 0, 0, 0, L⟩ := by rw [hL]; rfl
    have hc := fun W => emptyRow_any n W hgrp
    rw [hLE] at hc ⊢
    have HC := Lib.hid hc
    have HX := Lib.hid hx1
    have gx := hx1
    rw [HWB.out] at gx
    have hq1 : (R.length : Int) < (q : Int) + 1 := by omega
    clear hcu du hx1 hR hcx e hgrp h1 hL hLE hc hqt
    go_enter Tryz.func85, Tryz.ntmps85

    have X1 := Lib.hid (Ext.refl wb)
    have X0 := Lib.hid xb
    clear xb
    go_wp2_with fail
    rw [← HWB.out]
    refine (HC.out _).mono ?_
    rintro e w2 ⟨v, rfl, f2, x2⟩
    have x12 := X1.out.trans x2
    have hx := X0.out.trans x2
    obtain ⟨o0, o1, o2, o3, o4, o5, o6, o7, o8, o9⟩ := HO.out.2.1.ext x12
    obtain ⟨z0, z1, z2, z3, z4, z5, z6, z7, z8, z9⟩ := HO.out.2.2.ext (by have := SB.out; omega) x12
    obtain ⟨ay, cy, rfl⟩ := f2.form
    have F := Lib.hid (f2.more (B' := wb.heap.size) X1.out.size)
    clear f2 x2 x12 t0 t1 gx
    go_wp2
    refine bodyPost_ret (v := .agg #[.int .i64 0, .int .i64 0, .int .i64 0, .int .i64 0, .int .i64 0, .int .i64 0, .int .i64 0, .int .i64 0, .int .i64 0, .slice ay L.length cy]) (by simp [results, Tryz.results85, go_sem, o0, o1, o2, o3, o4, o5, o6, o7, o8, o9]) rfl ⟨_, rfl, ?_, ?_⟩
    · exact ((((((((((F.out.set _ _ _ (by have := SB.out; omega)).set _ _ _ (by have := SB.out; omega)).set _ _ _ (by have := SB.out; omega)).set _ _ _ (by have := SB.out; omega)).set _ _ _ (by have := SB.out; omega)).set _ _ _ (by have := SB.out; omega)).set _ _ _ (by have := SB.out; omega)).set _ _ _ (by have := SB.out; omega)).set _ _ _ (by have := SB.out; omega)).set _ _ _ (by have := SB.out; omega)).more (by have := SB.out; omega)
    · exact ((((((((((hx.setc (by dsimp only; omega)).setc (by dsimp only; omega)).setc (by dsimp only; omega)).setc (by dsimp only; omega)).setc (by dsimp only; omega)).setc (by dsimp only; omega)).setc (by dsimp only; omega)).setc (by dsimp only; omega)).setc (by dsimp only; omega)).setc (by dsimp only; omega))

end Go.Proofs.YtbffkidkfannhaaGreat
