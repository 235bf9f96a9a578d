/- Texts of this proof, part k: words, plain facts, contracts. -/
import Derived.Test.YtjkmhphnefpdoaaMGoodReplicac
import Derived.Test.YtjkmhphnefpdoaaMGoodReplicaj
import Derived.Deep.RegionHeld3
import Derived.Sort.Grow
import Derived.Test.YtjkmhphnefpdoaaMGoodReplicaa
import Derived.Test.YtjkmhphnefpdoaaMGoodReplicai
import Derived.Test.YtjkmhphnefpdoaaMGoodReplicag

namespace Go.Proofs.Ytjkmhphnefpdoaa
open Go.RowKit
set_option linter.unusedVariables false

def cmpI (a b : Int) : Int := if a < b then -1 else if b < a then 1 else 0
def cmpL : List Int → List Int → Int
  | [], [] => 0
  | [], _ :: _ => -1
  | _ :: _, [] => 1
  | a :: s, b :: t => if cmpI a b = 0 then cmpL s t else cmpI a b

/-- A number comes back, and the world is as it was. -/
def IntSame (n : Int) (w : World) (e : Ending) (w' : World) : Prop := e = .returned (.int .i64 n) ∧ w' = w

set_option maxHeartbeats 1000000 in
theorem compareInt_any (a b : Int) (w : World) : Calls Try.prog 87 #[.int .i64 a, .int .i64 b] w (IntSame (cmpI a b) w) := by
  have hnan : ∀ (n : Int) (W : World), Calls Try.prog 117 #[.int .i64 n] W (fun e W' => e = .returned (.bool false) ∧ W' = W) := fun n W => by
    go_enter Try.func117, Try.ntmps117
    go_wp2
    go_ret
    exact ⟨rfl, rfl⟩
  go_enter Try.func87, Try.ntmps87
  by_cases h1 : a < b
  · have e : cmpI a b = -1 := by unfold cmpI; rw [if_pos h1]
    rw [e]
    clear e
    go_wp2_with fail
    refine (hnan a _).mono ?_
    rintro e w1 ⟨rfl, rfl⟩
    go_wp2_with fail
    refine (hnan b _).mono ?_
    rintro e w1 ⟨rfl, rfl⟩
    go_wp2
    go_ret
    exact ⟨rfl, rfl⟩
  · by_cases h2 : b < a
    · have e : cmpI a b = 1 := by unfold cmpI; rw [if_neg h1, if_pos h2]
      rw [e]
      clear e
      go_wp2_with fail
      refine (hnan a _).mono ?_
      rintro e w1 ⟨rfl, rfl⟩
      go_wp2_with fail
      refine (hnan b _).mono ?_
      rintro e w1 ⟨rfl, rfl⟩
      go_wp2
      go_ret
      exact ⟨rfl, rfl⟩
    · have e : cmpI a b = 0 := by unfold cmpI; rw [if_neg h1, if_neg h2]
      rw [e]
      clear e
      go_wp2_with fail
      refine (hnan a _).mono ?_
      rintro e w1 ⟨rfl, rfl⟩
      go_wp2_with fail
      refine (hnan b _).mono ?_
      rintro e w1 ⟨rfl, rfl⟩
      go_wp2
      go_ret
      exact ⟨rfl, rfl⟩

theorem cmpL_step : ∀ (l r : List Int) (k : Nat) (hk : k < l.length) (hr : k < r.length) (h : cmpL l r = cmpL (l.drop k) (r.drop k)), (cmpI l[k] r[k] = 0 → cmpL l r = cmpL (l.drop (k + 1)) (r.drop (k + 1))) ∧ (cmpI l[k] r[k] ≠ 0 → cmpL l r = cmpI l[k] r[k]) := by
  intro l r k hk hr h
  rw [List.drop_eq_getElem_cons hk, List.drop_eq_getElem_cons hr] at h
  have e4 : cmpL (l[k] :: l.drop (k + 1)) (r[k] :: r.drop (k + 1)) = if cmpI l[k] r[k] = 0 then cmpL (l.drop (k + 1)) (r.drop (k + 1)) else cmpI l[k] r[k] := by simp only [cmpL]
  rw [e4] at h
  constructor
  · intro e; rw [h, if_pos e]
  · intro e; rw [h, if_neg e]

end Go.Proofs.Ytjkmhphnefpdoaa

namespace Go.Proofs.Ytjkmhphnefpdoaa
open Go.RowKit Go.Sort
set_option linter.unusedVariables false

/-- w' is w after some draws, with new blocks. -/
def Grows (w w' : World) : Prop := ∃ (q : Nat) (os : Array Obj), w' = grow (w.drewN q) os
theorem Grows.refl (w : World) : Grows w w := ⟨0, #[], by rw [grow_empty]; rfl⟩
theorem Grows.drew {w w' : World} (h : Grows w w') : Grows w w'.drew := by
  obtain ⟨q, os, rfl⟩ := h
  exact ⟨q + 1, os, rfl⟩
theorem Grows.alloc {w w' : World} (h : Grows w w') (o : Obj) : Grows w (w'.alloc o) := by
  obtain ⟨q, os, rfl⟩ := h
  refine ⟨q, os.push o, ?_⟩
  simp [grow, World.alloc, World.drewN]
theorem Grows.trans {a b c : World} (h : Grows a b) (k : Grows b c) : Grows a c := by
  obtain ⟨q, os, rfl⟩ := h
  obtain ⟨q', os', rfl⟩ := k
  exact ⟨q + q', os ++ os', by simp [grow, World.drewN, Nat.add_assoc]⟩
theorem Grows.ext {w w' : World} (h : Grows w w') : Ext w w' := by
  obtain ⟨q, os, rfl⟩ := h
  refine ext_of_grown ⟨rfl, rfl, rfl, by simp [grow, World.drewN], fun k hk _ => ?_⟩
  exact heap_grow_old (w.drewN q) os hk

def cmpP (x y : Nat × Nat) : Int := if cmpI (x.1 : Int) (y.1 : Int) = 0 then cmpI ((x.2 : Int) + 1) ((y.2 : Int) + 1) else cmpI (x.1 : Int) (y.1 : Int)

/-- The first that is not nought. -/
def orL : List Int → Int
  | [] => 0
  | x :: t => if x = 0 then orL t else x
theorem orL_drop {l : List Int} {k : Nat} (h : k < l.length) : orL (l.drop k) = if l[k]?.getD 0 = 0 then orL (l.drop (k + 1)) else l[k]?.getD 0 := by
  rw [List.drop_eq_getElem_cons h, List.getElem?_eq_getElem h, Option.getD_some]
  rfl
set_option maxHeartbeats 1000000 in
theorem orInt_any (l : List Int) (v : Value) (w : World) (hv : Ints w v l) :
    Calls Try.prog 86 #[v] w (IntSame (orL l) w) := by
  obtain ⟨av, cv, rfl, hlv, _, hcv⟩ := hv
  unfold maxLen at hlv
  go_enter Try.func86, Try.ntmps86
  go_wp2
  go_loopw [8] (fun i wr => ∃ k : Nat, k ≤ l.length ∧ i = .int .i64 k ∧ Hid (orL l = orL (l.drop k)) ∧ wr = w) (fun i _ => l.length - (intOf i).toNat)
  case atStart => exact ⟨0, Nat.zero_le _, rfl, Lib.hid (by simp), rfl⟩
  case round =>
    obtain ⟨k, hk, rfl, HK, rfl⟩ := hrel
    by_cases hlt : k < l.length
    · obtain ⟨bv, ov, rfl, dv⟩ := hcv (by omega)
      have gv := dv k hlt
      have hs := orL_drop hlt
      obtain ⟨x, hx⟩ : ∃ x, x = l[k]?.getD 0 := ⟨_, rfl⟩
      rw [← hx] at gv hs
      have HS := Lib.hid hs
      clear dv hcv hx hs
      by_cases h0 : x = 0
      · subst h0
        have HN := Lib.hid (show orL l = orL (l.drop (k + 1)) by rw [HK.out, HS.out, if_pos rfl])
        have ns : ((0 : Int) != 0) = false := by simp
        go_wp2
        go_roundw
        case rel => exact ⟨k + 1, by omega, by go_num, HN, by trivial⟩
        case measure => simp [intOf]; omega
      · have HN := Lib.hid (show orL l = x by rw [HK.out, HS.out, if_neg h0])
        have ns : (x != 0) = true := by simpa using h0
        go_wp2
        go_ret
        exact ⟨by rw [HN.out]; rfl, rfl⟩
    · obtain rfl : k = l.length := by omega
      have HN := Lib.hid (show orL l = 0 by rw [HK.out, List.drop_length]; rfl)
      clear HK
      go_wp2
      go_ret
      exact ⟨by rw [HN.out]; rfl, rfl⟩
theorem orInt_two (x y : Int) (v : Value) (w : World) (hv : Ints w v [x, y]) :
    Calls Try.prog 86 #[v] w (IntSame (if x = 0 then y else x) w) := by
  have h := orInt_any _ _ _ hv
  have e : orL [x, y] = if x = 0 then y else x := by
    unfold orL orL orL
    by_cases hx : x = 0
    · by_cases hy : y = 0 <;> simp [hx, hy]
    · simp [hx]
  rwa [e] at h

theorem orHere (w0 : World) (a b : Int) : Calls Try.prog 86 #[.slice (some ⟨w0.heap.size, 0, none⟩) 2 2] (w0.alloc (.cells #[.int .i64 a, .int .i64 b] 3)).drew (IntSame (if a = 0 then b else a) (w0.alloc (.cells #[.int .i64 a, .int .i64 b] 3)).drew) := by
  have h := (fresh_lit w0 [a, b] #[.int .i64 a, .int .i64 b] w0.heap.size rfl (Nat.le_refl _) (by simp)).ints
  exact orInt_two a b _ _ (h.ext (Ext.drew (Ext.refl _)))

end Go.Proofs.Ytjkmhphnefpdoaa

namespace Go.Proofs.Ytjkmhphnefpdoaa
open Go.RowKit Go.Sort
set_option linter.unusedVariables false

def cmp2 (a b c d : Int) : Int := if cmpI a c = 0 then cmpI b d else cmpI a c
set_option maxHeartbeats 2000000 in
set_option maxRecDepth 100000 in
theorem cmpInst_any (p q p' q' : Int) (w : World) :
    Calls Try.prog 39 #[.agg #[.int .i64 p, .int .i64 q], .agg #[.int .i64 p', .int .i64 q']] w (fun e w' => e = .returned (.int .i64 (cmp2 p q p' q')) ∧ Grows w w') := by
  unfold cmp2
  obtain ⟨r, hr⟩ : ∃ r, r = if cmpI p p' = 0 then cmpI q q' else cmpI p p' := ⟨_, rfl⟩
  have cO : ∀ w0 : World, Calls Try.prog 86 #[.slice (some ⟨w0.heap.size, 0, none⟩) 2 2] (w0.alloc (.cells #[.int .i64 (cmpI p p'), .int .i64 (cmpI q q')] 3)).drew (IntSame r (w0.alloc (.cells #[.int .i64 (cmpI p p'), .int .i64 (cmpI q q')] 3)).drew) := fun w0 => by
    rw [hr]
    exact orHere w0 _ _
  have CO := Lib.hid cO
  rw [← hr]
  clear hr cO
  obtain ⟨w0, hw0⟩ : ∃ w0, w0 = (w.alloc (.cells #[.int .i64 p, .int .i64 q] 84)).alloc (.cells #[.int .i64 p', .int .i64 q'] 84) := ⟨_, rfl⟩
  have g0 : Grows w w0 := by rw [hw0]; exact (Grows.refl w).alloc _ |>.alloc _
  have c0 : w0.cell? ⟨w.heap.size, 0, none⟩ = some (.int .i64 p) := by rw [hw0]; go_simp
  have c1 : w0.cell? ⟨w.heap.size, 1, none⟩ = some (.int .i64 q) := by rw [hw0]; go_simp
  have c2 : w0.cell? ⟨w.heap.size + 1, 0, none⟩ = some (.int .i64 p') := by rw [hw0]; go_simp
  have c3 : w0.cell? ⟨w.heap.size + 1, 1, none⟩ = some (.int .i64 q') := by rw [hw0]; go_simp
  have ks : ∀ W, Grows w0 W → Grows w0 W ∧ W.cell? ⟨w.heap.size, 0, none⟩ = some (.int .i64 p) ∧ W.cell? ⟨w.heap.size, 1, none⟩ = some (.int .i64 q) ∧ W.cell? ⟨w.heap.size + 1, 0, none⟩ = some (.int .i64 p') ∧ W.cell? ⟨w.heap.size + 1, 1, none⟩ = some (.int .i64 q') := fun W h => ⟨h, h.ext.cell c0, h.ext.cell c1, h.ext.cell c2, h.ext.cell c3⟩
  clear c0 c1 c2 c3
  subst hw0
  have KS := Lib.hid ks
  have G0 := Lib.hid g0
  clear ks g0
  go_enter Try.func39, Try.ntmps39
  go_wp2_with fail
  generalize ((w.alloc (.cells #[.int .i64 p, .int .i64 q] 84)).alloc (.cells #[.int .i64 p', .int .i64 q'] 84)) = w0 at KS G0 ⊢
  go_region_held3 (fun W => Grows w0 W ∧ W.cell? ⟨w.heap.size, 0, none⟩ = some (.int .i64 p) ∧ W.cell? ⟨w.heap.size, 1, none⟩ = some (.int .i64 q) ∧ W.cell? ⟨w.heap.size + 1, 0, none⟩ = some (.int .i64 p') ∧ W.cell? ⟨w.heap.size + 1, 1, none⟩ = some (.int .i64 q')) (first | (with_reducible exact KS.out _ (Grows.drew (Grows.refl _))) | (with_reducible exact KS.out _ (Grows.drew (Grows.alloc (Grows.refl _) _))) | (with_reducible exact KS.out _ (Grows.alloc (Grows.drew (Grows.refl _)) _)) | (trace_state; fail)) (first | (go_at_call 87; refine (compareInt_any _ _ _).mono ?_; rintro e W3 ⟨rfl, rfl⟩) | (go_at_call 86; refine (CO.out _).mono ?_; rintro e W3 ⟨rfl, rfl⟩))
  all_goals
    go_wp2
    go_ret
    exact ⟨rfl, G0.out.trans (Grows.drew (Grows.alloc (Grows.refl _) _))⟩
end Go.Proofs.Ytjkmhphnefpdoaa

namespace Go.Proofs.Ytjkmhphnefpdoaa
open Go.RowKit
set_option linter.unusedVariables false

def RepAt (w : World) (b : Nat) (me n : Int) (u v : Value) : Prop :=
  w.cell? ⟨b, 0, none⟩ = some (.int .i64 me) ∧ w.cell? ⟨b, 1, none⟩ = some (.int .i64 n) ∧ w.cell? ⟨b, 2, none⟩ = some u ∧ w.cell? ⟨b, 3, none⟩ = some v
theorem RepAt.ext {w w' : World} {b : Nat} {me n : Int} {u v : Value} (h : RepAt w b me n u v) (e : Ext w w') : RepAt w' b me n u v :=
  ⟨e.cell h.1, e.cell h.2.1, e.cell h.2.2.1, e.cell h.2.2.2⟩
theorem repAt_new (w : World) (T : TypeId) (me n : Int) (u v : Value) : RepAt (w.alloc (.cells #[.int .i64 me, .int .i64 n, u, v] T)) w.heap.size me n u v := by
  refine ⟨?_, ?_, ?_, ?_⟩ <;> go_simp
theorem two_reps (w : World) (T T' : TypeId) (me n me' n' : Int) (u u' v v' : Value) :
    RepAt ((w.alloc (.cells #[.int .i64 me, .int .i64 n, u, v] T)).alloc (.cells #[.int .i64 me', .int .i64 n', u', v'] T')) w.heap.size me n u v ∧ RepAt ((w.alloc (.cells #[.int .i64 me, .int .i64 n, u, v] T)).alloc (.cells #[.int .i64 me', .int .i64 n', u', v'] T')) (w.heap.size + 1) me' n' u' v' := by
  refine ⟨(repAt_new _ _ _ _ _ _).ext (Ext.alloc (Ext.refl _) _), ?_⟩
  have h := repAt_new (w.alloc (.cells #[.int .i64 me, .int .i64 n, u, v] T)) T' me' n' u' v'
  rw [World.size_alloc] at h
  exact h
end Go.Proofs.Ytjkmhphnefpdoaa

namespace Go.Proofs.Ytjkmhphnefpdoaa
open Go.RowKit
set_option linter.unusedVariables false

/-- Whether a lead stands ahead of another. -/
def lexD (p d : LeadD) : Bool := !(decide (d.rp < p.rp)) && !(p.rp == d.rp && decide (d.no ≤ p.no))
/-- Whether the lead at place k is good and stands behind the one ahead of it. -/
def stepL (n me : Int) (L : List LeadD) (k : Nat) : Bool :=
  match L[k]? with
  | none => true
  | some d => leadB n me d && (match k with
    | 0 => true
    | j + 1 => match L[j]? with
      | none => true
      | some p => lexD p d)
def leadsB (n me : Int) (L : List LeadD) : Bool := (List.range L.length).all (stepL n me L)
def goodRep (me n : Int) (T : List (List RowD)) (L : List LeadD) : Bool := goodTab n T && (inB me 0 (n - 1) && leadsB n me L)
theorem step_succ {n me : Int} {L : List LeadD} {k : Nat} (h : ∀ j, j < k → stepL n me L j = true) (hk : stepL n me L k = true) : ∀ j, j < k + 1 → stepL n me L j = true := fun j hj => by
  by_cases e : j = k
  · rw [e]; exact hk
  · exact h j (by omega)
theorem goodRep_no {me n : Int} {T : List (List RowD)} {L : List LeadD} {k : Nat} (h : k < L.length) (hk : stepL n me L k = false) : goodRep me n T L = false := by
  have : leadsB n me L = false := by
    unfold leadsB
    rw [List.all_eq_false]
    exact ⟨k, List.mem_range.2 h, by rw [hk]; simp⟩
  unfold goodRep
  rw [this, Bool.and_false, Bool.and_false]
theorem goodRep_yes {me n : Int} {T : List (List RowD)} {L : List LeadD} (h1 : goodTab n T = true) (h2 : inB me 0 (n - 1) = true) (h : ∀ j, j < L.length → stepL n me L j = true) : goodRep me n T L = true := by
  have : leadsB n me L = true := by
    unfold leadsB
    rw [List.all_eq_true]
    exact fun j hj => h j (List.mem_range.1 hj)
  unfold goodRep
  rw [h1, h2, this]; rfl
theorem step_bad {n me : Int} {L : List LeadD} {k : Nat} (h : k < L.length) (hb : leadB n me L[k] = false) : stepL n me L k = false := by
  unfold stepL
  rw [List.getElem?_eq_getElem h]
  simp only [hb, Bool.false_and]
theorem step_first {n me : Int} {L : List LeadD} (h : 0 < L.length) (hb : leadB n me L[0] = true) : stepL n me L 0 = true := by
  unfold stepL
  rw [List.getElem?_eq_getElem h]
  simp only [hb, Bool.true_and]
theorem step_next {n me : Int} {L : List LeadD} {j : Nat} (h : j + 1 < L.length) (hb : leadB n me L[j + 1] = true) : stepL n me L (j + 1) = lexD (L[j]'(by omega)) L[j + 1] := by
  unfold stepL
  rw [List.getElem?_eq_getElem h]
  simp only [hb, Bool.true_and, List.getElem?_eq_getElem (show j < L.length by omega)]
theorem goodTab_isGrp {n : Int} {T : List (List RowD)} (h : goodTab n T = true) : isGrp n = true := by
  cases hg : isGrp n with
  | true => rfl
  | false => rw [goodTab_grp hg] at h; cases h
set_option maxHeartbeats 8000000 in
set_option maxRecDepth 100000 in
theorem specGoodRep_any (me n : Int) (u v : Value) (T : List (List RowD)) (L : List LeadD) (w : World) (hu : Rowzz w u T) (hv : Leadz w v L) :
    Calls Try.prog 8 #[.agg #[.int .i64 me, .int .i64 n, u, v]] w (BoolExt (goodRep me n T L) w) := by
  obtain ⟨wb, hwb⟩ : ∃ wb, wb = w.alloc (.cells #[.int .i64 me, .int .i64 n, u, v] 35) := ⟨_, rfl⟩
  have x0 : Ext w wb := by rw [hwb]; exact Ext.alloc1 _ _
  have HR := Lib.hid (show RepAt wb w.heap.size me n u v by rw [hwb]; exact repAt_new _ _ _ _ _ _)
  have HU := Lib.hid (hu.ext x0)
  have HZ : Hid (w.heap.size < wb.heap.size) := Lib.hid (by rw [hwb]; simp)
  have HX0 := Lib.hid x0
  have HW := Lib.hid hwb
  obtain ⟨av, cv, rfl, hlv, _, hcv⟩ := hv
  unfold maxLen at hlv
  have HCV := Lib.hid hcv
  clear hu hwb x0 hcv
  go_enter Try.func8, Try.ntmps8
  obtain ⟨p0, p1, p2, p3⟩ := HR.out
  go_wp2_with fail
  rw [← HW.out]
  refine (specGoodTable_any n u T _ HU.out).mono ?_
  rintro e w1 ⟨rfl, x1⟩
  have HX1 := Lib.hid (HX0.out.trans x1)
  have HX1w := Lib.hid x1
  clear x1 p0 p1 p2 p3 HX0
  cases hg : goodTab n T with
  | false =>
    have HO : Hid (goodRep me n T L = false) := Lib.hid (by unfold goodRep; rw [hg]; rfl)
    go_wp2
    go_ret
    exact ⟨by rw [HO.out]; rfl, HX1.out⟩
  | true =>
    have HG := Lib.hid hg
    have HN := Lib.hid (goodTab_isGrp hg)
    obtain ⟨h3, h5⟩ : 3 ≤ n ∧ n ≤ 5 := by rcases isGrp_of HN.out with rfl | rfl <;> omega
    clear hg
    obtain ⟨p0, p1, p2, p3⟩ := HR.out.ext HX1w.out
    go_wp2_with fail
    refine (l1In_any me 0 (n - 1) _).mono ?_
    rintro e w2 ⟨rfl, rfl⟩
    cases hm : inB me 0 (n - 1) with
    | false =>
      have HO : Hid (goodRep me n T L = false) := Lib.hid (by unfold goodRep; rw [hm, Bool.false_and, Bool.and_false])
      go_wp2
      go_ret
      exact ⟨by rw [HO.out]; rfl, HX1.out⟩
    | true =>
      have HM := Lib.hid hm
      clear hm
      go_wp2
      clear p0 p1 p2 p3
      go_loopw [3, 23] (fun _ i wr => ∃ k : Nat, k ≤ L.length ∧ i = .int .i64 k ∧ Hid (∀ j, j < k → stepL n me L j = true) ∧ Hid (Ext w wr) ∧ Hid (Ext wb wr)) (fun _ i _ => L.length - (intOf i).toNat)
      case atStart => exact ⟨0, Nat.zero_le _, rfl, Lib.hid (fun j h => by omega), HX1, HX1w⟩
      case round =>
        obtain ⟨k, hk, rfl, HT, HX, HXW⟩ := hrel
        by_cases hlt : k < L.length
        · obtain ⟨b, off, rfl, dv⟩ := HCV.out (by omega)
          obtain ⟨d, hd⟩ : ∃ d, d = L[k] := ⟨_, rfl⟩
          obtain ⟨u1, u2, u3, u4, hy, iy⟩ := dv k hlt
          rw [← hd] at hy iy
          obtain ⟨b1, c1, rfl, _⟩ := id iy.i1
          obtain ⟨b2, c2, rfl, _⟩ := id iy.i2
          obtain ⟨b3, c3, rfl, _⟩ := id iy.i3
          obtain ⟨b4, c4, rfl, _⟩ := id iy.i4
          have HD := Lib.hid hd
          have HLT := Lib.hid hlt
          have HDV := Lib.hid dv
          obtain ⟨a0, a1, a2, a3, a4, a5, a6, a7, a8, a9, a10, a11, a12, a13, a14, a15⟩ := leadIn_cells (hy.ext HX.out)
          obtain ⟨p0, p1, p2, p3⟩ := HR.out.ext HXW.out
          have hbw : w.heap.size < wr.heap.size := Nat.lt_of_lt_of_le HZ.out HXW.out.size
          obtain ⟨w2, hw2⟩ : ∃ w2, w2 = wr.alloc (.cells #[.int .i64 d.rp, .int .i64 d.no, .int .i64 d.bl, .int .i64 d.ph, .int .i64 d.k, .int .i64 d.i, .int .i64 d.f, .int .i64 d.t, .int .i64 d.a, .int .i64 d.s1, .slice b1 d.l1.length c1, .int .i64 d.s2, .slice b2 d.l2.length c2, .bool d.sm, .slice b3 d.who.length c3, .slice b4 d.seen.length c4] 79) := ⟨_, rfl⟩
          have x2 : Ext wr w2 := by rw [hw2]; exact Ext.alloc1 _ _
          have ST : Hid (w2.cell? ⟨wr.heap.size, 0, none⟩ = some (.int .i64 d.rp) ∧ w2.cell? ⟨wr.heap.size, 1, none⟩ = some (.int .i64 d.no)) := Lib.hid (by rw [hw2]; constructor <;> go_simp)
          have SZ : Hid (wr.heap.size < w2.heap.size) := Lib.hid (by rw [hw2]; simp)
          have IY := Lib.hid ((iy.ext HX.out).ext x2)
          have HW2 := Lib.hid hw2
          have X2 := Lib.hid (HX.out.trans x2)
          have X2W := Lib.hid (HXW.out.trans x2)
          clear dv hd hy iy hw2 x2
          go_wp2_with fail
          rw [← HW2.out]
          refine (l8Lead_any n me d _ _ _ _ _ IY.out HN.out).mono ?_
          rintro e w3 ⟨rfl, x3⟩
          have X3 := Lib.hid (X2.out.trans x3)
          have X3W := Lib.hid (X2W.out.trans x3)
          obtain ⟨s0, s1⟩ := ST.out
          have s0 := x3.cell s0
          have s1 := x3.cell s1
          have hsz : wr.heap.size < w3.heap.size := Nat.lt_of_lt_of_le SZ.out x3.size
          clear x3 p0 p1 p2 p3 IY HW2 X2 X2W ST SZ a0 a1 a2 a3 a4 a5 a6 a7 a8 a9 a10 a11 a12 a13 a14 a15
          as_aux_lemma =>
            cases hb : leadB n me d with
            | false =>
              clear s0 s1
              have HO : Hid (goodRep me n T L = false) := Lib.hid (goodRep_no HLT.out (step_bad HLT.out (by rw [← HD.out]; exact hb)))
              go_wp2
              go_ret
              exact ⟨by rw [HO.out]; rfl, by first | exact X3.out | exact X3.out.alloc _⟩
            | true =>
              rcases Nat.eq_zero_or_pos k with h0 | h0
              · have e0 : ¬ ((0 : Int) < (k : Int)) := by omega
                as_aux_lemma =>
                  have H0 := Lib.hid h0
                  have HB := Lib.hid hb
                  clear s0 s1 h0 hb
                  have HT1 : Hid (∀ j, j < k + 1 → stepL n me L j = true) := Lib.hid (step_succ HT.out (by have h := H0.out; have hd := HD.out; subst h; exact step_first HLT.out (by rw [← hd]; exact HB.out)))
                  go_wp2
                  go_roundw
                  case rel => exact ⟨k + 1, by omega, by go_num, HT1, Lib.hid (by first | exact X3.out | exact X3.out.alloc _), Lib.hid (by first | exact X3W.out | exact X3W.out.alloc _)⟩
                  case measure => simp [intOf]; omega
              · obtain ⟨j, hj⟩ : ∃ j, j = k - 1 := ⟨_, rfl⟩
                have hjl : j < L.length := by omega
                have e1 : (k : Int) - 1 = (j : Int) := by omega
                have e0 : (0 : Int) < (k : Int) := by omega
                obtain ⟨p, hp⟩ : ∃ p, p = L[j] := ⟨_, rfl⟩
                obtain ⟨v1, v2, v3, v4, hq, iq⟩ := HDV.out j hjl
                rw [← hp] at hq iq
                obtain ⟨g1, f1, rfl, _⟩ := iq.i1
                obtain ⟨g2, f2, rfl, _⟩ := iq.i2
                obtain ⟨g3, f3, rfl, _⟩ := iq.i3
                obtain ⟨g4, f4, rfl, _⟩ := iq.i4
                obtain ⟨q0, q1, q2, q3, q4, q5, q6, q7, q8, q9, q10, q11, q12, q13, q14, q15⟩ := leadIn_cells (hq.ext X3.out)
                obtain ⟨p0, p1, p2, p3⟩ := HR.out.ext X3W.out
                have HS : Hid (stepL n me L k = lexD p d) := Lib.hid (by
                  have hkj : k = j + 1 := by omega
                  subst hkj
                  rw [HD.out] at hb ⊢
                  rw [hp]
                  exact step_next HLT.out hb)
                clear hq iq hp hj h0 hb
                have hbw3 : w.heap.size < w3.heap.size := Nat.lt_of_lt_of_le HZ.out X3W.out.size
                by_cases q1 : d.rp < p.rp
                · skip
                  as_aux_lemma =>
                    have HO : Hid (goodRep me n T L = false) := Lib.hid (goodRep_no HLT.out (by rw [HS.out]; unfold lexD; rw [decide_eq_true q1]; rfl))
                    go_wp2
                    go_ret
                    exact ⟨by rw [HO.out]; rfl, by first | exact X3.out | exact X3.out.alloc _⟩
                · cases q2 : (p.rp == d.rp) with
                  | false =>
                    as_aux_lemma =>
                      have HT1 : Hid (∀ j, j < k + 1 → stepL n me L j = true) := Lib.hid (step_succ HT.out (by rw [HS.out]; unfold lexD; rw [decide_eq_false q1, q2]; rfl))
                      go_wp2
                      go_roundw
                      case rel => exact ⟨k + 1, by omega, by go_num, HT1, Lib.hid (by first | exact X3.out | exact X3.out.alloc _), Lib.hid (by first | exact X3W.out | exact X3W.out.alloc _)⟩
                      case measure => simp [intOf]; omega
                  | true =>
                    by_cases q3 : d.no ≤ p.no
                    · skip
                      as_aux_lemma =>
                        have HO : Hid (goodRep me n T L = false) := Lib.hid (goodRep_no HLT.out (by rw [HS.out]; unfold lexD; rw [decide_eq_false q1, q2, decide_eq_true q3]; rfl))
                        go_wp2
                        go_ret
                        exact ⟨by rw [HO.out]; rfl, by first | exact X3.out | exact X3.out.alloc _⟩
                    · skip
                      as_aux_lemma =>
                        have HT1 : Hid (∀ j, j < k + 1 → stepL n me L j = true) := Lib.hid (step_succ HT.out (by rw [HS.out]; unfold lexD; rw [decide_eq_false q1, q2, decide_eq_false q3]; rfl))
                        go_wp2
                        go_roundw
                        case rel => exact ⟨k + 1, by omega, by go_num, HT1, Lib.hid (by first | exact X3.out | exact X3.out.alloc _), Lib.hid (by first | exact X3W.out | exact X3W.out.alloc _)⟩
                        case measure => simp [intOf]; omega
        · obtain rfl : k = L.length := by omega
          have HO : Hid (goodRep me n T L = true) := Lib.hid (goodRep_yes HG.out HM.out HT.out)
          go_wp2
          go_ret
          exact ⟨by rw [HO.out]; rfl, HX.out⟩
end Go.Proofs.Ytjkmhphnefpdoaa

namespace Go.Proofs.Ytjkmhphnefpdoaa
open Go.RowKit
set_option linter.unusedVariables false

def lastR (L : List LeadD) (k : Nat) : Int := match k with
  | 0 => 0
  | j + 1 => match L[j]? with
    | none => 0
    | some d => d.rp
def lastN (L : List LeadD) (k : Nat) : Int := match k with
  | 0 => 0
  | j + 1 => match L[j]? with
    | none => 0
    | some d => d.no
theorem last_next {L : List LeadD} {k : Nat} (h : k < L.length) : lastR L (k + 1) = L[k].rp ∧ lastN L (k + 1) = L[k].no := by
  unfold lastR lastN
  simp only [List.getElem?_eq_getElem h, and_self]
theorem leadB_inst {n me : Int} {d : LeadD} (h : leadB n me d = true) : 0 ≤ d.rp ∧ 1 ≤ d.no := by
  unfold leadB headL instB inB at h
  simp only [Bool.and_eq_true, decide_eq_true_eq] at h
  exact ⟨h.1.1.1.1, h.1.1.2.1⟩
theorem cmp2_lex (a b c d : Int) : decide ((0 : Int) ≤ cmp2 a b c d) = !(!(decide (c < a)) && !(a == c && decide (d ≤ b))) := by
  unfold cmp2 cmpI
  by_cases h1 : a < c
  · have e : (a == c) = false := by simp; omega
    rw [if_pos h1, e, decide_eq_false (show ¬ c < a by omega)]; rfl
  · rw [if_neg h1]
    by_cases h2 : c < a
    · rw [if_pos h2, decide_eq_true h2]; rfl
    · have e : (a == c) = true := by simp; omega
      rw [if_neg h2, e, decide_eq_false h2]
      simp only [if_true]
      by_cases h3 : b < d
      · rw [if_pos h3, decide_eq_false (show ¬ d ≤ b by omega)]; rfl
      · rw [if_neg h3, decide_eq_true (show d ≤ b by omega)]
        by_cases h4 : d < b
        · rw [if_pos h4]; rfl
        · rw [if_neg h4]; rfl
theorem stepL_cmp {n me : Int} {L : List LeadD} {k : Nat} (h : k < L.length) : stepL n me L k = (leadB n me L[k] && !decide ((0 : Int) ≤ cmp2 (lastR L k) (lastN L k) L[k].rp L[k].no)) := by
  cases k with
  | zero =>
    have e : stepL n me L 0 = leadB n me L[0] := by
      unfold stepL
      rw [List.getElem?_eq_getElem h]
      simp only [Bool.and_true]
    rw [e]
    cases hb : leadB n me L[0] with
    | false => rfl
    | true =>
      obtain ⟨h1, h2⟩ := leadB_inst hb
      have : decide ((0 : Int) ≤ cmp2 (lastR L 0) (lastN L 0) L[0].rp L[0].no) = false := by
        rw [cmp2_lex]
        have e1 : lastR L 0 = 0 := rfl
        have e2 : lastN L 0 = 0 := rfl
        rw [e1, e2, decide_eq_false (show ¬ L[0].rp < 0 by omega), decide_eq_false (show ¬ L[0].no ≤ 0 by omega)]
        simp
      rw [this]; rfl
  | succ j =>
    obtain ⟨e1, e2⟩ := last_next (show j < L.length by omega)
    rw [cmp2_lex, e1, e2, Bool.not_not]
    unfold stepL
    rw [List.getElem?_eq_getElem h]
    simp only [List.getElem?_eq_getElem (show j < L.length by omega)]
    rfl
/-- The block of a local instance. -/
theorem last_new (w : World) (T : TypeId) : BoxV (w.alloc (.cells #[.int .i64 0, .int .i64 0] T)) w.heap.size [.int .i64 0, .int .i64 0] := boxV_new w [.int .i64 0, .int .i64 0] T

set_option maxHeartbeats 8000000 in
set_option maxRecDepth 100000 in
theorem implGoodRep_any (me n : Int) (u v : Value) (T : List (List RowD)) (L : List LeadD) (w : World) (hu : Rowzz w u T) (hv : Leadz w v L) (hs : bulkT T ≤ 1099511627776) (hl : bulkL L ≤ 549755813888) :
    Calls Try.prog 10 #[.agg #[.int .i64 me, .int .i64 n, u, v]] w (BoolExt (goodRep me n T L) w) := by
  obtain ⟨wb, hwb⟩ : ∃ wb, wb = w.alloc (.cells #[.int .i64 me, .int .i64 n, u, v] 35) := ⟨_, rfl⟩
  have x0 : Ext w wb := by rw [hwb]; exact Ext.alloc1 _ _
  have HR := Lib.hid (show RepAt wb w.heap.size me n u v by rw [hwb]; exact repAt_new _ _ _ _ _ _)
  have HU := Lib.hid (hu.ext x0)
  have HZ : Hid (w.heap.size < wb.heap.size) := Lib.hid (by rw [hwb]; simp)
  have HX0 := Lib.hid x0
  have HW := Lib.hid hwb
  have HS := Lib.hid hs
  have HL := Lib.hid hl
  obtain ⟨av, cv, rfl, hlv, _, hcv⟩ := hv
  unfold maxLen at hlv
  have HCV := Lib.hid hcv
  clear hu hwb x0 hcv hs hl
  go_enter Try.func10, Try.ntmps10
  obtain ⟨p0, p1, p2, p3⟩ := HR.out
  go_wp2_with fail
  rw [← HW.out]
  refine (implGoodTable_any n u T _ HU.out HS.out).mono ?_
  rintro e w1 ⟨rfl, x1⟩
  have HX1 := Lib.hid (HX0.out.trans x1)
  have HX1w := Lib.hid x1
  clear x1 p0 p1 p2 p3 HX0
  cases hg : goodTab n T with
  | false =>
    have HO : Hid (goodRep me n T L = false) := Lib.hid (by unfold goodRep; rw [hg]; rfl)
    go_wp2
    go_ret
    exact ⟨by rw [HO.out]; rfl, HX1.out⟩
  | true =>
    have HG := Lib.hid hg
    have HN := Lib.hid (goodTab_isGrp hg)
    clear hg
    obtain ⟨p0, p1, p2, p3⟩ := HR.out.ext HX1w.out
    go_wp2_with fail
    refine (isReplica_any n me _).mono ?_
    rintro e w2 ⟨rfl, rfl⟩
    have hrep : repB n me = inB me 0 (n - 1) := by unfold repB; rw [HN.out, Bool.true_and]
    rw [hrep]
    clear hrep p0 p1 p2 p3
    cases hm : inB me 0 (n - 1) with
    | false =>
      have HO : Hid (goodRep me n T L = false) := Lib.hid (by unfold goodRep; rw [hm, Bool.false_and, Bool.and_false])
      go_wp2
      go_ret
      exact ⟨by rw [HO.out]; rfl, HX1.out⟩
    | true =>
      have HM := Lib.hid hm
      clear hm
      obtain ⟨X, hX⟩ : ∃ X, X = w1.heap.size := ⟨_, rfl⟩
      obtain ⟨wl, hwl⟩ : ∃ wl, wl = w1.alloc (.cells #[.int .i64 0, .int .i64 0] 84) := ⟨_, rfl⟩
      have xl : Ext w1 wl := by rw [hwl]; exact Ext.alloc1 _ _
      have HB0 : Hid (BoxV wl X [.int .i64 (lastR L 0), .int .i64 (lastN L 0)]) := Lib.hid (by rw [hwl, hX]; exact last_new _ _)
      have HXb : Hid (wb.heap.size ≤ X) := Lib.hid (by rw [hX]; exact HX1w.out.size)
      have HXw : Hid (w.heap.size < X) := Lib.hid (Nat.lt_of_lt_of_le HZ.out HXb.out)
      have HX2 := Lib.hid (HX1.out.trans xl)
      have HX2w := Lib.hid (HX1w.out.trans xl)
      obtain ⟨p0, p1, p2, p3⟩ := HR.out.ext HX2w.out
      rw [hwl] at p0 p1 p2 p3
      have HWL := Lib.hid hwl
      have HXX := Lib.hid hX
      clear hX hwl xl
      go_wp2
      rw [← HWL.out, ← HXX.out]
      clear p0 p1 p2 p3
      go_loopw [23] (fun i wr => ∃ k : Nat, k ≤ L.length ∧ i = .int .i64 k ∧ Hid (∀ j, j < k → stepL n me L j = true) ∧ Hid (Ext w wr) ∧ Hid (Ext wb wr) ∧ Hid (BoxV wr X [.int .i64 (lastR L k), .int .i64 (lastN L k)])) (fun i _ => L.length - (intOf i).toNat)
      case atStart => exact ⟨0, Nat.zero_le _, rfl, Lib.hid (fun j h => by omega), HX2, HX2w, HB0⟩
      case round =>
        obtain ⟨k, hk, rfl, HT, HX, HXW, HB⟩ := hrel
        by_cases hlt : k < L.length
        · obtain ⟨b, off, rfl, dv⟩ := HCV.out (by omega)
          obtain ⟨d, hd⟩ : ∃ d, d = L[k] := ⟨_, rfl⟩
          obtain ⟨u1, u2, u3, u4, hy, iy⟩ := dv k hlt
          rw [← hd] at hy iy
          obtain ⟨b1, c1, rfl, _⟩ := id iy.i1
          obtain ⟨b2, c2, rfl, _⟩ := id iy.i2
          obtain ⟨b3, c3, rfl, _⟩ := id iy.i3
          obtain ⟨b4, c4, rfl, _⟩ := id iy.i4
          have HD := Lib.hid hd
          have HLT := Lib.hid hlt
          obtain ⟨rp, hrp⟩ : ∃ rp, rp = lastR L k := ⟨_, rfl⟩
          obtain ⟨rn, hrn⟩ : ∃ rn, rn = lastN L k := ⟨_, rfl⟩
          rw [← hrp, ← hrn] at HB
          have HSTEP : Hid (stepL n me L k = (leadB n me d && !decide ((0 : Int) ≤ cmp2 rp rn d.rp d.no))) := Lib.hid (by rw [hrp, hrn, hd]; exact stepL_cmp hlt)
          have HBD : Hid (bulkD d ≤ 1099511627776) := Lib.hid (by rw [hd]; have := bulkL_lead hlt; have := HL.out; omega)
          obtain ⟨a0, a1, a2, a3, a4, a5, a6, a7, a8, a9, a10, a11, a12, a13, a14, a15⟩ := leadIn_cells (hy.ext HX.out)
          obtain ⟨w2, hw2⟩ : ∃ w2, w2 = wr.alloc (.cells #[.int .i64 d.rp, .int .i64 d.no, .int .i64 d.bl, .int .i64 d.ph, .int .i64 d.k, .int .i64 d.i, .int .i64 d.f, .int .i64 d.t, .int .i64 d.a, .int .i64 d.s1, .slice b1 d.l1.length c1, .int .i64 d.s2, .slice b2 d.l2.length c2, .bool d.sm, .slice b3 d.who.length c3, .slice b4 d.seen.length c4] 79) := ⟨_, rfl⟩
          obtain ⟨w3, hw3⟩ : ∃ w3, w3 = w2.alloc (.cells #[.int .i64 d.rp, .int .i64 d.no] 84) := ⟨_, rfl⟩
          have x2 : Ext wr w2 := by rw [hw2]; exact Ext.alloc1 _ _
          have x3 : Ext w2 w3 := by rw [hw3]; exact Ext.alloc1 _ _
          have hz2 : w2.heap.size = wr.heap.size + 1 := by rw [hw2]; simp
          have HY : Hid (BoxV w3 wr.heap.size (leadVs d (.slice b1 d.l1.length c1) (.slice b2 d.l2.length c2) (.slice b3 d.who.length c3) (.slice b4 d.seen.length c4))) := Lib.hid (by
            refine BoxV.ext ?_ x3
            rw [hw2]; exact lead_box wr _ d _ _ _ _)
          have HZZ : Hid (BoxV w3 (wr.heap.size + 1) [.int .i64 d.rp, .int .i64 d.no]) := Lib.hid (by rw [← hz2, hw3]; exact boxV_new w2 [.int .i64 d.rp, .int .i64 d.no] _)
          have HB3 := Lib.hid (HB.out.ext (x2.trans x3))
          have X3 := Lib.hid (HX.out.trans (x2.trans x3))
          have X3W := Lib.hid (HXW.out.trans (x2.trans x3))
          have IY := Lib.hid ((iy.ext HX.out).ext (x2.trans x3))
          have l0 := HB3.out.cell 0 _ rfl
          have l1 := HB3.out.cell 1 _ rfl
          have hlX : X < wr.heap.size := HB.out.lt
          rw [hw3, hw2] at l0 l1
          have HW3 := Lib.hid (hw3.trans (by rw [hw2]))
          clear dv hd hy iy hw2 hw3 x2 x3 hz2 hrp hrn
          go_wp2_with fail
          rw [← HW3.out]
          refine (cmpInst_any rp rn d.rp d.no _).mono ?_
          rintro e w4 ⟨rfl, g4⟩
          have x4 := g4.ext
          have HB4 := Lib.hid (HB3.out.ext x4)
          have HY4 := Lib.hid (HY.out.ext x4)
          have HZ4 := Lib.hid (HZZ.out.ext x4)
          have X4 := Lib.hid (X3.out.trans x4)
          have X4W := Lib.hid (X3W.out.trans x4)
          have IY4 := Lib.hid (IY.out.ext x4)
          clear x4 g4 l0 l1 a0 a1 a2 a3 a4 a5 a6 a7 a8 a9 a10 a11 a12 a13 a14 a15 HB3 HY HZZ X3 X3W IY HW3
          obtain ⟨c, hc⟩ : ∃ c, c = cmp2 rp rn d.rp d.no := ⟨_, rfl⟩
          rw [← hc] at HSTEP ⊢
          clear hc
          as_aux_lemma =>
            by_cases hc0 : 0 ≤ c
            · have HO : Hid (goodRep me n T L = false) := Lib.hid (goodRep_no HLT.out (by rw [HSTEP.out, decide_eq_true hc0]; simp))
              go_wp2
              go_ret
              exact ⟨by rw [HO.out]; rfl, X4.out⟩
            · skip
              as_aux_lemma =>
                obtain ⟨p0, p1, p2, p3⟩ := HR.out.ext X4W.out
                obtain ⟨a0, a1, a2, a3, a4, a5, a6, a7, a8, a9, a10, a11, a12, a13, a14, a15⟩ := lead_cells HY4.out
                have HC := Lib.hid hc0
                go_wp2_with fail
                refine (isGoodLead_any n me d _ _ _ _ _ IY4.out HN.out HBD.out).mono ?_
                rintro e w5 ⟨rfl, x5⟩
                have HB5 := Lib.hid (HB4.out.ext x5)
                have HZ5 := Lib.hid (HZ4.out.ext x5)
                have X5 := Lib.hid (X4.out.trans x5)
                have X5W := Lib.hid (X4W.out.trans x5)
                clear x5 p0 p1 p2 p3 a0 a1 a2 a3 a4 a5 a6 a7 a8 a9 a10 a11 a12 a13 a14 a15 HB4 HY4 HZ4 X4 X4W IY4
                cases hb : leadB n me d with
                | false =>
                  have HO : Hid (goodRep me n T L = false) := Lib.hid (goodRep_no HLT.out (by rw [HSTEP.out, hb]; rfl))
                  go_wp2
                  go_ret
                  exact ⟨by rw [HO.out]; rfl, X5.out⟩
                | true =>
                  have HT1 : Hid (∀ j, j < k + 1 → stepL n me L j = true) := Lib.hid (step_succ HT.out (by rw [HSTEP.out, hb, decide_eq_false (show ¬ (0 : Int) ≤ c by have := HC.out; omega)]; rfl))
                  have l0 := HB5.out.cell 0 _ rfl
                  have l1 := HB5.out.cell 1 _ rfl
                  have f0 := HB5.out.free 0 (of_decide_eq_true rfl)
                  have f1 := HB5.out.free 1 (of_decide_eq_true rfl)
                  have z0 := HZ5.out.cell 0 _ rfl
                  have z1 := HZ5.out.cell 1 _ rfl
                  have HBN : Hid (BoxV ((w5.setCell ⟨X, 0, none⟩ (.int .i64 d.rp)).setCell ⟨X, 1, none⟩ (.int .i64 d.no)) X [.int .i64 (lastR L (k + 1)), .int .i64 (lastN L (k + 1))]) := Lib.hid (by
                    rw [(last_next HLT.out).1, (last_next HLT.out).2, ← HD.out]
                    exact (HB5.out.set 0 (.int .i64 d.rp) (of_decide_eq_true rfl)).set 1 (.int .i64 d.no) (of_decide_eq_true rfl))
                  have HXN : Hid (Ext w ((w5.setCell ⟨X, 0, none⟩ (.int .i64 d.rp)).setCell ⟨X, 1, none⟩ (.int .i64 d.no))) := Lib.hid ((X5.out.setc (Nat.le_of_lt HXw.out)).setc (Nat.le_of_lt HXw.out))
                  have HXWN : Hid (Ext wb ((w5.setCell ⟨X, 0, none⟩ (.int .i64 d.rp)).setCell ⟨X, 1, none⟩ (.int .i64 d.no))) := Lib.hid ((X5W.out.setc HXb.out).setc HXb.out)
                  clear hb
                  go_wp2
                  go_roundw
                  case rel => exact ⟨k + 1, by have := HLT.out; omega, by go_num, HT1, HXN, HXWN, HBN⟩
                  case measure => simp [intOf]; have := HLT.out; omega
        · obtain rfl : k = L.length := by omega
          have HO : Hid (goodRep me n T L = true) := Lib.hid (goodRep_yes HG.out HM.out HT.out)
          go_wp2
          go_ret
          exact ⟨by rw [HO.out]; rfl, HX.out⟩
end Go.Proofs.Ytjkmhphnefpdoaa
