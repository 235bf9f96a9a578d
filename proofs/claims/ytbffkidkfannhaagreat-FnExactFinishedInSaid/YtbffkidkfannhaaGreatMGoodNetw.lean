/- Texts of this proof, part w: words, plain facts, contracts. -/
import Derived.Test.YtbffkidkfannhaaGreatMGoodNetv
import Derived.Test.YtbffkidkfannhaaGreatMGoodNetq4
import Derived.Test.YtbffkidkfannhaaGreatMGoodNetl
import Derived.Test.YtbffkidkfannhaaGreatMGoodNetr
import Derived.Test.YtbffkidkfannhaaGreatMGoodNeta
import Derived.Test.YtbffkidkfannhaaGreatMGoodNetu

namespace Go.Proofs.YtbffkidkfannhaaGreat
open Go.RowKit
set_option linter.unusedVariables false

/-- The rows of a net's replica. -/
def tabR (R : List RepD) (k : Nat) : List (List RowD) := match R[k]? with
  | some d => d.T
  | none => []
theorem tabR_get {R : List RepD} {k : Nat} (h : k < R.length) : tabR R k = R[k].T := by unfold tabR; rw [List.getElem?_eq_getElem h]
def hungB (n : Int) (T : List (List RowD)) (p q : Nat) : Bool := (insts T).any fun x => decide ((p, q) ∈ hungL (rowOf n T x.1 x.2))
def metB (n : Int) (T : List (List RowD)) (p q : Nat) : Bool := inT T p q || hungB n T p q
def metM (n : Int) (R : List RepD) (m : List Int) (p q : Nat) : Bool := m.any fun a => metB n (tabR R a.toNat) p q
def allCom (R : List RepD) (m : List Int) (p q : Nat) : Bool := m.all fun a => instCom (tabR R a.toNat) p q
def openB (n : Int) (R : List RepD) (m : List Int) (p q : Nat) : Bool := metM n R m p q && !allCom R m p q
open Classical in
noncomputable def finB (n : Int) (R : List RepD) (m : List Int) : Bool := decide (∀ p q, openB n R m p q = false)
open Classical in
theorem finB_yes {n : Int} {R : List RepD} {m : List Int} (h : ∀ p q, metM n R m p q = true → allCom R m p q = true) : finB n R m = true := by
  unfold finB
  refine decide_eq_true fun p q => ?_
  unfold openB
  cases e : metM n R m p q with
  | false => rfl
  | true => rw [h p q e]; rfl
open Classical in
theorem finB_no {n : Int} {R : List RepD} {m : List Int} {p q : Nat} (h : metM n R m p q = true) (k : allCom R m p q = false) : finB n R m = false := by
  unfold finB
  refine decide_eq_false fun e => ?_
  have := e p q
  unfold openB at this
  rw [h, k] at this
  cases this

theorem metB_low {n : Int} {T : List (List RowD)} (hg : goodTab n T = true) {p q : Nat} (h : metB n T p q = true) : p < T.length ∧ q < 6 := by
  unfold metB at h
  rcases Bool.or_eq_true_iff.1 h with h | h
  · obtain ⟨hp, hq⟩ := inT_of h
    have := ((goodTab_of hg).2.2 _ (List.getElem_mem hp)).1
    exact ⟨hp, by omega⟩
  · unfold hungB at h
    obtain ⟨x, hx, hd⟩ := List.any_eq_true.1 h
    obtain ⟨h1, h2⟩ := mem_hungL.1 (of_decide_eq_true hd)
    obtain ⟨hp, hq, hs⟩ := instCom_lt (mem_insts.1 hx)
    have h3 := dep_in hg hp x.2 p
    have h4 := (goodTab_row hg hp hq).2.1
    have h5 := (goodTab_of hg).2.1
    rw [rowOf_in hp hq] at h1 h2 h3
    unfold depM at h2
    simp only at h1 h2
    omega
theorem instCom_rowOf {n : Int} {T : List (List RowD)} {p : Nat} (hp : p < T.length) (q : Nat) : instCom T p q = ((rowOf n T p q).st == 3) := by
  by_cases hq : q < T[p].length
  · rw [instCom_in hp hq, rowOf_in hp hq]
  · rw [rowOf_out hp (by omega)]
    unfold instCom
    rw [List.getElem?_eq_getElem hp, Option.getD_some, List.getElem?_eq_none (by omega)]
    rfl
/-- What a list of numbers has at a place. -/
def atM (M : List Int) (p : Nat) : Int := M[p]?.getD 0
theorem atM_get {M : List Int} {p : Nat} (h : p < M.length) : atM M p = M[p] := by unfold atM; rw [List.getElem?_eq_getElem h]; rfl
def LeM (M M' : List Int) : Prop := ∀ p, atM M p ≤ atM M' p
theorem LeM.refl (M : List Int) : LeM M M := fun _ => Int.le_refl _
theorem LeM.trans {A B C : List Int} (h : LeM A B) (k : LeM B C) : LeM A C := fun p => Int.le_trans (h p) (k p)
/-- Place p raised to c at least. -/
def raiseM (M : List Int) (p : Nat) (c : Int) : List Int := M.set p (max (atM M p) c)
theorem raiseM_len (M : List Int) (p : Nat) (c : Int) : (raiseM M p c).length = M.length := by simp [raiseM]
theorem atM_raise {M : List Int} {p : Nat} (h : p < M.length) (c : Int) (p' : Nat) : atM (raiseM M p c) p' = if p' = p then max (atM M p) c else atM M p' := by
  unfold raiseM
  by_cases e : p' = p
  · subst e
    rw [if_pos rfl]
    unfold atM
    rw [List.getElem?_set_self h]; rfl
  · rw [if_neg e]
    unfold atM
    rw [List.getElem?_set_ne (fun h => e h.symm)]
theorem LeM.raise {M : List Int} {p : Nat} (h : p < M.length) (c : Int) : LeM M (raiseM M p c) := fun p' => by
  rw [atM_raise h]
  split
  · subst p'; exact Int.le_max_left _ _
  · exact Int.le_refl _
theorem raise_at {M : List Int} {p : Nat} (h : p < M.length) (c : Int) : c ≤ atM (raiseM M p c) p := by
  rw [atM_raise h, if_pos rfl]; exact Int.le_max_right _ _

/-- All that the numbers say is met. -/
def SoundM (n : Int) (R : List RepD) (m : List Int) (M : List Int) : Prop := ∀ p (q : Nat), (q : Int) < atM M p → metM n R m p q = true
theorem SoundM.raise {n : Int} {R : List RepD} {m : List Int} {M : List Int} {p : Nat} {c : Int} (h : SoundM n R m M) (hp : p < M.length) (hc : ∀ q : Nat, (q : Int) < c → metM n R m p q = true) : SoundM n R m (raiseM M p c) := fun p' q hq => by
  rw [atM_raise hp] at hq
  split at hq
  · subst p'
    by_cases e : (q : Int) < atM M p
    · exact h p q e
    · exact hc q (by omega)
  · exact h p' q hq
/-- They say all that a row, a table tells. -/
def DoneR (M : List Int) (r : RowD) : Prop := r.st = 3 → ∀ i, depI r i ≤ atM M i
def DoneL (M : List Int) (T : List (List RowD)) (p : Nat) : Prop := ∀ (hp : p < T.length), (T[p].length : Int) ≤ atM M p ∧ ∀ j (hj : j < T[p].length), DoneR M T[p][j]
def DoneT (M : List Int) (T : List (List RowD)) : Prop := ∀ p, DoneL M T p
theorem DoneR.more {M M' : List Int} {r : RowD} (h : DoneR M r) (k : LeM M M') : DoneR M' r := fun e i => Int.le_trans (h e i) (k i)
theorem DoneL.more {M M' : List Int} {T : List (List RowD)} {p : Nat} (h : DoneL M T p) (k : LeM M M') : DoneL M' T p := fun hp => ⟨Int.le_trans (h hp).1 (k p), fun j hj => ((h hp).2 j hj).more k⟩
theorem DoneT.more {M M' : List Int} {T : List (List RowD)} (h : DoneT M T) (k : LeM M M') : DoneT M' T := fun p => (h p).more k
theorem DoneT.met {n : Int} {M : List Int} {T : List (List RowD)} (h : DoneT M T) {p q : Nat} (hm : metB n T p q = true) : (q : Int) < atM M p := by
  unfold metB at hm
  rcases Bool.or_eq_true_iff.1 hm with hm | hm
  · obtain ⟨hp, hq⟩ := inT_of hm
    have := (h p hp).1
    omega
  · unfold hungB at hm
    obtain ⟨x, hx, hd⟩ := List.any_eq_true.1 hm
    have hd := of_decide_eq_true hd
    obtain ⟨hp, hq, hs⟩ := instCom_lt (mem_insts.1 hx)
    rw [rowOf_in hp hq] at hd
    have h1 := (mem_hungL.1 hd).2
    have h2 := (h x.1 hp).2 x.2 hq hs p
    unfold depM at h1
    simp only at h1
    omega
theorem metM_of {n : Int} {R : List RepD} {m : List Int} {a : Int} (ha : a ∈ m) {p q : Nat} (h : metB n (tabR R a.toNat) p q = true) : metM n R m p q = true := List.any_eq_true.2 ⟨a, ha, h⟩
theorem met_len {n : Int} {T : List (List RowD)} {p q : Nat} (hp : p < T.length) (hq : q < T[p].length) : metB n T p q = true := by unfold metB; rw [inT_mk hp hq]; rfl
theorem met_dep {n : Int} {T : List (List RowD)} {p q j i : Nat} (hp : p < T.length) (hj : j < T[p].length) (hs : T[p][j].st = 3) (hi : i < T[p][j].l.length) (hq : (q : Int) < depI T[p][j] i) : metB n T i q = true := by
  have hc : instCom T p j = true := by rw [instCom_in hp hj]; simp [hs]
  unfold metB hungB
  rw [Bool.or_eq_true_iff]
  refine .inr (List.any_eq_true.2 ⟨(p, j), mem_insts.2 hc, decide_eq_true ?_⟩)
  rw [rowOf_in hp hj, mem_hungL]
  refine ⟨hi, ?_⟩
  unfold depM
  simp only
  omega
open Classical in
/-- What is settled for all is asked by the numbers. -/
theorem fin_iff {n : Int} {R : List RepD} {m : List Int} {M : List Int} (hs : SoundM n R m M) (hd : ∀ a ∈ m, DoneT M (tabR R a.toNat)) : finB n R m = true ↔ ∀ p (q : Nat), (q : Int) < atM M p → allCom R m p q = true := by
  constructor
  · intro h p q hq
    unfold finB at h
    have := of_decide_eq_true h p q
    unfold openB at this
    rw [hs p q hq] at this
    simpa using this
  · intro h
    refine finB_yes fun p q hm => ?_
    obtain ⟨a, ha, hb⟩ := List.any_eq_true.1 hm
    exact h p q ((hd a ha).met hb)
end Go.Proofs.YtbffkidkfannhaaGreat

namespace Go.Proofs.YtbffkidkfannhaaGreat
open Go.RowKit
set_option linter.unusedVariables false

/-- Has FinishedIn an answer? -/
def okF (R : List RepD) (Ms : List MsgD) (K : List AskD) (m : List Int) : Bool := goodNet R Ms K && (!decide (m.length = 0) && riseB m 0 ((R.length : Int) - 1))
noncomputable def isF (R : List RepD) (Ms : List MsgD) (K : List AskD) (m : List Int) : Bool := okF R Ms K m && finB R.length R m
theorem okF_no0 {R : List RepD} {Ms : List MsgD} {K : List AskD} {m : List Int} (h : goodNet R Ms K = false) : okF R Ms K m = false := by unfold okF; rw [h]; rfl
theorem okF_no1 {R : List RepD} {Ms : List MsgD} {K : List AskD} {m : List Int} (h : m.length = 0) : okF R Ms K m = false := by unfold okF; rw [decide_eq_true h]; simp
theorem okF_no2 {R : List RepD} {Ms : List MsgD} {K : List AskD} {m : List Int} (h : riseB m 0 ((R.length : Int) - 1) = false) : okF R Ms K m = false := by unfold okF; rw [h]; simp
theorem okF_yes {R : List RepD} {Ms : List MsgD} {K : List AskD} {m : List Int} (h : goodNet R Ms K = true) (h1 : ¬ m.length = 0) (h2 : riseB m 0 ((R.length : Int) - 1) = true) : okF R Ms K m = true := by unfold okF; rw [h, h2, decide_eq_false h1]; rfl
theorem isF_no {R : List RepD} {Ms : List MsgD} {K : List AskD} {m : List Int} (h : okF R Ms K m = false) : isF R Ms K m = false := by unfold isF; rw [h]; rfl
theorem isF_yes {R : List RepD} {Ms : List MsgD} {K : List AskD} {m : List Int} (h : okF R Ms K m = true) : isF R Ms K m = finB R.length R m := by unfold isF; rw [h]; rfl
end Go.Proofs.YtbffkidkfannhaaGreat

namespace Go.Proofs.YtbffkidkfannhaaGreat
open Go.RowKit
set_option linter.unusedVariables false

theorem tab_res (w : World) (n : Int) (u : Value) (T T' : TypeId) :
    AttrAt ((w.alloc (.cells #[.int .i64 n, u] T)).alloc (.cells #[.int .i64 0, .int .i64 0, .int .i64 0, .int .i64 0, .int .i64 0, .int .i64 0, .int .i64 0, .int .i64 0, .int .i64 0, .slice none 0 0] T')) w.heap.size n u ∧
    RowAt ((w.alloc (.cells #[.int .i64 n, u] T)).alloc (.cells #[.int .i64 0, .int .i64 0, .int .i64 0, .int .i64 0, .int .i64 0, .int .i64 0, .int .i64 0, .int .i64 0, .int .i64 0, .slice none 0 0] T')) (w.heap.size + 1) ⟨0, 0, 0, 0, 0, 0, 0, 0, 0, []⟩ (.slice none 0 0) ∧
      FreeAt ((w.alloc (.cells #[.int .i64 n, u] T)).alloc (.cells #[.int .i64 0, .int .i64 0, .int .i64 0, .int .i64 0, .int .i64 0, .int .i64 0, .int .i64 0, .int .i64 0, .int .i64 0, .slice none 0 0] T')) (w.heap.size + 1) := by
  refine ⟨⟨?_, ?_⟩, ⟨?_, ?_, ?_, ?_, ?_, ?_, ?_, ?_, ?_, ?_⟩, ⟨?_, ?_, ?_, ?_, ?_, ?_, ?_, ?_, ?_, ?_⟩⟩ <;> go_simp

set_option maxHeartbeats 2000000 in
set_option maxRecDepth 100000 in
theorem l4At_any (n : Int) (u : Value) (T : List (List RowD)) (p q : Nat) (w : World) (hu : Rowzz w u T) (hg : goodTab n T = true) (hp : p < T.length) (hq : q ≤ 5) :
    Calls Tryz.prog 49 #[.agg #[.int .i64 n, u], .int .i64 p, .int .i64 ((q : Int) + 1)] w (NewRow (rowOf n T p q) w) := by
  have hu0 := hu
  obtain ⟨au, cu, rfl, hlu, _, hcu⟩ := hu
  unfold maxLen at hlu
  obtain ⟨bu, ou, rfl, du⟩ := hcu (by omega)
  obtain ⟨x, hx1, ix⟩ := du p hp
  obtain ⟨R, hR⟩ : ∃ R, R = T[p] := ⟨_, rfl⟩
  rw [← hR] at ix
  obtain ⟨wb, hwb⟩ : ∃ wb, wb = (w.alloc (.cells #[.int .i64 n, .slice (some ⟨bu, ou, none⟩) T.length cu] 67)).alloc (.cells #[.int .i64 0, .int .i64 0, .int .i64 0, .int .i64 0, .int .i64 0, .int .i64 0, .int .i64 0, .int .i64 0, .int .i64 0, .slice none 0 0] 101) := ⟨_, rfl⟩
  have ho := tab_res w n (.slice (some ⟨bu, ou, none⟩) T.length cu) 67 101
  rw [← hwb] at ho
  have xb : Ext w wb := by rw [hwb]; exact ((Ext.refl w).alloc _).alloc _
  have sb : w.heap.size + 2 ≤ wb.heap.size := by rw [hwb]; simp
  have gx := xb.cell hx1
  have ixb := ix.ext xb
  obtain ⟨ax, cx, rfl, hlx, _, hcx⟩ := ixb
  unfold maxLen at hlx
  have hgrp := (goodTab_of hg).1
  by_cases hqt : q < R.length
  · have hqt' : q < T[p].length := by rw [← hR]; exact hqt
    have hrow := goodTab_row hg hp hqt'
    have e : rowOf n T p q = R[q] := by rw [rowOf_in hp hqt']; simp only [hR]
    rw [e]
    obtain ⟨d, hd⟩ : ∃ d, d = R[q] := ⟨_, rfl⟩
    obtain ⟨bx, ox, rfl, dx⟩ := hcx (by omega)
    obtain ⟨y, hy1, iy⟩ := dx q hqt
    rw [← hd] at hy1 iy ⊢
    have hdl : d.l.length ≤ 1048576 := by have : d = T[p][q] := by rw [hd]; simp only [hR]
                                          rw [this]; omega
    have HWB := Lib.hid hwb
    have HO := Lib.hid ho
    have IY := Lib.hid iy
    have SB := Lib.hid sb
    obtain ⟨g0, g1, g2, g3, g4, g5, g6, g7, g8, g9⟩ := hy1
    obtain ⟨t0, t1⟩ := ho.1
    have hq0 : (q : Int) ≤ 5 := by omega
    have hq1 : (q : Int) + 1 ≤ R.length := by omega
    rw [hwb] at g0 g1 g2 g3 g4 g5 g6 g7 g8 g9 gx t0 t1
    clear hwb ho hu0 hcu du hx1 ix hR hcx dx iy hd hrow hqt' e hg hgrp sb
    go_enter Tryz.func49, Tryz.ntmps49
    go_wp2_with fail
    rw [← HWB.out]
    refine (l4OwnRow_any d y _ IY.out hdl).mono ?_
    rintro e w1 ⟨v, rfl, f1, x1⟩
    have hx := xb.trans x1
    obtain ⟨o0, o1, o2, o3, o4, o5, o6, o7, o8, o9⟩ := HO.out.2.1.ext x1
    obtain ⟨z0, z1, z2, z3, z4, z5, z6, z7, z8, z9⟩ := HO.out.2.2.ext (by have := SB.out; omega) x1
    obtain ⟨ay, cy, rfl⟩ := f1.form
    have F := Lib.hid f1
    clear f1 x1 xb g0 g1 g2 g3 g4 g5 g6 g7 g8 g9 gx t0 t1
    go_wp2
    refine bodyPost_ret (v := .agg #[.int .i64 d.b, .int .i64 d.v, .int .i64 d.st, .int .i64 d.k, .int .i64 d.i, .int .i64 d.f, .int .i64 d.t, .int .i64 d.a, .int .i64 d.s, .slice ay d.l.length cy]) (by simp [results, Tryz.results49, go_sem, o0, o1, o2, o3, o4, o5, o6, o7, o8, o9]) rfl ⟨_, rfl, ?_, ?_⟩
    · exact ((((((((((F.out.set _ _ _ (by have := SB.out; omega)).set _ _ _ (by have := SB.out; omega)).set _ _ _ (by have := SB.out; omega)).set _ _ _ (by have := SB.out; omega)).set _ _ _ (by have := SB.out; omega)).set _ _ _ (by have := SB.out; omega)).set _ _ _ (by have := SB.out; omega)).set _ _ _ (by have := SB.out; omega)).set _ _ _ (by have := SB.out; omega)).set _ _ _ (by have := SB.out; omega)).more (by have := SB.out; omega)
    · exact (((((((((hx.setc (by dsimp only; omega)).setc (by dsimp only; omega)).setc (by dsimp only; omega)).setc (by dsimp only; omega)).setc (by dsimp only; omega)).setc (by dsimp only; omega)).setc (by dsimp only; omega)).setc (by dsimp only; omega)).setc (by dsimp only; omega)).setc (by dsimp only; omega)
  · have e : rowOf n T p q = emptyR n := rowOf_out hp (by rw [← hR]; omega)
    rw [e]
    obtain ⟨L, hL⟩ : ∃ L, L = noneL n := ⟨_, rfl⟩
    have hc := fun W => l3None_any n W hgrp
    have hLE : emptyR n = ⟨0, 0, 0, 0, 0, 0, 0, 0, 0, L⟩ := by rw [hL]; rfl
    rw [← hL] at hc
    rw [hLE]
    have HC := Lib.hid hc
    have HWB := Lib.hid hwb
    have HO := Lib.hid ho
    have SB := Lib.hid sb
    obtain ⟨t0, t1⟩ := ho.1
    have hq0 : (q : Int) ≤ 5 := by omega
    have hq1 : (R.length : Int) < (q : Int) + 1 := by omega
    rw [hwb] at gx t0 t1
    clear hwb ho hu0 hcu du hx1 ix hR hcx e hg hgrp sb hL hc hLE hqt
    go_enter Tryz.func49, Tryz.ntmps49
    go_wp2_with fail
    rw [← HWB.out]
    refine (HC.out _).mono ?_
    rintro e w1 ⟨v, rfl, f1, x1⟩
    have hx := xb.trans x1
    obtain ⟨o0, o1, o2, o3, o4, o5, o6, o7, o8, o9⟩ := HO.out.2.1.ext x1
    obtain ⟨z0, z1, z2, z3, z4, z5, z6, z7, z8, z9⟩ := HO.out.2.2.ext (by have := SB.out; omega) x1
    obtain ⟨ay, cy, rfl⟩ := f1.form
    have F := Lib.hid f1
    clear f1 x1 xb gx t0 t1
    go_wp2
    refine bodyPost_ret (v := .agg #[.int .i64 0, .int .i64 0, .int .i64 0, .int .i64 0, .int .i64 0, .int .i64 0, .int .i64 0, .int .i64 0, .int .i64 0, .slice ay L.length cy]) (by simp [results, Tryz.results49, go_sem, o0, o1, o2, o3, o4, o5, o6, o7, o8, o9]) rfl ⟨_, rfl, ?_, ?_⟩
    · exact ((((((((((F.out.set _ _ _ (by have := SB.out; omega)).set _ _ _ (by have := SB.out; omega)).set _ _ _ (by have := SB.out; omega)).set _ _ _ (by have := SB.out; omega)).set _ _ _ (by have := SB.out; omega)).set _ _ _ (by have := SB.out; omega)).set _ _ _ (by have := SB.out; omega)).set _ _ _ (by have := SB.out; omega)).set _ _ _ (by have := SB.out; omega)).set _ _ _ (by have := SB.out; omega)).more (by have := SB.out; omega)
    · exact (((((((((hx.setc (by dsimp only; omega)).setc (by dsimp only; omega)).setc (by dsimp only; omega)).setc (by dsimp only; omega)).setc (by dsimp only; omega)).setc (by dsimp only; omega)).setc (by dsimp only; omega)).setc (by dsimp only; omega)).setc (by dsimp only; omega)).setc (by dsimp only; omega)

end Go.Proofs.YtbffkidkfannhaaGreat

namespace Go.Proofs.YtbffkidkfannhaaGreat
open Go.RowKit

theorem field_rowSt (b v st k i f t a s : Int) (u : Value) (W : World) : (Instr.field 101 (.agg #[.int .i64 b, .int .i64 v, .int .i64 st, .int .i64 k, .int .i64 i, .int .i64 f, .int .i64 t, .int .i64 a, .int .i64 s, u]) 2).run Tryz.prog W = .ok (.int .i64 st) W := by kernel_rfl
end Go.Proofs.YtbffkidkfannhaaGreat

namespace Go.Proofs.YtbffkidkfannhaaGreat
open Go.RowKit
set_option linter.unusedVariables false

theorem l1Max_any (a b : Int) (w : World) : Calls Tryz.prog 48 #[.int .i64 a, .int .i64 b] w (fun e w' => e = .returned (.int .i64 (max a b)) ∧ w = w') := by
  by_cases h : b ≤ a
  · have E := Lib.hid (Int.max_eq_left h)
    by_cases h' : b = a
    · subst h'
      rw [E.out]
      clear E
      go_enter Tryz.func48, Tryz.ntmps48
      go_wp2
      go_ret
      exact ⟨rfl, rfl⟩
    · have h2 : b < a := by omega
      rw [E.out]
      clear E
      go_enter Tryz.func48, Tryz.ntmps48
      go_wp2
      go_ret
      exact ⟨rfl, rfl⟩
  · have h2 : a < b := by omega
    have E := Lib.hid (Int.max_eq_right (show a ≤ b by omega))
    rw [E.out]
    clear E
    go_enter Tryz.func48, Tryz.ntmps48
    go_wp2
    go_ret
    exact ⟨rfl, rfl⟩

/-- The numbers M stand in block g, all else is as it was. -/
structure MostW (wb wr : World) (g n : Nat) (M : List Int) : Prop where
  own : wr.ownsRow wb.heap.size 3 1 (.slice (some ⟨g, 0, none⟩) n n) n (M.map (Value.int .i64))
  ext : Ext wb wr
  len : M.length = n
theorem MostW.on {wb wr w' : World} {g n : Nat} {M : List Int} (h : MostW wb wr g n M) (e : Ext wr w') : MostW wb w' g n M := ⟨e.ownsRow h.own, h.ext.trans e, h.len⟩
theorem MostW.at {wb wr : World} {g n : Nat} {M : List Int} (h : MostW wb wr g n M) {p : Nat} (hp : p < n) : wr.cell? ⟨g, p, none⟩ = some (.int .i64 (atM M p)) ∧ wr.frozen? ⟨g, p, none⟩ = false := by
  refine ⟨?_, h.own.frozenAt p⟩
  rw [h.own.cellAt p (by omega), List.getElem?_map, List.getElem?_eq_getElem (by have := h.len; omega), atM_get (by have := h.len; omega)]
  rfl
theorem MostW.lo {wb wr : World} {g n : Nat} {M : List Int} (h : MostW wb wr g n M) : wb.heap.size ≤ g ∧ g < wr.heap.size := World.ownsRow.lt h.own g rfl
theorem MostW.raise {wb wr : World} {g n : Nat} {M : List Int} (h : MostW wb wr g n M) (p : Nat) (c : Int) : MostW wb (wr.setCell ⟨g, p, none⟩ (.int .i64 (max (atM M p) c))) g n (raiseM M p c) := by
  have hs := (h.own.stored p (.int .i64 (max (atM M p) c))).1
  rw [← List.map_set] at hs
  exact ⟨hs, Below.setCell h.ext h.lo.1 _, by rw [raiseM_len]; exact h.len⟩
theorem setc_off {w : World} {b o b' o' : Nat} {x v : Value} (h : w.cell? ⟨b, o, none⟩ = some v) (hne : b' ≠ b) : (w.setCell ⟨b', o', none⟩ x).cell? ⟨b, o, none⟩ = some v := by
  rw [World.cell?_setCell_other _ _ _ _ (fun e => hne (by cases e; rfl))]; exact h

/-- They say all that the first k replicas tell. -/
def DoneM (M : List Int) (R : List RepD) (m : List Int) (k : Nat) : Prop := ∀ i, i < k → ∀ (h : i < m.length), DoneT M (tabR R (m[i]).toNat)
theorem DoneM.more {M M' : List Int} {R : List RepD} {m : List Int} {k : Nat} (h : DoneM M R m k) (l : LeM M M') : DoneM M' R m k := fun i hi hm => (h i hi hm).more l
theorem DoneM.all {M : List Int} {R : List RepD} {m : List Int} (h : DoneM M R m m.length) : ∀ a ∈ m, DoneT M (tabR R a.toNat) := fun a ha => by
  obtain ⟨i, hi, rfl⟩ := List.mem_iff_getElem.1 ha
  exact h i hi hi

/-- A good net's tables. -/
theorem goodNet_tab {R : List RepD} {M : List MsgD} {K : List AskD} (h : goodNet R M K = true) {k : Nat} (hk : k < R.length) : goodTab R.length R[k].T = true ∧ R[k].n = R.length := by
  unfold goodNet at h
  simp only [Bool.and_eq_true] at h
  have h1 := (List.all_eq_true.1 h.2.1) k (List.mem_range.2 hk)
  rw [repAtB_get hk] at h1
  simp only [Bool.and_eq_true, beq_iff_eq] at h1
  obtain ⟨h2, _, h3⟩ := h1
  unfold goodRep at h2
  simp only [Bool.and_eq_true] at h2
  rw [h3] at h2
  exact ⟨h2.1, h3⟩
/-- The members of a rising list of replicas. -/
theorem rise_at {R : List RepD} {m : List Int} (h : riseB m 0 ((R.length : Int) - 1) = true) {k : Nat} (hk : k < m.length) : ∃ c : Nat, m[k] = (c : Int) ∧ c < R.length := by
  have := (riseB_of h).2 _ (List.getElem_mem hk)
  exact ⟨m[k].toNat, by omega, by omega⟩
theorem metM_low {R : List RepD} {Ms : List MsgD} {K : List AskD} {m : List Int} (hg : goodNet R Ms K = true) (hr : riseB m 0 ((R.length : Int) - 1) = true) {p q : Nat} (h : metM R.length R m p q = true) : p < R.length ∧ q < 6 := by
  obtain ⟨a, ha, hb⟩ := List.any_eq_true.1 h
  obtain ⟨i, hi, rfl⟩ := List.mem_iff_getElem.1 ha
  obtain ⟨c, hc, hcR⟩ := rise_at hr hi
  have hgt := (goodNet_tab hg hcR).1
  have e : tabR R (m[i]).toNat = R[c].T := by rw [hc]; exact tabR_get hcR
  rw [e] at hb
  have h1 := metB_low hgt hb
  have h2 := (goodTab_of hgt).2.1
  omega
theorem all_take {α : Type} {l : List α} {k : Nat} (h : k < l.length) (f : α → Bool) : (l.take (k + 1)).all f = ((l.take k).all f && f l[k]) := by
  rw [List.take_succ_eq_append_getElem h, List.all_append]
  simp
theorem fresh_two (w : World) (a b : Int) (o' : Obj) : Fresh w.heap.size ((w.alloc (.cells #[.int .i64 a, .int .i64 b] 3)).alloc o') (.slice (some ⟨w.heap.size, 0, none⟩) 2 2) [a, b] :=
  (fresh_lit w [a, b] #[.int .i64 a, .int .i64 b] _ rfl (Nat.le_refl _) (by simp)).ext (Ext.alloc1 _ _)
theorem depI_at {r : RowD} {i : Nat} (h : i < r.l.length) : r.l[i] = depI r i := by unfold depI; rw [List.getElem?_eq_getElem h]; rfl
theorem depI_out {r : RowD} {i : Nat} (h : r.l.length ≤ i) : depI r i = 0 := by unfold depI; rw [List.getElem?_eq_none h]; rfl
def NonNeg (M : List Int) : Prop := ∀ p, 0 ≤ atM M p
theorem NonNeg.more {M M' : List Int} (h : NonNeg M) (l : LeM M M') : NonNeg M' := fun p => Int.le_trans (h p) (l p)

/-- What the first loop has done. -/
structure GoM (R : List RepD) (m : List Int) (M : List Int) (k : Nat) : Prop where
  sound : SoundM R.length R m M
  done : DoneM M R m k
  pos : NonNeg M

theorem GoM.raise {R : List RepD} {m : List Int} {M : List Int} {k p : Nat} {c : Int} (h : GoM R m M k) (hp : p < M.length) (hc : ∀ q : Nat, (q : Int) < c → metM R.length R m p q = true) : GoM R m (raiseM M p c) k :=
  ⟨h.sound.raise hp hc, h.done.more (LeM.raise hp c), h.pos.more (LeM.raise hp c)⟩
theorem GoM.next {R : List RepD} {m : List Int} {M : List Int} {k : Nat} (h : GoM R m M k) (hk : k < m.length) (hd : DoneT M (tabR R (m[k]).toNat)) : GoM R m M (k + 1) :=
  ⟨h.sound, fun i hi hm => by
    by_cases e : i = k
    · subst e; exact hd
    · exact h.done i (by omega) hm, h.pos⟩
theorem rowQ_in {T : List (List RowD)} {p j : Nat} {Q : List RowD} {hp : p < T.length} (h : Q = T[p]) (hj : j < Q.length) : ∃ h' : j < T[p].length, T[p][j] = Q[j] := by
  subst h
  exact ⟨hj, rfl⟩
theorem ownsRow_at {w : World} {B B' e sz n c m g : Nat} {g' : Nat} {xs : List Value} (h : w.ownsRow B e sz (.slice (some ⟨g', 0, none⟩) n c) m xs) (hg : g' = g) (hb : B' ≤ g) : w.ownsRow B' e sz (.slice (some ⟨g, 0, none⟩) n c) m xs := by
  subst hg
  rcases h.2 with ⟨hv, _⟩ | ⟨g2, cap, cur, hv, hb2, rest⟩
  · cases hv
  · have hg2 : g' = g2 := by
      have := hv
      simp only [Value.slice.injEq, Option.some.injEq, Addr.mk.injEq, and_true] at this
      exact this.1
    subst hg2
    exact ⟨h.1, .inr ⟨g', cap, cur, hv, hb, rest⟩⟩

set_option maxHeartbeats 8000000 in
set_option maxRecDepth 100000 in
theorem l10Open_any (u v z mv : Value) (R : List RepD) (Ms : List MsgD) (K : List AskD) (m : List Int) (w : World) (hn : NetL w u v z R Ms K) (hm : Ints w mv m) (hg : goodNet R Ms K = true) (hr : riseB m 0 ((R.length : Int) - 1) = true) :
    Calls Tryz.prog 24 #[.agg #[u, v, z], mv] w (fun e w' => ∃ x L, e = .returned x ∧ FreshSS w.heap.size w' x L ∧ decide (L.length = 0) = finB R.length R m ∧ Ext w w') := by
  obtain ⟨wb, hwb⟩ : ∃ wb, wb = w.alloc (.cells #[u, v, z] 35) := ⟨_, rfl⟩
  have x0 : Ext w wb := by rw [hwb]; exact Ext.alloc1 _ _
  have HB := Lib.hid (show BoxV wb w.heap.size [u, v, z] by rw [hwb]; exact boxV_new w [u, v, z] 35)
  have HM := Lib.hid (hm.ext x0)
  have HX0 := Lib.hid x0
  have HW := Lib.hid hwb
  have HR := Lib.hid hr
  have HG := Lib.hid hg
  have hgr := goodNet_grp hg
  have hb5 := isGrp_bd hgr
  obtain ⟨⟨au, cu, rfl, hlu, _, hcu⟩, _, _⟩ := hn.ext x0
  unfold maxLen at hlu
  have HCU := Lib.hid hcu
  obtain ⟨am, cm, rfl, hlm, _, hcm⟩ := hm.ext x0
  unfold maxLen at hlm
  have HCM := Lib.hid hcm
  obtain ⟨i0, hi, hz0, hz1, hz2⟩ := info_parts Tryz.infoInt
  have HI2 := Lib.hid hz2
  clear x0 hcu hm hn hcm hr hg hgr
  have a0 := HB.out.cell 0 _ rfl
  rw [hwb] at a0
  clear hwb
  go_enter Tryz.func24, Tryz.ntmps24
  go_wp2_with (at_make; refine wpList_make_full _ rfl _ _ 27 rfl w.heap.size 3 i0 (.int .i64 0) 1 Tryz.underlying27 hi hz0 hz1 _ _ _ _ R.length rfl rfl rfl rfl ?c1 ?c2 ?c3 ?_)
  case c1 => rw [hz2]; omega
  case c2 => unfold maxLen; omega
  case c3 => simp
  intro w1 ho1 hg1
  have hx1 : Ext wb w1 := by rw [HW.out]; exact ext_of_grown hg1
  have hsb : wb.heap.size = w.heap.size + 1 := by rw [HW.out]; simp
  have ho : MostW wb w1 (w.heap.size + 1) R.length (List.replicate R.length 0) := by
    refine ⟨?_, hx1, by simp⟩
    rw [toList_madeCells_one] at ho1
    rw [List.map_replicate, hsb]
    have h := ownsRow_at ho1 (B' := w.heap.size + 1) (g := w.heap.size + 1) (by simp) (Nat.le_refl _)
    simpa using h
  have hgo : GoM R m (List.replicate R.length 0) 0 := by
    have h0 : ∀ p, atM (List.replicate R.length (0 : Int)) p = 0 := fun p => by
      unfold atM
      rw [List.getElem?_replicate]
      split <;> rfl
    exact ⟨fun p q hq => by rw [h0] at hq; omega, fun i hi => by omega, fun p => by rw [h0]; exact Int.le_refl _⟩
  have HO1 := Lib.hid ho
  have HGO1 := Lib.hid hgo
  have HSB := Lib.hid hsb
  clear ho1 hg1 hz0 hz1 hz2 hi HI2 hx1 ho hgo a0 hsb
  go_wp2
  go_loopw [29] (fun i wr => ∃ (k : Nat) (M : List Int), k ≤ m.length ∧ i = .int .i64 k ∧ Hid (MostW wb wr (w.heap.size + 1) R.length M) ∧ Hid (GoM R m M k)) (fun i _ => m.length - (intOf i).toNat)
  case atStart => exact ⟨0, _, Nat.zero_le _, rfl, HO1, HGO1⟩
  case round =>
    clear HO1 HGO1
    obtain ⟨k, M, hk, rfl, HO, HGM⟩ := hrel
    by_cases hlt : k < m.length
    · obtain ⟨bm, om, rfl, dm⟩ := HCM.out (by omega)
      have gm0 := HO.out.ext.cell (dm k hlt)
      obtain ⟨c, hc, hcR⟩ := rise_at HR.out hlt
      rw [List.getElem?_eq_getElem hlt, Option.getD_some, hc] at gm0
      obtain ⟨b, off, rfl, dv⟩ := HCU.out (by omega)
      obtain ⟨d, hd⟩ : ∃ d, d = R[c] := ⟨_, rfl⟩
      obtain ⟨y1, y2, hy, iy⟩ := dv c hcR
      have hgt := (goodNet_tab HG.out hcR).1
      rw [← hd] at hy iy hgt
      have htab : tabR R (m[k]).toNat = d.T := by rw [hc, hd]; exact tabR_get hcR
      obtain ⟨b1, c1, rfl, hl1, _, hc1⟩ := iy.i1
      unfold maxLen at hl1
      obtain ⟨b2, c2, rfl, _⟩ := iy.i2
      obtain ⟨r0, r1, r2, r3⟩ := repIn_cells (hy.ext HO.out.ext)
      have a0 := (HB.out.ext HO.out.ext).cell 0 _ rfl
      have hTn : d.T.length = R.length := by have := (goodTab_of hgt).2.1; omega
      have HGT := Lib.hid hgt
      have HTAB := Lib.hid htab
      have HC1 := Lib.hid hc1
      have HTN := Lib.hid hTn
      have HLT := Lib.hid hlt
      have HOA := Lib.hid (HO.out.on (Ext.alloc1 wr (.cells #[.int .i64 d.n, .slice b1 d.T.length c1] 67)))
      clear dm dv hd hy iy hgt htab hc1 hc HO hTn
      go_wp2
      go_loopw [42] (fun i wr => ∃ (p : Nat) (M : List Int), p ≤ d.T.length ∧ i = .int .i64 p ∧ Hid (MostW wb wr (w.heap.size + 1) R.length M) ∧ Hid (GoM R m M k) ∧ Hid (∀ p', p' < p → DoneL M d.T p')) (fun i _ => d.T.length - (intOf i).toNat)
      case atStart => exact ⟨0, M, Nat.zero_le _, rfl, HOA, HGM, Lib.hid (fun p' h => by omega)⟩
      case round =>
        clear HOA HGM gm0 r0 r1 r2 r3 a0
        obtain ⟨p, M, hp, rfl, HO, HGM, HDN⟩ := hrel
        by_cases hpt : p < d.T.length
        · obtain ⟨bu, ou, rfl, du⟩ := HC1.out (by omega)
          obtain ⟨x, hx1, ix⟩ := du p hpt
          have gx := HO.out.ext.cell hx1
          obtain ⟨Q, hQ⟩ : ∃ Q, Q = d.T[p] := ⟨_, rfl⟩
          rw [← hQ] at ix
          obtain ⟨ax, cx, rfl, hlx, _, hcx⟩ := ix
          unfold maxLen at hlx
          have hpn : p < R.length := by have := HTN.out; omega
          have hMl := HO.out.len
          obtain ⟨gm, gf⟩ := HO.out.at hpn
          have HO2 := Lib.hid (HO.out.raise p (Q.length : Int))
          have HGM2 := Lib.hid (HGM.out.raise (p := p) (c := (Q.length : Int)) (by omega) (fun q hq => metM_of (List.getElem_mem HLT.out) (by rw [HTAB.out]; exact met_len hpt (by rw [← hQ]; omega))))
          have HDN2 : Hid ((∀ p', p' < p → DoneL (raiseM M p (Q.length : Int)) d.T p') ∧ (Q.length : Int) ≤ atM (raiseM M p (Q.length : Int)) p) := Lib.hid ⟨fun p' h => (HDN.out p' h).more (LeM.raise (by omega) _), raise_at (by omega) _⟩
          have HQ := Lib.hid hQ
          have HCX := Lib.hid hcx
          have HPT := Lib.hid hpt
          clear du hx1 hQ hcx hMl HO HGM HDN
          go_wp2_with fail
          refine (l1Max_any _ _ _).mono ?_
          rintro e w' ⟨rfl, rfl⟩
          go_wp2
          clear gx gm gf
          go_loopw [59] (fun i wr => ∃ (j : Nat) (M : List Int), j ≤ Q.length ∧ i = .int .i64 j ∧ Hid (MostW wb wr (w.heap.size + 1) R.length M) ∧ Hid (GoM R m M k) ∧ Hid (((∀ p', p' < p → DoneL M d.T p') ∧ (Q.length : Int) ≤ atM M p) ∧ ∀ j' (h : j' < Q.length), j' < j → DoneR M Q[j'])) (fun i _ => Q.length - (intOf i).toNat)
          case atStart => exact ⟨0, _, Nat.zero_le _, rfl, HO2, HGM2, Lib.hid ⟨HDN2.out, fun j' h1 h2 => by omega⟩⟩
          case round =>
            clear HO2 HGM2 HDN2
            obtain ⟨j, M, hj, rfl, HO, HGM, HDN⟩ := hrel
            by_cases hjt : j < Q.length
            · obtain ⟨bx, ox, rfl, dx⟩ := HCX.out (by omega)
              obtain ⟨y, hy1, iy⟩ := dx j hjt
              obtain ⟨r, hr⟩ : ∃ r, r = Q[j] := ⟨_, rfl⟩
              rw [← hr] at hy1 iy
              have gy := hy1.ext HO.out.ext
              obtain ⟨ay, cy, rfl, hly, _, hcy⟩ := iy
              unfold maxLen at hly
              obtain ⟨hj', ej⟩ := rowQ_in HQ.out hjt
              rw [← hr] at ej
              have hrl : r.l.length = R.length := by
                have h := (goodTab_row HGT.out HPT.out hj').2.1
                rw [ej] at h
                omega
              have hmet : r.st = 3 → ∀ i, i < r.l.length → ∀ q : Nat, (q : Int) < depI r i → metM R.length R m i q = true := by
                intro hs i hi q hq
                refine metM_of (List.getElem_mem HLT.out) ?_
                rw [HTAB.out]
                exact met_dep (p := p) (j := j) HPT.out hj' (by rw [ej]; exact hs) (by rw [ej]; exact hi) (by rw [ej]; exact hq)
              have HMET := Lib.hid hmet
              have HRL := Lib.hid hrl
              have HRR := Lib.hid hr
              have HCY := Lib.hid hcy
              have HJT := Lib.hid hjt
              have hN : w.heap.size + 1 < wr.heap.size := HO.out.lo.2
              obtain ⟨N, hNe⟩ : ∃ N, N = wr.heap.size := ⟨_, rfl⟩
              have hst4 : (wr.alloc (.cells #[.int .i64 r.b, .int .i64 r.v, .int .i64 r.st, .int .i64 r.k, .int .i64 r.i, .int .i64 r.f, .int .i64 r.t, .int .i64 r.a, .int .i64 r.s, .slice ay r.l.length cy] 101)).cell? ⟨N, 2, none⟩ = some (.int .i64 r.st) := by rw [hNe]; go_simp
              have HST := Lib.hid hst4
              have HOA := Lib.hid (HO.out.on (Ext.alloc1 wr (.cells #[.int .i64 r.b, .int .i64 r.v, .int .i64 r.st, .int .i64 r.k, .int .i64 r.i, .int .i64 r.f, .int .i64 r.t, .int .i64 r.a, .int .i64 r.s, .slice ay r.l.length cy] 101)))
              have HNE := Lib.hid hNe
              have HN : Hid (w.heap.size + 1 ≠ N) := Lib.hid (by omega)
              obtain ⟨g0, g1, g2, g3, g4, g5, g6, g7, g8, g9⟩ := gy
              clear dx hy1 hr hrl hmet hcy hN hst4 HO hNe ej hj'
              go_wp2
              rw [← HNE.out]
              clear g0 g1 g2 g3 g4 g5 g6 g7 g8 g9 HNE
              go_loopw [67] (fun i wr => ∃ (q : Nat) (M : List Int), q ≤ r.l.length ∧ i = .int .i64 q ∧ Hid (MostW wb wr (w.heap.size + 1) R.length M) ∧ Hid (GoM R m M k) ∧ Hid (((∀ p', p' < p → DoneL M d.T p') ∧ (Q.length : Int) ≤ atM M p) ∧ ∀ j' (h : j' < Q.length), j' < j → DoneR M Q[j']) ∧ Hid (r.st = 3 → ∀ i, i < q → depI r i ≤ atM M i) ∧ Hid (wr.cell? ⟨N, 2, none⟩ = some (.int .i64 r.st))) (fun i _ => r.l.length - (intOf i).toNat)
              case atStart => exact ⟨0, M, Nat.zero_le _, rfl, HOA, HGM, HDN, Lib.hid (fun _ i h => by omega), HST⟩
              case round =>
                clear HOA HGM HDN HST
                obtain ⟨q, M, hq, rfl, HO, HGM, HDN, HDQ, HST⟩ := hrel
                by_cases hqt : q < r.l.length
                · obtain ⟨b3, o3, rfl, dy⟩ := HCY.out (by omega)
                  have gq : wr.cell? ⟨b3, o3 + q, none⟩ = some (.int .i64 (depI r q)) := HO.out.ext.cell (dy q hqt)
                  have gst := HST.out
                  obtain ⟨v, hv⟩ : ∃ v, v = depI r q := ⟨_, rfl⟩
                  rw [← hv] at gq
                  have HV := Lib.hid hv
                  have HQT := Lib.hid hqt
                  clear dy hv
                  cases hs : (r.st == 3) with
                  | false =>
                    have HS : Hid (¬ r.st = 3) := Lib.hid (by simpa using hs)
                    go_wp2
                    go_roundw
                    case rel => exact ⟨q + 1, M, by have := HQT.out; omega, by go_num, HO, HGM, HDN, Lib.hid (fun e => absurd e HS.out), HST⟩
                    case measure => simp [intOf]; have := HQT.out; omega
                  | true =>
                    have hs3 : r.st = 3 := by simpa using hs
                    have hqn : q < R.length := by have := HRL.out; omega
                    have hMl := HO.out.len
                    obtain ⟨gm, gf⟩ := HO.out.at hqn
                    have HO2 := Lib.hid (HO.out.raise q v)
                    have hle : LeM M (raiseM M q v) := LeM.raise (by omega) v
                    have HGM2 := Lib.hid (HGM.out.raise (p := q) (c := v) (by omega) (fun z hz => HMET.out hs3 q hqt z (by rw [← HV.out]; exact hz)))
                    have HDN2 : Hid (((∀ p', p' < p → DoneL (raiseM M q v) d.T p') ∧ (Q.length : Int) ≤ atM (raiseM M q v) p) ∧ ∀ j' (h : j' < Q.length), j' < j → DoneR (raiseM M q v) Q[j']) := Lib.hid ⟨⟨fun p' h => (HDN.out.1.1 p' h).more hle, Int.le_trans HDN.out.1.2 (hle p)⟩, fun j' h1 h2 => (HDN.out.2 j' h1 h2).more hle⟩
                    have HDQ2 : Hid (r.st = 3 → ∀ i, i < q + 1 → depI r i ≤ atM (raiseM M q v) i) := Lib.hid (fun e i hi => by
                      by_cases hiq : i = q
                      · rw [hiq, ← HV.out]; exact raise_at (by omega) v
                      · exact Int.le_trans (HDQ.out e i (by omega)) (hle i))
                    have HST2 : Hid ((wr.setCell ⟨w.heap.size + 1, q, none⟩ (.int .i64 (max (atM M q) v))).cell? ⟨N, 2, none⟩ = some (.int .i64 r.st)) := Lib.hid (setc_off HST.out HN.out)
                    clear hs3 hMl hle HO HGM HDN HDQ HST
                    go_wp2_with fail
                    refine (l1Max_any _ _ _).mono ?_
                    rintro e w' ⟨rfl, rfl⟩
                    go_wp2
                    go_roundw
                    case rel => exact ⟨q + 1, _, by have := HQT.out; omega, by go_num, HO2, HGM2, HDN2, HDQ2, HST2⟩
                    case measure => simp [intOf]; have := HQT.out; omega
                · obtain rfl : q = r.l.length := by omega
                  have HDN2 : Hid (((∀ p', p' < p → DoneL M d.T p') ∧ (Q.length : Int) ≤ atM M p) ∧ ∀ j' (h : j' < Q.length), j' < j + 1 → DoneR M Q[j']) := Lib.hid ⟨HDN.out.1, fun j' h1 h2 => by
                    by_cases e : j' = j
                    · subst e
                      rw [← HRR.out]
                      intro hs i
                      by_cases hi : i < r.l.length
                      · exact HDQ.out hs i hi
                      · rw [depI_out (by omega)]; exact HGM.out.pos i
                    · exact HDN.out.2 j' h1 (by omega)⟩
                  clear HDN HDQ HST
                  go_wp2
                  go_roundw
                  case rel => exact ⟨j + 1, M, by have := HJT.out; omega, by go_num, HO, HGM, HDN2⟩
                  case measure => simp [intOf]; have := HJT.out; omega
            · obtain rfl : j = Q.length := by omega
              have HDN2 : Hid (∀ p', p' < p + 1 → DoneL M d.T p') := Lib.hid (fun p' h => by
                by_cases e : p' = p
                · subst e
                  intro hp
                  rw [← HQ.out]
                  exact ⟨HDN.out.1.2, fun j' h' => HDN.out.2 j' h' h'⟩
                · exact HDN.out.1.1 p' (by omega))
              clear HDN
              go_wp2
              go_roundw
              case rel => exact ⟨p + 1, M, by have := HPT.out; omega, by go_num, HO, HGM, HDN2⟩
              case measure => simp [intOf]; have := HPT.out; omega
        · obtain rfl : p = d.T.length := by omega
          have HGM2 : Hid (GoM R m M (k + 1)) := Lib.hid (HGM.out.next HLT.out (by
            rw [HTAB.out]
            intro p'
            by_cases h : p' < d.T.length
            · exact HDN.out p' h
            · exact fun hp => absurd hp h))
          clear HGM HDN
          go_wp2
          go_roundw
          case rel => exact ⟨k + 1, M, by have := HLT.out; omega, by go_num, HO, HGM2⟩
          case measure => simp [intOf]; have := HLT.out; omega
    · obtain rfl : k = m.length := by omega
      have hfin := fin_iff HGM.out.sound HGM.out.done.all
      have hlow : ∀ p, 0 ≤ atM M p ∧ atM M p ≤ 6 := fun p => by
        refine ⟨HGM.out.pos p, ?_⟩
        by_cases h : 6 < atM M p
        · have := (metM_low HG.out HR.out (HGM.out.sound p 6 h)).2
          omega
        · omega
      have HFIN := Lib.hid hfin
      have HLOW := Lib.hid hlow
      clear hfin hlow HGM
      obtain ⟨wo, hwo⟩ : ∃ wo : World, wo = wr := ⟨_, rfl⟩
      subst hwo
      go_wp2
      go_loopw [16, 17] (fun o i wr => ∃ (p : Nat) (L : List (List Int)), p ≤ R.length ∧ i = .int .i64 p ∧ Hid (FreshSS wo.heap.size wr o L) ∧ Hid (L.length ≤ 6 * p) ∧ Hid (L.length = 0 ↔ ∀ p', p' < p → ∀ q : Nat, (q : Int) < atM M p' → allCom R m p' q = true) ∧ Hid (Ext wo wr)) (fun _ i _ => R.length - (intOf i).toNat)
      case atStart => exact ⟨0, [], Nat.zero_le _, rfl, Lib.hid (FreshSS.nil _ _), Lib.hid (by simp), Lib.hid ⟨fun _ p' h => by omega, fun _ => rfl⟩, Lib.hid (Ext.refl _)⟩
      case round =>
        obtain ⟨p, L, hp, rfl, HF, HLL, HI, HX⟩ := hrel
        by_cases hpt : p < R.length
        · have HPT := Lib.hid hpt
          obtain ⟨v, hv⟩ : ∃ v, v = atM M p := ⟨_, rfl⟩
          have HV := Lib.hid hv
          have hv6 : 0 ≤ v ∧ v ≤ 6 := by rw [hv]; exact HLOW.out p
          have hgm : wo.cell? ⟨w.heap.size + 1, p, none⟩ = some (.int .i64 v) := by rw [hv]; exact (HO.out.at hpt).1
          have HGC := Lib.hid hgm
          have HV6 := Lib.hid hv6
          clear hv hgm hv6
          go_wp2
          go_loopw [16, 18] (fun o i wr => ∃ (q : Nat) (L : List (List Int)), (q : Int) ≤ v ∧ i = .int .i64 ((q : Int) + 1) ∧ Hid (FreshSS wo.heap.size wr o L) ∧ Hid (L.length ≤ 6 * p + q) ∧ Hid (L.length = 0 ↔ (∀ p', p' < p → ∀ q : Nat, (q : Int) < atM M p' → allCom R m p' q = true) ∧ ∀ q', q' < q → allCom R m p q' = true) ∧ Hid (Ext wo wr)) (fun _ i _ => (v + 1 - intOf i).toNat)
          case atStart => exact ⟨0, L, HV6.out.1, rfl, HF, Lib.hid (by have := HLL.out; omega), Lib.hid ⟨fun h => ⟨HI.out.1 h, fun q' h => by omega⟩, fun h => HI.out.2 h.1⟩, HX⟩
          case round =>
            clear HF HLL HI HX
            obtain ⟨q, L, hq, rfl, HF, HLL, HI, HX⟩ := hrel
            have gm := HX.out.cell HGC.out
            by_cases hqt : (q : Int) + 1 ≤ v
            · have HQT := Lib.hid hqt
              go_wp2
              clear gm
              obtain ⟨o0, ho0⟩ : ∃ o0 : Value, o0 = u16 := ⟨_, rfl⟩
              obtain ⟨wp, hwp⟩ : ∃ wp : World, wp = wr := ⟨_, rfl⟩
              subst hwp
              go_loopw [19, 103] (fun fl i wr => ∃ (k : Nat) (b : Bool), k ≤ m.length ∧ fl = .bool b ∧ i = .int .i64 k ∧ Hid (b = (m.take k).all fun a => instCom (tabR R a.toNat) p q) ∧ Hid (Ext wp wr)) (fun _ i _ => m.length - (intOf i).toNat)
              case atStart => exact ⟨0, true, Nat.zero_le _, rfl, rfl, Lib.hid (by simp), Lib.hid (Ext.refl _)⟩
              case round =>
                obtain ⟨k, b, hk, rfl, rfl, HB2, HY⟩ := hrel
                by_cases hkt : k < m.length
                · obtain ⟨bm, om, rfl, dm⟩ := HCM.out (by omega)
                  have hxx : Ext wb wr := HO.out.ext.trans (HX.out.trans HY.out)
                  have gm0 := hxx.cell (dm k hkt)
                  obtain ⟨c, hc, hcR⟩ := rise_at HR.out hkt
                  rw [List.getElem?_eq_getElem hkt, Option.getD_some, hc] at gm0
                  have hall : ((m.take (k + 1)).all fun a => instCom (tabR R a.toNat) p q) = (((m.take k).all fun a => instCom (tabR R a.toNat) p q) && instCom (tabR R (m[k]'hkt).toNat) p q) := all_take hkt (fun a => instCom (tabR R a.toNat) p q)
                  have HKT := Lib.hid hkt
                  cases b with
                  | false =>
                    have HB3 : Hid (false = (m.take (k + 1)).all fun a => instCom (tabR R a.toNat) p q) := Lib.hid (by rw [hall, ← HB2.out]; rfl)
                    clear hall hc dm hxx
                    go_wp2
                    go_roundw
                    case rel => exact ⟨k + 1, false, by have := HKT.out; omega, rfl, by go_num, HB3, HY⟩
                    case measure => simp [intOf]; have := HKT.out; omega
                  | true =>
                    obtain ⟨b, off, rfl, dv⟩ := HCU.out (by omega)
                    obtain ⟨d, hd⟩ : ∃ d, d = R[c] := ⟨_, rfl⟩
                    obtain ⟨y1, y2, hy, iy⟩ := dv c hcR
                    have hgt := goodNet_tab HG.out hcR
                    rw [← hd] at hy iy hgt
                    have htab : tabR R (m[k]'hkt).toNat = d.T := by rw [hc, hd]; exact tabR_get hcR
                    obtain ⟨hg1, hg2⟩ := hgt
                    have hTl : p < d.T.length := by have := (goodTab_of hg1).2.1; have := HPT.out; omega
                    have hg3 : goodTab d.n d.T = true := by rw [hg2]; exact hg1
                    have i1 := iy.i1.ext hxx
                    obtain ⟨b1, c1, rfl, _⟩ := id iy.i1
                    obtain ⟨b2, c2, rfl, _⟩ := id iy.i2
                    obtain ⟨r0, r1, r2, r3⟩ := repIn_cells (hy.ext hxx)
                    have a0 := (HB.out.ext hxx).cell 0 _ rfl
                    have hq5 : q ≤ 5 := by have := HQT.out; have := HV6.out; omega
                    have cR := l4At_any d.n _ d.T p q _ i1 hg3 hTl hq5
                    have hB3 : ((rowOf d.n d.T p q).st == 3) = (m.take (k + 1)).all fun a => instCom (tabR R a.toNat) p q := by rw [hall, ← HB2.out, htab, instCom_rowOf hTl]; rfl
                    obtain ⟨r, hr⟩ : ∃ r, r = rowOf d.n d.T p q := ⟨_, rfl⟩
                    rw [← hr] at cR hB3
                    have CR := Lib.hid cR
                    have HB3 := Lib.hid hB3
                    clear dm dv hd hy iy hg1 hg2 hg3 htab hc hTl hall i1 hxx hq5 cR hB3 hr
                    go_wp2_with fail
                    refine CR.out.mono ?_
                    rintro e w5 ⟨u5, rfl, f5, x5⟩
                    obtain ⟨a5, c5, rfl⟩ := f5.form
                    have HY5 := Lib.hid (HY.out.trans x5)
                    have hfs := field_rowSt r.b r.v r.st r.k r.i r.f r.t r.a r.s (.slice a5 r.l.length c5)
                    clear f5 x5 gm0 r0 r1 r2 r3 a0
                    go_wp2
                    go_roundw
                    case rel => exact ⟨k + 1, _, by have := HKT.out; omega, rfl, by go_num, HB3, HY5⟩
                    case measure => simp [intOf]; have := HKT.out; omega
                · obtain rfl : k = m.length := by omega
                  have hb : b = allCom R m p q := by rw [HB2.out, List.take_length]; rfl
                  have HBB := Lib.hid hb
                  have HXY := Lib.hid (HX.out.trans HY.out)
                  have HF7 := Lib.hid (HF.out.ext HY.out)
                  have hqb : (q : Int) + 1 ≤ 6 := by have := HQT.out; have := HV6.out; omega
                  clear hb HB2 hkt HF HX
                  cases b with
                  | true =>
                    have HI2 : Hid (L.length = 0 ↔ (∀ p', p' < p → ∀ q : Nat, (q : Int) < atM M p' → allCom R m p' q = true) ∧ ∀ q', q' < q + 1 → allCom R m p q' = true) := Lib.hid ⟨fun h => ⟨(HI.out.1 h).1, fun q' h' => by
                      by_cases e : q' = q
                      · rw [e]; exact HBB.out.symm
                      · exact (HI.out.1 h).2 q' (by omega)⟩, fun h => HI.out.2 ⟨h.1, fun q' h' => h.2 q' (by omega)⟩⟩
                    clear HI
                    go_wp2
                    go_roundw
                    case rel => exact ⟨q + 1, L, by have := HQT.out; omega, by go_num, HF7, Lib.hid (by have := HLL.out; omega), HI2, HXY⟩
                    case measure => simp [intOf]; have := HQT.out; omega
                  | false =>
                    have HI2 : Hid ((L ++ [[(p : Int), (q : Int) + 1]]).length = 0 ↔ (∀ p', p' < p → ∀ q : Nat, (q : Int) < atM M p' → allCom R m p' q = true) ∧ ∀ q', q' < q + 1 → allCom R m p q' = true) := Lib.hid ⟨fun h => by simp at h, fun h => by
                      have h1 := h.2 q (by omega)
                      rw [← HBB.out] at h1
                      cases h1⟩
                    have HLX : Hid (L.length ≤ 1048576) := Lib.hid (by have := HLL.out; have := HPT.out; have := HV6.out; have := HQT.out; omega)
                    have HLY : Hid ((L ++ [[(p : Int), (q : Int) + 1]]).length ≤ 6 * p + (q + 1)) := Lib.hid (by have := HLL.out; simp; omega)
                    have HSZ := Lib.hid HXY.out.size
                    clear HI
                    go_wp2_with (at_builtin; refine wpList_pushSS rfl _ _ rfl wo.heap.size _ L [(p : Int), (q : Int) + 1] wr rfl HF7.out (Ext.alloc2 _ _ _) _ (fresh_two _ _ _ _) ⟨wr.heap.size + 1, 0, none⟩ 1 rfl (by go_simp) rfl HLX.out HSZ.out ?_)
                    intro v' w' f' k'
                    have hz : Ext wo w' := k' wo (HXY.out.trans (Ext.alloc2 _ _ _)) (Nat.le_refl _)
                    have HFN := Lib.hid f'
                    have HZ := Lib.hid hz
                    clear f' k' hz HF7 HXY
                    go_wp2
                    go_roundw
                    case rel => exact ⟨q + 1, _, by have := HQT.out; omega, by go_num, HFN, HLY, HI2, HZ⟩
                    case measure => simp [intOf]; have := HQT.out; omega
            · have HI2 : Hid (L.length = 0 ↔ ∀ p', p' < p + 1 → ∀ q : Nat, (q : Int) < atM M p' → allCom R m p' q = true) := Lib.hid (by
                rw [HI.out]
                constructor
                · intro h p' hp' q' hq'
                  by_cases e : p' = p
                  · subst e
                    rw [← HV.out] at hq'
                    exact h.2 q' (by omega)
                  · exact h.1 p' (by omega) q' hq'
                · intro h
                  refine ⟨fun p' hp' q' hq' => h p' (by omega) q' hq', fun q' hq' => h p (by omega) q' ?_⟩
                  rw [← HV.out]
                  omega)
              have HLY : Hid (L.length ≤ 6 * (p + 1)) := Lib.hid (by have := HLL.out; have := HV6.out; omega)
              clear HI HLL
              go_wp2
              clear gm
              go_roundw
              case rel => exact ⟨p + 1, L, by have := HPT.out; omega, by go_num, HF, HLY, HI2, HX⟩
              case measure => simp [intOf]; have := HPT.out; omega
        · obtain rfl : p = R.length := by omega
          have hres : decide (L.length = 0) = finB R.length R m := by
            rw [Bool.eq_iff_iff, HFIN.out, decide_eq_true_iff, HI.out]
            constructor
            · intro h p q hq
              by_cases hp : p < R.length
              · exact h p hp q hq
              · exfalso
                have e : atM M p = 0 := by unfold atM; rw [List.getElem?_eq_none (by have := HO.out.len; omega)]; rfl
                omega
            · intro h p' _ q hq
              exact h p' q hq
          have HRES := Lib.hid hres
          have HFF := Lib.hid (HF.out.more (B' := w.heap.size) (by have := HO.out.lo; have := HSB.out; have := (HX0.out.trans HO.out.ext).size; omega))
          have HXX := Lib.hid (HX0.out.trans (HO.out.ext.trans HX.out))
          clear hres HI HF HX
          go_wp2
          go_ret
          exact ⟨_, L, rfl, HFF.out, HRES.out, HXX.out⟩
end Go.Proofs.YtbffkidkfannhaaGreat

namespace Go.Proofs.YtbffkidkfannhaaGreat
open Go.RowKit
set_option linter.unusedVariables false

set_option maxHeartbeats 4000000 in
set_option maxRecDepth 100000 in
theorem specFinishedIn_any (u v z mv : Value) (R : List RepD) (Ms : List MsgD) (K : List AskD) (m : List Int) (w : World) (hn : NetL w u v z R Ms K) (hm : Ints w mv m) :
    Calls Tryz.prog 7 #[.agg #[u, v, z], mv] w (TwoB (isF R Ms K m) (okF R Ms K m) w) := by
  obtain ⟨wb, hwb⟩ : ∃ wb, wb = w.alloc (.cells #[u, v, z] 35) := ⟨_, rfl⟩
  have x0 : Ext w wb := by rw [hwb]; exact Ext.alloc1 _ _
  have HB := Lib.hid (show BoxV wb w.heap.size [u, v, z] by rw [hwb]; exact boxV_new w [u, v, z] 35)
  have HN := Lib.hid (hn.ext x0)
  have HM := Lib.hid (hm.ext x0)
  have HX0 := Lib.hid x0
  have HW := Lib.hid hwb
  obtain ⟨⟨au, cu, rfl, hlu, _, _⟩, _, _⟩ := hn
  unfold maxLen at hlu
  obtain ⟨am, cm, rfl, hlm, _, _⟩ := hm
  unfold maxLen at hlm
  clear x0
  have a0 := HB.out.cell 0 _ rfl
  have a1 := HB.out.cell 1 _ rfl
  have a2 := HB.out.cell 2 _ rfl
  rw [hwb] at a0 a1 a2
  clear hwb
  go_enter Tryz.func7, Tryz.ntmps7
  go_wp2_with fail
  rw [← HW.out]
  refine (specGoodNet_any _ _ _ R Ms K _ HN.out).mono ?_
  rintro e w1 ⟨rfl, x1⟩
  have X1 := Lib.hid x1
  clear a0 a1 a2 x1
  have a0 := (HB.out.ext X1.out).cell 0 _ rfl
  have a1 := (HB.out.ext X1.out).cell 1 _ rfl
  have a2 := (HB.out.ext X1.out).cell 2 _ rfl
  cases hg : goodNet R Ms K with
  | false =>
    have HO := Lib.hid (okF_no0 (m := m) hg)
    clear hg
    go_wp2
    go_ret2
    exact ⟨by rw [HO.out, isF_no HO.out]; rfl, HX0.out.trans X1.out⟩
  | true =>
    have HG := Lib.hid hg
    clear hg
    by_cases h0 : m.length = 0
    · have HO := Lib.hid (okF_no1 (R := R) (Ms := Ms) (K := K) h0)
      rw [h0]
      clear h0
      go_wp2
      go_ret2
      exact ⟨by rw [HO.out, isF_no HO.out]; rfl, HX0.out.trans X1.out⟩
    · have HNE := Lib.hid h0
      have hne : ((m.length : Int) == 0) = false := by rw [beq_eq_false_iff_ne]; omega
      clear h0
      go_wp2_with fail
      refine (l1Rising_any _ m _ _ _ (HM.out.ext X1.out)).mono ?_
      rintro e w2 ⟨rfl, x2⟩
      have X2 := Lib.hid (X1.out.trans x2)
      clear x2 a0 a1 a2
      have a0 := (HB.out.ext X2.out).cell 0 _ rfl
      have a1 := (HB.out.ext X2.out).cell 1 _ rfl
      have a2 := (HB.out.ext X2.out).cell 2 _ rfl
      cases hr : riseB m 0 ((R.length : Int) - 1) with
      | false =>
        have HO := Lib.hid (okF_no2 (Ms := Ms) (K := K) hr)
        clear hr
        go_wp2
        go_ret2
        exact ⟨by rw [HO.out, isF_no HO.out]; rfl, HX0.out.trans X2.out⟩
      | true =>
        have HO := Lib.hid (okF_yes HG.out HNE.out hr)
        have HR := Lib.hid hr
        clear hr
        go_wp2_with fail
        refine (l10Open_any _ _ _ _ R Ms K m _ (HN.out.ext X2.out) (HM.out.ext X2.out) HG.out HR.out).mono ?_
        rintro e w3 ⟨x, L, rfl, f3, hL, x3⟩
        obtain ⟨ax, cx, rfl⟩ := f3.form
        have X3 := Lib.hid (X2.out.trans x3)
        have HL := Lib.hid hL
        clear f3 hL x3 a0 a1 a2
        by_cases hz : L.length = 0
        · have HF : Hid (finB R.length R m = true) := Lib.hid (by rw [← HL.out, decide_eq_true hz])
          rw [hz]
          clear hz
          go_wp2
          go_ret2
          exact ⟨by rw [HO.out, isF_yes HO.out, HF.out]; rfl, HX0.out.trans X3.out⟩
        · have HF : Hid (finB R.length R m = false) := Lib.hid (by rw [← HL.out, decide_eq_false hz])
          have hne : ((L.length : Int) == 0) = false := by rw [beq_eq_false_iff_ne]; omega
          clear hz
          go_wp2
          go_ret2
          exact ⟨by rw [HO.out, isF_yes HO.out, HF.out]; rfl, HX0.out.trans X3.out⟩
end Go.Proofs.YtbffkidkfannhaaGreat
