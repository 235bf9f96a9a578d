/- Texts of this proof, part i: words, plain facts, contracts. -/
import Derived.Test.YtihknedmkkakhaaMGraphOfe
import Derived.Test.YtihknedmkkakhaaMGraphOfh
import Derived.Deep.RegionHeld3
import Derived.Test.YtihknedmkkakhaaMGraphOfb
import Derived.Test.YtihknedmkkakhaaMGraphOfa
import Derived.Test.YtihknedmkkakhaaMGraphOff
import Derived.Sort.Grow
import Derived.Test.YtihknedmkkakhaaShelf
import Derived.Shelf.SlSortCmp.WholeK
import Derived.Shelf.SlSortCmp.NoneTotal
import Derived.Test.YtihknedmkkakhaaMGraphOfg

namespace Go.Proofs.Ytihknedmkkakhaa
open Go.RowKit Go.Maps
set_option linter.unusedVariables false

/-- Of a replica's first m instances those that are not x. -/
def depsAt (x : Nat × Nat) (k m : Nat) : List (Nat × Nat) := ((List.range m).filter fun i => !(decide ((k, i) = x))).map fun i => (k, i)
def depN (r : RowD) (k : Nat) : Nat := (depI r k).toNat
/-- .. of the first k replicas. -/
def depsTo (r : RowD) (x : Nat × Nat) (k : Nat) : List (Nat × Nat) := (List.range k).flatMap fun p => depsAt x p (depN r p)
def depsL (n : Int) (T : List (List RowD)) (x : Nat × Nat) : List (Nat × Nat) := depsTo (rowOf n T x.1 x.2) x (rowOf n T x.1 x.2).l.length
theorem depsAt_succ (x : Nat × Nat) (k m : Nat) : depsAt x k (m + 1) = depsAt x k m ++ if (k, m) = x then [] else [(k, m)] := by
  unfold depsAt
  rw [List.range_succ, List.filter_append, List.map_append]
  congr 1
  by_cases e : (k, m) = x <;> simp [e]
theorem depsTo_succ (r : RowD) (x : Nat × Nat) (k : Nat) : depsTo r x (k + 1) = depsTo r x k ++ depsAt x k (depN r k) := by simp [depsTo, List.range_succ]
theorem depsAt_len (x : Nat × Nat) (k m : Nat) : (depsAt x k m).length ≤ m := by
  unfold depsAt
  rw [List.length_map]
  have := List.length_filter_le (fun i => !(decide ((k, i) = x))) (List.range m)
  simpa using this
theorem depsTo_len {r : RowD} {x : Nat × Nat} (h : ∀ k, depN r k ≤ 6) (k : Nat) : (depsTo r x k).length ≤ 6 * k := by
  induction k with
  | zero => simp [depsTo]
  | succ k ih =>
    rw [depsTo_succ, List.length_append]
    have h1 := depsAt_len x k (depN r k)
    have h2 := h k
    omega
theorem mem_depsAt {x y : Nat × Nat} {k m : Nat} : y ∈ depsAt x k m ↔ y.1 = k ∧ y.2 < m ∧ y ≠ x := by
  unfold depsAt
  rw [List.mem_map]
  constructor
  · rintro ⟨i, hi, rfl⟩
    rw [List.mem_filter, List.mem_range] at hi
    exact ⟨rfl, hi.1, by simpa using hi.2⟩
  · rintro ⟨h1, h2, h3⟩
    refine ⟨y.2, ?_, ?_⟩
    · rw [List.mem_filter, List.mem_range]
      refine ⟨h2, ?_⟩
      have e : (k, y.2) = y := by rw [← h1]
      rw [e]
      simpa using h3
    · rw [← h1]
theorem mem_depsTo {r : RowD} {x y : Nat × Nat} {k : Nat} : y ∈ depsTo r x k ↔ y.1 < k ∧ y.2 < depN r y.1 ∧ y ≠ x := by
  unfold depsTo
  rw [List.mem_flatMap]
  constructor
  · rintro ⟨p, hp, hy⟩
    obtain ⟨h1, h2, h3⟩ := mem_depsAt.1 hy
    subst h1
    exact ⟨List.mem_range.1 hp, h2, h3⟩
  · rintro ⟨h1, h2, h3⟩
    exact ⟨y.1, List.mem_range.2 h1, mem_depsAt.2 ⟨rfl, h2, h3⟩⟩
/-- The numbers of a good row's list. -/
theorem dep_in {n : Int} {T : List (List RowD)} (hg : goodTab n T = true) {p : Nat} (hp : p < T.length) (q k : Nat) : 0 ≤ depI (rowOf n T p q) k ∧ depI (rowOf n T p q) k ≤ 6 := by
  have hz : ∀ j : Nat, (noneL n)[j]?.getD 0 = 0 := fun j => by
    unfold noneL
    split
    · rw [List.getElem?_replicate]
      split <;> rfl
    · rfl
  by_cases hq : q < T[p].length
  · rw [rowOf_in hp hq]
    have h := (goodTab_row hg hp hq).1
    unfold goodRow at h
    simp only [Bool.and_eq_true] at h
    have h2 := h.2
    unfold depI
    split at h2
    · unfold emptyB sameA at h2
      simp only [Bool.and_eq_true, decide_eq_true_eq] at h2
      rw [h2.2.2, hz]
      omega
    · unfold fullB at h2
      simp only [Bool.and_eq_true] at h2
      have h3 := (goodD_of h2.2).2.2
      by_cases hk : k < T[p][q].l.length
      · rw [List.getElem?_eq_getElem hk, Option.getD_some]
        have := List.all_eq_true.1 h3 _ (List.getElem_mem hk)
        unfold inB at this
        simp at this
        omega
      · rw [List.getElem?_eq_none (by omega)]
        simp
  · rw [rowOf_out hp (by omega)]
    unfold depI emptyR
    rw [hz]
    omega
theorem rowOf_list {n : Int} {T : List (List RowD)} (hg : goodTab n T = true) {p : Nat} (hp : p < T.length) (q : Nat) : (rowOf n T p q).l.length ≤ 5 := by
  by_cases hq : q < T[p].length
  · rw [rowOf_in hp hq]
    exact (goodTab_row hg hp hq).2.2
  · rw [rowOf_out hp (by omega)]
    unfold emptyR noneL
    split
    · rename_i h
      rcases isGrp_of h with e | e <;> subst e <;> decide
    · simp

set_option maxHeartbeats 4000000 in
set_option maxRecDepth 100000 in
theorem l6Deps_any (n : Int) (u : Value) (T : List (List RowD)) (p q : Nat) (w : World) (hu : Rowzz w u T) (hg : goodTab n T = true) (hp : p < T.length) (hq : q ≤ 5) :
    Calls Try.prog 103 #[.agg #[.int .i64 n, u], .int .i64 p, .int .i64 ((q : Int) + 1)] w (NewIntss ((depsL n T (p, q)).map pairOf) w) := by
  have HU := Lib.hid hu
  have HDI := Lib.hid (fun k => dep_in hg hp q k)
  have hlen := rowOf_list hg hp q
  have hx0 := Ext.alloc1 w (.cells #[.int .i64 n, u] 48)
  have HX0 := Lib.hid hx0
  obtain ⟨d, hd⟩ : ∃ d, d = rowOf n T p q := ⟨_, rfl⟩
  have cR : ∀ W, Ext w W → Calls Try.prog 73 #[.agg #[.int .i64 n, u], .int .i64 p, .int .i64 ((q : Int) + 1)] W (NewRow d W) := fun W hW => by
    rw [hd]
    exact l4At_any n _ T p q _ (hu.ext hW) hg hp hq
  have CR := Lib.hid cR
  have hgoal : depsL n T (p, q) = depsTo d (p, q) d.l.length := by unfold depsL; simp only [hd]
  rw [hgoal]
  rw [← hd] at hlen HDI
  obtain ⟨au, cu, rfl, hlu, _, _⟩ := hu
  clear hx0 cR hgoal hd hg
  go_enter Try.func103, Try.ntmps103
  go_wp2_with fail
  refine (CR.out _ HX0.out).mono ?_
  rintro e w1 ⟨ux, rfl, fx, x1⟩
  obtain ⟨ax, kx, rfl⟩ := fx.form
  have hfd := fun W => field_rowA d.b d.v d.st d.k d.i d.f d.t d.a d.s (.slice ax d.l.length kx) W
  have I1 := Lib.hid fx.ints
  have X1 := Lib.hid (HX0.out.trans x1)
  clear fx x1
  obtain ⟨W, hW⟩ : ∃ W, W = w1.alloc (.cells #[.int .i64 d.s, .slice ax d.l.length kx] 88) := ⟨_, rfl⟩
  have hbx := attrAt_new w1 88 d.s (.slice ax d.l.length kx)
  rw [← hW] at hbx
  have xW : Ext w1 W := by rw [hW]; exact Ext.alloc1 _ _
  have HBX := Lib.hid hbx
  have IW := Lib.hid (I1.out.ext xW)
  have XW := Lib.hid (X1.out.trans xW)
  have HWW := Lib.hid hW
  have HWS : Hid (w.heap.size ≤ W.heap.size) := Lib.hid (X1.out.trans xW).size
  clear hbx xW hW X1 I1
  go_wp2
  rw [← HWW.out]
  go_loopw [8, 20] (fun o i wr => ∃ k : Nat, k ≤ d.l.length ∧ i = .int .i64 k ∧ Hid (FreshSS W.heap.size wr o ((depsTo d (p, q) k).map pairOf)) ∧ Hid (Ext W wr)) (fun _ i _ => d.l.length - (intOf i).toNat)
  case atStart => exact ⟨0, Nat.zero_le _, rfl, Lib.hid (FreshSS.nil _ _), Lib.hid (Ext.refl _)⟩
  case round =>
    obtain ⟨k, hk, rfl, HF, HX⟩ := hrel
    by_cases hlt : k < d.l.length
    · obtain ⟨a', c', e', hlx, _, dl⟩ := IW.out.ext HX.out
      obtain ⟨bl, ol, ha', dl⟩ := dl (by omega)
      simp only [Value.slice.injEq] at e'
      have eax : ax = some ⟨bl, ol, none⟩ := e'.1.trans ha'
      have ekx : kx = c' := e'.2.2
      subst eax
      have gl := dl k hlt
      have gl2 : wr.cell? ⟨bl, ol + k, none⟩ = some (.int .i64 (depI d k)) := gl
      have hdk := HDI.out k
      obtain ⟨m, hm⟩ : ∃ m, m = depN d k := ⟨_, rfl⟩
      have hmd : depI d k = (m : Int) := by rw [hm]; unfold depN; omega
      rw [hmd] at gl2
      obtain ⟨t0, t1⟩ := HBX.out.ext HX.out
      have hm6 : m ≤ 6 := by omega
      have HMM := Lib.hid hm
      have HDL : Hid ((depsTo d (p, q) k).length ≤ 1000) := Lib.hid (by
        have := depsTo_len (r := d) (x := (p, q)) (fun k => by have := HDI.out k; unfold depN; omega) k
        omega)
      clear e' dl gl hdk hm hmd ha' ekx hlx
      go_wp2
      go_loopw [8, 11] (fun o i wr => ∃ j : Nat, j ≤ m ∧ i = .int .i64 ((j : Int) + 1) ∧ Hid (FreshSS W.heap.size wr o ((depsTo d (p, q) k ++ depsAt (p, q) k j).map pairOf)) ∧ Hid (Ext W wr)) (fun _ i _ => m + 1 - (intOf i).toNat)
      case atStart => exact ⟨0, Nat.zero_le _, rfl, Lib.hid (by have h := HF.out; simpa [depsAt] using h), HX⟩
      case round =>
        clear gl2 t0 t1 HF HX
        obtain ⟨j, hj, rfl, HF, HX⟩ := hrel
        by_cases hjm : j < m
        · by_cases hx : (k, j) = (p, q)
          · have hno : depsAt (p, q) k (j + 1) = depsAt (p, q) k j := by rw [depsAt_succ, if_pos hx]; simp
            have FN : Hid (FreshSS W.heap.size wr u8 ((depsTo d (p, q) k ++ depsAt (p, q) k (j + 1)).map pairOf)) := Lib.hid (by rw [hno]; exact HF.out)
            simp only [Prod.mk.injEq] at hx
            obtain ⟨rfl, rfl⟩ := hx
            clear hno HF
            go_wp2
            go_roundw
            case rel => exact ⟨j + 1, by omega, by go_num, FN, HX⟩
            case measure => simp [intOf]; omega
          · by_cases hkp : k = p
            · have hjq : ¬ j = q := fun e => hx (by rw [hkp, e])
              have n1 : ((k : Int) != (p : Int)) = false := by simp [hkp]
              have n2 : ((j : Int) + 1 != (q : Int) + 1) = true := by simp; omega
              clear hkp hjq
              have hyes : depsAt (p, q) k (j + 1) = depsAt (p, q) k j ++ [(k, j)] := by rw [depsAt_succ, if_neg hx]
              have HYES := Lib.hid hyes
              have HG := Lib.hid HF.out
              have HBB : Hid (W.heap.size ≤ wr.heap.size) := Lib.hid HX.out.size
              have hll : ((depsTo d (p, q) k ++ depsAt (p, q) k j).map pairOf).length ≤ 1048576 := by
                rw [List.length_map, List.length_append]
                have h1 := depsAt_len (p, q) k j
                have h2 := HDL.out
                omega
              have HLL := Lib.hid hll
              have hfr : Fresh wr.heap.size ((wr.alloc (.cells #[.int .i64 k, .int .i64 ((j : Int) + 1)] 3)).alloc (.cells #[.slice (some ⟨wr.heap.size, 0, none⟩) 2 2] 30)) (.slice (some ⟨wr.heap.size, 0, none⟩) 2 2) (pairOf (k, j)) := (fresh_lit wr (pairOf (k, j)) #[.int .i64 k, .int .i64 ((j : Int) + 1)] wr.heap.size rfl (Nat.le_refl _) (by simp [pairOf])).ext (Ext.alloc1 _ _)
              have HFR := Lib.hid hfr
              clear hyes hll hfr hx
              go_wp2_with (at_builtin; refine wpList_pushSS rfl _ _ rfl W.heap.size _ ((depsTo d (p, q) k ++ depsAt (p, q) k j).map pairOf) (pairOf (k, j)) wr rfl HG.out (Ext.alloc2 _ _ _) _ HFR.out ⟨wr.heap.size + 1, 0, none⟩ 1 rfl (by go_simp) rfl HLL.out HBB.out ?_)
              intro v' w' f' k'
              have HZ : Hid (Ext W w') := Lib.hid (k' W (HX.out.trans (Ext.alloc2 _ _ _)) (Nat.le_refl _))
              have FF : Hid (FreshSS W.heap.size w' v' ((depsTo d (p, q) k ++ depsAt (p, q) k (j + 1)).map pairOf)) := Lib.hid (by
                have e : (depsTo d (p, q) k ++ depsAt (p, q) k (j + 1)).map pairOf = (depsTo d (p, q) k ++ depsAt (p, q) k j).map pairOf ++ [pairOf (k, j)] := by rw [HYES.out]; simp
                rw [e]
                rw [List.map_append, List.append_assoc]
                exact f')
              clear f' k' HG HF HX
              go_wp2
              go_roundw
              case rel => exact ⟨j + 1, by omega, by go_num, FF, HZ⟩
              case measure => simp [intOf]; omega
            · have n1 : ((k : Int) != (p : Int)) = true := by simp; omega
              clear hkp
              have hyes : depsAt (p, q) k (j + 1) = depsAt (p, q) k j ++ [(k, j)] := by rw [depsAt_succ, if_neg hx]
              have HYES := Lib.hid hyes
              have HG := Lib.hid HF.out
              have HBB : Hid (W.heap.size ≤ wr.heap.size) := Lib.hid HX.out.size
              have hll : ((depsTo d (p, q) k ++ depsAt (p, q) k j).map pairOf).length ≤ 1048576 := by
                rw [List.length_map, List.length_append]
                have h1 := depsAt_len (p, q) k j
                have h2 := HDL.out
                omega
              have HLL := Lib.hid hll
              have hfr : Fresh wr.heap.size ((wr.alloc (.cells #[.int .i64 k, .int .i64 ((j : Int) + 1)] 3)).alloc (.cells #[.slice (some ⟨wr.heap.size, 0, none⟩) 2 2] 30)) (.slice (some ⟨wr.heap.size, 0, none⟩) 2 2) (pairOf (k, j)) := (fresh_lit wr (pairOf (k, j)) #[.int .i64 k, .int .i64 ((j : Int) + 1)] wr.heap.size rfl (Nat.le_refl _) (by simp [pairOf])).ext (Ext.alloc1 _ _)
              have HFR := Lib.hid hfr
              clear hyes hll hfr hx
              go_wp2_with (at_builtin; refine wpList_pushSS rfl _ _ rfl W.heap.size _ ((depsTo d (p, q) k ++ depsAt (p, q) k j).map pairOf) (pairOf (k, j)) wr rfl HG.out (Ext.alloc2 _ _ _) _ HFR.out ⟨wr.heap.size + 1, 0, none⟩ 1 rfl (by go_simp) rfl HLL.out HBB.out ?_)
              intro v' w' f' k'
              have HZ : Hid (Ext W w') := Lib.hid (k' W (HX.out.trans (Ext.alloc2 _ _ _)) (Nat.le_refl _))
              have FF : Hid (FreshSS W.heap.size w' v' ((depsTo d (p, q) k ++ depsAt (p, q) k (j + 1)).map pairOf)) := Lib.hid (by
                have e : (depsTo d (p, q) k ++ depsAt (p, q) k (j + 1)).map pairOf = (depsTo d (p, q) k ++ depsAt (p, q) k j).map pairOf ++ [pairOf (k, j)] := by rw [HYES.out]; simp
                rw [e]
                rw [List.map_append, List.append_assoc]
                exact f')
              clear f' k' HG HF HX
              go_wp2
              go_roundw
              case rel => exact ⟨j + 1, by omega, by go_num, FF, HZ⟩
              case measure => simp [intOf]; omega
        · obtain rfl : j = m := by omega
          have FN : Hid (FreshSS W.heap.size wr u8 ((depsTo d (p, q) (k + 1)).map pairOf)) := Lib.hid (by rw [depsTo_succ, ← HMM.out]; exact HF.out)
          clear HF
          go_wp2
          go_roundw
          case rel => exact ⟨k + 1, by omega, by go_num, FN, HX⟩
          case measure => simp [intOf]; omega
    · obtain rfl : k = d.l.length := by omega
      obtain ⟨t0, t1⟩ := HBX.out.ext HX.out
      have XE := Lib.hid (XW.out.trans HX.out)
      go_wp2
      go_ret
      exact ⟨_, rfl, HF.out.more HWS.out, XE.out⟩

end Go.Proofs.Ytihknedmkkakhaa

namespace Go.Proofs.Ytihknedmkkakhaa
open Go.RowKit
set_option linter.unusedVariables false

/-- Where a list stands first, or -1. -/
def FoundAt (L : List (List Int)) (x : List Int) (r : Int) : Prop :=
  (∃ k : Nat, r = (k : Int) ∧ L[k]? = some x ∧ ∀ i, i < k → L[i]? ≠ some x) ∨ (r = -1 ∧ x ∉ L)

set_option maxHeartbeats 1000000 in
theorem l6Find_any (v u : Value) (L : List (List Int)) (x : List Int) (w : World) (hv : Intss w v L) (hu : Ints w u x) :
    Calls Try.prog 79 #[v, u] w (fun e w' => ∃ r, e = .returned (.int .i64 r) ∧ FoundAt L x r ∧ Ext w w') := by
  have HU := Lib.hid hu
  obtain ⟨au, cu, rfl, _⟩ := hu
  obtain ⟨av, cv, rfl, hlv, _, hcv⟩ := hv
  unfold maxLen at hlv
  go_enter Try.func79, Try.ntmps79
  go_wp2
  go_loopw [9] (fun i wr => ∃ k : Nat, k ≤ L.length ∧ i = .int .i64 k ∧ Hid (∀ i, i < k → L[i]? ≠ some x) ∧ Hid (Ext w wr)) (fun i _ => L.length - (intOf i).toNat)
  case atStart => exact ⟨0, Nat.zero_le _, rfl, Lib.hid (fun _ h => by omega), Lib.hid (Ext.refl _)⟩
  case round =>
    obtain ⟨k, hk, rfl, HN, HX⟩ := hrel
    by_cases hlt : k < L.length
    · obtain ⟨bv, ov, rfl, dv⟩ := hcv (by omega)
      obtain ⟨z, hz, iz⟩ := dv k hlt
      rw [List.getElem?_eq_getElem hlt, Option.getD_some] at iz
      have gz := HX.out.cell hz
      have IZ := Lib.hid (iz.ext HX.out)
      obtain ⟨az, cz, rfl, _⟩ := iz
      clear dv hz hcv
      go_wp2_with fail
      refine (l1Same_any _ _ _ _ _ (HU.out.ext HX.out) IZ.out).mono ?_
      rintro e w1 ⟨rfl, x1⟩
      have X1 := Lib.hid (HX.out.trans x1)
      clear x1 gz
      by_cases he : x = L[k]
      · rw [decide_eq_true he]
        have HE := Lib.hid he
        clear he
        go_wp2
        go_ret
        exact ⟨_, rfl, .inl ⟨k, rfl, by rw [List.getElem?_eq_getElem hlt, HE.out], HN.out⟩, X1.out⟩
      · rw [decide_eq_false he]
        have HN2 : Hid (∀ i, i < k + 1 → L[i]? ≠ some x) := Lib.hid (fun i hi => by
          by_cases e : i = k
          · subst e
            rw [List.getElem?_eq_getElem hlt]
            exact fun e => he (Option.some.inj e).symm
          · exact HN.out i (by omega))
        clear he HN
        go_wp2
        go_roundw
        case rel => exact ⟨k + 1, by omega, by go_num, HN2, X1⟩
        case measure => simp [intOf]; omega
    · obtain rfl : k = L.length := by omega
      have hno : x ∉ L := fun hm => by
        obtain ⟨i, hi, e⟩ := List.getElem_of_mem hm
        exact HN.out i hi (by rw [List.getElem?_eq_getElem hi, e])
      have HNO := Lib.hid hno
      clear hno HN
      go_wp2
      go_ret
      exact ⟨_, rfl, .inr ⟨rfl, HNO.out⟩, HX.out⟩

end Go.Proofs.Ytihknedmkkakhaa

namespace Go.Proofs.Ytihknedmkkakhaa
open Go.RowKit
set_option linter.unusedVariables false

def cmpI (a b : Int) : Int := if a < b then -1 else if b < a then 1 else 0
def cmpL : List Int → List Int → Int
  | [], [] => 0
  | [], _ :: _ => -1
  | _ :: _, [] => 1
  | a :: s, b :: t => if cmpI a b = 0 then cmpL s t else cmpI a b

/-- A number comes back, and the world is as it was. -/
def IntSame (n : Int) (w : World) (e : Ending) (w' : World) : Prop := e = .returned (.int .i64 n) ∧ w' = w

set_option maxHeartbeats 1000000 in
theorem compareInt_any (a b : Int) (w : World) : Calls Try.prog 110 #[.int .i64 a, .int .i64 b] w (IntSame (cmpI a b) w) := by
  have hnan : ∀ (n : Int) (W : World), Calls Try.prog 137 #[.int .i64 n] W (fun e W' => e = .returned (.bool false) ∧ W' = W) := fun n W => by
    go_enter Try.func137, Try.ntmps137
    go_wp2
    go_ret
    exact ⟨rfl, rfl⟩
  go_enter Try.func110, Try.ntmps110
  by_cases h1 : a < b
  · have e : cmpI a b = -1 := by unfold cmpI; rw [if_pos h1]
    rw [e]
    clear e
    go_wp2_with fail
    refine (hnan a _).mono ?_
    rintro e w1 ⟨rfl, rfl⟩
    go_wp2_with fail
    refine (hnan b _).mono ?_
    rintro e w1 ⟨rfl, rfl⟩
    go_wp2
    go_ret
    exact ⟨rfl, rfl⟩
  · by_cases h2 : b < a
    · have e : cmpI a b = 1 := by unfold cmpI; rw [if_neg h1, if_pos h2]
      rw [e]
      clear e
      go_wp2_with fail
      refine (hnan a _).mono ?_
      rintro e w1 ⟨rfl, rfl⟩
      go_wp2_with fail
      refine (hnan b _).mono ?_
      rintro e w1 ⟨rfl, rfl⟩
      go_wp2
      go_ret
      exact ⟨rfl, rfl⟩
    · have e : cmpI a b = 0 := by unfold cmpI; rw [if_neg h1, if_neg h2]
      rw [e]
      clear e
      go_wp2_with fail
      refine (hnan a _).mono ?_
      rintro e w1 ⟨rfl, rfl⟩
      go_wp2_with fail
      refine (hnan b _).mono ?_
      rintro e w1 ⟨rfl, rfl⟩
      go_wp2
      go_ret
      exact ⟨rfl, rfl⟩

theorem cmpL_step : ∀ (l r : List Int) (k : Nat) (hk : k < l.length) (hr : k < r.length) (h : cmpL l r = cmpL (l.drop k) (r.drop k)), (cmpI l[k] r[k] = 0 → cmpL l r = cmpL (l.drop (k + 1)) (r.drop (k + 1))) ∧ (cmpI l[k] r[k] ≠ 0 → cmpL l r = cmpI l[k] r[k]) := by
  intro l r k hk hr h
  rw [List.drop_eq_getElem_cons hk, List.drop_eq_getElem_cons hr] at h
  have e4 : cmpL (l[k] :: l.drop (k + 1)) (r[k] :: r.drop (k + 1)) = if cmpI l[k] r[k] = 0 then cmpL (l.drop (k + 1)) (r.drop (k + 1)) else cmpI l[k] r[k] := by simp only [cmpL]
  rw [e4] at h
  constructor
  · intro e; rw [h, if_pos e]
  · intro e; rw [h, if_neg e]

set_option maxHeartbeats 2000000 in
theorem compare_any (u v : Value) (l r : List Int) (w : World) (hu : Ints w u l) (hv : Ints w v r) : Calls Try.prog 91 #[u, v] w (IntSame (cmpL l r) w) := by
  obtain ⟨au, cu, rfl, hlu, _, du⟩ := hu
  obtain ⟨av, cv, rfl, hlv, _, dv⟩ := hv
  unfold maxLen at hlu hlv
  have DU := Lib.hid du
  have DV := Lib.hid dv
  clear du dv
  go_enter Try.func91, Try.ntmps91
  go_wp2
  go_loopw [5, 6, 7, 8, 11] (fun _ _ _ _ i wr => ∃ k : Nat, k ≤ l.length ∧ k ≤ r.length ∧ i = .int .i64 k ∧ Hid (cmpL l r = cmpL (l.drop k) (r.drop k)) ∧ wr = w) (fun _ _ _ _ i _ => l.length - (intOf i).toNat)
  case atStart => exact ⟨0, Nat.zero_le _, Nat.zero_le _, rfl, Lib.hid rfl, rfl⟩
  case round =>
    obtain ⟨k, hk, hk2, rfl, hC, rfl⟩ := hrel
    by_cases hlt : k < l.length
    · obtain ⟨bu, ou, rfl, eu⟩ := DU.out (by omega)
      have z1 := eu k hlt
      rw [List.getElem?_eq_getElem hlt, Option.getD_some] at z1
      by_cases hlr : k < r.length
      · obtain ⟨bv, ov, rfl, ev⟩ := DV.out (by omega)
        have z2 := ev k hlr
        rw [List.getElem?_eq_getElem hlr, Option.getD_some] at z2
        obtain ⟨h1, h2⟩ := cmpL_step l r k hlt hlr hC.out
        obtain ⟨x, hx⟩ : ∃ x, x = l[k] := ⟨_, rfl⟩
        obtain ⟨y, hy⟩ : ∃ y, y = r[k] := ⟨_, rfl⟩
        rw [← hx] at z1 h1 h2
        rw [← hy] at z2 h1 h2
        have H1 := Lib.hid h1
        have H2 := Lib.hid h2
        clear hx hy h1 h2 eu ev
        go_wp2_with fail
        refine (compareInt_any x y _).mono ?_
        rintro e w1 ⟨rfl, rfl⟩
        by_cases hc : cmpI x y = 0
        · have HC := Lib.hid (H1.out hc)
          rw [hc]
          clear hc
          go_wp2
          go_roundw
          case rel => exact ⟨k + 1, by omega, by omega, by go_num, HC, by first | exact rfl | trivial⟩
          case measure => simp [intOf]; omega
        · have HC := Lib.hid (H2.out hc)
          obtain ⟨n, hn⟩ : ∃ n, n = cmpI x y := ⟨_, rfl⟩
          rw [← hn] at hc HC ⊢
          have hb : (n != 0) = true := by simp [hc]
          clear hn
          go_wp2
          go_ret
          exact ⟨by rw [HC.out]; rfl, rfl⟩
      · obtain rfl : k = r.length := by omega
        have HC : Hid (cmpL l r = 1) := Lib.hid (by
          have := hC.out
          rw [List.drop_length, List.drop_eq_getElem_cons hlt] at this
          exact this)
        go_wp2
        go_ret
        exact ⟨by rw [HC.out]; rfl, rfl⟩
    · obtain rfl : k = l.length := by omega
      by_cases hlr : l.length < r.length
      · have HC : Hid (cmpL l r = -1) := Lib.hid (by
          have := hC.out
          rw [List.drop_length, List.drop_eq_getElem_cons hlr] at this
          exact this)
        go_wp2
        go_ret
        exact ⟨by rw [HC.out]; rfl, rfl⟩
      · have HC : Hid (cmpL l r = 0) := Lib.hid (by
          have := hC.out
          have e : l.length = r.length := by omega
          rw [List.drop_length, e, List.drop_length] at this
          exact this)
        go_wp2
        go_ret
        exact ⟨by rw [HC.out]; rfl, rfl⟩

end Go.Proofs.Ytihknedmkkakhaa

namespace Go.Proofs.Ytihknedmkkakhaa
open Go.RowKit Go.Sort
set_option linter.unusedVariables false

/-- w' is w after some draws, with new blocks. -/
def Grows (w w' : World) : Prop := ∃ (q : Nat) (os : Array Obj), w' = grow (w.drewN q) os
theorem Grows.refl (w : World) : Grows w w := ⟨0, #[], by rw [grow_empty]; rfl⟩
theorem Grows.drew {w w' : World} (h : Grows w w') : Grows w w'.drew := by
  obtain ⟨q, os, rfl⟩ := h
  exact ⟨q + 1, os, rfl⟩
theorem Grows.alloc {w w' : World} (h : Grows w w') (o : Obj) : Grows w (w'.alloc o) := by
  obtain ⟨q, os, rfl⟩ := h
  refine ⟨q, os.push o, ?_⟩
  simp [grow, World.alloc, World.drewN]
theorem Grows.trans {a b c : World} (h : Grows a b) (k : Grows b c) : Grows a c := by
  obtain ⟨q, os, rfl⟩ := h
  obtain ⟨q', os', rfl⟩ := k
  exact ⟨q + q', os ++ os', by simp [grow, World.drewN, Nat.add_assoc]⟩
theorem Grows.ext {w w' : World} (h : Grows w w') : Ext w w' := by
  obtain ⟨q, os, rfl⟩ := h
  refine ext_of_grown ⟨rfl, rfl, rfl, by simp [grow, World.drewN], fun k hk _ => ?_⟩
  exact heap_grow_old (w.drewN q) os hk

def cmpP (x y : Nat × Nat) : Int := if cmpI (x.1 : Int) (y.1 : Int) = 0 then cmpI ((x.2 : Int) + 1) ((y.2 : Int) + 1) else cmpI (x.1 : Int) (y.1 : Int)

/-- The first that is not nought. -/
def orL : List Int → Int
  | [] => 0
  | x :: t => if x = 0 then orL t else x
theorem orL_drop {l : List Int} {k : Nat} (h : k < l.length) : orL (l.drop k) = if l[k]?.getD 0 = 0 then orL (l.drop (k + 1)) else l[k]?.getD 0 := by
  rw [List.drop_eq_getElem_cons h, List.getElem?_eq_getElem h, Option.getD_some]
  rfl
set_option maxHeartbeats 1000000 in
theorem orInt_any (l : List Int) (v : Value) (w : World) (hv : Ints w v l) :
    Calls Try.prog 109 #[v] w (IntSame (orL l) w) := by
  obtain ⟨av, cv, rfl, hlv, _, hcv⟩ := hv
  unfold maxLen at hlv
  go_enter Try.func109, Try.ntmps109
  go_wp2
  go_loopw [8] (fun i wr => ∃ k : Nat, k ≤ l.length ∧ i = .int .i64 k ∧ Hid (orL l = orL (l.drop k)) ∧ wr = w) (fun i _ => l.length - (intOf i).toNat)
  case atStart => exact ⟨0, Nat.zero_le _, rfl, Lib.hid (by simp), rfl⟩
  case round =>
    obtain ⟨k, hk, rfl, HK, rfl⟩ := hrel
    by_cases hlt : k < l.length
    · obtain ⟨bv, ov, rfl, dv⟩ := hcv (by omega)
      have gv := dv k hlt
      have hs := orL_drop hlt
      obtain ⟨x, hx⟩ : ∃ x, x = l[k]?.getD 0 := ⟨_, rfl⟩
      rw [← hx] at gv hs
      have HS := Lib.hid hs
      clear dv hcv hx hs
      by_cases h0 : x = 0
      · subst h0
        have HN := Lib.hid (show orL l = orL (l.drop (k + 1)) by rw [HK.out, HS.out, if_pos rfl])
        have ns : ((0 : Int) != 0) = false := by simp
        go_wp2
        go_roundw
        case rel => exact ⟨k + 1, by omega, by go_num, HN, by trivial⟩
        case measure => simp [intOf]; omega
      · have HN := Lib.hid (show orL l = x by rw [HK.out, HS.out, if_neg h0])
        have ns : (x != 0) = true := by simpa using h0
        go_wp2
        go_ret
        exact ⟨by rw [HN.out]; rfl, rfl⟩
    · obtain rfl : k = l.length := by omega
      have HN := Lib.hid (show orL l = 0 by rw [HK.out, List.drop_length]; rfl)
      clear HK
      go_wp2
      go_ret
      exact ⟨by rw [HN.out]; rfl, rfl⟩
theorem orInt_two (x y : Int) (v : Value) (w : World) (hv : Ints w v [x, y]) :
    Calls Try.prog 109 #[v] w (IntSame (if x = 0 then y else x) w) := by
  have h := orInt_any _ _ _ hv
  have e : orL [x, y] = if x = 0 then y else x := by
    unfold orL orL orL
    by_cases hx : x = 0
    · by_cases hy : y = 0 <;> simp [hx, hy]
    · simp [hx]
  rwa [e] at h

theorem orHere (w0 : World) (a b : Int) : Calls Try.prog 109 #[.slice (some ⟨w0.heap.size, 0, none⟩) 2 2] (w0.alloc (.cells #[.int .i64 a, .int .i64 b] 3)).drew (IntSame (if a = 0 then b else a) (w0.alloc (.cells #[.int .i64 a, .int .i64 b] 3)).drew) := by
  have h := (fresh_lit w0 [a, b] #[.int .i64 a, .int .i64 b] w0.heap.size rfl (Nat.le_refl _) (by simp)).ints
  exact orInt_two a b _ _ (h.ext (Ext.drew (Ext.refl _)))

set_option maxHeartbeats 2000000 in
set_option maxRecDepth 100000 in
theorem instCmp_any (x y : Nat × Nat) (w : World) :
    Calls Try.prog 108 #[.agg (cellsI x).toArray, .agg (cellsI y).toArray] w (fun e w' => e = .returned (.int .i64 (cmpP x y)) ∧ Grows w w') := by
  unfold cellsI cmpP
  obtain ⟨p, q⟩ := x
  obtain ⟨p', q'⟩ := y
  obtain ⟨r, hr⟩ : ∃ r, r = if cmpI (p : Int) (p' : Int) = 0 then cmpI ((q : Int) + 1) ((q' : Int) + 1) else cmpI (p : Int) (p' : Int) := ⟨_, rfl⟩
  have cO : ∀ w0 : World, Calls Try.prog 109 #[.slice (some ⟨w0.heap.size, 0, none⟩) 2 2] (w0.alloc (.cells #[.int .i64 (cmpI (p : Int) (p' : Int)), .int .i64 (cmpI ((q : Int) + 1) ((q' : Int) + 1))] 3)).drew (IntSame r (w0.alloc (.cells #[.int .i64 (cmpI (p : Int) (p' : Int)), .int .i64 (cmpI ((q : Int) + 1) ((q' : Int) + 1))] 3)).drew) := fun w0 => by
    rw [hr]
    exact orHere w0 _ _
  have CO := Lib.hid cO
  show Calls _ _ _ _ (fun e w' => e = .returned (.int .i64 (if cmpI (p : Int) (p' : Int) = 0 then cmpI ((q : Int) + 1) ((q' : Int) + 1) else cmpI (p : Int) (p' : Int))) ∧ Grows w w')
  rw [← hr]
  clear hr cO
  obtain ⟨w0, hw0⟩ : ∃ w0, w0 = (w.alloc (.cells #[.int .i64 p, .int .i64 ((q : Int) + 1)] 101)).alloc (.cells #[.int .i64 p', .int .i64 ((q' : Int) + 1)] 101) := ⟨_, rfl⟩
  have g0 : Grows w w0 := by rw [hw0]; exact (Grows.refl w).alloc _ |>.alloc _
  have c0 : w0.cell? ⟨w.heap.size, 0, none⟩ = some (.int .i64 p) := by rw [hw0]; go_simp
  have c1 : w0.cell? ⟨w.heap.size, 1, none⟩ = some (.int .i64 ((q : Int) + 1)) := by rw [hw0]; go_simp
  have c2 : w0.cell? ⟨w.heap.size + 1, 0, none⟩ = some (.int .i64 p') := by rw [hw0]; go_simp
  have c3 : w0.cell? ⟨w.heap.size + 1, 1, none⟩ = some (.int .i64 ((q' : Int) + 1)) := by rw [hw0]; go_simp
  have ks : ∀ W, Grows w0 W → Grows w0 W ∧ W.cell? ⟨w.heap.size, 0, none⟩ = some (.int .i64 p) ∧ W.cell? ⟨w.heap.size, 1, none⟩ = some (.int .i64 ((q : Int) + 1)) ∧ W.cell? ⟨w.heap.size + 1, 0, none⟩ = some (.int .i64 p') ∧ W.cell? ⟨w.heap.size + 1, 1, none⟩ = some (.int .i64 ((q' : Int) + 1)) := fun W h => ⟨h, h.ext.cell c0, h.ext.cell c1, h.ext.cell c2, h.ext.cell c3⟩
  clear c0 c1 c2 c3
  subst hw0
  have KS := Lib.hid ks
  have G0 := Lib.hid g0
  clear ks g0
  go_enter Try.func108, Try.ntmps108
  go_wp2_with fail
  generalize ((w.alloc (.cells #[.int .i64 p, .int .i64 ((q : Int) + 1)] 101)).alloc (.cells #[.int .i64 p', .int .i64 ((q' : Int) + 1)] 101)) = w0 at KS G0 ⊢
  go_region_held3 (fun W => Grows w0 W ∧ W.cell? ⟨w.heap.size, 0, none⟩ = some (.int .i64 p) ∧ W.cell? ⟨w.heap.size, 1, none⟩ = some (.int .i64 ((q : Int) + 1)) ∧ W.cell? ⟨w.heap.size + 1, 0, none⟩ = some (.int .i64 p') ∧ W.cell? ⟨w.heap.size + 1, 1, none⟩ = some (.int .i64 ((q' : Int) + 1))) (first | (with_reducible exact KS.out _ (Grows.drew (Grows.refl _))) | (with_reducible exact KS.out _ (Grows.drew (Grows.alloc (Grows.refl _) _))) | (with_reducible exact KS.out _ (Grows.alloc (Grows.drew (Grows.refl _)) _)) | (trace_state; fail)) (first | (go_at_call 110; refine (compareInt_any _ _ _).mono ?_; rintro e W3 ⟨rfl, rfl⟩) | (go_at_call 109; refine (CO.out _).mono ?_; rintro e W3 ⟨rfl, rfl⟩))
  all_goals
    go_wp2
    go_ret
    exact ⟨rfl, G0.out.trans (Grows.drew (Grows.alloc (Grows.refl _) _))⟩

end Go.Proofs.Ytihknedmkkakhaa

namespace Go.Proofs.Ytihknedmkkakhaa
open Go.RowKit Go.Sort Go.Shelf
set_option linter.unusedVariables false

section
variable {α : Type} [Inhabited α] (enc : α → Value)

theorem holds_of_own {w : World} {B g n cap : Nat} {e : TypeId} {d : List α} (h : w.ownsRow B e 1 (.slice (some ⟨g, 0, none⟩) n cap) n (d.map enc)) (hn : d.length = n) : Holds enc w g 0 d.toArray := by
  subst hn
  intro j hj
  have hj' : j < d.length := by simpa using hj
  have hc := World.ownsRow.cellAt h j (by omega)
  rcases h.2 with ⟨hv, _⟩ | ⟨g', cap', cur, hv, _, hb, _⟩
  · cases hv
  · cases hv
    refine ⟨?_, by simp [World.frozen?, hb]⟩
    rw [Nat.zero_add, hc, List.getElem?_map, List.getElem?_eq_getElem hj']
    simp [hj']

theorem heap_put {w : World} {g n : Nat} {os : Array Obj} {cur : Array Value} {e : TypeId} {fr : Nat × Nat} (d : Array α) (hb : w.heap[g]? = some (.cells cur e fr)) :
    (grow (putRow enc (Sort.ahead w n) g 0 d) os).heap[g]? = some (.cells (putCells enc 0 d cur) e fr) := by
  have hg : g < w.heap.size := (Array.getElem?_eq_some_iff.1 hb).1
  rw [heap_grow_old _ _ (by simpa using hg)]
  simp [putRow, mapBlock, Sort.ahead, Array.getElem?_modify, hb, onCells]

theorem grown_put {w : World} {g n : Nat} {os : Array Obj} (d : Array α) : w.grownBy (grow (putRow enc (Sort.ahead w n) g 0 d) os) (some g) := by
  refine ⟨rfl, rfl, rfl, by simp, fun k hk hne => ?_⟩
  rw [heap_grow_old _ _ (by simpa using hk)]
  have : g ≠ k := fun e => hne (by rw [e])
  simp [putRow, mapBlock, Sort.ahead, Array.getElem?_modify, this]

theorem take_put (cur : Array Value) (ts : List α) (h : ts.length ≤ cur.size) : (putCells enc 0 ts.toArray cur).toList.take ts.length = ts.map enc := by
  apply List.ext_getElem?
  intro j
  by_cases hj : j < ts.length
  · rw [List.getElem?_take_of_lt hj, Array.getElem?_toList]
    simp [putCells, hj, show j < cur.size by omega]
  · rw [List.getElem?_take_eq_none (by omega), List.getElem?_eq_none (by simp; omega)]

/-- Behind the sort the same slice owns what was put. -/
theorem own_put {w : World} {B g cap n m : Nat} {e : TypeId} {os : Array Obj} {xs : List Value} {ts : List α} (h : w.ownsRow B e 1 (.slice (some ⟨g, 0, none⟩) n cap) n xs) (hl : ts.length = n) :
    (grow (putRow enc (Sort.ahead w m) g 0 ts.toArray) os).ownsRow B e 1 (.slice (some ⟨g, 0, none⟩) n cap) n (ts.map enc) := by
  rcases h.2 with ⟨hv, _⟩ | ⟨g', cap', cur, hv, hbase, hb, h1, h2, h3, _⟩
  · cases hv
  · cases hv
    refine ⟨by simp [hl], .inr ⟨g, cap, _, rfl, hbase, heap_put enc ts.toArray hb, h1, h2, by simp [putCells, h3], ?_⟩⟩
    rw [Nat.mul_one, ← hl]
    exact take_put enc cur ts (by omega)
end

/-- What a sort of integers leaves. -/
def sortI (l : List Int) : List Int := l.mergeSort fun x y => decide (x ≤ y)
def SortOk : Prop := ∀ (B : Nat) (v : Value) (l : List Int) (w : World), Fresh B w v l → 0 < l.length → l.length ≤ 1048576 →
  Calls Try.prog 177 #[v] w (fun e w' => (∃ r, e = .returned r) ∧ Fresh B w' v (sortI l) ∧ w.grownBy w' v.ownBlock)
theorem sortOk : SortOk := by
  intro B v l w hf h0 hl
  have hf' : w.ownsRow B 3 1 v l.length (l.map (Value.int .i64)) := hf
  rcases hf.2 with ⟨_, h1⟩ | ⟨g, cap, cur, rfl, hb, hg, _⟩
  · omega
  · have hH := holds_of_own (Value.int .i64) hf' rfl
    have hgw : g < w.heap.size := (Array.getElem?_eq_some_iff.1 hg).1
    have hc := Try.slices_Sort_int g 0 cap l w hH hgw (by omega)
    refine hc.mono ?_
    rintro e w' ⟨rfl, n, os, rfl⟩
    have hlen : (sortI l).length = l.length := by simp [sortI]
    refine ⟨⟨_, rfl⟩, ?_, grown_put _ _⟩
    have := own_put (Value.int .i64) (m := n) (os := os) hf' hlen
    unfold Fresh
    rw [hlen]
    exact this

end Go.Proofs.Ytihknedmkkakhaa

namespace Go.Proofs.Ytihknedmkkakhaa
open Go.RowKit Go.Sort Go.Shelf
set_option linter.unusedVariables false

theorem cmpP_lt (x y : Nat × Nat) : cmpP x y < 0 ↔ lexL x y := by
  unfold cmpP cmpI lexL
  by_cases h1 : (x.1 : Int) < y.1
  · simp [h1]; omega
  · by_cases h2 : (y.1 : Int) < x.1
    · simp [h1, h2]; omega
    · have e : x.1 = y.1 := by omega
      by_cases h3 : (x.2 : Int) + 1 < (y.2 : Int) + 1
      · simp [h3, e]; omega
      · by_cases h4 : (y.2 : Int) + 1 < (x.2 : Int) + 1
        · simp [h3, h4, e]; omega
        · simp [h3, h4, e]; omega
theorem cmpP_swo : SWO (Go.Proofs.ltOf cmpP) := by
  refine ⟨fun x => ?_, fun x y z h k => ?_, fun x y z h k => ?_⟩ <;> unfold Go.Proofs.ltOf at *
  · rw [decide_eq_false_iff_not, cmpP_lt]; unfold lexL; omega
  · rw [decide_eq_true_iff, cmpP_lt] at *; unfold lexL at *; omega
  · rw [decide_eq_false_iff_not, cmpP_lt] at *; unfold lexL at *; omega

theorem flatK_flat (L : List (Nat × Nat)) : (flatK cellsI 2 L.toArray).toList = flatI L := by
  apply List.ext_getElem?
  intro t
  have hs : (flatK cellsI 2 L.toArray).size = L.length * 2 := by simp
  by_cases ht : t < L.length * 2
  · have hj : t / 2 < L.length := by omega
    have hg := get_flatK cellsI 2 L.toArray t (by simpa using ht)
    rw [Array.getElem?_toList]
    rw [Array.getElem?_eq_getElem (by omega)]
    rw [getElem!_pos _ t (by omega)] at hg
    rw [hg]
    obtain ⟨f1, f2⟩ := flatI_at hj
    have e : L.toArray[t / 2]! = L[t / 2] := by simp [hj]
    rw [e]
    rcases Nat.mod_two_eq_zero_or_one t with h | h
    · rw [h]
      have et : t = t / 2 * 2 := by omega
      have e2 : (flatI L)[t]? = some (.int .i64 (L[t / 2].1 : Int)) := by
        have := f1
        rwa [← et] at this
      rw [e2]; rfl
    · rw [h]
      have et : t = t / 2 * 2 + 1 := by omega
      have e2 : (flatI L)[t]? = some (.int .i64 ((L[t / 2].2 : Int) + 1)) := by
        have := f2
        rwa [← et] at this
      rw [e2]; rfl
  · rw [List.getElem?_eq_none (by rw [Array.length_toList]; omega), List.getElem?_eq_none (by rw [flatI_len]; omega)]

/-- Behind the sort the same slice owns what was put, at elements of two cells. -/
theorem own_put2 {w : World} {B g cap n m : Nat} {e : TypeId} {os : Array Obj} {xs ts : List Value} (h : w.ownsRow B e 2 (.slice (some ⟨g, 0, none⟩) n cap) n xs) (hl : ts.length = n * 2) :
    (grow (putRow id (Sort.ahead w m) g 0 ts.toArray) os).ownsRow B e 2 (.slice (some ⟨g, 0, none⟩) n cap) n ts := by
  rcases h.2 with ⟨hv, _⟩ | ⟨g', cap', cur, hv, hbase, hb, h1, h2, h3, _⟩
  · cases hv
  · cases hv
    refine ⟨hl, .inr ⟨g, cap, _, rfl, hbase, heap_put id ts.toArray hb, h1, h2, by simp [putCells, h3], ?_⟩⟩
    have := take_put id cur ts (by omega)
    rw [List.map_id] at this
    rw [← hl]
    exact this

theorem holdsK_of {w : World} {B g cap : Nat} {L : List (Nat × Nat)} (h : FreshIn B w (.slice (some ⟨g, 0, none⟩) L.length cap) L) : HoldsK cellsI 2 w g 0 L.toArray := by
  intro j hj
  have hj' : j < L.length * 2 := by simpa using hj
  have hc := World.ownsRow.cellAt h j hj'
  rcases h.2 with ⟨hv, _⟩ | ⟨g', cap', cur, hv, _, hb, _⟩
  · cases hv
  · cases hv
    refine ⟨?_, by simp [World.frozen?, hb]⟩
    rw [Nat.zero_add, hc, ← flatK_flat, Array.getElem?_toList, Array.getElem?_eq_getElem (by simpa using hj), getElem!_pos _ j (by simpa using hj)]
    rfl

/-- The same instances, in order. -/
def SortedI (B : Nat) (v : Value) (L : List (Nat × Nat)) (w : World) (e : Ending) (w' : World) : Prop :=
  (∃ r, e = .returned r) ∧ ∃ L', FreshIn B w' v L' ∧ L'.Perm L ∧ L'.Pairwise lexL ∧ w.grownBy w' v.ownBlock

theorem sortInst_any (B : Nat) (v : Value) (L : List (Nat × Nat)) (w : World) (hf : FreshIn B w v L) (hnd : L.Nodup) (hlen : L.length ≤ 1048576) :
    Calls Try.prog 107 #[v, .func (.func 108) #[] #[]] w (SortedI B v L w) := by
  by_cases h0 : L = []
  · subst h0
    obtain ⟨ao, cap, hv, _⟩ := hf.at
    have hv' : v = .slice ao 0 cap := hv
    subst hv'
    refine (AnyF.slices_SortFunc_none Try.lSortI ao cap _ w).mono ?_
    rintro e w' ⟨rfl, rfl⟩
    exact ⟨⟨_, rfl⟩, [], hf, List.Perm.refl _, List.Pairwise.nil, ⟨rfl, rfl, rfl, Nat.le_refl _, fun _ _ _ => rfl⟩⟩
  · have hpos : 0 < L.length := List.length_pos_iff.2 h0
    have hf0 : w.ownsRow B 101 2 v L.length (flatI L) := hf
    obtain ⟨g, cap, rfl⟩ : ∃ g cap, v = .slice (some ⟨g, 0, none⟩) L.length cap := by
      rcases hf0.2 with ⟨_, h⟩ | ⟨g, cap, _, hv, _⟩
      · omega
      · exact ⟨g, cap, hv⟩
    have hgw : g < w.heap.size := (World.ownsRow.lt hf0 g rfl).2
    have hsz : L.toArray.size = L.length := by simp
    have hcmp : Go.Proofs.CmpLays Try.prog 108 #[] cellsI 2 cmpP g 0 L.toArray.size w := by
      intro m os dk _ x y
      refine (instCmp_any x y _).mono ?_
      rintro e w' ⟨rfl, q, os', rfl⟩
      exact ⟨rfl, q, os', rfl⟩
    have hc := AnyQ.slices_SortFunc Try.lSortI 2 (fun w => by kernel_rfl) (fun w => by kernel_rfl) cellsI (fun _ => rfl) (fun x v hv => by simp [cellsI] at hv; rcases hv with rfl | rfl <;> rfl) cmpP cmpP_swo 108 #[] g 0 cap L.toArray w (enters_of Try.func108 (by kernel_rfl) rfl) hcmp (holdsK_of hf) hgw (by rw [hsz]; omega)
    rw [hsz] at hc
    refine hc.mono ?_
    rintro e w' ⟨rfl, d', n, os, hp, hs, rfl⟩
    have hds : d'.size = L.length := by rw [hp.1, hsz]
    have hperm : d'.toList.Perm L := by
      have h := hp.2.2
      have e1 : d'.extract 0 L.length = d' := by rw [← hds]; simp
      have e2 : L.toArray.extract 0 L.length = L.toArray := by
        have := Array.extract_size (xs := L.toArray)
        rwa [hsz] at this
      rw [e1, e2] at h
      simpa using h
    have hndd : d'.toList.Nodup := hperm.nodup_iff.2 hnd
    refine ⟨⟨_, rfl⟩, d'.toList, ?_, hperm, ?_, ?_⟩
    · have hl : (flatI d'.toList).length = L.length * 2 := by rw [flatI_len, Array.length_toList, hds]
      have := own_put2 (m := n) (os := os) hf0 hl
      unfold FreshIn
      have hdl : d'.toList.length = L.length := by simpa using hds
      rw [hdl]
      have e : flatK cellsI 2 d' = (flatI d'.toList).toArray := by rw [← flatK_flat]
      unfold sortWorldK putRowK
      rw [e]
      exact this
    · rw [List.pairwise_iff_getElem]
      intro i j hi hj hij
      rw [Array.length_toList] at hi hj
      have h := hs i j (Nat.zero_le _) hij (by omega)
      unfold Go.Proofs.ltOf at h
      rw [decide_eq_false_iff_not, cmpP_lt, getElem!_pos _ j hj, getElem!_pos _ i hi] at h
      have hne : d'[i] ≠ d'[j] := by
        have := List.pairwise_iff_getElem.1 hndd i j (by simpa using hi) (by simpa using hj) hij
        simpa using this
      have hne' : ¬ (d'[i].1 = d'[j].1 ∧ d'[i].2 = d'[j].2) := fun e => hne (Prod.ext e.1 e.2)
      simp only [Array.getElem_toList]
      unfold lexL at h ⊢
      omega
    · unfold sortWorldK putRowK
      exact grown_put id _

end Go.Proofs.Ytihknedmkkakhaa

namespace Go.Proofs.Ytihknedmkkakhaa
open Go.RowKit Go.Maps
set_option linter.unusedVariables false

/-- The instances that have come, each once. -/
structure Came (S : Nat → Nat → Bool) (left : Lit → Bool) (L : List (Nat × Nat)) : Prop where
  nodup : L.Nodup
  mem : ∀ x : Nat × Nat, x ∈ L ↔ (S x.1 x.2 = true ∧ left (kl (x.1 : Int) ((x.2 : Int) + 1)) = false)
theorem Came.start {S : Nat → Nat → Bool} {D : DataW Value} {f : Nat → Nat → Value} (h : MapOf D S f) : Came S (Maps.has D) [] :=
  ⟨List.nodup_nil, fun x => by
    constructor
    · intro hx; cases hx
    · rintro ⟨hs, hl⟩
      rw [h.has x.1 x.2 hs] at hl
      cases hl⟩
theorem Came.step {S : Nat → Nat → Bool} {D : DataW Value} {f : Nat → Nat → Value} (h : MapOf D S f) {left : Lit → Bool} {L : List (Nat × Nat)} (hc : Came S left L) {p q : Nat} (hs : S p q = true) (hl : left (kl (p : Int) ((q : Int) + 1)) = true) :
    Came S (fun z => left z && !z.sameKey (kl (p : Int) ((q : Int) + 1))) (L ++ [(p, q)]) := by
  have hne : (p, q) ∉ L := fun hm => by
    have := ((hc.mem _).1 hm).2
    rw [hl] at this; cases this
  have hk := h.low p q hs
  have hself : (kl (p : Int) ((q : Int) + 1)).sameKey (kl (p : Int) ((q : Int) + 1)) = true := WideAt.sameKey_self (instKeyed.key (keyOf_inst (wf_small (by omega) (by omega)) (wf_small (by omega) (by omega))))
  refine ⟨?_, fun x => ?_⟩
  · rw [List.nodup_append]
    refine ⟨hc.nodup, by simp, fun a ha b hb e => ?_⟩
    simp at hb
    subst hb
    subst e
    exact hne ha
  · rw [List.mem_append, List.mem_singleton, hc.mem]
    by_cases e : x = (p, q)
    · subst e
      simp [hs, hself]
    · constructor
      · rintro (⟨h1, h2⟩ | h1)
        · exact ⟨h1, by rw [h2]; rfl⟩
        · exact absurd h1 e
      · rintro ⟨h1, h2⟩
        have hx := h.low x.1 x.2 h1
        have hn := Maps.sameKey_ne (kl_ne hx hk (fun e' => e (Prod.ext e'.1 e'.2)))
        rw [hn] at h2
        exact .inl ⟨h1, by simpa using h2⟩

/-- The instances of S in order come back, in new memory. -/
def NewInsts (S : Nat → Nat → Bool) (w : World) (e : Ending) (w' : World) : Prop :=
  ∃ v L, e = .returned v ∧ FreshIn w.heap.size w' v L ∧ L.Pairwise lexL ∧ (∀ x : Nat × Nat, x ∈ L ↔ S x.1 x.2 = true) ∧ Ext w w'

set_option maxHeartbeats 4000000 in
set_option maxRecDepth 100000 in
theorem inOrderRow_any (B n0 : Nat) (D : DataW Value) (S : Nat → Nat → Bool) (R_ : Nat → Nat → RowD) (U : Nat → Nat → Value) (w : World) (hm : RowMap w B n0 D) (hd : MapOf D S (fun p q => rowV (R_ p q) (U p q))) (hn : n0 ≤ 1000) :
    Calls Try.prog 62 #[.map (some B)] w (NewInsts S w) := by
  have HM := Lib.hid hm
  have HD := Lib.hid hd
  have HB := Lib.hid hm.lt
  have HN0 := Lib.hid hn
  clear hm hd hn
  go_enter Try.func62, Try.ntmps62
  go_wp2_with (first | (at_range; refine wpList_range_own _ rfl _ 81 rfl 101 90 instKeyed Try.underlying81 asIs B n0 D rfl HM.out ?_; intro w1 hrg1 hg1 hs1) | go_in)
  go_frame
  have X1 := Lib.hid (ext_of_grown hg1)
  have R1 := Lib.hid hrg1
  obtain ⟨r, hr⟩ : ∃ r, r = w.heap.size := ⟨_, rfl⟩
  rw [← hr] at R1 ⊢
  have HR := Lib.hid hr
  have HS1 : Hid (r + 1 ≤ w1.heap.size) := Lib.hid (by omega)
  clear hrg1 hg1 hs1 HM hr
  go_loopw [3, 4] (fun s _ wr => ∃ (left : Lit → Bool) (cnt : Nat) (L : List (Nat × Nat)), Hid (RowRange wr B r n0 D left cnt) ∧ Hid (Came S left L) ∧ Hid (FreshIn (r + 1) wr s L) ∧ Hid (L.length + cnt ≤ n0) ∧ Hid (Ext w wr) ∧ Hid (r + 1 ≤ wr.heap.size)) (fun _ _ wr => wr.rangeLeft B r)
  case atStart => exact ⟨_, _, [], R1, Lib.hid (Came.start HD.out), Lib.hid (FreshIn.nil _ _), Lib.hid (by have := R1.out.owns.size_le; simpa using this), X1, HS1⟩
  case round =>
    clear R1 X1 HS1
    obtain ⟨left, cnt, L, R, C, F, N, X, SZ⟩ := hrel
    have hF := F.out
    have hlt0 : ∀ k, u3.ownBlock = some k → r + 1 ≤ k := fun k hk => (World.ownsRow.lt hF k hk).1
    have HLT0 := Lib.hid hlt0
    clear hF hlt0
    go_wp2_with (first | (at_next; refine wpList_next_inst _ rfl _ rfl B r n0 D left cnt _ _ rfl R.out HD.out ?_ ?_) | go_in)
    · intro hl
      clear R
      go_wp2_with fail
      refine (sortInst_any _ _ L _ F.out C.out.nodup (by have := N.out; have := HN0.out; omega)).mono ?_
      rintro e w2 ⟨⟨rv, rfl⟩, L', f', hp, hlex, hg⟩
      have hmem : ∀ x : Nat × Nat, x ∈ L' ↔ S x.1 x.2 = true := fun x => by
        rw [hp.mem_iff, C.out.mem, hl]
        simp
      have HM := Lib.hid hmem
      have HP := Lib.hid hlex
      have hx2 : Ext w w2 := Below.grown X.out hg X.out.size (fun k hk => by have := HLT0.out k hk; have := HR.out; omega)
      have X2 := Lib.hid hx2
      have hf2 : FreshIn w.heap.size w2 u3 L' := ownsRow_more f' (by have := HR.out; omega)
      have F2 := Lib.hid hf2
      clear hp hlex hg hmem hx2 f' hf2 C F N X hl
      go_wp2
      go_ret
      exact ⟨_, L', rfl, F2.out, HP.out, HM.out, X2.out⟩
    · intro p q w3 cnt3 hS hlk hrg3 hlt hg3 hs3 hen
      have C3 := Lib.hid (C.out.step HD.out hS hlk)
      have N3 : Hid ((L ++ [(p, q)]).length + cnt3 ≤ n0) := Lib.hid (by have := N.out; simp; omega)
      have X3 : Hid (Ext w w3) := Lib.hid (X.out.turned hg3 (by have := HR.out; omega))
      have F3 : Hid (FreshIn (r + 1) w3 u3 L) := Lib.hid (World.ownsRow.kept F.out hg3 (by
        cases hb : u3.ownBlock with
        | none => exact .inl rfl
        | some k => exact .inr (fun e => by cases e; have := HLT0.out _ hb; omega)))
      have R3 := Lib.hid hrg3
      have SZ3 : Hid (r + 1 ≤ w3.heap.size) := Lib.hid (by have := SZ.out; omega)
      have HRO := Lib.hid R.out
      have HLT := Lib.hid hlt
      have HL : Hid (L.length ≤ 1048576) := Lib.hid (by have := N.out; have := HN0.out; omega)
      obtain ⟨rv, hrv⟩ : ∃ rv, rv = rowV (R_ p q) (U p q) := ⟨_, rfl⟩
      simp only [← hrv] at hen ⊢
      clear hrg3 hg3 hs3 hlk hS R C N X F SZ hlt hrv
      go_wp2_with (first | (at_builtin; refine wpList_pushI rfl _ _ rfl (r + 1) _ L (p, q) rfl (F3.out.ext (Ext.alloc2 _ _ _)) (w3.heap.size + 1) 1 rfl (by go_simp) (by go_simp) HL.out (Nat.le_trans SZ3.out (Ext.alloc2 _ _ _).size) ?_; intro v' w4 f4 hg4 hk4) | go_in)
      have F4 := Lib.hid f4
      have X4 := Lib.hid (hk4 w (X3.out.trans (Ext.alloc2 _ _ _)) (by have := HR.out; omega))
      have R4 : Hid (RowRange w4 B r n0 D (fun z => left z && !z.sameKey (kl (p : Int) ((q : Int) + 1))) cnt3) := Lib.hid ((R3.out.ext (Ext.alloc2 _ _ _)).kept hg4 (fun e => by have := HLT0.out _ e.symm; have := HB.out; have := HR.out; omega) (fun e => by have := HLT0.out _ e.symm; omega))
      have SZ4 : Hid (r + 1 ≤ w4.heap.size) := Lib.hid (Nat.le_trans (Nat.le_trans SZ3.out (Ext.alloc2 _ _ _).size) hg4.size)
      clear f4 hg4 hk4 F3 X3 R3 SZ3
      go_wp2
      go_roundw
      case rel => exact ⟨_, _, _, R4, C3, F4, N3, X4, SZ4⟩
      case measure => rw [R4.out.left_eq, HRO.out.left_eq]; exact HLT.out

end Go.Proofs.Ytihknedmkkakhaa

namespace Go.Proofs.Ytihknedmkkakhaa
open Go.RowKit Go.Maps
set_option linter.unusedVariables false

/-- Two lists of lists come back, and a Bool: each in new memory, the second behind the first. -/
def ThreeSS (L M : List (List Int)) (b : Bool) (w : World) (e : Ending) (w' : World) : Prop :=
  ∃ v u w1, e = .returned (.tuple #[v, u, .bool b]) ∧ FreshSS w.heap.size w1 v L ∧ Ext w w1 ∧ FreshSS w1.heap.size w' u M ∧ Ext w1 w'

/-- Lists in the same order with the same members are one. -/
theorem lex_unique {L M : List (Nat × Nat)} (hL : L.Pairwise lexL) (hM : M.Pairwise lexL) (h : ∀ x, x ∈ L ↔ x ∈ M) : L = M := by
  induction L generalizing M with
  | nil =>
    cases M with
    | nil => rfl
    | cons y t => exact absurd ((h y).2 (by simp)) (by simp)
  | cons x s ih =>
    cases M with
    | nil => exact absurd ((h x).1 (by simp)) (by simp)
    | cons y t =>
      rw [List.pairwise_cons] at hL hM
      have exy : x = y := by
        rcases List.mem_cons.1 ((h x).1 (by simp)) with e | e
        · exact e
        · rcases List.mem_cons.1 ((h y).2 (by simp)) with e' | e'
          · exact e'.symm
          · have h1 := hM.1 x e
            have h2 := hL.1 y e'
            unfold lexL at h1 h2
            omega
      subst exy
      congr 1
      refine ih hL.2 hM.2 fun z => ?_
      constructor
      · intro hz
        rcases List.mem_cons.1 ((h z).1 (by simp [hz])) with e | e
        · subst e
          have := hL.1 _ hz
          unfold lexL at this
          omega
        · exact e
      · intro hz
        rcases List.mem_cons.1 ((h z).2 (by simp [hz])) with e | e
        · subst e
          have := hM.1 _ hz
          unfold lexL at this
          omega
        · exact e
theorem insts_of {T : List (List RowD)} {L : List (Nat × Nat)} (hL : L.Pairwise lexL) (h : ∀ x : Nat × Nat, x ∈ L ↔ instCom T x.1 x.2 = true) : L = insts T :=
  lex_unique hL (insts_lex T) (fun x => by rw [h, mem_insts])
theorem insts_short {n : Int} {T : List (List RowD)} (hg : goodTab n T = true) : (insts T).length ≤ 30 := by
  have h := goodTab_both hg
  have h2 := allTo_len h.2 T.length (Nat.le_refl _)
  rw [allTo_insts, List.length_map] at h2
  have : (insts T).length ≤ 6 * T.length := h2
  omega

def pointsR (n : Int) (T : List (List RowD)) : List (List Int) := if goodTab n T then (insts T).map pairOf else []
def graphR (n : Int) (T : List (List RowD)) : List (List Int) := if goodTab n T then graphP n T (insts T) else []

set_option maxHeartbeats 2000000 in
set_option maxRecDepth 100000 in
theorem implGraphOf_any (n : Int) (u : Value) (T : List (List RowD)) (w : World) (hu : Rowzz w u T) (hs : bulkT T ≤ 1099511627776) :
    Calls Try.prog 27 #[.agg #[.int .i64 n, u]] w (ThreeSS (pointsR n T) (graphR n T) (goodTab n T) w) := by
  obtain ⟨P, hP⟩ : ∃ P, P = pointsR n T := ⟨_, rfl⟩
  obtain ⟨G, hG⟩ : ∃ G, G = graphR n T := ⟨_, rfl⟩
  obtain ⟨g, hg⟩ : ∃ g, g = goodTab n T := ⟨_, rfl⟩
  rw [← hP, ← hG, ← hg]
  have HS := Lib.hid hs
  have hx0 := Ext.alloc1 w (.cells #[.int .i64 n, u] 48)
  have b0 := attrAt_new w 48 n u
  have HU := Lib.hid (hu.ext hx0)
  have HX := Lib.hid hx0
  have HP := Lib.hid hP
  have HG := Lib.hid hG
  have HGG := Lib.hid hg
  obtain ⟨au, cu, rfl, hlu, _, _⟩ := hu
  clear hx0 hs hP hG hg
  go_enter Try.func27, Try.ntmps27
  go_wp2_with fail
  refine (implGoodTable_any n _ T _ HU.out HS.out).mono ?_
  rintro e w1 ⟨rfl, x1⟩
  rw [← HGG.out]
  cases g with
  | false =>
    have eP : P = [] := by rw [HP.out]; unfold pointsR; rw [← HGG.out]; rfl
    have eG : G = [] := by rw [HG.out]; unfold graphR; rw [← HGG.out]; rfl
    have X1 := Lib.hid (HX.out.trans x1)
    have EP := Lib.hid eP
    have EG := Lib.hid eG
    clear eP eG
    go_wp2
    go_ret3
    rw [EP.out, EG.out]
    exact ⟨_, _, w1, rfl, FreshSS.nil _ _, X1.out, FreshSS.nil _ _, Ext.refl _⟩
  | true =>
    have H56 := Lib.hid (goodTab_both HGG.out.symm)
    obtain ⟨U, hU⟩ := tabAt_of (HU.out.ext x1)
    have HT := Lib.hid hU
    have HL := Lib.hid (hU.lists n)
    have X1 := Lib.hid (HX.out.trans x1)
    obtain ⟨c1, c2⟩ := b0.ext x1
    clear x1 hU HU b0
    go_wp2_with fail
    refine (committedIn_any n _ T U _ HT.out H56.out.1 H56.out.2).mono ?_
    rintro e w2 ⟨B, D, rfl, m2, d2, hb2, x2⟩
    have M2 := Lib.hid m2
    have D2 := Lib.hid d2
    have X2 := Lib.hid (X1.out.trans x2)
    have L2 := Lib.hid (HL.out.ext x2)
    clear m2 d2 hb2 x2 c1 c2 X1 HL HT
    go_wp2_with fail
    refine (inOrderRow_any B 30 D (instCom T) (rowOf n T) U _ M2.out D2.out (by omega)).mono ?_
    rintro e w3 ⟨v3, L, rfl, f3, hlex, hmem, x3⟩
    have eL : L = insts T := insts_of hlex hmem
    subst eL
    have I3 := Lib.hid f3.at
    have M3 := Lib.hid (M2.out.ext x3)
    have X3 := Lib.hid (X2.out.trans x3)
    have L3 := Lib.hid (L2.out.ext x3)
    have HSH := Lib.hid (insts_short HGG.out.symm)
    clear f3 hlex hmem x3 M2 X2 L2
    go_wp2_with fail
    refine (pairsOf_any v3 (insts T) _ I3.out (by have := HSH.out; omega)).mono ?_
    rintro e w4 ⟨v4, rfl, f4, x4⟩
    have F4 := Lib.hid f4
    have I4 := Lib.hid (I3.out.ext x4)
    have M4 := Lib.hid (M3.out.ext x4)
    have X4 := Lib.hid (X3.out.trans x4)
    have L4 := Lib.hid (L3.out.ext x4)
    have Z4 := Lib.hid X3.out.size
    clear f4 x4 I3 M3 X3 L3
    go_wp2_with fail
    refine (graphAmong_any n T U (insts T) v3 B 30 D (instCom T) _ I4.out (by have := HSH.out; omega) M4.out D2.out (fun x hx => mem_insts.1 hx) (fun p q h => h) HGG.out.symm L4.out).mono ?_
    rintro e w5 ⟨v5, rfl, f5, x5⟩
    have F5 := Lib.hid f5
    have X5 := Lib.hid x5
    have EP : Hid (P = (insts T).map pairOf) := Lib.hid (by rw [HP.out]; unfold pointsR; rw [← HGG.out]; rfl)
    have EG : Hid (G = graphP n T (insts T)) := Lib.hid (by rw [HG.out]; unfold graphR; rw [← HGG.out]; rfl)
    clear f5 x5 I4 M4 L4
    go_wp2
    go_ret3
    rw [EP.out, EG.out]
    exact ⟨_, _, w4, rfl, F4.out.more Z4.out, X4.out, F5.out, X5.out⟩

end Go.Proofs.Ytihknedmkkakhaa
