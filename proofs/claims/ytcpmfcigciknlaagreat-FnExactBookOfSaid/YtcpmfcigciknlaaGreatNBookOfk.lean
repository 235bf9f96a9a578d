/- Texts of this proof, part k: words, plain facts, contracts. -/
import Derived.Test.YtcpmfcigciknlaaGreatNBookOfj
import Derived.Test.YtcpmfcigciknlaaGreatNBookOfe
import Derived.Deep.RegionHeld3
import Derived.Test.YtcpmfcigciknlaaGreatNBookOff
import Derived.Test.YtcpmfcigciknlaaGreatNBookOfg
import Derived.Sort.Grow
import Derived.Shelf.SlSortCmp.WholeK
import Derived.Shelf.SlSortCmp.NoneTotal
import Derived.Test.YtcpmfcigciknlaaGreatNBookOfa
set_option linter.unusedVariables false
set_option linter.unusedSimpArgs false

namespace Go.Proofs.YtcpmfcigciknlaaGreat
open Go.RowKit Go.Maps
set_option linter.unusedVariables false
def depsAt (x : Nat × Nat) (k m : Nat) : List (Nat × Nat) := ((List.range m).filter fun i => !(decide ((k, i) = x))).map fun i => (k, i)
def depN (r : RowD) (k : Nat) : Nat := (depI r k).toNat
def depsTo (r : RowD) (x : Nat × Nat) (k : Nat) : List (Nat × Nat) := (List.range k).flatMap fun p => depsAt x p (depN r p)
def depsL (n : Int) (T : List (List RowD)) (x : Nat × Nat) : List (Nat × Nat) := depsTo (rowOf n T x.1 x.2) x (rowOf n T x.1 x.2).l.length
theorem depsAt_succ (x : Nat × Nat) (k m : Nat) : depsAt x k (m + 1) = depsAt x k m ++ if (k, m) = x then [] else [(k, m)] := by
  unfold depsAt
  rw [List.range_succ, List.filter_append, List.map_append]
  congr 1
  by_cases e : (k, m) = x <;> simp [e]
theorem depsTo_succ (r : RowD) (x : Nat × Nat) (k : Nat) : depsTo r x (k + 1) = depsTo r x k ++ depsAt x k (depN r k) := by simp [depsTo, List.range_succ]
theorem depsAt_len (x : Nat × Nat) (k m : Nat) : (depsAt x k m).length ≤ m := by
  unfold depsAt
  rw [List.length_map]
  have := List.length_filter_le (fun i => !(decide ((k, i) = x))) (List.range m)
  simpa using this
theorem depsTo_len {r : RowD} {x : Nat × Nat} (h : ∀ k, depN r k ≤ 6) (k : Nat) : (depsTo r x k).length ≤ 6 * k := by
  induction k with
  | zero => simp [depsTo]
  | succ k ih =>
    rw [depsTo_succ, List.length_append]
    have h1 := depsAt_len x k (depN r k)
    have h2 := h k
    omega
theorem mem_depsAt {x y : Nat × Nat} {k m : Nat} : y ∈ depsAt x k m ↔ y.1 = k ∧ y.2 < m ∧ y ≠ x := by
  unfold depsAt
  rw [List.mem_map]
  constructor
  · rintro ⟨i, hi, rfl⟩
    rw [List.mem_filter, List.mem_range] at hi
    exact ⟨rfl, hi.1, by simpa using hi.2⟩
  · rintro ⟨h1, h2, h3⟩
    refine ⟨y.2, ?_, ?_⟩
    · rw [List.mem_filter, List.mem_range]
      refine ⟨h2, ?_⟩
      have e : (k, y.2) = y := by rw [← h1]
      rw [e]
      simpa using h3
    · rw [← h1]
theorem mem_depsTo {r : RowD} {x y : Nat × Nat} {k : Nat} : y ∈ depsTo r x k ↔ y.1 < k ∧ y.2 < depN r y.1 ∧ y ≠ x := by
  unfold depsTo
  rw [List.mem_flatMap]
  constructor
  · rintro ⟨p, hp, hy⟩
    obtain ⟨h1, h2, h3⟩ := mem_depsAt.1 hy
    subst h1
    exact ⟨List.mem_range.1 hp, h2, h3⟩
  · rintro ⟨h1, h2, h3⟩
    exact ⟨y.1, List.mem_range.2 h1, mem_depsAt.2 ⟨rfl, h2, h3⟩⟩
theorem rowOf_list {n : Int} {T : List (List RowD)} (hg : goodTab n T = true) {p : Nat} (hp : p < T.length) (q : Nat) : (rowOf n T p q).l.length ≤ 5 := by
  by_cases hq : q < T[p].length
  · rw [rowOf_in hp hq]
    exact (goodTab_row hg hp hq).2.2
  · rw [rowOf_out hp (by omega)]
    unfold emptyR noneL
    split
    · rename_i h
      rcases isGrp_of h with e | e <;> subst e <;> decide
    · simp
set_option maxHeartbeats 4000000 in
set_option maxRecDepth 100000 in
theorem l6Deps_any (n : Int) (u : Value) (T : List (List RowD)) (p q : Nat) (w : World) (hu : Rowzz w u T) (hg : goodTab n T = true) (hp : p < T.length) (hq : q ≤ 5) :
    Calls Tryz.prog 137 #[.agg #[.int .i64 n, u], .int .i64 p, .int .i64 ((q : Int) + 1)] w (NewIntss ((depsL n T (p, q)).map pairOf) w) := by
  have HU := Lib.hid hu
  have HDI := Lib.hid (fun k => dep_in hg hp q k)
  have hlen := rowOf_list hg hp q
  have hx0 := Ext.alloc1 w (.cells #[.int .i64 n, u] 32)
  have HX0 := Lib.hid hx0
  obtain ⟨d, hd⟩ : ∃ d, d = rowOf n T p q := ⟨_, rfl⟩
  have cR : ∀ W, Ext w W → Calls Tryz.prog 65 #[.agg #[.int .i64 n, u], .int .i64 p, .int .i64 ((q : Int) + 1)] W (NewRow d W) := fun W hW => by
    rw [hd]
    exact l4At_any n _ T p q _ (hu.ext hW) hg hp hq
  have CR := Lib.hid cR
  have hgoal : depsL n T (p, q) = depsTo d (p, q) d.l.length := by unfold depsL; simp only [hd]
  rw [hgoal]
  rw [← hd] at hlen HDI
  obtain ⟨au, cu, rfl, hlu, _, _⟩ := hu
  clear hx0 cR hgoal hd hg
  go_enter Tryz.func137, Tryz.ntmps137
  go_wp2_with fail
  refine (CR.out _ HX0.out).mono ?_
  rintro e w1 ⟨ux, rfl, fx, x1⟩
  obtain ⟨ax, kx, rfl⟩ := fx.form
  have hfd := fun W => field_rowA d.b d.v d.st d.k d.i d.f d.t d.a d.s (.slice ax d.l.length kx) W
  have I1 := Lib.hid fx.ints
  have X1 := Lib.hid (HX0.out.trans x1)
  clear fx x1
  obtain ⟨W, hW⟩ : ∃ W, W = w1.alloc (.cells #[.int .i64 d.s, .slice ax d.l.length kx] 81) := ⟨_, rfl⟩
  have hbx := attrAt_new w1 81 d.s (.slice ax d.l.length kx)
  rw [← hW] at hbx
  have xW : Ext w1 W := by rw [hW]; exact Ext.alloc1 _ _
  have HBX := Lib.hid hbx
  have IW := Lib.hid (I1.out.ext xW)
  have XW := Lib.hid (X1.out.trans xW)
  have HWW := Lib.hid hW
  have HWS : Hid (w.heap.size ≤ W.heap.size) := Lib.hid (X1.out.trans xW).size
  clear hbx xW hW X1 I1
  go_wp2
  rw [← HWW.out]
  go_loopw [8, 20] (fun o i wr => ∃ k : Nat, k ≤ d.l.length ∧ i = .int .i64 k ∧ Hid (FreshSS W.heap.size wr o ((depsTo d (p, q) k).map pairOf)) ∧ Hid (Ext W wr)) (fun _ i _ => d.l.length - (intOf i).toNat)
  case atStart => exact ⟨0, Nat.zero_le _, rfl, Lib.hid (FreshSS.nil _ _), Lib.hid (Ext.refl _)⟩
  case round =>
    obtain ⟨k, hk, rfl, HF, HX⟩ := hrel
    by_cases hlt : k < d.l.length
    · obtain ⟨a', c', e', hlx, _, dl⟩ := IW.out.ext HX.out
      obtain ⟨bl, ol, ha', dl⟩ := dl (by omega)
      simp only [Value.slice.injEq] at e'
      have eax : ax = some ⟨bl, ol, none⟩ := e'.1.trans ha'
      have ekx : kx = c' := e'.2.2
      subst eax
      have gl := dl k hlt
      have gl2 : wr.cell? ⟨bl, ol + k, none⟩ = some (.int .i64 (depI d k)) := gl
      have hdk := HDI.out k
      obtain ⟨m, hm⟩ : ∃ m, m = depN d k := ⟨_, rfl⟩
      have hmd : depI d k = (m : Int) := by rw [hm]; unfold depN; omega
      rw [hmd] at gl2
      obtain ⟨t0, t1⟩ := HBX.out.ext HX.out
      have hm6 : m ≤ 6 := by omega
      have HMM := Lib.hid hm
      have HDL : Hid ((depsTo d (p, q) k).length ≤ 1000) := Lib.hid (by
        have := depsTo_len (r := d) (x := (p, q)) (fun k => by have := HDI.out k; unfold depN; omega) k
        omega)
      clear e' dl gl hdk hm hmd ha' ekx hlx
      go_wp2
      go_loopw [8, 11] (fun o i wr => ∃ j : Nat, j ≤ m ∧ i = .int .i64 ((j : Int) + 1) ∧ Hid (FreshSS W.heap.size wr o ((depsTo d (p, q) k ++ depsAt (p, q) k j).map pairOf)) ∧ Hid (Ext W wr)) (fun _ i _ => m + 1 - (intOf i).toNat)
      case atStart => exact ⟨0, Nat.zero_le _, rfl, Lib.hid (by have h := HF.out; simpa [depsAt] using h), HX⟩
      case round =>
        clear gl2 t0 t1 HF HX
        obtain ⟨j, hj, rfl, HF, HX⟩ := hrel
        by_cases hjm : j < m
        · by_cases hx : (k, j) = (p, q)
          · have hno : depsAt (p, q) k (j + 1) = depsAt (p, q) k j := by rw [depsAt_succ, if_pos hx]; simp
            have FN : Hid (FreshSS W.heap.size wr u8 ((depsTo d (p, q) k ++ depsAt (p, q) k (j + 1)).map pairOf)) := Lib.hid (by rw [hno]; exact HF.out)
            simp only [Prod.mk.injEq] at hx
            obtain ⟨rfl, rfl⟩ := hx
            clear hno HF
            go_wp2
            go_roundw
            case rel => exact ⟨j + 1, by omega, by go_num, FN, HX⟩
            case measure => simp [intOf]; omega
          · by_cases hkp : k = p
            · have hjq : ¬ j = q := fun e => hx (by rw [hkp, e])
              have n1 : ((k : Int) != (p : Int)) = false := by simp [hkp]
              have n2 : ((j : Int) + 1 != (q : Int) + 1) = true := by simp; omega
              clear hkp hjq
              have hyes : depsAt (p, q) k (j + 1) = depsAt (p, q) k j ++ [(k, j)] := by rw [depsAt_succ, if_neg hx]
              have HYES := Lib.hid hyes
              have HG := Lib.hid HF.out
              have HBB : Hid (W.heap.size ≤ wr.heap.size) := Lib.hid HX.out.size
              have hll : ((depsTo d (p, q) k ++ depsAt (p, q) k j).map pairOf).length ≤ 1048576 := by
                rw [List.length_map, List.length_append]
                have h1 := depsAt_len (p, q) k j
                have h2 := HDL.out
                omega
              have HLL := Lib.hid hll
              have hfr : Fresh wr.heap.size ((wr.alloc (.cells #[.int .i64 k, .int .i64 ((j : Int) + 1)] 3)).alloc (.cells #[.slice (some ⟨wr.heap.size, 0, none⟩) 2 2] 26)) (.slice (some ⟨wr.heap.size, 0, none⟩) 2 2) (pairOf (k, j)) := (fresh_lit wr (pairOf (k, j)) #[.int .i64 k, .int .i64 ((j : Int) + 1)] wr.heap.size rfl (Nat.le_refl _) (by simp [pairOf])).ext (Ext.alloc1 _ _)
              have HFR := Lib.hid hfr
              clear hyes hll hfr hx
              go_wp2_with (at_builtin; refine wpList_pushSS rfl _ _ rfl W.heap.size _ ((depsTo d (p, q) k ++ depsAt (p, q) k j).map pairOf) (pairOf (k, j)) wr rfl HG.out (Ext.alloc2 _ _ _) _ HFR.out ⟨wr.heap.size + 1, 0, none⟩ 1 rfl (by go_simp) rfl HLL.out HBB.out ?_)
              intro v' w' f' k'
              have HZ : Hid (Ext W w') := Lib.hid (k' W (HX.out.trans (Ext.alloc2 _ _ _)) (Nat.le_refl _))
              have FF : Hid (FreshSS W.heap.size w' v' ((depsTo d (p, q) k ++ depsAt (p, q) k (j + 1)).map pairOf)) := Lib.hid (by
                have e : (depsTo d (p, q) k ++ depsAt (p, q) k (j + 1)).map pairOf = (depsTo d (p, q) k ++ depsAt (p, q) k j).map pairOf ++ [pairOf (k, j)] := by rw [HYES.out]; simp
                rw [e]
                rw [List.map_append, List.append_assoc]
                exact f')
              clear f' k' HG HF HX
              go_wp2
              go_roundw
              case rel => exact ⟨j + 1, by omega, by go_num, FF, HZ⟩
              case measure => simp [intOf]; omega
            · have n1 : ((k : Int) != (p : Int)) = true := by simp; omega
              clear hkp
              have hyes : depsAt (p, q) k (j + 1) = depsAt (p, q) k j ++ [(k, j)] := by rw [depsAt_succ, if_neg hx]
              have HYES := Lib.hid hyes
              have HG := Lib.hid HF.out
              have HBB : Hid (W.heap.size ≤ wr.heap.size) := Lib.hid HX.out.size
              have hll : ((depsTo d (p, q) k ++ depsAt (p, q) k j).map pairOf).length ≤ 1048576 := by
                rw [List.length_map, List.length_append]
                have h1 := depsAt_len (p, q) k j
                have h2 := HDL.out
                omega
              have HLL := Lib.hid hll
              have hfr : Fresh wr.heap.size ((wr.alloc (.cells #[.int .i64 k, .int .i64 ((j : Int) + 1)] 3)).alloc (.cells #[.slice (some ⟨wr.heap.size, 0, none⟩) 2 2] 26)) (.slice (some ⟨wr.heap.size, 0, none⟩) 2 2) (pairOf (k, j)) := (fresh_lit wr (pairOf (k, j)) #[.int .i64 k, .int .i64 ((j : Int) + 1)] wr.heap.size rfl (Nat.le_refl _) (by simp [pairOf])).ext (Ext.alloc1 _ _)
              have HFR := Lib.hid hfr
              clear hyes hll hfr hx
              go_wp2_with (at_builtin; refine wpList_pushSS rfl _ _ rfl W.heap.size _ ((depsTo d (p, q) k ++ depsAt (p, q) k j).map pairOf) (pairOf (k, j)) wr rfl HG.out (Ext.alloc2 _ _ _) _ HFR.out ⟨wr.heap.size + 1, 0, none⟩ 1 rfl (by go_simp) rfl HLL.out HBB.out ?_)
              intro v' w' f' k'
              have HZ : Hid (Ext W w') := Lib.hid (k' W (HX.out.trans (Ext.alloc2 _ _ _)) (Nat.le_refl _))
              have FF : Hid (FreshSS W.heap.size w' v' ((depsTo d (p, q) k ++ depsAt (p, q) k (j + 1)).map pairOf)) := Lib.hid (by
                have e : (depsTo d (p, q) k ++ depsAt (p, q) k (j + 1)).map pairOf = (depsTo d (p, q) k ++ depsAt (p, q) k j).map pairOf ++ [pairOf (k, j)] := by rw [HYES.out]; simp
                rw [e]
                rw [List.map_append, List.append_assoc]
                exact f')
              clear f' k' HG HF HX
              go_wp2
              go_roundw
              case rel => exact ⟨j + 1, by omega, by go_num, FF, HZ⟩
              case measure => simp [intOf]; omega
        · obtain rfl : j = m := by omega
          have FN : Hid (FreshSS W.heap.size wr u8 ((depsTo d (p, q) (k + 1)).map pairOf)) := Lib.hid (by rw [depsTo_succ, ← HMM.out]; exact HF.out)
          clear HF
          go_wp2
          go_roundw
          case rel => exact ⟨k + 1, by omega, by go_num, FN, HX⟩
          case measure => simp [intOf]; omega
    · obtain rfl : k = d.l.length := by omega
      obtain ⟨t0, t1⟩ := HBX.out.ext HX.out
      have XE := Lib.hid (XW.out.trans HX.out)
      go_wp2
      go_ret
      exact ⟨_, rfl, HF.out.more HWS.out, XE.out⟩
end Go.Proofs.YtcpmfcigciknlaaGreat

namespace Go.Proofs.YtcpmfcigciknlaaGreat
open Go.RowKit Go.Sort
set_option linter.unusedVariables false
def Grows (w w' : World) : Prop := ∃ (q : Nat) (os : Array Obj), w' = grow (w.drewN q) os
theorem Grows.refl (w : World) : Grows w w := ⟨0, #[], by rw [grow_empty]; rfl⟩
theorem Grows.drew {w w' : World} (h : Grows w w') : Grows w w'.drew := by
  obtain ⟨q, os, rfl⟩ := h
  exact ⟨q + 1, os, rfl⟩
theorem Grows.alloc {w w' : World} (h : Grows w w') (o : Obj) : Grows w (w'.alloc o) := by
  obtain ⟨q, os, rfl⟩ := h
  refine ⟨q, os.push o, ?_⟩
  simp [grow, World.alloc, World.drewN]
theorem Grows.trans {a b c : World} (h : Grows a b) (k : Grows b c) : Grows a c := by
  obtain ⟨q, os, rfl⟩ := h
  obtain ⟨q', os', rfl⟩ := k
  exact ⟨q + q', os ++ os', by simp [grow, World.drewN, Nat.add_assoc]⟩
theorem Grows.ext {w w' : World} (h : Grows w w') : Ext w w' := by
  obtain ⟨q, os, rfl⟩ := h
  refine ext_of_grown ⟨rfl, rfl, rfl, by simp [grow, World.drewN], fun k hk _ => ?_⟩
  exact heap_grow_old (w.drewN q) os hk
def cmpP (x y : Nat × Nat) : Int := if cmpI (x.1 : Int) (y.1 : Int) = 0 then cmpI ((x.2 : Int) + 1) ((y.2 : Int) + 1) else cmpI (x.1 : Int) (y.1 : Int)
def orL : List Int → Int
  | [] => 0
  | x :: t => if x = 0 then orL t else x
theorem orL_drop {l : List Int} {k : Nat} (h : k < l.length) : orL (l.drop k) = if l[k]?.getD 0 = 0 then orL (l.drop (k + 1)) else l[k]?.getD 0 := by
  rw [List.drop_eq_getElem_cons h, List.getElem?_eq_getElem h, Option.getD_some]
  rfl
set_option maxHeartbeats 1000000 in
theorem orInt_any (l : List Int) (v : Value) (w : World) (hv : Ints w v l) :
    Calls Tryz.prog 145 #[v] w (IntSame (orL l) w) := by
  obtain ⟨av, cv, rfl, hlv, _, hcv⟩ := hv
  unfold maxLen at hlv
  go_enter Tryz.func145, Tryz.ntmps145
  go_wp2
  go_loopw [8] (fun i wr => ∃ k : Nat, k ≤ l.length ∧ i = .int .i64 k ∧ Hid (orL l = orL (l.drop k)) ∧ wr = w) (fun i _ => l.length - (intOf i).toNat)
  case atStart => exact ⟨0, Nat.zero_le _, rfl, Lib.hid (by simp), rfl⟩
  case round =>
    obtain ⟨k, hk, rfl, HK, rfl⟩ := hrel
    by_cases hlt : k < l.length
    · obtain ⟨bv, ov, rfl, dv⟩ := hcv (by omega)
      have gv := dv k hlt
      have hs := orL_drop hlt
      obtain ⟨x, hx⟩ : ∃ x, x = l[k]?.getD 0 := ⟨_, rfl⟩
      rw [← hx] at gv hs
      have HS := Lib.hid hs
      clear dv hcv hx hs
      by_cases h0 : x = 0
      · subst h0
        have HN := Lib.hid (show orL l = orL (l.drop (k + 1)) by rw [HK.out, HS.out, if_pos rfl])
        have ns : ((0 : Int) != 0) = false := by simp
        go_wp2
        go_roundw
        case rel => exact ⟨k + 1, by omega, by go_num, HN, by trivial⟩
        case measure => simp [intOf]; omega
      · have HN := Lib.hid (show orL l = x by rw [HK.out, HS.out, if_neg h0])
        have ns : (x != 0) = true := by simpa using h0
        go_wp2
        go_ret
        exact ⟨by rw [HN.out]; rfl, rfl⟩
    · obtain rfl : k = l.length := by omega
      have HN := Lib.hid (show orL l = 0 by rw [HK.out, List.drop_length]; rfl)
      clear HK
      go_wp2
      go_ret
      exact ⟨by rw [HN.out]; rfl, rfl⟩
theorem orInt_two (x y : Int) (v : Value) (w : World) (hv : Ints w v [x, y]) :
    Calls Tryz.prog 145 #[v] w (IntSame (if x = 0 then y else x) w) := by
  have h := orInt_any _ _ _ hv
  have e : orL [x, y] = if x = 0 then y else x := by
    unfold orL orL orL
    by_cases hx : x = 0
    · by_cases hy : y = 0 <;> simp [hx, hy]
    · simp [hx]
  rwa [e] at h
theorem orHere (w0 : World) (a b : Int) : Calls Tryz.prog 145 #[.slice (some ⟨w0.heap.size, 0, none⟩) 2 2] (w0.alloc (.cells #[.int .i64 a, .int .i64 b] 3)).drew (IntSame (if a = 0 then b else a) (w0.alloc (.cells #[.int .i64 a, .int .i64 b] 3)).drew) := by
  have h := (fresh_lit w0 [a, b] #[.int .i64 a, .int .i64 b] w0.heap.size rfl (Nat.le_refl _) (by simp)).ints
  exact orInt_two a b _ _ (h.ext (Ext.drew (Ext.refl _)))
set_option maxHeartbeats 2000000 in
set_option maxRecDepth 100000 in
theorem instCmp_any (x y : Nat × Nat) (w : World) :
    Calls Tryz.prog 103 #[.agg (cellsI x).toArray, .agg (cellsI y).toArray] w (fun e w' => e = .returned (.int .i64 (cmpP x y)) ∧ Grows w w') := by
  unfold cellsI cmpP
  obtain ⟨p, q⟩ := x
  obtain ⟨p', q'⟩ := y
  obtain ⟨r, hr⟩ : ∃ r, r = if cmpI (p : Int) (p' : Int) = 0 then cmpI ((q : Int) + 1) ((q' : Int) + 1) else cmpI (p : Int) (p' : Int) := ⟨_, rfl⟩
  have cO : ∀ w0 : World, Calls Tryz.prog 145 #[.slice (some ⟨w0.heap.size, 0, none⟩) 2 2] (w0.alloc (.cells #[.int .i64 (cmpI (p : Int) (p' : Int)), .int .i64 (cmpI ((q : Int) + 1) ((q' : Int) + 1))] 3)).drew (IntSame r (w0.alloc (.cells #[.int .i64 (cmpI (p : Int) (p' : Int)), .int .i64 (cmpI ((q : Int) + 1) ((q' : Int) + 1))] 3)).drew) := fun w0 => by
    rw [hr]
    exact orHere w0 _ _
  have CO := Lib.hid cO
  show Calls _ _ _ _ (fun e w' => e = .returned (.int .i64 (if cmpI (p : Int) (p' : Int) = 0 then cmpI ((q : Int) + 1) ((q' : Int) + 1) else cmpI (p : Int) (p' : Int))) ∧ Grows w w')
  rw [← hr]
  clear hr cO
  obtain ⟨w0, hw0⟩ : ∃ w0, w0 = (w.alloc (.cells #[.int .i64 p, .int .i64 ((q : Int) + 1)] 101)).alloc (.cells #[.int .i64 p', .int .i64 ((q' : Int) + 1)] 101) := ⟨_, rfl⟩
  have g0 : Grows w w0 := by rw [hw0]; exact (Grows.refl w).alloc _ |>.alloc _
  have c0 : w0.cell? ⟨w.heap.size, 0, none⟩ = some (.int .i64 p) := by rw [hw0]; go_simp
  have c1 : w0.cell? ⟨w.heap.size, 1, none⟩ = some (.int .i64 ((q : Int) + 1)) := by rw [hw0]; go_simp
  have c2 : w0.cell? ⟨w.heap.size + 1, 0, none⟩ = some (.int .i64 p') := by rw [hw0]; go_simp
  have c3 : w0.cell? ⟨w.heap.size + 1, 1, none⟩ = some (.int .i64 ((q' : Int) + 1)) := by rw [hw0]; go_simp
  have ks : ∀ W, Grows w0 W → Grows w0 W ∧ W.cell? ⟨w.heap.size, 0, none⟩ = some (.int .i64 p) ∧ W.cell? ⟨w.heap.size, 1, none⟩ = some (.int .i64 ((q : Int) + 1)) ∧ W.cell? ⟨w.heap.size + 1, 0, none⟩ = some (.int .i64 p') ∧ W.cell? ⟨w.heap.size + 1, 1, none⟩ = some (.int .i64 ((q' : Int) + 1)) := fun W h => ⟨h, h.ext.cell c0, h.ext.cell c1, h.ext.cell c2, h.ext.cell c3⟩
  clear c0 c1 c2 c3
  subst hw0
  have KS := Lib.hid ks
  have G0 := Lib.hid g0
  clear ks g0
  go_enter Tryz.func103, Tryz.ntmps103
  go_wp2_with fail
  generalize ((w.alloc (.cells #[.int .i64 p, .int .i64 ((q : Int) + 1)] 101)).alloc (.cells #[.int .i64 p', .int .i64 ((q' : Int) + 1)] 101)) = w0 at KS G0 ⊢
  go_region_held3 (fun W => Grows w0 W ∧ W.cell? ⟨w.heap.size, 0, none⟩ = some (.int .i64 p) ∧ W.cell? ⟨w.heap.size, 1, none⟩ = some (.int .i64 ((q : Int) + 1)) ∧ W.cell? ⟨w.heap.size + 1, 0, none⟩ = some (.int .i64 p') ∧ W.cell? ⟨w.heap.size + 1, 1, none⟩ = some (.int .i64 ((q' : Int) + 1))) (first | (with_reducible exact KS.out _ (Grows.drew (Grows.refl _))) | (with_reducible exact KS.out _ (Grows.drew (Grows.alloc (Grows.refl _) _))) | (with_reducible exact KS.out _ (Grows.alloc (Grows.drew (Grows.refl _)) _)) | (trace_state; fail)) (first | (go_at_call 146; refine (compareInt_any _ _ _).mono ?_; rintro e W3 ⟨rfl, rfl⟩) | (go_at_call 145; refine (CO.out _).mono ?_; rintro e W3 ⟨rfl, rfl⟩))
  all_goals
    go_wp2
    go_ret
    exact ⟨rfl, G0.out.trans (Grows.drew (Grows.alloc (Grows.refl _) _))⟩
end Go.Proofs.YtcpmfcigciknlaaGreat

namespace Go.Proofs.YtcpmfcigciknlaaGreat
open Go.RowKit Go.Sort Go.Shelf
set_option linter.unusedVariables false
theorem cmpP_lt (x y : Nat × Nat) : cmpP x y < 0 ↔ lexL x y := by
  unfold cmpP cmpI lexL
  by_cases h1 : (x.1 : Int) < y.1
  · simp [h1]; omega
  · by_cases h2 : (y.1 : Int) < x.1
    · simp [h1, h2]; omega
    · have e : x.1 = y.1 := by omega
      by_cases h3 : (x.2 : Int) + 1 < (y.2 : Int) + 1
      · simp [h3, e]; omega
      · by_cases h4 : (y.2 : Int) + 1 < (x.2 : Int) + 1
        · simp [h3, h4, e]; omega
        · simp [h3, h4, e]; omega
theorem cmpP_swo : SWO (Go.Proofs.ltOf cmpP) := by
  refine ⟨fun x => ?_, fun x y z h k => ?_, fun x y z h k => ?_⟩ <;> unfold Go.Proofs.ltOf at *
  · rw [decide_eq_false_iff_not, cmpP_lt]; unfold lexL; omega
  · rw [decide_eq_true_iff, cmpP_lt] at *; unfold lexL at *; omega
  · rw [decide_eq_false_iff_not, cmpP_lt] at *; unfold lexL at *; omega
theorem flatK_flat (L : List (Nat × Nat)) : (flatK cellsI 2 L.toArray).toList = flatI L := by
  apply List.ext_getElem?
  intro t
  have hs : (flatK cellsI 2 L.toArray).size = L.length * 2 := by simp
  by_cases ht : t < L.length * 2
  · have hj : t / 2 < L.length := by omega
    have hg := get_flatK cellsI 2 L.toArray t (by simpa using ht)
    rw [Array.getElem?_toList]
    rw [Array.getElem?_eq_getElem (by omega)]
    rw [getElem!_pos _ t (by omega)] at hg
    rw [hg]
    obtain ⟨f1, f2⟩ := flatI_at hj
    have e : L.toArray[t / 2]! = L[t / 2] := by simp [hj]
    rw [e]
    rcases Nat.mod_two_eq_zero_or_one t with h | h
    · rw [h]
      have et : t = t / 2 * 2 := by omega
      have e2 : (flatI L)[t]? = some (.int .i64 (L[t / 2].1 : Int)) := by
        have := f1
        rwa [← et] at this
      rw [e2]; rfl
    · rw [h]
      have et : t = t / 2 * 2 + 1 := by omega
      have e2 : (flatI L)[t]? = some (.int .i64 ((L[t / 2].2 : Int) + 1)) := by
        have := f2
        rwa [← et] at this
      rw [e2]; rfl
  · rw [List.getElem?_eq_none (by rw [Array.length_toList]; omega), List.getElem?_eq_none (by rw [flatI_len]; omega)]
theorem own_put2 {w : World} {B g cap n m : Nat} {e : TypeId} {os : Array Obj} {xs ts : List Value} (h : w.ownsRow B e 2 (.slice (some ⟨g, 0, none⟩) n cap) n xs) (hl : ts.length = n * 2) :
    (grow (putRow id (Sort.ahead w m) g 0 ts.toArray) os).ownsRow B e 2 (.slice (some ⟨g, 0, none⟩) n cap) n ts := by
  rcases h.2 with ⟨hv, _⟩ | ⟨g', cap', cur, hv, hbase, hb, h1, h2, h3, _⟩
  · cases hv
  · cases hv
    refine ⟨hl, .inr ⟨g, cap, _, rfl, hbase, heap_put id ts.toArray hb, h1, h2, by simp [putCells, h3], ?_⟩⟩
    have := take_put id cur ts (by omega)
    rw [List.map_id] at this
    rw [← hl]
    exact this
theorem holdsK_of {w : World} {B g cap : Nat} {L : List (Nat × Nat)} (h : FreshIn B w (.slice (some ⟨g, 0, none⟩) L.length cap) L) : HoldsK cellsI 2 w g 0 L.toArray := by
  intro j hj
  have hj' : j < L.length * 2 := by simpa using hj
  have hc := World.ownsRow.cellAt h j hj'
  rcases h.2 with ⟨hv, _⟩ | ⟨g', cap', cur, hv, _, hb, _⟩
  · cases hv
  · cases hv
    refine ⟨?_, by simp [World.frozen?, hb]⟩
    rw [Nat.zero_add, hc, ← flatK_flat, Array.getElem?_toList, Array.getElem?_eq_getElem (by simpa using hj), getElem!_pos _ j (by simpa using hj)]
    rfl
def SortedI (B : Nat) (v : Value) (L : List (Nat × Nat)) (w : World) (e : Ending) (w' : World) : Prop :=
  (∃ r, e = .returned r) ∧ ∃ L', FreshIn B w' v L' ∧ L'.Perm L ∧ L'.Pairwise lexL ∧ w.grownBy w' v.ownBlock
theorem sortInst_any (B : Nat) (v : Value) (L : List (Nat × Nat)) (w : World) (hf : FreshIn B w v L) (hnd : L.Nodup) (hlen : L.length ≤ 1048576) :
    Calls Tryz.prog 102 #[v, .func (.func 103) #[] #[]] w (SortedI B v L w) := by
  by_cases h0 : L = []
  · subst h0
    obtain ⟨ao, cap, hv, _⟩ := hf.at
    have hv' : v = .slice ao 0 cap := hv
    subst hv'
    refine (AnyF.slices_SortFunc_none Tryz.lSortI ao cap _ w).mono ?_
    rintro e w' ⟨rfl, rfl⟩
    exact ⟨⟨_, rfl⟩, [], hf, List.Perm.refl _, List.Pairwise.nil, ⟨rfl, rfl, rfl, Nat.le_refl _, fun _ _ _ => rfl⟩⟩
  · have hpos : 0 < L.length := List.length_pos_iff.2 h0
    have hf0 : w.ownsRow B 101 2 v L.length (flatI L) := hf
    obtain ⟨g, cap, rfl⟩ : ∃ g cap, v = .slice (some ⟨g, 0, none⟩) L.length cap := by
      rcases hf0.2 with ⟨_, h⟩ | ⟨g, cap, _, hv, _⟩
      · omega
      · exact ⟨g, cap, hv⟩
    have hgw : g < w.heap.size := (World.ownsRow.lt hf0 g rfl).2
    have hsz : L.toArray.size = L.length := by simp
    have hcmp : Go.Proofs.CmpLays Tryz.prog 103 #[] cellsI 2 cmpP g 0 L.toArray.size w := by
      intro m os dk _ x y
      refine (instCmp_any x y _).mono ?_
      rintro e w' ⟨rfl, q, os', rfl⟩
      exact ⟨rfl, q, os', rfl⟩
    have hc := AnyQ.slices_SortFunc Tryz.lSortI 2 (fun w => by kernel_rfl) (fun w => by kernel_rfl) cellsI (fun _ => rfl) (fun x v hv => by simp [cellsI] at hv; rcases hv with rfl | rfl <;> rfl) cmpP cmpP_swo 103 #[] g 0 cap L.toArray w (enters_of Tryz.func103 (by kernel_rfl) rfl) hcmp (holdsK_of hf) hgw (by rw [hsz]; omega)
    rw [hsz] at hc
    refine hc.mono ?_
    rintro e w' ⟨rfl, d', n, os, hp, hs, rfl⟩
    have hds : d'.size = L.length := by rw [hp.1, hsz]
    have hperm : d'.toList.Perm L := by
      have h := hp.2.2
      have e1 : d'.extract 0 L.length = d' := by rw [← hds]; simp
      have e2 : L.toArray.extract 0 L.length = L.toArray := by
        have := Array.extract_size (xs := L.toArray)
        rwa [hsz] at this
      rw [e1, e2] at h
      simpa using h
    have hndd : d'.toList.Nodup := hperm.nodup_iff.2 hnd
    refine ⟨⟨_, rfl⟩, d'.toList, ?_, hperm, ?_, ?_⟩
    · have hl : (flatI d'.toList).length = L.length * 2 := by rw [flatI_len, Array.length_toList, hds]
      have := own_put2 (m := n) (os := os) hf0 hl
      unfold FreshIn
      have hdl : d'.toList.length = L.length := by simpa using hds
      rw [hdl]
      have e : flatK cellsI 2 d' = (flatI d'.toList).toArray := by rw [← flatK_flat]
      unfold sortWorldK putRowK
      rw [e]
      exact this
    · rw [List.pairwise_iff_getElem]
      intro i j hi hj hij
      rw [Array.length_toList] at hi hj
      have h := hs i j (Nat.zero_le _) hij (by omega)
      unfold Go.Proofs.ltOf at h
      rw [decide_eq_false_iff_not, cmpP_lt, getElem!_pos _ j hj, getElem!_pos _ i hi] at h
      have hne : d'[i] ≠ d'[j] := by
        have := List.pairwise_iff_getElem.1 hndd i j (by simpa using hi) (by simpa using hj) hij
        simpa using this
      have hne' : ¬ (d'[i].1 = d'[j].1 ∧ d'[i].2 = d'[j].2) := fun e => hne (Prod.ext e.1 e.2)
      simp only [Array.getElem_toList]
      unfold lexL at h ⊢
      omega
    · unfold sortWorldK putRowK
      exact grown_put id _
end Go.Proofs.YtcpmfcigciknlaaGreat

namespace Go.Proofs.YtcpmfcigciknlaaGreat
open Go.RowKit Go.Maps
set_option linter.unusedVariables false
structure Came (S : Nat → Nat → Bool) (left : Lit → Bool) (L : List (Nat × Nat)) : Prop where
  nodup : L.Nodup
  mem : ∀ x : Nat × Nat, x ∈ L ↔ (S x.1 x.2 = true ∧ left (kl (x.1 : Int) ((x.2 : Int) + 1)) = false)
theorem Came.start {S : Nat → Nat → Bool} {D : DataW Value} {f : Nat → Nat → Value} (h : MapOf D S f) : Came S (Maps.has D) [] :=
  ⟨List.nodup_nil, fun x => by
    constructor
    · intro hx; cases hx
    · rintro ⟨hs, hl⟩
      rw [h.has x.1 x.2 hs] at hl
      cases hl⟩
theorem Came.step {S : Nat → Nat → Bool} {D : DataW Value} {f : Nat → Nat → Value} (h : MapOf D S f) {left : Lit → Bool} {L : List (Nat × Nat)} (hc : Came S left L) {p q : Nat} (hs : S p q = true) (hl : left (kl (p : Int) ((q : Int) + 1)) = true) :
    Came S (fun z => left z && !z.sameKey (kl (p : Int) ((q : Int) + 1))) (L ++ [(p, q)]) := by
  have hne : (p, q) ∉ L := fun hm => by
    have := ((hc.mem _).1 hm).2
    rw [hl] at this; cases this
  have hk := h.low p q hs
  have hself : (kl (p : Int) ((q : Int) + 1)).sameKey (kl (p : Int) ((q : Int) + 1)) = true := WideAt.sameKey_self (instKeyed.key (keyOf_inst (wf_small (by omega) (by omega)) (wf_small (by omega) (by omega))))
  refine ⟨?_, fun x => ?_⟩
  · rw [List.nodup_append]
    refine ⟨hc.nodup, by simp, fun a ha b hb e => ?_⟩
    simp at hb
    subst hb
    subst e
    exact hne ha
  · rw [List.mem_append, List.mem_singleton, hc.mem]
    by_cases e : x = (p, q)
    · subst e
      simp [hs, hself]
    · constructor
      · rintro (⟨h1, h2⟩ | h1)
        · exact ⟨h1, by rw [h2]; rfl⟩
        · exact absurd h1 e
      · rintro ⟨h1, h2⟩
        have hx := h.low x.1 x.2 h1
        have hn := Maps.sameKey_ne (kl_ne hx hk (fun e' => e (Prod.ext e'.1 e'.2)))
        rw [hn] at h2
        exact .inl ⟨h1, by simpa using h2⟩
def NewInsts (S : Nat → Nat → Bool) (w : World) (e : Ending) (w' : World) : Prop :=
  ∃ v L, e = .returned v ∧ FreshIn w.heap.size w' v L ∧ L.Pairwise lexL ∧ (∀ x : Nat × Nat, x ∈ L ↔ S x.1 x.2 = true) ∧ Ext w w'
set_option maxHeartbeats 4000000 in
set_option maxRecDepth 100000 in
theorem inOrderRow_any (B n0 : Nat) (D : DataW Value) (S : Nat → Nat → Bool) (R_ : Nat → Nat → RowD) (U : Nat → Nat → Value) (w : World) (hm : RowMap w B n0 D) (hd : MapOf D S (fun p q => rowV (R_ p q) (U p q))) (hn : n0 ≤ 1000) :
    Calls Tryz.prog 58 #[.map (some B)] w (NewInsts S w) := by
  have HM := Lib.hid hm
  have HD := Lib.hid hd
  have HB := Lib.hid hm.lt
  have HN0 := Lib.hid hn
  clear hm hd hn
  go_enter Tryz.func58, Tryz.ntmps58
  go_wp2_with (first | (at_range; refine wpList_range_own _ rfl _ 106 rfl 101 83 instKeyed Tryz.underlying106 asIs B n0 D rfl HM.out ?_; intro w1 hrg1 hg1 hs1) | go_in)
  go_frame
  have X1 := Lib.hid (ext_of_grown hg1)
  have R1 := Lib.hid hrg1
  obtain ⟨r, hr⟩ : ∃ r, r = w.heap.size := ⟨_, rfl⟩
  rw [← hr] at R1 ⊢
  have HR := Lib.hid hr
  have HS1 : Hid (r + 1 ≤ w1.heap.size) := Lib.hid (by omega)
  clear hrg1 hg1 hs1 HM hr
  go_loopw [3, 4] (fun s _ wr => ∃ (left : Lit → Bool) (cnt : Nat) (L : List (Nat × Nat)), Hid (RowRange wr B r n0 D left cnt) ∧ Hid (Came S left L) ∧ Hid (FreshIn (r + 1) wr s L) ∧ Hid (L.length + cnt ≤ n0) ∧ Hid (Ext w wr) ∧ Hid (r + 1 ≤ wr.heap.size)) (fun _ _ wr => wr.rangeLeft B r)
  case atStart => exact ⟨_, _, [], R1, Lib.hid (Came.start HD.out), Lib.hid (FreshIn.nil _ _), Lib.hid (by have := R1.out.owns.size_le; simpa using this), X1, HS1⟩
  case round =>
    clear R1 X1 HS1
    obtain ⟨left, cnt, L, R, C, F, N, X, SZ⟩ := hrel
    have hF := F.out
    have hlt0 : ∀ k, u3.ownBlock = some k → r + 1 ≤ k := fun k hk => (World.ownsRow.lt hF k hk).1
    have HLT0 := Lib.hid hlt0
    clear hF hlt0
    go_wp2_with (first | (at_next; refine wpList_next_inst _ rfl _ rfl B r n0 D left cnt _ _ rfl R.out HD.out ?_ ?_) | go_in)
    · intro hl
      clear R
      go_wp2_with fail
      refine (sortInst_any _ _ L _ F.out C.out.nodup (by have := N.out; have := HN0.out; omega)).mono ?_
      rintro e w2 ⟨⟨rv, rfl⟩, L', f', hp, hlex, hg⟩
      have hmem : ∀ x : Nat × Nat, x ∈ L' ↔ S x.1 x.2 = true := fun x => by
        rw [hp.mem_iff, C.out.mem, hl]
        simp
      have HM := Lib.hid hmem
      have HP := Lib.hid hlex
      have hx2 : Ext w w2 := Below.grown X.out hg X.out.size (fun k hk => by have := HLT0.out k hk; have := HR.out; omega)
      have X2 := Lib.hid hx2
      have hf2 : FreshIn w.heap.size w2 u3 L' := ownsRow_more f' (by have := HR.out; omega)
      have F2 := Lib.hid hf2
      clear hp hlex hg hmem hx2 f' hf2 C F N X hl
      go_wp2
      go_ret
      exact ⟨_, L', rfl, F2.out, HP.out, HM.out, X2.out⟩
    · intro p q w3 cnt3 hS hlk hrg3 hlt hg3 hs3 hen
      have C3 := Lib.hid (C.out.step HD.out hS hlk)
      have N3 : Hid ((L ++ [(p, q)]).length + cnt3 ≤ n0) := Lib.hid (by have := N.out; simp; omega)
      have X3 : Hid (Ext w w3) := Lib.hid (X.out.turned hg3 (by have := HR.out; omega))
      have F3 : Hid (FreshIn (r + 1) w3 u3 L) := Lib.hid (World.ownsRow.kept F.out hg3 (by
        cases hb : u3.ownBlock with
        | none => exact .inl rfl
        | some k => exact .inr (fun e => by cases e; have := HLT0.out _ hb; omega)))
      have R3 := Lib.hid hrg3
      have SZ3 : Hid (r + 1 ≤ w3.heap.size) := Lib.hid (by have := SZ.out; omega)
      have HRO := Lib.hid R.out
      have HLT := Lib.hid hlt
      have HL : Hid (L.length ≤ 1048576) := Lib.hid (by have := N.out; have := HN0.out; omega)
      obtain ⟨rv, hrv⟩ : ∃ rv, rv = rowV (R_ p q) (U p q) := ⟨_, rfl⟩
      simp only [← hrv] at hen ⊢
      clear hrg3 hg3 hs3 hlk hS R C N X F SZ hlt hrv
      go_wp2_with (first | (at_builtin; refine wpList_pushI rfl _ _ rfl (r + 1) _ L (p, q) rfl (F3.out.ext (Ext.alloc2 _ _ _)) (w3.heap.size + 1) 1 rfl (by go_simp) (by go_simp) HL.out (Nat.le_trans SZ3.out (Ext.alloc2 _ _ _).size) ?_; intro v' w4 f4 hg4 hk4) | go_in)
      have F4 := Lib.hid f4
      have X4 := Lib.hid (hk4 w (X3.out.trans (Ext.alloc2 _ _ _)) (by have := HR.out; omega))
      have R4 : Hid (RowRange w4 B r n0 D (fun z => left z && !z.sameKey (kl (p : Int) ((q : Int) + 1))) cnt3) := Lib.hid ((R3.out.ext (Ext.alloc2 _ _ _)).kept hg4 (fun e => by have := HLT0.out _ e.symm; have := HB.out; have := HR.out; omega) (fun e => by have := HLT0.out _ e.symm; omega))
      have SZ4 : Hid (r + 1 ≤ w4.heap.size) := Lib.hid (Nat.le_trans (Nat.le_trans SZ3.out (Ext.alloc2 _ _ _).size) hg4.size)
      clear f4 hg4 hk4 F3 X3 R3 SZ3
      go_wp2
      go_roundw
      case rel => exact ⟨_, _, _, R4, C3, F4, N3, X4, SZ4⟩
      case measure => rw [R4.out.left_eq, HRO.out.left_eq]; exact HLT.out
end Go.Proofs.YtcpmfcigciknlaaGreat

namespace Go.Proofs.YtcpmfcigciknlaaGreat
open Go.RowKit Go.Maps
set_option linter.unusedVariables false
def entriesOf (w : World) (b : Nat) : Nat := match w.heap[b]? with
  | some (.map es _) => es.size
  | _ => 0
theorem entries_eq {w : World} {b n : Nat} {D : DataW Value} (h : RowMap w b n D) : entriesOf w b = Maps.size D := by
  obtain ⟨es, clock, hb, F, hs, rfl⟩ := h
  unfold entriesOf
  rw [hb]
  show es.size = _
  rw [Maps.size_eq, length_sorted]
  simp
theorem size_less {w : World} {b n : Nat} {D : DataW Value} (h : RowMap w b n D) {l : Lit} (hh : Maps.has D l = true) : Maps.size (D.del l) + 1 = Maps.size D := by
  have := Maps.size_del (k := l) (h.tidy instKeyed)
  rw [hh] at this
  simpa using this
def flagN : Value → Nat
  | .bool true => 1
  | _ => 0
set_option maxHeartbeats 4000000 in
set_option maxRecDepth 100000 in
theorem readyIn_any (n : Int) (u : Value) (T : List (List RowD)) (U : Nat → Nat → Value) (w : World) (hu : TabAt w u T U) (hg : goodTab n T = true) :
    Calls Tryz.prog 57 #[.agg #[.int .i64 n, u]] w (NewRowMap T (readyB n T) (rowF n T U) w) := by
  have H56 := Lib.hid (goodTab_both hg)
  have HG := Lib.hid hg
  obtain ⟨wb, hwb⟩ : ∃ wb, wb = w.alloc (.cells #[.int .i64 n, u] 32) := ⟨_, rfl⟩
  have xb : Ext w wb := by rw [hwb]; exact Ext.alloc1 _ _
  have HL := Lib.hid ((hu.ext xb).lists n)
  have HU := Lib.hid (hu.ext xb)
  have XB := Lib.hid xb
  have HWB := Lib.hid hwb
  obtain ⟨au, cu, rfl, hlu, _, _⟩ := hu
  unfold maxLen at hlu
  clear hg xb hwb
  go_enter Tryz.func57, Tryz.ntmps57
  go_wp2_with fail
  rw [← HWB.out]
  refine (committedIn_any n _ T U _ HU.out H56.out.1 H56.out.2).mono ?_
  rintro e w1 ⟨B, D0, rfl, m1, d1, hb1, x1⟩
  have HB := Lib.hid hb1
  have M1 := Lib.hid m1
  have D1 := Lib.hid d1
  have X1 := Lib.hid x1
  clear m1 d1 hb1 x1
  go_wp2
  go_loopw [4, 5, 6] (fun f _ _ wr => ∃ (fl : Bool) (D : DataW Value) (S : Nat → Nat → Bool), f = .bool fl ∧ Hid (RowMap wr B 30 D) ∧ Hid (MapOf D S (rowF n T U)) ∧ Hid (Betw n T S) ∧ Hid (fl = false → ∀ p q, S p q = true → AllHere n T S p q) ∧ Hid (Ext wb wr)) (fun f _ _ wr => 2 * entriesOf wr B + flagN f)
  case atStart => exact ⟨true, D0, _, rfl, M1, D1, Lib.hid (Betw.start n T), Lib.hid (fun h => by cases h), X1⟩
  case round =>
    clear M1 D1 X1
    obtain ⟨fl, D, S, rfl, M, MO, BT, CL, X⟩ := hrel
    cases fl with
    | false =>
      have MR : Hid (MapOf D (readyB n T) (rowF n T U)) := Lib.hid (MO.out.congr (fun p q => BT.out.done (CL.out rfl) p q) (fun _ _ _ => rfl))
      have XE := Lib.hid (XB.out.trans X.out)
      have HBE : Hid (w.heap.size ≤ B) := Lib.hid (Nat.le_trans XB.out.size HB.out)
      clear CL MO BT
      go_wp2
      go_ret
      exact ⟨_, D, rfl, M.out, MR.out, HBE.out, XE.out⟩
    | true =>
      clear CL
      go_wp2_with (first | (at_range; refine wpList_range_own _ rfl _ 106 rfl 101 83 instKeyed Tryz.underlying106 asIs B 30 D rfl M.out ?_; intro w2 hrg2 hg2 hs2) | go_in)
      go_frame
      have X2 := Lib.hid (X.out.trans (ext_of_grown hg2))
      have R2 := Lib.hid hrg2
      have HE := Lib.hid (entries_eq M.out)
      obtain ⟨r, hr⟩ : ∃ r, r = wr.heap.size := ⟨_, rfl⟩
      rw [← hr] at R2 ⊢
      have HRB : Hid (wb.heap.size ≤ r) := Lib.hid (by rw [hr]; exact X.out.size)
      obtain ⟨k0, hk0⟩ : ∃ k0, k0 = Maps.size D := ⟨_, rfl⟩
      have HK0 := Lib.hid hk0
      have HST : Hid (∀ p q, S p q = true → Maps.has D (kl (p : Int) ((q : Int) + 1)) = false → AllHere n T S p q) := Lib.hid (fun p q hs hh => by rw [MO.out.has p q hs] at hh; cases hh)
      clear hrg2 hg2 hs2 M X hr hk0
      go_loopw [4, 5, 6] (fun f _ _ wr => ∃ (fl : Bool) (D : DataW Value) (S : Nat → Nat → Bool) (left : Lit → Bool) (cnt : Nat), f = .bool fl ∧ Hid (RowRange wr B r 30 D left cnt) ∧ Hid (MapOf D S (rowF n T U)) ∧ Hid (Betw n T S) ∧ Hid (fl = false → ∀ p q, S p q = true → left (kl (p : Int) ((q : Int) + 1)) = false → AllHere n T S p q) ∧ Hid ((fl = false → Maps.size D = k0) ∧ (fl = true → Maps.size D + 1 ≤ k0)) ∧ Hid (Ext wb wr)) (fun _ _ _ wr => wr.rangeLeft B r)
      case atStart => exact ⟨false, D, S, _, _, rfl, R2, MO, BT, Lib.hid (fun _ => HST.out), Lib.hid ⟨fun _ => HK0.out.symm, fun h => by cases h⟩, X2⟩
      case round =>
        clear R2 MO BT HST X2
        obtain ⟨fl, D', S', left, cnt, rfl, R, MO, BT, CH, SZ, X⟩ := hrel
        go_wp2_with (first | (at_next; refine wpList_next_inst _ rfl _ rfl B r 30 D' left cnt _ _ rfl R.out MO.out ?_ ?_) | go_in)
        · intro hl
          have MN := Lib.hid R.out.owns
          have CN : Hid (fl = false → ∀ p q, S' p q = true → AllHere n T S' p q) := Lib.hid (fun h p q hs => CH.out h p q hs (hl _))
          have EN := Lib.hid (entries_eq MN.out)
          clear CH R hl
          go_wp2
          go_roundw
          case rel => exact ⟨fl, D', S', rfl, MN, MO, BT, CN, X⟩
          case measure =>
            have h1 := HE.out
            have h2 := EN.out
            have h3 := HK0.out
            have h4 := SZ.out
            rw [h1, h2]
            cases fl with
            | true => have := h4.2 rfl; simp [flagN]; omega
            | false => have := h4.1 rfl; simp [flagN]; omega
        · intro p q w3 cnt3 hS hlk hrg3 hlt hg3 hs3 hen
          have hx3 : Ext wb w3 := X.out.turned hg3 HRB.out
          have hcm := BT.out.com p q hS
          have hi := instCom_inT hcm
          obtain ⟨hpT, hqT⟩ := inT_of hi
          obtain ⟨ay, cy, hU, _⟩ := HL.out p q hi
          have hint := (HL.out p q hi).ext hx3
          obtain ⟨d, hd⟩ : ∃ d, d = rowOf n T p q := ⟨_, rfl⟩
          unfold rowF rowV at hen ⊢
          rw [hU] at hint
          rw [← hd] at hen hint hU ⊢
          rw [hU] at hen ⊢
          have hdi : ∀ k, 0 ≤ depI d k ∧ depI d k ≤ 6 := fun k => by rw [hd]; exact dep_in HG.out hpT q k
          have hdl : d.l.length ≤ 5 := by rw [hd]; exact rowOf_list HG.out hpT q
          have HDI := Lib.hid hdi
          have HINT := Lib.hid hint
          have HD := Lib.hid hd
          have R3 := Lib.hid hrg3
          have X3 := Lib.hid hx3
          have HLT := Lib.hid hlt
          have HRO := Lib.hid R.out
          have HS := Lib.hid hS
          have HLK := Lib.hid hlk
          have HI := Lib.hid hi
          clear hrg3 hx3 hg3 hs3 hlk hcm hi hint hU R X hlt hS hdi hd hqT
          go_wp2_with fail
          refine (hungOn_any d d.s _ _ (HINT.out.ext (Ext.alloc2 _ _ _)) hdl HDI.out).mono ?_
          obtain ⟨w4, hw4⟩ : ∃ w4, w4 = ((w3.alloc (.cells #[.int .i64 p, .int .i64 ((q : Int) + 1)] 101)).alloc (.cells #[.int .i64 d.b, .int .i64 d.v, .int .i64 d.st, .int .i64 d.k, .int .i64 d.i, .int .i64 d.f, .int .i64 d.t, .int .i64 d.a, .int .i64 d.s, .slice ay d.l.length cy] 83)) := ⟨_, rfl⟩
          have x34 : Ext w3 w4 := by rw [hw4]; exact Ext.alloc2 _ _ _
          have T4 := Lib.hid (two_new w3 (p : Int) ((q : Int) + 1) 101 83 #[.int .i64 d.b, .int .i64 d.v, .int .i64 d.st, .int .i64 d.k, .int .i64 d.i, .int .i64 d.f, .int .i64 d.t, .int .i64 d.a, .int .i64 d.s, .slice ay d.l.length cy])
          rw [← hw4] at T4 ⊢
          obtain ⟨b5, hb5⟩ : ∃ b5, b5 = w3.heap.size := ⟨_, rfl⟩
          rw [← hb5] at T4 ⊢
          clear hw4 hb5
          rintro e w5 ⟨v5, rfl, f5, x5⟩
          have X5 := Lib.hid (X3.out.trans (x34.trans x5))
          have R5 := Lib.hid (R3.out.ext (x34.trans x5))
          have T5 := Lib.hid (T4.out.ext x5)
          have F5 := Lib.hid f5.at
          have hlow : ∀ x ∈ hungL d, x.1 ≤ 1048576 ∧ x.2 ≤ 1048576 := fun x hx => by
            have h := mem_hungL.1 hx
            have h2 := HDI.out x.1
            unfold depM at h
            omega
          have HLOW := Lib.hid hlow
          have hlow2 := inT_low H56.out.1 H56.out.2 HI.out
          clear x34 x5 f5 R3 X3 T4 hlow HINT
          go_wp2_with fail
          refine (areAllIn_any n T U (hungL d) v5 B 30 D' S' _ F5.out HLOW.out R5.out.owns MO.out (fun p q h => instCom_inT (BT.out.com p q h)) (HL.out.ext X5.out)).mono ?_
          rintro e w6 ⟨rfl, x6⟩
          have X6 := Lib.hid (X5.out.trans x6)
          have R6 := Lib.hid (R5.out.ext x6)
          obtain ⟨t0, t1⟩ := T5.out.ext x6
          have hall : AllHere n T S' p q ↔ ((hungL d).all fun x => S' x.1 x.2) = true := by unfold AllHere; rw [← HD.out]
          have HALL := Lib.hid hall
          clear x6 hall R5 X5 T5 F5 HLOW
          cases hb : ((hungL d).all fun x => S' x.1 x.2) with
          | true =>
            have CN : Hid (fl = false → ∀ p' q', S' p' q' = true → (fun z => left z && !z.sameKey (kl (p : Int) ((q : Int) + 1))) (kl (p' : Int) ((q' : Int) + 1)) = false → AllHere n T S' p' q') := Lib.hid (fun h p' q' hs hl => by
              by_cases e : (p', q') = (p, q)
              · simp only [Prod.mk.injEq] at e
                obtain ⟨rfl, rfl⟩ := e
                exact HALL.out.2 hb
              · have hl' := MO.out.low p' q' hs
                exact CH.out h p' q' hs (left_other (x := (p', q')) hl' (by omega) e hl))
            clear hb CH t0 t1
            go_wp2
            go_roundw
            case rel => exact ⟨fl, D', S', _, _, rfl, R6, MO, BT, CN, SZ, X6⟩
            case measure => rw [R6.out.left_eq, HRO.out.left_eq]; exact HLT.out
          | false =>
            have hnot : ¬ AllHere n T S' p q := fun h => by rw [HALL.out.1 h] at hb; cases hb
            have BN := Lib.hid (BT.out.drop hnot)
            have MN := Lib.hid (MO.out.del (p := p) (q := q) (by omega))
            have hsz := size_less R6.out.owns (MO.out.has p q HS.out)
            have SN : Hid (Maps.size (D'.del (kl (p : Int) ((q : Int) + 1))) + 1 ≤ k0) := Lib.hid (by
              have h4 := SZ.out
              cases fl with
              | true => have := h4.2 rfl; omega
              | false => have := h4.1 rfl; omega)
            clear hb CH hnot hsz BT MO SZ
            go_wp2_with (first | (at_delete; refine wpList_delete_ranges _ rfl _ _ 106 101 rfl 83 instKeyed Tryz.underlying106 asIs B r 30 D' _ _ rfl R6.out _ (kl (p : Int) ((q : Int) + 1)) rfl (keyOf_inst (wf_small (by omega) (by omega)) (wf_small (by omega) (by omega))) ?_; intro w7 cnt7 hrg7 hle ht7) | go_in)
            rw [Maps.strike_twice] at hrg7
            have R7 := Lib.hid hrg7
            have X7 : Hid (Ext wb w7) := Lib.hid (X6.out.turned ht7.grown HB.out)
            have HLE := Lib.hid hle
            clear hrg7 ht7 hle R6 X6
            go_wp2
            go_roundw
            case rel => exact ⟨true, _, _, _, _, rfl, R7, MN, BN, Lib.hid (fun h => by cases h), Lib.hid ⟨(fun h => by cases h), fun _ => SN.out⟩, X7⟩
            case measure => rw [R7.out.left_eq, HRO.out.left_eq]; exact Nat.lt_of_le_of_lt HLE.out HLT.out
end Go.Proofs.YtcpmfcigciknlaaGreat

namespace Go.Proofs.YtcpmfcigciknlaaGreat
open Go.RowKit Go.Maps
set_option linter.unusedVariables false
end Go.Proofs.YtcpmfcigciknlaaGreat

namespace Go.Proofs.YtcpmfcigciknlaaGreat
open Go.RowKit Go.Maps
set_option linter.unusedVariables false
end Go.Proofs.YtcpmfcigciknlaaGreat

namespace Go.Proofs.YtcpmfcigciknlaaGreat
open Go.RowKit
set_option linter.unusedVariables false
structure TS where
  N : Nat → Nat
  bk : Nat → Nat
  lk : Nat → Nat
  op : Nat → Bool
  met : Nat
  opn : List Nat
  grp : List (List Int)
def upd {α : Type} (f : Nat → α) (p : Nat) (v : α) : Nat → α := fun i => if i = p then v else f i
theorem upd_same {α : Type} (f : Nat → α) (p : Nat) (v : α) : upd f p v p = v := by simp [upd]
theorem upd_other {α : Type} (f : Nat → α) {p q : Nat} (v : α) (h : q ≠ p) : upd f p v q = f q := by simp [upd, h]
theorem upd_id {α : Type} (f : Nat → α) (p : Nat) : upd f p (f p) = f := by funext i; unfold upd; split <;> simp_all
def rowN (g : List (List Int)) (q : Nat) : List Int := rowG g (q : Int)
structure Inv (g : List (List Int)) (S : TS) (way : List Nat) : Prop where
  small : ∀ q, S.N q ≠ 0 → q < g.length
  le : ∀ q, S.N q ≤ S.met
  inj : ∀ q r, S.N q = S.N r → S.N q ≠ 0 → q = r
  opmet : ∀ q, S.op q = true → S.N q ≠ 0
  opn : ∀ q, q ∈ S.opn ↔ S.op q = true
  sort : S.opn.Pairwise (fun a b => S.N a < S.N b)
  wop : ∀ p ∈ way, S.op p = true
  wsort : way.Pairwise (fun a b => S.N a < S.N b)
  root : ∀ q, S.op q = true → ∃ p ∈ way, S.N p ≤ S.N q
  reach : ∀ p ∈ way, ∀ q, S.op q = true → S.N p ≤ S.N q → Reach g (p : Int) (q : Int)
  low1 : ∀ q, S.op q = true → S.bk q ≤ S.N q
  low2 : ∀ q, S.op q = true → ∃ r, S.op r = true ∧ S.N r = S.bk q ∧ Reach g (q : Int) (r : Int)
  lk0 : ∀ q, S.N q = 0 → S.lk q = 0
  lkle : ∀ q, S.lk q ≤ (rowN g q).length
  look : ∀ q, S.op q = true → ∀ r : Nat, (r : Int) ∈ (rowN g q).take (S.lk q) → S.N r ≠ 0 ∧ (S.op r = true → S.bk q ≤ S.N r)
  fin : ∀ q, S.op q = true → q ∉ way → S.lk q = (rowN g q).length ∧ S.bk q < S.N q
  par : ∀ p ∈ way, ∀ q, S.op q = true → q ∉ way → S.N p < S.N q → (∀ p' ∈ way, S.N p' ≤ S.N p ∨ S.N q < S.N p') → S.bk p ≤ S.bk q
  closed : ∀ q, S.N q ≠ 0 → S.op q = false → ∀ r : Nat, (r : Int) ∈ rowN g q → S.N r ≠ 0 ∧ S.op r = false
  grp : ∀ G ∈ S.grp, ∃ k : Nat, k < g.length ∧ G = groupL g (k : Int) ∧ ∀ x : Nat, (x : Int) ∈ G → S.N x ≠ 0 ∧ S.op x = false
  cov : ∀ q, S.N q ≠ 0 → S.op q = false → ∃ G ∈ S.grp, (q : Int) ∈ G
  apart : S.grp.Pairwise (fun G H => ∀ x, x ∈ G → x ∉ H)
theorem mem_row {g : List (List Int)} (hg : rowsB g = true) {q : Nat} {c : Int} (h : c ∈ rowN g q) : ∃ r : Nat, c = (r : Int) ∧ r < g.length := by
  have := row_in hg h
  exact ⟨c.toNat, by omega, by omega⟩

/-! ### The start of a search -/
def tsStart : TS := ⟨fun _ => 0, fun _ => 0, fun _ => 0, fun _ => false, 0, [], []⟩
theorem Inv.start (g : List (List Int)) : Inv g tsStart [] := by
  constructor <;> simp [tsStart]

/-! ### A point is met -/
def meetS (S : TS) (c : Nat) : TS := ⟨upd S.N c (S.met + 1), upd S.bk c (S.met + 1), S.lk, upd S.op c true, S.met + 1, S.opn ++ [c], S.grp⟩
def lookS (S : TS) (p : Nat) : TS := { S with lk := upd S.lk p (S.lk p + 1) }
def minS (S : TS) (p v : Nat) : TS := { S with bk := upd S.bk p (min (S.bk p) v) }
theorem Inv.last_most {g : List (List Int)} {S : TS} {way : List Nat} {p : Nat} (h : Inv g S (way ++ [p])) : ∀ a ∈ way, S.N a < S.N p := by
  intro a ha
  exact (List.pairwise_append.1 h.wsort).2.2 a ha p (by simp)
theorem Inv.last_le {g : List (List Int)} {S : TS} {way : List Nat} {p : Nat} (h : Inv g S (way ++ [p])) : ∀ a ∈ way ++ [p], S.N a ≤ S.N p := by
  intro a ha
  rcases List.mem_append.1 ha with ha | ha
  · exact Nat.le_of_lt (h.last_most a ha)
  · have : a = p := by simpa using ha
    rw [this]; exact Nat.le_refl _
theorem Inv.first {g : List (List Int)} (hg : rowsB g = true) {S : TS} {c : Nat} (h : Inv g S []) (hc : c < g.length) (hn : S.N c = 0) : Inv g (meetS S c) [c] := by
  have hno : ∀ q, S.op q = false := fun q => by
    cases e : S.op q with
    | false => rfl
    | true => obtain ⟨p, hp, _⟩ := h.root q e; simp at hp
  have hne : ∀ q, S.N q ≠ 0 → q ≠ c := fun q hq e => hq (by rw [e]; exact hn)
  have hopn : S.opn = [] := List.eq_nil_iff_forall_not_mem.2 (fun q hq => by rw [h.opn, hno] at hq; cases hq)
  have hop : ∀ q, (meetS S c).op q = true → q = c := fun q hq => by
    unfold meetS upd at hq
    by_cases e : q = c
    · exact e
    · simp [e, hno] at hq
  have hopc : (meetS S c).op c = true := upd_same _ _ _
  have hNc : (meetS S c).N c = S.met + 1 := upd_same _ _ _
  have hbc : (meetS S c).bk c = S.met + 1 := upd_same _ _ _
  have hlc : (meetS S c).lk c = 0 := h.lk0 c hn
  constructor
  · intro q hq
    by_cases e : q = c
    · rw [e]; exact hc
    · exact h.small q (by rwa [show (meetS S c).N q = S.N q from upd_other _ _ e] at hq)
  · intro q
    show upd S.N c (S.met + 1) q ≤ S.met + 1
    unfold upd
    split
    · exact Nat.le_refl _
    · have := h.le q; omega
  · intro q r e hq
    have hle := h.le
    simp only [meetS, upd] at e hq
    by_cases e1 : q = c
    · by_cases e2 : r = c
      · rw [e1, e2]
      · simp [e1, e2] at e; have := hle r; omega
    · by_cases e2 : r = c
      · simp [e1, e2] at e; have := hle q; omega
      · simp [e1, e2] at e hq
        exact h.inj q r e hq
  · intro q hq
    rw [hop q hq, hNc]; omega
  · intro q
    show q ∈ S.opn ++ [c] ↔ _
    rw [hopn]
    constructor
    · intro hq; have : q = c := by simpa using hq
      rw [this]; exact hopc
    · intro hq; simp [hop q hq]
  · show (S.opn ++ [c]).Pairwise _
    rw [hopn]; simp
  · intro p hp
    have : p = c := by simpa using hp
    rw [this]; exact hopc
  · simp
  · intro q hq
    exact ⟨c, by simp, by rw [hop q hq]; exact Nat.le_refl _⟩
  · intro p hp q hq _
    have : p = c := by simpa using hp
    rw [this, hop q hq]; exact .self
  · intro q hq
    rw [hop q hq, hbc, hNc]; exact Nat.le_refl _
  · intro q hq
    rw [hop q hq]
    exact ⟨c, hopc, by rw [hbc, hNc], .self⟩
  · intro q hq
    by_cases e : q = c
    · rw [e, hNc] at hq; omega
    · exact h.lk0 q (by rwa [show (meetS S c).N q = S.N q from upd_other _ _ e] at hq)
  · exact h.lkle
  · intro q hq r hr
    rw [hop q hq, hlc] at hr
    simp at hr
  · intro q hq hq'
    exact absurd (by simp [hop q hq]) hq'
  · intro p hp q hq hq'
    exact absurd (by simp [hop q hq]) hq'
  · intro q hq hqo r hr
    by_cases e : q = c
    · rw [e, hopc] at hqo; cases hqo
    · have hq' : S.N q ≠ 0 := by rwa [show (meetS S c).N q = S.N q from upd_other _ _ e] at hq
      obtain ⟨h1, h2⟩ := h.closed q hq' (hno q) r hr
      have er := hne r h1
      exact ⟨by rw [show (meetS S c).N r = S.N r from upd_other _ _ er]; exact h1, by rw [show (meetS S c).op r = S.op r from upd_other _ _ er]; exact h2⟩
  · intro G hG
    obtain ⟨k, hk, e, hx⟩ := h.grp G hG
    refine ⟨k, hk, e, fun x hxG => ?_⟩
    obtain ⟨h1, h2⟩ := hx x hxG
    have er := hne x h1
    exact ⟨by rw [show (meetS S c).N x = S.N x from upd_other _ _ er]; exact h1, by rw [show (meetS S c).op x = S.op x from upd_other _ _ er]; exact h2⟩
  · intro q hq hqo
    by_cases e : q = c
    · rw [e, hopc] at hqo; cases hqo
    · exact h.cov q (by rwa [show (meetS S c).N q = S.N q from upd_other _ _ e] at hq) (hno q)
  · exact h.apart
end Go.Proofs.YtcpmfcigciknlaaGreat
