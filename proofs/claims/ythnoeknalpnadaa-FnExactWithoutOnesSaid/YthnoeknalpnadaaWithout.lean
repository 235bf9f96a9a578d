/- Contracts of the two functions WithoutOnes, the program's and the model's: both tell the same list. -/
import Derived.Test.YthnoeknalpnadaaSpec1
import Derived.Test.YthnoeknalpnadaaGroup
import Derived.Test.YthnoeknalpnadaaHangs
namespace Go.Proofs.Ythnoeknalpnadaa
open Go.RowKit

/-- Of the numbers below k those that are not in l. -/
def keepOnes (l : List Int) (k : Nat) : List Int := ((List.range k).filter fun (j : Nat) => !hasI l (j : Int)).map fun (j : Nat) => (j : Int)
theorem keepOnes_hit (l : List Int) (k : Nat) (h : hasI l (k : Int) = false) : keepOnes l (k + 1) = keepOnes l k ++ [(k : Int)] := by
  simp [keepOnes, List.range_succ, List.filter_append, h]
theorem keepOnes_miss (l : List Int) (k : Nat) (h : hasI l (k : Int) = true) : keepOnes l (k + 1) = keepOnes l k := by
  simp [keepOnes, List.range_succ, List.filter_append, h]
theorem keepOnes_len (l : List Int) (k : Nat) : (keepOnes l k).length ≤ k := by
  unfold keepOnes
  rw [List.length_map]
  exact Nat.le_trans (List.length_filter_le _ _) (by simp)

set_option maxHeartbeats 1000000 in
theorem specWithout_yes (v : Value) (l : List Int) (n : Nat) (w : World) (hv : Ints w v l) (hn : n = 3 ∨ n = 5) (hall : allIn l 0 ((n : Int) - 1) = true) :
    Calls Try.prog 60 #[.int .i64 n, v] w (TwoInts (keepOnes l n) true w) := by
  have hn1 : 3 ≤ n := by omega
  have hn2 : n ≤ 5 := by omega
  obtain ⟨i0, hi, hz0, hz1, hz2⟩ := info_parts Try.infoInt
  have hgrp : Calls Try.prog 75 #[.int .i64 n] w (fun e w' => e = .returned (.bool true) ∧ w = w') := by
    rcases hn with rfl | rfl
    · go_enter Try.func75, Try.ntmps75
      go_wp2
      go_ret
      exact ⟨rfl, rfl⟩
    · go_enter Try.func75, Try.ntmps75
      go_wp2
      go_ret
      exact ⟨rfl, rfl⟩
  have HG := Lib.hid hgrp
  have HA := Lib.hid hall
  clear hgrp hall hn
  go_enter Try.func60, Try.ntmps60
  go_wp2_with fail
  refine HG.out.mono ?_
  rintro e w' ⟨rfl, rfl⟩
  go_wp2_with fail
  refine (l1All_any _ _ _ _ _ hv).mono ?_
  rintro e w1 ⟨rfl, hx1⟩
  rw [HA.out]
  go_wp2_with fail
  have hv1 := hv.ext hx1
  go_loopw [6, 7] (fun o i wr => ∃ k : Nat, k ≤ n ∧ i = .int .i64 k ∧ wr.ownsRow w.heap.size 3 1 o (keepOnes l k).length ((keepOnes l k).map (Value.int .i64)) ∧ Ext w wr) (fun _ i _ => n - (intOf i).toNat)
  case atStart => exact ⟨0, Nat.zero_le _, rfl, World.ownsRow_nil _ _ _ _, hx1⟩
  case round =>
    obtain ⟨k, hk, rfl, ho, hx⟩ := hrel
    have hkl := keepOnes_len l k
    by_cases hlt : k < n
    · cases hh : hasI l (k : Int) with
      | true =>
        go_wp2_with fail
        refine (l1Has_any _ _ _ _ (hv.ext hx)).mono ?_
        rintro e w2 ⟨rfl, hx2⟩
        go_wp2
        go_roundw
        case rel => exact ⟨k + 1, by omega, by go_num, by rw [keepOnes_miss l k hh]; exact hx2.ownsRow ho, hx.trans hx2⟩
        case measure => simp [intOf]; omega
      | false =>
        go_wp2_with fail
        refine (l1Has_any _ _ _ _ (hv.ext hx)).mono ?_
        rintro e w2 ⟨rfl, hx2⟩
        have ho2 := hx2.ownsRow ho
        have hxx := hx.trans hx2
        clear ho hx hx2
        go_wp2_with (at_builtin; refine wpList_append_own _ rfl _ _ 37 rfl w.heap.size 3 i0 (.int .i64 0) 1 8 Try.underlying37 hi hz0 hz1 hz2 rfl (by decide) _ _ _ rfl (ho2.alloc _) ⟨w2.heap.size, 0, none⟩ 1 1 [.int .i64 (k : Int)] rfl rfl ?c1 ?c2 ?c3 ?c4 ?c5 ?_)
        case c1 =>
          intro j u hj
          match j, hj with
          | 0, hj => simp at hj; subst hj; simp [Addr.add]
        case c2 => intro u hu; simp at hu; subst hu; rfl
        case c3 => unfold maxLen; omega
        case c4 => omega
        case c5 => have := hxx.size; simp; omega
        intro v' w3 ho3 hg3 _
        have hx3 : Ext w w3 := Below.grown (hxx.alloc _) hg3 (by have := hxx.size; simp; omega) (fun q hq => (ho2.lt q hq).1)
        have e3 : (keepOnes l (k + 1)).map (Value.int .i64) = (keepOnes l k).map (Value.int .i64) ++ [.int .i64 (k : Int)] := by rw [keepOnes_hit l k hh]; simp
        have e4 : (keepOnes l (k + 1)).length = (keepOnes l k).length + 1 := by rw [keepOnes_hit l k hh]; simp
        have HO : Hid (w3.ownsRow w.heap.size 3 1 v' (keepOnes l (k + 1)).length ((keepOnes l (k + 1)).map (Value.int .i64))) := by rw [e3, e4]; exact ho3
        clear ho2 ho3 hg3 hxx e3 e4
        go_wp2
        go_roundw
        case rel => exact ⟨k + 1, by omega, by go_num, HO.out, hx3⟩
        case measure => simp [intOf]; omega
    · obtain rfl : k = n := by omega
      go_wp2
      go_ret2
      exact ⟨_, rfl, ho, hx⟩

set_option maxHeartbeats 400000 in
theorem specWithout_no (v : Value) (l : List Int) (n : Int) (w : World) (hv : Ints w v l) (hw : (Lit.int .i64 n).wf = true) (hno : (isGrp n && allIn l 0 (n - 1)) = false) :
    Calls Try.prog 60 #[.int .i64 n, v] w (TwoInts [] false w) := by
  cases hg : isGrp n with
  | false =>
    clear hno
    go_enter Try.func60, Try.ntmps60
    go_wp2_with fail
    refine (specIsGroup_any _ _).mono ?_
    rintro e w' ⟨rfl, rfl⟩
    go_wp2
    go_ret2
    exact ⟨_, rfl, fresh_nil _ _, Ext.refl _⟩
  | true =>
    have ha : allIn l 0 (n - 1) = false := by simpa [hg] using hno
    have hb : 3 ≤ n ∧ n ≤ 5 := by rcases isGrp_of hg with rfl | rfl <;> omega
    obtain ⟨hb1, hb2⟩ := hb
    have HA := Lib.hid ha
    clear hno ha
    go_enter Try.func60, Try.ntmps60
    go_wp2_with fail
    refine (specIsGroup_any _ _).mono ?_
    rintro e w' ⟨rfl, rfl⟩
    go_wp2_with fail
    refine (l1All_any _ _ _ _ _ hv).mono ?_
    rintro e w1 ⟨rfl, hx1⟩
    rw [HA.out]
    go_wp2
    go_ret2
    exact ⟨_, rfl, fresh_nil _ _, hx1⟩

/-- The cells of the program's array behind k rounds. -/
def goneL (l : List Int) (k : Nat) : List Value := (List.range 5).map fun (j : Nat) => Value.bool (hasI (l.take k) (j : Int))
theorem goneL_zero (l : List Int) : goneL l 0 = [.bool false, .bool false, .bool false, .bool false, .bool false] := by simp [goneL, hasI, List.range_succ]
theorem goneL_length (l : List Int) (k : Nat) : (goneL l k).length = 5 := by simp [goneL]
theorem goneL_get (l : List Int) (k j : Nat) (h : j < 5) : (goneL l k)[j]? = some (.bool (hasI (l.take k) (j : Int))) := by simp [goneL, h]
theorem hasI_take_succ (l : List Int) (k : Nat) (h : k < l.length) (x : Int) : hasI (l.take (k + 1)) x = (hasI (l.take k) x || l[k] == x) := by
  simp only [hasI]
  rw [List.take_add_one, List.any_append, List.getElem?_eq_getElem h]
  simp
theorem goneL_set (l : List Int) (k : Nat) (h : k < l.length) (x : Nat) (hx : l[k] = (x : Int)) : (goneL l k).set x (.bool true) = goneL l (k + 1) := by
  apply List.ext_getElem?
  intro j
  by_cases hj : j < 5
  · rw [goneL_get _ _ _ hj, hasI_take_succ l k h, List.getElem?_set, goneL_length]
    by_cases e : x = j
    · subst e
      simp [hj, hx]
    · rw [if_neg e, goneL_get _ _ _ hj, hx]
      have : ((x : Int) == (j : Int)) = false := by rw [beq_eq_false_iff_ne]; omega
      rw [this, Bool.or_false]
  · rw [List.getElem?_eq_none (by rw [List.length_set, goneL_length]; omega), List.getElem?_eq_none (by rw [goneL_length]; omega)]
theorem allIn_get {l : List Int} {lo hi : Int} (h : allIn l lo hi = true) (k : Nat) (hk : k < l.length) : lo ≤ l[k] ∧ l[k] ≤ hi := by
  have := (List.all_eq_true.1 h) l[k] (List.getElem_mem hk)
  simpa [inB] using this

set_option maxHeartbeats 1000000 in
theorem implWithout_yes (v : Value) (l : List Int) (n : Nat) (w : World) (hv : Ints w v l) (hn : isGrp n = true) (hall : allIn l 0 ((n : Int) - 1) = true) :
    Calls Try.prog 62 #[.int .i64 n, v] w (TwoInts (keepOnes l n) true w) := by
  have hn1 : 3 ≤ n := by rcases isGrp_of hn with h | h <;> omega
  have hn2 : n ≤ 5 := by rcases isGrp_of hn with h | h <;> omega
  obtain ⟨i0, hi, hz0, hz1, hz2⟩ := info_parts Try.infoInt
  obtain ⟨av, cv, rfl, hlv, _, hcv⟩ := hv
  unfold maxLen at hlv
  have HA := Lib.hid hall
  have HN := Lib.hid hn
  clear hall hn
  go_enter Try.func62, Try.ntmps62
  go_wp2_with fail
  refine (implIsGroup_any _ _).mono ?_
  rintro e w' ⟨rfl, rfl⟩
  rw [HN.out]
  go_wp2
  go_loopw [8, 16] (fun _ i wr => ∃ k : Nat, k ≤ l.length ∧ i = .int .i64 k ∧ wr.heap[w.heap.size]? = some (.cells (goneL l k).toArray 164 (0, 0)) ∧ Ext w wr) (fun _ i _ => l.length - (intOf i).toNat)
  case atStart => exact ⟨0, Nat.zero_le _, rfl, by rw [goneL_zero]; exact heap_alloc_new _ _, (Ext.refl w).alloc _⟩
  case round =>
    obtain ⟨k, hk, rfl, hb, hx⟩ := hrel
    by_cases hlt : k < l.length
    · obtain ⟨bv, ov, rfl, dv⟩ := hcv (by omega)
      have gv := hx.cell (dv k hlt)
      have hin := allIn_get HA.out k hlt
      obtain ⟨x, hxe⟩ : ∃ x : Nat, l[k] = (x : Int) := ⟨l[k].toNat, by omega⟩
      rw [List.getElem?_eq_getElem hlt, Option.getD_some, hxe] at gv
      have hxn : x < n := by rw [hxe] at hin; omega
      have hx5 : x < 5 := by omega
      have HX := Lib.hid hxe
      have gc : wr.cell? ⟨w.heap.size, x, none⟩ = some (.bool (hasI (l.take k) (x : Int))) := by
        rw [cell_of_row wr _ _ _ _ _ hb]
        simpa using goneL_get l k x hx5
      have gf := frozen_of_row wr w.heap.size x _ _ hb
      have HB := Lib.hid hb
      have HRep : Hid (repB n (x : Int) = true) := Lib.hid (by unfold repB; rw [HN.out, inB_yes (by omega) (by omega)]; rfl)
      clear hcv dv hin hxe hb
      go_wp2_with fail
      refine (isReplica_any _ _ _).mono ?_
      rintro e w' ⟨rfl, rfl⟩
      rw [HRep.out]
      go_wp2
      have hb2 := heap_setCell_same wr w.heap.size x _ _ (.bool true) HB.out
      rw [List.setIfInBounds_toArray, goneL_set l k hlt x HX.out] at hb2
      go_roundw
      case rel => exact ⟨k + 1, by omega, by go_num, hb2, Below.setCell hx (Nat.le_refl _) _⟩
      case measure => simp [intOf]; omega
    · obtain rfl : k = l.length := by omega
      have gcs : ∀ j, j < 5 → wr.heap[w.heap.size]? = some (.cells (goneL l l.length).toArray 164 (0, 0)) := fun _ _ => hb
      have HB := Lib.hid hb
      clear hb gcs hcv
      have hsz : w.heap.size + 1 ≤ wr.heap.size := by
        have := (Array.getElem?_eq_some_iff.1 HB.out).1
        omega
      obtain ⟨wo, rfl⟩ : ∃ wo : World, wo = wr := ⟨_, rfl⟩
      go_wp2
      go_loopw [9, 10, 28] (fun o _ i w2 => ∃ k : Nat, k ≤ n ∧ i = .int .i64 k ∧ w2.ownsRow (w.heap.size + 1) 3 1 o (keepOnes l k).length ((keepOnes l k).map (Value.int .i64)) ∧ w2.heap[w.heap.size]? = some (.cells (goneL l l.length).toArray 164 (0, 0)) ∧ w.heap.size + 1 ≤ w2.heap.size ∧ Ext w w2) (fun _ _ i _ => n - (intOf i).toNat)
      case atStart => exact ⟨0, Nat.zero_le _, rfl, World.ownsRow_nil _ _ _ _, HB.out, hsz, hx⟩
      case round =>
        clear hsz hx
        clear HB
        obtain ⟨k, hk, rfl, ho, hb, hsz, hx⟩ := hrel
        have hkl := keepOnes_len l k
        by_cases hlt : k < n
        · have gc : wr.cell? ⟨w.heap.size, k, none⟩ = some (.bool (hasI l (k : Int))) := by
            rw [cell_of_row wr _ _ _ _ _ hb]
            have := goneL_get l l.length k (by omega)
            rw [List.take_length] at this
            simpa using this
          have HB := Lib.hid hb
          clear hb
          cases hh : hasI l (k : Int) with
          | true =>
            rw [hh] at gc
            go_wp2
            go_roundw
            case rel => exact ⟨k + 1, by omega, by go_num, by rw [keepOnes_miss l k hh]; exact ho, HB.out, hsz, hx⟩
            case measure => simp [intOf]; omega
          | false =>
            rw [hh] at gc
            go_wp2_with (at_builtin; refine wpList_append_own _ rfl _ _ 37 rfl (w.heap.size + 1) 3 i0 (.int .i64 0) 1 8 Try.underlying37 hi hz0 hz1 hz2 rfl (by decide) _ _ _ rfl (ho.alloc _) ⟨wr.heap.size, 0, none⟩ 1 1 [.int .i64 (k : Int)] rfl rfl ?c1 ?c2 ?c3 ?c4 ?c5 ?_)
            case c1 =>
              intro j u hj
              match j, hj with
              | 0, hj => simp at hj; subst hj; simp [Addr.add]
            case c2 => intro u hu; simp at hu; subst hu; rfl
            case c3 => unfold maxLen; omega
            case c4 => omega
            case c5 => simp; omega
            intro v' w3 ho3 hg3 _
            have hx3 : Ext w w3 := Below.grown (hx.alloc _) hg3 (by simp; omega) (fun q hq => by have := (ho.lt q hq).1; omega)
            have e3 : (keepOnes l (k + 1)).map (Value.int .i64) = (keepOnes l k).map (Value.int .i64) ++ [.int .i64 (k : Int)] := by rw [keepOnes_hit l k hh]; simp
            have e4 : (keepOnes l (k + 1)).length = (keepOnes l k).length + 1 := by rw [keepOnes_hit l k hh]; simp
            have HO : Hid (w3.ownsRow (w.heap.size + 1) 3 1 v' (keepOnes l (k + 1)).length ((keepOnes l (k + 1)).map (Value.int .i64))) := by rw [e3, e4]; exact ho3
            have HB3 : Hid (w3.heap[w.heap.size]? = some (.cells (goneL l l.length).toArray 164 (0, 0))) := by
              show w3.heap[w.heap.size]? = _
              rw [hg3.block w.heap.size (by simp; omega) (fun e => by have := (ho.lt _ e.symm).1; omega), heap_alloc_old _ _ (by omega)]
              exact HB.out
            have hsz3 : w.heap.size + 1 ≤ w3.heap.size := by have := hg3.size; simp at this; omega
            clear ho ho3 hg3 hx e3 e4 hsz HB gc
            go_wp2
            go_roundw
            case rel => exact ⟨k + 1, by omega, by go_num, HO.out, HB3.out, hsz3, hx3⟩
            case measure => simp [intOf]; omega
        · obtain rfl : k = n := by omega
          have HB := Lib.hid hb
          clear hb
          go_wp2
          go_ret2
          exact ⟨_, rfl, Fresh.more ho (Nat.le_succ _), hx⟩

theorem allIn_first {l : List Int} {lo hi : Int} (h : allIn l lo hi = false) : ∃ m, ∃ hm : m < l.length, inB l[m] lo hi = false ∧ ∀ k, ∀ hk : k < m, inB (l[k]'(by omega)) lo hi = true := by
  induction l with
  | nil => simp [allIn] at h
  | cons a r ih =>
    cases ha : inB a lo hi with
    | false => exact ⟨0, by simp, by simpa using ha, fun k hk => by omega⟩
    | true =>
      have hr : allIn r lo hi = false := by simpa [allIn, ha] using h
      obtain ⟨m, hm, h1, h2⟩ := ih hr
      refine ⟨m + 1, by simp; omega, by simpa using h1, fun k hk => ?_⟩
      match k, hk with
      | 0, _ => simpa using ha
      | k + 1, hk => simpa using h2 k (by omega)

set_option maxHeartbeats 1000000 in
theorem implWithout_out (v : Value) (l : List Int) (n : Nat) (w : World) (hv : Ints w v l) (hn : isGrp n = true) (hall : allIn l 0 ((n : Int) - 1) = false) :
    Calls Try.prog 62 #[.int .i64 n, v] w (TwoInts [] false w) := by
  have hn1 : 3 ≤ n := by rcases isGrp_of hn with h | h <;> omega
  have hn2 : n ≤ 5 := by rcases isGrp_of hn with h | h <;> omega
  obtain ⟨m, hm, hm1, hm2⟩ := allIn_first hall
  obtain ⟨av, cv, rfl, hlv, _, hcv⟩ := hv
  unfold maxLen at hlv
  have HN := Lib.hid hn
  have H2 := Lib.hid hm2
  clear hall hn hm2
  go_enter Try.func62, Try.ntmps62
  go_wp2_with fail
  refine (implIsGroup_any _ _).mono ?_
  rintro e w' ⟨rfl, rfl⟩
  rw [HN.out]
  go_wp2
  go_loopw [8, 16] (fun _ i wr => ∃ k : Nat, k ≤ m ∧ i = .int .i64 k ∧ wr.heap[w.heap.size]? = some (.cells (goneL l k).toArray 164 (0, 0)) ∧ Ext w wr) (fun _ i _ => l.length - (intOf i).toNat)
  case atStart => exact ⟨0, Nat.zero_le _, rfl, by rw [goneL_zero]; exact heap_alloc_new _ _, (Ext.refl w).alloc _⟩
  case round =>
    obtain ⟨k, hk, rfl, hb, hx⟩ := hrel
    have hlt : k < l.length := by omega
    obtain ⟨bv, ov, rfl, dv⟩ := hcv (by omega)
    have gv := hx.cell (dv k hlt)
    rw [List.getElem?_eq_getElem hlt, Option.getD_some] at gv
    by_cases hkm : k < m
    · have hin : 0 ≤ l[k] ∧ l[k] ≤ (n : Int) - 1 := by
        have := H2.out k hkm
        simpa [inB] using this
      obtain ⟨x, hxe⟩ : ∃ x : Nat, l[k] = (x : Int) := ⟨l[k].toNat, by omega⟩
      rw [hxe] at gv
      have hxn : x < n := by rw [hxe] at hin; omega
      have hx5 : x < 5 := by omega
      have HX := Lib.hid hxe
      have gc : wr.cell? ⟨w.heap.size, x, none⟩ = some (.bool (hasI (l.take k) (x : Int))) := by
        rw [cell_of_row wr _ _ _ _ _ hb]
        simpa using goneL_get l k x hx5
      have gf := frozen_of_row wr w.heap.size x _ _ hb
      have HB := Lib.hid hb
      have HRep : Hid (repB n (x : Int) = true) := Lib.hid (by unfold repB; rw [HN.out, inB_yes (by omega) (by omega)]; rfl)
      clear hcv dv hin hxe hb
      go_wp2_with fail
      refine (isReplica_any _ _ _).mono ?_
      rintro e w' ⟨rfl, rfl⟩
      rw [HRep.out]
      go_wp2
      have hb2 := heap_setCell_same wr w.heap.size x _ _ (.bool true) HB.out
      rw [List.setIfInBounds_toArray, goneL_set l k hlt x HX.out] at hb2
      go_roundw
      case rel => exact ⟨k + 1, by omega, by go_num, hb2, Below.setCell hx (Nat.le_refl _) _⟩
      case measure => simp [intOf]; omega
    · obtain rfl : k = m := by omega
      obtain ⟨y, hy⟩ : ∃ y : Int, y = l[k] := ⟨_, rfl⟩
      rw [← hy] at gv hm1
      have HRep : Hid (repB n y = false) := Lib.hid (by unfold repB; rw [HN.out, hm1]; rfl)
      clear hy hm1 hcv dv hb
      go_wp2_with fail
      refine (isReplica_any _ _ _).mono ?_
      rintro e w' ⟨rfl, rfl⟩
      rw [HRep.out]
      go_wp2
      go_ret2
      exact ⟨_, rfl, fresh_nil _ _, hx⟩

set_option maxHeartbeats 400000 in
theorem implWithout_no (v : Value) (l : List Int) (n : Int) (w : World) (hv : Ints w v l) (hno : (isGrp n && allIn l 0 (n - 1)) = false) :
    Calls Try.prog 62 #[.int .i64 n, v] w (TwoInts [] false w) := by
  cases hg : isGrp n with
  | false =>
    clear hno
    go_enter Try.func62, Try.ntmps62
    go_wp2_with fail
    refine (implIsGroup_any _ _).mono ?_
    rintro e w' ⟨rfl, rfl⟩
    go_wp2
    go_ret2
    exact ⟨_, rfl, fresh_nil _ _, Ext.refl _⟩
  | true =>
    have ha : allIn l 0 (n - 1) = false := by simpa [hg] using hno
    obtain ⟨k, rfl⟩ : ∃ k : Nat, n = (k : Int) := ⟨n.toNat, by rcases isGrp_of hg with rfl | rfl <;> rfl⟩
    exact implWithout_out v l k w hv hg ha

/-- What both functions tell. -/
def without (n : Int) (l : List Int) : List Int := if isGrp n && allIn l 0 (n - 1) then keepOnes l n.toNat else []

theorem implWithout_any (v : Value) (l : List Int) (n : Int) (w : World) (hv : Ints w v l) :
    Calls Try.prog 62 #[.int .i64 n, v] w (TwoInts (without n l) (isGrp n && allIn l 0 (n - 1)) w) := by
  cases h : (isGrp n && allIn l 0 (n - 1)) with
  | false =>
    have e : without n l = [] := by unfold without; rw [h]; rfl
    rw [e]
    exact implWithout_no v l n w hv h
  | true =>
    have e : without n l = keepOnes l n.toNat := by unfold without; rw [h]; rfl
    rw [e]
    obtain ⟨hg, ha⟩ := (Bool.and_eq_true _ _ ▸ h : isGrp n = true ∧ allIn l 0 (n - 1) = true)
    obtain ⟨k, rfl⟩ : ∃ k : Nat, n = (k : Int) := ⟨n.toNat, by rcases isGrp_of hg with rfl | rfl <;> rfl⟩
    exact implWithout_yes v l k w hv hg ha

theorem specWithout_any (v : Value) (l : List Int) (n : Int) (w : World) (hv : Ints w v l) (hw : (Lit.int .i64 n).wf = true) :
    Calls Try.prog 60 #[.int .i64 n, v] w (TwoInts (without n l) (isGrp n && allIn l 0 (n - 1)) w) := by
  cases h : (isGrp n && allIn l 0 (n - 1)) with
  | false =>
    have e : without n l = [] := by unfold without; rw [h]; rfl
    rw [e]
    exact specWithout_no v l n w hv hw h
  | true =>
    have e : without n l = keepOnes l n.toNat := by unfold without; rw [h]; rfl
    rw [e]
    obtain ⟨hg, ha⟩ := (Bool.and_eq_true _ _ ▸ h : isGrp n = true ∧ allIn l 0 (n - 1) = true)
    obtain ⟨k, rfl⟩ : ∃ k : Nat, n = (k : Int) := ⟨n.toNat, by rcases isGrp_of hg with rfl | rfl <;> rfl⟩
    exact specWithout_yes v l k w hv (by rcases isGrp_of hg with h | h <;> omega) ha

end Go.Proofs.Ythnoeknalpnadaa
