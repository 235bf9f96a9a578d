/- Texts of this proof, part c: words, plain facts, contracts. -/
import Derived.Test.YtfffddhfagibpaaMApplyCmdb
import Derived.Laws.CopyOwn
import Derived.Test.YtfffddhfagibpaaMApplyCmda
import Derived.WalkSpells
import Derived.Deep.DeepCutAuto

namespace Go.Proofs.Ytfffddhfagibpaa
open Go.RowKit
set_option linter.unusedVariables false

/-- The number at a place, 0 behind the end. -/
def at0 (l : List Int) (j : Nat) : Int := l[j]?.getD 0
/-- The first five numbers. -/
def five (l : List Int) : Array Value := #[.int .i64 (at0 l 0), .int .i64 (at0 l 1), .int .i64 (at0 l 2), .int .i64 (at0 l 3), .int .i64 (at0 l 4)]
def FiveExt (l : List Int) (w : World) (e : Ending) (w' : World) : Prop := e = .returned (.agg (five l)) ∧ Ext w w'

theorem splice_five (l : List Int) : splice [Value.int .i64 0, .int .i64 0, .int .i64 0, .int .i64 0, .int .i64 0] 0 ((l.map (Value.int .i64)).take 5) = (five l).toList := by
  match l with
  | [] => rfl
  | [a] => rfl
  | [a, b] => rfl
  | [a, b, c] => rfl
  | [a, b, c, d] => rfl
  | a :: b :: c :: d :: e :: r => simp [splice, five, at0]

theorem setc_heap (w : World) (b o : Nat) (v : Value) (k : Nat) (h : k ≠ b) : (w.setCell ⟨b, o, none⟩ v).heap[k]? = w.heap[k]? := Below.heap_setCell _ _ _ k h

set_option maxRecDepth 100000 in
set_option maxHeartbeats 1000000 in
theorem depsIn_any (u : Value) (l : List Int) (w : World) (hv : Ints w u l) :
    Calls Try.prog 116 #[u] w (FiveExt l w) := by
  obtain ⟨au, cu, rfl, hlu, hcap, hcu⟩ := hv
  have hlu' : l.length ≤ 9223372036854775807 := by unfold maxLen at hlu; exact hlu
  have HCU := Lib.hid hcu
  have hcap1 : l.length ≤ cu := hcap.1
  clear hlu hcap hcu
  have hz0 : (w.alloc (.cells #[.int .i64 0, .int .i64 0, .int .i64 0, .int .i64 0, .int .i64 0] 148)).heap.size = w.heap.size + 1 := by simp
  have HZ := Lib.hid hz0
  clear hz0
  go_enter Try.func116, Try.ntmps116
  go_wp2_with (with_reducible refine wpList_copy_splice rfl _ _ 22 22 rfl 3 Try.underlying22 rfl _ _ 5 5 l.length cu rfl rfl (w.heap.size + 1) 0 [Value.int .i64 0, .int .i64 0, .int .i64 0, .int .i64 0, .int .i64 0] 148 ?c1 ((l.take 5).map (Value.int .i64)) ?c2 ?c3 ?c4 ?c5 (w.heap.size + 1) (w.alloc (.cells #[.int .i64 0, .int .i64 0, .int .i64 0, .int .i64 0, .int .i64 0] 148)) ?c6 (Nat.le_refl _) ?_)
  case c1 =>
    have h := heap_alloc_new (w.alloc (.cells #[.int .i64 0, .int .i64 0, .int .i64 0, .int .i64 0, .int .i64 0] 148)) (.cells #[.int .i64 0, .int .i64 0, .int .i64 0, .int .i64 0, .int .i64 0] 148)
    rw [HZ.out] at h
    exact h
  case c2 =>
    rw [List.length_map, List.length_take]
    exact Nat.min_comm _ _
  case c3 =>
    intro hp
    have hp' : 0 < l.length := by
      omega
    obtain ⟨b, off, rfl, hc⟩ := HCU.out hp'
    refine ⟨_, rfl, fun j z hj => ?_⟩
    have hj5 : j < l.length := by
      have := (List.getElem?_eq_some_iff.1 hj).1
      simp at this; omega
    have hx := (Ext.alloc (Ext.alloc (Ext.refl w) (.cells #[.int .i64 0, .int .i64 0, .int .i64 0, .int .i64 0, .int .i64 0] 148)) (.cells #[.int .i64 0, .int .i64 0, .int .i64 0, .int .i64 0, .int .i64 0] 148)).cell (hc j hj5)
    rw [show (⟨b, off, none⟩ : Addr).add j = ⟨b, off + j, none⟩ by simp [Addr.add], hx]
    have hj' : j < ((l.map (Value.int .i64)).take 5).length := (List.getElem?_eq_some_iff.1 hj).1
    rw [List.getElem?_eq_getElem hj'] at hj
    rw [← hj]
    simp [List.getElem?_eq_getElem hj5]
  case c4 =>
    rw [List.length_map, List.length_take]
    simp; omega
  case c5 =>
    intro z hz
    obtain ⟨q, _, rfl⟩ := List.mem_map.1 hz
    rfl
  case c6 => exact (Below.refl _ _).alloc (by rw [HZ.out]; exact Nat.le_refl _) _
  intro w' HG hb
  have hg := HG.out
  rw [splice_five] at hg
  have hcells : ∀ j, w'.cell? ⟨w.heap.size + 1, j, none⟩ = (five l)[j]? := fun j => by rw [cell_of_row w' _ j _ _ _ hg]
  have hx : Ext w w' := (Ext.alloc (Ext.refl w) _).trans (by
    show Below _ _ _
    rw [HZ.out]; exact hb)
  have d0 : w'.cell? ⟨w.heap.size + 1, 0, none⟩ = some (.int .i64 (at0 l 0)) := hcells 0
  have d1 : w'.cell? ⟨w.heap.size + 1, 1, none⟩ = some (.int .i64 (at0 l 1)) := hcells 1
  have d2 : w'.cell? ⟨w.heap.size + 1, 2, none⟩ = some (.int .i64 (at0 l 2)) := hcells 2
  have d3 : w'.cell? ⟨w.heap.size + 1, 3, none⟩ = some (.int .i64 (at0 l 3)) := hcells 3
  have d4 : w'.cell? ⟨w.heap.size + 1, 4, none⟩ = some (.int .i64 (at0 l 4)) := hcells 4
  have hlow : ∀ j, w'.cell? ⟨w.heap.size, j, none⟩ = (w.alloc (.cells #[.int .i64 0, .int .i64 0, .int .i64 0, .int .i64 0, .int .i64 0] 148)).cell? ⟨w.heap.size, j, none⟩ := fun j => hb.cell (p := ⟨w.heap.size, j, none⟩) (Nat.lt_succ_self _)
  have hfro : ∀ j, w'.frozen? ⟨w.heap.size, j, none⟩ = (w.alloc (.cells #[.int .i64 0, .int .i64 0, .int .i64 0, .int .i64 0, .int .i64 0] 148)).frozen? ⟨w.heap.size, j, none⟩ := fun j => hb.frozen (p := ⟨w.heap.size, j, none⟩) (Nat.lt_succ_self _)
  have c0 : w'.cell? ⟨w.heap.size, 0, none⟩ = some (.int .i64 0) := (hlow 0).trans (by go_simp)
  have c1 : w'.cell? ⟨w.heap.size, 1, none⟩ = some (.int .i64 0) := (hlow 1).trans (by go_simp)
  have c2 : w'.cell? ⟨w.heap.size, 2, none⟩ = some (.int .i64 0) := (hlow 2).trans (by go_simp)
  have c3 : w'.cell? ⟨w.heap.size, 3, none⟩ = some (.int .i64 0) := (hlow 3).trans (by go_simp)
  have c4 : w'.cell? ⟨w.heap.size, 4, none⟩ = some (.int .i64 0) := (hlow 4).trans (by go_simp)
  have f0 : w'.frozen? ⟨w.heap.size, 0, none⟩ = false := (hfro 0).trans (by go_simp)
  have f1 : w'.frozen? ⟨w.heap.size, 1, none⟩ = false := (hfro 1).trans (by go_simp)
  have f2 : w'.frozen? ⟨w.heap.size, 2, none⟩ = false := (hfro 2).trans (by go_simp)
  have f3 : w'.frozen? ⟨w.heap.size, 3, none⟩ = false := (hfro 3).trans (by go_simp)
  have f4 : w'.frozen? ⟨w.heap.size, 4, none⟩ = false := (hfro 4).trans (by go_simp)
  clear hcells hlow hfro hb HG hg hlu' hcap1
  go_wp2
  refine bodyPost_ret (v := .agg (five l)) (by simp [results, Try.results116, go_sem, c0, c1, c2, c3, c4, five]) rfl ⟨rfl, ?_⟩
  exact ((((hx.setc (Nat.le_refl _)).setc (Nat.le_refl _)).setc (Nat.le_refl _)).setc (Nat.le_refl _)).setc (Nat.le_refl _)

end Go.Proofs.Ytfffddhfagibpaa

namespace Go.Proofs.Ytfffddhfagibpaa
open Go.RowKit

def isGrp (n : Int) : Bool := n == 3 || n == 5
theorem isGrp_of {n : Int} (h : isGrp n = true) : n = 3 ∨ n = 5 := by simpa [isGrp] using h
theorem isGrp_no {n : Int} (h : isGrp n = false) : (n == 3) = false ∧ (n == 5) = false := by simpa [isGrp] using h

theorem specIsGroup_any (n : Int) (w : World) : Calls Try.prog 112 #[.int .i64 n] w (fun e w' => e = .returned (.bool (isGrp n)) ∧ w = w') := by
  cases h : isGrp n with
  | true =>
    rcases isGrp_of h with rfl | rfl
    all_goals
      clear h
      go_enter Try.func112, Try.ntmps112
      go_wp2
      go_ret
      exact ⟨rfl, rfl⟩
  | false =>
    obtain ⟨h3, h5⟩ := isGrp_no h
    clear h
    go_enter Try.func112, Try.ntmps112
    go_wp2
    go_ret
    exact ⟨rfl, rfl⟩
theorem implIsGroup_any (n : Int) (w : World) : Calls Try.prog 94 #[.int .i64 n] w (fun e w' => e = .returned (.bool (isGrp n)) ∧ w = w') := by
  cases h : isGrp n with
  | true =>
    rcases isGrp_of h with rfl | rfl
    all_goals
      clear h
      go_enter Try.func94, Try.ntmps94
      go_wp2
      go_ret
      exact ⟨rfl, rfl⟩
  | false =>
    obtain ⟨h3, h5⟩ := isGrp_no h
    clear h
    go_enter Try.func94, Try.ntmps94
    go_wp2
    go_ret
    exact ⟨rfl, rfl⟩

end Go.Proofs.Ytfffddhfagibpaa

namespace Go.Proofs.Ytfffddhfagibpaa
open Go.RowKit

set_option maxHeartbeats 400000 in
theorem l1All_any (v : Value) (l : List Int) (lo hi : Int) (w : World) (hv : Ints w v l) :
    Calls Try.prog 113 #[v, .int .i64 lo, .int .i64 hi] w (BoolExt (allIn l lo hi) w) := by
  obtain ⟨av, cv, rfl, hlv, _, hcv⟩ := hv
  unfold maxLen at hlv
  go_enter Try.func113, Try.ntmps113
  go_wp2
  go_loopw [8, 11] (fun _ i wr => ∃ k : Nat, k ≤ l.length ∧ i = .int .i64 k ∧ (l.take k).all (fun x => inB x lo hi) = true ∧ Ext w wr) (fun _ i _ => l.length - (intOf i).toNat)
  case atStart => exact ⟨0, Nat.zero_le _, rfl, by simp, Ext.refl _⟩
  case round =>
    obtain ⟨k, hk, rfl, ht, hx⟩ := hrel
    have HT := Lib.hid ht
    clear ht
    by_cases hlt : k < l.length
    · obtain ⟨bv, ov, rfl, dv⟩ := hcv (by omega)
      have gv := hx.cell (dv k hlt)
      clear hcv dv
      cases hp : inB l[k] lo hi with
      | true =>
        go_wp2_with (go_at_call 46; refine (l1In_any _ _ _ _).mono ?_; rintro e w' ⟨rfl, rfl⟩)
        go_roundw
        case rel => exact ⟨k + 1, by omega, by go_num, all_take_succ hlt _ HT.out (by simpa [hlt] using hp), hx⟩
        case measure => simp [intOf]; omega
      | false =>
        go_wp2_with (go_at_call 46; refine (l1In_any _ _ _ _).mono ?_; rintro e w' ⟨rfl, rfl⟩)
        go_ret
        refine ⟨?_, hx⟩
        have hf : allIn l lo hi = false := all_false_at hlt _ (by simpa [hlt] using hp)
        rw [hf]; rfl
    · obtain rfl : k = l.length := by omega
      go_wp2
      go_ret
      refine ⟨?_, hx⟩
      have hf : allIn l lo hi = true := by have h := HT.out; rwa [List.take_length] at h
      rw [hf]; rfl


end Go.Proofs.Ytfffddhfagibpaa

namespace Go.Proofs.Ytfffddhfagibpaa
open Go.RowKit
set_option linter.unusedVariables false

/-- Whether the numbers fit a group of n. -/
def goodD (n s : Int) (l : List Int) : Bool := inB s 0 999 && decide ((l.length : Int) = n) && allIn l 0 6
def goodA (n s : Int) (l : List Int) : Bool := isGrp n && goodD n s l
theorem goodD_s {n s : Int} {l : List Int} (h : inB s 0 999 = false) : goodD n s l = false := by unfold goodD; rw [h]; rfl
theorem goodD_l {n s : Int} {l : List Int} (h : (l.length : Int) ≠ n) : goodD n s l = false := by unfold goodD; rw [decide_eq_false h, Bool.and_false, Bool.false_and]
theorem goodD_a {n s : Int} {l : List Int} (h : inB s 0 999 = true) (hl : (l.length : Int) = n) : goodD n s l = allIn l 0 6 := by unfold goodD; rw [h, decide_eq_true hl]; rfl
theorem goodD_of {n s : Int} {l : List Int} (h : goodD n s l = true) : inB s 0 999 = true ∧ (l.length : Int) = n ∧ allIn l 0 6 = true := by
  unfold goodD at h
  simp only [Bool.and_eq_true, decide_eq_true_eq] at h
  exact ⟨h.1.1, h.1.2, h.2⟩

set_option maxHeartbeats 1000000 in
theorem l3Attr_any (n s : Int) (u : Value) (l : List Int) (w : World) (hv : Ints w u l) :
    Calls Try.prog 90 #[.int .i64 n, .agg #[.int .i64 s, u]] w (BoolExt (goodD n s l) w) := by
  obtain ⟨au, cu, rfl, hlu, hcap, hcu⟩ := hv
  have HV : Hid (Ints w (.slice au l.length cu) l) := Lib.hid ⟨au, cu, rfl, hlu, hcap, hcu⟩
  clear hlu hcap hcu
  cases hp : inB s 0 999 with
  | false =>
    have HG := Lib.hid (goodD_s (n := n) (l := l) hp)
    have HP := Lib.hid hp
    clear hp
    go_enter Try.func90, Try.ntmps90
    go_wp2_with fail
    refine (l1In_any _ _ _ _).mono ?_
    rintro e w' ⟨rfl, rfl⟩
    rw [HP.out]
    go_wp2
    go_ret
    exact ⟨by rw [HG.out]; rfl, Ext.alloc (Ext.refl _) _⟩
  | true =>
    by_cases hl : (l.length : Int) = n
    · have HG := Lib.hid (goodD_a (n := n) hp hl)
      have HP := Lib.hid hp
      have e0 : ((l.length : Int) == n) = true := by simp [hl]
      clear hp hl
      rw [HG.out]
      go_enter Try.func90, Try.ntmps90
      go_wp2_with fail
      refine (l1In_any _ _ _ _).mono ?_
      rintro e w' ⟨rfl, rfl⟩
      rw [HP.out]
      go_wp2_with fail
      refine (l1All_any _ _ _ _ _ (HV.out.ext (Ext.alloc (Ext.refl _) _))).mono ?_
      rintro e w1 ⟨rfl, x1⟩
      have hx : Ext w w1 := (Ext.alloc (Ext.refl _) _).trans x1
      clear x1
      cases hA : allIn l 0 6
      all_goals
        have HA := Lib.hid hA
        clear hA
        go_wp2
        go_ret
        exact ⟨by rw [HA.out]; rfl, hx⟩
    · have HG := Lib.hid (goodD_l (s := s) hl)
      have HP := Lib.hid hp
      have e0 : ((l.length : Int) == n) = false := by simp [hl]
      clear hp hl
      go_enter Try.func90, Try.ntmps90
      go_wp2_with fail
      refine (l1In_any _ _ _ _).mono ?_
      rintro e w' ⟨rfl, rfl⟩
      rw [HP.out]
      go_wp2
      go_ret
      exact ⟨by rw [HG.out]; rfl, Ext.alloc (Ext.refl _) _⟩

theorem goodA_no {n s : Int} {l : List Int} (h : isGrp n = false) : goodA n s l = false := by unfold goodA; rw [h]; rfl
theorem goodA_d {n s : Int} {l : List Int} (h : goodD n s l = false) : goodA n s l = false := by unfold goodA; rw [h, Bool.and_false]
theorem goodA_of {n s : Int} {l : List Int} (h : goodA n s l = true) : isGrp n = true ∧ goodD n s l = true := by unfold goodA at h; simpa using h

set_option maxHeartbeats 1000000 in
/-- The program's function where the loop is not come to. -/
theorem implGoodAttr_early (n s : Int) (u : Value) (l : List Int) (w : World) (hv : Ints w u l) (h : isGrp n = false ∨ (l.length : Int) ≠ n ∨ s < 0 ∨ 999 < s) :
    Calls Try.prog 99 #[.int .i64 n, .agg #[.int .i64 s, u]] w (BoolExt false w) := by
  obtain ⟨au, cu, rfl, hlu, hcap, hcu⟩ := hv
  clear hlu hcap hcu
  cases hg : isGrp n with
  | false =>
    have HG := Lib.hid hg
    clear hg h
    go_enter Try.func99, Try.ntmps99
    go_wp2_with fail
    refine (implIsGroup_any _ _).mono ?_
    rintro e w' ⟨rfl, rfl⟩
    rw [HG.out]
    go_wp2
    go_ret
    exact ⟨rfl, Ext.alloc (Ext.refl _) _⟩
  | true =>
    have h' : (l.length : Int) ≠ n ∨ s < 0 ∨ 999 < s := by
      rcases h with h | h
      · rw [hg] at h; cases h
      · exact h
    clear h
    have HG := Lib.hid hg
    clear hg
    by_cases hl : (l.length : Int) = n
    · have h2 : s < 0 ∨ 999 < s := by
        rcases h' with h | h
        · exact absurd hl h
        · exact h
      have e0 : ((l.length : Int) != n) = false := by simp [hl]
      clear h' hl
      by_cases hs : s < 0
      · clear h2
        go_enter Try.func99, Try.ntmps99
        go_wp2_with fail
        refine (implIsGroup_any _ _).mono ?_
        rintro e w' ⟨rfl, rfl⟩
        rw [HG.out]
        go_wp2
        go_ret
        exact ⟨rfl, Ext.alloc (Ext.refl _) _⟩
      · have h0 : 0 ≤ s := by omega
        have h1 : 999 < s := by omega
        clear h2 hs
        go_enter Try.func99, Try.ntmps99
        go_wp2_with fail
        refine (implIsGroup_any _ _).mono ?_
        rintro e w' ⟨rfl, rfl⟩
        rw [HG.out]
        go_wp2
        go_ret
        exact ⟨rfl, Ext.alloc (Ext.refl _) _⟩
    · have e0 : ((l.length : Int) != n) = true := by simp [hl]
      clear h' hl
      go_enter Try.func99, Try.ntmps99
      go_wp2_with fail
      refine (implIsGroup_any _ _).mono ?_
      rintro e w' ⟨rfl, rfl⟩
      rw [HG.out]
      go_wp2
      go_ret
      exact ⟨rfl, Ext.alloc (Ext.refl _) _⟩

set_option maxHeartbeats 1000000 in
/-- The program's function where the loop is come to. -/
theorem implGoodAttr_loop (n s : Int) (u : Value) (l : List Int) (w : World) (hv : Ints w u l) (hg : isGrp n = true) (hl : (l.length : Int) = n) (h0 : 0 ≤ s) (h1 : s ≤ 999) :
    Calls Try.prog 99 #[.int .i64 n, .agg #[.int .i64 s, u]] w (BoolExt (allIn l 0 6) w) := by
  obtain ⟨au, cu, rfl, hlu, hcap, hcu⟩ := hv
  have hlen : l.length ≤ 5 := by rcases isGrp_of hg with h | h <;> omega
  have HG := Lib.hid hg
  have e0 : ((l.length : Int) != n) = false := by simp [hl]
  have e1 : (s < 0) = False := by simp; omega
  clear hlu hcap hg hl e1
  go_enter Try.func99, Try.ntmps99
  go_wp2_with fail
  refine (implIsGroup_any _ _).mono ?_
  rintro e w' ⟨rfl, rfl⟩
  rw [HG.out]
  go_wp2
  go_loopw [6, 30] (fun _ i wr => ∃ k : Nat, k ≤ l.length ∧ i = .int .i64 k ∧ Hid ((l.take k).all (fun x => inB x 0 6) = true) ∧ Ext w wr) (fun _ i _ => l.length - (intOf i).toNat)
  case atStart => exact ⟨0, Nat.zero_le _, rfl, Lib.hid (by simp), Ext.alloc (Ext.refl _) _⟩
  case round =>
    obtain ⟨k, hk, rfl, HT, hx⟩ := hrel
    by_cases hlt : k < l.length
    · obtain ⟨bv, ov, rfl, dv⟩ := hcu (by omega)
      have gv := hx.cell (dv k hlt)
      rw [List.getElem?_eq_getElem hlt, Option.getD_some] at gv
      obtain ⟨y, hy⟩ : ∃ y : Int, y = l[k] := ⟨_, rfl⟩
      rw [← hy] at gv
      have HY := Lib.hid hy
      clear hcu dv hy
      by_cases ha : y < 0
      · go_wp2
        go_ret
        refine ⟨?_, hx⟩
        have hf : allIn l 0 6 = false := all_false_at hlt _ (by rw [List.getElem?_eq_getElem hlt, Option.getD_some, ← HY.out]; exact inB_no (by omega))
        rw [hf]; rfl
      · have ha' : 0 ≤ y := by omega
        clear ha
        by_cases hb : 6 < y
        · go_wp2
          go_ret
          refine ⟨?_, hx⟩
          have hf : allIn l 0 6 = false := all_false_at hlt _ (by rw [List.getElem?_eq_getElem hlt, Option.getD_some, ← HY.out]; exact inB_no (by omega))
          rw [hf]; rfl
        · have hb' : y ≤ 6 := by omega
          clear hb
          go_wp2
          go_roundw
          case rel => exact ⟨k + 1, by omega, by go_num, Lib.hid (all_take_succ hlt _ HT.out (by rw [List.getElem?_eq_getElem hlt, Option.getD_some, ← HY.out]; exact inB_yes ha' hb')), hx⟩
          case measure => simp [intOf]; omega
    · obtain rfl : k = l.length := by omega
      go_wp2
      go_ret
      refine ⟨?_, hx⟩
      have hf : allIn l 0 6 = true := by have h := HT.out; rwa [List.take_length] at h
      rw [hf]; rfl

theorem implGoodAttr_any (n s : Int) (u : Value) (l : List Int) (w : World) (hv : Ints w u l) :
    Calls Try.prog 99 #[.int .i64 n, .agg #[.int .i64 s, u]] w (BoolExt (goodA n s l) w) := by
  by_cases h : isGrp n = false ∨ (l.length : Int) ≠ n ∨ s < 0 ∨ 999 < s
  · have e : goodA n s l = false := by
      rcases h with h | h | h
      · exact goodA_no h
      · exact goodA_d (goodD_l h)
      · exact goodA_d (goodD_s (inB_no (by omega)))
    rw [e]
    exact implGoodAttr_early n s u l w hv h
  · have hg : isGrp n = true := by
      cases hh : isGrp n with
      | true => rfl
      | false => exact absurd (Or.inl hh) h
    have hl : (l.length : Int) = n := Classical.byContradiction fun hh => h (.inr (.inl hh))
    have h0 : 0 ≤ s := by
      by_cases hh : s < 0
      · exact absurd (.inr (.inr (.inl hh))) h
      · omega
    have h1 : s ≤ 999 := by
      by_cases hh : 999 < s
      · exact absurd (.inr (.inr (.inr hh))) h
      · omega
    have e : goodA n s l = allIn l 0 6 := by unfold goodA; rw [hg, goodD_a (inB_yes h0 h1) hl]; rfl
    rw [e]
    exact implGoodAttr_loop n s u l w hv hg hl h0 h1

end Go.Proofs.Ytfffddhfagibpaa

namespace Go.Proofs.Ytfffddhfagibpaa
open Go.RowKit
set_option linter.unusedVariables false

set_option maxHeartbeats 400000 in
theorem l1Same_any (u v : Value) (l r : List Int) (w : World) (hu : Ints w u l) (hv : Ints w v r) :
    Calls Try.prog 58 #[u, v] w (BoolExt (decide (l = r)) w) := by
  obtain ⟨au, cu, rfl, hlu, _, hcu⟩ := hu
  obtain ⟨av, cv, rfl, hlv, _, hcv⟩ := hv
  unfold maxLen at hlu hlv
  by_cases hl : l.length = r.length
  · have e0 : ((l.length : Int) != (r.length : Int)) = false := by simp [hl]
    have HL := Lib.hid hl
    clear hl
    go_enter Try.func58, Try.ntmps58
    go_wp2
    go_loopw [5, 13] (fun _ i wr => ∃ k : Nat, k ≤ l.length ∧ i = .int .i64 k ∧ l.take k = r.take k ∧ ∃ nq, wr = w.drewN nq) (fun _ i _ => l.length - (intOf i).toNat)
    case atStart => exact ⟨0, Nat.zero_le _, rfl, rfl, 0, rfl⟩
    case round =>
      obtain ⟨k, hk, rfl, ht, nq0, rfl⟩ := hrel
      have HT := Lib.hid ht
      clear ht
      by_cases hlt : k < l.length
      · have hltr : k < r.length := by have := HL.out; omega
        obtain ⟨bu, ou, rfl, du⟩ := hcu (by omega)
        obtain ⟨bv, ov, rfl, dv⟩ := hcv (by omega)
        have gu := du k hlt
        have gv := dv k hltr
        clear hcu hcv du dv
        go_wp2_with fail
        go_quiet (fail)
        by_cases he : l[k] = r[k]
        · have e1 : (l[k] != r[k]) = false := by simp [he]
          have HE := Lib.hid he
          clear he
          go_wp2
          go_roundw
          case rel => exact ⟨k + 1, by omega, by go_num, take_eq_succ hlt hltr HT.out (by simpa [hlt, hltr] using HE.out), _, rfl⟩
          case measure => simp [intOf]; omega
        · have e1 : (l[k] != r[k]) = true := by simp [he]
          have HE := Lib.hid he
          clear he
          go_wp2
          go_ret
          refine ⟨?_, by repeat (first | exact Ext.refl _ | apply Ext.drewN)⟩
          have hne : decide (l = r) = false := decide_eq_false (fun h => HE.out (by subst h; rfl))
          rw [hne]; rfl
      · have hk' : k = l.length := by omega
        subst hk'
        go_wp2
        go_ret
        refine ⟨?_, by repeat (first | exact Ext.refl _ | apply Ext.drewN)⟩
        have he : decide (l = r) = true := by
          have h := HT.out
          rw [List.take_length, HL.out, List.take_length] at h
          exact decide_eq_true h
        rw [he]; rfl
  · have e0 : ((l.length : Int) != (r.length : Int)) = true := by simp; omega
    have HL := Lib.hid hl
    clear hl
    go_enter Try.func58, Try.ntmps58
    go_wp2
    go_ret
    refine ⟨?_, Ext.refl w⟩
    have hne : decide (l = r) = false := decide_eq_false (fun h => HL.out (by rw [h]))
    rw [hne]; rfl

/-- Whether two attributes are the same. -/
def sameA (s t : Int) (l r : List Int) : Bool := s == t && decide (l = r)
theorem box2 (w : World) (s t : Int) (u v : Value) (T : TypeId) : AttrAt ((w.alloc (.cells #[.int .i64 s, u] T)).alloc (.cells #[.int .i64 t, v] T)) w.heap.size s u ∧ AttrAt ((w.alloc (.cells #[.int .i64 s, u] T)).alloc (.cells #[.int .i64 t, v] T)) (w.heap.size + 1) t v := by
  refine ⟨⟨?_, ?_⟩, ?_, ?_⟩ <;> go_simp
theorem Ext.alloc2 (w : World) (a b : Obj) : Ext w ((w.alloc a).alloc b) := ((Ext.refl w).alloc a).alloc b

set_option maxHeartbeats 1000000 in
theorem specSame_any (s t : Int) (u v : Value) (l r : List Int) (w : World) (hu : Ints w u l) (hv : Ints w v r) :
    Calls Try.prog 88 #[.agg #[.int .i64 s, u], .agg #[.int .i64 t, v]] w (BoolExt (sameA s t l r) w) := by
  unfold sameA
  cases hs : (s == t)
  · go_enter Try.func88, Try.ntmps88
    go_wp2
    go_ret
    exact ⟨rfl, Ext.alloc2 _ _ _⟩
  · rw [Bool.true_and]
    go_enter Try.func88, Try.ntmps88
    go_wp2_with fail
    refine (l1Same_any _ _ l r _ (hu.ext (Ext.alloc2 _ _ _)) (hv.ext (Ext.alloc2 _ _ _))).mono ?_
    rintro e w1 ⟨rfl, x1⟩
    have hx : Ext w w1 := (Ext.alloc2 _ _ _).trans x1
    clear x1
    cases hd : decide (l = r)
    all_goals
      have HD := Lib.hid hd
      clear hd
      go_wp2
      go_ret
      exact ⟨by rw [HD.out]; rfl, hx⟩

end Go.Proofs.Ytfffddhfagibpaa

namespace Go.Proofs.Ytfffddhfagibpaa
open Go.RowKit
set_option linter.unusedVariables false

set_option maxHeartbeats 1000000 in
theorem clone_any (ad : Addr) (cap : Nat) (l : List Int) (w : World) (hv : Ints w (.slice (some ad) l.length cap) l) (hl : l.length ≤ 1048576) :
    Calls Try.prog 51 #[.slice (some ad) l.length cap] w (NewInts l w) := by
  have f0 := fresh_lit w [] #[] w.heap.size rfl (Nat.le_refl _) (by simp)
  have F0 := Lib.hid f0
  have HV := Lib.hid (hv.ext (Ext.alloc (Ext.refl w) (.cells #[] 3)))
  clear f0 hv
  have hne : ∀ W : World, (binOp .eql 22 (.slice (some ad) l.length cap) (.slice none 0 0)).run Try.prog W = .ok (.bool false) W := fun W => Lib.run_eql_slice_nil W 22 3 (some ad) l.length cap 0 0 Try.underlying22
  go_enter Try.func51, Try.ntmps51
  go_wp2_with (at_builtin; refine wpList_join rfl _ _ rfl w.heap.size _ _ [] l rfl F0.out rfl HV.out (by simp; omega) (by simp) ?_; intro v' w' hf hg hk)
  go_ret
  exact ⟨v', rfl, hf, hk w (Ext.alloc (Ext.refl _) _) (Nat.le_refl _)⟩

/-- A block of five numbers. -/
def FiveAt (w : World) (b : Nat) (x0 x1 x2 x3 x4 : Int) : Prop := w.heap[b]? = some (.cells #[.int .i64 x0, .int .i64 x1, .int .i64 x2, .int .i64 x3, .int .i64 x4] 148 (0, 0))
theorem five_ints {w : World} {b : Nat} {x0 x1 x2 x3 x4 : Int} (h : FiveAt w b x0 x1 x2 x3 x4) (n : Nat) (hn : n ≤ 5) : Ints w (.slice (some ⟨b, 0, none⟩) (([x0, x1, x2, x3, x4] : List Int).take n).length 5) (([x0, x1, x2, x3, x4] : List Int).take n) := by
  have hl : (([x0, x1, x2, x3, x4] : List Int).take n).length = n := by simp; omega
  refine ⟨some ⟨b, 0, none⟩, 5, rfl, by rw [hl]; unfold maxLen; omega, ⟨by omega, by unfold maxLen; omega, fun h => by cases h⟩, fun _ => ⟨b, 0, rfl, fun j hj => ?_⟩⟩
  rw [hl] at hj
  rw [Nat.zero_add, cell_of_row w b j _ _ _ h]
  have : j = 0 ∨ j = 1 ∨ j = 2 ∨ j = 3 ∨ j = 4 := by omega
  rw [List.getElem?_take, if_pos hj]
  rcases this with rfl | rfl | rfl | rfl | rfl <;> rfl
theorem fiveAt_new (w : World) (x0 x1 x2 x3 x4 : Int) : FiveAt (w.alloc (.cells #[.int .i64 x0, .int .i64 x1, .int .i64 x2, .int .i64 x3, .int .i64 x4] 148)) w.heap.size x0 x1 x2 x3 x4 := heap_alloc_new _ _
theorem size2 (w : World) (a b : Obj) : ((w.alloc a).alloc b).heap.size = w.heap.size + 2 := by simp
theorem open_next (w : World) (T : TypeId) (s : Int) (u : Value) (o : Obj) : OpenAt ((w.alloc (.cells #[.int .i64 s, u] T)).alloc o) w.heap.size s u := (openAt_new w T s u).ext (Ext.alloc (Ext.refl _) _)

set_option maxRecDepth 100000 in
set_option maxHeartbeats 1000000 in
theorem joinAttrs_none (n : Nat) (w : World) (hn : n = 3 ∨ n = 5) :
    Calls Try.prog 98 #[.int .i64 n, .slice none 0 0] w (NewAttr 0 (List.replicate n 0) w) := by
  have hz : (w.alloc (.cells #[.int .i64 0, .slice none 0 0] 71)).heap.size = w.heap.size + 1 := by simp
  have hf := fiveAt_new (w.alloc (.cells #[.int .i64 0, .slice none 0 0] 71)) 0 0 0 0 0
  rw [hz] at hf
  have HI := Lib.hid (five_ints hf)
  have HO := Lib.hid (open_next w 71 0 (.slice none 0 0) (.cells #[.int .i64 0, .int .i64 0, .int .i64 0, .int .i64 0, .int .i64 0] 148))
  clear hz hf
  rcases hn with rfl | rfl
  · go_enter Try.func98, Try.ntmps98
    go_wp2
    refine wp_loop_rounds 1 ?_; rw [rounds_succ]
    go_wp2_with fail
    refine (clone_any ⟨w.heap.size + 1, 0, none⟩ 5 [0, 0, 0] _ (HI.out 3 (by omega)) (by simp)).mono ?_
    rintro e w1 ⟨v, rfl, f1, x1⟩
    obtain ⟨av, cv, rfl⟩ := f1.form
    obtain ⟨⟨c0, c1⟩, z0, z1⟩ := HO.out.ext x1
    have hx := (Ext.alloc2 _ _ _).trans x1
    have F := Lib.hid f1
    clear f1 x1
    go_wp2
    rw [size2] at F
    refine bodyPost_ret (v := .agg #[.int .i64 0, .slice av 3 cv]) (by simp [results, Try.results98, go_sem, c0, c1]) rfl ⟨_, rfl, ?_, (hx.setc (Nat.le_refl _)).setc (Nat.le_refl _)⟩
    exact ((F.out.set _ _ _ (by omega)).set _ _ _ (by omega)).more (by omega)
  · go_enter Try.func98, Try.ntmps98
    go_wp2
    refine wp_loop_rounds 1 ?_; rw [rounds_succ]
    go_wp2_with fail
    refine (clone_any ⟨w.heap.size + 1, 0, none⟩ 5 [0, 0, 0, 0, 0] _ (HI.out 5 (by omega)) (by simp)).mono ?_
    rintro e w1 ⟨v, rfl, f1, x1⟩
    obtain ⟨av, cv, rfl⟩ := f1.form
    obtain ⟨⟨c0, c1⟩, z0, z1⟩ := HO.out.ext x1
    have hx := (Ext.alloc2 _ _ _).trans x1
    have F := Lib.hid f1
    clear f1 x1
    go_wp2
    rw [size2] at F
    refine bodyPost_ret (v := .agg #[.int .i64 0, .slice av 5 cv]) (by simp [results, Try.results98, go_sem, c0, c1]) rfl ⟨_, rfl, ?_, (hx.setc (Nat.le_refl _)).setc (Nat.le_refl _)⟩
    exact ((F.out.set _ _ _ (by omega)).set _ _ _ (by omega)).more (by omega)

end Go.Proofs.Ytfffddhfagibpaa

namespace Go.Proofs.Ytfffddhfagibpaa
open Go.RowKit
set_option linter.unusedVariables false

/-- The block b holds vs from its first cell on, and may be written. -/
structure BoxV (w : World) (b : Nat) (vs : List Value) : Prop where
  cell : ∀ j v, vs[j]? = some v → w.cell? ⟨b, j, none⟩ = some v
  free : ∀ j, j < vs.length → w.frozen? ⟨b, j, none⟩ = false
  lt : b < w.heap.size
theorem BoxV.ext {w w' : World} {b : Nat} {vs : List Value} (h : BoxV w b vs) (e : Ext w w') : BoxV w' b vs :=
  ⟨fun j v hj => e.cell (h.cell j v hj), fun j hj => by
    have hb := Below.block e b h.lt
    have := h.free j hj
    unfold World.frozen? at this ⊢
    rw [hb]
    exact this, Nat.lt_of_lt_of_le h.lt e.size⟩
theorem BoxV.set {w : World} {b : Nat} {vs : List Value} (h : BoxV w b vs) (i : Nat) (x : Value) (hi : i < vs.length) : BoxV (w.setCell ⟨b, i, none⟩ x) b (vs.set i x) := by
  refine ⟨fun j v hj => ?_, fun j hj => ?_, by simpa using h.lt⟩
  · by_cases e : j = i
    · subst e
      rw [List.getElem?_set_self hi] at hj
      have hc : ∃ y, w.cell? ⟨b, j, none⟩ = some y := ⟨_, h.cell j _ (List.getElem?_eq_getElem hi)⟩
      obtain ⟨y, hy⟩ := hc
      rw [← hj]
      exact World.cell?_setCell_same _ _ _ hy
    · rw [List.getElem?_set_ne (fun h => e h.symm)] at hj
      rw [World.cell?_setCell_other _ _ _ _ (fun q => e (by cases q; rfl))]
      exact h.cell j v hj
  · rw [World.frozen?_setCell]
    rw [List.length_set] at hj
    exact h.free j hj
theorem BoxV.other {w : World} {b : Nat} {vs : List Value} (h : BoxV w b vs) (a : Addr) (x : Value) (hne : a.block ≠ b) : BoxV (w.setCell a x) b vs :=
  ⟨fun j v hj => by rw [World.cell?_setCell_other _ _ _ _ (fun q => hne (by rw [q]))]; exact h.cell j v hj, fun j hj => by rw [World.frozen?_setCell]; exact h.free j hj, by simpa using h.lt⟩
theorem boxV_new (w : World) (vs : List Value) (T : TypeId) : BoxV (w.alloc (.cells vs.toArray T)) w.heap.size vs :=
  ⟨fun j v hj => by rw [World.cell?_alloc_new]; simpa using hj, fun j hj => by simp [go_sem], by simp⟩
end Go.Proofs.Ytfffddhfagibpaa

namespace Go.Proofs.Ytfffddhfagibpaa
open Go.RowKit
set_option linter.unusedVariables false

def okA (l : List Int) (k i f t a : Int) : Bool := goodS l && goodB k i f t a

theorem apply_boxes (w : World) (k i f t a : Int) (T T' : TypeId) :
    let W := (w.alloc (.cells #[.int .i64 k, .int .i64 i, .int .i64 f, .int .i64 t, .int .i64 a] T)).alloc (.cells #[.int .i64 0, .int .i64 0] T')
    Ext w W ∧ BoxV W w.heap.size [.int .i64 k, .int .i64 i, .int .i64 f, .int .i64 t, .int .i64 a] ∧ BoxV W (w.heap.size + 1) [.int .i64 0, .int .i64 0] ∧ W.heap.size = w.heap.size + 2 := by
  intro W
  have h1 := boxV_new w [.int .i64 k, .int .i64 i, .int .i64 f, .int .i64 t, .int .i64 a] T
  have h2 := boxV_new (w.alloc (.cells #[.int .i64 k, .int .i64 i, .int .i64 f, .int .i64 t, .int .i64 a] T)) [.int .i64 0, .int .i64 0] T'
  rw [World.size_alloc] at h2
  exact ⟨Ext.alloc (Ext.alloc (Ext.refl _) _) _, h1.ext (Ext.alloc (Ext.refl _) _), h2, by simp [W]⟩

set_option maxRecDepth 100000 in
set_option maxHeartbeats 2000000 in
theorem implApply_no (v : Value) (l : List Int) (k i f t a : Int) (w : World) (hv : Ints w v l) (hno : okA l k i f t a = false) :
    Calls Try.prog 20 #[v, .agg #[.int .i64 k, .int .i64 i, .int .i64 f, .int .i64 t, .int .i64 a]] w (Applied [] 0 0 false w) := by
  obtain ⟨xa, ba, bt, _⟩ := apply_boxes w k i f t a 35 32
  have HC := Lib.hid (implGoodSums_any v l _ (hv.ext xa))
  have XA := Lib.hid xa
  have BA := Lib.hid ba
  have BT := Lib.hid bt
  cases h : goodS l with
  | false =>
    rw [h] at HC
    clear hno hv xa ba bt
    go_enter Try.func20, Try.ntmps20
    go_wp2_with fail
    refine HC.out.mono ?_
    rintro e w1 ⟨rfl, x1⟩
    have hb := BT.out.ext x1
    have d0 := hb.cell 0 _ rfl
    have d1 := hb.cell 1 _ rfl
    have z0 := hb.free 0 (of_decide_eq_true rfl)
    have z1 := hb.free 1 (of_decide_eq_true rfl)
    go_wp2
    have x3 : Ext w ((w1.setCell ⟨w.heap.size + 1, 0, none⟩ (.int .i64 0)).setCell ⟨w.heap.size + 1, 1, none⟩ (.int .i64 0)) := Below.setCell (Below.setCell (XA.out.trans x1) (Nat.le_succ _) _) (Nat.le_succ _) _
    exact bodyPost_ret (v := .tuple #[.slice none 0 0, .agg #[.int .i64 0, .int .i64 0], .bool false]) (by simp [results, Try.results20, go_sem, d0, d1]) rfl ⟨_, rfl, fresh_nil _ _, x3⟩
  | true =>
    have hk : goodB k i f t a = false := by unfold okA at hno; rw [h] at hno; simpa using hno
    rw [h] at HC
    have HK := Lib.hid hk
    clear hno hv xa ba bt hk
    go_enter Try.func20, Try.ntmps20
    go_wp2_with fail
    refine HC.out.mono ?_
    rintro e w1 ⟨rfl, x1⟩
    have hb := BA.out.ext x1
    have a0 := hb.cell 0 _ rfl
    have a1 := hb.cell 1 _ rfl
    have a2 := hb.cell 2 _ rfl
    have a3 := hb.cell 3 _ rfl
    have a4 := hb.cell 4 _ rfl
    go_wp2_with fail
    refine (implGood_any _ _ _ _ _ _).mono ?_
    rintro e w2 ⟨rfl, x2⟩
    rw [HK.out]
    have x12 := x1.trans x2
    clear x1 x2 hb a0 a1 a2 a3 a4
    have hb := BT.out.ext x12
    have d0 := hb.cell 0 _ rfl
    have d1 := hb.cell 1 _ rfl
    have z0 := hb.free 0 (of_decide_eq_true rfl)
    have z1 := hb.free 1 (of_decide_eq_true rfl)
    go_wp2
    have x3 : Ext w ((w2.setCell ⟨w.heap.size + 1, 0, none⟩ (.int .i64 0)).setCell ⟨w.heap.size + 1, 1, none⟩ (.int .i64 0)) := Below.setCell (Below.setCell (XA.out.trans x12) (Nat.le_succ _) _) (Nat.le_succ _) _
    exact bodyPost_ret (v := .tuple #[.slice none 0 0, .agg #[.int .i64 0, .int .i64 0], .bool false]) (by simp [results, Try.results20, go_sem, d0, d1]) rfl ⟨_, rfl, fresh_nil _ _, x3⟩

theorem slice_of {v : Value} {l : List Int} {w : World} (hv : Ints w v l) (h4 : l.length = 4) : ∃ ad cap, v = .slice (some ad) l.length cap := by
  obtain ⟨av, cv, rfl, _, _, hc⟩ := hv
  obtain ⟨b, off, rfl, _⟩ := hc (by omega)
  exact ⟨_, _, rfl⟩

theorem meth_1 (f t a : Int) (w : World) : (method 269 117 (.agg #[.int .i64 f, .int .i64 t, .int .i64 a]) "loop.example/g00698/impl.doTo").run Try.prog w = .ok (134, .agg #[.int .i64 f, .int .i64 t, .int .i64 a]) w := by kernel_rfl
theorem meth_2 (f : Int) (w : World) : (method 269 119 (.agg #[.int .i64 f]) "loop.example/g00698/impl.doTo").run Try.prog w = .ok (135, .agg #[.int .i64 f]) w := by kernel_rfl
theorem meth_0 (w : World) : (method 269 121 (.agg #[]) "loop.example/g00698/impl.doTo").run Try.prog w = .ok (136, .agg #[]) w := by kernel_rfl

set_option maxRecDepth 100000 in
set_option maxHeartbeats 2000000 in
theorem implApply_1 (v : Value) (l : List Int) (i f t a : Int) (w : World) (hv : Ints w v l) (hg : goodS l = true) (hc : goodB 1 i f t a = true) :
    Calls Try.prog 20 #[v, .agg #[.int .i64 1, .int .i64 i, .int .i64 f, .int .i64 t, .int .i64 a]] w (Applied (didL 1 f t a l) (didC 1 f a l) (didS 1 f l) true w) := by
  obtain ⟨xa, ba, bt, _⟩ := apply_boxes w 1 i f t a 35 32
  have HC := Lib.hid (implGoodSums_any v l _ (hv.ext xa))
  have HV := Lib.hid (hv.ext xa)
  have XA := Lib.hid xa
  have BA := Lib.hid ba
  have BT := Lib.hid bt
  have h4 := (goodS_get hg).1
  obtain ⟨ad, cap, rfl⟩ := slice_of hv h4
  rw [hg] at HC
  have HK := Lib.hid hc
  have HG := Lib.hid hg
  have hl : l.length ≤ 1048576 := by omega
  have HL := Lib.hid hl
  clear hv xa ba bt hc hg h4 hl
  go_enter Try.func20, Try.ntmps20
  go_wp2_with fail
  refine HC.out.mono ?_
  rintro e w1 ⟨rfl, x1⟩
  have hb := BA.out.ext x1
  have a0 := hb.cell 0 _ rfl
  have a1 := hb.cell 1 _ rfl
  have a2 := hb.cell 2 _ rfl
  have a3 := hb.cell 3 _ rfl
  have a4 := hb.cell 4 _ rfl
  go_wp2_with fail
  refine (implGood_any _ _ _ _ _ _).mono ?_
  rintro e w2 ⟨rfl, x2⟩
  rw [HK.out]
  have X2 := Lib.hid (x1.trans x2)
  clear x1 x2 hb a0 a1 a2 a3 a4
  go_wp2_with fail
  refine (clone_any ad cap l _ (HV.out.ext X2.out) HL.out).mono ?_
  rintro e w3 ⟨v3, rfl, f3, x3⟩
  have F3 := Lib.hid f3
  have X3 := Lib.hid x3
  have hb := BA.out.ext (X2.out.trans x3)
  have a0 := hb.cell 0 _ rfl
  have a1 := hb.cell 1 _ rfl
  have a2 := hb.cell 2 _ rfl
  have a3 := hb.cell 3 _ rfl
  have a4 := hb.cell 4 _ rfl
  clear f3 x3
  go_wp2_with fail
  refine (deedOf_1 _ _ _ _ _).mono ?_
  rintro e w4 ⟨rfl, x4⟩
  have F4 := Lib.hid (F3.out.ext x4)
  have X4 := Lib.hid (X3.out.trans x4)
  clear x4 hb a0 a1 a2 a3 a4
  have hm := meth_1 f t a
  unfold deedV
  rw [if_pos rfl]
  go_wp2_with fail
  refine (did_1 HG.out HK.out F4.out).mono ?_
  rintro e w5 ⟨rfl, f5, g5⟩
  have XW : Hid (Ext w w2) := Lib.hid (XA.out.trans X2.out)
  have x5 : Ext w2 w5 := Ext.touch X4.out F4.out g5
  have F5 := Lib.hid f5
  have X5 := Lib.hid x5
  clear f5 g5 x5 hm
  obtain ⟨c, hc⟩ : ∃ c, c = didC 1 f a l := ⟨_, rfl⟩
  obtain ⟨s, hs⟩ : ∃ s, s = didS 1 f l := ⟨_, rfl⟩
  rw [← hc, ← hs]
  have HCC := Lib.hid hc
  have HSS := Lib.hid hs
  clear hc hs
  obtain ⟨w6, hw6⟩ : ∃ w6, w6 = w5.alloc (.cells #[.int .i64 c, .int .i64 s] 32) := ⟨_, rfl⟩
  have x6 : Ext w5 w6 := by rw [hw6]; exact Ext.alloc (Ext.refl _) _
  have hn : BoxV w6 w5.heap.size [.int .i64 c, .int .i64 s] := by rw [hw6]; exact boxV_new _ _ _
  have hb := BT.out.ext (X2.out.trans (X5.out.trans x6))
  have d0 := hb.cell 0 _ rfl
  have d1 := hb.cell 1 _ rfl
  have z0 := hb.free 0 (of_decide_eq_true rfl)
  have z1 := hb.free 1 (of_decide_eq_true rfl)
  have e0 := hn.cell 0 _ rfl
  have e1 := hn.cell 1 _ rfl
  have HW6 := Lib.hid hw6
  have X6 := Lib.hid x6
  clear hb hn hw6 x6
  go_upto_region 5 with fail
  rw [← HW6.out]
  go_region
  go_wp2
  have hl2 : w.heap.size + 1 < w2.heap.size := (BT.out.ext X2.out).lt
  have x7 : Ext w (((w6.setCell ⟨w.heap.size + 1, 0, none⟩ (.int .i64 c)).setCell ⟨w.heap.size + 1, 1, none⟩ (.int .i64 s)).drew) := Ext.drew (Below.setCell (Below.setCell (XW.out.trans (X5.out.trans X6.out)) (Nat.le_succ _) _) (Nat.le_succ _) _)
  have f7 := ((((F5.out.ext X6.out).set (w.heap.size + 1) 0 (.int .i64 c) hl2).set (w.heap.size + 1) 1 (.int .i64 s) hl2).ext (Ext.drew (Ext.refl _))).more (Nat.le_of_lt (Nat.lt_of_succ_lt hl2))
  rw [← HCC.out, ← HSS.out]
  exact bodyPost_ret (v := .tuple #[v3, .agg #[.int .i64 c, .int .i64 s], .bool true]) (by simp [results, Try.results20, go_sem, d0, d1]) rfl ⟨_, rfl, f7, x7⟩

set_option maxRecDepth 100000 in
set_option maxHeartbeats 2000000 in
theorem implApply_2 (v : Value) (l : List Int) (i f t a : Int) (w : World) (hv : Ints w v l) (hg : goodS l = true) (hc : goodB 2 i f t a = true) :
    Calls Try.prog 20 #[v, .agg #[.int .i64 2, .int .i64 i, .int .i64 f, .int .i64 t, .int .i64 a]] w (Applied (didL 2 f t a l) (didC 2 f a l) (didS 2 f l) true w) := by
  obtain ⟨xa, ba, bt, _⟩ := apply_boxes w 2 i f t a 35 32
  have HC := Lib.hid (implGoodSums_any v l _ (hv.ext xa))
  have HV := Lib.hid (hv.ext xa)
  have XA := Lib.hid xa
  have BA := Lib.hid ba
  have BT := Lib.hid bt
  have h4 := (goodS_get hg).1
  obtain ⟨ad, cap, rfl⟩ := slice_of hv h4
  rw [hg] at HC
  have HK := Lib.hid hc
  have HG := Lib.hid hg
  have hl : l.length ≤ 1048576 := by omega
  have HL := Lib.hid hl
  clear hv xa ba bt hc hg h4 hl
  go_enter Try.func20, Try.ntmps20
  go_wp2_with fail
  refine HC.out.mono ?_
  rintro e w1 ⟨rfl, x1⟩
  have hb := BA.out.ext x1
  have a0 := hb.cell 0 _ rfl
  have a1 := hb.cell 1 _ rfl
  have a2 := hb.cell 2 _ rfl
  have a3 := hb.cell 3 _ rfl
  have a4 := hb.cell 4 _ rfl
  go_wp2_with fail
  refine (implGood_any _ _ _ _ _ _).mono ?_
  rintro e w2 ⟨rfl, x2⟩
  rw [HK.out]
  have X2 := Lib.hid (x1.trans x2)
  clear x1 x2 hb a0 a1 a2 a3 a4
  go_wp2_with fail
  refine (clone_any ad cap l _ (HV.out.ext X2.out) HL.out).mono ?_
  rintro e w3 ⟨v3, rfl, f3, x3⟩
  have F3 := Lib.hid f3
  have X3 := Lib.hid x3
  have hb := BA.out.ext (X2.out.trans x3)
  have a0 := hb.cell 0 _ rfl
  have a1 := hb.cell 1 _ rfl
  have a2 := hb.cell 2 _ rfl
  have a3 := hb.cell 3 _ rfl
  have a4 := hb.cell 4 _ rfl
  clear f3 x3
  go_wp2_with fail
  refine (deedOf_2 _ _ _ _ _).mono ?_
  rintro e w4 ⟨rfl, x4⟩
  have F4 := Lib.hid (F3.out.ext x4)
  have X4 := Lib.hid (X3.out.trans x4)
  clear x4 hb a0 a1 a2 a3 a4
  have hm := meth_2 f
  unfold deedV
  rw [if_neg (by decide), if_pos rfl]
  go_wp2_with fail
  refine (did_2 HG.out HK.out F4.out).mono ?_
  rintro e w5 ⟨rfl, f5, g5⟩
  have XW : Hid (Ext w w2) := Lib.hid (XA.out.trans X2.out)
  have x5 : Ext w2 w5 := Ext.touch X4.out F4.out g5
  have F5 := Lib.hid f5
  have X5 := Lib.hid x5
  clear f5 g5 x5 hm
  obtain ⟨c, hc⟩ : ∃ c, c = didC 2 f a l := ⟨_, rfl⟩
  obtain ⟨s, hs⟩ : ∃ s, s = didS 2 f l := ⟨_, rfl⟩
  rw [← hc, ← hs]
  have HCC := Lib.hid hc
  have HSS := Lib.hid hs
  clear hc hs
  obtain ⟨w6, hw6⟩ : ∃ w6, w6 = w5.alloc (.cells #[.int .i64 c, .int .i64 s] 32) := ⟨_, rfl⟩
  have x6 : Ext w5 w6 := by rw [hw6]; exact Ext.alloc (Ext.refl _) _
  have hn : BoxV w6 w5.heap.size [.int .i64 c, .int .i64 s] := by rw [hw6]; exact boxV_new _ _ _
  have hb := BT.out.ext (X2.out.trans (X5.out.trans x6))
  have d0 := hb.cell 0 _ rfl
  have d1 := hb.cell 1 _ rfl
  have z0 := hb.free 0 (of_decide_eq_true rfl)
  have z1 := hb.free 1 (of_decide_eq_true rfl)
  have e0 := hn.cell 0 _ rfl
  have e1 := hn.cell 1 _ rfl
  have HW6 := Lib.hid hw6
  have X6 := Lib.hid x6
  clear hb hn hw6 x6
  go_upto_region 5 with fail
  rw [← HW6.out]
  go_region
  go_wp2
  have hl2 : w.heap.size + 1 < w2.heap.size := (BT.out.ext X2.out).lt
  have x7 : Ext w (((w6.setCell ⟨w.heap.size + 1, 0, none⟩ (.int .i64 c)).setCell ⟨w.heap.size + 1, 1, none⟩ (.int .i64 s)).drew) := Ext.drew (Below.setCell (Below.setCell (XW.out.trans (X5.out.trans X6.out)) (Nat.le_succ _) _) (Nat.le_succ _) _)
  have f7 := ((((F5.out.ext X6.out).set (w.heap.size + 1) 0 (.int .i64 c) hl2).set (w.heap.size + 1) 1 (.int .i64 s) hl2).ext (Ext.drew (Ext.refl _))).more (Nat.le_of_lt (Nat.lt_of_succ_lt hl2))
  rw [← HCC.out, ← HSS.out]
  exact bodyPost_ret (v := .tuple #[v3, .agg #[.int .i64 c, .int .i64 s], .bool true]) (by simp [results, Try.results20, go_sem, d0, d1]) rfl ⟨_, rfl, f7, x7⟩

set_option maxRecDepth 100000 in
set_option maxHeartbeats 2000000 in
theorem implApply_0 (v : Value) (l : List Int) (i f t a : Int) (w : World) (hv : Ints w v l) (hg : goodS l = true) (hc : goodB 0 i f t a = true) :
    Calls Try.prog 20 #[v, .agg #[.int .i64 0, .int .i64 i, .int .i64 f, .int .i64 t, .int .i64 a]] w (Applied (didL 0 f t a l) (didC 0 f a l) (didS 0 f l) true w) := by
  obtain ⟨xa, ba, bt, _⟩ := apply_boxes w 0 i f t a 35 32
  have HC := Lib.hid (implGoodSums_any v l _ (hv.ext xa))
  have HV := Lib.hid (hv.ext xa)
  have XA := Lib.hid xa
  have BA := Lib.hid ba
  have BT := Lib.hid bt
  have h4 := (goodS_get hg).1
  obtain ⟨ad, cap, rfl⟩ := slice_of hv h4
  rw [hg] at HC
  have HK := Lib.hid hc
  have HG := Lib.hid hg
  have hl : l.length ≤ 1048576 := by omega
  have HL := Lib.hid hl
  clear hv xa ba bt hc hg h4 hl
  go_enter Try.func20, Try.ntmps20
  go_wp2_with fail
  refine HC.out.mono ?_
  rintro e w1 ⟨rfl, x1⟩
  have hb := BA.out.ext x1
  have a0 := hb.cell 0 _ rfl
  have a1 := hb.cell 1 _ rfl
  have a2 := hb.cell 2 _ rfl
  have a3 := hb.cell 3 _ rfl
  have a4 := hb.cell 4 _ rfl
  go_wp2_with fail
  refine (implGood_any _ _ _ _ _ _).mono ?_
  rintro e w2 ⟨rfl, x2⟩
  rw [HK.out]
  have X2 := Lib.hid (x1.trans x2)
  clear x1 x2 hb a0 a1 a2 a3 a4
  go_wp2_with fail
  refine (clone_any ad cap l _ (HV.out.ext X2.out) HL.out).mono ?_
  rintro e w3 ⟨v3, rfl, f3, x3⟩
  have F3 := Lib.hid f3
  have X3 := Lib.hid x3
  have hb := BA.out.ext (X2.out.trans x3)
  have a0 := hb.cell 0 _ rfl
  have a1 := hb.cell 1 _ rfl
  have a2 := hb.cell 2 _ rfl
  have a3 := hb.cell 3 _ rfl
  have a4 := hb.cell 4 _ rfl
  clear f3 x3
  go_wp2_with fail
  refine (deedOf_0 _ _ _ _ _).mono ?_
  rintro e w4 ⟨rfl, x4⟩
  have F4 := Lib.hid (F3.out.ext x4)
  have X4 := Lib.hid (X3.out.trans x4)
  clear x4 hb a0 a1 a2 a3 a4
  have hm := meth_0
  unfold deedV
  rw [if_neg (by decide), if_neg (by decide)]
  go_wp2_with fail
  refine (did_0 (f := f) (t := t) (a := a) F4.out).mono ?_
  rintro e w5 ⟨rfl, f5, g5⟩
  have XW : Hid (Ext w w2) := Lib.hid (XA.out.trans X2.out)
  have x5 : Ext w2 w5 := Ext.touch X4.out F4.out g5
  have F5 := Lib.hid f5
  have X5 := Lib.hid x5
  clear f5 g5 x5 hm
  obtain ⟨c, hc⟩ : ∃ c, c = didC 0 f a l := ⟨_, rfl⟩
  obtain ⟨s, hs⟩ : ∃ s, s = didS 0 f l := ⟨_, rfl⟩
  rw [← hc, ← hs]
  have HCC := Lib.hid hc
  have HSS := Lib.hid hs
  clear hc hs
  obtain ⟨w6, hw6⟩ : ∃ w6, w6 = w5.alloc (.cells #[.int .i64 c, .int .i64 s] 32) := ⟨_, rfl⟩
  have x6 : Ext w5 w6 := by rw [hw6]; exact Ext.alloc (Ext.refl _) _
  have hn : BoxV w6 w5.heap.size [.int .i64 c, .int .i64 s] := by rw [hw6]; exact boxV_new _ _ _
  have hb := BT.out.ext (X2.out.trans (X5.out.trans x6))
  have d0 := hb.cell 0 _ rfl
  have d1 := hb.cell 1 _ rfl
  have z0 := hb.free 0 (of_decide_eq_true rfl)
  have z1 := hb.free 1 (of_decide_eq_true rfl)
  have e0 := hn.cell 0 _ rfl
  have e1 := hn.cell 1 _ rfl
  have HW6 := Lib.hid hw6
  have X6 := Lib.hid x6
  clear hb hn hw6 x6
  go_upto_region 5 with fail
  rw [← HW6.out]
  go_region
  go_wp2
  have hl2 : w.heap.size + 1 < w2.heap.size := (BT.out.ext X2.out).lt
  have x7 : Ext w (((w6.setCell ⟨w.heap.size + 1, 0, none⟩ (.int .i64 c)).setCell ⟨w.heap.size + 1, 1, none⟩ (.int .i64 s)).drew) := Ext.drew (Below.setCell (Below.setCell (XW.out.trans (X5.out.trans X6.out)) (Nat.le_succ _) _) (Nat.le_succ _) _)
  have f7 := ((((F5.out.ext X6.out).set (w.heap.size + 1) 0 (.int .i64 c) hl2).set (w.heap.size + 1) 1 (.int .i64 s) hl2).ext (Ext.drew (Ext.refl _))).more (Nat.le_of_lt (Nat.lt_of_succ_lt hl2))
  rw [← HCC.out, ← HSS.out]
  exact bodyPost_ret (v := .tuple #[v3, .agg #[.int .i64 c, .int .i64 s], .bool true]) (by simp [results, Try.results20, go_sem, d0, d1]) rfl ⟨_, rfl, f7, x7⟩

theorem implApply_any (v : Value) (l : List Int) (k i f t a : Int) (w : World) (hv : Ints w v l) :
    Calls Try.prog 20 #[v, .agg #[.int .i64 k, .int .i64 i, .int .i64 f, .int .i64 t, .int .i64 a]] w
      (Applied (if okA l k i f t a then didL k f t a l else []) (if okA l k i f t a then didC k f a l else 0) (if okA l k i f t a then didS k f l else 0) (okA l k i f t a) w) := by
  cases h : okA l k i f t a with
  | false => exact implApply_no v l k i f t a w hv h
  | true =>
    have h2 := h
    unfold okA at h2
    obtain ⟨hg, hc⟩ := (Bool.and_eq_true _ _ ▸ h2 : goodS l = true ∧ goodB k i f t a = true)
    rcases good_kind hc with rfl | rfl | rfl
    · exact implApply_0 v l i f t a w hv hg hc
    · exact implApply_1 v l i f t a w hv hg hc
    · exact implApply_2 v l i f t a w hv hg hc

end Go.Proofs.Ytfffddhfagibpaa

namespace Go.Proofs.Ytfffddhfagibpaa
open Go.RowKit
set_option linter.unusedVariables false

set_option maxHeartbeats 1000000 in
theorem l1Own_any (u : Value) (l : List Int) (w : World) (hu : Ints w u l) (hl : l.length ≤ 1048576) :
    Calls Try.prog 82 #[u] w (NewInts l w) := by
  have hb1 : ([] : List Int).length + l.length ≤ 1099511627776 := by simp; omega
  have HB := Lib.hid hb1
  have HU := Lib.hid hu
  clear hb1 hu hl
  go_enter Try.func82, Try.ntmps82
  go_wp2_with (at_builtin; refine wpList_join rfl _ _ rfl w.heap.size _ _ [] l rfl (fresh_lit w [] #[] _ rfl (Nat.le_refl _) (Nat.zero_le _)) rfl (HU.out.ext (Ext.alloc (Ext.refl _) _)) HB.out (size_alloc_le (Nat.le_refl _)) ?_)
  intro v1 w1 f1 g1 k1
  have e1' : Ext w w1 := k1 w (Ext.alloc (Ext.refl _) _) (Nat.le_refl _)
  clear g1 k1
  go_wp2
  go_ret
  exact ⟨_, rfl, by simpa using f1, e1'⟩

end Go.Proofs.Ytfffddhfagibpaa
