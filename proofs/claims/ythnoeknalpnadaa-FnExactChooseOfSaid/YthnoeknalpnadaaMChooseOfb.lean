/- Texts of this proof, part b: words, plain facts, contracts. -/
import Derived.Test.YthnoeknalpnadaaMChooseOfa
import Derived.Laws.CopyOwn
import Derived.Laws.AppendOwnNone
import Derived.Laws.OwnMore
import Derived.WalkSpells

namespace Go.Proofs.Ythnoeknalpnadaa
open Go.Joins Go.ChangeShapes Go.WideShapes Go.RowKit Go.Deep
set_option linter.unusedVariables false

set_option maxRecDepth 100000 in
theorem open_rowS {H : Type} {enc : TypeId × Value → H} {w : World} {base : Nat} {held : Bool} {r : Reach} {b0 : Nat} {v : Value} {d : DataW H} {p : List MemPlace}
    (hv : Value.okWide Try.prog w r b0 33 v) (h : DataW.Trod enc Try.prog w base (fun _ => true) held 33 v d p) : ∃ R, Rowz w v R := by
  obtain ⟨a, len, cap, rfl⟩ := okWide_slice Try.underlying33 hv
  obtain ⟨fuel, hf⟩ := h
  exact cells_rows (by simpa [Value.cells] using hf)
end Go.Proofs.Ythnoeknalpnadaa

namespace Go.Proofs.Ythnoeknalpnadaa
open Go.RowKit
set_option linter.unusedVariables false

/-- The number at a place, 0 behind the end. -/
def at0 (l : List Int) (j : Nat) : Int := l[j]?.getD 0
/-- The first five numbers. -/
def five (l : List Int) : Array Value := #[.int .i64 (at0 l 0), .int .i64 (at0 l 1), .int .i64 (at0 l 2), .int .i64 (at0 l 3), .int .i64 (at0 l 4)]
def FiveExt (l : List Int) (w : World) (e : Ending) (w' : World) : Prop := e = .returned (.agg (five l)) ∧ Ext w w'

theorem splice_five (l : List Int) : splice [Value.int .i64 0, .int .i64 0, .int .i64 0, .int .i64 0, .int .i64 0] 0 ((l.map (Value.int .i64)).take 5) = (five l).toList := by
  match l with
  | [] => rfl
  | [a] => rfl
  | [a, b] => rfl
  | [a, b, c] => rfl
  | [a, b, c, d] => rfl
  | a :: b :: c :: d :: e :: r => simp [splice, five, at0]

theorem setc_heap (w : World) (b o : Nat) (v : Value) (k : Nat) (h : k ≠ b) : (w.setCell ⟨b, o, none⟩ v).heap[k]? = w.heap[k]? := Below.heap_setCell _ _ _ k h

set_option maxRecDepth 100000 in
set_option maxHeartbeats 1000000 in
theorem depsIn_any (u : Value) (l : List Int) (w : World) (hv : Ints w u l) :
    Calls Try.prog 147 #[u] w (FiveExt l w) := by
  obtain ⟨au, cu, rfl, hlu, hcap, hcu⟩ := hv
  have hlu' : l.length ≤ 9223372036854775807 := by unfold maxLen at hlu; exact hlu
  have HCU := Lib.hid hcu
  have hcap1 : l.length ≤ cu := hcap.1
  clear hlu hcap hcu
  have hz0 : (w.alloc (.cells #[.int .i64 0, .int .i64 0, .int .i64 0, .int .i64 0, .int .i64 0] 178)).heap.size = w.heap.size + 1 := by simp
  have HZ := Lib.hid hz0
  clear hz0
  go_enter Try.func147, Try.ntmps147
  go_wp2_with (with_reducible refine wpList_copy_splice rfl _ _ 37 37 rfl 3 Try.underlying37 rfl _ _ 5 5 l.length cu rfl rfl (w.heap.size + 1) 0 [Value.int .i64 0, .int .i64 0, .int .i64 0, .int .i64 0, .int .i64 0] 178 ?c1 ((l.take 5).map (Value.int .i64)) ?c2 ?c3 ?c4 ?c5 (w.heap.size + 1) (w.alloc (.cells #[.int .i64 0, .int .i64 0, .int .i64 0, .int .i64 0, .int .i64 0] 178)) ?c6 (Nat.le_refl _) ?_)
  case c1 =>
    have h := heap_alloc_new (w.alloc (.cells #[.int .i64 0, .int .i64 0, .int .i64 0, .int .i64 0, .int .i64 0] 178)) (.cells #[.int .i64 0, .int .i64 0, .int .i64 0, .int .i64 0, .int .i64 0] 178)
    rw [HZ.out] at h
    exact h
  case c2 =>
    rw [List.length_map, List.length_take]
    exact Nat.min_comm _ _
  case c3 =>
    intro hp
    have hp' : 0 < l.length := by
      omega
    obtain ⟨b, off, rfl, hc⟩ := HCU.out hp'
    refine ⟨_, rfl, fun j z hj => ?_⟩
    have hj5 : j < l.length := by
      have := (List.getElem?_eq_some_iff.1 hj).1
      simp at this; omega
    have hx := (Ext.alloc (Ext.alloc (Ext.refl w) (.cells #[.int .i64 0, .int .i64 0, .int .i64 0, .int .i64 0, .int .i64 0] 178)) (.cells #[.int .i64 0, .int .i64 0, .int .i64 0, .int .i64 0, .int .i64 0] 178)).cell (hc j hj5)
    rw [show (⟨b, off, none⟩ : Addr).add j = ⟨b, off + j, none⟩ by simp [Addr.add], hx]
    have hj' : j < ((l.map (Value.int .i64)).take 5).length := (List.getElem?_eq_some_iff.1 hj).1
    rw [List.getElem?_eq_getElem hj'] at hj
    rw [← hj]
    simp [List.getElem?_eq_getElem hj5]
  case c4 =>
    rw [List.length_map, List.length_take]
    simp; omega
  case c5 =>
    intro z hz
    obtain ⟨q, _, rfl⟩ := List.mem_map.1 hz
    rfl
  case c6 => exact (Below.refl _ _).alloc (by rw [HZ.out]; exact Nat.le_refl _) _
  intro w' HG hb
  have hg := HG.out
  rw [splice_five] at hg
  have hcells : ∀ j, w'.cell? ⟨w.heap.size + 1, j, none⟩ = (five l)[j]? := fun j => by rw [cell_of_row w' _ j _ _ _ hg]
  have hx : Ext w w' := (Ext.alloc (Ext.refl w) _).trans (by
    show Below _ _ _
    rw [HZ.out]; exact hb)
  have d0 : w'.cell? ⟨w.heap.size + 1, 0, none⟩ = some (.int .i64 (at0 l 0)) := hcells 0
  have d1 : w'.cell? ⟨w.heap.size + 1, 1, none⟩ = some (.int .i64 (at0 l 1)) := hcells 1
  have d2 : w'.cell? ⟨w.heap.size + 1, 2, none⟩ = some (.int .i64 (at0 l 2)) := hcells 2
  have d3 : w'.cell? ⟨w.heap.size + 1, 3, none⟩ = some (.int .i64 (at0 l 3)) := hcells 3
  have d4 : w'.cell? ⟨w.heap.size + 1, 4, none⟩ = some (.int .i64 (at0 l 4)) := hcells 4
  have hlow : ∀ j, w'.cell? ⟨w.heap.size, j, none⟩ = (w.alloc (.cells #[.int .i64 0, .int .i64 0, .int .i64 0, .int .i64 0, .int .i64 0] 178)).cell? ⟨w.heap.size, j, none⟩ := fun j => hb.cell (p := ⟨w.heap.size, j, none⟩) (Nat.lt_succ_self _)
  have hfro : ∀ j, w'.frozen? ⟨w.heap.size, j, none⟩ = (w.alloc (.cells #[.int .i64 0, .int .i64 0, .int .i64 0, .int .i64 0, .int .i64 0] 178)).frozen? ⟨w.heap.size, j, none⟩ := fun j => hb.frozen (p := ⟨w.heap.size, j, none⟩) (Nat.lt_succ_self _)
  have c0 : w'.cell? ⟨w.heap.size, 0, none⟩ = some (.int .i64 0) := (hlow 0).trans (by go_simp)
  have c1 : w'.cell? ⟨w.heap.size, 1, none⟩ = some (.int .i64 0) := (hlow 1).trans (by go_simp)
  have c2 : w'.cell? ⟨w.heap.size, 2, none⟩ = some (.int .i64 0) := (hlow 2).trans (by go_simp)
  have c3 : w'.cell? ⟨w.heap.size, 3, none⟩ = some (.int .i64 0) := (hlow 3).trans (by go_simp)
  have c4 : w'.cell? ⟨w.heap.size, 4, none⟩ = some (.int .i64 0) := (hlow 4).trans (by go_simp)
  have f0 : w'.frozen? ⟨w.heap.size, 0, none⟩ = false := (hfro 0).trans (by go_simp)
  have f1 : w'.frozen? ⟨w.heap.size, 1, none⟩ = false := (hfro 1).trans (by go_simp)
  have f2 : w'.frozen? ⟨w.heap.size, 2, none⟩ = false := (hfro 2).trans (by go_simp)
  have f3 : w'.frozen? ⟨w.heap.size, 3, none⟩ = false := (hfro 3).trans (by go_simp)
  have f4 : w'.frozen? ⟨w.heap.size, 4, none⟩ = false := (hfro 4).trans (by go_simp)
  clear hcells hlow hfro hb HG hg hlu' hcap1
  go_wp2
  refine bodyPost_ret (v := .agg (five l)) (by simp [results, Try.results147, go_sem, c0, c1, c2, c3, c4, five]) rfl ⟨rfl, ?_⟩
  exact ((((hx.setc (Nat.le_refl _)).setc (Nat.le_refl _)).setc (Nat.le_refl _)).setc (Nat.le_refl _)).setc (Nat.le_refl _)

end Go.Proofs.Ythnoeknalpnadaa

namespace Go.Proofs.Ythnoeknalpnadaa
open Go.RowKit

def isGrp (n : Int) : Bool := n == 3 || n == 5
theorem isGrp_of {n : Int} (h : isGrp n = true) : n = 3 ∨ n = 5 := by simpa [isGrp] using h
theorem isGrp_no {n : Int} (h : isGrp n = false) : (n == 3) = false ∧ (n == 5) = false := by simpa [isGrp] using h

theorem specIsGroup_any (n : Int) (w : World) : Calls Try.prog 75 #[.int .i64 n] w (fun e w' => e = .returned (.bool (isGrp n)) ∧ w = w') := by
  cases h : isGrp n with
  | true =>
    rcases isGrp_of h with rfl | rfl
    all_goals
      clear h
      go_enter Try.func75, Try.ntmps75
      go_wp2
      go_ret
      exact ⟨rfl, rfl⟩
  | false =>
    obtain ⟨h3, h5⟩ := isGrp_no h
    clear h
    go_enter Try.func75, Try.ntmps75
    go_wp2
    go_ret
    exact ⟨rfl, rfl⟩
theorem implIsGroup_any (n : Int) (w : World) : Calls Try.prog 129 #[.int .i64 n] w (fun e w' => e = .returned (.bool (isGrp n)) ∧ w = w') := by
  cases h : isGrp n with
  | true =>
    rcases isGrp_of h with rfl | rfl
    all_goals
      clear h
      go_enter Try.func129, Try.ntmps129
      go_wp2
      go_ret
      exact ⟨rfl, rfl⟩
  | false =>
    obtain ⟨h3, h5⟩ := isGrp_no h
    clear h
    go_enter Try.func129, Try.ntmps129
    go_wp2
    go_ret
    exact ⟨rfl, rfl⟩

end Go.Proofs.Ythnoeknalpnadaa

namespace Go.Proofs.Ythnoeknalpnadaa
open Go.RowKit

theorem l1In_any (n lo hi : Int) (w : World) :
    Calls Try.prog 76 #[.int .i64 n, .int .i64 lo, .int .i64 hi] w fun e w' => e = .returned (.bool (inB n lo hi)) ∧ w = w' := by
  by_cases h1 : lo ≤ n
  · by_cases h2 : n ≤ hi
    · go_enter Try.func76, Try.ntmps76
      go_wp2
      go_ret
      exact ⟨by rw [inB_yes h1 h2]; rfl, rfl⟩
    · go_enter Try.func76, Try.ntmps76
      go_wp2
      go_ret
      exact ⟨by rw [inB_no (by omega)]; rfl, rfl⟩
  · go_enter Try.func76, Try.ntmps76
    go_wp2
    go_ret
    exact ⟨by rw [inB_no (by omega)]; rfl, rfl⟩


end Go.Proofs.Ythnoeknalpnadaa

namespace Go.Proofs.Ythnoeknalpnadaa
open Go.RowKit

set_option maxHeartbeats 400000 in
theorem l1All_any (v : Value) (l : List Int) (lo hi : Int) (w : World) (hv : Ints w v l) :
    Calls Try.prog 127 #[v, .int .i64 lo, .int .i64 hi] w (BoolExt (allIn l lo hi) w) := by
  obtain ⟨av, cv, rfl, hlv, _, hcv⟩ := hv
  unfold maxLen at hlv
  go_enter Try.func127, Try.ntmps127
  go_wp2
  go_loopw [8, 11] (fun _ i wr => ∃ k : Nat, k ≤ l.length ∧ i = .int .i64 k ∧ (l.take k).all (fun x => inB x lo hi) = true ∧ Ext w wr) (fun _ i _ => l.length - (intOf i).toNat)
  case atStart => exact ⟨0, Nat.zero_le _, rfl, by simp, Ext.refl _⟩
  case round =>
    obtain ⟨k, hk, rfl, ht, hx⟩ := hrel
    have HT := Lib.hid ht
    clear ht
    by_cases hlt : k < l.length
    · obtain ⟨bv, ov, rfl, dv⟩ := hcv (by omega)
      have gv := hx.cell (dv k hlt)
      clear hcv dv
      cases hp : inB l[k] lo hi with
      | true =>
        go_wp2_with (go_at_call 76; refine (l1In_any _ _ _ _).mono ?_; rintro e w' ⟨rfl, rfl⟩)
        go_roundw
        case rel => exact ⟨k + 1, by omega, by go_num, all_take_succ hlt _ HT.out (by simpa [hlt] using hp), hx⟩
        case measure => simp [intOf]; omega
      | false =>
        go_wp2_with (go_at_call 76; refine (l1In_any _ _ _ _).mono ?_; rintro e w' ⟨rfl, rfl⟩)
        go_ret
        refine ⟨?_, hx⟩
        have hf : allIn l lo hi = false := all_false_at hlt _ (by simpa [hlt] using hp)
        rw [hf]; rfl
    · obtain rfl : k = l.length := by omega
      go_wp2
      go_ret
      refine ⟨?_, hx⟩
      have hf : allIn l lo hi = true := by have h := HT.out; rwa [List.take_length] at h
      rw [hf]; rfl


end Go.Proofs.Ythnoeknalpnadaa

namespace Go.Proofs.Ythnoeknalpnadaa
open Go.RowKit
set_option linter.unusedVariables false

/-- Whether the numbers fit a group of n. -/
def goodD (n s : Int) (l : List Int) : Bool := inB s 0 999 && decide ((l.length : Int) = n) && allIn l 0 6
def goodA (n s : Int) (l : List Int) : Bool := isGrp n && goodD n s l
theorem goodD_s {n s : Int} {l : List Int} (h : inB s 0 999 = false) : goodD n s l = false := by unfold goodD; rw [h]; rfl
theorem goodD_l {n s : Int} {l : List Int} (h : (l.length : Int) ≠ n) : goodD n s l = false := by unfold goodD; rw [decide_eq_false h, Bool.and_false, Bool.false_and]
theorem goodD_a {n s : Int} {l : List Int} (h : inB s 0 999 = true) (hl : (l.length : Int) = n) : goodD n s l = allIn l 0 6 := by unfold goodD; rw [h, decide_eq_true hl]; rfl
theorem goodD_of {n s : Int} {l : List Int} (h : goodD n s l = true) : inB s 0 999 = true ∧ (l.length : Int) = n ∧ allIn l 0 6 = true := by
  unfold goodD at h
  simp only [Bool.and_eq_true, decide_eq_true_eq] at h
  exact ⟨h.1.1, h.1.2, h.2⟩

set_option maxHeartbeats 1000000 in
theorem l3Attr_any (n s : Int) (u : Value) (l : List Int) (w : World) (hv : Ints w u l) :
    Calls Try.prog 133 #[.int .i64 n, .agg #[.int .i64 s, u]] w (BoolExt (goodD n s l) w) := by
  obtain ⟨au, cu, rfl, hlu, hcap, hcu⟩ := hv
  have HV : Hid (Ints w (.slice au l.length cu) l) := Lib.hid ⟨au, cu, rfl, hlu, hcap, hcu⟩
  clear hlu hcap hcu
  cases hp : inB s 0 999 with
  | false =>
    have HG := Lib.hid (goodD_s (n := n) (l := l) hp)
    have HP := Lib.hid hp
    clear hp
    go_enter Try.func133, Try.ntmps133
    go_wp2_with fail
    refine (l1In_any _ _ _ _).mono ?_
    rintro e w' ⟨rfl, rfl⟩
    rw [HP.out]
    go_wp2
    go_ret
    exact ⟨by rw [HG.out]; rfl, Ext.alloc (Ext.refl _) _⟩
  | true =>
    by_cases hl : (l.length : Int) = n
    · have HG := Lib.hid (goodD_a (n := n) hp hl)
      have HP := Lib.hid hp
      have e0 : ((l.length : Int) == n) = true := by simp [hl]
      clear hp hl
      rw [HG.out]
      go_enter Try.func133, Try.ntmps133
      go_wp2_with fail
      refine (l1In_any _ _ _ _).mono ?_
      rintro e w' ⟨rfl, rfl⟩
      rw [HP.out]
      go_wp2_with fail
      refine (l1All_any _ _ _ _ _ (HV.out.ext (Ext.alloc (Ext.refl _) _))).mono ?_
      rintro e w1 ⟨rfl, x1⟩
      have hx : Ext w w1 := (Ext.alloc (Ext.refl _) _).trans x1
      clear x1
      cases hA : allIn l 0 6
      all_goals
        have HA := Lib.hid hA
        clear hA
        go_wp2
        go_ret
        exact ⟨by rw [HA.out]; rfl, hx⟩
    · have HG := Lib.hid (goodD_l (s := s) hl)
      have HP := Lib.hid hp
      have e0 : ((l.length : Int) == n) = false := by simp [hl]
      clear hp hl
      go_enter Try.func133, Try.ntmps133
      go_wp2_with fail
      refine (l1In_any _ _ _ _).mono ?_
      rintro e w' ⟨rfl, rfl⟩
      rw [HP.out]
      go_wp2
      go_ret
      exact ⟨by rw [HG.out]; rfl, Ext.alloc (Ext.refl _) _⟩

set_option maxHeartbeats 1000000 in
theorem specGoodAttr_any (n s : Int) (u : Value) (l : List Int) (w : World) (hv : Ints w u l) :
    Calls Try.prog 130 #[.int .i64 n, .agg #[.int .i64 s, u]] w (BoolExt (goodA n s l) w) := by
  have hb := attrAt_new w 39 s u
  unfold goodA
  cases hg : isGrp n with
  | false =>
    go_enter Try.func130, Try.ntmps130
    go_wp2_with fail
    refine (specIsGroup_any _ _).mono ?_
    rintro e w' ⟨rfl, rfl⟩
    go_wp2
    go_ret
    exact ⟨rfl, Ext.alloc (Ext.refl _) _⟩
  | true =>
    have HG := Lib.hid hg
    clear hg
    rw [Bool.true_and]
    go_enter Try.func130, Try.ntmps130
    go_wp2_with fail
    refine (specIsGroup_any _ _).mono ?_
    rintro e w' ⟨rfl, rfl⟩
    rw [HG.out]
    go_wp2_with fail
    refine (l3Attr_any _ _ _ l _ (hv.ext (Ext.alloc (Ext.refl _) _))).mono ?_
    rintro e w1 ⟨rfl, x1⟩
    have hx : Ext w w1 := (Ext.alloc (Ext.refl _) _).trans x1
    clear x1 hv hb
    cases hA : goodD n s l
    all_goals
      have HA := Lib.hid hA
      clear hA
      go_wp2
      go_ret
      exact ⟨by rw [HA.out]; rfl, hx⟩

theorem goodA_no {n s : Int} {l : List Int} (h : isGrp n = false) : goodA n s l = false := by unfold goodA; rw [h]; rfl
theorem goodA_d {n s : Int} {l : List Int} (h : goodD n s l = false) : goodA n s l = false := by unfold goodA; rw [h, Bool.and_false]
theorem goodA_of {n s : Int} {l : List Int} (h : goodA n s l = true) : isGrp n = true ∧ goodD n s l = true := by unfold goodA at h; simpa using h

set_option maxHeartbeats 1000000 in
/-- The program's function where the loop is not come to. -/
theorem implGoodAttr_early (n s : Int) (u : Value) (l : List Int) (w : World) (hv : Ints w u l) (h : isGrp n = false ∨ (l.length : Int) ≠ n ∨ s < 0 ∨ 999 < s) :
    Calls Try.prog 132 #[.int .i64 n, .agg #[.int .i64 s, u]] w (BoolExt false w) := by
  obtain ⟨au, cu, rfl, hlu, hcap, hcu⟩ := hv
  clear hlu hcap hcu
  cases hg : isGrp n with
  | false =>
    have HG := Lib.hid hg
    clear hg h
    go_enter Try.func132, Try.ntmps132
    go_wp2_with fail
    refine (implIsGroup_any _ _).mono ?_
    rintro e w' ⟨rfl, rfl⟩
    rw [HG.out]
    go_wp2
    go_ret
    exact ⟨rfl, Ext.alloc (Ext.refl _) _⟩
  | true =>
    have h' : (l.length : Int) ≠ n ∨ s < 0 ∨ 999 < s := by
      rcases h with h | h
      · rw [hg] at h; cases h
      · exact h
    clear h
    have HG := Lib.hid hg
    clear hg
    by_cases hl : (l.length : Int) = n
    · have h2 : s < 0 ∨ 999 < s := by
        rcases h' with h | h
        · exact absurd hl h
        · exact h
      have e0 : ((l.length : Int) != n) = false := by simp [hl]
      clear h' hl
      by_cases hs : s < 0
      · clear h2
        go_enter Try.func132, Try.ntmps132
        go_wp2_with fail
        refine (implIsGroup_any _ _).mono ?_
        rintro e w' ⟨rfl, rfl⟩
        rw [HG.out]
        go_wp2
        go_ret
        exact ⟨rfl, Ext.alloc (Ext.refl _) _⟩
      · have h0 : 0 ≤ s := by omega
        have h1 : 999 < s := by omega
        clear h2 hs
        go_enter Try.func132, Try.ntmps132
        go_wp2_with fail
        refine (implIsGroup_any _ _).mono ?_
        rintro e w' ⟨rfl, rfl⟩
        rw [HG.out]
        go_wp2
        go_ret
        exact ⟨rfl, Ext.alloc (Ext.refl _) _⟩
    · have e0 : ((l.length : Int) != n) = true := by simp [hl]
      clear h' hl
      go_enter Try.func132, Try.ntmps132
      go_wp2_with fail
      refine (implIsGroup_any _ _).mono ?_
      rintro e w' ⟨rfl, rfl⟩
      rw [HG.out]
      go_wp2
      go_ret
      exact ⟨rfl, Ext.alloc (Ext.refl _) _⟩

set_option maxHeartbeats 1000000 in
/-- The program's function where the loop is come to. -/
theorem implGoodAttr_loop (n s : Int) (u : Value) (l : List Int) (w : World) (hv : Ints w u l) (hg : isGrp n = true) (hl : (l.length : Int) = n) (h0 : 0 ≤ s) (h1 : s ≤ 999) :
    Calls Try.prog 132 #[.int .i64 n, .agg #[.int .i64 s, u]] w (BoolExt (allIn l 0 6) w) := by
  obtain ⟨au, cu, rfl, hlu, hcap, hcu⟩ := hv
  have hlen : l.length ≤ 5 := by rcases isGrp_of hg with h | h <;> omega
  have HG := Lib.hid hg
  have e0 : ((l.length : Int) != n) = false := by simp [hl]
  have e1 : (s < 0) = False := by simp; omega
  clear hlu hcap hg hl e1
  go_enter Try.func132, Try.ntmps132
  go_wp2_with fail
  refine (implIsGroup_any _ _).mono ?_
  rintro e w' ⟨rfl, rfl⟩
  rw [HG.out]
  go_wp2
  go_loopw [6, 30] (fun _ i wr => ∃ k : Nat, k ≤ l.length ∧ i = .int .i64 k ∧ Hid ((l.take k).all (fun x => inB x 0 6) = true) ∧ Ext w wr) (fun _ i _ => l.length - (intOf i).toNat)
  case atStart => exact ⟨0, Nat.zero_le _, rfl, Lib.hid (by simp), Ext.alloc (Ext.refl _) _⟩
  case round =>
    obtain ⟨k, hk, rfl, HT, hx⟩ := hrel
    by_cases hlt : k < l.length
    · obtain ⟨bv, ov, rfl, dv⟩ := hcu (by omega)
      have gv := hx.cell (dv k hlt)
      rw [List.getElem?_eq_getElem hlt, Option.getD_some] at gv
      obtain ⟨y, hy⟩ : ∃ y : Int, y = l[k] := ⟨_, rfl⟩
      rw [← hy] at gv
      have HY := Lib.hid hy
      clear hcu dv hy
      by_cases ha : y < 0
      · go_wp2
        go_ret
        refine ⟨?_, hx⟩
        have hf : allIn l 0 6 = false := all_false_at hlt _ (by rw [List.getElem?_eq_getElem hlt, Option.getD_some, ← HY.out]; exact inB_no (by omega))
        rw [hf]; rfl
      · have ha' : 0 ≤ y := by omega
        clear ha
        by_cases hb : 6 < y
        · go_wp2
          go_ret
          refine ⟨?_, hx⟩
          have hf : allIn l 0 6 = false := all_false_at hlt _ (by rw [List.getElem?_eq_getElem hlt, Option.getD_some, ← HY.out]; exact inB_no (by omega))
          rw [hf]; rfl
        · have hb' : y ≤ 6 := by omega
          clear hb
          go_wp2
          go_roundw
          case rel => exact ⟨k + 1, by omega, by go_num, Lib.hid (all_take_succ hlt _ HT.out (by rw [List.getElem?_eq_getElem hlt, Option.getD_some, ← HY.out]; exact inB_yes ha' hb')), hx⟩
          case measure => simp [intOf]; omega
    · obtain rfl : k = l.length := by omega
      go_wp2
      go_ret
      refine ⟨?_, hx⟩
      have hf : allIn l 0 6 = true := by have h := HT.out; rwa [List.take_length] at h
      rw [hf]; rfl

theorem implGoodAttr_any (n s : Int) (u : Value) (l : List Int) (w : World) (hv : Ints w u l) :
    Calls Try.prog 132 #[.int .i64 n, .agg #[.int .i64 s, u]] w (BoolExt (goodA n s l) w) := by
  by_cases h : isGrp n = false ∨ (l.length : Int) ≠ n ∨ s < 0 ∨ 999 < s
  · have e : goodA n s l = false := by
      rcases h with h | h | h
      · exact goodA_no h
      · exact goodA_d (goodD_l h)
      · exact goodA_d (goodD_s (inB_no (by omega)))
    rw [e]
    exact implGoodAttr_early n s u l w hv h
  · have hg : isGrp n = true := by
      cases hh : isGrp n with
      | true => rfl
      | false => exact absurd (Or.inl hh) h
    have hl : (l.length : Int) = n := Classical.byContradiction fun hh => h (.inr (.inl hh))
    have h0 : 0 ≤ s := by
      by_cases hh : s < 0
      · exact absurd (.inr (.inr (.inl hh))) h
      · omega
    have h1 : s ≤ 999 := by
      by_cases hh : 999 < s
      · exact absurd (.inr (.inr (.inr hh))) h
      · omega
    have e : goodA n s l = allIn l 0 6 := by unfold goodA; rw [hg, goodD_a (inB_yes h0 h1) hl]; rfl
    rw [e]
    exact implGoodAttr_loop n s u l w hv hg hl h0 h1

end Go.Proofs.Ythnoeknalpnadaa

namespace Go.Proofs.Ythnoeknalpnadaa
open Go.RowKit

theorem fresh_lit (w : World) (l : List Int) (cs : Array Value) (B : Nat) (hcs : cs.toList = l.map (Value.int .i64)) (hB : B ≤ w.heap.size) (hl : l.length ≤ 1048576) :
    Fresh B (w.alloc (.cells cs 3)) (.slice (some ⟨w.heap.size, 0, none⟩) l.length l.length) l := by
  have h := World.ownsRow_lit (e := 3) (size := 1) w cs l.length hB (by unfold maxLen; omega) (by rw [← Array.length_toList, hcs]; simp)
  unfold Fresh; rw [← hcs]; exact h

theorem fresh_lit2 (w : World) (o : Obj) (l : List Int) (n : Nat) (cs : Array Value) (hcs : cs.toList = l.map (Value.int .i64)) (hn : n = l.length) (hl : l.length ≤ 1048576) :
    Fresh w.heap.size ((w.alloc o).alloc (.cells cs 3)) (.slice (some ⟨w.heap.size + 1, 0, none⟩) n n) l := by
  have e : (w.alloc o).heap.size = w.heap.size + 1 := by simp
  have h := fresh_lit (w.alloc o) l cs w.heap.size hcs (by omega) hl
  rw [e] at h
  rw [hn]; exact h
theorem size_alloc_le {n : Nat} {w : World} {o : Obj} (h : n ≤ w.heap.size) : n ≤ (w.alloc o).heap.size := by
  have := (Ext.alloc (Ext.refl w) o).size
  omega
theorem cell_alloc_one (w : World) (x : Value) (T : TypeId) : (w.alloc (.cells #[x] T)).cell? ⟨w.heap.size, 0, none⟩ = some x := by go_simp

/-- Behind an append: only the slice's own block has turned, and there may be new ones. -/
def Kept (B : Nat) (w w' : World) : Prop := ∀ w0 : World, Ext w0 w → w0.heap.size ≤ B → Ext w0 w'

theorem wpList_push {ops : Array Oper} {rest : List Oper} {o : Oper} {a : Act} {Q : Exit → Act → World → Prop} {w : World} (hgd : o.guard = none) (s x : Operand)
    (ho : o.op = .call { callee := .builtin .append, args := #[s, x], argTypes := #[37, 37] })
    (B : Nat) (v : Value) (l : List Int) (n : Int) (hs : a.eval s = v) (hf : Fresh B w v l) (ad : Addr) (c : Nat) (hx : a.eval x = .slice (some ad) 1 c)
    (hc : w.cell? ad = some (.int .i64 n)) (hl : l.length ≤ 1099511627776) (hB : B ≤ w.heap.size)
    (h : ∀ v' w', Fresh B w' v' (l ++ [n]) → w.grownBy w' v.ownBlock → Kept B w w' → wpList Try.prog ops Q rest (a.put o.dst v') w') : wpList Try.prog ops Q (o :: rest) a w := by
  obtain ⟨i0, hi, hz0, hz1, hz2⟩ := info_parts Try.infoInt
  refine wpList_append_own _ hgd s x 37 ho B 3 i0 (.int .i64 0) 1 8 Try.underlying37 hi hz0 hz1 hz2 rfl (by decide) v l.length _ hs hf ad 1 c [.int .i64 n] hx rfl ?_ ?_ ?_ ?_ hB ?_
  · intro j u hj
    match j, hj with
    | 0, hj => simp at hj; subst hj; simpa [Addr.add] using hc
  · intro u hu; simp at hu; subst hu; rfl
  · unfold maxLen; omega
  · omega
  · intro v' w' ho' hg _
    refine h v' w' ?_ hg (fun w0 hx0 hB0 => Below.grown hx0 hg hx0.size (fun q hq => Nat.le_trans hB0 (World.ownsRow.lt hf q hq).1))
    unfold Fresh
    rw [List.map_append, List.length_append]; exact ho'

theorem wpList_join {ops : Array Oper} {rest : List Oper} {o : Oper} {a : Act} {Q : Exit → Act → World → Prop} {w : World} (hgd : o.guard = none) (s x : Operand)
    (ho : o.op = .call { callee := .builtin .append, args := #[s, x], argTypes := #[37, 37] })
    (B : Nat) (v u : Value) (l r : List Int) (hs : a.eval s = v) (hf : Fresh B w v l) (hx : a.eval x = u) (hu : Ints w u r)
    (hl : l.length + r.length ≤ 1099511627776) (hB : B ≤ w.heap.size)
    (h : ∀ v' w', Fresh B w' v' (l ++ r) → w.grownBy w' v.ownBlock → Kept B w w' → wpList Try.prog ops Q rest (a.put o.dst v') w') : wpList Try.prog ops Q (o :: rest) a w := by
  obtain ⟨i0, hi, hz0, hz1, hz2⟩ := info_parts Try.infoInt
  obtain ⟨au, cu, rfl, hlu, hcap, hcu⟩ := hu
  cases au with
  | none =>
    have hr : r.length = 0 := by have := hcap.1; have := hcap.2.2 rfl; omega
    have hc0 : cu = 0 := hcap.2.2 rfl
    obtain rfl : r = [] := List.eq_nil_of_length_eq_zero hr
    subst hc0
    refine wpList_append_own_none hgd s x 37 ho B 3 i0 1 Try.underlying37 hi v l.length _ hs hf hx (h v w ?_ ?_ ?_)
    · rw [List.append_nil]; exact hf
    · exact ⟨rfl, rfl, rfl, Nat.le_refl _, fun _ _ _ => rfl⟩
    · exact fun w0 hx0 _ => hx0
  | some ad =>
    refine wpList_append_own _ hgd s x 37 ho B 3 i0 (.int .i64 0) 1 8 Try.underlying37 hi hz0 hz1 hz2 rfl (by decide) v l.length _ hs hf ad r.length cu (r.map (.int .i64)) hx (by simp) ?_ ?_ ?_ ?_ hB ?_
    · intro j z hj
      have hlt : j < r.length := by
        have := (List.getElem?_eq_some_iff.1 hj).1
        simpa using this
      obtain ⟨b, off, hab, hcc⟩ := hcu (by omega)
      cases hab
      have hcj := hcc j hlt
      rw [show (⟨b, off, none⟩ : Addr).add j = ⟨b, off + j, none⟩ by simp [Addr.add], hcj]
      simp [List.getElem?_eq_getElem hlt] at hj ⊢
      exact hj
    · intro z hz
      obtain ⟨q, _, rfl⟩ := List.mem_map.1 hz
      rfl
    · unfold maxLen; omega
    · omega
    · intro v' w' ho' hg _
      refine h v' w' ?_ hg (fun w0 hx0 hB0 => Below.grown hx0 hg hx0.size (fun q hq => Nat.le_trans hB0 (World.ownsRow.lt hf q hq).1))
      unfold Fresh
      rw [List.map_append, List.length_append]; exact ho'

end Go.Proofs.Ythnoeknalpnadaa

namespace Go.Proofs.Ythnoeknalpnadaa
open Go.RowKit
set_option linter.unusedVariables false

set_option maxHeartbeats 400000 in
theorem l1Same_any (u v : Value) (l r : List Int) (w : World) (hu : Ints w u l) (hv : Ints w v r) :
    Calls Try.prog 162 #[u, v] w (BoolExt (decide (l = r)) w) := by
  obtain ⟨au, cu, rfl, hlu, _, hcu⟩ := hu
  obtain ⟨av, cv, rfl, hlv, _, hcv⟩ := hv
  unfold maxLen at hlu hlv
  by_cases hl : l.length = r.length
  · have e0 : ((l.length : Int) != (r.length : Int)) = false := by simp [hl]
    have HL := Lib.hid hl
    clear hl
    go_enter Try.func162, Try.ntmps162
    go_wp2
    go_loopw [5, 13] (fun _ i wr => ∃ k : Nat, k ≤ l.length ∧ i = .int .i64 k ∧ l.take k = r.take k ∧ ∃ nq, wr = w.drewN nq) (fun _ i _ => l.length - (intOf i).toNat)
    case atStart => exact ⟨0, Nat.zero_le _, rfl, rfl, 0, rfl⟩
    case round =>
      obtain ⟨k, hk, rfl, ht, nq0, rfl⟩ := hrel
      have HT := Lib.hid ht
      clear ht
      by_cases hlt : k < l.length
      · have hltr : k < r.length := by have := HL.out; omega
        obtain ⟨bu, ou, rfl, du⟩ := hcu (by omega)
        obtain ⟨bv, ov, rfl, dv⟩ := hcv (by omega)
        have gu := du k hlt
        have gv := dv k hltr
        clear hcu hcv du dv
        go_wp2_with fail
        go_quiet (fail)
        by_cases he : l[k] = r[k]
        · have e1 : (l[k] != r[k]) = false := by simp [he]
          have HE := Lib.hid he
          clear he
          go_wp2
          go_roundw
          case rel => exact ⟨k + 1, by omega, by go_num, take_eq_succ hlt hltr HT.out (by simpa [hlt, hltr] using HE.out), _, rfl⟩
          case measure => simp [intOf]; omega
        · have e1 : (l[k] != r[k]) = true := by simp [he]
          have HE := Lib.hid he
          clear he
          go_wp2
          go_ret
          refine ⟨?_, by repeat (first | exact Ext.refl _ | apply Ext.drewN)⟩
          have hne : decide (l = r) = false := decide_eq_false (fun h => HE.out (by subst h; rfl))
          rw [hne]; rfl
      · have hk' : k = l.length := by omega
        subst hk'
        go_wp2
        go_ret
        refine ⟨?_, by repeat (first | exact Ext.refl _ | apply Ext.drewN)⟩
        have he : decide (l = r) = true := by
          have h := HT.out
          rw [List.take_length, HL.out, List.take_length] at h
          exact decide_eq_true h
        rw [he]; rfl
  · have e0 : ((l.length : Int) != (r.length : Int)) = true := by simp; omega
    have HL := Lib.hid hl
    clear hl
    go_enter Try.func162, Try.ntmps162
    go_wp2
    go_ret
    refine ⟨?_, Ext.refl w⟩
    have hne : decide (l = r) = false := decide_eq_false (fun h => HL.out (by rw [h]))
    rw [hne]; rfl

/-- Whether two attributes are the same. -/
def sameA (s t : Int) (l r : List Int) : Bool := s == t && decide (l = r)
theorem box2 (w : World) (s t : Int) (u v : Value) (T : TypeId) : AttrAt ((w.alloc (.cells #[.int .i64 s, u] T)).alloc (.cells #[.int .i64 t, v] T)) w.heap.size s u ∧ AttrAt ((w.alloc (.cells #[.int .i64 s, u] T)).alloc (.cells #[.int .i64 t, v] T)) (w.heap.size + 1) t v := by
  refine ⟨⟨?_, ?_⟩, ?_, ?_⟩ <;> go_simp
theorem Ext.alloc2 (w : World) (a b : Obj) : Ext w ((w.alloc a).alloc b) := ((Ext.refl w).alloc a).alloc b

set_option maxHeartbeats 1000000 in
theorem specSame_any (s t : Int) (u v : Value) (l r : List Int) (w : World) (hu : Ints w u l) (hv : Ints w v r) :
    Calls Try.prog 134 #[.agg #[.int .i64 s, u], .agg #[.int .i64 t, v]] w (BoolExt (sameA s t l r) w) := by
  unfold sameA
  cases hs : (s == t)
  · go_enter Try.func134, Try.ntmps134
    go_wp2
    go_ret
    exact ⟨rfl, Ext.alloc2 _ _ _⟩
  · rw [Bool.true_and]
    go_enter Try.func134, Try.ntmps134
    go_wp2_with fail
    refine (l1Same_any _ _ l r _ (hu.ext (Ext.alloc2 _ _ _)) (hv.ext (Ext.alloc2 _ _ _))).mono ?_
    rintro e w1 ⟨rfl, x1⟩
    have hx : Ext w w1 := (Ext.alloc2 _ _ _).trans x1
    clear x1
    cases hd : decide (l = r)
    all_goals
      have HD := Lib.hid hd
      clear hd
      go_wp2
      go_ret
      exact ⟨by rw [HD.out]; rfl, hx⟩

end Go.Proofs.Ythnoeknalpnadaa

namespace Go.Proofs.Ythnoeknalpnadaa
open Go.RowKit
set_option linter.unusedVariables false

set_option maxHeartbeats 1000000 in
theorem clone_any (ad : Addr) (cap : Nat) (l : List Int) (w : World) (hv : Ints w (.slice (some ad) l.length cap) l) (hl : l.length ≤ 1048576) :
    Calls Try.prog 148 #[.slice (some ad) l.length cap] w (NewInts l w) := by
  have f0 := fresh_lit w [] #[] w.heap.size rfl (Nat.le_refl _) (by simp)
  have F0 := Lib.hid f0
  have HV := Lib.hid (hv.ext (Ext.alloc (Ext.refl w) (.cells #[] 3)))
  clear f0 hv
  have hne : ∀ W : World, (binOp .eql 37 (.slice (some ad) l.length cap) (.slice none 0 0)).run Try.prog W = .ok (.bool false) W := fun W => Lib.run_eql_slice_nil W 37 3 (some ad) l.length cap 0 0 Try.underlying37
  go_enter Try.func148, Try.ntmps148
  go_wp2_with (at_builtin; refine wpList_join rfl _ _ rfl w.heap.size _ _ [] l rfl F0.out rfl HV.out (by simp; omega) (by simp) ?_; intro v' w' hf hg hk)
  go_ret
  exact ⟨v', rfl, hf, hk w (Ext.alloc (Ext.refl _) _) (Nat.le_refl _)⟩

/-- A block of five numbers. -/
def FiveAt (w : World) (b : Nat) (x0 x1 x2 x3 x4 : Int) : Prop := w.heap[b]? = some (.cells #[.int .i64 x0, .int .i64 x1, .int .i64 x2, .int .i64 x3, .int .i64 x4] 178 (0, 0))
theorem five_ints {w : World} {b : Nat} {x0 x1 x2 x3 x4 : Int} (h : FiveAt w b x0 x1 x2 x3 x4) (n : Nat) (hn : n ≤ 5) : Ints w (.slice (some ⟨b, 0, none⟩) (([x0, x1, x2, x3, x4] : List Int).take n).length 5) (([x0, x1, x2, x3, x4] : List Int).take n) := by
  have hl : (([x0, x1, x2, x3, x4] : List Int).take n).length = n := by simp; omega
  refine ⟨some ⟨b, 0, none⟩, 5, rfl, by rw [hl]; unfold maxLen; omega, ⟨by omega, by unfold maxLen; omega, fun h => by cases h⟩, fun _ => ⟨b, 0, rfl, fun j hj => ?_⟩⟩
  rw [hl] at hj
  rw [Nat.zero_add, cell_of_row w b j _ _ _ h]
  have : j = 0 ∨ j = 1 ∨ j = 2 ∨ j = 3 ∨ j = 4 := by omega
  rw [List.getElem?_take, if_pos hj]
  rcases this with rfl | rfl | rfl | rfl | rfl <;> rfl
theorem fiveAt_new (w : World) (x0 x1 x2 x3 x4 : Int) : FiveAt (w.alloc (.cells #[.int .i64 x0, .int .i64 x1, .int .i64 x2, .int .i64 x3, .int .i64 x4] 178)) w.heap.size x0 x1 x2 x3 x4 := heap_alloc_new _ _
theorem size2 (w : World) (a b : Obj) : ((w.alloc a).alloc b).heap.size = w.heap.size + 2 := by simp
theorem open_next (w : World) (T : TypeId) (s : Int) (u : Value) (o : Obj) : OpenAt ((w.alloc (.cells #[.int .i64 s, u] T)).alloc o) w.heap.size s u := (openAt_new w T s u).ext (Ext.alloc (Ext.refl _) _)

set_option maxRecDepth 100000 in
set_option maxHeartbeats 1000000 in
theorem joinAttrs_none (n : Nat) (w : World) (hn : n = 3 ∨ n = 5) :
    Calls Try.prog 90 #[.int .i64 n, .slice none 0 0] w (NewAttr 0 (List.replicate n 0) w) := by
  have hz : (w.alloc (.cells #[.int .i64 0, .slice none 0 0] 39)).heap.size = w.heap.size + 1 := by simp
  have hf := fiveAt_new (w.alloc (.cells #[.int .i64 0, .slice none 0 0] 39)) 0 0 0 0 0
  rw [hz] at hf
  have HI := Lib.hid (five_ints hf)
  have HO := Lib.hid (open_next w 39 0 (.slice none 0 0) (.cells #[.int .i64 0, .int .i64 0, .int .i64 0, .int .i64 0, .int .i64 0] 178))
  clear hz hf
  rcases hn with rfl | rfl
  · go_enter Try.func90, Try.ntmps90
    go_wp2
    refine wp_loop_rounds 1 ?_; rw [rounds_succ]
    go_wp2_with fail
    refine (clone_any ⟨w.heap.size + 1, 0, none⟩ 5 [0, 0, 0] _ (HI.out 3 (by omega)) (by simp)).mono ?_
    rintro e w1 ⟨v, rfl, f1, x1⟩
    obtain ⟨av, cv, rfl⟩ := f1.form
    obtain ⟨⟨c0, c1⟩, z0, z1⟩ := HO.out.ext x1
    have hx := (Ext.alloc2 _ _ _).trans x1
    have F := Lib.hid f1
    clear f1 x1
    go_wp2
    rw [size2] at F
    refine bodyPost_ret (v := .agg #[.int .i64 0, .slice av 3 cv]) (by simp [results, Try.results90, go_sem, c0, c1]) rfl ⟨_, rfl, ?_, (hx.setc (Nat.le_refl _)).setc (Nat.le_refl _)⟩
    exact ((F.out.set _ _ _ (by omega)).set _ _ _ (by omega)).more (by omega)
  · go_enter Try.func90, Try.ntmps90
    go_wp2
    refine wp_loop_rounds 1 ?_; rw [rounds_succ]
    go_wp2_with fail
    refine (clone_any ⟨w.heap.size + 1, 0, none⟩ 5 [0, 0, 0, 0, 0] _ (HI.out 5 (by omega)) (by simp)).mono ?_
    rintro e w1 ⟨v, rfl, f1, x1⟩
    obtain ⟨av, cv, rfl⟩ := f1.form
    obtain ⟨⟨c0, c1⟩, z0, z1⟩ := HO.out.ext x1
    have hx := (Ext.alloc2 _ _ _).trans x1
    have F := Lib.hid f1
    clear f1 x1
    go_wp2
    rw [size2] at F
    refine bodyPost_ret (v := .agg #[.int .i64 0, .slice av 5 cv]) (by simp [results, Try.results90, go_sem, c0, c1]) rfl ⟨_, rfl, ?_, (hx.setc (Nat.le_refl _)).setc (Nat.le_refl _)⟩
    exact ((F.out.set _ _ _ (by omega)).set _ _ _ (by omega)).more (by omega)

end Go.Proofs.Ythnoeknalpnadaa

namespace Go.Proofs.Ythnoeknalpnadaa
open Go.RowKit
set_option linter.unusedVariables false

/-- What NoneAttr tells: so many zeros, none where it is no group. -/
def noneL (n : Int) : List Int := if isGrp n then List.replicate n.toNat 0 else []
theorem noneL_no {n : Int} (h : isGrp n = false) : noneL n = [] := by unfold noneL; rw [h]; rfl
theorem noneL_yes {n : Nat} (h : isGrp n = true) : noneL n = List.replicate n 0 := by unfold noneL; rw [h]; simp
theorem noneL_len (n : Int) : (noneL n).length ≤ 5 := by
  unfold noneL
  cases h : isGrp n
  · simp
  · rcases isGrp_of h with rfl | rfl <;> simp
theorem nat_of_grp {n : Int} (h : isGrp n = true) : ∃ k : Nat, n = (k : Int) ∧ (k = 3 ∨ k = 5) := by
  rcases isGrp_of h with rfl | rfl
  · exact ⟨3, rfl, .inl rfl⟩
  · exact ⟨5, rfl, .inr rfl⟩

theorem make_3 (W : World) : (Instr.makeSlice 37 (.int .i64 3) (.int .i64 3)).run Try.prog W = .ok (.slice (some ⟨W.heap.size, 0, none⟩) 3 3) (W.alloc (.cells #[.int .i64 0, .int .i64 0, .int .i64 0] 3)) := by kernel_rfl
set_option maxRecDepth 100000 in
set_option maxHeartbeats 1000000 in
theorem l3None_3 (w : World) : Calls Try.prog 135 #[.int .i64 3] w (NewAttr 0 [0, 0, 0] w) := by
  have hmk := make_3
  go_enter Try.func135, Try.ntmps135
  go_wp2
  refine bodyPost_ret (v := .agg #[.int .i64 0, .slice (some ⟨w.heap.size + 1, 0, none⟩) 3 3]) (by simp [results, Try.results135, go_sem]) rfl ⟨_, rfl, ?_, ?_⟩
  · exact fresh_lit2 w _ [0, 0, 0] 3 #[.int .i64 0, .int .i64 0, .int .i64 0] rfl rfl (by simp)
  · exact Ext.alloc2 _ _ _

theorem make_5 (W : World) : (Instr.makeSlice 37 (.int .i64 5) (.int .i64 5)).run Try.prog W = .ok (.slice (some ⟨W.heap.size, 0, none⟩) 5 5) (W.alloc (.cells #[.int .i64 0, .int .i64 0, .int .i64 0, .int .i64 0, .int .i64 0] 3)) := by kernel_rfl
set_option maxRecDepth 100000 in
set_option maxHeartbeats 1000000 in
theorem l3None_5 (w : World) : Calls Try.prog 135 #[.int .i64 5] w (NewAttr 0 [0, 0, 0, 0, 0] w) := by
  have hmk := make_5
  go_enter Try.func135, Try.ntmps135
  go_wp2
  refine bodyPost_ret (v := .agg #[.int .i64 0, .slice (some ⟨w.heap.size + 1, 0, none⟩) 5 5]) (by simp [results, Try.results135, go_sem]) rfl ⟨_, rfl, ?_, ?_⟩
  · exact fresh_lit2 w _ [0, 0, 0, 0, 0] 5 #[.int .i64 0, .int .i64 0, .int .i64 0, .int .i64 0, .int .i64 0] rfl rfl (by simp)
  · exact Ext.alloc2 _ _ _

theorem l3None_any (n : Int) (w : World) (h : isGrp n = true) : Calls Try.prog 135 #[.int .i64 n] w (NewAttr 0 (noneL n) w) := by
  rcases isGrp_of h with rfl | rfl
  · exact l3None_3 w
  · exact l3None_5 w
theorem joinNone_any (n : Int) (w : World) (h : isGrp n = true) : Calls Try.prog 90 #[.int .i64 n, .slice none 0 0] w (NewAttr 0 (noneL n) w) := by
  rcases isGrp_of h with rfl | rfl
  · exact joinAttrs_none 3 w (.inl rfl)
  · exact joinAttrs_none 5 w (.inr rfl)

end Go.Proofs.Ythnoeknalpnadaa

namespace Go.Proofs.Ythnoeknalpnadaa
open Go.RowKit
set_option linter.unusedVariables false

def mx (x y : Int) : Int := if x < y then y else x
theorem mx_eq (x y : Int) : (if y > x then y else x) = mx x y := rfl

theorem index5_0 (l : List Int) (W : World) : (Instr.index 178 (.agg (five l)) (.int .i64 0)).run Try.prog W = .ok (.int .i64 (at0 l 0)) W := by kernel_rfl
theorem index5_1 (l : List Int) (W : World) : (Instr.index 178 (.agg (five l)) (.int .i64 1)).run Try.prog W = .ok (.int .i64 (at0 l 1)) W := by kernel_rfl
theorem index5_2 (l : List Int) (W : World) : (Instr.index 178 (.agg (five l)) (.int .i64 2)).run Try.prog W = .ok (.int .i64 (at0 l 2)) W := by kernel_rfl
theorem index5_3 (l : List Int) (W : World) : (Instr.index 178 (.agg (five l)) (.int .i64 3)).run Try.prog W = .ok (.int .i64 (at0 l 3)) W := by kernel_rfl
theorem index5_4 (l : List Int) (W : World) : (Instr.index 178 (.agg (five l)) (.int .i64 4)).run Try.prog W = .ok (.int .i64 (at0 l 4)) W := by kernel_rfl

/-- After j numbers. -/
def mixed (d l : List Int) (j i : Nat) : Int := if i < j then mx (at0 d i) (at0 l i) else at0 d i
def MixAt (w : World) (b : Nat) (d l : List Int) (j : Nat) : Prop := FiveAt w b (mixed d l j 0) (mixed d l j 1) (mixed d l j 2) (mixed d l j 3) (mixed d l j 4)

def sOf (s0 s1 : Int) (k : Nat) : Int := if k = 0 then 0 else if k = 1 then mx 0 s0 else mx (mx 0 s0) s1
def dOf (l0 l1 : List Int) (k : Nat) : List Int := (List.range 5).map fun i => if k = 0 then 0 else if k = 1 then mx 0 (at0 l0 i) else mx (mx 0 (at0 l0 i)) (at0 l1 i)
theorem FiveAt.ext {w w' : World} {b : Nat} {x0 x1 x2 x3 x4 : Int} (h : FiveAt w b x0 x1 x2 x3 x4) (e : Ext w w') : FiveAt w' b x0 x1 x2 x3 x4 := e.block h
theorem five_cases {j : Nat} (h : j < 5) : j = 0 ∨ j = 1 ∨ j = 2 ∨ j = 3 ∨ j = 4 := by omega
theorem index5 (l : List Int) (j : Nat) (h : j < 5) (W : World) : (Instr.index 178 (.agg (five l)) (.int .i64 j)).run Try.prog W = .ok (.int .i64 (at0 l j)) W := by
  rcases five_cases h with rfl | rfl | rfl | rfl | rfl
  · exact index5_0 l W
  · exact index5_1 l W
  · exact index5_2 l W
  · exact index5_3 l W
  · exact index5_4 l W
theorem mix_cell {w : World} {b : Nat} {d l : List Int} {j : Nat} (h : MixAt w b d l j) (hj : j < 5) : w.cell? ⟨b, j, none⟩ = some (.int .i64 (at0 d j)) := by
  rw [cell_of_row w b j _ _ _ h]
  rcases five_cases hj with rfl | rfl | rfl | rfl | rfl <;> simp [mixed]
theorem mix_free {w : World} {b : Nat} {d l : List Int} {j : Nat} (h : MixAt w b d l j) (i : Nat) : w.frozen? ⟨b, i, none⟩ = false := frozen_of_row w b i _ _ h
theorem mix_store {w : World} {b : Nat} {d l : List Int} {j : Nat} (h : MixAt w b d l j) (hj : j < 5) : MixAt (w.setCell ⟨b, j, none⟩ (.int .i64 (mx (at0 d j) (at0 l j)))) b d l (j + 1) := by
  have hs := heap_setCell_same w b j _ _ (.int .i64 (mx (at0 d j) (at0 l j))) h
  unfold MixAt FiveAt
  rw [hs]
  rcases five_cases hj with rfl | rfl | rfl | rfl | rfl <;> simp [mixed]
theorem mix_all0 {w : World} {b : Nat} {l0 l1 : List Int} (h : MixAt w b (dOf l0 l1 0) l0 5) : FiveAt w b (at0 (dOf l0 l1 1) 0) (at0 (dOf l0 l1 1) 1) (at0 (dOf l0 l1 1) 2) (at0 (dOf l0 l1 1) 3) (at0 (dOf l0 l1 1) 4) := h
theorem mix_all1 {w : World} {b : Nat} {l0 l1 : List Int} (h : MixAt w b (dOf l0 l1 1) l1 5) : FiveAt w b (at0 (dOf l0 l1 2) 0) (at0 (dOf l0 l1 2) 1) (at0 (dOf l0 l1 2) 2) (at0 (dOf l0 l1 2) 3) (at0 (dOf l0 l1 2) 4) := h
theorem mix_zero {w : World} {b : Nat} {d l : List Int} (h : FiveAt w b (at0 d 0) (at0 d 1) (at0 d 2) (at0 d 3) (at0 d 4)) : MixAt w b d l 0 := by
  unfold MixAt; simpa [mixed] using h

/-- The attributes lie side by side in a block. -/
def TwoAt (w : World) (b : Nat) (s0 : Int) (u0 : Value) (s1 : Int) (u1 : Value) : Prop :=
  w.cell? ⟨b, 0, none⟩ = some (.int .i64 s0) ∧ w.cell? ⟨b, 1, none⟩ = some u0 ∧ w.cell? ⟨b, 2, none⟩ = some (.int .i64 s1) ∧ w.cell? ⟨b, 3, none⟩ = some u1


set_option maxRecDepth 100000 in
set_option maxHeartbeats 4000000 in
theorem joinAttrs_two (n : Int) (hn : isGrp n = true) (ab : Nat) (s0 s1 : Int) (u0 u1 : Value) (l0 l1 : List Int) (w : World) (h0 : Ints w u0 l0) (h1 : Ints w u1 l1) (hA : TwoAt w ab s0 u0 s1 u1) :
    Calls Try.prog 90 #[.int .i64 n, .slice (some ⟨ab, 0, none⟩) 2 2] w (NewAttr (sOf s0 s1 2) ((dOf l0 l1 2).take n.toNat) w) := by
  have HN := Lib.hid hn
  have HA := Lib.hid hA
  have H0 := Lib.hid h0
  have H1 := Lib.hid h1
  obtain ⟨a0, k0, rfl, _⟩ := h0
  obtain ⟨a1, k1, rfl, _⟩ := h1
  have hlt : ab < w.heap.size := World.block_lt_of_cell? w _ hA.1
  have hmax : ∀ (ts : Array TypeId) (T : TypeId) (W : World) (x y : Int), (Builtin.max_ ts T #[.int .i64 x, .int .i64 y]).run Try.prog W = .ok (.int .i64 (mx x y)) W := fun ts T W x y => by simp only [run_max_int2]; rfl
  clear hn hA
  go_enter Try.func90, Try.ntmps90
  go_wp2
  go_loopw [5, 13] (fun s i wr => ∃ k : Nat, k ≤ 2 ∧ i = .int .i64 k ∧ s = .int .i64 (sOf s0 s1 k) ∧ Hid (FiveAt wr (w.heap.size + 1) (at0 (dOf l0 l1 k) 0) (at0 (dOf l0 l1 k) 1) (at0 (dOf l0 l1 k) 2) (at0 (dOf l0 l1 k) 3) (at0 (dOf l0 l1 k) 4)) ∧ OpenAt wr w.heap.size 0 (.slice none 0 0) ∧ Ext w wr) (fun _ i _ => 2 - (intOf i).toNat)
  case atStart => exact ⟨0, by omega, rfl, rfl, Lib.hid (by
    have hf := fiveAt_new (w.alloc (.cells #[.int .i64 0, .slice none 0 0] 39)) 0 0 0 0 0
    rw [World.size_alloc] at hf
    simpa [dOf, at0] using hf), open_next _ _ _ _ _, Ext.alloc2 _ _ _⟩
  case round =>
    obtain ⟨k, hk, rfl, rfl, hF, hO, hx⟩ := hrel
    have hk' : k = 0 ∨ k = 1 ∨ k = 2 := by omega
    rcases hk' with rfl | rfl | rfl
    · have HO := Lib.hid (hO.ext (Ext.alloc (Ext.refl _) (.cells #[.int .i64 s0, .slice a0 l0.length k0] 39)))
      have HF := Lib.hid (hF.out.ext (Ext.alloc (Ext.refl _) (.cells #[.int .i64 s0, .slice a0 l0.length k0] 39)))
      have HX := Lib.hid (hx.alloc (.cells #[.int .i64 s0, .slice a0 l0.length k0] 39))
      obtain ⟨g0, g1, -, -⟩ := HA.out
      have g0 := hx.cell g0
      have g1 := hx.cell g1
      clear hO hF hx
      go_wp2_with fail
      refine (depsIn_any _ l0 _ (H0.out.ext HX.out)).mono ?_
      rintro e W1 ⟨rfl, x1⟩
      have O1 := Lib.hid (HO.out.ext x1)
      have F1 := Lib.hid (mix_zero (l := l0) (HF.out.ext x1))
      have X1 := Lib.hid (HX.out.trans x1)
      have hidx := index5 l0
      clear x1 g0 g1
      go_wp2
      go_loopw [24] (fun i W => ∃ j : Nat, j ≤ 5 ∧ i = .int .i64 j ∧ Hid (MixAt W (w.heap.size + 1) (dOf l0 l1 0) l0 j) ∧ OpenAt W w.heap.size 0 (.slice none 0 0) ∧ Ext w W) (fun i _ => 5 - (intOf i).toNat)
      case atStart => exact ⟨0, by omega, rfl, F1, O1.out, X1.out⟩
      case round =>
        obtain ⟨j, hj, rfl, hM, hO2, hx2⟩ := hrel
        by_cases hlt5 : j < 5
        · have gD := mix_cell hM.out hlt5
          have gF := mix_free hM.out j
          have hi := hidx j hlt5
          clear hidx
          go_wp2
          go_roundw
          case rel => exact ⟨j + 1, by omega, by go_num, Lib.hid (mix_store hM.out hlt5), by
            obtain ⟨⟨a, b⟩, c, d⟩ := hO2
            refine ⟨⟨?_, ?_⟩, ?_, ?_⟩ <;> go_simp, hx2.setc (Nat.le_succ _)⟩
          case measure => simp [intOf]; omega
        · obtain rfl : j = 5 := by omega
          have HF2 := Lib.hid (mix_all0 hM.out)
          clear hidx
          go_wp2
          go_roundw
          case rel => exact ⟨1, by omega, rfl, rfl, HF2, hO2, hx2⟩
          case measure => simp [intOf]
    · have HO := Lib.hid (hO.ext (Ext.alloc (Ext.refl _) (.cells #[.int .i64 s1, .slice a1 l1.length k1] 39)))
      have HF := Lib.hid (hF.out.ext (Ext.alloc (Ext.refl _) (.cells #[.int .i64 s1, .slice a1 l1.length k1] 39)))
      have HX := Lib.hid (hx.alloc (.cells #[.int .i64 s1, .slice a1 l1.length k1] 39))
      obtain ⟨-, -, g0, g1⟩ := HA.out
      have g0 := hx.cell g0
      have g1 := hx.cell g1
      clear hO hF hx
      go_wp2_with fail
      refine (depsIn_any _ l1 _ (H1.out.ext HX.out)).mono ?_
      rintro e W1 ⟨rfl, x1⟩
      have O1 := Lib.hid (HO.out.ext x1)
      have F1 := Lib.hid (mix_zero (l := l1) (HF.out.ext x1))
      have X1 := Lib.hid (HX.out.trans x1)
      have hidx := index5 l1
      clear x1 g0 g1
      go_wp2
      go_loopw [24] (fun i W => ∃ j : Nat, j ≤ 5 ∧ i = .int .i64 j ∧ Hid (MixAt W (w.heap.size + 1) (dOf l0 l1 1) l1 j) ∧ OpenAt W w.heap.size 0 (.slice none 0 0) ∧ Ext w W) (fun i _ => 5 - (intOf i).toNat)
      case atStart => exact ⟨0, by omega, rfl, F1, O1.out, X1.out⟩
      case round =>
        obtain ⟨j, hj, rfl, hM, hO2, hx2⟩ := hrel
        by_cases hlt5 : j < 5
        · have gD := mix_cell hM.out hlt5
          have gF := mix_free hM.out j
          have hi := hidx j hlt5
          clear hidx
          go_wp2
          go_roundw
          case rel => exact ⟨j + 1, by omega, by go_num, Lib.hid (mix_store hM.out hlt5), by
            obtain ⟨⟨a, b⟩, c, d⟩ := hO2
            refine ⟨⟨?_, ?_⟩, ?_, ?_⟩ <;> go_simp, hx2.setc (Nat.le_succ _)⟩
          case measure => simp [intOf]; omega
        · obtain rfl : j = 5 := by omega
          have HF2 := Lib.hid (mix_all1 hM.out)
          clear hidx
          go_wp2
          go_roundw
          case rel => exact ⟨2, by omega, rfl, rfl, HF2, hO2, hx2⟩
          case measure => simp [intOf]
    · have HI := Lib.hid (five_ints hF.out)
      obtain ⟨⟨c0, c1⟩, z0, z1⟩ := hO
      have HO := Lib.hid (show OpenAt wr w.heap.size 0 (.slice none 0 0) from ⟨⟨c0, c1⟩, z0, z1⟩)
      have hD : w.heap.size + 1 < wr.heap.size := (Array.getElem?_eq_some_iff.1 hF.out).1
      rcases isGrp_of HN.out with rfl | rfl
      · have hT : List.take (3 : Int).toNat (dOf l0 l1 2) = [at0 (dOf l0 l1 2) 0, at0 (dOf l0 l1 2) 1, at0 (dOf l0 l1 2) 2] := rfl
        obtain ⟨x0, hx0⟩ : ∃ x, x = at0 (dOf l0 l1 2) 0 := ⟨_, rfl⟩
        obtain ⟨x1, hx1⟩ : ∃ x, x = at0 (dOf l0 l1 2) 1 := ⟨_, rfl⟩
        obtain ⟨x2, hx2⟩ : ∃ x, x = at0 (dOf l0 l1 2) 2 := ⟨_, rfl⟩
        have hI3 := HI.out 3 (by omega)
        rw [← hx0, ← hx1, ← hx2] at hI3 hT
        have HT := Lib.hid hT
        have HI3 := Lib.hid hI3
        clear hF hT hx0 hx1 hx2 hI3 c0 c1 z0 z1
        go_wp2_with fail
        refine (clone_any ⟨w.heap.size + 1, 0, none⟩ 5 [x0, x1, x2] _ HI3.out (by simp)).mono ?_
        rintro e W1 ⟨v, rfl, f1, y1⟩
        obtain ⟨av, cv, rfl⟩ := f1.form
        obtain ⟨⟨c0, c1⟩, z0, z1⟩ := HO.out.ext y1
        have hy := hx.trans y1
        have F := Lib.hid f1
        clear f1 y1
        go_wp2
        refine bodyPost_ret (v := .agg #[.int .i64 (sOf s0 s1 2), .slice av 3 cv]) (by simp [results, Try.results90, go_sem, c0, c1]) rfl ⟨_, rfl, ?_, (hy.setc (Nat.le_refl _)).setc (Nat.le_refl _)⟩
        have hB : w.heap.size < wr.heap.size := by omega
        have F2 := (F.out.set w.heap.size 0 (.int .i64 (sOf s0 s1 2)) hB).set w.heap.size 1 (.slice av 3 cv) hB
        rw [HT.out]
        exact F2.more (Nat.le_of_lt hB)
      · have hT : List.take (5 : Int).toNat (dOf l0 l1 2) = [at0 (dOf l0 l1 2) 0, at0 (dOf l0 l1 2) 1, at0 (dOf l0 l1 2) 2, at0 (dOf l0 l1 2) 3, at0 (dOf l0 l1 2) 4] := rfl
        obtain ⟨x0, hx0⟩ : ∃ x, x = at0 (dOf l0 l1 2) 0 := ⟨_, rfl⟩
        obtain ⟨x1, hx1⟩ : ∃ x, x = at0 (dOf l0 l1 2) 1 := ⟨_, rfl⟩
        obtain ⟨x2, hx2⟩ : ∃ x, x = at0 (dOf l0 l1 2) 2 := ⟨_, rfl⟩
        obtain ⟨x3, hx3⟩ : ∃ x, x = at0 (dOf l0 l1 2) 3 := ⟨_, rfl⟩
        obtain ⟨x4, hx4⟩ : ∃ x, x = at0 (dOf l0 l1 2) 4 := ⟨_, rfl⟩
        have hI3 := HI.out 5 (by omega)
        rw [← hx0, ← hx1, ← hx2, ← hx3, ← hx4] at hI3 hT
        have HT := Lib.hid hT
        have HI3 := Lib.hid hI3
        clear hF hT hx0 hx1 hx2 hx3 hx4 hI3 c0 c1 z0 z1
        go_wp2_with fail
        refine (clone_any ⟨w.heap.size + 1, 0, none⟩ 5 [x0, x1, x2, x3, x4] _ HI3.out (by simp)).mono ?_
        rintro e W1 ⟨v, rfl, f1, y1⟩
        obtain ⟨av, cv, rfl⟩ := f1.form
        obtain ⟨⟨c0, c1⟩, z0, z1⟩ := HO.out.ext y1
        have hy := hx.trans y1
        have F := Lib.hid f1
        clear f1 y1
        go_wp2
        refine bodyPost_ret (v := .agg #[.int .i64 (sOf s0 s1 2), .slice av 5 cv]) (by simp [results, Try.results90, go_sem, c0, c1]) rfl ⟨_, rfl, ?_, (hy.setc (Nat.le_refl _)).setc (Nat.le_refl _)⟩
        have hB : w.heap.size < wr.heap.size := by omega
        have F2 := (F.out.set w.heap.size 0 (.int .i64 (sOf s0 s1 2)) hB).set w.heap.size 1 (.slice av 5 cv) hB
        rw [HT.out]
        exact F2.more (Nat.le_of_lt hB)

end Go.Proofs.Ythnoeknalpnadaa
