/- Contract of the program's depsIn: the first five numbers of a list, 0 where there are fewer. -/
import Derived.Test.YthnoeknalpnadaaAttr
import Derived.Laws.CopyOwn
namespace Go.Proofs.Ythnoeknalpnadaa
open Go.RowKit
set_option linter.unusedVariables false

/-- The number at a place, 0 behind the end. -/
def at0 (l : List Int) (j : Nat) : Int := l[j]?.getD 0
/-- The first five numbers. -/
def five (l : List Int) : Array Value := #[.int .i64 (at0 l 0), .int .i64 (at0 l 1), .int .i64 (at0 l 2), .int .i64 (at0 l 3), .int .i64 (at0 l 4)]
def FiveExt (l : List Int) (w : World) (e : Ending) (w' : World) : Prop := e = .returned (.agg (five l)) ∧ Ext w w'

theorem splice_five (l : List Int) : splice [Value.int .i64 0, .int .i64 0, .int .i64 0, .int .i64 0, .int .i64 0] 0 ((l.map (Value.int .i64)).take 5) = (five l).toList := by
  match l with
  | [] => rfl
  | [a] => rfl
  | [a, b] => rfl
  | [a, b, c] => rfl
  | [a, b, c, d] => rfl
  | a :: b :: c :: d :: e :: r => simp [splice, five, at0]

theorem setc_heap (w : World) (b o : Nat) (v : Value) (k : Nat) (h : k ≠ b) : (w.setCell ⟨b, o, none⟩ v).heap[k]? = w.heap[k]? := Below.heap_setCell _ _ _ k h

set_option maxRecDepth 100000 in
set_option maxHeartbeats 1000000 in
theorem depsIn_any (u : Value) (l : List Int) (w : World) (hv : Ints w u l) :
    Calls Try.prog 147 #[u] w (FiveExt l w) := by
  obtain ⟨au, cu, rfl, hlu, hcap, hcu⟩ := hv
  have hlu' : l.length ≤ 9223372036854775807 := by unfold maxLen at hlu; exact hlu
  have HCU := Lib.hid hcu
  have hcap1 : l.length ≤ cu := hcap.1
  clear hlu hcap hcu
  have hz0 : (w.alloc (.cells #[.int .i64 0, .int .i64 0, .int .i64 0, .int .i64 0, .int .i64 0] 178)).heap.size = w.heap.size + 1 := by simp
  have HZ := Lib.hid hz0
  clear hz0
  go_enter Try.func147, Try.ntmps147
  go_wp2_with (with_reducible refine wpList_copy_splice rfl _ _ 37 37 rfl 3 Try.underlying37 rfl _ _ 5 5 l.length cu rfl rfl (w.heap.size + 1) 0 [Value.int .i64 0, .int .i64 0, .int .i64 0, .int .i64 0, .int .i64 0] 178 ?c1 ((l.take 5).map (Value.int .i64)) ?c2 ?c3 ?c4 ?c5 (w.heap.size + 1) (w.alloc (.cells #[.int .i64 0, .int .i64 0, .int .i64 0, .int .i64 0, .int .i64 0] 178)) ?c6 (Nat.le_refl _) ?_)
  case c1 =>
    have h := heap_alloc_new (w.alloc (.cells #[.int .i64 0, .int .i64 0, .int .i64 0, .int .i64 0, .int .i64 0] 178)) (.cells #[.int .i64 0, .int .i64 0, .int .i64 0, .int .i64 0, .int .i64 0] 178)
    rw [HZ.out] at h
    exact h
  case c2 =>
    rw [List.length_map, List.length_take]
    exact Nat.min_comm _ _
  case c3 =>
    intro hp
    have hp' : 0 < l.length := by
      omega
    obtain ⟨b, off, rfl, hc⟩ := HCU.out hp'
    refine ⟨_, rfl, fun j z hj => ?_⟩
    have hj5 : j < l.length := by
      have := (List.getElem?_eq_some_iff.1 hj).1
      simp at this; omega
    have hx := (Ext.alloc (Ext.alloc (Ext.refl w) (.cells #[.int .i64 0, .int .i64 0, .int .i64 0, .int .i64 0, .int .i64 0] 178)) (.cells #[.int .i64 0, .int .i64 0, .int .i64 0, .int .i64 0, .int .i64 0] 178)).cell (hc j hj5)
    rw [show (⟨b, off, none⟩ : Addr).add j = ⟨b, off + j, none⟩ by simp [Addr.add], hx]
    have hj' : j < ((l.map (Value.int .i64)).take 5).length := (List.getElem?_eq_some_iff.1 hj).1
    rw [List.getElem?_eq_getElem hj'] at hj
    rw [← hj]
    simp [List.getElem?_eq_getElem hj5]
  case c4 =>
    rw [List.length_map, List.length_take]
    simp; omega
  case c5 =>
    intro z hz
    obtain ⟨q, _, rfl⟩ := List.mem_map.1 hz
    rfl
  case c6 => exact (Below.refl _ _).alloc (by rw [HZ.out]; exact Nat.le_refl _) _
  intro w' HG hb
  have hg := HG.out
  rw [splice_five] at hg
  have hcells : ∀ j, w'.cell? ⟨w.heap.size + 1, j, none⟩ = (five l)[j]? := fun j => by rw [cell_of_row w' _ j _ _ _ hg]
  have hx : Ext w w' := (Ext.alloc (Ext.refl w) _).trans (by
    show Below _ _ _
    rw [HZ.out]; exact hb)
  have d0 : w'.cell? ⟨w.heap.size + 1, 0, none⟩ = some (.int .i64 (at0 l 0)) := hcells 0
  have d1 : w'.cell? ⟨w.heap.size + 1, 1, none⟩ = some (.int .i64 (at0 l 1)) := hcells 1
  have d2 : w'.cell? ⟨w.heap.size + 1, 2, none⟩ = some (.int .i64 (at0 l 2)) := hcells 2
  have d3 : w'.cell? ⟨w.heap.size + 1, 3, none⟩ = some (.int .i64 (at0 l 3)) := hcells 3
  have d4 : w'.cell? ⟨w.heap.size + 1, 4, none⟩ = some (.int .i64 (at0 l 4)) := hcells 4
  have hlow : ∀ j, w'.cell? ⟨w.heap.size, j, none⟩ = (w.alloc (.cells #[.int .i64 0, .int .i64 0, .int .i64 0, .int .i64 0, .int .i64 0] 178)).cell? ⟨w.heap.size, j, none⟩ := fun j => hb.cell (p := ⟨w.heap.size, j, none⟩) (Nat.lt_succ_self _)
  have hfro : ∀ j, w'.frozen? ⟨w.heap.size, j, none⟩ = (w.alloc (.cells #[.int .i64 0, .int .i64 0, .int .i64 0, .int .i64 0, .int .i64 0] 178)).frozen? ⟨w.heap.size, j, none⟩ := fun j => hb.frozen (p := ⟨w.heap.size, j, none⟩) (Nat.lt_succ_self _)
  have c0 : w'.cell? ⟨w.heap.size, 0, none⟩ = some (.int .i64 0) := (hlow 0).trans (by go_simp)
  have c1 : w'.cell? ⟨w.heap.size, 1, none⟩ = some (.int .i64 0) := (hlow 1).trans (by go_simp)
  have c2 : w'.cell? ⟨w.heap.size, 2, none⟩ = some (.int .i64 0) := (hlow 2).trans (by go_simp)
  have c3 : w'.cell? ⟨w.heap.size, 3, none⟩ = some (.int .i64 0) := (hlow 3).trans (by go_simp)
  have c4 : w'.cell? ⟨w.heap.size, 4, none⟩ = some (.int .i64 0) := (hlow 4).trans (by go_simp)
  have f0 : w'.frozen? ⟨w.heap.size, 0, none⟩ = false := (hfro 0).trans (by go_simp)
  have f1 : w'.frozen? ⟨w.heap.size, 1, none⟩ = false := (hfro 1).trans (by go_simp)
  have f2 : w'.frozen? ⟨w.heap.size, 2, none⟩ = false := (hfro 2).trans (by go_simp)
  have f3 : w'.frozen? ⟨w.heap.size, 3, none⟩ = false := (hfro 3).trans (by go_simp)
  have f4 : w'.frozen? ⟨w.heap.size, 4, none⟩ = false := (hfro 4).trans (by go_simp)
  clear hcells hlow hfro hb HG hg hlu' hcap1
  go_wp2
  refine bodyPost_ret (v := .agg (five l)) (by simp [results, Try.results147, go_sem, c0, c1, c2, c3, c4, five]) rfl ⟨rfl, ?_⟩
  exact ((((hx.setc (Nat.le_refl _)).setc (Nat.le_refl _)).setc (Nat.le_refl _)).setc (Nat.le_refl _)).setc (Nat.le_refl _)

end Go.Proofs.Ythnoeknalpnadaa
