/- Contracts of the program's joinAttrs, and of the copy of a slice of integers. -/
import Derived.Test.YthnoeknalpnadaaDepsIn
import Derived.Test.YthnoeknalpnadaaGoodAttr
import Derived.Test.YthnoeknalpnadaaPush
import Derived.Test.YthnoeknalpnadaaSame
import Derived.WalkSpells
namespace Go.Proofs.Ythnoeknalpnadaa
open Go.RowKit
set_option linter.unusedVariables false

set_option maxHeartbeats 1000000 in
theorem clone_any (ad : Addr) (cap : Nat) (l : List Int) (w : World) (hv : Ints w (.slice (some ad) l.length cap) l) (hl : l.length ≤ 1048576) :
    Calls Try.prog 148 #[.slice (some ad) l.length cap] w (NewInts l w) := by
  have f0 := fresh_lit w [] #[] w.heap.size rfl (Nat.le_refl _) (by simp)
  have F0 := Lib.hid f0
  have HV := Lib.hid (hv.ext (Ext.alloc (Ext.refl w) (.cells #[] 3)))
  clear f0 hv
  have hne : ∀ W : World, (binOp .eql 37 (.slice (some ad) l.length cap) (.slice none 0 0)).run Try.prog W = .ok (.bool false) W := fun W => Lib.run_eql_slice_nil W 37 3 (some ad) l.length cap 0 0 Try.underlying37
  go_enter Try.func148, Try.ntmps148
  go_wp2_with (at_builtin; refine wpList_join rfl _ _ rfl w.heap.size _ _ [] l rfl F0.out rfl HV.out (by simp; omega) (by simp) ?_; intro v' w' hf hg hk)
  go_ret
  exact ⟨v', rfl, hf, hk w (Ext.alloc (Ext.refl _) _) (Nat.le_refl _)⟩

/-- A block of five numbers. -/
def FiveAt (w : World) (b : Nat) (x0 x1 x2 x3 x4 : Int) : Prop := w.heap[b]? = some (.cells #[.int .i64 x0, .int .i64 x1, .int .i64 x2, .int .i64 x3, .int .i64 x4] 178 (0, 0))
theorem five_ints {w : World} {b : Nat} {x0 x1 x2 x3 x4 : Int} (h : FiveAt w b x0 x1 x2 x3 x4) (n : Nat) (hn : n ≤ 5) : Ints w (.slice (some ⟨b, 0, none⟩) (([x0, x1, x2, x3, x4] : List Int).take n).length 5) (([x0, x1, x2, x3, x4] : List Int).take n) := by
  have hl : (([x0, x1, x2, x3, x4] : List Int).take n).length = n := by simp; omega
  refine ⟨some ⟨b, 0, none⟩, 5, rfl, by rw [hl]; unfold maxLen; omega, ⟨by omega, by unfold maxLen; omega, fun h => by cases h⟩, fun _ => ⟨b, 0, rfl, fun j hj => ?_⟩⟩
  rw [hl] at hj
  rw [Nat.zero_add, cell_of_row w b j _ _ _ h]
  have : j = 0 ∨ j = 1 ∨ j = 2 ∨ j = 3 ∨ j = 4 := by omega
  rw [List.getElem?_take, if_pos hj]
  rcases this with rfl | rfl | rfl | rfl | rfl <;> rfl
theorem fiveAt_new (w : World) (x0 x1 x2 x3 x4 : Int) : FiveAt (w.alloc (.cells #[.int .i64 x0, .int .i64 x1, .int .i64 x2, .int .i64 x3, .int .i64 x4] 178)) w.heap.size x0 x1 x2 x3 x4 := heap_alloc_new _ _
theorem size2 (w : World) (a b : Obj) : ((w.alloc a).alloc b).heap.size = w.heap.size + 2 := by simp
theorem open_next (w : World) (T : TypeId) (s : Int) (u : Value) (o : Obj) : OpenAt ((w.alloc (.cells #[.int .i64 s, u] T)).alloc o) w.heap.size s u := (openAt_new w T s u).ext (Ext.alloc (Ext.refl _) _)

set_option maxRecDepth 100000 in
set_option maxHeartbeats 1000000 in
theorem joinAttrs_none (n : Nat) (w : World) (hn : n = 3 ∨ n = 5) :
    Calls Try.prog 90 #[.int .i64 n, .slice none 0 0] w (NewAttr 0 (List.replicate n 0) w) := by
  have hz : (w.alloc (.cells #[.int .i64 0, .slice none 0 0] 39)).heap.size = w.heap.size + 1 := by simp
  have hf := fiveAt_new (w.alloc (.cells #[.int .i64 0, .slice none 0 0] 39)) 0 0 0 0 0
  rw [hz] at hf
  have HI := Lib.hid (five_ints hf)
  have HO := Lib.hid (open_next w 39 0 (.slice none 0 0) (.cells #[.int .i64 0, .int .i64 0, .int .i64 0, .int .i64 0, .int .i64 0] 178))
  clear hz hf
  rcases hn with rfl | rfl
  · go_enter Try.func90, Try.ntmps90
    go_wp2
    refine wp_loop_rounds 1 ?_; rw [rounds_succ]
    go_wp2_with fail
    refine (clone_any ⟨w.heap.size + 1, 0, none⟩ 5 [0, 0, 0] _ (HI.out 3 (by omega)) (by simp)).mono ?_
    rintro e w1 ⟨v, rfl, f1, x1⟩
    obtain ⟨av, cv, rfl⟩ := f1.form
    obtain ⟨⟨c0, c1⟩, z0, z1⟩ := HO.out.ext x1
    have hx := (Ext.alloc2 _ _ _).trans x1
    have F := Lib.hid f1
    clear f1 x1
    go_wp2
    rw [size2] at F
    refine bodyPost_ret (v := .agg #[.int .i64 0, .slice av 3 cv]) (by simp [results, Try.results90, go_sem, c0, c1]) rfl ⟨_, rfl, ?_, (hx.setc (Nat.le_refl _)).setc (Nat.le_refl _)⟩
    exact ((F.out.set _ _ _ (by omega)).set _ _ _ (by omega)).more (by omega)
  · go_enter Try.func90, Try.ntmps90
    go_wp2
    refine wp_loop_rounds 1 ?_; rw [rounds_succ]
    go_wp2_with fail
    refine (clone_any ⟨w.heap.size + 1, 0, none⟩ 5 [0, 0, 0, 0, 0] _ (HI.out 5 (by omega)) (by simp)).mono ?_
    rintro e w1 ⟨v, rfl, f1, x1⟩
    obtain ⟨av, cv, rfl⟩ := f1.form
    obtain ⟨⟨c0, c1⟩, z0, z1⟩ := HO.out.ext x1
    have hx := (Ext.alloc2 _ _ _).trans x1
    have F := Lib.hid f1
    clear f1 x1
    go_wp2
    rw [size2] at F
    refine bodyPost_ret (v := .agg #[.int .i64 0, .slice av 5 cv]) (by simp [results, Try.results90, go_sem, c0, c1]) rfl ⟨_, rfl, ?_, (hx.setc (Nat.le_refl _)).setc (Nat.le_refl _)⟩
    exact ((F.out.set _ _ _ (by omega)).set _ _ _ (by omega)).more (by omega)

end Go.Proofs.Ythnoeknalpnadaa
