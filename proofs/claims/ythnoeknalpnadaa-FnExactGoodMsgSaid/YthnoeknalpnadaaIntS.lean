/- Contracts of the laws' helpers over slices of integers (compare, copy, mark, ask the marks), each by a walk of its own. -/
import Derived.Test.YthnoeknalpnadaaWords
namespace Go.Proofs.Ythnoeknalpnadaa
open Go.RowKit

set_option maxHeartbeats 400000 in
theorem eqIntS_any (u v : Value) (l r : List Int) (w : World) (hu : Ints w u l) (hv : Ints w v r) :
    Calls Try.prog 63 #[u, v] w (BoolExt (decide (l = r)) w) := by
  obtain ⟨au, cu, rfl, hlu, _, hcu⟩ := hu
  obtain ⟨av, cv, rfl, hlv, _, hcv⟩ := hv
  unfold maxLen at hlu hlv
  by_cases hl : l.length = r.length
  · have e0 : ((l.length : Int) != (r.length : Int)) = false := by simp [hl]
    have HL := Lib.hid hl
    clear hl
    go_enter Try.func63, Try.ntmps63
    go_wp2
    go_loopw [5] (fun i wr => ∃ k : Nat, k ≤ l.length ∧ i = .int .i64 k ∧ l.take k = r.take k ∧ ∃ nq, wr = w.drewN nq) (fun i _ => l.length - (intOf i).toNat)
    case atStart => exact ⟨0, Nat.zero_le _, rfl, rfl, 0, rfl⟩
    case round =>
      obtain ⟨k, hk, rfl, ht, nq0, rfl⟩ := hrel
      have HT := Lib.hid ht
      clear ht
      by_cases hlt : k < l.length
      · have hltr : k < r.length := by have := HL.out; omega
        obtain ⟨bu, ou, rfl, du⟩ := hcu (by omega)
        obtain ⟨bv, ov, rfl, dv⟩ := hcv (by omega)
        have gu := du k hlt
        have gv := dv k hltr
        clear hcu hcv du dv
        go_wp2_with fail
        go_quiet (fail)
        by_cases he : l[k] = r[k]
        · have e1 : (l[k] != r[k]) = false := by simp [he]
          have HE := Lib.hid he
          clear he
          go_wp2
          go_roundw
          case rel => exact ⟨k + 1, by omega, by go_num, take_eq_succ hlt hltr HT.out (by simpa [hlt, hltr] using HE.out), _, rfl⟩
          case measure => simp [intOf]; omega
        · have e1 : (l[k] != r[k]) = true := by simp [he]
          have HE := Lib.hid he
          clear he
          go_wp2
          go_ret
          refine ⟨?_, by repeat (first | exact Ext.refl _ | apply Ext.drewN)⟩
          have hne : decide (l = r) = false := decide_eq_false (fun h => HE.out (by subst h; rfl))
          rw [hne]; rfl
      · have hk' : k = l.length := by omega
        subst hk'
        go_wp2
        go_ret
        refine ⟨?_, by repeat (first | exact Ext.refl _ | apply Ext.drewN)⟩
        have he : decide (l = r) = true := by
          have h := HT.out
          rw [List.take_length, HL.out, List.take_length] at h
          exact decide_eq_true h
        rw [he]; rfl
  · have e0 : ((l.length : Int) != (r.length : Int)) = true := by simp; omega
    have HL := Lib.hid hl
    clear hl
    go_enter Try.func63, Try.ntmps63
    go_wp2
    go_ret
    refine ⟨?_, Ext.refl w⟩
    have hne : decide (l = r) = false := decide_eq_false (fun h => HL.out (by rw [h]))
    rw [hne]; rfl

/-- After k rounds of the copy: the first k cells are those of l, the others 0. -/
def half (l : List Int) (k : Nat) : List Int := l.take k ++ List.replicate (l.length - k) 0
theorem half_length (l : List Int) (k : Nat) (h : k ≤ l.length) : (half l k).length = l.length := by simp [half]; omega
theorem half_zero (l : List Int) : half l 0 = List.replicate l.length 0 := by simp [half]
theorem half_all (l : List Int) : half l l.length = l := by simp [half]
theorem half_succ (l : List Int) (k : Nat) (h : k < l.length) : (half l k).set k l[k] = half l (k + 1) := by
  unfold half
  rw [List.set_append_right _ _ (by simp; omega)]
  have e1 : k - (l.take k).length = 0 := by simp; omega
  rw [e1, List.take_add_one, List.getElem?_eq_getElem h]
  have e2 : l.length - k = (l.length - (k + 1)) + 1 := by omega
  rw [e2, List.replicate_succ, List.set_cons_zero]
  simp only [Option.toList, List.append_assoc, List.cons_append, List.nil_append]

set_option maxHeartbeats 400000 in
theorem toIntS_any (u : Value) (l : List Int) (w : World) (hu : Ints w u l) (hs : l.length ≤ 35184372088831) :
    Calls Try.prog 61 #[u] w (NewInts l w) := by
  obtain ⟨au, cu, rfl, hlu, _, hcu⟩ := hu
  unfold maxLen at hlu
  obtain ⟨i0, hi, hz0, hz1, hz2⟩ := info_parts Try.infoInt
  have HI2 := Lib.hid hz2
  go_enter Try.func61, Try.ntmps61
  go_wp2_with (at_make; refine wpList_make_full _ rfl _ _ 37 rfl w.heap.size 3 i0 (.int .i64 0) 1 Try.underlying37 hi hz0 hz1 _ _ _ _ l.length rfl rfl rfl rfl ?c1 ?c2 ?c3 ?_)
  case c1 => rw [hz2]; omega
  case c2 => unfold maxLen; omega
  case c3 => simp
  intro w1 ho1 hg1
  have hx1 : Ext w w1 := ext_of_grown hg1
  have ho : w1.ownsRow w.heap.size 3 1 (.slice (some ⟨w.heap.size, 0, none⟩) l.length l.length) l.length ((half l 0).map (Value.int .i64)) := by
    rw [toList_madeCells_one] at ho1
    rw [half_zero, List.map_replicate]; exact ho1
  clear ho1 hg1 hz0 hz1 hz2 hi HI2
  go_wp2
  go_loopw [4] (fun i wr => ∃ k : Nat, k ≤ l.length ∧ i = .int .i64 k ∧ wr.ownsRow w.heap.size 3 1 (.slice (some ⟨w.heap.size, 0, none⟩) l.length l.length) l.length ((half l k).map (Value.int .i64)) ∧ Ext w wr) (fun i _ => l.length - (intOf i).toNat)
  case atStart => exact ⟨0, Nat.zero_le _, rfl, ho, hx1⟩
  case round =>
    clear ho hx1
    obtain ⟨k, hk, rfl, ho, hx⟩ := hrel
    by_cases hlt : k < l.length
    · obtain ⟨bu, ou, rfl, du⟩ := hcu (by omega)
      have gu := hx.cell (du k hlt)
      have go := (ho.cellAt k (by omega)).trans (show _ = some (Value.int .i64 ((half l k)[k]?.getD 0)) by
        have hh := half_length l k hk
        simp [List.getElem?_eq_getElem (show k < (half l k).length by omega)])
      have gf := ho.frozenAt k
      have hne : w.heap.size ≠ bu := by
        have := World.block_lt_of_cell? w _ (du k hlt)
        simp only at this; omega
      clear hcu du
      go_wp2
      have hs1 := (ho.stored k (Value.int .i64 l[k])).1
      rw [← List.map_set, half_succ l k hlt] at hs1
      go_roundw
      case rel => exact ⟨k + 1, by omega, by go_num, hs1, Below.setCell hx (Nat.le_refl _) _⟩
      case measure => simp [intOf]; omega
    · obtain rfl : k = l.length := by omega
      go_wp2
      go_ret
      rw [half_all] at ho
      exact ⟨_, rfl, ho, hx⟩

/-- The marks k, k + 1, .. -/
def marks (k : Int) (n : Nat) : List Int := (List.range n).map fun (j : Nat) => k + (j : Int)
theorem marks_length (k : Int) (n : Nat) : (marks k n).length = n := by simp [marks]
theorem marks_get (k : Int) (n j : Nat) (h : j < n) : (marks k n)[j]? = some (k + (j : Int)) := by simp [marks, h]

/-- After j marks: the first j cells are marks, the others as they were. -/
def marked (k : Int) (l : List Int) (j : Nat) : List Int := marks k j ++ l.drop j
theorem marked_length (k : Int) (l : List Int) (j : Nat) (h : j ≤ l.length) : (marked k l j).length = l.length := by simp [marked, marks_length]; omega
theorem marked_succ (k : Int) (l : List Int) (j : Nat) (h : j < l.length) : (marked k l j).set j (k + (j : Int)) = marked k l (j + 1) := by
  unfold marked
  rw [List.set_append_right _ _ (by rw [marks_length]; omega), marks_length, Nat.sub_self]
  rw [List.drop_eq_getElem_cons h, List.set_cons_zero]
  simp [marks, List.range_succ]
theorem marked_all (k : Int) (l : List Int) : marked k l l.length = marks k l.length := by simp [marked]
theorem marked_zero (k : Int) (l : List Int) : marked k l 0 = l := by simp [marked, marks]

/-- Only the block of v has turned, and there may be new ones. -/
def Touched (v : Value) (w w' : World) : Prop := w.grownBy w' v.ownBlock

/-- v now bears the marks, the number behind the last comes back. -/
def Marks (B : Nat) (k : Int) (v : Value) (l : List Int) (w : World) (e : Ending) (w' : World) : Prop :=
  e = .returned (.int .i64 (k + l.length)) ∧ Fresh B w' v (marks k l.length) ∧ Touched v w w'

set_option maxHeartbeats 400000 in
theorem markIntS_any (B : Nat) (v : Value) (l : List Int) (k : Int) (w : World) (hv : Fresh B w v l) (h0 : 0 ≤ k) (h1 : k + l.length ≤ 4611686018427387904) :
    Calls Try.prog 64 #[v, .int .i64 k] w (Marks B k v l w) := by
  have hlen : l.length ≤ 4611686018427387904 := by omega
  rcases hv.2 with ⟨rfl, hn⟩ | ⟨g, cap, cur, rfl, hb, hg, hnc, hcm, hcs, htake⟩
  · obtain rfl : l = [] := List.eq_nil_of_length_eq_zero hn
    go_enter Try.func64, Try.ntmps64
    go_wp2
    refine wp_loop_rounds 1 ?_; rw [rounds_succ]
    go_wp2
    go_ret
    exact ⟨by simp, by simpa [marks] using hv, World.grownBy.refl _ _⟩
  · clear hg hnc hcm hcs htake cur hb
    go_enter Try.func64, Try.ntmps64
    go_wp2
    go_loopw [1, 5] (fun m i wr => ∃ j : Nat, j ≤ l.length ∧ i = .int .i64 j ∧ m = .int .i64 (k + j) ∧ wr.ownsRow B 3 1 (.slice (some ⟨g, 0, none⟩) l.length cap) l.length ((marked k l j).map (Value.int .i64)) ∧ w.grownBy wr (some g)) (fun _ i _ => l.length - (intOf i).toNat)
    case atStart => exact ⟨0, Nat.zero_le _, rfl, by simp, by rw [marked_zero]; exact hv, World.grownBy.refl _ _⟩
    case round =>
      clear hv
      obtain ⟨j, hj, rfl, rfl, ho, hx⟩ := hrel
      by_cases hlt : j < l.length
      · have hml := marked_length k l j hj
        have go := (ho.cellAt j (by omega)).trans (show _ = some (Value.int .i64 ((marked k l j)[j]?.getD 0)) by
          simp [List.getElem?_eq_getElem (show j < (marked k l j).length by omega)])
        have gf := ho.frozenAt j
        clear hml
        go_wp2
        have hs := ho.stored j (Value.int .i64 (k + j))
        have hs1 := hs.1
        rw [← List.map_set, marked_succ k l j hlt] at hs1
        have hs2 := hs.2
        go_roundw
        case rel => exact ⟨j + 1, by omega, by go_num, by go_num, hs1, hx.trans hs2⟩
        case measure => simp [intOf]; omega
      · obtain rfl : j = l.length := by omega
        go_wp2
        go_ret
        rw [marked_all] at ho
        refine ⟨rfl, ?_, hx⟩
        unfold Fresh
        rw [marks_length]
        exact ho

set_option maxHeartbeats 400000 in
/-- Where the marks lie, they are met. -/
theorem heldIntS_yes (v : Value) (n : Nat) (k : Int) (w : World) (hv : Ints w v (marks k n)) (h0 : 0 ≤ k) (h1 : k + n ≤ 4611686018427387904) :
    Calls Try.prog 65 #[v, .int .i64 k] w (IntExt (k + n) w) := by
  obtain ⟨av, cv, rfl, hlv, _, hcv⟩ := hv
  rw [marks_length] at hcv ⊢
  have hlen : n ≤ 4611686018427387904 := by omega
  clear hlv
  go_enter Try.func65, Try.ntmps65
  go_wp2
  go_loopw [1, 5] (fun m i wr => ∃ j : Nat, j ≤ n ∧ i = .int .i64 j ∧ m = .int .i64 (k + j) ∧ Ext w wr) (fun _ i _ => n - (intOf i).toNat)
  case atStart => exact ⟨0, Nat.zero_le _, rfl, by simp, Ext.refl _⟩
  case round =>
    obtain ⟨j, hj, rfl, rfl, hx⟩ := hrel
    by_cases hlt : j < n
    · obtain ⟨bv, ov, rfl, dv⟩ := hcv (by omega)
      have gv := hx.cell (dv j hlt)
      rw [marks_get k n j hlt] at gv
      clear hcv dv
      go_wp2
      go_roundw
      case rel => exact ⟨j + 1, by omega, by go_num, by go_num, hx⟩
      case measure => simp [intOf]; omega
    · obtain rfl : j = n := by omega
      go_wp2
      go_ret
      exact ⟨rfl, hx⟩

end Go.Proofs.Ythnoeknalpnadaa
