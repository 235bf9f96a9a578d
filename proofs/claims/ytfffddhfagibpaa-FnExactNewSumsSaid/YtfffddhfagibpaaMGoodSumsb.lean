/- Texts of this proof, part b: words, plain facts, contracts. -/
import Derived.Test.YtfffddhfagibpaaMGoodSumsa
import Derived.Laws.CopyOwn
import Derived.Deep.RegionLaw
import Derived.StillTailTactics

namespace Go.Proofs.Ytfffddhfagibpaa
open Go.RowKit
set_option linter.unusedVariables false

theorem mul64_14 (w : World) :
    Calls Try.prog 107 #[.int .u64 1, .int .u64 4] w fun e w' => e = .returned (.tuple #[.int .u64 0, .int .u64 4]) ∧ w = w' := by
  go_enter Try.func107, Try.ntmps107
  go_wp2
  go_ret2
  exact ⟨rfl, rfl⟩

theorem mul_14 (w : World) :
    Calls Try.prog 80 #[.int .u64 1, .int .u64 4] w fun e w' => e = .returned (.tuple #[.int .u64 0, .int .u64 4]) ∧ w = w' := by
  go_enter Try.func80, Try.ntmps80
  go_wp2_with fail
  refine (mul64_14 _).mono ?_
  rintro e w' ⟨rfl, rfl⟩
  go_wp2
  go_ret2
  exact ⟨rfl, rfl⟩

/-- k times x, and 0 up to four. -/
def rep4 (x : Int) (k : Nat) : List Value := List.replicate k (Value.int .i64 x) ++ List.replicate (4 - k) (Value.int .i64 0)
theorem rep4_splice1 (x : Int) : splice (rep4 x 0) 0 [Value.int .i64 x] = rep4 x 1 := rfl
theorem rep4_splice2 (x : Int) : splice (rep4 x 1) 1 [Value.int .i64 x] = rep4 x 2 := rfl
theorem rep4_splice4 (x : Int) : splice (rep4 x 2) 2 [Value.int .i64 x, Value.int .i64 x] = rep4 x 4 := rfl

set_option maxRecDepth 100000 in
set_option maxHeartbeats 2000000 in
theorem repeat4_any (w : World) (x : Int) (b : Nat) (hb : w.cell? ⟨b, 0, none⟩ = some (.int .i64 x)) :
    Calls Try.prog 47 #[.slice (some ⟨b, 0, none⟩) 1 1, .int .i64 4] w (NewInts [x, x, x, x] w) := by
  obtain ⟨i0, hi, hz0, hz1, hz2⟩ := info_parts Try.infoInt
  have hbl := World.block_lt_of_cell? w _ hb
  have HBL := Lib.hid hbl
  have HB := Lib.hid hb
  clear hbl hb
  go_enter Try.func47, Try.ntmps47
  go_wp2_with fail
  refine (mul_14 _).mono ?_
  rintro e w' ⟨rfl, rfl⟩
  go_wp2_with (first | (at_make; refine wpList_make_full _ rfl _ _ 22 rfl w.heap.size 3 i0 (.int .i64 0) 1 Try.underlying22 hi hz0 hz1 _ _ _ _ 4 rfl rfl rfl rfl ?c1 ?c2 ?c3 ?_))
  case c1 => rw [hz2]; omega
  case c2 => unfold maxLen; omega
  case c3 => simp
  intro w1 ho1 hg1
  have hx1 : Ext w w1 := ext_of_grown hg1
  have hb1 : w1.heap[w.heap.size]? = some (.cells (rep4 x 0).toArray 3 (0, 0)) := by
    rcases ho1.2 with ⟨h, _⟩ | ⟨g, cap, cur, h, _, hg, _, _, hs, ht⟩
    · cases h
    · injection h with h1 h2 h3
      injection h1 with h1
      injection h1 with h1
      subst h1
      subst h3
      rw [hg]
      have e : cur.toList = rep4 x 0 := by
        rw [List.take_of_length_le (by rw [Array.length_toList, hs]; exact Nat.le_refl _)] at ht
        rw [ht, toList_madeCells_one]; rfl
      have e2 : cur = (rep4 x 0).toArray := by rw [← e]
      rw [e2]
  have H1 := Lib.hid hb1
  have hc1 := hx1.cell HB.out
  have X1 := Lib.hid hx1
  clear ho1 hg1 hb1 hx1 hi hz0 hz1 hz2
  go_wp2_with (with_reducible refine wpList_copy_splice rfl _ _ 22 22 rfl 3 Try.underlying22 rfl _ _ 4 4 1 1 rfl rfl w.heap.size 0 (rep4 x 0) 3 H1.out [Value.int .i64 x] rfl ?c2 (Nat.le_of_ble_eq_true rfl) ?c3 w.heap.size w ?c4 (Nat.le_refl _) ?_)
  case c2 =>
    intro j v hj
    match j, hj with
    | 0, hj => simp at hj; subst hj; simpa [Addr.add] using hc1
  case c3 => intro z hz; simp at hz; subst hz; rfl
  case c4 => exact X1.out
  intro w2 hg2 hb2
  have H2 := hg2
  rw [rep4_splice1] at H2
  have X2 : Hid (Ext w w2) := Lib.hid hb2
  clear hg2 hb2 hc1 H1 X1
  go_wp2_with fail
  go_loopw [8] (fun n wr => ∃ (k : Nat) (m : Int), (k = 1 ∧ m = 1 ∨ k = 2 ∧ m = 2 ∨ k = 4 ∧ m = 4) ∧ n = .int .i64 m ∧ wr.heap[w.heap.size]? = some (.cells (rep4 x k).toArray 3 (0, 0)) ∧ Ext w wr) (fun n _ => 4 - (intOf n).toNat)
  case atStart => exact ⟨1, 1, .inl ⟨rfl, rfl⟩, rfl, H2.out, X2.out⟩
  case round =>
    clear H2 X2
    obtain ⟨k, m, hk, rfl, hh, hx⟩ := hrel
    have HH := Lib.hid hh
    have HX := Lib.hid hx
    clear hh hx
    rcases hk with ⟨rfl, rfl⟩ | ⟨rfl, rfl⟩ | ⟨rfl, rfl⟩
    · have hp : Hid (0 < ([Value.int .i64 x] : List Value).length → (some ⟨w.heap.size, 1, none⟩ : Option Addr) = some ⟨w.heap.size, 1, none⟩ ∧ ∃ ad, (some ⟨w.heap.size, 0, none⟩ : Option Addr) = some ad ∧ ∀ j v, ([Value.int .i64 x] : List Value)[j]? = some v → wr.drew.cell? (ad.add j) = some v) := Lib.hid (fun _ => ⟨rfl, _, rfl, fun j v hj => by
        have hw : wr.drew.cell? (Addr.add ⟨w.heap.size, 0, none⟩ j) = (rep4 x 1)[j]? := by
          have e : (Addr.add ⟨w.heap.size, 0, none⟩ j) = ⟨w.heap.size, j, none⟩ := by simp [Addr.add] <;> omega
          rw [e]
          exact (cell_of_row wr.drew _ j _ _ _ HH.out).trans (List.getElem?_toArray)
        rw [hw]
        match j, hj with
        | 0, hj => exact hj
        | 1, hj => first | exact hj | (simp at hj)⟩)
      have h1 : Hid (∀ v ∈ ([Value.int .i64 x] : List Value), v.oneCell' = true) := Lib.hid (fun v hv => by simp at hv; subst hv; rfl)
      go_wp2_with fail
      go_region_law (refine step_copy_splice rfl (.tmp 41) (.tmp 44) 22 22 rfl 3 Try.underlying22 rfl (some ⟨w.heap.size, 1, none⟩) (some ⟨w.heap.size, 0, none⟩) 3 3 1 4 (by with_reducible go_simp) (by with_reducible go_simp) w.heap.size 1 (rep4 x 1) 3 HH.out [Value.int .i64 x] rfl (fun _ => ⟨rfl, (hp.out (Nat.le_of_ble_eq_true rfl)).2⟩) (Nat.le_of_ble_eq_true rfl) h1.out w.heap.size w HX.out.drew (Nat.le_refl _) ?_; intro w4 hg4 hb4)
      all_goals
        go_wp2
        go_roundw
        case rel => exact ⟨.int .i64 2, _, _, _, _, _, _, _, _, _, _, _, _, _, ⟨2, 2, .inr (.inl ⟨rfl, rfl⟩), rfl, by rw [← rep4_splice2]; exact hg4.out, hb4⟩, rfl⟩
        case measure => exact (show (2 : Nat) < 3 by decide)
    · have hp : Hid (0 < ([Value.int .i64 x, Value.int .i64 x] : List Value).length → (some ⟨w.heap.size, 2, none⟩ : Option Addr) = some ⟨w.heap.size, 2, none⟩ ∧ ∃ ad, (some ⟨w.heap.size, 0, none⟩ : Option Addr) = some ad ∧ ∀ j v, ([Value.int .i64 x, Value.int .i64 x] : List Value)[j]? = some v → wr.drew.cell? (ad.add j) = some v) := Lib.hid (fun _ => ⟨rfl, _, rfl, fun j v hj => by
        have hw : wr.drew.cell? (Addr.add ⟨w.heap.size, 0, none⟩ j) = (rep4 x 2)[j]? := by
          have e : (Addr.add ⟨w.heap.size, 0, none⟩ j) = ⟨w.heap.size, j, none⟩ := by simp [Addr.add] <;> omega
          rw [e]
          exact (cell_of_row wr.drew _ j _ _ _ HH.out).trans (List.getElem?_toArray)
        rw [hw]
        match j, hj with
        | 0, hj => exact hj
        | 1, hj => first | exact hj | (simp at hj)⟩)
      have h1 : Hid (∀ v ∈ ([Value.int .i64 x, Value.int .i64 x] : List Value), v.oneCell' = true) := Lib.hid (fun v hv => by simp at hv; subst hv; rfl)
      go_wp2_with fail
      go_region_law (refine step_copy_splice rfl (.tmp 41) (.tmp 44) 22 22 rfl 3 Try.underlying22 rfl (some ⟨w.heap.size, 2, none⟩) (some ⟨w.heap.size, 0, none⟩) 2 2 2 4 (by with_reducible go_simp) (by with_reducible go_simp) w.heap.size 2 (rep4 x 2) 3 HH.out [Value.int .i64 x, Value.int .i64 x] rfl (fun _ => ⟨rfl, (hp.out (Nat.le_of_ble_eq_true rfl)).2⟩) (Nat.le_of_ble_eq_true rfl) h1.out w.heap.size w HX.out.drew (Nat.le_refl _) ?_; intro w4 hg4 hb4)
      all_goals
        go_wp2
        go_roundw
        case rel => exact ⟨.int .i64 4, _, _, _, _, _, _, _, _, _, _, _, _, _, ⟨4, 4, .inr (.inr ⟨rfl, rfl⟩), rfl, by rw [← rep4_splice4]; exact hg4.out, hb4⟩, rfl⟩
        case measure => exact (show (0 : Nat) < 2 by decide)
    · go_wp2
      go_ret
      refine ⟨_, rfl, ?_, HX.out⟩
      exact ⟨rfl, .inr ⟨w.heap.size, 4, _, rfl, Nat.le_refl _, HH.out, Nat.le_refl _, by unfold maxLen; omega, rfl, rfl⟩⟩

theorem implNewSums_any (w : World) : Calls Try.prog 15 #[] w (NewInts [100, 100, 100, 100] w) := by
  go_enter Try.func15, Try.ntmps15
  go_wp2_with fail
  refine (repeat4_any _ 100 w.heap.size (cell_alloc_one w _ _)).mono ?_
  rintro e w1 ⟨v1, rfl, f1, x1⟩
  go_wp2
  go_ret
  exact ⟨_, rfl, f1.more (by simp), (Ext.alloc (Ext.refl _) _).trans x1⟩

/-- k times 100. -/
def hundreds (k : Nat) : List Int := List.replicate k 100
theorem hundreds_succ (k : Nat) : hundreds (k + 1) = hundreds k ++ [100] := by simp [hundreds, List.replicate_succ']

set_option maxHeartbeats 1000000 in
theorem specNewSums_any (w : World) : Calls Try.prog 14 #[] w (NewInts [100, 100, 100, 100] w) := by
  go_enter Try.func14, Try.ntmps14
  go_wp2
  go_loopw [1, 2] (fun o i wr => ∃ k : Nat, k ≤ 4 ∧ i = .int .i64 k ∧ Fresh w.heap.size wr o (hundreds k) ∧ Ext w wr) (fun _ i _ => 4 - (intOf i).toNat)
  case atStart => exact ⟨0, Nat.zero_le _, rfl, fresh_nil _ _, Ext.refl _⟩
  case round =>
    obtain ⟨k, hk, rfl, hf, hx⟩ := hrel
    by_cases hlt : k < 4
    · have F := Lib.hid hf
      have X := Lib.hid hx
      clear hf hx
      have hb : w.heap.size ≤ wr.heap.size := Ext.size X.out
      have hbb : w.heap.size ≤ (wr.alloc (.cells #[.int .i64 100] 3)).heap.size := size_alloc_le hb
      have HB := Lib.hid hbb
      clear hbb
      have hc := Lib.hid (cell_alloc_one wr (.int .i64 100) 3)
      have hl : (hundreds k).length ≤ 1099511627776 := by simp [hundreds]; omega
      have HL := Lib.hid hl
      clear hl
      go_wp2_with (at_builtin; refine wpList_push rfl _ _ rfl w.heap.size _ (hundreds k) 100 rfl (F.out.ext (Ext.alloc (Ext.refl _) _)) ⟨wr.heap.size, 0, none⟩ 1 rfl hc.out HL.out HB.out ?_)
      intro v' w' hf' hg' hk'
      have F' : Hid (Fresh w.heap.size w' v' (hundreds (k + 1))) := Lib.hid (by rw [hundreds_succ]; exact hf')
      have X' := Lib.hid (hk' w (X.out.trans (Ext.alloc (Ext.refl _) _)) (Nat.le_refl _))
      clear hf' hg' hk' F X hc HL HB hb
      go_wp2
      go_roundw
      case rel => exact ⟨k + 1, by omega, by go_num, F'.out, X'.out⟩
      case measure => simp [intOf]; omega
    · obtain rfl : k = 4 := by omega
      have F := Lib.hid hf
      have X := Lib.hid hx
      clear hf hx
      go_wp2
      go_ret
      exact ⟨_, rfl, F.out, X.out⟩

end Go.Proofs.Ytfffddhfagibpaa
