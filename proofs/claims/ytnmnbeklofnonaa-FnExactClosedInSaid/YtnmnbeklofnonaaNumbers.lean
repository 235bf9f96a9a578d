/- Contract of the program's numbersOf: a map of its own that holds the set of the numbers. -/
import Derived.Test.YtnmnbeklofnonaaMapSet
namespace Go.Proofs.Ytnmnbeklofnonaa
open Go.RowKit Go.Maps
set_option linter.unusedVariables false

def MapNew (l : List Int) (w : World) (e : Ending) (w' : World) : Prop := ∃ b, e = .returned (.map (some b)) ∧ SetAt b l.length w' l ∧ Ext w w'

set_option maxHeartbeats 800000 in
theorem numbersOf_lists (v : Value) (l : List Int) (w : World) (hv : Ints w v l) (hwf : ∀ x ∈ l, wf64 x) (hl : l.length ≤ 1099511627776) :
    Calls Try.prog 81 #[v] w (MapNew l w) := by
  obtain ⟨av, cv, rfl, hlv, _, hcv⟩ := hv
  unfold maxLen at hlv
  have hmm := run_makeMap_sized l.length
  have HWF := Lib.hid hwf
  clear hwf
  go_enter Try.func81, Try.ntmps81
  go_wp2
  go_loopw [5, 11] (fun _ i wr => ∃ k : Nat, k ≤ l.length ∧ i = .int .i64 k ∧ SetAt w.heap.size k wr (l.take k) ∧ Ext w wr) (fun _ i _ => l.length - (intOf i).toNat)
  case atStart => exact ⟨0, Nat.zero_le _, rfl, SetAt.made w, Ext.alloc (Ext.refl _) _⟩
  case round =>
    clear hmm
    obtain ⟨k, hk, rfl, hs, hx⟩ := hrel
    by_cases hlt : k < l.length
    · obtain ⟨bv, ov, rfl, dv⟩ := hcv (by omega)
      have gv := hx.cell (dv k hlt)
      clear hcv dv
      have hkey : keyOf Try.prog 3 (.int .i64 l[k]) = some (.int .i64 l[k]) := keyOf_int_mk Try.underlying3 (HWF.out _ (List.getElem_mem hlt))
      go_wp2_with (at_mapUpdate; refine wpList_mapUpdate_own _ rfl _ _ _ 98 rfl 3 4 Try.keyedInt Try.underlying98 _ w.heap.size k _ rfl hs (by unfold maxLen; omega) _ _ _ rfl rfl hkey _ [] (plainElem_bool Try.underlying4 true) ?_; intro w1 hs1 hg1)
      have hx1 : Ext w w1 := Below.grown hx hg1 hx.size (fun q hq => by cases hq; exact Nat.le_refl _)
      have hs2 : SetAt w.heap.size (k + 1) w1 (l.take (k + 1)) := by
        unfold SetAt
        rw [List.take_add_one, List.getElem?_eq_getElem hlt, Option.toList, setI_snoc]
        exact hs1
      clear hs hs1 hg1 hx hkey
      go_wp2
      go_roundw
      case rel => exact ⟨k + 1, by omega, by go_num, hs2, hx1⟩
      case measure => simp [intOf]; omega
    · obtain rfl : k = l.length := by omega
      have ht : l.take l.length = l := List.take_length
      rw [ht] at hs
      go_wp2
      go_ret
      exact ⟨_, rfl, hs, hx⟩

end Go.Proofs.Ytnmnbeklofnonaa
