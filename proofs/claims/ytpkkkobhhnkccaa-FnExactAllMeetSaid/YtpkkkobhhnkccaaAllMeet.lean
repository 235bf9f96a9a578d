/- Contracts of AllMeet of the program and of the model, and of their helpers: both answer the same. -/
import Derived.Test.YtpkkkobhhnkccaaMapSet
import Derived.Test.YtpkkkobhhnkccaaSS
import Derived.Test.YtpkkkobhhnkccaaL1Has
namespace Go.Proofs.Ytpkkkobhhnkccaa
open Go.RowKit Go.Maps
set_option linter.unusedVariables false

def MapNew (l : List Int) (w : World) (e : Ending) (w' : World) : Prop := ∃ b, e = .returned (.map (some b)) ∧ SetAt b l.length w' l ∧ Ext w w'

set_option maxHeartbeats 800000 in
theorem numbersOf_lists (v : Value) (l : List Int) (w : World) (hv : Ints w v l) (hwf : ∀ x ∈ l, wf64 x) (hl : l.length ≤ 1099511627776) :
    Calls Try.prog 49 #[v] w (MapNew l w) := by
  obtain ⟨av, cv, rfl, hlv, _, hcv⟩ := hv
  unfold maxLen at hlv
  have hmm := run_makeMap_sized l.length
  have HWF := Lib.hid hwf
  clear hwf
  go_enter Try.func49, Try.ntmps49
  go_wp2
  go_loopw [5, 11] (fun _ i wr => ∃ k : Nat, k ≤ l.length ∧ i = .int .i64 k ∧ SetAt w.heap.size k wr (l.take k) ∧ Ext w wr) (fun _ i _ => l.length - (intOf i).toNat)
  case atStart => exact ⟨0, Nat.zero_le _, rfl, SetAt.made w, Ext.alloc (Ext.refl _) _⟩
  case round =>
    clear hmm
    obtain ⟨k, hk, rfl, hs, hx⟩ := hrel
    by_cases hlt : k < l.length
    · obtain ⟨bv, ov, rfl, dv⟩ := hcv (by omega)
      have gv := hx.cell (dv k hlt)
      clear hcv dv
      have hkey : keyOf Try.prog 3 (.int .i64 l[k]) = some (.int .i64 l[k]) := keyOf_int_mk Try.underlying3 (HWF.out _ (List.getElem_mem hlt))
      go_wp2_with (at_mapUpdate; refine wpList_mapUpdate_own _ rfl _ _ _ 62 rfl 3 4 Try.keyedInt Try.underlying62 _ w.heap.size k _ rfl hs (by unfold maxLen; omega) _ _ _ rfl rfl hkey _ [] (plainElem_bool Try.underlying4 true) ?_; intro w1 hs1 hg1)
      have hx1 : Ext w w1 := Below.grown hx hg1 hx.size (fun q hq => by cases hq; exact Nat.le_refl _)
      have hs2 : SetAt w.heap.size (k + 1) w1 (l.take (k + 1)) := by
        unfold SetAt
        rw [List.take_add_one, List.getElem?_eq_getElem hlt, Option.toList, setI_snoc]
        exact hs1
      clear hs hs1 hg1 hx hkey
      go_wp2
      go_roundw
      case rel => exact ⟨k + 1, by omega, by go_num, hs2, hx1⟩
      case measure => simp [intOf]; omega
    · obtain rfl : k = l.length := by omega
      have ht : l.take l.length = l := List.take_length
      rw [ht] at hs
      go_wp2
      go_ret
      exact ⟨_, rfl, hs, hx⟩

/-- Whether some number of r is in l. -/
def meetB (l r : List Int) : Bool := r.any fun x => hasI l x

set_option maxHeartbeats 800000 in
theorem hasAny_any (b n : Nat) (v : Value) (l r : List Int) (w : World) (hs : SetAt b n w l) (hv : Ints w v r) (hwf : ∀ x ∈ r, wf64 x) :
    Calls Try.prog 50 #[.map (some b), v] w (BoolExt (meetB l r) w) := by
  obtain ⟨av, cv, rfl, hlv, _, hcv⟩ := hv
  unfold maxLen at hlv
  have HWF := Lib.hid hwf
  have HS := Lib.hid hs
  clear hwf hs
  go_enter Try.func50, Try.ntmps50
  go_wp2
  go_loopw [6, 9] (fun _ i wr => ∃ k : Nat, k ≤ r.length ∧ i = .int .i64 k ∧ (r.take k).any (fun x => hasI l x) = false ∧ Ext w wr) (fun _ i _ => r.length - (intOf i).toNat)
  case atStart => exact ⟨0, Nat.zero_le _, rfl, by simp, Ext.refl _⟩
  case round =>
    obtain ⟨k, hk, rfl, ht, hx⟩ := hrel
    have HT := Lib.hid ht
    clear ht
    by_cases hlt : k < r.length
    · obtain ⟨bv, ov, rfl, dv⟩ := hcv (by omega)
      have gv := hx.cell (dv k hlt)
      clear hcv dv
      have hask := (HS.out.ext hx).ask r[k] (HWF.out _ (List.getElem_mem hlt))
      cases hp : hasI l r[k] with
      | true =>
        rw [hp] at hask
        have HP := Lib.hid hp
        clear hp
        go_wp2
        go_ret
        refine ⟨?_, hx⟩
        have hf : meetB l r = true := any_true_at hlt _ (by rw [List.getElem?_eq_getElem hlt]; exact HP.out)
        rw [hf]; rfl
      | false =>
        rw [hp] at hask
        have HP := Lib.hid hp
        clear hp
        go_wp2
        go_roundw
        case rel => exact ⟨k + 1, by omega, by go_num, any_take_succ hlt _ HT.out (by rw [List.getElem?_eq_getElem hlt]; exact HP.out), hx⟩
        case measure => simp [intOf]; omega
    · obtain rfl : k = r.length := by omega
      go_wp2
      go_ret
      refine ⟨?_, hx⟩
      have hf : meetB l r = false := by have h := HT.out; rwa [List.take_length] at h
      rw [hf]; rfl

end Go.Proofs.Ytpkkkobhhnkccaa
