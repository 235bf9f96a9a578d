/- Contract of the model's l1Has. -/
import Derived.Test.YtcpmfcigciknlaaWords
namespace Go.Proofs.Ytcpmfcigciknlaa
open Go.RowKit

set_option maxHeartbeats 400000 in
theorem l1Has_any (v : Value) (l : List Int) (n : Int) (w : World) (hv : Ints w v l) :
    Calls Try.prog 16 #[v, .int .i64 n] w (BoolExt (hasI l n) w) := by
  obtain ⟨av, cv, rfl, hlv, _, hcv⟩ := hv
  unfold maxLen at hlv
  go_enter Try.func16, Try.ntmps16
  go_wp2
  go_loopw [6, 9] (fun _ i wr => ∃ k : Nat, k ≤ l.length ∧ i = .int .i64 k ∧ (l.take k).any (fun x => x == n) = false ∧ Ext w wr) (fun _ i _ => l.length - (intOf i).toNat)
  case atStart => exact ⟨0, Nat.zero_le _, rfl, by simp, Ext.refl _⟩
  case round =>
    obtain ⟨k, hk, rfl, ht, hx⟩ := hrel
    have HT := Lib.hid ht
    clear ht
    by_cases hlt : k < l.length
    · obtain ⟨bv, ov, rfl, dv⟩ := hcv (by omega)
      have gv := hx.cell (dv k hlt)
      clear hcv dv
      cases hp : (l[k] == n) with
      | true =>
        go_wp2
        go_ret
        refine ⟨?_, hx⟩
        have hf : hasI l n = true := any_true_at hlt _ (by rw [List.getElem?_eq_getElem hlt]; exact hp)
        rw [hf]; rfl
      | false =>
        go_wp2
        go_roundw
        case rel => exact ⟨k + 1, by omega, by go_num, any_take_succ hlt _ HT.out (by rw [List.getElem?_eq_getElem hlt]; exact hp), hx⟩
        case measure => simp [intOf]; omega
    · obtain rfl : k = l.length := by omega
      go_wp2
      go_ret
      refine ⟨?_, hx⟩
      have hf : hasI l n = false := by have h := HT.out; rwa [List.take_length] at h
      rw [hf]; rfl

end Go.Proofs.Ytcpmfcigciknlaa

