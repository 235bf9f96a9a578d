/- Contracts of slices.Index where the number is met, and of slices.Clone of a list that is not nil, as the program has them. -/
import Derived.Test.YtnmnbeklofnonaaPush
import Derived.WalkSpells
namespace Go.Proofs.Ytnmnbeklofnonaa
open Go.RowKit
set_option linter.unusedVariables false

set_option maxHeartbeats 800000 in
theorem index_found (v : Value) (A B : List Int) (x : Int) (w : World) (hv : Ints w v (A ++ x :: B)) (hx : x ∉ A) :
    Calls Try.prog 130 #[v, .int .i64 x] w (IntExt (A.length : Int) w) := by
  obtain ⟨av, cv, rfl, hlv, _, hcv⟩ := hv
  unfold maxLen at hlv
  have hlen : (A ++ x :: B).length = A.length + 1 + B.length := by simp; omega
  rw [hlen] at hcv hlv ⊢
  have HX := Lib.hid hx
  clear hx
  go_enter Try.func130, Try.ntmps130
  go_wp2
  go_loopw [5, 8] (fun _ i wr => ∃ k : Nat, k ≤ A.length ∧ i = .int .i64 k ∧ Ext w wr) (fun _ i _ => A.length - (intOf i).toNat)
  case atStart => exact ⟨0, Nat.zero_le _, rfl, Ext.refl _⟩
  case round =>
    obtain ⟨k, hk, rfl, hx⟩ := hrel
    obtain ⟨bv, ov, rfl, dv⟩ := hcv (by omega)
    have gv := hx.cell (dv k (by omega))
    clear hcv dv
    by_cases hlt : k < A.length
    · rw [List.getElem?_append_left hlt, List.getElem?_eq_getElem hlt, Option.getD_some] at gv
      have hne : x ≠ A[k] := fun e => HX.out (by rw [e]; exact List.getElem_mem hlt)
      obtain ⟨n, hn⟩ : ∃ n, n = A[k] := ⟨_, rfl⟩
      rw [← hn] at gv hne
      have e1 : (x == n) = false := by simp [hne]
      clear hn hne
      go_wp2
      go_roundw
      case rel => exact ⟨k + 1, by omega, by go_num, hx⟩
      case measure => simp [intOf]; omega
    · obtain rfl : k = A.length := by omega
      have hat : (A ++ x :: B)[A.length]?.getD 0 = x := by simp
      rw [hat] at gv
      go_wp2
      go_ret
      exact ⟨rfl, hx⟩

set_option maxHeartbeats 800000 in
theorem clone_any (b off n cap : Nat) (l : List Int) (w : World) (hv : Ints w (.slice (some ⟨b, off, none⟩) n cap) l) (hl : l.length ≤ 1048576) :
    Calls Try.prog 122 #[.slice (some ⟨b, off, none⟩) n cap] w (NewInts l w) := by
  have hb1 : ([] : List Int).length + l.length ≤ 1099511627776 := by simp; omega
  have HB := Lib.hid hb1
  have HU := Lib.hid hv
  clear hb1 hv hl
  have hq := fun W => Lib.run_eql_slice_nil (P := Try.prog) (w := W)
  go_enter Try.func122, Try.ntmps122
  go_wp2_with (at_builtin; refine wpList_join rfl _ _ rfl w.heap.size _ _ [] l rfl (fresh_lit w [] #[] _ rfl (Nat.le_refl _) (Nat.zero_le _)) rfl (HU.out.ext (Ext.alloc (Ext.refl _) _)) HB.out (size_alloc_le (Nat.le_refl _)) ?_)
  intro v1 w1 f1 g1 k1
  have e1' : Ext w w1 := k1 w (Ext.alloc (Ext.refl _) _) (Nat.le_refl _)
  clear g1 k1
  go_wp2
  go_ret
  exact ⟨_, rfl, by simpa using f1, e1'⟩

end Go.Proofs.Ytnmnbeklofnonaa
