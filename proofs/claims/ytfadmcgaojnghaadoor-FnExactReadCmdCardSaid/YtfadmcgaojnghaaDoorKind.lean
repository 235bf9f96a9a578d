/- Contract of the program's kindOfWord. -/
import Derived.Test.YtfadmcgaojnghaaDoorReadNum
namespace Go.Proofs.YtfadmcgaojnghaaDoor
open Go.RowKit
set_option linter.unusedVariables false

def formWord (k : Nat) : List UInt8 := if k = 0 then [45] else if k = 1 then [109, 111, 118, 101] else [114, 101, 97, 100]
def formLen (k : Nat) : Int := if k = 0 then 1 else if k = 1 then 5 else 3
def isKind (l : List UInt8) : Bool := l == [45] || (l == [109, 111, 118, 101] || l == [114, 101, 97, 100])
def kindI (l : List UInt8) : Int := if l == [45] then 0 else if l == [109, 111, 118, 101] then 1 else if l == [114, 101, 97, 100] then 2 else 0
theorem kind_hit {l : List UInt8} {k : Nat} (hk : k < 3) (h : l = formWord k) : kindI l = k ∧ isKind l = true := by
  have : k = 0 ∨ k = 1 ∨ k = 2 := by omega
  subst h
  rcases this with rfl | rfl | rfl <;> decide
theorem kind_miss {l : List UInt8} (h : ∀ j, j < 3 → l ≠ formWord j) : kindI l = 0 ∧ isKind l = false := by
  have h0 : l ≠ [45] := h 0 (by omega)
  have h1 : l ≠ [109, 111, 118, 101] := h 1 (by omega)
  have h2 : l ≠ [114, 101, 97, 100] := h 2 (by omega)
  simp [kindI, isKind, h0, h1, h2]
theorem index3_0 (a b c d e f : Value) (W : World) : (Instr.index 57 (.agg #[a, b, c, d, e, f]) (.int .i64 0)).run Tryd.prog W = .ok (.agg #[a, b]) W := by kernel_rfl
theorem index3_1 (a b c d e f : Value) (W : World) : (Instr.index 57 (.agg #[a, b, c, d, e, f]) (.int .i64 1)).run Tryd.prog W = .ok (.agg #[c, d]) W := by kernel_rfl
theorem index3_2 (a b c d e f : Value) (W : World) : (Instr.index 57 (.agg #[a, b, c, d, e, f]) (.int .i64 2)).run Tryd.prog W = .ok (.agg #[e, f]) W := by kernel_rfl
theorem form_at (k : Nat) (hk : k < 3) (W : World) : (Instr.index 57 (.agg #[.string ⟨#[45]⟩, .int .i64 1, .string ⟨#[109, 111, 118, 101]⟩, .int .i64 5, .string ⟨#[114, 101, 97, 100]⟩, .int .i64 3]) (.int .i64 (k : Int))).run Tryd.prog W = .ok (.agg #[.string ⟨(formWord k).toArray⟩, .int .i64 (formLen k)]) W := by
  have : k = 0 ∨ k = 1 ∨ k = 2 := by omega
  rcases this with rfl | rfl | rfl
  · exact index3_0 _ _ _ _ _ _ W
  · exact index3_1 _ _ _ _ _ _ W
  · exact index3_2 _ _ _ _ _ _ W

set_option maxRecDepth 100000 in
set_option maxHeartbeats 1000000 in
theorem kindOfWord_any (s : ByteArray) (w : World) (hfm : Forms w) :
    Calls Tryd.prog 40 #[.string s] w (IntB (kindI s.data.toList) (isKind s.data.toList) w) := by
  obtain ⟨⟨f0, f2, f4⟩, f1, f3, f5⟩ := hfm
  obtain ⟨l, hl⟩ : ∃ l, l = s.data.toList := ⟨_, rfl⟩
  rw [← hl]
  have HL := Lib.hid hl
  clear hl
  go_enter Tryd.func40, Tryd.ntmps40
  go_wp2
  go_loopw [7] (fun i wr => ∃ k : Nat, k ≤ 3 ∧ i = .int .i64 k ∧ (∀ j, j < k → l ≠ formWord j) ∧ Ext w wr) (fun i _ => 3 - (intOf i).toNat)
  case atStart => exact ⟨0, by omega, rfl, fun j hj => by omega, Ext.refl _⟩
  case round =>
    clear f0 f1 f2 f3 f4 f5
    obtain ⟨k, hk, rfl, hm, hx⟩ := hrel
    have HM := Lib.hid hm
    clear hm
    by_cases hlt : k < 3
    · have hix := form_at k hlt
      obtain ⟨q, hq⟩ : ∃ q, q = formWord k := ⟨_, rfl⟩
      obtain ⟨n, hn⟩ : ∃ n, n = formLen k := ⟨_, rfl⟩
      rw [← hq, ← hn] at hix
      have HQ := Lib.hid hq
      clear hq hn
      by_cases he : q = l
      · have e1 : (q == s.toList) = true := by rw [Lib.toList_data, ← HL.out, he]; simp
        have hh := kind_hit hlt (he.symm.trans HQ.out)
        have HH := Lib.hid hh
        clear he hh
        go_wp2
        go_ret2
        refine ⟨by rw [HH.out.1, HH.out.2]; rfl, ?_⟩
        repeat (first | exact hx | apply Ext.drew | apply Ext.alloc)
      · have e1 : (q == s.toList) = false := by rw [Lib.toList_data, ← HL.out, beq_eq_false_iff_ne]; exact he
        have HE := Lib.hid he
        clear he
        go_wp2
        go_roundw
        case rel =>
          refine ⟨k + 1, by omega, by go_num, fun j hj => ?_, by repeat (first | exact hx | apply Ext.drew | apply Ext.alloc)⟩
          by_cases hjk : j < k
          · exact HM.out j hjk
          · obtain rfl : j = k := by omega
            intro e
            exact HE.out (HQ.out.trans e.symm)
        case measure => simp [intOf]; omega
    · obtain rfl : k = 3 := by omega
      have hh := kind_miss HM.out
      have HH := Lib.hid hh
      clear hh
      go_wp2
      go_ret2
      exact ⟨by rw [HH.out.1, HH.out.2]; rfl, hx⟩

end Go.Proofs.YtfadmcgaojnghaaDoor
