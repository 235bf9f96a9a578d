/- The decimal digits of a number from 0 on, in the model; texts put together. -/
import Derived.Test.YtfadmcgaojnghaaDoorNum
namespace Go.Proofs.YtfadmcgaojnghaaDoor
open Go.RowKit
set_option linter.unusedVariables false

/-- The digits of a number from 0 on. -/
def decI (n : Int) : List UInt8 := Lib.decDigits n.toNat
theorem decI_len {n : Int} (h : n ≤ 99999) : (decI n).length ≤ 20 := by
  unfold decI; rw [Lib.decDigits_length]; exact Lib.nDigits_le20 _ (by omega)
theorem num_at (n : Int) (h0 : 0 ≤ n) (h1 : n ≤ 99999) (W : World) : Calls Tryd.prog 65 #[.int .i64 n] W (StrExt (decI n) W) := by
  obtain ⟨k, rfl⟩ := Int.eq_ofNat_of_zero_le h0
  have h := l1Num_any k k W (Nat.le_refl _) (by omega)
  unfold decI; rw [Int.toNat_natCast]; exact h

theorem cat_run (W : World) (x y : List UInt8) (h : x.length + y.length ≤ 1000000) : (Op.stringOp .add ⟨x.toArray⟩ ⟨y.toArray⟩).run Tryd.prog W = .ok (.string ⟨(x ++ y).toArray⟩) W := by
  have h := run_string_add_sum (P := Tryd.prog) (w := W) ⟨x.toArray⟩ ⟨y.toArray⟩ (by
    have e1 : (⟨x.toArray⟩ : ByteArray).size = x.length := by simp [ByteArray.size]
    have e2 : (⟨y.toArray⟩ : ByteArray).size = y.length := by simp [ByteArray.size]
    rw [e1, e2]; omega)
  rw [h]
  congr 2

/-- A text and a Bool come back. -/
def TwoStr (l : List UInt8) (b : Bool) (w : World) (e : Ending) (w' : World) : Prop := e = .returned (.tuple #[.string ⟨l.toArray⟩, .bool b]) ∧ Ext w w'

end Go.Proofs.YtfadmcgaojnghaaDoor
