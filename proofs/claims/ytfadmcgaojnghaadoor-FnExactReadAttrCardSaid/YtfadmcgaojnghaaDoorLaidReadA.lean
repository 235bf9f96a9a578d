/- What a row's list of variables gives: the error of a text that is no number; and of the world's shape: the library's greatest length. -/
import Derived.Test.YtfadmcgaojnghaaDoorCutA
import Derived.Test.YtfadmcgaojnghaaDoorLaidPow
import Derived.Shelf.Vars
import Derived.LaidLaws
import Derived.Stop.LaidErr
import Derived.Test.YtfadmcgaojnghaaDoorRows
namespace Go.Proofs.YtfadmcgaojnghaaDoor
open Go.RowKit

theorem Tryd.gErrTypeA : (Tryd.prog.globals[3]?).map (·.type) = some 102 := by kernel_rfl
theorem Tryd.starA : "*" ++ "errors.errorString" = "*errors.errorString" := by decide
theorem Tryd.rowErrA (u : TypeId) (h : Tryd.prog.typeName? 3 u = some "*errors.errorString") : u = 149 :=
  typeName_ptr_named (nm := "errors.errorString") (by rw [Tryd.starA]; kernel_rfl) (by kernel_rfl) (by decide) u (by rw [Tryd.starA]; exact h)
theorem ErrAt_of {W : World} {rest : List (String × DataW Unit)} (h : laidMet Tryd.prog (("strconv.ErrSyntax", Rows.laid_strconv_ErrSyntax) :: rest) W) : ErrAt W := by
  obtain ⟨a, s, hv, _⟩ := laid_sentinel (r := rest) h Tryd.gErr Tryd.gErrTypeA Tryd.underlying102 Tryd.rowErrA Tryd.underlying149 Tryd.underlying151 rfl rfl Tryd.underlying9 (by kernel_rfl) (by kernel_rfl)
  exact ⟨_, _, hv⟩
theorem LongAt_of {W : World} (h : W.ShapedOpen Tryd.prog) : LongAt W :=
  cell_of_shapedOpen_int (g := 1) (t := 3) (zero := #[.int .i64 0]) h (of_decide_eq_true (by kernel_rfl)) (by kernel_rfl) rfl (by kernel_rfl) (by kernel_rfl) Tryd.underlying3

end Go.Proofs.YtfadmcgaojnghaaDoor
