/- Contract of the library's Itoa at a number from 0 on, where the table that it reads lies as the library lays it. -/
import Derived.Test.YtfadmcgaojnghaaDoorDec
import Derived.Test.YtfadmcgaojnghaaDoorShelf
import Derived.Lib.AppendIntMem
import Derived.Lib.SmallJoins
import Derived.Lib.LaidTab
namespace Go.Proofs.YtfadmcgaojnghaaDoor
open Go.RowKit
set_option linter.unusedVariables false

/-- The table of powers of ten lies there. -/
def Pow (w : World) : Prop := Lib.TabIs Tryd.prog w "internal/strconv.uint64pow10" .u64 Lib.pow10Tab
theorem Tryd.gPow : Tryd.prog.globalNamed "internal/strconv.uint64pow10" = some 2 := by kernel_rfl
theorem Pow.ext {w w' : World} (h : Pow w) (e : Ext w w') : Pow w' := Joins.var_stays Tryd.gPow h e (Nat.le_refl _)
/-- Itoa at a number from 0 on. -/
theorem itoa_at (n : Int) (h0 : 0 ≤ n) (h1 : n ≤ 99999) (w : World) (hp : Pow w) : Calls Tryd.prog 35 #[.int .i64 n] w (StrExt (decI n) w) := by
  refine (Tryd.strconv_Itoa n (by omega) (by omega) w hp).mono ?_
  rintro e w' ⟨rfl, k, os, rfl⟩
  refine ⟨?_, Lib.below_grow _ w (Nat.le_refl _) k os⟩
  unfold decI Lib.itoa
  rw [if_neg (by omega)]

end Go.Proofs.YtfadmcgaojnghaaDoor
