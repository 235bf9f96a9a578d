/- What a row's list of variables gives: the table of powers of ten. -/
import Derived.Test.YtfadmcgaojnghaaDoorItoa
import Derived.OpenShut
import Derived.Stop.LaidErr
import Derived.Test.YtfadmcgaojnghaaDoorRows
namespace Go.Proofs.YtfadmcgaojnghaaDoor
open Go.RowKit

theorem one_var {H : Type} {enc : TypeId × Value → H} {P : Program} {W : World} {sp : Nat → Bool} {n : String} {gs : List (DataW H)} {q : List MemPlace} (h : DataW.TrodVars enc P W sp [n] gs q) : ∃ g, gs = [g] := by
  match gs, h with
  | [], h => exact h.elim
  | [g], _ => exact ⟨g, rfl⟩
  | _ :: _ :: _, h =>
    obtain ⟨_, _, _, _, _, _, _, _, _, _, hs, _⟩ := h
    exact hs.elim

theorem Tryd.gPowType : (Tryd.prog.globals[2]?).map (·.type) = some 131 := by kernel_rfl
theorem Pow_of {W : World} {rest : List (String × DataW Unit)} (h : laidMet Tryd.prog (("internal/strconv.uint64pow10", Rows.laid_internal_strconv_uint64pow10) :: rest) W) : Pow W :=
  Lib.tabIs_of_head (rest := rest) Tryd.gPow Tryd.gPowType Tryd.underlying131 Tryd.underlying71 (by kernel_rfl) (by kernel_rfl) h

end Go.Proofs.YtfadmcgaojnghaaDoor
