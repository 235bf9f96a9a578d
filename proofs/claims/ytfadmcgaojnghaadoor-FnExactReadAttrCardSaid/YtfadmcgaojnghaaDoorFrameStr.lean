/- Arguments opened: a text. -/
import Derived.Test.YtfadmcgaojnghaaDoorWords
import Derived.OpenShut
import Derived.ChangeMaps5
namespace Go.Proofs.YtfadmcgaojnghaaDoor
open Go.ChangeShapes Go.WideShapes Go.RowKit Go.ChangeMaps

set_option maxRecDepth 100000 in
theorem open_str {H : Type} {enc : TypeId × Value → H} {w : World} {base : Nat} {sp : Nat → Bool} {held : Bool} {r : Reach} {b0 : Nat} {v : Value} {d : DataW H} {p : List MemPlace}
    (hv : Value.okWide Tryd.prog w r b0 9 v) (h : DataW.Trod enc Tryd.prog w base sp held 9 v d p) : ∃ s : ByteArray, v = .string s ∧ s.size ≤ maxLen := by
  obtain ⟨s, h1, _, _, h2⟩ := open_string Tryd.underlying9 hv h
  exact ⟨s, h1, h2⟩

end Go.Proofs.YtfadmcgaojnghaaDoor
