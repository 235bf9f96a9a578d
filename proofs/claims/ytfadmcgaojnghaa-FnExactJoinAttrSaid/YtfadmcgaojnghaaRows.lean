/-
  No cell of these rows narrows 'for every input' (looked for: loops, veiled, ifaces, maps, wideKeys, modest, calm, conditions, laid).
  DERIVED. THE GIVEN ROWS OF THIS SEAT. 5 by the template 'for every input the law returns true; each argument reads behind the call as it read before'; 0 by the template 'total and deterministic' (their statements: YtfadmcgaojnghaaTotals.lean).
  GIVEN WITH THE SEED: the statements are not yours to turn. If you find one false, say at which input.
  Laid BY PROGRAM, IN A SANDBOX (cutbox-rows.mjs): the forced cells as the released guide's own fill.sh prints them over the translation 279fe23cb5eb932d… (all of the seat's roots in one cut). By AI agents, Wed Nov 11 2026. No macro, syntax, notation, axiom, sorry.
-/
import Derived.Test.YtfadmcgaojnghaaChecked
import GoSem.Claim
import GoSem.ClaimJoined
import GoSem.ClaimMapViews
import Derived.JoinedTies
import Derived.KernelRfl
namespace Go.Proofs.Ytfadmcgaojnghaa
/- THE CELL 'sum', in the pinned program and in every row, IS THE sha256 OF THE DUMP (.gsa) THAT YtfadmcgaojnghaaProg.lean LOADS. Nothing in Lean hashes anything: it is a label: what it is worth is what the hold of that sum in a sandbox is worth. -/
noncomputable def Try.pinned : Pinned := { name := "ytfadmcgaojnghaa", sum := "279fe23cb5eb932dbaf117b0ae733646c536f1d79370e475ac146ed405ad14c3", checked := Try.checked }
namespace Rows
def none {H : Type} : Left H := { results := [], args := [] }

/-- 'laws.FnExactGoodAttr': WHATEVER THE INPUT: true; the input reads as it did. -/
def fnExactGoodAttrSpec : ChangeSpec := { name := "fnExactGoodAttr", fn := fun _ => fun
  | [d1, d2] => { results := [.lit (.bool true)], args := [d1, d2] }
  | _ => none }
def fnExactGoodAttrRow : OpenClaim := { program := "ytfadmcgaojnghaa", sum := "279fe23cb5eb932dbaf117b0ae733646c536f1d79370e475ac146ed405ad14c3", func := "loop.example/g00698/laws.FnExactGoodAttr", spec := "fnExactGoodAttr", apart := false }
def FnExactGoodAttrSaid : Prop := fnExactGoodAttrRow.holds Try.pinned (OpenSpec.ofChange fnExactGoodAttrSpec)

/-- ITS FALSE NEIGHBOUR: 'it returns false'. Refute it at one input. -/
def fnExactGoodAttrWrong : ChangeSpec := { name := "fnExactGoodAttr", fn := fun _ => fun
  | [d1, d2] => { results := [.lit (.bool false)], args := [d1, d2] }
  | _ => none }
def FnExactGoodAttrWrongFalsely : Prop := fnExactGoodAttrRow.holds Try.pinned (OpenSpec.ofChange fnExactGoodAttrWrong)

/-- 'laws.FnExactNoneAttr': WHATEVER THE INPUT: true; the input reads as it did. -/
def fnExactNoneAttrSpec : ChangeSpec := { name := "fnExactNoneAttr", fn := fun _ => fun
  | [d] => { results := [.lit (.bool true)], args := [d] }
  | _ => none }
def fnExactNoneAttrRow : OpenClaim := { program := "ytfadmcgaojnghaa", sum := "279fe23cb5eb932dbaf117b0ae733646c536f1d79370e475ac146ed405ad14c3", func := "loop.example/g00698/laws.FnExactNoneAttr", spec := "fnExactNoneAttr", apart := false }
def FnExactNoneAttrSaid : Prop := fnExactNoneAttrRow.holds Try.pinned (OpenSpec.ofChange fnExactNoneAttrSpec)

/-- ITS FALSE NEIGHBOUR: 'it returns false'. Refute it at one input. -/
def fnExactNoneAttrWrong : ChangeSpec := { name := "fnExactNoneAttr", fn := fun _ => fun
  | [d] => { results := [.lit (.bool false)], args := [d] }
  | _ => none }
def FnExactNoneAttrWrongFalsely : Prop := fnExactNoneAttrRow.holds Try.pinned (OpenSpec.ofChange fnExactNoneAttrWrong)

/-- 'laws.FnExactJoinAttr': WHATEVER THE INPUT: true; the input reads as it did. -/
def fnExactJoinAttrSpec : ChangeSpec := { name := "fnExactJoinAttr", fn := fun _ => fun
  | [d1, d2, d3] => { results := [.lit (.bool true)], args := [d1, d2, d3] }
  | _ => none }
def fnExactJoinAttrRow : OpenClaim := { program := "ytfadmcgaojnghaa", sum := "279fe23cb5eb932dbaf117b0ae733646c536f1d79370e475ac146ed405ad14c3", func := "loop.example/g00698/laws.FnExactJoinAttr", spec := "fnExactJoinAttr", apart := false }
def FnExactJoinAttrSaid : Prop := fnExactJoinAttrRow.holds Try.pinned (OpenSpec.ofChange fnExactJoinAttrSpec)

/-- ITS FALSE NEIGHBOUR: 'it returns false'. Refute it at one input. -/
def fnExactJoinAttrWrong : ChangeSpec := { name := "fnExactJoinAttr", fn := fun _ => fun
  | [d1, d2, d3] => { results := [.lit (.bool false)], args := [d1, d2, d3] }
  | _ => none }
def FnExactJoinAttrWrongFalsely : Prop := fnExactJoinAttrRow.holds Try.pinned (OpenSpec.ofChange fnExactJoinAttrWrong)

/-- 'laws.FnExactSameAttr': WHATEVER THE INPUT: true; the input reads as it did. -/
def fnExactSameAttrSpec : ChangeSpec := { name := "fnExactSameAttr", fn := fun _ => fun
  | [d1, d2] => { results := [.lit (.bool true)], args := [d1, d2] }
  | _ => none }
def fnExactSameAttrRow : OpenClaim := { program := "ytfadmcgaojnghaa", sum := "279fe23cb5eb932dbaf117b0ae733646c536f1d79370e475ac146ed405ad14c3", func := "loop.example/g00698/laws.FnExactSameAttr", spec := "fnExactSameAttr", apart := false }
def FnExactSameAttrSaid : Prop := fnExactSameAttrRow.holds Try.pinned (OpenSpec.ofChange fnExactSameAttrSpec)

/-- ITS FALSE NEIGHBOUR: 'it returns false'. Refute it at one input. -/
def fnExactSameAttrWrong : ChangeSpec := { name := "fnExactSameAttr", fn := fun _ => fun
  | [d1, d2] => { results := [.lit (.bool false)], args := [d1, d2] }
  | _ => none }
def FnExactSameAttrWrongFalsely : Prop := fnExactSameAttrRow.holds Try.pinned (OpenSpec.ofChange fnExactSameAttrWrong)

/-- 'laws.FnExactHangsOn': WHATEVER THE INPUT: true; the input reads as it did. -/
def fnExactHangsOnSpec : ChangeSpec := { name := "fnExactHangsOn", fn := fun _ => fun
  | [d1, d2, d3, d4] => { results := [.lit (.bool true)], args := [d1, d2, d3, d4] }
  | _ => none }
def fnExactHangsOnRow : OpenClaim := { program := "ytfadmcgaojnghaa", sum := "279fe23cb5eb932dbaf117b0ae733646c536f1d79370e475ac146ed405ad14c3", func := "loop.example/g00698/laws.FnExactHangsOn", spec := "fnExactHangsOn", apart := false }
def FnExactHangsOnSaid : Prop := fnExactHangsOnRow.holds Try.pinned (OpenSpec.ofChange fnExactHangsOnSpec)

/-- ITS FALSE NEIGHBOUR: 'it returns false'. Refute it at one input. -/
def fnExactHangsOnWrong : ChangeSpec := { name := "fnExactHangsOn", fn := fun _ => fun
  | [d1, d2, d3, d4] => { results := [.lit (.bool false)], args := [d1, d2, d3, d4] }
  | _ => none }
def FnExactHangsOnWrongFalsely : Prop := fnExactHangsOnRow.holds Try.pinned (OpenSpec.ofChange fnExactHangsOnWrong)

/- THE SECOND FORM. 'bulk': how many values and letters a reading holds, each counted each time it is reached (what is shared counts as often as it is met; a slice's spare places count too). A statement '..UptoSaid' is the law's where the arguments, and the package variables that the reading takes, are together of bulk at most 1048576: NARROWER than '..Said'. Prove '..Said' where nothing that the law and all that it calls make is longer than what came in: it says more and counts as full. Else prove '..UptoSaid'. A law counts once. -/
mutual
def uptoBulk {H : Type} : DataW H → Nat
  | .lit (.string bytes) => bytes.length + 1
  | .lit _ => 1
  | .nil => 1
  | .ptr d => uptoBulk d + 1
  | .slice elems spare => uptoBulkAll elems + uptoBulkAll spare + 1
  | .agg parts => uptoBulkAll parts + 1
  | .iface _ d => uptoBulk d + 1
  | .map entries => uptoBulkEntries entries + 1
  | .held _ => 1
def uptoBulkAll {H : Type} : List (DataW H) → Nat
  | [] => 0
  | d :: r => uptoBulk d + uptoBulkAll r
def uptoBulkEntries {H : Type} : List (Lit × DataW H) → Nat
  | [] => 0
  | x :: r => uptoBulkEntry x + uptoBulkEntries r
def uptoBulkEntry {H : Type} : Lit × DataW H → Nat
  | (.string bytes, d) => bytes.length + uptoBulk d + 1
  | (_, d) => uptoBulk d + 1
 end
def uptoSmall : (H : Type) → List (DataW H) → Bool := fun _ ds => decide (uptoBulkAll ds ≤ 1048576)
def OpenSpec.upto (s : _root_.Go.ChangeSpec) : _root_.Go.OpenSpec := { _root_.Go.OpenSpec.ofChange s with cond := some uptoSmall }

/-- 'laws.FnExactGoodAttr', WHERE WHAT IT READS IS OF BULK AT MOST 1048576: true; the input reads as it did. -/
def fnExactGoodAttrUptoRow : OpenClaim := { program := "ytfadmcgaojnghaa", sum := "279fe23cb5eb932dbaf117b0ae733646c536f1d79370e475ac146ed405ad14c3", func := "loop.example/g00698/laws.FnExactGoodAttr", spec := "fnExactGoodAttr", apart := false, narrowed := true }
def FnExactGoodAttrUptoSaid : Prop := fnExactGoodAttrUptoRow.holds Try.pinned (OpenSpec.upto fnExactGoodAttrSpec)

/-- 'laws.FnExactNoneAttr', WHERE WHAT IT READS IS OF BULK AT MOST 1048576: true; the input reads as it did. -/
def fnExactNoneAttrUptoRow : OpenClaim := { program := "ytfadmcgaojnghaa", sum := "279fe23cb5eb932dbaf117b0ae733646c536f1d79370e475ac146ed405ad14c3", func := "loop.example/g00698/laws.FnExactNoneAttr", spec := "fnExactNoneAttr", apart := false, narrowed := true }
def FnExactNoneAttrUptoSaid : Prop := fnExactNoneAttrUptoRow.holds Try.pinned (OpenSpec.upto fnExactNoneAttrSpec)

/-- 'laws.FnExactJoinAttr', WHERE WHAT IT READS IS OF BULK AT MOST 1048576: true; the input reads as it did. -/
def fnExactJoinAttrUptoRow : OpenClaim := { program := "ytfadmcgaojnghaa", sum := "279fe23cb5eb932dbaf117b0ae733646c536f1d79370e475ac146ed405ad14c3", func := "loop.example/g00698/laws.FnExactJoinAttr", spec := "fnExactJoinAttr", apart := false, narrowed := true }
def FnExactJoinAttrUptoSaid : Prop := fnExactJoinAttrUptoRow.holds Try.pinned (OpenSpec.upto fnExactJoinAttrSpec)

/-- 'laws.FnExactSameAttr', WHERE WHAT IT READS IS OF BULK AT MOST 1048576: true; the input reads as it did. -/
def fnExactSameAttrUptoRow : OpenClaim := { program := "ytfadmcgaojnghaa", sum := "279fe23cb5eb932dbaf117b0ae733646c536f1d79370e475ac146ed405ad14c3", func := "loop.example/g00698/laws.FnExactSameAttr", spec := "fnExactSameAttr", apart := false, narrowed := true }
def FnExactSameAttrUptoSaid : Prop := fnExactSameAttrUptoRow.holds Try.pinned (OpenSpec.upto fnExactSameAttrSpec)

/-- 'laws.FnExactHangsOn', WHERE WHAT IT READS IS OF BULK AT MOST 1048576: true; the input reads as it did. -/
def fnExactHangsOnUptoRow : OpenClaim := { program := "ytfadmcgaojnghaa", sum := "279fe23cb5eb932dbaf117b0ae733646c536f1d79370e475ac146ed405ad14c3", func := "loop.example/g00698/laws.FnExactHangsOn", spec := "fnExactHangsOn", apart := false, narrowed := true }
def FnExactHangsOnUptoSaid : Prop := fnExactHangsOnUptoRow.holds Try.pinned (OpenSpec.upto fnExactHangsOnSpec)

end Rows
end Go.Proofs.Ytfadmcgaojnghaa
