/-
  No cell of these rows narrows 'for every input' (looked for: loops, veiled, ifaces, maps, wideKeys, modest, calm, conditions, laid).
  DERIVED. THE GIVEN ROWS OF THIS SEAT. 3 by the template 'for every input the law returns true; each argument reads behind the call as it read before'; 0 by the template 'total and deterministic' (their statements: YtbffkidkfannhaaGreatTotals.lean).
  GIVEN WITH THE SEED: the statements are not yours to turn. If you find one false, say at which input.
  Laid BY PROGRAM, IN A SANDBOX (cutbox-rows.mjs): the forced cells as the released guide's own fill.sh prints them over the translation b8f71da4ea8380a6… (all of the seat's roots in one cut). By AI agents, Wed Nov 11 2026. No macro, syntax, notation, axiom, sorry.
-/
import Derived.Test.YtbffkidkfannhaaGreatChecked
import GoSem.Claim
import GoSem.ClaimJoined
import GoSem.ClaimMapViews
import Derived.JoinedTies
import Derived.KernelRfl
namespace Go.Proofs.YtbffkidkfannhaaGreat
/- THE CELL 'sum', in the pinned program and in every row, IS THE sha256 OF THE DUMP (.gsa) THAT YtbffkidkfannhaaGreatProg.lean LOADS. Nothing in Lean hashes anything: it is a label: what it is worth is what the hold of that sum in a sandbox is worth. -/
noncomputable def Tryz.pinned : Pinned := { name := "ytbffkidkfannhaagreat", sum := "b8f71da4ea8380a6110ada66f03450497ca550d8332a19a3605ef2fb419dce48", checked := Tryz.checked }
namespace Rows
def none {H : Type} : Left H := { results := [], args := [] }

/-- 'laws.FnExactFinishedIn': WHATEVER THE INPUT: true; the input reads as it did. -/
def fnExactFinishedInSpec : ChangeSpec := { name := "fnExactFinishedIn", fn := fun _ => fun
  | [d1, d2] => { results := [.lit (.bool true)], args := [d1, d2] }
  | _ => none }
def fnExactFinishedInRow : OpenClaim := { program := "ytbffkidkfannhaagreat", sum := "b8f71da4ea8380a6110ada66f03450497ca550d8332a19a3605ef2fb419dce48", func := "loop.example/g00698/laws.FnExactFinishedIn", spec := "fnExactFinishedIn", unfollowed := true, recurses := true, plainKeys := false, apart := false }
def FnExactFinishedInSaid : Prop := fnExactFinishedInRow.holds Tryz.pinned (OpenSpec.ofChange fnExactFinishedInSpec)

/-- ITS FALSE NEIGHBOUR: 'it returns false'. Refute it at one input. -/
def fnExactFinishedInWrong : ChangeSpec := { name := "fnExactFinishedIn", fn := fun _ => fun
  | [d1, d2] => { results := [.lit (.bool false)], args := [d1, d2] }
  | _ => none }
def FnExactFinishedInWrongFalsely : Prop := fnExactFinishedInRow.holds Tryz.pinned (OpenSpec.ofChange fnExactFinishedInWrong)

/-- 'laws.FnExactGoodNet': WHATEVER THE INPUT: true; the input reads as it did. -/
def fnExactGoodNetSpec : ChangeSpec := { name := "fnExactGoodNet", fn := fun _ => fun
  | [d] => { results := [.lit (.bool true)], args := [d] }
  | _ => none }
def fnExactGoodNetRow : OpenClaim := { program := "ytbffkidkfannhaagreat", sum := "b8f71da4ea8380a6110ada66f03450497ca550d8332a19a3605ef2fb419dce48", func := "loop.example/g00698/laws.FnExactGoodNet", spec := "fnExactGoodNet", unfollowed := true, recurses := true, plainKeys := false, apart := false }
def FnExactGoodNetSaid : Prop := fnExactGoodNetRow.holds Tryz.pinned (OpenSpec.ofChange fnExactGoodNetSpec)

/-- ITS FALSE NEIGHBOUR: 'it returns false'. Refute it at one input. -/
def fnExactGoodNetWrong : ChangeSpec := { name := "fnExactGoodNet", fn := fun _ => fun
  | [d] => { results := [.lit (.bool false)], args := [d] }
  | _ => none }
def FnExactGoodNetWrongFalsely : Prop := fnExactGoodNetRow.holds Tryz.pinned (OpenSpec.ofChange fnExactGoodNetWrong)

/-- 'laws.FnExactBagFor': WHATEVER THE INPUT: true; the input reads as it did. -/
def fnExactBagForSpec : ChangeSpec := { name := "fnExactBagFor", fn := fun _ => fun
  | [d1, d2] => { results := [.lit (.bool true)], args := [d1, d2] }
  | _ => none }
def fnExactBagForRow : OpenClaim := { program := "ytbffkidkfannhaagreat", sum := "b8f71da4ea8380a6110ada66f03450497ca550d8332a19a3605ef2fb419dce48", func := "loop.example/g00698/laws.FnExactBagFor", spec := "fnExactBagFor", unfollowed := true, recurses := true, plainKeys := false, apart := false }
def FnExactBagForSaid : Prop := fnExactBagForRow.holds Tryz.pinned (OpenSpec.ofChange fnExactBagForSpec)

/-- ITS FALSE NEIGHBOUR: 'it returns false'. Refute it at one input. -/
def fnExactBagForWrong : ChangeSpec := { name := "fnExactBagFor", fn := fun _ => fun
  | [d1, d2] => { results := [.lit (.bool false)], args := [d1, d2] }
  | _ => none }
def FnExactBagForWrongFalsely : Prop := fnExactBagForRow.holds Tryz.pinned (OpenSpec.ofChange fnExactBagForWrong)

/- THE SECOND FORM. 'bulk': how many values and letters a reading holds, each counted each time it is reached (what is shared counts as often as it is met; a slice's spare places count too). A statement '..UptoSaid' is the law's where the arguments, and the package variables that the reading takes, are together of bulk at most 1048576: NARROWER than '..Said'. Prove '..Said' where nothing that the law and all that it calls make is longer than what came in: it says more and counts as full. Else prove '..UptoSaid'. A law counts once. -/
mutual
def uptoBulk {H : Type} : DataW H → Nat
  | .lit (.string bytes) => bytes.length + 1
  | .lit _ => 1
  | .nil => 1
  | .ptr d => uptoBulk d + 1
  | .slice elems spare => uptoBulkAll elems + uptoBulkAll spare + 1
  | .agg parts => uptoBulkAll parts + 1
  | .iface _ d => uptoBulk d + 1
  | .map entries => uptoBulkEntries entries + 1
  | .held _ => 1
def uptoBulkAll {H : Type} : List (DataW H) → Nat
  | [] => 0
  | d :: r => uptoBulk d + uptoBulkAll r
def uptoBulkEntries {H : Type} : List (Lit × DataW H) → Nat
  | [] => 0
  | x :: r => uptoBulkEntry x + uptoBulkEntries r
def uptoBulkEntry {H : Type} : Lit × DataW H → Nat
  | (.string bytes, d) => bytes.length + uptoBulk d + 1
  | (_, d) => uptoBulk d + 1
 end
def uptoSmall : (H : Type) → List (DataW H) → Bool := fun _ ds => decide (uptoBulkAll ds ≤ 1048576)
def OpenSpec.upto (s : _root_.Go.ChangeSpec) : _root_.Go.OpenSpec := { _root_.Go.OpenSpec.ofChange s with cond := some uptoSmall }

/-- 'laws.FnExactFinishedIn', WHERE WHAT IT READS IS OF BULK AT MOST 1048576: true; the input reads as it did. -/
def fnExactFinishedInUptoRow : OpenClaim := { program := "ytbffkidkfannhaagreat", sum := "b8f71da4ea8380a6110ada66f03450497ca550d8332a19a3605ef2fb419dce48", func := "loop.example/g00698/laws.FnExactFinishedIn", spec := "fnExactFinishedIn", unfollowed := true, recurses := true, plainKeys := false, apart := false, narrowed := true }
def FnExactFinishedInUptoSaid : Prop := fnExactFinishedInUptoRow.holds Tryz.pinned (OpenSpec.upto fnExactFinishedInSpec)

/-- 'laws.FnExactGoodNet', WHERE WHAT IT READS IS OF BULK AT MOST 1048576: true; the input reads as it did. -/
def fnExactGoodNetUptoRow : OpenClaim := { program := "ytbffkidkfannhaagreat", sum := "b8f71da4ea8380a6110ada66f03450497ca550d8332a19a3605ef2fb419dce48", func := "loop.example/g00698/laws.FnExactGoodNet", spec := "fnExactGoodNet", unfollowed := true, recurses := true, plainKeys := false, apart := false, narrowed := true }
def FnExactGoodNetUptoSaid : Prop := fnExactGoodNetUptoRow.holds Tryz.pinned (OpenSpec.upto fnExactGoodNetSpec)

/-- 'laws.FnExactBagFor', WHERE WHAT IT READS IS OF BULK AT MOST 1048576: true; the input reads as it did. -/
def fnExactBagForUptoRow : OpenClaim := { program := "ytbffkidkfannhaagreat", sum := "b8f71da4ea8380a6110ada66f03450497ca550d8332a19a3605ef2fb419dce48", func := "loop.example/g00698/laws.FnExactBagFor", spec := "fnExactBagFor", unfollowed := true, recurses := true, plainKeys := false, apart := false, narrowed := true }
def FnExactBagForUptoSaid : Prop := fnExactBagForUptoRow.holds Tryz.pinned (OpenSpec.upto fnExactBagForSpec)

end Rows
end Go.Proofs.YtbffkidkfannhaaGreat
