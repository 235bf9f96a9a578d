/-
  No cell of these rows narrows 'for every input' (looked for: loops, veiled, ifaces, maps, wideKeys, modest, calm, conditions, laid).
  DERIVED. THE GIVEN ROWS OF THIS SEAT. 7 by the template 'for every input the law returns true; each argument reads behind the call as it read before'; 0 by the template 'total and deterministic' (their statements: YtfffddhfagibpaaTotals.lean).
  GIVEN WITH THE SEED: the statements are not yours to turn. If you find one false, say at which input.
  Laid BY PROGRAM, IN A SANDBOX (cutbox-rows.mjs): the forced cells as the released guide's own fill.sh prints them over the translation 4f595f167343cb4a… (all of the seat's roots in one cut). By AI agents, Wed Nov 11 2026. No macro, syntax, notation, axiom, sorry.
-/
import Derived.Test.YtfffddhfagibpaaChecked
import GoSem.Claim
import GoSem.ClaimJoined
import GoSem.ClaimMapViews
import Derived.JoinedTies
import Derived.KernelRfl
namespace Go.Proofs.Ytfffddhfagibpaa
/- THE CELL 'sum', in the pinned program and in every row, IS THE sha256 OF THE DUMP (.gsa) THAT YtfffddhfagibpaaProg.lean LOADS. Nothing in Lean hashes anything: it is a label: what it is worth is what the hold of that sum in a sandbox is worth. -/
noncomputable def Try.pinned : Pinned := { name := "ytfffddhfagibpaa", sum := "4f595f167343cb4af35c562c4b0a350a9df720de177fc83706132d617683aaee", checked := Try.checked }
namespace Rows
def none {H : Type} : Left H := { results := [], args := [] }

/-- 'laws.FnExactGoodSums': WHATEVER THE INPUT: true; the input reads as it did. -/
def fnExactGoodSumsSpec : ChangeSpec := { name := "fnExactGoodSums", fn := fun _ => fun
  | [d] => { results := [.lit (.bool true)], args := [d] }
  | _ => none }
def fnExactGoodSumsRow : OpenClaim := { program := "ytfffddhfagibpaa", sum := "4f595f167343cb4af35c562c4b0a350a9df720de177fc83706132d617683aaee", func := "loop.example/g00698/laws.FnExactGoodSums", spec := "fnExactGoodSums", plainKeys := false, apart := false }
def FnExactGoodSumsSaid : Prop := fnExactGoodSumsRow.holds Try.pinned (OpenSpec.ofChange fnExactGoodSumsSpec)

/-- ITS FALSE NEIGHBOUR: 'it returns false'. Refute it at one input. -/
def fnExactGoodSumsWrong : ChangeSpec := { name := "fnExactGoodSums", fn := fun _ => fun
  | [d] => { results := [.lit (.bool false)], args := [d] }
  | _ => none }
def FnExactGoodSumsWrongFalsely : Prop := fnExactGoodSumsRow.holds Try.pinned (OpenSpec.ofChange fnExactGoodSumsWrong)

/-- 'laws.FnExactNewSums': WHATEVER THE INPUT: true; the input reads as it did. -/
def fnExactNewSumsSpec : ChangeSpec := { name := "fnExactNewSums", fn := fun _ => fun
  | [] => { results := [.lit (.bool true)], args := [] }
  | _ => none }
def fnExactNewSumsRow : OpenClaim := { program := "ytfffddhfagibpaa", sum := "4f595f167343cb4af35c562c4b0a350a9df720de177fc83706132d617683aaee", func := "loop.example/g00698/laws.FnExactNewSums", spec := "fnExactNewSums", plainKeys := false, apart := false }
def FnExactNewSumsSaid : Prop := fnExactNewSumsRow.holds Try.pinned (OpenSpec.ofChange fnExactNewSumsSpec)

/-- ITS FALSE NEIGHBOUR: 'it returns false'. Refute it at one input. -/
def fnExactNewSumsWrong : ChangeSpec := { name := "fnExactNewSums", fn := fun _ => fun
  | [] => { results := [.lit (.bool false)], args := [] }
  | _ => none }
def FnExactNewSumsWrongFalsely : Prop := fnExactNewSumsRow.holds Try.pinned (OpenSpec.ofChange fnExactNewSumsWrong)

/-- 'laws.FnExactApplyCmd': WHATEVER THE INPUT: true; the input reads as it did. -/
def fnExactApplyCmdSpec : ChangeSpec := { name := "fnExactApplyCmd", fn := fun _ => fun
  | [d1, d2] => { results := [.lit (.bool true)], args := [d1, d2] }
  | _ => none }
def fnExactApplyCmdRow : OpenClaim := { program := "ytfffddhfagibpaa", sum := "4f595f167343cb4af35c562c4b0a350a9df720de177fc83706132d617683aaee", func := "loop.example/g00698/laws.FnExactApplyCmd", spec := "fnExactApplyCmd", unfollowed := true, recurses := true, plainKeys := false, apart := false }
def FnExactApplyCmdSaid : Prop := fnExactApplyCmdRow.holds Try.pinned (OpenSpec.ofChange fnExactApplyCmdSpec)

/-- ITS FALSE NEIGHBOUR: 'it returns false'. Refute it at one input. -/
def fnExactApplyCmdWrong : ChangeSpec := { name := "fnExactApplyCmd", fn := fun _ => fun
  | [d1, d2] => { results := [.lit (.bool false)], args := [d1, d2] }
  | _ => none }
def FnExactApplyCmdWrongFalsely : Prop := fnExactApplyCmdRow.holds Try.pinned (OpenSpec.ofChange fnExactApplyCmdWrong)

/-- 'laws.FnExactPlayCmds': WHATEVER THE INPUT: true; the input reads as it did. -/
def fnExactPlayCmdsSpec : ChangeSpec := { name := "fnExactPlayCmds", fn := fun _ => fun
  | [d] => { results := [.lit (.bool true)], args := [d] }
  | _ => none }
def fnExactPlayCmdsRow : OpenClaim := { program := "ytfffddhfagibpaa", sum := "4f595f167343cb4af35c562c4b0a350a9df720de177fc83706132d617683aaee", func := "loop.example/g00698/laws.FnExactPlayCmds", spec := "fnExactPlayCmds", unfollowed := true, recurses := true, plainKeys := false, apart := false }
def FnExactPlayCmdsSaid : Prop := fnExactPlayCmdsRow.holds Try.pinned (OpenSpec.ofChange fnExactPlayCmdsSpec)

/-- ITS FALSE NEIGHBOUR: 'it returns false'. Refute it at one input. -/
def fnExactPlayCmdsWrong : ChangeSpec := { name := "fnExactPlayCmds", fn := fun _ => fun
  | [d] => { results := [.lit (.bool false)], args := [d] }
  | _ => none }
def FnExactPlayCmdsWrongFalsely : Prop := fnExactPlayCmdsRow.holds Try.pinned (OpenSpec.ofChange fnExactPlayCmdsWrong)

/-- 'laws.FnExactTotalOf': WHATEVER THE INPUT: true; the input reads as it did. -/
def fnExactTotalOfSpec : ChangeSpec := { name := "fnExactTotalOf", fn := fun _ => fun
  | [d] => { results := [.lit (.bool true)], args := [d] }
  | _ => none }
def fnExactTotalOfRow : OpenClaim := { program := "ytfffddhfagibpaa", sum := "4f595f167343cb4af35c562c4b0a350a9df720de177fc83706132d617683aaee", func := "loop.example/g00698/laws.FnExactTotalOf", spec := "fnExactTotalOf", plainKeys := false, apart := false }
def FnExactTotalOfSaid : Prop := fnExactTotalOfRow.holds Try.pinned (OpenSpec.ofChange fnExactTotalOfSpec)

/-- ITS FALSE NEIGHBOUR: 'it returns false'. Refute it at one input. -/
def fnExactTotalOfWrong : ChangeSpec := { name := "fnExactTotalOf", fn := fun _ => fun
  | [d] => { results := [.lit (.bool false)], args := [d] }
  | _ => none }
def FnExactTotalOfWrongFalsely : Prop := fnExactTotalOfRow.holds Try.pinned (OpenSpec.ofChange fnExactTotalOfWrong)

/-- 'laws.FnExactTellsSame': WHATEVER THE INPUT: true; the input reads as it did. -/
def fnExactTellsSameSpec : ChangeSpec := { name := "fnExactTellsSame", fn := fun _ => fun
  | [d1, d2] => { results := [.lit (.bool true)], args := [d1, d2] }
  | _ => none }
def fnExactTellsSameRow : OpenClaim := { program := "ytfffddhfagibpaa", sum := "4f595f167343cb4af35c562c4b0a350a9df720de177fc83706132d617683aaee", func := "loop.example/g00698/laws.FnExactTellsSame", spec := "fnExactTellsSame", unfollowed := true, recurses := true, plainKeys := false, apart := false }
def FnExactTellsSameSaid : Prop := fnExactTellsSameRow.holds Try.pinned (OpenSpec.ofChange fnExactTellsSameSpec)

/-- ITS FALSE NEIGHBOUR: 'it returns false'. Refute it at one input. -/
def fnExactTellsSameWrong : ChangeSpec := { name := "fnExactTellsSame", fn := fun _ => fun
  | [d1, d2] => { results := [.lit (.bool false)], args := [d1, d2] }
  | _ => none }
def FnExactTellsSameWrongFalsely : Prop := fnExactTellsSameRow.holds Try.pinned (OpenSpec.ofChange fnExactTellsSameWrong)

/-- 'laws.FnExactSetRow': WHATEVER THE INPUT: true; the input reads as it did. -/
def fnExactSetRowSpec : ChangeSpec := { name := "fnExactSetRow", fn := fun _ => fun
  | [d1, d2, d3, d4] => { results := [.lit (.bool true)], args := [d1, d2, d3, d4] }
  | _ => none }
def fnExactSetRowRow : OpenClaim := { program := "ytfffddhfagibpaa", sum := "4f595f167343cb4af35c562c4b0a350a9df720de177fc83706132d617683aaee", func := "loop.example/g00698/laws.FnExactSetRow", spec := "fnExactSetRow", plainKeys := false, apart := false }
def FnExactSetRowSaid : Prop := fnExactSetRowRow.holds Try.pinned (OpenSpec.ofChange fnExactSetRowSpec)

/-- ITS FALSE NEIGHBOUR: 'it returns false'. Refute it at one input. -/
def fnExactSetRowWrong : ChangeSpec := { name := "fnExactSetRow", fn := fun _ => fun
  | [d1, d2, d3, d4] => { results := [.lit (.bool false)], args := [d1, d2, d3, d4] }
  | _ => none }
def FnExactSetRowWrongFalsely : Prop := fnExactSetRowRow.holds Try.pinned (OpenSpec.ofChange fnExactSetRowWrong)

/- THE SECOND FORM. 'bulk': how many values and letters a reading holds, each counted each time it is reached (what is shared counts as often as it is met; a slice's spare places count too). A statement '..UptoSaid' is the law's where the arguments, and the package variables that the reading takes, are together of bulk at most 1048576: NARROWER than '..Said'. Prove '..Said' where nothing that the law and all that it calls make is longer than what came in: it says more and counts as full. Else prove '..UptoSaid'. A law counts once. -/
mutual
def uptoBulk {H : Type} : DataW H → Nat
  | .lit (.string bytes) => bytes.length + 1
  | .lit _ => 1
  | .nil => 1
  | .ptr d => uptoBulk d + 1
  | .slice elems spare => uptoBulkAll elems + uptoBulkAll spare + 1
  | .agg parts => uptoBulkAll parts + 1
  | .iface _ d => uptoBulk d + 1
  | .map entries => uptoBulkEntries entries + 1
  | .held _ => 1
def uptoBulkAll {H : Type} : List (DataW H) → Nat
  | [] => 0
  | d :: r => uptoBulk d + uptoBulkAll r
def uptoBulkEntries {H : Type} : List (Lit × DataW H) → Nat
  | [] => 0
  | x :: r => uptoBulkEntry x + uptoBulkEntries r
def uptoBulkEntry {H : Type} : Lit × DataW H → Nat
  | (.string bytes, d) => bytes.length + uptoBulk d + 1
  | (_, d) => uptoBulk d + 1
 end
def uptoSmall : (H : Type) → List (DataW H) → Bool := fun _ ds => decide (uptoBulkAll ds ≤ 1048576)
def OpenSpec.upto (s : _root_.Go.ChangeSpec) : _root_.Go.OpenSpec := { _root_.Go.OpenSpec.ofChange s with cond := some uptoSmall }

/-- 'laws.FnExactGoodSums', WHERE WHAT IT READS IS OF BULK AT MOST 1048576: true; the input reads as it did. -/
def fnExactGoodSumsUptoRow : OpenClaim := { program := "ytfffddhfagibpaa", sum := "4f595f167343cb4af35c562c4b0a350a9df720de177fc83706132d617683aaee", func := "loop.example/g00698/laws.FnExactGoodSums", spec := "fnExactGoodSums", plainKeys := false, apart := false, narrowed := true }
def FnExactGoodSumsUptoSaid : Prop := fnExactGoodSumsUptoRow.holds Try.pinned (OpenSpec.upto fnExactGoodSumsSpec)

/-- 'laws.FnExactNewSums', WHERE WHAT IT READS IS OF BULK AT MOST 1048576: true; the input reads as it did. -/
def fnExactNewSumsUptoRow : OpenClaim := { program := "ytfffddhfagibpaa", sum := "4f595f167343cb4af35c562c4b0a350a9df720de177fc83706132d617683aaee", func := "loop.example/g00698/laws.FnExactNewSums", spec := "fnExactNewSums", plainKeys := false, apart := false, narrowed := true }
def FnExactNewSumsUptoSaid : Prop := fnExactNewSumsUptoRow.holds Try.pinned (OpenSpec.upto fnExactNewSumsSpec)

/-- 'laws.FnExactApplyCmd', WHERE WHAT IT READS IS OF BULK AT MOST 1048576: true; the input reads as it did. -/
def fnExactApplyCmdUptoRow : OpenClaim := { program := "ytfffddhfagibpaa", sum := "4f595f167343cb4af35c562c4b0a350a9df720de177fc83706132d617683aaee", func := "loop.example/g00698/laws.FnExactApplyCmd", spec := "fnExactApplyCmd", unfollowed := true, recurses := true, plainKeys := false, apart := false, narrowed := true }
def FnExactApplyCmdUptoSaid : Prop := fnExactApplyCmdUptoRow.holds Try.pinned (OpenSpec.upto fnExactApplyCmdSpec)

/-- 'laws.FnExactPlayCmds', WHERE WHAT IT READS IS OF BULK AT MOST 1048576: true; the input reads as it did. -/
def fnExactPlayCmdsUptoRow : OpenClaim := { program := "ytfffddhfagibpaa", sum := "4f595f167343cb4af35c562c4b0a350a9df720de177fc83706132d617683aaee", func := "loop.example/g00698/laws.FnExactPlayCmds", spec := "fnExactPlayCmds", unfollowed := true, recurses := true, plainKeys := false, apart := false, narrowed := true }
def FnExactPlayCmdsUptoSaid : Prop := fnExactPlayCmdsUptoRow.holds Try.pinned (OpenSpec.upto fnExactPlayCmdsSpec)

/-- 'laws.FnExactTotalOf', WHERE WHAT IT READS IS OF BULK AT MOST 1048576: true; the input reads as it did. -/
def fnExactTotalOfUptoRow : OpenClaim := { program := "ytfffddhfagibpaa", sum := "4f595f167343cb4af35c562c4b0a350a9df720de177fc83706132d617683aaee", func := "loop.example/g00698/laws.FnExactTotalOf", spec := "fnExactTotalOf", plainKeys := false, apart := false, narrowed := true }
def FnExactTotalOfUptoSaid : Prop := fnExactTotalOfUptoRow.holds Try.pinned (OpenSpec.upto fnExactTotalOfSpec)

/-- 'laws.FnExactTellsSame', WHERE WHAT IT READS IS OF BULK AT MOST 1048576: true; the input reads as it did. -/
def fnExactTellsSameUptoRow : OpenClaim := { program := "ytfffddhfagibpaa", sum := "4f595f167343cb4af35c562c4b0a350a9df720de177fc83706132d617683aaee", func := "loop.example/g00698/laws.FnExactTellsSame", spec := "fnExactTellsSame", unfollowed := true, recurses := true, plainKeys := false, apart := false, narrowed := true }
def FnExactTellsSameUptoSaid : Prop := fnExactTellsSameUptoRow.holds Try.pinned (OpenSpec.upto fnExactTellsSameSpec)

/-- 'laws.FnExactSetRow', WHERE WHAT IT READS IS OF BULK AT MOST 1048576: true; the input reads as it did. -/
def fnExactSetRowUptoRow : OpenClaim := { program := "ytfffddhfagibpaa", sum := "4f595f167343cb4af35c562c4b0a350a9df720de177fc83706132d617683aaee", func := "loop.example/g00698/laws.FnExactSetRow", spec := "fnExactSetRow", plainKeys := false, apart := false, narrowed := true }
def FnExactSetRowUptoSaid : Prop := fnExactSetRowUptoRow.holds Try.pinned (OpenSpec.upto fnExactSetRowSpec)

end Rows
end Go.Proofs.Ytfffddhfagibpaa
