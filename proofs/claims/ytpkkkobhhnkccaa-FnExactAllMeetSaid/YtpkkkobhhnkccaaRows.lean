/-
  No cell of these rows narrows 'for every input' (looked for: loops, veiled, ifaces, maps, wideKeys, modest, calm, conditions, laid).
  DERIVED. THE GIVEN ROWS OF THIS SEAT. 7 by the template 'for every input the law returns true; each argument reads behind the call as it read before'; 0 by the template 'total and deterministic' (their statements: YtpkkkobhhnkccaaTotals.lean).
  GIVEN WITH THE SEED: the statements are not yours to turn. If you find one false, say at which input.
  Laid BY PROGRAM, IN A SANDBOX (cutbox-rows.mjs): the forced cells as the released guide's own fill.sh prints them over the translation 8ee3d267462fcd2b… (all of the seat's roots in one cut). By AI agents, Wed Nov 11 2026. No macro, syntax, notation, axiom, sorry.
-/
import Derived.Test.YtpkkkobhhnkccaaChecked
import GoSem.Claim
import GoSem.ClaimJoined
import GoSem.ClaimMapViews
import Derived.JoinedTies
import Derived.KernelRfl
namespace Go.Proofs.Ytpkkkobhhnkccaa
/- THE CELL 'sum', in the pinned program and in every row, IS THE sha256 OF THE DUMP (.gsa) THAT YtpkkkobhhnkccaaProg.lean LOADS. Nothing in Lean hashes anything: it is a label: what it is worth is what the hold of that sum in a sandbox is worth. -/
noncomputable def Try.pinned : Pinned := { name := "ytpkkkobhhnkccaa", sum := "8ee3d267462fcd2b733c367d1a909c87d81912ece468667d337216b8f07ea3e2", checked := Try.checked }
namespace Rows
def none {H : Type} : Left H := { results := [], args := [] }

/-- 'laws.FnGroups': WHATEVER THE INPUT: true; the input reads as it did. -/
def fnGroupsSpec : ChangeSpec := { name := "fnGroups", fn := fun _ => fun
  | [d1, d2] => { results := [.lit (.bool true)], args := [d1, d2] }
  | _ => none }
def fnGroupsRow : OpenClaim := { program := "ytpkkkobhhnkccaa", sum := "8ee3d267462fcd2b733c367d1a909c87d81912ece468667d337216b8f07ea3e2", func := "loop.example/g00698/laws.FnGroups", spec := "fnGroups", unfollowed := true, recurses := true, apart := false }
def FnGroupsSaid : Prop := fnGroupsRow.holds Try.pinned (OpenSpec.ofChange fnGroupsSpec)

/-- ITS FALSE NEIGHBOUR: 'it returns false'. Refute it at one input. -/
def fnGroupsWrong : ChangeSpec := { name := "fnGroups", fn := fun _ => fun
  | [d1, d2] => { results := [.lit (.bool false)], args := [d1, d2] }
  | _ => none }
def FnGroupsWrongFalsely : Prop := fnGroupsRow.holds Try.pinned (OpenSpec.ofChange fnGroupsWrong)

/-- 'laws.FnExactSetsOf': WHATEVER THE INPUT: true; the input reads as it did. -/
def fnExactSetsOfSpec : ChangeSpec := { name := "fnExactSetsOf", fn := fun _ => fun
  | [d1, d2] => { results := [.lit (.bool true)], args := [d1, d2] }
  | _ => none }
def fnExactSetsOfRow : OpenClaim := { program := "ytpkkkobhhnkccaa", sum := "8ee3d267462fcd2b733c367d1a909c87d81912ece468667d337216b8f07ea3e2", func := "loop.example/g00698/laws.FnExactSetsOf", spec := "fnExactSetsOf", unfollowed := true, recurses := true, apart := false }
def FnExactSetsOfSaid : Prop := fnExactSetsOfRow.holds Try.pinned (OpenSpec.ofChange fnExactSetsOfSpec)

/-- ITS FALSE NEIGHBOUR: 'it returns false'. Refute it at one input. -/
def fnExactSetsOfWrong : ChangeSpec := { name := "fnExactSetsOf", fn := fun _ => fun
  | [d1, d2] => { results := [.lit (.bool false)], args := [d1, d2] }
  | _ => none }
def FnExactSetsOfWrongFalsely : Prop := fnExactSetsOfRow.holds Try.pinned (OpenSpec.ofChange fnExactSetsOfWrong)

/-- 'laws.FnExactAllMeet': WHATEVER THE INPUT: true; the input reads as it did. -/
def fnExactAllMeetSpec : ChangeSpec := { name := "fnExactAllMeet", fn := fun _ => fun
  | [d1, d2] => { results := [.lit (.bool true)], args := [d1, d2] }
  | _ => none }
def fnExactAllMeetRow : OpenClaim := { program := "ytpkkkobhhnkccaa", sum := "8ee3d267462fcd2b733c367d1a909c87d81912ece468667d337216b8f07ea3e2", func := "loop.example/g00698/laws.FnExactAllMeet", spec := "fnExactAllMeet", apart := false }
def FnExactAllMeetSaid : Prop := fnExactAllMeetRow.holds Try.pinned (OpenSpec.ofChange fnExactAllMeetSpec)

/-- ITS FALSE NEIGHBOUR: 'it returns false'. Refute it at one input. -/
def fnExactAllMeetWrong : ChangeSpec := { name := "fnExactAllMeet", fn := fun _ => fun
  | [d1, d2] => { results := [.lit (.bool false)], args := [d1, d2] }
  | _ => none }
def FnExactAllMeetWrongFalsely : Prop := fnExactAllMeetRow.holds Try.pinned (OpenSpec.ofChange fnExactAllMeetWrong)

/-- 'laws.FnExactLeastMeeting': WHATEVER THE INPUT: true; the input reads as it did. -/
def fnExactLeastMeetingSpec : ChangeSpec := { name := "fnExactLeastMeeting", fn := fun _ => fun
  | [d] => { results := [.lit (.bool true)], args := [d] }
  | _ => none }
def fnExactLeastMeetingRow : OpenClaim := { program := "ytpkkkobhhnkccaa", sum := "8ee3d267462fcd2b733c367d1a909c87d81912ece468667d337216b8f07ea3e2", func := "loop.example/g00698/laws.FnExactLeastMeeting", spec := "fnExactLeastMeeting", unfollowed := true, recurses := true, apart := false }
def FnExactLeastMeetingSaid : Prop := fnExactLeastMeetingRow.holds Try.pinned (OpenSpec.ofChange fnExactLeastMeetingSpec)

/-- ITS FALSE NEIGHBOUR: 'it returns false'. Refute it at one input. -/
def fnExactLeastMeetingWrong : ChangeSpec := { name := "fnExactLeastMeeting", fn := fun _ => fun
  | [d] => { results := [.lit (.bool false)], args := [d] }
  | _ => none }
def FnExactLeastMeetingWrongFalsely : Prop := fnExactLeastMeetingRow.holds Try.pinned (OpenSpec.ofChange fnExactLeastMeetingWrong)

/-- 'laws.FnExactGoodCmd': WHATEVER THE INPUT: true; the input reads as it did. -/
def fnExactGoodCmdSpec : ChangeSpec := { name := "fnExactGoodCmd", fn := fun _ => fun
  | [d] => { results := [.lit (.bool true)], args := [d] }
  | _ => none }
def fnExactGoodCmdRow : OpenClaim := { program := "ytpkkkobhhnkccaa", sum := "8ee3d267462fcd2b733c367d1a909c87d81912ece468667d337216b8f07ea3e2", func := "loop.example/g00698/laws.FnExactGoodCmd", spec := "fnExactGoodCmd", apart := false }
def FnExactGoodCmdSaid : Prop := fnExactGoodCmdRow.holds Try.pinned (OpenSpec.ofChange fnExactGoodCmdSpec)

/-- ITS FALSE NEIGHBOUR: 'it returns false'. Refute it at one input. -/
def fnExactGoodCmdWrong : ChangeSpec := { name := "fnExactGoodCmd", fn := fun _ => fun
  | [d] => { results := [.lit (.bool false)], args := [d] }
  | _ => none }
def FnExactGoodCmdWrongFalsely : Prop := fnExactGoodCmdRow.holds Try.pinned (OpenSpec.ofChange fnExactGoodCmdWrong)

/-- 'laws.FnExactTouchesOf': WHATEVER THE INPUT: true; the input reads as it did. -/
def fnExactTouchesOfSpec : ChangeSpec := { name := "fnExactTouchesOf", fn := fun _ => fun
  | [d] => { results := [.lit (.bool true)], args := [d] }
  | _ => none }
def fnExactTouchesOfRow : OpenClaim := { program := "ytpkkkobhhnkccaa", sum := "8ee3d267462fcd2b733c367d1a909c87d81912ece468667d337216b8f07ea3e2", func := "loop.example/g00698/laws.FnExactTouchesOf", spec := "fnExactTouchesOf", apart := false }
def FnExactTouchesOfSaid : Prop := fnExactTouchesOfRow.holds Try.pinned (OpenSpec.ofChange fnExactTouchesOfSpec)

/-- ITS FALSE NEIGHBOUR: 'it returns false'. Refute it at one input. -/
def fnExactTouchesOfWrong : ChangeSpec := { name := "fnExactTouchesOf", fn := fun _ => fun
  | [d] => { results := [.lit (.bool false)], args := [d] }
  | _ => none }
def FnExactTouchesOfWrongFalsely : Prop := fnExactTouchesOfRow.holds Try.pinned (OpenSpec.ofChange fnExactTouchesOfWrong)

/-- 'laws.FnExactInterfere': WHATEVER THE INPUT: true; the input reads as it did. -/
def fnExactInterfereSpec : ChangeSpec := { name := "fnExactInterfere", fn := fun _ => fun
  | [d1, d2] => { results := [.lit (.bool true)], args := [d1, d2] }
  | _ => none }
def fnExactInterfereRow : OpenClaim := { program := "ytpkkkobhhnkccaa", sum := "8ee3d267462fcd2b733c367d1a909c87d81912ece468667d337216b8f07ea3e2", func := "loop.example/g00698/laws.FnExactInterfere", spec := "fnExactInterfere", apart := false }
def FnExactInterfereSaid : Prop := fnExactInterfereRow.holds Try.pinned (OpenSpec.ofChange fnExactInterfereSpec)

/-- ITS FALSE NEIGHBOUR: 'it returns false'. Refute it at one input. -/
def fnExactInterfereWrong : ChangeSpec := { name := "fnExactInterfere", fn := fun _ => fun
  | [d1, d2] => { results := [.lit (.bool false)], args := [d1, d2] }
  | _ => none }
def FnExactInterfereWrongFalsely : Prop := fnExactInterfereRow.holds Try.pinned (OpenSpec.ofChange fnExactInterfereWrong)

/- THE SECOND FORM. 'bulk': how many values and letters a reading holds, each counted each time it is reached (what is shared counts as often as it is met; a slice's spare places count too). A statement '..UptoSaid' is the law's where the arguments, and the package variables that the reading takes, are together of bulk at most 1048576: NARROWER than '..Said'. Prove '..Said' where nothing that the law and all that it calls make is longer than what came in: it says more and counts as full. Else prove '..UptoSaid'. A law counts once. -/
mutual
def uptoBulk {H : Type} : DataW H → Nat
  | .lit (.string bytes) => bytes.length + 1
  | .lit _ => 1
  | .nil => 1
  | .ptr d => uptoBulk d + 1
  | .slice elems spare => uptoBulkAll elems + uptoBulkAll spare + 1
  | .agg parts => uptoBulkAll parts + 1
  | .iface _ d => uptoBulk d + 1
  | .map entries => uptoBulkEntries entries + 1
  | .held _ => 1
def uptoBulkAll {H : Type} : List (DataW H) → Nat
  | [] => 0
  | d :: r => uptoBulk d + uptoBulkAll r
def uptoBulkEntries {H : Type} : List (Lit × DataW H) → Nat
  | [] => 0
  | x :: r => uptoBulkEntry x + uptoBulkEntries r
def uptoBulkEntry {H : Type} : Lit × DataW H → Nat
  | (.string bytes, d) => bytes.length + uptoBulk d + 1
  | (_, d) => uptoBulk d + 1
 end
def uptoSmall : (H : Type) → List (DataW H) → Bool := fun _ ds => decide (uptoBulkAll ds ≤ 1048576)
def OpenSpec.upto (s : _root_.Go.ChangeSpec) : _root_.Go.OpenSpec := { _root_.Go.OpenSpec.ofChange s with cond := some uptoSmall }

/-- 'laws.FnGroups', WHERE WHAT IT READS IS OF BULK AT MOST 1048576: true; the input reads as it did. -/
def fnGroupsUptoRow : OpenClaim := { program := "ytpkkkobhhnkccaa", sum := "8ee3d267462fcd2b733c367d1a909c87d81912ece468667d337216b8f07ea3e2", func := "loop.example/g00698/laws.FnGroups", spec := "fnGroups", unfollowed := true, recurses := true, apart := false, narrowed := true }
def FnGroupsUptoSaid : Prop := fnGroupsUptoRow.holds Try.pinned (OpenSpec.upto fnGroupsSpec)

/-- 'laws.FnExactSetsOf', WHERE WHAT IT READS IS OF BULK AT MOST 1048576: true; the input reads as it did. -/
def fnExactSetsOfUptoRow : OpenClaim := { program := "ytpkkkobhhnkccaa", sum := "8ee3d267462fcd2b733c367d1a909c87d81912ece468667d337216b8f07ea3e2", func := "loop.example/g00698/laws.FnExactSetsOf", spec := "fnExactSetsOf", unfollowed := true, recurses := true, apart := false, narrowed := true }
def FnExactSetsOfUptoSaid : Prop := fnExactSetsOfUptoRow.holds Try.pinned (OpenSpec.upto fnExactSetsOfSpec)

/-- 'laws.FnExactAllMeet', WHERE WHAT IT READS IS OF BULK AT MOST 1048576: true; the input reads as it did. -/
def fnExactAllMeetUptoRow : OpenClaim := { program := "ytpkkkobhhnkccaa", sum := "8ee3d267462fcd2b733c367d1a909c87d81912ece468667d337216b8f07ea3e2", func := "loop.example/g00698/laws.FnExactAllMeet", spec := "fnExactAllMeet", apart := false, narrowed := true }
def FnExactAllMeetUptoSaid : Prop := fnExactAllMeetUptoRow.holds Try.pinned (OpenSpec.upto fnExactAllMeetSpec)

/-- 'laws.FnExactLeastMeeting', WHERE WHAT IT READS IS OF BULK AT MOST 1048576: true; the input reads as it did. -/
def fnExactLeastMeetingUptoRow : OpenClaim := { program := "ytpkkkobhhnkccaa", sum := "8ee3d267462fcd2b733c367d1a909c87d81912ece468667d337216b8f07ea3e2", func := "loop.example/g00698/laws.FnExactLeastMeeting", spec := "fnExactLeastMeeting", unfollowed := true, recurses := true, apart := false, narrowed := true }
def FnExactLeastMeetingUptoSaid : Prop := fnExactLeastMeetingUptoRow.holds Try.pinned (OpenSpec.upto fnExactLeastMeetingSpec)

/-- 'laws.FnExactGoodCmd', WHERE WHAT IT READS IS OF BULK AT MOST 1048576: true; the input reads as it did. -/
def fnExactGoodCmdUptoRow : OpenClaim := { program := "ytpkkkobhhnkccaa", sum := "8ee3d267462fcd2b733c367d1a909c87d81912ece468667d337216b8f07ea3e2", func := "loop.example/g00698/laws.FnExactGoodCmd", spec := "fnExactGoodCmd", apart := false, narrowed := true }
def FnExactGoodCmdUptoSaid : Prop := fnExactGoodCmdUptoRow.holds Try.pinned (OpenSpec.upto fnExactGoodCmdSpec)

/-- 'laws.FnExactTouchesOf', WHERE WHAT IT READS IS OF BULK AT MOST 1048576: true; the input reads as it did. -/
def fnExactTouchesOfUptoRow : OpenClaim := { program := "ytpkkkobhhnkccaa", sum := "8ee3d267462fcd2b733c367d1a909c87d81912ece468667d337216b8f07ea3e2", func := "loop.example/g00698/laws.FnExactTouchesOf", spec := "fnExactTouchesOf", apart := false, narrowed := true }
def FnExactTouchesOfUptoSaid : Prop := fnExactTouchesOfUptoRow.holds Try.pinned (OpenSpec.upto fnExactTouchesOfSpec)

/-- 'laws.FnExactInterfere', WHERE WHAT IT READS IS OF BULK AT MOST 1048576: true; the input reads as it did. -/
def fnExactInterfereUptoRow : OpenClaim := { program := "ytpkkkobhhnkccaa", sum := "8ee3d267462fcd2b733c367d1a909c87d81912ece468667d337216b8f07ea3e2", func := "loop.example/g00698/laws.FnExactInterfere", spec := "fnExactInterfere", apart := false, narrowed := true }
def FnExactInterfereUptoSaid : Prop := fnExactInterfereUptoRow.holds Try.pinned (OpenSpec.upto fnExactInterfereSpec)

end Rows
end Go.Proofs.Ytpkkkobhhnkccaa
