/-
  No cell of these rows narrows 'for every input' (looked for: loops, veiled, ifaces, maps, wideKeys, modest, calm, conditions, laid).
  DERIVED. THE GIVEN ROWS OF THIS SEAT. 12 by the template 'for every input the law returns true; each argument reads behind the call as it read before'; 0 by the template 'total and deterministic' (their statements: YthnoeknalpnadaaTotals.lean).
  GIVEN WITH THE SEED: the statements are not yours to turn. If you find one false, say at which input.
  Laid BY PROGRAM, IN A SANDBOX (cutbox-rows.mjs): the forced cells as the released guide's own fill.sh prints them over the translation a6570fc736ad6165… (all of the seat's roots in one cut). By AI agents, Wed Nov 11 2026. No macro, syntax, notation, axiom, sorry.
-/
import Derived.Test.YthnoeknalpnadaaChecked
import GoSem.Claim
import GoSem.ClaimJoined
import GoSem.ClaimMapViews
import Derived.JoinedTies
import Derived.KernelRfl
namespace Go.Proofs.Ythnoeknalpnadaa
/- THE CELL 'sum', in the pinned program and in every row, IS THE sha256 OF THE DUMP (.gsa) THAT YthnoeknalpnadaaProg.lean LOADS. Nothing in Lean hashes anything: it is a label: what it is worth is what the hold of that sum in a sandbox is worth. -/
noncomputable def Try.pinned : Pinned := { name := "ythnoeknalpnadaa", sum := "a6570fc736ad61657e9ca5152e7cd924cf88561b3c7465310a53d099396ef189", checked := Try.checked }
namespace Rows
def none {H : Type} : Left H := { results := [], args := [] }

/-- 'laws.FnExactNewReplica': WHATEVER THE INPUT: true; the input reads as it did. -/
def fnExactNewReplicaSpec : ChangeSpec := { name := "fnExactNewReplica", fn := fun _ => fun
  | [d1, d2] => { results := [.lit (.bool true)], args := [d1, d2] }
  | _ => none }
def fnExactNewReplicaRow : OpenClaim := { program := "ythnoeknalpnadaa", sum := "a6570fc736ad61657e9ca5152e7cd924cf88561b3c7465310a53d099396ef189", func := "loop.example/g00698/laws.FnExactNewReplica", spec := "fnExactNewReplica", plainKeys := false, apart := false }
def FnExactNewReplicaSaid : Prop := fnExactNewReplicaRow.holds Try.pinned (OpenSpec.ofChange fnExactNewReplicaSpec)

/-- ITS FALSE NEIGHBOUR: 'it returns false'. Refute it at one input. -/
def fnExactNewReplicaWrong : ChangeSpec := { name := "fnExactNewReplica", fn := fun _ => fun
  | [d1, d2] => { results := [.lit (.bool false)], args := [d1, d2] }
  | _ => none }
def FnExactNewReplicaWrongFalsely : Prop := fnExactNewReplicaRow.holds Try.pinned (OpenSpec.ofChange fnExactNewReplicaWrong)

/-- 'laws.FnExactChooseOf': WHATEVER THE INPUT: true; the input reads as it did. -/
def fnExactChooseOfSpec : ChangeSpec := { name := "fnExactChooseOf", fn := fun _ => fun
  | [d1, d2] => { results := [.lit (.bool true)], args := [d1, d2] }
  | _ => none }
def fnExactChooseOfRow : OpenClaim := { program := "ythnoeknalpnadaa", sum := "a6570fc736ad61657e9ca5152e7cd924cf88561b3c7465310a53d099396ef189", func := "loop.example/g00698/laws.FnExactChooseOf", spec := "fnExactChooseOf", plainKeys := false, apart := false }
def FnExactChooseOfSaid : Prop := fnExactChooseOfRow.holds Try.pinned (OpenSpec.ofChange fnExactChooseOfSpec)

/-- ITS FALSE NEIGHBOUR: 'it returns false'. Refute it at one input. -/
def fnExactChooseOfWrong : ChangeSpec := { name := "fnExactChooseOf", fn := fun _ => fun
  | [d1, d2] => { results := [.lit (.bool false)], args := [d1, d2] }
  | _ => none }
def FnExactChooseOfWrongFalsely : Prop := fnExactChooseOfRow.holds Try.pinned (OpenSpec.ofChange fnExactChooseOfWrong)

/-- 'laws.FnExactGoodReplica': WHATEVER THE INPUT: true; the input reads as it did. -/
def fnExactGoodReplicaSpec : ChangeSpec := { name := "fnExactGoodReplica", fn := fun _ => fun
  | [d] => { results := [.lit (.bool true)], args := [d] }
  | _ => none }
def fnExactGoodReplicaRow : OpenClaim := { program := "ythnoeknalpnadaa", sum := "a6570fc736ad61657e9ca5152e7cd924cf88561b3c7465310a53d099396ef189", func := "loop.example/g00698/laws.FnExactGoodReplica", spec := "fnExactGoodReplica", plainKeys := false, apart := false }
def FnExactGoodReplicaSaid : Prop := fnExactGoodReplicaRow.holds Try.pinned (OpenSpec.ofChange fnExactGoodReplicaSpec)

/-- ITS FALSE NEIGHBOUR: 'it returns false'. Refute it at one input. -/
def fnExactGoodReplicaWrong : ChangeSpec := { name := "fnExactGoodReplica", fn := fun _ => fun
  | [d] => { results := [.lit (.bool false)], args := [d] }
  | _ => none }
def FnExactGoodReplicaWrongFalsely : Prop := fnExactGoodReplicaRow.holds Try.pinned (OpenSpec.ofChange fnExactGoodReplicaWrong)

/-- 'laws.FnExactCrashOf': WHATEVER THE INPUT: true; the input reads as it did. -/
def fnExactCrashOfSpec : ChangeSpec := { name := "fnExactCrashOf", fn := fun _ => fun
  | [d] => { results := [.lit (.bool true)], args := [d] }
  | _ => none }
def fnExactCrashOfRow : OpenClaim := { program := "ythnoeknalpnadaa", sum := "a6570fc736ad61657e9ca5152e7cd924cf88561b3c7465310a53d099396ef189", func := "loop.example/g00698/laws.FnExactCrashOf", spec := "fnExactCrashOf", plainKeys := false, apart := false }
def FnExactCrashOfSaid : Prop := fnExactCrashOfRow.holds Try.pinned (OpenSpec.ofChange fnExactCrashOfSpec)

/-- ITS FALSE NEIGHBOUR: 'it returns false'. Refute it at one input. -/
def fnExactCrashOfWrong : ChangeSpec := { name := "fnExactCrashOf", fn := fun _ => fun
  | [d] => { results := [.lit (.bool false)], args := [d] }
  | _ => none }
def FnExactCrashOfWrongFalsely : Prop := fnExactCrashOfRow.holds Try.pinned (OpenSpec.ofChange fnExactCrashOfWrong)

/-- 'laws.FnExactSetRow': WHATEVER THE INPUT: true; the input reads as it did. -/
def fnExactSetRowSpec : ChangeSpec := { name := "fnExactSetRow", fn := fun _ => fun
  | [d1, d2, d3, d4] => { results := [.lit (.bool true)], args := [d1, d2, d3, d4] }
  | _ => none }
def fnExactSetRowRow : OpenClaim := { program := "ythnoeknalpnadaa", sum := "a6570fc736ad61657e9ca5152e7cd924cf88561b3c7465310a53d099396ef189", func := "loop.example/g00698/laws.FnExactSetRow", spec := "fnExactSetRow", plainKeys := false, apart := false }
def FnExactSetRowSaid : Prop := fnExactSetRowRow.holds Try.pinned (OpenSpec.ofChange fnExactSetRowSpec)

/-- ITS FALSE NEIGHBOUR: 'it returns false'. Refute it at one input. -/
def fnExactSetRowWrong : ChangeSpec := { name := "fnExactSetRow", fn := fun _ => fun
  | [d1, d2, d3, d4] => { results := [.lit (.bool false)], args := [d1, d2, d3, d4] }
  | _ => none }
def FnExactSetRowWrongFalsely : Prop := fnExactSetRowRow.holds Try.pinned (OpenSpec.ofChange fnExactSetRowWrong)

/-- 'laws.FnExactSameOrders': WHATEVER THE INPUT: true; the input reads as it did. -/
def fnExactSameOrdersSpec : ChangeSpec := { name := "fnExactSameOrders", fn := fun _ => fun
  | [d1, d2, d3] => { results := [.lit (.bool true)], args := [d1, d2, d3] }
  | _ => none }
def fnExactSameOrdersRow : OpenClaim := { program := "ythnoeknalpnadaa", sum := "a6570fc736ad61657e9ca5152e7cd924cf88561b3c7465310a53d099396ef189", func := "loop.example/g00698/laws.FnExactSameOrders", spec := "fnExactSameOrders", unfollowed := true, recurses := true, plainKeys := false, apart := false }
def FnExactSameOrdersSaid : Prop := fnExactSameOrdersRow.holds Try.pinned (OpenSpec.ofChange fnExactSameOrdersSpec)

/-- ITS FALSE NEIGHBOUR: 'it returns false'. Refute it at one input. -/
def fnExactSameOrdersWrong : ChangeSpec := { name := "fnExactSameOrders", fn := fun _ => fun
  | [d1, d2, d3] => { results := [.lit (.bool false)], args := [d1, d2, d3] }
  | _ => none }
def FnExactSameOrdersWrongFalsely : Prop := fnExactSameOrdersRow.holds Try.pinned (OpenSpec.ofChange fnExactSameOrdersWrong)

/-- 'laws.FnExactRowAt': WHATEVER THE INPUT: true; the input reads as it did. -/
def fnExactRowAtSpec : ChangeSpec := { name := "fnExactRowAt", fn := fun _ => fun
  | [d1, d2, d3] => { results := [.lit (.bool true)], args := [d1, d2, d3] }
  | _ => none }
def fnExactRowAtRow : OpenClaim := { program := "ythnoeknalpnadaa", sum := "a6570fc736ad61657e9ca5152e7cd924cf88561b3c7465310a53d099396ef189", func := "loop.example/g00698/laws.FnExactRowAt", spec := "fnExactRowAt", plainKeys := false, apart := false }
def FnExactRowAtSaid : Prop := fnExactRowAtRow.holds Try.pinned (OpenSpec.ofChange fnExactRowAtSpec)

/-- ITS FALSE NEIGHBOUR: 'it returns false'. Refute it at one input. -/
def fnExactRowAtWrong : ChangeSpec := { name := "fnExactRowAt", fn := fun _ => fun
  | [d1, d2, d3] => { results := [.lit (.bool false)], args := [d1, d2, d3] }
  | _ => none }
def FnExactRowAtWrongFalsely : Prop := fnExactRowAtRow.holds Try.pinned (OpenSpec.ofChange fnExactRowAtWrong)

/-- 'laws.FnExactNextBallot': WHATEVER THE INPUT: true; the input reads as it did. -/
def fnExactNextBallotSpec : ChangeSpec := { name := "fnExactNextBallot", fn := fun _ => fun
  | [d1, d2, d3, d4] => { results := [.lit (.bool true)], args := [d1, d2, d3, d4] }
  | _ => none }
def fnExactNextBallotRow : OpenClaim := { program := "ythnoeknalpnadaa", sum := "a6570fc736ad61657e9ca5152e7cd924cf88561b3c7465310a53d099396ef189", func := "loop.example/g00698/laws.FnExactNextBallot", spec := "fnExactNextBallot", plainKeys := false, apart := false }
def FnExactNextBallotSaid : Prop := fnExactNextBallotRow.holds Try.pinned (OpenSpec.ofChange fnExactNextBallotSpec)

/-- ITS FALSE NEIGHBOUR: 'it returns false'. Refute it at one input. -/
def fnExactNextBallotWrong : ChangeSpec := { name := "fnExactNextBallot", fn := fun _ => fun
  | [d1, d2, d3, d4] => { results := [.lit (.bool false)], args := [d1, d2, d3, d4] }
  | _ => none }
def FnExactNextBallotWrongFalsely : Prop := fnExactNextBallotRow.holds Try.pinned (OpenSpec.ofChange fnExactNextBallotWrong)

/-- 'laws.FnExactAttrFor': WHATEVER THE INPUT: true; the input reads as it did. -/
def fnExactAttrForSpec : ChangeSpec := { name := "fnExactAttrFor", fn := fun _ => fun
  | [d1, d2, d3, d4] => { results := [.lit (.bool true)], args := [d1, d2, d3, d4] }
  | _ => none }
def fnExactAttrForRow : OpenClaim := { program := "ythnoeknalpnadaa", sum := "a6570fc736ad61657e9ca5152e7cd924cf88561b3c7465310a53d099396ef189", func := "loop.example/g00698/laws.FnExactAttrFor", spec := "fnExactAttrFor", plainKeys := false, apart := false }
def FnExactAttrForSaid : Prop := fnExactAttrForRow.holds Try.pinned (OpenSpec.ofChange fnExactAttrForSpec)

/-- ITS FALSE NEIGHBOUR: 'it returns false'. Refute it at one input. -/
def fnExactAttrForWrong : ChangeSpec := { name := "fnExactAttrFor", fn := fun _ => fun
  | [d1, d2, d3, d4] => { results := [.lit (.bool false)], args := [d1, d2, d3, d4] }
  | _ => none }
def FnExactAttrForWrongFalsely : Prop := fnExactAttrForRow.holds Try.pinned (OpenSpec.ofChange fnExactAttrForWrong)

/-- 'laws.FnExactWithoutOnes': WHATEVER THE INPUT: true; the input reads as it did. -/
def fnExactWithoutOnesSpec : ChangeSpec := { name := "fnExactWithoutOnes", fn := fun _ => fun
  | [d1, d2] => { results := [.lit (.bool true)], args := [d1, d2] }
  | _ => none }
def fnExactWithoutOnesRow : OpenClaim := { program := "ythnoeknalpnadaa", sum := "a6570fc736ad61657e9ca5152e7cd924cf88561b3c7465310a53d099396ef189", func := "loop.example/g00698/laws.FnExactWithoutOnes", spec := "fnExactWithoutOnes", plainKeys := false, apart := false }
def FnExactWithoutOnesSaid : Prop := fnExactWithoutOnesRow.holds Try.pinned (OpenSpec.ofChange fnExactWithoutOnesSpec)

/-- ITS FALSE NEIGHBOUR: 'it returns false'. Refute it at one input. -/
def fnExactWithoutOnesWrong : ChangeSpec := { name := "fnExactWithoutOnes", fn := fun _ => fun
  | [d1, d2] => { results := [.lit (.bool false)], args := [d1, d2] }
  | _ => none }
def FnExactWithoutOnesWrongFalsely : Prop := fnExactWithoutOnesRow.holds Try.pinned (OpenSpec.ofChange fnExactWithoutOnesWrong)

/-- 'laws.FnExactHangsOn': WHATEVER THE INPUT: true; the input reads as it did. -/
def fnExactHangsOnSpec : ChangeSpec := { name := "fnExactHangsOn", fn := fun _ => fun
  | [d1, d2, d3, d4] => { results := [.lit (.bool true)], args := [d1, d2, d3, d4] }
  | _ => none }
def fnExactHangsOnRow : OpenClaim := { program := "ythnoeknalpnadaa", sum := "a6570fc736ad61657e9ca5152e7cd924cf88561b3c7465310a53d099396ef189", func := "loop.example/g00698/laws.FnExactHangsOn", spec := "fnExactHangsOn", plainKeys := false, apart := false }
def FnExactHangsOnSaid : Prop := fnExactHangsOnRow.holds Try.pinned (OpenSpec.ofChange fnExactHangsOnSpec)

/-- ITS FALSE NEIGHBOUR: 'it returns false'. Refute it at one input. -/
def fnExactHangsOnWrong : ChangeSpec := { name := "fnExactHangsOn", fn := fun _ => fun
  | [d1, d2, d3, d4] => { results := [.lit (.bool false)], args := [d1, d2, d3, d4] }
  | _ => none }
def FnExactHangsOnWrongFalsely : Prop := fnExactHangsOnRow.holds Try.pinned (OpenSpec.ofChange fnExactHangsOnWrong)

/-- 'laws.FnExactGoodMsg': WHATEVER THE INPUT: true; the input reads as it did. -/
def fnExactGoodMsgSpec : ChangeSpec := { name := "fnExactGoodMsg", fn := fun _ => fun
  | [d1, d2] => { results := [.lit (.bool true)], args := [d1, d2] }
  | _ => none }
def fnExactGoodMsgRow : OpenClaim := { program := "ythnoeknalpnadaa", sum := "a6570fc736ad61657e9ca5152e7cd924cf88561b3c7465310a53d099396ef189", func := "loop.example/g00698/laws.FnExactGoodMsg", spec := "fnExactGoodMsg", unfollowed := true, recurses := true, plainKeys := false, apart := false }
def FnExactGoodMsgSaid : Prop := fnExactGoodMsgRow.holds Try.pinned (OpenSpec.ofChange fnExactGoodMsgSpec)

/-- ITS FALSE NEIGHBOUR: 'it returns false'. Refute it at one input. -/
def fnExactGoodMsgWrong : ChangeSpec := { name := "fnExactGoodMsg", fn := fun _ => fun
  | [d1, d2] => { results := [.lit (.bool false)], args := [d1, d2] }
  | _ => none }
def FnExactGoodMsgWrongFalsely : Prop := fnExactGoodMsgRow.holds Try.pinned (OpenSpec.ofChange fnExactGoodMsgWrong)

/- THE SECOND FORM. 'bulk': how many values and letters a reading holds, each counted each time it is reached (what is shared counts as often as it is met; a slice's spare places count too). A statement '..UptoSaid' is the law's where the arguments, and the package variables that the reading takes, are together of bulk at most 1048576: NARROWER than '..Said'. Prove '..Said' where nothing that the law and all that it calls make is longer than what came in: it says more and counts as full. Else prove '..UptoSaid'. A law counts once. -/
mutual
def uptoBulk {H : Type} : DataW H → Nat
  | .lit (.string bytes) => bytes.length + 1
  | .lit _ => 1
  | .nil => 1
  | .ptr d => uptoBulk d + 1
  | .slice elems spare => uptoBulkAll elems + uptoBulkAll spare + 1
  | .agg parts => uptoBulkAll parts + 1
  | .iface _ d => uptoBulk d + 1
  | .map entries => uptoBulkEntries entries + 1
  | .held _ => 1
def uptoBulkAll {H : Type} : List (DataW H) → Nat
  | [] => 0
  | d :: r => uptoBulk d + uptoBulkAll r
def uptoBulkEntries {H : Type} : List (Lit × DataW H) → Nat
  | [] => 0
  | x :: r => uptoBulkEntry x + uptoBulkEntries r
def uptoBulkEntry {H : Type} : Lit × DataW H → Nat
  | (.string bytes, d) => bytes.length + uptoBulk d + 1
  | (_, d) => uptoBulk d + 1
 end
def uptoSmall : (H : Type) → List (DataW H) → Bool := fun _ ds => decide (uptoBulkAll ds ≤ 1048576)
def OpenSpec.upto (s : _root_.Go.ChangeSpec) : _root_.Go.OpenSpec := { _root_.Go.OpenSpec.ofChange s with cond := some uptoSmall }

/-- 'laws.FnExactNewReplica', WHERE WHAT IT READS IS OF BULK AT MOST 1048576: true; the input reads as it did. -/
def fnExactNewReplicaUptoRow : OpenClaim := { program := "ythnoeknalpnadaa", sum := "a6570fc736ad61657e9ca5152e7cd924cf88561b3c7465310a53d099396ef189", func := "loop.example/g00698/laws.FnExactNewReplica", spec := "fnExactNewReplica", plainKeys := false, apart := false, narrowed := true }
def FnExactNewReplicaUptoSaid : Prop := fnExactNewReplicaUptoRow.holds Try.pinned (OpenSpec.upto fnExactNewReplicaSpec)

/-- 'laws.FnExactChooseOf', WHERE WHAT IT READS IS OF BULK AT MOST 1048576: true; the input reads as it did. -/
def fnExactChooseOfUptoRow : OpenClaim := { program := "ythnoeknalpnadaa", sum := "a6570fc736ad61657e9ca5152e7cd924cf88561b3c7465310a53d099396ef189", func := "loop.example/g00698/laws.FnExactChooseOf", spec := "fnExactChooseOf", plainKeys := false, apart := false, narrowed := true }
def FnExactChooseOfUptoSaid : Prop := fnExactChooseOfUptoRow.holds Try.pinned (OpenSpec.upto fnExactChooseOfSpec)

/-- 'laws.FnExactGoodReplica', WHERE WHAT IT READS IS OF BULK AT MOST 1048576: true; the input reads as it did. -/
def fnExactGoodReplicaUptoRow : OpenClaim := { program := "ythnoeknalpnadaa", sum := "a6570fc736ad61657e9ca5152e7cd924cf88561b3c7465310a53d099396ef189", func := "loop.example/g00698/laws.FnExactGoodReplica", spec := "fnExactGoodReplica", plainKeys := false, apart := false, narrowed := true }
def FnExactGoodReplicaUptoSaid : Prop := fnExactGoodReplicaUptoRow.holds Try.pinned (OpenSpec.upto fnExactGoodReplicaSpec)

/-- 'laws.FnExactCrashOf', WHERE WHAT IT READS IS OF BULK AT MOST 1048576: true; the input reads as it did. -/
def fnExactCrashOfUptoRow : OpenClaim := { program := "ythnoeknalpnadaa", sum := "a6570fc736ad61657e9ca5152e7cd924cf88561b3c7465310a53d099396ef189", func := "loop.example/g00698/laws.FnExactCrashOf", spec := "fnExactCrashOf", plainKeys := false, apart := false, narrowed := true }
def FnExactCrashOfUptoSaid : Prop := fnExactCrashOfUptoRow.holds Try.pinned (OpenSpec.upto fnExactCrashOfSpec)

/-- 'laws.FnExactSetRow', WHERE WHAT IT READS IS OF BULK AT MOST 1048576: true; the input reads as it did. -/
def fnExactSetRowUptoRow : OpenClaim := { program := "ythnoeknalpnadaa", sum := "a6570fc736ad61657e9ca5152e7cd924cf88561b3c7465310a53d099396ef189", func := "loop.example/g00698/laws.FnExactSetRow", spec := "fnExactSetRow", plainKeys := false, apart := false, narrowed := true }
def FnExactSetRowUptoSaid : Prop := fnExactSetRowUptoRow.holds Try.pinned (OpenSpec.upto fnExactSetRowSpec)

/-- 'laws.FnExactSameOrders', WHERE WHAT IT READS IS OF BULK AT MOST 1048576: true; the input reads as it did. -/
def fnExactSameOrdersUptoRow : OpenClaim := { program := "ythnoeknalpnadaa", sum := "a6570fc736ad61657e9ca5152e7cd924cf88561b3c7465310a53d099396ef189", func := "loop.example/g00698/laws.FnExactSameOrders", spec := "fnExactSameOrders", unfollowed := true, recurses := true, plainKeys := false, apart := false, narrowed := true }
def FnExactSameOrdersUptoSaid : Prop := fnExactSameOrdersUptoRow.holds Try.pinned (OpenSpec.upto fnExactSameOrdersSpec)

/-- 'laws.FnExactRowAt', WHERE WHAT IT READS IS OF BULK AT MOST 1048576: true; the input reads as it did. -/
def fnExactRowAtUptoRow : OpenClaim := { program := "ythnoeknalpnadaa", sum := "a6570fc736ad61657e9ca5152e7cd924cf88561b3c7465310a53d099396ef189", func := "loop.example/g00698/laws.FnExactRowAt", spec := "fnExactRowAt", plainKeys := false, apart := false, narrowed := true }
def FnExactRowAtUptoSaid : Prop := fnExactRowAtUptoRow.holds Try.pinned (OpenSpec.upto fnExactRowAtSpec)

/-- 'laws.FnExactNextBallot', WHERE WHAT IT READS IS OF BULK AT MOST 1048576: true; the input reads as it did. -/
def fnExactNextBallotUptoRow : OpenClaim := { program := "ythnoeknalpnadaa", sum := "a6570fc736ad61657e9ca5152e7cd924cf88561b3c7465310a53d099396ef189", func := "loop.example/g00698/laws.FnExactNextBallot", spec := "fnExactNextBallot", plainKeys := false, apart := false, narrowed := true }
def FnExactNextBallotUptoSaid : Prop := fnExactNextBallotUptoRow.holds Try.pinned (OpenSpec.upto fnExactNextBallotSpec)

/-- 'laws.FnExactAttrFor', WHERE WHAT IT READS IS OF BULK AT MOST 1048576: true; the input reads as it did. -/
def fnExactAttrForUptoRow : OpenClaim := { program := "ythnoeknalpnadaa", sum := "a6570fc736ad61657e9ca5152e7cd924cf88561b3c7465310a53d099396ef189", func := "loop.example/g00698/laws.FnExactAttrFor", spec := "fnExactAttrFor", plainKeys := false, apart := false, narrowed := true }
def FnExactAttrForUptoSaid : Prop := fnExactAttrForUptoRow.holds Try.pinned (OpenSpec.upto fnExactAttrForSpec)

/-- 'laws.FnExactWithoutOnes', WHERE WHAT IT READS IS OF BULK AT MOST 1048576: true; the input reads as it did. -/
def fnExactWithoutOnesUptoRow : OpenClaim := { program := "ythnoeknalpnadaa", sum := "a6570fc736ad61657e9ca5152e7cd924cf88561b3c7465310a53d099396ef189", func := "loop.example/g00698/laws.FnExactWithoutOnes", spec := "fnExactWithoutOnes", plainKeys := false, apart := false, narrowed := true }
def FnExactWithoutOnesUptoSaid : Prop := fnExactWithoutOnesUptoRow.holds Try.pinned (OpenSpec.upto fnExactWithoutOnesSpec)

/-- 'laws.FnExactHangsOn', WHERE WHAT IT READS IS OF BULK AT MOST 1048576: true; the input reads as it did. -/
def fnExactHangsOnUptoRow : OpenClaim := { program := "ythnoeknalpnadaa", sum := "a6570fc736ad61657e9ca5152e7cd924cf88561b3c7465310a53d099396ef189", func := "loop.example/g00698/laws.FnExactHangsOn", spec := "fnExactHangsOn", plainKeys := false, apart := false, narrowed := true }
def FnExactHangsOnUptoSaid : Prop := fnExactHangsOnUptoRow.holds Try.pinned (OpenSpec.upto fnExactHangsOnSpec)

/-- 'laws.FnExactGoodMsg', WHERE WHAT IT READS IS OF BULK AT MOST 1048576: true; the input reads as it did. -/
def fnExactGoodMsgUptoRow : OpenClaim := { program := "ythnoeknalpnadaa", sum := "a6570fc736ad61657e9ca5152e7cd924cf88561b3c7465310a53d099396ef189", func := "loop.example/g00698/laws.FnExactGoodMsg", spec := "fnExactGoodMsg", unfollowed := true, recurses := true, plainKeys := false, apart := false, narrowed := true }
def FnExactGoodMsgUptoSaid : Prop := fnExactGoodMsgUptoRow.holds Try.pinned (OpenSpec.upto fnExactGoodMsgSpec)

end Rows
end Go.Proofs.Ythnoeknalpnadaa
