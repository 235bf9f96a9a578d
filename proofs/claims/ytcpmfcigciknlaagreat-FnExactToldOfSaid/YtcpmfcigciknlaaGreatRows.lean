/-
  No cell of these rows narrows 'for every input' (looked for: loops, veiled, ifaces, maps, wideKeys, modest, calm, conditions, laid).
  DERIVED. THE GIVEN ROWS OF THIS SEAT. 4 by the template 'for every input the law returns true; each argument reads behind the call as it read before'; 0 by the template 'total and deterministic' (their statements: YtcpmfcigciknlaaGreatTotals.lean).
  GIVEN WITH THE SEED: the statements are not yours to turn. If you find one false, say at which input.
  Laid BY PROGRAM, IN A SANDBOX (cutbox-rows.mjs): the forced cells as the released guide's own fill.sh prints them over the translation 7291f98723cb85c2… (all of the seat's roots in one cut). By AI agents, Wed Nov 11 2026. No macro, syntax, notation, axiom, sorry.
-/
import Derived.Test.YtcpmfcigciknlaaGreatChecked
import GoSem.Claim
import GoSem.ClaimJoined
import GoSem.ClaimMapViews
import Derived.JoinedTies
import Derived.KernelRfl
namespace Go.Proofs.YtcpmfcigciknlaaGreat
/- THE CELL 'sum', in the pinned program and in every row, IS THE sha256 OF THE DUMP (.gsa) THAT YtcpmfcigciknlaaGreatProg.lean LOADS. Nothing in Lean hashes anything: it is a label: what it is worth is what the hold of that sum in a sandbox is worth. -/
noncomputable def Tryz.pinned : Pinned := { name := "ytcpmfcigciknlaagreat", sum := "7291f98723cb85c2421587287b1aeb211921f75142a9fe22b647699ae4cc10b2", checked := Tryz.checked }
namespace Rows
def none {H : Type} : Left H := { results := [], args := [] }

/-- 'laws.FnExactBookOf': WHATEVER THE INPUT: true; the input reads as it did. -/
def fnExactBookOfSpec : ChangeSpec := { name := "fnExactBookOf", fn := fun _ => fun
  | [d] => { results := [.lit (.bool true)], args := [d] }
  | _ => none }
def fnExactBookOfRow : OpenClaim := { program := "ytcpmfcigciknlaagreat", sum := "7291f98723cb85c2421587287b1aeb211921f75142a9fe22b647699ae4cc10b2", func := "loop.example/g00698/laws.FnExactBookOf", spec := "fnExactBookOf", unfollowed := true, recurses := true, plainKeys := false, apart := false }
def FnExactBookOfSaid : Prop := fnExactBookOfRow.holds Tryz.pinned (OpenSpec.ofChange fnExactBookOfSpec)

/-- ITS FALSE NEIGHBOUR: 'it returns false'. Refute it at one input. -/
def fnExactBookOfWrong : ChangeSpec := { name := "fnExactBookOf", fn := fun _ => fun
  | [d] => { results := [.lit (.bool false)], args := [d] }
  | _ => none }
def FnExactBookOfWrongFalsely : Prop := fnExactBookOfRow.holds Tryz.pinned (OpenSpec.ofChange fnExactBookOfWrong)

/-- 'laws.FnExactToldOf': WHATEVER THE INPUT: true; the input reads as it did. -/
def fnExactToldOfSpec : ChangeSpec := { name := "fnExactToldOf", fn := fun _ => fun
  | [d1, d2, d3] => { results := [.lit (.bool true)], args := [d1, d2, d3] }
  | _ => none }
def fnExactToldOfRow : OpenClaim := { program := "ytcpmfcigciknlaagreat", sum := "7291f98723cb85c2421587287b1aeb211921f75142a9fe22b647699ae4cc10b2", func := "loop.example/g00698/laws.FnExactToldOf", spec := "fnExactToldOf", unfollowed := true, recurses := true, plainKeys := false, apart := false }
def FnExactToldOfSaid : Prop := fnExactToldOfRow.holds Tryz.pinned (OpenSpec.ofChange fnExactToldOfSpec)

/-- ITS FALSE NEIGHBOUR: 'it returns false'. Refute it at one input. -/
def fnExactToldOfWrong : ChangeSpec := { name := "fnExactToldOf", fn := fun _ => fun
  | [d1, d2, d3] => { results := [.lit (.bool false)], args := [d1, d2, d3] }
  | _ => none }
def FnExactToldOfWrongFalsely : Prop := fnExactToldOfRow.holds Tryz.pinned (OpenSpec.ofChange fnExactToldOfWrong)

/-- 'laws.FnExactSameTold': WHATEVER THE INPUT: true; the input reads as it did. -/
def fnExactSameToldSpec : ChangeSpec := { name := "fnExactSameTold", fn := fun _ => fun
  | [d] => { results := [.lit (.bool true)], args := [d] }
  | _ => none }
def fnExactSameToldRow : OpenClaim := { program := "ytcpmfcigciknlaagreat", sum := "7291f98723cb85c2421587287b1aeb211921f75142a9fe22b647699ae4cc10b2", func := "loop.example/g00698/laws.FnExactSameTold", spec := "fnExactSameTold", unfollowed := true, recurses := true, plainKeys := false, apart := false }
def FnExactSameToldSaid : Prop := fnExactSameToldRow.holds Tryz.pinned (OpenSpec.ofChange fnExactSameToldSpec)

/-- ITS FALSE NEIGHBOUR: 'it returns false'. Refute it at one input. -/
def fnExactSameToldWrong : ChangeSpec := { name := "fnExactSameTold", fn := fun _ => fun
  | [d] => { results := [.lit (.bool false)], args := [d] }
  | _ => none }
def FnExactSameToldWrongFalsely : Prop := fnExactSameToldRow.holds Tryz.pinned (OpenSpec.ofChange fnExactSameToldWrong)

/-- 'laws.FnExactOrderIn': WHATEVER THE INPUT: true; the input reads as it did. -/
def fnExactOrderInSpec : ChangeSpec := { name := "fnExactOrderIn", fn := fun _ => fun
  | [d] => { results := [.lit (.bool true)], args := [d] }
  | _ => none }
def fnExactOrderInRow : OpenClaim := { program := "ytcpmfcigciknlaagreat", sum := "7291f98723cb85c2421587287b1aeb211921f75142a9fe22b647699ae4cc10b2", func := "loop.example/g00698/laws.FnExactOrderIn", spec := "fnExactOrderIn", unfollowed := true, recurses := true, plainKeys := false, apart := false }
def FnExactOrderInSaid : Prop := fnExactOrderInRow.holds Tryz.pinned (OpenSpec.ofChange fnExactOrderInSpec)

/-- ITS FALSE NEIGHBOUR: 'it returns false'. Refute it at one input. -/
def fnExactOrderInWrong : ChangeSpec := { name := "fnExactOrderIn", fn := fun _ => fun
  | [d] => { results := [.lit (.bool false)], args := [d] }
  | _ => none }
def FnExactOrderInWrongFalsely : Prop := fnExactOrderInRow.holds Tryz.pinned (OpenSpec.ofChange fnExactOrderInWrong)

/- THE SECOND FORM. 'bulk': how many values and letters a reading holds, each counted each time it is reached (what is shared counts as often as it is met; a slice's spare places count too). A statement '..UptoSaid' is the law's where the arguments, and the package variables that the reading takes, are together of bulk at most 1048576: NARROWER than '..Said'. Prove '..Said' where nothing that the law and all that it calls make is longer than what came in: it says more and counts as full. Else prove '..UptoSaid'. A law counts once. -/
mutual
def uptoBulk {H : Type} : DataW H → Nat
  | .lit (.string bytes) => bytes.length + 1
  | .lit _ => 1
  | .nil => 1
  | .ptr d => uptoBulk d + 1
  | .slice elems spare => uptoBulkAll elems + uptoBulkAll spare + 1
  | .agg parts => uptoBulkAll parts + 1
  | .iface _ d => uptoBulk d + 1
  | .map entries => uptoBulkEntries entries + 1
  | .held _ => 1
def uptoBulkAll {H : Type} : List (DataW H) → Nat
  | [] => 0
  | d :: r => uptoBulk d + uptoBulkAll r
def uptoBulkEntries {H : Type} : List (Lit × DataW H) → Nat
  | [] => 0
  | x :: r => uptoBulkEntry x + uptoBulkEntries r
def uptoBulkEntry {H : Type} : Lit × DataW H → Nat
  | (.string bytes, d) => bytes.length + uptoBulk d + 1
  | (_, d) => uptoBulk d + 1
 end
def uptoSmall : (H : Type) → List (DataW H) → Bool := fun _ ds => decide (uptoBulkAll ds ≤ 1048576)
def OpenSpec.upto (s : _root_.Go.ChangeSpec) : _root_.Go.OpenSpec := { _root_.Go.OpenSpec.ofChange s with cond := some uptoSmall }

/-- 'laws.FnExactBookOf', WHERE WHAT IT READS IS OF BULK AT MOST 1048576: true; the input reads as it did. -/
def fnExactBookOfUptoRow : OpenClaim := { program := "ytcpmfcigciknlaagreat", sum := "7291f98723cb85c2421587287b1aeb211921f75142a9fe22b647699ae4cc10b2", func := "loop.example/g00698/laws.FnExactBookOf", spec := "fnExactBookOf", unfollowed := true, recurses := true, plainKeys := false, apart := false, narrowed := true }
def FnExactBookOfUptoSaid : Prop := fnExactBookOfUptoRow.holds Tryz.pinned (OpenSpec.upto fnExactBookOfSpec)

/-- 'laws.FnExactToldOf', WHERE WHAT IT READS IS OF BULK AT MOST 1048576: true; the input reads as it did. -/
def fnExactToldOfUptoRow : OpenClaim := { program := "ytcpmfcigciknlaagreat", sum := "7291f98723cb85c2421587287b1aeb211921f75142a9fe22b647699ae4cc10b2", func := "loop.example/g00698/laws.FnExactToldOf", spec := "fnExactToldOf", unfollowed := true, recurses := true, plainKeys := false, apart := false, narrowed := true }
def FnExactToldOfUptoSaid : Prop := fnExactToldOfUptoRow.holds Tryz.pinned (OpenSpec.upto fnExactToldOfSpec)

/-- 'laws.FnExactSameTold', WHERE WHAT IT READS IS OF BULK AT MOST 1048576: true; the input reads as it did. -/
def fnExactSameToldUptoRow : OpenClaim := { program := "ytcpmfcigciknlaagreat", sum := "7291f98723cb85c2421587287b1aeb211921f75142a9fe22b647699ae4cc10b2", func := "loop.example/g00698/laws.FnExactSameTold", spec := "fnExactSameTold", unfollowed := true, recurses := true, plainKeys := false, apart := false, narrowed := true }
def FnExactSameToldUptoSaid : Prop := fnExactSameToldUptoRow.holds Tryz.pinned (OpenSpec.upto fnExactSameToldSpec)

/-- 'laws.FnExactOrderIn', WHERE WHAT IT READS IS OF BULK AT MOST 1048576: true; the input reads as it did. -/
def fnExactOrderInUptoRow : OpenClaim := { program := "ytcpmfcigciknlaagreat", sum := "7291f98723cb85c2421587287b1aeb211921f75142a9fe22b647699ae4cc10b2", func := "loop.example/g00698/laws.FnExactOrderIn", spec := "fnExactOrderIn", unfollowed := true, recurses := true, plainKeys := false, apart := false, narrowed := true }
def FnExactOrderInUptoSaid : Prop := fnExactOrderInUptoRow.holds Tryz.pinned (OpenSpec.upto fnExactOrderInSpec)

end Rows
end Go.Proofs.YtcpmfcigciknlaaGreat
