/-
  DERIVED. GIVEN WITH THE SEED: THE CARDS: each row of YtfadmcgaojnghaaDoorRows.lean that lists a variable, with what it lists TIED to the program's text (the seventh form; the later family's looks); each row that meets fmt, with fmt's text TOLD by the authors' own Lean function (tested against real Go, not proved from fmt's source: count such statements apart). THE CARD IS WHAT COUNTS. Prove the row's statement (the work); the ties are given (YtfadmcgaojnghaaDoorTie.lean); close each card by the builder's one call (the guide's Derived/Test/ToyasCard.lean, 'card_holds'). Laid BY PROGRAM, IN A SANDBOX (cutbox-door.mjs). By AI agents, Wed Nov 11 2026. No macro, syntax, notation, axiom, sorry.
-/
import Derived.Test.YtfadmcgaojnghaaDoorRows
import GoSem.ClaimSeven
namespace Go.Proofs.YtfadmcgaojnghaaDoor
namespace Rows

/-- THE TIED CARD OF 'laws.FnCmds'. -/
def fnCmdsCard : Claim7 := { stood := { row := fnCmdsRow, standIns := [], harness := (true, "7ebeb408cca0173a32a7f1061c0b35269c286476a77d94ca7802fb0a9c058b91"), looks := true }, kinds := [], alts := [], laidByText := true, laidKinds := [.data, .data, .data, .data, .sentinel, .sentinel, .data, .pinned], laidTests := true, laidLooks := .later }
def FnCmdsCardSaid : Prop := Claim7.holds Tryd.pinned (.plain (OpenSpec.ofChange fnCmdsSpec)) fnCmdsCard

/-- THE TIED CARD OF 'laws.FnExactReadCmd'. -/
def fnExactReadCmdCard : Claim7 := { stood := { row := fnExactReadCmdRow, standIns := [], harness := (true, "7ebeb408cca0173a32a7f1061c0b35269c286476a77d94ca7802fb0a9c058b91"), looks := true }, kinds := [], alts := [], laidByText := true, laidKinds := [.data, .data, .data, .data, .sentinel, .sentinel, .data, .pinned], laidTests := true, laidLooks := .later }
def FnExactReadCmdCardSaid : Prop := Claim7.holds Tryd.pinned (.plain (OpenSpec.ofChange fnExactReadCmdSpec)) fnExactReadCmdCard

/-- THE TIED CARD OF 'laws.FnExactAttrText'. -/
def fnExactAttrTextCard : Claim7 := { stood := { row := fnExactAttrTextRow, standIns := [], harness := (true, "7ebeb408cca0173a32a7f1061c0b35269c286476a77d94ca7802fb0a9c058b91"), looks := true }, kinds := [], alts := [], laidByText := true, laidKinds := [.data, .data, .data], laidTests := true, laidLooks := .later }
def FnExactAttrTextCardSaid : Prop := Claim7.holds Tryd.pinned (.plain (OpenSpec.ofChange fnExactAttrTextSpec)) fnExactAttrTextCard

/-- THE TIED CARD OF 'laws.FnExactReadAttr'. -/
def fnExactReadAttrCard : Claim7 := { stood := { row := fnExactReadAttrRow, standIns := [], harness := (true, "7ebeb408cca0173a32a7f1061c0b35269c286476a77d94ca7802fb0a9c058b91"), looks := true }, kinds := [], alts := [], laidByText := true, laidKinds := [.data, .data, .data, .data, .sentinel, .sentinel, .pinned], laidTests := true, laidLooks := .later }
def FnExactReadAttrCardSaid : Prop := Claim7.holds Tryd.pinned (.plain (OpenSpec.ofChange fnExactReadAttrSpec)) fnExactReadAttrCard

/-- THE SECOND FORM's CARD OF 'laws.FnCmds'. -/
def fnCmdsUptoCard : Claim7 := { stood := { row := fnCmdsUptoRow, standIns := [], harness := (true, "7ebeb408cca0173a32a7f1061c0b35269c286476a77d94ca7802fb0a9c058b91"), looks := true }, kinds := [], alts := [], laidByText := true, laidKinds := [.data, .data, .data, .data, .sentinel, .sentinel, .data, .pinned], laidTests := true, laidLooks := .later }
def FnCmdsUptoCardSaid : Prop := Claim7.holds Tryd.pinned (.plain (OpenSpec.upto fnCmdsSpec)) fnCmdsUptoCard

/-- THE SECOND FORM's CARD OF 'laws.FnExactReadCmd'. -/
def fnExactReadCmdUptoCard : Claim7 := { stood := { row := fnExactReadCmdUptoRow, standIns := [], harness := (true, "7ebeb408cca0173a32a7f1061c0b35269c286476a77d94ca7802fb0a9c058b91"), looks := true }, kinds := [], alts := [], laidByText := true, laidKinds := [.data, .data, .data, .data, .sentinel, .sentinel, .data, .pinned], laidTests := true, laidLooks := .later }
def FnExactReadCmdUptoCardSaid : Prop := Claim7.holds Tryd.pinned (.plain (OpenSpec.upto fnExactReadCmdSpec)) fnExactReadCmdUptoCard

/-- THE SECOND FORM's CARD OF 'laws.FnExactAttrText'. -/
def fnExactAttrTextUptoCard : Claim7 := { stood := { row := fnExactAttrTextUptoRow, standIns := [], harness := (true, "7ebeb408cca0173a32a7f1061c0b35269c286476a77d94ca7802fb0a9c058b91"), looks := true }, kinds := [], alts := [], laidByText := true, laidKinds := [.data, .data, .data], laidTests := true, laidLooks := .later }
def FnExactAttrTextUptoCardSaid : Prop := Claim7.holds Tryd.pinned (.plain (OpenSpec.upto fnExactAttrTextSpec)) fnExactAttrTextUptoCard

/-- THE SECOND FORM's CARD OF 'laws.FnExactReadAttr'. -/
def fnExactReadAttrUptoCard : Claim7 := { stood := { row := fnExactReadAttrUptoRow, standIns := [], harness := (true, "7ebeb408cca0173a32a7f1061c0b35269c286476a77d94ca7802fb0a9c058b91"), looks := true }, kinds := [], alts := [], laidByText := true, laidKinds := [.data, .data, .data, .data, .sentinel, .sentinel, .pinned], laidTests := true, laidLooks := .later }
def FnExactReadAttrUptoCardSaid : Prop := Claim7.holds Tryd.pinned (.plain (OpenSpec.upto fnExactReadAttrSpec)) fnExactReadAttrUptoCard
end Rows
end Go.Proofs.YtfadmcgaojnghaaDoor
