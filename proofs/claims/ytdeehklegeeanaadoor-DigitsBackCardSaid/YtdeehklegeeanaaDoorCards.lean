/-
  DERIVED. GIVEN WITH THE SEED: THE CARDS: each row of YtdeehklegeeanaaDoorRows.lean that lists a variable, with what it lists TIED to the program's text (the seventh form; the later family's looks); each row that meets fmt, with fmt's text TOLD by the authors' own Lean function (tested against real Go, not proved from fmt's source: count such statements apart). THE CARD IS WHAT COUNTS. Prove the row's statement (the work); the ties are given (YtdeehklegeeanaaDoorTie.lean); close each card by the builder's one call (the guide's Derived/Test/ToyasCard.lean, 'card_holds'). Laid BY PROGRAM, IN A SANDBOX (cutbox-door.mjs). By AI agents, Wed Nov 11 2026. No macro, syntax, notation, axiom, sorry.
-/
import Derived.Test.YtdeehklegeeanaaDoorRows
import GoSem.ClaimSeven
namespace Go.Proofs.YtdeehklegeeanaaDoor
namespace Rows

/-- THE TIED CARD OF 'pacemakerlaw03.DigitsReads'. -/
def digitsReadsCard : Claim7 := { stood := { row := digitsReadsRow, standIns := [], harness := (true, "f464d0e415f582851cbc4a7008c69179a11284074bc000c06b44c63937df0a58"), looks := true }, kinds := [], alts := [], laidByText := true, laidKinds := [.data, .data, .data, .data, .sentinel, .sentinel, .data, .pinned], laidTests := true, laidLooks := .later }
def DigitsReadsCardSaid : Prop := Claim7.holds Tryd.pinned (.plain (OpenSpec.ofChange digitsReadsSpec)) digitsReadsCard

/-- THE TIED CARD OF 'pacemakerlaw03.DigitsBack'. -/
def digitsBackCard : Claim7 := { stood := { row := digitsBackRow, standIns := [], harness := (true, "f464d0e415f582851cbc4a7008c69179a11284074bc000c06b44c63937df0a58"), looks := true }, kinds := [], alts := [], laidByText := true, laidKinds := [.data, .data, .data, .data, .sentinel, .sentinel, .data, .pinned], laidTests := true, laidLooks := .later }
def DigitsBackCardSaid : Prop := Claim7.holds Tryd.pinned (.plain (OpenSpec.ofChange digitsBackSpec)) digitsBackCard

/-- THE TIED CARD OF 'pacemakerlaw03.DigitsWords'. -/
def digitsWordsCard : Claim7 := { stood := { row := digitsWordsRow, standIns := [], harness := (true, "f464d0e415f582851cbc4a7008c69179a11284074bc000c06b44c63937df0a58"), looks := true }, kinds := [], alts := [], laidByText := true, laidKinds := [.data, .data, .data, .data, .sentinel, .sentinel, .data, .pinned], laidTests := true, laidLooks := .later }
def DigitsWordsCardSaid : Prop := Claim7.holds Tryd.pinned (.plain (OpenSpec.ofChange digitsWordsSpec)) digitsWordsCard

/-- THE TIED CARD OF 'pacemakerlaw03.DigitsJoins'. -/
def digitsJoinsCard : Claim7 := { stood := { row := digitsJoinsRow, standIns := [], harness := (true, "f464d0e415f582851cbc4a7008c69179a11284074bc000c06b44c63937df0a58"), looks := true }, kinds := [], alts := [], laidByText := true, laidKinds := [.data, .data, .data, .data, .sentinel, .sentinel, .data, .pinned], laidTests := true, laidLooks := .later }
def DigitsJoinsCardSaid : Prop := Claim7.holds Tryd.pinned (.plain (OpenSpec.ofChange digitsJoinsSpec)) digitsJoinsCard

/-- THE TIED CARD OF 'pacemakerlaw08.FfsPlays'. -/
def ffsPlaysCard : Claim7 := { stood := { row := ffsPlaysRow, standIns := [], harness := (true, "f464d0e415f582851cbc4a7008c69179a11284074bc000c06b44c63937df0a58"), looks := true }, kinds := [], alts := [], laidByText := true, laidKinds := [.data], laidTests := true, laidLooks := .later }
def FfsPlaysCardSaid : Prop := Claim7.holds Tryd.pinned (.plain (OpenSpec.ofChange ffsPlaysSpec)) ffsPlaysCard

/-- THE TIED CARD OF 'pacemakerlaw08.FfsRound'. -/
def ffsRoundCard : Claim7 := { stood := { row := ffsRoundRow, standIns := [], harness := (true, "f464d0e415f582851cbc4a7008c69179a11284074bc000c06b44c63937df0a58"), looks := true }, kinds := [], alts := [], laidByText := true, laidKinds := [.data], laidTests := true, laidLooks := .later }
def FfsRoundCardSaid : Prop := Claim7.holds Tryd.pinned (.plain (OpenSpec.ofChange ffsRoundSpec)) ffsRoundCard

/-- THE SECOND FORM's CARD OF 'pacemakerlaw03.DigitsReads'. -/
def digitsReadsUptoCard : Claim7 := { stood := { row := digitsReadsUptoRow, standIns := [], harness := (true, "f464d0e415f582851cbc4a7008c69179a11284074bc000c06b44c63937df0a58"), looks := true }, kinds := [], alts := [], laidByText := true, laidKinds := [.data, .data, .data, .data, .sentinel, .sentinel, .data, .pinned], laidTests := true, laidLooks := .later }
def DigitsReadsUptoCardSaid : Prop := Claim7.holds Tryd.pinned (.plain (OpenSpec.upto digitsReadsSpec)) digitsReadsUptoCard

/-- THE SECOND FORM's CARD OF 'pacemakerlaw03.DigitsBack'. -/
def digitsBackUptoCard : Claim7 := { stood := { row := digitsBackUptoRow, standIns := [], harness := (true, "f464d0e415f582851cbc4a7008c69179a11284074bc000c06b44c63937df0a58"), looks := true }, kinds := [], alts := [], laidByText := true, laidKinds := [.data, .data, .data, .data, .sentinel, .sentinel, .data, .pinned], laidTests := true, laidLooks := .later }
def DigitsBackUptoCardSaid : Prop := Claim7.holds Tryd.pinned (.plain (OpenSpec.upto digitsBackSpec)) digitsBackUptoCard

/-- THE SECOND FORM's CARD OF 'pacemakerlaw03.DigitsWords'. -/
def digitsWordsUptoCard : Claim7 := { stood := { row := digitsWordsUptoRow, standIns := [], harness := (true, "f464d0e415f582851cbc4a7008c69179a11284074bc000c06b44c63937df0a58"), looks := true }, kinds := [], alts := [], laidByText := true, laidKinds := [.data, .data, .data, .data, .sentinel, .sentinel, .data, .pinned], laidTests := true, laidLooks := .later }
def DigitsWordsUptoCardSaid : Prop := Claim7.holds Tryd.pinned (.plain (OpenSpec.upto digitsWordsSpec)) digitsWordsUptoCard

/-- THE SECOND FORM's CARD OF 'pacemakerlaw03.DigitsJoins'. -/
def digitsJoinsUptoCard : Claim7 := { stood := { row := digitsJoinsUptoRow, standIns := [], harness := (true, "f464d0e415f582851cbc4a7008c69179a11284074bc000c06b44c63937df0a58"), looks := true }, kinds := [], alts := [], laidByText := true, laidKinds := [.data, .data, .data, .data, .sentinel, .sentinel, .data, .pinned], laidTests := true, laidLooks := .later }
def DigitsJoinsUptoCardSaid : Prop := Claim7.holds Tryd.pinned (.plain (OpenSpec.upto digitsJoinsSpec)) digitsJoinsUptoCard

/-- THE SECOND FORM's CARD OF 'pacemakerlaw08.FfsPlays'. -/
def ffsPlaysUptoCard : Claim7 := { stood := { row := ffsPlaysUptoRow, standIns := [], harness := (true, "f464d0e415f582851cbc4a7008c69179a11284074bc000c06b44c63937df0a58"), looks := true }, kinds := [], alts := [], laidByText := true, laidKinds := [.data], laidTests := true, laidLooks := .later }
def FfsPlaysUptoCardSaid : Prop := Claim7.holds Tryd.pinned (.plain (OpenSpec.upto ffsPlaysSpec)) ffsPlaysUptoCard

/-- THE SECOND FORM's CARD OF 'pacemakerlaw08.FfsRound'. -/
def ffsRoundUptoCard : Claim7 := { stood := { row := ffsRoundUptoRow, standIns := [], harness := (true, "f464d0e415f582851cbc4a7008c69179a11284074bc000c06b44c63937df0a58"), looks := true }, kinds := [], alts := [], laidByText := true, laidKinds := [.data], laidTests := true, laidLooks := .later }
def FfsRoundUptoCardSaid : Prop := Claim7.holds Tryd.pinned (.plain (OpenSpec.upto ffsRoundSpec)) ffsRoundUptoCard
end Rows
end Go.Proofs.YtdeehklegeeanaaDoor
