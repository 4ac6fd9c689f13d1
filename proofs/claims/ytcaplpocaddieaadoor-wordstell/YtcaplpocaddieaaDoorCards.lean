/-
  DERIVED. GIVEN WITH THE SEED: THE CARDS: each row of YtcaplpocaddieaaDoorRows.lean that lists a variable, with what it lists TIED to the program's text (the seventh form; the later family's looks); each row that meets fmt, with fmt's text TOLD by the authors' own Lean function (tested against real Go, not proved from fmt's source: count such statements apart). THE CARD IS WHAT COUNTS. Prove the row's statement (the work); the ties are given (YtcaplpocaddieaaDoorTie.lean); close each card by the builder's one call (the guide's Derived/Test/ToyasCard.lean, 'card_holds'). Laid BY PROGRAM, IN A SANDBOX (cutbox-door.mjs). By AI agents, Wed Nov 11 2026. No macro, syntax, notation, axiom, sorry.
-/
import Derived.Test.YtcaplpocaddieaaDoorRows
import GoSem.ClaimSeven
namespace Go.Proofs.YtcaplpocaddieaaDoor
namespace Rows

/-- THE TIED CARD OF 'newellaw05.WordsTell'. -/
def wordsTellCard : Claim7 := { stood := { row := wordsTellRow, standIns := [], harness := (true, "69d5a6d4a2564b1b66bdb5c91232532cc7ebdd68d78f2990dca9fc3a10b7bfbe"), looks := false }, kinds := [], alts := [], laidByText := true, laidKinds := [.data, .pinned], laidTests := true, laidLooks := .later }
def WordsTellCardSaid : Prop := Claim7.holds Tryd.pinned (.plain (OpenSpec.ofChange wordsTellSpec)) wordsTellCard

/-- THE TIED CARD OF 'newellaw05.WordsForm'. -/
def wordsFormCard : Claim7 := { stood := { row := wordsFormRow, standIns := [], harness := (true, "69d5a6d4a2564b1b66bdb5c91232532cc7ebdd68d78f2990dca9fc3a10b7bfbe"), looks := false }, kinds := [], alts := [], laidByText := true, laidKinds := [.data, .pinned], laidTests := true, laidLooks := .later }
def WordsFormCardSaid : Prop := Claim7.holds Tryd.pinned (.plain (OpenSpec.ofChange wordsFormSpec)) wordsFormCard

/-- THE TIED CARD OF 'newellaw05.WordsZeros'. -/
def wordsZerosCard : Claim7 := { stood := { row := wordsZerosRow, standIns := [], harness := (true, "69d5a6d4a2564b1b66bdb5c91232532cc7ebdd68d78f2990dca9fc3a10b7bfbe"), looks := false }, kinds := [], alts := [], laidByText := true, laidKinds := [.data, .pinned], laidTests := true, laidLooks := .later }
def WordsZerosCardSaid : Prop := Claim7.holds Tryd.pinned (.plain (OpenSpec.ofChange wordsZerosSpec)) wordsZerosCard

/-- THE TIED CARD OF 'newellaw05.WordsShort'. -/
def wordsShortCard : Claim7 := { stood := { row := wordsShortRow, standIns := [], harness := (true, "69d5a6d4a2564b1b66bdb5c91232532cc7ebdd68d78f2990dca9fc3a10b7bfbe"), looks := false }, kinds := [], alts := [], laidByText := true, laidKinds := [.data, .pinned], laidTests := true, laidLooks := .later }
def WordsShortCardSaid : Prop := Claim7.holds Tryd.pinned (.plain (OpenSpec.ofChange wordsShortSpec)) wordsShortCard

/-- THE TIED CARD OF 'newellaw05.WordsParts'. -/
def wordsPartsCard : Claim7 := { stood := { row := wordsPartsRow, standIns := [], harness := (true, "69d5a6d4a2564b1b66bdb5c91232532cc7ebdd68d78f2990dca9fc3a10b7bfbe"), looks := false }, kinds := [], alts := [], laidByText := true, laidKinds := [.data, .pinned], laidTests := true, laidLooks := .later }
def WordsPartsCardSaid : Prop := Claim7.holds Tryd.pinned (.plain (OpenSpec.ofChange wordsPartsSpec)) wordsPartsCard

/-- THE TIED CARD OF 'newellaw05.WordsRight'. -/
def wordsRightCard : Claim7 := { stood := { row := wordsRightRow, standIns := [], harness := (true, "69d5a6d4a2564b1b66bdb5c91232532cc7ebdd68d78f2990dca9fc3a10b7bfbe"), looks := false }, kinds := [], alts := [], laidByText := true, laidKinds := [.data, .pinned], laidTests := true, laidLooks := .later }
def WordsRightCardSaid : Prop := Claim7.holds Tryd.pinned (.plain (OpenSpec.ofChange wordsRightSpec)) wordsRightCard

/-- THE SECOND FORM's CARD OF 'newellaw05.WordsTell'. -/
def wordsTellUptoCard : Claim7 := { stood := { row := wordsTellUptoRow, standIns := [], harness := (true, "69d5a6d4a2564b1b66bdb5c91232532cc7ebdd68d78f2990dca9fc3a10b7bfbe"), looks := false }, kinds := [], alts := [], laidByText := true, laidKinds := [.data, .pinned], laidTests := true, laidLooks := .later }
def WordsTellUptoCardSaid : Prop := Claim7.holds Tryd.pinned (.plain (OpenSpec.upto wordsTellSpec)) wordsTellUptoCard

/-- THE SECOND FORM's CARD OF 'newellaw05.WordsForm'. -/
def wordsFormUptoCard : Claim7 := { stood := { row := wordsFormUptoRow, standIns := [], harness := (true, "69d5a6d4a2564b1b66bdb5c91232532cc7ebdd68d78f2990dca9fc3a10b7bfbe"), looks := false }, kinds := [], alts := [], laidByText := true, laidKinds := [.data, .pinned], laidTests := true, laidLooks := .later }
def WordsFormUptoCardSaid : Prop := Claim7.holds Tryd.pinned (.plain (OpenSpec.upto wordsFormSpec)) wordsFormUptoCard

/-- THE SECOND FORM's CARD OF 'newellaw05.WordsZeros'. -/
def wordsZerosUptoCard : Claim7 := { stood := { row := wordsZerosUptoRow, standIns := [], harness := (true, "69d5a6d4a2564b1b66bdb5c91232532cc7ebdd68d78f2990dca9fc3a10b7bfbe"), looks := false }, kinds := [], alts := [], laidByText := true, laidKinds := [.data, .pinned], laidTests := true, laidLooks := .later }
def WordsZerosUptoCardSaid : Prop := Claim7.holds Tryd.pinned (.plain (OpenSpec.upto wordsZerosSpec)) wordsZerosUptoCard

/-- THE SECOND FORM's CARD OF 'newellaw05.WordsShort'. -/
def wordsShortUptoCard : Claim7 := { stood := { row := wordsShortUptoRow, standIns := [], harness := (true, "69d5a6d4a2564b1b66bdb5c91232532cc7ebdd68d78f2990dca9fc3a10b7bfbe"), looks := false }, kinds := [], alts := [], laidByText := true, laidKinds := [.data, .pinned], laidTests := true, laidLooks := .later }
def WordsShortUptoCardSaid : Prop := Claim7.holds Tryd.pinned (.plain (OpenSpec.upto wordsShortSpec)) wordsShortUptoCard

/-- THE SECOND FORM's CARD OF 'newellaw05.WordsParts'. -/
def wordsPartsUptoCard : Claim7 := { stood := { row := wordsPartsUptoRow, standIns := [], harness := (true, "69d5a6d4a2564b1b66bdb5c91232532cc7ebdd68d78f2990dca9fc3a10b7bfbe"), looks := false }, kinds := [], alts := [], laidByText := true, laidKinds := [.data, .pinned], laidTests := true, laidLooks := .later }
def WordsPartsUptoCardSaid : Prop := Claim7.holds Tryd.pinned (.plain (OpenSpec.upto wordsPartsSpec)) wordsPartsUptoCard

/-- THE SECOND FORM's CARD OF 'newellaw05.WordsRight'. -/
def wordsRightUptoCard : Claim7 := { stood := { row := wordsRightUptoRow, standIns := [], harness := (true, "69d5a6d4a2564b1b66bdb5c91232532cc7ebdd68d78f2990dca9fc3a10b7bfbe"), looks := false }, kinds := [], alts := [], laidByText := true, laidKinds := [.data, .pinned], laidTests := true, laidLooks := .later }
def WordsRightUptoCardSaid : Prop := Claim7.holds Tryd.pinned (.plain (OpenSpec.upto wordsRightSpec)) wordsRightUptoCard
end Rows
end Go.Proofs.YtcaplpocaddieaaDoor
