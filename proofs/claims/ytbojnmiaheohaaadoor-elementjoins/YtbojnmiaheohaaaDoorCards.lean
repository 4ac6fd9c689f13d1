/-
  DERIVED. GIVEN WITH THE SEED: THE CARDS: each row of YtbojnmiaheohaaaDoorRows.lean that lists a variable, with what it lists TIED to the program's text (the seventh form; the later family's looks); each row that meets fmt, with fmt's text TOLD by the authors' own Lean function (tested against real Go, not proved from fmt's source: count such statements apart). THE CARD IS WHAT COUNTS. Prove the row's statement (the work); the ties are given (YtbojnmiaheohaaaDoorTie.lean); close each card by the builder's one call (the guide's Derived/Test/ToyasCard.lean, 'card_holds'). Laid BY PROGRAM, IN A SANDBOX (cutbox-door.mjs). By AI agents, Wed Nov 11 2026. No macro, syntax, notation, axiom, sorry.
-/
import Derived.Test.YtbojnmiaheohaaaDoorRows
import GoSem.ClaimSeven
namespace Go.Proofs.YtbojnmiaheohaaaDoor
namespace Rows

/-- THE TIED CARD OF 'newellaw03.ElementDeep'. -/
def elementDeepCard : Claim7 := { stood := { row := elementDeepRow, standIns := [], harness := (true, "181f704d475d828cc547156bb33d3ad43e1675f996bcee88a320a59e4dcbde7d"), looks := true }, kinds := [], alts := [], laidByText := true, laidKinds := [.data, .data, .data, .sentinel, .sentinel], laidTests := true, laidLooks := .later }
def ElementDeepCardSaid : Prop := Claim7.holds Tryd.pinned (.plain (OpenSpec.ofChange elementDeepSpec)) elementDeepCard

/-- THE TIED CARD OF 'newellaw03.ElementJoins'. -/
def elementJoinsCard : Claim7 := { stood := { row := elementJoinsRow, standIns := [], harness := (true, "181f704d475d828cc547156bb33d3ad43e1675f996bcee88a320a59e4dcbde7d"), looks := true }, kinds := [], alts := [], laidByText := true, laidKinds := [.data, .data, .data, .sentinel, .sentinel], laidTests := true, laidLooks := .later }
def ElementJoinsCardSaid : Prop := Claim7.holds Tryd.pinned (.plain (OpenSpec.ofChange elementJoinsSpec)) elementJoinsCard

/-- THE TIED CARD OF 'newellaw03.ElementKids'. -/
def elementKidsCard : Claim7 := { stood := { row := elementKidsRow, standIns := [], harness := (true, "181f704d475d828cc547156bb33d3ad43e1675f996bcee88a320a59e4dcbde7d"), looks := true }, kinds := [], alts := [], laidByText := true, laidKinds := [.data, .data, .data, .sentinel, .sentinel], laidTests := true, laidLooks := .later }
def ElementKidsCardSaid : Prop := Claim7.holds Tryd.pinned (.plain (OpenSpec.ofChange elementKidsSpec)) elementKidsCard

/-- THE TIED CARD OF 'newellaw03.ElementBig'. -/
def elementBigCard : Claim7 := { stood := { row := elementBigRow, standIns := [], harness := (true, "181f704d475d828cc547156bb33d3ad43e1675f996bcee88a320a59e4dcbde7d"), looks := true }, kinds := [], alts := [], laidByText := true, laidKinds := [.data, .data, .data, .sentinel, .sentinel], laidTests := true, laidLooks := .later }
def ElementBigCardSaid : Prop := Claim7.holds Tryd.pinned (.plain (OpenSpec.ofChange elementBigSpec)) elementBigCard

/-- THE SECOND FORM's CARD OF 'newellaw03.ElementDeep'. -/
def elementDeepUptoCard : Claim7 := { stood := { row := elementDeepUptoRow, standIns := [], harness := (true, "181f704d475d828cc547156bb33d3ad43e1675f996bcee88a320a59e4dcbde7d"), looks := true }, kinds := [], alts := [], laidByText := true, laidKinds := [.data, .data, .data, .sentinel, .sentinel], laidTests := true, laidLooks := .later }
def ElementDeepUptoCardSaid : Prop := Claim7.holds Tryd.pinned (.plain (OpenSpec.upto elementDeepSpec)) elementDeepUptoCard

/-- THE SECOND FORM's CARD OF 'newellaw03.ElementJoins'. -/
def elementJoinsUptoCard : Claim7 := { stood := { row := elementJoinsUptoRow, standIns := [], harness := (true, "181f704d475d828cc547156bb33d3ad43e1675f996bcee88a320a59e4dcbde7d"), looks := true }, kinds := [], alts := [], laidByText := true, laidKinds := [.data, .data, .data, .sentinel, .sentinel], laidTests := true, laidLooks := .later }
def ElementJoinsUptoCardSaid : Prop := Claim7.holds Tryd.pinned (.plain (OpenSpec.upto elementJoinsSpec)) elementJoinsUptoCard

/-- THE SECOND FORM's CARD OF 'newellaw03.ElementKids'. -/
def elementKidsUptoCard : Claim7 := { stood := { row := elementKidsUptoRow, standIns := [], harness := (true, "181f704d475d828cc547156bb33d3ad43e1675f996bcee88a320a59e4dcbde7d"), looks := true }, kinds := [], alts := [], laidByText := true, laidKinds := [.data, .data, .data, .sentinel, .sentinel], laidTests := true, laidLooks := .later }
def ElementKidsUptoCardSaid : Prop := Claim7.holds Tryd.pinned (.plain (OpenSpec.upto elementKidsSpec)) elementKidsUptoCard

/-- THE SECOND FORM's CARD OF 'newellaw03.ElementBig'. -/
def elementBigUptoCard : Claim7 := { stood := { row := elementBigUptoRow, standIns := [], harness := (true, "181f704d475d828cc547156bb33d3ad43e1675f996bcee88a320a59e4dcbde7d"), looks := true }, kinds := [], alts := [], laidByText := true, laidKinds := [.data, .data, .data, .sentinel, .sentinel], laidTests := true, laidLooks := .later }
def ElementBigUptoCardSaid : Prop := Claim7.holds Tryd.pinned (.plain (OpenSpec.upto elementBigSpec)) elementBigUptoCard
end Rows
end Go.Proofs.YtbojnmiaheohaaaDoor
