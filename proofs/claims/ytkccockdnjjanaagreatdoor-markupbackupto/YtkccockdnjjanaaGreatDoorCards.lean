/-
  DERIVED. GIVEN WITH THE SEED: THE CARDS: each row of YtkccockdnjjanaaGreatDoorRows.lean that lists a variable, with what it lists TIED to the program's text (the seventh form; the later family's looks); each row that meets fmt, with fmt's text TOLD by the authors' own Lean function (tested against real Go, not proved from fmt's source: count such statements apart). THE CARD IS WHAT COUNTS. Prove the row's statement (the work); the ties are given (YtkccockdnjjanaaGreatDoorTie.lean); close each card by the builder's one call (the guide's Derived/Test/ToyasCard.lean, 'card_holds'). Laid BY PROGRAM, IN A SANDBOX (cutbox-door.mjs). By AI agents, Wed Nov 11 2026. No macro, syntax, notation, axiom, sorry.
-/
import Derived.Test.YtkccockdnjjanaaGreatDoorRows
import GoSem.ClaimSeven
namespace Go.Proofs.YtkccockdnjjanaaGreatDoor
namespace Rows

/-- THE TIED CARD OF 'newellaw03.ElementTells'. -/
def elementTellsCard : Claim7 := { stood := { row := elementTellsRow, standIns := [], harness := (true, "77b18d80104525a1e5f3e7af16f5fa863e15f4c8812bd0c911a386da94b4fa8c"), looks := true }, kinds := [], alts := [], laidByText := true, laidKinds := [.data, .data, .data, .sentinel, .sentinel], laidTests := true, laidLooks := .later }
def ElementTellsCardSaid : Prop := Claim7.holds Tryz.pinned (.plain (OpenSpec.ofChange elementTellsSpec)) elementTellsCard

/-- THE TIED CARD OF 'newellaw03.ElementStands'. -/
def elementStandsCard : Claim7 := { stood := { row := elementStandsRow, standIns := [], harness := (true, "77b18d80104525a1e5f3e7af16f5fa863e15f4c8812bd0c911a386da94b4fa8c"), looks := true }, kinds := [], alts := [], laidByText := true, laidKinds := [.data, .data, .data, .sentinel, .sentinel], laidTests := true, laidLooks := .later }
def ElementStandsCardSaid : Prop := Claim7.holds Tryz.pinned (.plain (OpenSpec.ofChange elementStandsSpec)) elementStandsCard

/-- THE TIED CARD OF 'newellaw04.MarkupBack'. -/
def markupBackCard : Claim7 := { stood := { row := markupBackRow, standIns := [], harness := (true, "77b18d80104525a1e5f3e7af16f5fa863e15f4c8812bd0c911a386da94b4fa8c"), looks := true }, kinds := [], alts := [], laidByText := true, laidKinds := [.data, .data, .data, .sentinel, .sentinel], laidTests := true, laidLooks := .later }
def MarkupBackCardSaid : Prop := Claim7.holds Tryz.pinned (.plain (OpenSpec.ofChange markupBackSpec)) markupBackCard

/-- THE SECOND FORM's CARD OF 'newellaw03.ElementTells'. -/
def elementTellsUptoCard : Claim7 := { stood := { row := elementTellsUptoRow, standIns := [], harness := (true, "77b18d80104525a1e5f3e7af16f5fa863e15f4c8812bd0c911a386da94b4fa8c"), looks := true }, kinds := [], alts := [], laidByText := true, laidKinds := [.data, .data, .data, .sentinel, .sentinel], laidTests := true, laidLooks := .later }
def ElementTellsUptoCardSaid : Prop := Claim7.holds Tryz.pinned (.plain (OpenSpec.upto elementTellsSpec)) elementTellsUptoCard

/-- THE SECOND FORM's CARD OF 'newellaw03.ElementStands'. -/
def elementStandsUptoCard : Claim7 := { stood := { row := elementStandsUptoRow, standIns := [], harness := (true, "77b18d80104525a1e5f3e7af16f5fa863e15f4c8812bd0c911a386da94b4fa8c"), looks := true }, kinds := [], alts := [], laidByText := true, laidKinds := [.data, .data, .data, .sentinel, .sentinel], laidTests := true, laidLooks := .later }
def ElementStandsUptoCardSaid : Prop := Claim7.holds Tryz.pinned (.plain (OpenSpec.upto elementStandsSpec)) elementStandsUptoCard

/-- THE SECOND FORM's CARD OF 'newellaw04.MarkupBack'. -/
def markupBackUptoCard : Claim7 := { stood := { row := markupBackUptoRow, standIns := [], harness := (true, "77b18d80104525a1e5f3e7af16f5fa863e15f4c8812bd0c911a386da94b4fa8c"), looks := true }, kinds := [], alts := [], laidByText := true, laidKinds := [.data, .data, .data, .sentinel, .sentinel], laidTests := true, laidLooks := .later }
def MarkupBackUptoCardSaid : Prop := Claim7.holds Tryz.pinned (.plain (OpenSpec.upto markupBackSpec)) markupBackUptoCard
end Rows
end Go.Proofs.YtkccockdnjjanaaGreatDoor
