/-
  DERIVED. GIVEN WITH THE SEED: THE CARDS: each row of YthmlggglemnfgaaDoorRows.lean that lists a variable, with what it lists TIED to the program's text (the seventh form; the later family's looks); each row that meets fmt, with fmt's text TOLD by the authors' own Lean function (tested against real Go, not proved from fmt's source: count such statements apart). THE CARD IS WHAT COUNTS. Prove the row's statement (the work); the ties are given (YthmlggglemnfgaaDoorTie.lean); close each card by the builder's one call (the guide's Derived/Test/ToyasCard.lean, 'card_holds'). Laid BY PROGRAM, IN A SANDBOX (cutbox-door.mjs). By AI agents, Wed Nov 11 2026. No macro, syntax, notation, axiom, sorry.
-/
import Derived.Test.YthmlggglemnfgaaDoorRows
import GoSem.ClaimSeven
namespace Go.Proofs.YthmlggglemnfgaaDoor
namespace Rows

/-- THE TIED CARD OF 'newellaw09.CoordTells'. -/
def coordTellsCard : Claim7 := { stood := { row := coordTellsRow, standIns := [], harness := (true, "957eec7ddd40e0dc313bc88cc124c9aad85ccd8cc6f9bb1c871d70062bd25c36"), looks := false }, kinds := [], alts := [], laidByText := true, laidKinds := [.data, .pinned], laidTests := true, laidLooks := .later }
def CoordTellsCardSaid : Prop := Claim7.holds Tryd.pinned (.plain (OpenSpec.ofChange coordTellsSpec)) coordTellsCard

/-- THE TIED CARD OF 'newellaw09.CoordBack'. -/
def coordBackCard : Claim7 := { stood := { row := coordBackRow, standIns := [], harness := (true, "957eec7ddd40e0dc313bc88cc124c9aad85ccd8cc6f9bb1c871d70062bd25c36"), looks := false }, kinds := [], alts := [], laidByText := true, laidKinds := [.data, .pinned], laidTests := true, laidLooks := .later }
def CoordBackCardSaid : Prop := Claim7.holds Tryd.pinned (.plain (OpenSpec.ofChange coordBackSpec)) coordBackCard

/-- THE TIED CARD OF 'newellaw09.CoordOrder'. -/
def coordOrderCard : Claim7 := { stood := { row := coordOrderRow, standIns := [], harness := (true, "957eec7ddd40e0dc313bc88cc124c9aad85ccd8cc6f9bb1c871d70062bd25c36"), looks := false }, kinds := [], alts := [], laidByText := true, laidKinds := [.data, .pinned], laidTests := true, laidLooks := .later }
def CoordOrderCardSaid : Prop := Claim7.holds Tryd.pinned (.plain (OpenSpec.ofChange coordOrderSpec)) coordOrderCard

/-- THE SECOND FORM's CARD OF 'newellaw09.CoordTells'. -/
def coordTellsUptoCard : Claim7 := { stood := { row := coordTellsUptoRow, standIns := [], harness := (true, "957eec7ddd40e0dc313bc88cc124c9aad85ccd8cc6f9bb1c871d70062bd25c36"), looks := false }, kinds := [], alts := [], laidByText := true, laidKinds := [.data, .pinned], laidTests := true, laidLooks := .later }
def CoordTellsUptoCardSaid : Prop := Claim7.holds Tryd.pinned (.plain (OpenSpec.upto coordTellsSpec)) coordTellsUptoCard

/-- THE SECOND FORM's CARD OF 'newellaw09.CoordBack'. -/
def coordBackUptoCard : Claim7 := { stood := { row := coordBackUptoRow, standIns := [], harness := (true, "957eec7ddd40e0dc313bc88cc124c9aad85ccd8cc6f9bb1c871d70062bd25c36"), looks := false }, kinds := [], alts := [], laidByText := true, laidKinds := [.data, .pinned], laidTests := true, laidLooks := .later }
def CoordBackUptoCardSaid : Prop := Claim7.holds Tryd.pinned (.plain (OpenSpec.upto coordBackSpec)) coordBackUptoCard

/-- THE SECOND FORM's CARD OF 'newellaw09.CoordOrder'. -/
def coordOrderUptoCard : Claim7 := { stood := { row := coordOrderUptoRow, standIns := [], harness := (true, "957eec7ddd40e0dc313bc88cc124c9aad85ccd8cc6f9bb1c871d70062bd25c36"), looks := false }, kinds := [], alts := [], laidByText := true, laidKinds := [.data, .pinned], laidTests := true, laidLooks := .later }
def CoordOrderUptoCardSaid : Prop := Claim7.holds Tryd.pinned (.plain (OpenSpec.upto coordOrderSpec)) coordOrderUptoCard
end Rows
end Go.Proofs.YthmlggglemnfgaaDoor
