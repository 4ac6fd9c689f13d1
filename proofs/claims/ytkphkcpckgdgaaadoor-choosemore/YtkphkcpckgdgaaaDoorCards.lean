/-
  DERIVED. GIVEN WITH THE SEED: THE CARDS: each row of YtkphkcpckgdgaaaDoorRows.lean that lists a variable, with what it lists TIED to the program's text (the seventh form; the later family's looks); each row that meets fmt, with fmt's text TOLD by the authors' own Lean function (tested against real Go, not proved from fmt's source: count such statements apart). THE CARD IS WHAT COUNTS. Prove the row's statement (the work); the ties are given (YtkphkcpckgdgaaaDoorTie.lean); close each card by the builder's one call (the guide's Derived/Test/ToyasCard.lean, 'card_holds'). Laid BY PROGRAM, IN A SANDBOX (cutbox-door.mjs). By AI agents, Wed Nov 11 2026. No macro, syntax, notation, axiom, sorry.
-/
import Derived.Test.YtkphkcpckgdgaaaDoorRows
import GoSem.ClaimSeven
namespace Go.Proofs.YtkphkcpckgdgaaaDoor
namespace Rows

/-- THE TIED CARD OF 'newellaw08.ChooseHolds'. -/
def chooseHoldsCard : Claim7 := { stood := { row := chooseHoldsRow, standIns := [], harness := (true, "1c0d4b48801e8bfcb20bffd50e4f6e6d95e3f1eedddfd71efb1e4fa623f61788"), looks := false }, kinds := [], alts := [], laidByText := true, laidKinds := [.data, .pinned], laidTests := true, laidLooks := .later }
def ChooseHoldsCardSaid : Prop := Claim7.holds Tryd.pinned (.plain (OpenSpec.ofChange chooseHoldsSpec)) chooseHoldsCard

/-- THE TIED CARD OF 'newellaw08.ChooseMore'. -/
def chooseMoreCard : Claim7 := { stood := { row := chooseMoreRow, standIns := [], harness := (true, "1c0d4b48801e8bfcb20bffd50e4f6e6d95e3f1eedddfd71efb1e4fa623f61788"), looks := false }, kinds := [], alts := [], laidByText := true, laidKinds := [.data, .pinned], laidTests := true, laidLooks := .later }
def ChooseMoreCardSaid : Prop := Claim7.holds Tryd.pinned (.plain (OpenSpec.ofChange chooseMoreSpec)) chooseMoreCard

/-- THE TIED CARD OF 'newellaw08.ChoosePlain'. -/
def choosePlainCard : Claim7 := { stood := { row := choosePlainRow, standIns := [], harness := (true, "1c0d4b48801e8bfcb20bffd50e4f6e6d95e3f1eedddfd71efb1e4fa623f61788"), looks := false }, kinds := [], alts := [], laidByText := true, laidKinds := [.data, .pinned], laidTests := true, laidLooks := .later }
def ChoosePlainCardSaid : Prop := Claim7.holds Tryd.pinned (.plain (OpenSpec.ofChange choosePlainSpec)) choosePlainCard

/-- THE SECOND FORM's CARD OF 'newellaw08.ChooseHolds'. -/
def chooseHoldsUptoCard : Claim7 := { stood := { row := chooseHoldsUptoRow, standIns := [], harness := (true, "1c0d4b48801e8bfcb20bffd50e4f6e6d95e3f1eedddfd71efb1e4fa623f61788"), looks := false }, kinds := [], alts := [], laidByText := true, laidKinds := [.data, .pinned], laidTests := true, laidLooks := .later }
def ChooseHoldsUptoCardSaid : Prop := Claim7.holds Tryd.pinned (.plain (OpenSpec.upto chooseHoldsSpec)) chooseHoldsUptoCard

/-- THE SECOND FORM's CARD OF 'newellaw08.ChooseMore'. -/
def chooseMoreUptoCard : Claim7 := { stood := { row := chooseMoreUptoRow, standIns := [], harness := (true, "1c0d4b48801e8bfcb20bffd50e4f6e6d95e3f1eedddfd71efb1e4fa623f61788"), looks := false }, kinds := [], alts := [], laidByText := true, laidKinds := [.data, .pinned], laidTests := true, laidLooks := .later }
def ChooseMoreUptoCardSaid : Prop := Claim7.holds Tryd.pinned (.plain (OpenSpec.upto chooseMoreSpec)) chooseMoreUptoCard

/-- THE SECOND FORM's CARD OF 'newellaw08.ChoosePlain'. -/
def choosePlainUptoCard : Claim7 := { stood := { row := choosePlainUptoRow, standIns := [], harness := (true, "1c0d4b48801e8bfcb20bffd50e4f6e6d95e3f1eedddfd71efb1e4fa623f61788"), looks := false }, kinds := [], alts := [], laidByText := true, laidKinds := [.data, .pinned], laidTests := true, laidLooks := .later }
def ChoosePlainUptoCardSaid : Prop := Claim7.holds Tryd.pinned (.plain (OpenSpec.upto choosePlainSpec)) choosePlainUptoCard
end Rows
end Go.Proofs.YtkphkcpckgdgaaaDoor
