/-
  DERIVED. GIVEN WITH THE SEED: THE CARDS: each row of YtbpcoiblddhnjaaDoorRows.lean that lists a variable, with what it lists TIED to the program's text (the seventh form; the later family's looks); each row that meets fmt, with fmt's text TOLD by the authors' own Lean function (tested against real Go, not proved from fmt's source: count such statements apart). THE CARD IS WHAT COUNTS. Prove the row's statement (the work); the ties are given (YtbpcoiblddhnjaaDoorTie.lean); close each card by the builder's one call (the guide's Derived/Test/ToyasCard.lean, 'card_holds'). Laid BY PROGRAM, IN A SANDBOX (cutbox-door.mjs). By AI agents, Wed Nov 11 2026. No macro, syntax, notation, axiom, sorry.
-/
import Derived.Test.YtbpcoiblddhnjaaDoorRows
import GoSem.ClaimSeven
namespace Go.Proofs.YtbpcoiblddhnjaaDoor
namespace Rows

/-- THE TIED CARD OF 'newellaw07.SpanBoth'. -/
def spanBothCard : Claim7 := { stood := { row := spanBothRow, standIns := [], harness := (true, "408d40593cf550d5a9fce16e05d70a2985f79f66854ffdfd6bd96c3f9aa446d6"), looks := false }, kinds := [], alts := [], laidByText := true, laidKinds := [.data, .pinned], laidTests := true, laidLooks := .later }
def SpanBothCardSaid : Prop := Claim7.holds Tryd.pinned (.plain (OpenSpec.ofChange spanBothSpec)) spanBothCard

/-- THE TIED CARD OF 'newellaw07.SpanEdges'. -/
def spanEdgesCard : Claim7 := { stood := { row := spanEdgesRow, standIns := [], harness := (true, "408d40593cf550d5a9fce16e05d70a2985f79f66854ffdfd6bd96c3f9aa446d6"), looks := false }, kinds := [], alts := [], laidByText := true, laidKinds := [.data, .pinned], laidTests := true, laidLooks := .later }
def SpanEdgesCardSaid : Prop := Claim7.holds Tryd.pinned (.plain (OpenSpec.ofChange spanEdgesSpec)) spanEdgesCard

/-- THE TIED CARD OF 'newellaw07.SpanRefuses'. -/
def spanRefusesCard : Claim7 := { stood := { row := spanRefusesRow, standIns := [], harness := (true, "408d40593cf550d5a9fce16e05d70a2985f79f66854ffdfd6bd96c3f9aa446d6"), looks := false }, kinds := [], alts := [], laidByText := true, laidKinds := [.data, .pinned], laidTests := true, laidLooks := .later }
def SpanRefusesCardSaid : Prop := Claim7.holds Tryd.pinned (.plain (OpenSpec.ofChange spanRefusesSpec)) spanRefusesCard

/-- THE TIED CARD OF 'newellaw07.SpanTexts'. -/
def spanTextsCard : Claim7 := { stood := { row := spanTextsRow, standIns := [], harness := (true, "408d40593cf550d5a9fce16e05d70a2985f79f66854ffdfd6bd96c3f9aa446d6"), looks := false }, kinds := [], alts := [], laidByText := true, laidKinds := [.data, .pinned], laidTests := true, laidLooks := .later }
def SpanTextsCardSaid : Prop := Claim7.holds Tryd.pinned (.plain (OpenSpec.ofChange spanTextsSpec)) spanTextsCard

/-- THE TIED CARD OF 'newellaw07.SpanMany'. -/
def spanManyCard : Claim7 := { stood := { row := spanManyRow, standIns := [], harness := (true, "408d40593cf550d5a9fce16e05d70a2985f79f66854ffdfd6bd96c3f9aa446d6"), looks := false }, kinds := [], alts := [], laidByText := true, laidKinds := [.data, .pinned], laidTests := true, laidLooks := .later }
def SpanManyCardSaid : Prop := Claim7.holds Tryd.pinned (.plain (OpenSpec.ofChange spanManySpec)) spanManyCard

/-- THE SECOND FORM's CARD OF 'newellaw07.SpanBoth'. -/
def spanBothUptoCard : Claim7 := { stood := { row := spanBothUptoRow, standIns := [], harness := (true, "408d40593cf550d5a9fce16e05d70a2985f79f66854ffdfd6bd96c3f9aa446d6"), looks := false }, kinds := [], alts := [], laidByText := true, laidKinds := [.data, .pinned], laidTests := true, laidLooks := .later }
def SpanBothUptoCardSaid : Prop := Claim7.holds Tryd.pinned (.plain (OpenSpec.upto spanBothSpec)) spanBothUptoCard

/-- THE SECOND FORM's CARD OF 'newellaw07.SpanEdges'. -/
def spanEdgesUptoCard : Claim7 := { stood := { row := spanEdgesUptoRow, standIns := [], harness := (true, "408d40593cf550d5a9fce16e05d70a2985f79f66854ffdfd6bd96c3f9aa446d6"), looks := false }, kinds := [], alts := [], laidByText := true, laidKinds := [.data, .pinned], laidTests := true, laidLooks := .later }
def SpanEdgesUptoCardSaid : Prop := Claim7.holds Tryd.pinned (.plain (OpenSpec.upto spanEdgesSpec)) spanEdgesUptoCard

/-- THE SECOND FORM's CARD OF 'newellaw07.SpanRefuses'. -/
def spanRefusesUptoCard : Claim7 := { stood := { row := spanRefusesUptoRow, standIns := [], harness := (true, "408d40593cf550d5a9fce16e05d70a2985f79f66854ffdfd6bd96c3f9aa446d6"), looks := false }, kinds := [], alts := [], laidByText := true, laidKinds := [.data, .pinned], laidTests := true, laidLooks := .later }
def SpanRefusesUptoCardSaid : Prop := Claim7.holds Tryd.pinned (.plain (OpenSpec.upto spanRefusesSpec)) spanRefusesUptoCard

/-- THE SECOND FORM's CARD OF 'newellaw07.SpanTexts'. -/
def spanTextsUptoCard : Claim7 := { stood := { row := spanTextsUptoRow, standIns := [], harness := (true, "408d40593cf550d5a9fce16e05d70a2985f79f66854ffdfd6bd96c3f9aa446d6"), looks := false }, kinds := [], alts := [], laidByText := true, laidKinds := [.data, .pinned], laidTests := true, laidLooks := .later }
def SpanTextsUptoCardSaid : Prop := Claim7.holds Tryd.pinned (.plain (OpenSpec.upto spanTextsSpec)) spanTextsUptoCard

/-- THE SECOND FORM's CARD OF 'newellaw07.SpanMany'. -/
def spanManyUptoCard : Claim7 := { stood := { row := spanManyUptoRow, standIns := [], harness := (true, "408d40593cf550d5a9fce16e05d70a2985f79f66854ffdfd6bd96c3f9aa446d6"), looks := false }, kinds := [], alts := [], laidByText := true, laidKinds := [.data, .pinned], laidTests := true, laidLooks := .later }
def SpanManyUptoCardSaid : Prop := Claim7.holds Tryd.pinned (.plain (OpenSpec.upto spanManySpec)) spanManyUptoCard
end Rows
end Go.Proofs.YtbpcoiblddhnjaaDoor
