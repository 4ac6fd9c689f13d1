/-
  DERIVED. GIVEN WITH THE SEED: THE CARDS: each row of YtpmmmmfaaimmfaaDoorRows.lean that lists a variable, with what it lists TIED to the program's text (the seventh form; the later family's looks); each row that meets fmt, with fmt's text TOLD by the authors' own Lean function (tested against real Go, not proved from fmt's source: count such statements apart). THE CARD IS WHAT COUNTS. Prove the row's statement (the work); the ties are given (YtpmmmmfaaimmfaaDoorTie.lean); close each card by the builder's one call (the guide's Derived/Test/ToyasCard.lean, 'card_holds'). Laid BY PROGRAM, IN A SANDBOX (cutbox-door.mjs). By AI agents, Wed Nov 11 2026. No macro, syntax, notation, axiom, sorry.
-/
import Derived.Test.YtpmmmmfaaimmfaaDoorRows
import GoSem.ClaimSeven
namespace Go.Proofs.YtpmmmmfaaimmfaaDoor
namespace Rows

/-- THE TIED CARD OF 'newellaw02.TokenTexts'. -/
def tokenTextsCard : Claim7 := { stood := { row := tokenTextsRow, standIns := [], harness := (true, "593218c1ad6a307430ab1e8e1ed65122e5eccdbabcfe5b80ed200235c4acd17f"), looks := true }, kinds := [], alts := [], laidByText := true, laidKinds := [.data, .data, .data, .sentinel, .sentinel], laidTests := true, laidLooks := .later }
def TokenTextsCardSaid : Prop := Claim7.holds Tryd.pinned (.plain (OpenSpec.ofChange tokenTextsSpec)) tokenTextsCard

/-- THE TIED CARD OF 'newellaw02.TokenNumbers'. -/
def tokenNumbersCard : Claim7 := { stood := { row := tokenNumbersRow, standIns := [], harness := (true, "593218c1ad6a307430ab1e8e1ed65122e5eccdbabcfe5b80ed200235c4acd17f"), looks := true }, kinds := [], alts := [], laidByText := true, laidKinds := [.data, .data, .data, .sentinel, .sentinel], laidTests := true, laidLooks := .later }
def TokenNumbersCardSaid : Prop := Claim7.holds Tryd.pinned (.plain (OpenSpec.ofChange tokenNumbersSpec)) tokenNumbersCard

/-- THE TIED CARD OF 'newellaw02.TokenRefuses'. -/
def tokenRefusesCard : Claim7 := { stood := { row := tokenRefusesRow, standIns := [], harness := (true, "593218c1ad6a307430ab1e8e1ed65122e5eccdbabcfe5b80ed200235c4acd17f"), looks := true }, kinds := [], alts := [], laidByText := true, laidKinds := [.data, .data, .data, .sentinel, .sentinel], laidTests := true, laidLooks := .later }
def TokenRefusesCardSaid : Prop := Claim7.holds Tryd.pinned (.plain (OpenSpec.ofChange tokenRefusesSpec)) tokenRefusesCard

/-- THE TIED CARD OF 'newellaw02.TokenLong'. -/
def tokenLongCard : Claim7 := { stood := { row := tokenLongRow, standIns := [], harness := (true, "593218c1ad6a307430ab1e8e1ed65122e5eccdbabcfe5b80ed200235c4acd17f"), looks := true }, kinds := [], alts := [], laidByText := true, laidKinds := [.data, .data, .data, .sentinel, .sentinel], laidTests := true, laidLooks := .later }
def TokenLongCardSaid : Prop := Claim7.holds Tryd.pinned (.plain (OpenSpec.ofChange tokenLongSpec)) tokenLongCard

/-- THE TIED CARD OF 'newellaw02.TokenEntities'. -/
def tokenEntitiesCard : Claim7 := { stood := { row := tokenEntitiesRow, standIns := [], harness := (true, "593218c1ad6a307430ab1e8e1ed65122e5eccdbabcfe5b80ed200235c4acd17f"), looks := true }, kinds := [], alts := [], laidByText := true, laidKinds := [.data, .data, .data, .sentinel, .sentinel], laidTests := true, laidLooks := .later }
def TokenEntitiesCardSaid : Prop := Claim7.holds Tryd.pinned (.plain (OpenSpec.ofChange tokenEntitiesSpec)) tokenEntitiesCard

/-- THE TIED CARD OF 'newellaw02.TokenAttrs'. -/
def tokenAttrsCard : Claim7 := { stood := { row := tokenAttrsRow, standIns := [], harness := (true, "593218c1ad6a307430ab1e8e1ed65122e5eccdbabcfe5b80ed200235c4acd17f"), looks := true }, kinds := [], alts := [], laidByText := true, laidKinds := [.data, .data, .data, .sentinel, .sentinel], laidTests := true, laidLooks := .later }
def TokenAttrsCardSaid : Prop := Claim7.holds Tryd.pinned (.plain (OpenSpec.ofChange tokenAttrsSpec)) tokenAttrsCard

/-- THE SECOND FORM's CARD OF 'newellaw02.TokenTexts'. -/
def tokenTextsUptoCard : Claim7 := { stood := { row := tokenTextsUptoRow, standIns := [], harness := (true, "593218c1ad6a307430ab1e8e1ed65122e5eccdbabcfe5b80ed200235c4acd17f"), looks := true }, kinds := [], alts := [], laidByText := true, laidKinds := [.data, .data, .data, .sentinel, .sentinel], laidTests := true, laidLooks := .later }
def TokenTextsUptoCardSaid : Prop := Claim7.holds Tryd.pinned (.plain (OpenSpec.upto tokenTextsSpec)) tokenTextsUptoCard

/-- THE SECOND FORM's CARD OF 'newellaw02.TokenNumbers'. -/
def tokenNumbersUptoCard : Claim7 := { stood := { row := tokenNumbersUptoRow, standIns := [], harness := (true, "593218c1ad6a307430ab1e8e1ed65122e5eccdbabcfe5b80ed200235c4acd17f"), looks := true }, kinds := [], alts := [], laidByText := true, laidKinds := [.data, .data, .data, .sentinel, .sentinel], laidTests := true, laidLooks := .later }
def TokenNumbersUptoCardSaid : Prop := Claim7.holds Tryd.pinned (.plain (OpenSpec.upto tokenNumbersSpec)) tokenNumbersUptoCard

/-- THE SECOND FORM's CARD OF 'newellaw02.TokenRefuses'. -/
def tokenRefusesUptoCard : Claim7 := { stood := { row := tokenRefusesUptoRow, standIns := [], harness := (true, "593218c1ad6a307430ab1e8e1ed65122e5eccdbabcfe5b80ed200235c4acd17f"), looks := true }, kinds := [], alts := [], laidByText := true, laidKinds := [.data, .data, .data, .sentinel, .sentinel], laidTests := true, laidLooks := .later }
def TokenRefusesUptoCardSaid : Prop := Claim7.holds Tryd.pinned (.plain (OpenSpec.upto tokenRefusesSpec)) tokenRefusesUptoCard

/-- THE SECOND FORM's CARD OF 'newellaw02.TokenLong'. -/
def tokenLongUptoCard : Claim7 := { stood := { row := tokenLongUptoRow, standIns := [], harness := (true, "593218c1ad6a307430ab1e8e1ed65122e5eccdbabcfe5b80ed200235c4acd17f"), looks := true }, kinds := [], alts := [], laidByText := true, laidKinds := [.data, .data, .data, .sentinel, .sentinel], laidTests := true, laidLooks := .later }
def TokenLongUptoCardSaid : Prop := Claim7.holds Tryd.pinned (.plain (OpenSpec.upto tokenLongSpec)) tokenLongUptoCard

/-- THE SECOND FORM's CARD OF 'newellaw02.TokenEntities'. -/
def tokenEntitiesUptoCard : Claim7 := { stood := { row := tokenEntitiesUptoRow, standIns := [], harness := (true, "593218c1ad6a307430ab1e8e1ed65122e5eccdbabcfe5b80ed200235c4acd17f"), looks := true }, kinds := [], alts := [], laidByText := true, laidKinds := [.data, .data, .data, .sentinel, .sentinel], laidTests := true, laidLooks := .later }
def TokenEntitiesUptoCardSaid : Prop := Claim7.holds Tryd.pinned (.plain (OpenSpec.upto tokenEntitiesSpec)) tokenEntitiesUptoCard

/-- THE SECOND FORM's CARD OF 'newellaw02.TokenAttrs'. -/
def tokenAttrsUptoCard : Claim7 := { stood := { row := tokenAttrsUptoRow, standIns := [], harness := (true, "593218c1ad6a307430ab1e8e1ed65122e5eccdbabcfe5b80ed200235c4acd17f"), looks := true }, kinds := [], alts := [], laidByText := true, laidKinds := [.data, .data, .data, .sentinel, .sentinel], laidTests := true, laidLooks := .later }
def TokenAttrsUptoCardSaid : Prop := Claim7.holds Tryd.pinned (.plain (OpenSpec.upto tokenAttrsSpec)) tokenAttrsUptoCard
end Rows
end Go.Proofs.YtpmmmmfaaimmfaaDoor
