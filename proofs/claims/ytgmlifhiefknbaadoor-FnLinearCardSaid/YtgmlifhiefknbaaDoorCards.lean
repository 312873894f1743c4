/-
  DERIVED. GIVEN WITH THE SEED: THE CARDS: each row of YtgmlifhiefknbaaDoorRows.lean that lists a variable, with what it lists TIED to the program's text (the seventh form; the later family's looks); each row that meets fmt, with fmt's text TOLD by the authors' own Lean function (tested against real Go, not proved from fmt's source: count such statements apart). THE CARD IS WHAT COUNTS. Prove the row's statement (the work); the ties are given (YtgmlifhiefknbaaDoorTie.lean); close each card by the builder's one call (the guide's Derived/Test/ToyasCard.lean, 'card_holds'). Laid BY PROGRAM, IN A SANDBOX (cutbox-door.mjs). By AI agents, Wed Nov 11 2026. No macro, syntax, notation, axiom, sorry.
-/
import Derived.Test.YtgmlifhiefknbaaDoorRows
import GoSem.ClaimSeven
namespace Go.Proofs.YtgmlifhiefknbaaDoor
namespace Rows

/-- THE TIED CARD OF 'laws.FnCorrects'. -/
def fnCorrectsCard : Claim7 := { stood := { row := fnCorrectsRow, standIns := [], harness := (true, "bd968aa10f424191b56fe74e11ed39918c6d00ca346c1b9c54077bbf7e6eac7f"), looks := false }, kinds := [], alts := [], laidByText := true, laidKinds := [.data], laidTests := true, laidLooks := .later }
def FnCorrectsCardSaid : Prop := Claim7.holds Tryd.pinned (.plain (OpenSpec.ofChange fnCorrectsSpec)) fnCorrectsCard

/-- THE TIED CARD OF 'laws.FnDistance'. -/
def fnDistanceCard : Claim7 := { stood := { row := fnDistanceRow, standIns := [], harness := (true, "bd968aa10f424191b56fe74e11ed39918c6d00ca346c1b9c54077bbf7e6eac7f"), looks := false }, kinds := [], alts := [], laidByText := true, laidKinds := [.data], laidTests := true, laidLooks := .later }
def FnDistanceCardSaid : Prop := Claim7.holds Tryd.pinned (.plain (OpenSpec.ofChange fnDistanceSpec)) fnDistanceCard

/-- THE TIED CARD OF 'laws.FnLinear'. -/
def fnLinearCard : Claim7 := { stood := { row := fnLinearRow, standIns := [], harness := (true, "bd968aa10f424191b56fe74e11ed39918c6d00ca346c1b9c54077bbf7e6eac7f"), looks := false }, kinds := [], alts := [], laidByText := true, laidKinds := [.data], laidTests := true, laidLooks := .later }
def FnLinearCardSaid : Prop := Claim7.holds Tryd.pinned (.plain (OpenSpec.ofChange fnLinearSpec)) fnLinearCard

/-- THE TIED CARD OF 'laws.FnExactEncodeSymbols'. -/
def fnExactEncodeSymbolsCard : Claim7 := { stood := { row := fnExactEncodeSymbolsRow, standIns := [], harness := (true, "bd968aa10f424191b56fe74e11ed39918c6d00ca346c1b9c54077bbf7e6eac7f"), looks := false }, kinds := [], alts := [], laidByText := true, laidKinds := [.data], laidTests := true, laidLooks := .later }
def FnExactEncodeSymbolsCardSaid : Prop := Claim7.holds Tryd.pinned (.plain (OpenSpec.ofChange fnExactEncodeSymbolsSpec)) fnExactEncodeSymbolsCard

/-- THE SECOND FORM's CARD OF 'laws.FnCorrects'. -/
def fnCorrectsUptoCard : Claim7 := { stood := { row := fnCorrectsUptoRow, standIns := [], harness := (true, "bd968aa10f424191b56fe74e11ed39918c6d00ca346c1b9c54077bbf7e6eac7f"), looks := false }, kinds := [], alts := [], laidByText := true, laidKinds := [.data], laidTests := true, laidLooks := .later }
def FnCorrectsUptoCardSaid : Prop := Claim7.holds Tryd.pinned (.plain (OpenSpec.upto fnCorrectsSpec)) fnCorrectsUptoCard

/-- THE SECOND FORM's CARD OF 'laws.FnDistance'. -/
def fnDistanceUptoCard : Claim7 := { stood := { row := fnDistanceUptoRow, standIns := [], harness := (true, "bd968aa10f424191b56fe74e11ed39918c6d00ca346c1b9c54077bbf7e6eac7f"), looks := false }, kinds := [], alts := [], laidByText := true, laidKinds := [.data], laidTests := true, laidLooks := .later }
def FnDistanceUptoCardSaid : Prop := Claim7.holds Tryd.pinned (.plain (OpenSpec.upto fnDistanceSpec)) fnDistanceUptoCard

/-- THE SECOND FORM's CARD OF 'laws.FnLinear'. -/
def fnLinearUptoCard : Claim7 := { stood := { row := fnLinearUptoRow, standIns := [], harness := (true, "bd968aa10f424191b56fe74e11ed39918c6d00ca346c1b9c54077bbf7e6eac7f"), looks := false }, kinds := [], alts := [], laidByText := true, laidKinds := [.data], laidTests := true, laidLooks := .later }
def FnLinearUptoCardSaid : Prop := Claim7.holds Tryd.pinned (.plain (OpenSpec.upto fnLinearSpec)) fnLinearUptoCard

/-- THE SECOND FORM's CARD OF 'laws.FnExactEncodeSymbols'. -/
def fnExactEncodeSymbolsUptoCard : Claim7 := { stood := { row := fnExactEncodeSymbolsUptoRow, standIns := [], harness := (true, "bd968aa10f424191b56fe74e11ed39918c6d00ca346c1b9c54077bbf7e6eac7f"), looks := false }, kinds := [], alts := [], laidByText := true, laidKinds := [.data], laidTests := true, laidLooks := .later }
def FnExactEncodeSymbolsUptoCardSaid : Prop := Claim7.holds Tryd.pinned (.plain (OpenSpec.upto fnExactEncodeSymbolsSpec)) fnExactEncodeSymbolsUptoCard
end Rows
end Go.Proofs.YtgmlifhiefknbaaDoor
