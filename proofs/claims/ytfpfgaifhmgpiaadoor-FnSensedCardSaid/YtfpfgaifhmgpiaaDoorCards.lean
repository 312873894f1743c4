/-
  DERIVED. GIVEN WITH THE SEED: THE CARDS: each row of YtfpfgaifhmgpiaaDoorRows.lean that lists a variable, with what it lists TIED to the program's text (the seventh form; the later family's looks); each row that meets fmt, with fmt's text TOLD by the authors' own Lean function (tested against real Go, not proved from fmt's source: count such statements apart). THE CARD IS WHAT COUNTS. Prove the row's statement (the work); the ties are given (YtfpfgaifhmgpiaaDoorTie.lean); close each card by the builder's one call (the guide's Derived/Test/ToyasCard.lean, 'card_holds'). Laid BY PROGRAM, IN A SANDBOX (cutbox-door.mjs). By AI agents, Wed Nov 11 2026. No macro, syntax, notation, axiom, sorry.
-/
import Derived.Test.YtfpfgaifhmgpiaaDoorRows
import GoSem.ClaimSeven
namespace Go.Proofs.YtfpfgaifhmgpiaaDoor
namespace Rows

/-- THE TIED CARD OF 'laws.FnSensed'. -/
def fnSensedCard : Claim7 := { stood := { row := fnSensedRow, standIns := [], harness := (true, "bf67331ba6795a6d661d1522aa403a69176667ecf5ccfdc70838bea495681eca"), looks := false }, kinds := [], alts := [], laidByText := true, laidKinds := [.data], laidTests := true, laidLooks := .later }
def FnSensedCardSaid : Prop := Claim7.holds Tryd.pinned (.plain (OpenSpec.ofChange fnSensedSpec)) fnSensedCard

/-- THE TIED CARD OF 'laws.FnDecay'. -/
def fnDecayCard : Claim7 := { stood := { row := fnDecayRow, standIns := [], harness := (true, "bf67331ba6795a6d661d1522aa403a69176667ecf5ccfdc70838bea495681eca"), looks := false }, kinds := [], alts := [], laidByText := true, laidKinds := [.data], laidTests := true, laidLooks := .later }
def FnDecayCardSaid : Prop := Claim7.holds Tryd.pinned (.plain (OpenSpec.ofChange fnDecaySpec)) fnDecayCard

/-- THE TIED CARD OF 'laws.FnAges'. -/
def fnAgesCard : Claim7 := { stood := { row := fnAgesRow, standIns := [], harness := (true, "bf67331ba6795a6d661d1522aa403a69176667ecf5ccfdc70838bea495681eca"), looks := false }, kinds := [], alts := [], laidByText := true, laidKinds := [.data], laidTests := true, laidLooks := .later }
def FnAgesCardSaid : Prop := Claim7.holds Tryd.pinned (.plain (OpenSpec.ofChange fnAgesSpec)) fnAgesCard

/-- THE TIED CARD OF 'laws.FnExactArrayNew'. -/
def fnExactArrayNewCard : Claim7 := { stood := { row := fnExactArrayNewRow, standIns := [], harness := (true, "bf67331ba6795a6d661d1522aa403a69176667ecf5ccfdc70838bea495681eca"), looks := false }, kinds := [], alts := [], laidByText := true, laidKinds := [.data], laidTests := true, laidLooks := .later }
def FnExactArrayNewCardSaid : Prop := Claim7.holds Tryd.pinned (.plain (OpenSpec.ofChange fnExactArrayNewSpec)) fnExactArrayNewCard

/-- THE TIED CARD OF 'laws.FnExactSenseRow'. -/
def fnExactSenseRowCard : Claim7 := { stood := { row := fnExactSenseRowRow, standIns := [], harness := (true, "bf67331ba6795a6d661d1522aa403a69176667ecf5ccfdc70838bea495681eca"), looks := false }, kinds := [], alts := [], laidByText := true, laidKinds := [.data], laidTests := true, laidLooks := .later }
def FnExactSenseRowCardSaid : Prop := Claim7.holds Tryd.pinned (.plain (OpenSpec.ofChange fnExactSenseRowSpec)) fnExactSenseRowCard

/-- THE TIED CARD OF 'laws.FnExactSenseBank'. -/
def fnExactSenseBankCard : Claim7 := { stood := { row := fnExactSenseBankRow, standIns := [], harness := (true, "bf67331ba6795a6d661d1522aa403a69176667ecf5ccfdc70838bea495681eca"), looks := false }, kinds := [], alts := [], laidByText := true, laidKinds := [.data], laidTests := true, laidLooks := .later }
def FnExactSenseBankCardSaid : Prop := Claim7.holds Tryd.pinned (.plain (OpenSpec.ofChange fnExactSenseBankSpec)) fnExactSenseBankCard

/-- THE SECOND FORM's CARD OF 'laws.FnSensed'. -/
def fnSensedUptoCard : Claim7 := { stood := { row := fnSensedUptoRow, standIns := [], harness := (true, "bf67331ba6795a6d661d1522aa403a69176667ecf5ccfdc70838bea495681eca"), looks := false }, kinds := [], alts := [], laidByText := true, laidKinds := [.data], laidTests := true, laidLooks := .later }
def FnSensedUptoCardSaid : Prop := Claim7.holds Tryd.pinned (.plain (OpenSpec.upto fnSensedSpec)) fnSensedUptoCard

/-- THE SECOND FORM's CARD OF 'laws.FnDecay'. -/
def fnDecayUptoCard : Claim7 := { stood := { row := fnDecayUptoRow, standIns := [], harness := (true, "bf67331ba6795a6d661d1522aa403a69176667ecf5ccfdc70838bea495681eca"), looks := false }, kinds := [], alts := [], laidByText := true, laidKinds := [.data], laidTests := true, laidLooks := .later }
def FnDecayUptoCardSaid : Prop := Claim7.holds Tryd.pinned (.plain (OpenSpec.upto fnDecaySpec)) fnDecayUptoCard

/-- THE SECOND FORM's CARD OF 'laws.FnAges'. -/
def fnAgesUptoCard : Claim7 := { stood := { row := fnAgesUptoRow, standIns := [], harness := (true, "bf67331ba6795a6d661d1522aa403a69176667ecf5ccfdc70838bea495681eca"), looks := false }, kinds := [], alts := [], laidByText := true, laidKinds := [.data], laidTests := true, laidLooks := .later }
def FnAgesUptoCardSaid : Prop := Claim7.holds Tryd.pinned (.plain (OpenSpec.upto fnAgesSpec)) fnAgesUptoCard

/-- THE SECOND FORM's CARD OF 'laws.FnExactArrayNew'. -/
def fnExactArrayNewUptoCard : Claim7 := { stood := { row := fnExactArrayNewUptoRow, standIns := [], harness := (true, "bf67331ba6795a6d661d1522aa403a69176667ecf5ccfdc70838bea495681eca"), looks := false }, kinds := [], alts := [], laidByText := true, laidKinds := [.data], laidTests := true, laidLooks := .later }
def FnExactArrayNewUptoCardSaid : Prop := Claim7.holds Tryd.pinned (.plain (OpenSpec.upto fnExactArrayNewSpec)) fnExactArrayNewUptoCard

/-- THE SECOND FORM's CARD OF 'laws.FnExactSenseRow'. -/
def fnExactSenseRowUptoCard : Claim7 := { stood := { row := fnExactSenseRowUptoRow, standIns := [], harness := (true, "bf67331ba6795a6d661d1522aa403a69176667ecf5ccfdc70838bea495681eca"), looks := false }, kinds := [], alts := [], laidByText := true, laidKinds := [.data], laidTests := true, laidLooks := .later }
def FnExactSenseRowUptoCardSaid : Prop := Claim7.holds Tryd.pinned (.plain (OpenSpec.upto fnExactSenseRowSpec)) fnExactSenseRowUptoCard

/-- THE SECOND FORM's CARD OF 'laws.FnExactSenseBank'. -/
def fnExactSenseBankUptoCard : Claim7 := { stood := { row := fnExactSenseBankUptoRow, standIns := [], harness := (true, "bf67331ba6795a6d661d1522aa403a69176667ecf5ccfdc70838bea495681eca"), looks := false }, kinds := [], alts := [], laidByText := true, laidKinds := [.data], laidTests := true, laidLooks := .later }
def FnExactSenseBankUptoCardSaid : Prop := Claim7.holds Tryd.pinned (.plain (OpenSpec.upto fnExactSenseBankSpec)) fnExactSenseBankUptoCard
end Rows
end Go.Proofs.YtfpfgaifhmgpiaaDoor
