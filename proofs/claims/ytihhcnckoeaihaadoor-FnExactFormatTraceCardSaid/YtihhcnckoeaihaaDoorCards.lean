/-
  DERIVED. GIVEN WITH THE SEED: THE CARDS: each row of YtihhcnckoeaihaaDoorRows.lean that lists a variable, with what it lists TIED to the program's text (the seventh form; the later family's looks); each row that meets fmt, with fmt's text TOLD by the authors' own Lean function (tested against real Go, not proved from fmt's source: count such statements apart). THE CARD IS WHAT COUNTS. Prove the row's statement (the work); the ties are given (YtihhcnckoeaihaaDoorTie.lean); close each card by the builder's one call (the guide's Derived/Test/ToyasCard.lean, 'card_holds'). Laid BY PROGRAM, IN A SANDBOX (cutbox-door.mjs). By AI agents, Wed Nov 11 2026. No macro, syntax, notation, axiom, sorry.
-/
import Derived.Test.YtihhcnckoeaihaaDoorRows
import GoSem.ClaimSeven
namespace Go.Proofs.YtihhcnckoeaihaaDoor
namespace Rows

/-- THE TIED CARD OF 'laws.FnTraceText'. -/
def fnTraceTextCard : Claim7 := { stood := { row := fnTraceTextRow, standIns := [], harness := (true, "7aa87c271d62cfacb5f25037f8803732b767a603aa4cad7e433c6f68d4c206fe"), looks := true }, kinds := [], alts := [], laidByText := true, laidKinds := [.data, .data, .data, .data], laidTests := true, laidLooks := .later }
def FnTraceTextCardSaid : Prop := Claim7.holds Tryd.pinned (.plain (OpenSpec.ofChange fnTraceTextSpec)) fnTraceTextCard

/-- THE TIED CARD OF 'laws.FnExactFormatTrace'. -/
def fnExactFormatTraceCard : Claim7 := { stood := { row := fnExactFormatTraceRow, standIns := [], harness := (true, "7aa87c271d62cfacb5f25037f8803732b767a603aa4cad7e433c6f68d4c206fe"), looks := true }, kinds := [], alts := [], laidByText := true, laidKinds := [.data, .data, .data, .data], laidTests := true, laidLooks := .later }
def FnExactFormatTraceCardSaid : Prop := Claim7.holds Tryd.pinned (.plain (OpenSpec.ofChange fnExactFormatTraceSpec)) fnExactFormatTraceCard

/-- THE SECOND FORM's CARD OF 'laws.FnTraceText'. -/
def fnTraceTextUptoCard : Claim7 := { stood := { row := fnTraceTextUptoRow, standIns := [], harness := (true, "7aa87c271d62cfacb5f25037f8803732b767a603aa4cad7e433c6f68d4c206fe"), looks := true }, kinds := [], alts := [], laidByText := true, laidKinds := [.data, .data, .data, .data], laidTests := true, laidLooks := .later }
def FnTraceTextUptoCardSaid : Prop := Claim7.holds Tryd.pinned (.plain (OpenSpec.upto fnTraceTextSpec)) fnTraceTextUptoCard

/-- THE SECOND FORM's CARD OF 'laws.FnExactFormatTrace'. -/
def fnExactFormatTraceUptoCard : Claim7 := { stood := { row := fnExactFormatTraceUptoRow, standIns := [], harness := (true, "7aa87c271d62cfacb5f25037f8803732b767a603aa4cad7e433c6f68d4c206fe"), looks := true }, kinds := [], alts := [], laidByText := true, laidKinds := [.data, .data, .data, .data], laidTests := true, laidLooks := .later }
def FnExactFormatTraceUptoCardSaid : Prop := Claim7.holds Tryd.pinned (.plain (OpenSpec.upto fnExactFormatTraceSpec)) fnExactFormatTraceUptoCard
end Rows
end Go.Proofs.YtihhcnckoeaihaaDoor
