/-
  DERIVED. GIVEN WITH THE SEED: THE CARDS: each row of YtpddinflkkcodaaDoorRows.lean that lists a variable, with what it lists TIED to the program's text (the seventh form; the later family's looks); each row that meets fmt, with fmt's text TOLD by the authors' own Lean function (tested against real Go, not proved from fmt's source: count such statements apart). THE CARD IS WHAT COUNTS. Prove the row's statement (the work); the ties are given (YtpddinflkkcodaaDoorTie.lean); close each card by the builder's one call (the guide's Derived/Test/ToyasCard.lean, 'card_holds'). Laid BY PROGRAM, IN A SANDBOX (cutbox-door.mjs). By AI agents, Wed Nov 11 2026. No macro, syntax, notation, axiom, sorry.
-/
import Derived.Test.YtpddinflkkcodaaDoorRows
import GoSem.ClaimSeven
namespace Go.Proofs.YtpddinflkkcodaaDoor
namespace Rows

/-- THE TIED CARD OF 'laws.FnLineWords'. -/
def fnLineWordsCard : Claim7 := { stood := { row := fnLineWordsRow, standIns := [], harness := (true, "e5493602d64620e72a28a82173e67229f6f2b050952be0f904e8245739dab4c3"), looks := false }, kinds := [], alts := [], laidByText := true, laidKinds := [.data], laidTests := true, laidLooks := .later }
def FnLineWordsCardSaid : Prop := Claim7.holds Tryd.pinned (.plain (OpenSpec.ofChange fnLineWordsSpec)) fnLineWordsCard

/-- THE TIED CARD OF 'laws.FnExactEncodeLine'. -/
def fnExactEncodeLineCard : Claim7 := { stood := { row := fnExactEncodeLineRow, standIns := [], harness := (true, "e5493602d64620e72a28a82173e67229f6f2b050952be0f904e8245739dab4c3"), looks := false }, kinds := [], alts := [], laidByText := true, laidKinds := [.data], laidTests := true, laidLooks := .later }
def FnExactEncodeLineCardSaid : Prop := Claim7.holds Tryd.pinned (.plain (OpenSpec.ofChange fnExactEncodeLineSpec)) fnExactEncodeLineCard

/-- THE SECOND FORM's CARD OF 'laws.FnLineWords'. -/
def fnLineWordsUptoCard : Claim7 := { stood := { row := fnLineWordsUptoRow, standIns := [], harness := (true, "e5493602d64620e72a28a82173e67229f6f2b050952be0f904e8245739dab4c3"), looks := false }, kinds := [], alts := [], laidByText := true, laidKinds := [.data], laidTests := true, laidLooks := .later }
def FnLineWordsUptoCardSaid : Prop := Claim7.holds Tryd.pinned (.plain (OpenSpec.upto fnLineWordsSpec)) fnLineWordsUptoCard

/-- THE SECOND FORM's CARD OF 'laws.FnExactEncodeLine'. -/
def fnExactEncodeLineUptoCard : Claim7 := { stood := { row := fnExactEncodeLineUptoRow, standIns := [], harness := (true, "e5493602d64620e72a28a82173e67229f6f2b050952be0f904e8245739dab4c3"), looks := false }, kinds := [], alts := [], laidByText := true, laidKinds := [.data], laidTests := true, laidLooks := .later }
def FnExactEncodeLineUptoCardSaid : Prop := Claim7.holds Tryd.pinned (.plain (OpenSpec.upto fnExactEncodeLineSpec)) fnExactEncodeLineUptoCard
end Rows
end Go.Proofs.YtpddinflkkcodaaDoor
