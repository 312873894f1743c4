/-
  No cell of these rows narrows 'for every input' (looked for: loops, veiled, ifaces, maps, wideKeys, modest, calm, conditions, laid).
  DERIVED. THE GIVEN ROWS OF THIS SEAT. 6 by the template 'for every input the law returns true; each argument reads behind the call as it read before'; 0 by the template 'total and deterministic' (their statements: YtdgaggcjimafbaaTotals.lean).
  GIVEN WITH THE SEED: the statements are not yours to turn. If you find one false, say at which input.
  Laid BY PROGRAM, IN A SANDBOX (cutbox-rows.mjs): the forced cells as the released guide's own fill.sh prints them over the translation 1171ac0ba2a5d8b6… (all of the seat's roots in one cut). By AI agents, Wed Nov 11 2026. No macro, syntax, notation, axiom, sorry.
-/
import Derived.Test.YtdgaggcjimafbaaChecked
import GoSem.Claim
import GoSem.ClaimJoined
import GoSem.ClaimMapViews
import Derived.JoinedTies
import Derived.KernelRfl
namespace Go.Proofs.Ytdgaggcjimafbaa
/- THE CELL 'sum', in the pinned program and in every row, IS THE sha256 OF THE DUMP (.gsa) THAT YtdgaggcjimafbaaProg.lean LOADS. Nothing in Lean hashes anything: it is a label: what it is worth is what the hold of that sum in a sandbox is worth. -/
noncomputable def Try.pinned : Pinned := { name := "ytdgaggcjimafbaa", sum := "1171ac0ba2a5d8b6196db634f411d81286c74feb171eb1a939e3654459e3cc56", checked := Try.checked }
namespace Rows
def none {H : Type} : Left H := { results := [], args := [] }

/-- 'laws.FnMapping': WHATEVER THE INPUT: true; the input reads as it did. -/
def fnMappingSpec : ChangeSpec := { name := "fnMapping", fn := fun _ => fun
  | [d] => { results := [.lit (.bool true)], args := [d] }
  | _ => none }
def fnMappingRow : OpenClaim := { program := "ytdgaggcjimafbaa", sum := "1171ac0ba2a5d8b6196db634f411d81286c74feb171eb1a939e3654459e3cc56", func := "loop.example/g00977/laws.FnMapping", spec := "fnMapping", unfollowed := true, recurses := true, apart := false }
def FnMappingSaid : Prop := fnMappingRow.holds Try.pinned (OpenSpec.ofChange fnMappingSpec)

/-- ITS FALSE NEIGHBOUR: 'it returns false'. Refute it at one input. -/
def fnMappingWrong : ChangeSpec := { name := "fnMapping", fn := fun _ => fun
  | [d] => { results := [.lit (.bool false)], args := [d] }
  | _ => none }
def FnMappingWrongFalsely : Prop := fnMappingRow.holds Try.pinned (OpenSpec.ofChange fnMappingWrong)

/-- 'laws.FnSpread': WHATEVER THE INPUT: true; the input reads as it did. -/
def fnSpreadSpec : ChangeSpec := { name := "fnSpread", fn := fun _ => fun
  | [d] => { results := [.lit (.bool true)], args := [d] }
  | _ => none }
def fnSpreadRow : OpenClaim := { program := "ytdgaggcjimafbaa", sum := "1171ac0ba2a5d8b6196db634f411d81286c74feb171eb1a939e3654459e3cc56", func := "loop.example/g00977/laws.FnSpread", spec := "fnSpread", unfollowed := true, recurses := true, apart := false }
def FnSpreadSaid : Prop := fnSpreadRow.holds Try.pinned (OpenSpec.ofChange fnSpreadSpec)

/-- ITS FALSE NEIGHBOUR: 'it returns false'. Refute it at one input. -/
def fnSpreadWrong : ChangeSpec := { name := "fnSpread", fn := fun _ => fun
  | [d] => { results := [.lit (.bool false)], args := [d] }
  | _ => none }
def FnSpreadWrongFalsely : Prop := fnSpreadRow.holds Try.pinned (OpenSpec.ofChange fnSpreadWrong)

/-- 'laws.FnExactMappingOk': WHATEVER THE INPUT: true; the input reads as it did. -/
def fnExactMappingOkSpec : ChangeSpec := { name := "fnExactMappingOk", fn := fun _ => fun
  | [d] => { results := [.lit (.bool true)], args := [d] }
  | _ => none }
def fnExactMappingOkRow : OpenClaim := { program := "ytdgaggcjimafbaa", sum := "1171ac0ba2a5d8b6196db634f411d81286c74feb171eb1a939e3654459e3cc56", func := "loop.example/g00977/laws.FnExactMappingOk", spec := "fnExactMappingOk", apart := false }
def FnExactMappingOkSaid : Prop := fnExactMappingOkRow.holds Try.pinned (OpenSpec.ofChange fnExactMappingOkSpec)

/-- ITS FALSE NEIGHBOUR: 'it returns false'. Refute it at one input. -/
def fnExactMappingOkWrong : ChangeSpec := { name := "fnExactMappingOk", fn := fun _ => fun
  | [d] => { results := [.lit (.bool false)], args := [d] }
  | _ => none }
def FnExactMappingOkWrongFalsely : Prop := fnExactMappingOkRow.holds Try.pinned (OpenSpec.ofChange fnExactMappingOkWrong)

/-- 'laws.FnExactMapLine': WHATEVER THE INPUT: true; the input reads as it did. -/
def fnExactMapLineSpec : ChangeSpec := { name := "fnExactMapLine", fn := fun _ => fun
  | [d1, d2, d3] => { results := [.lit (.bool true)], args := [d1, d2, d3] }
  | _ => none }
def fnExactMapLineRow : OpenClaim := { program := "ytdgaggcjimafbaa", sum := "1171ac0ba2a5d8b6196db634f411d81286c74feb171eb1a939e3654459e3cc56", func := "loop.example/g00977/laws.FnExactMapLine", spec := "fnExactMapLine", unfollowed := true, recurses := true, apart := false }
def FnExactMapLineSaid : Prop := fnExactMapLineRow.holds Try.pinned (OpenSpec.ofChange fnExactMapLineSpec)

/-- ITS FALSE NEIGHBOUR: 'it returns false'. Refute it at one input. -/
def fnExactMapLineWrong : ChangeSpec := { name := "fnExactMapLine", fn := fun _ => fun
  | [d1, d2, d3] => { results := [.lit (.bool false)], args := [d1, d2, d3] }
  | _ => none }
def FnExactMapLineWrongFalsely : Prop := fnExactMapLineRow.holds Try.pinned (OpenSpec.ofChange fnExactMapLineWrong)

/-- 'laws.FnExactLineOf': WHATEVER THE INPUT: true; the input reads as it did. -/
def fnExactLineOfSpec : ChangeSpec := { name := "fnExactLineOf", fn := fun _ => fun
  | [d1, d2, d3] => { results := [.lit (.bool true)], args := [d1, d2, d3] }
  | _ => none }
def fnExactLineOfRow : OpenClaim := { program := "ytdgaggcjimafbaa", sum := "1171ac0ba2a5d8b6196db634f411d81286c74feb171eb1a939e3654459e3cc56", func := "loop.example/g00977/laws.FnExactLineOf", spec := "fnExactLineOf", unfollowed := true, recurses := true, apart := false }
def FnExactLineOfSaid : Prop := fnExactLineOfRow.holds Try.pinned (OpenSpec.ofChange fnExactLineOfSpec)

/-- ITS FALSE NEIGHBOUR: 'it returns false'. Refute it at one input. -/
def fnExactLineOfWrong : ChangeSpec := { name := "fnExactLineOf", fn := fun _ => fun
  | [d1, d2, d3] => { results := [.lit (.bool false)], args := [d1, d2, d3] }
  | _ => none }
def FnExactLineOfWrongFalsely : Prop := fnExactLineOfRow.holds Try.pinned (OpenSpec.ofChange fnExactLineOfWrong)

/-- 'laws.FnExactBanksTouched': WHATEVER THE INPUT: true; the input reads as it did. -/
def fnExactBanksTouchedSpec : ChangeSpec := { name := "fnExactBanksTouched", fn := fun _ => fun
  | [d1, d2, d3, d4] => { results := [.lit (.bool true)], args := [d1, d2, d3, d4] }
  | _ => none }
def fnExactBanksTouchedRow : OpenClaim := { program := "ytdgaggcjimafbaa", sum := "1171ac0ba2a5d8b6196db634f411d81286c74feb171eb1a939e3654459e3cc56", func := "loop.example/g00977/laws.FnExactBanksTouched", spec := "fnExactBanksTouched", unfollowed := true, recurses := true, apart := false }
def FnExactBanksTouchedSaid : Prop := fnExactBanksTouchedRow.holds Try.pinned (OpenSpec.ofChange fnExactBanksTouchedSpec)

/-- ITS FALSE NEIGHBOUR: 'it returns false'. Refute it at one input. -/
def fnExactBanksTouchedWrong : ChangeSpec := { name := "fnExactBanksTouched", fn := fun _ => fun
  | [d1, d2, d3, d4] => { results := [.lit (.bool false)], args := [d1, d2, d3, d4] }
  | _ => none }
def FnExactBanksTouchedWrongFalsely : Prop := fnExactBanksTouchedRow.holds Try.pinned (OpenSpec.ofChange fnExactBanksTouchedWrong)

/- THE SECOND FORM. 'bulk': how many values and letters a reading holds, each counted each time it is reached (what is shared counts as often as it is met; a slice's spare places count too). A statement '..UptoSaid' is the law's where the arguments, and the package variables that the reading takes, are together of bulk at most 1048576: NARROWER than '..Said'. Prove '..Said' where nothing that the law and all that it calls make is longer than what came in: it says more and counts as full. Else prove '..UptoSaid'. A law counts once. -/
mutual
def uptoBulk {H : Type} : DataW H → Nat
  | .lit (.string bytes) => bytes.length + 1
  | .lit _ => 1
  | .nil => 1
  | .ptr d => uptoBulk d + 1
  | .slice elems spare => uptoBulkAll elems + uptoBulkAll spare + 1
  | .agg parts => uptoBulkAll parts + 1
  | .iface _ d => uptoBulk d + 1
  | .map entries => uptoBulkEntries entries + 1
  | .held _ => 1
def uptoBulkAll {H : Type} : List (DataW H) → Nat
  | [] => 0
  | d :: r => uptoBulk d + uptoBulkAll r
def uptoBulkEntries {H : Type} : List (Lit × DataW H) → Nat
  | [] => 0
  | x :: r => uptoBulkEntry x + uptoBulkEntries r
def uptoBulkEntry {H : Type} : Lit × DataW H → Nat
  | (.string bytes, d) => bytes.length + uptoBulk d + 1
  | (_, d) => uptoBulk d + 1
 end
def uptoSmall : (H : Type) → List (DataW H) → Bool := fun _ ds => decide (uptoBulkAll ds ≤ 1048576)
def OpenSpec.upto (s : _root_.Go.ChangeSpec) : _root_.Go.OpenSpec := { _root_.Go.OpenSpec.ofChange s with cond := some uptoSmall }

/-- 'laws.FnMapping', WHERE WHAT IT READS IS OF BULK AT MOST 1048576: true; the input reads as it did. -/
def fnMappingUptoRow : OpenClaim := { program := "ytdgaggcjimafbaa", sum := "1171ac0ba2a5d8b6196db634f411d81286c74feb171eb1a939e3654459e3cc56", func := "loop.example/g00977/laws.FnMapping", spec := "fnMapping", unfollowed := true, recurses := true, apart := false, narrowed := true }
def FnMappingUptoSaid : Prop := fnMappingUptoRow.holds Try.pinned (OpenSpec.upto fnMappingSpec)

/-- 'laws.FnSpread', WHERE WHAT IT READS IS OF BULK AT MOST 1048576: true; the input reads as it did. -/
def fnSpreadUptoRow : OpenClaim := { program := "ytdgaggcjimafbaa", sum := "1171ac0ba2a5d8b6196db634f411d81286c74feb171eb1a939e3654459e3cc56", func := "loop.example/g00977/laws.FnSpread", spec := "fnSpread", unfollowed := true, recurses := true, apart := false, narrowed := true }
def FnSpreadUptoSaid : Prop := fnSpreadUptoRow.holds Try.pinned (OpenSpec.upto fnSpreadSpec)

/-- 'laws.FnExactMappingOk', WHERE WHAT IT READS IS OF BULK AT MOST 1048576: true; the input reads as it did. -/
def fnExactMappingOkUptoRow : OpenClaim := { program := "ytdgaggcjimafbaa", sum := "1171ac0ba2a5d8b6196db634f411d81286c74feb171eb1a939e3654459e3cc56", func := "loop.example/g00977/laws.FnExactMappingOk", spec := "fnExactMappingOk", apart := false, narrowed := true }
def FnExactMappingOkUptoSaid : Prop := fnExactMappingOkUptoRow.holds Try.pinned (OpenSpec.upto fnExactMappingOkSpec)

/-- 'laws.FnExactMapLine', WHERE WHAT IT READS IS OF BULK AT MOST 1048576: true; the input reads as it did. -/
def fnExactMapLineUptoRow : OpenClaim := { program := "ytdgaggcjimafbaa", sum := "1171ac0ba2a5d8b6196db634f411d81286c74feb171eb1a939e3654459e3cc56", func := "loop.example/g00977/laws.FnExactMapLine", spec := "fnExactMapLine", unfollowed := true, recurses := true, apart := false, narrowed := true }
def FnExactMapLineUptoSaid : Prop := fnExactMapLineUptoRow.holds Try.pinned (OpenSpec.upto fnExactMapLineSpec)

/-- 'laws.FnExactLineOf', WHERE WHAT IT READS IS OF BULK AT MOST 1048576: true; the input reads as it did. -/
def fnExactLineOfUptoRow : OpenClaim := { program := "ytdgaggcjimafbaa", sum := "1171ac0ba2a5d8b6196db634f411d81286c74feb171eb1a939e3654459e3cc56", func := "loop.example/g00977/laws.FnExactLineOf", spec := "fnExactLineOf", unfollowed := true, recurses := true, apart := false, narrowed := true }
def FnExactLineOfUptoSaid : Prop := fnExactLineOfUptoRow.holds Try.pinned (OpenSpec.upto fnExactLineOfSpec)

/-- 'laws.FnExactBanksTouched', WHERE WHAT IT READS IS OF BULK AT MOST 1048576: true; the input reads as it did. -/
def fnExactBanksTouchedUptoRow : OpenClaim := { program := "ytdgaggcjimafbaa", sum := "1171ac0ba2a5d8b6196db634f411d81286c74feb171eb1a939e3654459e3cc56", func := "loop.example/g00977/laws.FnExactBanksTouched", spec := "fnExactBanksTouched", unfollowed := true, recurses := true, apart := false, narrowed := true }
def FnExactBanksTouchedUptoSaid : Prop := fnExactBanksTouchedUptoRow.holds Try.pinned (OpenSpec.upto fnExactBanksTouchedSpec)

end Rows
end Go.Proofs.Ytdgaggcjimafbaa
