/-
  No cell of these rows narrows 'for every input' (looked for: loops, veiled, ifaces, maps, wideKeys, modest, calm, conditions, laid).
  DERIVED. THE GIVEN ROWS OF THIS SEAT. 5 by the template 'for every input the law returns true; each argument reads behind the call as it read before'; 0 by the template 'total and deterministic' (their statements: YtpddinflkkcodaaTotals.lean).
  GIVEN WITH THE SEED: the statements are not yours to turn. If you find one false, say at which input.
  Laid BY PROGRAM, IN A SANDBOX (cutbox-rows.mjs): the forced cells as the released guide's own fill.sh prints them over the translation 8a729811fef425ea… (all of the seat's roots in one cut). By AI agents, Wed Nov 11 2026. No macro, syntax, notation, axiom, sorry.
-/
import Derived.Test.YtpddinflkkcodaaChecked
import GoSem.Claim
import GoSem.ClaimJoined
import GoSem.ClaimMapViews
import Derived.JoinedTies
import Derived.KernelRfl
namespace Go.Proofs.Ytpddinflkkcodaa
/- THE CELL 'sum', in the pinned program and in every row, IS THE sha256 OF THE DUMP (.gsa) THAT YtpddinflkkcodaaProg.lean LOADS. Nothing in Lean hashes anything: it is a label: what it is worth is what the hold of that sum in a sandbox is worth. -/
noncomputable def Try.pinned : Pinned := { name := "ytpddinflkkcodaa", sum := "8a729811fef425eabebccbd6fc5478602e07cdbcb9e6c444a954652474502003", checked := Try.checked }
namespace Rows
def none {H : Type} : Left H := { results := [], args := [] }

/-- 'laws.FnWordSymbols': WHATEVER THE INPUT: true; the input reads as it did. -/
def fnWordSymbolsSpec : ChangeSpec := { name := "fnWordSymbols", fn := fun _ => fun
  | [d] => { results := [.lit (.bool true)], args := [d] }
  | _ => none }
def fnWordSymbolsRow : OpenClaim := { program := "ytpddinflkkcodaa", sum := "8a729811fef425eabebccbd6fc5478602e07cdbcb9e6c444a954652474502003", func := "loop.example/g00977/laws.FnWordSymbols", spec := "fnWordSymbols", unfollowed := true, recurses := true, apart := false }
def FnWordSymbolsSaid : Prop := fnWordSymbolsRow.holds Try.pinned (OpenSpec.ofChange fnWordSymbolsSpec)

/-- ITS FALSE NEIGHBOUR: 'it returns false'. Refute it at one input. -/
def fnWordSymbolsWrong : ChangeSpec := { name := "fnWordSymbols", fn := fun _ => fun
  | [d] => { results := [.lit (.bool false)], args := [d] }
  | _ => none }
def FnWordSymbolsWrongFalsely : Prop := fnWordSymbolsRow.holds Try.pinned (OpenSpec.ofChange fnWordSymbolsWrong)

/-- 'laws.FnExactSymbolsOfWord': WHATEVER THE INPUT: true; the input reads as it did. -/
def fnExactSymbolsOfWordSpec : ChangeSpec := { name := "fnExactSymbolsOfWord", fn := fun _ => fun
  | [d] => { results := [.lit (.bool true)], args := [d] }
  | _ => none }
def fnExactSymbolsOfWordRow : OpenClaim := { program := "ytpddinflkkcodaa", sum := "8a729811fef425eabebccbd6fc5478602e07cdbcb9e6c444a954652474502003", func := "loop.example/g00977/laws.FnExactSymbolsOfWord", spec := "fnExactSymbolsOfWord", apart := false }
def FnExactSymbolsOfWordSaid : Prop := fnExactSymbolsOfWordRow.holds Try.pinned (OpenSpec.ofChange fnExactSymbolsOfWordSpec)

/-- ITS FALSE NEIGHBOUR: 'it returns false'. Refute it at one input. -/
def fnExactSymbolsOfWordWrong : ChangeSpec := { name := "fnExactSymbolsOfWord", fn := fun _ => fun
  | [d] => { results := [.lit (.bool false)], args := [d] }
  | _ => none }
def FnExactSymbolsOfWordWrongFalsely : Prop := fnExactSymbolsOfWordRow.holds Try.pinned (OpenSpec.ofChange fnExactSymbolsOfWordWrong)

/-- 'laws.FnExactWordOfSymbols': WHATEVER THE INPUT: true; the input reads as it did. -/
def fnExactWordOfSymbolsSpec : ChangeSpec := { name := "fnExactWordOfSymbols", fn := fun _ => fun
  | [d] => { results := [.lit (.bool true)], args := [d] }
  | _ => none }
def fnExactWordOfSymbolsRow : OpenClaim := { program := "ytpddinflkkcodaa", sum := "8a729811fef425eabebccbd6fc5478602e07cdbcb9e6c444a954652474502003", func := "loop.example/g00977/laws.FnExactWordOfSymbols", spec := "fnExactWordOfSymbols", unfollowed := true, recurses := true, apart := false }
def FnExactWordOfSymbolsSaid : Prop := fnExactWordOfSymbolsRow.holds Try.pinned (OpenSpec.ofChange fnExactWordOfSymbolsSpec)

/-- ITS FALSE NEIGHBOUR: 'it returns false'. Refute it at one input. -/
def fnExactWordOfSymbolsWrong : ChangeSpec := { name := "fnExactWordOfSymbols", fn := fun _ => fun
  | [d] => { results := [.lit (.bool false)], args := [d] }
  | _ => none }
def FnExactWordOfSymbolsWrongFalsely : Prop := fnExactWordOfSymbolsRow.holds Try.pinned (OpenSpec.ofChange fnExactWordOfSymbolsWrong)

/-- 'laws.FnExactDecodeLine': WHATEVER THE INPUT: true; the input reads as it did. -/
def fnExactDecodeLineSpec : ChangeSpec := { name := "fnExactDecodeLine", fn := fun _ => fun
  | [d] => { results := [.lit (.bool true)], args := [d] }
  | _ => none }
def fnExactDecodeLineRow : OpenClaim := { program := "ytpddinflkkcodaa", sum := "8a729811fef425eabebccbd6fc5478602e07cdbcb9e6c444a954652474502003", func := "loop.example/g00977/laws.FnExactDecodeLine", spec := "fnExactDecodeLine", unfollowed := true, recurses := true, apart := false }
def FnExactDecodeLineSaid : Prop := fnExactDecodeLineRow.holds Try.pinned (OpenSpec.ofChange fnExactDecodeLineSpec)

/-- ITS FALSE NEIGHBOUR: 'it returns false'. Refute it at one input. -/
def fnExactDecodeLineWrong : ChangeSpec := { name := "fnExactDecodeLine", fn := fun _ => fun
  | [d] => { results := [.lit (.bool false)], args := [d] }
  | _ => none }
def FnExactDecodeLineWrongFalsely : Prop := fnExactDecodeLineRow.holds Try.pinned (OpenSpec.ofChange fnExactDecodeLineWrong)

/-- 'laws.FnExactFormatLine': WHATEVER THE INPUT: true; the input reads as it did. -/
def fnExactFormatLineSpec : ChangeSpec := { name := "fnExactFormatLine", fn := fun _ => fun
  | [d] => { results := [.lit (.bool true)], args := [d] }
  | _ => none }
def fnExactFormatLineRow : OpenClaim := { program := "ytpddinflkkcodaa", sum := "8a729811fef425eabebccbd6fc5478602e07cdbcb9e6c444a954652474502003", func := "loop.example/g00977/laws.FnExactFormatLine", spec := "fnExactFormatLine", unfollowed := true, recurses := true, apart := false }
def FnExactFormatLineSaid : Prop := fnExactFormatLineRow.holds Try.pinned (OpenSpec.ofChange fnExactFormatLineSpec)

/-- ITS FALSE NEIGHBOUR: 'it returns false'. Refute it at one input. -/
def fnExactFormatLineWrong : ChangeSpec := { name := "fnExactFormatLine", fn := fun _ => fun
  | [d] => { results := [.lit (.bool false)], args := [d] }
  | _ => none }
def FnExactFormatLineWrongFalsely : Prop := fnExactFormatLineRow.holds Try.pinned (OpenSpec.ofChange fnExactFormatLineWrong)

/- THE SECOND FORM. 'bulk': how many values and letters a reading holds, each counted each time it is reached (what is shared counts as often as it is met; a slice's spare places count too). A statement '..UptoSaid' is the law's where the arguments, and the package variables that the reading takes, are together of bulk at most 1048576: NARROWER than '..Said'. Prove '..Said' where nothing that the law and all that it calls make is longer than what came in: it says more and counts as full. Else prove '..UptoSaid'. A law counts once. -/
mutual
def uptoBulk {H : Type} : DataW H → Nat
  | .lit (.string bytes) => bytes.length + 1
  | .lit _ => 1
  | .nil => 1
  | .ptr d => uptoBulk d + 1
  | .slice elems spare => uptoBulkAll elems + uptoBulkAll spare + 1
  | .agg parts => uptoBulkAll parts + 1
  | .iface _ d => uptoBulk d + 1
  | .map entries => uptoBulkEntries entries + 1
  | .held _ => 1
def uptoBulkAll {H : Type} : List (DataW H) → Nat
  | [] => 0
  | d :: r => uptoBulk d + uptoBulkAll r
def uptoBulkEntries {H : Type} : List (Lit × DataW H) → Nat
  | [] => 0
  | x :: r => uptoBulkEntry x + uptoBulkEntries r
def uptoBulkEntry {H : Type} : Lit × DataW H → Nat
  | (.string bytes, d) => bytes.length + uptoBulk d + 1
  | (_, d) => uptoBulk d + 1
 end
def uptoSmall : (H : Type) → List (DataW H) → Bool := fun _ ds => decide (uptoBulkAll ds ≤ 1048576)
def OpenSpec.upto (s : _root_.Go.ChangeSpec) : _root_.Go.OpenSpec := { _root_.Go.OpenSpec.ofChange s with cond := some uptoSmall }

/-- 'laws.FnWordSymbols', WHERE WHAT IT READS IS OF BULK AT MOST 1048576: true; the input reads as it did. -/
def fnWordSymbolsUptoRow : OpenClaim := { program := "ytpddinflkkcodaa", sum := "8a729811fef425eabebccbd6fc5478602e07cdbcb9e6c444a954652474502003", func := "loop.example/g00977/laws.FnWordSymbols", spec := "fnWordSymbols", unfollowed := true, recurses := true, apart := false, narrowed := true }
def FnWordSymbolsUptoSaid : Prop := fnWordSymbolsUptoRow.holds Try.pinned (OpenSpec.upto fnWordSymbolsSpec)

/-- 'laws.FnExactSymbolsOfWord', WHERE WHAT IT READS IS OF BULK AT MOST 1048576: true; the input reads as it did. -/
def fnExactSymbolsOfWordUptoRow : OpenClaim := { program := "ytpddinflkkcodaa", sum := "8a729811fef425eabebccbd6fc5478602e07cdbcb9e6c444a954652474502003", func := "loop.example/g00977/laws.FnExactSymbolsOfWord", spec := "fnExactSymbolsOfWord", apart := false, narrowed := true }
def FnExactSymbolsOfWordUptoSaid : Prop := fnExactSymbolsOfWordUptoRow.holds Try.pinned (OpenSpec.upto fnExactSymbolsOfWordSpec)

/-- 'laws.FnExactWordOfSymbols', WHERE WHAT IT READS IS OF BULK AT MOST 1048576: true; the input reads as it did. -/
def fnExactWordOfSymbolsUptoRow : OpenClaim := { program := "ytpddinflkkcodaa", sum := "8a729811fef425eabebccbd6fc5478602e07cdbcb9e6c444a954652474502003", func := "loop.example/g00977/laws.FnExactWordOfSymbols", spec := "fnExactWordOfSymbols", unfollowed := true, recurses := true, apart := false, narrowed := true }
def FnExactWordOfSymbolsUptoSaid : Prop := fnExactWordOfSymbolsUptoRow.holds Try.pinned (OpenSpec.upto fnExactWordOfSymbolsSpec)

/-- 'laws.FnExactDecodeLine', WHERE WHAT IT READS IS OF BULK AT MOST 1048576: true; the input reads as it did. -/
def fnExactDecodeLineUptoRow : OpenClaim := { program := "ytpddinflkkcodaa", sum := "8a729811fef425eabebccbd6fc5478602e07cdbcb9e6c444a954652474502003", func := "loop.example/g00977/laws.FnExactDecodeLine", spec := "fnExactDecodeLine", unfollowed := true, recurses := true, apart := false, narrowed := true }
def FnExactDecodeLineUptoSaid : Prop := fnExactDecodeLineUptoRow.holds Try.pinned (OpenSpec.upto fnExactDecodeLineSpec)

/-- 'laws.FnExactFormatLine', WHERE WHAT IT READS IS OF BULK AT MOST 1048576: true; the input reads as it did. -/
def fnExactFormatLineUptoRow : OpenClaim := { program := "ytpddinflkkcodaa", sum := "8a729811fef425eabebccbd6fc5478602e07cdbcb9e6c444a954652474502003", func := "loop.example/g00977/laws.FnExactFormatLine", spec := "fnExactFormatLine", unfollowed := true, recurses := true, apart := false, narrowed := true }
def FnExactFormatLineUptoSaid : Prop := fnExactFormatLineUptoRow.holds Try.pinned (OpenSpec.upto fnExactFormatLineSpec)

end Rows
end Go.Proofs.Ytpddinflkkcodaa
