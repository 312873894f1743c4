/-
  No cell of these rows narrows 'for every input' (looked for: loops, veiled, ifaces, maps, wideKeys, modest, calm, conditions, laid).
  DERIVED. THE GIVEN ROWS OF THIS SEAT. 9 by the template 'for every input the law returns true; each argument reads behind the call as it read before'; 0 by the template 'total and deterministic' (their statements: YtcjeobagjhjbmaaTotals.lean).
  GIVEN WITH THE SEED: the statements are not yours to turn. If you find one false, say at which input.
  Laid BY PROGRAM, IN A SANDBOX (cutbox-rows.mjs): the forced cells as the released guide's own fill.sh prints them over the translation e4ab0f55ecdd8e36… (all of the seat's roots in one cut). By AI agents, Wed Nov 11 2026. No macro, syntax, notation, axiom, sorry.
-/
import Derived.Test.YtcjeobagjhjbmaaChecked
import GoSem.Claim
import GoSem.ClaimJoined
import GoSem.ClaimMapViews
import Derived.JoinedTies
import Derived.KernelRfl
namespace Go.Proofs.Ytcjeobagjhjbmaa
/- THE CELL 'sum', in the pinned program and in every row, IS THE sha256 OF THE DUMP (.gsa) THAT YtcjeobagjhjbmaaProg.lean LOADS. Nothing in Lean hashes anything: it is a label: what it is worth is what the hold of that sum in a sandbox is worth. -/
noncomputable def Try.pinned : Pinned := { name := "ytcjeobagjhjbmaa", sum := "e4ab0f55ecdd8e36639c150e29a20db779354d6567cfbfb57dfc2016b1779547", checked := Try.checked }
namespace Rows
def none {H : Type} : Left H := { results := [], args := [] }

/-- 'laws.FnRowCycle': WHATEVER THE INPUT: true; the input reads as it did. -/
def fnRowCycleSpec : ChangeSpec := { name := "fnRowCycle", fn := fun _ => fun
  | [d] => { results := [.lit (.bool true)], args := [d] }
  | _ => none }
def fnRowCycleRow : OpenClaim := { program := "ytcjeobagjhjbmaa", sum := "e4ab0f55ecdd8e36639c150e29a20db779354d6567cfbfb57dfc2016b1779547", func := "loop.example/g00977/laws.FnRowCycle", spec := "fnRowCycle", unfollowed := true, recurses := true, apart := false }
def FnRowCycleSaid : Prop := fnRowCycleRow.holds Try.pinned (OpenSpec.ofChange fnRowCycleSpec)

/-- ITS FALSE NEIGHBOUR: 'it returns false'. Refute it at one input. -/
def fnRowCycleWrong : ChangeSpec := { name := "fnRowCycle", fn := fun _ => fun
  | [d] => { results := [.lit (.bool false)], args := [d] }
  | _ => none }
def FnRowCycleWrongFalsely : Prop := fnRowCycleRow.holds Try.pinned (OpenSpec.ofChange fnRowCycleWrong)

/-- 'laws.FnGaps': WHATEVER THE INPUT: true; the input reads as it did. -/
def fnGapsSpec : ChangeSpec := { name := "fnGaps", fn := fun _ => fun
  | [d] => { results := [.lit (.bool true)], args := [d] }
  | _ => none }
def fnGapsRow : OpenClaim := { program := "ytcjeobagjhjbmaa", sum := "e4ab0f55ecdd8e36639c150e29a20db779354d6567cfbfb57dfc2016b1779547", func := "loop.example/g00977/laws.FnGaps", spec := "fnGaps", unfollowed := true, recurses := true, apart := false }
def FnGapsSaid : Prop := fnGapsRow.holds Try.pinned (OpenSpec.ofChange fnGapsSpec)

/-- ITS FALSE NEIGHBOUR: 'it returns false'. Refute it at one input. -/
def fnGapsWrong : ChangeSpec := { name := "fnGaps", fn := fun _ => fun
  | [d] => { results := [.lit (.bool false)], args := [d] }
  | _ => none }
def FnGapsWrongFalsely : Prop := fnGapsRow.holds Try.pinned (OpenSpec.ofChange fnGapsWrong)

/-- 'laws.FnFour': WHATEVER THE INPUT: true; the input reads as it did. -/
def fnFourSpec : ChangeSpec := { name := "fnFour", fn := fun _ => fun
  | [d] => { results := [.lit (.bool true)], args := [d] }
  | _ => none }
def fnFourRow : OpenClaim := { program := "ytcjeobagjhjbmaa", sum := "e4ab0f55ecdd8e36639c150e29a20db779354d6567cfbfb57dfc2016b1779547", func := "loop.example/g00977/laws.FnFour", spec := "fnFour", apart := false }
def FnFourSaid : Prop := fnFourRow.holds Try.pinned (OpenSpec.ofChange fnFourSpec)

/-- ITS FALSE NEIGHBOUR: 'it returns false'. Refute it at one input. -/
def fnFourWrong : ChangeSpec := { name := "fnFour", fn := fun _ => fun
  | [d] => { results := [.lit (.bool false)], args := [d] }
  | _ => none }
def FnFourWrongFalsely : Prop := fnFourRow.holds Try.pinned (OpenSpec.ofChange fnFourWrong)

/-- 'laws.FnExactTimingOk': WHATEVER THE INPUT: true; the input reads as it did. -/
def fnExactTimingOkSpec : ChangeSpec := { name := "fnExactTimingOk", fn := fun _ => fun
  | [d] => { results := [.lit (.bool true)], args := [d] }
  | _ => none }
def fnExactTimingOkRow : OpenClaim := { program := "ytcjeobagjhjbmaa", sum := "e4ab0f55ecdd8e36639c150e29a20db779354d6567cfbfb57dfc2016b1779547", func := "loop.example/g00977/laws.FnExactTimingOk", spec := "fnExactTimingOk", apart := false }
def FnExactTimingOkSaid : Prop := fnExactTimingOkRow.holds Try.pinned (OpenSpec.ofChange fnExactTimingOkSpec)

/-- ITS FALSE NEIGHBOUR: 'it returns false'. Refute it at one input. -/
def fnExactTimingOkWrong : ChangeSpec := { name := "fnExactTimingOk", fn := fun _ => fun
  | [d] => { results := [.lit (.bool false)], args := [d] }
  | _ => none }
def FnExactTimingOkWrongFalsely : Prop := fnExactTimingOkRow.holds Try.pinned (OpenSpec.ofChange fnExactTimingOkWrong)

/-- 'laws.FnExactFastTiming': WHATEVER THE INPUT: true; the input reads as it did. -/
def fnExactFastTimingSpec : ChangeSpec := { name := "fnExactFastTiming", fn := fun _ => fun
  | [] => { results := [.lit (.bool true)], args := [] }
  | _ => none }
def fnExactFastTimingRow : OpenClaim := { program := "ytcjeobagjhjbmaa", sum := "e4ab0f55ecdd8e36639c150e29a20db779354d6567cfbfb57dfc2016b1779547", func := "loop.example/g00977/laws.FnExactFastTiming", spec := "fnExactFastTiming", apart := false }
def FnExactFastTimingSaid : Prop := fnExactFastTimingRow.holds Try.pinned (OpenSpec.ofChange fnExactFastTimingSpec)

/-- ITS FALSE NEIGHBOUR: 'it returns false'. Refute it at one input. -/
def fnExactFastTimingWrong : ChangeSpec := { name := "fnExactFastTiming", fn := fun _ => fun
  | [] => { results := [.lit (.bool false)], args := [] }
  | _ => none }
def FnExactFastTimingWrongFalsely : Prop := fnExactFastTimingRow.holds Try.pinned (OpenSpec.ofChange fnExactFastTimingWrong)

/-- 'laws.FnExactBankGap': WHATEVER THE INPUT: true; the input reads as it did. -/
def fnExactBankGapSpec : ChangeSpec := { name := "fnExactBankGap", fn := fun _ => fun
  | [d1, d2, d3] => { results := [.lit (.bool true)], args := [d1, d2, d3] }
  | _ => none }
def fnExactBankGapRow : OpenClaim := { program := "ytcjeobagjhjbmaa", sum := "e4ab0f55ecdd8e36639c150e29a20db779354d6567cfbfb57dfc2016b1779547", func := "loop.example/g00977/laws.FnExactBankGap", spec := "fnExactBankGap", unfollowed := true, recurses := true, apart := false }
def FnExactBankGapSaid : Prop := fnExactBankGapRow.holds Try.pinned (OpenSpec.ofChange fnExactBankGapSpec)

/-- ITS FALSE NEIGHBOUR: 'it returns false'. Refute it at one input. -/
def fnExactBankGapWrong : ChangeSpec := { name := "fnExactBankGap", fn := fun _ => fun
  | [d1, d2, d3] => { results := [.lit (.bool false)], args := [d1, d2, d3] }
  | _ => none }
def FnExactBankGapWrongFalsely : Prop := fnExactBankGapRow.holds Try.pinned (OpenSpec.ofChange fnExactBankGapWrong)

/-- 'laws.FnExactRankGap': WHATEVER THE INPUT: true; the input reads as it did. -/
def fnExactRankGapSpec : ChangeSpec := { name := "fnExactRankGap", fn := fun _ => fun
  | [d1, d2, d3, d4] => { results := [.lit (.bool true)], args := [d1, d2, d3, d4] }
  | _ => none }
def fnExactRankGapRow : OpenClaim := { program := "ytcjeobagjhjbmaa", sum := "e4ab0f55ecdd8e36639c150e29a20db779354d6567cfbfb57dfc2016b1779547", func := "loop.example/g00977/laws.FnExactRankGap", spec := "fnExactRankGap", unfollowed := true, recurses := true, apart := false }
def FnExactRankGapSaid : Prop := fnExactRankGapRow.holds Try.pinned (OpenSpec.ofChange fnExactRankGapSpec)

/-- ITS FALSE NEIGHBOUR: 'it returns false'. Refute it at one input. -/
def fnExactRankGapWrong : ChangeSpec := { name := "fnExactRankGap", fn := fun _ => fun
  | [d1, d2, d3, d4] => { results := [.lit (.bool false)], args := [d1, d2, d3, d4] }
  | _ => none }
def FnExactRankGapWrongFalsely : Prop := fnExactRankGapRow.holds Try.pinned (OpenSpec.ofChange fnExactRankGapWrong)

/-- 'laws.FnExactGap': WHATEVER THE INPUT: true; the input reads as it did. -/
def fnExactGapSpec : ChangeSpec := { name := "fnExactGap", fn := fun _ => fun
  | [d1, d2, d3, d4] => { results := [.lit (.bool true)], args := [d1, d2, d3, d4] }
  | _ => none }
def fnExactGapRow : OpenClaim := { program := "ytcjeobagjhjbmaa", sum := "e4ab0f55ecdd8e36639c150e29a20db779354d6567cfbfb57dfc2016b1779547", func := "loop.example/g00977/laws.FnExactGap", spec := "fnExactGap", unfollowed := true, recurses := true, apart := false }
def FnExactGapSaid : Prop := fnExactGapRow.holds Try.pinned (OpenSpec.ofChange fnExactGapSpec)

/-- ITS FALSE NEIGHBOUR: 'it returns false'. Refute it at one input. -/
def fnExactGapWrong : ChangeSpec := { name := "fnExactGap", fn := fun _ => fun
  | [d1, d2, d3, d4] => { results := [.lit (.bool false)], args := [d1, d2, d3, d4] }
  | _ => none }
def FnExactGapWrongFalsely : Prop := fnExactGapRow.holds Try.pinned (OpenSpec.ofChange fnExactGapWrong)

/-- 'laws.FnExactFawOk': WHATEVER THE INPUT: true; the input reads as it did. -/
def fnExactFawOkSpec : ChangeSpec := { name := "fnExactFawOk", fn := fun _ => fun
  | [d1, d2] => { results := [.lit (.bool true)], args := [d1, d2] }
  | _ => none }
def fnExactFawOkRow : OpenClaim := { program := "ytcjeobagjhjbmaa", sum := "e4ab0f55ecdd8e36639c150e29a20db779354d6567cfbfb57dfc2016b1779547", func := "loop.example/g00977/laws.FnExactFawOk", spec := "fnExactFawOk", apart := false }
def FnExactFawOkSaid : Prop := fnExactFawOkRow.holds Try.pinned (OpenSpec.ofChange fnExactFawOkSpec)

/-- ITS FALSE NEIGHBOUR: 'it returns false'. Refute it at one input. -/
def fnExactFawOkWrong : ChangeSpec := { name := "fnExactFawOk", fn := fun _ => fun
  | [d1, d2] => { results := [.lit (.bool false)], args := [d1, d2] }
  | _ => none }
def FnExactFawOkWrongFalsely : Prop := fnExactFawOkRow.holds Try.pinned (OpenSpec.ofChange fnExactFawOkWrong)

/- THE SECOND FORM. 'bulk': how many values and letters a reading holds, each counted each time it is reached (what is shared counts as often as it is met; a slice's spare places count too). A statement '..UptoSaid' is the law's where the arguments, and the package variables that the reading takes, are together of bulk at most 1048576: NARROWER than '..Said'. Prove '..Said' where nothing that the law and all that it calls make is longer than what came in: it says more and counts as full. Else prove '..UptoSaid'. A law counts once. -/
mutual
def uptoBulk {H : Type} : DataW H → Nat
  | .lit (.string bytes) => bytes.length + 1
  | .lit _ => 1
  | .nil => 1
  | .ptr d => uptoBulk d + 1
  | .slice elems spare => uptoBulkAll elems + uptoBulkAll spare + 1
  | .agg parts => uptoBulkAll parts + 1
  | .iface _ d => uptoBulk d + 1
  | .map entries => uptoBulkEntries entries + 1
  | .held _ => 1
def uptoBulkAll {H : Type} : List (DataW H) → Nat
  | [] => 0
  | d :: r => uptoBulk d + uptoBulkAll r
def uptoBulkEntries {H : Type} : List (Lit × DataW H) → Nat
  | [] => 0
  | x :: r => uptoBulkEntry x + uptoBulkEntries r
def uptoBulkEntry {H : Type} : Lit × DataW H → Nat
  | (.string bytes, d) => bytes.length + uptoBulk d + 1
  | (_, d) => uptoBulk d + 1
 end
def uptoSmall : (H : Type) → List (DataW H) → Bool := fun _ ds => decide (uptoBulkAll ds ≤ 1048576)
def OpenSpec.upto (s : _root_.Go.ChangeSpec) : _root_.Go.OpenSpec := { _root_.Go.OpenSpec.ofChange s with cond := some uptoSmall }

/-- 'laws.FnRowCycle', WHERE WHAT IT READS IS OF BULK AT MOST 1048576: true; the input reads as it did. -/
def fnRowCycleUptoRow : OpenClaim := { program := "ytcjeobagjhjbmaa", sum := "e4ab0f55ecdd8e36639c150e29a20db779354d6567cfbfb57dfc2016b1779547", func := "loop.example/g00977/laws.FnRowCycle", spec := "fnRowCycle", unfollowed := true, recurses := true, apart := false, narrowed := true }
def FnRowCycleUptoSaid : Prop := fnRowCycleUptoRow.holds Try.pinned (OpenSpec.upto fnRowCycleSpec)

/-- 'laws.FnGaps', WHERE WHAT IT READS IS OF BULK AT MOST 1048576: true; the input reads as it did. -/
def fnGapsUptoRow : OpenClaim := { program := "ytcjeobagjhjbmaa", sum := "e4ab0f55ecdd8e36639c150e29a20db779354d6567cfbfb57dfc2016b1779547", func := "loop.example/g00977/laws.FnGaps", spec := "fnGaps", unfollowed := true, recurses := true, apart := false, narrowed := true }
def FnGapsUptoSaid : Prop := fnGapsUptoRow.holds Try.pinned (OpenSpec.upto fnGapsSpec)

/-- 'laws.FnFour', WHERE WHAT IT READS IS OF BULK AT MOST 1048576: true; the input reads as it did. -/
def fnFourUptoRow : OpenClaim := { program := "ytcjeobagjhjbmaa", sum := "e4ab0f55ecdd8e36639c150e29a20db779354d6567cfbfb57dfc2016b1779547", func := "loop.example/g00977/laws.FnFour", spec := "fnFour", apart := false, narrowed := true }
def FnFourUptoSaid : Prop := fnFourUptoRow.holds Try.pinned (OpenSpec.upto fnFourSpec)

/-- 'laws.FnExactTimingOk', WHERE WHAT IT READS IS OF BULK AT MOST 1048576: true; the input reads as it did. -/
def fnExactTimingOkUptoRow : OpenClaim := { program := "ytcjeobagjhjbmaa", sum := "e4ab0f55ecdd8e36639c150e29a20db779354d6567cfbfb57dfc2016b1779547", func := "loop.example/g00977/laws.FnExactTimingOk", spec := "fnExactTimingOk", apart := false, narrowed := true }
def FnExactTimingOkUptoSaid : Prop := fnExactTimingOkUptoRow.holds Try.pinned (OpenSpec.upto fnExactTimingOkSpec)

/-- 'laws.FnExactFastTiming', WHERE WHAT IT READS IS OF BULK AT MOST 1048576: true; the input reads as it did. -/
def fnExactFastTimingUptoRow : OpenClaim := { program := "ytcjeobagjhjbmaa", sum := "e4ab0f55ecdd8e36639c150e29a20db779354d6567cfbfb57dfc2016b1779547", func := "loop.example/g00977/laws.FnExactFastTiming", spec := "fnExactFastTiming", apart := false, narrowed := true }
def FnExactFastTimingUptoSaid : Prop := fnExactFastTimingUptoRow.holds Try.pinned (OpenSpec.upto fnExactFastTimingSpec)

/-- 'laws.FnExactBankGap', WHERE WHAT IT READS IS OF BULK AT MOST 1048576: true; the input reads as it did. -/
def fnExactBankGapUptoRow : OpenClaim := { program := "ytcjeobagjhjbmaa", sum := "e4ab0f55ecdd8e36639c150e29a20db779354d6567cfbfb57dfc2016b1779547", func := "loop.example/g00977/laws.FnExactBankGap", spec := "fnExactBankGap", unfollowed := true, recurses := true, apart := false, narrowed := true }
def FnExactBankGapUptoSaid : Prop := fnExactBankGapUptoRow.holds Try.pinned (OpenSpec.upto fnExactBankGapSpec)

/-- 'laws.FnExactRankGap', WHERE WHAT IT READS IS OF BULK AT MOST 1048576: true; the input reads as it did. -/
def fnExactRankGapUptoRow : OpenClaim := { program := "ytcjeobagjhjbmaa", sum := "e4ab0f55ecdd8e36639c150e29a20db779354d6567cfbfb57dfc2016b1779547", func := "loop.example/g00977/laws.FnExactRankGap", spec := "fnExactRankGap", unfollowed := true, recurses := true, apart := false, narrowed := true }
def FnExactRankGapUptoSaid : Prop := fnExactRankGapUptoRow.holds Try.pinned (OpenSpec.upto fnExactRankGapSpec)

/-- 'laws.FnExactGap', WHERE WHAT IT READS IS OF BULK AT MOST 1048576: true; the input reads as it did. -/
def fnExactGapUptoRow : OpenClaim := { program := "ytcjeobagjhjbmaa", sum := "e4ab0f55ecdd8e36639c150e29a20db779354d6567cfbfb57dfc2016b1779547", func := "loop.example/g00977/laws.FnExactGap", spec := "fnExactGap", unfollowed := true, recurses := true, apart := false, narrowed := true }
def FnExactGapUptoSaid : Prop := fnExactGapUptoRow.holds Try.pinned (OpenSpec.upto fnExactGapSpec)

/-- 'laws.FnExactFawOk', WHERE WHAT IT READS IS OF BULK AT MOST 1048576: true; the input reads as it did. -/
def fnExactFawOkUptoRow : OpenClaim := { program := "ytcjeobagjhjbmaa", sum := "e4ab0f55ecdd8e36639c150e29a20db779354d6567cfbfb57dfc2016b1779547", func := "loop.example/g00977/laws.FnExactFawOk", spec := "fnExactFawOk", apart := false, narrowed := true }
def FnExactFawOkUptoSaid : Prop := fnExactFawOkUptoRow.holds Try.pinned (OpenSpec.upto fnExactFawOkSpec)

end Rows
end Go.Proofs.Ytcjeobagjhjbmaa
