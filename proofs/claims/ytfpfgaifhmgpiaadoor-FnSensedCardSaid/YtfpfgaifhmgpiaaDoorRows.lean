/-
  NARROWER THAN 'FOR EVERY INPUT', by the rows' own cells (each row's printed sentence says how): FnSensed: laid · FnDecay: laid · FnAges: laid · FnExactArrayNew: laid · FnExactSenseRow: laid · FnExactSenseBank: laid.
  DERIVED. THE GIVEN ROWS OF THIS SEAT. 6 by the template 'for every input the law returns true; each argument reads behind the call as it read before'; 0 by the template 'total and deterministic' (their statements: YtfpfgaifhmgpiaaDoorTotals.lean).
  GIVEN WITH THE SEED: the statements are not yours to turn. If you find one false, say at which input.
  Laid BY PROGRAM, IN A SANDBOX (cutbox-rows.mjs): the forced cells as the released guide's own fill.sh prints them over the translation 47c48bbf94f4307c… (all of the seat's roots in one cut). By AI agents, Wed Nov 11 2026. No macro, syntax, notation, axiom, sorry.
-/
import Derived.Test.YtfpfgaifhmgpiaaDoorChecked
import GoSem.Claim
import GoSem.ClaimJoined
import GoSem.ClaimMapViews
import Derived.JoinedTies
import Derived.KernelRfl
namespace Go.Proofs.YtfpfgaifhmgpiaaDoor
/- THE CELL 'sum', in the pinned program and in every row, IS THE sha256 OF THE DUMP (.gsa) THAT YtfpfgaifhmgpiaaDoorProg.lean LOADS. Nothing in Lean hashes anything: it is a label: what it is worth is what the hold of that sum in a sandbox is worth. -/
noncomputable def Tryd.pinned : Pinned := { name := "ytfpfgaifhmgpiaadoor", sum := "47c48bbf94f4307c80ad4a05485f73e80a52e86b20c29a5f85664a161d68a9b3", checked := Tryd.checked }
namespace Rows
def none {H : Type} : Left H := { results := [], args := [] }

/- WHAT THE LISTED PACKAGE-LEVEL VARIABLES READ AS WHEN THE CALL BEGINS. Each datum BY PROGRAM (the guide's laid-datum.mjs) off the statement by which the dump's own 'gosem.cut.vars' lays the variable. In a bare row this is a premise. The card (YtfpfgaifhmgpiaaDoorCards.lean) ties it to the program's text. -/
def laid_loop_example_g00977_impl_decayChanges {H : Type} : DataW H := .agg [.lit (.int .i64 5), .lit (.int .i64 10)]
def laid_loop_example_g00977_impl_generatorTerms {H : Type} : DataW H := .agg [.lit (.int .i64 8), .lit (.int .i64 14), .lit (.int .i64 7)]

/-- 'laws.FnSensed': WHATEVER THE INPUT: true; the input reads as it did. -/
def fnSensedSpec : ChangeSpec := { name := "fnSensed", vars := ["loop.example/g00977/impl.decayChanges"], fn := fun _ => fun
  | [d, g1] => { results := [.lit (.bool true)], args := [d], vars := [g1] }
  | _ => none }
def fnSensedRow : OpenClaim := { program := "ytfpfgaifhmgpiaadoor", sum := "47c48bbf94f4307c80ad4a05485f73e80a52e86b20c29a5f85664a161d68a9b3", func := "loop.example/g00977/laws.FnSensed", spec := "fnSensed", unfollowed := true, recurses := true, named := ["loop.example/g00977/impl.decayChanges"], apart := false, laid := [("loop.example/g00977/impl.decayChanges", laid_loop_example_g00977_impl_decayChanges)] }
def FnSensedSaid : Prop := fnSensedRow.holds Tryd.pinned (OpenSpec.ofChange fnSensedSpec)

/-- ITS FALSE NEIGHBOUR: 'it returns false'. Refute it at one input. -/
def fnSensedWrong : ChangeSpec := { name := "fnSensed", vars := ["loop.example/g00977/impl.decayChanges"], fn := fun _ => fun
  | [d, g1] => { results := [.lit (.bool false)], args := [d], vars := [g1] }
  | _ => none }
def FnSensedWrongFalsely : Prop := fnSensedRow.holds Tryd.pinned (OpenSpec.ofChange fnSensedWrong)

/-- 'laws.FnDecay': WHATEVER THE INPUT: true; the input reads as it did. -/
def fnDecaySpec : ChangeSpec := { name := "fnDecay", vars := ["loop.example/g00977/impl.decayChanges"], fn := fun _ => fun
  | [d, g1] => { results := [.lit (.bool true)], args := [d], vars := [g1] }
  | _ => none }
def fnDecayRow : OpenClaim := { program := "ytfpfgaifhmgpiaadoor", sum := "47c48bbf94f4307c80ad4a05485f73e80a52e86b20c29a5f85664a161d68a9b3", func := "loop.example/g00977/laws.FnDecay", spec := "fnDecay", unfollowed := true, recurses := true, named := ["loop.example/g00977/impl.decayChanges"], apart := false, laid := [("loop.example/g00977/impl.decayChanges", laid_loop_example_g00977_impl_decayChanges)] }
def FnDecaySaid : Prop := fnDecayRow.holds Tryd.pinned (OpenSpec.ofChange fnDecaySpec)

/-- ITS FALSE NEIGHBOUR: 'it returns false'. Refute it at one input. -/
def fnDecayWrong : ChangeSpec := { name := "fnDecay", vars := ["loop.example/g00977/impl.decayChanges"], fn := fun _ => fun
  | [d, g1] => { results := [.lit (.bool false)], args := [d], vars := [g1] }
  | _ => none }
def FnDecayWrongFalsely : Prop := fnDecayRow.holds Tryd.pinned (OpenSpec.ofChange fnDecayWrong)

/-- 'laws.FnAges': WHATEVER THE INPUT: true; the input reads as it did. -/
def fnAgesSpec : ChangeSpec := { name := "fnAges", vars := ["loop.example/g00977/impl.decayChanges"], fn := fun _ => fun
  | [d, g1] => { results := [.lit (.bool true)], args := [d], vars := [g1] }
  | _ => none }
def fnAgesRow : OpenClaim := { program := "ytfpfgaifhmgpiaadoor", sum := "47c48bbf94f4307c80ad4a05485f73e80a52e86b20c29a5f85664a161d68a9b3", func := "loop.example/g00977/laws.FnAges", spec := "fnAges", unfollowed := true, recurses := true, named := ["loop.example/g00977/impl.decayChanges"], apart := false, laid := [("loop.example/g00977/impl.decayChanges", laid_loop_example_g00977_impl_decayChanges)] }
def FnAgesSaid : Prop := fnAgesRow.holds Tryd.pinned (OpenSpec.ofChange fnAgesSpec)

/-- ITS FALSE NEIGHBOUR: 'it returns false'. Refute it at one input. -/
def fnAgesWrong : ChangeSpec := { name := "fnAges", vars := ["loop.example/g00977/impl.decayChanges"], fn := fun _ => fun
  | [d, g1] => { results := [.lit (.bool false)], args := [d], vars := [g1] }
  | _ => none }
def FnAgesWrongFalsely : Prop := fnAgesRow.holds Tryd.pinned (OpenSpec.ofChange fnAgesWrong)

/-- 'laws.FnExactArrayNew': WHATEVER THE INPUT: true; the input reads as it did. -/
def fnExactArrayNewSpec : ChangeSpec := { name := "fnExactArrayNew", vars := ["loop.example/g00977/impl.generatorTerms"], fn := fun _ => fun
  | [d, g1] => { results := [.lit (.bool true)], args := [d], vars := [g1] }
  | _ => none }
def fnExactArrayNewRow : OpenClaim := { program := "ytfpfgaifhmgpiaadoor", sum := "47c48bbf94f4307c80ad4a05485f73e80a52e86b20c29a5f85664a161d68a9b3", func := "loop.example/g00977/laws.FnExactArrayNew", spec := "fnExactArrayNew", unfollowed := true, recurses := true, named := ["loop.example/g00977/impl.generatorTerms"], apart := false, laid := [("loop.example/g00977/impl.generatorTerms", laid_loop_example_g00977_impl_generatorTerms)] }
def FnExactArrayNewSaid : Prop := fnExactArrayNewRow.holds Tryd.pinned (OpenSpec.ofChange fnExactArrayNewSpec)

/-- ITS FALSE NEIGHBOUR: 'it returns false'. Refute it at one input. -/
def fnExactArrayNewWrong : ChangeSpec := { name := "fnExactArrayNew", vars := ["loop.example/g00977/impl.generatorTerms"], fn := fun _ => fun
  | [d, g1] => { results := [.lit (.bool false)], args := [d], vars := [g1] }
  | _ => none }
def FnExactArrayNewWrongFalsely : Prop := fnExactArrayNewRow.holds Tryd.pinned (OpenSpec.ofChange fnExactArrayNewWrong)

/-- 'laws.FnExactSenseRow': WHATEVER THE INPUT: true; the input reads as it did. -/
def fnExactSenseRowSpec : ChangeSpec := { name := "fnExactSenseRow", vars := ["loop.example/g00977/impl.decayChanges"], fn := fun _ => fun
  | [d1, d2, d3, d4, d5, g1] => { results := [.lit (.bool true)], args := [d1, d2, d3, d4, d5], vars := [g1] }
  | _ => none }
def fnExactSenseRowRow : OpenClaim := { program := "ytfpfgaifhmgpiaadoor", sum := "47c48bbf94f4307c80ad4a05485f73e80a52e86b20c29a5f85664a161d68a9b3", func := "loop.example/g00977/laws.FnExactSenseRow", spec := "fnExactSenseRow", unfollowed := true, recurses := true, named := ["loop.example/g00977/impl.decayChanges"], apart := false, laid := [("loop.example/g00977/impl.decayChanges", laid_loop_example_g00977_impl_decayChanges)] }
def FnExactSenseRowSaid : Prop := fnExactSenseRowRow.holds Tryd.pinned (OpenSpec.ofChange fnExactSenseRowSpec)

/-- ITS FALSE NEIGHBOUR: 'it returns false'. Refute it at one input. -/
def fnExactSenseRowWrong : ChangeSpec := { name := "fnExactSenseRow", vars := ["loop.example/g00977/impl.decayChanges"], fn := fun _ => fun
  | [d1, d2, d3, d4, d5, g1] => { results := [.lit (.bool false)], args := [d1, d2, d3, d4, d5], vars := [g1] }
  | _ => none }
def FnExactSenseRowWrongFalsely : Prop := fnExactSenseRowRow.holds Tryd.pinned (OpenSpec.ofChange fnExactSenseRowWrong)

/-- 'laws.FnExactSenseBank': WHATEVER THE INPUT: true; the input reads as it did. -/
def fnExactSenseBankSpec : ChangeSpec := { name := "fnExactSenseBank", vars := ["loop.example/g00977/impl.decayChanges"], fn := fun _ => fun
  | [d1, d2, d3, d4, g1] => { results := [.lit (.bool true)], args := [d1, d2, d3, d4], vars := [g1] }
  | _ => none }
def fnExactSenseBankRow : OpenClaim := { program := "ytfpfgaifhmgpiaadoor", sum := "47c48bbf94f4307c80ad4a05485f73e80a52e86b20c29a5f85664a161d68a9b3", func := "loop.example/g00977/laws.FnExactSenseBank", spec := "fnExactSenseBank", unfollowed := true, recurses := true, named := ["loop.example/g00977/impl.decayChanges"], apart := false, laid := [("loop.example/g00977/impl.decayChanges", laid_loop_example_g00977_impl_decayChanges)] }
def FnExactSenseBankSaid : Prop := fnExactSenseBankRow.holds Tryd.pinned (OpenSpec.ofChange fnExactSenseBankSpec)

/-- ITS FALSE NEIGHBOUR: 'it returns false'. Refute it at one input. -/
def fnExactSenseBankWrong : ChangeSpec := { name := "fnExactSenseBank", vars := ["loop.example/g00977/impl.decayChanges"], fn := fun _ => fun
  | [d1, d2, d3, d4, g1] => { results := [.lit (.bool false)], args := [d1, d2, d3, d4], vars := [g1] }
  | _ => none }
def FnExactSenseBankWrongFalsely : Prop := fnExactSenseBankRow.holds Tryd.pinned (OpenSpec.ofChange fnExactSenseBankWrong)

/- THE SECOND FORM. 'bulk': how many values and letters a reading holds, each counted each time it is reached (what is shared counts as often as it is met; a slice's spare places count too). A statement '..UptoSaid' is the law's where the arguments, and the package variables that the reading takes, are together of bulk at most 1048576: NARROWER than '..Said'. Prove '..Said' where nothing that the law and all that it calls make is longer than what came in: it says more and counts as full. Else prove '..UptoSaid'. A law counts once. -/
mutual
def uptoBulk {H : Type} : DataW H → Nat
  | .lit (.string bytes) => bytes.length + 1
  | .lit _ => 1
  | .nil => 1
  | .ptr d => uptoBulk d + 1
  | .slice elems spare => uptoBulkAll elems + uptoBulkAll spare + 1
  | .agg parts => uptoBulkAll parts + 1
  | .iface _ d => uptoBulk d + 1
  | .map entries => uptoBulkEntries entries + 1
  | .held _ => 1
def uptoBulkAll {H : Type} : List (DataW H) → Nat
  | [] => 0
  | d :: r => uptoBulk d + uptoBulkAll r
def uptoBulkEntries {H : Type} : List (Lit × DataW H) → Nat
  | [] => 0
  | x :: r => uptoBulkEntry x + uptoBulkEntries r
def uptoBulkEntry {H : Type} : Lit × DataW H → Nat
  | (.string bytes, d) => bytes.length + uptoBulk d + 1
  | (_, d) => uptoBulk d + 1
 end
def uptoSmall : (H : Type) → List (DataW H) → Bool := fun _ ds => decide (uptoBulkAll ds ≤ 1048576)
def OpenSpec.upto (s : _root_.Go.ChangeSpec) : _root_.Go.OpenSpec := { _root_.Go.OpenSpec.ofChange s with cond := some uptoSmall }

/-- 'laws.FnSensed', WHERE WHAT IT READS IS OF BULK AT MOST 1048576: true; the input reads as it did. -/
def fnSensedUptoRow : OpenClaim := { program := "ytfpfgaifhmgpiaadoor", sum := "47c48bbf94f4307c80ad4a05485f73e80a52e86b20c29a5f85664a161d68a9b3", func := "loop.example/g00977/laws.FnSensed", spec := "fnSensed", unfollowed := true, recurses := true, named := ["loop.example/g00977/impl.decayChanges"], apart := false, laid := [("loop.example/g00977/impl.decayChanges", laid_loop_example_g00977_impl_decayChanges)], narrowed := true }
def FnSensedUptoSaid : Prop := fnSensedUptoRow.holds Tryd.pinned (OpenSpec.upto fnSensedSpec)

/-- 'laws.FnDecay', WHERE WHAT IT READS IS OF BULK AT MOST 1048576: true; the input reads as it did. -/
def fnDecayUptoRow : OpenClaim := { program := "ytfpfgaifhmgpiaadoor", sum := "47c48bbf94f4307c80ad4a05485f73e80a52e86b20c29a5f85664a161d68a9b3", func := "loop.example/g00977/laws.FnDecay", spec := "fnDecay", unfollowed := true, recurses := true, named := ["loop.example/g00977/impl.decayChanges"], apart := false, laid := [("loop.example/g00977/impl.decayChanges", laid_loop_example_g00977_impl_decayChanges)], narrowed := true }
def FnDecayUptoSaid : Prop := fnDecayUptoRow.holds Tryd.pinned (OpenSpec.upto fnDecaySpec)

/-- 'laws.FnAges', WHERE WHAT IT READS IS OF BULK AT MOST 1048576: true; the input reads as it did. -/
def fnAgesUptoRow : OpenClaim := { program := "ytfpfgaifhmgpiaadoor", sum := "47c48bbf94f4307c80ad4a05485f73e80a52e86b20c29a5f85664a161d68a9b3", func := "loop.example/g00977/laws.FnAges", spec := "fnAges", unfollowed := true, recurses := true, named := ["loop.example/g00977/impl.decayChanges"], apart := false, laid := [("loop.example/g00977/impl.decayChanges", laid_loop_example_g00977_impl_decayChanges)], narrowed := true }
def FnAgesUptoSaid : Prop := fnAgesUptoRow.holds Tryd.pinned (OpenSpec.upto fnAgesSpec)

/-- 'laws.FnExactArrayNew', WHERE WHAT IT READS IS OF BULK AT MOST 1048576: true; the input reads as it did. -/
def fnExactArrayNewUptoRow : OpenClaim := { program := "ytfpfgaifhmgpiaadoor", sum := "47c48bbf94f4307c80ad4a05485f73e80a52e86b20c29a5f85664a161d68a9b3", func := "loop.example/g00977/laws.FnExactArrayNew", spec := "fnExactArrayNew", unfollowed := true, recurses := true, named := ["loop.example/g00977/impl.generatorTerms"], apart := false, laid := [("loop.example/g00977/impl.generatorTerms", laid_loop_example_g00977_impl_generatorTerms)], narrowed := true }
def FnExactArrayNewUptoSaid : Prop := fnExactArrayNewUptoRow.holds Tryd.pinned (OpenSpec.upto fnExactArrayNewSpec)

/-- 'laws.FnExactSenseRow', WHERE WHAT IT READS IS OF BULK AT MOST 1048576: true; the input reads as it did. -/
def fnExactSenseRowUptoRow : OpenClaim := { program := "ytfpfgaifhmgpiaadoor", sum := "47c48bbf94f4307c80ad4a05485f73e80a52e86b20c29a5f85664a161d68a9b3", func := "loop.example/g00977/laws.FnExactSenseRow", spec := "fnExactSenseRow", unfollowed := true, recurses := true, named := ["loop.example/g00977/impl.decayChanges"], apart := false, laid := [("loop.example/g00977/impl.decayChanges", laid_loop_example_g00977_impl_decayChanges)], narrowed := true }
def FnExactSenseRowUptoSaid : Prop := fnExactSenseRowUptoRow.holds Tryd.pinned (OpenSpec.upto fnExactSenseRowSpec)

/-- 'laws.FnExactSenseBank', WHERE WHAT IT READS IS OF BULK AT MOST 1048576: true; the input reads as it did. -/
def fnExactSenseBankUptoRow : OpenClaim := { program := "ytfpfgaifhmgpiaadoor", sum := "47c48bbf94f4307c80ad4a05485f73e80a52e86b20c29a5f85664a161d68a9b3", func := "loop.example/g00977/laws.FnExactSenseBank", spec := "fnExactSenseBank", unfollowed := true, recurses := true, named := ["loop.example/g00977/impl.decayChanges"], apart := false, laid := [("loop.example/g00977/impl.decayChanges", laid_loop_example_g00977_impl_decayChanges)], narrowed := true }
def FnExactSenseBankUptoSaid : Prop := fnExactSenseBankUptoRow.holds Tryd.pinned (OpenSpec.upto fnExactSenseBankSpec)

end Rows
end Go.Proofs.YtfpfgaifhmgpiaaDoor
