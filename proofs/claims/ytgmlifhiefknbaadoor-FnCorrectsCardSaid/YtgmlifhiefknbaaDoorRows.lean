/-
  NARROWER THAN 'FOR EVERY INPUT', by the rows' own cells (each row's printed sentence says how): FnCorrects: laid · FnDistance: laid · FnLinear: laid · FnExactEncodeSymbols: laid.
  DERIVED. THE GIVEN ROWS OF THIS SEAT. 4 by the template 'for every input the law returns true; each argument reads behind the call as it read before'; 0 by the template 'total and deterministic' (their statements: YtgmlifhiefknbaaDoorTotals.lean).
  GIVEN WITH THE SEED: the statements are not yours to turn. If you find one false, say at which input.
  Laid BY PROGRAM, IN A SANDBOX (cutbox-rows.mjs): the forced cells as the released guide's own fill.sh prints them over the translation ca2675a9e8df41ae… (all of the seat's roots in one cut). By AI agents, Wed Nov 11 2026. No macro, syntax, notation, axiom, sorry.
-/
import Derived.Test.YtgmlifhiefknbaaDoorChecked
import GoSem.Claim
import GoSem.ClaimJoined
import GoSem.ClaimMapViews
import Derived.JoinedTies
import Derived.KernelRfl
namespace Go.Proofs.YtgmlifhiefknbaaDoor
/- THE CELL 'sum', in the pinned program and in every row, IS THE sha256 OF THE DUMP (.gsa) THAT YtgmlifhiefknbaaDoorProg.lean LOADS. Nothing in Lean hashes anything: it is a label: what it is worth is what the hold of that sum in a sandbox is worth. -/
noncomputable def Tryd.pinned : Pinned := { name := "ytgmlifhiefknbaadoor", sum := "ca2675a9e8df41ae380d51e5e09bf470e10f7a0dad17615a97efef19dbf12bc4", checked := Tryd.checked }
namespace Rows
def none {H : Type} : Left H := { results := [], args := [] }

/- WHAT THE LISTED PACKAGE-LEVEL VARIABLES READ AS WHEN THE CALL BEGINS. Each datum BY PROGRAM (the guide's laid-datum.mjs) off the statement by which the dump's own 'gosem.cut.vars' lays the variable. In a bare row this is a premise. The card (YtgmlifhiefknbaaDoorCards.lean) ties it to the program's text. -/
def laid_loop_example_g00977_impl_generatorTerms {H : Type} : DataW H := .agg [.lit (.int .i64 8), .lit (.int .i64 14), .lit (.int .i64 7)]

/-- 'laws.FnCorrects': WHATEVER THE INPUT: true; the input reads as it did. -/
def fnCorrectsSpec : ChangeSpec := { name := "fnCorrects", vars := ["loop.example/g00977/impl.generatorTerms"], fn := fun _ => fun
  | [d, g1] => { results := [.lit (.bool true)], args := [d], vars := [g1] }
  | _ => none }
def fnCorrectsRow : OpenClaim := { program := "ytgmlifhiefknbaadoor", sum := "ca2675a9e8df41ae380d51e5e09bf470e10f7a0dad17615a97efef19dbf12bc4", func := "loop.example/g00977/laws.FnCorrects", spec := "fnCorrects", unfollowed := true, recurses := true, named := ["loop.example/g00977/impl.generatorTerms"], apart := false, laid := [("loop.example/g00977/impl.generatorTerms", laid_loop_example_g00977_impl_generatorTerms)] }
def FnCorrectsSaid : Prop := fnCorrectsRow.holds Tryd.pinned (OpenSpec.ofChange fnCorrectsSpec)

/-- ITS FALSE NEIGHBOUR: 'it returns false'. Refute it at one input. -/
def fnCorrectsWrong : ChangeSpec := { name := "fnCorrects", vars := ["loop.example/g00977/impl.generatorTerms"], fn := fun _ => fun
  | [d, g1] => { results := [.lit (.bool false)], args := [d], vars := [g1] }
  | _ => none }
def FnCorrectsWrongFalsely : Prop := fnCorrectsRow.holds Tryd.pinned (OpenSpec.ofChange fnCorrectsWrong)

/-- 'laws.FnDistance': WHATEVER THE INPUT: true; the input reads as it did. -/
def fnDistanceSpec : ChangeSpec := { name := "fnDistance", vars := ["loop.example/g00977/impl.generatorTerms"], fn := fun _ => fun
  | [d, g1] => { results := [.lit (.bool true)], args := [d], vars := [g1] }
  | _ => none }
def fnDistanceRow : OpenClaim := { program := "ytgmlifhiefknbaadoor", sum := "ca2675a9e8df41ae380d51e5e09bf470e10f7a0dad17615a97efef19dbf12bc4", func := "loop.example/g00977/laws.FnDistance", spec := "fnDistance", unfollowed := true, recurses := true, named := ["loop.example/g00977/impl.generatorTerms"], apart := false, laid := [("loop.example/g00977/impl.generatorTerms", laid_loop_example_g00977_impl_generatorTerms)] }
def FnDistanceSaid : Prop := fnDistanceRow.holds Tryd.pinned (OpenSpec.ofChange fnDistanceSpec)

/-- ITS FALSE NEIGHBOUR: 'it returns false'. Refute it at one input. -/
def fnDistanceWrong : ChangeSpec := { name := "fnDistance", vars := ["loop.example/g00977/impl.generatorTerms"], fn := fun _ => fun
  | [d, g1] => { results := [.lit (.bool false)], args := [d], vars := [g1] }
  | _ => none }
def FnDistanceWrongFalsely : Prop := fnDistanceRow.holds Tryd.pinned (OpenSpec.ofChange fnDistanceWrong)

/-- 'laws.FnLinear': WHATEVER THE INPUT: true; the input reads as it did. -/
def fnLinearSpec : ChangeSpec := { name := "fnLinear", vars := ["loop.example/g00977/impl.generatorTerms"], fn := fun _ => fun
  | [d, g1] => { results := [.lit (.bool true)], args := [d], vars := [g1] }
  | _ => none }
def fnLinearRow : OpenClaim := { program := "ytgmlifhiefknbaadoor", sum := "ca2675a9e8df41ae380d51e5e09bf470e10f7a0dad17615a97efef19dbf12bc4", func := "loop.example/g00977/laws.FnLinear", spec := "fnLinear", unfollowed := true, recurses := true, named := ["loop.example/g00977/impl.generatorTerms"], apart := false, laid := [("loop.example/g00977/impl.generatorTerms", laid_loop_example_g00977_impl_generatorTerms)] }
def FnLinearSaid : Prop := fnLinearRow.holds Tryd.pinned (OpenSpec.ofChange fnLinearSpec)

/-- ITS FALSE NEIGHBOUR: 'it returns false'. Refute it at one input. -/
def fnLinearWrong : ChangeSpec := { name := "fnLinear", vars := ["loop.example/g00977/impl.generatorTerms"], fn := fun _ => fun
  | [d, g1] => { results := [.lit (.bool false)], args := [d], vars := [g1] }
  | _ => none }
def FnLinearWrongFalsely : Prop := fnLinearRow.holds Tryd.pinned (OpenSpec.ofChange fnLinearWrong)

/-- 'laws.FnExactEncodeSymbols': WHATEVER THE INPUT: true; the input reads as it did. -/
def fnExactEncodeSymbolsSpec : ChangeSpec := { name := "fnExactEncodeSymbols", vars := ["loop.example/g00977/impl.generatorTerms"], fn := fun _ => fun
  | [d, g1] => { results := [.lit (.bool true)], args := [d], vars := [g1] }
  | _ => none }
def fnExactEncodeSymbolsRow : OpenClaim := { program := "ytgmlifhiefknbaadoor", sum := "ca2675a9e8df41ae380d51e5e09bf470e10f7a0dad17615a97efef19dbf12bc4", func := "loop.example/g00977/laws.FnExactEncodeSymbols", spec := "fnExactEncodeSymbols", unfollowed := true, recurses := true, named := ["loop.example/g00977/impl.generatorTerms"], apart := false, laid := [("loop.example/g00977/impl.generatorTerms", laid_loop_example_g00977_impl_generatorTerms)] }
def FnExactEncodeSymbolsSaid : Prop := fnExactEncodeSymbolsRow.holds Tryd.pinned (OpenSpec.ofChange fnExactEncodeSymbolsSpec)

/-- ITS FALSE NEIGHBOUR: 'it returns false'. Refute it at one input. -/
def fnExactEncodeSymbolsWrong : ChangeSpec := { name := "fnExactEncodeSymbols", vars := ["loop.example/g00977/impl.generatorTerms"], fn := fun _ => fun
  | [d, g1] => { results := [.lit (.bool false)], args := [d], vars := [g1] }
  | _ => none }
def FnExactEncodeSymbolsWrongFalsely : Prop := fnExactEncodeSymbolsRow.holds Tryd.pinned (OpenSpec.ofChange fnExactEncodeSymbolsWrong)

/- THE SECOND FORM. 'bulk': how many values and letters a reading holds, each counted each time it is reached (what is shared counts as often as it is met; a slice's spare places count too). A statement '..UptoSaid' is the law's where the arguments, and the package variables that the reading takes, are together of bulk at most 1048576: NARROWER than '..Said'. Prove '..Said' where nothing that the law and all that it calls make is longer than what came in: it says more and counts as full. Else prove '..UptoSaid'. A law counts once. -/
mutual
def uptoBulk {H : Type} : DataW H → Nat
  | .lit (.string bytes) => bytes.length + 1
  | .lit _ => 1
  | .nil => 1
  | .ptr d => uptoBulk d + 1
  | .slice elems spare => uptoBulkAll elems + uptoBulkAll spare + 1
  | .agg parts => uptoBulkAll parts + 1
  | .iface _ d => uptoBulk d + 1
  | .map entries => uptoBulkEntries entries + 1
  | .held _ => 1
def uptoBulkAll {H : Type} : List (DataW H) → Nat
  | [] => 0
  | d :: r => uptoBulk d + uptoBulkAll r
def uptoBulkEntries {H : Type} : List (Lit × DataW H) → Nat
  | [] => 0
  | x :: r => uptoBulkEntry x + uptoBulkEntries r
def uptoBulkEntry {H : Type} : Lit × DataW H → Nat
  | (.string bytes, d) => bytes.length + uptoBulk d + 1
  | (_, d) => uptoBulk d + 1
 end
def uptoSmall : (H : Type) → List (DataW H) → Bool := fun _ ds => decide (uptoBulkAll ds ≤ 1048576)
def OpenSpec.upto (s : _root_.Go.ChangeSpec) : _root_.Go.OpenSpec := { _root_.Go.OpenSpec.ofChange s with cond := some uptoSmall }

/-- 'laws.FnCorrects', WHERE WHAT IT READS IS OF BULK AT MOST 1048576: true; the input reads as it did. -/
def fnCorrectsUptoRow : OpenClaim := { program := "ytgmlifhiefknbaadoor", sum := "ca2675a9e8df41ae380d51e5e09bf470e10f7a0dad17615a97efef19dbf12bc4", func := "loop.example/g00977/laws.FnCorrects", spec := "fnCorrects", unfollowed := true, recurses := true, named := ["loop.example/g00977/impl.generatorTerms"], apart := false, laid := [("loop.example/g00977/impl.generatorTerms", laid_loop_example_g00977_impl_generatorTerms)], narrowed := true }
def FnCorrectsUptoSaid : Prop := fnCorrectsUptoRow.holds Tryd.pinned (OpenSpec.upto fnCorrectsSpec)

/-- 'laws.FnDistance', WHERE WHAT IT READS IS OF BULK AT MOST 1048576: true; the input reads as it did. -/
def fnDistanceUptoRow : OpenClaim := { program := "ytgmlifhiefknbaadoor", sum := "ca2675a9e8df41ae380d51e5e09bf470e10f7a0dad17615a97efef19dbf12bc4", func := "loop.example/g00977/laws.FnDistance", spec := "fnDistance", unfollowed := true, recurses := true, named := ["loop.example/g00977/impl.generatorTerms"], apart := false, laid := [("loop.example/g00977/impl.generatorTerms", laid_loop_example_g00977_impl_generatorTerms)], narrowed := true }
def FnDistanceUptoSaid : Prop := fnDistanceUptoRow.holds Tryd.pinned (OpenSpec.upto fnDistanceSpec)

/-- 'laws.FnLinear', WHERE WHAT IT READS IS OF BULK AT MOST 1048576: true; the input reads as it did. -/
def fnLinearUptoRow : OpenClaim := { program := "ytgmlifhiefknbaadoor", sum := "ca2675a9e8df41ae380d51e5e09bf470e10f7a0dad17615a97efef19dbf12bc4", func := "loop.example/g00977/laws.FnLinear", spec := "fnLinear", unfollowed := true, recurses := true, named := ["loop.example/g00977/impl.generatorTerms"], apart := false, laid := [("loop.example/g00977/impl.generatorTerms", laid_loop_example_g00977_impl_generatorTerms)], narrowed := true }
def FnLinearUptoSaid : Prop := fnLinearUptoRow.holds Tryd.pinned (OpenSpec.upto fnLinearSpec)

/-- 'laws.FnExactEncodeSymbols', WHERE WHAT IT READS IS OF BULK AT MOST 1048576: true; the input reads as it did. -/
def fnExactEncodeSymbolsUptoRow : OpenClaim := { program := "ytgmlifhiefknbaadoor", sum := "ca2675a9e8df41ae380d51e5e09bf470e10f7a0dad17615a97efef19dbf12bc4", func := "loop.example/g00977/laws.FnExactEncodeSymbols", spec := "fnExactEncodeSymbols", unfollowed := true, recurses := true, named := ["loop.example/g00977/impl.generatorTerms"], apart := false, laid := [("loop.example/g00977/impl.generatorTerms", laid_loop_example_g00977_impl_generatorTerms)], narrowed := true }
def FnExactEncodeSymbolsUptoSaid : Prop := fnExactEncodeSymbolsUptoRow.holds Tryd.pinned (OpenSpec.upto fnExactEncodeSymbolsSpec)

end Rows
end Go.Proofs.YtgmlifhiefknbaaDoor
