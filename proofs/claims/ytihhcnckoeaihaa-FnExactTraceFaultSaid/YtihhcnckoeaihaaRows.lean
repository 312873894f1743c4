/-
  No cell of these rows narrows 'for every input' (looked for: loops, veiled, ifaces, maps, wideKeys, modest, calm, conditions, laid).
  DERIVED. THE GIVEN ROWS OF THIS SEAT. 3 by the template 'for every input the law returns true; each argument reads behind the call as it read before'; 0 by the template 'total and deterministic' (their statements: YtihhcnckoeaihaaTotals.lean).
  GIVEN WITH THE SEED: the statements are not yours to turn. If you find one false, say at which input.
  Laid BY PROGRAM, IN A SANDBOX (cutbox-rows.mjs): the forced cells as the released guide's own fill.sh prints them over the translation 4a28495bb1988969… (all of the seat's roots in one cut). By AI agents, Wed Nov 11 2026. No macro, syntax, notation, axiom, sorry.
-/
import Derived.Test.YtihhcnckoeaihaaChecked
import GoSem.Claim
import GoSem.ClaimJoined
import GoSem.ClaimMapViews
import Derived.JoinedTies
import Derived.KernelRfl
namespace Go.Proofs.Ytihhcnckoeaihaa
/- THE CELL 'sum', in the pinned program and in every row, IS THE sha256 OF THE DUMP (.gsa) THAT YtihhcnckoeaihaaProg.lean LOADS. Nothing in Lean hashes anything: it is a label: what it is worth is what the hold of that sum in a sandbox is worth. -/
noncomputable def Try.pinned : Pinned := { name := "ytihhcnckoeaihaa", sum := "4a28495bb198896919b75f38e37d80ad284c85d22ebaf8bca767906f7f304f8f", checked := Try.checked }
namespace Rows
def none {H : Type} : Left H := { results := [], args := [] }

/-- 'laws.FnExactTraceFault': WHATEVER THE INPUT: true; the input reads as it did. -/
def fnExactTraceFaultSpec : ChangeSpec := { name := "fnExactTraceFault", fn := fun _ => fun
  | [d1, d2, d3] => { results := [.lit (.bool true)], args := [d1, d2, d3] }
  | _ => none }
def fnExactTraceFaultRow : OpenClaim := { program := "ytihhcnckoeaihaa", sum := "4a28495bb198896919b75f38e37d80ad284c85d22ebaf8bca767906f7f304f8f", func := "loop.example/g00977/laws.FnExactTraceFault", spec := "fnExactTraceFault", unfollowed := true, recurses := true, apart := false }
def FnExactTraceFaultSaid : Prop := fnExactTraceFaultRow.holds Try.pinned (OpenSpec.ofChange fnExactTraceFaultSpec)

/-- ITS FALSE NEIGHBOUR: 'it returns false'. Refute it at one input. -/
def fnExactTraceFaultWrong : ChangeSpec := { name := "fnExactTraceFault", fn := fun _ => fun
  | [d1, d2, d3] => { results := [.lit (.bool false)], args := [d1, d2, d3] }
  | _ => none }
def FnExactTraceFaultWrongFalsely : Prop := fnExactTraceFaultRow.holds Try.pinned (OpenSpec.ofChange fnExactTraceFaultWrong)

/-- 'laws.FnExactTraceEnd': WHATEVER THE INPUT: true; the input reads as it did. -/
def fnExactTraceEndSpec : ChangeSpec := { name := "fnExactTraceEnd", fn := fun _ => fun
  | [d1, d2] => { results := [.lit (.bool true)], args := [d1, d2] }
  | _ => none }
def fnExactTraceEndRow : OpenClaim := { program := "ytihhcnckoeaihaa", sum := "4a28495bb198896919b75f38e37d80ad284c85d22ebaf8bca767906f7f304f8f", func := "loop.example/g00977/laws.FnExactTraceEnd", spec := "fnExactTraceEnd", unfollowed := true, recurses := true, apart := false }
def FnExactTraceEndSaid : Prop := fnExactTraceEndRow.holds Try.pinned (OpenSpec.ofChange fnExactTraceEndSpec)

/-- ITS FALSE NEIGHBOUR: 'it returns false'. Refute it at one input. -/
def fnExactTraceEndWrong : ChangeSpec := { name := "fnExactTraceEnd", fn := fun _ => fun
  | [d1, d2] => { results := [.lit (.bool false)], args := [d1, d2] }
  | _ => none }
def FnExactTraceEndWrongFalsely : Prop := fnExactTraceEndRow.holds Try.pinned (OpenSpec.ofChange fnExactTraceEndWrong)

/-- 'laws.FnExactActTimes': WHATEVER THE INPUT: true; the input reads as it did. -/
def fnExactActTimesSpec : ChangeSpec := { name := "fnExactActTimes", fn := fun _ => fun
  | [d] => { results := [.lit (.bool true)], args := [d] }
  | _ => none }
def fnExactActTimesRow : OpenClaim := { program := "ytihhcnckoeaihaa", sum := "4a28495bb198896919b75f38e37d80ad284c85d22ebaf8bca767906f7f304f8f", func := "loop.example/g00977/laws.FnExactActTimes", spec := "fnExactActTimes", apart := false }
def FnExactActTimesSaid : Prop := fnExactActTimesRow.holds Try.pinned (OpenSpec.ofChange fnExactActTimesSpec)

/-- ITS FALSE NEIGHBOUR: 'it returns false'. Refute it at one input. -/
def fnExactActTimesWrong : ChangeSpec := { name := "fnExactActTimes", fn := fun _ => fun
  | [d] => { results := [.lit (.bool false)], args := [d] }
  | _ => none }
def FnExactActTimesWrongFalsely : Prop := fnExactActTimesRow.holds Try.pinned (OpenSpec.ofChange fnExactActTimesWrong)

/- THE SECOND FORM. 'bulk': how many values and letters a reading holds, each counted each time it is reached (what is shared counts as often as it is met; a slice's spare places count too). A statement '..UptoSaid' is the law's where the arguments, and the package variables that the reading takes, are together of bulk at most 1048576: NARROWER than '..Said'. Prove '..Said' where nothing that the law and all that it calls make is longer than what came in: it says more and counts as full. Else prove '..UptoSaid'. A law counts once. -/
mutual
def uptoBulk {H : Type} : DataW H → Nat
  | .lit (.string bytes) => bytes.length + 1
  | .lit _ => 1
  | .nil => 1
  | .ptr d => uptoBulk d + 1
  | .slice elems spare => uptoBulkAll elems + uptoBulkAll spare + 1
  | .agg parts => uptoBulkAll parts + 1
  | .iface _ d => uptoBulk d + 1
  | .map entries => uptoBulkEntries entries + 1
  | .held _ => 1
def uptoBulkAll {H : Type} : List (DataW H) → Nat
  | [] => 0
  | d :: r => uptoBulk d + uptoBulkAll r
def uptoBulkEntries {H : Type} : List (Lit × DataW H) → Nat
  | [] => 0
  | x :: r => uptoBulkEntry x + uptoBulkEntries r
def uptoBulkEntry {H : Type} : Lit × DataW H → Nat
  | (.string bytes, d) => bytes.length + uptoBulk d + 1
  | (_, d) => uptoBulk d + 1
 end
def uptoSmall : (H : Type) → List (DataW H) → Bool := fun _ ds => decide (uptoBulkAll ds ≤ 1048576)
def OpenSpec.upto (s : _root_.Go.ChangeSpec) : _root_.Go.OpenSpec := { _root_.Go.OpenSpec.ofChange s with cond := some uptoSmall }

/-- 'laws.FnExactTraceFault', WHERE WHAT IT READS IS OF BULK AT MOST 1048576: true; the input reads as it did. -/
def fnExactTraceFaultUptoRow : OpenClaim := { program := "ytihhcnckoeaihaa", sum := "4a28495bb198896919b75f38e37d80ad284c85d22ebaf8bca767906f7f304f8f", func := "loop.example/g00977/laws.FnExactTraceFault", spec := "fnExactTraceFault", unfollowed := true, recurses := true, apart := false, narrowed := true }
def FnExactTraceFaultUptoSaid : Prop := fnExactTraceFaultUptoRow.holds Try.pinned (OpenSpec.upto fnExactTraceFaultSpec)

/-- 'laws.FnExactTraceEnd', WHERE WHAT IT READS IS OF BULK AT MOST 1048576: true; the input reads as it did. -/
def fnExactTraceEndUptoRow : OpenClaim := { program := "ytihhcnckoeaihaa", sum := "4a28495bb198896919b75f38e37d80ad284c85d22ebaf8bca767906f7f304f8f", func := "loop.example/g00977/laws.FnExactTraceEnd", spec := "fnExactTraceEnd", unfollowed := true, recurses := true, apart := false, narrowed := true }
def FnExactTraceEndUptoSaid : Prop := fnExactTraceEndUptoRow.holds Try.pinned (OpenSpec.upto fnExactTraceEndSpec)

/-- 'laws.FnExactActTimes', WHERE WHAT IT READS IS OF BULK AT MOST 1048576: true; the input reads as it did. -/
def fnExactActTimesUptoRow : OpenClaim := { program := "ytihhcnckoeaihaa", sum := "4a28495bb198896919b75f38e37d80ad284c85d22ebaf8bca767906f7f304f8f", func := "loop.example/g00977/laws.FnExactActTimes", spec := "fnExactActTimes", apart := false, narrowed := true }
def FnExactActTimesUptoSaid : Prop := fnExactActTimesUptoRow.holds Try.pinned (OpenSpec.upto fnExactActTimesSpec)

end Rows
end Go.Proofs.Ytihhcnckoeaihaa
