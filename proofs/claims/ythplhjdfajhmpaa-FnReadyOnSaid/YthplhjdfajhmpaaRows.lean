/-
  No cell of these rows narrows 'for every input' (looked for: loops, veiled, ifaces, maps, wideKeys, modest, calm, conditions, laid).
  DERIVED. THE GIVEN ROWS OF THIS SEAT. 7 by the template 'for every input the law returns true; each argument reads behind the call as it read before'; 0 by the template 'total and deterministic' (their statements: YthplhjdfajhmpaaTotals.lean).
  GIVEN WITH THE SEED: the statements are not yours to turn. If you find one false, say at which input.
  Laid BY PROGRAM, IN A SANDBOX (cutbox-rows.mjs): the forced cells as the released guide's own fill.sh prints them over the translation 040b9bc8b43f08f8… (all of the seat's roots in one cut). By AI agents, Wed Nov 11 2026. No macro, syntax, notation, axiom, sorry.
-/
import Derived.Test.YthplhjdfajhmpaaChecked
import GoSem.Claim
import GoSem.ClaimJoined
import GoSem.ClaimMapViews
import Derived.JoinedTies
import Derived.KernelRfl
namespace Go.Proofs.Ythplhjdfajhmpaa
/- THE CELL 'sum', in the pinned program and in every row, IS THE sha256 OF THE DUMP (.gsa) THAT YthplhjdfajhmpaaProg.lean LOADS. Nothing in Lean hashes anything: it is a label: what it is worth is what the hold of that sum in a sandbox is worth. -/
noncomputable def Try.pinned : Pinned := { name := "ythplhjdfajhmpaa", sum := "040b9bc8b43f08f810f6cc543c2bc35d47d9f8490df17d34ae7af6a5de6df4b3", checked := Try.checked }
namespace Rows
def none {H : Type} : Left H := { results := [], args := [] }

/-- 'laws.FnReadyOn': WHATEVER THE INPUT: true; the input reads as it did. -/
def fnReadyOnSpec : ChangeSpec := { name := "fnReadyOn", fn := fun _ => fun
  | [d] => { results := [.lit (.bool true)], args := [d] }
  | _ => none }
def fnReadyOnRow : OpenClaim := { program := "ythplhjdfajhmpaa", sum := "040b9bc8b43f08f810f6cc543c2bc35d47d9f8490df17d34ae7af6a5de6df4b3", func := "loop.example/g00977/laws.FnReadyOn", spec := "fnReadyOn", unfollowed := true, recurses := true, apart := false }
def FnReadyOnSaid : Prop := fnReadyOnRow.holds Try.pinned (OpenSpec.ofChange fnReadyOnSpec)

/-- ITS FALSE NEIGHBOUR: 'it returns false'. Refute it at one input. -/
def fnReadyOnWrong : ChangeSpec := { name := "fnReadyOn", fn := fun _ => fun
  | [d] => { results := [.lit (.bool false)], args := [d] }
  | _ => none }
def FnReadyOnWrongFalsely : Prop := fnReadyOnRow.holds Try.pinned (OpenSpec.ofChange fnReadyOnWrong)

/-- 'laws.FnExactTraceFault': WHATEVER THE INPUT: true; the input reads as it did. -/
def fnExactTraceFaultSpec : ChangeSpec := { name := "fnExactTraceFault", fn := fun _ => fun
  | [d1, d2, d3] => { results := [.lit (.bool true)], args := [d1, d2, d3] }
  | _ => none }
def fnExactTraceFaultRow : OpenClaim := { program := "ythplhjdfajhmpaa", sum := "040b9bc8b43f08f810f6cc543c2bc35d47d9f8490df17d34ae7af6a5de6df4b3", func := "loop.example/g00977/laws.FnExactTraceFault", spec := "fnExactTraceFault", unfollowed := true, recurses := true, apart := false }
def FnExactTraceFaultSaid : Prop := fnExactTraceFaultRow.holds Try.pinned (OpenSpec.ofChange fnExactTraceFaultSpec)

/-- ITS FALSE NEIGHBOUR: 'it returns false'. Refute it at one input. -/
def fnExactTraceFaultWrong : ChangeSpec := { name := "fnExactTraceFault", fn := fun _ => fun
  | [d1, d2, d3] => { results := [.lit (.bool false)], args := [d1, d2, d3] }
  | _ => none }
def FnExactTraceFaultWrongFalsely : Prop := fnExactTraceFaultRow.holds Try.pinned (OpenSpec.ofChange fnExactTraceFaultWrong)

/-- 'laws.FnExactReadyNew': WHATEVER THE INPUT: true; the input reads as it did. -/
def fnExactReadyNewSpec : ChangeSpec := { name := "fnExactReadyNew", fn := fun _ => fun
  | [d] => { results := [.lit (.bool true)], args := [d] }
  | _ => none }
def fnExactReadyNewRow : OpenClaim := { program := "ythplhjdfajhmpaa", sum := "040b9bc8b43f08f810f6cc543c2bc35d47d9f8490df17d34ae7af6a5de6df4b3", func := "loop.example/g00977/laws.FnExactReadyNew", spec := "fnExactReadyNew", apart := false }
def FnExactReadyNewSaid : Prop := fnExactReadyNewRow.holds Try.pinned (OpenSpec.ofChange fnExactReadyNewSpec)

/-- ITS FALSE NEIGHBOUR: 'it returns false'. Refute it at one input. -/
def fnExactReadyNewWrong : ChangeSpec := { name := "fnExactReadyNew", fn := fun _ => fun
  | [d] => { results := [.lit (.bool false)], args := [d] }
  | _ => none }
def FnExactReadyNewWrongFalsely : Prop := fnExactReadyNewRow.holds Try.pinned (OpenSpec.ofChange fnExactReadyNewWrong)

/-- 'laws.FnExactReadyOk': WHATEVER THE INPUT: true; the input reads as it did. -/
def fnExactReadyOkSpec : ChangeSpec := { name := "fnExactReadyOk", fn := fun _ => fun
  | [d1, d2] => { results := [.lit (.bool true)], args := [d1, d2] }
  | _ => none }
def fnExactReadyOkRow : OpenClaim := { program := "ythplhjdfajhmpaa", sum := "040b9bc8b43f08f810f6cc543c2bc35d47d9f8490df17d34ae7af6a5de6df4b3", func := "loop.example/g00977/laws.FnExactReadyOk", spec := "fnExactReadyOk", apart := false }
def FnExactReadyOkSaid : Prop := fnExactReadyOkRow.holds Try.pinned (OpenSpec.ofChange fnExactReadyOkSpec)

/-- ITS FALSE NEIGHBOUR: 'it returns false'. Refute it at one input. -/
def fnExactReadyOkWrong : ChangeSpec := { name := "fnExactReadyOk", fn := fun _ => fun
  | [d1, d2] => { results := [.lit (.bool false)], args := [d1, d2] }
  | _ => none }
def FnExactReadyOkWrongFalsely : Prop := fnExactReadyOkRow.holds Try.pinned (OpenSpec.ofChange fnExactReadyOkWrong)

/-- 'laws.FnExactReadyAfter': WHATEVER THE INPUT: true; the input reads as it did. -/
def fnExactReadyAfterSpec : ChangeSpec := { name := "fnExactReadyAfter", fn := fun _ => fun
  | [d1, d2, d3] => { results := [.lit (.bool true)], args := [d1, d2, d3] }
  | _ => none }
def fnExactReadyAfterRow : OpenClaim := { program := "ythplhjdfajhmpaa", sum := "040b9bc8b43f08f810f6cc543c2bc35d47d9f8490df17d34ae7af6a5de6df4b3", func := "loop.example/g00977/laws.FnExactReadyAfter", spec := "fnExactReadyAfter", unfollowed := true, recurses := true, apart := false }
def FnExactReadyAfterSaid : Prop := fnExactReadyAfterRow.holds Try.pinned (OpenSpec.ofChange fnExactReadyAfterSpec)

/-- ITS FALSE NEIGHBOUR: 'it returns false'. Refute it at one input. -/
def fnExactReadyAfterWrong : ChangeSpec := { name := "fnExactReadyAfter", fn := fun _ => fun
  | [d1, d2, d3] => { results := [.lit (.bool false)], args := [d1, d2, d3] }
  | _ => none }
def FnExactReadyAfterWrongFalsely : Prop := fnExactReadyAfterRow.holds Try.pinned (OpenSpec.ofChange fnExactReadyAfterWrong)

/-- 'laws.FnExactReadyOf': WHATEVER THE INPUT: true; the input reads as it did. -/
def fnExactReadyOfSpec : ChangeSpec := { name := "fnExactReadyOf", fn := fun _ => fun
  | [d1, d2] => { results := [.lit (.bool true)], args := [d1, d2] }
  | _ => none }
def fnExactReadyOfRow : OpenClaim := { program := "ythplhjdfajhmpaa", sum := "040b9bc8b43f08f810f6cc543c2bc35d47d9f8490df17d34ae7af6a5de6df4b3", func := "loop.example/g00977/laws.FnExactReadyOf", spec := "fnExactReadyOf", unfollowed := true, recurses := true, apart := false }
def FnExactReadyOfSaid : Prop := fnExactReadyOfRow.holds Try.pinned (OpenSpec.ofChange fnExactReadyOfSpec)

/-- ITS FALSE NEIGHBOUR: 'it returns false'. Refute it at one input. -/
def fnExactReadyOfWrong : ChangeSpec := { name := "fnExactReadyOf", fn := fun _ => fun
  | [d1, d2] => { results := [.lit (.bool false)], args := [d1, d2] }
  | _ => none }
def FnExactReadyOfWrongFalsely : Prop := fnExactReadyOfRow.holds Try.pinned (OpenSpec.ofChange fnExactReadyOfWrong)

/-- 'laws.FnExactReadyAt': WHATEVER THE INPUT: true; the input reads as it did. -/
def fnExactReadyAtSpec : ChangeSpec := { name := "fnExactReadyAt", fn := fun _ => fun
  | [d1, d2, d3, d4] => { results := [.lit (.bool true)], args := [d1, d2, d3, d4] }
  | _ => none }
def fnExactReadyAtRow : OpenClaim := { program := "ythplhjdfajhmpaa", sum := "040b9bc8b43f08f810f6cc543c2bc35d47d9f8490df17d34ae7af6a5de6df4b3", func := "loop.example/g00977/laws.FnExactReadyAt", spec := "fnExactReadyAt", unfollowed := true, recurses := true, apart := false }
def FnExactReadyAtSaid : Prop := fnExactReadyAtRow.holds Try.pinned (OpenSpec.ofChange fnExactReadyAtSpec)

/-- ITS FALSE NEIGHBOUR: 'it returns false'. Refute it at one input. -/
def fnExactReadyAtWrong : ChangeSpec := { name := "fnExactReadyAt", fn := fun _ => fun
  | [d1, d2, d3, d4] => { results := [.lit (.bool false)], args := [d1, d2, d3, d4] }
  | _ => none }
def FnExactReadyAtWrongFalsely : Prop := fnExactReadyAtRow.holds Try.pinned (OpenSpec.ofChange fnExactReadyAtWrong)

/- THE SECOND FORM. 'bulk': how many values and letters a reading holds, each counted each time it is reached (what is shared counts as often as it is met; a slice's spare places count too). A statement '..UptoSaid' is the law's where the arguments, and the package variables that the reading takes, are together of bulk at most 1048576: NARROWER than '..Said'. Prove '..Said' where nothing that the law and all that it calls make is longer than what came in: it says more and counts as full. Else prove '..UptoSaid'. A law counts once. -/
mutual
def uptoBulk {H : Type} : DataW H → Nat
  | .lit (.string bytes) => bytes.length + 1
  | .lit _ => 1
  | .nil => 1
  | .ptr d => uptoBulk d + 1
  | .slice elems spare => uptoBulkAll elems + uptoBulkAll spare + 1
  | .agg parts => uptoBulkAll parts + 1
  | .iface _ d => uptoBulk d + 1
  | .map entries => uptoBulkEntries entries + 1
  | .held _ => 1
def uptoBulkAll {H : Type} : List (DataW H) → Nat
  | [] => 0
  | d :: r => uptoBulk d + uptoBulkAll r
def uptoBulkEntries {H : Type} : List (Lit × DataW H) → Nat
  | [] => 0
  | x :: r => uptoBulkEntry x + uptoBulkEntries r
def uptoBulkEntry {H : Type} : Lit × DataW H → Nat
  | (.string bytes, d) => bytes.length + uptoBulk d + 1
  | (_, d) => uptoBulk d + 1
 end
def uptoSmall : (H : Type) → List (DataW H) → Bool := fun _ ds => decide (uptoBulkAll ds ≤ 1048576)
def OpenSpec.upto (s : _root_.Go.ChangeSpec) : _root_.Go.OpenSpec := { _root_.Go.OpenSpec.ofChange s with cond := some uptoSmall }

/-- 'laws.FnReadyOn', WHERE WHAT IT READS IS OF BULK AT MOST 1048576: true; the input reads as it did. -/
def fnReadyOnUptoRow : OpenClaim := { program := "ythplhjdfajhmpaa", sum := "040b9bc8b43f08f810f6cc543c2bc35d47d9f8490df17d34ae7af6a5de6df4b3", func := "loop.example/g00977/laws.FnReadyOn", spec := "fnReadyOn", unfollowed := true, recurses := true, apart := false, narrowed := true }
def FnReadyOnUptoSaid : Prop := fnReadyOnUptoRow.holds Try.pinned (OpenSpec.upto fnReadyOnSpec)

/-- 'laws.FnExactTraceFault', WHERE WHAT IT READS IS OF BULK AT MOST 1048576: true; the input reads as it did. -/
def fnExactTraceFaultUptoRow : OpenClaim := { program := "ythplhjdfajhmpaa", sum := "040b9bc8b43f08f810f6cc543c2bc35d47d9f8490df17d34ae7af6a5de6df4b3", func := "loop.example/g00977/laws.FnExactTraceFault", spec := "fnExactTraceFault", unfollowed := true, recurses := true, apart := false, narrowed := true }
def FnExactTraceFaultUptoSaid : Prop := fnExactTraceFaultUptoRow.holds Try.pinned (OpenSpec.upto fnExactTraceFaultSpec)

/-- 'laws.FnExactReadyNew', WHERE WHAT IT READS IS OF BULK AT MOST 1048576: true; the input reads as it did. -/
def fnExactReadyNewUptoRow : OpenClaim := { program := "ythplhjdfajhmpaa", sum := "040b9bc8b43f08f810f6cc543c2bc35d47d9f8490df17d34ae7af6a5de6df4b3", func := "loop.example/g00977/laws.FnExactReadyNew", spec := "fnExactReadyNew", apart := false, narrowed := true }
def FnExactReadyNewUptoSaid : Prop := fnExactReadyNewUptoRow.holds Try.pinned (OpenSpec.upto fnExactReadyNewSpec)

/-- 'laws.FnExactReadyOk', WHERE WHAT IT READS IS OF BULK AT MOST 1048576: true; the input reads as it did. -/
def fnExactReadyOkUptoRow : OpenClaim := { program := "ythplhjdfajhmpaa", sum := "040b9bc8b43f08f810f6cc543c2bc35d47d9f8490df17d34ae7af6a5de6df4b3", func := "loop.example/g00977/laws.FnExactReadyOk", spec := "fnExactReadyOk", apart := false, narrowed := true }
def FnExactReadyOkUptoSaid : Prop := fnExactReadyOkUptoRow.holds Try.pinned (OpenSpec.upto fnExactReadyOkSpec)

/-- 'laws.FnExactReadyAfter', WHERE WHAT IT READS IS OF BULK AT MOST 1048576: true; the input reads as it did. -/
def fnExactReadyAfterUptoRow : OpenClaim := { program := "ythplhjdfajhmpaa", sum := "040b9bc8b43f08f810f6cc543c2bc35d47d9f8490df17d34ae7af6a5de6df4b3", func := "loop.example/g00977/laws.FnExactReadyAfter", spec := "fnExactReadyAfter", unfollowed := true, recurses := true, apart := false, narrowed := true }
def FnExactReadyAfterUptoSaid : Prop := fnExactReadyAfterUptoRow.holds Try.pinned (OpenSpec.upto fnExactReadyAfterSpec)

/-- 'laws.FnExactReadyOf', WHERE WHAT IT READS IS OF BULK AT MOST 1048576: true; the input reads as it did. -/
def fnExactReadyOfUptoRow : OpenClaim := { program := "ythplhjdfajhmpaa", sum := "040b9bc8b43f08f810f6cc543c2bc35d47d9f8490df17d34ae7af6a5de6df4b3", func := "loop.example/g00977/laws.FnExactReadyOf", spec := "fnExactReadyOf", unfollowed := true, recurses := true, apart := false, narrowed := true }
def FnExactReadyOfUptoSaid : Prop := fnExactReadyOfUptoRow.holds Try.pinned (OpenSpec.upto fnExactReadyOfSpec)

/-- 'laws.FnExactReadyAt', WHERE WHAT IT READS IS OF BULK AT MOST 1048576: true; the input reads as it did. -/
def fnExactReadyAtUptoRow : OpenClaim := { program := "ythplhjdfajhmpaa", sum := "040b9bc8b43f08f810f6cc543c2bc35d47d9f8490df17d34ae7af6a5de6df4b3", func := "loop.example/g00977/laws.FnExactReadyAt", spec := "fnExactReadyAt", unfollowed := true, recurses := true, apart := false, narrowed := true }
def FnExactReadyAtUptoSaid : Prop := fnExactReadyAtUptoRow.holds Try.pinned (OpenSpec.upto fnExactReadyAtSpec)

end Rows
end Go.Proofs.Ythplhjdfajhmpaa
