/-
  No cell of these rows narrows 'for every input' (looked for: loops, veiled, ifaces, maps, wideKeys, modest, calm, conditions, laid).
  DERIVED. THE GIVEN ROWS OF THIS SEAT. 8 by the template 'for every input the law returns true; each argument reads behind the call as it read before'; 0 by the template 'total and deterministic' (their statements: YtigoniochamjgaaTotals.lean).
  GIVEN WITH THE SEED: the statements are not yours to turn. If you find one false, say at which input.
  Laid BY PROGRAM, IN A SANDBOX (cutbox-rows.mjs): the forced cells as the released guide's own fill.sh prints them over the translation f4f1a3f036d45f94… (all of the seat's roots in one cut). By AI agents, Wed Nov 11 2026. No macro, syntax, notation, axiom, sorry.
-/
import Derived.Test.YtigoniochamjgaaChecked
import GoSem.Claim
import GoSem.ClaimJoined
import GoSem.ClaimMapViews
import Derived.JoinedTies
import Derived.KernelRfl
namespace Go.Proofs.Ytigoniochamjgaa
/- THE CELL 'sum', in the pinned program and in every row, IS THE sha256 OF THE DUMP (.gsa) THAT YtigoniochamjgaaProg.lean LOADS. Nothing in Lean hashes anything: it is a label: what it is worth is what the hold of that sum in a sandbox is worth. -/
noncomputable def Try.pinned : Pinned := { name := "ytigoniochamjgaa", sum := "f4f1a3f036d45f94f75dfd1afe449ef4c6bdeb83b7b8c59f435fdc6f0244cd60", checked := Try.checked }
namespace Rows
def none {H : Type} : Left H := { results := [], args := [] }

/-- 'laws.FnStates': WHATEVER THE INPUT: true; the input reads as it did. -/
def fnStatesSpec : ChangeSpec := { name := "fnStates", fn := fun _ => fun
  | [d] => { results := [.lit (.bool true)], args := [d] }
  | _ => none }
def fnStatesRow : OpenClaim := { program := "ytigoniochamjgaa", sum := "f4f1a3f036d45f94f75dfd1afe449ef4c6bdeb83b7b8c59f435fdc6f0244cd60", func := "loop.example/g00977/laws.FnStates", spec := "fnStates", unfollowed := true, recurses := true, apart := false }
def FnStatesSaid : Prop := fnStatesRow.holds Try.pinned (OpenSpec.ofChange fnStatesSpec)

/-- ITS FALSE NEIGHBOUR: 'it returns false'. Refute it at one input. -/
def fnStatesWrong : ChangeSpec := { name := "fnStates", fn := fun _ => fun
  | [d] => { results := [.lit (.bool false)], args := [d] }
  | _ => none }
def FnStatesWrongFalsely : Prop := fnStatesRow.holds Try.pinned (OpenSpec.ofChange fnStatesWrong)

/-- 'laws.FnOpened': WHATEVER THE INPUT: true; the input reads as it did. -/
def fnOpenedSpec : ChangeSpec := { name := "fnOpened", fn := fun _ => fun
  | [d] => { results := [.lit (.bool true)], args := [d] }
  | _ => none }
def fnOpenedRow : OpenClaim := { program := "ytigoniochamjgaa", sum := "f4f1a3f036d45f94f75dfd1afe449ef4c6bdeb83b7b8c59f435fdc6f0244cd60", func := "loop.example/g00977/laws.FnOpened", spec := "fnOpened", unfollowed := true, recurses := true, apart := false }
def FnOpenedSaid : Prop := fnOpenedRow.holds Try.pinned (OpenSpec.ofChange fnOpenedSpec)

/-- ITS FALSE NEIGHBOUR: 'it returns false'. Refute it at one input. -/
def fnOpenedWrong : ChangeSpec := { name := "fnOpened", fn := fun _ => fun
  | [d] => { results := [.lit (.bool false)], args := [d] }
  | _ => none }
def FnOpenedWrongFalsely : Prop := fnOpenedRow.holds Try.pinned (OpenSpec.ofChange fnOpenedWrong)

/-- 'laws.FnExactRankNew': WHATEVER THE INPUT: true; the input reads as it did. -/
def fnExactRankNewSpec : ChangeSpec := { name := "fnExactRankNew", fn := fun _ => fun
  | [d] => { results := [.lit (.bool true)], args := [d] }
  | _ => none }
def fnExactRankNewRow : OpenClaim := { program := "ytigoniochamjgaa", sum := "f4f1a3f036d45f94f75dfd1afe449ef4c6bdeb83b7b8c59f435fdc6f0244cd60", func := "loop.example/g00977/laws.FnExactRankNew", spec := "fnExactRankNew", apart := false }
def FnExactRankNewSaid : Prop := fnExactRankNewRow.holds Try.pinned (OpenSpec.ofChange fnExactRankNewSpec)

/-- ITS FALSE NEIGHBOUR: 'it returns false'. Refute it at one input. -/
def fnExactRankNewWrong : ChangeSpec := { name := "fnExactRankNew", fn := fun _ => fun
  | [d] => { results := [.lit (.bool false)], args := [d] }
  | _ => none }
def FnExactRankNewWrongFalsely : Prop := fnExactRankNewRow.holds Try.pinned (OpenSpec.ofChange fnExactRankNewWrong)

/-- 'laws.FnExactRankOk': WHATEVER THE INPUT: true; the input reads as it did. -/
def fnExactRankOkSpec : ChangeSpec := { name := "fnExactRankOk", fn := fun _ => fun
  | [d1, d2] => { results := [.lit (.bool true)], args := [d1, d2] }
  | _ => none }
def fnExactRankOkRow : OpenClaim := { program := "ytigoniochamjgaa", sum := "f4f1a3f036d45f94f75dfd1afe449ef4c6bdeb83b7b8c59f435fdc6f0244cd60", func := "loop.example/g00977/laws.FnExactRankOk", spec := "fnExactRankOk", apart := false }
def FnExactRankOkSaid : Prop := fnExactRankOkRow.holds Try.pinned (OpenSpec.ofChange fnExactRankOkSpec)

/-- ITS FALSE NEIGHBOUR: 'it returns false'. Refute it at one input. -/
def fnExactRankOkWrong : ChangeSpec := { name := "fnExactRankOk", fn := fun _ => fun
  | [d1, d2] => { results := [.lit (.bool false)], args := [d1, d2] }
  | _ => none }
def FnExactRankOkWrongFalsely : Prop := fnExactRankOkRow.holds Try.pinned (OpenSpec.ofChange fnExactRankOkWrong)

/-- 'laws.FnExactAllowed': WHATEVER THE INPUT: true; the input reads as it did. -/
def fnExactAllowedSpec : ChangeSpec := { name := "fnExactAllowed", fn := fun _ => fun
  | [d1, d2, d3] => { results := [.lit (.bool true)], args := [d1, d2, d3] }
  | _ => none }
def fnExactAllowedRow : OpenClaim := { program := "ytigoniochamjgaa", sum := "f4f1a3f036d45f94f75dfd1afe449ef4c6bdeb83b7b8c59f435fdc6f0244cd60", func := "loop.example/g00977/laws.FnExactAllowed", spec := "fnExactAllowed", unfollowed := true, recurses := true, apart := false }
def FnExactAllowedSaid : Prop := fnExactAllowedRow.holds Try.pinned (OpenSpec.ofChange fnExactAllowedSpec)

/-- ITS FALSE NEIGHBOUR: 'it returns false'. Refute it at one input. -/
def fnExactAllowedWrong : ChangeSpec := { name := "fnExactAllowed", fn := fun _ => fun
  | [d1, d2, d3] => { results := [.lit (.bool false)], args := [d1, d2, d3] }
  | _ => none }
def FnExactAllowedWrongFalsely : Prop := fnExactAllowedRow.holds Try.pinned (OpenSpec.ofChange fnExactAllowedWrong)

/-- 'laws.FnExactRankAfter': WHATEVER THE INPUT: true; the input reads as it did. -/
def fnExactRankAfterSpec : ChangeSpec := { name := "fnExactRankAfter", fn := fun _ => fun
  | [d1, d2, d3] => { results := [.lit (.bool true)], args := [d1, d2, d3] }
  | _ => none }
def fnExactRankAfterRow : OpenClaim := { program := "ytigoniochamjgaa", sum := "f4f1a3f036d45f94f75dfd1afe449ef4c6bdeb83b7b8c59f435fdc6f0244cd60", func := "loop.example/g00977/laws.FnExactRankAfter", spec := "fnExactRankAfter", unfollowed := true, recurses := true, apart := false }
def FnExactRankAfterSaid : Prop := fnExactRankAfterRow.holds Try.pinned (OpenSpec.ofChange fnExactRankAfterSpec)

/-- ITS FALSE NEIGHBOUR: 'it returns false'. Refute it at one input. -/
def fnExactRankAfterWrong : ChangeSpec := { name := "fnExactRankAfter", fn := fun _ => fun
  | [d1, d2, d3] => { results := [.lit (.bool false)], args := [d1, d2, d3] }
  | _ => none }
def FnExactRankAfterWrongFalsely : Prop := fnExactRankAfterRow.holds Try.pinned (OpenSpec.ofChange fnExactRankAfterWrong)

/-- 'laws.FnExactOpenBanks': WHATEVER THE INPUT: true; the input reads as it did. -/
def fnExactOpenBanksSpec : ChangeSpec := { name := "fnExactOpenBanks", fn := fun _ => fun
  | [d] => { results := [.lit (.bool true)], args := [d] }
  | _ => none }
def fnExactOpenBanksRow : OpenClaim := { program := "ytigoniochamjgaa", sum := "f4f1a3f036d45f94f75dfd1afe449ef4c6bdeb83b7b8c59f435fdc6f0244cd60", func := "loop.example/g00977/laws.FnExactOpenBanks", spec := "fnExactOpenBanks", apart := false }
def FnExactOpenBanksSaid : Prop := fnExactOpenBanksRow.holds Try.pinned (OpenSpec.ofChange fnExactOpenBanksSpec)

/-- ITS FALSE NEIGHBOUR: 'it returns false'. Refute it at one input. -/
def fnExactOpenBanksWrong : ChangeSpec := { name := "fnExactOpenBanks", fn := fun _ => fun
  | [d] => { results := [.lit (.bool false)], args := [d] }
  | _ => none }
def FnExactOpenBanksWrongFalsely : Prop := fnExactOpenBanksRow.holds Try.pinned (OpenSpec.ofChange fnExactOpenBanksWrong)

/-- 'laws.FnExactRowOf': WHATEVER THE INPUT: true; the input reads as it did. -/
def fnExactRowOfSpec : ChangeSpec := { name := "fnExactRowOf", fn := fun _ => fun
  | [d1, d2] => { results := [.lit (.bool true)], args := [d1, d2] }
  | _ => none }
def fnExactRowOfRow : OpenClaim := { program := "ytigoniochamjgaa", sum := "f4f1a3f036d45f94f75dfd1afe449ef4c6bdeb83b7b8c59f435fdc6f0244cd60", func := "loop.example/g00977/laws.FnExactRowOf", spec := "fnExactRowOf", apart := false }
def FnExactRowOfSaid : Prop := fnExactRowOfRow.holds Try.pinned (OpenSpec.ofChange fnExactRowOfSpec)

/-- ITS FALSE NEIGHBOUR: 'it returns false'. Refute it at one input. -/
def fnExactRowOfWrong : ChangeSpec := { name := "fnExactRowOf", fn := fun _ => fun
  | [d1, d2] => { results := [.lit (.bool false)], args := [d1, d2] }
  | _ => none }
def FnExactRowOfWrongFalsely : Prop := fnExactRowOfRow.holds Try.pinned (OpenSpec.ofChange fnExactRowOfWrong)

/- THE SECOND FORM. 'bulk': how many values and letters a reading holds, each counted each time it is reached (what is shared counts as often as it is met; a slice's spare places count too). A statement '..UptoSaid' is the law's where the arguments, and the package variables that the reading takes, are together of bulk at most 1048576: NARROWER than '..Said'. Prove '..Said' where nothing that the law and all that it calls make is longer than what came in: it says more and counts as full. Else prove '..UptoSaid'. A law counts once. -/
mutual
def uptoBulk {H : Type} : DataW H → Nat
  | .lit (.string bytes) => bytes.length + 1
  | .lit _ => 1
  | .nil => 1
  | .ptr d => uptoBulk d + 1
  | .slice elems spare => uptoBulkAll elems + uptoBulkAll spare + 1
  | .agg parts => uptoBulkAll parts + 1
  | .iface _ d => uptoBulk d + 1
  | .map entries => uptoBulkEntries entries + 1
  | .held _ => 1
def uptoBulkAll {H : Type} : List (DataW H) → Nat
  | [] => 0
  | d :: r => uptoBulk d + uptoBulkAll r
def uptoBulkEntries {H : Type} : List (Lit × DataW H) → Nat
  | [] => 0
  | x :: r => uptoBulkEntry x + uptoBulkEntries r
def uptoBulkEntry {H : Type} : Lit × DataW H → Nat
  | (.string bytes, d) => bytes.length + uptoBulk d + 1
  | (_, d) => uptoBulk d + 1
 end
def uptoSmall : (H : Type) → List (DataW H) → Bool := fun _ ds => decide (uptoBulkAll ds ≤ 1048576)
def OpenSpec.upto (s : _root_.Go.ChangeSpec) : _root_.Go.OpenSpec := { _root_.Go.OpenSpec.ofChange s with cond := some uptoSmall }

/-- 'laws.FnStates', WHERE WHAT IT READS IS OF BULK AT MOST 1048576: true; the input reads as it did. -/
def fnStatesUptoRow : OpenClaim := { program := "ytigoniochamjgaa", sum := "f4f1a3f036d45f94f75dfd1afe449ef4c6bdeb83b7b8c59f435fdc6f0244cd60", func := "loop.example/g00977/laws.FnStates", spec := "fnStates", unfollowed := true, recurses := true, apart := false, narrowed := true }
def FnStatesUptoSaid : Prop := fnStatesUptoRow.holds Try.pinned (OpenSpec.upto fnStatesSpec)

/-- 'laws.FnOpened', WHERE WHAT IT READS IS OF BULK AT MOST 1048576: true; the input reads as it did. -/
def fnOpenedUptoRow : OpenClaim := { program := "ytigoniochamjgaa", sum := "f4f1a3f036d45f94f75dfd1afe449ef4c6bdeb83b7b8c59f435fdc6f0244cd60", func := "loop.example/g00977/laws.FnOpened", spec := "fnOpened", unfollowed := true, recurses := true, apart := false, narrowed := true }
def FnOpenedUptoSaid : Prop := fnOpenedUptoRow.holds Try.pinned (OpenSpec.upto fnOpenedSpec)

/-- 'laws.FnExactRankNew', WHERE WHAT IT READS IS OF BULK AT MOST 1048576: true; the input reads as it did. -/
def fnExactRankNewUptoRow : OpenClaim := { program := "ytigoniochamjgaa", sum := "f4f1a3f036d45f94f75dfd1afe449ef4c6bdeb83b7b8c59f435fdc6f0244cd60", func := "loop.example/g00977/laws.FnExactRankNew", spec := "fnExactRankNew", apart := false, narrowed := true }
def FnExactRankNewUptoSaid : Prop := fnExactRankNewUptoRow.holds Try.pinned (OpenSpec.upto fnExactRankNewSpec)

/-- 'laws.FnExactRankOk', WHERE WHAT IT READS IS OF BULK AT MOST 1048576: true; the input reads as it did. -/
def fnExactRankOkUptoRow : OpenClaim := { program := "ytigoniochamjgaa", sum := "f4f1a3f036d45f94f75dfd1afe449ef4c6bdeb83b7b8c59f435fdc6f0244cd60", func := "loop.example/g00977/laws.FnExactRankOk", spec := "fnExactRankOk", apart := false, narrowed := true }
def FnExactRankOkUptoSaid : Prop := fnExactRankOkUptoRow.holds Try.pinned (OpenSpec.upto fnExactRankOkSpec)

/-- 'laws.FnExactAllowed', WHERE WHAT IT READS IS OF BULK AT MOST 1048576: true; the input reads as it did. -/
def fnExactAllowedUptoRow : OpenClaim := { program := "ytigoniochamjgaa", sum := "f4f1a3f036d45f94f75dfd1afe449ef4c6bdeb83b7b8c59f435fdc6f0244cd60", func := "loop.example/g00977/laws.FnExactAllowed", spec := "fnExactAllowed", unfollowed := true, recurses := true, apart := false, narrowed := true }
def FnExactAllowedUptoSaid : Prop := fnExactAllowedUptoRow.holds Try.pinned (OpenSpec.upto fnExactAllowedSpec)

/-- 'laws.FnExactRankAfter', WHERE WHAT IT READS IS OF BULK AT MOST 1048576: true; the input reads as it did. -/
def fnExactRankAfterUptoRow : OpenClaim := { program := "ytigoniochamjgaa", sum := "f4f1a3f036d45f94f75dfd1afe449ef4c6bdeb83b7b8c59f435fdc6f0244cd60", func := "loop.example/g00977/laws.FnExactRankAfter", spec := "fnExactRankAfter", unfollowed := true, recurses := true, apart := false, narrowed := true }
def FnExactRankAfterUptoSaid : Prop := fnExactRankAfterUptoRow.holds Try.pinned (OpenSpec.upto fnExactRankAfterSpec)

/-- 'laws.FnExactOpenBanks', WHERE WHAT IT READS IS OF BULK AT MOST 1048576: true; the input reads as it did. -/
def fnExactOpenBanksUptoRow : OpenClaim := { program := "ytigoniochamjgaa", sum := "f4f1a3f036d45f94f75dfd1afe449ef4c6bdeb83b7b8c59f435fdc6f0244cd60", func := "loop.example/g00977/laws.FnExactOpenBanks", spec := "fnExactOpenBanks", apart := false, narrowed := true }
def FnExactOpenBanksUptoSaid : Prop := fnExactOpenBanksUptoRow.holds Try.pinned (OpenSpec.upto fnExactOpenBanksSpec)

/-- 'laws.FnExactRowOf', WHERE WHAT IT READS IS OF BULK AT MOST 1048576: true; the input reads as it did. -/
def fnExactRowOfUptoRow : OpenClaim := { program := "ytigoniochamjgaa", sum := "f4f1a3f036d45f94f75dfd1afe449ef4c6bdeb83b7b8c59f435fdc6f0244cd60", func := "loop.example/g00977/laws.FnExactRowOf", spec := "fnExactRowOf", apart := false, narrowed := true }
def FnExactRowOfUptoSaid : Prop := fnExactRowOfUptoRow.holds Try.pinned (OpenSpec.upto fnExactRowOfSpec)

end Rows
end Go.Proofs.Ytigoniochamjgaa
