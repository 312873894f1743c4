/-
  No cell of these rows narrows 'for every input' (looked for: loops, veiled, ifaces, maps, wideKeys, modest, calm, conditions, laid).
  DERIVED. THE GIVEN ROWS OF THIS SEAT. 9 by the template 'for every input the law returns true; each argument reads behind the call as it read before'; 0 by the template 'total and deterministic' (their statements: YtkpmgklpigihdaaTotals.lean).
  GIVEN WITH THE SEED: the statements are not yours to turn. If you find one false, say at which input.
  Laid BY PROGRAM, IN A SANDBOX (cutbox-rows.mjs): the forced cells as the released guide's own fill.sh prints them over the translation 3f7059992fec8106… (all of the seat's roots in one cut). By AI agents, Wed Nov 11 2026. No macro, syntax, notation, axiom, sorry.
-/
import Derived.Test.YtkpmgklpigihdaaChecked
import GoSem.Claim
import GoSem.ClaimJoined
import GoSem.ClaimMapViews
import Derived.JoinedTies
import Derived.KernelRfl
namespace Go.Proofs.Ytkpmgklpigihdaa
/- THE CELL 'sum', in the pinned program and in every row, IS THE sha256 OF THE DUMP (.gsa) THAT YtkpmgklpigihdaaProg.lean LOADS. Nothing in Lean hashes anything: it is a label: what it is worth is what the hold of that sum in a sandbox is worth. -/
noncomputable def Try.pinned : Pinned := { name := "ytkpmgklpigihdaa", sum := "3f7059992fec810638665f3d5caaf847ae6f75a26738747cb62f4d5d1a8a5a4f", checked := Try.checked }
namespace Rows
def none {H : Type} : Left H := { results := [], args := [] }

/-- 'laws.FnAddresses': WHATEVER THE INPUT: true; the input reads as it did. -/
def fnAddressesSpec : ChangeSpec := { name := "fnAddresses", fn := fun _ => fun
  | [d] => { results := [.lit (.bool true)], args := [d] }
  | _ => none }
def fnAddressesRow : OpenClaim := { program := "ytkpmgklpigihdaa", sum := "3f7059992fec810638665f3d5caaf847ae6f75a26738747cb62f4d5d1a8a5a4f", func := "loop.example/g00977/laws.FnAddresses", spec := "fnAddresses", apart := false }
def FnAddressesSaid : Prop := fnAddressesRow.holds Try.pinned (OpenSpec.ofChange fnAddressesSpec)

/-- ITS FALSE NEIGHBOUR: 'it returns false'. Refute it at one input. -/
def fnAddressesWrong : ChangeSpec := { name := "fnAddresses", fn := fun _ => fun
  | [d] => { results := [.lit (.bool false)], args := [d] }
  | _ => none }
def FnAddressesWrongFalsely : Prop := fnAddressesRow.holds Try.pinned (OpenSpec.ofChange fnAddressesWrong)

/-- 'laws.FnGroups': WHATEVER THE INPUT: true; the input reads as it did. -/
def fnGroupsSpec : ChangeSpec := { name := "fnGroups", fn := fun _ => fun
  | [d] => { results := [.lit (.bool true)], args := [d] }
  | _ => none }
def fnGroupsRow : OpenClaim := { program := "ytkpmgklpigihdaa", sum := "3f7059992fec810638665f3d5caaf847ae6f75a26738747cb62f4d5d1a8a5a4f", func := "loop.example/g00977/laws.FnGroups", spec := "fnGroups", apart := false }
def FnGroupsSaid : Prop := fnGroupsRow.holds Try.pinned (OpenSpec.ofChange fnGroupsSpec)

/-- ITS FALSE NEIGHBOUR: 'it returns false'. Refute it at one input. -/
def fnGroupsWrong : ChangeSpec := { name := "fnGroups", fn := fun _ => fun
  | [d] => { results := [.lit (.bool false)], args := [d] }
  | _ => none }
def FnGroupsWrongFalsely : Prop := fnGroupsRow.holds Try.pinned (OpenSpec.ofChange fnGroupsWrong)

/-- 'laws.FnExactGeometryOk': WHATEVER THE INPUT: true; the input reads as it did. -/
def fnExactGeometryOkSpec : ChangeSpec := { name := "fnExactGeometryOk", fn := fun _ => fun
  | [d] => { results := [.lit (.bool true)], args := [d] }
  | _ => none }
def fnExactGeometryOkRow : OpenClaim := { program := "ytkpmgklpigihdaa", sum := "3f7059992fec810638665f3d5caaf847ae6f75a26738747cb62f4d5d1a8a5a4f", func := "loop.example/g00977/laws.FnExactGeometryOk", spec := "fnExactGeometryOk", apart := false }
def FnExactGeometryOkSaid : Prop := fnExactGeometryOkRow.holds Try.pinned (OpenSpec.ofChange fnExactGeometryOkSpec)

/-- ITS FALSE NEIGHBOUR: 'it returns false'. Refute it at one input. -/
def fnExactGeometryOkWrong : ChangeSpec := { name := "fnExactGeometryOk", fn := fun _ => fun
  | [d] => { results := [.lit (.bool false)], args := [d] }
  | _ => none }
def FnExactGeometryOkWrongFalsely : Prop := fnExactGeometryOkRow.holds Try.pinned (OpenSpec.ofChange fnExactGeometryOkWrong)

/-- 'laws.FnExactBankCount': WHATEVER THE INPUT: true; the input reads as it did. -/
def fnExactBankCountSpec : ChangeSpec := { name := "fnExactBankCount", fn := fun _ => fun
  | [d] => { results := [.lit (.bool true)], args := [d] }
  | _ => none }
def fnExactBankCountRow : OpenClaim := { program := "ytkpmgklpigihdaa", sum := "3f7059992fec810638665f3d5caaf847ae6f75a26738747cb62f4d5d1a8a5a4f", func := "loop.example/g00977/laws.FnExactBankCount", spec := "fnExactBankCount", apart := false }
def FnExactBankCountSaid : Prop := fnExactBankCountRow.holds Try.pinned (OpenSpec.ofChange fnExactBankCountSpec)

/-- ITS FALSE NEIGHBOUR: 'it returns false'. Refute it at one input. -/
def fnExactBankCountWrong : ChangeSpec := { name := "fnExactBankCount", fn := fun _ => fun
  | [d] => { results := [.lit (.bool false)], args := [d] }
  | _ => none }
def FnExactBankCountWrongFalsely : Prop := fnExactBankCountRow.holds Try.pinned (OpenSpec.ofChange fnExactBankCountWrong)

/-- 'laws.FnExactGroupOf': WHATEVER THE INPUT: true; the input reads as it did. -/
def fnExactGroupOfSpec : ChangeSpec := { name := "fnExactGroupOf", fn := fun _ => fun
  | [d1, d2] => { results := [.lit (.bool true)], args := [d1, d2] }
  | _ => none }
def fnExactGroupOfRow : OpenClaim := { program := "ytkpmgklpigihdaa", sum := "3f7059992fec810638665f3d5caaf847ae6f75a26738747cb62f4d5d1a8a5a4f", func := "loop.example/g00977/laws.FnExactGroupOf", spec := "fnExactGroupOf", apart := false }
def FnExactGroupOfSaid : Prop := fnExactGroupOfRow.holds Try.pinned (OpenSpec.ofChange fnExactGroupOfSpec)

/-- ITS FALSE NEIGHBOUR: 'it returns false'. Refute it at one input. -/
def fnExactGroupOfWrong : ChangeSpec := { name := "fnExactGroupOf", fn := fun _ => fun
  | [d1, d2] => { results := [.lit (.bool false)], args := [d1, d2] }
  | _ => none }
def FnExactGroupOfWrongFalsely : Prop := fnExactGroupOfRow.holds Try.pinned (OpenSpec.ofChange fnExactGroupOfWrong)

/-- 'laws.FnExactAddrOk': WHATEVER THE INPUT: true; the input reads as it did. -/
def fnExactAddrOkSpec : ChangeSpec := { name := "fnExactAddrOk", fn := fun _ => fun
  | [d1, d2] => { results := [.lit (.bool true)], args := [d1, d2] }
  | _ => none }
def fnExactAddrOkRow : OpenClaim := { program := "ytkpmgklpigihdaa", sum := "3f7059992fec810638665f3d5caaf847ae6f75a26738747cb62f4d5d1a8a5a4f", func := "loop.example/g00977/laws.FnExactAddrOk", spec := "fnExactAddrOk", apart := false }
def FnExactAddrOkSaid : Prop := fnExactAddrOkRow.holds Try.pinned (OpenSpec.ofChange fnExactAddrOkSpec)

/-- ITS FALSE NEIGHBOUR: 'it returns false'. Refute it at one input. -/
def fnExactAddrOkWrong : ChangeSpec := { name := "fnExactAddrOk", fn := fun _ => fun
  | [d1, d2] => { results := [.lit (.bool false)], args := [d1, d2] }
  | _ => none }
def FnExactAddrOkWrongFalsely : Prop := fnExactAddrOkRow.holds Try.pinned (OpenSpec.ofChange fnExactAddrOkWrong)

/-- 'laws.FnExactLineCount': WHATEVER THE INPUT: true; the input reads as it did. -/
def fnExactLineCountSpec : ChangeSpec := { name := "fnExactLineCount", fn := fun _ => fun
  | [d] => { results := [.lit (.bool true)], args := [d] }
  | _ => none }
def fnExactLineCountRow : OpenClaim := { program := "ytkpmgklpigihdaa", sum := "3f7059992fec810638665f3d5caaf847ae6f75a26738747cb62f4d5d1a8a5a4f", func := "loop.example/g00977/laws.FnExactLineCount", spec := "fnExactLineCount", apart := false }
def FnExactLineCountSaid : Prop := fnExactLineCountRow.holds Try.pinned (OpenSpec.ofChange fnExactLineCountSpec)

/-- ITS FALSE NEIGHBOUR: 'it returns false'. Refute it at one input. -/
def fnExactLineCountWrong : ChangeSpec := { name := "fnExactLineCount", fn := fun _ => fun
  | [d] => { results := [.lit (.bool false)], args := [d] }
  | _ => none }
def FnExactLineCountWrongFalsely : Prop := fnExactLineCountRow.holds Try.pinned (OpenSpec.ofChange fnExactLineCountWrong)

/-- 'laws.FnExactAddrIndex': WHATEVER THE INPUT: true; the input reads as it did. -/
def fnExactAddrIndexSpec : ChangeSpec := { name := "fnExactAddrIndex", fn := fun _ => fun
  | [d1, d2] => { results := [.lit (.bool true)], args := [d1, d2] }
  | _ => none }
def fnExactAddrIndexRow : OpenClaim := { program := "ytkpmgklpigihdaa", sum := "3f7059992fec810638665f3d5caaf847ae6f75a26738747cb62f4d5d1a8a5a4f", func := "loop.example/g00977/laws.FnExactAddrIndex", spec := "fnExactAddrIndex", apart := false }
def FnExactAddrIndexSaid : Prop := fnExactAddrIndexRow.holds Try.pinned (OpenSpec.ofChange fnExactAddrIndexSpec)

/-- ITS FALSE NEIGHBOUR: 'it returns false'. Refute it at one input. -/
def fnExactAddrIndexWrong : ChangeSpec := { name := "fnExactAddrIndex", fn := fun _ => fun
  | [d1, d2] => { results := [.lit (.bool false)], args := [d1, d2] }
  | _ => none }
def FnExactAddrIndexWrongFalsely : Prop := fnExactAddrIndexRow.holds Try.pinned (OpenSpec.ofChange fnExactAddrIndexWrong)

/-- 'laws.FnExactAddrAt': WHATEVER THE INPUT: true; the input reads as it did. -/
def fnExactAddrAtSpec : ChangeSpec := { name := "fnExactAddrAt", fn := fun _ => fun
  | [d1, d2] => { results := [.lit (.bool true)], args := [d1, d2] }
  | _ => none }
def fnExactAddrAtRow : OpenClaim := { program := "ytkpmgklpigihdaa", sum := "3f7059992fec810638665f3d5caaf847ae6f75a26738747cb62f4d5d1a8a5a4f", func := "loop.example/g00977/laws.FnExactAddrAt", spec := "fnExactAddrAt", apart := false }
def FnExactAddrAtSaid : Prop := fnExactAddrAtRow.holds Try.pinned (OpenSpec.ofChange fnExactAddrAtSpec)

/-- ITS FALSE NEIGHBOUR: 'it returns false'. Refute it at one input. -/
def fnExactAddrAtWrong : ChangeSpec := { name := "fnExactAddrAt", fn := fun _ => fun
  | [d1, d2] => { results := [.lit (.bool false)], args := [d1, d2] }
  | _ => none }
def FnExactAddrAtWrongFalsely : Prop := fnExactAddrAtRow.holds Try.pinned (OpenSpec.ofChange fnExactAddrAtWrong)

/- THE SECOND FORM. 'bulk': how many values and letters a reading holds, each counted each time it is reached (what is shared counts as often as it is met; a slice's spare places count too). A statement '..UptoSaid' is the law's where the arguments, and the package variables that the reading takes, are together of bulk at most 1048576: NARROWER than '..Said'. Prove '..Said' where nothing that the law and all that it calls make is longer than what came in: it says more and counts as full. Else prove '..UptoSaid'. A law counts once. -/
mutual
def uptoBulk {H : Type} : DataW H → Nat
  | .lit (.string bytes) => bytes.length + 1
  | .lit _ => 1
  | .nil => 1
  | .ptr d => uptoBulk d + 1
  | .slice elems spare => uptoBulkAll elems + uptoBulkAll spare + 1
  | .agg parts => uptoBulkAll parts + 1
  | .iface _ d => uptoBulk d + 1
  | .map entries => uptoBulkEntries entries + 1
  | .held _ => 1
def uptoBulkAll {H : Type} : List (DataW H) → Nat
  | [] => 0
  | d :: r => uptoBulk d + uptoBulkAll r
def uptoBulkEntries {H : Type} : List (Lit × DataW H) → Nat
  | [] => 0
  | x :: r => uptoBulkEntry x + uptoBulkEntries r
def uptoBulkEntry {H : Type} : Lit × DataW H → Nat
  | (.string bytes, d) => bytes.length + uptoBulk d + 1
  | (_, d) => uptoBulk d + 1
 end
def uptoSmall : (H : Type) → List (DataW H) → Bool := fun _ ds => decide (uptoBulkAll ds ≤ 1048576)
def OpenSpec.upto (s : _root_.Go.ChangeSpec) : _root_.Go.OpenSpec := { _root_.Go.OpenSpec.ofChange s with cond := some uptoSmall }

/-- 'laws.FnAddresses', WHERE WHAT IT READS IS OF BULK AT MOST 1048576: true; the input reads as it did. -/
def fnAddressesUptoRow : OpenClaim := { program := "ytkpmgklpigihdaa", sum := "3f7059992fec810638665f3d5caaf847ae6f75a26738747cb62f4d5d1a8a5a4f", func := "loop.example/g00977/laws.FnAddresses", spec := "fnAddresses", apart := false, narrowed := true }
def FnAddressesUptoSaid : Prop := fnAddressesUptoRow.holds Try.pinned (OpenSpec.upto fnAddressesSpec)

/-- 'laws.FnGroups', WHERE WHAT IT READS IS OF BULK AT MOST 1048576: true; the input reads as it did. -/
def fnGroupsUptoRow : OpenClaim := { program := "ytkpmgklpigihdaa", sum := "3f7059992fec810638665f3d5caaf847ae6f75a26738747cb62f4d5d1a8a5a4f", func := "loop.example/g00977/laws.FnGroups", spec := "fnGroups", apart := false, narrowed := true }
def FnGroupsUptoSaid : Prop := fnGroupsUptoRow.holds Try.pinned (OpenSpec.upto fnGroupsSpec)

/-- 'laws.FnExactGeometryOk', WHERE WHAT IT READS IS OF BULK AT MOST 1048576: true; the input reads as it did. -/
def fnExactGeometryOkUptoRow : OpenClaim := { program := "ytkpmgklpigihdaa", sum := "3f7059992fec810638665f3d5caaf847ae6f75a26738747cb62f4d5d1a8a5a4f", func := "loop.example/g00977/laws.FnExactGeometryOk", spec := "fnExactGeometryOk", apart := false, narrowed := true }
def FnExactGeometryOkUptoSaid : Prop := fnExactGeometryOkUptoRow.holds Try.pinned (OpenSpec.upto fnExactGeometryOkSpec)

/-- 'laws.FnExactBankCount', WHERE WHAT IT READS IS OF BULK AT MOST 1048576: true; the input reads as it did. -/
def fnExactBankCountUptoRow : OpenClaim := { program := "ytkpmgklpigihdaa", sum := "3f7059992fec810638665f3d5caaf847ae6f75a26738747cb62f4d5d1a8a5a4f", func := "loop.example/g00977/laws.FnExactBankCount", spec := "fnExactBankCount", apart := false, narrowed := true }
def FnExactBankCountUptoSaid : Prop := fnExactBankCountUptoRow.holds Try.pinned (OpenSpec.upto fnExactBankCountSpec)

/-- 'laws.FnExactGroupOf', WHERE WHAT IT READS IS OF BULK AT MOST 1048576: true; the input reads as it did. -/
def fnExactGroupOfUptoRow : OpenClaim := { program := "ytkpmgklpigihdaa", sum := "3f7059992fec810638665f3d5caaf847ae6f75a26738747cb62f4d5d1a8a5a4f", func := "loop.example/g00977/laws.FnExactGroupOf", spec := "fnExactGroupOf", apart := false, narrowed := true }
def FnExactGroupOfUptoSaid : Prop := fnExactGroupOfUptoRow.holds Try.pinned (OpenSpec.upto fnExactGroupOfSpec)

/-- 'laws.FnExactAddrOk', WHERE WHAT IT READS IS OF BULK AT MOST 1048576: true; the input reads as it did. -/
def fnExactAddrOkUptoRow : OpenClaim := { program := "ytkpmgklpigihdaa", sum := "3f7059992fec810638665f3d5caaf847ae6f75a26738747cb62f4d5d1a8a5a4f", func := "loop.example/g00977/laws.FnExactAddrOk", spec := "fnExactAddrOk", apart := false, narrowed := true }
def FnExactAddrOkUptoSaid : Prop := fnExactAddrOkUptoRow.holds Try.pinned (OpenSpec.upto fnExactAddrOkSpec)

/-- 'laws.FnExactLineCount', WHERE WHAT IT READS IS OF BULK AT MOST 1048576: true; the input reads as it did. -/
def fnExactLineCountUptoRow : OpenClaim := { program := "ytkpmgklpigihdaa", sum := "3f7059992fec810638665f3d5caaf847ae6f75a26738747cb62f4d5d1a8a5a4f", func := "loop.example/g00977/laws.FnExactLineCount", spec := "fnExactLineCount", apart := false, narrowed := true }
def FnExactLineCountUptoSaid : Prop := fnExactLineCountUptoRow.holds Try.pinned (OpenSpec.upto fnExactLineCountSpec)

/-- 'laws.FnExactAddrIndex', WHERE WHAT IT READS IS OF BULK AT MOST 1048576: true; the input reads as it did. -/
def fnExactAddrIndexUptoRow : OpenClaim := { program := "ytkpmgklpigihdaa", sum := "3f7059992fec810638665f3d5caaf847ae6f75a26738747cb62f4d5d1a8a5a4f", func := "loop.example/g00977/laws.FnExactAddrIndex", spec := "fnExactAddrIndex", apart := false, narrowed := true }
def FnExactAddrIndexUptoSaid : Prop := fnExactAddrIndexUptoRow.holds Try.pinned (OpenSpec.upto fnExactAddrIndexSpec)

/-- 'laws.FnExactAddrAt', WHERE WHAT IT READS IS OF BULK AT MOST 1048576: true; the input reads as it did. -/
def fnExactAddrAtUptoRow : OpenClaim := { program := "ytkpmgklpigihdaa", sum := "3f7059992fec810638665f3d5caaf847ae6f75a26738747cb62f4d5d1a8a5a4f", func := "loop.example/g00977/laws.FnExactAddrAt", spec := "fnExactAddrAt", apart := false, narrowed := true }
def FnExactAddrAtUptoSaid : Prop := fnExactAddrAtUptoRow.holds Try.pinned (OpenSpec.upto fnExactAddrAtSpec)

end Rows
end Go.Proofs.Ytkpmgklpigihdaa
