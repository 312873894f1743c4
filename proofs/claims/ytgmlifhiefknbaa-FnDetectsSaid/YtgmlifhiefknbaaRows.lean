/-
  No cell of these rows narrows 'for every input' (looked for: loops, veiled, ifaces, maps, wideKeys, modest, calm, conditions, laid).
  DERIVED. THE GIVEN ROWS OF THIS SEAT. 6 by the template 'for every input the law returns true; each argument reads behind the call as it read before'; 0 by the template 'total and deterministic' (their statements: YtgmlifhiefknbaaTotals.lean).
  GIVEN WITH THE SEED: the statements are not yours to turn. If you find one false, say at which input.
  Laid BY PROGRAM, IN A SANDBOX (cutbox-rows.mjs): the forced cells as the released guide's own fill.sh prints them over the translation 5de26e22d7bac7f8… (all of the seat's roots in one cut). By AI agents, Wed Nov 11 2026. No macro, syntax, notation, axiom, sorry.
-/
import Derived.Test.YtgmlifhiefknbaaChecked
import GoSem.Claim
import GoSem.ClaimJoined
import GoSem.ClaimMapViews
import Derived.JoinedTies
import Derived.KernelRfl
namespace Go.Proofs.Ytgmlifhiefknbaa
/- THE CELL 'sum', in the pinned program and in every row, IS THE sha256 OF THE DUMP (.gsa) THAT YtgmlifhiefknbaaProg.lean LOADS. Nothing in Lean hashes anything: it is a label: what it is worth is what the hold of that sum in a sandbox is worth. -/
noncomputable def Try.pinned : Pinned := { name := "ytgmlifhiefknbaa", sum := "5de26e22d7bac7f8f2d0a03e7ab3a27ee828d305c7589e28c186589223500724", checked := Try.checked }
namespace Rows
def none {H : Type} : Left H := { results := [], args := [] }

/-- 'laws.FnDetects': WHATEVER THE INPUT: true; the input reads as it did. -/
def fnDetectsSpec : ChangeSpec := { name := "fnDetects", fn := fun _ => fun
  | [d] => { results := [.lit (.bool true)], args := [d] }
  | _ => none }
def fnDetectsRow : OpenClaim := { program := "ytgmlifhiefknbaa", sum := "5de26e22d7bac7f8f2d0a03e7ab3a27ee828d305c7589e28c186589223500724", func := "loop.example/g00977/laws.FnDetects", spec := "fnDetects", unfollowed := true, recurses := true, apart := false }
def FnDetectsSaid : Prop := fnDetectsRow.holds Try.pinned (OpenSpec.ofChange fnDetectsSpec)

/-- ITS FALSE NEIGHBOUR: 'it returns false'. Refute it at one input. -/
def fnDetectsWrong : ChangeSpec := { name := "fnDetects", fn := fun _ => fun
  | [d] => { results := [.lit (.bool false)], args := [d] }
  | _ => none }
def FnDetectsWrongFalsely : Prop := fnDetectsRow.holds Try.pinned (OpenSpec.ofChange fnDetectsWrong)

/-- 'laws.FnExactSymbolsOk': WHATEVER THE INPUT: true; the input reads as it did. -/
def fnExactSymbolsOkSpec : ChangeSpec := { name := "fnExactSymbolsOk", fn := fun _ => fun
  | [d1, d2] => { results := [.lit (.bool true)], args := [d1, d2] }
  | _ => none }
def fnExactSymbolsOkRow : OpenClaim := { program := "ytgmlifhiefknbaa", sum := "5de26e22d7bac7f8f2d0a03e7ab3a27ee828d305c7589e28c186589223500724", func := "loop.example/g00977/laws.FnExactSymbolsOk", spec := "fnExactSymbolsOk", unfollowed := true, recurses := true, apart := false }
def FnExactSymbolsOkSaid : Prop := fnExactSymbolsOkRow.holds Try.pinned (OpenSpec.ofChange fnExactSymbolsOkSpec)

/-- ITS FALSE NEIGHBOUR: 'it returns false'. Refute it at one input. -/
def fnExactSymbolsOkWrong : ChangeSpec := { name := "fnExactSymbolsOk", fn := fun _ => fun
  | [d1, d2] => { results := [.lit (.bool false)], args := [d1, d2] }
  | _ => none }
def FnExactSymbolsOkWrongFalsely : Prop := fnExactSymbolsOkRow.holds Try.pinned (OpenSpec.ofChange fnExactSymbolsOkWrong)

/-- 'laws.FnExactSyndromes': WHATEVER THE INPUT: true; the input reads as it did. -/
def fnExactSyndromesSpec : ChangeSpec := { name := "fnExactSyndromes", fn := fun _ => fun
  | [d] => { results := [.lit (.bool true)], args := [d] }
  | _ => none }
def fnExactSyndromesRow : OpenClaim := { program := "ytgmlifhiefknbaa", sum := "5de26e22d7bac7f8f2d0a03e7ab3a27ee828d305c7589e28c186589223500724", func := "loop.example/g00977/laws.FnExactSyndromes", spec := "fnExactSyndromes", unfollowed := true, recurses := true, apart := false }
def FnExactSyndromesSaid : Prop := fnExactSyndromesRow.holds Try.pinned (OpenSpec.ofChange fnExactSyndromesSpec)

/-- ITS FALSE NEIGHBOUR: 'it returns false'. Refute it at one input. -/
def fnExactSyndromesWrong : ChangeSpec := { name := "fnExactSyndromes", fn := fun _ => fun
  | [d] => { results := [.lit (.bool false)], args := [d] }
  | _ => none }
def FnExactSyndromesWrongFalsely : Prop := fnExactSyndromesRow.holds Try.pinned (OpenSpec.ofChange fnExactSyndromesWrong)

/-- 'laws.FnExactWordOk': WHATEVER THE INPUT: true; the input reads as it did. -/
def fnExactWordOkSpec : ChangeSpec := { name := "fnExactWordOk", fn := fun _ => fun
  | [d] => { results := [.lit (.bool true)], args := [d] }
  | _ => none }
def fnExactWordOkRow : OpenClaim := { program := "ytgmlifhiefknbaa", sum := "5de26e22d7bac7f8f2d0a03e7ab3a27ee828d305c7589e28c186589223500724", func := "loop.example/g00977/laws.FnExactWordOk", spec := "fnExactWordOk", unfollowed := true, recurses := true, apart := false }
def FnExactWordOkSaid : Prop := fnExactWordOkRow.holds Try.pinned (OpenSpec.ofChange fnExactWordOkSpec)

/-- ITS FALSE NEIGHBOUR: 'it returns false'. Refute it at one input. -/
def fnExactWordOkWrong : ChangeSpec := { name := "fnExactWordOk", fn := fun _ => fun
  | [d] => { results := [.lit (.bool false)], args := [d] }
  | _ => none }
def FnExactWordOkWrongFalsely : Prop := fnExactWordOkRow.holds Try.pinned (OpenSpec.ofChange fnExactWordOkWrong)

/-- 'laws.FnExactDataOf': WHATEVER THE INPUT: true; the input reads as it did. -/
def fnExactDataOfSpec : ChangeSpec := { name := "fnExactDataOf", fn := fun _ => fun
  | [d] => { results := [.lit (.bool true)], args := [d] }
  | _ => none }
def fnExactDataOfRow : OpenClaim := { program := "ytgmlifhiefknbaa", sum := "5de26e22d7bac7f8f2d0a03e7ab3a27ee828d305c7589e28c186589223500724", func := "loop.example/g00977/laws.FnExactDataOf", spec := "fnExactDataOf", unfollowed := true, recurses := true, apart := false }
def FnExactDataOfSaid : Prop := fnExactDataOfRow.holds Try.pinned (OpenSpec.ofChange fnExactDataOfSpec)

/-- ITS FALSE NEIGHBOUR: 'it returns false'. Refute it at one input. -/
def fnExactDataOfWrong : ChangeSpec := { name := "fnExactDataOf", fn := fun _ => fun
  | [d] => { results := [.lit (.bool false)], args := [d] }
  | _ => none }
def FnExactDataOfWrongFalsely : Prop := fnExactDataOfRow.holds Try.pinned (OpenSpec.ofChange fnExactDataOfWrong)

/-- 'laws.FnExactCorrectWord': WHATEVER THE INPUT: true; the input reads as it did. -/
def fnExactCorrectWordSpec : ChangeSpec := { name := "fnExactCorrectWord", fn := fun _ => fun
  | [d] => { results := [.lit (.bool true)], args := [d] }
  | _ => none }
def fnExactCorrectWordRow : OpenClaim := { program := "ytgmlifhiefknbaa", sum := "5de26e22d7bac7f8f2d0a03e7ab3a27ee828d305c7589e28c186589223500724", func := "loop.example/g00977/laws.FnExactCorrectWord", spec := "fnExactCorrectWord", unfollowed := true, recurses := true, apart := false }
def FnExactCorrectWordSaid : Prop := fnExactCorrectWordRow.holds Try.pinned (OpenSpec.ofChange fnExactCorrectWordSpec)

/-- ITS FALSE NEIGHBOUR: 'it returns false'. Refute it at one input. -/
def fnExactCorrectWordWrong : ChangeSpec := { name := "fnExactCorrectWord", fn := fun _ => fun
  | [d] => { results := [.lit (.bool false)], args := [d] }
  | _ => none }
def FnExactCorrectWordWrongFalsely : Prop := fnExactCorrectWordRow.holds Try.pinned (OpenSpec.ofChange fnExactCorrectWordWrong)

/- THE SECOND FORM. 'bulk': how many values and letters a reading holds, each counted each time it is reached (what is shared counts as often as it is met; a slice's spare places count too). A statement '..UptoSaid' is the law's where the arguments, and the package variables that the reading takes, are together of bulk at most 1048576: NARROWER than '..Said'. Prove '..Said' where nothing that the law and all that it calls make is longer than what came in: it says more and counts as full. Else prove '..UptoSaid'. A law counts once. -/
mutual
def uptoBulk {H : Type} : DataW H → Nat
  | .lit (.string bytes) => bytes.length + 1
  | .lit _ => 1
  | .nil => 1
  | .ptr d => uptoBulk d + 1
  | .slice elems spare => uptoBulkAll elems + uptoBulkAll spare + 1
  | .agg parts => uptoBulkAll parts + 1
  | .iface _ d => uptoBulk d + 1
  | .map entries => uptoBulkEntries entries + 1
  | .held _ => 1
def uptoBulkAll {H : Type} : List (DataW H) → Nat
  | [] => 0
  | d :: r => uptoBulk d + uptoBulkAll r
def uptoBulkEntries {H : Type} : List (Lit × DataW H) → Nat
  | [] => 0
  | x :: r => uptoBulkEntry x + uptoBulkEntries r
def uptoBulkEntry {H : Type} : Lit × DataW H → Nat
  | (.string bytes, d) => bytes.length + uptoBulk d + 1
  | (_, d) => uptoBulk d + 1
 end
def uptoSmall : (H : Type) → List (DataW H) → Bool := fun _ ds => decide (uptoBulkAll ds ≤ 1048576)
def OpenSpec.upto (s : _root_.Go.ChangeSpec) : _root_.Go.OpenSpec := { _root_.Go.OpenSpec.ofChange s with cond := some uptoSmall }

/-- 'laws.FnDetects', WHERE WHAT IT READS IS OF BULK AT MOST 1048576: true; the input reads as it did. -/
def fnDetectsUptoRow : OpenClaim := { program := "ytgmlifhiefknbaa", sum := "5de26e22d7bac7f8f2d0a03e7ab3a27ee828d305c7589e28c186589223500724", func := "loop.example/g00977/laws.FnDetects", spec := "fnDetects", unfollowed := true, recurses := true, apart := false, narrowed := true }
def FnDetectsUptoSaid : Prop := fnDetectsUptoRow.holds Try.pinned (OpenSpec.upto fnDetectsSpec)

/-- 'laws.FnExactSymbolsOk', WHERE WHAT IT READS IS OF BULK AT MOST 1048576: true; the input reads as it did. -/
def fnExactSymbolsOkUptoRow : OpenClaim := { program := "ytgmlifhiefknbaa", sum := "5de26e22d7bac7f8f2d0a03e7ab3a27ee828d305c7589e28c186589223500724", func := "loop.example/g00977/laws.FnExactSymbolsOk", spec := "fnExactSymbolsOk", unfollowed := true, recurses := true, apart := false, narrowed := true }
def FnExactSymbolsOkUptoSaid : Prop := fnExactSymbolsOkUptoRow.holds Try.pinned (OpenSpec.upto fnExactSymbolsOkSpec)

/-- 'laws.FnExactSyndromes', WHERE WHAT IT READS IS OF BULK AT MOST 1048576: true; the input reads as it did. -/
def fnExactSyndromesUptoRow : OpenClaim := { program := "ytgmlifhiefknbaa", sum := "5de26e22d7bac7f8f2d0a03e7ab3a27ee828d305c7589e28c186589223500724", func := "loop.example/g00977/laws.FnExactSyndromes", spec := "fnExactSyndromes", unfollowed := true, recurses := true, apart := false, narrowed := true }
def FnExactSyndromesUptoSaid : Prop := fnExactSyndromesUptoRow.holds Try.pinned (OpenSpec.upto fnExactSyndromesSpec)

/-- 'laws.FnExactWordOk', WHERE WHAT IT READS IS OF BULK AT MOST 1048576: true; the input reads as it did. -/
def fnExactWordOkUptoRow : OpenClaim := { program := "ytgmlifhiefknbaa", sum := "5de26e22d7bac7f8f2d0a03e7ab3a27ee828d305c7589e28c186589223500724", func := "loop.example/g00977/laws.FnExactWordOk", spec := "fnExactWordOk", unfollowed := true, recurses := true, apart := false, narrowed := true }
def FnExactWordOkUptoSaid : Prop := fnExactWordOkUptoRow.holds Try.pinned (OpenSpec.upto fnExactWordOkSpec)

/-- 'laws.FnExactDataOf', WHERE WHAT IT READS IS OF BULK AT MOST 1048576: true; the input reads as it did. -/
def fnExactDataOfUptoRow : OpenClaim := { program := "ytgmlifhiefknbaa", sum := "5de26e22d7bac7f8f2d0a03e7ab3a27ee828d305c7589e28c186589223500724", func := "loop.example/g00977/laws.FnExactDataOf", spec := "fnExactDataOf", unfollowed := true, recurses := true, apart := false, narrowed := true }
def FnExactDataOfUptoSaid : Prop := fnExactDataOfUptoRow.holds Try.pinned (OpenSpec.upto fnExactDataOfSpec)

/-- 'laws.FnExactCorrectWord', WHERE WHAT IT READS IS OF BULK AT MOST 1048576: true; the input reads as it did. -/
def fnExactCorrectWordUptoRow : OpenClaim := { program := "ytgmlifhiefknbaa", sum := "5de26e22d7bac7f8f2d0a03e7ab3a27ee828d305c7589e28c186589223500724", func := "loop.example/g00977/laws.FnExactCorrectWord", spec := "fnExactCorrectWord", unfollowed := true, recurses := true, apart := false, narrowed := true }
def FnExactCorrectWordUptoSaid : Prop := fnExactCorrectWordUptoRow.holds Try.pinned (OpenSpec.upto fnExactCorrectWordSpec)

end Rows
end Go.Proofs.Ytgmlifhiefknbaa
