/-
  Bytes of the call's own: a row of bytes that is appended to, read back as a string.
-/
import Derived.Test.YtbfpngaljmcbfaaBase
import Derived.WalkLawsBesides
import Derived.BigQuiet
import Derived.Deep.QuietTactic
import Derived.Deep.AppendLies
import Derived.Deep.RegionHeld3
import Derived.Deep.RegionLaw
import Derived.Lib.UnsafeStr
import Derived.Laws.IdiomStrings
import Derived.PlainAid
namespace Go.Proofs.Ytbfpngaljmcbfaa
open Go.RowKit

set_option linter.unusedVariables false

theorem infoB : (Try.prog.info? 5).map (fun i => (i.zero, i.size, i.bytes)) = some (some (.int .u8 0), 1, 1) := by kernel_rfl

/-- A row of the call's own that holds the bytes l. -/
def OwnB (B : Nat) (v : Value) (l : List UInt8) (w : World) : Prop := w.ownsRow B 5 1 v l.length (Lib.byteCells l)

/-- 'string(v)' of such a row. -/
theorem OwnB.conv {B : Nat} {v : Value} {l : List UInt8} {w : World} (h : OwnB B v l w) :
    (convert 22 9 v).run Try.prog w = .ok (.string ⟨l.toArray⟩) w := by
  rcases h.2 with ⟨rfl, h0⟩ | ⟨g, cap, cur, rfl, _⟩
  · obtain rfl : l = [] := List.eq_nil_of_length_eq_zero h0
    rw [run_convert_bytes_string w 22 9 5 none 0 0 Try.underlying22 Try.underlying5 Try.underlying9]; rfl
  · exact run_convert_bytes_back (P := Try.prog) w 22 9 5 ⟨g, 0, none⟩ cap l Try.underlying22 Try.underlying5 Try.underlying9 (fun j hj => World.ownsRow.cells h (g := g) rfl j _ (by simp [Lib.byteCells, hj]))

/-- One byte more. -/
theorem own_more {B : Nat} {v : Value} {l : List UInt8} {x : Int} {b : UInt8} {w : World} (h : w.ownsRow B 5 1 v (l.length + 1) (Lib.byteCells l ++ [.int .u8 x])) (hx : x = (b.toNat : Int)) : OwnB B v (l ++ [b]) w := by
  subst hx
  unfold OwnB
  rw [show (l ++ [b]).length = l.length + 1 by simp, show Lib.byteCells (l ++ [b]) = Lib.byteCells l ++ [.int .u8 b.toNat] by simp [Lib.byteCells]]
  exact h

/-- 'string([]byte{x})'. -/
theorem conv_one (w : World) (x : Int) (h0 : 0 ≤ x) (h1 : x ≤ 255) :
    (convert 22 9 (.slice (some ⟨w.heap.size, 0, none⟩) 1 1)).run Try.prog (w.alloc (.cells #[.int .u8 x] 5)) = .ok (.string ⟨#[UInt8.ofNat x.toNat]⟩) (w.alloc (.cells #[.int .u8 x] 5)) := by
  obtain ⟨n, rfl⟩ := Int.eq_ofNat_of_zero_le h0
  have e : ((UInt8.ofNat n).toNat : Int) = (n : Int) := by simp; omega
  have h : OwnB 0 (.slice (some ⟨w.heap.size, 0, none⟩) 1 1) [UInt8.ofNat n] (w.alloc (.cells #[.int .u8 n] 5)) :=
    ⟨rfl, .inr ⟨w.heap.size, 1, #[.int .u8 n], rfl, Nat.zero_le _, heap_alloc_new _ _, Nat.le_refl _, by decide, rfl, by simp [Lib.byteCells]; omega⟩⟩
  exact h.conv

end Go.Proofs.Ytbfpngaljmcbfaa
