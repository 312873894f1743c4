/-
  Texts of one proof, merged: BytesW, HexW.
-/
import Derived.Test.YtihhcnckoeaihaaDoorQE1
import Derived.BigQuiet
import Derived.Deep.AppendLies
import Derived.Deep.QuietTactic
import Derived.Deep.RegionHeld3
import Derived.Deep.RegionLaw
import Derived.Laws.IdiomStrings
import Derived.Lib.UnsafeStr
import Derived.PlainAid
import Derived.WalkLawsBesides
namespace Go.Proofs.YtihhcnckoeaihaaDoor
open Go.RowKit

set_option linter.unusedVariables false

theorem infoB : (Tryd.prog.info? 5).map (fun i => (i.zero, i.size, i.bytes)) = some (some (.int .u8 0), 1, 1) := by kernel_rfl

/-- A row of the call's own that holds the bytes l. -/
def OwnB (B : Nat) (v : Value) (l : List UInt8) (w : World) : Prop := w.ownsRow B 5 1 v l.length (Lib.byteCells l)

/-- 'string(v)' of such a row. -/
theorem OwnB.conv {B : Nat} {v : Value} {l : List UInt8} {w : World} (h : OwnB B v l w) :
    (convert 22 9 v).run Tryd.prog w = .ok (.string ⟨l.toArray⟩) w := by
  rcases h.2 with ⟨rfl, h0⟩ | ⟨g, cap, cur, rfl, _⟩
  · obtain rfl : l = [] := List.eq_nil_of_length_eq_zero h0
    rw [run_convert_bytes_string w 22 9 5 none 0 0 Tryd.underlying22 Tryd.underlying5 Tryd.underlying9]; rfl
  · exact run_convert_bytes_back (P := Tryd.prog) w 22 9 5 ⟨g, 0, none⟩ cap l Tryd.underlying22 Tryd.underlying5 Tryd.underlying9 (fun j hj => World.ownsRow.cells h (g := g) rfl j _ (by simp [Lib.byteCells, hj]))

/-- 'string([]byte{x})'. -/
theorem conv_one (w : World) (x : Int) (h0 : 0 ≤ x) (h1 : x ≤ 255) :
    (convert 22 9 (.slice (some ⟨w.heap.size, 0, none⟩) 1 1)).run Tryd.prog (w.alloc (.cells #[.int .u8 x] 5)) = .ok (.string ⟨#[UInt8.ofNat x.toNat]⟩) (w.alloc (.cells #[.int .u8 x] 5)) := by
  obtain ⟨n, rfl⟩ := Int.eq_ofNat_of_zero_le h0
  have e : ((UInt8.ofNat n).toNat : Int) = (n : Int) := by simp; omega
  have h : OwnB 0 (.slice (some ⟨w.heap.size, 0, none⟩) 1 1) [UInt8.ofNat n] (w.alloc (.cells #[.int .u8 n] 5)) :=
    ⟨rfl, .inr ⟨w.heap.size, 1, #[.int .u8 n], rfl, Nat.zero_le _, heap_alloc_new _ _, Nat.le_refl _, by decide, rfl, by simp [Lib.byteCells]; omega⟩⟩
  exact h.conv

end Go.Proofs.YtihhcnckoeaihaaDoor

namespace Go.Proofs.YtihhcnckoeaihaaDoor
open Go.RowKit

set_option linter.unusedVariables false

open Go.PlainAid

/-- The hexadecimal digit of a number below 16. -/
def fig (x : Nat) : UInt8 := if x < 10 then UInt8.ofNat (48 + x) else UInt8.ofNat (87 + x)

theorem figure_any (x : Int) (h0 : 0 ≤ x) (h1 : x < 16) (w : World) :
    Calls Tryd.prog 32 #[.int .i64 x] w fun e w' => e = .returned (.int .u8 (fig x.toNat).toNat) ∧ w = w' := by
  obtain ⟨n, rfl⟩ := Int.eq_ofNat_of_zero_le h0
  by_cases h : (n : Int) < 10
  · have hf : ((fig n).toNat : Int) = 48 + n := by unfold fig; rw [if_pos (by omega)]; simp; omega
    have HF := Lib.hid hf; clear hf
    go_enter Tryd.func32, Tryd.ntmps32
    go_wp2
    go_ret
    exact ⟨by rw [Int.toNat_natCast, HF.out]; rfl, rfl⟩
  · have hf : ((fig n).toNat : Int) = 87 + n := by unfold fig; rw [if_neg (by omega)]; simp; omega
    have HF := Lib.hid hf; clear hf
    go_enter Tryd.func32, Tryd.ntmps32
    go_wp2
    go_ret
    exact ⟨by rw [HF.out]; exact ret_i (by omega), rfl⟩

end Go.Proofs.YtihhcnckoeaihaaDoor
