/-
  Texts of one proof, merged: Draw2W.
-/
import Derived.Test.YtfpfgaifhmgpiaaDoorQM142
import Derived.Test.YtfpfgaifhmgpiaaDoorQM143
import Derived.Lib.Strings
namespace Go.Proofs.YtfpfgaifhmgpiaaDoor
open Go.RowKit Go.PlainAid

set_option linter.unusedVariables false

/-- A row of the call's own that holds the numbers l. -/
def OwnI (B : Nat) (v : Value) (l : List Int) (w : World) : Prop := w.ownsRow B 3 1 v l.length (l.map (Value.int .i64))

theorem infoI : (Tryd.prog.info? 3).map (fun i => (i.zero, i.size, i.bytes)) = some (some (.int .i64 0), 1, 8) := by kernel_rfl

theorem OwnI.shape {B : Nat} {v : Value} {l : List Int} {w : World} (h : OwnI B v l w) : ∃ a cap, v = .slice a l.length cap := by
  rcases h.2 with ⟨rfl, h0⟩ | ⟨g, cap, cur, rfl, _⟩
  · exact ⟨none, 0, by rw [h0]⟩
  · exact ⟨_, cap, rfl⟩

theorem OwnI.mono {B C : Nat} {v : Value} {l : List Int} {w : World} (h : OwnI B v l w) (hC : C ≤ B) : OwnI C v l w := by
  refine ⟨h.1, ?_⟩
  rcases h.2 with hv | ⟨b, cap, cur, hv, hB, r⟩
  · exact .inl hv
  · exact .inr ⟨b, cap, cur, hv, by omega, r⟩

theorem OwnI.below {B : Nat} {v : Value} {l : List Int} {w w' : World} (h : OwnI B v l w) (hb : Below w.heap.size w w') : OwnI B v l w' := by
  refine ⟨h.1, ?_⟩
  rcases h.2 with hv | ⟨b, cap, cur, hv, hB, hh, r⟩
  · exact .inl hv
  · exact .inr ⟨b, cap, cur, hv, hB, by rw [hb.block b (lt_of_block hh)]; exact hh, r⟩

theorem Cur.grown {c B : Nat} {w w' : World} {row : Option Nat} (h : Cur c B w) (hg : w.grownBy w' row) (hr : ∀ k, row = some k → B ≤ k ∧ k ≠ c) : Cur c B w' := by
  have hlt := h.lt
  obtain ⟨a, len, cs, zs, i, g, hh, hB, ⟨cap, hrow, ha⟩, r⟩ := h
  have hb : Below B w w' := (Below.refl B w).grown hg (by omega) (fun k hk => (hr k hk).1)
  exact ⟨a, len, cs, zs, i, g, by rw [hg.block c hlt (fun e => (hr c e.symm).2 rfl)]; exact hh, hB, ⟨cap, hrow.below ha hb, ha⟩, r⟩

end Go.Proofs.YtfpfgaifhmgpiaaDoor
