/-
  Texts of one proof, merged: FlowA.
-/
import Derived.Test.YtfpfgaifhmgpiaaDoorQL149
import Derived.Test.YtfpfgaifhmgpiaaDoorQL1413
import Derived.Test.YtfpfgaifhmgpiaaDoorQL1415
import Derived.Laws.AppendOwnNone
namespace Go.Proofs.YtfpfgaifhmgpiaaDoor
open Go.RowKit Go.PlainAid

set_option linter.unusedVariables false

/-- Operation k comes up behind i. -/
def Aft (k i : Nat) (listed : Array Bool) : Prop := listed.getD k false = true → listed.getD i false = true

theorem Aft.zero (k i n : Nat) : Aft k i (Array.replicate n false) := fun h => by rw [getD_replicate_false] at h; cases h

theorem Aft.keep {k i : Nat} {listed : Array Bool} (h : Aft k i listed) {j : Nat} (hj : j ≠ k) : Aft k i (listed.setIfInBounds j true) := fun h1 => by
  rw [getD_set_ne false hj] at h1
  exact getD_set_true (h h1)

theorem Aft.new {k i : Nat} {listed : Array Bool} (h : listed.getD i false = true) : Aft k i (listed.setIfInBounds k true) := fun _ => getD_set_true h

theorem Aft.no {k i : Nat} {listed : Array Bool} (h : Aft k i listed) (hi : listed.getD i false = false) : listed.getD k false = false := by
  cases e : listed.getD k false with
  | false => rfl
  | true => rw [h e] at hi; cases hi

theorem FactW.no {k m : Nat} {F : Value → World → Prop} {listed : Array Bool} {x : Nat → Value} {u : World} {i : Nat} (hk : listed.getD k false = false) (hi : i ≠ k) (v : Value) : FactW k m F (listed.setIfInBounds i true) (upd x i v) u := fun h1 _ => by
  rw [getD_set_ne false hi, hk] at h1; cases h1

/-- The slices that operations i and j answered lie apart, till operation m. -/
def Apart (i j m : Nat) (listed : Array Bool) (x : Nat → Value) : Prop := listed.getD i false = true → listed.getD j false = true → listed.getD m false = false → ∀ (a b : Addr) (n n' c c' : Nat), x i = .slice (some a) n c → x j = .slice (some b) n' c' → a.block ≠ b.block

theorem Apart.zero (i j m n : Nat) (x : Nat → Value) : Apart i j m (Array.replicate n false) x := fun h => by rw [getD_replicate_false] at h; cases h

theorem Apart.keep {i j m : Nat} {listed : Array Bool} {x : Nat → Value} (h : Apart i j m listed x) {k : Nat} (hi : k ≠ i) (hj : k ≠ j) (hm : k ≠ m) (v : Value) : Apart i j m (listed.setIfInBounds k true) (upd x k v) := fun h1 h2 h3 => by
  rw [getD_set_ne false hi] at h1
  rw [getD_set_ne false hj] at h2
  rw [getD_set_ne false hm] at h3
  rw [upd_other _ _ (Ne.symm hi), upd_other _ _ (Ne.symm hj)]
  exact h h1 h2 h3

theorem Apart.gone {i j m : Nat} {listed : Array Bool} {x : Nat → Value} {k : Nat} (h : listed.getD m false = true) : Apart i j m (listed.setIfInBounds k true) x := fun _ _ h3 => by rw [getD_set_true h] at h3; cases h3

theorem Apart.call {i j m : Nat} {listed : Array Bool} {x : Nat → Value} (h : m < listed.size) : Apart i j m (listed.setIfInBounds m true) x := fun _ _ h3 => by rw [get_set_same false h] at h3; cases h3

end Go.Proofs.YtfpfgaifhmgpiaaDoor
