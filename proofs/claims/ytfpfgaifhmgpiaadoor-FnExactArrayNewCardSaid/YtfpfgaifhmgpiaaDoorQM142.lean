/-
  Texts of one proof, merged: DrawW, ClampW, BitsW, CodN.
-/
import Derived.Test.YtfpfgaifhmgpiaaDoorQM141
import Derived.BigQuiet
import Derived.Deep.QuietTactic
import Derived.WalkLawsBesides
namespace Go.Proofs.YtfpfgaifhmgpiaaDoor
open Go.RowKit

set_option linter.unusedVariables false

theorem IsRow.below {k : IntKind} {B : Nat} {w w' : World} {a : Option Addr} {len cap : Nat} {zs : List Int} (h : IsRow k w a len cap zs) (ha : ∀ x, a = some x → 0 < cap → x.block < B) (hb : Below B w w') : IsRow k w' a len cap zs := by
  rcases h with h | ⟨x, rfl, h1, h2, h3, h4, h5⟩
  · exact .inl h
  · refine .inr ⟨x, rfl, h1, h2, h3, fun i hi => ?_, h5⟩
    rw [hb.cell (by have := ha x rfl (by omega); unfold Addr.add; split <;> simpa using this)]
    exact h4 i hi

/-- Block c is a cursor over a row of bytes that lies below block B. -/
def Cur (c B : Nat) (w : World) : Prop :=
  ∃ a len cs zs, ∃ i h : Int, w.heap[c]? = some (.cells #[.slice a len cs, .int .i64 i, .int .i64 h] 104 (0, 0)) ∧ B ≤ c ∧ (∃ cap, IsRow .u8 w a len cap zs ∧ ∀ x, a = some x → 0 < cap → x.block < B) ∧
    0 ≤ i ∧ i ≤ (len : Int) ∧ len ≤ maxLen

theorem Cur.lt {c B : Nat} {w : World} (h : Cur c B w) : c < w.heap.size := by
  obtain ⟨a, len, cap, zs, i, g, hh, _⟩ := h
  exact lt_of_block hh

theorem IsRow.lt {w : World} {k : IntKind} {a : Option Addr} {len cap : Nat} {zs : List Int} (h : IsRow k w a len cap zs) {x : Addr} (hx : a = some x) (hc : 0 < cap) : x.block < w.heap.size := by
  rcases h with ⟨rfl, _⟩ | ⟨y, rfl, h1, h2, h3, h4, h5⟩
  · cases hx
  · cases hx
    have := World.block_lt_of_cell? _ _ (h4 0 (by omega))
    simpa [Addr.add] using this

/-- A row of ints that is there: block b, from cell 0 on. -/
def Ints (w : World) (b : Nat) (zs : List Int) : Prop := b < w.heap.size ∧ ∀ i, i < zs.length → w.cell? ⟨b, i, none⟩ = some (.int .i64 (zs.getD i 0))

theorem Ints.only {w w' : World} {b c : Nat} {zs : List Int} (h : Ints w b zs) (ho : Only c w w') (hne : b ≠ c) : Ints w' b zs :=
  ⟨Nat.lt_of_lt_of_le h.1 ho.size, fun i hi => (World.cell?_of_block (w := w) (ho.block b h.1 hne)).trans (h.2 i hi)⟩

theorem Cur.alloc {c B : Nat} {w : World} (h : Cur c B w) (o : Obj) : Cur c B (w.alloc o) := by
  have hlt := h.lt
  obtain ⟨a, len, cs, zs, i, g, hh, hB, ⟨cap, hr, ha⟩, r⟩ := h
  exact ⟨a, len, cs, zs, i, g, by rw [Below.heap_alloc _ _ _ hlt]; exact hh, hB, ⟨cap, hr.below ha ((Below.refl B w).alloc (by omega) _), ha⟩, r⟩

end Go.Proofs.YtfpfgaifhmgpiaaDoor

namespace Go.Proofs.YtfpfgaifhmgpiaaDoor

open Go.RowKit

def clampF (n lo hi : Int) : Int := if hi < lo ∨ n < lo then lo else if n > hi then hi else n

theorem implClamp_any (n lo hi : Int) (w : World) :
    Calls Tryd.prog 82 #[.int .i64 n, .int .i64 lo, .int .i64 hi] w fun e w' => e = .returned (.int .i64 (clampF n lo hi)) ∧ w = w' := by
  go_enter Tryd.func82, Tryd.ntmps82
  go_wp2
  all_goals (go_ret; refine ⟨?_, rfl⟩; refine ret_i ?_; unfold clampF; repeat' split; all_goals omega)

end Go.Proofs.YtfpfgaifhmgpiaaDoor

namespace Go.Proofs.YtfpfgaifhmgpiaaDoor
open Go.RowKit

set_option linter.unusedVariables false

/-- A call that answers v and turns nothing. -/
def Says (v : Value) (w : World) (e : Ending) (w' : World) : Prop := e = .returned v ∧ w = w'

theorem implIsWord_is (x : Int) (v : Bool) (h : decide (Wd x) = v) (w : World) :
    Calls Tryd.prog 109 #[.int .i64 x] w (Says (.bool v) w) := by
  subst h
  unfold Wd
  go_enter Tryd.func109, Tryd.ntmps109
  by_cases h0 : 0 ≤ x <;> by_cases h1 : x ≤ 4294967295
  all_goals (go_wp2; go_ret; refine ⟨?_, rfl⟩; simp [h0, h1]; try omega)

theorem implIsBit_is (x : Int) (v : Bool) (h : decide (Bn x) = v) (w : World) :
    Calls Tryd.prog 118 #[.int .i64 x] w (Says (.bool v) w) := by
  subst h
  unfold Bn
  go_enter Tryd.func118, Tryd.ntmps118
  by_cases h0 : 0 ≤ x <;> by_cases h1 : x ≤ 31
  all_goals (go_wp2; go_ret; refine ⟨?_, rfl⟩; simp [h0, h1]; try omega)

theorem shr_word (x i : Int) (hi : Bn i) : x / 2 ^ min i.toNat IntKind.i64.bits = x / 2 ^ i.toNat := by
  unfold Bn at hi
  rw [show min i.toNat IntKind.i64.bits = i.toNat by simp [IntKind.bits]; omega]

theorem bitF_in {x i : Int} (hx : Wd x) (hi : Bn i) : bits .and .i64 (x / 2 ^ min i.toNat IntKind.i64.bits) 1 = bitF x i := by
  rw [i64_and1, shr_word x i hi]; unfold bitF; rw [if_pos ⟨hx, hi⟩]

theorem bitF_out {x i : Int} (h : ¬ (Wd x ∧ Bn i)) : bitF x i = 0 := by unfold bitF; rw [if_neg h]

theorem implBitOf_any (x i : Int) (w : World) :
    Calls Tryd.prog 117 #[.int .i64 x, .int .i64 i] w (Says (.int .i64 (bitF x i)) w) := by
  by_cases hx : Wd x
  · have dx := Lib.hid (decide_eq_true hx)
    by_cases hi : Bn i
    · have di := Lib.hid (decide_eq_true hi)
      have hi0 := hi.1
      have H := Lib.hid (bitF_in hx hi)
      clear hx hi
      go_enter Tryd.func117, Tryd.ntmps117
      go_wp2_with (first | (go_at_call 109; refine (implIsWord_is _ _ dx.out _).mono ?_; rintro e w' ⟨rfl, rfl⟩) | (go_at_call 118; refine (implIsBit_is _ _ di.out _).mono ?_; rintro e w' ⟨rfl, rfl⟩))
      go_ret
      exact ⟨ret_i H.out, rfl⟩
    · have di := Lib.hid (decide_eq_false hi)
      have H := Lib.hid (bitF_out (x := x) (i := i) (fun h => hi h.2))
      clear hx hi
      go_enter Tryd.func117, Tryd.ntmps117
      go_wp2_with (first | (go_at_call 109; refine (implIsWord_is _ _ dx.out _).mono ?_; rintro e w' ⟨rfl, rfl⟩) | (go_at_call 118; refine (implIsBit_is _ _ di.out _).mono ?_; rintro e w' ⟨rfl, rfl⟩))
      go_ret
      exact ⟨ret_i H.out.symm, rfl⟩
  · have dx := Lib.hid (decide_eq_false hx)
    have H := Lib.hid (bitF_out (x := x) (i := i) (fun h => hx h.1))
    clear hx
    go_enter Tryd.func117, Tryd.ntmps117
    go_wp2_with (first | (go_at_call 109; refine (implIsWord_is _ _ dx.out _).mono ?_; rintro e w' ⟨rfl, rfl⟩))
    go_ret
    exact ⟨ret_i H.out.symm, rfl⟩

end Go.Proofs.YtfpfgaifhmgpiaaDoor

namespace Go.Proofs.YtfpfgaifhmgpiaaDoor

set_option linter.unusedVariables false

/-- Place m tells these sums. -/
def Hit (a b c : Nat) (m : Nat) : Prop := a ≠ 0 ∧ gm a (gp 2 m) = b ∧ gm b (gp 2 m) = c

instance (a b c m : Nat) : Decidable (Hit a b c m) := inferInstanceAs (Decidable (_ ∧ _))

end Go.Proofs.YtfpfgaifhmgpiaaDoor
