/-
  Texts of one proof, merged: Draw2W, FBitsW.
-/
import Derived.Test.YtpddinflkkcodaaQM132
import Derived.Test.YtpddinflkkcodaaQM133
import Derived.Lib.Strings
namespace Go.Proofs.Ytpddinflkkcodaa
open Go.RowKit Go.PlainAid

set_option linter.unusedVariables false

/-- A row of the call's own that holds the numbers l. -/
def OwnI (B : Nat) (v : Value) (l : List Int) (w : World) : Prop := w.ownsRow B 3 1 v l.length (l.map (Value.int .i64))

theorem infoI : (Try.prog.info? 3).map (fun i => (i.zero, i.size, i.bytes)) = some (some (.int .i64 0), 1, 8) := by kernel_rfl

theorem ownI_more {B : Nat} {v : Value} {l : List Int} {x : Int} {w : World} (h : w.ownsRow B 3 1 v (l.length + 1) (l.map (Value.int .i64) ++ [.int .i64 x])) : OwnI B v (l ++ [x]) w := by
  unfold OwnI
  rw [show (l ++ [x]).length = l.length + 1 by simp, show (l ++ [x]).map (Value.int .i64) = l.map (Value.int .i64) ++ [.int .i64 x] by simp]
  exact h

theorem OwnI.shape {B : Nat} {v : Value} {l : List Int} {w : World} (h : OwnI B v l w) : ∃ a cap, v = .slice a l.length cap := by
  rcases h.2 with ⟨rfl, h0⟩ | ⟨g, cap, cur, rfl, _⟩
  · exact ⟨none, 0, by rw [h0]⟩
  · exact ⟨_, cap, rfl⟩

theorem OwnI.mono {B C : Nat} {v : Value} {l : List Int} {w : World} (h : OwnI B v l w) (hC : C ≤ B) : OwnI C v l w := by
  refine ⟨h.1, ?_⟩
  rcases h.2 with hv | ⟨b, cap, cur, hv, hB, r⟩
  · exact .inl hv
  · exact .inr ⟨b, cap, cur, hv, by omega, r⟩

theorem OwnI.below {B : Nat} {v : Value} {l : List Int} {w w' : World} (h : OwnI B v l w) (hb : Below w.heap.size w w') : OwnI B v l w' := by
  refine ⟨h.1, ?_⟩
  rcases h.2 with hv | ⟨b, cap, cur, hv, hB, hh, r⟩
  · exact .inl hv
  · exact .inr ⟨b, cap, cur, hv, hB, by rw [hb.block b (lt_of_block hh)]; exact hh, r⟩

theorem Cur.grown {c B : Nat} {w w' : World} {row : Option Nat} (h : Cur c B w) (hg : w.grownBy w' row) (hr : ∀ k, row = some k → B ≤ k ∧ k ≠ c) : Cur c B w' := by
  have hlt := h.lt
  obtain ⟨a, len, cs, zs, i, g, hh, hB, ⟨cap, hrow, ha⟩, r⟩ := h
  have hb : Below B w w' := (Below.refl B w).grown hg (by omega) (fun k hk => (hr k hk).1)
  exact ⟨a, len, cs, zs, i, g, by rw [hg.block c hlt (fun e => (hr c e.symm).2 rfl)]; exact hh, hB, ⟨cap, hrow.below ha hb, ha⟩, r⟩

end Go.Proofs.Ytpddinflkkcodaa

namespace Go.Proofs.Ytpddinflkkcodaa
open Go.RowKit

set_option linter.unusedVariables false

/-- What spec.l02Word picks among. -/
def wordEdges : List Int := [0, 1, 4294967295, 2147483648, 65536, 305419896]

set_option maxHeartbeats 1000000 in
theorem l02Word_any {c B : Nat} {w : World} (hc : Cur c B w) :
    Calls Try.prog 22 #[.pointer (some ⟨c, 0, none⟩)] w (DrewP Wd c B w) := by
  go_enter Try.func22, Try.ntmps22
  go_wp2_with fail
  refine (l01Below_any hc 4 (by omega)).mono ?_
  rintro e w1 ⟨x, rfl, hx0, hx1, hc1, ho1⟩
  by_cases h0 : x = 0
  · subst h0
    have hlt := hc1.lt
    go_wp2_with fail
    refine (l01PickInt_any Wd (hc1.alloc _) w1.heap.size 6 wordEdges (ints_new _ _ _ _ rfl) (by omega) (by decide) (by decide) (by unfold wordEdges Wd; decide)).mono ?_
    rintro e w2 ⟨y, rfl, hy, hc2, ho2⟩
    go_wp2
    go_ret
    exact ⟨_, rfl, hy, hc2, ho1.trans (((Only.refl _ _).alloc _).trans ho2)⟩
  · by_cases h1 : x = 1
    · subst h1
      go_wp2_with fail
      refine (l01Below_any hc1 200 (by omega)).mono ?_
      rintro e w2 ⟨y, rfl, hy0, hy1, hc2, ho2⟩
      rw [topOf_pos (by omega)] at hy1
      go_wp2
      go_ret
      exact ⟨_, rfl, ⟨by omega, by omega⟩, hc2, ho1.trans ho2⟩
    · have t0 : (x == 0) = false := by simpa using h0
      have t1 : (x == 1) = false := by simpa using h1
      go_wp2_with fail
      refine (l01Below_any hc1 65536 (by omega)).mono ?_
      rintro e w2 ⟨y, rfl, hy0, hy1, hc2, ho2⟩
      rw [topOf_pos (by omega)] at hy1
      go_wp2_with fail
      refine (l01Below_any hc2 65536 (by omega)).mono ?_
      rintro e w3 ⟨z, rfl, hz0, hz1, hc3, ho3⟩
      rw [topOf_pos (by omega)] at hz1
      go_wp2
      go_ret
      exact ⟨_, rfl, ⟨by omega, by omega⟩, hc3, (ho1.trans ho2).trans ho3⟩

/-- What a drawn word leaves. -/
def DrewWord (w : World) (e : Ending) (w' : World) : Prop := ∃ x : Int, e = .returned (.int .i64 x) ∧ Wd x ∧ Below w.heap.size w w'

theorem drawWord_any {a : Option Addr} {len cap : Nat} {zs : List Int} {w : World} (hr : IsRow .u8 w a len cap zs) :
    Calls Try.prog 9 #[.slice a len cap] w (DrewWord w) := by
  go_enter Try.func9, Try.ntmps9
  go_wp2_with fail
  refine (l01New_any hr).mono ?_
  rintro e w1 ⟨c, rfl, hB, hc1, hb1⟩
  have hs1 := Lib.hid hb1.size
  go_wp2_with fail
  refine (l02Word_any hc1).mono ?_
  rintro e w2 ⟨x, rfl, hx, hc2, ho2⟩
  go_wp2
  go_ret
  exact ⟨_, rfl, hx, hb1.trans (ho2.below hB hs1.out)⟩

end Go.Proofs.Ytpddinflkkcodaa
