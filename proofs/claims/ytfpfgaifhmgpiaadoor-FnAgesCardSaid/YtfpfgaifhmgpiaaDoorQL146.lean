/-
  Texts of one proof, merged: IntsW, GivesI, CodD.
-/
import Derived.Test.YtfpfgaifhmgpiaaDoorQL141
import Derived.Test.YtfpfgaifhmgpiaaDoorQL144
import Derived.Test.YtfpfgaifhmgpiaaDoorQL145
namespace Go.Proofs.YtfpfgaifhmgpiaaDoor
open Go.RowKit Go.PlainAid

set_option linter.unusedVariables false

/-- A row of numbers of the call's own, at an index. -/
theorem OwnI.at {B n c : Nat} {a : Option Addr} {l : List Int} {w : World} (h : OwnI B (.slice a n c) l w) {k : Nat} (hk : k < l.length) :
    ∃ g, a = some ⟨g, 0, none⟩ ∧ w.cell? ⟨g, k, none⟩ = some (.int .i64 l[k]) ∧ w.frozen? ⟨g, k, none⟩ = false ∧ B ≤ g ∧ g < w.heap.size := by
  have hc := fun g hg => World.ownsRow.cells h (g := g) hg k (.int .i64 l[k]) (by simp [hk])
  rcases h.2 with ⟨_, h0⟩ | ⟨g, cap, cur, hv, hB, hh, _⟩
  · omega
  · cases hv
    refine ⟨g, rfl, ?_, ?_, hB, lt_of_block hh⟩
    · have := hc g rfl
      rwa [Addr.add_lit, Nat.zero_add] at this
    · simp [World.frozen?, hh]

theorem OwnI.stored {B n c g : Nat} {l : List Int} {w : World} (h : OwnI B (.slice (some ⟨g, 0, none⟩) n c) l w) (hl : l.length = n) (k : Nat) (x : Int) : OwnI B (.slice (some ⟨g, 0, none⟩) n c) (l.set k x) (w.setCell ⟨g, k, none⟩ (.int .i64 x)) := by
  unfold OwnI at h ⊢
  rw [hl] at h
  rw [List.length_set, List.map_set, hl]
  exact (World.ownsRow.stored h k (.int .i64 x)).1

theorem OwnI.keep {B c n : Nat} {a : Option Addr} {l : List Int} {w w' : World} {g : Nat} (h : OwnI B (.slice a n c) l w) (ho : Only g w w') (hne : ∀ x, a = some x → x.block ≠ g) : OwnI B (.slice a n c) l w' := by
  refine ⟨h.1, ?_⟩
  rcases h.2 with ⟨hv, h0⟩ | ⟨b, cap, cur, hv, hB, hh, r⟩
  · exact .inl ⟨hv, h0⟩
  · cases hv
    exact .inr ⟨b, c, cur, rfl, hB, by rw [ho.block b (lt_of_block hh) (hne _ rfl)]; exact hh, r⟩

theorem OwnI.lo {B c n : Nat} {a : Option Addr} {l : List Int} {w : World} (h : OwnI B (.slice a n c) l w) : ∀ x, a = some x → B ≤ x.block ∧ x.block < w.heap.size := by
  rintro x rfl
  exact World.ownsRow.lt h x.block rfl

theorem Only.later {c : Nat} {a w w' : World} (h : Only c a w) (hb : Below w.heap.size w w') : Only c a w' :=
  h.trans ⟨hb.os, hb.tape, hb.output, hb.size, fun k hk _ => hb.block k hk⟩

end Go.Proofs.YtfpfgaifhmgpiaaDoor

namespace Go.Proofs.YtfpfgaifhmgpiaaDoor
open Go.RowKit

set_option linter.unusedVariables false

/-- A call that answers a row of numbers of its own and leaves all old blocks. -/
def GivesI (l : List Int) (w : World) (e : Ending) (w' : World) : Prop :=
  ∃ a cap, e = .returned (.slice a l.length cap) ∧ OwnI w.heap.size (.slice a l.length cap) l w' ∧ Below w.heap.size w w'

theorem givesI_empty {w w' : World} {g : Nat} {e : TypeId} (he : e = 3) (hg : w.heap.size ≤ g) (h1 : w'.heap[g]? = some (.cells #[] e (0, 0))) (hb : Below w.heap.size w w') : GivesI [] w (.returned (.slice (some ⟨g, 0, none⟩) 0 0)) w' := by
  subst he
  exact ⟨_, _, rfl, ⟨rfl, .inr ⟨g, 0, #[], rfl, hg, h1, Nat.le_refl _, Nat.zero_le _, rfl, rfl⟩⟩, hb⟩

/-- A slice at this address shows these numbers. -/
def RowI (w : World) (a : Option Addr) (l : List Int) : Prop :=
  l = [] ∨ ∃ b off, a = some ⟨b, off, none⟩ ∧ ∀ i, i < l.length → w.cell? ⟨b, off + i, none⟩ = some (.int .i64 (l.getD i 0))

theorem RowI.at {w : World} {a : Option Addr} {l : List Int} (h : RowI w a l) {k : Nat} (hk : k < l.length) : ∃ b off, a = some ⟨b, off, none⟩ ∧ w.cell? ⟨b, off + k, none⟩ = some (.int .i64 (l.getD k 0)) := by
  rcases h with rfl | ⟨b, off, rfl, h⟩
  · exact absurd hk (Nat.not_lt_zero _)
  · exact ⟨b, off, rfl, h k hk⟩

theorem RowI.below {w w' : World} {a : Option Addr} {l : List Int} (h : RowI w a l) (hb : Below w.heap.size w w') : RowI w' a l := by
  rcases h with h | ⟨b, off, rfl, h⟩
  · exact .inl h
  · exact .inr ⟨b, off, rfl, fun i hi => (hb.cell (World.block_lt_of_cell? _ _ (h i hi))).trans (h i hi)⟩

theorem OwnI.row {B n c : Nat} {a : Option Addr} {l : List Int} {w : World} (h : OwnI B (.slice a n c) l w) : RowI w a l := by
  rcases h.2 with ⟨hv, h0⟩ | ⟨g, cap, cur, hv, hB, hh, r⟩
  · cases hv
    exact .inl (List.length_eq_zero_iff.1 h0)
  · cases hv
    refine .inr ⟨g, 0, rfl, fun i hi => ?_⟩
    obtain ⟨g', hg, hc, _⟩ := h.at hi
    cases hg
    rw [Nat.zero_add, List.getD_eq_getElem?_getD, List.getElem?_eq_getElem hi]
    exact hc

theorem set_cells {w : World} {c : Nat} {vs : Array Value} {t : TypeId} (h : w.heap[c]? = some (.cells vs t (0, 0))) (k : Nat) (u : Value) : (w.setCell ⟨c, k, none⟩ u).heap[c]? = some (.cells (vs.setIfInBounds k u) t (0, 0)) := by
  have hlt := lt_of_block h
  have h' : w.heap[c] = .cells vs t (0, 0) := by simpa [Array.getElem?_eq_getElem hlt] using h
  show (w.heap.modify c _)[c]? = _
  rw [Array.getElem?_eq_getElem (by simpa using hlt), Array.getElem_modify_self, h']
  rfl

theorem only_grown {c : Nat} {a w w' : World} {row : Option Nat} (h : Only c a w) (hg : w.grownBy w' row) (hr : ∀ k, row = some k → a.heap.size ≤ k) : Only c a w' :=
  h.trans' ⟨hg.os, hg.tape, hg.output, hg.size⟩ (fun k hk hn => hg.block k (Nat.lt_of_lt_of_le hk h.size) (fun e => by have := hr k e.symm; omega))

theorem OwnI.only {B c : Nat} {v : Value} {l : List Int} {w w' : World} (h : OwnI B v l w) (ho : Only c w w') (hc : c < B) : OwnI B v l w' := by
  refine ⟨h.1, ?_⟩
  rcases h.2 with hv | ⟨b, cap, cur, hv, hB, hh, r⟩
  · exact .inl hv
  · exact .inr ⟨b, cap, cur, hv, hB, by rw [ho.block b (lt_of_block hh) (by omega)]; exact hh, r⟩

end Go.Proofs.YtfpfgaifhmgpiaaDoor

namespace Go.Proofs.YtfpfgaifhmgpiaaDoor
open Go.RowKit Go.PlainAid

set_option linter.unusedVariables false

/-- Eight drawn elements in a row of the call's own. -/
def DataG (c B : Nat) (w : World) (e : Ending) (w' : World) : Prop :=
  ∃ g cap l, e = .returned (.slice (some ⟨g, 0, none⟩) 8 cap) ∧ l.length = 8 ∧ Els l ∧ OwnI w.heap.size (.slice (some ⟨g, 0, none⟩) 8 cap) l w' ∧ Cur c B w' ∧ Only c w w'

set_option maxHeartbeats 1000000 in
set_option maxRecDepth 100000 in
theorem l12Data_any {c B : Nat} {w : World} (hc : Cur c B w) :
    Calls Tryd.prog 101 #[.pointer (some ⟨c, 0, none⟩)] w (DataG c B w) := by
  obtain ⟨i0, hi, hz0, hz1, hz2⟩ := info_parts infoI
  have hltc := hc.lt
  obtain ⟨_, _, _, _, _, _, _, hBc, _⟩ := id hc
  have HC := Lib.hid hc
  clear hc
  go_enter Tryd.func101, Tryd.ntmps101
  go_wp2_with fail
  go_loopw [3, 4] (fun v i wr => ∃ k : Nat, ∃ l : List Int, k ≤ 8 ∧ i = .int .i64 k ∧ Hid (l.length = k) ∧ Hid (Els l) ∧ OwnI w.heap.size v l wr ∧ Cur c B wr ∧ Only c w wr) (fun _ i _ => 8 - (intOf i).toNat)
  case atStart => exact ⟨0, [], by omega, rfl, rfl, fun x h => (by cases h), World.ownsRow_made w #[] 0 (Nat.le_refl _) (by decide) rfl, HC.out.alloc _, (Only.refl _ _).alloc _⟩
  case round =>
    obtain ⟨k, l, hk, rfl, HL, HA, hown, hcr, hor⟩ := hrel
    have hsr := hor.size
    by_cases hlt : k < 8
    · go_wp2_with fail
      refine (l01Below_any hcr 16 (by omega)).mono ?_
      rintro e w2 ⟨x, rfl, hx0, hx1, hc2, ho2⟩
      rw [topOf_pos (by omega)] at hx1
      have own2 := hown.only ho2 hltc
      have hs2 := ho2.size
      have ho3 := hor.trans ho2
      clear hown hcr ho2 hor
      go_wp2_with (at_builtin; refine wpList_append_own _ rfl _ _ 29 rfl w.heap.size 3 i0 (.int .i64 0) 1 8 Tryd.underlying29 hi hz0 hz1 hz2 rfl (by decide) _ _ _ rfl (World.ownsRow.alloc own2 _) ⟨w2.heap.size, 0, none⟩ 1 1 [.int .i64 x] rfl rfl (cell_one_new _ _ _) (by intro u hu; simp at hu; subst hu; rfl) (by rw [HL.out]; unfold maxLen; omega) (by rw [HL.out]; omega) (by rw [World.size_alloc]; omega) ?_)
      intro v' w3 hown3 hgrow _
      have R := Lib.hid (ownI_more hown3)
      have hrow : ∀ k, Value.ownBlock u3 = some k → w.heap.size ≤ k := fun k hk => (World.ownsRow.lt own2 k hk).1
      have hc3 := (hc2.alloc (.cells #[.int .i64 x] 3)).grown hgrow (fun k hk => by have := hrow k hk; omega)
      have ho4 := only_grown (ho3.alloc (.cells #[.int .i64 x] 3)) hgrow hrow
      clear hown3 hgrow own2 hc2 ho3
      go_wp2_with fail
      go_roundw
      case rel => exact ⟨k + 1, l ++ [x], by omega, by go_num, by show List.length _ = _; rw [List.length_append, HL.out]; rfl, fun y hy => by rcases List.mem_append.1 hy with h | h; exact HA.out y h; simp at h; subst h; exact ⟨hx0, by omega⟩, R.out, hc3, ho4⟩
      case measure => simp [intOf]; omega
    · obtain rfl : k = 8 := by omega
      have HO := Lib.hid hown
      have HCR := Lib.hid hcr
      have HOR := Lib.hid hor
      clear hown hcr hor
      go_wp2_with fail
      go_ret
      obtain ⟨h1, h2⟩ := HO.out
      rcases h2 with ⟨_, h0⟩ | ⟨g, cap', cur, hv, hB, r⟩
      · have := HL.out; omega
      · rw [HL.out] at hv
        refine ⟨g, cap', l, ?_, HL.out, HA.out, ?_, HCR.out, HOR.out⟩
        · show Ending.returned u3 = _
          rw [hv]
        · rw [← hv]; exact HO.out

end Go.Proofs.YtfpfgaifhmgpiaaDoor
