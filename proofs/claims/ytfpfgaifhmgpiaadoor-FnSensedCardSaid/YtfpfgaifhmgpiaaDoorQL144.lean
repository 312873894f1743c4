/-
  Texts of one proof, merged: Draw2W.
-/
import Derived.Test.YtfpfgaifhmgpiaaDoorQL142
import Derived.Test.YtfpfgaifhmgpiaaDoorQL143
import Derived.Lib.Strings
namespace Go.Proofs.YtfpfgaifhmgpiaaDoor
open Go.RowKit Go.PlainAid

set_option linter.unusedVariables false

/-- A row of the call's own that holds the numbers l. -/
def OwnI (B : Nat) (v : Value) (l : List Int) (w : World) : Prop := w.ownsRow B 3 1 v l.length (l.map (Value.int .i64))

theorem infoI : (Tryd.prog.info? 3).map (fun i => (i.zero, i.size, i.bytes)) = some (some (.int .i64 0), 1, 8) := by kernel_rfl

theorem ownI_more {B : Nat} {v : Value} {l : List Int} {x : Int} {w : World} (h : w.ownsRow B 3 1 v (l.length + 1) (l.map (Value.int .i64) ++ [.int .i64 x])) : OwnI B v (l ++ [x]) w := by
  unfold OwnI
  rw [show (l ++ [x]).length = l.length + 1 by simp, show (l ++ [x]).map (Value.int .i64) = l.map (Value.int .i64) ++ [.int .i64 x] by simp]
  exact h

theorem OwnI.shape {B : Nat} {v : Value} {l : List Int} {w : World} (h : OwnI B v l w) : ∃ a cap, v = .slice a l.length cap := by
  rcases h.2 with ⟨rfl, h0⟩ | ⟨g, cap, cur, rfl, _⟩
  · exact ⟨none, 0, by rw [h0]⟩
  · exact ⟨_, cap, rfl⟩

theorem OwnI.mono {B C : Nat} {v : Value} {l : List Int} {w : World} (h : OwnI B v l w) (hC : C ≤ B) : OwnI C v l w := by
  refine ⟨h.1, ?_⟩
  rcases h.2 with hv | ⟨b, cap, cur, hv, hB, r⟩
  · exact .inl hv
  · exact .inr ⟨b, cap, cur, hv, by omega, r⟩

theorem OwnI.below {B : Nat} {v : Value} {l : List Int} {w w' : World} (h : OwnI B v l w) (hb : Below w.heap.size w w') : OwnI B v l w' := by
  refine ⟨h.1, ?_⟩
  rcases h.2 with hv | ⟨b, cap, cur, hv, hB, hh, r⟩
  · exact .inl hv
  · exact .inr ⟨b, cap, cur, hv, hB, by rw [hb.block b (lt_of_block hh)]; exact hh, r⟩

theorem Cur.grown {c B : Nat} {w w' : World} {row : Option Nat} (h : Cur c B w) (hg : w.grownBy w' row) (hr : ∀ k, row = some k → B ≤ k ∧ k ≠ c) : Cur c B w' := by
  have hlt := h.lt
  obtain ⟨a, len, cs, zs, i, g, hh, hB, ⟨cap, hrow, ha⟩, r⟩ := h
  have hb : Below B w w' := (Below.refl B w).grown hg (by omega) (fun k hk => (hr k hk).1)
  exact ⟨a, len, cs, zs, i, g, by rw [hg.block c hlt (fun e => (hr c e.symm).2 rfl)]; exact hh, hB, ⟨cap, hrow.below ha hb, ha⟩, r⟩

/-- Twelve places, each from 0 to 9999, in a row of the call's own. -/
def Places (w : World) (e : Ending) (w' : World) : Prop :=
  ∃ (g cap : Nat) (l : List Int), e = .returned (.slice (some ⟨g, 0, none⟩) 12 cap) ∧ l.length = 12 ∧ (∀ x ∈ l, 0 ≤ x ∧ x ≤ 9999) ∧ OwnI w.heap.size (.slice (some ⟨g, 0, none⟩) 12 cap) l w' ∧ Below w.heap.size w w'

set_option maxHeartbeats 1000000 in
set_option maxRecDepth 100000 in
theorem drawPlaces_any {a : Option Addr} {len cap : Nat} {zs : List Int} {w : World} (hr : IsRow .u8 w a len cap zs) :
    Calls Tryd.prog 11 #[.slice a len cap] w (Places w) := by
  obtain ⟨i0, hi, hz0, hz1, hz2⟩ := info_parts infoI
  go_enter Tryd.func11, Tryd.ntmps11
  go_wp2_with fail
  refine (l01New_any hr).mono ?_
  rintro e w1 ⟨c, rfl, hBc, hc1, hb1⟩
  have hlt := hc1.lt
  have hs1 := hb1.size
  have HC1 := Lib.hid hc1
  have HB1 := Lib.hid hb1
  clear hr hc1 hb1
  go_wp2_with fail
  go_loopw [4, 5] (fun v i wr => ∃ k : Nat, ∃ l : List Int, k ≤ 12 ∧ i = .int .i64 k ∧ Hid (l.length = k) ∧ Hid (∀ x ∈ l, 0 ≤ x ∧ x ≤ 9999) ∧ OwnI w1.heap.size v l wr ∧ Cur c w.heap.size wr ∧ w1.heap.size ≤ wr.heap.size ∧ Below w.heap.size w wr) (fun _ i _ => 12 - (intOf i).toNat)
  case atStart => exact ⟨0, [], by omega, rfl, rfl, fun x h => (by cases h), World.ownsRow_made w1 #[] 0 (Nat.le_refl _) (by decide) rfl, HC1.out.alloc _, by simp, HB1.out.alloc hs1 _⟩
  case round =>
    obtain ⟨k, l, hk, rfl, HL, HA, hown, hcr, hsr, hbr⟩ := hrel
    by_cases hlt12 : k < 12
    · go_wp2_with fail
      refine (l01Below_any hcr 10000 (by omega)).mono ?_
      rintro e w2 ⟨x, rfl, hx0, hx1, hc2, ho2⟩
      rw [topOf_pos (by omega)] at hx1
      have own2 : OwnI w1.heap.size u4 l w2 := by
        refine ⟨hown.1, ?_⟩
        rcases hown.2 with hv | ⟨b, cap, cur, hv, hB, hh, r⟩
        · exact .inl hv
        · exact .inr ⟨b, cap, cur, hv, hB, by rw [ho2.block b (lt_of_block hh) (by omega)]; exact hh, r⟩
      have hs2 := ho2.size
      have hb2 : Below w.heap.size w w2 := hbr.trans (ho2.below hBc (by omega))
      clear hown hcr hbr ho2
      go_wp2_with (at_builtin; refine wpList_append_own _ rfl _ _ 29 rfl w1.heap.size 3 i0 (.int .i64 0) 1 8 Tryd.underlying29 hi hz0 hz1 hz2 rfl (by decide) _ _ _ rfl (World.ownsRow.alloc own2 _) ⟨w2.heap.size, 0, none⟩ 1 1 [.int .i64 x] rfl rfl (cell_one_new _ _ _) (by intro u hu; simp at hu; subst hu; rfl) (by rw [HL.out]; unfold maxLen; omega) (by rw [HL.out]; omega) (by rw [World.size_alloc]; omega) ?_)
      intro v' w3 hown3 hgrow _
      have R := Lib.hid (ownI_more hown3)
      have hc3 := (hc2.alloc _).grown hgrow (fun k hk => by have := (World.ownsRow.lt own2 k hk).1; omega)
      have hb3 : Below w.heap.size w w3 := (hb2.alloc (by omega) _).grown hgrow (by rw [World.size_alloc]; omega) (fun k hk => by have := (World.ownsRow.lt own2 k hk).1; omega)
      have hs3 : w1.heap.size ≤ w3.heap.size := by have := hgrow.size; rw [World.size_alloc] at this; omega
      clear hown3 hgrow own2 hc2 hb2
      go_wp2_with fail
      go_roundw
      case rel => exact ⟨k + 1, l ++ [x], by omega, by go_num, by show List.length _ = _; rw [List.length_append, HL.out]; rfl, fun y hy => by rcases List.mem_append.1 hy with h | h; exact HA.out y h; simp at h; subst h; omega, R.out, hc3, hs3, hb3⟩
      case measure => simp [intOf]; omega
    · obtain rfl : k = 12 := by omega
      have HO := Lib.hid hown
      clear hown
      go_wp2_with fail
      go_ret
      obtain ⟨h1, h2⟩ := HO.out
      rcases h2 with ⟨_, h0⟩ | ⟨g, cap', cur, hv, hB, r⟩
      · have := HL.out; omega
      · rw [HL.out] at hv
        refine ⟨g, cap', l, ?_, HL.out, HA.out, ?_, hbr⟩
        · show Ending.returned u4 = _
          rw [hv]
        · rw [← hv]; exact HO.out.mono hs1

end Go.Proofs.YtfpfgaifhmgpiaaDoor
