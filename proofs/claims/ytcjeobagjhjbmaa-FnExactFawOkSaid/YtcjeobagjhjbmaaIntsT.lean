/-
  The laws' own copy of a row of numbers.
-/
import Derived.Test.YtcjeobagjhjbmaaGivesI
namespace Go.Proofs.Ytcjeobagjhjbmaa
open Go.RowKit Go.PlainAid

set_option linter.unusedVariables false

theorem take_set (zs : List Int) (n k : Nat) (hn : zs.length = n) (hk : k < n) : (zs.take k ++ List.replicate (n - k) 0).set k (zs.getD k 0) = zs.take (k + 1) ++ List.replicate (n - (k + 1)) 0 := by
  have h1 : (zs.take k).length = k := by rw [List.length_take]; omega
  have h2 : n - k = (n - (k + 1)) + 1 := by omega
  rw [List.set_append_right _ _ (by omega), h1, Nat.sub_self, h2, List.replicate_succ, List.set_cons_zero, List.take_add_one, List.append_assoc]
  congr 1
  rw [List.getD_eq_getElem?_getD, List.getElem?_eq_getElem (by omega)]
  rfl


set_option maxHeartbeats 1000000 in
set_option maxRecDepth 100000 in
theorem toIntS_is (ad : Option Addr) (n cap : Nat) (zs : List Int) (hz : zs.length = n) (h1 : n ≤ 4000000) (w : World) (hr : RowI w ad zs) :
    Calls Try.prog 33 #[.slice ad n cap] w (GivesI zs w) := by
  have HZ := Lib.hid hz
  have HR := Lib.hid hr
  clear hz hr
  obtain ⟨i0, hi, hz0, hz1, hz2⟩ := info_parts infoI
  go_enter Try.func33, Try.ntmps33
  go_wp2_with (at_make; refine wpList_make_full _ rfl _ _ 36 rfl w.heap.size 3 i0 (.int .i64 0) 1 Try.underlying36 hi hz0 hz1 _ _ _ _ n rfl rfl rfl rfl (by rw [hz2]; omega) (by unfold maxLen; omega) (Nat.le_refl _) ?_)
  intro w1 hown hgr
  have hb1 : Below w.heap.size w w1 := (Below.refl _ _).grown hgr (Nat.le_refl _) (fun k hk => by cases hk)
  have hO : Hid (OwnI w.heap.size (.slice (some ⟨w.heap.size, 0, none⟩) n n) (zs.take 0 ++ List.replicate (n - 0) 0) w1) := by
    show World.ownsRow _ _ _ _ _ _ _
    rw [made_one] at hown
    rw [show (zs.take 0 ++ List.replicate (n - 0) 0 : List Int) = List.replicate n 0 by simp, List.length_replicate, List.map_replicate]
    exact hown
  have HB1 := Lib.hid hb1
  clear hgr hown hb1
  go_wp2_with fail
  go_loopw [4] (fun i wr => ∃ k : Nat, k ≤ n ∧ i = .int .i64 k ∧ OwnI w.heap.size (.slice (some ⟨w.heap.size, 0, none⟩) n n) (zs.take k ++ List.replicate (n - k) 0) wr ∧ Below w.heap.size w wr) (fun i _ => n - (intOf i).toNat)
  case atStart => exact ⟨0, Nat.zero_le _, rfl, hO.out, HB1.out⟩
  case round =>
    obtain ⟨k, hk, rfl, hown, hbk⟩ := hrel
    have HB2 := Lib.hid hbk
    clear hbk hO HB1
    by_cases hlt : k < n
    · have hlen : (zs.take k ++ List.replicate (n - k) (0 : Int)).length = n := by have := HZ.out; simp; omega
      obtain ⟨g, hg, hc, hf, hB, hgl⟩ := hown.at (k := k) (by rw [hlen]; exact hlt)
      obtain rfl : w.heap.size = g := by simpa using hg
      obtain ⟨old, hco⟩ : ∃ u, wr.cell? ⟨w.heap.size, k, none⟩ = some u := ⟨_, hc⟩
      obtain ⟨pb, off, rfl, hsrc⟩ := (HR.out.below HB2.out).at (k := k) (by rw [HZ.out]; exact hlt)
      have HO2 := Lib.hid hown
      have HL := Lib.hid hlen
      have HST := Lib.hid (take_set zs n k HZ.out hlt)
      obtain ⟨x, hx⟩ : ∃ x, zs.getD k 0 = x := ⟨_, rfl⟩
      rw [hx] at hsrc
      have HX := Lib.hid hx
      clear hown hc hg hlen hx
      go_wp2_with fail
      have R : OwnI w.heap.size (.slice (some ⟨w.heap.size, 0, none⟩) n n) (zs.take (k + 1) ++ List.replicate (n - (k + 1)) 0) (wr.setCell ⟨w.heap.size, k, none⟩ (.int .i64 x)) := by
        rw [← HST.out, HX.out]
        exact HO2.out.stored HL.out k x
      go_roundw
      case rel => exact ⟨k + 1, by omega, by go_num, R, HB2.out.setCell (Nat.le_refl _) _⟩
      case measure => simp [intOf]; omega
    · obtain rfl : k = n := by omega
      have HO2 := Lib.hid hown
      clear hown
      go_wp2_with fail
      go_ret
      have hO2 := HO2.out
      have hzk := HZ.out
      rw [Nat.sub_self, List.replicate_zero, List.append_nil, List.take_of_length_le (by omega)] at hO2
      refine ⟨_, k, by rw [hzk]; rfl, by rw [hzk]; exact hO2, HB2.out⟩


/-- A slice of ints that came in, as contracts of readers want it. -/
theorem isRow_row {w : World} {a : Option Addr} {len cap : Nat} {zs : List Int} (h : IsRow .i64 w a len cap zs) : RowI w a (zs.take len) ∧ (zs.take len).length = len := by
  rcases h with ⟨rfl, rfl, rfl, rfl⟩ | ⟨x, rfl, hlc, hcm, hzl, hc, _⟩
  · exact ⟨.inl rfl, rfl⟩
  · refine ⟨?_, by rw [List.length_take]; omega⟩
    by_cases h0 : len = 0
    · subst h0; exact .inl List.take_zero
    · have hs : x.spot = none := by
        have := hc 0 (by omega)
        rw [Addr.add, if_pos rfl] at this
        unfold World.cell? at this
        split at this
        · by_cases hh : x.spot.isSome = true
          · rw [if_pos hh] at this; cases this
          · simpa using hh
        · cases this
      obtain ⟨b, off, sp⟩ := x
      cases hs
      refine .inr ⟨b, off, rfl, fun i hi => ?_⟩
      rw [List.length_take] at hi
      have := hc i (by omega)
      rw [Addr.add_lit] at this
      rw [this, List.getD_eq_getElem?_getD, List.getD_eq_getElem?_getD, List.getElem?_take_of_lt (by omega)]

end Go.Proofs.Ytcjeobagjhjbmaa
