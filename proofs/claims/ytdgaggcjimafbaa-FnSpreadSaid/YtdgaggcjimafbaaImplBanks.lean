/-
  impl's banks of a run of lines: collected, sorted, each once.
-/
import Derived.Test.YtdgaggcjimafbaaImplMapW
import Derived.Test.YtdgaggcjimafbaaDraw2W
import Derived.Test.YtdgaggcjimafbaaShelf
import Derived.Sort.OwnSortedInts
import Derived.Sort.Grow
import Derived.Lib.OwnBridge
namespace Go.Proofs.Ytdgaggcjimafbaa
open Go.RowKit Go.Sort

set_option linter.unusedVariables false

/-- A call that answers a row of numbers of its own and leaves all old blocks. -/
def GivesI (l : List Int) (w : World) (e : Ending) (w' : World) : Prop :=
  ∃ a cap, e = .returned (.slice a l.length cap) ∧ OwnI w.heap.size (.slice a l.length cap) l w' ∧ Below w.heap.size w w'

theorem givesI_nil {w w' : World} (hb : Below w.heap.size w w') : GivesI [] w (.returned (.slice none 0 0)) w' :=
  ⟨none, 0, rfl, World.ownsRow_nil _ _ _ _, hb⟩

set_option maxHeartbeats 4000000 in
set_option maxRecDepth 100000 in
theorem implBanks_ok (a b r d o : Int) (h : Bool) (s n : Int) (ht : TouchOk a b r d o s n) (w : World) :
    Calls Try.prog 18 #[.agg #[.int .i64 a, .int .i64 b, .int .i64 r, .int .i64 d], .agg #[.int .i64 o, .bool h], .int .i64 s, .int .i64 n] w (GivesI (touchF a b r d o h s n) w) := by
  obtain ⟨ho, hn1, hs0, hns⟩ := id ht
  obtain ⟨N, rfl⟩ := Int.eq_ofNat_of_zero_le (show 0 ≤ n by omega)
  obtain ⟨i0, hi, hz0, hz1, hz2⟩ := info_parts infoI
  have hmr := lineN_range a b r d
  have hln : ∀ k : Nat, k < N → LnOk a b r d (s + k) := fun k hk => ⟨by omega, by omega⟩
  have HT : Hid (touchF a b r d o h s N = touchL (bankN a b r d).toNat (hits (bankF a b r d o h) s N)) := by
    show _ = _
    unfold touchF
    rw [if_pos ht]
    rfl
  have ML : Hid (∀ k : Nat, k < N → ∀ w, Calls Try.prog 13 #[.agg #[.int .i64 a, .int .i64 b, .int .i64 r, .int .i64 d], .agg #[.int .i64 o, .bool h], .int .i64 (s + k)] w (Gives (.tuple #[.agg #[.int .i64 (bankF a b r d o h (s + k)), .int .i64 (mapRow o d r (bankN a b r d) (s + k)), .int .i64 (mapCol o d r (bankN a b r d) (s + k))], .bool true]) w)) := by
    intro k hk w
    have := implMapLine_is a b r d o h (s + k) w
    rwa [mapF_ok ho (hln k hk)] at this
  have FR : Hid (∀ x ∈ hits (bankF a b r d o h) s N, 0 ≤ x ∧ x < ((bankN a b r d).toNat : Int)) := by
    intro x hx
    obtain ⟨k, hk, rfl⟩ := (hits_mem _ _ _ _).1 hx
    have := bankF_range (h := h) ho (hln k hk)
    omega
  obtain ⟨f, hf⟩ : ∃ f, bankF a b r d o h = f := ⟨_, rfl⟩
  obtain ⟨rw', hrw⟩ : ∃ f, mapRow o d r (bankN a b r d) = f := ⟨_, rfl⟩
  obtain ⟨cl', hcl⟩ : ∃ f, mapCol o d r (bankN a b r d) = f := ⟨_, rfl⟩
  rw [hf] at HT ML FR
  rw [hrw, hcl] at ML
  clear hf hrw hcl hln
  have KO := Lib.hid (decide_eq_true ho)
  obtain ⟨m, hm⟩ : ∃ m, lineN a b r d = m := ⟨_, rfl⟩
  have HM := Lib.hid hm
  rw [hm] at hmr hns
  clear hm ht
  have e1 : IntKind.i64.wrap (m - s) = m - s := IntWalk.i64_in _ ⟨by omega, by omega⟩
  obtain ⟨w1, hw1⟩ : ∃ u, (w.alloc (.cells #[.int .i64 a, .int .i64 b, .int .i64 r, .int .i64 d] 25)).alloc (.cells #[.int .i64 o, .bool h] 27) = u := ⟨_, rfl⟩
  have HB1 : Hid (Below w.heap.size w w1) := by subst hw1; exact ((Below.refl _ _).alloc (by simp) _).alloc (by simp) _
  have g1 : w1.heap[w.heap.size]? = some (.cells #[.int .i64 a, .int .i64 b, .int .i64 r, .int .i64 d] 25) := by subst hw1; exact heap_alloc2_old _ _ _
  have m1 : w1.heap[w.heap.size + 1]? = some (.cells #[.int .i64 o, .bool h] 27) := by subst hw1; exact heap_alloc2_new _ _ _
  obtain ⟨cm0, cm1⟩ := cells2 m1
  go_enter Try.func18, Try.ntmps18
  go_wp2_with fail
  refine (implMappingOk_is _ _ _ KO.out _).mono ?_
  rintro e w2 ⟨rfl, hb2⟩
  have g2 := keep_block hb2 g1 (lt_of_block g1)
  have m2 := keep_block hb2 m1 (lt_of_block m1)
  have HB2 : Hid (Below w.heap.size w w2) := HB1.out.trans (hb2.mono HB1.out.size)
  clear hb2 g1 m1 hw1 HB1 cm0 cm1
  obtain ⟨cg0, cg1, cg2, cg3⟩ := cells4 g2
  go_wp2_with fail
  refine (implLine_is _ _ _ _ _ HM.out _).mono ?_
  rintro e w3 ⟨rfl, hb3⟩
  have g3 := keep_block hb3 g2 (lt_of_block g2)
  have m3 := keep_block hb3 m2 (lt_of_block m2)
  have HB3 : Hid (Below w.heap.size w w3) := HB2.out.trans (hb3.mono HB2.out.size)
  clear hb3 g2 m2 HB2 cg0 cg1 cg2 cg3
  have hlg := lt_of_block g3
  have hlm := lt_of_block m3
  have hs3 := HB3.out.size
  go_upto_region 5 with fail
  go_loopw [9, 34] (fun v i wr => ∃ k : Nat, k ≤ N ∧ i = .int .i64 k ∧ OwnI w3.heap.size v (hits f s k) wr ∧ w3.heap.size ≤ wr.heap.size ∧ wr.heap[w.heap.size]? = some (.cells #[.int .i64 a, .int .i64 b, .int .i64 r, .int .i64 d] 25) ∧ wr.heap[w.heap.size + 1]? = some (.cells #[.int .i64 o, .bool h] 27) ∧ Below w.heap.size w wr) (fun _ i _ => N - (intOf i).toNat)
  case atStart => exact ⟨0, Nat.zero_le _, rfl, World.ownsRow_made w3 #[] 0 (Nat.le_refl _) (by decide) rfl, by simp, keep_block ((Below.refl w3.heap.size w3).alloc (Nat.le_refl _) _) g3 hlg, keep_block ((Below.refl w3.heap.size w3).alloc (Nat.le_refl _) _) m3 hlm, HB3.out.alloc hs3 _⟩
  case round =>
    obtain ⟨k, hk, rfl, hown, hsr, hg, hmm, hbr⟩ := hrel
    have HBR := Lib.hid hbr
    clear hbr g3 m3 HB3
    obtain ⟨cg0, cg1, cg2, cg3⟩ := cells4 hg
    obtain ⟨cm0, cm1⟩ := cells2 hmm
    by_cases hlt : k < N
    · have e2 : IntKind.i64.wrap (s + (k : Int)) = s + (k : Int) := IntWalk.i64_in _ ⟨by omega, by omega⟩
      have hML := ML.out k hlt
      obtain ⟨x, hx⟩ : ∃ x, f (s + (k : Int)) = x := ⟨_, rfl⟩
      obtain ⟨y, hy⟩ : ∃ x, rw' (s + (k : Int)) = x := ⟨_, rfl⟩
      obtain ⟨z, hz⟩ : ∃ x, cl' (s + (k : Int)) = x := ⟨_, rfl⟩
      rw [hx, hy, hz] at hML
      have HX := Lib.hid hx
      have HMLx := Lib.hid hML
      have HO := Lib.hid hown
      clear hx hy hz hML hown
      go_wp2_with fail
      refine (HMLx.out _).mono ?_
      rintro e w4 ⟨rfl, hb4⟩
      have g4 := keep_block hb4 hg (lt_of_block hg)
      have m4 := keep_block hb4 hmm (lt_of_block hmm)
      have HB4 : Hid (Below w.heap.size w w4) := HBR.out.trans (hb4.mono HBR.out.size)
      have O4 := Lib.hid (HO.out.below hb4)
      have hs4 : w3.heap.size ≤ w4.heap.size := Nat.le_trans hsr hb4.size
      clear hb4 hg hmm HBR HO cg0 cg1 cg2 cg3 cm0 cm1
      obtain ⟨w5, hw5⟩ : ∃ u, w4.alloc (.cells #[.int .i64 x, .int .i64 y, .int .i64 z] 37) = u := ⟨_, rfl⟩
      have hb5 : Below w4.heap.size w4 w5 := by subst hw5; exact (Below.refl _ _).alloc (Nat.le_refl _) _
      have a5 : w5.heap[w4.heap.size]? = some (.cells #[.int .i64 x, .int .i64 y, .int .i64 z] 37) := by subst hw5; exact heap_alloc_new _ _
      have g5 := keep_block hb5 g4 (lt_of_block g4)
      have m5 := keep_block hb5 m4 (lt_of_block m4)
      have HB5 : Hid (Below w.heap.size w w5) := HB4.out.trans (hb5.mono HB4.out.size)
      have own5 := O4.out.below hb5
      have hs5 : w3.heap.size ≤ w5.heap.size := Nat.le_trans hs4 hb5.size
      obtain ⟨ab, hab⟩ : ∃ u, w4.heap.size = u := ⟨_, rfl⟩
      rw [hab] at a5
      obtain ⟨ca0, ca1, ca2⟩ := cells3 a5
      clear hb5 g4 m4 HB4 O4 a5 ca1 ca2
      have hbs5 := HB5.out.size
      go_wp2_with (at_builtin; refine wpList_append_own _ rfl _ _ 28 rfl w3.heap.size 3 i0 (.int .i64 0) 1 8 Try.underlying28 hi hz0 hz1 hz2 rfl (by decide) _ _ _ rfl (World.ownsRow.alloc own5 _) ⟨w5.heap.size, 0, none⟩ 1 1 [.int .i64 x] rfl rfl (cell_one_new _ _ _) (by intro u hu; simp at hu; subst hu; rfl) (by rw [hits_length]; unfold maxLen; omega) (by rw [hits_length]; omega) (by rw [World.size_alloc]; omega) ?_)
      intro v' w6 hown6 hgrow _
      have R : Hid (OwnI w3.heap.size v' (hits f s (k + 1)) w6) := by
        have := ownI_more hown6
        rw [← HX.out, ← hits_succ] at this
        exact this
      have hrow : ∀ j, Value.ownBlock u9 = some j → w3.heap.size ≤ j := fun j hj => (World.ownsRow.lt own5 j hj).1
      have hb6 : Below w3.heap.size w5 w6 := ((Below.refl w3.heap.size w5).alloc (by omega) _).grown hgrow (by rw [World.size_alloc]; omega) hrow
      have g6 := keep_block hb6 g5 hlg
      have m6 := keep_block hb6 m5 hlm
      have HB6 : Hid (Below w.heap.size w w6) := HB5.out.trans (hb6.mono hs3)
      have hs6 : w3.heap.size ≤ w6.heap.size := Nat.le_trans hs5 hb6.size
      clear hb6 hown6 hgrow own5 hrow g5 m5 HB5 ca0 hw5
      go_wp2_with fail
      go_roundw
      case rel => exact ⟨k + 1, by omega, by go_num, R.out, hs6, g6, m6, HB6.out⟩
      case measure => simp [intOf]; omega
    · obtain rfl : k = N := by omega
      clear cg0 cg1 cg2 cg3 cm0 cm1 hg hmm
      have hlen := hits_length f s k
      obtain ⟨g, cap, rfl, hbg, hgl, hncap, hcm, _, hH⟩ := Lib.holds_of_ownsRow hown (by
        intro he
        rw [he] at hown
        rcases hown.2 with ⟨_, h0⟩ | ⟨_, _, _, h0, _⟩
        · omega
        · cases h0)
      have HO := Lib.hid hown
      have HH := Lib.hid hH
      clear hown hH
      have HS := Lib.hid (Try.slices_Sort_int g 0 cap (hits f s k) wr HH.out hgl (by omega))
      rw [hlen] at HS hncap
      go_wp2_with fail
      refine HS.out.mono ?_
      rintro e w4 ⟨rfl, q, os, hw4⟩
      clear HS
      obtain ⟨ts, hts⟩ : ∃ ts, ((hits f s k).mergeSort fun x y => decide (x ≤ y)) = ts := ⟨_, rfl⟩
      have htl : ts.length = (hits f s k).length := by rw [← hts]; exact List.length_mergeSort _
      rw [hts] at hw4
      have O4 : Hid (OwnI w3.heap.size (.slice (some ⟨g, 0, none⟩) ts.length cap) ts w4) := by
        rcases HO.out.2 with ⟨h0, _⟩ | ⟨g', cap', cur, hv, hbase, hb, h1, h2, h3, h4⟩
        · cases h0
        cases hv
        have := ownsRow_sortedI (n := q) (os := os) (ts := ts) htl hbase hb h1 h2 h3
        show World.ownsRow _ _ _ _ _ _ _
        rw [hw4, htl]
        exact this
      have hgr : wr.grownBy w4 (some g) := by rw [hw4]; exact grownBy_sortedI _
      have HB4 : Hid (Below w.heap.size w w4) := HBR.out.grown hgr HBR.out.size (fun j hj => by cases hj; omega)
      have hlt4 : g < w4.heap.size := Nat.lt_of_lt_of_le hgl hgr.size
      have H4 : Hid (Holds (Value.int .i64) w4 g 0 ts.toArray) := by
        show Holds _ _ _ _ _
        rw [hw4]
        refine holds_grow _ _ os g 0 _ (by simpa [putRow, mapBlock, Sort.ahead] using hgl) (holds_putRow _ _ g 0 _ _ (holds_ahead _ wr q g 0 _ HH.out) (by simp [htl]))
      clear hw4 hgr HBR HO HH
      rw [hlen] at htl
      have HC := Lib.hid (Try.slices_Compact_int g 0 cap ts w4 H4.out (by omega) (by omega))
      rw [htl] at HC
      go_wp2_with fail
      refine HC.out.mono ?_
      rintro e w5 ⟨rfl, q2, hw5⟩
      clear HC
      rw [← htl] at hw5
      have hcl2 := Lib.compact_length_le ts
      have O5 : OwnI w3.heap.size (.slice (some ⟨g, 0, none⟩) (Lib.compact ts).length cap) (Lib.compact ts) w5 := by
        have := Lib.ownsRow_putRow (enc := Value.int .i64) (q := q2) (k := (Lib.compact ts).length) (ys := Lib.compact ts ++ List.replicate (ts.length - (Lib.compact ts).length) 0) O4.out (by simp; omega) hcl2
        rw [List.take_left] at this
        rw [hw5]
        exact this
      have hb5 : Below w.heap.size w w5 := by rw [hw5]; exact Lib.below_putRow HB4.out (by omega)
      have hcomp : Lib.compact ts = touchF a b r d o h s k := by rw [HT.out, ← hts]; exact compact_mergeSort _ _ FR.out
      clear hw5 O4 HB4 H4
      rw [hcomp] at O5
      go_wp2_with fail
      go_ret
      exact ⟨_, _, rfl, O5.mono hs3, hb5⟩

set_option maxHeartbeats 4000000 in
set_option maxRecDepth 100000 in
theorem implBanks_is (a b r d o : Int) (h : Bool) (s n : Int) (hs : s ≤ 9223372036854775807) (w : World) :
    Calls Try.prog 18 #[.agg #[.int .i64 a, .int .i64 b, .int .i64 r, .int .i64 d], .agg #[.int .i64 o, .bool h], .int .i64 s, .int .i64 n] w (GivesI (touchF a b r d o h s n) w) := by
  by_cases ht : TouchOk a b r d o s n
  · exact implBanks_ok a b r d o h s n ht w
  have hE : touchF a b r d o h s n = [] := if_neg ht
  rw [hE]
  clear hE
  obtain ⟨w1, hw1⟩ : ∃ u, (w.alloc (.cells #[.int .i64 a, .int .i64 b, .int .i64 r, .int .i64 d] 25)).alloc (.cells #[.int .i64 o, .bool h] 27) = u := ⟨_, rfl⟩
  have HB1 : Hid (Below w.heap.size w w1) := by subst hw1; exact ((Below.refl _ _).alloc (by simp) _).alloc (by simp) _
  have g1 : w1.heap[w.heap.size]? = some (.cells #[.int .i64 a, .int .i64 b, .int .i64 r, .int .i64 d] 25) := by subst hw1; exact heap_alloc2_old _ _ _
  have m1 : w1.heap[w.heap.size + 1]? = some (.cells #[.int .i64 o, .bool h] 27) := by subst hw1; exact heap_alloc2_new _ _ _
  obtain ⟨cm0, cm1⟩ := cells2 m1
  obtain ⟨v, hv⟩ : ∃ v, decide (0 ≤ o ∧ o ≤ 2) = v := ⟨_, rfl⟩
  have KO := Lib.hid hv
  have cont : v = false ∨ (v = true ∧ n < 1) ∨ (v = true ∧ 1 ≤ n ∧ s < 0) ∨ (v = true ∧ 1 ≤ n ∧ 0 ≤ s ∧ lineN a b r d - s < n) := by
    cases v
    · exact .inl rfl
    · have ho : 0 ≤ o ∧ o ≤ 2 := of_decide_eq_true hv
      refine .inr ?_
      by_cases h1 : n < 1
      · exact .inl ⟨rfl, h1⟩
      · by_cases h2 : s < 0
        · exact .inr (.inl ⟨rfl, by omega, h2⟩)
        · refine .inr (.inr ⟨rfl, by omega, by omega, ?_⟩)
          refine Int.not_le.1 fun hle => ht ⟨ho, by omega, by omega, by omega⟩
  clear hv ht
  rcases cont with rfl | ⟨rfl, h1⟩ | ⟨rfl, h1, h2⟩ | ⟨rfl, h1, h2, h3⟩
  · go_enter Try.func18, Try.ntmps18
    go_wp2_with fail
    refine (implMappingOk_is _ _ _ KO.out _).mono ?_
    rintro e w2 ⟨rfl, hb2⟩
    have HB2 : Hid (Below w.heap.size w w2) := HB1.out.trans (hb2.mono HB1.out.size)
    clear hb2 g1 m1 hw1 HB1 cm0 cm1
    go_wp2
    go_ret
    exact givesI_nil HB2.out
  · go_enter Try.func18, Try.ntmps18
    go_wp2_with fail
    refine (implMappingOk_is _ _ _ KO.out _).mono ?_
    rintro e w2 ⟨rfl, hb2⟩
    have HB2 : Hid (Below w.heap.size w w2) := HB1.out.trans (hb2.mono HB1.out.size)
    clear hb2 g1 m1 hw1 HB1 cm0 cm1
    go_wp2
    go_ret
    exact givesI_nil HB2.out
  · go_enter Try.func18, Try.ntmps18
    go_wp2_with fail
    refine (implMappingOk_is _ _ _ KO.out _).mono ?_
    rintro e w2 ⟨rfl, hb2⟩
    have HB2 : Hid (Below w.heap.size w w2) := HB1.out.trans (hb2.mono HB1.out.size)
    clear hb2 g1 m1 hw1 HB1 cm0 cm1
    go_wp2
    go_ret
    exact givesI_nil HB2.out
  · have hmr := lineN_range a b r d
    obtain ⟨m, hm⟩ : ∃ m, lineN a b r d = m := ⟨_, rfl⟩
    have HM := Lib.hid hm
    rw [hm] at h3 hmr
    clear hm
    have e1 : IntKind.i64.wrap (m - s) = m - s := IntWalk.i64_in _ ⟨by omega, by omega⟩
    go_enter Try.func18, Try.ntmps18
    go_wp2_with fail
    refine (implMappingOk_is _ _ _ KO.out _).mono ?_
    rintro e w2 ⟨rfl, hb2⟩
    have g2 := keep_block hb2 g1 (lt_of_block g1)
    have HB2 : Hid (Below w.heap.size w w2) := HB1.out.trans (hb2.mono HB1.out.size)
    clear hb2 g1 m1 hw1 HB1 cm0 cm1
    obtain ⟨cg0, cg1, cg2, cg3⟩ := cells4 g2
    go_wp2_with fail
    refine (implLine_is _ _ _ _ _ HM.out _).mono ?_
    rintro e w3 ⟨rfl, hb3⟩
    have HB3 : Hid (Below w.heap.size w w3) := HB2.out.trans (hb3.mono HB2.out.size)
    clear hb3 g2 HB2 cg0 cg1 cg2 cg3
    go_wp2
    go_ret
    exact givesI_nil HB3.out

end Go.Proofs.Ytdgaggcjimafbaa
