/-
  The model's banks of a run of lines: of all banks those that some line of the run has.
-/
import Derived.Test.YtdgaggcjimafbaaMapW
import Derived.Test.YtdgaggcjimafbaaMapM
import Derived.Test.YtdgaggcjimafbaaImplBanks
namespace Go.Proofs.Ytdgaggcjimafbaa
open Go.RowKit

set_option linter.unusedVariables false

theorem givesI_empty {w w' : World} {g : Nat} {e : TypeId} (he : e = 3) (hg : w.heap.size ≤ g) (h1 : w'.heap[g]? = some (.cells #[] e (0, 0))) (hb : Below w.heap.size w w') : GivesI [] w (.returned (.slice (some ⟨g, 0, none⟩) 0 0)) w' := by
  subst he
  exact ⟨_, _, rfl, ⟨rfl, .inr ⟨g, 0, #[], rfl, hg, h1, Nat.le_refl _, Nat.zero_le _, rfl, rfl⟩⟩, hb⟩

set_option maxHeartbeats 4000000 in
set_option maxRecDepth 100000 in
theorem specBanks_ok (a b r d o : Int) (h : Bool) (s n : Int) (ht : TouchOk a b r d o s n) (w : World) :
    Calls Try.prog 26 #[.agg #[.int .i64 a, .int .i64 b, .int .i64 r, .int .i64 d], .agg #[.int .i64 o, .bool h], .int .i64 s, .int .i64 n] w (GivesI (touchF a b r d o h s n) w) := by
  obtain ⟨ho, hn1, hs0, hns⟩ := id ht
  obtain ⟨N, rfl⟩ := Int.eq_ofNat_of_zero_le (show 0 ≤ n by omega)
  obtain ⟨i0, hi, hz0, hz1, hz2⟩ := info_parts infoI
  have hmr := lineN_range a b r d
  have hbr := bankN_range a b r d
  have hln : ∀ k : Nat, k < N → LnOk a b r d (s + k) := fun k hk => ⟨by omega, by omega⟩
  have HT : Hid (touchF a b r d o h s N = touchL (bankN a b r d).toNat (hits (bankF a b r d o h) s N)) := by
    show _ = _
    unfold touchF
    rw [if_pos ht]
    rfl
  have ML : Hid (∀ k : Nat, k < N → ∀ w, Calls Try.prog 21 #[.agg #[.int .i64 a, .int .i64 b, .int .i64 r, .int .i64 d], .agg #[.int .i64 o, .bool h], .int .i64 (s + k)] w (Gives (.tuple #[.agg #[.int .i64 (bankF a b r d o h (s + k)), .int .i64 (mapRow o d r (bankN a b r d) (s + k)), .int .i64 (mapCol o d r (bankN a b r d) (s + k))], .bool true]) w)) := by
    intro k hk w
    have := specMapLine_is a b r d o h (s + k) w
    rwa [mapF_ok ho (hln k hk)] at this
  obtain ⟨f, hf⟩ : ∃ f, bankF a b r d o h = f := ⟨_, rfl⟩
  obtain ⟨rw', hrw⟩ : ∃ f, mapRow o d r (bankN a b r d) = f := ⟨_, rfl⟩
  obtain ⟨cl', hcl⟩ : ∃ f, mapCol o d r (bankN a b r d) = f := ⟨_, rfl⟩
  rw [hf] at HT ML
  rw [hrw, hcl] at ML
  clear hf hrw hcl hln
  obtain ⟨ls, hls⟩ : ∃ ls, hits f s N = ls := ⟨_, rfl⟩
  rw [hls] at HT
  have HLS := Lib.hid hls
  clear hls
  have KO := Lib.hid (decide_eq_true ho)
  obtain ⟨m, hm⟩ : ∃ m, lineN a b r d = m := ⟨_, rfl⟩
  have HM := Lib.hid hm
  rw [hm] at hmr hns
  clear hm ht
  obtain ⟨bn, hbn⟩ : ∃ bn, bankN a b r d = bn := ⟨_, rfl⟩
  have HBN := Lib.hid hbn
  rw [hbn] at HT hbr
  clear hbn
  obtain ⟨B, rfl⟩ := Int.eq_ofNat_of_zero_le hbr.1
  rw [Int.toNat_natCast] at HT
  have e1 : IntKind.i64.wrap (m - (N : Int)) = m - (N : Int) := IntWalk.i64_in _ ⟨by omega, by omega⟩
  have KL := Lib.hid (decide_eq_true (show 0 ≤ s ∧ s ≤ m - (N : Int) by omega))
  obtain ⟨w0, hw0⟩ : ∃ u, (w.alloc (.cells #[.int .i64 a, .int .i64 b, .int .i64 r, .int .i64 d] 25)).alloc (.cells #[.int .i64 o, .bool h] 27) = u := ⟨_, rfl⟩
  have HS0 : Hid (w.heap.size ≤ w0.heap.size) := by subst hw0; show _ ≤ _; simp; omega
  have HB0 : Hid (Below w.heap.size w w0) := by subst hw0; exact ((Below.refl _ _).alloc (by simp) _).alloc (by simp) _
  have g0 : w0.heap[w.heap.size]? = some (.cells #[.int .i64 a, .int .i64 b, .int .i64 r, .int .i64 d] 25) := by subst hw0; exact heap_alloc2_old _ _ _
  have m0 : w0.heap[w.heap.size + 1]? = some (.cells #[.int .i64 o, .bool h] 27) := by subst hw0; exact heap_alloc2_new _ _ _
  have hlg := lt_of_block g0
  have hlm := lt_of_block m0
  obtain ⟨w1, hw1⟩ : ∃ u, w0.alloc (.cells #[] 3) = u := ⟨_, rfl⟩
  have hb1 : Below w0.heap.size w0 w1 := by subst hw1; exact (Below.refl _ _).alloc (Nat.le_refl _) _
  have O1 : Hid (OwnI w0.heap.size (.slice (some ⟨w0.heap.size, 0, none⟩) 0 0) [] w1) := by
    show World.ownsRow _ _ _ _ _ _ _
    rw [← hw1]
    exact World.ownsRow_made w0 #[] 0 (Nat.le_refl _) (by decide) rfl
  have g1 := keep_block hb1 g0 (lt_of_block g0)
  have m1 := keep_block hb1 m0 (lt_of_block m0)
  have HB1 : Hid (Below w.heap.size w w1) := HB0.out.trans (hb1.mono HB0.out.size)
  have hs1 : w0.heap.size ≤ w1.heap.size := hb1.size
  clear hb1 g0 m0 HB0
  obtain ⟨cm0, cm1⟩ := cells2 m1
  go_enter Try.func26, Try.ntmps26
  go_wp2_with fail
  refine (specMappingOk_is _ _ _ KO.out _).mono ?_
  rintro e w2 ⟨rfl, hb2⟩
  have g2 := keep_block hb2 g1 (lt_of_block g1)
  have m2 := keep_block hb2 m1 (lt_of_block m1)
  have HB2 : Hid (Below w.heap.size w w2) := HB1.out.trans (hb2.mono HB1.out.size)
  have O2 := Lib.hid (O1.out.below hb2)
  have hs2 := Nat.le_trans hs1 hb2.size
  clear hb2 g1 m1 hw1 hw0 HB1 O1 cm0 cm1
  obtain ⟨cg0, cg1, cg2, cg3⟩ := cells4 g2
  go_wp2_with fail
  refine (specLine_is _ _ _ _ _ HM.out _).mono ?_
  rintro e w3 ⟨rfl, hb3⟩
  have g3 := keep_block hb3 g2 (lt_of_block g2)
  have m3 := keep_block hb3 m2 (lt_of_block m2)
  have HB3 : Hid (Below w.heap.size w w3) := HB2.out.trans (hb3.mono HB2.out.size)
  have O3 := Lib.hid (O2.out.below hb3)
  have hs3 := Nat.le_trans hs2 hb3.size
  clear hb3 g2 m2 HB2 O2 cg0 cg1 cg2 cg3
  obtain ⟨cg0, cg1, cg2, cg3⟩ := cells4 g3
  go_wp2_with fail
  refine (specLine_is _ _ _ _ _ HM.out _).mono ?_
  rintro e w4 ⟨rfl, hb4⟩
  have g4 := keep_block hb4 g3 (lt_of_block g3)
  have m4 := keep_block hb4 m3 (lt_of_block m3)
  have HB4 : Hid (Below w.heap.size w w4) := HB3.out.trans (hb4.mono HB3.out.size)
  have O4 := Lib.hid (O3.out.below hb4)
  have hs4 := Nat.le_trans hs3 hb4.size
  clear hb4 g3 m3 HB3 O3 cg0 cg1 cg2 cg3
  go_wp2_with fail
  refine (specIn_is _ _ _ _ KL.out _).mono ?_
  rintro e w' ⟨rfl, rfl⟩
  go_upto_region 5 with fail
  go_loopw [9, 10] (fun v i wr => ∃ k : Nat, k ≤ B ∧ i = .int .i64 k ∧ OwnI w0.heap.size v (touchL k ls) wr ∧ w0.heap.size ≤ wr.heap.size ∧ wr.heap[w.heap.size]? = some (.cells #[.int .i64 a, .int .i64 b, .int .i64 r, .int .i64 d] 25) ∧ wr.heap[w.heap.size + 1]? = some (.cells #[.int .i64 o, .bool h] 27) ∧ Below w.heap.size w wr) (fun _ i _ => B - (intOf i).toNat)
  case atStart => exact ⟨0, Nat.zero_le _, rfl, O4.out, hs4, g4, m4, HB4.out⟩
  case round =>
    obtain ⟨k, hk, rfl, hown, hsr, hg, hmm, hbel⟩ := hrel
    have HBR := Lib.hid hbel
    have HO := Lib.hid hown
    clear hbel hown g4 m4 HB4 O4
    obtain ⟨cg0, cg1, cg2, cg3⟩ := cells4 hg
    have hkb : (k : Int) < 9 := by omega
    by_cases hlt : k < B
    · go_wp2_with fail
      refine (specBank_is _ _ _ _ _ HBN.out _).mono ?_
      rintro e w5 ⟨rfl, hb5⟩
      have g5 := keep_block hb5 hg (lt_of_block hg)
      have m5 := keep_block hb5 hmm (lt_of_block hmm)
      have HB5 : Hid (Below w.heap.size w w5) := HBR.out.trans (hb5.mono HBR.out.size)
      have O5 := Lib.hid (HO.out.below hb5)
      have hs5 := Nat.le_trans hsr hb5.size
      clear hb5 hg hmm HBR HO cg0 cg1 cg2 cg3
      go_upto_region 9 with fail
      go_loopw [11, 12] (fun q i wr => ∃ j : Nat, j ≤ N ∧ i = .int .i64 j ∧ q = .bool (decide ((k : Int) ∈ hits f s j)) ∧ OwnI w0.heap.size u9 (touchL k ls) wr ∧ w0.heap.size ≤ wr.heap.size ∧ wr.heap[w.heap.size]? = some (.cells #[.int .i64 a, .int .i64 b, .int .i64 r, .int .i64 d] 25) ∧ wr.heap[w.heap.size + 1]? = some (.cells #[.int .i64 o, .bool h] 27) ∧ Below w.heap.size w wr) (fun _ i _ => N - (intOf i).toNat)
      case atStart => exact ⟨0, Nat.zero_le _, rfl, by simp [hits], O5.out, hs5, g5, m5, HB5.out⟩
      case round =>
        obtain ⟨j, hj, rfl, rfl, hown, hsr, hg, hmm, hbel⟩ := hrel
        have HBR := Lib.hid hbel
        have HO := Lib.hid hown
        clear hbel hown g5 m5 HB5 O5
        obtain ⟨q, hq⟩ : ∃ q, decide ((k : Int) ∈ hits f s j) = q := ⟨_, rfl⟩
        rw [hq]
        by_cases hltj : j < N
        · obtain ⟨cg0, cg1, cg2, cg3⟩ := cells4 hg
          obtain ⟨cm0, cm1⟩ := cells2 hmm
          have e2 : IntKind.i64.wrap (s + (j : Int)) = s + (j : Int) := IntWalk.i64_in _ ⟨by omega, by omega⟩
          have hML := ML.out j hltj
          obtain ⟨x, hx⟩ : ∃ x, f (s + (j : Int)) = x := ⟨_, rfl⟩
          obtain ⟨y, hy⟩ : ∃ x, rw' (s + (j : Int)) = x := ⟨_, rfl⟩
          obtain ⟨z, hz⟩ : ∃ x, cl' (s + (j : Int)) = x := ⟨_, rfl⟩
          rw [hx, hy, hz] at hML
          have HQ : Hid (∀ t : Bool, (q || decide (x = (k : Int))) = t → Value.bool t = Value.bool (decide ((k : Int) ∈ hits f s (j + 1)))) := by
            intro t ht
            congr 1
            rw [← ht, ← hq, hits_succ, hx, Bool.eq_iff_iff]
            simp only [Bool.or_eq_true, decide_eq_true_eq, List.mem_append, List.mem_singleton]
            exact ⟨fun h => h.elim .inl (fun h => .inr h.symm), fun h => h.elim .inl (fun h => .inr h.symm)⟩
          have HMLx := Lib.hid hML
          clear hx hy hz hML hq
          go_wp2_with fail
          refine (HMLx.out _).mono ?_
          rintro e w6 ⟨rfl, hb6⟩
          have g6 := keep_block hb6 hg (lt_of_block hg)
          have m6 := keep_block hb6 hmm (lt_of_block hmm)
          have HB6 : Hid (Below w.heap.size w w6) := HBR.out.trans (hb6.mono HBR.out.size)
          have O6 := Lib.hid (HO.out.below hb6)
          have hs6 := Nat.le_trans hsr hb6.size
          clear hb6 hg hmm HBR HO cg0 cg1 cg2 cg3 cm0 cm1
          obtain ⟨w7, hw7⟩ : ∃ u, w6.alloc (.cells #[.int .i64 x, .int .i64 y, .int .i64 z] 37) = u := ⟨_, rfl⟩
          have hb7 : Below w6.heap.size w6 w7 := by subst hw7; exact (Below.refl _ _).alloc (Nat.le_refl _) _
          have a7 : w7.heap[w6.heap.size]? = some (.cells #[.int .i64 x, .int .i64 y, .int .i64 z] 37) := by subst hw7; exact heap_alloc_new _ _
          have g7 := keep_block hb7 g6 (lt_of_block g6)
          have m7 := keep_block hb7 m6 (lt_of_block m6)
          have HB7 : Hid (Below w.heap.size w w7) := HB6.out.trans (hb7.mono HB6.out.size)
          have O7 := Lib.hid (O6.out.below hb7)
          have hs7 := Nat.le_trans hs6 hb7.size
          obtain ⟨ab, hab⟩ : ∃ u, w6.heap.size = u := ⟨_, rfl⟩
          rw [hab] at a7
          obtain ⟨ca0, ca1, ca2⟩ := cells3 a7
          clear hb7 g6 m6 HB6 O6 a7 ca1 ca2
          cases q
          · by_cases hxk : x = (k : Int)
            · have HT2 := Lib.hid (HQ.out true (by rw [decide_eq_true hxk]; rfl))
              clear HQ
              subst hxk
              have txk : ((k : Int) == (k : Int)) = true := by simp
              go_wp2_with fail
              go_roundw
              case rel => exact ⟨j + 1, by omega, by go_num, HT2.out, O7.out, hs7, g7, m7, HB7.out⟩
              case measure => simp [intOf]; omega
            · have HT2 := Lib.hid (HQ.out false (by rw [decide_eq_false hxk]; rfl))
              have txk : (x == (k : Int)) = false := by simpa using hxk
              clear HQ
              go_wp2_with fail
              go_roundw
              case rel => exact ⟨j + 1, by omega, by go_num, HT2.out, O7.out, hs7, g7, m7, HB7.out⟩
              case measure => simp [intOf]; omega
          · have HT2 := Lib.hid (HQ.out true rfl)
            clear HQ
            go_wp2_with fail
            go_roundw
            case rel => exact ⟨j + 1, by omega, by go_num, HT2.out, O7.out, hs7, g7, m7, HB7.out⟩
            case measure => simp [intOf]; omega
        · obtain rfl : j = N := by omega
          rw [HLS.out] at hq
          cases q
          · have hR : touchL (k + 1) ls = touchL k ls := by rw [touchL_succ, if_neg (of_decide_eq_false hq), List.append_nil]
            have HR := Lib.hid hR
            clear hR hq
            go_wp2_with fail
            go_roundw
            case rel => exact ⟨k + 1, by omega, by go_num, by rw [HR.out]; exact HO.out, hsr, hg, hmm, HBR.out⟩
            case measure => simp [intOf]; omega
          · have hR : touchL (k + 1) ls = touchL k ls ++ [(k : Int)] := by rw [touchL_succ, if_pos (of_decide_eq_true hq)]
            have HR := Lib.hid hR
            have hll := touchL_length_le k ls
            have own7 := HO.out
            have hbs := HBR.out.size
            clear hR hq HO
            go_wp2_with (at_builtin; refine wpList_append_own _ rfl _ _ 28 rfl w0.heap.size 3 i0 (.int .i64 0) 1 8 Try.underlying28 hi hz0 hz1 hz2 rfl (by decide) _ _ _ rfl (World.ownsRow.alloc own7 _) ⟨wr.heap.size, 0, none⟩ 1 1 [.int .i64 (k : Int)] rfl rfl (cell_one_new _ _ _) (by intro u hu; simp at hu; subst hu; rfl) (by unfold maxLen; omega) (by omega) (by rw [World.size_alloc]; omega) ?_)
            intro v' w8 hown8 hgrow _
            have R : Hid (OwnI w0.heap.size v' (touchL (k + 1) ls) w8) := by
              have := ownI_more hown8
              rw [← HR.out] at this
              exact this
            have hrow : ∀ j, Value.ownBlock u9 = some j → w0.heap.size ≤ j := fun j hj => (World.ownsRow.lt own7 j hj).1
            have hb8 : Below w0.heap.size wr w8 := ((Below.refl w0.heap.size wr).alloc (by omega) _).grown hgrow (by rw [World.size_alloc]; omega) hrow
            have g8 := keep_block hb8 hg hlg
            have m8 := keep_block hb8 hmm hlm
            have HB8 : Hid (Below w.heap.size w w8) := HBR.out.trans (hb8.mono HS0.out)
            have hs8 := Nat.le_trans hsr hb8.size
            clear hb8 hown8 hgrow own7 hrow hg hmm HBR
            go_wp2_with fail
            go_roundw
            case rel => exact ⟨k + 1, by omega, by go_num, R.out, hs8, g8, m8, HB8.out⟩
            case measure => simp [intOf]; omega
    · obtain rfl : k = B := by omega
      go_wp2_with fail
      refine (specBank_is _ _ _ _ _ HBN.out _).mono ?_
      rintro e w5 ⟨rfl, hb5⟩
      have HB5 : Hid (Below w.heap.size w w5) := HBR.out.trans (hb5.mono HBR.out.size)
      have O5 := Lib.hid (HO.out.below hb5)
      clear hb5 hg hmm HBR HO cg0 cg1 cg2 cg3
      go_wp2_with fail
      go_ret
      have hO := O5.out
      rw [← HT.out] at hO
      obtain ⟨aa, cc, rfl⟩ := hO.shape
      exact ⟨_, _, rfl, hO.mono HS0.out, HB5.out⟩

set_option maxHeartbeats 4000000 in
set_option maxRecDepth 100000 in
theorem specBanks_is (a b r d o : Int) (h : Bool) (s n : Int) (w : World) :
    Calls Try.prog 26 #[.agg #[.int .i64 a, .int .i64 b, .int .i64 r, .int .i64 d], .agg #[.int .i64 o, .bool h], .int .i64 s, .int .i64 n] w (GivesI (touchF a b r d o h s n) w) := by
  by_cases ht : TouchOk a b r d o s n
  · exact specBanks_ok a b r d o h s n ht w
  have hE : touchF a b r d o h s n = [] := if_neg ht
  rw [hE]
  clear hE
  obtain ⟨w0, hw0⟩ : ∃ u, (w.alloc (.cells #[.int .i64 a, .int .i64 b, .int .i64 r, .int .i64 d] 25)).alloc (.cells #[.int .i64 o, .bool h] 27) = u := ⟨_, rfl⟩
  have HS0 : Hid (w.heap.size ≤ w0.heap.size) := by subst hw0; show _ ≤ _; simp; omega
  have HB0 : Hid (Below w.heap.size w w0) := by subst hw0; exact ((Below.refl _ _).alloc (by simp) _).alloc (by simp) _
  have g0 : w0.heap[w.heap.size]? = some (.cells #[.int .i64 a, .int .i64 b, .int .i64 r, .int .i64 d] 25) := by subst hw0; exact heap_alloc2_old _ _ _
  have m0 : w0.heap[w.heap.size + 1]? = some (.cells #[.int .i64 o, .bool h] 27) := by subst hw0; exact heap_alloc2_new _ _ _
  obtain ⟨w1, hw1⟩ : ∃ u, w0.alloc (.cells #[] 3) = u := ⟨_, rfl⟩
  have hb1 : Below w0.heap.size w0 w1 := by subst hw1; exact (Below.refl _ _).alloc (Nat.le_refl _) _
  have n1 : w1.heap[w0.heap.size]? = some (.cells #[] 3) := by subst hw1; exact heap_alloc_new _ _
  have g1 := keep_block hb1 g0 (lt_of_block g0)
  have m1 := keep_block hb1 m0 (lt_of_block m0)
  have HB1 : Hid (Below w.heap.size w w1) := HB0.out.trans (hb1.mono HB0.out.size)
  clear hb1 g0 m0 HB0
  obtain ⟨cm0, cm1⟩ := cells2 m1
  have hmr := lineN_range a b r d
  obtain ⟨m, hm⟩ : ∃ m, lineN a b r d = m := ⟨_, rfl⟩
  have HM := Lib.hid hm
  rw [hm] at hmr
  obtain ⟨v, hv⟩ : ∃ v, decide (0 ≤ o ∧ o ≤ 2) = v := ⟨_, rfl⟩
  have KO := Lib.hid hv
  have cont : v = false ∨ (v = true ∧ n < 1) ∨ (v = true ∧ 1 ≤ n ∧ m < n) ∨ (v = true ∧ 1 ≤ n ∧ n ≤ m ∧ ¬ (0 ≤ s ∧ s ≤ m - n)) := by
    cases v
    · exact .inl rfl
    · have ho : 0 ≤ o ∧ o ≤ 2 := of_decide_eq_true hv
      refine .inr ?_
      by_cases h1 : n < 1
      · exact .inl ⟨rfl, h1⟩
      · by_cases h2 : m < n
        · exact .inr (.inl ⟨rfl, by omega, h2⟩)
        · exact .inr (.inr ⟨rfl, by omega, by omega, fun hle => ht ⟨ho, by omega, by omega, by omega⟩⟩)
  clear hv ht hm
  rcases cont with rfl | ⟨rfl, h1⟩ | ⟨rfl, h1, h2⟩ | ⟨rfl, h1, h2, h3⟩
  · go_enter Try.func26, Try.ntmps26
    go_wp2_with fail
    refine (specMappingOk_is _ _ _ KO.out _).mono ?_
    rintro e w2 ⟨rfl, hb2⟩
    have n2 := keep_block hb2 n1 (lt_of_block n1)
    have g2 := keep_block hb2 g1 (lt_of_block g1)
    have HB2 : Hid (Below w.heap.size w w2) := HB1.out.trans (hb2.mono HB1.out.size)
    clear hb2 n1 g1 m1 hw0 HB1 cm0 cm1 hw1
    go_upto_region 5 with fail
    go_ret
    exact givesI_empty rfl HS0.out n2 HB2.out
  · go_enter Try.func26, Try.ntmps26
    go_wp2_with fail
    refine (specMappingOk_is _ _ _ KO.out _).mono ?_
    rintro e w2 ⟨rfl, hb2⟩
    have n2 := keep_block hb2 n1 (lt_of_block n1)
    have g2 := keep_block hb2 g1 (lt_of_block g1)
    have HB2 : Hid (Below w.heap.size w w2) := HB1.out.trans (hb2.mono HB1.out.size)
    clear hb2 n1 g1 m1 hw0 HB1 cm0 cm1 hw1
    go_upto_region 5 with fail
    go_ret
    exact givesI_empty rfl HS0.out n2 HB2.out
  · go_enter Try.func26, Try.ntmps26
    go_wp2_with fail
    refine (specMappingOk_is _ _ _ KO.out _).mono ?_
    rintro e w2 ⟨rfl, hb2⟩
    have n2 := keep_block hb2 n1 (lt_of_block n1)
    have g2 := keep_block hb2 g1 (lt_of_block g1)
    have HB2 : Hid (Below w.heap.size w w2) := HB1.out.trans (hb2.mono HB1.out.size)
    clear hb2 n1 g1 m1 hw0 HB1 cm0 cm1 hw1
    obtain ⟨cg0, cg1, cg2, cg3⟩ := cells4 g2
    go_wp2_with fail
    refine (specLine_is _ _ _ _ _ HM.out _).mono ?_
    rintro e w3 ⟨rfl, hb3⟩
    have n3 := keep_block hb3 n2 (lt_of_block n2)
    have g3 := keep_block hb3 g2 (lt_of_block g2)
    have HB3 : Hid (Below w.heap.size w w3) := HB2.out.trans (hb3.mono HB2.out.size)
    clear hb3 n2 g2 HB2 cg0 cg1 cg2 cg3
    go_upto_region 5 with fail
    go_ret
    exact givesI_empty rfl HS0.out n3 HB3.out
  · have KL := Lib.hid (decide_eq_false h3)
    have e1 : IntKind.i64.wrap (m - n) = m - n := IntWalk.i64_in _ ⟨by omega, by omega⟩
    clear h3
    go_enter Try.func26, Try.ntmps26
    go_wp2_with fail
    refine (specMappingOk_is _ _ _ KO.out _).mono ?_
    rintro e w2 ⟨rfl, hb2⟩
    have n2 := keep_block hb2 n1 (lt_of_block n1)
    have g2 := keep_block hb2 g1 (lt_of_block g1)
    have HB2 : Hid (Below w.heap.size w w2) := HB1.out.trans (hb2.mono HB1.out.size)
    clear hb2 n1 g1 m1 hw0 HB1 cm0 cm1 hw1
    obtain ⟨cg0, cg1, cg2, cg3⟩ := cells4 g2
    go_wp2_with fail
    refine (specLine_is _ _ _ _ _ HM.out _).mono ?_
    rintro e w3 ⟨rfl, hb3⟩
    have n3 := keep_block hb3 n2 (lt_of_block n2)
    have g3 := keep_block hb3 g2 (lt_of_block g2)
    have HB3 : Hid (Below w.heap.size w w3) := HB2.out.trans (hb3.mono HB2.out.size)
    clear hb3 n2 g2 HB2 cg0 cg1 cg2 cg3
    obtain ⟨cg0, cg1, cg2, cg3⟩ := cells4 g3
    go_wp2_with fail
    refine (specLine_is _ _ _ _ _ HM.out _).mono ?_
    rintro e w4 ⟨rfl, hb4⟩
    have n4 := keep_block hb4 n3 (lt_of_block n3)
    have g4 := keep_block hb4 g3 (lt_of_block g3)
    have HB4 : Hid (Below w.heap.size w w4) := HB3.out.trans (hb4.mono HB3.out.size)
    clear hb4 n3 g3 HB3 cg0 cg1 cg2 cg3
    go_wp2_with fail
    refine (specIn_is _ _ _ _ KL.out _).mono ?_
    rintro e w' ⟨rfl, rfl⟩
    go_upto_region 5 with fail
    go_ret
    exact givesI_empty rfl HS0.out n4 HB4.out

end Go.Proofs.Ytdgaggcjimafbaa
