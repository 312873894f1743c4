/-
  The walks of the exact statements over ranks, out of the contracts.
-/
import Derived.Test.YtigoniochamjgaaBnkI
import Derived.Test.YtigoniochamjgaaFloat
import Derived.Test.YtigoniochamjgaaIntsT
namespace Go.Proofs.Ytigoniochamjgaa
open Go.RowKit

set_option linter.unusedVariables false

/-- What comes in as a rank shows a row of banks. -/
theorem rank_in {w : World} {l : List Value} (h : Sh.Fits w (.and (.row (.and .flag (.and (.num .i64) .fin))) (.and (.num .i64) .fin)) l) : ∃ ad n cap zs pw, l = [.slice ad n cap, .int .i64 pw] ∧ zs.length = n ∧ RowB w ad zs ∧ n ≤ maxLen := by
  obtain ⟨c1, c2, rfl, h1, h2⟩ := h
  obtain ⟨c3, c4, rfl, ⟨pw, rfl, _⟩, h4⟩ := h2
  obtain rfl : c4 = [] := h4
  rcases h1 with rfl | ⟨a, len, cap, rfl, hl, hm, hc⟩
  · exact ⟨none, 0, 0, [], pw, rfl, rfl, .inl rfl, Nat.zero_le _⟩
  · have key : ∀ k, k ≤ len → ∃ zs : List Bk, zs.length = k ∧ (∀ i, i < k → w.cell? (a.add (i * 2)) = some (.bool (zs.getD i bk0).op) ∧ w.cell? (a.add (i * 2 + 1)) = some (.int .i64 (zs.getD i bk0).row)) := by
      intro k
      induction k with
      | zero => intro _; exact ⟨[], rfl, fun i h => absurd h (Nat.not_lt_zero _)⟩
      | succ k ih =>
        intro hk
        obtain ⟨zs, h1, h2⟩ := ih (by omega)
        obtain ⟨cs', hl', hc', d1, d2, rfl, ⟨b, rfl⟩, d3, d4, rfl, ⟨z, rfl, _⟩, h5⟩ := hc k (by omega)
        obtain rfl : d4 = [] := h5
        have hc0 := hc' 0 (by decide)
        have hc1 := hc' 1 (by decide)
        have e0 : k * (Sh.and .flag (.and (.num .i64) .fin)).size + 0 = k * 2 := by simp [Sh.size]
        have e1 : k * (Sh.and .flag (.and (.num .i64) .fin)).size + 1 = k * 2 + 1 := by simp [Sh.size]
        rw [e0] at hc0
        rw [e1] at hc1
        refine ⟨zs ++ [⟨b, z⟩], by simp [h1], fun i hi => ?_⟩
        by_cases hik : i = k
        · subst hik
          have hz' : (zs ++ [(⟨b, z⟩ : Bk)]).getD i bk0 = ⟨b, z⟩ := by
            rw [List.getD_eq_getElem?_getD, List.getElem?_append_right (Nat.le_of_eq h1), h1, Nat.sub_self]
            rfl
          rw [hc0, hc1, hz']
          exact ⟨rfl, rfl⟩
        · rw [(h2 i (by omega)).1, (h2 i (by omega)).2, List.getD_eq_getElem?_getD, List.getD_eq_getElem?_getD, List.getElem?_append_left (by omega)]
          exact ⟨rfl, rfl⟩
    obtain ⟨zs, h1, h2⟩ := key len (Nat.le_refl _)
    refine ⟨some a, len, cap, zs, pw, rfl, h1, ?_, by omega⟩
    by_cases h0 : len = 0
    · exact .inl (List.length_eq_zero_iff.1 (by omega))
    · obtain ⟨b, off, spot⟩ := a
      have hspot : spot = none := by simpa [Addr.add] using World.cell?_spot (h2 0 (by omega)).1
      subst hspot
      refine .inr ⟨b, off, rfl, fun i hi => ?_⟩
      have := h2 i (by omega)
      rw [Addr.add_lit, Addr.add_lit] at this
      exact this


set_option maxHeartbeats 16000000 in
set_option maxRecDepth 100000 in
theorem exRankNew_of (IMPL : Hid IRankNew) (ea eb ec ed : Int) (w : World) :
    Calls Try.prog 5 #[.agg #[.int .i64 ea, .int .i64 eb, .int .i64 ec, .int .i64 ed]] w fun e w' => e = .returned (.bool true) ∧ Below w.heap.size w w' := by
  have hn0 := bankN_range ea eb ec ed
  obtain ⟨n, hn⟩ := Int.eq_ofNat_of_zero_le hn0.1
  have hn8 : n ≤ 8 := by omega
  have HN := Lib.hid hn
  have HLN : Hid ((List.replicate n bk0).length = n) := List.length_replicate
  clear hn hn0
  obtain ⟨w1, hw1⟩ : ∃ u, w.alloc (.cells #[.int .i64 ea, .int .i64 eb, .int .i64 ec, .int .i64 ed] 48) = u := ⟨_, rfl⟩
  have HB1 : Hid (Below w.heap.size w w1) := by subst hw1; exact (Below.refl _ _).alloc (Nat.le_refl _) _
  have g1 : w1.heap[w.heap.size]? = some (.cells #[.int .i64 ea, .int .i64 eb, .int .i64 ec, .int .i64 ed] 48) := by subst hw1; exact heap_alloc_new _ _
  go_enter Try.func5, Try.ntmps5
  obtain ⟨vg0, vg1, vg2, vg3⟩ := cells4 g1
  go_wp2_with fail
  clear vg0 vg1 vg2 vg3
  refine (toGeometry_any _ _ _ _ _).mono ?_
  rintro e w2 ⟨rfl, hb2⟩
  have g2 := keep_block hb2 g1 (lt_of_block g1)
  have HB2 : Hid (Below w.heap.size w w2) := HB1.out.trans (hb2.mono HB1.out.size)
  clear g1 HB1
  clear hb2
  obtain ⟨vg0, vg1, vg2, vg3⟩ := cells4 g2
  go_wp2_with fail
  clear vg0 vg1 vg2 vg3
  refine (specRankNew_is _ _ _ _ n HN.out _).mono ?_
  rintro e w3 ⟨Sa, Sc, rfl, own3, hb3⟩
  have g3 := keep_block hb3 g2 (lt_of_block g2)
  have HB3 : Hid (Below w.heap.size w w3) := HB2.out.trans (hb3.mono HB2.out.size)
  clear g2 HB2
  have S3 : Hid (OwnK w2.heap.size (.slice Sa n Sc) (List.replicate n bk0) w3) := own3
  clear own3
  clear hb3
  have hb4 : Below w3.heap.size w3 (w3.alloc (.cells #[.slice Sa n Sc, .int .i64 0] 28)) := (Below.refl _ _).alloc (Nat.le_refl _) _
  have g4 := keep_block hb4 g3 (lt_of_block g3)
  have S4 : Hid (OwnK w2.heap.size (.slice Sa n Sc) (List.replicate n bk0) (w3.alloc (.cells #[.slice Sa n Sc, .int .i64 0] 28))) := S3.out.below hb4
  have s4 := heap_alloc_new w3 (.cells #[.slice Sa n Sc, .int .i64 0] 28)
  have HB4 : Hid (Below w.heap.size w (w3.alloc (.cells #[.slice Sa n Sc, .int .i64 0] 28))) := HB3.out.trans (hb4.mono HB3.out.size)
  obtain ⟨vg0, vg1, vg2, vg3⟩ := cells4 g4
  obtain ⟨vs0, vs1⟩ := cells2 s4
  go_wp2_with fail
  clear vg0 vg1 vg2 vg3 vs0 vs1 hb4
  clear g3 S3 HB3
  generalize (w3.alloc (.cells #[.slice Sa n Sc, .int .i64 0] 28)) = w4 at g4 S4 s4 HB4 ⊢
  obtain ⟨sP, hsP⟩ : ∃ p, w3.heap.size = p := ⟨_, rfl⟩
  rw [hsP] at s4
  (try simp only [hsP])
  clear hsP
  refine (toGeometry_any _ _ _ _ _).mono ?_
  rintro e w5 ⟨rfl, hb5⟩
  have g5 := keep_block hb5 g4 (lt_of_block g4)
  have s5 := keep_block hb5 s4 (lt_of_block s4)
  have S5 : Hid (OwnK w2.heap.size (.slice Sa n Sc) (List.replicate n bk0) w5) := S4.out.below hb5
  have HB5 : Hid (Below w.heap.size w w5) := HB4.out.trans (hb5.mono HB4.out.size)
  clear g4 s4 S4 HB4
  clear hb5
  have HSB : Hid (w.heap.size < w5.heap.size ∧ sP < w5.heap.size ∧ ∀ x, Sa = some x → x.block < w5.heap.size) := ⟨lt_of_block g5, lt_of_block s5, fun x hx => (S5.out.lo x hx).2⟩
  obtain ⟨vg0, vg1, vg2, vg3⟩ := cells4 g5
  obtain ⟨vs0, vs1⟩ := cells2 s5
  go_wp2_with fail
  clear vg0 vg1 vg2 vg3 vs0 vs1
  refine (IMPL.out _ _ _ _ n HN.out _).mono ?_
  rintro e w6 ⟨Ia, Ic, rfl, own6, hb6⟩
  have g6 := keep_block hb6 g5 (lt_of_block g5)
  have s6 := keep_block hb6 s5 (lt_of_block s5)
  have S6 : Hid (OwnK w2.heap.size (.slice Sa n Sc) (List.replicate n bk0) w6) := S5.out.below hb6
  have HB6 : Hid (Below w.heap.size w w6) := HB5.out.trans (hb6.mono HB5.out.size)
  clear g5 s5 S5 HB5
  have I6 : Hid (OwnK w5.heap.size (.slice Ia n Ic) (List.replicate n bk0) w6) := own6
  clear own6
  have hsz6 := hb6.size
  clear hb6
  have HIB : Hid (∀ x, Ia = some x → w5.heap.size ≤ x.block ∧ x.block < w6.heap.size) := I6.out.lo
  have HIS : Hid (w5.heap.size ≤ w6.heap.size) := hsz6
  have hb7 : Below w6.heap.size w6 (w6.alloc (.cells #[.slice Ia n Ic, .int .i64 0] 28)) := (Below.refl _ _).alloc (Nat.le_refl _) _
  have g7 := keep_block hb7 g6 (lt_of_block g6)
  have s7 := keep_block hb7 s6 (lt_of_block s6)
  have S7 : Hid (OwnK w2.heap.size (.slice Sa n Sc) (List.replicate n bk0) (w6.alloc (.cells #[.slice Ia n Ic, .int .i64 0] 28))) := S6.out.below hb7
  have I7 : Hid (OwnK w5.heap.size (.slice Ia n Ic) (List.replicate n bk0) (w6.alloc (.cells #[.slice Ia n Ic, .int .i64 0] 28))) := I6.out.below hb7
  have i7 := heap_alloc_new w6 (.cells #[.slice Ia n Ic, .int .i64 0] 28)
  have HB7 : Hid (Below w.heap.size w (w6.alloc (.cells #[.slice Ia n Ic, .int .i64 0] 28))) := HB6.out.trans (hb7.mono HB6.out.size)
  obtain ⟨vg0, vg1, vg2, vg3⟩ := cells4 g7
  obtain ⟨vs0, vs1⟩ := cells2 s7
  obtain ⟨vi0, vi1⟩ := cells2 i7
  go_wp2_with fail
  clear vg0 vg1 vg2 vg3 vs0 vs1 vi0 vi1 hb7
  clear g6 s6 S6 I6 HB6
  generalize (w6.alloc (.cells #[.slice Ia n Ic, .int .i64 0] 28)) = w7 at g7 s7 S7 I7 i7 HB7 ⊢
  obtain ⟨iP, hiP⟩ : ∃ p, w6.heap.size = p := ⟨_, rfl⟩
  rw [hiP] at i7
  have HIP : Hid (w5.heap.size ≤ iP ∧ ∀ x, Ia = some x → w5.heap.size ≤ x.block ∧ x.block < iP) := ⟨by have := HIS.out; omega, fun x hx => by have := HIB.out x hx; omega⟩
  (try simp only [hiP])
  clear hiP
  refine (eqRank_is 0 HLN.out I7.out.row S7.out.row (by omega)).mono ?_
  rintro e w8 ⟨rfl, hb8⟩
  have g8 := keep_block hb8 g7 (lt_of_block g7)
  have s8 := keep_block hb8 s7 (lt_of_block s7)
  have i8 := keep_block hb8 i7 (lt_of_block i7)
  have S8 : Hid (OwnK w2.heap.size (.slice Sa n Sc) (List.replicate n bk0) w8) := S7.out.below hb8
  have I8 : Hid (OwnK w5.heap.size (.slice Ia n Ic) (List.replicate n bk0) w8) := I7.out.below hb8
  have HB8 : Hid (Below w.heap.size w w8) := HB7.out.trans (hb8.mono HB7.out.size)
  clear g7 s7 i7 S7 I7 HB7
  clear hb8
  obtain ⟨vg0, vg1, vg2, vg3⟩ := cells4 g8
  obtain ⟨vs0, vs1⟩ := cells2 s8
  obtain ⟨vi0, vi1⟩ := cells2 i8
  go_wp2_with fail
  clear vg0 vg1 vg2 vg3 vs0 vs1 vi0 vi1
  have hSB := HSB.out
  have hIS := HIP.out
  obtain ⟨gi, hgi, hge, hne⟩ : ∃ gi, (∀ x, Ia = some x → x.block = gi) ∧ w5.heap.size ≤ gi ∧ gi ≠ iP := by
    rcases hIa : Ia with _ | x
    · exact ⟨iP + 1, (fun x h => by cases h), by omega, by omega⟩
    · have := hIS.2 x hIa
      exact ⟨x.block, (fun y h => by cases h; rfl), this.1, by omega⟩
  refine (markRank_is 0 HLN.out I8.out 1 (by omega) gi hgi).mono ?_
  rintro e w9 ⟨rfl, M', ho9⟩
  have g9 := (ho9.block _ (lt_of_block g8) (by omega)).trans g8
  have s9 := (ho9.block _ (lt_of_block s8) (by omega)).trans s8
  have i9 := (ho9.block _ (lt_of_block i8) (by omega)).trans i8
  have S9 : Hid (OwnK w2.heap.size (.slice Sa n Sc) (List.replicate n bk0) w9) := S8.out.keep ho9 (fun x hx => by have := hSB.2.2 x hx; omega)
  have M9 : Hid (RowB w9 Ia (marksK 1 n)) := M'.row
  have HB9 : Hid (Below w.heap.size w w9) := HB8.out.trans (ho9.below (by omega) HB8.out.size)
  have km0 : 0 ≤ mkK 1 n := by unfold mkK; omega
  obtain ⟨km, hkm⟩ : ∃ u, mkK 1 n = u := ⟨_, rfl⟩
  have HKM := Lib.hid hkm
  rw [hkm] at km0
  (try simp only [hkm])
  have tkm : (km != km) = false := by simp
  clear g8 s8 i8 S8 I8 HB8 ho9 M' hSB hIS hge hne hgi hkm
  have HH := Lib.hid (heldRank_is (a := Ia) (c := Ic) 0 1 M9.out (by omega))
  rw [HKM.out] at HH
  obtain ⟨vg0, vg1, vg2, vg3⟩ := cells4 g9
  obtain ⟨vs0, vs1⟩ := cells2 s9
  obtain ⟨vi0, vi1⟩ := cells2 i9
  go_wp2_with fail
  clear vg0 vg1 vg2 vg3 vs0 vs1 vi0 vi1
  refine (HH.out).mono ?_
  rintro e w10 ⟨rfl, hb10⟩
  have g10 := keep_block hb10 g9 (lt_of_block g9)
  have s10 := keep_block hb10 s9 (lt_of_block s9)
  have i10 := keep_block hb10 i9 (lt_of_block i9)
  have S10 : Hid (OwnK w2.heap.size (.slice Sa n Sc) (List.replicate n bk0) w10) := S9.out.below hb10
  have M10 : Hid (RowB w10 Ia (marksK 1 n)) := M9.out.below hb10
  have HB10 : Hid (Below w.heap.size w w10) := HB9.out.trans (hb10.mono HB9.out.size)
  clear g9 s9 i9 S9 M9 HB9
  clear hb10
  clear HH
  obtain ⟨vg0, vg1, vg2, vg3⟩ := cells4 g10
  obtain ⟨vs0, vs1⟩ := cells2 s10
  obtain ⟨vi0, vi1⟩ := cells2 i10
  go_wp2_with fail
  clear vg0 vg1 vg2 vg3 vs0 vs1 vi0 vi1
  refine (toGeometry_any _ _ _ _ _).mono ?_
  rintro e w11 ⟨rfl, hb11⟩
  have g11 := keep_block hb11 g10 (lt_of_block g10)
  have s11 := keep_block hb11 s10 (lt_of_block s10)
  have i11 := keep_block hb11 i10 (lt_of_block i10)
  have S11 : Hid (OwnK w2.heap.size (.slice Sa n Sc) (List.replicate n bk0) w11) := S10.out.below hb11
  have M11 : Hid (RowB w11 Ia (marksK 1 n)) := M10.out.below hb11
  have HB11 : Hid (Below w.heap.size w w11) := HB10.out.trans (hb11.mono HB10.out.size)
  clear g10 s10 i10 S10 M10 HB10
  clear hb11
  obtain ⟨vg0, vg1, vg2, vg3⟩ := cells4 g11
  obtain ⟨vs0, vs1⟩ := cells2 s11
  obtain ⟨vi0, vi1⟩ := cells2 i11
  go_wp2_with fail
  clear vg0 vg1 vg2 vg3 vs0 vs1 vi0 vi1
  refine (IMPL.out _ _ _ _ n HN.out _).mono ?_
  rintro e w12 ⟨Ja, Jc, rfl, own12, hb12⟩
  have g12 := keep_block hb12 g11 (lt_of_block g11)
  have s12 := keep_block hb12 s11 (lt_of_block s11)
  have i12 := keep_block hb12 i11 (lt_of_block i11)
  have S12 : Hid (OwnK w2.heap.size (.slice Sa n Sc) (List.replicate n bk0) w12) := S11.out.below hb12
  have M12 : Hid (RowB w12 Ia (marksK 1 n)) := M11.out.below hb12
  have HB12 : Hid (Below w.heap.size w w12) := HB11.out.trans (hb12.mono HB11.out.size)
  clear g11 s11 i11 S11 M11 HB11
  have J12 : Hid (OwnK w11.heap.size (.slice Ja n Jc) (List.replicate n bk0) w12) := own12
  clear own12
  clear hb12
  have hb13 : Below w12.heap.size w12 (w12.alloc (.cells #[.slice Ja n Jc, .int .i64 0] 28)) := (Below.refl _ _).alloc (Nat.le_refl _) _
  have g13 := keep_block hb13 g12 (lt_of_block g12)
  have s13 := keep_block hb13 s12 (lt_of_block s12)
  have i13 := keep_block hb13 i12 (lt_of_block i12)
  have S13 : Hid (OwnK w2.heap.size (.slice Sa n Sc) (List.replicate n bk0) (w12.alloc (.cells #[.slice Ja n Jc, .int .i64 0] 28))) := S12.out.below hb13
  have M13 : Hid (RowB (w12.alloc (.cells #[.slice Ja n Jc, .int .i64 0] 28)) Ia (marksK 1 n)) := M12.out.below hb13
  have J13 : Hid (OwnK w11.heap.size (.slice Ja n Jc) (List.replicate n bk0) (w12.alloc (.cells #[.slice Ja n Jc, .int .i64 0] 28))) := J12.out.below hb13
  have j13 := heap_alloc_new w12 (.cells #[.slice Ja n Jc, .int .i64 0] 28)
  have HB13 : Hid (Below w.heap.size w (w12.alloc (.cells #[.slice Ja n Jc, .int .i64 0] 28))) := HB12.out.trans (hb13.mono HB12.out.size)
  obtain ⟨vg0, vg1, vg2, vg3⟩ := cells4 g13
  obtain ⟨vs0, vs1⟩ := cells2 s13
  obtain ⟨vi0, vi1⟩ := cells2 i13
  obtain ⟨vj0, vj1⟩ := cells2 j13
  go_wp2_with fail
  clear vg0 vg1 vg2 vg3 vs0 vs1 vi0 vi1 vj0 vj1 hb13
  clear g12 s12 i12 S12 M12 J12 HB12
  generalize (w12.alloc (.cells #[.slice Ja n Jc, .int .i64 0] 28)) = w13 at g13 s13 i13 S13 M13 J13 j13 HB13 ⊢
  obtain ⟨jP, hjP⟩ : ∃ p, w12.heap.size = p := ⟨_, rfl⟩
  rw [hjP] at j13
  (try simp only [hjP])
  clear hjP
  refine (eqRank_is 0 HLN.out J13.out.row S13.out.row (by omega)).mono ?_
  rintro e w14 ⟨rfl, hb14⟩
  have g14 := keep_block hb14 g13 (lt_of_block g13)
  have s14 := keep_block hb14 s13 (lt_of_block s13)
  have i14 := keep_block hb14 i13 (lt_of_block i13)
  have j14 := keep_block hb14 j13 (lt_of_block j13)
  have S14 : Hid (OwnK w2.heap.size (.slice Sa n Sc) (List.replicate n bk0) w14) := S13.out.below hb14
  have M14 : Hid (RowB w14 Ia (marksK 1 n)) := M13.out.below hb14
  have J14 : Hid (OwnK w11.heap.size (.slice Ja n Jc) (List.replicate n bk0) w14) := J13.out.below hb14
  have HB14 : Hid (Below w.heap.size w w14) := HB13.out.trans (hb14.mono HB13.out.size)
  clear g13 s13 i13 j13 S13 M13 J13 HB13
  clear hb14
  have HH := Lib.hid (heldRank_is (a := Ia) (c := Ic) 0 1 M14.out (by omega))
  rw [HKM.out] at HH
  obtain ⟨vg0, vg1, vg2, vg3⟩ := cells4 g14
  obtain ⟨vs0, vs1⟩ := cells2 s14
  obtain ⟨vi0, vi1⟩ := cells2 i14
  obtain ⟨vj0, vj1⟩ := cells2 j14
  go_wp2_with fail
  clear vg0 vg1 vg2 vg3 vs0 vs1 vi0 vi1 vj0 vj1
  refine (HH.out).mono ?_
  rintro e w15 ⟨rfl, hb15⟩
  have g15 := keep_block hb15 g14 (lt_of_block g14)
  have s15 := keep_block hb15 s14 (lt_of_block s14)
  have i15 := keep_block hb15 i14 (lt_of_block i14)
  have j15 := keep_block hb15 j14 (lt_of_block j14)
  have S15 : Hid (OwnK w2.heap.size (.slice Sa n Sc) (List.replicate n bk0) w15) := S14.out.below hb15
  have M15 : Hid (RowB w15 Ia (marksK 1 n)) := M14.out.below hb15
  have J15 : Hid (OwnK w11.heap.size (.slice Ja n Jc) (List.replicate n bk0) w15) := J14.out.below hb15
  have HB15 : Hid (Below w.heap.size w w15) := HB14.out.trans (hb15.mono HB14.out.size)
  clear g14 s14 i14 j14 S14 M14 J14 HB14
  clear hb15
  clear HH
  go_wp2
  go_ret
  exact ⟨rfl, HB15.out⟩



set_option maxHeartbeats 16000000 in
set_option maxRecDepth 100000 in
theorem exRowOf_of (IMPL : Hid IRowOf) (ll : List Value) (x : Int) (w : World) (s : Sh.Fits w (.and (.row (.and .flag (.and (.num .i64) .fin))) (.and (.num .i64) .fin)) ll) :
    Calls Try.prog 10 #[.agg ll.toArray, .int .i64 x] w fun e w' => e = .returned (.bool true) ∧ Below w.heap.size w w' := by
  obtain ⟨ad, n, cap, zs, pw, rfl, hz, hr, hn⟩ := rank_in s
  have HZ := Lib.hid hz
  obtain ⟨sv, hsv⟩ : ∃ v : Int, (if (1048576 : Int) - (n : Int) < 0 then -1 else 1048576 - (n : Int)) = v := ⟨_, rfl⟩
  have HSV := Lib.hid hsv
  obtain ⟨w1, hw1⟩ : ∃ u, (w.alloc (.cells #[.slice ad n cap, .int .i64 pw] 53)) = u := ⟨_, rfl⟩
  have HB1 : Hid (Below w.heap.size w w1) := by subst hw1; exact (Below.refl _ _).alloc (Nat.le_refl _) _
  have r1 : w1.heap[w.heap.size]? = some (.cells #[.slice ad n cap, .int .i64 pw] 53) := by subst hw1; exact heap_alloc_new _ _
  have HR0 := Lib.hid (fun (u : World) (hb : Below w.heap.size w u) => hr.below hb)
  obtain ⟨v, hv⟩ : ∃ v, rowN zs x = v := ⟨_, rfl⟩
  have HV := Lib.hid hv
  clear hv
  clear hz hr
  go_enter Try.func10, Try.ntmps10
  obtain ⟨vr0, vr1⟩ := cells2 r1
  go_wp2_with fail
  clear vr0 vr1
  refine (szRank_is _ _ _ _ 1048576 sv hn (by omega) (by omega) HSV.out _).mono ?_
  rintro e w2 ⟨rfl, hb2⟩
  have r2 := keep_block hb2 r1 (lt_of_block r1)
  have HB2 : Hid (Below w.heap.size w w2) := HB1.out.trans (hb2.mono HB1.out.size)
  clear r1 HB1
  clear hb2
  by_cases hbig : (1048576 : Int) - n < 0
  · have hs : sv < 0 := by rw [← hsv, if_pos hbig]; omega
    clear hsv hbig
    go_wp2
    go_ret
    exact ⟨rfl, HB2.out⟩
  have hs : 0 ≤ sv := by rw [← hsv, if_neg hbig]; omega
  have hn2 : n ≤ 1048576 := by omega
  clear hsv hbig hn
  obtain ⟨vr0, vr1⟩ := cells2 r2
  go_wp2_with fail
  clear vr0 vr1
  refine (toRank_is _ _ _ _ _ HZ.out (by omega) _ (HR0.out _ HB2.out)).mono ?_
  rintro e w3 ⟨Sa, Sc, rfl, own3, hb3⟩
  have r3 := keep_block hb3 r2 (lt_of_block r2)
  have HB3 : Hid (Below w.heap.size w w3) := HB2.out.trans (hb3.mono HB2.out.size)
  clear r2 HB2
  have S3 : Hid (RowB w3 Sa zs) := own3.row
  have NS : Hid (Sa = none → Sc = 0) := own3.none
  clear own3
  clear hb3
  obtain ⟨vr0, vr1⟩ := cells2 r3
  go_wp2_with fail
  clear vr0 vr1
  refine (specRowOf_is _ _ _ _ _ _ _ HV.out HZ.out (by omega) _ S3.out).mono ?_
  rintro e w4 ⟨rfl, hb4⟩
  have r4 := keep_block hb4 r3 (lt_of_block r3)
  have S4 : Hid (RowB w4 Sa zs) := S3.out.below hb4
  have HB4 : Hid (Below w.heap.size w w4) := HB3.out.trans (hb4.mono HB3.out.size)
  clear r3 S3 HB3
  clear hb4
  clear S4
  obtain ⟨vr0, vr1⟩ := cells2 r4
  go_wp2_with fail
  clear vr0 vr1
  refine (toRank_is _ _ _ _ _ HZ.out (by omega) _ (HR0.out _ HB4.out)).mono ?_
  rintro e w5 ⟨Xa, Xc, rfl, own5, hb5⟩
  have r5 := keep_block hb5 r4 (lt_of_block r4)
  have HB5 : Hid (Below w.heap.size w w5) := HB4.out.trans (hb5.mono HB4.out.size)
  clear r4 HB4
  have X5 : Hid (RowB w5 Xa zs) := own5.row
  have NX : Hid (Xa = none → Xc = 0) := own5.none
  clear own5
  clear hb5
  have hb6 : Below w5.heap.size w5 (w5.alloc (.cells #[.slice Xa n Xc, .int .i64 pw] 28)) := (Below.refl _ _).alloc (Nat.le_refl _) _
  have r6 := keep_block hb6 r5 (lt_of_block r5)
  have X6 : Hid (RowB (w5.alloc (.cells #[.slice Xa n Xc, .int .i64 pw] 28)) Xa zs) := X5.out.below hb6
  have x6 := heap_alloc_new w5 (.cells #[.slice Xa n Xc, .int .i64 pw] 28)
  have HB6 : Hid (Below w.heap.size w (w5.alloc (.cells #[.slice Xa n Xc, .int .i64 pw] 28))) := HB5.out.trans (hb6.mono HB5.out.size)
  obtain ⟨vr0, vr1⟩ := cells2 r6
  obtain ⟨vx0, vx1⟩ := cells2 x6
  go_wp2_with fail
  clear vr0 vr1 vx0 vx1 hb6
  clear r5 X5 HB5
  generalize (w5.alloc (.cells #[.slice Xa n Xc, .int .i64 pw] 28)) = w6 at r6 X6 x6 HB6 ⊢
  obtain ⟨xP, hxP⟩ : ∃ p, w5.heap.size = p := ⟨_, rfl⟩
  rw [hxP] at x6
  (try simp only [hxP])
  clear hxP
  refine (IMPL.out _ _ _ _ _ _ _ HV.out HZ.out (by omega) NX.out _ X6.out).mono ?_
  rintro e w7 ⟨rfl, hb7⟩
  have r7 := keep_block hb7 r6 (lt_of_block r6)
  have x7 := keep_block hb7 x6 (lt_of_block x6)
  have X7 : Hid (RowB w7 Xa zs) := X6.out.below hb7
  have HB7 : Hid (Below w.heap.size w w7) := HB6.out.trans (hb7.mono HB6.out.size)
  clear r6 x6 X6 HB6
  clear hb7
  have tvv : (v != v) = false := by simp
  go_wp2_with fail
  refine wp_region_float (A := ?A1) [.h, .h, .t, .t, .e] (by kernel_rfl) (by kernel_rfl) (fun u => u.heap[w.heap.size]? = some (.cells #[.slice ad n cap, .int .i64 pw] 53) ∧ u.heap[xP]? = some (.cells #[.slice Xa n Xc, .int .i64 pw] 28)) ?hC1 ?hH1 ?hT1
  case hC1 => exact ⟨r7, x7⟩
  case hH1 =>
    intro u hu
    obtain ⟨a0, a1⟩ := cells2 hu.1
    obtain ⟨a2, a3⟩ := cells2 hu.2
    have z0 := fun q : Same u => q.cell a0
    have z1 := fun q : Same u => q.cell a1
    have z2 := fun q : Same u => q.cell a2
    have z3 := fun q : Same u => q.cell a3
    simp only [headsOf]
    repeat (go_big_quiet_step (fail))
    refine wpQuiet_nil ?_
    exact rfl
  case hT1 =>
    simp only [chainT]
    have r8 : w7.drew.heap[w.heap.size]? = some (.cells #[.slice ad n cap, .int .i64 pw] 53) := r7
    have x8 : w7.drew.heap[xP]? = some (.cells #[.slice Xa n Xc, .int .i64 pw] 28) := x7
    have X8 : Hid (RowB w7.drew Xa zs) := X7.out
    have HB8 : Hid (Below w.heap.size w w7.drew) := Below.drew HB7.out
    clear r7 x7 X7 HB7
    generalize w7.drew = w8 at r8 x8 X8 HB8 ⊢
    go_wp2_with fail
    refine (toRank_is _ _ _ _ _ HZ.out (by omega) _ (HR0.out _ HB8.out)).mono ?_
    rintro e w9 ⟨Ea, Ec, rfl, own9, hb9⟩
    have r9 := keep_block hb9 r8 (lt_of_block r8)
    have x9 := keep_block hb9 x8 (lt_of_block x8)
    have X9 : Hid (RowB w9 Xa zs) := X8.out.below hb9
    have HB9 : Hid (Below w.heap.size w w9) := HB8.out.trans (hb9.mono HB8.out.size)
    clear r8 x8 X8 HB8
    have E9 : Hid (RowB w9 Ea zs) := own9.row
    clear own9
    clear hb9
    go_wp2_with fail
    refine stepQ_normal ⟨⟨r9, x9⟩, ?_⟩
    go_wp2_with fail
    refine (eqRank_is pw HZ.out X9.out E9.out (by omega)).mono ?_
    rintro e w10 ⟨rfl, hb10⟩
    have r10 := keep_block hb10 r9 (lt_of_block r9)
    have x10 := keep_block hb10 x9 (lt_of_block x9)
    have X10 : Hid (RowB w10 Xa zs) := X9.out.below hb10
    have E10 : Hid (RowB w10 Ea zs) := E9.out.below hb10
    have HB10 : Hid (Below w.heap.size w w10) := HB9.out.trans (hb10.mono HB9.out.size)
    clear r9 x9 X9 E9 HB9
    clear hb10
    go_wp2_with fail
    refine stepQ_normal ⟨⟨r10, x10⟩, ?_⟩
    go_wp2_with fail
    refine stepQ_normal ⟨trivial, ?_⟩
    go_wp2
    go_ret
    exact ⟨rfl, HB10.out⟩


end Go.Proofs.Ytigoniochamjgaa
