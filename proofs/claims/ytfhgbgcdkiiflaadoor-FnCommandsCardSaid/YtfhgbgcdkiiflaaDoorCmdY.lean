/-
  FnCommands: a drawn command comes back from its text and from its frame.
-/
import Derived.Test.YtfhgbgcdkiiflaaDoorCmdV
import Derived.Test.YtfhgbgcdkiiflaaDoorCmdK
import Derived.Test.YtfhgbgcdkiiflaaDoorCmdT
namespace Go.Proofs.YtfhgbgcdkiiflaaDoor
open Go.RowKit

set_option linter.unusedVariables false

theorem txt_small : ∀ q ∈ allC, (txtOf q).length ≤ 14 := by decide +kernel


set_option maxHeartbeats 4000000 in
set_option maxRecDepth 100000 in
theorem commands_walk (a : Option Addr) (len cap : Nat) (z : List Int) (w : World) (hr : IsRow .u8 w a len cap z) (ht : Tab10 w) (hES : ErrS w) (hER : ErrR w) (hw : WordsVar w) :
    Calls Tryd.prog 3 #[.slice a len cap] w fun e w' => e = .returned (.bool true) ∧ Below w.heap.size w w' := by
  have hl := hr.len_le
  unfold maxLen at hl
  by_cases hbig : (1048576 : Int) < (len : Int)
  · clear ht hES hER hw
    go_enter Tryd.func3, Tryd.ntmps3
    go_wp2_with (go_at_call 6; refine (big_any _ _ _ _ (by omega)).mono ?_; rintro e w' ⟨rfl, rfl⟩)
    go_ret
    exact ⟨rfl, Below.refl _ _⟩
  have HT := Lib.hid (Lib.tabBelow_of_tabIs ht)
  have HES := Lib.hid hES
  have HER := Lib.hid hER
  have HW := Lib.hid hw
  clear ht hES hER hw
  go_enter Tryd.func3, Tryd.ntmps3
  go_wp2_with (go_at_call 6; refine (big_any _ _ _ _ (by omega)).mono ?_; rintro e w' ⟨rfl, rfl⟩)
  refine (drawCommand_any hr).mono ?_
  rintro e w1 ⟨ga, gb, gr, gd, k, x, y, c, rfl, hgo, hcm, had, hb1⟩
  obtain ⟨w2, hw2⟩ : ∃ u, (w1.alloc (.cells #[.int .i64 ga, .int .i64 gb, .int .i64 gr, .int .i64 gd] 25)).alloc (.cells #[.int .i64 k, .int .i64 x, .int .i64 y, .int .i64 c] 27) = u := ⟨_, rfl⟩
  have hb2 : Below w1.heap.size w1 w2 := by subst hw2; exact ((Below.refl _ _).alloc (Nat.le_refl _) _).alloc (by simp) _
  have g2 : w2.heap[w1.heap.size]? = some (.cells #[.int .i64 ga, .int .i64 gb, .int .i64 gr, .int .i64 gd] 25) := by subst hw2; exact heap_alloc2_old _ _ _
  have p2 : w2.heap[w1.heap.size + 1]? = some (.cells #[.int .i64 k, .int .i64 x, .int .i64 y, .int .i64 c] 27) := by subst hw2; exact heap_alloc2_new _ _ _
  have HB2 : Hid (Below w.heap.size w w2) := hb1.trans (hb2.mono hb1.size)
  have KO := Lib.hid (decide_eq_true (And.intro hcm had))
  obtain ⟨gB, hgB⟩ : ∃ u, w1.heap.size = u := ⟨_, rfl⟩
  rw [hgB] at p2 g2
  obtain ⟨S, hS⟩ : ∃ S, fmtB k x y c = S := ⟨_, rfl⟩
  have HS := Lib.hid hS
  obtain ⟨hSne, hSz, hPV⟩ : S ≠ ⟨#[]⟩ ∧ S.size ≤ maxLen ∧ parseV S = .tuple #[.agg #[.int .i64 k, .int .i64 x, .int .i64 y, .int .i64 c], .bool true] := by
    have h := hcm
    obtain ⟨h1, h2, h3, h4, _⟩ := hcm
    obtain ⟨k, rfl⟩ := Int.eq_ofNat_of_zero_le (show 0 ≤ k by omega)
    obtain ⟨x, rfl⟩ := Int.eq_ofNat_of_zero_le (show 0 ≤ x by omega)
    obtain ⟨y, rfl⟩ := Int.eq_ofNat_of_zero_le (show 0 ≤ y by omega)
    obtain ⟨c, rfl⟩ := Int.eq_ofNat_of_zero_le (show 0 ≤ c by omega)
    have hm := mem_allC h
    have e : S = ⟨(txtOf (k, x, y, c)).toArray⟩ := by rw [← hS]; exact if_pos h
    have hne : S ≠ ⟨#[]⟩ := fun h' => by
      rw [e] at h'
      exact txt_ne _ hm (by simpa using congrArg (fun t : ByteArray => t.data.toList) h')
    refine ⟨hne, ?_, parse_yes hS hne⟩
    have h14 := txt_small _ hm
    rw [e]
    show (txtOf (k, x, y, c)).toArray.size ≤ _
    unfold maxLen
    simp only [List.size_toArray]
    omega
  have HPV := Lib.hid hPV
  have te := empty_false hSne
  have HSZ := Lib.hid hSz
  obtain ⟨fr, hfr⟩ : ∃ u, frameF k x y c = u := ⟨_, rfl⟩
  have HFR := Lib.hid hfr
  have hfrr := frame_range hcm
  have hpr := packF_range hcm
  have hev := frame_even hcm
  have HRV := Lib.hid (read_frame hcm)
  rw [hfr] at hfrr hev HRV
  obtain ⟨pk, hpk⟩ : ∃ u, packF k x y c = u := ⟨_, rfl⟩
  have HPK := Lib.hid hpk
  have hmod : fr.tmod 16384 = pk := by
    rw [Int.tmod_eq_emod_of_nonneg (by omega)]
    have h := hfr
    unfold frameF at h
    rw [if_pos hcm, hpk] at h
    rw [hpk] at hpr
    have := parF_range pk
    omega
  have hpos : decide (0 < fr) = true := decide_eq_true (by omega)
  have HPA : Hid (∀ w, Calls Tryd.prog 13 #[.int .i64 fr] w (Says (.int .i64 0) w)) := fun w => by rw [← hev]; exact specParityOf_any fr w
  obtain ⟨c0, c1, c2, c3⟩ := cells4 p2
  clear hb1 hb2 hr hcm hgo had hS hSne hSz hPV hfr hpk hev hpr
  go_wp2_with fail
  clear hw2
  (try simp only [hgB])
  clear hgB
  refine (implFmt_is _ _ _ _ S HS.out _ (HT.out.on HB2.out).here (HW.out.below HB2.out)).mono ?_
  rintro e w3 ⟨rfl, hb3⟩
  have g3 := keep_block hb3 g2 (lt_of_block g2)
  have p3 := keep_block hb3 p2 (lt_of_block p2)
  have HB3 : Hid (Below w.heap.size w w3) := HB2.out.trans (hb3.mono HB2.out.size)
  clear hb3 g2 p2 HB2 c0 c1 c2 c3
  go_wp2_with fail
  refine (implParseCmd_is S HSZ.out _ (HT.out.on HB3.out).here (HES.out.keeps HB3.out) (HER.out.keeps HB3.out) (HW.out.below HB3.out)).mono ?_
  intro e w4 h4
  rw [HPV.out] at h4
  obtain ⟨rfl, hb4⟩ := h4
  have g4 := keep_block hb4 g3 (lt_of_block g3)
  have p4 := keep_block hb4 p3 (lt_of_block p3)
  have HB4 : Hid (Below w.heap.size w w4) := HB3.out.trans (hb4.mono HB3.out.size)
  obtain ⟨w5, hw5⟩ : ∃ u, w4.alloc (.cells #[.int .i64 k, .int .i64 x, .int .i64 y, .int .i64 c] 27) = u := ⟨_, rfl⟩
  have hb5 : Below w4.heap.size w4 w5 := by rw [← hw5]; exact (Below.refl _ _).alloc (Nat.le_refl _) _
  have q5 : w5.heap[w4.heap.size]? = some (.cells #[.int .i64 k, .int .i64 x, .int .i64 y, .int .i64 c] 27) := by rw [← hw5]; exact heap_alloc_new _ _
  have g5 := keep_block hb5 g4 (lt_of_block g4)
  have p5 := keep_block hb5 p4 (lt_of_block p4)
  have HB5 : Hid (Below w.heap.size w w5) := HB4.out.trans (hb5.mono HB4.out.size)
  obtain ⟨qb, hqb⟩ : ∃ u, w4.heap.size = u := ⟨_, rfl⟩
  rw [hqb] at q5
  obtain ⟨c0, c1, c2, c3⟩ := cells4 p5
  clear hb4 hb5 g3 p3 g4 p4 HB3 HB4
  go_wp2_with fail
  clear hw5
  (try simp only [hqb])
  clear hqb
  refine (implFrame_is _ _ _ _ _ HFR.out _).mono ?_
  rintro e w6 ⟨rfl, hb6⟩
  have g6 := keep_block hb6 g5 (lt_of_block g5)
  have p6 := keep_block hb6 p5 (lt_of_block p5)
  have q6 := keep_block hb6 q5 (lt_of_block q5)
  have HB6 : Hid (Below w.heap.size w w6) := HB5.out.trans (hb6.mono HB5.out.size)
  clear hb6 g5 p5 q5 HB5 c0 c1 c2 c3
  go_wp2_with fail
  refine (implRead_is _ _).mono ?_
  intro e w7 h7
  rw [HRV.out] at h7
  obtain ⟨rfl, hb7⟩ := h7
  have g7 := keep_block hb7 g6 (lt_of_block g6)
  have p7 := keep_block hb7 p6 (lt_of_block p6)
  have q7 := keep_block hb7 q6 (lt_of_block q6)
  have HB7 : Hid (Below w.heap.size w w7) := HB6.out.trans (hb7.mono HB6.out.size)
  obtain ⟨w8, hw8⟩ : ∃ u, w7.alloc (.cells #[.int .i64 k, .int .i64 x, .int .i64 y, .int .i64 c] 27) = u := ⟨_, rfl⟩
  have hb8 : Below w7.heap.size w7 w8 := by rw [← hw8]; exact (Below.refl _ _).alloc (Nat.le_refl _) _
  have r8 : w8.heap[w7.heap.size]? = some (.cells #[.int .i64 k, .int .i64 x, .int .i64 y, .int .i64 c] 27) := by rw [← hw8]; exact heap_alloc_new _ _
  have g8 := keep_block hb8 g7 (lt_of_block g7)
  have p8 := keep_block hb8 p7 (lt_of_block p7)
  have q8 := keep_block hb8 q7 (lt_of_block q7)
  have HB8 : Hid (Below w.heap.size w w8) := HB7.out.trans (hb8.mono HB7.out.size)
  obtain ⟨rb, hrb⟩ : ∃ u, w7.heap.size = u := ⟨_, rfl⟩
  rw [hrb] at r8
  obtain ⟨c0, c1, c2, c3⟩ := cells4 p8
  obtain ⟨a0, a1, a2, a3⟩ := cells4 g8
  clear hb7 hb8 g6 p6 q6 g7 p7 q7 HB6 HB7
  go_wp2_with fail
  clear hw8
  (try simp only [hrb])
  clear hrb
  refine (implCommandOk_is _ _ _ _ _ _ _ _ _ KO.out _).mono ?_
  rintro e w9 ⟨rfl, hb9⟩
  have p9 := keep_block hb9 p8 (lt_of_block p8)
  have q9 := keep_block hb9 q8 (lt_of_block q8)
  have r9 := keep_block hb9 r8 (lt_of_block r8)
  have HB9 : Hid (Below w.heap.size w w9) := HB8.out.trans (hb9.mono HB8.out.size)
  clear hb9 p8 q8 r8 g8 HB8 c0 c1 c2 c3 a0 a1 a2 a3
  obtain ⟨c0, c1, c2, c3⟩ := cells4 p9
  obtain ⟨d0, d1, d2, d3⟩ := cells4 q9
  obtain ⟨e0, e1, e2, e3⟩ := cells4 r9
  go_wp2_with fail
  refine (HPA.out _).mono ?_
  rintro e w' ⟨rfl, rfl⟩
  go_wp2_with fail
  refine (implPack_is _ _ _ _ _ HPK.out _).mono ?_
  rintro e w10 ⟨rfl, hb10⟩
  have HB10 : Hid (Below w.heap.size w w10) := HB9.out.trans (hb10.mono HB9.out.size)
  clear hb10 p9 q9 r9 HB9 c0 c1 c2 c3 d0 d1 d2 d3 e0 e1 e2 e3
  go_wp2
  go_ret
  exact ⟨rfl, HB10.out⟩


end Go.Proofs.YtfhgbgcdkiiflaaDoor
