/-
  The walk of the law over lines of different tenants.
-/
import Derived.Test.YtljcdjhafhppbaaPartZ
namespace Go.Proofs.Ytljcdjhafhppbaa
open Go.RowKit

set_option linter.unusedVariables false

set_option maxHeartbeats 8000000 in
set_option maxRecDepth 100000 in
theorem apart_walk (a : Option Addr) (len cap : Nat) (z : List Int) (w : World) (hr : IsRow .u8 w a len cap z) :
    Calls Try.prog 4 #[.slice a len cap] w fun e w' => e = .returned (.bool true) ∧ Below w.heap.size w w' := by
  have hl := hr.len_le
  unfold maxLen at hl
  by_cases hbig : (1048576 : Int) < (len : Int)
  · go_enter Try.func4, Try.ntmps4
    go_wp2_with (go_at_call 10; refine (big_any _ _ _ _ (by omega)).mono ?_; rintro e w' ⟨rfl, rfl⟩)
    go_ret
    exact ⟨rfl, Below.refl _ _⟩
  go_enter Try.func4, Try.ntmps4
  go_wp2_with (go_at_call 10; refine (big_any _ _ _ _ (by omega)).mono ?_; rintro e w' ⟨rfl, rfl⟩)
  refine (drawPartition_any hr).mono ?_
  rintro e w1 ⟨ga, gb, gr, gd, ad, n, cp, l, rfl, hln, hn8, hla, hrow, hb1⟩
  obtain ⟨w2, hw2⟩ : ∃ u, (w1.alloc (.cells #[.int .i64 ga, .int .i64 gb, .int .i64 gr, .int .i64 gd] 25)).alloc (.cells #[.slice ad n cp] 28) = u := ⟨_, rfl⟩
  have hb2 : Below w1.heap.size w1 w2 := by subst hw2; exact ((Below.refl _ _).alloc (Nat.le_refl _) _).alloc (by simp) _
  have g2 : w2.heap[w1.heap.size]? = some (.cells #[.int .i64 ga, .int .i64 gb, .int .i64 gr, .int .i64 gd] 25) := by subst hw2; exact heap_alloc2_old _ _ _
  have p2 : w2.heap[w1.heap.size + 1]? = some (.cells #[.slice ad n cp] 28) := by subst hw2; exact heap_alloc2_new _ _ _
  have HB2 : Hid (Below w.heap.size w w2) := hb1.trans (hb2.mono hb1.size)
  have HR2 := Lib.hid (hrow.below hb2)
  have HC2 := Lib.hid (hr.below (fun x hx hc => hr.lt hx hc) HB2.out)
  have HN := Lib.hid hln
  have HW : Hid (∀ x ∈ l, (Lit.int .i64 x).wf = true) := fun x hx => wf_of (by have := hla x hx; omega)
  clear hla hrow hb1 hb2 hr
  obtain ⟨gB, hgB⟩ : ∃ u, w1.heap.size = u := ⟨_, rfl⟩
  rw [hgB] at g2 p2
  obtain ⟨cg0, cg1, cg2, cg3⟩ := cells4 g2
  have cq := cell1 p2
  go_wp2_with fail
  clear hw2
  (try simp only [hgB])
  clear hgB hln
  by_cases kp : PtOk ga gb gr gd l
  case neg =>
    have KP := Lib.hid (decide_eq_false kp)
    clear kp
    refine (specPtOk_is _ _ _ _ _ _ _ _ HN.out (by omega) _ KP.out _ HR2.out).mono ?_
    rintro e w3 ⟨rfl, hb3⟩
    have g3 := keep_block hb3 g2 (lt_of_block g2)
    have p3 := keep_block hb3 p2 (lt_of_block p2)
    have HB3 : Hid (Below w.heap.size w w3) := HB2.out.trans (hb3.mono HB2.out.size)
    have HR3 := Lib.hid (HR2.out.below hb3)
    clear hb3 g2 p2 HB2 HR2 cg0 cg1 cg2 cg3 cq
    obtain ⟨cg0, cg1, cg2, cg3⟩ := cells4 g3
    have cq := cell1 p3
    go_wp2_with fail
    refine (implPtOk_is _ _ _ _ _ _ _ _ HN.out (by omega) _ KP.out _ HR3.out).mono ?_
    rintro e w4 ⟨rfl, hb4⟩
    have g4 := keep_block hb4 g3 (lt_of_block g3)
    have p4 := keep_block hb4 p3 (lt_of_block p3)
    have HB4 : Hid (Below w.heap.size w w4) := HB3.out.trans (hb4.mono HB3.out.size)
    have HR4 := Lib.hid (HR3.out.below hb4)
    clear hb4 g3 p3 HB3 HR3 cg0 cg1 cg2 cg3 cq
    obtain ⟨cg0, cg1, cg2, cg3⟩ := cells4 g4
    have cq := cell1 p4
    go_wp2_with fail
    refine (implBanksOf_is _ 2 2 [1, 0] rfl (by omega) (by decide) 1 (by decide) _ (rowI_new w4 [1, 0] _ _ rfl)).mono ?_
    intro e w6 hgi
    obtain ⟨aa, cc, rfl, _, hb6⟩ := givesI_len (K := 1) (by decide) hgi
    have HB6 : Hid (Below w.heap.size w w6) := (HB4.out.alloc HB4.out.size _).trans (hb6.mono (by have := HB4.out.size; simp; omega))
    clear hb6 hgi
    go_wp2
    go_ret
    exact ⟨rfl, HB6.out⟩
  have KP := Lib.hid (decide_eq_true kp)
  refine (specPtOk_is _ _ _ _ _ _ _ _ HN.out (by omega) _ KP.out _ HR2.out).mono ?_
  rintro e w4 ⟨rfl, hb4⟩
  have g4 := keep_block hb4 g2 (lt_of_block g2)
  have p4 := keep_block hb4 p2 (lt_of_block p2)
  have HB4 : Hid (Below w.heap.size w w4) := HB2.out.trans (hb4.mono HB2.out.size)
  have HR4 := Lib.hid (HR2.out.below hb4)
  clear hb4 g2 p2 HB2 HR2 cg0 cg1 cg2 cg3 cq
  have HKP := Lib.hid kp
  clear kp HC2
  go_wp2_with fail
  go_loopw [5, 6] (fun sv tv wr => ∃ k : Nat, k ≤ 4 ∧ tv = .int .i64 k ∧ sv = .int .i64 (apS ga gb gr gd l k) ∧ Below w4.heap.size w4 wr) (fun _ tv _ => 4 - (intOf tv).toNat)
  case atStart => exact ⟨0, Nat.zero_le _, rfl, rfl, Below.refl _ _⟩
  case round =>
    obtain ⟨k, hk, rfl, rfl, hbr⟩ := hrel
    by_cases hlt : k < 4
    · have HB4r := Lib.hid hbr
      clear hbr
      have hkw : (Lit.int .i64 (k : Int)).wf = true := wf_of (by omega)
      have hNr := tlF_range ga gb gr gd l (k : Int)
      have hmr := mnF_range ga gb gr gd l (k : Int)
      have hSr := apS_range ga gb gr gd (l := l) (by rw [HN.out]; exact hn8) k
      have hK8 : (bkL l (k : Int)).length ≤ 8 := by have := bkL_le l (k : Int); have := HN.out; omega
      have hS1 : apS ga gb gr gd l (k + 1) = apS ga gb gr gd l k + mnF ga gb gr gd l (k : Int) + ((bkL l (k : Int)).length : Int) := rfl
      have hmN : mnF ga gb gr gd l (k : Int) = (if tlF ga gb gr gd l (k : Int) < 8 then tlF ga gb gr gd l (k : Int) else 8) := rfl
      obtain ⟨N, hN⟩ : ∃ N, tlF ga gb gr gd l (k : Int) = N := ⟨_, rfl⟩
      have HNN := Lib.hid hN
      obtain ⟨S, hS⟩ : ∃ S, apS ga gb gr gd l k = S := ⟨_, rfl⟩
      obtain ⟨K, hK⟩ : ∃ K, (bkL l (k : Int)).length = K := ⟨_, rfl⟩
      have HK := Lib.hid hK
      obtain ⟨m, hm⟩ := Int.eq_ofNat_of_zero_le hmr.1
      rw [hm] at hmr hS1 hmN
      rw [hN] at hNr hmr hmN
      rw [hS] at hSr hS1 ⊢
      rw [hK] at hS1 hK8
      have HS1 := Lib.hid hS1
      have hm8 : (m : Int) = N ∧ N < 8 ∨ (m : Int) = 8 ∧ 8 ≤ N := by
        by_cases h : N < 8
        · rw [if_pos h] at hmN; exact .inl ⟨hmN, h⟩
        · rw [if_neg h] at hmN; exact .inr ⟨hmN, by omega⟩
      clear hN hS hS1 hK hm hmN
      have tk4 : decide ((k : Int) < 4) = true := decide_eq_true (by omega)
      go_wp2_with fail
      (try simp only [tk4])
      go_loopw [5, 7] (fun sv iv wi => ∃ i : Nat, i ≤ m ∧ iv = .int .i64 i ∧ sv = .int .i64 (S + (i : Int)) ∧ Below w4.heap.size w4 wi) (fun _ iv _ => m - (intOf iv).toNat)
      case atStart => exact ⟨0, Nat.zero_le _, rfl, by simp, HB4r.out⟩
      case round =>
        obtain ⟨i, him, rfl, rfl, hbi⟩ := hrel
        have gi := keep_block hbi g4 (lt_of_block g4)
        have pi := keep_block hbi p4 (lt_of_block p4)
        have HRi := Lib.hid (HR4.out.below hbi)
        have HBi := Lib.hid hbi
        clear hbi
        obtain ⟨cg0, cg1, cg2, cg3⟩ := cells4 gi
        have cq := cell1 pi
        go_wp2_with fail
        refine (specTenLines_is _ _ _ _ _ _ _ _ HN.out (by omega) HW.out (k : Int) hkw N HNN.out _ HRi.out).mono ?_
        rintro e w5 ⟨rfl, hb5⟩
        have g5 := keep_block hb5 gi (lt_of_block gi)
        have p5 := keep_block hb5 pi (lt_of_block pi)
        have HB5 : Hid (Below w4.heap.size w4 w5) := HBi.out.trans (hb5.mono HBi.out.size)
        have HR5 := Lib.hid (HRi.out.below hb5)
        clear hb5 gi pi HBi HRi cg0 cg1 cg2 cg3 cq
        obtain ⟨cg0, cg1, cg2, cg3⟩ := cells4 g5
        have cq := cell1 p5
        by_cases hil : i < m
        · have hiN : (i : Int) < N := by omega
          have hi8 : (i : Int) < 8 := by omega
          have hiw : (Lit.int .i64 (i : Int)).wf = true := wf_of (by omega)
          have hT : TlOk ga gb gr gd l (k : Int) (i : Int) := ⟨by omega, by rw [HNN.out]; omega⟩
          have hTA : taF ga gb gr gd l (k : Int) (i : Int) = .tuple #[.agg #[.int .i64 ((bkL l (k : Int)).getD ((i : Int) % ((bkL l (k : Int)).length : Int)).toNat 0), .int .i64 ((i : Int) / ((bkL l (k : Int)).length : Int) / gd), .int .i64 ((i : Int) / ((bkL l (k : Int)).length : Int) % gd)], .bool true] := if_pos hT
          obtain ⟨j, hj, ho, he, _⟩ := ta_addr hT
          rw [he] at hTA
          obtain ⟨y, hy⟩ : ∃ y, (i : Int) / ((bkL l (k : Int)).length : Int) / gd = y := ⟨_, rfl⟩
          obtain ⟨zc, hzc⟩ : ∃ y, (i : Int) / ((bkL l (k : Int)).length : Int) % gd = y := ⟨_, rfl⟩
          rw [hy, hzc] at hTA
          have HTA := Lib.hid hTA
          have HO := Lib.hid ho
          have hjn : j < n := by rw [← HN.out]; exact hj
          have tkk : ((k : Int) != (k : Int)) = false := by simp
          have e1 : IntKind.i64.wrap (S + (i : Int) + 1) = S + (i : Int) + 1 := IntWalk.i64_in _ ⟨by omega, by omega⟩
          clear hT hTA he hy hzc ho hj
          go_wp2_with fail
          refine (implTenAddr_is ga gb gr gd _ _ _ _ HN.out (by omega) HW.out (k : Int) hkw (i : Int) hiw _ HR5.out).mono ?_
          intro e w7 hg7
          rw [HTA.out] at hg7
          obtain ⟨rfl, hb7⟩ := hg7
          have g7 := keep_block hb7 g5 (lt_of_block g5)
          have p7 := keep_block hb7 p5 (lt_of_block p5)
          have HB7 : Hid (Below w4.heap.size w4 w7) := HB5.out.trans (hb7.mono HB5.out.size)
          have HR7 := Lib.hid (HR5.out.below hb7)
          clear hb7 g5 p5 HB5 HR5 cg0 cg1 cg2 cg3 cq
          obtain ⟨w8, hw8⟩ : ∃ u, w7.alloc (.cells #[.int .i64 (j : Int), .int .i64 y, .int .i64 zc] 36) = u := ⟨_, rfl⟩
          have hb8 : Below w7.heap.size w7 w8 := by rw [← hw8]; exact (Below.refl _ _).alloc (Nat.le_refl _) _
          have a8 : w8.heap[w7.heap.size]? = some (.cells #[.int .i64 (j : Int), .int .i64 y, .int .i64 zc] 36) := by rw [← hw8]; exact heap_alloc_new _ _
          have p8 := keep_block hb8 p7 (lt_of_block p7)
          have HB8 : Hid (Below w4.heap.size w4 w8) := HB7.out.trans (hb8.mono HB7.out.size)
          obtain ⟨rb, off, rfl, hcx⟩ := (HR7.out.below hb8).at (k := j) (by rw [HN.out]; exact hjn)
          rw [HO.out] at hcx
          obtain ⟨aB, haB⟩ : ∃ u, w7.heap.size = u := ⟨_, rfl⟩
          rw [haB] at a8
          clear hb8 g7 p7 HB7 HR7
          have cq := cell1 p8
          obtain ⟨ca0, ca1, ca2⟩ := cells3 a8
          go_wp2_with fail
          clear hw8
          (try simp only [haB])
          clear haB
          go_roundw
          case rel => exact ⟨i + 1, by omega, by go_num, by first | rfl | (congr 1; omega), HB8.out⟩
          case measure => simp [intOf]; omega
        · obtain rfl : i = m := by omega
          have e1 : IntKind.i64.wrap (S + (i : Int) + (K : Int)) = S + (i : Int) + (K : Int) := IntWalk.i64_in _ ⟨by omega, by omega⟩
          rcases hm8 with ⟨hmN, hN8⟩ | ⟨hmN, hN8⟩
          · have hiN : ¬ (i : Int) < N := by omega
            go_wp2_with fail
            refine (implBanksOf_is _ _ _ _ HN.out (by omega) HW.out (k : Int) hkw _ HR5.out).mono ?_
            intro e w7 hgi
            obtain ⟨aa, cc, rfl, _, hb7⟩ := givesI_len HK.out hgi
            have HB7 : Hid (Below w4.heap.size w4 w7) := HB5.out.trans (hb7.mono HB5.out.size)
            clear hb7 hgi
            go_wp2_with fail
            go_roundw
            case rel => exact ⟨k + 1, by omega, by go_num, by rw [HS1.out]; first | rfl | (congr 1; omega), HB7.out⟩
            case measure => simp [intOf]; omega
          · have hiN : (i : Int) < N ∨ (i : Int) = N := by omega
            have hi8 : ¬ (i : Int) < 8 := by omega
            rcases hiN with hiN | hiN
            · go_wp2_with fail
              refine (implBanksOf_is _ _ _ _ HN.out (by omega) HW.out (k : Int) hkw _ HR5.out).mono ?_
              intro e w7 hgi
              obtain ⟨aa, cc, rfl, _, hb7⟩ := givesI_len HK.out hgi
              have HB7 : Hid (Below w4.heap.size w4 w7) := HB5.out.trans (hb7.mono HB5.out.size)
              clear hb7 hgi
              go_wp2_with fail
              go_roundw
              case rel => exact ⟨k + 1, by omega, by go_num, by rw [HS1.out]; first | rfl | (congr 1; omega), HB7.out⟩
              case measure => simp [intOf]; omega
            · have hiN' : ¬ (i : Int) < N := by omega
              go_wp2_with fail
              refine (implBanksOf_is _ _ _ _ HN.out (by omega) HW.out (k : Int) hkw _ HR5.out).mono ?_
              intro e w7 hgi
              obtain ⟨aa, cc, rfl, _, hb7⟩ := givesI_len HK.out hgi
              have HB7 : Hid (Below w4.heap.size w4 w7) := HB5.out.trans (hb7.mono HB5.out.size)
              clear hb7 hgi
              go_wp2_with fail
              go_roundw
              case rel => exact ⟨k + 1, by omega, by go_num, by rw [HS1.out]; first | rfl | (congr 1; omega), HB7.out⟩
              case measure => simp [intOf]; omega
    · obtain rfl : k = 4 := by omega
      have pr' := keep_block hbr p4 (lt_of_block p4)
      have cq := cell1 pr'
      have hS4 := apS_four HKP.out
      rw [HN.out] at hS4
      obtain ⟨M, hM⟩ : ∃ M, apS ga gb gr gd l 4 = M := ⟨_, rfl⟩
      rw [hM] at hS4 ⊢
      have HBw : Hid (Below w.heap.size w wr) := HB4.out.trans (hbr.mono HB4.out.size)
      clear hbr hM
      go_wp2
      go_ret
      exact ⟨by first | rfl | exact ret_b (decide_eq_true hS4), HBw.out⟩

end Go.Proofs.Ytljcdjhafhppbaa
