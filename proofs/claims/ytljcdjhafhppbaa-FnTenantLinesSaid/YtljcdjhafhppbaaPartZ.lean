/-
  The walks of the laws over drawn partitions.
-/
import Derived.Test.YtljcdjhafhppbaaPartT
namespace Go.Proofs.Ytljcdjhafhppbaa
open Go.RowKit

set_option linter.unusedVariables false

/-- The lines of the first k tenants. -/
def tlS (a b r d : Int) (l : List Int) : Nat → Int
  | 0 => 0
  | k + 1 => tlS a b r d l k + tlF a b r d l (k : Int)

theorem tlS_range (a b r d : Int) (l : List Int) : ∀ k, 0 ≤ tlS a b r d l k ∧ tlS a b r d l k ≤ 1024 * (k : Int)
  | 0 => ⟨Int.le_refl _, Int.le_refl _⟩
  | k + 1 => by
    have h1 := tlS_range a b r d l k
    have h2 := tlF_range a b r d l (k : Int)
    unfold tlS
    omega

theorem tlS_four {a b r d : Int} {l : List Int} (h : PtOk a b r d l) : tlS a b r d l 4 = lineN a b r d := by
  have h' := tl_sum h
  show 0 + tlF a b r d l 0 + tlF a b r d l 1 + tlF a b r d l 2 + tlF a b r d l 3 = lineN a b r d
  omega

/-- At most eight lines of a tenant. -/
def mnF (a b r d : Int) (l : List Int) (t : Int) : Int := if tlF a b r d l t < 8 then tlF a b r d l t else 8

/-- What the first k tenants add. -/
def apS (a b r d : Int) (l : List Int) : Nat → Int
  | 0 => 0
  | k + 1 => apS a b r d l k + mnF a b r d l (k : Int) + ((bkL l (k : Int)).length : Int)

theorem mnF_range (a b r d : Int) (l : List Int) (t : Int) : 0 ≤ mnF a b r d l t ∧ mnF a b r d l t ≤ 8 ∧ mnF a b r d l t ≤ tlF a b r d l t := by
  have := tlF_range a b r d l t
  unfold mnF
  split <;> omega

theorem apS_range (a b r d : Int) {l : List Int} (h8 : l.length ≤ 8) : ∀ k, 0 ≤ apS a b r d l k ∧ apS a b r d l k ≤ 16 * (k : Int)
  | 0 => ⟨Int.le_refl _, Int.le_refl _⟩
  | k + 1 => by
    have h1 := apS_range a b r d h8 k
    have h2 := mnF_range a b r d l (k : Int)
    have h3 := bkL_le l (k : Int)
    unfold apS
    omega

theorem line_pos {a b r d : Int} (hg : GeoOk a b r d) : 1 ≤ lineN a b r d := by
  have h1 := bank_pos hg
  obtain ⟨_, _, ⟨h2, _⟩, ⟨h3, _⟩⟩ := hg
  unfold lineN
  have t1 : 0 < bankN a b r d * r := Int.mul_pos (by omega) (by omega)
  have t2 : 0 < bankN a b r d * r * d := Int.mul_pos t1 (by omega)
  omega

theorem apS_four {a b r d : Int} {l : List Int} (h : PtOk a b r d l) : (l.length : Int) < apS a b r d l 4 := by
  have h1 := tl_sum h
  have h2 := line_pos h.1
  have h3 := bk_sum l h.2.2 l.length (Nat.le_refl _)
  show (l.length : Int) < 0 + mnF a b r d l 0 + ((bkL l 0).length : Int) + mnF a b r d l 1 + ((bkL l 1).length : Int) + mnF a b r d l 2 + ((bkL l 2).length : Int) + mnF a b r d l 3 + ((bkL l 3).length : Int)
  have e : ∀ t, (bkL l t).length = (bk l t l.length).length := fun _ => rfl
  rw [e, e, e, e]
  have r0 := tlF_range a b r d l 0
  have r1 := tlF_range a b r d l 1
  have r2 := tlF_range a b r d l 2
  have r3 := tlF_range a b r d l 3
  unfold mnF
  split <;> split <;> split <;> split <;> omega

theorem wf_of {x : Int} (h : -9223372036854775808 ≤ x ∧ x ≤ 9223372036854775807) : (Lit.int .i64 x).wf = true := by
  simpa [Lit.wf, IntKind.min, IntKind.max, IntKind.signed, IntKind.bits] using h

theorem rowI_new (w : World) (zs : List Int) (vs : Array Value) (t : TypeId) (h : vs = (zs.map (Value.int .i64)).toArray) : RowI (w.alloc (.cells vs t)) (some ⟨w.heap.size, 0, none⟩) zs :=
  .inr ⟨_, 0, rfl, fun i hi => by rw [Nat.zero_add]; exact (ints_new w zs vs t h).2 i hi⟩

set_option maxHeartbeats 8000000 in
set_option maxRecDepth 100000 in
theorem tenantLines_walk (a : Option Addr) (len cap : Nat) (z : List Int) (w : World) (hr : IsRow .u8 w a len cap z) :
    Calls Try.prog 3 #[.slice a len cap] w fun e w' => e = .returned (.bool true) ∧ Below w.heap.size w w' := by
  have hl := hr.len_le
  unfold maxLen at hl
  by_cases hbig : (1048576 : Int) < (len : Int)
  · go_enter Try.func3, Try.ntmps3
    go_wp2_with (go_at_call 10; refine (big_any _ _ _ _ (by omega)).mono ?_; rintro e w' ⟨rfl, rfl⟩)
    go_ret
    exact ⟨rfl, Below.refl _ _⟩
  go_enter Try.func3, Try.ntmps3
  go_wp2_with (go_at_call 10; refine (big_any _ _ _ _ (by omega)).mono ?_; rintro e w' ⟨rfl, rfl⟩)
  refine (drawPartition_any hr).mono ?_
  rintro e w1 ⟨ga, gb, gr, gd, ad, n, cp, l, rfl, hln, hn8, hla, hrow, hb1⟩
  obtain ⟨w2, hw2⟩ : ∃ u, (w1.alloc (.cells #[.int .i64 ga, .int .i64 gb, .int .i64 gr, .int .i64 gd] 25)).alloc (.cells #[.slice ad n cp] 28) = u := ⟨_, rfl⟩
  have hb2 : Below w1.heap.size w1 w2 := by subst hw2; exact ((Below.refl _ _).alloc (Nat.le_refl _) _).alloc (by simp) _
  have g2 : w2.heap[w1.heap.size]? = some (.cells #[.int .i64 ga, .int .i64 gb, .int .i64 gr, .int .i64 gd] 25) := by subst hw2; exact heap_alloc2_old _ _ _
  have p2 : w2.heap[w1.heap.size + 1]? = some (.cells #[.slice ad n cp] 28) := by subst hw2; exact heap_alloc2_new _ _ _
  have HB2 : Hid (Below w.heap.size w w2) := hb1.trans (hb2.mono hb1.size)
  have HR2 := Lib.hid (hrow.below hb2)
  have HC2 := Lib.hid (hr.below (fun x hx hc => hr.lt hx hc) HB2.out)
  have HN := Lib.hid hln
  have HW : Hid (∀ x ∈ l, (Lit.int .i64 x).wf = true) := fun x hx => wf_of (by have := hla x hx; omega)
  clear hla hrow hb1 hb2 hr
  obtain ⟨gB, hgB⟩ : ∃ u, w1.heap.size = u := ⟨_, rfl⟩
  rw [hgB] at g2 p2
  obtain ⟨cg0, cg1, cg2, cg3⟩ := cells4 g2
  have cq := cell1 p2
  go_wp2_with fail
  clear hw2
  (try simp only [hgB])
  clear hgB hln
  by_cases kp : PtOk ga gb gr gd l
  case neg =>
    have KP := Lib.hid (decide_eq_false kp)
    have KT := Lib.hid (tlF_non kp 0)
    clear kp
    refine (specPtOk_is _ _ _ _ _ _ _ _ HN.out (by omega) _ KP.out _ HR2.out).mono ?_
    rintro e w3 ⟨rfl, hb3⟩
    have g3 := keep_block hb3 g2 (lt_of_block g2)
    have p3 := keep_block hb3 p2 (lt_of_block p2)
    have HB3 : Hid (Below w.heap.size w w3) := HB2.out.trans (hb3.mono HB2.out.size)
    have HR3 := Lib.hid (HR2.out.below hb3)
    clear hb3 g2 p2 HB2 HR2 cg0 cg1 cg2 cg3 cq
    obtain ⟨cg0, cg1, cg2, cg3⟩ := cells4 g3
    have cq := cell1 p3
    go_wp2_with fail
    refine (implPtOk_is _ _ _ _ _ _ _ _ HN.out (by omega) _ KP.out _ HR3.out).mono ?_
    rintro e w4 ⟨rfl, hb4⟩
    have g4 := keep_block hb4 g3 (lt_of_block g3)
    have p4 := keep_block hb4 p3 (lt_of_block p3)
    have HB4 : Hid (Below w.heap.size w w4) := HB3.out.trans (hb4.mono HB3.out.size)
    have HR4 := Lib.hid (HR3.out.below hb4)
    clear hb4 g3 p3 HB3 HR3 cg0 cg1 cg2 cg3 cq
    obtain ⟨cg0, cg1, cg2, cg3⟩ := cells4 g4
    have cq := cell1 p4
    go_wp2_with fail
    refine (implTenLines_is _ _ _ _ _ _ _ _ HN.out (by omega) HW.out 0 (by decide) 0 KT.out _ HR4.out).mono ?_
    rintro e w5 ⟨rfl, hb5⟩
    have g5 := keep_block hb5 g4 (lt_of_block g4)
    have p5 := keep_block hb5 p4 (lt_of_block p4)
    have HB5 : Hid (Below w.heap.size w w5) := HB4.out.trans (hb5.mono HB4.out.size)
    have HR5 := Lib.hid (HR4.out.below hb5)
    clear hb5 g4 p4 HB4 HR4 cg0 cg1 cg2 cg3 cq
    go_wp2_with fail
    refine (implBanksOf_is _ 2 2 [1, 0] rfl (by omega) (by decide) 0 (by decide) _ (rowI_new w5 [1, 0] _ _ rfl)).mono ?_
    intro e w6 hgi
    obtain ⟨aa, cc, rfl, _, hb6⟩ := givesI_len (K := 1) (by decide) hgi
    have HB6 : Hid (Below w.heap.size w w6) := (HB5.out.alloc HB5.out.size _).trans (hb6.mono (by have := HB5.out.size; simp; omega))
    clear hb6 hgi
    go_wp2
    go_ret
    exact ⟨rfl, HB6.out⟩
  have KP := Lib.hid (decide_eq_true kp)
  refine (specPtOk_is _ _ _ _ _ _ _ _ HN.out (by omega) _ KP.out _ HR2.out).mono ?_
  rintro e w3 ⟨rfl, hb3⟩
  have HC3 := Lib.hid (HC2.out.below (fun x hx hc => HC2.out.lt hx hc) hb3)
  have g3 := keep_block hb3 g2 (lt_of_block g2)
  have p3 := keep_block hb3 p2 (lt_of_block p2)
  have HB3 : Hid (Below w.heap.size w w3) := HB2.out.trans (hb3.mono HB2.out.size)
  have HR3 := Lib.hid (HR2.out.below hb3)
  clear hb3 g2 p2 HB2 HR2 cg0 cg1 cg2 cg3 cq
  clear HC2
  go_wp2_with fail
  refine (drawPlaces_any HC3.out).mono ?_
  rintro e w4 ⟨gp, c2, pl, rfl, hl12, hp, hown, hb4⟩
  have PL : Hid (∀ k, k < 12 → ∃ p : Int, w4.cell? ⟨gp, k, none⟩ = some (.int .i64 p) ∧ 0 ≤ p ∧ p ≤ 9999) := fun k hk => place_at hown hl12 hp k hk
  have g4 := keep_block hb4 g3 (lt_of_block g3)
  have p4 := keep_block hb4 p3 (lt_of_block p3)
  have HB4 : Hid (Below w.heap.size w w4) := HB3.out.trans (hb4.mono HB3.out.size)
  have HR4 := Lib.hid (HR3.out.below hb4)
  clear hb4 g3 p3 HB3 HR3
  clear HC3 hl12 hp hown
  have HKP := Lib.hid kp
  clear kp
  go_wp2_with fail
  go_loopw [5, 7] (fun sv tv wr => ∃ k : Nat, k ≤ 4 ∧ tv = .int .i64 k ∧ sv = .int .i64 (tlS ga gb gr gd l k) ∧ Below w4.heap.size w4 wr) (fun _ tv _ => 4 - (intOf tv).toNat)
  case atStart => exact ⟨0, Nat.zero_le _, rfl, rfl, Below.refl _ _⟩
  case round =>
    obtain ⟨k, hk, rfl, rfl, hbr⟩ := hrel
    have HB4r := Lib.hid hbr
    have gr' := keep_block hbr g4 (lt_of_block g4)
    have pr' := keep_block hbr p4 (lt_of_block p4)
    have HRr := Lib.hid (HR4.out.below hbr)
    obtain ⟨cg0, cg1, cg2, cg3⟩ := cells4 gr'
    have cq := cell1 pr'
    clear hbr
    by_cases hlt : k < 4
    · have hkw : (Lit.int .i64 (k : Int)).wf = true := wf_of (by omega)
      have hNr := tlF_range ga gb gr gd l (k : Int)
      have hSr := tlS_range ga gb gr gd l k
      have hS1 : tlS ga gb gr gd l (k + 1) = tlS ga gb gr gd l k + tlF ga gb gr gd l (k : Int) := rfl
      obtain ⟨N, hN⟩ : ∃ N, tlF ga gb gr gd l (k : Int) = N := ⟨_, rfl⟩
      have HNN := Lib.hid hN
      obtain ⟨S, hS⟩ : ∃ S, tlS ga gb gr gd l k = S := ⟨_, rfl⟩
      rw [hN] at hNr hS1
      rw [hS] at hSr hS1 ⊢
      have HS1 := Lib.hid hS1
      have e1 : IntKind.i64.wrap (S + N) = S + N := IntWalk.i64_in _ ⟨by omega, by omega⟩
      have tNN : (N != N) = false := by simp
      clear hN hS hS1
      go_wp2_with fail
      refine (implTenLines_is _ _ _ _ _ _ _ _ HN.out (by omega) HW.out (k : Int) hkw N HNN.out _ HRr.out).mono ?_
      rintro e w5 ⟨rfl, hb5⟩
      have g5 := keep_block hb5 gr' (lt_of_block gr')
      have p5 := keep_block hb5 pr' (lt_of_block pr')
      have HB5 : Hid (Below w4.heap.size w4 w5) := HB4r.out.trans (hb5.mono HB4r.out.size)
      have HR5 := Lib.hid (HRr.out.below hb5)
      clear hb5 gr' pr' HB4r HRr cg0 cg1 cg2 cg3 cq
      obtain ⟨cg0, cg1, cg2, cg3⟩ := cells4 g5
      have cq := cell1 p5
      go_wp2_with fail
      refine (specTenLines_is _ _ _ _ _ _ _ _ HN.out (by omega) HW.out (k : Int) hkw N HNN.out _ HR5.out).mono ?_
      rintro e w6 ⟨rfl, hb6⟩
      have g6 := keep_block hb6 g5 (lt_of_block g5)
      have p6 := keep_block hb6 p5 (lt_of_block p5)
      have HB6 : Hid (Below w4.heap.size w4 w6) := HB5.out.trans (hb6.mono HB5.out.size)
      have HR6 := Lib.hid (HR5.out.below hb6)
      clear hb6 g5 p5 HB5 HR5 cg0 cg1 cg2 cg3 cq
      by_cases h0 : N = 0
      · have t0 : (N == 0) = true := by simpa using h0
        go_wp2_with fail
        go_roundw
        case rel => exact ⟨k + 1, by omega, by go_num, by rw [HS1.out]; first | rfl | (congr 1; omega), HB6.out⟩
        case measure => simp [intOf]; omega
      · have t0 : (N == 0) = false := by simpa using h0
        obtain ⟨p0, hc0, p00, p01⟩ := PL.out k (by omega)
        have hc6 := keep_cell HB6.out hc0 (World.block_lt_of_cell? _ _ hc0)
        obtain ⟨ln, hlnd⟩ : ∃ u, p0 % N = u := ⟨_, rfl⟩
        have ln0 : 0 ≤ ln := by rw [← hlnd]; exact Int.emod_nonneg _ h0
        have ln1 : ln < N := by rw [← hlnd]; exact Int.emod_lt_of_pos _ (by omega)
        have em : p0.tmod N = ln := by rw [Int.tmod_eq_emod_of_nonneg p00, hlnd]
        have hlw : (Lit.int .i64 ln).wf = true := wf_of (by omega)
        have hT : TlOk ga gb gr gd l (k : Int) ln := ⟨ln0, by rw [HNN.out]; omega⟩
        have hTA : taF ga gb gr gd l (k : Int) ln = .tuple #[.agg #[.int .i64 ((bkL l (k : Int)).getD (ln % ((bkL l (k : Int)).length : Int)).toNat 0), .int .i64 (ln / ((bkL l (k : Int)).length : Int) / gd), .int .i64 (ln / ((bkL l (k : Int)).length : Int) % gd)], .bool true] := if_pos hT
        obtain ⟨i, hi, ho, he, had⟩ := ta_addr hT
        have hbk := ta_back hT
        rw [he] at hTA hbk
        obtain ⟨y, hy⟩ : ∃ y, ln / ((bkL l (k : Int)).length : Int) / gd = y := ⟨_, rfl⟩
        obtain ⟨zc, hzc⟩ : ∃ y, ln / ((bkL l (k : Int)).length : Int) % gd = y := ⟨_, rfl⟩
        rw [hy, hzc] at hTA hbk had
        have HTA := Lib.hid hTA
        have HBK := Lib.hid hbk
        have KA := Lib.hid (decide_eq_true had)
        have HO := Lib.hid ho
        have hin : i < n := by rw [← HN.out]; exact hi
        have tkk : ((k : Int) != (k : Int)) = false := by simp
        have tll : (ln != ln) = false := by simp
        clear hT hTA hbk he had hy hzc hlnd ho hi hc0
        obtain ⟨cg0, cg1, cg2, cg3⟩ := cells4 g6
        have cq := cell1 p6
        go_wp2_with fail
        refine (implTenAddr_is ga gb gr gd _ _ _ _ HN.out (by omega) HW.out (k : Int) hkw ln hlw _ HR6.out).mono ?_
        intro e w7 hg7
        rw [HTA.out] at hg7
        obtain ⟨rfl, hb7⟩ := hg7
        have g7 := keep_block hb7 g6 (lt_of_block g6)
        have p7 := keep_block hb7 p6 (lt_of_block p6)
        have HB7 : Hid (Below w4.heap.size w4 w7) := HB6.out.trans (hb7.mono HB6.out.size)
        have HR7 := Lib.hid (HR6.out.below hb7)
        clear hb7 g6 p6 HB6 HR6 cg0 cg1 cg2 cg3 cq hc6
        obtain ⟨w8, hw8⟩ : ∃ u, w7.alloc (.cells #[.int .i64 (i : Int), .int .i64 y, .int .i64 zc] 36) = u := ⟨_, rfl⟩
        have hb8 : Below w7.heap.size w7 w8 := by rw [← hw8]; exact (Below.refl _ _).alloc (Nat.le_refl _) _
        have a8 : w8.heap[w7.heap.size]? = some (.cells #[.int .i64 (i : Int), .int .i64 y, .int .i64 zc] 36) := by rw [← hw8]; exact heap_alloc_new _ _
        have g8 := keep_block hb8 g7 (lt_of_block g7)
        have p8 := keep_block hb8 p7 (lt_of_block p7)
        have HB8 : Hid (Below w4.heap.size w4 w8) := HB7.out.trans (hb8.mono HB7.out.size)
        have HR8 := Lib.hid (HR7.out.below hb8)
        obtain ⟨aB, haB⟩ : ∃ u, w7.heap.size = u := ⟨_, rfl⟩
        rw [haB] at a8
        clear hb8 g7 p7 HB7 HR7
        obtain ⟨cg0, cg1, cg2, cg3⟩ := cells4 g8
        have cq := cell1 p8
        obtain ⟨ca0, ca1, ca2⟩ := cells3 a8
        go_wp2_with fail
        clear hw8
        (try simp only [haB])
        clear haB
        refine (implTenLine_is ga gb gr gd _ _ _ _ HN.out (by omega) HW.out (i : Int) y zc _ HR8.out).mono ?_
        intro e w9 hg9
        rw [HBK.out] at hg9
        obtain ⟨rfl, hb9⟩ := hg9
        have g9 := keep_block hb9 g8 (lt_of_block g8)
        have p9 := keep_block hb9 p8 (lt_of_block p8)
        have a9 := keep_block hb9 a8 (lt_of_block a8)
        have HB9 : Hid (Below w4.heap.size w4 w9) := HB8.out.trans (hb9.mono HB8.out.size)
        have HR9 := Lib.hid (HR8.out.below hb9)
        clear hb9 g8 p8 a8 HB8 HR8 cg0 cg1 cg2 cg3 cq ca0 ca1 ca2
        obtain ⟨cg0, cg1, cg2, cg3⟩ := cells4 g9
        have cq := cell1 p9
        obtain ⟨ca0, ca1, ca2⟩ := cells3 a9
        go_wp2_with fail
        refine (specAddrOk_is _ _ _ _ _ _ _ _ KA.out _).mono ?_
        rintro e w10 ⟨rfl, hb10⟩
        have g10 := keep_block hb10 g9 (lt_of_block g9)
        have p10 := keep_block hb10 p9 (lt_of_block p9)
        have a10 := keep_block hb10 a9 (lt_of_block a9)
        have HB10 : Hid (Below w4.heap.size w4 w10) := HB9.out.trans (hb10.mono HB9.out.size)
        obtain ⟨rb, off, rfl, hcx⟩ := (HR9.out.below hb10).at (k := i) (by rw [HN.out]; exact hin)
        rw [HO.out] at hcx
        clear hb10 g9 p9 a9 HB9 HR9 cg0 cg1 cg2 cg3 cq ca0 ca1 ca2
        have cq := cell1 p10
        obtain ⟨ca0, ca1, ca2⟩ := cells3 a10
        go_wp2_with fail
        go_roundw
        case rel => exact ⟨k + 1, by omega, by go_num, by rw [HS1.out], HB10.out⟩
        case measure => simp [intOf]; omega
    · obtain rfl : k = 4 := by omega
      have hS4 := tlS_four HKP.out
      obtain ⟨M, hM⟩ : ∃ M, lineN ga gb gr gd = M := ⟨_, rfl⟩
      have HM := Lib.hid hM
      rw [hM] at hS4
      rw [hS4]
      have tMM : (M == M) = true := by simp
      have HBw : Hid (Below w.heap.size w wr) := HB4.out.trans (HB4r.out.mono HB4.out.size)
      clear hS4 hM
      go_wp2_with fail
      refine (specLine_is _ _ _ _ _ HM.out _).mono ?_
      rintro e w5 ⟨rfl, hb5⟩
      have g5 := keep_block hb5 gr' (lt_of_block gr')
      have p5 := keep_block hb5 pr' (lt_of_block pr')
      have HB5 : Hid (Below w.heap.size w w5) := HBw.out.trans (hb5.mono HBw.out.size)
      have HR5 := Lib.hid (HRr.out.below hb5)
      clear hb5 gr' pr' HB4r HBw HRr cg0 cg1 cg2 cg3 cq
      obtain ⟨cg0, cg1, cg2, cg3⟩ := cells4 g5
      have cq := cell1 p5
      go_wp2_with fail
      refine (implPtOk_is _ _ _ _ _ _ _ _ HN.out (by omega) _ KP.out _ HR5.out).mono ?_
      rintro e w6 ⟨rfl, hb6⟩
      have HB6 : Hid (Below w.heap.size w w6) := HB5.out.trans (hb6.mono HB5.out.size)
      clear hb6
      go_wp2
      go_ret
      exact ⟨rfl, HB6.out⟩

end Go.Proofs.Ytljcdjhafhppbaa
