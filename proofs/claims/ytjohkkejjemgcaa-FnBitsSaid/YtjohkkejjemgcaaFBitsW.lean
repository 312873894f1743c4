/-
  The walks of FnBits and FnMixed: whatever word and places are drawn, the answers are as the laws ask.
-/
import Derived.Test.YtjohkkejjemgcaaDraw2W
import Derived.Test.YtjohkkejjemgcaaBitsW
namespace Go.Proofs.Ytjohkkejjemgcaa
open Go.RowKit

set_option linter.unusedVariables false

/-- What spec.l02Word picks among. -/
def wordEdges : List Int := [0, 1, 4294967295, 2147483648, 65536, 305419896]

set_option maxHeartbeats 1000000 in
theorem l02Word_any {c B : Nat} {w : World} (hc : Cur c B w) :
    Calls Try.prog 26 #[.pointer (some ⟨c, 0, none⟩)] w (DrewP Wd c B w) := by
  go_enter Try.func26, Try.ntmps26
  go_wp2_with fail
  refine (l01Below_any hc 4 (by omega)).mono ?_
  rintro e w1 ⟨x, rfl, hx0, hx1, hc1, ho1⟩
  by_cases h0 : x = 0
  · subst h0
    have hlt := hc1.lt
    go_wp2_with fail
    refine (l01PickInt_any Wd (hc1.alloc _) w1.heap.size 6 wordEdges (ints_new _ _ _ _ rfl) (by omega) (by decide) (by decide) (by unfold wordEdges Wd; decide)).mono ?_
    rintro e w2 ⟨y, rfl, hy, hc2, ho2⟩
    go_wp2
    go_ret
    exact ⟨_, rfl, hy, hc2, ho1.trans (((Only.refl _ _).alloc _).trans ho2)⟩
  · by_cases h1 : x = 1
    · subst h1
      go_wp2_with fail
      refine (l01Below_any hc1 200 (by omega)).mono ?_
      rintro e w2 ⟨y, rfl, hy0, hy1, hc2, ho2⟩
      rw [topOf_pos (by omega)] at hy1
      go_wp2
      go_ret
      exact ⟨_, rfl, ⟨by omega, by omega⟩, hc2, ho1.trans ho2⟩
    · have t0 : (x == 0) = false := by simpa using h0
      have t1 : (x == 1) = false := by simpa using h1
      go_wp2_with fail
      refine (l01Below_any hc1 65536 (by omega)).mono ?_
      rintro e w2 ⟨y, rfl, hy0, hy1, hc2, ho2⟩
      rw [topOf_pos (by omega)] at hy1
      go_wp2_with fail
      refine (l01Below_any hc2 65536 (by omega)).mono ?_
      rintro e w3 ⟨z, rfl, hz0, hz1, hc3, ho3⟩
      rw [topOf_pos (by omega)] at hz1
      go_wp2
      go_ret
      exact ⟨_, rfl, ⟨by omega, by omega⟩, hc3, (ho1.trans ho2).trans ho3⟩

/-- What a drawn word leaves. -/
def DrewWord (w : World) (e : Ending) (w' : World) : Prop := ∃ x : Int, e = .returned (.int .i64 x) ∧ Wd x ∧ Below w.heap.size w w'

theorem drawWord_any {a : Option Addr} {len cap : Nat} {zs : List Int} {w : World} (hr : IsRow .u8 w a len cap zs) :
    Calls Try.prog 12 #[.slice a len cap] w (DrewWord w) := by
  go_enter Try.func12, Try.ntmps12
  go_wp2_with fail
  refine (l01New_any hr).mono ?_
  rintro e w1 ⟨c, rfl, hB, hc1, hb1⟩
  have hs1 := Lib.hid hb1.size
  go_wp2_with fail
  refine (l02Word_any hc1).mono ?_
  rintro e w2 ⟨x, rfl, hx, hc2, ho2⟩
  go_wp2
  go_ret
  exact ⟨_, rfl, hx, hb1.trans (ho2.below hB hs1.out)⟩

/-- A place that was drawn. -/
theorem place_at {B g cap : Nat} {l : List Int} {w : World} (h : OwnI B (.slice (some ⟨g, 0, none⟩) 12 cap) l w) (hl : l.length = 12) (hp : ∀ x ∈ l, 0 ≤ x ∧ x ≤ 9999) (k : Nat) (hk : k < 12) :
    ∃ p : Int, w.cell? ⟨g, k, none⟩ = some (.int .i64 p) ∧ 0 ≤ p ∧ p ≤ 9999 := by
  have hk' : k < l.length := by omega
  have hc := World.ownsRow.cells h (g := g) rfl k (.int .i64 l[k]) (by simp [hk'])
  refine ⟨l[k], ?_, hp _ (List.getElem_mem _)⟩
  rwa [Addr.add_lit, Nat.zero_add] at hc

/-- A call that answers v, met in a region that draws. -/
theorem Says.quiet {f : FuncId} {args : Array Value} {w : World} {n : Nat} {v : Value} (h : Calls Try.prog f args (w.drewN n) (Says v (w.drewN n))) :
    Calls Try.prog f args (w.drewN n) fun e w'' => e = .returned v ∧ ∃ m, w'' = w.drewN m :=
  h.mono fun _ _ ⟨he, hm⟩ => ⟨he, n, hm.symm⟩

theorem implBitOf_is (x i v : Int) (h : bitF x i = v) (w : World) : Calls Try.prog 15 #[.int .i64 x, .int .i64 i] w (Says (.int .i64 v) w) := h ▸ implBitOf_any x i w

theorem implWithBit_is (x i b v : Int) (h : setF x i b = v) (w : World) : Calls Try.prog 14 #[.int .i64 x, .int .i64 i, .int .i64 b] w (Says (.int .i64 v) w) := h ▸ implWithBit_any x i b w

theorem implCountBits_is (x v : Int) (h : cntTo x 32 = v) (w : World) : Calls Try.prog 17 #[.int .i64 x] w (Says (.int .i64 v) w) := h ▸ implCountBits_any x w

theorem implParityOf_is (x v : Int) (h : parF x = v) (w : World) : Calls Try.prog 18 #[.int .i64 x] w (Says (.int .i64 v) w) := h ▸ implParityOf_any x w

/-- What setting a bit gives. -/
theorem setF_facts {x i b : Int} (hx : Wd x) (hi : Bn i) (hb : b = 0 ∨ b = 1) :
    Wd (setF x i b) ∧ bitF (setF x i b) i = b ∧ ∀ k : Nat, k < 32 → (k : Int) ≠ i → bitF (setF x i b) k = bitF x k := by
  obtain ⟨n, rfl⟩ := Int.eq_ofNat_of_zero_le hx.1
  obtain ⟨j, rfl⟩ := Int.eq_ofNat_of_zero_le hi.1
  obtain ⟨d, rfl⟩ := Int.eq_ofNat_of_zero_le (show 0 ≤ b by omega)
  have hn : n < 2 ^ 32 := by have := hx.2; omega
  have hj : j < 32 := by have := hi.2; omega
  have hd : d ≤ 1 := by omega
  have e : setF n j d = ((setN n j d : Nat) : Int) := by
    unfold setF
    rw [if_pos ⟨hx, hi, hb⟩, Int.toNat_natCast, Int.toNat_natCast, Int.toNat_natCast]
  have hs := setN_lt n j d hn hj hd
  rw [e]
  refine ⟨⟨by omega, by omega⟩, ?_, ?_⟩
  · rw [bitF_nat _ j hs hj, setN_bit n j d j hd, if_pos rfl]
    have hd' : d = 0 ∨ d = 1 := by omega
    rcases hd' with rfl | rfl <;> rfl
  · intro k hk hne
    rw [bitF_nat _ k hs hk, bitF_nat n k hn hk, setN_bit n j d k hd, if_neg (by omega)]

theorem cnt_max : cntTo 4294967295 32 = 32 := by decide +kernel

set_option maxHeartbeats 2000000 in
theorem bits_walk (a : Option Addr) (len cap : Nat) (z : List Int) (w : World) (hr : IsRow .u8 w a len cap z) :
    Calls Try.prog 3 #[.slice a len cap] w fun e w' => e = .returned (.bool true) ∧ Below w.heap.size w w' := by
  have hl := hr.len_le
  unfold maxLen at hl
  by_cases hbig : (1048576 : Int) < (len : Int)
  · go_enter Try.func3, Try.ntmps3
    go_wp2_with (go_at_call 11; refine (big_any _ _ _ _ (by omega)).mono ?_; rintro e w' ⟨rfl, rfl⟩)
    go_ret
    exact ⟨rfl, Below.refl _ _⟩
  · go_enter Try.func3, Try.ntmps3
    go_wp2_with (go_at_call 11; refine (big_any _ _ _ _ (by omega)).mono ?_; rintro e w' ⟨rfl, rfl⟩)
    refine (drawWord_any hr).mono ?_
    rintro e w1 ⟨x, rfl, hx, hb1⟩
    have HR1 := Lib.hid (hr.below (fun x hx hc => hr.lt hx hc) hb1)
    have HB1 := Lib.hid hb1
    have HX := Lib.hid hx
    clear hr hb1 hx
    go_wp2_with fail
    refine (drawPlaces_any HR1.out).mono ?_
    rintro e w2 ⟨g, c2, l, rfl, hl12, hp, ho2, hb2⟩
    obtain ⟨p0, hc0, p00, p01⟩ := place_at ho2 hl12 hp 0 (by omega)
    obtain ⟨p1, hc1, p10, p11⟩ := place_at ho2 hl12 hp 1 (by omega)
    have HB2 : Hid (Below w.heap.size w w2) := HB1.out.trans (hb2.mono HB1.out.size)
    clear ho2 hl12 hp hb2 HB1 HR1
    obtain ⟨i, hi⟩ : ∃ i, p0 % 32 = i := ⟨_, rfl⟩
    obtain ⟨b, hb⟩ : ∃ b, p1 % 2 = b := ⟨_, rfl⟩
    have e0 : p0.tmod 32 = i := by rw [Int.tmod_eq_emod_of_nonneg p00, hi]
    have e1 : p1.tmod 2 = b := by rw [Int.tmod_eq_emod_of_nonneg p10, hb]
    have i0 : 0 ≤ i := by omega
    have i1 : i ≤ 31 := by omega
    have b01 : b = 0 ∨ b = 1 := by omega
    obtain ⟨hyw, hyi, hyk⟩ := setF_facts HX.out ⟨i0, i1⟩ b01
    obtain ⟨y, hy⟩ : ∃ y, setF x i b = y := ⟨_, rfl⟩
    rw [hy] at hyw hyi hyk
    have HY := Lib.hid hy
    have HYW := Lib.hid (decide_eq_true hyw)
    have HYI := Lib.hid hyi
    have HYK := Lib.hid hyk
    clear hy hyw hyi hyk hi hb b01
    go_wp2_with (go_at_call 14; refine (implWithBit_is _ _ _ _ HY.out _).mono ?_; rintro e w' ⟨rfl, rfl⟩)
    go_loop [7, 8] (fun s k => ∃ m : Nat, m ≤ 32 ∧ k = .int .i64 m ∧ s = .int .i64 (cntTo x m)) (fun _ k => 32 - (intOf k).toNat)
    case atStart => exact ⟨0, by omega, rfl, rfl⟩
    case round =>
      obtain ⟨m, hm, rfl, rfl⟩ := hrel
      by_cases hlt : m < 32
      · have r1 := cntTo_range x m
        have r2 := bitF_range x m
        have HE := Lib.hid (show cntTo x m + bitF x m = cntTo x (m + 1) from rfl)
        obtain ⟨s, hs⟩ : ∃ s, cntTo x m = s := ⟨_, rfl⟩
        rw [hs] at r1 HE ⊢
        clear hs
        obtain ⟨t, ht⟩ : ∃ t, bitF x m = t := ⟨_, rfl⟩
        rw [ht] at r2 HE
        have HT := Lib.hid ht
        clear ht
        by_cases hmi : (m : Int) = i
        · subst hmi
          go_wp2_with (go_at_call 15; refine (implBitOf_is _ _ _ HT.out _).mono ?_; rintro e w' ⟨rfl, rfl⟩)
          go_round
          case rel => exact ⟨m + 1, by omega, by go_num, by show Value.int .i64 _ = _; rw [← HE.out]⟩
          case measure => simp [intOf]; omega
        · have HT2 := Lib.hid ((HYK.out m hlt hmi).trans HT.out)
          have t0 : ((m : Int) == i) = false := by simpa using hmi
          go_wp2_with (first | (go_at_call_of 15 y; refine (implBitOf_is _ _ _ HT2.out _).mono ?_; rintro e w' ⟨rfl, rfl⟩) | (go_at_call_of 15 x; refine (implBitOf_is _ _ _ HT.out _).mono ?_; rintro e w' ⟨rfl, rfl⟩))
          go_round
          case rel => exact ⟨m + 1, by omega, by go_num, by show Value.int .i64 _ = _; rw [← HE.out]⟩
          case measure => simp [intOf]; omega
      · obtain rfl : m = 32 := by omega
        have r1 := cntTo_range x 32
        have HP := Lib.hid (show parF x = cntTo x 32 % 2 from rfl)
        obtain ⟨s, hs⟩ : ∃ s, cntTo x 32 = s := ⟨_, rfl⟩
        rw [hs] at r1 HP ⊢
        have HS := Lib.hid hs
        have e2 : s.tmod 2 = s % 2 := Int.tmod_eq_emod_of_nonneg (by omega)
        clear hs
        go_wp2_with fail
        go_quiet (first
          | (go_at_call 16; exact Says.quiet (implIsWord_is _ _ HYW.out _))
          | (go_at_call 15; exact Says.quiet (implBitOf_is _ _ _ HYI.out _))
          | (go_at_call_of 17 x; exact Says.quiet (implCountBits_is _ _ HS.out _))
          | (go_at_call 18; exact Says.quiet (implParityOf_is _ _ HP.out _))
          | (go_at_call 17; exact Says.quiet (implCountBits_is _ _ cnt_max _)))
        go_wp2
        go_ret
        exact ⟨rfl, HB2.out.os, HB2.out.tape, HB2.out.output, HB2.out.size, HB2.out.block⟩

theorem specBitOf_is (x i v : Int) (h : bitF x i = v) (w : World) : Calls Try.prog 20 #[.int .i64 x, .int .i64 i] w (Says (.int .i64 v) w) := h ▸ specBitOf_any x i w

theorem specWithBit_is (x i b v : Int) (h : setF x i b = v) (w : World) : Calls Try.prog 19 #[.int .i64 x, .int .i64 i, .int .i64 b] w (Says (.int .i64 v) w) := h ▸ specWithBit_any x i b w

theorem implMix_is (x v : Int) (h : mixF x = v) (w : World) : Calls Try.prog 21 #[.int .i64 x] w (Says (.int .i64 v) w) := h ▸ implMix_any x w

theorem mixF_wd (x : Int) : Wd (mixF x) := by
  unfold mixF
  split
  · have := mixN_lt x.toNat
    exact ⟨by omega, by omega⟩
  · exact ⟨by decide, by decide⟩

theorem mixF_inj {x y : Int} (hx : Wd x) (hy : Wd y) (h : mixF x = mixF y) : x = y := by
  unfold mixF at h
  rw [if_pos hx, if_pos hy] at h
  obtain ⟨n, rfl⟩ := Int.eq_ofNat_of_zero_le hx.1
  obtain ⟨m, rfl⟩ := Int.eq_ofNat_of_zero_le hy.1
  have h1 := hx.2
  have h2 := hy.2
  rw [Int.toNat_natCast, Int.toNat_natCast] at h
  rw [mixN_inj (x := n) (y := m) (by omega) (by omega) (by omega)]

theorem mix_zero : mixF 0 = 0 := by decide +kernel

set_option maxHeartbeats 2000000 in
theorem mixed_walk (a : Option Addr) (len cap : Nat) (z : List Int) (w : World) (hr : IsRow .u8 w a len cap z) :
    Calls Try.prog 4 #[.slice a len cap] w fun e w' => e = .returned (.bool true) ∧ Below w.heap.size w w' := by
  have hl := hr.len_le
  unfold maxLen at hl
  by_cases hbig : (1048576 : Int) < (len : Int)
  · go_enter Try.func4, Try.ntmps4
    go_wp2_with (go_at_call 11; refine (big_any _ _ _ _ (by omega)).mono ?_; rintro e w' ⟨rfl, rfl⟩)
    go_ret
    exact ⟨rfl, Below.refl _ _⟩
  · go_enter Try.func4, Try.ntmps4
    go_wp2_with (go_at_call 11; refine (big_any _ _ _ _ (by omega)).mono ?_; rintro e w' ⟨rfl, rfl⟩)
    refine (drawWord_any hr).mono ?_
    rintro e w1 ⟨x, rfl, hx, hb1⟩
    have HR1 := Lib.hid (hr.below (fun x hx hc => hr.lt hx hc) hb1)
    have HB1 := Lib.hid hb1
    have HX := Lib.hid hx
    clear hr hb1 hx
    go_wp2_with fail
    refine (drawPlaces_any HR1.out).mono ?_
    rintro e w2 ⟨g, c2, l, rfl, hl12, hp, ho2, hb2⟩
    obtain ⟨p0, hc0, p00, p01⟩ := place_at ho2 hl12 hp 0 (by omega)
    have HB2 : Hid (Below w.heap.size w w2) := HB1.out.trans (hb2.mono HB1.out.size)
    clear ho2 hl12 hp hb2 HB1 HR1
    obtain ⟨i, hi⟩ : ∃ i, p0 % 32 = i := ⟨_, rfl⟩
    have e0 : p0.tmod 32 = i := by rw [Int.tmod_eq_emod_of_nonneg p00, hi]
    have i0 : 0 ≤ i := by omega
    have i1 : i ≤ 31 := by omega
    have r := bitF_range x i
    obtain ⟨t, ht⟩ : ∃ t, bitF x i = t := ⟨_, rfl⟩
    rw [ht] at r
    obtain ⟨hyw, hyi, _⟩ := setF_facts (b := 1 - t) HX.out ⟨i0, i1⟩ (by omega)
    have hne : setF x i (1 - t) ≠ x := fun h => by rw [h, ht] at hyi; omega
    obtain ⟨y, hy⟩ : ∃ y, setF x i (1 - t) = y := ⟨_, rfl⟩
    rw [hy] at hyw hne
    have HT := Lib.hid ht
    have HY := Lib.hid hy
    have mne : mixF x ≠ mixF y := fun h => hne (mixF_inj HX.out hyw h).symm
    have HW := Lib.hid (decide_eq_true (mixF_wd x))
    obtain ⟨u, hu⟩ : ∃ u, mixF x = u := ⟨_, rfl⟩
    obtain ⟨v, hv⟩ : ∃ v, mixF y = v := ⟨_, rfl⟩
    rw [hu, hv] at mne
    rw [hu] at HW
    have HU := Lib.hid hu
    have HV := Lib.hid hv
    have HN := Lib.hid (show (u != v) = true by simpa using mne)
    have e1 : IntKind.i64.wrap (1 - t) = 1 - t := IntWalk.i64_in _ ⟨by omega, by omega⟩
    clear hy hyw hyi hi hne ht hu hv
    go_wp2_with fail
    go_quiet (first
      | (go_at_call 20; exact Says.quiet (specBitOf_is _ _ _ HT.out _))
      | (go_at_call 19; exact Says.quiet (specWithBit_is _ _ _ _ HY.out _)))
    go_wp2_with (first
      | (go_at_call 16; refine (implIsWord_is _ _ HW.out _).mono ?_; rintro e w' ⟨rfl, rfl⟩)
      | (go_at_call_of 21 x; refine (implMix_is _ _ HU.out _).mono ?_; rintro e w' ⟨rfl, rfl⟩)
      | (go_at_call_of 21 y; refine (implMix_is _ _ HV.out _).mono ?_; rintro e w' ⟨rfl, rfl⟩)
      | (go_at_call 21; refine (implMix_is _ _ mix_zero _).mono ?_; rintro e w' ⟨rfl, rfl⟩))
    go_ret
    exact ⟨ret_b HN.out, HB2.out.os, HB2.out.tape, HB2.out.output, HB2.out.size, HB2.out.block⟩

end Go.Proofs.Ytjohkkejjemgcaa
