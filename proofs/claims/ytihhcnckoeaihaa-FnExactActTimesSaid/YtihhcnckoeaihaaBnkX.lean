/-
  The laws' own words on banks and ranks: copied, counted, equal, marked, held.
-/
import Derived.Test.YtihhcnckoeaihaaBnkR
import Derived.Test.YtihhcnckoeaihaaGeoI
import Derived.Test.YtihhcnckoeaihaaOpen
namespace Go.Proofs.Ytihhcnckoeaihaa
open Go.RowKit Go.PlainAid

set_option linter.unusedVariables false

theorem eqBank_is (o : Bool) (r : Int) (w : World) :
    Calls Try.prog 63 #[.agg #[.bool o, .int .i64 r], .agg #[.bool o, .int .i64 r]] w (Gives (.bool true) w) := by
  have t1 : (o != o) = false := by simp
  have t2 : (r != r) = false := by simp
  go_enter Try.func63, Try.ntmps63
  go_wp2
  go_ret
  refine ⟨rfl, ?_⟩
  repeat' (first | exact Below.refl _ _ | refine Below.drew ?_ | refine Below.alloc ?_ (by simp <;> omega) _ | refine Below.setCell ?_ (by simp <;> omega) _)

set_option maxHeartbeats 2000000 in
/-- Two rows of banks that are alike. -/
theorem eqBankS_is {a b : Option Addr} {ca cb : Nat} {l : List Bk} {w : World} {n : Nat} (hn : l.length = n) (ha : RowB w a l) (hb : RowB w b l) (hl : (n : Int) ≤ 9223372036854775807) :
    Calls Try.prog 41 #[.slice a n ca, .slice b n cb] w (Gives (.bool true) w) := by
  have HN := Lib.hid hn
  have HA := Lib.hid ha
  have HB := Lib.hid hb
  clear hn ha hb
  go_enter Try.func41, Try.ntmps41
  go_wp2_with fail
  go_loopw [5] (fun i wr => ∃ k : Nat, k ≤ n ∧ i = .int .i64 k ∧ Below w.heap.size w wr) (fun i _ => n - (intOf i).toNat)
  case atStart => exact ⟨0, Nat.zero_le _, rfl, Below.refl _ _⟩
  case round =>
    obtain ⟨k, hk, rfl, hbr⟩ := hrel
    have HBR := Lib.hid hbr
    clear hbr
    by_cases hlt : k < n
    · obtain ⟨ba, oa, rfl, ha0, ha1⟩ := (HA.out.below HBR.out).at (k := k) (by rw [HN.out]; exact hlt)
      obtain ⟨bb, ob, rfl, hb0, hb1⟩ := (HB.out.below HBR.out).at (k := k) (by rw [HN.out]; exact hlt)
      generalize (l.getD k bk0).op = o at ha0 hb0
      generalize (l.getD k bk0).row = r at ha1 hb1
      have za0 := fun q : Later wr => q.cell ha0
      have za1 := fun q : Later wr => q.cell ha1
      have zb0 := fun q : Later wr => q.cell hb0
      have zb1 := fun q : Later wr => q.cell hb1
      clear ha0 ha1 hb0 hb1
      go_wp2_with fail
      refine wp_region_later (by kernel_rfl) (by kernel_rfl) ?_
      repeat (go_big_quiet_step ((go_at_call 63; exact Gives.later _ (eqBank_is _ _ _))))
      refine wpQuiet_nil ?_
      rintro w2 ⟨zz, hz⟩
      have HB2 : Hid (Below w.heap.size w w2) := HBR.out.trans ((hz ▸ zz.ok : Below wr.heap.size wr w2).mono HBR.out.size)
      clear za0 za1 zb0 zb1 hz zz
      go_wp2
      go_roundw
      case rel => exact ⟨k + 1, by omega, by go_num, HB2.out⟩
      case measure => simp [intOf]; omega
    · go_wp2_with fail
      go_ret
      exact ⟨rfl, HBR.out⟩

theorem eqRank_is {a b : Option Addr} {ca cb : Nat} {l : List Bk} {w : World} {n : Nat} (pw : Int) (hn : l.length = n) (ha : RowB w a l) (hb : RowB w b l) (hl : (n : Int) ≤ 9223372036854775807) :
    Calls Try.prog 15 #[.agg #[.slice a n ca, .int .i64 pw], .agg #[.slice b n cb, .int .i64 pw]] w (Gives (.bool true) w) := by
  obtain ⟨w1, hw1⟩ : ∃ u, (w.alloc (.cells #[.slice a n ca, .int .i64 pw] 40)).alloc (.cells #[.slice b n cb, .int .i64 pw] 40) = u := ⟨_, rfl⟩
  have HB1 : Hid (Below w.heap.size w w1) := by subst hw1; exact ((Below.refl _ _).alloc (Nat.le_refl _) _).alloc (by simp) _
  have g1 : w1.heap[w.heap.size]? = some (.cells #[.slice a n ca, .int .i64 pw] 40) := by subst hw1; exact heap_alloc2_old _ _ _
  have p1 : w1.heap[w.heap.size + 1]? = some (.cells #[.slice b n cb, .int .i64 pw] 40) := by subst hw1; exact heap_alloc2_new _ _ _
  obtain ⟨c0, c1⟩ := cells2 g1
  obtain ⟨d0, d1⟩ := cells2 p1
  have HN := Lib.hid hn
  have HA := Lib.hid (ha.below HB1.out)
  have HC := Lib.hid (hb.below HB1.out)
  have t1 : (pw != pw) = false := by simp
  clear hn ha hb
  go_enter Try.func15, Try.ntmps15
  go_wp2_with fail
  refine (eqBankS_is HN.out HA.out HC.out hl).mono ?_
  rintro e w2 ⟨rfl, hb2⟩
  have g2 := keep_block hb2 g1 (lt_of_block g1)
  have p2 := keep_block hb2 p1 (lt_of_block p1)
  have HB2 : Hid (Below w.heap.size w w2) := HB1.out.trans (hb2.mono HB1.out.size)
  clear hb2 c0 c1 d0 d1
  obtain ⟨c0, c1⟩ := cells2 g2
  obtain ⟨d0, d1⟩ := cells2 p2
  go_wp2
  go_ret
  exact ⟨rfl, HB2.out⟩

/-- The mark behind k banks. -/
def mkK (k0 k : Nat) : Int := ((k0 + 2 * k : Nat) : Int)

theorem mkK_succ (k0 k : Nat) : mkK k0 k + 1 + 1 = mkK k0 (k + 1) := by unfold mkK; omega

theorem mkK_zero (k0 : Nat) : mkK k0 0 = (k0 : Int) := by unfold mkK; omega

/-- A marked bank. -/
def markB (x : Int) : Bk := ⟨x % 3 == 0, x + 1⟩

/-- n marked banks. -/
def marksK (k0 n : Nat) : List Bk := (List.range n).map fun i => markB (mkK k0 i)

theorem marksK_length (k n : Nat) : (marksK k n).length = n := by simp [marksK]

theorem marksK_get (k n i : Nat) (h : i < n) : (marksK k n).getD i bk0 = markB (mkK k i) := by
  rw [List.getD_eq_getElem?_getD, List.getElem?_eq_getElem (by rw [marksK_length]; exact h)]
  simp [marksK]

theorem marksK_step (k j : Nat) (l : List Bk) (h : j < l.length) : (marksK k j ++ l.drop j).set j (markB (mkK k j)) = marksK k (j + 1) ++ l.drop (j + 1) := by
  rw [List.set_append_right _ _ (by rw [marksK_length]; omega), marksK_length, Nat.sub_self, List.drop_eq_getElem_cons h, List.set_cons_zero]
  simp [marksK, List.range_succ]

theorem mark_facts (x : Int) (h0 : 0 ≤ x) (h1 : x ≤ 8000000000) : IntKind.i64.wrap (x % 3) = x % 3 ∧ IntKind.i64.wrap (x + 1) = x + 1 ∧ IntKind.i64.wrap (x + 1 + 1) = x + 1 + 1 := by
  have e1 := Int.emod_nonneg x (show (3 : Int) ≠ 0 by omega)
  have e2 := Int.emod_lt_of_pos x (show (0 : Int) < 3 by omega)
  exact ⟨IntWalk.i64_in _ (by omega), IntWalk.i64_in _ (by omega), IntWalk.i64_in _ (by omega)⟩

set_option maxHeartbeats 2000000 in
theorem markBankS_is {B : Nat} {a : Option Addr} {c : Nat} {l : List Bk} {w : World} {n : Nat} (hn : l.length = n) (h : OwnK B (.slice a n c) l w) (k0 : Nat) (h1 : k0 + n ≤ 1000000000) (g0 : Nat) (hg0 : ∀ x, a = some x → x.block = g0) :
    Calls Try.prog 42 #[.slice a n c, .int .i64 k0] w fun e w' => e = .returned (.int .i64 (mkK k0 n)) ∧ OwnK B (.slice a n c) (marksK k0 n) w' ∧ Only g0 w w' := by
  have HN := Lib.hid hn
  have HO := Lib.hid h
  have HG0 := Lib.hid hg0
  clear hn h hg0
  go_enter Try.func42, Try.ntmps42
  go_wp2_with fail
  go_loopw [1, 5] (fun m i wr => ∃ k : Nat, k ≤ n ∧ i = .int .i64 k ∧ m = .int .i64 (mkK k0 k) ∧ OwnK B (.slice a n c) (marksK k0 k ++ l.drop k) wr ∧ Only g0 w wr) (fun _ i _ => n - (intOf i).toNat)
  case atStart => exact ⟨0, Nat.zero_le _, rfl, by rw [mkK_zero], by simpa [marksK] using HO.out, Only.refl _ _⟩
  case round =>
    obtain ⟨k, hk, rfl, rfl, hown, hok⟩ := hrel
    have HO2 := Lib.hid hown
    have HK2 := Lib.hid hok
    clear hown hok
    by_cases hlt : k < n
    · have HL : Hid ((marksK k0 k ++ l.drop k).length = n) := by have := HN.out; show _ = _; simp [marksK_length]; omega
      have HST := Lib.hid (marksK_step k0 k l (by have := HN.out; omega))
      obtain ⟨g, rfl, hc0, hc1, hf, hB, hg⟩ := HO2.out.at (k := k) (by rw [HL.out]; exact hlt)
      have HGG : Hid (g = g0) := HG0.out _ rfl
      have hx0 : 0 ≤ mkK k0 k := by unfold mkK; omega
      have hx1 : mkK k0 k ≤ 8000000000 := by unfold mkK; omega
      have HS := Lib.hid (mkK_succ k0 k)
      obtain ⟨x, hx⟩ : ∃ x, mkK k0 k = x := ⟨_, rfl⟩
      rw [hx] at hx0 hx1 HS HST
      (try simp only [hx])
      clear hx
      obtain ⟨e1, e2, e3⟩ := mark_facts x hx0 hx1
      obtain ⟨old0, hco0⟩ : ∃ u, wr.cell? ⟨g, k * 2, none⟩ = some u := ⟨_, hc0⟩
      obtain ⟨old1, hco1⟩ : ∃ u, wr.cell? ⟨g, k * 2 + 1, none⟩ = some u := ⟨_, hc1⟩
      have hf0 := hf (k * 2)
      have hf1 := hf (k * 2 + 1)
      clear hc0 hc1 hf
      go_wp2_with fail
      have R2 : OwnK B (.slice (some ⟨g, 0, none⟩) n c) (marksK k0 (k + 1) ++ l.drop (k + 1)) ((wr.setCell ⟨g, k * 2, none⟩ (.bool (x % 3 == 0))).setCell ⟨g, k * 2 + 1, none⟩ (.int .i64 (x + 1))) := by
        rw [← HST.out]
        exact HO2.out.stored HL.out (by rw [HL.out]; exact hlt) (markB x)
      have HK3 := Lib.hid ((HK2.out.setCell (p := ⟨g, k * 2, none⟩) HGG.out (.bool (x % 3 == 0))).setCell (p := ⟨g, k * 2 + 1, none⟩) HGG.out (.int .i64 (x + 1)))
      go_roundw
      case rel => exact ⟨k + 1, by omega, by go_num, by rw [← HS.out], R2, HK3.out⟩
      case measure => simp [intOf]; omega
    · obtain rfl : k = n := by omega
      go_wp2_with fail
      go_ret
      exact ⟨rfl, by have := HO2.out; rwa [List.drop_of_length_le (by have := HN.out; omega), List.append_nil] at this, HK2.out⟩

set_option maxHeartbeats 2000000 in
theorem heldBankS_is {a : Option Addr} {c : Nat} {n : Nat} {w : World} (k0 : Nat) (h : RowB w a (marksK k0 n)) (h1 : k0 + n ≤ 1000000000) :
    Calls Try.prog 43 #[.slice a n c, .int .i64 k0] w (Gives (.int .i64 (mkK k0 n)) w) := by
  have HO := Lib.hid h
  clear h
  go_enter Try.func43, Try.ntmps43
  go_wp2_with fail
  go_loop [1, 5] (fun m i => ∃ k : Nat, k ≤ n ∧ i = .int .i64 k ∧ m = .int .i64 (mkK k0 k)) (fun _ i => n - (intOf i).toNat)
  case atStart => exact ⟨0, Nat.zero_le _, rfl, by rw [mkK_zero]⟩
  case round =>
    obtain ⟨k, hk, rfl, rfl⟩ := hrel
    by_cases hlt : k < n
    · obtain ⟨b, off, rfl, hc0, hc1⟩ := HO.out.at (k := k) (by rw [marksK_length]; exact hlt)
      rw [marksK_get _ _ _ hlt] at hc0 hc1
      have hx0 : 0 ≤ mkK k0 k := by unfold mkK; omega
      have hx1 : mkK k0 k ≤ 8000000000 := by unfold mkK; omega
      have HS := Lib.hid (mkK_succ k0 k)
      obtain ⟨x, hx⟩ : ∃ x, mkK k0 k = x := ⟨_, rfl⟩
      rw [hx] at hx0 hx1 HS hc0 hc1
      (try simp only [hx])
      clear hx
      obtain ⟨e1, e2, e3⟩ := mark_facts x hx0 hx1
      have hc0' : w.cell? ⟨b, off + k * 2, none⟩ = some (.bool (x % 3 == 0)) := hc0
      have hc1' : w.cell? ⟨b, off + k * 2 + 1, none⟩ = some (.int .i64 (x + 1)) := hc1
      have tt : ((x % 3 == 0) != (x % 3 == 0)) = false := by simp
      have txx : (x + 1 != x + 1) = false := by simp
      clear hc0 hc1
      go_wp2_with fail
      go_round
      case rel => exact ⟨k + 1, by omega, by go_num, by rw [← HS.out]⟩
      case measure => simp [intOf]; omega
    · obtain rfl : k = n := by omega
      go_wp2_with fail
      go_ret
      exact ⟨rfl, Below.refl _ _⟩

theorem markRank_is {B : Nat} {a : Option Addr} {c : Nat} {l : List Bk} {w : World} {n : Nat} (pw : Int) (hn : l.length = n) (h : OwnK B (.slice a n c) l w) (k0 : Nat) (h1 : k0 + n ≤ 1000000000) (g0 : Nat) (hg0 : ∀ x, a = some x → x.block = g0) :
    Calls Try.prog 17 #[.agg #[.slice a n c, .int .i64 pw], .int .i64 k0] w fun e w' => e = .returned (.int .i64 (mkK k0 n)) ∧ OwnK B (.slice a n c) (marksK k0 n) w' ∧ Only g0 w w' := by
  obtain ⟨w1, hw1⟩ : ∃ u, w.alloc (.cells #[.slice a n c, .int .i64 pw] 40) = u := ⟨_, rfl⟩
  have hb1 : Below w.heap.size w w1 := by subst hw1; exact (Below.refl _ _).alloc (Nat.le_refl _) _
  have p1 : w1.heap[w.heap.size]? = some (.cells #[.slice a n c, .int .i64 pw] 40) := by subst hw1; exact heap_alloc_new _ _
  obtain ⟨cp, cq⟩ := cells2 p1
  have HO1 := Lib.hid (h.below hb1)
  have HK1 : Hid (Only g0 w w1) := (Only.refl _ _).later hb1
  clear h hb1
  go_enter Try.func17, Try.ntmps17
  go_wp2_with fail
  refine (markBankS_is hn HO1.out k0 h1 g0 hg0).mono ?_
  rintro e w2 ⟨rfl, ho2, hk2⟩
  have HO2 := Lib.hid ho2
  have HK2 := Lib.hid (HK1.out.trans hk2)
  clear ho2 hk2
  go_wp2
  go_ret
  exact ⟨rfl, HO2.out, HK2.out⟩

theorem heldRank_is {a : Option Addr} {c : Nat} {n : Nat} {w : World} (pw : Int) (k0 : Nat) (h : RowB w a (marksK k0 n)) (h1 : k0 + n ≤ 1000000000) :
    Calls Try.prog 18 #[.agg #[.slice a n c, .int .i64 pw], .int .i64 k0] w (Gives (.int .i64 (mkK k0 n)) w) := by
  obtain ⟨w1, hw1⟩ : ∃ u, w.alloc (.cells #[.slice a n c, .int .i64 pw] 40) = u := ⟨_, rfl⟩
  have HB1 : Hid (Below w.heap.size w w1) := by subst hw1; exact (Below.refl _ _).alloc (Nat.le_refl _) _
  have p1 : w1.heap[w.heap.size]? = some (.cells #[.slice a n c, .int .i64 pw] 40) := by subst hw1; exact heap_alloc_new _ _
  obtain ⟨cp, cq⟩ := cells2 p1
  have HR1 := Lib.hid (h.below HB1.out)
  have hx : 0 ≤ mkK k0 n := by unfold mkK; omega
  clear h
  go_enter Try.func18, Try.ntmps18
  go_wp2_with fail
  refine (heldBankS_is k0 HR1.out h1).mono ?_
  rintro e w2 ⟨rfl, hb2⟩
  have HB2 : Hid (Below w.heap.size w w2) := HB1.out.trans (hb2.mono HB1.out.size)
  clear hb2
  go_wp2
  go_ret
  exact ⟨rfl, HB2.out⟩

end Go.Proofs.Ytihhcnckoeaihaa
