/-
  The laws' own words on banks and ranks: copied, counted, equal, marked, held.
-/
import Derived.Test.YtigoniochamjgaaBnkR
import Derived.Test.YtigoniochamjgaaGeoI
import Derived.Test.YtigoniochamjgaaOpen
namespace Go.Proofs.Ytigoniochamjgaa
open Go.RowKit Go.PlainAid

set_option linter.unusedVariables false


theorem toBank_is (o : Bool) (r : Int) (w : World) :
    Calls Try.prog 76 #[.agg #[.bool o, .int .i64 r]] w (Gives (.agg #[.bool o, .int .i64 r]) w) := by
  go_enter Try.func76, Try.ntmps76
  go_wp2
  (try simp only [Exit.inBlock, Exit.then])
  refine bodyPost_ret (v := .agg #[.bool o, .int .i64 r]) (by simp [results, Try.results76, go_sem]) rfl ⟨rfl, ?_⟩
  repeat' (first | exact Below.refl _ _ | refine Below.drew ?_ | refine Below.alloc ?_ (by simp <;> omega) _ | refine Below.setCell ?_ (by simp <;> omega) _)



theorem eqBank_is (o : Bool) (r : Int) (w : World) :
    Calls Try.prog 75 #[.agg #[.bool o, .int .i64 r], .agg #[.bool o, .int .i64 r]] w (Gives (.bool true) w) := by
  have t1 : (o != o) = false := by simp
  have t2 : (r != r) = false := by simp
  go_enter Try.func75, Try.ntmps75
  go_wp2
  go_ret
  refine ⟨rfl, ?_⟩
  repeat' (first | exact Below.refl _ _ | refine Below.drew ?_ | refine Below.alloc ?_ (by simp <;> omega) _ | refine Below.setCell ?_ (by simp <;> omega) _)



set_option maxHeartbeats 2000000 in
/-- Two rows of banks that are alike. -/
theorem eqBankS_is {a b : Option Addr} {ca cb : Nat} {l : List Bk} {w : World} {n : Nat} (hn : l.length = n) (ha : RowB w a l) (hb : RowB w b l) (hl : (n : Int) ≤ 9223372036854775807) :
    Calls Try.prog 54 #[.slice a n ca, .slice b n cb] w (Gives (.bool true) w) := by
  have HN := Lib.hid hn
  have HA := Lib.hid ha
  have HB := Lib.hid hb
  clear hn ha hb
  go_enter Try.func54, Try.ntmps54
  go_wp2_with fail
  go_loopw [5] (fun i wr => ∃ k : Nat, k ≤ n ∧ i = .int .i64 k ∧ Below w.heap.size w wr) (fun i _ => n - (intOf i).toNat)
  case atStart => exact ⟨0, Nat.zero_le _, rfl, Below.refl _ _⟩
  case round =>
    obtain ⟨k, hk, rfl, hbr⟩ := hrel
    have HBR := Lib.hid hbr
    clear hbr
    by_cases hlt : k < n
    · obtain ⟨ba, oa, rfl, ha0, ha1⟩ := (HA.out.below HBR.out).at (k := k) (by rw [HN.out]; exact hlt)
      obtain ⟨bb, ob, rfl, hb0, hb1⟩ := (HB.out.below HBR.out).at (k := k) (by rw [HN.out]; exact hlt)
      generalize (l.getD k bk0).op = o at ha0 hb0
      generalize (l.getD k bk0).row = r at ha1 hb1
      have za0 := fun q : Later wr => q.cell ha0
      have za1 := fun q : Later wr => q.cell ha1
      have zb0 := fun q : Later wr => q.cell hb0
      have zb1 := fun q : Later wr => q.cell hb1
      clear ha0 ha1 hb0 hb1
      go_wp2_with fail
      refine wp_region_later (by kernel_rfl) (by kernel_rfl) ?_
      repeat (go_big_quiet_step ((go_at_call 75; exact Gives.later _ (eqBank_is _ _ _))))
      refine wpQuiet_nil ?_
      rintro w2 ⟨zz, hz⟩
      have HB2 : Hid (Below w.heap.size w w2) := HBR.out.trans ((hz ▸ zz.ok : Below wr.heap.size wr w2).mono HBR.out.size)
      clear za0 za1 zb0 zb1 hz zz
      go_wp2
      go_roundw
      case rel => exact ⟨k + 1, by omega, by go_num, HB2.out⟩
      case measure => simp [intOf]; omega
    · go_wp2_with fail
      go_ret
      exact ⟨rfl, HBR.out⟩



theorem eqRank_is {a b : Option Addr} {ca cb : Nat} {l : List Bk} {w : World} {n : Nat} (pw : Int) (hn : l.length = n) (ha : RowB w a l) (hb : RowB w b l) (hl : (n : Int) ≤ 9223372036854775807) :
    Calls Try.prog 26 #[.agg #[.slice a n ca, .int .i64 pw], .agg #[.slice b n cb, .int .i64 pw]] w (Gives (.bool true) w) := by
  obtain ⟨w1, hw1⟩ : ∃ u, (w.alloc (.cells #[.slice a n ca, .int .i64 pw] 28)).alloc (.cells #[.slice b n cb, .int .i64 pw] 28) = u := ⟨_, rfl⟩
  have HB1 : Hid (Below w.heap.size w w1) := by subst hw1; exact ((Below.refl _ _).alloc (Nat.le_refl _) _).alloc (by simp) _
  have g1 : w1.heap[w.heap.size]? = some (.cells #[.slice a n ca, .int .i64 pw] 28) := by subst hw1; exact heap_alloc2_old _ _ _
  have p1 : w1.heap[w.heap.size + 1]? = some (.cells #[.slice b n cb, .int .i64 pw] 28) := by subst hw1; exact heap_alloc2_new _ _ _
  obtain ⟨c0, c1⟩ := cells2 g1
  obtain ⟨d0, d1⟩ := cells2 p1
  have HN := Lib.hid hn
  have HA := Lib.hid (ha.below HB1.out)
  have HC := Lib.hid (hb.below HB1.out)
  have t1 : (pw != pw) = false := by simp
  clear hn ha hb
  go_enter Try.func26, Try.ntmps26
  go_wp2_with fail
  refine (eqBankS_is HN.out HA.out HC.out hl).mono ?_
  rintro e w2 ⟨rfl, hb2⟩
  have g2 := keep_block hb2 g1 (lt_of_block g1)
  have p2 := keep_block hb2 p1 (lt_of_block p1)
  have HB2 : Hid (Below w.heap.size w w2) := HB1.out.trans (hb2.mono HB1.out.size)
  clear hb2 c0 c1 d0 d1
  obtain ⟨c0, c1⟩ := cells2 g2
  obtain ⟨d0, d1⟩ := cells2 p2
  go_wp2
  go_ret
  exact ⟨rfl, HB2.out⟩



set_option maxHeartbeats 2000000 in
set_option maxRecDepth 100000 in
theorem toBankS_is (ad : Option Addr) (n cap : Nat) (zs : List Bk) (hz : zs.length = n) (h1 : n ≤ 4000000) (w : World) (hr : RowB w ad zs) :
    Calls Try.prog 59 #[.slice ad n cap] w fun e w' => ∃ a c, e = .returned (.slice a n c) ∧ OwnK w.heap.size (.slice a n c) zs w' ∧ Below w.heap.size w w' := by
  have HZ := Lib.hid hz
  have HR := Lib.hid hr
  clear hz hr
  obtain ⟨i0, hi, hz0, hz1, hz2⟩ := info_parts infoK
  go_enter Try.func59, Try.ntmps59
  go_wp2_with (at_make; refine wpList_make_full _ rfl _ _ 26 rfl w.heap.size 39 i0 (.agg #[.bool false, .int .i64 0]) 2 Try.underlying26 hi hz0 hz1 _ _ _ _ n rfl rfl rfl rfl (by rw [hz2]; omega) (by unfold maxLen; omega) (Nat.le_refl _) ?_)
  intro w1 hown hgr
  have hb1 : Below w.heap.size w w1 := (Below.refl _ _).grown hgr (Nat.le_refl _) (fun k hk => by cases hk)
  have hO : Hid (OwnK w.heap.size (.slice (some ⟨w.heap.size, 0, none⟩) n n) (zs.take 0 ++ List.replicate (n - 0) bk0) w1) := by
    show World.ownsRow _ _ _ _ _ _ _
    rw [made_bank] at hown
    rw [show (zs.take 0 ++ List.replicate (n - 0) bk0 : List Bk) = List.replicate n bk0 by simp, List.length_replicate]
    exact hown
  have HB1 := Lib.hid hb1
  clear hgr hown hb1
  go_wp2_with fail
  go_loopw [4] (fun i wr => ∃ k : Nat, k ≤ n ∧ i = .int .i64 k ∧ OwnK w.heap.size (.slice (some ⟨w.heap.size, 0, none⟩) n n) (zs.take k ++ List.replicate (n - k) bk0) wr ∧ Below w.heap.size w wr) (fun i _ => n - (intOf i).toNat)
  case atStart => exact ⟨0, Nat.zero_le _, rfl, hO.out, HB1.out⟩
  case round =>
    obtain ⟨k, hk, rfl, hown, hbk⟩ := hrel
    have HB2 := Lib.hid hbk
    have HO2 := Lib.hid hown
    clear hbk hO HB1 hown
    by_cases hlt : k < n
    · have hlen : (zs.take k ++ List.replicate (n - k) bk0).length = n := by have := HZ.out; simp; omega
      have HL := Lib.hid hlen
      have HST := Lib.hid (take_setB zs n k HZ.out hlt)
      obtain ⟨pb, off, rfl, hs0, hs1⟩ := (HR.out.below HB2.out).at (k := k) (by rw [HZ.out]; exact hlt)
      obtain ⟨b, hb⟩ : ∃ b, zs.getD k bk0 = b := ⟨_, rfl⟩
      rw [hb] at hs0 hs1
      rw [hb] at HST
      clear hlen hb
      go_wp2_with fail
      refine (toBank_is b.op b.row _).mono ?_
      rintro e w3 ⟨rfl, hb3⟩
      have HO3 : Hid (OwnK w.heap.size (.slice (some ⟨w.heap.size, 0, none⟩) n n) (zs.take k ++ List.replicate (n - k) bk0) w3) := HO2.out.below hb3
      have HB3 : Hid (Below w.heap.size w w3) := HB2.out.trans (hb3.mono HB2.out.size)
      obtain ⟨g, hg, hc0, hc1, hf, hB, hgl⟩ := HO3.out.at (k := k) (by rw [HL.out]; exact hlt)
      obtain rfl : w.heap.size = g := by simpa using hg
      have hf0 := hf (k * 2)
      have hf1 := hf (k * 2 + 1)
      obtain ⟨old0, hco0⟩ : ∃ u, w3.cell? ⟨w.heap.size, k * 2, none⟩ = some u := ⟨_, hc0⟩
      obtain ⟨old1, hco1⟩ : ∃ u, w3.cell? ⟨w.heap.size, k * 2 + 1, none⟩ = some u := ⟨_, hc1⟩
      clear hc0 hc1 hf hs0 hs1 hb3 HB2 HO2 hg
      go_wp2_with fail
      have R : OwnK w.heap.size (.slice (some ⟨w.heap.size, 0, none⟩) n n) (zs.take (k + 1) ++ List.replicate (n - (k + 1)) bk0) ((w3.setCell ⟨w.heap.size, k * 2, none⟩ (.bool b.op)).setCell ⟨w.heap.size, k * 2 + 1, none⟩ (.int .i64 b.row)) := by
        rw [← HST.out]
        exact HO3.out.stored HL.out (by rw [HL.out]; exact hlt) b
      go_roundw
      case rel => exact ⟨k + 1, by omega, by go_num, R, (HB3.out.setCell (Nat.le_refl _) _).setCell (Nat.le_refl _) _⟩
      case measure => simp [intOf]; omega
    · obtain rfl : k = n := by omega
      go_wp2_with fail
      go_ret
      have hO2 := HO2.out
      have hzk := HZ.out
      rw [Nat.sub_self, List.replicate_zero, List.append_nil, List.take_of_length_le (by omega)] at hO2
      exact ⟨_, _, rfl, hO2, HB2.out⟩



set_option maxHeartbeats 2000000 in
theorem toRank_is (ad : Option Addr) (n cap : Nat) (zs : List Bk) (pw : Int) (hz : zs.length = n) (h1 : n ≤ 4000000) (w : World) (hr : RowB w ad zs) :
    Calls Try.prog 31 #[.agg #[.slice ad n cap, .int .i64 pw]] w (GivesK n zs pw w) := by
  obtain ⟨w1, hw1⟩ : ∃ u, ((w.alloc (.cells #[.slice ad n cap, .int .i64 pw] 53)).alloc (.cells #[.slice none 0 0, .int .i64 0] 28)).alloc (.cells #[.slice none 0 0, .int .i64 0] 28) = u := ⟨_, rfl⟩
  have HB1 : Hid (Below w.heap.size w w1) := by subst hw1; exact (((Below.refl _ _).alloc (Nat.le_refl _) _).alloc (by simp) _).alloc (by simp; omega) _
  have a1 : w1.heap[w.heap.size]? = some (.cells #[.slice ad n cap, .int .i64 pw] 53) := by subst hw1; exact box3_0 _ _ _ _
  have b1 : w1.heap[w.heap.size + 1]? = some (.cells #[.slice none 0 0, .int .i64 0] 28) := by subst hw1; exact box3_1 _ _ _ _
  have c1 : w1.heap[w.heap.size + 1 + 1]? = some (.cells #[.slice none 0 0, .int .i64 0] 28) := by subst hw1; exact box3_2 _ _ _ _
  have HS1 : Hid (w.heap.size + 1 + 1 < w1.heap.size) := lt_of_block c1
  have HR1 := Lib.hid (hr.below HB1.out)
  have HZ := Lib.hid hz
  obtain ⟨ca, cb⟩ := cells2 a1
  clear hr hz
  go_enter Try.func31, Try.ntmps31
  go_wp2_with fail
  refine (toBankS_is _ _ _ _ HZ.out h1 _ HR1.out).mono ?_
  rintro e w2 ⟨aa, cc, rfl, own2, hb2⟩
  have a2 := keep_block hb2 a1 (lt_of_block a1)
  have b2 := keep_block hb2 b1 (lt_of_block b1)
  have c2 := keep_block hb2 c1 (lt_of_block c1)
  have HB2 : Hid (Below w.heap.size w w2) := HB1.out.trans (hb2.mono HB1.out.size)
  have HO2 := Lib.hid own2
  clear ca cb hb2 own2 hw1 a1 b1 c1 HR1 HB1
  obtain ⟨ca, cb⟩ := cells2 a2
  obtain ⟨x0, x1⟩ := cells2 b2
  obtain ⟨y0, y1⟩ := cells2 c2
  have f0 := thawed b2 0
  have f1 := thawed b2 1
  have g0 := thawed c2 0
  have g1 := thawed c2 1
  go_wp2_with fail
  (try simp only [Exit.inBlock, Exit.then])
  refine bodyPost_ret (v := .agg #[.slice aa n cc, .int .i64 pw]) (by simp [results, Try.results31, go_sem, x0, x1]) rfl ⟨aa, cc, rfl, ?_, ?_⟩
  · have hs := HS1.out
    refine OwnK.mono (B := w1.heap.size) ?_ (by omega)
    have hlo := HO2.out.lo
    repeat' (first | exact HO2.out | refine OwnK.setCell ?_ (fun x hx => by have := hlo x hx; simp; omega) _)
  · repeat' (first | exact HB2.out | refine Below.drew ?_ | refine Below.setCell ?_ (by simp <;> omega) _)



theorem szBankS_is (ad : Option Addr) (n cap : Nat) (k v : Int) (hn : n ≤ maxLen) (h0 : 0 ≤ k) (hk : k ≤ 1048576) (hv : (if k - n < 0 then -1 else k - n) = v) (w : World) :
    Calls Try.prog 57 #[.slice ad n cap, .int .i64 k] w (Gives (.int .i64 v) w) := by
  have HV := Lib.hid hv
  unfold maxLen at hn
  have e1 : IntKind.i64.wrap (k - (n : Int)) = k - (n : Int) := IntWalk.i64_in _ ⟨by omega, by omega⟩
  clear hv
  by_cases hlt : k - (n : Int) < 0
  · have HE : Hid (v = -1) := by show _ = _; rw [← HV.out]; exact if_pos hlt
    go_enter Try.func57, Try.ntmps57
    go_wp2
    go_ret
    exact ⟨ret_i HE.out.symm, Below.refl _ _⟩
  · have HE : Hid (v = k - n) := by show _ = _; rw [← HV.out]; exact if_neg hlt
    have hge : 0 ≤ k - (n : Int) := by omega
    go_enter Try.func57, Try.ntmps57
    go_wp2
    go_ret
    exact ⟨ret_i HE.out.symm, Below.refl _ _⟩



theorem szRank_is (ad : Option Addr) (n cap : Nat) (pw k v : Int) (hn : n ≤ maxLen) (h0 : 0 ≤ k) (hk : k ≤ 1048576) (hv : (if k - n < 0 then -1 else k - n) = v) (w : World) :
    Calls Try.prog 29 #[.agg #[.slice ad n cap, .int .i64 pw], .int .i64 k] w (Gives (.int .i64 v) w) := by
  have HV := Lib.hid hv
  obtain ⟨w1, hw1⟩ : ∃ u, w.alloc (.cells #[.slice ad n cap, .int .i64 pw] 53) = u := ⟨_, rfl⟩
  have HB1 : Hid (Below w.heap.size w w1) := by subst hw1; exact (Below.refl _ _).alloc (Nat.le_refl _) _
  have p1 : w1.heap[w.heap.size]? = some (.cells #[.slice ad n cap, .int .i64 pw] 53) := by subst hw1; exact heap_alloc_new _ _
  obtain ⟨cp, cq⟩ := cells2 p1
  by_cases hlt : k - (n : Int) < 0
  · have hv' : v = -1 := by rw [← hv]; exact if_pos hlt
    subst hv'
    clear hv hlt
    go_enter Try.func29, Try.ntmps29
    go_wp2_with fail
    refine (szBankS_is _ _ _ _ _ hn h0 hk HV.out _).mono ?_
    rintro e w2 ⟨rfl, hb2⟩
    have HB2 : Hid (Below w.heap.size w w2) := HB1.out.trans (hb2.mono HB1.out.size)
    clear hb2
    go_wp2
    go_ret
    exact ⟨rfl, HB2.out⟩
  · have hv' : 0 ≤ v := by rw [← hv, if_neg hlt]; omega
    clear hv hlt
    go_enter Try.func29, Try.ntmps29
    go_wp2_with fail
    refine (szBankS_is _ _ _ _ _ hn h0 hk HV.out _).mono ?_
    rintro e w2 ⟨rfl, hb2⟩
    have HB2 : Hid (Below w.heap.size w w2) := HB1.out.trans (hb2.mono HB1.out.size)
    clear hb2
    go_wp2
    go_ret
    exact ⟨rfl, HB2.out⟩


/-- The mark behind k banks. -/
def mkK (k0 k : Nat) : Int := ((k0 + 2 * k : Nat) : Int)

theorem mkK_succ (k0 k : Nat) : mkK k0 k + 1 + 1 = mkK k0 (k + 1) := by unfold mkK; omega

theorem mkK_zero (k0 : Nat) : mkK k0 0 = (k0 : Int) := by unfold mkK; omega

/-- A marked bank. -/
def markB (x : Int) : Bk := ⟨x % 3 == 0, x + 1⟩

/-- n marked banks. -/
def marksK (k0 n : Nat) : List Bk := (List.range n).map fun i => markB (mkK k0 i)

theorem marksK_length (k n : Nat) : (marksK k n).length = n := by simp [marksK]

theorem marksK_get (k n i : Nat) (h : i < n) : (marksK k n).getD i bk0 = markB (mkK k i) := by
  rw [List.getD_eq_getElem?_getD, List.getElem?_eq_getElem (by rw [marksK_length]; exact h)]
  simp [marksK]

theorem marksK_step (k j : Nat) (l : List Bk) (h : j < l.length) : (marksK k j ++ l.drop j).set j (markB (mkK k j)) = marksK k (j + 1) ++ l.drop (j + 1) := by
  rw [List.set_append_right _ _ (by rw [marksK_length]; omega), marksK_length, Nat.sub_self, List.drop_eq_getElem_cons h, List.set_cons_zero]
  simp [marksK, List.range_succ]

theorem mark_facts (x : Int) (h0 : 0 ≤ x) (h1 : x ≤ 8000000000) : IntKind.i64.wrap (x % 3) = x % 3 ∧ IntKind.i64.wrap (x + 1) = x + 1 ∧ IntKind.i64.wrap (x + 1 + 1) = x + 1 + 1 := by
  have e1 := Int.emod_nonneg x (show (3 : Int) ≠ 0 by omega)
  have e2 := Int.emod_lt_of_pos x (show (0 : Int) < 3 by omega)
  exact ⟨IntWalk.i64_in _ (by omega), IntWalk.i64_in _ (by omega), IntWalk.i64_in _ (by omega)⟩


set_option maxHeartbeats 2000000 in
theorem markBankS_is {B : Nat} {a : Option Addr} {c : Nat} {l : List Bk} {w : World} {n : Nat} (hn : l.length = n) (h : OwnK B (.slice a n c) l w) (k0 : Nat) (h1 : k0 + n ≤ 1000000000) (g0 : Nat) (hg0 : ∀ x, a = some x → x.block = g0) :
    Calls Try.prog 55 #[.slice a n c, .int .i64 k0] w fun e w' => e = .returned (.int .i64 (mkK k0 n)) ∧ OwnK B (.slice a n c) (marksK k0 n) w' ∧ Only g0 w w' := by
  have HN := Lib.hid hn
  have HO := Lib.hid h
  have HG0 := Lib.hid hg0
  clear hn h hg0
  go_enter Try.func55, Try.ntmps55
  go_wp2_with fail
  go_loopw [1, 5] (fun m i wr => ∃ k : Nat, k ≤ n ∧ i = .int .i64 k ∧ m = .int .i64 (mkK k0 k) ∧ OwnK B (.slice a n c) (marksK k0 k ++ l.drop k) wr ∧ Only g0 w wr) (fun _ i _ => n - (intOf i).toNat)
  case atStart => exact ⟨0, Nat.zero_le _, rfl, by rw [mkK_zero], by simpa [marksK] using HO.out, Only.refl _ _⟩
  case round =>
    obtain ⟨k, hk, rfl, rfl, hown, hok⟩ := hrel
    have HO2 := Lib.hid hown
    have HK2 := Lib.hid hok
    clear hown hok
    by_cases hlt : k < n
    · have HL : Hid ((marksK k0 k ++ l.drop k).length = n) := by have := HN.out; show _ = _; simp [marksK_length]; omega
      have HST := Lib.hid (marksK_step k0 k l (by have := HN.out; omega))
      obtain ⟨g, rfl, hc0, hc1, hf, hB, hg⟩ := HO2.out.at (k := k) (by rw [HL.out]; exact hlt)
      have HGG : Hid (g = g0) := HG0.out _ rfl
      have hx0 : 0 ≤ mkK k0 k := by unfold mkK; omega
      have hx1 : mkK k0 k ≤ 8000000000 := by unfold mkK; omega
      have HS := Lib.hid (mkK_succ k0 k)
      obtain ⟨x, hx⟩ : ∃ x, mkK k0 k = x := ⟨_, rfl⟩
      rw [hx] at hx0 hx1 HS HST
      (try simp only [hx])
      clear hx
      obtain ⟨e1, e2, e3⟩ := mark_facts x hx0 hx1
      obtain ⟨old0, hco0⟩ : ∃ u, wr.cell? ⟨g, k * 2, none⟩ = some u := ⟨_, hc0⟩
      obtain ⟨old1, hco1⟩ : ∃ u, wr.cell? ⟨g, k * 2 + 1, none⟩ = some u := ⟨_, hc1⟩
      have hf0 := hf (k * 2)
      have hf1 := hf (k * 2 + 1)
      clear hc0 hc1 hf
      go_wp2_with fail
      have R2 : OwnK B (.slice (some ⟨g, 0, none⟩) n c) (marksK k0 (k + 1) ++ l.drop (k + 1)) ((wr.setCell ⟨g, k * 2, none⟩ (.bool (x % 3 == 0))).setCell ⟨g, k * 2 + 1, none⟩ (.int .i64 (x + 1))) := by
        rw [← HST.out]
        exact HO2.out.stored HL.out (by rw [HL.out]; exact hlt) (markB x)
      have HK3 := Lib.hid ((HK2.out.setCell (p := ⟨g, k * 2, none⟩) HGG.out (.bool (x % 3 == 0))).setCell (p := ⟨g, k * 2 + 1, none⟩) HGG.out (.int .i64 (x + 1)))
      go_roundw
      case rel => exact ⟨k + 1, by omega, by go_num, by rw [← HS.out], R2, HK3.out⟩
      case measure => simp [intOf]; omega
    · obtain rfl : k = n := by omega
      go_wp2_with fail
      go_ret
      exact ⟨rfl, by have := HO2.out; rwa [List.drop_of_length_le (by have := HN.out; omega), List.append_nil] at this, HK2.out⟩



set_option maxHeartbeats 2000000 in
theorem heldBankS_is {a : Option Addr} {c : Nat} {n : Nat} {w : World} (k0 : Nat) (h : RowB w a (marksK k0 n)) (h1 : k0 + n ≤ 1000000000) :
    Calls Try.prog 56 #[.slice a n c, .int .i64 k0] w (Gives (.int .i64 (mkK k0 n)) w) := by
  have HO := Lib.hid h
  clear h
  go_enter Try.func56, Try.ntmps56
  go_wp2_with fail
  go_loop [1, 5] (fun m i => ∃ k : Nat, k ≤ n ∧ i = .int .i64 k ∧ m = .int .i64 (mkK k0 k)) (fun _ i => n - (intOf i).toNat)
  case atStart => exact ⟨0, Nat.zero_le _, rfl, by rw [mkK_zero]⟩
  case round =>
    obtain ⟨k, hk, rfl, rfl⟩ := hrel
    by_cases hlt : k < n
    · obtain ⟨b, off, rfl, hc0, hc1⟩ := HO.out.at (k := k) (by rw [marksK_length]; exact hlt)
      rw [marksK_get _ _ _ hlt] at hc0 hc1
      have hx0 : 0 ≤ mkK k0 k := by unfold mkK; omega
      have hx1 : mkK k0 k ≤ 8000000000 := by unfold mkK; omega
      have HS := Lib.hid (mkK_succ k0 k)
      obtain ⟨x, hx⟩ : ∃ x, mkK k0 k = x := ⟨_, rfl⟩
      rw [hx] at hx0 hx1 HS hc0 hc1
      (try simp only [hx])
      clear hx
      obtain ⟨e1, e2, e3⟩ := mark_facts x hx0 hx1
      have hc0' : w.cell? ⟨b, off + k * 2, none⟩ = some (.bool (x % 3 == 0)) := hc0
      have hc1' : w.cell? ⟨b, off + k * 2 + 1, none⟩ = some (.int .i64 (x + 1)) := hc1
      have tt : ((x % 3 == 0) != (x % 3 == 0)) = false := by simp
      have txx : (x + 1 != x + 1) = false := by simp
      clear hc0 hc1
      go_wp2_with fail
      go_round
      case rel => exact ⟨k + 1, by omega, by go_num, by rw [← HS.out]⟩
      case measure => simp [intOf]; omega
    · obtain rfl : k = n := by omega
      go_wp2_with fail
      go_ret
      exact ⟨rfl, Below.refl _ _⟩



theorem markRank_is {B : Nat} {a : Option Addr} {c : Nat} {l : List Bk} {w : World} {n : Nat} (pw : Int) (hn : l.length = n) (h : OwnK B (.slice a n c) l w) (k0 : Nat) (h1 : k0 + n ≤ 1000000000) (g0 : Nat) (hg0 : ∀ x, a = some x → x.block = g0) :
    Calls Try.prog 27 #[.agg #[.slice a n c, .int .i64 pw], .int .i64 k0] w fun e w' => e = .returned (.int .i64 (mkK k0 n)) ∧ OwnK B (.slice a n c) (marksK k0 n) w' ∧ Only g0 w w' := by
  obtain ⟨w1, hw1⟩ : ∃ u, w.alloc (.cells #[.slice a n c, .int .i64 pw] 28) = u := ⟨_, rfl⟩
  have hb1 : Below w.heap.size w w1 := by subst hw1; exact (Below.refl _ _).alloc (Nat.le_refl _) _
  have p1 : w1.heap[w.heap.size]? = some (.cells #[.slice a n c, .int .i64 pw] 28) := by subst hw1; exact heap_alloc_new _ _
  obtain ⟨cp, cq⟩ := cells2 p1
  have HO1 := Lib.hid (h.below hb1)
  have HK1 : Hid (Only g0 w w1) := (Only.refl _ _).later hb1
  clear h hb1
  go_enter Try.func27, Try.ntmps27
  go_wp2_with fail
  refine (markBankS_is hn HO1.out k0 h1 g0 hg0).mono ?_
  rintro e w2 ⟨rfl, ho2, hk2⟩
  have HO2 := Lib.hid ho2
  have HK2 := Lib.hid (HK1.out.trans hk2)
  clear ho2 hk2
  go_wp2
  go_ret
  exact ⟨rfl, HO2.out, HK2.out⟩



theorem heldRank_is {a : Option Addr} {c : Nat} {n : Nat} {w : World} (pw : Int) (k0 : Nat) (h : RowB w a (marksK k0 n)) (h1 : k0 + n ≤ 1000000000) :
    Calls Try.prog 28 #[.agg #[.slice a n c, .int .i64 pw], .int .i64 k0] w (Gives (.int .i64 (mkK k0 n)) w) := by
  obtain ⟨w1, hw1⟩ : ∃ u, w.alloc (.cells #[.slice a n c, .int .i64 pw] 28) = u := ⟨_, rfl⟩
  have HB1 : Hid (Below w.heap.size w w1) := by subst hw1; exact (Below.refl _ _).alloc (Nat.le_refl _) _
  have p1 : w1.heap[w.heap.size]? = some (.cells #[.slice a n c, .int .i64 pw] 28) := by subst hw1; exact heap_alloc_new _ _
  obtain ⟨cp, cq⟩ := cells2 p1
  have HR1 := Lib.hid (h.below HB1.out)
  have hx : 0 ≤ mkK k0 n := by unfold mkK; omega
  clear h
  go_enter Try.func28, Try.ntmps28
  go_wp2_with fail
  refine (heldBankS_is k0 HR1.out h1).mono ?_
  rintro e w2 ⟨rfl, hb2⟩
  have HB2 : Hid (Below w.heap.size w w2) := HB1.out.trans (hb2.mono HB1.out.size)
  clear hb2
  go_wp2
  go_ret
  exact ⟨rfl, HB2.out⟩


end Go.Proofs.Ytigoniochamjgaa
