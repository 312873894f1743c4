/-
  The laws' own words on partitions: copied, equal, marked; and what comes in as a partition.
-/
import Derived.Test.YtljcdjhafhppbaaGivesI
import Derived.Test.YtljcdjhafhppbaaOpen
import Derived.Test.YtljcdjhafhppbaaGeoI
namespace Go.Proofs.Ytljcdjhafhppbaa
open Go.RowKit Go.PlainAid

set_option linter.unusedVariables false

/-- What comes in as a partition shows a row of numbers. -/
theorem part_in {w : World} {l : List Value} (h : Sh.Fits w (.and (.row (.num .i64)) .fin) l) : ∃ ad n cap zs, l = [.slice ad n cap] ∧ zs.length = n ∧ RowI w ad zs ∧ (∀ x ∈ zs, (Lit.int .i64 x).wf = true) ∧ n ≤ maxLen := by
  obtain ⟨c1, c2, rfl, h1, h2⟩ := h
  obtain rfl : c2 = [] := h2
  rcases h1 with rfl | ⟨a, len, cap, rfl, hl, hm, hc⟩
  · exact ⟨none, 0, 0, [], rfl, rfl, .inl rfl, (fun x h => by cases h), Nat.zero_le _⟩
  · have key : ∀ k, k ≤ len → ∃ zs : List Int, zs.length = k ∧ (∀ i, i < k → w.cell? (a.add i) = some (.int .i64 (zs.getD i 0))) ∧ ∀ x ∈ zs, (Lit.int .i64 x).wf = true := by
      intro k
      induction k with
      | zero => intro _; exact ⟨[], rfl, fun i h => absurd h (Nat.not_lt_zero _), fun x h => by cases h⟩
      | succ k ih =>
        intro hk
        obtain ⟨zs, h1, h2, h3⟩ := ih (by omega)
        obtain ⟨cs', hl', hc', z, rfl, hz⟩ := hc k (by omega)
        have hck := hc' 0 (by decide)
        have e : k * (Sh.num .i64).size + 0 = k := by simp [Sh.size]
        rw [e] at hck
        refine ⟨zs ++ [z], by simp [h1], fun i hi => ?_, fun x hx => ?_⟩
        · by_cases hik : i = k
          · subst hik
            rw [hck, List.getD_eq_getElem?_getD, List.getElem?_append_right (by omega), h1]
            simp
          · rw [h2 i (by omega), List.getD_eq_getElem?_getD, List.getD_eq_getElem?_getD, List.getElem?_append_left (by omega)]
        · rcases List.mem_append.1 hx with hx | hx
          · exact h3 x hx
          · rw [List.mem_singleton.1 hx]; exact hz
    obtain ⟨zs, h1, h2, h3⟩ := key len (Nat.le_refl _)
    refine ⟨some a, len, cap, zs, rfl, h1, ?_, h3, by omega⟩
    by_cases h0 : len = 0
    · exact .inl (List.length_eq_zero_iff.1 (by omega))
    · obtain ⟨b, off, spot⟩ := a
      have hspot : spot = none := by simpa [Addr.add] using World.cell?_spot (h2 0 (by omega))
      subst hspot
      refine .inr ⟨b, off, rfl, fun i hi => ?_⟩
      rw [← Addr.add_lit]
      exact h2 i (by omega)


theorem szIntS_is (ad : Option Addr) (n cap : Nat) (k v : Int) (hn : n ≤ maxLen) (h0 : 0 ≤ k) (hk : k ≤ 1048576) (hv : (if k - n < 0 then -1 else k - n) = v) (w : World) :
    Calls Try.prog 46 #[.slice ad n cap, .int .i64 k] w (Gives (.int .i64 v) w) := by
  have HV := Lib.hid hv
  unfold maxLen at hn
  have e1 : IntKind.i64.wrap (k - (n : Int)) = k - (n : Int) := IntWalk.i64_in _ ⟨by omega, by omega⟩
  clear hv
  by_cases hlt : k - (n : Int) < 0
  · have HE : Hid (v = -1) := by show _ = _; rw [← HV.out]; exact if_pos hlt
    go_enter Try.func46, Try.ntmps46
    go_wp2
    go_ret
    exact ⟨ret_i HE.out.symm, Below.refl _ _⟩
  · have HE : Hid (v = k - n) := by show _ = _; rw [← HV.out]; exact if_neg hlt
    have hge : 0 ≤ k - (n : Int) := by omega
    go_enter Try.func46, Try.ntmps46
    go_wp2
    go_ret
    exact ⟨ret_i HE.out.symm, Below.refl _ _⟩



theorem szPartition_is (ad : Option Addr) (n cap : Nat) (k v : Int) (hn : n ≤ maxLen) (h0 : 0 ≤ k) (hk : k ≤ 1048576) (hv : (if k - n < 0 then -1 else k - n) = v) (w : World) :
    Calls Try.prog 22 #[.agg #[.slice ad n cap], .int .i64 k] w (Gives (.int .i64 v) w) := by
  have HV := Lib.hid hv
  obtain ⟨w1, hw1⟩ : ∃ u, w.alloc (.cells #[.slice ad n cap] 44) = u := ⟨_, rfl⟩
  have HB1 : Hid (Below w.heap.size w w1) := by subst hw1; exact (Below.refl _ _).alloc (Nat.le_refl _) _
  have p1 : w1.heap[w.heap.size]? = some (.cells #[.slice ad n cap] 44) := by subst hw1; exact heap_alloc_new _ _
  have cp := cell1 p1
  by_cases hlt : k - (n : Int) < 0
  · have hv' : v = -1 := by rw [← hv]; exact if_pos hlt
    subst hv'
    clear hv hlt
    go_enter Try.func22, Try.ntmps22
    go_wp2_with fail
    refine (szIntS_is _ _ _ _ _ hn h0 hk HV.out _).mono ?_
    rintro e w2 ⟨rfl, hb2⟩
    have HB2 : Hid (Below w.heap.size w w2) := HB1.out.trans (hb2.mono HB1.out.size)
    clear hb2
    go_wp2
    go_ret
    exact ⟨rfl, HB2.out⟩
  · have hv' : 0 ≤ v := by rw [← hv, if_neg hlt]; omega
    clear hv hlt
    go_enter Try.func22, Try.ntmps22
    go_wp2_with fail
    refine (szIntS_is _ _ _ _ _ hn h0 hk HV.out _).mono ?_
    rintro e w2 ⟨rfl, hb2⟩
    have HB2 : Hid (Below w.heap.size w w2) := HB1.out.trans (hb2.mono HB1.out.size)
    clear hb2
    go_wp2
    go_ret
    exact ⟨rfl, HB2.out⟩


theorem take_set (zs : List Int) (n k : Nat) (hn : zs.length = n) (hk : k < n) : (zs.take k ++ List.replicate (n - k) 0).set k (zs.getD k 0) = zs.take (k + 1) ++ List.replicate (n - (k + 1)) 0 := by
  have h1 : (zs.take k).length = k := by rw [List.length_take]; omega
  have h2 : n - k = (n - (k + 1)) + 1 := by omega
  rw [List.set_append_right _ _ (by omega), h1, Nat.sub_self, h2, List.replicate_succ, List.set_cons_zero, List.take_add_one, List.append_assoc]
  congr 1
  rw [List.getD_eq_getElem?_getD, List.getElem?_eq_getElem (by omega)]
  rfl


set_option maxHeartbeats 1000000 in
set_option maxRecDepth 100000 in
theorem toIntS_is (ad : Option Addr) (n cap : Nat) (zs : List Int) (hz : zs.length = n) (h1 : n ≤ 4000000) (w : World) (hr : RowI w ad zs) :
    Calls Try.prog 47 #[.slice ad n cap] w (GivesI zs w) := by
  have HZ := Lib.hid hz
  have HR := Lib.hid hr
  clear hz hr
  obtain ⟨i0, hi, hz0, hz1, hz2⟩ := info_parts infoI
  go_enter Try.func47, Try.ntmps47
  go_wp2_with (at_make; refine wpList_make_full _ rfl _ _ 26 rfl w.heap.size 3 i0 (.int .i64 0) 1 Try.underlying26 hi hz0 hz1 _ _ _ _ n rfl rfl rfl rfl (by rw [hz2]; omega) (by unfold maxLen; omega) (Nat.le_refl _) ?_)
  intro w1 hown hgr
  have hb1 : Below w.heap.size w w1 := (Below.refl _ _).grown hgr (Nat.le_refl _) (fun k hk => by cases hk)
  have hO : Hid (OwnI w.heap.size (.slice (some ⟨w.heap.size, 0, none⟩) n n) (zs.take 0 ++ List.replicate (n - 0) 0) w1) := by
    show World.ownsRow _ _ _ _ _ _ _
    rw [made_one] at hown
    rw [show (zs.take 0 ++ List.replicate (n - 0) 0 : List Int) = List.replicate n 0 by simp, List.length_replicate, List.map_replicate]
    exact hown
  have HB1 := Lib.hid hb1
  clear hgr hown hb1
  go_wp2_with fail
  go_loopw [4] (fun i wr => ∃ k : Nat, k ≤ n ∧ i = .int .i64 k ∧ OwnI w.heap.size (.slice (some ⟨w.heap.size, 0, none⟩) n n) (zs.take k ++ List.replicate (n - k) 0) wr ∧ Below w.heap.size w wr) (fun i _ => n - (intOf i).toNat)
  case atStart => exact ⟨0, Nat.zero_le _, rfl, hO.out, HB1.out⟩
  case round =>
    obtain ⟨k, hk, rfl, hown, hbk⟩ := hrel
    have HB2 := Lib.hid hbk
    clear hbk hO HB1
    by_cases hlt : k < n
    · have hlen : (zs.take k ++ List.replicate (n - k) (0 : Int)).length = n := by have := HZ.out; simp; omega
      obtain ⟨g, hg, hc, hf, hB, hgl⟩ := hown.at (k := k) (by rw [hlen]; exact hlt)
      obtain rfl : w.heap.size = g := by simpa using hg
      obtain ⟨old, hco⟩ : ∃ u, wr.cell? ⟨w.heap.size, k, none⟩ = some u := ⟨_, hc⟩
      obtain ⟨pb, off, rfl, hsrc⟩ := (HR.out.below HB2.out).at (k := k) (by rw [HZ.out]; exact hlt)
      have HO2 := Lib.hid hown
      have HL := Lib.hid hlen
      have HST := Lib.hid (take_set zs n k HZ.out hlt)
      obtain ⟨x, hx⟩ : ∃ x, zs.getD k 0 = x := ⟨_, rfl⟩
      rw [hx] at hsrc
      have HX := Lib.hid hx
      clear hown hc hg hlen hx
      go_wp2_with fail
      have R : OwnI w.heap.size (.slice (some ⟨w.heap.size, 0, none⟩) n n) (zs.take (k + 1) ++ List.replicate (n - (k + 1)) 0) (wr.setCell ⟨w.heap.size, k, none⟩ (.int .i64 x)) := by
        rw [← HST.out, HX.out]
        exact HO2.out.stored HL.out k x
      go_roundw
      case rel => exact ⟨k + 1, by omega, by go_num, R, HB2.out.setCell (Nat.le_refl _) _⟩
      case measure => simp [intOf]; omega
    · obtain rfl : k = n := by omega
      have HO2 := Lib.hid hown
      clear hown
      go_wp2_with fail
      go_ret
      have hO2 := HO2.out
      have hzk := HZ.out
      rw [Nat.sub_self, List.replicate_zero, List.append_nil, List.take_of_length_le (by omega)] at hO2
      refine ⟨_, k, by rw [hzk]; rfl, by rw [hzk]; exact hO2, HB2.out⟩


/-- A call that answers a partition with a row of its own. -/
def GivesP (l : List Int) (w : World) (e : Ending) (w' : World) : Prop :=
  ∃ a cap, e = .returned (.agg #[.slice a l.length cap]) ∧ OwnI w.heap.size (.slice a l.length cap) l w' ∧ Below w.heap.size w w'


set_option maxHeartbeats 1000000 in
theorem toPartition_is (ad : Option Addr) (n cap : Nat) (zs : List Int) (hz : zs.length = n) (h1 : n ≤ 4000000) (w : World) (hr : RowI w ad zs) :
    Calls Try.prog 24 #[.agg #[.slice ad n cap]] w (GivesP zs w) := by
  obtain ⟨w1, hw1⟩ : ∃ u, ((w.alloc (.cells #[.slice ad n cap] 44)).alloc (.cells #[.slice none 0 0] 28)).alloc (.cells #[.slice none 0 0] 28) = u := ⟨_, rfl⟩
  have HB1 : Hid (Below w.heap.size w w1) := by subst hw1; exact (((Below.refl _ _).alloc (Nat.le_refl _) _).alloc (by simp) _).alloc (by simp; omega) _
  have a1 : w1.heap[w.heap.size]? = some (.cells #[.slice ad n cap] 44) := by subst hw1; exact box3_0 _ _ _ _
  have b1 : w1.heap[w.heap.size + 1]? = some (.cells #[.slice none 0 0] 28) := by subst hw1; exact box3_1 _ _ _ _
  have c1 : w1.heap[w.heap.size + 1 + 1]? = some (.cells #[.slice none 0 0] 28) := by subst hw1; exact box3_2 _ _ _ _
  have HS1 : Hid (w.heap.size + 1 + 1 < w1.heap.size) := lt_of_block c1
  have HR1 := Lib.hid (hr.below HB1.out)
  have HZ := Lib.hid hz
  have ca := cell1 a1
  clear hr hz
  go_enter Try.func24, Try.ntmps24
  go_wp2_with fail
  refine (toIntS_is _ _ _ _ HZ.out h1 _ HR1.out).mono ?_
  rintro e w2 ⟨aa, cc, rfl, own2, hb2⟩
  have b2 := keep_block hb2 b1 (lt_of_block b1)
  have c2 := keep_block hb2 c1 (lt_of_block c1)
  have HB2 : Hid (Below w.heap.size w w2) := HB1.out.trans (hb2.mono HB1.out.size)
  have HO2 := Lib.hid own2
  have cb := cell1 b2
  have fb := thawed b2 0
  have cc2 := cell1 c2
  have fc := thawed c2 0
  clear hb2 own2 hw1 a1 b1 c1 HR1 ca HB1
  obtain ⟨w3, hw3⟩ : ∃ u, w2.setCell ⟨w.heap.size + 1 + 1, 0, none⟩ (.slice aa zs.length cc) = u := ⟨_, rfl⟩
  have c3 : w3.heap[w.heap.size + 1 + 1]? = some (.cells #[.slice aa zs.length cc] 28) := by rw [← hw3]; exact set_cells c2 0 _
  have b3 : w3.heap[w.heap.size + 1]? = some (.cells #[.slice none 0 0] 28) := by rw [← hw3]; exact (Below.heap_setCell _ _ _ _ (by simp)).trans b2
  have cc3 := cell1 c3
  have cb3 := cell1 b3
  have fb3 := thawed b3 0
  have HB3 : Hid (Below w.heap.size w w3) := by show Below _ _ _; rw [← hw3]; exact HB2.out.setCell (by simp; omega) _
  have HO3 : Hid (OwnI w1.heap.size (.slice aa zs.length cc) zs w3) := by show OwnI _ _ _ _; rw [← hw3]; exact ownI_set HS1.out HO2.out _
  go_wp2_with fail
  (try simp only [Exit.inBlock, Exit.then])
  refine bodyPost_ret (v := .agg #[.slice aa zs.length cc]) ?_ rfl ⟨aa, cc, rfl, ?_, ?_⟩
  · rw [results_cell1 rfl]
    go_simp
  · have hs := HS1.out
    exact (ownI_set (by simp; omega) HO3.out _).mono (by omega)
  · repeat' (first | exact HB3.out | refine Below.drew ?_ | refine Below.setCell ?_ (by simp <;> omega) _)


theorem givesP_len {l : List Int} {K : Nat} (hK : l.length = K) {w : World} {e : Ending} {w' : World} (h : GivesP l w e w') : ∃ a cap, e = .returned (.agg #[.slice a K cap]) ∧ OwnI w.heap.size (.slice a K cap) l w' ∧ Below w.heap.size w w' := by
  subst hK
  exact h


theorem eqPartition_is {B C : Nat} {a b : Option Addr} {ca cb : Nat} {l : List Int} {w : World} {n : Nat} (hn : l.length = n) (ha : OwnI B (.slice a n ca) l w) (hb : OwnI C (.slice b n cb) l w) (hl : (n : Int) ≤ 9223372036854775807) :
    Calls Try.prog 25 #[.agg #[.slice a n ca], .agg #[.slice b n cb]] w (Gives (.bool true) w) := by
  obtain ⟨w1, hw1⟩ : ∃ u, (w.alloc (.cells #[.slice a n ca] 28)).alloc (.cells #[.slice b n cb] 28) = u := ⟨_, rfl⟩
  have HB1 : Hid (Below w.heap.size w w1) := by subst hw1; exact ((Below.refl _ _).alloc (Nat.le_refl _) _).alloc (by simp) _
  have g1 : w1.heap[w.heap.size]? = some (.cells #[.slice a n ca] 28) := by subst hw1; exact heap_alloc2_old _ _ _
  have p1 : w1.heap[w.heap.size + 1]? = some (.cells #[.slice b n cb] 28) := by subst hw1; exact heap_alloc2_new _ _ _
  have c0 := cell1 g1
  have c1 := cell1 p1
  have HN := Lib.hid hn
  have HA := Lib.hid (ha.below HB1.out)
  have HC := Lib.hid (hb.below HB1.out)
  clear hn ha hb
  go_enter Try.func25, Try.ntmps25
  go_wp2_with fail
  refine (eqIntS_any HN.out HA.out HC.out hl).mono ?_
  rintro e w2 ⟨rfl, hb2⟩
  have HB2 : Hid (Below w.heap.size w w2) := HB1.out.trans (hb2.mono HB1.out.size)
  clear hb2
  go_wp2
  go_ret
  exact ⟨rfl, HB2.out⟩



theorem markPartition_is {B : Nat} {a : Option Addr} {c : Nat} {l : List Int} {w : World} {n : Nat} (hn : l.length = n) (h : OwnI B (.slice a n c) l w) (k0 : Nat) (h1 : k0 + n ≤ 1000000000) (g0 : Nat) (hg0 : ∀ x, a = some x → x.block = g0) :
    Calls Try.prog 28 #[.agg #[.slice a n c], .int .i64 k0] w fun e w' => e = .returned (.int .i64 ((k0 + n : Nat) : Int)) ∧ OwnI B (.slice a n c) (marksI k0 n) w' ∧ Only g0 w w' := by
  obtain ⟨w1, hw1⟩ : ∃ u, w.alloc (.cells #[.slice a n c] 28) = u := ⟨_, rfl⟩
  have HB1 : Hid (Only g0 w w1) := by subst hw1; exact (Only.refl _ _).alloc _
  have g1 : w1.heap[w.heap.size]? = some (.cells #[.slice a n c] 28) := by subst hw1; exact heap_alloc_new _ _
  have HA : Hid (OwnI B (.slice a n c) l w1) := by subst hw1; exact World.ownsRow.alloc h _
  have c0 := cell1 g1
  have HN := Lib.hid hn
  have HG := Lib.hid hg0
  clear hn h hg0
  go_enter Try.func28, Try.ntmps28
  go_wp2_with fail
  refine (markIntS_any HN.out HA.out k0 h1 g0 HG.out).mono ?_
  rintro e w2 ⟨rfl, own2, ho2⟩
  have HO := Lib.hid own2
  have HB2 := Lib.hid (HB1.out.trans ho2)
  clear own2 ho2
  go_wp2
  go_ret
  exact ⟨rfl, HO.out, HB2.out⟩


end Go.Proofs.Ytljcdjhafhppbaa
