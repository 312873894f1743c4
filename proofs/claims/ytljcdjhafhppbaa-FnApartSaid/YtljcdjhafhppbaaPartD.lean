/-
  The draw of a geometry and a partition.
-/
import Derived.Test.YtljcdjhafhppbaaPartM
import Derived.Test.YtljcdjhafhppbaaGivesI
import Derived.Test.YtljcdjhafhppbaaFlowS
import Derived.Test.YtljcdjhafhppbaaGeoI
import Derived.Test.YtljcdjhafhppbaaDrawGeoW
namespace Go.Proofs.Ytljcdjhafhppbaa
open Go.RowKit

set_option linter.unusedVariables false

/-- A drawn partition: its row is of the call's own. -/
def DrewPart (n : Nat) (c B : Nat) (w : World) (e : Ending) (w' : World) : Prop :=
  ∃ (aa : Option Addr) (cc : Nat) (l : List Int), e = .returned (.agg #[.slice aa n cc]) ∧ l.length = n ∧ (∀ x ∈ l, 0 ≤ x ∧ x ≤ 2) ∧ OwnI w.heap.size (.slice aa n cc) l w' ∧ Cur c B w' ∧ Only c w w'

set_option maxHeartbeats 4000000 in
set_option maxRecDepth 100000 in
theorem l05Part_any {c B : Nat} {w : World} (hc : Cur c B w) (a b r d : Int) (n : Nat) (hn : bankN a b r d = (n : Int)) :
    Calls Try.prog 49 #[.pointer (some ⟨c, 0, none⟩), .agg #[.int .i64 a, .int .i64 b, .int .i64 r, .int .i64 d]] w (DrewPart n c B w) := by
  have hcl := hc.lt
  have hBc : B ≤ c := by obtain ⟨_, _, _, _, _, _, _, h, _⟩ := hc; exact h
  have hn8 := bankN_range a b r d
  rw [hn] at hn8
  have HBN := Lib.hid hn
  obtain ⟨i0, hi, hz0, hz1, hz2⟩ := info_parts infoI
  obtain ⟨w1, hw1⟩ : ∃ u, ((w.alloc (.cells #[.int .i64 a, .int .i64 b, .int .i64 r, .int .i64 d] 25)).alloc (.cells #[.slice none 0 0] 28)).alloc (.cells #[.slice none 0 0] 28) = u := ⟨_, rfl⟩
  have g1 : w1.heap[w.heap.size]? = some (.cells #[.int .i64 a, .int .i64 b, .int .i64 r, .int .i64 d] 25) := by subst hw1; exact box3_0 _ _ _ _
  have z1 : w1.heap[w.heap.size + 1]? = some (.cells #[.slice none 0 0] 28) := by subst hw1; exact box3_1 _ _ _ _
  have s1 : w1.heap[w.heap.size + 1 + 1]? = some (.cells #[.slice none 0 0] 28) := by subst hw1; exact box3_2 _ _ _ _
  have HC1 : Hid (Cur c B w1) := by subst hw1; exact ((hc.alloc _).alloc _).alloc _
  have HO1 : Hid (Only c w w1) := by subst hw1; exact (((Only.refl c w).alloc _).alloc _).alloc _
  have cs1 := cell1 s1
  have fs1 := thawed s1 0
  obtain ⟨w2, hw2⟩ : ∃ u, w1.setCell ⟨w.heap.size + 1 + 1, 0, none⟩ (.slice none 0 0) = u := ⟨_, rfl⟩
  have s2 : w2.heap[w.heap.size + 1 + 1]? = some (.cells #[.slice none 0 0] 28) := by rw [← hw2]; exact set_cells s1 0 _
  have z2 : w2.heap[w.heap.size + 1]? = some (.cells #[.slice none 0 0] 28) := by rw [← hw2]; exact (Below.heap_setCell _ _ _ _ (by simp)).trans z1
  have g2 : w2.heap[w.heap.size]? = some (.cells #[.int .i64 a, .int .i64 b, .int .i64 r, .int .i64 d] 25) := by rw [← hw2]; exact (Below.heap_setCell _ _ _ _ (by simp; omega)).trans g1
  have HC2 : Hid (Cur c B w2) := by show Cur c B w2; rw [← hw2]; exact HC1.out.setNew (by simp; omega) (by simp; omega) _
  have HO2 : Hid (Only c w w2) := by show Only c w w2; rw [← hw2]; exact HO1.out.setNew (by simp; omega) _
  clear hc hn
  go_enter Try.func49, Try.ntmps49
  go_wp2_with fail
  clear hw1 hw2 cs1 fs1 g1 z1 s1 HC1 HO1
  obtain ⟨sb, hsb⟩ : ∃ u, w.heap.size + 1 + 1 = u := ⟨_, rfl⟩
  (try simp only [hsb])
  rw [hsb] at s2
  have hs0 : w.heap.size + 2 = sb := hsb
  go_loopw [6] (fun i wr => ∃ k : Nat, ∃ (l : List Int) (v : Value), k ≤ n ∧ i = .int .i64 k ∧ Hid (l.length = k) ∧ Hid (∀ x ∈ l, 0 ≤ x ∧ x ≤ 2) ∧ OwnI (sb + 1) v l wr ∧ wr.heap[sb]? = some (.cells #[v] 28) ∧ wr.heap[w.heap.size + 1]? = some (.cells #[.slice none 0 0] 28) ∧ wr.heap[w.heap.size]? = some (.cells #[.int .i64 a, .int .i64 b, .int .i64 r, .int .i64 d] 25) ∧ Cur c B wr ∧ Only c w wr) (fun i _ => n - (intOf i).toNat)
  case atStart => exact ⟨0, [], .slice none 0 0, Nat.zero_le _, rfl, rfl, fun x h => (by cases h), World.ownsRow_nil _ _ _ _, s2, z2, g2, HC2.out, HO2.out⟩
  case round =>
    obtain ⟨k, l, v, hk, rfl, HL, HA, hown, hs, hz, hg, hcr, hor⟩ := hrel
    have HOR := Lib.hid hor
    have HOW := Lib.hid hown
    have HCR := Lib.hid hcr
    obtain ⟨cg0, cg1, cg2, cg3⟩ := cells4 hg
    have hcl2 := hcr.lt
    clear hor hown hcr g2 s2 z2 HC2 HO2
    go_wp2_with fail
    refine (specBank_is _ _ _ _ _ HBN.out _).mono ?_
    rintro e w3 ⟨rfl, hb3⟩
    have s3 := keep_block hb3 hs (lt_of_block hs)
    have z3 := keep_block hb3 hz (lt_of_block hz)
    have g3 := keep_block hb3 hg (lt_of_block hg)
    have HO3 := Lib.hid (HOW.out.below hb3)
    have HOR3 : Hid (Only c w w3) := HOR.out.later hb3
    have HC3 : Hid (Cur c B w3) := HCR.out.keep (hb3.block c hcl2) (hb3.mono (by omega))
    clear hb3 HOR HOW HCR hs hz hg cg0 cg1 cg2 cg3
    by_cases hlt : k < n
    · have d3 := cell1 s3
      go_wp2_with fail
      refine wp_region_float (A := ?A) [.h, .h, .h, .t, .t, .t, .h, .e] (by kernel_rfl) (by kernel_rfl) (fun u => u.cell? ⟨sb, 0, none⟩ = some v) ?hC ?hH ?hT
      case hC => exact cell1 s3
      case hH =>
        intro u hu
        have z0 := fun q : Same u => q.cell hu
        simp only [headsOf]
        repeat (go_big_quiet_step (fail))
        refine wpQuiet_nil ?_
        exact rfl
      case hT =>
        simp only [chainT]
        have HCd : Hid (Cur c B w3.drew) := HC3.out
        have HOd : Hid (Only c w w3.drew) := HOR3.out.drewN 1
        have HId : Hid (OwnI (sb + 1) v l w3.drew) := HO3.out
        have s3' : w3.drew.heap[sb]? = some (.cells #[v] 28) := s3
        have z3' : w3.drew.heap[w.heap.size + 1]? = some (.cells #[.slice none 0 0] 28) := z3
        have g3' : w3.drew.heap[w.heap.size]? = some (.cells #[.int .i64 a, .int .i64 b, .int .i64 r, .int .i64 d] 25) := g3
        clear s3 z3 g3 HO3 HOR3 HC3 d3
        go_wp2_with fail
        refine (l01Below_any HCd.out 3 (by omega)).mono ?_
        rintro e w4 ⟨q, rfl, hq0, hq1, hc4, ho4⟩
        rw [topOf_pos (by omega)] at hq1
        have s4 := (ho4.block _ (lt_of_block s3') (by omega)).trans s3'
        have z4 := (ho4.block _ (lt_of_block z3') (by omega)).trans z3'
        have g4 := (ho4.block _ (lt_of_block g3') (by omega)).trans g3'
        have own4 := HId.out.only ho4 (by omega)
        have HO4 := Lib.hid (HOd.out.trans ho4)
        have HC4 := Lib.hid hc4
        have hsl := lt_of_block s4
        clear ho4 hc4 s3' z3' g3' HId HOd HCd
        go_wp2_with fail
        refine stepQ_normal ⟨cell1 s4, ?_⟩
        go_wp2_with fail
        refine stepQ_normal ⟨cell1 (keep_block ((Below.refl w4.heap.size w4).alloc (Nat.le_refl _) _) s4 hsl), ?_⟩
        go_wp2_with (at_builtin; refine wpList_append_own _ rfl _ _ 26 rfl (sb + 1) 3 i0 (.int .i64 0) 1 8 Try.underlying26 hi hz0 hz1 hz2 rfl (by decide) _ _ _ rfl (World.ownsRow.alloc own4 _) ⟨w4.heap.size, 0, none⟩ 1 1 [.int .i64 q] rfl rfl (cell_one_new _ _ _) (by intro u hu; simp at hu; subst hu; rfl) (by rw [HL.out]; unfold maxLen; omega) (by rw [HL.out]; omega) (by rw [World.size_alloc]; omega) ?_)
        intro v' w5 hown5 hgrow _
        have R : Hid (OwnI (sb + 1) v' (l ++ [q]) w5) := ownI_more hown5
        have hrow : ∀ j, Value.ownBlock v = some j → sb + 1 ≤ j := fun j hj => (World.ownsRow.lt own4 j hj).1
        have hb5 : Below (sb + 1) w4 w5 := ((Below.refl (sb + 1) w4).alloc (by omega) _).grown hgrow (by rw [World.size_alloc]; omega) hrow
        have s5 := keep_block hb5 s4 (by omega)
        have z5 := keep_block hb5 z4 (by omega)
        have g5 := keep_block hb5 g4 (by omega)
        have HC5 : Hid (Cur c B w5) := (HC4.out.alloc _).grown hgrow (fun j hj => by have := hrow j hj; omega)
        have HO5 : Hid (Only c w w5) := only_grown (HO4.out.trans ((Only.refl c w4).alloc _)) hgrow (fun j hj => by have := hrow j hj; omega)
        have hshape : Hid (∃ aa cc, v' = .slice aa (l.length + 1) cc) := by
          obtain ⟨aa, cc, h⟩ := R.out.shape
          exact ⟨aa, cc, by rw [h, List.length_append]; rfl⟩
        clear hb5 hown5 hgrow own4 hrow HC4 HO4 s4 z4 g4
        obtain ⟨aa, cc, rfl⟩ := hshape.out
        clear hshape
        go_wp2_with fail
        refine stepQ_normal ⟨cell1 s5, ?_⟩
        obtain ⟨w6, hw6⟩ : ∃ u, w5.setCell ⟨sb, 0, none⟩ (.slice aa (l.length + 1) cc) = u := ⟨_, rfl⟩
        have s6 : w6.heap[sb]? = some (.cells #[.slice aa (l.length + 1) cc] 28) := by rw [← hw6]; exact set_cells s5 0 _
        have z6 : w6.heap[w.heap.size + 1]? = some (.cells #[.slice none 0 0] 28) := by rw [← hw6]; exact (Below.heap_setCell _ _ _ _ (by simp; omega)).trans z5
        have g6 : w6.heap[w.heap.size]? = some (.cells #[.int .i64 a, .int .i64 b, .int .i64 r, .int .i64 d] 25) := by rw [← hw6]; exact (Below.heap_setCell _ _ _ _ (by simp; omega)).trans g5
        have HC6 : Hid (Cur c B w6) := by show Cur c B w6; rw [← hw6]; exact HC5.out.setNew (by simp; omega) (by simp; omega) _
        have HO6 : Hid (Only c w w6) := by show Only c w w6; rw [← hw6]; exact HO5.out.setNew (by simp; omega) _
        have HR6 : Hid (OwnI (sb + 1) (.slice aa (l.length + 1) cc) (l ++ [q]) w6) := by show OwnI _ _ _ w6; rw [← hw6]; exact ownI_set (by simp) R.out _
        have HA2 : Hid (∀ x ∈ l ++ [q], 0 ≤ x ∧ x ≤ 2) := fun x hx => by
          rcases List.mem_append.1 hx with h | h
          · exact HA.out x h
          · obtain rfl := List.mem_singleton.1 h
            omega
        have HL2 : Hid ((l ++ [q]).length = k + 1) := by show _ = _; rw [List.length_append, HL.out]; rfl
        have b5 := cell1 s5
        have f5 := thawed s5 0
        clear R HC5 HO5 z5 s5 g5
        go_wp2_with fail
        refine stepQ_normal ⟨trivial, ?_⟩
        clear hw6 b5 f5
        go_wp2_with fail
        go_roundw
        case rel => exact ⟨k + 1, _, _, by omega, by go_num, HL2, HA2, HR6.out, s6, z6, g6, HC6.out, HO6.out⟩
        case measure => simp [intOf]; omega
    · obtain rfl : k = n := by omega
      have hshape : Hid (∃ aa cc, v = .slice aa l.length cc) := HO3.out.shape
      obtain ⟨aa, cc, rfl⟩ := hshape.out
      clear hshape
      have hlen := HL.out
      rw [hlen] at s3
      have d0 := cell1 s3
      have y0 := cell1 z3
      have f0 := thawed z3 0
      go_wp2
      (try simp only [Exit.inBlock, Exit.then])
      refine bodyPost_ret (v := .agg #[.slice aa k cc]) ?_ rfl ⟨aa, cc, l, rfl, hlen, HA.out, ?_, ?_, ?_⟩
      · rw [results_cell1 rfl]
        go_simp
      · have h0 := HO3.out
        rw [hlen] at h0
        refine OwnI.mono (B := sb + 1) ?_ (by omega)
        repeat' (first | refine ownI_set (by simp; omega) ?_ _ | exact h0)
      · have h0 := HC3.out
        repeat' (first | refine Cur.setNew ?_ (by simp; omega) (by simp; omega) _ | exact h0)
      · have h0 := HOR3.out
        repeat' (first | refine Only.setNew ?_ (by simp) _ | exact h0)

end Go.Proofs.Ytljcdjhafhppbaa
