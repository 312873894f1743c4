/-
  Texts of one proof, merged: ArrYW, ArrYX, ArrYG, ArrZ9, ArrYH, ArrZ10, ArrZ11.
-/
import Derived.Test.YtfpfgaifhmgpiaaDoorQL1419
import Derived.Test.YtfpfgaifhmgpiaaDoorQL1420
import Derived.LoopN
namespace Go.Proofs.YtfpfgaifhmgpiaaDoor
open Go.RowKit Go.PlainAid

set_option linter.unusedVariables false

/-- What impl's variable holds. -/
def DecAt (w : World) : Prop := w.cell? ⟨0, 0, none⟩ = some (.int .i64 5) ∧ w.cell? ⟨0, 1, none⟩ = some (.int .i64 10)

theorem DecAt.below {w w' : World} (h : DecAt w) (hb : Below w.heap.size w w') : DecAt w' :=
  have k : ∀ {i : Nat} {v : Value}, w.cell? ⟨0, i, none⟩ = some v → w'.cell? ⟨0, i, none⟩ = some v := fun e => (hb.cell (World.block_lt_of_cell? _ _ e)).trans e
  ⟨k h.1, k h.2⟩

theorem DecAt.lt {w : World} (h : DecAt w) : 0 < w.heap.size := World.block_lt_of_cell? _ _ h.1

theorem DecAt.keep {w w' : World} {S : List Nat} (h : DecAt w) (ho : OnlyS S w w') (hS : 0 ∉ S) : DecAt w' := by
  have e := ho.block _ h.lt hS
  have k : ∀ i, w'.cell? ⟨0, i, none⟩ = w.cell? ⟨0, i, none⟩ := fun i => World.cell?_of_block e
  exact ⟨(k 0).trans h.1, (k 1).trans h.2⟩

theorem dec_ix0 (w : World) : (Instr.index 125 (.agg #[.int .i64 5, .int .i64 10]) (.int .i64 0)).run Tryd.prog w = .ok (.int .i64 5) w := by kernel_rfl

theorem dec_ix1 (w : World) : (Instr.index 125 (.agg #[.int .i64 5, .int .i64 10]) (.int .i64 1)).run Tryd.prog w = .ok (.int .i64 10) w := by kernel_rfl

set_option maxHeartbeats 8000000 in
set_option maxRecDepth 100000 in
theorem implLose_is {Q g0 o0 c0 g1 o1 g2 o2 D B0 i n0 : Nat} {v v1 v2 : Value} {c0' : Nat} {S : List Nat} {xx : Arr} {w : World} (hq : w.heap[Q]? = some (.cells (rowF g0 o0 c0 g1 o1 g2 o2 D B0 i v) 110 (0, 0)))
    (hO : arrK.own w S [.slice (some ⟨g0, o0, none⟩) n0 c0', v1, v2] xx) (hQ : Q ∉ S) (hG : DecAt w) (hGS : 0 ∉ S) (hsym : ∀ c ∈ xx.1, SymOk c.1 11) (hP : (B0 + i) * D + D ≤ xx.1.length) (hD : D ≤ 8) :
    Calls Tryd.prog 81 #[.pointer (some ⟨Q, 0, none⟩)] w fun e w' => e = .returned (.tuple #[]) ∧ arrK.own w' S [.slice (some ⟨g0, o0, none⟩) n0 c0', v1, v2] (spoilN xx.1 ((B0 + i) * D) D, xx.2) ∧ OnlyS S w w' := by
  obtain ⟨x, yz⟩ := xx
  obtain ⟨bb, hbb⟩ : ∃ bb, (B0 + i) * D = bb := ⟨_, rfl⟩
  unfold rowF at hq
  rw [hbb] at hq hP ⊢
  have HO := Lib.hid hO
  have HQ : Hid (Q ∉ S) := hQ
  have HG := Lib.hid hG
  have HGS := Lib.hid hGS
  have HSY : Hid (∀ c ∈ x, SymOk c.1 11) := hsym
  have HP : Hid (bb + D ≤ x.length) := hP
  have hi1 := dec_ix0
  have hi2 := dec_ix1
  obtain ⟨q0, q1, q2, q3⟩ := cells4 hq
  clear hO hQ hG hGS hsym hP hbb
  go_enter Tryd.func81, Tryd.ntmps81
  go_wp2_with fail
  clear q0 q1 q2 q3
  go_loopw [11] (fun u wr => ∃ k : Nat, k ≤ D ∧ u = .int .i64 k ∧ arrK.own wr S [.slice (some ⟨g0, o0, none⟩) n0 c0', v1, v2] (spoilN x bb k, yz) ∧ OnlyS S w wr) (fun u _ => D + 1 - (intOf u).toNat)
  case atStart => exact ⟨0, Nat.zero_le _, rfl, HO.out, OnlyS.refl _ _⟩
  case round =>
    obtain ⟨k, hk, rfl, hown, hon⟩ := hrel
    have HOW := Lib.hid hown
    have HON := Lib.hid hon
    clear hown hon
    by_cases hlt : k < D
    case neg =>
      obtain rfl : k = D := by omega
      have hI : decide ((k : Int) < (k : Int)) = false := decide_eq_false (by omega)
      go_wp2_with fail
      (try simp only [Exit.inBlock, Exit.then])
      exact bodyPost_end (v := .tuple #[]) (by simp [results, Tryd.results81]) rfl ⟨rfl, HOW.out, HON.out⟩
    have hI : decide ((k : Int) < (D : Int)) = true := decide_eq_true (by omega)
    have wk : IntKind.i64.wrap ((k : Int) + 1) = (k : Int) + 1 := IntWalk.i64_in _ (by omega)
    have hkl : bb + k < (spoilN x bb k).length := by rw [spoilN_length]; have := HP.out; omega
    obtain ⟨c, hc⟩ : ∃ c, (spoilN x bb k).getD (bb + k) ([], false) = c := ⟨_, rfl⟩
    have hcx : x.getD (bb + k) ([], false) = c := by rw [← hc]; exact (spoilN_far _ (by omega)).symm
    have hcm : c ∈ x := by rw [← hcx, List.getD_eq_getElem?_getD, List.getElem?_eq_getElem (by have := HP.out; omega)]; exact List.getElem_mem _
    have hsym := HSY.out c hcm
    have HSTEP : Hid (spoilN x bb (k + 1) = (spoilN x bb k).set (bb + k) (spoil c.1, c.2)) := by
      show spoilN _ _ _ = _
      rw [spoilN, hc]
    obtain ⟨s, pz⟩ := c
    have hs11 : (s.length : Int) = 11 := hsym.2
    have hl11 : s.length = 11 := by omega
    obtain ⟨_, _, _, _, _, _, a, n, kk, T, e0, hjn, hgS, _, hnS, hcell, hcellb, hT, hoS, hback⟩ := cell_place2 HOW.out hkl hc
    cases e0
    have eo : o0 + (bb + k) * 2 = o0 + bb * 2 + k * 2 := by omega
    have eo1 : o0 + (bb + k) * 2 + 1 = o0 + bb * 2 + k * 2 + 1 := by omega
    rw [eo] at hcell
    rw [eo1] at hcellb
    have HT := Lib.hid hT
    have HBK := Lib.hid hback
    have hel0 : El (s.getD 0 0) := els_getD hsym.1 0
    have hel1 : El ((s.set 0 (xr (s.getD 0 0) 5)).getD 1 0) := by
      rw [List.getD_eq_getElem?_getD, List.getElem?_set_ne (by decide), ← List.getD_eq_getElem?_getD]
      exact els_getD hsym.1 1
    have HE0 := Lib.hid hel0
    have HE1 := Lib.hid hel1
    have HL0 : Hid (0 < s.length) := by show _ < _; omega
    have HL1 : Hid (1 < (s.set 0 (xr (s.getD 0 0) 5)).length) := by show _ < _; rw [List.length_set]; omega
    have hn6 : n ≤ 1000000 := by have : n = s.length := hnS; omega
    have gr' := HG.out.keep HON.out HGS.out
    obtain ⟨w3, hw3⟩ : ∃ u, wr.alloc (.cells #[.slice a n kk, .bool pz] 41) = u := ⟨_, rfl⟩
    have hbA : Below wr.heap.size wr w3 := by subst hw3; exact (Below.refl _ _).alloc (Nat.le_refl _) _
    have q3 : w3.heap[wr.heap.size]? = some (.cells #[.slice a n kk, .bool pz] 41) := hw3 ▸ heap_alloc_new wr _
    have HOS := Lib.hid (intsK.ownBelow hoS hbA)
    have HGT : Hid (DecAt w3) := gr'.below hbA
    have HBA := Lib.hid hbA
    have HTQ : Hid (wr.heap.size ∉ T) := fun hm => absurd (intsK.lt hoS _ hm) (Nat.lt_irrefl _)
    have HTG : Hid (0 ∉ T) := fun hm => HGS.out (HT.out _ hm).1
    obtain ⟨p0, p1⟩ := cells2 q3
    obtain ⟨d0, d1⟩ := HGT.out
    clear hback hT hoS hbA hsym hcm hc hcx hel0 hel1 gr' hnS hs11 hl11
    go_wp2_with fail
    clear hcell hcellb d0 d1
    refine wp_loop_rounds 3 ?_
    rw [rounds_succ]
    go_wp2_with fail
    refine (implFlip_is (p := pz) (t := 0) (U := 5) HOS.out HL0.out hn6 HE0.out (by decide)).mono ?_
    rintro e w4 ⟨rfl, ho4, hn4⟩
    have HO4 := Lib.hid ho4
    have HN4 : Hid (OnlyS T w3 w4) := hn4
    have q4 := (hn4.block _ (lt_of_block q3) HTQ.out).trans q3
    have HG4 : Hid (DecAt w4) := HGT.out.keep hn4 HTG.out
    clear ho4 hn4 q3 p0 p1
    obtain ⟨p0, p1⟩ := cells2 q4
    go_wp2_with fail
    (try simp only [Exit.then])
    rw [rounds_succ]
    go_wp2_with fail
    refine (implFlip_is (p := pz) (t := 1) (U := 10) HO4.out HL1.out hn6 HE1.out (by decide)).mono ?_
    rintro e w5 ⟨rfl, ho5, hn5⟩
    have HB5 : Hid (arrK.own w5 S [.slice (some ⟨g0, o0, none⟩) n0 c0', v1, v2] (spoilN x bb (k + 1), yz)) := by
      have h1 := HBK.out w5 _ (((Below.onlyS HBA.out).trans HN4.out).trans hn5) ho5
      show arrK.own _ _ _ _
      rw [HSTEP.out]
      have e : (s.set 0 (xr (s.getD 0 0) 5)).getD 1 0 = s.getD 1 0 := by rw [List.getD_eq_getElem?_getD, List.getElem?_set_ne (by decide), ← List.getD_eq_getElem?_getD]
      rw [e] at h1
      exact h1
    have HN5 : Hid (OnlyS S w w5) := HON.out.trans ((((Below.onlyS HBA.out).trans HN4.out).trans hn5).mono (fun b hb => (HT.out b hb).1))
    clear ho5 hn5 q4 p0 p1
    go_wp2_with fail
    (try simp only [Exit.then])
    rw [rounds_succ]
    go_wp2_with fail
    (try simp only [Exit.then])
    go_roundw
    case rel => exact ⟨k + 1, by omega, by go_num, HB5.out, HN5.out⟩
    case measure => simp [intOf]; omega

end Go.Proofs.YtfpfgaifhmgpiaaDoor

namespace Go.Proofs.YtfpfgaifhmgpiaaDoor
open Go.RowKit Go.PlainAid

set_option linter.unusedVariables false

/-- The neighbours of a row, as numbers. -/
def nbrI (m i : Nat) : List Nat := (if 0 < i then [i - 1] else []) ++ (if i + 1 < m then [i + 1] else [])

theorem nbrI_mem {m i l : Nat} (hi : i < m) (h : l ∈ nbrI m i) : l < m := by
  unfold nbrI at h
  rcases List.mem_append.1 h with h | h
  · split at h
    · rw [List.mem_singleton.1 h]; omega
    · cases h
  · split at h
    · rw [List.mem_singleton.1 h]; omega
    · cases h

theorem nbrs_map (q : Nat → Nat) {m i : Nat} (hi : i < m) : nbrs q m i = (nbrI m i).map fun l => ptrV (q l) := by
  unfold nbrs nbrI
  by_cases h0 : 0 < i
  · rw [if_pos ⟨h0, hi⟩, if_pos h0]
    by_cases h1 : i + 1 < m
    · rw [if_pos h1, if_pos h1]; rfl
    · rw [if_neg h1, if_neg h1]; rfl
  · rw [if_neg (fun h => h0 h.1), if_neg h0]
    by_cases h1 : i + 1 < m
    · rw [if_pos h1, if_pos h1]; rfl
    · rw [if_neg h1, if_neg h1]; rfl

def hitL (B0 : Nat) (z : List Int) (ls : List Nat) : List Int := ls.foldl (fun z l => hitF z (B0 + l)) z

theorem hitL_snoc (B0 : Nat) (z : List Int) (ls : List Nat) (l : Nat) : hitL B0 z (ls ++ [l]) = hitF (hitL B0 z ls) (B0 + l) := by
  unfold hitL
  rw [List.foldl_append]
  rfl

theorem hitL_length (B0 : Nat) (z : List Int) (ls : List Nat) : (hitL B0 z ls).length = z.length := by
  unfold hitL
  induction ls generalizing z with
  | nil => rfl
  | cons l ls ih => rw [List.foldl_cons, ih, hitF, List.length_set]

theorem hitL_age {B0 : Nat} {z : List Int} (h : ∀ v ∈ z, AgeOk v) (ls : List Nat) : ∀ v ∈ hitL B0 z ls, AgeOk v := by
  unfold hitL
  induction ls generalizing z with
  | nil => exact h
  | cons l ls ih => exact ih (age_hit h _)

theorem hitL_all {B0 m i : Nat} (z : List Int) (hi : i < m) : hitL B0 (z.set (B0 + i) 0) (nbrI m i) = hitsF (m : Int) z (B0 + i) (i : Int) := by
  unfold hitL nbrI hitsF
  by_cases h0 : 0 < i
  · have e : B0 + (i - 1) = B0 + i - 1 := by omega
    rw [if_pos h0]
    by_cases h1 : i + 1 < m
    · have e2 : B0 + (i + 1) = B0 + i + 1 := by omega
      simp only [if_pos h1, if_pos (show (0 : Int) < (i : Int) by omega), if_pos (show (i : Int) < (m : Int) - 1 by omega)]
      show hitF (hitF _ (B0 + (i - 1))) (B0 + (i + 1)) = _
      rw [e, e2]
    · simp only [if_neg h1, if_pos (show (0 : Int) < (i : Int) by omega), if_neg (show ¬ (i : Int) < (m : Int) - 1 by omega)]
      show hitF _ (B0 + (i - 1)) = _
      rw [e]
  · rw [if_neg h0]
    by_cases h1 : i + 1 < m
    · have e2 : B0 + (i + 1) = B0 + i + 1 := by omega
      simp only [if_pos h1, if_neg (show ¬ (0 : Int) < (i : Int) by omega), if_pos (show (i : Int) < (m : Int) - 1 by omega)]
      show hitF _ (B0 + (i + 1)) = _
      rw [e2]
    · simp only [if_neg h1, if_neg (show ¬ (0 : Int) < (i : Int) by omega), if_neg (show ¬ (i : Int) < (m : Int) - 1 by omega)]
      rfl

set_option maxHeartbeats 16000000 in
set_option maxRecDepth 100000 in
theorem implSense_is {ga gb bk la lh : Int} {m D B0 B R i g0 o0 n0 c0 g1 o1 n1 c1 g2 o2 n2 c2 : Nat} {q : Nat → Nat} {v : Nat → Value} {S : List Nat} {xx : Arr} {w : World} (hrow : RowsT w B m (rowF g0 o0 c0 g1 o1 g2 o2 D B0) R m m q v)
    (hO : arrK.own w S [.slice (some ⟨g0, o0, none⟩) n0 c0, .slice (some ⟨g1, o1, none⟩) n1 c1, .slice (some ⟨g2, o2, none⟩) n2 c2] xx) (hS : ∀ b ∈ S, b < B) (hG : DecAt w) (hGS : 0 ∉ S) (ha : ArrOk ga gb (m : Int) (D : Int) xx) (hr : AdOk ga gb (m : Int) (D : Int) bk (i : Int) 0) (hB0 : bk * (m : Int) = B0) :
    Calls Tryd.prog 39 #[.pointer (some ⟨q i, 0, none⟩), .agg #[.int .i64 la, .int .i64 lh]] w fun e w' => e = .returned (.tuple #[]) ∧ arrK.own w' S [.slice (some ⟨g0, o0, none⟩) n0 c0, .slice (some ⟨g1, o1, none⟩) n1 c1, .slice (some ⟨g2, o2, none⟩) n2 c2] (senseF (m : Int) (D : Int) la lh xx (B0 + i) (i : Int)) ∧ OnlyS S w w' := by
  obtain ⟨x, y, z⟩ := xx
  obtain ⟨pl, hpl, hp1, hp2, hp3, _⟩ := row_place ha hr
  obtain ⟨pl', D', hpl', hD', hD8, hic, _⟩ := row_near ha hr
  have hpe : pl = B0 + i := by omega
  have hpe' : pl' = B0 + i := by omega
  have hDe : D' = D := by omega
  subst hpe hpe' hDe
  have him : i < m := by have := hr.2.1; omega
  have hQB : ∀ l, l < m → B ≤ q l := fun l hl => (hrow.qb l hl).1
  obtain ⟨P, hP⟩ : ∃ P, B0 + i = P := ⟨_, rfl⟩
  have hplc : ∀ l, l < m → B0 + l < z.length := fun l hl => by
    have hal : AdOk ga gb (m : Int) (D' : Int) bk (l : Int) 0 := ⟨hr.1, ⟨by omega, by omega⟩, hr.2.2⟩
    obtain ⟨i', hi', _, hi2, _⟩ := row_place ha hal
    have : i' = B0 + l := by omega
    subst this
    exact hi2
  obtain ⟨w1, hw1⟩ : ∃ u, w.alloc (.cells #[.int .i64 la, .int .i64 lh] 27) = u := ⟨_, rfl⟩
  have hb1 : Below w.heap.size w w1 := by subst hw1; exact (Below.refl _ _).alloc (Nat.le_refl _) _
  have ll1 : w1.heap[w.heap.size]? = some (.cells #[.int .i64 la, .int .i64 lh] 27) := hw1 ▸ heap_alloc_new w _
  have HO1 := Lib.hid (arrK.ownBelow hO hb1)
  have HROW := Lib.hid (hrow.below hb1)
  have HN1 : Hid (OnlyS S w w1) := Below.onlyS hb1
  have HG1 := Lib.hid (hG.below hb1)
  have HGS := Lib.hid hGS
  have HSB := Lib.hid hS
  have HPLC := Lib.hid hplc
  have HQB := Lib.hid hQB
  have HLS : Hid (w.heap.size ∉ S) := fun hm => absurd (arrK.lt hO _ hm) (Nat.lt_irrefl _)
  have HSY : Hid (∀ c ∈ x, SymOk c.1 11) := ha.2.2.2.2.1
  have HZ : Hid (∀ v ∈ z, AgeOk v) := ha.2.2.2.2.2.2
  have HIC : Hid ((B0 + i) * D' + D' ≤ x.length) := hic
  have HIY : Hid (B0 + i < y.length) := hp1
  have HIZ : Hid (B0 + i < z.length) := hp2
  have HPP := Lib.hid hP
  have hQS : q i ∉ S := fun hm => by have := hS _ hm; have := hQB i him; omega
  have HQS := Lib.hid hQS
  have hqb := (HROW.out.qb i him).2
  have HQ1 := Lib.hid hqb
  obtain ⟨_, _, _, _, _, _, ea, _, _, _, cy, _⟩ := age_place HO1.out (k := B0 + i) hp1
  cases ea
  obtain ⟨_, _, _, _, _, _, ez, _, _, _, cz, _⟩ := hit_place HO1.out (k := B0 + i) hp2
  cases ez
  have CY := Lib.hid cy
  have CZ := Lib.hid cz
  obtain ⟨gone, hgone⟩ : ∃ b, decide (goneF la lh (x, y, z) (B0 + i)) = b := ⟨_, rfl⟩
  have HGO := Lib.hid hgone
  have HX : Hid (senseF (m : Int) (D' : Int) la lh (x, y, z) (B0 + i) (i : Int) = (if gone = true then spoilN x ((B0 + i) * D') D' else x, y.set (B0 + i) 0, hitL B0 (z.set (B0 + i) 0) (nbrI m i))) := by
    show _ = _
    rw [hitL_all z him]
    unfold senseF
    rw [← hgone]
    simp only [decide_eq_true_eq, Int.toNat_natCast]
  obtain ⟨x0, x1⟩ := cells2 ll1
  clear hrow hO hS hG hGS ha hr hB0 hpl hpl' hp1 hp2 hp3 hic hQB hplc hb1 hqb hQS cy cz hgone hP hD' 
  go_enter Tryd.func39, Tryd.ntmps39
  go_wp2_with fail
  refine (goneAt_is (Below.refl _ _) HQ1.out CY.out CZ.out gone HGO.out).mono ?_
  rintro e w2 ⟨rfl, hb2⟩
  have HO2 := Lib.hid (arrK.ownBelow HO1.out hb2)
  have HR2 := Lib.hid (HROW.out.below hb2)
  have HN2 : Hid (OnlyS S w w2) := HN1.out.trans (Below.onlyS hb2)
  have HG2 := Lib.hid (HG1.out.below hb2)
  clear hb2 x0 x1 ll1 HO1 HROW HN1 HG1 HQ1 CY CZ HGO
  cases gone
  case false =>
    obtain ⟨X, hX⟩ : ∃ X, x = X := ⟨_, rfl⟩
    have HXX : Hid (senseF (m : Int) (D' : Int) la lh (x, y, z) (B0 + i) (i : Int) = (X, y.set (B0 + i) 0, hitL B0 (z.set (B0 + i) 0) (nbrI m i))) := by
      show _ = _
      rw [← hX]
      exact HX.out
    obtain ⟨w3, hw3⟩ : ∃ u, w2 = u := ⟨_, rfl⟩
    have HO3 : Hid (arrK.own w3 S [.slice (some ⟨g0, o0, none⟩) n0 c0, .slice (some ⟨g1, o1, none⟩) n1 c1, .slice (some ⟨g2, o2, none⟩) n2 c2] (X, y, z)) := by rw [← hw3, ← hX]; exact HO2.out
    have HR3 : Hid (RowsT w3 B m (rowF g0 o0 c0 g1 o1 g2 o2 D' B0) R m m q v) := by rw [← hw3]; exact HR2.out
    have HN3 : Hid (OnlyS S w w3) := by rw [← hw3]; exact HN2.out
    clear hX HO2 HR2 HN2 HG2
    subst hw3
    have hqb3 := (HR3.out.qb i him).2
    have HQ3 := Lib.hid hqb3
    have qc : w2.heap[q i]? = some (.cells #[.slice (some ⟨g0, o0 + (B0 + i) * D' * 2, none⟩) D' (c0 - (B0 + i) * D'), .pointer (some ⟨g1, o1 + (B0 + i), none⟩), .pointer (some ⟨g2, o2 + (B0 + i), none⟩), v i] 110 (0, 0)) := hqb3
    clear hqb3
    go_wp2_with fail
    refine wp_region_float (A := ?A) [.h, .h, .h, .h, .h, .h, .h, .h, .h, .t, .h, .e] (by kernel_rfl) (by kernel_rfl) (fun u => u.heap[q i]? = some (.cells #[.slice (some ⟨g0, o0 + (B0 + i) * D' * 2, none⟩) D' (c0 - (B0 + i) * D'), .pointer (some ⟨g1, o1 + (B0 + i), none⟩), .pointer (some ⟨g2, o2 + (B0 + i), none⟩), v i] 110 (0, 0))) ?hC ?hH ?hT
    case hC => exact qc
    case hH =>
      intro u hu
      obtain ⟨t0, t1, t2, t3⟩ := cells4 hu
      have z1 := fun t : Same u => t.cell t1
      have z2 := fun t : Same u => t.cell t2
      simp only [headsOf]
      repeat (go_big_quiet_step (fail))
      refine wpQuiet_nil ?_
      exact rfl
    case hT =>
      simp only [chainT]
      have hdr : Below w2.heap.size w2 w2.drew := ⟨rfl, rfl, rfl, Nat.le_refl _, fun _ _ => rfl⟩
      have HOD := Lib.hid (arrK.ownBelow HO3.out hdr)
      have HRD := Lib.hid (HR3.out.below hdr)
      have HND : Hid (OnlyS S w w2.drew) := HN3.out.trans (Below.onlyS hdr)
      have qd : w2.drew.heap[q i]? = _ := qc
      clear HO3 HR3 HN3 HQ3 qc hdr
      generalize w2.drew = u0 at *
      obtain ⟨_, _, _, _, _, _, ea, _, _, hga, ca, hfa, hseta⟩ := age_place HOD.out (k := B0 + i) HIY.out
      cases ea
      obtain ⟨u1, hu1⟩ : ∃ t, u0.setCell ⟨g1, o1 + (B0 + i), none⟩ (.int .i64 0) = t := ⟨_, rfl⟩
      have HOA : Hid (arrK.own u1 S [.slice (some ⟨g0, o0, none⟩) n0 c0, .slice (some ⟨g1, o1, none⟩) n1 c1, .slice (some ⟨g2, o2, none⟩) n2 c2] (X, y.set (B0 + i) 0, z)) := hu1 ▸ hseta 0
      have HNA : Hid (OnlyS S u0 u1) := hu1 ▸ (OnlyS.refl S u0).setCell (p := ⟨g1, o1 + (B0 + i), none⟩) hga _
      have q1 := (HNA.out.block _ (lt_of_block qd) HQS.out).trans qd
      obtain ⟨_, _, _, _, _, _, ez, _, _, hgz, cz, hfz, hsetz⟩ := hit_place HOA.out (k := B0 + i) HIZ.out
      cases ez
      obtain ⟨u2, hu2⟩ : ∃ t, u1.setCell ⟨g2, o2 + (B0 + i), none⟩ (.int .i64 0) = t := ⟨_, rfl⟩
      have HOB : Hid (arrK.own u2 S [.slice (some ⟨g0, o0, none⟩) n0 c0, .slice (some ⟨g1, o1, none⟩) n1 c1, .slice (some ⟨g2, o2, none⟩) n2 c2] (X, y.set (B0 + i) 0, z.set (B0 + i) 0)) := hu2 ▸ hsetz 0
      have HNB : Hid (OnlyS S u1 u2) := hu2 ▸ (OnlyS.refl S u1).setCell (p := ⟨g2, o2 + (B0 + i), none⟩) hgz _
      have HNC : Hid (OnlyS S w u2) := (HND.out.trans HNA.out).trans HNB.out
      have HRC : Hid (RowsT u2 B m (rowF g0 o0 c0 g1 o1 g2 o2 D' B0) R m m q v) := (HRD.out.keep HNA.out HSB.out).keep HNB.out HSB.out
      clear hseta hsetz HOD HRD HND
      go_wp2_with fail
      refine stepQ_normal ⟨q1, ?_⟩
      go_wp2_with fail
      refine stepQ_normal ⟨trivial, ?_⟩
      clear q1 qd ca cz hfa hfz hgz hga HOA HNA HNB
      obtain ⟨h, cap, hvi⟩ := ownsRow_shape (HRC.out.vb i him)
      have hqc := (HRC.out.qb i him).2
      have hvb := HRC.out.vb i him
      rw [hvi] at hvb
      have hql : (nbrs q m i).length = (nbrI m i).length := by rw [nbrs_map q him, List.length_map]
      have hnb := nbrs_length q m i
      obtain ⟨nl, hnl⟩ : ∃ nl, (nbrs q m i).length = nl := ⟨_, rfl⟩
      rw [hnl] at hvi hvb hnb
      have hnl2 : (nbrI m i).length = nl := by omega
      have HNL := Lib.hid hnl2
      have HVB := Lib.hid hvb
      have qe : u2.heap[q i]? = some (.cells #[.slice (some ⟨g0, o0 + (B0 + i) * D' * 2, none⟩) D' (c0 - (B0 + i) * D'), .pointer (some ⟨g1, o1 + (B0 + i), none⟩), .pointer (some ⟨g2, o2 + (B0 + i), none⟩), .slice h nl cap] 110 (0, 0)) := by rw [← hvi]; exact hqc
      obtain ⟨t0, t1, t2, t3⟩ := cells4 qe
      clear hvi hqc hvb hql hnl hnl2 qe
      go_wp2_with fail
      clear t0 t1 t2 t3
      go_loopw [26] (fun a wr => ∃ k : Nat, k ≤ nl ∧ a = .int .i64 k ∧ arrK.own wr S [.slice (some ⟨g0, o0, none⟩) n0 c0, .slice (some ⟨g1, o1, none⟩) n1 c1, .slice (some ⟨g2, o2, none⟩) n2 c2] (X, y.set (B0 + i) 0, hitL B0 (z.set (B0 + i) 0) ((nbrI m i).take k)) ∧ OnlyS S u2 wr) (fun a _ => nl + 1 - (intOf a).toNat)
      case atStart => exact ⟨0, Nat.zero_le _, rfl, HOB.out, OnlyS.refl _ _⟩
      case round =>
        obtain ⟨k, hk, rfl, hown, hon⟩ := hrel
        have HOW := Lib.hid hown
        have HON := Lib.hid hon
        have HRW := Lib.hid (HRC.out.keep hon HSB.out)
        clear hown hon
        by_cases hlt : k < nl
        case neg =>
          obtain rfl : k = nl := by omega
          have hI : decide ((k : Int) < (k : Int)) = false := decide_eq_false (by omega)
          have HFF : Hid (arrK.own wr S [.slice (some ⟨g0, o0, none⟩) n0 c0, .slice (some ⟨g1, o1, none⟩) n1 c1, .slice (some ⟨g2, o2, none⟩) n2 c2] (senseF (m : Int) (D' : Int) la lh (x, y, z) (B0 + i) (i : Int))) := by
            have h1 := HOW.out
            rw [List.take_of_length_le (by rw [HNL.out]; exact Nat.le_refl _)] at h1
            show arrK.own _ _ _ _
            rw [HXX.out]
            exact h1
          have HNF : Hid (OnlyS S w wr) := HNC.out.trans HON.out
          go_wp2_with fail
          (try simp only [Exit.inBlock, Exit.then])
          exact bodyPost_end (v := .tuple #[]) (by simp [results, Tryd.results39]) rfl ⟨rfl, HFF.out, HNF.out⟩
        have hI : decide ((k : Int) < (nl : Int)) = true := decide_eq_true (by omega)
        have wk : IntKind.i64.wrap ((k : Int) + 1) = (k : Int) + 1 := IntWalk.i64_in _ (by omega)
        have hkl : k < (nbrI m i).length := by rw [HNL.out]; exact hlt
        obtain ⟨l, hl⟩ : ∃ l, (nbrI m i)[k] = l := ⟨_, rfl⟩
        have hlm : l < m := nbrI_mem him (hl ▸ List.getElem_mem _)
        have HSNOC : Hid (hitL B0 (z.set (B0 + i) 0) ((nbrI m i).take (k + 1)) = hitF (hitL B0 (z.set (B0 + i) 0) ((nbrI m i).take k)) (B0 + l)) := by
          show hitL _ _ _ = _
          rw [List.take_succ_eq_append_getElem hkl, hl, hitL_snoc]
        have hget : (nbrs q m i)[k]? = some (ptrV (q l)) := by rw [nbrs_map q him, List.getElem?_map, List.getElem?_eq_getElem hkl, hl]; rfl
        have hvw : wr.ownsRow B 72 1 (.slice h nl cap) nl (nbrs q m i) := ownsRow_same HVB.out (fun g hg => HON.out.block g (World.ownsRow.lt HVB.out g hg).2 (fun hm => by have := HSB.out g hm; have := (World.ownsRow.lt HVB.out g hg).1; omega))
        obtain ⟨gh, rfl, _⟩ := ownsRow_at (g := 0) (cap := cap) hvw (by omega)
        have hnc := World.ownsRow.cells hvw (g := gh) rfl k _ hget
        rw [Addr.add_lit, Nat.zero_add] at hnc
        have hnc' : wr.cell? ⟨gh, k, none⟩ = some (.pointer (some ⟨q l, 0, none⟩)) := hnc
        have hqw : wr.heap[q l]? = some (.cells #[.slice (some ⟨g0, o0 + (B0 + l) * D' * 2, none⟩) D' (c0 - (B0 + l) * D'), .pointer (some ⟨g1, o1 + (B0 + l), none⟩), .pointer (some ⟨g2, o2 + (B0 + l), none⟩), v l] 110 (0, 0)) := (HRW.out.qb l hlm).2
        obtain ⟨s0, s1, s2, s3⟩ := cells4 hqw
        have hzl : B0 + l < (hitL B0 (z.set (B0 + i) 0) ((nbrI m i).take k)).length := by rw [hitL_length, List.length_set]; exact HPLC.out l hlm
        have hza : ∀ v ∈ hitL B0 (z.set (B0 + i) 0) ((nbrI m i).take k), AgeOk v := hitL_age (age_set HZ.out _ ⟨by decide, by decide⟩) _
        have HZL := Lib.hid hzl
        obtain ⟨Z, hZ⟩ : ∃ Z, hitL B0 (z.set (B0 + i) 0) ((nbrI m i).take k) = Z := ⟨_, rfl⟩
        rw [hZ] at HOW HSNOC hza HZL
        obtain ⟨_, _, _, _, _, _, ew, hin, _, hgw, cw, _, _⟩ := hit_place HOW.out (k := B0 + l) HZL.out
        cases ew
        obtain ⟨Uv, hUv⟩ : ∃ v, Z.getD (B0 + l) 0 = v := ⟨_, rfl⟩
        have hUa : 0 ≤ Uv ∧ Uv ≤ 100000 := hUv ▸ age_getD hza (B0 + l)
        have cw' : wr.cell? ⟨g2, o2 + (B0 + l), none⟩ = some (.int .i64 Uv) := hUv ▸ cw
        have wu : IntKind.i64.wrap (Uv + 1) = Uv + 1 := IntWalk.i64_in _ (by omega)
        have HUV := Lib.hid hUv
        clear hZ hza hzl hget hvw hnc cw hUv hqw s0 s1 s3 HRW hl
        go_wp2_with fail
        have z2 := fun t : Later wr => t.cell s2
        have z3 := fun t : Later wr => t.cell cw'
        clear s2 cw' hnc'
        refine wp_region_later_tail 13 (by kernel_rfl) (by kernel_rfl) ?_
        simp only [List.take_succ_cons, List.take_zero, List.drop_succ_cons, List.drop_zero]
        repeat (go_big_quiet_step (fail))
        refine wpQuiet_nil ?_
        rintro w7 ⟨zz, hz⟩
        generalize hTT : (if 100000 < Uv + 1 then (100000 : Int) else Uv + 1) = Uu
        have UHU : Hid (ageP 1 Uv = Uu) := hTT
        have hbR : Below wr.heap.size wr w7 := hz ▸ zz.ok
        have O7 := arrK.ownBelow HOW.out hbR
        obtain ⟨_, _, _, _, _, _, e7, _, _, hg7, c7, hf7, hset7⟩ := hit_place O7 (k := B0 + l) HZL.out
        cases e7
        have hR7 := hset7 Uu
        have HR7 : Hid (arrK.own (w7.setCell ⟨g2, o2 + (B0 + l), none⟩ (.int .i64 Uu)) S [.slice (some ⟨g0, o0, none⟩) n0 c0, .slice (some ⟨g1, o1, none⟩) n1 c1, .slice (some ⟨g2, o2, none⟩) n2 c2] (X, y.set (B0 + i) 0, hitL B0 (z.set (B0 + i) 0) ((nbrI m i).take (k + 1)))) := by
          show arrK.own _ _ _ _
          rw [HSNOC.out]
          show arrK.own _ _ _ (X, y.set (B0 + i) 0, Z.set (B0 + l) (ageP 1 (Z.getD (B0 + l) 0)))
          rw [HUV.out, UHU.out]
          exact hR7
        have HN7 : Hid (OnlyS S u2 (w7.setCell ⟨g2, o2 + (B0 + l), none⟩ (.int .i64 Uu))) := (HON.out.trans (Below.onlyS hbR)).setCell hg7 _
        clear z2 z3 hz zz hbR O7 hset7 hR7 hTT
        go_wp2_with fail
        go_roundw
        case rel => exact ⟨k + 1, by omega, by go_num, HR7.out, HN7.out⟩
        case measure => simp [intOf]; omega
  case true =>
    have hqb2 := (HR2.out.qb i him).2
    go_wp2_with fail
    refine (implLose_is hqb2 HO2.out HQS.out HG2.out HGS.out HSY.out HIC.out hD8).mono ?_
    rintro e w3 ⟨rfl, ho3, hn3⟩
    obtain ⟨X, hX⟩ : ∃ X, spoilN x ((B0 + i) * D') D' = X := ⟨_, rfl⟩
    have HXX : Hid (senseF (m : Int) (D' : Int) la lh (x, y, z) (B0 + i) (i : Int) = (X, y.set (B0 + i) 0, hitL B0 (z.set (B0 + i) 0) (nbrI m i))) := by
      show _ = _
      rw [← hX]
      exact HX.out
    have HO3 : Hid (arrK.own w3 S [.slice (some ⟨g0, o0, none⟩) n0 c0, .slice (some ⟨g1, o1, none⟩) n1 c1, .slice (some ⟨g2, o2, none⟩) n2 c2] (X, y, z)) := by show arrK.own _ _ _ _; rw [← hX]; exact ho3
    have HR3 : Hid (RowsT w3 B m (rowF g0 o0 c0 g1 o1 g2 o2 D' B0) R m m q v) := HR2.out.keep hn3 HSB.out
    have HN3 : Hid (OnlyS S w w3) := HN2.out.trans hn3
    clear hX ho3 hn3 hqb2 HO2 HR2 HN2 HG2
    have hqb3 := (HR3.out.qb i him).2
    have HQ3 := Lib.hid hqb3
    have qc : w3.heap[q i]? = some (.cells #[.slice (some ⟨g0, o0 + (B0 + i) * D' * 2, none⟩) D' (c0 - (B0 + i) * D'), .pointer (some ⟨g1, o1 + (B0 + i), none⟩), .pointer (some ⟨g2, o2 + (B0 + i), none⟩), v i] 110 (0, 0)) := hqb3
    clear hqb3
    go_wp2_with fail
    refine wp_region_float (A := ?A2) [.h, .h, .h, .h, .h, .h, .h, .h, .h, .t, .h, .e] (by kernel_rfl) (by kernel_rfl) (fun u => u.heap[q i]? = some (.cells #[.slice (some ⟨g0, o0 + (B0 + i) * D' * 2, none⟩) D' (c0 - (B0 + i) * D'), .pointer (some ⟨g1, o1 + (B0 + i), none⟩), .pointer (some ⟨g2, o2 + (B0 + i), none⟩), v i] 110 (0, 0))) ?hC2 ?hH2 ?hT2
    case hC2 => exact qc
    case hH2 =>
      intro u hu
      obtain ⟨t0, t1, t2, t3⟩ := cells4 hu
      have z1 := fun t : Same u => t.cell t1
      have z2 := fun t : Same u => t.cell t2
      simp only [headsOf]
      repeat (go_big_quiet_step (fail))
      refine wpQuiet_nil ?_
      exact rfl
    case hT2 =>
      simp only [chainT]
      have hdr : Below w3.heap.size w3 w3.drew := ⟨rfl, rfl, rfl, Nat.le_refl _, fun _ _ => rfl⟩
      have HOD := Lib.hid (arrK.ownBelow HO3.out hdr)
      have HRD := Lib.hid (HR3.out.below hdr)
      have HND : Hid (OnlyS S w w3.drew) := HN3.out.trans (Below.onlyS hdr)
      have qd : w3.drew.heap[q i]? = _ := qc
      clear HO3 HR3 HN3 HQ3 qc hdr
      generalize w3.drew = u0 at *
      obtain ⟨_, _, _, _, _, _, ea, _, _, hga, ca, hfa, hseta⟩ := age_place HOD.out (k := B0 + i) HIY.out
      cases ea
      obtain ⟨u1, hu1⟩ : ∃ t, u0.setCell ⟨g1, o1 + (B0 + i), none⟩ (.int .i64 0) = t := ⟨_, rfl⟩
      have HOA : Hid (arrK.own u1 S [.slice (some ⟨g0, o0, none⟩) n0 c0, .slice (some ⟨g1, o1, none⟩) n1 c1, .slice (some ⟨g2, o2, none⟩) n2 c2] (X, y.set (B0 + i) 0, z)) := hu1 ▸ hseta 0
      have HNA : Hid (OnlyS S u0 u1) := hu1 ▸ (OnlyS.refl S u0).setCell (p := ⟨g1, o1 + (B0 + i), none⟩) hga _
      have q1 := (HNA.out.block _ (lt_of_block qd) HQS.out).trans qd
      obtain ⟨_, _, _, _, _, _, ez, _, _, hgz, cz, hfz, hsetz⟩ := hit_place HOA.out (k := B0 + i) HIZ.out
      cases ez
      obtain ⟨u2, hu2⟩ : ∃ t, u1.setCell ⟨g2, o2 + (B0 + i), none⟩ (.int .i64 0) = t := ⟨_, rfl⟩
      have HOB : Hid (arrK.own u2 S [.slice (some ⟨g0, o0, none⟩) n0 c0, .slice (some ⟨g1, o1, none⟩) n1 c1, .slice (some ⟨g2, o2, none⟩) n2 c2] (X, y.set (B0 + i) 0, z.set (B0 + i) 0)) := hu2 ▸ hsetz 0
      have HNB : Hid (OnlyS S u1 u2) := hu2 ▸ (OnlyS.refl S u1).setCell (p := ⟨g2, o2 + (B0 + i), none⟩) hgz _
      have HNC : Hid (OnlyS S w u2) := (HND.out.trans HNA.out).trans HNB.out
      have HRC : Hid (RowsT u2 B m (rowF g0 o0 c0 g1 o1 g2 o2 D' B0) R m m q v) := (HRD.out.keep HNA.out HSB.out).keep HNB.out HSB.out
      clear hseta hsetz HOD HRD HND
      go_wp2_with fail
      refine stepQ_normal ⟨q1, ?_⟩
      go_wp2_with fail
      refine stepQ_normal ⟨trivial, ?_⟩
      clear q1 qd ca cz hfa hfz hgz hga HOA HNA HNB
      obtain ⟨h, cap, hvi⟩ := ownsRow_shape (HRC.out.vb i him)
      have hqc := (HRC.out.qb i him).2
      have hvb := HRC.out.vb i him
      rw [hvi] at hvb
      have hql : (nbrs q m i).length = (nbrI m i).length := by rw [nbrs_map q him, List.length_map]
      have hnb := nbrs_length q m i
      obtain ⟨nl, hnl⟩ : ∃ nl, (nbrs q m i).length = nl := ⟨_, rfl⟩
      rw [hnl] at hvi hvb hnb
      have hnl2 : (nbrI m i).length = nl := by omega
      have HNL := Lib.hid hnl2
      have HVB := Lib.hid hvb
      have qe : u2.heap[q i]? = some (.cells #[.slice (some ⟨g0, o0 + (B0 + i) * D' * 2, none⟩) D' (c0 - (B0 + i) * D'), .pointer (some ⟨g1, o1 + (B0 + i), none⟩), .pointer (some ⟨g2, o2 + (B0 + i), none⟩), .slice h nl cap] 110 (0, 0)) := by rw [← hvi]; exact hqc
      obtain ⟨t0, t1, t2, t3⟩ := cells4 qe
      clear hvi hqc hvb hql hnl hnl2 qe
      go_wp2_with fail
      clear t0 t1 t2 t3
      go_loopw [26] (fun a wr => ∃ k : Nat, k ≤ nl ∧ a = .int .i64 k ∧ arrK.own wr S [.slice (some ⟨g0, o0, none⟩) n0 c0, .slice (some ⟨g1, o1, none⟩) n1 c1, .slice (some ⟨g2, o2, none⟩) n2 c2] (X, y.set (B0 + i) 0, hitL B0 (z.set (B0 + i) 0) ((nbrI m i).take k)) ∧ OnlyS S u2 wr) (fun a _ => nl + 1 - (intOf a).toNat)
      case atStart => exact ⟨0, Nat.zero_le _, rfl, HOB.out, OnlyS.refl _ _⟩
      case round =>
        obtain ⟨k, hk, rfl, hown, hon⟩ := hrel
        have HOW := Lib.hid hown
        have HON := Lib.hid hon
        have HRW := Lib.hid (HRC.out.keep hon HSB.out)
        clear hown hon
        by_cases hlt : k < nl
        case neg =>
          obtain rfl : k = nl := by omega
          have hI : decide ((k : Int) < (k : Int)) = false := decide_eq_false (by omega)
          have HFF : Hid (arrK.own wr S [.slice (some ⟨g0, o0, none⟩) n0 c0, .slice (some ⟨g1, o1, none⟩) n1 c1, .slice (some ⟨g2, o2, none⟩) n2 c2] (senseF (m : Int) (D' : Int) la lh (x, y, z) (B0 + i) (i : Int))) := by
            have h1 := HOW.out
            rw [List.take_of_length_le (by rw [HNL.out]; exact Nat.le_refl _)] at h1
            show arrK.own _ _ _ _
            rw [HXX.out]
            exact h1
          have HNF : Hid (OnlyS S w wr) := HNC.out.trans HON.out
          go_wp2_with fail
          (try simp only [Exit.inBlock, Exit.then])
          exact bodyPost_end (v := .tuple #[]) (by simp [results, Tryd.results39]) rfl ⟨rfl, HFF.out, HNF.out⟩
        have hI : decide ((k : Int) < (nl : Int)) = true := decide_eq_true (by omega)
        have wk : IntKind.i64.wrap ((k : Int) + 1) = (k : Int) + 1 := IntWalk.i64_in _ (by omega)
        have hkl : k < (nbrI m i).length := by rw [HNL.out]; exact hlt
        obtain ⟨l, hl⟩ : ∃ l, (nbrI m i)[k] = l := ⟨_, rfl⟩
        have hlm : l < m := nbrI_mem him (hl ▸ List.getElem_mem _)
        have HSNOC : Hid (hitL B0 (z.set (B0 + i) 0) ((nbrI m i).take (k + 1)) = hitF (hitL B0 (z.set (B0 + i) 0) ((nbrI m i).take k)) (B0 + l)) := by
          show hitL _ _ _ = _
          rw [List.take_succ_eq_append_getElem hkl, hl, hitL_snoc]
        have hget : (nbrs q m i)[k]? = some (ptrV (q l)) := by rw [nbrs_map q him, List.getElem?_map, List.getElem?_eq_getElem hkl, hl]; rfl
        have hvw : wr.ownsRow B 72 1 (.slice h nl cap) nl (nbrs q m i) := ownsRow_same HVB.out (fun g hg => HON.out.block g (World.ownsRow.lt HVB.out g hg).2 (fun hm => by have := HSB.out g hm; have := (World.ownsRow.lt HVB.out g hg).1; omega))
        obtain ⟨gh, rfl, _⟩ := ownsRow_at (g := 0) (cap := cap) hvw (by omega)
        have hnc := World.ownsRow.cells hvw (g := gh) rfl k _ hget
        rw [Addr.add_lit, Nat.zero_add] at hnc
        have hnc' : wr.cell? ⟨gh, k, none⟩ = some (.pointer (some ⟨q l, 0, none⟩)) := hnc
        have hqw : wr.heap[q l]? = some (.cells #[.slice (some ⟨g0, o0 + (B0 + l) * D' * 2, none⟩) D' (c0 - (B0 + l) * D'), .pointer (some ⟨g1, o1 + (B0 + l), none⟩), .pointer (some ⟨g2, o2 + (B0 + l), none⟩), v l] 110 (0, 0)) := (HRW.out.qb l hlm).2
        obtain ⟨s0, s1, s2, s3⟩ := cells4 hqw
        have hzl : B0 + l < (hitL B0 (z.set (B0 + i) 0) ((nbrI m i).take k)).length := by rw [hitL_length, List.length_set]; exact HPLC.out l hlm
        have hza : ∀ v ∈ hitL B0 (z.set (B0 + i) 0) ((nbrI m i).take k), AgeOk v := hitL_age (age_set HZ.out _ ⟨by decide, by decide⟩) _
        have HZL := Lib.hid hzl
        obtain ⟨Z, hZ⟩ : ∃ Z, hitL B0 (z.set (B0 + i) 0) ((nbrI m i).take k) = Z := ⟨_, rfl⟩
        rw [hZ] at HOW HSNOC hza HZL
        obtain ⟨_, _, _, _, _, _, ew, hin, _, hgw, cw, _, _⟩ := hit_place HOW.out (k := B0 + l) HZL.out
        cases ew
        obtain ⟨Uv, hUv⟩ : ∃ v, Z.getD (B0 + l) 0 = v := ⟨_, rfl⟩
        have hUa : 0 ≤ Uv ∧ Uv ≤ 100000 := hUv ▸ age_getD hza (B0 + l)
        have cw' : wr.cell? ⟨g2, o2 + (B0 + l), none⟩ = some (.int .i64 Uv) := hUv ▸ cw
        have wu : IntKind.i64.wrap (Uv + 1) = Uv + 1 := IntWalk.i64_in _ (by omega)
        have HUV := Lib.hid hUv
        clear hZ hza hzl hget hvw hnc cw hUv hqw s0 s1 s3 HRW hl
        go_wp2_with fail
        have z2 := fun t : Later wr => t.cell s2
        have z3 := fun t : Later wr => t.cell cw'
        clear s2 cw' hnc'
        refine wp_region_later_tail 13 (by kernel_rfl) (by kernel_rfl) ?_
        simp only [List.take_succ_cons, List.take_zero, List.drop_succ_cons, List.drop_zero]
        repeat (go_big_quiet_step (fail))
        refine wpQuiet_nil ?_
        rintro w7 ⟨zz, hz⟩
        generalize hTT : (if 100000 < Uv + 1 then (100000 : Int) else Uv + 1) = Uu
        have UHU : Hid (ageP 1 Uv = Uu) := hTT
        have hbR : Below wr.heap.size wr w7 := hz ▸ zz.ok
        have O7 := arrK.ownBelow HOW.out hbR
        obtain ⟨_, _, _, _, _, _, e7, _, _, hg7, c7, hf7, hset7⟩ := hit_place O7 (k := B0 + l) HZL.out
        cases e7
        have hR7 := hset7 Uu
        have HR7 : Hid (arrK.own (w7.setCell ⟨g2, o2 + (B0 + l), none⟩ (.int .i64 Uu)) S [.slice (some ⟨g0, o0, none⟩) n0 c0, .slice (some ⟨g1, o1, none⟩) n1 c1, .slice (some ⟨g2, o2, none⟩) n2 c2] (X, y.set (B0 + i) 0, hitL B0 (z.set (B0 + i) 0) ((nbrI m i).take (k + 1)))) := by
          show arrK.own _ _ _ _
          rw [HSNOC.out]
          show arrK.own _ _ _ (X, y.set (B0 + i) 0, Z.set (B0 + l) (ageP 1 (Z.getD (B0 + l) 0)))
          rw [HUV.out, UHU.out]
          exact hR7
        have HN7 : Hid (OnlyS S u2 (w7.setCell ⟨g2, o2 + (B0 + l), none⟩ (.int .i64 Uu))) := (HON.out.trans (Below.onlyS hbR)).setCell hg7 _
        clear z2 z3 hz zz hbR O7 hset7 hR7 hTT
        go_wp2_with fail
        go_roundw
        case rel => exact ⟨k + 1, by omega, by go_num, HR7.out, HN7.out⟩
        case measure => simp [intOf]; omega

end Go.Proofs.YtfpfgaifhmgpiaaDoor

namespace Go.Proofs.YtfpfgaifhmgpiaaDoor
open Go.RowKit Go.PlainAid

set_option linter.unusedVariables false

/-- The rows of a bank of an array whose addresses are known. -/
theorem rowsAtB_is (ga gb bk : Int) {m D B0 g0 o0 n0 c0 g1 o1 n1 c1 g2 o2 n2 c2 : Nat} {x : Arr} {w : World} (h : arrK.rd w [.slice (some ⟨g0, o0, none⟩) n0 c0, .slice (some ⟨g1, o1, none⟩) n1 c1, .slice (some ⟨g2, o2, none⟩) n2 c2] x) (ha : ArrOk ga gb (m : Int) (D : Int) x) (hr : AdOk ga gb (m : Int) (D : Int) bk 0 0) (hB0 : bk * (m : Int) = B0) :
    Calls Tryd.prog 38 #[.agg #[.int .i64 ga, .int .i64 gb, .int .i64 (m : Int), .int .i64 (D : Int)], .agg #[.slice (some ⟨g0, o0, none⟩) n0 c0, .slice (some ⟨g1, o1, none⟩) n1 c1, .slice (some ⟨g2, o2, none⟩) n2 c2], .int .i64 bk] w fun e w' => ∃ (R : Nat) (q : Nat → Nat) (v : Nat → Value) (B : Nat), e = .returned (.slice (some ⟨R, 0, none⟩) m m) ∧ RowsT w' B m (rowF g0 o0 c0 g1 o1 g2 o2 D B0) R m m q v ∧ w.heap.size ≤ B ∧ Below w.heap.size w w' := by
  refine (implRows_is ga gb bk h ha hr hB0).mono ?_
  rintro e w' ⟨g0', o0', n0', c0', g1', o1', n1', c1', g2', o2', n2', c2', R, q, v, B, ec, rfl, hB, hrow, hb⟩
  simp only [List.cons.injEq, Value.slice.injEq, Option.some.injEq, Addr.mk.injEq, and_true] at ec
  obtain ⟨⟨⟨rfl, rfl⟩, rfl, rfl⟩, ⟨⟨rfl, rfl⟩, rfl, rfl⟩, ⟨rfl, rfl⟩, rfl, rfl⟩ := ec
  exact ⟨R, q, v, B, rfl, hrow, hB, hb⟩

set_option maxHeartbeats 8000000 in
set_option maxRecDepth 100000 in
theorem implSenseRow_is : ISenseRow DecAt := by
  intro ga gb gr gd la lh bk rw cs x w h hf hG
  have HG0 := Lib.hid hG
  clear hG
  obtain ⟨a0, n0, c0, a1, n1, c1, a2, n2, c2, rfl, h0, h1, h2⟩ := arr_rd h
  obtain ⟨w1, hw1⟩ : ∃ u, (((w.alloc (.cells #[.int .i64 ga, .int .i64 gb, .int .i64 gr, .int .i64 gd] 25)).alloc (.cells #[.int .i64 la, .int .i64 lh] 27)).alloc (.cells #[.slice a0 n0 c0, .slice a1 n1 c1, .slice a2 n2 c2] 31)).alloc (.cells #[.slice none 0 0, .slice none 0 0, .slice none 0 0] 31) = u := ⟨_, rfl⟩
  obtain ⟨g1, l1, p1, r1, hb1⟩ := alloc4 hw1
  have HB1 := Lib.hid hb1
  have HF := Lib.hid hf
  have H := Lib.hid h
  have H1 := Lib.hid (arrK.below h HB1.out)
  clear h hf h0 h1 h2
  obtain ⟨x0, x1, x2, x3⟩ := cells4 g1
  obtain ⟨y0, y1, y2⟩ := cells3 p1
  go_enter Tryd.func13, Tryd.ntmps13
  go_wp2_with fail
  refine (implCopyA_is H1.out HF.out).mono ?_
  rintro e w2 ⟨cs2, S2, rfl, own2, hS2, hb2⟩
  obtain ⟨d0, m0, k0, d1, m1, k1, d2, m2, k2, S0, S1', S2', rfl, rfl, _⟩ := arr_own own2
  obtain ⟨w3, hw3⟩ : ∃ u, w2.alloc (.cells #[.slice d0 m0 k0, .slice d1 m1 k1, .slice d2 m2 k2] 31) = u := ⟨_, rfl⟩
  have hb3 : Below w2.heap.size w2 w3 := by subst hw3; exact (Below.refl _ _).alloc (Nat.le_refl _) _
  have q3 : w3.heap[w2.heap.size]? = some (.cells #[.slice d0 m0 k0, .slice d1 m1 k1, .slice d2 m2 k2] 31) := by subst hw3; exact heap_alloc_new _ _
  have HO3 := Lib.hid (arrK.ownBelow own2 hb3)
  have HB2 : Hid (Below w.heap.size w w2) := HB1.out.trans (hb2.mono HB1.out.size)
  have HB3 : Hid (Below w.heap.size w w3) := HB2.out.trans (hb3.mono HB2.out.size)
  have H3 := Lib.hid (arrK.below (arrK.below H1.out hb2) hb3)
  have hlt : ∀ b ∈ S0 ++ (S1' ++ S2'), b < w2.heap.size := fun b hb => arrK.lt own2 b hb
  have hge : ∀ b ∈ S0 ++ (S1' ++ S2'), w1.heap.size ≤ b := fun b hb => hS2 b hb
  generalize hU2 : S0 ++ (S1' ++ S2') = T2 at own2 hS2 HO3 hlt hge
  have HS2 : Hid (∀ b ∈ T2, w1.heap.size ≤ b) := hge
  have HNP : Hid (w2.heap.size ∉ T2) := fun hb => by have := hlt _ hb; omega
  have HNR : Hid (∀ b ∈ T2, b ≠ w.heap.size + 1 + 1 + 1) := fun b hb e => by have := hge b hb; have := lt_of_block r1; omega
  have HRR : Hid (w.heap.size ≤ w.heap.size + 1 + 1 + 1) := by show _ ≤ _; omega
  have HPR : Hid (w.heap.size + 1 + 1 + 1 ≠ w2.heap.size) := fun e => by have := lt_of_block r1; have := hb2.size; omega
  have HPW : Hid (w.heap.size ≤ w2.heap.size) := HB2.out.size
  have g3 := keep_block hb3 (keep_block hb2 g1 (lt_of_block g1)) (Nat.lt_of_lt_of_le (lt_of_block g1) hb2.size)
  have l3 := keep_block hb3 (keep_block hb2 l1 (lt_of_block l1)) (Nat.lt_of_lt_of_le (lt_of_block l1) hb2.size)
  have p3 := keep_block hb3 (keep_block hb2 p1 (lt_of_block p1)) (Nat.lt_of_lt_of_le (lt_of_block p1) hb2.size)
  have r3 := keep_block hb3 (keep_block hb2 r1 (lt_of_block r1)) (Nat.lt_of_lt_of_le (lt_of_block r1) hb2.size)
  clear own2 hS2 hb2 hb3 g1 l1 p1 r1 x0 x1 x2 x3 y0 y1 y2 hlt hge hU2
  obtain ⟨x0, x1, x2, x3⟩ := cells4 g3
  obtain ⟨y0, y1, y2⟩ := cells3 p3
  obtain ⟨z0, z1, z2⟩ := cells3 q3
  go_wp2_with fail
  by_cases ha : ArrOk ga gb gr gd x
  case neg =>
    have KA := Lib.hid (decide_eq_false ha)
    have HE : Hid (sensedF ga gb gr gd la lh x bk rw = x) := if_neg (fun h => ha h.1)
    clear ha
    refine (implArrayOk_is ga gb gr gd _ _ false KA.out _ H3.out HF.out).mono ?_
    rintro e w4 ⟨rfl, hb4⟩
    have HBQ : Hid (Below w.heap.size w w4) := HB3.out.trans (hb4.mono HB3.out.size)
    have qq := keep_block hb4 q3 (lt_of_block q3)
    have rr := keep_block hb4 r3 (lt_of_block r3)
    have gg := keep_block hb4 g3 (lt_of_block g3)
    have ll := keep_block hb4 l3 (lt_of_block l3)
    have HO4 := Lib.hid (arrK.ownBelow HO3.out hb4)
    clear hb4 g3 l3 p3 q3 r3 x0 x1 x2 x3 y0 y1 y2 z0 z1 z2
    obtain ⟨x0, x1, x2, x3⟩ := cells4 gg
    obtain ⟨v0, v1, v2⟩ := cells3 rr
    have f0 := thawed rr 0
    have f1 := thawed rr 1
    have f2 := thawed rr 2
    obtain ⟨u0, u1, u2⟩ := cells3 qq
    have o5 := set_cells (set_cells (set_cells rr 0 (.slice d0 m0 k0)) 1 (.slice d1 m1 k1)) 2 (.slice d2 m2 k2)
    obtain ⟨t0, t1, t2⟩ := cells3 o5
    go_wp2_with fail
    (try simp only [Exit.inBlock, Exit.then])
    refine bodyPost_ret (v := .agg #[.slice d0 m0 k0, .slice d1 m1 k1, .slice d2 m2 k2]) ?_ rfl ⟨_, T2, rfl, ?_, fun b hb => ?_, ?_⟩
    · simp [results, Tryd.results13, go_sem, t0, t1, t2]
    · rw [HE.out]
      exact arrK.ownSet (arrK.ownSet (arrK.ownSet HO4.out (fun b hb => HNR.out b hb) _) (fun b hb => HNR.out b hb) _) (fun b hb => HNR.out b hb) _
    · have := HS2.out b hb; have := HB1.out.size; omega
    · exact ((HBQ.out.setCell HRR.out _).setCell HRR.out _).setCell HRR.out _
  have KA := Lib.hid (decide_eq_true ha)
  by_cases hn : AdOk ga gb gr gd bk rw 0
  case neg =>
    have KN := Lib.hid (decide_eq_false hn)
    have HE : Hid (sensedF ga gb gr gd la lh x bk rw = x) := if_neg (fun h => hn h.2)
    clear ha hn
    refine (implArrayOk_is ga gb gr gd _ _ true KA.out _ H3.out HF.out).mono ?_
    rintro e w4 ⟨rfl, hb4⟩
    have HBQ : Hid (Below w.heap.size w w4) := HB3.out.trans (hb4.mono HB3.out.size)
    have qq := keep_block hb4 q3 (lt_of_block q3)
    have rr := keep_block hb4 r3 (lt_of_block r3)
    have gg := keep_block hb4 g3 (lt_of_block g3)
    have ll := keep_block hb4 l3 (lt_of_block l3)
    have HO4 := Lib.hid (arrK.ownBelow HO3.out hb4)
    clear hb4 g3 l3 p3 q3 r3 x0 x1 x2 x3 y0 y1 y2 z0 z1 z2
    obtain ⟨x0, x1, x2, x3⟩ := cells4 gg
    go_wp2_with fail
    refine (implRowExists_is ga gb gr gd bk rw false KN.out _).mono ?_
    rintro e w5 ⟨rfl, hb5⟩
    have HBR : Hid (Below w.heap.size w w5) := HBQ.out.trans (hb5.mono HBQ.out.size)
    have q5 := keep_block hb5 qq (lt_of_block qq)
    have r5 := keep_block hb5 rr (lt_of_block rr)
    have g5 := keep_block hb5 gg (lt_of_block gg)
    have l5 := keep_block hb5 ll (lt_of_block ll)
    have HO5 := Lib.hid (arrK.ownBelow HO4.out hb5)
    clear HBQ HO4 qq rr gg ll hb5 x0 x1 x2 x3
    have HBQ := HBR
    have qq := q5
    have rr := r5
    have gg := g5
    have ll := l5
    clear HBR q5 r5 g5 l5
    obtain ⟨v0, v1, v2⟩ := cells3 rr
    have f0 := thawed rr 0
    have f1 := thawed rr 1
    have f2 := thawed rr 2
    obtain ⟨u0, u1, u2⟩ := cells3 qq
    have o5 := set_cells (set_cells (set_cells rr 0 (.slice d0 m0 k0)) 1 (.slice d1 m1 k1)) 2 (.slice d2 m2 k2)
    obtain ⟨t0, t1, t2⟩ := cells3 o5
    go_wp2_with fail
    (try simp only [Exit.inBlock, Exit.then])
    refine bodyPost_ret (v := .agg #[.slice d0 m0 k0, .slice d1 m1 k1, .slice d2 m2 k2]) ?_ rfl ⟨_, T2, rfl, ?_, fun b hb => ?_, ?_⟩
    · simp [results, Tryd.results13, go_sem, t0, t1, t2]
    · rw [HE.out]
      exact arrK.ownSet (arrK.ownSet (arrK.ownSet HO5.out (fun b hb => HNR.out b hb) _) (fun b hb => HNR.out b hb) _) (fun b hb => HNR.out b hb) _
    · have := HS2.out b hb; have := HB1.out.size; omega
    · exact ((HBQ.out.setCell HRR.out _).setCell HRR.out _).setCell HRR.out _
  have hgeo := ha.1
  obtain ⟨m, rfl⟩ : ∃ m : Nat, gr = m := ⟨gr.toNat, by have := hgeo.2.2.1; omega⟩
  obtain ⟨D, rfl⟩ : ∃ D : Nat, gd = D := ⟨gd.toNat, by have := hgeo.2.2.2; omega⟩
  obtain ⟨i, rfl⟩ : ∃ i : Nat, rw = i := ⟨rw.toNat, by have := hn.2.1; omega⟩
  obtain ⟨pl, hpl, _, _, _, hq1, _⟩ := row_place ha hn
  obtain ⟨B0, hB0⟩ : ∃ B0 : Nat, bk * (m : Int) = B0 := ⟨(bk * (m : Int)).toNat, by omega⟩
  have hr0 : AdOk ga gb (m : Int) (D : Int) bk 0 0 := ⟨hn.1, ⟨by omega, by have := hn.2.1; omega⟩, hn.2.2⟩
  have him : i < m := by have := hn.2.1; omega
  have hli : (i : Int) < (m : Int) := by omega
  have HE : Hid (sensedF ga gb (m : Int) (D : Int) la lh x bk (i : Int) = senseF (m : Int) (D : Int) la lh x (B0 + i) (i : Int)) := by
    have hii : (bk * (m : Int) + (i : Int)).toNat = B0 + i := by omega
    exact (if_pos ⟨ha, hn⟩).trans (by rw [hii])
  have KN := Lib.hid (decide_eq_true hn)
  have HA := Lib.hid ha
  have HN := Lib.hid hn
  have HB0 := Lib.hid hB0
  have HR0 := Lib.hid hr0
  clear ha hn hgeo hpl hq1 hB0 hr0
  have HGT : Hid (0 ∉ T2) := fun hb => by have := HS2.out _ hb; have := HB1.out.size; have := HG0.out.lt; omega
  refine (implArrayOk_is ga gb (m : Int) (D : Int) _ _ true KA.out _ H3.out HF.out).mono ?_
  rintro e w4 ⟨rfl, hb4⟩
  have HBQ : Hid (Below w.heap.size w w4) := HB3.out.trans (hb4.mono HB3.out.size)
  have qq := keep_block hb4 q3 (lt_of_block q3)
  have rr := keep_block hb4 r3 (lt_of_block r3)
  have gg := keep_block hb4 g3 (lt_of_block g3)
  have ll := keep_block hb4 l3 (lt_of_block l3)
  have HO4 := Lib.hid (arrK.ownBelow HO3.out hb4)
  clear hb4 g3 l3 p3 q3 r3 x0 x1 x2 x3 y0 y1 y2 z0 z1 z2
  obtain ⟨x0, x1, x2, x3⟩ := cells4 gg
  go_wp2_with fail
  refine (implRowExists_is ga gb (m : Int) (D : Int) bk (i : Int) true KN.out _).mono ?_
  rintro e w5 ⟨rfl, hb5⟩
  have HBR : Hid (Below w.heap.size w w5) := HBQ.out.trans (hb5.mono HBQ.out.size)
  have q5 := keep_block hb5 qq (lt_of_block qq)
  have r5 := keep_block hb5 rr (lt_of_block rr)
  have g5 := keep_block hb5 gg (lt_of_block gg)
  have l5 := keep_block hb5 ll (lt_of_block ll)
  have HO5 := Lib.hid (arrK.ownBelow HO4.out hb5)
  clear HBQ HO4 qq rr gg ll hb5 x0 x1 x2 x3
  obtain ⟨gA, oA, gB, oB, gC, oC, rfl, rfl, rfl⟩ := arr_addrs (arrK.read HO5.out) HA.out HR0.out
  go_wp2_with fail
  refine wp_region_float (A := ?A) [.h, .h, .h, .t, .h, .t, .t, .h, .e] (by kernel_rfl) (by kernel_rfl) (fun u => u.heap[w2.heap.size]? = some (.cells #[.slice (some ⟨gA, oA, none⟩) m0 k0, .slice (some ⟨gB, oB, none⟩) m1 k1, .slice (some ⟨gC, oC, none⟩) m2 k2] 31 (0, 0)) ∧ u.heap[w.heap.size]? = some (.cells #[.int .i64 ga, .int .i64 gb, .int .i64 (m : Int), .int .i64 (D : Int)] 25 (0, 0)) ∧ u.heap[w.heap.size + 1]? = some (.cells #[.int .i64 la, .int .i64 lh] 27 (0, 0))) ?hC ?hH ?hT
  case hC => exact ⟨q5, g5, l5⟩
  case hH =>
    intro u hu
    obtain ⟨h0, h1, h2⟩ := hu
    obtain ⟨p0, p1, p2⟩ := cells3 h0
    obtain ⟨x0, x1, x2, x3⟩ := cells4 h1
    obtain ⟨y0, y1⟩ := cells2 h2
    have z0 := fun t : Same u => t.cell p0
    have z1 := fun t : Same u => t.cell p1
    have z2 := fun t : Same u => t.cell p2
    have z3 := fun t : Same u => t.cell x0
    have z4 := fun t : Same u => t.cell x1
    have z5 := fun t : Same u => t.cell x2
    have z6 := fun t : Same u => t.cell x3
    have z7 := fun t : Same u => t.cell y0
    have z8 := fun t : Same u => t.cell y1
    simp only [headsOf]
    repeat (go_big_quiet_step (fail))
    refine wpQuiet_nil ?_
    exact rfl
  case hT =>
    simp only [chainT]
    have hdr : Below w5.heap.size w5 w5.drew := ⟨rfl, rfl, rfl, Nat.le_refl _, fun _ _ => rfl⟩
    have HOD := Lib.hid (arrK.ownBelow HO5.out hdr)
    have HBD : Hid (Below w.heap.size w w5.drew) := HBR.out.trans (hdr.mono HBR.out.size)
    have qd : w5.drew.heap[w2.heap.size]? = _ := q5
    have gd' : w5.drew.heap[w.heap.size]? = _ := g5
    have ld : w5.drew.heap[w.heap.size + 1]? = _ := l5
    have rd : w5.drew.heap[w.heap.size + 1 + 1 + 1]? = _ := r5
    clear q5 g5 l5 r5 HO5 HBR hdr
    generalize w5.drew = u0 at *
    go_wp2_with fail
    refine (rowsAtB_is ga gb bk (arrK.read HOD.out) HA.out HR0.out HB0.out).mono ?_
    rintro e w7 ⟨R, q, v, B, rfl, hrow, hBB, hb7⟩
    have HROW := Lib.hid hrow
    have HSB : Hid (∀ b ∈ T2, b < B) := fun b hb => by have := arrK.lt HOD.out b hb; omega
    have HO7 := Lib.hid (arrK.ownBelow HOD.out hb7)
    have HB7 : Hid (Below w.heap.size w w7) := HBD.out.trans (hb7.mono HBD.out.size)
    have HG7 := Lib.hid (HG0.out.below HB7.out)
    have q7 := keep_block hb7 qd (lt_of_block qd)
    have g7 := keep_block hb7 gd' (lt_of_block gd')
    have l7 := keep_block hb7 ld (lt_of_block ld)
    have r7 := keep_block hb7 rd (lt_of_block rd)
    obtain ⟨hrc, _⟩ := hrow.cell him
    rw [if_pos him] at hrc
    have hrc' : w7.cell? ⟨R, i, none⟩ = some (.pointer (some ⟨q i, 0, none⟩)) := hrc
    clear hrow hBB hb7 qd gd' ld rd HOD HBD hrc
    go_wp2_with fail
    refine stepQ_normal ⟨⟨q7, g7, l7⟩, ?_⟩
    go_wp2_with fail
    refine stepQ_normal ⟨⟨q7, g7, l7⟩, ?_⟩
    go_wp2_with fail
    refine stepQ_normal ⟨⟨q7, g7, l7⟩, ?_⟩
    go_wp2_with fail
    refine (implSense_is HROW.out HO7.out HSB.out HG7.out HGT.out HA.out HN.out HB0.out).mono ?_
    rintro e w8 ⟨rfl, own8, hon⟩
    have HO6 := Lib.hid own8
    have qq := (hon.block _ (lt_of_block q7) HNP.out).trans q7
    have rr := (hon.block _ (lt_of_block r7) (fun hb => HNR.out _ hb rfl)).trans r7
    have HBQ : Hid (Below w.heap.size w w8) := HB7.out.trans (hon.below (fun b hb => by have := HS2.out b hb; have := HB1.out.size; omega) HB7.out.size)
    clear q7 g7 l7 r7 hrc' own8 hon HB7 HO7 HROW HG7
    go_wp2_with fail
    refine stepQ_normal ⟨trivial, ?_⟩
    obtain ⟨v0, v1, v2⟩ := cells3 rr
    have f0 := thawed rr 0
    have f1 := thawed rr 1
    have f2 := thawed rr 2
    obtain ⟨u0, u1, u2⟩ := cells3 qq
    have o5 := set_cells (set_cells (set_cells rr 0 (.slice (some ⟨gA, oA, none⟩) m0 k0)) 1 (.slice (some ⟨gB, oB, none⟩) m1 k1)) 2 (.slice (some ⟨gC, oC, none⟩) m2 k2)
    obtain ⟨t0, t1, t2⟩ := cells3 o5
    go_wp2_with fail
    (try simp only [Exit.inBlock, Exit.then])
    refine bodyPost_ret (v := .agg #[.slice (some ⟨gA, oA, none⟩) m0 k0, .slice (some ⟨gB, oB, none⟩) m1 k1, .slice (some ⟨gC, oC, none⟩) m2 k2]) ?_ rfl ⟨_, T2, rfl, ?_, fun b hb => ?_, ?_⟩
    · simp [results, Tryd.results13, go_sem, t0, t1, t2]
    · rw [HE.out]
      exact arrK.ownSet (arrK.ownSet (arrK.ownSet HO6.out (fun b hb => HNR.out b hb) _) (fun b hb => HNR.out b hb) _) (fun b hb => HNR.out b hb) _
    · have := HS2.out b hb; have := HB1.out.size; omega
    · exact ((HBQ.out.setCell HRR.out _).setCell HRR.out _).setCell HRR.out _

end Go.Proofs.YtfpfgaifhmgpiaaDoor

namespace Go.Proofs.YtfpfgaifhmgpiaaDoor
open Go.RowKit

set_option linter.unusedVariables false

theorem fnDecay_walk (a0 : Option Addr) (len cap : Nat) (zs : List Int) (w : World) (hr : IsRow .u8 w a0 len cap zs) (hg : DecAt w) :
    Calls Tryd.prog 4 #[.slice a0 len cap] w fun e w' => e = .returned (.bool true) ∧ Below w.heap.size w w' := fnDecay_of DecAt (Lib.hid implRowDecayed_is) (Lib.hid implSenseRow_is) (Lib.hid implLoadCell_is) a0 len cap zs w hr (Lib.hid (fun w' hb => hg.below hb))

end Go.Proofs.YtfpfgaifhmgpiaaDoor

namespace Go.Proofs.YtfpfgaifhmgpiaaDoor
open Go.RowKit Go.PlainAid

set_option linter.unusedVariables false

set_option maxHeartbeats 8000000 in
set_option maxRecDepth 100000 in
theorem implSenseBank_is : ISenseBank DecAt := by
  intro ga gb gr gd la lh bk cs x w h hf hG
  have HG0 := Lib.hid hG
  clear hG
  obtain ⟨a0, n0, c0, a1, n1, c1, a2, n2, c2, rfl, h0, h1, h2⟩ := arr_rd h
  obtain ⟨w1, hw1⟩ : ∃ u, (((w.alloc (.cells #[.int .i64 ga, .int .i64 gb, .int .i64 gr, .int .i64 gd] 25)).alloc (.cells #[.int .i64 la, .int .i64 lh] 27)).alloc (.cells #[.slice a0 n0 c0, .slice a1 n1 c1, .slice a2 n2 c2] 31)).alloc (.cells #[.slice none 0 0, .slice none 0 0, .slice none 0 0] 31) = u := ⟨_, rfl⟩
  obtain ⟨g1, l1, p1, r1, hb1⟩ := alloc4 hw1
  have HB1 := Lib.hid hb1
  have HF := Lib.hid hf
  have H := Lib.hid h
  have H1 := Lib.hid (arrK.below h HB1.out)
  clear h hf h0 h1 h2
  obtain ⟨x0, x1, x2, x3⟩ := cells4 g1
  obtain ⟨y0, y1, y2⟩ := cells3 p1
  go_enter Tryd.func20, Tryd.ntmps20
  go_wp2_with fail
  refine (implCopyA_is H1.out HF.out).mono ?_
  rintro e w2 ⟨cs2, S2, rfl, own2, hS2, hb2⟩
  obtain ⟨d0, m0, k0, d1, m1, k1, d2, m2, k2, S0, S1', S2', rfl, rfl, _⟩ := arr_own own2
  obtain ⟨w3, hw3⟩ : ∃ u, w2.alloc (.cells #[.slice d0 m0 k0, .slice d1 m1 k1, .slice d2 m2 k2] 31) = u := ⟨_, rfl⟩
  have hb3 : Below w2.heap.size w2 w3 := by subst hw3; exact (Below.refl _ _).alloc (Nat.le_refl _) _
  have q3 : w3.heap[w2.heap.size]? = some (.cells #[.slice d0 m0 k0, .slice d1 m1 k1, .slice d2 m2 k2] 31) := by subst hw3; exact heap_alloc_new _ _
  have HO3 := Lib.hid (arrK.ownBelow own2 hb3)
  have HB2 : Hid (Below w.heap.size w w2) := HB1.out.trans (hb2.mono HB1.out.size)
  have HB3 : Hid (Below w.heap.size w w3) := HB2.out.trans (hb3.mono HB2.out.size)
  have H3 := Lib.hid (arrK.below (arrK.below H1.out hb2) hb3)
  have hlt : ∀ b ∈ S0 ++ (S1' ++ S2'), b < w2.heap.size := fun b hb => arrK.lt own2 b hb
  have hge : ∀ b ∈ S0 ++ (S1' ++ S2'), w1.heap.size ≤ b := fun b hb => hS2 b hb
  generalize hU2 : S0 ++ (S1' ++ S2') = T2 at own2 hS2 HO3 hlt hge
  have HS2 : Hid (∀ b ∈ T2, w1.heap.size ≤ b) := hge
  have HNP : Hid (w2.heap.size ∉ T2) := fun hb => by have := hlt _ hb; omega
  have HNR : Hid (∀ b ∈ T2, b ≠ w.heap.size + 1 + 1 + 1) := fun b hb e => by have := hge b hb; have := lt_of_block r1; omega
  have HRR : Hid (w.heap.size ≤ w.heap.size + 1 + 1 + 1) := by show _ ≤ _; omega
  have HPR : Hid (w.heap.size + 1 + 1 + 1 ≠ w2.heap.size) := fun e => by have := lt_of_block r1; have := hb2.size; omega
  have HPW : Hid (w.heap.size ≤ w2.heap.size) := HB2.out.size
  have g3 := keep_block hb3 (keep_block hb2 g1 (lt_of_block g1)) (Nat.lt_of_lt_of_le (lt_of_block g1) hb2.size)
  have l3 := keep_block hb3 (keep_block hb2 l1 (lt_of_block l1)) (Nat.lt_of_lt_of_le (lt_of_block l1) hb2.size)
  have p3 := keep_block hb3 (keep_block hb2 p1 (lt_of_block p1)) (Nat.lt_of_lt_of_le (lt_of_block p1) hb2.size)
  have r3 := keep_block hb3 (keep_block hb2 r1 (lt_of_block r1)) (Nat.lt_of_lt_of_le (lt_of_block r1) hb2.size)
  have r1' := r1
  clear own2 hS2 hb2 hb3 g1 l1 p1 r1 x0 x1 x2 x3 y0 y1 y2 hlt hge hU2
  obtain ⟨x0, x1, x2, x3⟩ := cells4 g3
  obtain ⟨y0, y1, y2⟩ := cells3 p3
  obtain ⟨z0, z1, z2⟩ := cells3 q3
  go_wp2_with fail
  by_cases ha : ArrOk ga gb gr gd x
  case neg =>
    have KA := Lib.hid (decide_eq_false ha)
    have HE : Hid (sensedB ga gb gr gd la lh x bk = x) := if_neg (fun h => ha h.1)
    clear ha
    refine (implArrayOk_is ga gb gr gd _ _ false KA.out _ H3.out HF.out).mono ?_
    rintro e w4 ⟨rfl, hb4⟩
    have HBQ : Hid (Below w.heap.size w w4) := HB3.out.trans (hb4.mono HB3.out.size)
    have qq := keep_block hb4 q3 (lt_of_block q3)
    have rr := keep_block hb4 r3 (lt_of_block r3)
    have gg := keep_block hb4 g3 (lt_of_block g3)
    have ll := keep_block hb4 l3 (lt_of_block l3)
    have HO4 := Lib.hid (arrK.ownBelow HO3.out hb4)
    clear hb4 g3 l3 p3 q3 r3 x0 x1 x2 x3 y0 y1 y2 z0 z1 z2
    obtain ⟨x0, x1, x2, x3⟩ := cells4 gg
    obtain ⟨v0, v1, v2⟩ := cells3 rr
    have f0 := thawed rr 0
    have f1 := thawed rr 1
    have f2 := thawed rr 2
    obtain ⟨u0, u1, u2⟩ := cells3 qq
    have o5 := set_cells (set_cells (set_cells rr 0 (.slice d0 m0 k0)) 1 (.slice d1 m1 k1)) 2 (.slice d2 m2 k2)
    obtain ⟨t0, t1, t2⟩ := cells3 o5
    go_wp2_with fail
    (try simp only [Exit.inBlock, Exit.then])
    refine bodyPost_ret (v := .agg #[.slice d0 m0 k0, .slice d1 m1 k1, .slice d2 m2 k2]) ?_ rfl ⟨_, T2, rfl, ?_, fun b hb => ?_, ?_⟩
    · simp [results, Tryd.results20, go_sem, t0, t1, t2]
    · rw [HE.out]
      exact arrK.ownSet (arrK.ownSet (arrK.ownSet HO4.out (fun b hb => HNR.out b hb) _) (fun b hb => HNR.out b hb) _) (fun b hb => HNR.out b hb) _
    · have := HS2.out b hb; have := HB1.out.size; omega
    · exact ((HBQ.out.setCell HRR.out _).setCell HRR.out _).setCell HRR.out _
  have KA := Lib.hid (decide_eq_true ha)
  by_cases hn : AdOk ga gb gr gd bk 0 0
  case neg =>
    have KN := Lib.hid (decide_eq_false hn)
    have HE : Hid (sensedB ga gb gr gd la lh x bk = x) := if_neg (fun h => hn h.2)
    clear ha hn
    refine (implArrayOk_is ga gb gr gd _ _ true KA.out _ H3.out HF.out).mono ?_
    rintro e w4 ⟨rfl, hb4⟩
    have HBQ : Hid (Below w.heap.size w w4) := HB3.out.trans (hb4.mono HB3.out.size)
    have qq := keep_block hb4 q3 (lt_of_block q3)
    have rr := keep_block hb4 r3 (lt_of_block r3)
    have gg := keep_block hb4 g3 (lt_of_block g3)
    have ll := keep_block hb4 l3 (lt_of_block l3)
    have HO4 := Lib.hid (arrK.ownBelow HO3.out hb4)
    clear hb4 g3 l3 p3 q3 r3 x0 x1 x2 x3 y0 y1 y2 z0 z1 z2
    obtain ⟨x0, x1, x2, x3⟩ := cells4 gg
    go_wp2_with fail
    refine (implRowExists_is ga gb gr gd bk 0 false KN.out _).mono ?_
    rintro e w5 ⟨rfl, hb5⟩
    have HBR : Hid (Below w.heap.size w w5) := HBQ.out.trans (hb5.mono HBQ.out.size)
    have q5 := keep_block hb5 qq (lt_of_block qq)
    have r5 := keep_block hb5 rr (lt_of_block rr)
    have g5 := keep_block hb5 gg (lt_of_block gg)
    have l5 := keep_block hb5 ll (lt_of_block ll)
    have HO5 := Lib.hid (arrK.ownBelow HO4.out hb5)
    clear HBQ HO4 qq rr gg ll hb5 x0 x1 x2 x3
    have HBQ := HBR
    have qq := q5
    have rr := r5
    have gg := g5
    have ll := l5
    clear HBR q5 r5 g5 l5
    obtain ⟨v0, v1, v2⟩ := cells3 rr
    have f0 := thawed rr 0
    have f1 := thawed rr 1
    have f2 := thawed rr 2
    obtain ⟨u0, u1, u2⟩ := cells3 qq
    have o5 := set_cells (set_cells (set_cells rr 0 (.slice d0 m0 k0)) 1 (.slice d1 m1 k1)) 2 (.slice d2 m2 k2)
    obtain ⟨t0, t1, t2⟩ := cells3 o5
    go_wp2_with fail
    (try simp only [Exit.inBlock, Exit.then])
    refine bodyPost_ret (v := .agg #[.slice d0 m0 k0, .slice d1 m1 k1, .slice d2 m2 k2]) ?_ rfl ⟨_, T2, rfl, ?_, fun b hb => ?_, ?_⟩
    · simp [results, Tryd.results20, go_sem, t0, t1, t2]
    · rw [HE.out]
      exact arrK.ownSet (arrK.ownSet (arrK.ownSet HO5.out (fun b hb => HNR.out b hb) _) (fun b hb => HNR.out b hb) _) (fun b hb => HNR.out b hb) _
    · have := HS2.out b hb; have := HB1.out.size; omega
    · exact ((HBQ.out.setCell HRR.out _).setCell HRR.out _).setCell HRR.out _
  have hgeo := ha.1
  obtain ⟨m, rfl⟩ : ∃ m : Nat, gr = m := ⟨gr.toNat, by have := hgeo.2.2.1; omega⟩
  obtain ⟨D, rfl⟩ : ∃ D : Nat, gd = D := ⟨gd.toNat, by have := hgeo.2.2.2; omega⟩
  obtain ⟨pl, hpl, _, _, _, hq1, _⟩ := row_place ha hn
  obtain ⟨B0, hB0⟩ : ∃ B0 : Nat, bk * (m : Int) = B0 := ⟨(bk * (m : Int)).toNat, by omega⟩
  have hm16 : m ≤ 16 := by have := hgeo.2.2.1; omega
  have HCL : Hid (∀ k : Nat, k ≤ m → (B0 + k) * D ≤ x.1.length) := fun k hk => by
    have key : ∀ l : Nat, l < m → (B0 + l) * D + D ≤ x.1.length := fun l hl => by
      have hal : AdOk ga gb (m : Int) (D : Int) bk (l : Int) 0 := ⟨hn.1, ⟨by omega, by omega⟩, hn.2.2⟩
      obtain ⟨i', D', hi', hD', _, hic, _⟩ := row_near ha hal
      have e1 : i' = B0 + l := by omega
      have e2 : D' = D := by omega
      subst e1 e2
      exact hic
    rcases Nat.eq_zero_or_pos k with rfl | hk0
    · have := key 0 (by have := hgeo.2.2.1; omega)
      omega
    · obtain ⟨l, rfl⟩ : ∃ l, k = l + 1 := ⟨k - 1, by omega⟩
      have := key l (by omega)
      rw [← Nat.add_assoc, Nat.add_mul (B0 + l) 1, Nat.one_mul]
      exact this
  have HE : Hid (sensedB ga gb (m : Int) (D : Int) la lh x bk = bankF (m : Int) (D : Int) la lh x B0 m) := (if_pos ⟨ha, hn⟩).trans (by rw [hB0]; rfl)
  have KN := Lib.hid (decide_eq_true hn)
  have HA := Lib.hid ha
  have HR0 := Lib.hid hn
  have HB0 := Lib.hid hB0
  clear ha hn hgeo hpl hq1 hB0
  have HGT : Hid (0 ∉ T2) := fun hb => by have := HS2.out _ hb; have := HB1.out.size; have := HG0.out.lt; omega
  refine (implArrayOk_is ga gb (m : Int) (D : Int) _ _ true KA.out _ H3.out HF.out).mono ?_
  rintro e w4 ⟨rfl, hb4⟩
  have HBQ : Hid (Below w.heap.size w w4) := HB3.out.trans (hb4.mono HB3.out.size)
  have qq := keep_block hb4 q3 (lt_of_block q3)
  have rr := keep_block hb4 r3 (lt_of_block r3)
  have gg := keep_block hb4 g3 (lt_of_block g3)
  have ll := keep_block hb4 l3 (lt_of_block l3)
  have HO4 := Lib.hid (arrK.ownBelow HO3.out hb4)
  clear hb4 g3 l3 p3 q3 r3 x0 x1 x2 x3 y0 y1 y2 z0 z1 z2
  obtain ⟨x0, x1, x2, x3⟩ := cells4 gg
  go_wp2_with fail
  refine (implRowExists_is ga gb (m : Int) (D : Int) bk 0 true KN.out _).mono ?_
  rintro e w5 ⟨rfl, hb5⟩
  have HBR : Hid (Below w.heap.size w w5) := HBQ.out.trans (hb5.mono HBQ.out.size)
  have q5 := keep_block hb5 qq (lt_of_block qq)
  have r5 := keep_block hb5 rr (lt_of_block rr)
  have g5 := keep_block hb5 gg (lt_of_block gg)
  have l5 := keep_block hb5 ll (lt_of_block ll)
  have HO5 := Lib.hid (arrK.ownBelow HO4.out hb5)
  clear HBQ HO4 qq rr gg ll hb5 x0 x1 x2 x3
  obtain ⟨gA, oA, gB, oB, gC, oC, rfl, rfl, rfl⟩ := arr_addrs (arrK.read HO5.out) HA.out HR0.out
  obtain ⟨x0, x1, x2, x3⟩ := cells4 g5
  obtain ⟨z0, z1, z2⟩ := cells3 q5
  go_wp2_with fail
  refine (rowsAtB_is ga gb bk (arrK.read HO5.out) HA.out HR0.out HB0.out).mono ?_
  rintro e w7 ⟨R, q, v, B, rfl, hrow, hBB, hb7⟩
  have HROW := Lib.hid hrow
  have HSB : Hid (∀ b ∈ T2, b < B) := fun b hb => by have := arrK.lt HO5.out b hb; omega
  have HO7 := Lib.hid (arrK.ownBelow HO5.out hb7)
  have HB7 : Hid (Below w.heap.size w w7) := HBR.out.trans (hb7.mono HBR.out.size)
  have HG7 := Lib.hid (HG0.out.below HB7.out)
  have q7 := keep_block hb7 q5 (lt_of_block q5)
  have l7 := keep_block hb7 l5 (lt_of_block l5)
  have r7 := keep_block hb7 r5 (lt_of_block r5)
  have HLS : Hid (w.heap.size + 1 ∉ T2) := fun hb => by have h1 := HS2.out _ hb; have h2 := lt_of_block r1'; omega
  clear hrow hBB hb7 q5 g5 l5 r5 HO5 HBR x0 x1 x2 x3 z0 z1 z2
  go_wp2_with fail
  go_loopw [30] (fun a wr => ∃ k : Nat, k ≤ m ∧ a = .int .i64 k ∧ arrK.own wr T2 [.slice (some ⟨gA, oA, none⟩) m0 k0, .slice (some ⟨gB, oB, none⟩) m1 k1, .slice (some ⟨gC, oC, none⟩) m2 k2] (bankF (m : Int) (D : Int) la lh x B0 k) ∧ OnlyS T2 w7 wr) (fun a _ => m + 1 - (intOf a).toNat)
  case atStart => exact ⟨0, Nat.zero_le _, rfl, HO7.out, OnlyS.refl _ _⟩
  case round =>
    obtain ⟨k, hk, rfl, hown, hon⟩ := hrel
    have HO6 := Lib.hid hown
    have HON := Lib.hid hon
    have qq := (hon.block _ (lt_of_block q7) HNP.out).trans q7
    have rr := (hon.block _ (lt_of_block r7) (fun hb => HNR.out _ hb rfl)).trans r7
    have lr := (hon.block _ (lt_of_block l7) HLS.out).trans l7
    clear hown hon
    by_cases hlt : k < m
    case neg =>
      obtain rfl : k = m := by omega
      have hI : decide ((k : Int) < (k : Int)) = false := decide_eq_false (by omega)
      have HBQ : Hid (Below w.heap.size w wr) := HB7.out.trans (HON.out.below (fun b hb => by have := HS2.out b hb; have := HB1.out.size; omega) HB7.out.size)
      obtain ⟨v0, v1, v2⟩ := cells3 rr
      have f0 := thawed rr 0
      have f1 := thawed rr 1
      have f2 := thawed rr 2
      obtain ⟨u0, u1, u2⟩ := cells3 qq
      have o5 := set_cells (set_cells (set_cells rr 0 (.slice (some ⟨gA, oA, none⟩) m0 k0)) 1 (.slice (some ⟨gB, oB, none⟩) m1 k1)) 2 (.slice (some ⟨gC, oC, none⟩) m2 k2)
      obtain ⟨t0, t1, t2⟩ := cells3 o5
      go_wp2_with fail
      (try simp only [Exit.inBlock, Exit.then])
      refine bodyPost_ret (v := .agg #[.slice (some ⟨gA, oA, none⟩) m0 k0, .slice (some ⟨gB, oB, none⟩) m1 k1, .slice (some ⟨gC, oC, none⟩) m2 k2]) ?_ rfl ⟨_, T2, rfl, ?_, fun b hb => ?_, ?_⟩
      · simp [results, Tryd.results20, go_sem, t0, t1, t2]
      · rw [HE.out]
        exact arrK.ownSet (arrK.ownSet (arrK.ownSet HO6.out (fun b hb => HNR.out b hb) _) (fun b hb => HNR.out b hb) _) (fun b hb => HNR.out b hb) _
      · have := HS2.out b hb; have := HB1.out.size; omega
      · exact ((HBQ.out.setCell HRR.out _).setCell HRR.out _).setCell HRR.out _
    have hI : decide ((k : Int) < (m : Int)) = true := decide_eq_true (by omega)
    have wk : IntKind.i64.wrap ((k : Int) + 1) = (k : Int) + 1 := IntWalk.i64_in _ (by omega)
    have HAK : Hid (ArrOk ga gb (m : Int) (D : Int) (bankF (m : Int) (D : Int) la lh x B0 k)) := bank_ok HA.out (by rw [Int.toNat_natCast]; exact HCL.out k hk)
    have HRK : Hid (AdOk ga gb (m : Int) (D : Int) bk (k : Int) 0) := ⟨HR0.out.1, ⟨by omega, by omega⟩, HR0.out.2.2⟩
    have HROR := Lib.hid (HROW.out.keep HON.out HSB.out)
    have HGR := Lib.hid (HG7.out.keep HON.out HGT.out)
    obtain ⟨hrc, _⟩ := HROR.out.cell hlt
    rw [if_pos hlt] at hrc
    have hrc' : wr.cell? ⟨R, k, none⟩ = some (.pointer (some ⟨q k, 0, none⟩)) := hrc
    obtain ⟨y0, y1⟩ := cells2 lr
    clear hrc
    go_wp2_with fail
    refine (implSense_is HROR.out HO6.out HSB.out HGR.out HGT.out HAK.out HRK.out HB0.out).mono ?_
    rintro e w8 ⟨rfl, own8, hon8⟩
    have HO8 : Hid (arrK.own w8 T2 [.slice (some ⟨gA, oA, none⟩) m0 k0, .slice (some ⟨gB, oB, none⟩) m1 k1, .slice (some ⟨gC, oC, none⟩) m2 k2] (bankF (m : Int) (D : Int) la lh x B0 (k + 1))) := own8
    have HN8 : Hid (OnlyS T2 w7 w8) := HON.out.trans hon8
    clear own8 hon8 hrc' y0 y1 lr qq rr
    go_wp2_with fail
    go_roundw
    case rel => exact ⟨k + 1, by omega, by go_num, HO8.out, HN8.out⟩
    case measure => simp [intOf]; omega

end Go.Proofs.YtfpfgaifhmgpiaaDoor

namespace Go.Proofs.YtfpfgaifhmgpiaaDoor
open Go.RowKit

set_option linter.unusedVariables false

theorem fnAges_walk (a0 : Option Addr) (len cap : Nat) (zs : List Int) (w : World) (hr : IsRow .u8 w a0 len cap zs) (hg : DecAt w) :
    Calls Tryd.prog 5 #[.slice a0 len cap] w fun e w' => e = .returned (.bool true) ∧ Below w.heap.size w w' := fnAges_of DecAt (Lib.hid implTimePasses_is) (Lib.hid implSenseBank_is) (Lib.hid implArrayOk_is) a0 len cap zs w hr (Lib.hid (fun w' hb => hg.below hb))

end Go.Proofs.YtfpfgaifhmgpiaaDoor

namespace Go.Proofs.YtfpfgaifhmgpiaaDoor
open Go.RowKit

set_option linter.unusedVariables false

theorem fnSensed_walk (a0 : Option Addr) (len cap : Nat) (zs : List Int) (w : World) (hr : IsRow .u8 w a0 len cap zs) (hg : DecAt w) :
    Calls Tryd.prog 3 #[.slice a0 len cap] w fun e w' => e = .returned (.bool true) ∧ Below w.heap.size w w' := fnSensed_of DecAt (Lib.hid implSenseRow_is) (Lib.hid implArrayOk_is) (Lib.hid implRowDecayed_is) a0 len cap zs w hr (Lib.hid (fun w' hb => hg.below hb))

end Go.Proofs.YtfpfgaifhmgpiaaDoor
