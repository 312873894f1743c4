/-
  The model's command of a text.
-/
import Derived.Test.YtfhgbgcdkiiflaaDoorCmdQ
import Derived.Test.YtfhgbgcdkiiflaaDoorMarkW
import Derived.Test.YtfhgbgcdkiiflaaDoorJoinM
namespace Go.Proofs.YtfhgbgcdkiiflaaDoor
open Go.RowKit Go.PlainAid

set_option linter.unusedVariables false

theorem only_cell {c : Nat} {a w : World} {p : Addr} {v : Value} (ho : Only c a w) (hc : a.cell? p = some v) (hne : p.block ≠ c) : w.cell? p = some v :=
  (World.cell?_of_block (w := a) (ho.block _ (World.block_lt_of_cell? _ _ hc) hne)).trans hc

theorem empty_false {s : ByteArray} (h : s ≠ ⟨#[]⟩) : s.toList.isEmpty = false := by
  have h1 := ne_toList (s := s) (t := ⟨#[]⟩) h
  cases e : s.toList with
  | nil =>
    rw [e] at h1
    simp at h1
  | cons x xs => rfl

theorem field_size {s : ByteArray} (h : splitOk s = true) : ∀ f ∈ splitF s, f.size ≤ 600 := by
  obtain ⟨h1, h2, _⟩ := splitOk_parts h
  intro f hf
  rw [splitF_yes h] at hf
  exact Nat.le_trans (fieldsOf_good s h2 f hf).2 h1

set_option maxHeartbeats 16000000 in
set_option maxRecDepth 100000 in
theorem specParseCmd_is (s : ByteArray) (hm : s.size ≤ maxLen) (w : World) :
    Calls Tryd.prog 17 #[.string s] w (Gives (parseV s) w) := by
  obtain ⟨w1, hw1⟩ : ∃ u, w.alloc (.cells #[.int .i64 0, .int .i64 0, .int .i64 0, .int .i64 0] 27) = u := ⟨_, rfl⟩
  have HB1 : Hid (Below w.heap.size w w1) := by subst hw1; exact (Below.refl _ _).alloc (Nat.le_refl _) _
  have z1 : w1.heap[w.heap.size]? = some (.cells #[.int .i64 0, .int .i64 0, .int .i64 0, .int .i64 0] 27) := by subst hw1; exact heap_alloc_new _ _
  have hz1 := lt_of_block z1
  go_enter Tryd.func17, Tryd.ntmps17
  go_wp2_with fail
  refine (specSplit_any s _ hm).mono ?_
  rintro e w2 ⟨sa, cap, rfl, own2, hb2⟩
  have z2 := keep_block hb2 z1 (lt_of_block z1)
  have HB2 : Hid (Below w.heap.size w w2) := HB1.out.trans (hb2.mono HB1.out.size)
  have hs12 := hb2.size
  have HO2 := Lib.hid own2
  obtain ⟨n, hn⟩ : ∃ n, (splitF s).length = n := ⟨_, rfl⟩
  have HN := Lib.hid hn
  (try simp only [hn])
  rw [hn] at HO2
  have h24 : n ≤ 24 := by rw [← hn]; exact splitF_length s
  clear hb2 z1 HB1 hw1 own2 hn
  cases hok : splitOk s
  case false =>
    have HE := Lib.hid (parse_nosplit (.inl hok))
    clear hok
    obtain ⟨y0, y1, y2, y3⟩ := cells4 z2
    have f0 := thawed z2 0
    have f1 := thawed z2 1
    have f2 := thawed z2 2
    have f3 := thawed z2 3
    go_wp2
    (try simp only [Exit.inBlock, Exit.then])
    refine bodyPost_ret (v := .tuple #[.agg #[.int .i64 0, .int .i64 0, .int .i64 0, .int .i64 0], .bool false]) ?_ rfl ⟨by rw [HE.out], ?_⟩
    · rw [results_cell_tmp rfl]
      go_simp
    · repeat' (first | exact HB2.out | refine Below.drew ?_ | refine Below.setCell ?_ (by simp <;> omega) _)
  have HOK := Lib.hid hok
  clear hok
  by_cases hn0 : n = 0
  · have HE : Hid (parseV s = .tuple #[.agg #[.int .i64 0, .int .i64 0, .int .i64 0, .int .i64 0], .bool false]) := parse_nosplit (.inr (List.length_eq_zero_iff.1 (by rw [HN.out]; exact hn0)))
    have tn : ((n : Int) == 0) = true := by simpa using hn0
    subst hn0
    obtain ⟨y0, y1, y2, y3⟩ := cells4 z2
    have f0 := thawed z2 0
    have f1 := thawed z2 1
    have f2 := thawed z2 2
    have f3 := thawed z2 3
    go_wp2
    (try simp only [Exit.inBlock, Exit.then])
    refine bodyPost_ret (v := .tuple #[.agg #[.int .i64 0, .int .i64 0, .int .i64 0, .int .i64 0], .bool false]) ?_ rfl ⟨by rw [HE.out], ?_⟩
    · rw [results_cell_tmp rfl]
      go_simp
    · repeat' (first | exact HB2.out | refine Below.drew ?_ | refine Below.setCell ?_ (by simp <;> omega) _)
  have tn : ((n : Int) == 0) = false := by simpa using hn0
  have HNE := Lib.hid hn0
  clear hn0
  have hb3 : Below w2.heap.size w2 (w2.alloc (.cells #[.int .i64 0, .int .i64 0, .int .i64 0, .int .i64 0] 27)) := (Below.refl _ _).alloc (Nat.le_refl _) _
  have x3 : (w2.alloc (.cells #[.int .i64 0, .int .i64 0, .int .i64 0, .int .i64 0] 27)).heap[w2.heap.size]? = some (.cells #[.int .i64 0, .int .i64 0, .int .i64 0, .int .i64 0] 27) := heap_alloc_new _ _
  have z3 := keep_block hb3 z2 (lt_of_block z2)
  have HB3 : Hid (Below w.heap.size w (w2.alloc (.cells #[.int .i64 0, .int .i64 0, .int .i64 0, .int .i64 0] 27))) := HB2.out.trans (hb3.mono HB2.out.size)
  have HO3 := Lib.hid (HO2.out.below hb3)
  have hzx := lt_of_block z2
  obtain ⟨pg, rfl, _, _, hpg1, hpg2⟩ := HO2.out.at (k := 0) (by have := HNE.out; have := HN.out; omega)
  clear hb3 z2 HB2 HO2
  go_wp2_with fail
  generalize (w2.alloc (.cells #[.int .i64 0, .int .i64 0, .int .i64 0, .int .i64 0] 27)) = w3 at x3 z3 HB3 HO3 ⊢
  obtain ⟨xb, hxb⟩ : ∃ u, w2.heap.size = u := ⟨_, rfl⟩
  rw [hxb] at x3 hzx hpg2
  (try simp only [hxb])
  clear hxb
  refine (specWords_is _).mono ?_
  rintro e w4 ⟨g, rfl, hwd, hb4⟩
  have x4 := keep_block hb4 x3 (lt_of_block x3)
  have z4 := keep_block hb4 z3 (lt_of_block z3)
  have HB4 : Hid (Below w.heap.size w w4) := HB3.out.trans (hb4.mono HB3.out.size)
  have HO4 := Lib.hid (HO3.out.below hb4)
  have HWD := Lib.hid hwd
  have hgx : g ≠ xb := by
    rintro rfl
    have h1 := hwd 0 (by omega)
    have h2 := (cells4 x4).1
    rw [h1] at h2
    cases h2
  obtain ⟨f0, hf0⟩ : ∃ f, (splitF s).getD 0 ⟨#[]⟩ = f := ⟨_, rfl⟩
  have HF0 := Lib.hid hf0
  have hc0 : w4.cell? ⟨pg, 0, none⟩ = some (.string f0) := by
    obtain ⟨g', hg', hc, _⟩ := HO4.out.at (k := 0) (by have := HNE.out; have := HN.out; omega)
    cases hg'
    rw [← hf0, List.getD_eq_getElem?_getD, List.getElem?_eq_getElem (by have := HNE.out; have := HN.out; omega)]
    exact hc
  clear hb4 x3 z3 HB3 HO3 hwd hf0
  go_wp2_with fail
  go_loopw [8] (fun i wr => ∃ j : Nat, (1 ≤ j ∧ j ≤ 10) ∧ i = .int .i64 (j : Int) ∧ wr.heap[xb]? = some (.cells #[.int .i64 (kindTo f0 (j - 1) : Int), .int .i64 0, .int .i64 0, .int .i64 0] 27) ∧ Only xb w4 wr) (fun i _ => 11 - (intOf i).toNat)
  case atStart => exact ⟨1, ⟨Nat.le_refl _, by omega⟩, rfl, x4, Only.refl _ _⟩
  case round =>
    obtain ⟨j, hj, rfl, hx, hox⟩ := hrel
    have HOX := Lib.hid hox
    by_cases hlt : j < 10
    · have cw := only_cell hox (HWD.out j (by omega)) hgx
      have cf := only_cell hox hc0 (by simp; omega)
      have cw' : wr.cell? ⟨g, j, none⟩ = some (.string (wordB j)) := cw
      have hI : (j : Int) < 10 := by omega
      have hn1 : 0 < n := by have := HNE.out; omega
      obtain ⟨c0, c1, c2, c3⟩ := cells4 hx
      have t0 := thawed hx 0
      obtain ⟨W, hW⟩ : ∃ W, wordB j = W := ⟨_, rfl⟩
      rw [hW] at cw'
      have hks := kindTo_pos f0 hj.1
      rw [hW] at hks
      obtain ⟨KJ, hKJ⟩ : ∃ x, kindTo f0 (j - 1) = x := ⟨_, rfl⟩
      rw [hKJ] at hx hks c0
      by_cases hw : W = f0
      · have HK : Hid (kindTo f0 (j + 1 - 1) = j) := by show _ = _; rw [Nat.add_sub_cancel, hks, if_pos hw]
        subst hw
        have hx2 := set_cells hx 0 (.int .i64 (j : Int))
        clear hks hW cw hox hKJ
        go_wp2_with fail
        go_quiet (fail)
        go_wp2_with fail
        go_roundw
        case rel => exact ⟨j + 1, ⟨by omega, by omega⟩, by go_num, by rw [HK.out]; exact hx2, (HOX.out.drewN _).setCell rfl _⟩
        case measure => simp [intOf]; omega
      · have HK : Hid (kindTo f0 (j + 1 - 1) = KJ) := by show _ = _; rw [Nat.add_sub_cancel, hks, if_neg hw]
        have tw := ne_toList (fun h => hw h.symm)
        clear hks hW cw hox hw hKJ
        go_wp2_with fail
        go_quiet (fail)
        go_wp2_with fail
        go_roundw
        case rel => exact ⟨j + 1, ⟨by omega, by omega⟩, by go_num, by rw [HK.out]; exact hx, HOX.out.drewN _⟩
        case measure => simp [intOf]; omega
    · obtain rfl : j = 10 := by omega
      (try rw [show ((10 : Nat) : Int) = 10 from rfl])
      obtain ⟨w5, rfl⟩ : ∃ u, u = wr := ⟨_, rfl⟩
      obtain ⟨K, hK⟩ : ∃ K, kindTo f0 9 = K := ⟨_, rfl⟩
      have hx : w5.heap[xb]? = some (.cells #[.int .i64 (kindTo f0 9 : Int), .int .i64 0, .int .i64 0, .int .i64 0] 27) := hx
      rw [hK] at hx
      have hK9 : K ≤ 9 := by rw [← hK]; exact kindTo_le f0 9
      have HK := Lib.hid hK
      have z5 := (hox.block _ (lt_of_block z4) (by omega)).trans z4
      have HB5 : Hid (Below w.heap.size w w5) := HB4.out.trans (hox.below (by omega) HB4.out.size)
      have HO5 : Hid (OwnS w1.heap.size (.slice (some ⟨pg, 0, none⟩) n cap) (splitF s) w5) := HO4.out.keep hox (fun y hy => by cases hy; simp; omega)
      obtain ⟨i0, hi, hz0, hz1', hz2⟩ := info_parts infoI
      clear hK x4 z4 HB4 HO4 HWD hc0 hox HOX
      have O6 : Hid (OwnI w5.heap.size (.slice (some ⟨w5.heap.size, 0, none⟩) 0 0) [] (w5.alloc (.cells #[] 3))) := World.ownsRow_made w5 #[] 0 (Nat.le_refl _) (by decide) rfl
      have hb6 : Below w5.heap.size w5 (w5.alloc (.cells #[] 3)) := (Below.refl _ _).alloc (Nat.le_refl _) _
      go_wp2_with fail
      go_loopw [9, 10] (fun v i wr => ∃ (zs : List Int) (m : Nat), Hid (zs.length + 1 = m) ∧ m ≤ n ∧ i = .int .i64 (m : Int) ∧ NumsOf (splitF s) zs ∧ OwnI w5.heap.size v zs wr ∧ Below w5.heap.size w5 wr) (fun _ i _ => n + 1 - (intOf i).toNat)
      case atStart => exact ⟨[], 1, rfl, by have := HNE.out; omega, rfl, fun m hm => absurd hm (Nat.not_lt_zero _), O6.out, hb6⟩
      case round =>
        obtain ⟨zs, m, HLM, hmn, rfl, hnum, hown, hbl⟩ := hrel
        have HNU := Lib.hid hnum
        have HOW := Lib.hid hown
        have HBL := Lib.hid hbl
        obtain ⟨L, hL⟩ : ∃ L, zs.length = L := ⟨_, rfl⟩
        have HL := Lib.hid hL
        have HLm : Hid (L + 1 = m) := by show _ = _; rw [← hL]; exact HLM.out
        have hL24 : L ≤ 24 := by have := HLm.out; omega
        have z7 := keep_block hbl z5 (lt_of_block z5)
        have x7 := keep_block hbl hx (lt_of_block hx)
        have HB7 : Hid (Below w.heap.size w wr) := HB5.out.trans (hbl.mono HB5.out.size)
        clear O6 hb6 hnum hown hbl hL
        by_cases hlt : m < n
        · obtain ⟨g', hg', hcf, _⟩ := (HO5.out.below HBL.out).at (k := m) (by rw [HN.out]; exact hlt)
          cases hg'
          have hfm : (splitF s)[m]'(by rw [HN.out]; exact hlt) ∈ splitF s := List.getElem_mem _
          have hfs := field_size HOK.out _ hfm
          have hfd : (splitF s).getD m ⟨#[]⟩ = (splitF s)[m]'(by rw [HN.out]; exact hlt) := by rw [List.getD_eq_getElem?_getD, List.getElem?_eq_getElem (by rw [HN.out]; exact hlt)]; rfl
          obtain ⟨f, hf⟩ : ∃ f, (splitF s)[m]'(by rw [HN.out]; exact hlt) = f := ⟨_, rfl⟩
          rw [hf] at hcf hfs hfd
          have HFD := Lib.hid hfd
          clear hfm hfd hf
          by_cases hv : ∃ v, PU f v
          · obtain ⟨v, hv⟩ := hv
            have HV := Lib.hid hv
            clear hv
            go_wp2_with fail
            refine (specParse_yes f v HV.out _).mono ?_
            rintro e w8 ⟨rfl, hb8⟩
            have own8 := HOW.out.below hb8
            have HB8 : Hid (Below w5.heap.size w5 w8) := HBL.out.trans (hb8.mono HBL.out.size)
            have HN2 : Hid (NumsOf (splitF s) (zs ++ [(v : Int)])) := HNU.out.snoc (by rw [HL.out, HLm.out, HFD.out]; exact HV.out)
            have hb8s := HB8.out.size
            clear hb8 z7 x7 HOW HBL hcf
            go_wp2_with (at_builtin; refine wpList_append_own _ rfl _ _ 48 rfl w5.heap.size 3 i0 (.int .i64 0) 1 8 Tryd.underlying48 hi hz0 hz1' hz2 rfl (by decide) _ _ _ rfl (World.ownsRow.alloc own8 _) ⟨w8.heap.size, 0, none⟩ 1 1 [.int .i64 (v : Int)] rfl rfl (cell_one_new _ _ _) (by intro u hu; simp at hu; subst hu; rfl) (by rw [HL.out]; unfold maxLen; omega) (by rw [HL.out]; omega) (by rw [World.size_alloc]; omega) ?_)
            intro v' w9 hown9 hgrow _
            have R : Hid (OwnI w5.heap.size v' (zs ++ [(v : Int)]) w9) := ownI_more hown9
            have hrow : ∀ j, Value.ownBlock u9 = some j → w5.heap.size ≤ j := fun j hj => (World.ownsRow.lt own8 j hj).1
            have hb9 : Below w5.heap.size w8 w9 := ((Below.refl w5.heap.size w8).alloc (by omega) _).grown hgrow (by rw [World.size_alloc]; omega) hrow
            have HB9 : Hid (Below w5.heap.size w5 w9) := HB8.out.trans hb9
            have HLL : Hid ((zs ++ [(v : Int)]).length + 1 = m + 1) := by show _ = _; rw [List.length_append, HL.out, ← HLm.out]; rfl
            clear hb9 hown9 hgrow own8 hrow HB8
            go_wp2_with fail
            go_roundw
            case rel => exact ⟨_, m + 1, HLL, by omega, by go_num, HN2.out, R.out, HB9.out⟩
            case measure => simp [intOf]; omega
          · have HE := Lib.hid (parse_nonum (s := s) (m := L) (by rw [HLm.out, HN.out]; exact hlt) (fun v hv' => hv ⟨v, by rw [HLm.out, HFD.out] at hv'; exact hv'⟩))
            have HNV : Hid (∀ v, ¬ PU f v) := fun v h => hv ⟨v, h⟩
            clear hv
            go_wp2_with fail
            refine (specParse_no f (by unfold maxLen; omega) HNV.out _).mono ?_
            rintro e w8 ⟨rfl, hb8⟩
            have z8 := keep_block hb8 z7 (lt_of_block z7)
            have HB8 : Hid (Below w.heap.size w w8) := HB7.out.trans (hb8.mono HB7.out.size)
            have hs8 := HB8.out.size
            clear hb8 z7 x7 HOW HBL hcf
            obtain ⟨y0, y1, y2, y3⟩ := cells4 z8
            have f0 := thawed z8 0
            have f1 := thawed z8 1
            have f2 := thawed z8 2
            have f3 := thawed z8 3
            go_wp2
            (try simp only [Exit.inBlock, Exit.then])
            refine bodyPost_ret (v := .tuple #[.agg #[.int .i64 0, .int .i64 0, .int .i64 0, .int .i64 0], .bool false]) ?_ rfl ⟨by rw [HE.out], ?_⟩
            · rw [results_cell_tmp rfl]
              go_simp
            · repeat' (first | exact HB8.out | refine Below.drew ?_ | refine Below.setCell ?_ (by simp <;> omega) _)
        · have hLn : L + 1 = n := by have := HLm.out; omega
          have hmn' : m = n := by omega
          obtain ⟨na, nc, hsh⟩ : ∃ na nc, u9 = .slice na L nc := by obtain ⟨na, nc, h⟩ := HOW.out.shape; exact ⟨na, nc, by rw [h, HL.out]⟩
          subst hsh
          have HPO : Hid (∀ b r c : Int, bOf K zs = b → rOf K zs = r → cOf K zs = c → (fmtB K b r c ≠ s ∨ s = ⟨#[]⟩) → parseV s = .tuple #[.agg #[.int .i64 0, .int .i64 0, .int .i64 0, .int .i64 0], .bool false]) := by
            rintro b r c rfl rfl rfl h
            exact parse_other (by rw [HF0.out]; exact HK.out) HNU.out (by rw [HL.out, HN.out]; exact hLn) h
          have hxw := lt_of_block hx
          have HG : Hid (∀ m, m < L → ∃ lg, na = some ⟨lg, 0, none⟩ ∧ lg ≠ xb ∧ wr.cell? ⟨lg, m, none⟩ = some (.int .i64 (zs.getD m 0))) := fun m hm => by
            obtain ⟨lg, h1, h2⟩ := HOW.out.get (k := m) (by rw [HL.out]; exact hm)
            refine ⟨lg, h1, ?_, h2⟩
            have := (World.ownsRow.lt HOW.out lg (by rw [h1]; rfl)).1
            omega
          have HP : Hid (∀ m, m < L → 0 ≤ zs.getD m 0) := fun m hm => (HNU.out m (by rw [HL.out]; exact hm)).1
          clear HOW HBL hlt z5 hx HB5 HO5
          obtain rfl := hmn'
          obtain ⟨c0, c1, c2, c3⟩ := cells4 x7
          go_wp2_with fail
          have cls : K = 1 ∨ (K = 2 ∨ K = 3) ∨ (K = 4 ∨ K = 5) ∨ ¬ (1 ≤ K ∧ K ≤ 5) := by omega
          rcases cls with hk | hk | hk | hk
          · by_cases g1 : 1 < L
            · obtain ⟨lg0, hlg0, hne0, cz0⟩ := HG.out 0 (by omega)
              have hp0 := HP.out 0 (by omega)
              obtain ⟨v0, hv0⟩ := Int.eq_ofNat_of_zero_le hp0
              rw [hv0] at cz0
              obtain ⟨lg1, hlg1, hne1, cz1⟩ := HG.out 1 (by omega)
              have hp1 := HP.out 1 (by omega)
              obtain ⟨v1, hv1⟩ := Int.eq_ofNat_of_zero_le hp1
              rw [hv1] at cz1
              obtain rfl : lg0 = lg1 := by rw [hlg0] at hlg1; cases hlg1; rfl
              have cz2 : (wr.setCell ⟨xb, 1, none⟩ (.int .i64 (v0 : Int))).cell? ⟨lg0, 1, none⟩ = some (.int .i64 (v1 : Int)) := (World.cell?_of_block (a := ⟨lg0, 1, none⟩) (w := wr) (Below.heap_setCell _ _ _ _ hne0)).trans cz1
              subst hlg0
              clear hlg1
              have hbOf : bOf K zs = ((v0 : Nat) : Int) := (if_pos ⟨by omega, by rw [HL.out]; omega⟩).trans hv0
              have hrOf : rOf K zs = ((v1 : Nat) : Int) := (if_pos ⟨by omega, by rw [HL.out]; omega⟩).trans hv1
              have hcOf : cOf K zs = ((0 : Nat) : Int) := if_neg (by rw [HL.out]; omega)
              have HPN := Lib.hid (HPO.out _ _ _ hbOf hrOf hcOf)
              have US := Lib.hid (fun w => specUses_is (K : Int) true true false (decide_eq_true (by omega)) (decide_eq_true (by omega)) (decide_eq_false (by omega)) w)
              have l0 : 0 < L := by omega
              have l1 : 1 < L := by omega
              have t1 := thawed x7 1
              have t2 := thawed x7 2
              have t3 := thawed x7 3
              obtain ⟨wa, hwa⟩ : ∃ u, (wr.setCell ⟨xb, 1, none⟩ (.int .i64 (v0 : Int))).setCell ⟨xb, 2, none⟩ (.int .i64 (v1 : Int)) = u := ⟨_, rfl⟩
              have xa : wa.heap[xb]? = some (.cells #[.int .i64 (K : Int), .int .i64 ((v0 : Nat) : Int), .int .i64 ((v1 : Nat) : Int), .int .i64 ((0 : Nat) : Int)] 27) := by rw [← hwa]; exact set_cells (set_cells x7 1 _) 2 _
              have za : wa.heap[w.heap.size]? = some (.cells #[.int .i64 0, .int .i64 0, .int .i64 0, .int .i64 0] 27) := by
                rw [← hwa]
                have h0 := z7
                repeat' (first | exact h0 | refine (Below.heap_setCell _ _ _ _ (by simp; omega)).trans ?_)
              have HBA : Hid (Below w.heap.size w wa) := by
                show Below _ _ _
                rw [← hwa]
                have h0 := HB7.out
                repeat' (first | exact h0 | refine Below.setCell ?_ (by simp; omega) _)
              clear hk HPO HG HP hbOf hrOf hcOf hv0 hp0 hv1 hp1
              refine (US.out _).mono ?_
              rintro e w' ⟨rfl, rfl⟩
              obtain ⟨S, hS⟩ : ∃ S, fmtB K ((v0 : Nat) : Int) ((v1 : Nat) : Int) ((0 : Nat) : Int) = S := ⟨_, rfl⟩
              have HS := Lib.hid hS
              rw [hS] at HPN
              obtain ⟨d0, d1, d2, d3⟩ := cells4 xa
              clear hS
              go_wp2_with fail
              refine (specFmt_is _ _ _ _ S HS.out _).mono ?_
              rintro e wb ⟨rfl, hbb⟩
              have xb' := keep_block hbb xa (lt_of_block xa)
              have zb := keep_block hbb za (lt_of_block za)
              have HBB : Hid (Below w.heap.size w wb) := HBA.out.trans (hbb.mono HBA.out.size)
              have hsb := HBB.out.size
              clear hbb xa za HBA d0 d1 d2 d3 x7 z7 HB7 c0 c1 c2 c3
              obtain ⟨d0, d1, d2, d3⟩ := cells4 xb'
              by_cases hSs : S = s
              · by_cases hE : s = ⟨#[]⟩
                · have HE := Lib.hid (HPN.out (.inr hE))
                  subst hSs
                  have te : S.toList.isEmpty = true := by rw [hE]; simp
                  clear hE HPN
                  obtain ⟨y0, y1, y2, y3⟩ := cells4 zb
                  have f0 := thawed zb 0
                  have f1 := thawed zb 1
                  have f2 := thawed zb 2
                  have f3 := thawed zb 3
                  go_wp2
                  (try simp only [Exit.inBlock, Exit.then])
                  refine bodyPost_ret (v := .tuple #[.agg #[.int .i64 0, .int .i64 0, .int .i64 0, .int .i64 0], .bool false]) ?_ rfl ⟨by rw [HE.out], ?_⟩
                  · rw [results_cell_tmp rfl]
                    go_simp
                  · repeat' (first | exact HBB.out | refine Below.drew ?_ | refine Below.setCell ?_ (by simp <;> omega) _)
                · have HE := Lib.hid (parse_yes (HS.out.trans hSs) hE)
                  subst hSs
                  have te : S.toList.isEmpty = false := empty_false hE
                  clear hE HPN
                  obtain ⟨y0, y1, y2, y3⟩ := cells4 zb
                  have f0 := thawed zb 0
                  have f1 := thawed zb 1
                  have f2 := thawed zb 2
                  have f3 := thawed zb 3
                  go_wp2
                  (try simp only [Exit.inBlock, Exit.then])
                  refine bodyPost_ret (v := .tuple #[.agg #[.int .i64 (K : Int), .int .i64 ((v0 : Nat) : Int), .int .i64 ((v1 : Nat) : Int), .int .i64 ((0 : Nat) : Int)], .bool true]) ?_ rfl ⟨by rw [HE.out], ?_⟩
                  · rw [results_cell_tmp rfl]
                    go_simp
                  · repeat' (first | exact HBB.out | refine Below.drew ?_ | refine Below.setCell ?_ (by simp <;> omega) _)
              · have HE := Lib.hid (HPN.out (.inl hSs))
                have te := ne_toList (fun h => hSs h.symm)
                clear hSs HPN
                obtain ⟨y0, y1, y2, y3⟩ := cells4 zb
                have f0 := thawed zb 0
                have f1 := thawed zb 1
                have f2 := thawed zb 2
                have f3 := thawed zb 3
                go_wp2
                (try simp only [Exit.inBlock, Exit.then])
                refine bodyPost_ret (v := .tuple #[.agg #[.int .i64 0, .int .i64 0, .int .i64 0, .int .i64 0], .bool false]) ?_ rfl ⟨by rw [HE.out], ?_⟩
                · rw [results_cell_tmp rfl]
                  go_simp
                · repeat' (first | exact HBB.out | refine Below.drew ?_ | refine Below.setCell ?_ (by simp <;> omega) _)
            · by_cases g0 : 0 < L
              · obtain ⟨lg0, hlg0, hne0, cz0⟩ := HG.out 0 (by omega)
                have hp0 := HP.out 0 (by omega)
                obtain ⟨v0, hv0⟩ := Int.eq_ofNat_of_zero_le hp0
                rw [hv0] at cz0
                subst hlg0
                have hbOf : bOf K zs = ((v0 : Nat) : Int) := (if_pos ⟨by omega, by rw [HL.out]; omega⟩).trans hv0
                have hrOf : rOf K zs = ((0 : Nat) : Int) := if_neg (by rw [HL.out]; omega)
                have hcOf : cOf K zs = ((0 : Nat) : Int) := if_neg (by rw [HL.out]; omega)
                have HPN := Lib.hid (HPO.out _ _ _ hbOf hrOf hcOf)
                have US := Lib.hid (fun w => specUses_is (K : Int) true true false (decide_eq_true (by omega)) (decide_eq_true (by omega)) (decide_eq_false (by omega)) w)
                have l0 : 0 < L := by omega
                have l1 : ¬ 1 < L := by omega
                have t1 := thawed x7 1
                have t2 := thawed x7 2
                have t3 := thawed x7 3
                obtain ⟨wa, hwa⟩ : ∃ u, wr.setCell ⟨xb, 1, none⟩ (.int .i64 (v0 : Int)) = u := ⟨_, rfl⟩
                have xa : wa.heap[xb]? = some (.cells #[.int .i64 (K : Int), .int .i64 ((v0 : Nat) : Int), .int .i64 ((0 : Nat) : Int), .int .i64 ((0 : Nat) : Int)] 27) := by rw [← hwa]; exact set_cells x7 1 _
                have za : wa.heap[w.heap.size]? = some (.cells #[.int .i64 0, .int .i64 0, .int .i64 0, .int .i64 0] 27) := by
                  rw [← hwa]
                  have h0 := z7
                  repeat' (first | exact h0 | refine (Below.heap_setCell _ _ _ _ (by simp; omega)).trans ?_)
                have HBA : Hid (Below w.heap.size w wa) := by
                  show Below _ _ _
                  rw [← hwa]
                  have h0 := HB7.out
                  repeat' (first | exact h0 | refine Below.setCell ?_ (by simp; omega) _)
                clear hk HPO HG HP hbOf hrOf hcOf hv0 hp0
                refine (US.out _).mono ?_
                rintro e w' ⟨rfl, rfl⟩
                obtain ⟨S, hS⟩ : ∃ S, fmtB K ((v0 : Nat) : Int) ((0 : Nat) : Int) ((0 : Nat) : Int) = S := ⟨_, rfl⟩
                have HS := Lib.hid hS
                rw [hS] at HPN
                obtain ⟨d0, d1, d2, d3⟩ := cells4 xa
                clear hS
                go_wp2_with fail
                refine (specFmt_is _ _ _ _ S HS.out _).mono ?_
                rintro e wb ⟨rfl, hbb⟩
                have xb' := keep_block hbb xa (lt_of_block xa)
                have zb := keep_block hbb za (lt_of_block za)
                have HBB : Hid (Below w.heap.size w wb) := HBA.out.trans (hbb.mono HBA.out.size)
                have hsb := HBB.out.size
                clear hbb xa za HBA d0 d1 d2 d3 x7 z7 HB7 c0 c1 c2 c3
                obtain ⟨d0, d1, d2, d3⟩ := cells4 xb'
                by_cases hSs : S = s
                · by_cases hE : s = ⟨#[]⟩
                  · have HE := Lib.hid (HPN.out (.inr hE))
                    subst hSs
                    have te : S.toList.isEmpty = true := by rw [hE]; simp
                    clear hE HPN
                    obtain ⟨y0, y1, y2, y3⟩ := cells4 zb
                    have f0 := thawed zb 0
                    have f1 := thawed zb 1
                    have f2 := thawed zb 2
                    have f3 := thawed zb 3
                    go_wp2
                    (try simp only [Exit.inBlock, Exit.then])
                    refine bodyPost_ret (v := .tuple #[.agg #[.int .i64 0, .int .i64 0, .int .i64 0, .int .i64 0], .bool false]) ?_ rfl ⟨by rw [HE.out], ?_⟩
                    · rw [results_cell_tmp rfl]
                      go_simp
                    · repeat' (first | exact HBB.out | refine Below.drew ?_ | refine Below.setCell ?_ (by simp <;> omega) _)
                  · have HE := Lib.hid (parse_yes (HS.out.trans hSs) hE)
                    subst hSs
                    have te : S.toList.isEmpty = false := empty_false hE
                    clear hE HPN
                    obtain ⟨y0, y1, y2, y3⟩ := cells4 zb
                    have f0 := thawed zb 0
                    have f1 := thawed zb 1
                    have f2 := thawed zb 2
                    have f3 := thawed zb 3
                    go_wp2
                    (try simp only [Exit.inBlock, Exit.then])
                    refine bodyPost_ret (v := .tuple #[.agg #[.int .i64 (K : Int), .int .i64 ((v0 : Nat) : Int), .int .i64 ((0 : Nat) : Int), .int .i64 ((0 : Nat) : Int)], .bool true]) ?_ rfl ⟨by rw [HE.out], ?_⟩
                    · rw [results_cell_tmp rfl]
                      go_simp
                    · repeat' (first | exact HBB.out | refine Below.drew ?_ | refine Below.setCell ?_ (by simp <;> omega) _)
                · have HE := Lib.hid (HPN.out (.inl hSs))
                  have te := ne_toList (fun h => hSs h.symm)
                  clear hSs HPN
                  obtain ⟨y0, y1, y2, y3⟩ := cells4 zb
                  have f0 := thawed zb 0
                  have f1 := thawed zb 1
                  have f2 := thawed zb 2
                  have f3 := thawed zb 3
                  go_wp2
                  (try simp only [Exit.inBlock, Exit.then])
                  refine bodyPost_ret (v := .tuple #[.agg #[.int .i64 0, .int .i64 0, .int .i64 0, .int .i64 0], .bool false]) ?_ rfl ⟨by rw [HE.out], ?_⟩
                  · rw [results_cell_tmp rfl]
                    go_simp
                  · repeat' (first | exact HBB.out | refine Below.drew ?_ | refine Below.setCell ?_ (by simp <;> omega) _)
              · have hbOf : bOf K zs = ((0 : Nat) : Int) := if_neg (by rw [HL.out]; omega)
                have hrOf : rOf K zs = ((0 : Nat) : Int) := if_neg (by rw [HL.out]; omega)
                have hcOf : cOf K zs = ((0 : Nat) : Int) := if_neg (by rw [HL.out]; omega)
                have HPN := Lib.hid (HPO.out _ _ _ hbOf hrOf hcOf)
                have US := Lib.hid (fun w => specUses_is (K : Int) true true false (decide_eq_true (by omega)) (decide_eq_true (by omega)) (decide_eq_false (by omega)) w)
                have l0 : ¬ 0 < L := by omega
                have l1 : ¬ 1 < L := by omega
                obtain ⟨wa, hwa⟩ : ∃ u, wr = u := ⟨_, rfl⟩
                subst hwa
                have xa : wr.heap[xb]? = some (.cells #[.int .i64 (K : Int), .int .i64 ((0 : Nat) : Int), .int .i64 ((0 : Nat) : Int), .int .i64 ((0 : Nat) : Int)] 27) := x7
                have za := z7
                have HBA := HB7
                clear hk HPO HG HP hbOf hrOf hcOf
                refine (US.out _).mono ?_
                rintro e w' ⟨rfl, rfl⟩
                obtain ⟨S, hS⟩ : ∃ S, fmtB K ((0 : Nat) : Int) ((0 : Nat) : Int) ((0 : Nat) : Int) = S := ⟨_, rfl⟩
                have HS := Lib.hid hS
                rw [hS] at HPN
                obtain ⟨d0, d1, d2, d3⟩ := cells4 xa
                clear hS
                go_wp2_with fail
                refine (specFmt_is _ _ _ _ S HS.out _).mono ?_
                rintro e wb ⟨rfl, hbb⟩
                have xb' := keep_block hbb xa (lt_of_block xa)
                have zb := keep_block hbb za (lt_of_block za)
                have HBB : Hid (Below w.heap.size w wb) := HBA.out.trans (hbb.mono HBA.out.size)
                have hsb := HBB.out.size
                clear hbb xa za HBA d0 d1 d2 d3 x7 z7 HB7 c0 c1 c2 c3
                obtain ⟨d0, d1, d2, d3⟩ := cells4 xb'
                by_cases hSs : S = s
                · by_cases hE : s = ⟨#[]⟩
                  · have HE := Lib.hid (HPN.out (.inr hE))
                    subst hSs
                    have te : S.toList.isEmpty = true := by rw [hE]; simp
                    clear hE HPN
                    obtain ⟨y0, y1, y2, y3⟩ := cells4 zb
                    have f0 := thawed zb 0
                    have f1 := thawed zb 1
                    have f2 := thawed zb 2
                    have f3 := thawed zb 3
                    go_wp2
                    (try simp only [Exit.inBlock, Exit.then])
                    refine bodyPost_ret (v := .tuple #[.agg #[.int .i64 0, .int .i64 0, .int .i64 0, .int .i64 0], .bool false]) ?_ rfl ⟨by rw [HE.out], ?_⟩
                    · rw [results_cell_tmp rfl]
                      go_simp
                    · repeat' (first | exact HBB.out | refine Below.drew ?_ | refine Below.setCell ?_ (by simp <;> omega) _)
                  · have HE := Lib.hid (parse_yes (HS.out.trans hSs) hE)
                    subst hSs
                    have te : S.toList.isEmpty = false := empty_false hE
                    clear hE HPN
                    obtain ⟨y0, y1, y2, y3⟩ := cells4 zb
                    have f0 := thawed zb 0
                    have f1 := thawed zb 1
                    have f2 := thawed zb 2
                    have f3 := thawed zb 3
                    go_wp2
                    (try simp only [Exit.inBlock, Exit.then])
                    refine bodyPost_ret (v := .tuple #[.agg #[.int .i64 (K : Int), .int .i64 ((0 : Nat) : Int), .int .i64 ((0 : Nat) : Int), .int .i64 ((0 : Nat) : Int)], .bool true]) ?_ rfl ⟨by rw [HE.out], ?_⟩
                    · rw [results_cell_tmp rfl]
                      go_simp
                    · repeat' (first | exact HBB.out | refine Below.drew ?_ | refine Below.setCell ?_ (by simp <;> omega) _)
                · have HE := Lib.hid (HPN.out (.inl hSs))
                  have te := ne_toList (fun h => hSs h.symm)
                  clear hSs HPN
                  obtain ⟨y0, y1, y2, y3⟩ := cells4 zb
                  have f0 := thawed zb 0
                  have f1 := thawed zb 1
                  have f2 := thawed zb 2
                  have f3 := thawed zb 3
                  go_wp2
                  (try simp only [Exit.inBlock, Exit.then])
                  refine bodyPost_ret (v := .tuple #[.agg #[.int .i64 0, .int .i64 0, .int .i64 0, .int .i64 0], .bool false]) ?_ rfl ⟨by rw [HE.out], ?_⟩
                  · rw [results_cell_tmp rfl]
                    go_simp
                  · repeat' (first | exact HBB.out | refine Below.drew ?_ | refine Below.setCell ?_ (by simp <;> omega) _)
          · by_cases g1 : 1 < L
            · obtain ⟨lg0, hlg0, hne0, cz0⟩ := HG.out 0 (by omega)
              have hp0 := HP.out 0 (by omega)
              obtain ⟨v0, hv0⟩ := Int.eq_ofNat_of_zero_le hp0
              rw [hv0] at cz0
              obtain ⟨lg1, hlg1, hne1, cz1⟩ := HG.out 1 (by omega)
              have hp1 := HP.out 1 (by omega)
              obtain ⟨v1, hv1⟩ := Int.eq_ofNat_of_zero_le hp1
              rw [hv1] at cz1
              obtain rfl : lg0 = lg1 := by rw [hlg0] at hlg1; cases hlg1; rfl
              have cz2 : (wr.setCell ⟨xb, 1, none⟩ (.int .i64 (v0 : Int))).cell? ⟨lg0, 1, none⟩ = some (.int .i64 (v1 : Int)) := (World.cell?_of_block (a := ⟨lg0, 1, none⟩) (w := wr) (Below.heap_setCell _ _ _ _ hne0)).trans cz1
              subst hlg0
              clear hlg1
              have hbOf : bOf K zs = ((v0 : Nat) : Int) := (if_pos ⟨by omega, by rw [HL.out]; omega⟩).trans hv0
              have hrOf : rOf K zs = ((0 : Nat) : Int) := if_neg (by rw [HL.out]; omega)
              have hcOf : cOf K zs = ((v1 : Nat) : Int) := (if_pos ⟨by omega, by rw [HL.out]; omega⟩).trans hv1
              have HPN := Lib.hid (HPO.out _ _ _ hbOf hrOf hcOf)
              have US := Lib.hid (fun w => specUses_is (K : Int) true false true (decide_eq_true (by omega)) (decide_eq_false (by omega)) (decide_eq_true (by omega)) w)
              have l0 : 0 < L := by omega
              have l1 : 1 < L := by omega
              have t1 := thawed x7 1
              have t2 := thawed x7 2
              have t3 := thawed x7 3
              obtain ⟨wa, hwa⟩ : ∃ u, (wr.setCell ⟨xb, 1, none⟩ (.int .i64 (v0 : Int))).setCell ⟨xb, 3, none⟩ (.int .i64 (v1 : Int)) = u := ⟨_, rfl⟩
              have xa : wa.heap[xb]? = some (.cells #[.int .i64 (K : Int), .int .i64 ((v0 : Nat) : Int), .int .i64 ((0 : Nat) : Int), .int .i64 ((v1 : Nat) : Int)] 27) := by rw [← hwa]; exact set_cells (set_cells x7 1 _) 3 _
              have za : wa.heap[w.heap.size]? = some (.cells #[.int .i64 0, .int .i64 0, .int .i64 0, .int .i64 0] 27) := by
                rw [← hwa]
                have h0 := z7
                repeat' (first | exact h0 | refine (Below.heap_setCell _ _ _ _ (by simp; omega)).trans ?_)
              have HBA : Hid (Below w.heap.size w wa) := by
                show Below _ _ _
                rw [← hwa]
                have h0 := HB7.out
                repeat' (first | exact h0 | refine Below.setCell ?_ (by simp; omega) _)
              clear hk HPO HG HP hbOf hrOf hcOf hv0 hp0 hv1 hp1
              refine (US.out _).mono ?_
              rintro e w' ⟨rfl, rfl⟩
              obtain ⟨S, hS⟩ : ∃ S, fmtB K ((v0 : Nat) : Int) ((0 : Nat) : Int) ((v1 : Nat) : Int) = S := ⟨_, rfl⟩
              have HS := Lib.hid hS
              rw [hS] at HPN
              obtain ⟨d0, d1, d2, d3⟩ := cells4 xa
              clear hS
              go_wp2_with fail
              refine (specFmt_is _ _ _ _ S HS.out _).mono ?_
              rintro e wb ⟨rfl, hbb⟩
              have xb' := keep_block hbb xa (lt_of_block xa)
              have zb := keep_block hbb za (lt_of_block za)
              have HBB : Hid (Below w.heap.size w wb) := HBA.out.trans (hbb.mono HBA.out.size)
              have hsb := HBB.out.size
              clear hbb xa za HBA d0 d1 d2 d3 x7 z7 HB7 c0 c1 c2 c3
              obtain ⟨d0, d1, d2, d3⟩ := cells4 xb'
              by_cases hSs : S = s
              · by_cases hE : s = ⟨#[]⟩
                · have HE := Lib.hid (HPN.out (.inr hE))
                  subst hSs
                  have te : S.toList.isEmpty = true := by rw [hE]; simp
                  clear hE HPN
                  obtain ⟨y0, y1, y2, y3⟩ := cells4 zb
                  have f0 := thawed zb 0
                  have f1 := thawed zb 1
                  have f2 := thawed zb 2
                  have f3 := thawed zb 3
                  go_wp2
                  (try simp only [Exit.inBlock, Exit.then])
                  refine bodyPost_ret (v := .tuple #[.agg #[.int .i64 0, .int .i64 0, .int .i64 0, .int .i64 0], .bool false]) ?_ rfl ⟨by rw [HE.out], ?_⟩
                  · rw [results_cell_tmp rfl]
                    go_simp
                  · repeat' (first | exact HBB.out | refine Below.drew ?_ | refine Below.setCell ?_ (by simp <;> omega) _)
                · have HE := Lib.hid (parse_yes (HS.out.trans hSs) hE)
                  subst hSs
                  have te : S.toList.isEmpty = false := empty_false hE
                  clear hE HPN
                  obtain ⟨y0, y1, y2, y3⟩ := cells4 zb
                  have f0 := thawed zb 0
                  have f1 := thawed zb 1
                  have f2 := thawed zb 2
                  have f3 := thawed zb 3
                  go_wp2
                  (try simp only [Exit.inBlock, Exit.then])
                  refine bodyPost_ret (v := .tuple #[.agg #[.int .i64 (K : Int), .int .i64 ((v0 : Nat) : Int), .int .i64 ((0 : Nat) : Int), .int .i64 ((v1 : Nat) : Int)], .bool true]) ?_ rfl ⟨by rw [HE.out], ?_⟩
                  · rw [results_cell_tmp rfl]
                    go_simp
                  · repeat' (first | exact HBB.out | refine Below.drew ?_ | refine Below.setCell ?_ (by simp <;> omega) _)
              · have HE := Lib.hid (HPN.out (.inl hSs))
                have te := ne_toList (fun h => hSs h.symm)
                clear hSs HPN
                obtain ⟨y0, y1, y2, y3⟩ := cells4 zb
                have f0 := thawed zb 0
                have f1 := thawed zb 1
                have f2 := thawed zb 2
                have f3 := thawed zb 3
                go_wp2
                (try simp only [Exit.inBlock, Exit.then])
                refine bodyPost_ret (v := .tuple #[.agg #[.int .i64 0, .int .i64 0, .int .i64 0, .int .i64 0], .bool false]) ?_ rfl ⟨by rw [HE.out], ?_⟩
                · rw [results_cell_tmp rfl]
                  go_simp
                · repeat' (first | exact HBB.out | refine Below.drew ?_ | refine Below.setCell ?_ (by simp <;> omega) _)
            · by_cases g0 : 0 < L
              · obtain ⟨lg0, hlg0, hne0, cz0⟩ := HG.out 0 (by omega)
                have hp0 := HP.out 0 (by omega)
                obtain ⟨v0, hv0⟩ := Int.eq_ofNat_of_zero_le hp0
                rw [hv0] at cz0
                subst hlg0
                have hbOf : bOf K zs = ((v0 : Nat) : Int) := (if_pos ⟨by omega, by rw [HL.out]; omega⟩).trans hv0
                have hrOf : rOf K zs = ((0 : Nat) : Int) := if_neg (by rw [HL.out]; omega)
                have hcOf : cOf K zs = ((0 : Nat) : Int) := if_neg (by rw [HL.out]; omega)
                have HPN := Lib.hid (HPO.out _ _ _ hbOf hrOf hcOf)
                have US := Lib.hid (fun w => specUses_is (K : Int) true false true (decide_eq_true (by omega)) (decide_eq_false (by omega)) (decide_eq_true (by omega)) w)
                have l0 : 0 < L := by omega
                have l1 : ¬ 1 < L := by omega
                have t1 := thawed x7 1
                have t2 := thawed x7 2
                have t3 := thawed x7 3
                obtain ⟨wa, hwa⟩ : ∃ u, wr.setCell ⟨xb, 1, none⟩ (.int .i64 (v0 : Int)) = u := ⟨_, rfl⟩
                have xa : wa.heap[xb]? = some (.cells #[.int .i64 (K : Int), .int .i64 ((v0 : Nat) : Int), .int .i64 ((0 : Nat) : Int), .int .i64 ((0 : Nat) : Int)] 27) := by rw [← hwa]; exact set_cells x7 1 _
                have za : wa.heap[w.heap.size]? = some (.cells #[.int .i64 0, .int .i64 0, .int .i64 0, .int .i64 0] 27) := by
                  rw [← hwa]
                  have h0 := z7
                  repeat' (first | exact h0 | refine (Below.heap_setCell _ _ _ _ (by simp; omega)).trans ?_)
                have HBA : Hid (Below w.heap.size w wa) := by
                  show Below _ _ _
                  rw [← hwa]
                  have h0 := HB7.out
                  repeat' (first | exact h0 | refine Below.setCell ?_ (by simp; omega) _)
                clear hk HPO HG HP hbOf hrOf hcOf hv0 hp0
                refine (US.out _).mono ?_
                rintro e w' ⟨rfl, rfl⟩
                obtain ⟨S, hS⟩ : ∃ S, fmtB K ((v0 : Nat) : Int) ((0 : Nat) : Int) ((0 : Nat) : Int) = S := ⟨_, rfl⟩
                have HS := Lib.hid hS
                rw [hS] at HPN
                obtain ⟨d0, d1, d2, d3⟩ := cells4 xa
                clear hS
                go_wp2_with fail
                refine (specFmt_is _ _ _ _ S HS.out _).mono ?_
                rintro e wb ⟨rfl, hbb⟩
                have xb' := keep_block hbb xa (lt_of_block xa)
                have zb := keep_block hbb za (lt_of_block za)
                have HBB : Hid (Below w.heap.size w wb) := HBA.out.trans (hbb.mono HBA.out.size)
                have hsb := HBB.out.size
                clear hbb xa za HBA d0 d1 d2 d3 x7 z7 HB7 c0 c1 c2 c3
                obtain ⟨d0, d1, d2, d3⟩ := cells4 xb'
                by_cases hSs : S = s
                · by_cases hE : s = ⟨#[]⟩
                  · have HE := Lib.hid (HPN.out (.inr hE))
                    subst hSs
                    have te : S.toList.isEmpty = true := by rw [hE]; simp
                    clear hE HPN
                    obtain ⟨y0, y1, y2, y3⟩ := cells4 zb
                    have f0 := thawed zb 0
                    have f1 := thawed zb 1
                    have f2 := thawed zb 2
                    have f3 := thawed zb 3
                    go_wp2
                    (try simp only [Exit.inBlock, Exit.then])
                    refine bodyPost_ret (v := .tuple #[.agg #[.int .i64 0, .int .i64 0, .int .i64 0, .int .i64 0], .bool false]) ?_ rfl ⟨by rw [HE.out], ?_⟩
                    · rw [results_cell_tmp rfl]
                      go_simp
                    · repeat' (first | exact HBB.out | refine Below.drew ?_ | refine Below.setCell ?_ (by simp <;> omega) _)
                  · have HE := Lib.hid (parse_yes (HS.out.trans hSs) hE)
                    subst hSs
                    have te : S.toList.isEmpty = false := empty_false hE
                    clear hE HPN
                    obtain ⟨y0, y1, y2, y3⟩ := cells4 zb
                    have f0 := thawed zb 0
                    have f1 := thawed zb 1
                    have f2 := thawed zb 2
                    have f3 := thawed zb 3
                    go_wp2
                    (try simp only [Exit.inBlock, Exit.then])
                    refine bodyPost_ret (v := .tuple #[.agg #[.int .i64 (K : Int), .int .i64 ((v0 : Nat) : Int), .int .i64 ((0 : Nat) : Int), .int .i64 ((0 : Nat) : Int)], .bool true]) ?_ rfl ⟨by rw [HE.out], ?_⟩
                    · rw [results_cell_tmp rfl]
                      go_simp
                    · repeat' (first | exact HBB.out | refine Below.drew ?_ | refine Below.setCell ?_ (by simp <;> omega) _)
                · have HE := Lib.hid (HPN.out (.inl hSs))
                  have te := ne_toList (fun h => hSs h.symm)
                  clear hSs HPN
                  obtain ⟨y0, y1, y2, y3⟩ := cells4 zb
                  have f0 := thawed zb 0
                  have f1 := thawed zb 1
                  have f2 := thawed zb 2
                  have f3 := thawed zb 3
                  go_wp2
                  (try simp only [Exit.inBlock, Exit.then])
                  refine bodyPost_ret (v := .tuple #[.agg #[.int .i64 0, .int .i64 0, .int .i64 0, .int .i64 0], .bool false]) ?_ rfl ⟨by rw [HE.out], ?_⟩
                  · rw [results_cell_tmp rfl]
                    go_simp
                  · repeat' (first | exact HBB.out | refine Below.drew ?_ | refine Below.setCell ?_ (by simp <;> omega) _)
              · have hbOf : bOf K zs = ((0 : Nat) : Int) := if_neg (by rw [HL.out]; omega)
                have hrOf : rOf K zs = ((0 : Nat) : Int) := if_neg (by rw [HL.out]; omega)
                have hcOf : cOf K zs = ((0 : Nat) : Int) := if_neg (by rw [HL.out]; omega)
                have HPN := Lib.hid (HPO.out _ _ _ hbOf hrOf hcOf)
                have US := Lib.hid (fun w => specUses_is (K : Int) true false true (decide_eq_true (by omega)) (decide_eq_false (by omega)) (decide_eq_true (by omega)) w)
                have l0 : ¬ 0 < L := by omega
                have l1 : ¬ 1 < L := by omega
                obtain ⟨wa, hwa⟩ : ∃ u, wr = u := ⟨_, rfl⟩
                subst hwa
                have xa : wr.heap[xb]? = some (.cells #[.int .i64 (K : Int), .int .i64 ((0 : Nat) : Int), .int .i64 ((0 : Nat) : Int), .int .i64 ((0 : Nat) : Int)] 27) := x7
                have za := z7
                have HBA := HB7
                clear hk HPO HG HP hbOf hrOf hcOf
                refine (US.out _).mono ?_
                rintro e w' ⟨rfl, rfl⟩
                obtain ⟨S, hS⟩ : ∃ S, fmtB K ((0 : Nat) : Int) ((0 : Nat) : Int) ((0 : Nat) : Int) = S := ⟨_, rfl⟩
                have HS := Lib.hid hS
                rw [hS] at HPN
                obtain ⟨d0, d1, d2, d3⟩ := cells4 xa
                clear hS
                go_wp2_with fail
                refine (specFmt_is _ _ _ _ S HS.out _).mono ?_
                rintro e wb ⟨rfl, hbb⟩
                have xb' := keep_block hbb xa (lt_of_block xa)
                have zb := keep_block hbb za (lt_of_block za)
                have HBB : Hid (Below w.heap.size w wb) := HBA.out.trans (hbb.mono HBA.out.size)
                have hsb := HBB.out.size
                clear hbb xa za HBA d0 d1 d2 d3 x7 z7 HB7 c0 c1 c2 c3
                obtain ⟨d0, d1, d2, d3⟩ := cells4 xb'
                by_cases hSs : S = s
                · by_cases hE : s = ⟨#[]⟩
                  · have HE := Lib.hid (HPN.out (.inr hE))
                    subst hSs
                    have te : S.toList.isEmpty = true := by rw [hE]; simp
                    clear hE HPN
                    obtain ⟨y0, y1, y2, y3⟩ := cells4 zb
                    have f0 := thawed zb 0
                    have f1 := thawed zb 1
                    have f2 := thawed zb 2
                    have f3 := thawed zb 3
                    go_wp2
                    (try simp only [Exit.inBlock, Exit.then])
                    refine bodyPost_ret (v := .tuple #[.agg #[.int .i64 0, .int .i64 0, .int .i64 0, .int .i64 0], .bool false]) ?_ rfl ⟨by rw [HE.out], ?_⟩
                    · rw [results_cell_tmp rfl]
                      go_simp
                    · repeat' (first | exact HBB.out | refine Below.drew ?_ | refine Below.setCell ?_ (by simp <;> omega) _)
                  · have HE := Lib.hid (parse_yes (HS.out.trans hSs) hE)
                    subst hSs
                    have te : S.toList.isEmpty = false := empty_false hE
                    clear hE HPN
                    obtain ⟨y0, y1, y2, y3⟩ := cells4 zb
                    have f0 := thawed zb 0
                    have f1 := thawed zb 1
                    have f2 := thawed zb 2
                    have f3 := thawed zb 3
                    go_wp2
                    (try simp only [Exit.inBlock, Exit.then])
                    refine bodyPost_ret (v := .tuple #[.agg #[.int .i64 (K : Int), .int .i64 ((0 : Nat) : Int), .int .i64 ((0 : Nat) : Int), .int .i64 ((0 : Nat) : Int)], .bool true]) ?_ rfl ⟨by rw [HE.out], ?_⟩
                    · rw [results_cell_tmp rfl]
                      go_simp
                    · repeat' (first | exact HBB.out | refine Below.drew ?_ | refine Below.setCell ?_ (by simp <;> omega) _)
                · have HE := Lib.hid (HPN.out (.inl hSs))
                  have te := ne_toList (fun h => hSs h.symm)
                  clear hSs HPN
                  obtain ⟨y0, y1, y2, y3⟩ := cells4 zb
                  have f0 := thawed zb 0
                  have f1 := thawed zb 1
                  have f2 := thawed zb 2
                  have f3 := thawed zb 3
                  go_wp2
                  (try simp only [Exit.inBlock, Exit.then])
                  refine bodyPost_ret (v := .tuple #[.agg #[.int .i64 0, .int .i64 0, .int .i64 0, .int .i64 0], .bool false]) ?_ rfl ⟨by rw [HE.out], ?_⟩
                  · rw [results_cell_tmp rfl]
                    go_simp
                  · repeat' (first | exact HBB.out | refine Below.drew ?_ | refine Below.setCell ?_ (by simp <;> omega) _)
          · by_cases g0 : 0 < L
            · obtain ⟨lg0, hlg0, hne0, cz0⟩ := HG.out 0 (by omega)
              have hp0 := HP.out 0 (by omega)
              obtain ⟨v0, hv0⟩ := Int.eq_ofNat_of_zero_le hp0
              rw [hv0] at cz0
              subst hlg0
              have hbOf : bOf K zs = ((v0 : Nat) : Int) := (if_pos ⟨by omega, by rw [HL.out]; omega⟩).trans hv0
              have hrOf : rOf K zs = ((0 : Nat) : Int) := if_neg (by rw [HL.out]; omega)
              have hcOf : cOf K zs = ((0 : Nat) : Int) := if_neg (by rw [HL.out]; omega)
              have HPN := Lib.hid (HPO.out _ _ _ hbOf hrOf hcOf)
              have US := Lib.hid (fun w => specUses_is (K : Int) true false false (decide_eq_true (by omega)) (decide_eq_false (by omega)) (decide_eq_false (by omega)) w)
              have l0 : 0 < L := by omega
              have t1 := thawed x7 1
              have t2 := thawed x7 2
              have t3 := thawed x7 3
              obtain ⟨wa, hwa⟩ : ∃ u, wr.setCell ⟨xb, 1, none⟩ (.int .i64 (v0 : Int)) = u := ⟨_, rfl⟩
              have xa : wa.heap[xb]? = some (.cells #[.int .i64 (K : Int), .int .i64 ((v0 : Nat) : Int), .int .i64 ((0 : Nat) : Int), .int .i64 ((0 : Nat) : Int)] 27) := by rw [← hwa]; exact set_cells x7 1 _
              have za : wa.heap[w.heap.size]? = some (.cells #[.int .i64 0, .int .i64 0, .int .i64 0, .int .i64 0] 27) := by
                rw [← hwa]
                have h0 := z7
                repeat' (first | exact h0 | refine (Below.heap_setCell _ _ _ _ (by simp; omega)).trans ?_)
              have HBA : Hid (Below w.heap.size w wa) := by
                show Below _ _ _
                rw [← hwa]
                have h0 := HB7.out
                repeat' (first | exact h0 | refine Below.setCell ?_ (by simp; omega) _)
              clear hk HPO HG HP hbOf hrOf hcOf hv0 hp0
              refine (US.out _).mono ?_
              rintro e w' ⟨rfl, rfl⟩
              obtain ⟨S, hS⟩ : ∃ S, fmtB K ((v0 : Nat) : Int) ((0 : Nat) : Int) ((0 : Nat) : Int) = S := ⟨_, rfl⟩
              have HS := Lib.hid hS
              rw [hS] at HPN
              obtain ⟨d0, d1, d2, d3⟩ := cells4 xa
              clear hS
              go_wp2_with fail
              refine (specFmt_is _ _ _ _ S HS.out _).mono ?_
              rintro e wb ⟨rfl, hbb⟩
              have xb' := keep_block hbb xa (lt_of_block xa)
              have zb := keep_block hbb za (lt_of_block za)
              have HBB : Hid (Below w.heap.size w wb) := HBA.out.trans (hbb.mono HBA.out.size)
              have hsb := HBB.out.size
              clear hbb xa za HBA d0 d1 d2 d3 x7 z7 HB7 c0 c1 c2 c3
              obtain ⟨d0, d1, d2, d3⟩ := cells4 xb'
              by_cases hSs : S = s
              · by_cases hE : s = ⟨#[]⟩
                · have HE := Lib.hid (HPN.out (.inr hE))
                  subst hSs
                  have te : S.toList.isEmpty = true := by rw [hE]; simp
                  clear hE HPN
                  obtain ⟨y0, y1, y2, y3⟩ := cells4 zb
                  have f0 := thawed zb 0
                  have f1 := thawed zb 1
                  have f2 := thawed zb 2
                  have f3 := thawed zb 3
                  go_wp2
                  (try simp only [Exit.inBlock, Exit.then])
                  refine bodyPost_ret (v := .tuple #[.agg #[.int .i64 0, .int .i64 0, .int .i64 0, .int .i64 0], .bool false]) ?_ rfl ⟨by rw [HE.out], ?_⟩
                  · rw [results_cell_tmp rfl]
                    go_simp
                  · repeat' (first | exact HBB.out | refine Below.drew ?_ | refine Below.setCell ?_ (by simp <;> omega) _)
                · have HE := Lib.hid (parse_yes (HS.out.trans hSs) hE)
                  subst hSs
                  have te : S.toList.isEmpty = false := empty_false hE
                  clear hE HPN
                  obtain ⟨y0, y1, y2, y3⟩ := cells4 zb
                  have f0 := thawed zb 0
                  have f1 := thawed zb 1
                  have f2 := thawed zb 2
                  have f3 := thawed zb 3
                  go_wp2
                  (try simp only [Exit.inBlock, Exit.then])
                  refine bodyPost_ret (v := .tuple #[.agg #[.int .i64 (K : Int), .int .i64 ((v0 : Nat) : Int), .int .i64 ((0 : Nat) : Int), .int .i64 ((0 : Nat) : Int)], .bool true]) ?_ rfl ⟨by rw [HE.out], ?_⟩
                  · rw [results_cell_tmp rfl]
                    go_simp
                  · repeat' (first | exact HBB.out | refine Below.drew ?_ | refine Below.setCell ?_ (by simp <;> omega) _)
              · have HE := Lib.hid (HPN.out (.inl hSs))
                have te := ne_toList (fun h => hSs h.symm)
                clear hSs HPN
                obtain ⟨y0, y1, y2, y3⟩ := cells4 zb
                have f0 := thawed zb 0
                have f1 := thawed zb 1
                have f2 := thawed zb 2
                have f3 := thawed zb 3
                go_wp2
                (try simp only [Exit.inBlock, Exit.then])
                refine bodyPost_ret (v := .tuple #[.agg #[.int .i64 0, .int .i64 0, .int .i64 0, .int .i64 0], .bool false]) ?_ rfl ⟨by rw [HE.out], ?_⟩
                · rw [results_cell_tmp rfl]
                  go_simp
                · repeat' (first | exact HBB.out | refine Below.drew ?_ | refine Below.setCell ?_ (by simp <;> omega) _)
            · have hbOf : bOf K zs = ((0 : Nat) : Int) := if_neg (by rw [HL.out]; omega)
              have hrOf : rOf K zs = ((0 : Nat) : Int) := if_neg (by rw [HL.out]; omega)
              have hcOf : cOf K zs = ((0 : Nat) : Int) := if_neg (by rw [HL.out]; omega)
              have HPN := Lib.hid (HPO.out _ _ _ hbOf hrOf hcOf)
              have US := Lib.hid (fun w => specUses_is (K : Int) true false false (decide_eq_true (by omega)) (decide_eq_false (by omega)) (decide_eq_false (by omega)) w)
              have l0 : ¬ 0 < L := by omega
              obtain ⟨wa, hwa⟩ : ∃ u, wr = u := ⟨_, rfl⟩
              subst hwa
              have xa : wr.heap[xb]? = some (.cells #[.int .i64 (K : Int), .int .i64 ((0 : Nat) : Int), .int .i64 ((0 : Nat) : Int), .int .i64 ((0 : Nat) : Int)] 27) := x7
              have za := z7
              have HBA := HB7
              clear hk HPO HG HP hbOf hrOf hcOf
              refine (US.out _).mono ?_
              rintro e w' ⟨rfl, rfl⟩
              obtain ⟨S, hS⟩ : ∃ S, fmtB K ((0 : Nat) : Int) ((0 : Nat) : Int) ((0 : Nat) : Int) = S := ⟨_, rfl⟩
              have HS := Lib.hid hS
              rw [hS] at HPN
              obtain ⟨d0, d1, d2, d3⟩ := cells4 xa
              clear hS
              go_wp2_with fail
              refine (specFmt_is _ _ _ _ S HS.out _).mono ?_
              rintro e wb ⟨rfl, hbb⟩
              have xb' := keep_block hbb xa (lt_of_block xa)
              have zb := keep_block hbb za (lt_of_block za)
              have HBB : Hid (Below w.heap.size w wb) := HBA.out.trans (hbb.mono HBA.out.size)
              have hsb := HBB.out.size
              clear hbb xa za HBA d0 d1 d2 d3 x7 z7 HB7 c0 c1 c2 c3
              obtain ⟨d0, d1, d2, d3⟩ := cells4 xb'
              by_cases hSs : S = s
              · by_cases hE : s = ⟨#[]⟩
                · have HE := Lib.hid (HPN.out (.inr hE))
                  subst hSs
                  have te : S.toList.isEmpty = true := by rw [hE]; simp
                  clear hE HPN
                  obtain ⟨y0, y1, y2, y3⟩ := cells4 zb
                  have f0 := thawed zb 0
                  have f1 := thawed zb 1
                  have f2 := thawed zb 2
                  have f3 := thawed zb 3
                  go_wp2
                  (try simp only [Exit.inBlock, Exit.then])
                  refine bodyPost_ret (v := .tuple #[.agg #[.int .i64 0, .int .i64 0, .int .i64 0, .int .i64 0], .bool false]) ?_ rfl ⟨by rw [HE.out], ?_⟩
                  · rw [results_cell_tmp rfl]
                    go_simp
                  · repeat' (first | exact HBB.out | refine Below.drew ?_ | refine Below.setCell ?_ (by simp <;> omega) _)
                · have HE := Lib.hid (parse_yes (HS.out.trans hSs) hE)
                  subst hSs
                  have te : S.toList.isEmpty = false := empty_false hE
                  clear hE HPN
                  obtain ⟨y0, y1, y2, y3⟩ := cells4 zb
                  have f0 := thawed zb 0
                  have f1 := thawed zb 1
                  have f2 := thawed zb 2
                  have f3 := thawed zb 3
                  go_wp2
                  (try simp only [Exit.inBlock, Exit.then])
                  refine bodyPost_ret (v := .tuple #[.agg #[.int .i64 (K : Int), .int .i64 ((0 : Nat) : Int), .int .i64 ((0 : Nat) : Int), .int .i64 ((0 : Nat) : Int)], .bool true]) ?_ rfl ⟨by rw [HE.out], ?_⟩
                  · rw [results_cell_tmp rfl]
                    go_simp
                  · repeat' (first | exact HBB.out | refine Below.drew ?_ | refine Below.setCell ?_ (by simp <;> omega) _)
              · have HE := Lib.hid (HPN.out (.inl hSs))
                have te := ne_toList (fun h => hSs h.symm)
                clear hSs HPN
                obtain ⟨y0, y1, y2, y3⟩ := cells4 zb
                have f0 := thawed zb 0
                have f1 := thawed zb 1
                have f2 := thawed zb 2
                have f3 := thawed zb 3
                go_wp2
                (try simp only [Exit.inBlock, Exit.then])
                refine bodyPost_ret (v := .tuple #[.agg #[.int .i64 0, .int .i64 0, .int .i64 0, .int .i64 0], .bool false]) ?_ rfl ⟨by rw [HE.out], ?_⟩
                · rw [results_cell_tmp rfl]
                  go_simp
                · repeat' (first | exact HBB.out | refine Below.drew ?_ | refine Below.setCell ?_ (by simp <;> omega) _)
          · have hbOf : bOf K zs = ((0 : Nat) : Int) := if_neg (by rw [HL.out]; omega)
            have hrOf : rOf K zs = ((0 : Nat) : Int) := if_neg (by rw [HL.out]; omega)
            have hcOf : cOf K zs = ((0 : Nat) : Int) := if_neg (by rw [HL.out]; omega)
            have HPN := Lib.hid (HPO.out _ _ _ hbOf hrOf hcOf)
            have US := Lib.hid (fun w => specUses_is (K : Int) false false false (decide_eq_false (by omega)) (decide_eq_false (by omega)) (decide_eq_false (by omega)) w)
            obtain ⟨wa, hwa⟩ : ∃ u, wr = u := ⟨_, rfl⟩
            subst hwa
            have xa : wr.heap[xb]? = some (.cells #[.int .i64 (K : Int), .int .i64 ((0 : Nat) : Int), .int .i64 ((0 : Nat) : Int), .int .i64 ((0 : Nat) : Int)] 27) := x7
            have za := z7
            have HBA := HB7
            clear hk HPO HG HP hbOf hrOf hcOf
            refine (US.out _).mono ?_
            rintro e w' ⟨rfl, rfl⟩
            obtain ⟨S, hS⟩ : ∃ S, fmtB K ((0 : Nat) : Int) ((0 : Nat) : Int) ((0 : Nat) : Int) = S := ⟨_, rfl⟩
            have HS := Lib.hid hS
            rw [hS] at HPN
            obtain ⟨d0, d1, d2, d3⟩ := cells4 xa
            clear hS
            go_wp2_with fail
            refine (specFmt_is _ _ _ _ S HS.out _).mono ?_
            rintro e wb ⟨rfl, hbb⟩
            have xb' := keep_block hbb xa (lt_of_block xa)
            have zb := keep_block hbb za (lt_of_block za)
            have HBB : Hid (Below w.heap.size w wb) := HBA.out.trans (hbb.mono HBA.out.size)
            have hsb := HBB.out.size
            clear hbb xa za HBA d0 d1 d2 d3 x7 z7 HB7 c0 c1 c2 c3
            obtain ⟨d0, d1, d2, d3⟩ := cells4 xb'
            by_cases hSs : S = s
            · by_cases hE : s = ⟨#[]⟩
              · have HE := Lib.hid (HPN.out (.inr hE))
                subst hSs
                have te : S.toList.isEmpty = true := by rw [hE]; simp
                clear hE HPN
                obtain ⟨y0, y1, y2, y3⟩ := cells4 zb
                have f0 := thawed zb 0
                have f1 := thawed zb 1
                have f2 := thawed zb 2
                have f3 := thawed zb 3
                go_wp2
                (try simp only [Exit.inBlock, Exit.then])
                refine bodyPost_ret (v := .tuple #[.agg #[.int .i64 0, .int .i64 0, .int .i64 0, .int .i64 0], .bool false]) ?_ rfl ⟨by rw [HE.out], ?_⟩
                · rw [results_cell_tmp rfl]
                  go_simp
                · repeat' (first | exact HBB.out | refine Below.drew ?_ | refine Below.setCell ?_ (by simp <;> omega) _)
              · have HE := Lib.hid (parse_yes (HS.out.trans hSs) hE)
                subst hSs
                have te : S.toList.isEmpty = false := empty_false hE
                clear hE HPN
                obtain ⟨y0, y1, y2, y3⟩ := cells4 zb
                have f0 := thawed zb 0
                have f1 := thawed zb 1
                have f2 := thawed zb 2
                have f3 := thawed zb 3
                go_wp2
                (try simp only [Exit.inBlock, Exit.then])
                refine bodyPost_ret (v := .tuple #[.agg #[.int .i64 (K : Int), .int .i64 ((0 : Nat) : Int), .int .i64 ((0 : Nat) : Int), .int .i64 ((0 : Nat) : Int)], .bool true]) ?_ rfl ⟨by rw [HE.out], ?_⟩
                · rw [results_cell_tmp rfl]
                  go_simp
                · repeat' (first | exact HBB.out | refine Below.drew ?_ | refine Below.setCell ?_ (by simp <;> omega) _)
            · have HE := Lib.hid (HPN.out (.inl hSs))
              have te := ne_toList (fun h => hSs h.symm)
              clear hSs HPN
              obtain ⟨y0, y1, y2, y3⟩ := cells4 zb
              have f0 := thawed zb 0
              have f1 := thawed zb 1
              have f2 := thawed zb 2
              have f3 := thawed zb 3
              go_wp2
              (try simp only [Exit.inBlock, Exit.then])
              refine bodyPost_ret (v := .tuple #[.agg #[.int .i64 0, .int .i64 0, .int .i64 0, .int .i64 0], .bool false]) ?_ rfl ⟨by rw [HE.out], ?_⟩
              · rw [results_cell_tmp rfl]
                go_simp
              · repeat' (first | exact HBB.out | refine Below.drew ?_ | refine Below.setCell ?_ (by simp <;> omega) _)

end Go.Proofs.YtfhgbgcdkiiflaaDoor
