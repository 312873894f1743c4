/-
  impl's ParseCommand: the first field's kind, the numbers of the next two, the operation of these, and its text held against the text.
-/
import Derived.Test.YtfhgbgcdkiiflaaDoorCmdO
import Derived.Test.YtfhgbgcdkiiflaaDoorCmdR
namespace Go.Proofs.YtfhgbgcdkiiflaaDoor
open Go.RowKit

set_option linter.unusedVariables false

theorem var_keeps {P : Program} {w w' : World} {n : String} {cs : Array Value} (h : w.var? P n = some cs) (hb : Below w.heap.size w w') : w'.var? P n = some cs := by
  cases hg : P.globalNamed n with
  | none => simp [World.var?, hg] at h
  | some g =>
    have hlt : g < w.heap.size := by
      rcases Nat.lt_or_ge g w.heap.size with h' | h'
      · exact h'
      · simp [World.var?, hg, Array.getElem?_eq_none h'] at h
    simp only [World.var?, hg, Option.bind_some] at h ⊢
    rw [hb.block g hlt]
    exact h

theorem ErrS.keeps {w w' : World} (h : ErrS w) (hb : Below w.heap.size w w') : ErrS w' := by obtain ⟨a, b, c⟩ := h; exact ⟨a, b, var_keeps c hb⟩

theorem ErrR.keeps {w w' : World} (h : ErrR w) (hb : Below w.heap.size w w') : ErrR w' := by obtain ⟨a, b, c⟩ := h; exact ⟨a, b, var_keeps c hb⟩

theorem fields_size (s : ByteArray) : ∀ f ∈ splitF s, f.size ≤ 600 := by
  cases h : splitOk s
  · rw [splitF_no h]; intro f hf; cases hf
  · exact field_size h

set_option maxHeartbeats 8000000 in
set_option maxRecDepth 100000 in
theorem implParseCmd_is (s : ByteArray) (hm : s.size ≤ maxLen) (w : World) (ht : Tab10 w) (he : ErrS w) (hr : ErrR w) (hw : WordsVar w) :
    Calls Tryd.prog 9 #[.string s] w (Gives (parseV s) w) := by
  have HT := Lib.hid (Lib.tabBelow_of_tabIs ht)
  have HS := Lib.hid he
  have HR := Lib.hid hr
  have HW := Lib.hid hw
  clear ht he hr hw
  obtain ⟨w1, hw1⟩ : ∃ u, w.alloc (.cells #[.int .i64 0, .int .i64 0, .int .i64 0, .int .i64 0] 27) = u := ⟨_, rfl⟩
  have HB1 : Hid (Below w.heap.size w w1) := by subst hw1; exact (Below.refl _ _).alloc (Nat.le_refl _) _
  have z1 : w1.heap[w.heap.size]? = some (.cells #[.int .i64 0, .int .i64 0, .int .i64 0, .int .i64 0] 27) := by subst hw1; exact heap_alloc_new _ _
  have hz1 := lt_of_block z1
  go_enter Tryd.func9, Tryd.ntmps9
  go_wp2_with fail
  refine (implSplit_any s _ hm).mono ?_
  rintro e w2 ⟨sa, cap, rfl, own2, hb2⟩
  have z2 := keep_block hb2 z1 (lt_of_block z1)
  have HB2 : Hid (Below w.heap.size w w2) := HB1.out.trans (hb2.mono HB1.out.size)
  have HO2 := Lib.hid own2
  obtain ⟨n, hn⟩ : ∃ n, (splitF s).length = n := ⟨_, rfl⟩
  have HN := Lib.hid hn
  (try simp only [hn])
  rw [hn] at HO2
  have h24 : n ≤ 24 := by rw [← hn]; exact splitF_length s
  have hs2 := HB2.out.size
  clear hb2 z1 HB1 hw1 own2 hn
  obtain ⟨ok, hok⟩ : ∃ u, splitOk s = u := ⟨_, rfl⟩
  (try simp only [hok])
  clear hok
  by_cases hn0 : n = 0
  · have HE : Hid (parseV s = .tuple #[.agg #[.int .i64 0, .int .i64 0, .int .i64 0, .int .i64 0], .bool false]) := parse_nosplit (.inr (List.length_eq_zero_iff.1 (by rw [HN.out]; exact hn0)))
    have tn : ((n : Int) == 0) = true := by simpa using hn0
    subst hn0
    obtain ⟨y0, y1, y2, y3⟩ := cells4 z2
    have f0 := thawed z2 0
    have f1 := thawed z2 1
    have f2 := thawed z2 2
    have f3 := thawed z2 3
    go_wp2
    (try simp only [Exit.inBlock, Exit.then])
    refine bodyPost_ret (v := .tuple #[.agg #[.int .i64 0, .int .i64 0, .int .i64 0, .int .i64 0], .bool false]) ?_ rfl ⟨by rw [HE.out], ?_⟩
    · rw [results_cell_tmp rfl]
      go_simp
    · repeat' (first | exact HB2.out | refine Below.drew ?_ | refine Below.setCell ?_ (by simp <;> omega) _)
  have tn : ((n : Int) == 0) = false := by simpa using hn0
  have tn2 : (n == 0) = false := by simpa using hn0
  have HNE := Lib.hid hn0
  have HNZ : Hid (splitF s ≠ []) := fun h => hn0 (by rw [← HN.out, h]; rfl)
  clear hn0
  have hpos : 0 < n := by have := HNE.out; omega
  obtain ⟨pg, rfl, hc0, _⟩ := HO2.out.at (k := 0) (by rw [HN.out]; exact hpos)
  obtain ⟨f0, hf0⟩ : ∃ f, (splitF s).getD 0 ⟨#[]⟩ = f := ⟨_, rfl⟩
  rw [show (splitF s)[0]'(by rw [HN.out]; exact hpos) = (splitF s).getD 0 ⟨#[]⟩ by rw [List.getD_eq_getElem?_getD, List.getElem?_eq_getElem (by rw [HN.out]; exact hpos)]; rfl, hf0] at hc0
  obtain ⟨K, hK⟩ : ∃ K, kindTo f0 9 = K := ⟨_, rfl⟩
  have hK9 : K ≤ 9 := by rw [← hK]; exact kindTo_le f0 9
  have HK := Lib.hid hK
  have HKS : Hid (kindTo ((splitF s).getD 0 ⟨#[]⟩) 9 = K) := by show _ = _; rw [hf0]; exact hK
  clear hK hf0
  go_wp2_with fail
  refine (implKind_is f0 K HK.out _ (HW.out.below HB2.out)).mono ?_
  rintro e w3 ⟨rfl, rfl⟩
  obtain ⟨n1, hn1⟩ := numAt_ex (splitF s) 1
  obtain ⟨n2, hn2⟩ := numAt_ex (splitF s) 2
  have l1 := hn1.le
  have l2 := hn2.le
  have A1 := Lib.hid hn1
  have A2 := Lib.hid hn2
  clear hn1 hn2 hc0
  go_wp2_with fail
  refine (implNumAt_is 1 n1 A1.out HN.out h24 (by omega) (fields_size s) _ HO2.out (HT.out.on HB2.out).here (HS.out.keeps HB2.out) (HR.out.keeps HB2.out)).mono ?_
  rintro e w4 ⟨rfl, hb4⟩
  have z4 := keep_block hb4 z2 (lt_of_block z2)
  have HB4 : Hid (Below w.heap.size w w4) := HB2.out.trans (hb4.mono HB2.out.size)
  have HO4 := Lib.hid (HO2.out.below hb4)
  clear hb4 z2 HB2 HO2
  go_wp2_with fail
  refine (implNumAt_is 2 n2 A2.out HN.out h24 (by omega) (fields_size s) _ HO4.out (HT.out.on HB4.out).here (HS.out.keeps HB4.out) (HR.out.keeps HB4.out)).mono ?_
  rintro e w5 ⟨rfl, hb5⟩
  have z5 := keep_block hb5 z4 (lt_of_block z4)
  have HB5 : Hid (Below w.heap.size w w5) := HB4.out.trans (hb5.mono HB4.out.size)
  clear hb5 z4 HB4 HO4
  go_wp2_with fail
  have HV := Lib.hid (parse_at HKS.out A1.out A2.out HNZ.out)
  rcases (show K = 0 ∨ K = 1 ∨ (K = 2 ∨ K = 3) ∨ (K = 4 ∨ K = 5) ∨ (6 ≤ K ∧ K ≤ 9) by omega) with hk | hk | hk | hk | hk
  · have HE : Hid (parseV s = .tuple #[.agg #[.int .i64 0, .int .i64 0, .int .i64 0, .int .i64 0], .bool false]) := parse_kind0 (HKS.out.trans hk)
    have OV : Hid (opV (K : Int) (n1 : Int) (n2 : Int) (n2 : Int) = .nilIface) := by
      show _ = _
      simp only [opV]
      rw [if_neg (by omega), if_neg (by omega), if_neg (by omega), if_neg (by omega)]
    clear hk HV
    refine (implOpOf_is _ _ _ _ _ OV.out _).mono ?_
    rintro e w6 ⟨rfl, hb6⟩
    have z6 := keep_block hb6 z5 (lt_of_block z5)
    have HB6 : Hid (Below w.heap.size w w6) := HB5.out.trans (hb6.mono HB5.out.size)
    have hs6 := HB6.out.size
    clear hb6 z5 HB5
    obtain ⟨y0, y1, y2, y3⟩ := cells4 z6
    have f0 := thawed z6 0
    have f1 := thawed z6 1
    have f2 := thawed z6 2
    have f3 := thawed z6 3
    go_wp2
    (try simp only [Exit.inBlock, Exit.then])
    refine bodyPost_ret (v := .tuple #[.agg #[.int .i64 0, .int .i64 0, .int .i64 0, .int .i64 0], .bool false]) ?_ rfl ⟨by rw [HE.out], ?_⟩
    · rw [results_cell_tmp rfl]
      go_simp
    · repeat' (first | exact HB6.out | refine Below.drew ?_ | refine Below.setCell ?_ (by simp <;> omega) _)
  · have eb : bP K n1 = n1 := if_pos (by omega)
    have er : rP K n2 = n2 := if_pos (by omega)
    have ec : cP K n2 = 0 := if_neg (by omega)
    rw [eb, er, ec] at HV
    have HV : Hid (parseV s = if fmtB (K : Int) (n1 : Int) (n2 : Int) 0 = s then .tuple #[.agg #[.int .i64 (K : Int), .int .i64 (n1 : Int), .int .i64 (n2 : Int), .int .i64 0], .bool true] else .tuple #[.agg #[.int .i64 0, .int .i64 0, .int .i64 0, .int .i64 0], .bool false]) := HV.out
    have OV : Hid (opV (K : Int) (n1 : Int) (n2 : Int) (n2 : Int) = .iface 74 (.agg #[.int .i64 (K : Int), .int .i64 (n1 : Int), .int .i64 (n2 : Int)])) := by
      show _ = _
      simp only [opV]
      rw [if_pos (by omega)]
    have NA := row_nil (K : Int) (n1 : Int) (n2 : Int) 0
    have ME := row_meth (K : Int) (n1 : Int) (n2 : Int) 0
    obtain ⟨S, hS⟩ : ∃ S, fmtB (K : Int) (n1 : Int) (n2 : Int) 0 = S := ⟨_, rfl⟩
    have HSS := Lib.hid hS
    rw [hS] at HV
    clear hk eb er ec hS
    refine (implOpOf_is _ _ _ _ _ OV.out _).mono ?_
    rintro e w6 ⟨rfl, hb6⟩
    have z6 := keep_block hb6 z5 (lt_of_block z5)
    have HB6 : Hid (Below w.heap.size w w6) := HB5.out.trans (hb6.mono HB5.out.size)
    have hs6 := HB6.out.size
    clear hb6 z5 HB5
    go_wp2_with fail
    refine (implRowCmd_is (K : Int) (n1 : Int) (n2 : Int) 0 _).mono ?_
    rintro e w7 ⟨rfl, hb7⟩
    have z7 := keep_block hb7 z6 (lt_of_block z6)
    have HB7 : Hid (Below w.heap.size w w7) := HB6.out.trans (hb7.mono HB6.out.size)
    clear hb7 z6 HB6
    go_wp2_with fail
    refine (implFmt_is _ _ _ _ S HSS.out _ (HT.out.on HB7.out).here (HW.out.below HB7.out)).mono ?_
    rintro e w8 ⟨rfl, hb8⟩
    have z8 := keep_block hb8 z7 (lt_of_block z7)
    have HB8 : Hid (Below w.heap.size w w8) := HB7.out.trans (hb8.mono HB7.out.size)
    have hs8 := HB8.out.size
    clear hb8 z7 HB7
    by_cases hSs : S = s
    · have HE := Lib.hid (HV.out.trans (if_pos hSs))
      clear HV
      subst hSs
      go_wp2_with fail
      refine (implRowCmd_is (K : Int) (n1 : Int) (n2 : Int) 0 _).mono ?_
      rintro e w9 ⟨rfl, hb9⟩
      have z9 := keep_block hb9 z8 (lt_of_block z8)
      have HB9 : Hid (Below w.heap.size w w9) := HB8.out.trans (hb9.mono HB8.out.size)
      have hs9 := HB9.out.size
      clear hb9 z8 HB8
      obtain ⟨y0, y1, y2, y3⟩ := cells4 z9
      have f0 := thawed z9 0
      have f1 := thawed z9 1
      have f2 := thawed z9 2
      have f3 := thawed z9 3
      go_wp2
      (try simp only [Exit.inBlock, Exit.then])
      refine bodyPost_ret (v := .tuple #[.agg #[.int .i64 (K : Int), .int .i64 (n1 : Int), .int .i64 (n2 : Int), .int .i64 0], .bool true]) ?_ rfl ⟨by rw [HE.out], ?_⟩
      · rw [results_cell_tmp rfl]
        go_simp
      · repeat' (first | exact HB9.out | refine Below.drew ?_ | refine Below.setCell ?_ (by simp <;> omega) _)
    · have HE := Lib.hid (HV.out.trans (if_neg hSs))
      have te := ne_toList (fun h => hSs h.symm)
      clear HV hSs
      obtain ⟨y0, y1, y2, y3⟩ := cells4 z8
      have f0 := thawed z8 0
      have f1 := thawed z8 1
      have f2 := thawed z8 2
      have f3 := thawed z8 3
      go_wp2
      (try simp only [Exit.inBlock, Exit.then])
      refine bodyPost_ret (v := .tuple #[.agg #[.int .i64 0, .int .i64 0, .int .i64 0, .int .i64 0], .bool false]) ?_ rfl ⟨by rw [HE.out], ?_⟩
      · rw [results_cell_tmp rfl]
        go_simp
      · repeat' (first | exact HB8.out | refine Below.drew ?_ | refine Below.setCell ?_ (by simp <;> omega) _)
  · have eb : bP K n1 = n1 := if_pos (by omega)
    have er : rP K n2 = 0 := if_neg (by omega)
    have ec : cP K n2 = n2 := if_pos (by omega)
    rw [eb, er, ec] at HV
    have HV : Hid (parseV s = if fmtB (K : Int) (n1 : Int) 0 (n2 : Int) = s then .tuple #[.agg #[.int .i64 (K : Int), .int .i64 (n1 : Int), .int .i64 0, .int .i64 (n2 : Int)], .bool true] else .tuple #[.agg #[.int .i64 0, .int .i64 0, .int .i64 0, .int .i64 0], .bool false]) := HV.out
    have OV : Hid (opV (K : Int) (n1 : Int) (n2 : Int) (n2 : Int) = .iface 76 (.agg #[.int .i64 (K : Int), .int .i64 (n1 : Int), .int .i64 (n2 : Int)])) := by
      show _ = _
      simp only [opV]
      rw [if_neg (by omega)]
      rw [if_pos (by omega)]
    have NA := col_nil (K : Int) (n1 : Int) 0 (n2 : Int)
    have ME := col_meth (K : Int) (n1 : Int) 0 (n2 : Int)
    obtain ⟨S, hS⟩ : ∃ S, fmtB (K : Int) (n1 : Int) 0 (n2 : Int) = S := ⟨_, rfl⟩
    have HSS := Lib.hid hS
    rw [hS] at HV
    clear hk eb er ec hS
    refine (implOpOf_is _ _ _ _ _ OV.out _).mono ?_
    rintro e w6 ⟨rfl, hb6⟩
    have z6 := keep_block hb6 z5 (lt_of_block z5)
    have HB6 : Hid (Below w.heap.size w w6) := HB5.out.trans (hb6.mono HB5.out.size)
    have hs6 := HB6.out.size
    clear hb6 z5 HB5
    go_wp2_with fail
    refine (implColCmd_is (K : Int) (n1 : Int) 0 (n2 : Int) _).mono ?_
    rintro e w7 ⟨rfl, hb7⟩
    have z7 := keep_block hb7 z6 (lt_of_block z6)
    have HB7 : Hid (Below w.heap.size w w7) := HB6.out.trans (hb7.mono HB6.out.size)
    clear hb7 z6 HB6
    go_wp2_with fail
    refine (implFmt_is _ _ _ _ S HSS.out _ (HT.out.on HB7.out).here (HW.out.below HB7.out)).mono ?_
    rintro e w8 ⟨rfl, hb8⟩
    have z8 := keep_block hb8 z7 (lt_of_block z7)
    have HB8 : Hid (Below w.heap.size w w8) := HB7.out.trans (hb8.mono HB7.out.size)
    have hs8 := HB8.out.size
    clear hb8 z7 HB7
    by_cases hSs : S = s
    · have HE := Lib.hid (HV.out.trans (if_pos hSs))
      clear HV
      subst hSs
      go_wp2_with fail
      refine (implColCmd_is (K : Int) (n1 : Int) 0 (n2 : Int) _).mono ?_
      rintro e w9 ⟨rfl, hb9⟩
      have z9 := keep_block hb9 z8 (lt_of_block z8)
      have HB9 : Hid (Below w.heap.size w w9) := HB8.out.trans (hb9.mono HB8.out.size)
      have hs9 := HB9.out.size
      clear hb9 z8 HB8
      obtain ⟨y0, y1, y2, y3⟩ := cells4 z9
      have f0 := thawed z9 0
      have f1 := thawed z9 1
      have f2 := thawed z9 2
      have f3 := thawed z9 3
      go_wp2
      (try simp only [Exit.inBlock, Exit.then])
      refine bodyPost_ret (v := .tuple #[.agg #[.int .i64 (K : Int), .int .i64 (n1 : Int), .int .i64 0, .int .i64 (n2 : Int)], .bool true]) ?_ rfl ⟨by rw [HE.out], ?_⟩
      · rw [results_cell_tmp rfl]
        go_simp
      · repeat' (first | exact HB9.out | refine Below.drew ?_ | refine Below.setCell ?_ (by simp <;> omega) _)
    · have HE := Lib.hid (HV.out.trans (if_neg hSs))
      have te := ne_toList (fun h => hSs h.symm)
      clear HV hSs
      obtain ⟨y0, y1, y2, y3⟩ := cells4 z8
      have f0 := thawed z8 0
      have f1 := thawed z8 1
      have f2 := thawed z8 2
      have f3 := thawed z8 3
      go_wp2
      (try simp only [Exit.inBlock, Exit.then])
      refine bodyPost_ret (v := .tuple #[.agg #[.int .i64 0, .int .i64 0, .int .i64 0, .int .i64 0], .bool false]) ?_ rfl ⟨by rw [HE.out], ?_⟩
      · rw [results_cell_tmp rfl]
        go_simp
      · repeat' (first | exact HB8.out | refine Below.drew ?_ | refine Below.setCell ?_ (by simp <;> omega) _)
  · have eb : bP K n1 = n1 := if_pos (by omega)
    have er : rP K n2 = 0 := if_neg (by omega)
    have ec : cP K n2 = 0 := if_neg (by omega)
    rw [eb, er, ec] at HV
    have HV : Hid (parseV s = if fmtB (K : Int) (n1 : Int) 0 0 = s then .tuple #[.agg #[.int .i64 (K : Int), .int .i64 (n1 : Int), .int .i64 0, .int .i64 0], .bool true] else .tuple #[.agg #[.int .i64 0, .int .i64 0, .int .i64 0, .int .i64 0], .bool false]) := HV.out
    have OV : Hid (opV (K : Int) (n1 : Int) (n2 : Int) (n2 : Int) = .iface 78 (.agg #[.int .i64 (K : Int), .int .i64 (n1 : Int)])) := by
      show _ = _
      simp only [opV]
      rw [if_neg (by omega)]
      rw [if_neg (by omega)]
      rw [if_pos (by omega)]
    have NA := bank_nil (K : Int) (n1 : Int) 0 0
    have ME := bank_meth (K : Int) (n1 : Int) 0 0
    obtain ⟨S, hS⟩ : ∃ S, fmtB (K : Int) (n1 : Int) 0 0 = S := ⟨_, rfl⟩
    have HSS := Lib.hid hS
    rw [hS] at HV
    clear hk eb er ec hS
    refine (implOpOf_is _ _ _ _ _ OV.out _).mono ?_
    rintro e w6 ⟨rfl, hb6⟩
    have z6 := keep_block hb6 z5 (lt_of_block z5)
    have HB6 : Hid (Below w.heap.size w w6) := HB5.out.trans (hb6.mono HB5.out.size)
    have hs6 := HB6.out.size
    clear hb6 z5 HB5
    go_wp2_with fail
    refine (implBankCmd_is (K : Int) (n1 : Int) 0 0 _).mono ?_
    rintro e w7 ⟨rfl, hb7⟩
    have z7 := keep_block hb7 z6 (lt_of_block z6)
    have HB7 : Hid (Below w.heap.size w w7) := HB6.out.trans (hb7.mono HB6.out.size)
    clear hb7 z6 HB6
    go_wp2_with fail
    refine (implFmt_is _ _ _ _ S HSS.out _ (HT.out.on HB7.out).here (HW.out.below HB7.out)).mono ?_
    rintro e w8 ⟨rfl, hb8⟩
    have z8 := keep_block hb8 z7 (lt_of_block z7)
    have HB8 : Hid (Below w.heap.size w w8) := HB7.out.trans (hb8.mono HB7.out.size)
    have hs8 := HB8.out.size
    clear hb8 z7 HB7
    by_cases hSs : S = s
    · have HE := Lib.hid (HV.out.trans (if_pos hSs))
      clear HV
      subst hSs
      go_wp2_with fail
      refine (implBankCmd_is (K : Int) (n1 : Int) 0 0 _).mono ?_
      rintro e w9 ⟨rfl, hb9⟩
      have z9 := keep_block hb9 z8 (lt_of_block z8)
      have HB9 : Hid (Below w.heap.size w w9) := HB8.out.trans (hb9.mono HB8.out.size)
      have hs9 := HB9.out.size
      clear hb9 z8 HB8
      obtain ⟨y0, y1, y2, y3⟩ := cells4 z9
      have f0 := thawed z9 0
      have f1 := thawed z9 1
      have f2 := thawed z9 2
      have f3 := thawed z9 3
      go_wp2
      (try simp only [Exit.inBlock, Exit.then])
      refine bodyPost_ret (v := .tuple #[.agg #[.int .i64 (K : Int), .int .i64 (n1 : Int), .int .i64 0, .int .i64 0], .bool true]) ?_ rfl ⟨by rw [HE.out], ?_⟩
      · rw [results_cell_tmp rfl]
        go_simp
      · repeat' (first | exact HB9.out | refine Below.drew ?_ | refine Below.setCell ?_ (by simp <;> omega) _)
    · have HE := Lib.hid (HV.out.trans (if_neg hSs))
      have te := ne_toList (fun h => hSs h.symm)
      clear HV hSs
      obtain ⟨y0, y1, y2, y3⟩ := cells4 z8
      have f0 := thawed z8 0
      have f1 := thawed z8 1
      have f2 := thawed z8 2
      have f3 := thawed z8 3
      go_wp2
      (try simp only [Exit.inBlock, Exit.then])
      refine bodyPost_ret (v := .tuple #[.agg #[.int .i64 0, .int .i64 0, .int .i64 0, .int .i64 0], .bool false]) ?_ rfl ⟨by rw [HE.out], ?_⟩
      · rw [results_cell_tmp rfl]
        go_simp
      · repeat' (first | exact HB8.out | refine Below.drew ?_ | refine Below.setCell ?_ (by simp <;> omega) _)
  · have eb : bP K n1 = 0 := if_neg (by omega)
    have er : rP K n2 = 0 := if_neg (by omega)
    have ec : cP K n2 = 0 := if_neg (by omega)
    rw [eb, er, ec] at HV
    have HV : Hid (parseV s = if fmtB (K : Int) 0 0 0 = s then .tuple #[.agg #[.int .i64 (K : Int), .int .i64 0, .int .i64 0, .int .i64 0], .bool true] else .tuple #[.agg #[.int .i64 0, .int .i64 0, .int .i64 0, .int .i64 0], .bool false]) := HV.out
    have OV : Hid (opV (K : Int) (n1 : Int) (n2 : Int) (n2 : Int) = .iface 80 (.agg #[.int .i64 (K : Int)])) := by
      show _ = _
      simp only [opV]
      rw [if_neg (by omega)]
      rw [if_neg (by omega)]
      rw [if_neg (by omega)]
      rw [if_pos (by omega)]
    have NA := rank_nil (K : Int) 0 0 0
    have ME := rank_meth (K : Int) 0 0 0
    obtain ⟨S, hS⟩ : ∃ S, fmtB (K : Int) 0 0 0 = S := ⟨_, rfl⟩
    have HSS := Lib.hid hS
    rw [hS] at HV
    clear hk eb er ec hS
    refine (implOpOf_is _ _ _ _ _ OV.out _).mono ?_
    rintro e w6 ⟨rfl, hb6⟩
    have z6 := keep_block hb6 z5 (lt_of_block z5)
    have HB6 : Hid (Below w.heap.size w w6) := HB5.out.trans (hb6.mono HB5.out.size)
    have hs6 := HB6.out.size
    clear hb6 z5 HB5
    go_wp2_with fail
    refine (implRankCmd_is (K : Int) 0 0 0 _).mono ?_
    rintro e w7 ⟨rfl, hb7⟩
    have z7 := keep_block hb7 z6 (lt_of_block z6)
    have HB7 : Hid (Below w.heap.size w w7) := HB6.out.trans (hb7.mono HB6.out.size)
    clear hb7 z6 HB6
    go_wp2_with fail
    refine (implFmt_is _ _ _ _ S HSS.out _ (HT.out.on HB7.out).here (HW.out.below HB7.out)).mono ?_
    rintro e w8 ⟨rfl, hb8⟩
    have z8 := keep_block hb8 z7 (lt_of_block z7)
    have HB8 : Hid (Below w.heap.size w w8) := HB7.out.trans (hb8.mono HB7.out.size)
    have hs8 := HB8.out.size
    clear hb8 z7 HB7
    by_cases hSs : S = s
    · have HE := Lib.hid (HV.out.trans (if_pos hSs))
      clear HV
      subst hSs
      go_wp2_with fail
      refine (implRankCmd_is (K : Int) 0 0 0 _).mono ?_
      rintro e w9 ⟨rfl, hb9⟩
      have z9 := keep_block hb9 z8 (lt_of_block z8)
      have HB9 : Hid (Below w.heap.size w w9) := HB8.out.trans (hb9.mono HB8.out.size)
      have hs9 := HB9.out.size
      clear hb9 z8 HB8
      obtain ⟨y0, y1, y2, y3⟩ := cells4 z9
      have f0 := thawed z9 0
      have f1 := thawed z9 1
      have f2 := thawed z9 2
      have f3 := thawed z9 3
      go_wp2
      (try simp only [Exit.inBlock, Exit.then])
      refine bodyPost_ret (v := .tuple #[.agg #[.int .i64 (K : Int), .int .i64 0, .int .i64 0, .int .i64 0], .bool true]) ?_ rfl ⟨by rw [HE.out], ?_⟩
      · rw [results_cell_tmp rfl]
        go_simp
      · repeat' (first | exact HB9.out | refine Below.drew ?_ | refine Below.setCell ?_ (by simp <;> omega) _)
    · have HE := Lib.hid (HV.out.trans (if_neg hSs))
      have te := ne_toList (fun h => hSs h.symm)
      clear HV hSs
      obtain ⟨y0, y1, y2, y3⟩ := cells4 z8
      have f0 := thawed z8 0
      have f1 := thawed z8 1
      have f2 := thawed z8 2
      have f3 := thawed z8 3
      go_wp2
      (try simp only [Exit.inBlock, Exit.then])
      refine bodyPost_ret (v := .tuple #[.agg #[.int .i64 0, .int .i64 0, .int .i64 0, .int .i64 0], .bool false]) ?_ rfl ⟨by rw [HE.out], ?_⟩
      · rw [results_cell_tmp rfl]
        go_simp
      · repeat' (first | exact HB8.out | refine Below.drew ?_ | refine Below.setCell ?_ (by simp <;> omega) _)

end Go.Proofs.YtfhgbgcdkiiflaaDoor
