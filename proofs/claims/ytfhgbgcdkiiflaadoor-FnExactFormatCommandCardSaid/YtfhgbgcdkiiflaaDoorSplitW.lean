/-
  SplitFields of both packages.
-/
import Derived.Test.YtfhgbgcdkiiflaaDoorSplitM
import Derived.Lib.Strings
import Derived.WalkSpells
import Derived.Deep.LoopGhost
namespace Go.Proofs.YtfhgbgcdkiiflaaDoor
open Go.RowKit Go.PlainAid

set_option linter.unusedVariables false

theorem infoS : (Tryd.prog.info? 9).map (fun i => (i.zero, i.size, i.bytes)) = some (some (.string ⟨#[]⟩), 1, 16) := by kernel_rfl

/-- A row of the call's own that holds the texts l. -/
def OwnS (B : Nat) (v : Value) (l : List ByteArray) (w : World) : Prop := w.ownsRow B 9 1 v l.length (l.map Value.string)

theorem ownS_more {B : Nat} {v : Value} {l : List ByteArray} {x : ByteArray} {w : World} (h : w.ownsRow B 9 1 v (l.length + 1) (l.map Value.string ++ [.string x])) : OwnS B v (l ++ [x]) w := by
  unfold OwnS
  rw [show (l ++ [x]).length = l.length + 1 by simp, show (l ++ [x]).map Value.string = l.map Value.string ++ [.string x] by simp]
  exact h

/-- What appendField leaves. -/
def Appd (B : Nat) (l : List ByteArray) (w : World) (e : Ending) (w' : World) : Prop := ∃ a cap, e = .returned (.slice a l.length cap) ∧ OwnS B (.slice a l.length cap) l w' ∧ Below B w w'

theorem OwnS.shape {B : Nat} {v : Value} {l : List ByteArray} {w : World} (h : OwnS B v l w) : ∃ a cap, v = .slice a l.length cap := by
  rcases h.2 with ⟨rfl, h0⟩ | ⟨g, cap, cur, rfl, _⟩
  · exact ⟨none, 0, by rw [h0]⟩
  · exact ⟨_, cap, rfl⟩

theorem Appd.mk {B : Nat} {v : Value} {l : List ByteArray} {w w' : World} (h : OwnS B v l w') (hb : Below B w w') : Appd B l w (.returned v) w' := by
  obtain ⟨a, cap, rfl⟩ := h.shape
  exact ⟨a, cap, rfl, h, hb⟩

theorem appendField_no {B : Nat} {v : Value} {l : List ByteArray} {w : World} (h : OwnS B v l w) (f : ByteArray) (hf : f.size = 0) :
    Calls Tryd.prog 42 #[v, .string f] w (Appd B l w) := by
  obtain rfl : f = ByteArray.empty := by cases f; simp_all
  go_enter Tryd.func42, Tryd.ntmps42
  go_wp2
  go_ret
  exact Appd.mk h (Below.refl _ _)

set_option maxRecDepth 100000 in
theorem appendField_yes {B : Nat} {v : Value} {l : List ByteArray} {w : World} (h : OwnS B v l w) (hB : B ≤ w.heap.size) (hl : l.length ≤ 1000000) (f : ByteArray) (hf : 0 < f.size) :
    Calls Tryd.prog 42 #[v, .string f] w (Appd B (l ++ [f]) w) := by
  obtain ⟨i0, hi, hz0, hz1, hz2⟩ := info_parts infoS
  have hne : f.toList.isEmpty = false := by
    rw [Lib.toList_data]
    cases hd : f.data.toList with
    | nil =>
      exfalso
      have h2 := Lib.size_eq f
      rw [hd, List.length_nil] at h2; omega
    | cons a r => rfl
  go_enter Tryd.func42, Tryd.ntmps42
  go_wp2_with (at_builtin; refine wpList_append_own _ rfl _ _ 54 rfl B 9 i0 (.string ⟨#[]⟩) 1 16 Tryd.underlying54 hi hz0 hz1 hz2 rfl (by decide) _ _ _ rfl (World.ownsRow.alloc h _) ⟨w.heap.size, 0, none⟩ 1 1 [.string f] rfl rfl (cell_one_new _ _ _) (by intro u hu; simp at hu; subst hu; rfl) (by unfold maxLen; omega) (by omega) (by rw [World.size_alloc]; omega) ?_)
  intro v' w2 hown2 hgrow _
  have R := ownS_more hown2
  have hb2 : Below B w w2 := ((Below.refl _ _).alloc hB _).grown hgrow (by rw [World.size_alloc]; omega) (fun k hk => (World.ownsRow.lt h k hk).1)
  clear hown2 hgrow
  go_wp2
  go_ret
  exact Appd.mk R hb2

/-- What SplitFields of either package leaves. -/
def Splt (s : ByteArray) (w : World) (e : Ending) (w' : World) : Prop :=
  ∃ a cap, e = .returned (.tuple #[.slice a (splitF s).length cap, .bool (splitOk s)]) ∧ OwnS w.heap.size (.slice a (splitF s).length cap) (splitF s) w' ∧ Below w.heap.size w w'

theorem Splt.mk {s : ByteArray} {w w' : World} {v : Value} {b : Bool} (hb : splitOk s = b) (h : OwnS w.heap.size v (splitF s) w') (hw : Below w.heap.size w w') : Splt s w (.returned (.tuple #[v, .bool b])) w' := by
  subst hb
  obtain ⟨a, cap, rfl⟩ := h.shape
  exact ⟨a, cap, rfl, h, hw⟩

theorem ownS_nil {B : Nat} {s : ByteArray} {w : World} (h : splitOk s = false) : OwnS B (.slice none 0 0) (splitF s) w := by
  rw [splitF_no h]; exact World.ownsRow_nil _ _ _ _

theorem ownS_made {B : Nat} {s : ByteArray} {w : World} (h : splitOk s = false) (hB : B ≤ w.heap.size) : OwnS B (.slice (some ⟨w.heap.size, 0, none⟩) 0 0) (splitF s) (w.alloc (.cells #[] 9)) := by
  rw [splitF_no h]; exact World.ownsRow_made w #[] 0 hB (by decide) rfl

set_option maxHeartbeats 2000000 in
set_option maxRecDepth 100000 in
theorem implSplit_good (s : ByteArray) (w : World) (hs : s.size ≤ 600) (hg : ∀ i, i < s.size → okB (bt s i)) :
    Calls Tryd.prog 26 #[.string s] w (Splt s w) := by
  have HG := Lib.hid hg; clear hg
  have hs' : (s.size : Int) ≤ 600 := by omega
  have hbt := get_bt s
  go_enter Tryd.func26, Tryd.ntmps26
  go_wp2_with fail
  go_step3
  go_wp2_with fail
  go_step3
  go_wp2_with fail
  go_loopw [4, 5, 6, 15] (fun f b v i wr => ∃ k : Nat, ∃ F : List ByteArray, ∃ q : Nat, k ≤ s.size ∧ Hid (stp s k = (F, q)) ∧ i = .int .i64 k ∧ v = .bool true ∧ b = .int .i64 q ∧ OwnS w.heap.size f F wr ∧ Below w.heap.size w wr) (fun _ _ _ i _ => s.size - (intOf i).toNat)
  case atStart => exact ⟨0, [], 0, Nat.zero_le _, rfl, rfl, rfl, rfl, World.ownsRow_made w #[] 0 (Nat.le_refl _) (by decide) rfl, (Below.refl _ _).alloc (Nat.le_refl _) _⟩
  case round =>
    obtain ⟨k, F, q, hk, HS, rfl, rfl, rfl, hown, hbk⟩ := hrel
    have hle := stp_le s k
    rw [HS.out] at hle
    obtain ⟨hqk, hFk⟩ := hle
    simp only at hqk hFk
    by_cases hlt : k < s.size
    · obtain ⟨g0, g1⟩ := HG.out k hlt
      by_cases h32 : bt s k = 32
      · have HT := Lib.hid (stp_hit h32)
        have g2 : bt s k ≤ 32 := by omega
        clear h32 g1
        by_cases hq : q < k
        · go_wp2_with fail
          refine (appendField_yes hown (by have := hbk.size; omega) (by omega) (s.extract q k) (by simp; omega)).mono ?_
          rintro e w2 ⟨a', c', rfl, hown2, hb2⟩
          rw [show (F ++ [s.extract q k]).length = F.length + 1 by simp] at hown2
          have R : OwnS w.heap.size (.slice a' (F.length + 1) c') (stp s (k + 1)).1 w2 := by rw [HT.out, HS.out]; simp only; rw [fieldOf_yes hq]; exact hown2
          have HT2 : Hid (stp s (k + 1) = ((stp s (k + 1)).1, k + 1)) := by show stp s (k + 1) = _; rw [HT.out]
          have hb3 := hbk.trans hb2
          clear hown hown2 hb2 hbk
          go_wp2
          go_roundw
          case rel => exact ⟨k + 1, _, k + 1, by omega, HT2, by go_num, rfl, by go_num, R, hb3⟩
          case measure => simp [intOf]; omega
        · go_wp2_with fail
          refine (appendField_no hown (s.extract q k) (by simp; omega)).mono ?_
          rintro e w2 ⟨a', c', rfl, hown2, hb2⟩
          have R : OwnS w.heap.size (.slice a' F.length c') (stp s (k + 1)).1 w2 := by rw [HT.out, HS.out]; simp only; rw [fieldOf_no hq, List.append_nil]; exact hown2
          have HT2 : Hid (stp s (k + 1) = ((stp s (k + 1)).1, k + 1)) := by show stp s (k + 1) = _; rw [HT.out]
          have hb3 := hbk.trans hb2
          clear hown hown2 hb2 hbk
          go_wp2
          go_roundw
          case rel => exact ⟨k + 1, _, k + 1, by omega, HT2, by go_num, rfl, by go_num, R, hb3⟩
          case measure => simp [intOf]; omega
      · have HT := Lib.hid (stp_miss h32)
        have g2 : 32 < bt s k := by omega
        clear h32 g0
        go_wp2_with fail
        go_roundw
        case rel => exact ⟨k + 1, F, q, by omega, by show _ = _; rw [HT.out]; exact HS.out, by go_num, rfl, rfl, hown, hbk⟩
        case measure => simp [intOf]; omega
    · obtain rfl : k = s.size := by omega
      have HF : Hid (fieldsOf s = F ++ fieldOf s q s.size) := by show fieldsOf s = _; unfold fieldsOf; rw [HS.out]
      by_cases hq : q < s.size
      · go_wp2_with fail
        refine (appendField_yes hown (by have := hbk.size; omega) (by omega) (s.extract q s.size) (by simp; omega)).mono ?_
        rintro e w2 ⟨a', c', rfl, hown2, hb2⟩
        have e1 : F ++ [s.extract q s.size] = fieldsOf s := by rw [HF.out, fieldOf_yes hq]
        rw [e1] at hown2 ⊢
        have hb3 := hbk.trans hb2
        clear hown hb2 hbk e1
        have HO := Lib.hid hown2; clear hown2
        have hfl := fieldsOf_length s
        by_cases h24 : (24 : Int) < ((fieldsOf s).length : Int)
        · have H24 : Hid (24 < (fieldsOf s).length) := by show 24 < _; omega
          go_wp2_with fail
          rw [Exit.noGoto_ret]
          go_ret2
          exact Splt.mk (splitOk_many H24.out) (ownS_nil (splitOk_many H24.out)) hb3
        · have H24 : Hid ((fieldsOf s).length ≤ 24) := by show _ ≤ 24; omega
          go_wp2_with fail
          rw [Exit.noGoto_ret]
          go_ret2
          have ok := splitOk_yes hs HG.out H24.out
          exact Splt.mk ok (by rw [splitF_yes ok]; exact HO.out) hb3
      · go_wp2_with fail
        refine (appendField_no hown (s.extract q s.size) (by simp; omega)).mono ?_
        rintro e w2 ⟨a', c', rfl, hown2, hb2⟩
        have e1 : F = fieldsOf s := by rw [HF.out, fieldOf_no hq, List.append_nil]
        rw [e1] at hown2 ⊢
        have hb3 := hbk.trans hb2
        clear hown hb2 hbk e1
        have HO := Lib.hid hown2; clear hown2
        have hfl := fieldsOf_length s
        by_cases h24 : (24 : Int) < ((fieldsOf s).length : Int)
        · have H24 : Hid (24 < (fieldsOf s).length) := by show 24 < _; omega
          go_wp2_with fail
          rw [Exit.noGoto_ret]
          go_ret2
          exact Splt.mk (splitOk_many H24.out) (ownS_nil (splitOk_many H24.out)) hb3
        · have H24 : Hid ((fieldsOf s).length ≤ 24) := by show _ ≤ 24; omega
          go_wp2_with fail
          rw [Exit.noGoto_ret]
          go_ret2
          have ok := splitOk_yes hs HG.out H24.out
          exact Splt.mk ok (by rw [splitF_yes ok]; exact HO.out) hb3

theorem implSplit_long (s : ByteArray) (w : World) (hs : 600 < (s.size : Int)) (hm : (s.size : Int) ≤ 9223372036854775807) :
    Calls Tryd.prog 26 #[.string s] w (Splt s w) := by
  have H := Lib.hid (splitOk_long (s := s) (by omega))
  go_enter Tryd.func26, Tryd.ntmps26
  go_wp2_with fail
  go_step3
  go_wp2_with fail
  try rw [Exit.noGoto_ret]
  go_ret2
  exact Splt.mk H.out (ownS_nil H.out) (Below.refl _ _)

set_option maxHeartbeats 2000000 in
set_option maxRecDepth 100000 in
theorem implSplit_bad (s : ByteArray) (w : World) (hs : s.size ≤ 600) (m : Nat) (hm : m < s.size) (hb : ¬ okB (bt s m)) (hg : ∀ i, i < m → okB (bt s i)) :
    Calls Tryd.prog 26 #[.string s] w (Splt s w) := by
  have HG := Lib.hid hg; clear hg
  have HX := Lib.hid hb; clear hb
  have H := Lib.hid (splitOk_bad hm HX.out)
  have hs' : (s.size : Int) ≤ 600 := by omega
  have hbt := get_bt s
  go_enter Tryd.func26, Tryd.ntmps26
  go_wp2_with fail
  go_step3
  go_wp2_with fail
  go_step3
  go_wp2_with fail
  go_loopw [4, 5, 6, 15] (fun f b v i wr => ∃ k : Nat, ∃ F : List ByteArray, ∃ q : Nat, k ≤ m ∧ Hid (stp s k = (F, q)) ∧ i = .int .i64 k ∧ v = .bool true ∧ b = .int .i64 q ∧ OwnS w.heap.size f F wr ∧ Below w.heap.size w wr) (fun _ _ _ i _ => s.size - (intOf i).toNat)
  case atStart => exact ⟨0, [], 0, Nat.zero_le _, rfl, rfl, rfl, rfl, World.ownsRow_made w #[] 0 (Nat.le_refl _) (by decide) rfl, (Below.refl _ _).alloc (Nat.le_refl _) _⟩
  case round =>
    obtain ⟨k, F, q, hk, HS, rfl, rfl, rfl, hown, hbk⟩ := hrel
    have hle := stp_le s k
    rw [HS.out] at hle
    obtain ⟨hqk, hFk⟩ := hle
    simp only at hqk hFk
    have hlts : k < s.size := by omega
    by_cases hlt : k < m
    · obtain ⟨g0, g1⟩ := HG.out k hlt
      by_cases h32 : bt s k = 32
      · have HT := Lib.hid (stp_hit h32)
        have g2 : bt s k ≤ 32 := by omega
        clear h32 g1
        by_cases hq : q < k
        · go_wp2_with fail
          refine (appendField_yes hown (by have := hbk.size; omega) (by omega) (s.extract q k) (by simp; omega)).mono ?_
          rintro e w2 ⟨a', c', rfl, hown2, hb2⟩
          rw [show (F ++ [s.extract q k]).length = F.length + 1 by simp] at hown2
          have R : OwnS w.heap.size (.slice a' (F.length + 1) c') (stp s (k + 1)).1 w2 := by rw [HT.out, HS.out]; simp only; rw [fieldOf_yes hq]; exact hown2
          have HT2 : Hid (stp s (k + 1) = ((stp s (k + 1)).1, k + 1)) := by show stp s (k + 1) = _; rw [HT.out]
          have hb3 := hbk.trans hb2
          clear hown hown2 hb2 hbk
          go_wp2
          go_roundw
          case rel => exact ⟨k + 1, _, k + 1, by omega, HT2, by go_num, rfl, by go_num, R, hb3⟩
          case measure => simp [intOf]; omega
        · go_wp2_with fail
          refine (appendField_no hown (s.extract q k) (by simp; omega)).mono ?_
          rintro e w2 ⟨a', c', rfl, hown2, hb2⟩
          have R : OwnS w.heap.size (.slice a' F.length c') (stp s (k + 1)).1 w2 := by rw [HT.out, HS.out]; simp only; rw [fieldOf_no hq, List.append_nil]; exact hown2
          have HT2 : Hid (stp s (k + 1) = ((stp s (k + 1)).1, k + 1)) := by show stp s (k + 1) = _; rw [HT.out]
          have hb3 := hbk.trans hb2
          clear hown hown2 hb2 hbk
          go_wp2
          go_roundw
          case rel => exact ⟨k + 1, _, k + 1, by omega, HT2, by go_num, rfl, by go_num, R, hb3⟩
          case measure => simp [intOf]; omega
      · have HT := Lib.hid (stp_miss h32)
        have g2 : 32 < bt s k := by omega
        clear h32 g0
        go_wp2_with fail
        go_roundw
        case rel => exact ⟨k + 1, F, q, by omega, by show _ = _; rw [HT.out]; exact HS.out, by go_num, rfl, rfl, hown, hbk⟩
        case measure => simp [intOf]; omega
    · obtain rfl : k = m := by omega
      have hx : bt s k < 32 ∨ 126 < bt s k := by have := HX.out; unfold okB at this; omega
      rcases hx with hx | hx
      · go_wp2_with fail
        try rw [Exit.noGoto_ret]
        go_ret2
        exact Splt.mk H.out (ownS_nil H.out) hbk
      · have hy : ¬ bt s k < 32 := by omega
        go_wp2_with fail
        try rw [Exit.noGoto_ret]
        go_ret2
        exact Splt.mk H.out (ownS_nil H.out) hbk

theorem specSplit_long (s : ByteArray) (w : World) (hs : 600 < (s.size : Int)) (hm : (s.size : Int) ≤ 9223372036854775807) :
    Calls Tryd.prog 37 #[.string s] w (Splt s w) := by
  have H := Lib.hid (splitOk_long (s := s) (by omega))
  go_enter Tryd.func37, Tryd.ntmps37
  go_wp2_with fail
  go_ret2
  exact Splt.mk H.out (ownS_made H.out (Nat.le_refl _)) ((Below.refl _ _).alloc (Nat.le_refl _) _)

set_option maxHeartbeats 4000000 in
set_option maxRecDepth 100000 in
theorem specSplit_good (s : ByteArray) (w : World) (hs : s.size ≤ 600) (hg : ∀ i, i < s.size → okB (bt s i)) :
    Calls Tryd.prog 37 #[.string s] w (Splt s w) := by
  obtain ⟨i0, hi, hz0, hz1, hz2⟩ := info_parts infoS
  have HG := Lib.hid hg; clear hg
  have hs' : (s.size : Int) ≤ 600 := by omega
  have hbt := get_bt s
  go_enter Tryd.func37, Tryd.ntmps37
  go_wp2_with fail
  go_loopw [4, 5, 6] (fun f b i wr => ∃ k : Nat, ∃ F : List ByteArray, ∃ q a c, k ≤ s.size + 1 ∧ Hid (k ≤ s.size → stp s k = (F, q)) ∧ Hid (k = s.size + 1 → F = fieldsOf s) ∧ q ≤ k ∧ F.length ≤ k ∧ i = .int .i64 k ∧ b = .int .i64 q ∧ f = .slice a F.length c ∧ OwnS w.heap.size (.slice a F.length c) F wr ∧ Below w.heap.size w wr) (fun _ _ i _ => s.size + 1 - (intOf i).toNat)
  case atStart => exact ⟨0, [], 0, _, _, Nat.zero_le _, fun _ => rfl, fun h => by omega, Nat.le_refl _, Nat.le_refl _, rfl, rfl, rfl, World.ownsRow_made w #[] 0 (Nat.le_refl _) (by decide) rfl, (Below.refl _ _).alloc (Nat.le_refl _) _⟩
  case round =>
    obtain ⟨k, F, q, a, c, hk, HS, HE, hqk, hFk, rfl, rfl, rfl, hown, hbk⟩ := hrel
    by_cases hlt : k < s.size
    · have HS1 := Lib.hid (HS.out (by omega))
      obtain ⟨g0, g1⟩ := HG.out k hlt
      by_cases h32 : bt s k = 32
      · have HT := Lib.hid (stp_hit h32)
        have hbs := hbk.size
        have g2 : bt s k ≤ 32 := by omega
        clear h32 g1
        by_cases hq : q < k
        · go_wp2_with (at_builtin; refine wpList_append_own _ rfl _ _ 54 rfl w.heap.size 9 i0 (.string ⟨#[]⟩) 1 16 Tryd.underlying54 hi hz0 hz1 hz2 rfl (by decide) _ _ _ rfl (World.ownsRow.alloc hown _) ⟨wr.heap.size, 0, none⟩ 1 1 [.string (s.extract q k)] rfl rfl (cell_one_new _ _ _) (by intro u hu; simp at hu; subst hu; rfl) (by unfold maxLen; omega) (by omega) (by rw [World.size_alloc]; omega) ?_)
          intro v' w2 hown2 hgrow _
          have hb2 : Below w.heap.size w w2 := (hbk.alloc hbs _).grown hgrow (by rw [World.size_alloc]; omega) (fun k hk => (World.ownsRow.lt hown k hk).1)
          obtain ⟨a', c', hv'⟩ := OwnS.shape (ownS_more hown2)
          have R := ownS_more hown2
          have e2 : (F ++ [s.extract q k]).length = F.length + 1 := by simp
          rw [hv', e2] at R
          rw [hv', e2]
          have HR := Lib.hid R
          have HT2 : Hid (stp s (k + 1) = (F ++ [s.extract q k], k + 1)) := by show stp s (k + 1) = _; rw [HT.out, HS1.out]; simp only; rw [fieldOf_yes hq]
          clear hown2 hgrow hown hbk R hv' e2
          go_wp2_with fail
          go_roundw
          case rel => exact ⟨k + 1, F ++ [s.extract q k], k + 1, a', c', by omega, fun _ => HT2.out, fun h => by omega, Nat.le_refl _, by simp; omega, by go_num, by go_num, by simp, by rw [show (F ++ [s.extract q k]).length = F.length + 1 by simp]; exact HR.out, hb2⟩
          case measure => simp [intOf]; omega
        · have HT2 : Hid (stp s (k + 1) = (F, k + 1)) := by show stp s (k + 1) = _; rw [HT.out, HS1.out]; simp only; rw [fieldOf_no hq, List.append_nil]
          go_wp2_with fail
          go_roundw
          case rel => exact ⟨k + 1, F, k + 1, a, c, by omega, fun _ => HT2.out, fun h => by omega, Nat.le_refl _, by omega, by go_num, by go_num, rfl, hown, hbk⟩
          case measure => simp [intOf]; omega
      · have HT := Lib.hid (stp_miss h32)
        have g2 : 32 < bt s k := by omega
        clear h32 g0
        go_wp2_with fail
        go_roundw
        case rel => exact ⟨k + 1, F, q, a, c, by omega, fun _ => by rw [HT.out]; exact HS1.out, fun h => by omega, by omega, by omega, by go_num, rfl, rfl, hown, hbk⟩
        case measure => simp [intOf]; omega
    · by_cases hle : k ≤ s.size
      · obtain rfl : k = s.size := by omega
        have hbs := hbk.size
        have HF : Hid (fieldsOf s = F ++ fieldOf s q s.size) := by show fieldsOf s = _; unfold fieldsOf; rw [HS.out (Nat.le_refl _)]
        by_cases hq : q < s.size
        · go_wp2_with (at_builtin; refine wpList_append_own _ rfl _ _ 54 rfl w.heap.size 9 i0 (.string ⟨#[]⟩) 1 16 Tryd.underlying54 hi hz0 hz1 hz2 rfl (by decide) _ _ _ rfl (World.ownsRow.alloc hown _) ⟨wr.heap.size, 0, none⟩ 1 1 [.string (s.extract q s.size)] rfl rfl (cell_one_new _ _ _) (by intro u hu; simp at hu; subst hu; rfl) (by unfold maxLen; omega) (by omega) (by rw [World.size_alloc]; omega) ?_)
          intro v' w2 hown2 hgrow _
          have hb2 : Below w.heap.size w w2 := (hbk.alloc hbs _).grown hgrow (by rw [World.size_alloc]; omega) (fun k hk => (World.ownsRow.lt hown k hk).1)
          obtain ⟨a', c', hv'⟩ := OwnS.shape (ownS_more hown2)
          have R := ownS_more hown2
          have e2 : (F ++ [s.extract q s.size]).length = F.length + 1 := by simp
          rw [hv', e2] at R
          rw [hv', e2]
          have HR := Lib.hid R
          have HE2 : Hid (F ++ [s.extract q s.size] = fieldsOf s) := by show _ = fieldsOf s; rw [HF.out, fieldOf_yes hq]
          clear hown2 hgrow hown hbk R hv' e2
          go_wp2_with fail
          go_roundw
          case rel => exact ⟨s.size + 1, F ++ [s.extract q s.size], s.size + 1, a', c', by omega, fun h => by omega, fun _ => HE2.out, Nat.le_refl _, by simp; omega, by go_num, by go_num, by simp, by rw [show (F ++ [s.extract q s.size]).length = F.length + 1 by simp]; exact HR.out, hb2⟩
          case measure => simp [intOf]
        · have HE2 : Hid (F = fieldsOf s) := by show _ = fieldsOf s; rw [HF.out, fieldOf_no hq, List.append_nil]
          go_wp2_with fail
          go_roundw
          case rel => exact ⟨s.size + 1, F, s.size + 1, a, c, by omega, fun h => by omega, fun _ => HE2.out, Nat.le_refl _, by omega, by go_num, by go_num, rfl, hown, hbk⟩
          case measure => simp [intOf]
      · have HE2 := Lib.hid (HE.out (by omega))
        have HO := Lib.hid hown
        have hge : s.size < k := by omega
        clear hle hown
        by_cases h24 : (24 : Int) < (F.length : Int)
        · have H24 : Hid (24 < (fieldsOf s).length) := by show 24 < _; rw [← HE2.out]; omega
          go_wp2_with fail
          go_ret2
          exact Splt.mk (splitOk_many H24.out) (ownS_made (splitOk_many H24.out) hbk.size) (hbk.alloc hbk.size _)
        · have H24 : Hid ((fieldsOf s).length ≤ 24) := by show _ ≤ 24; rw [← HE2.out]; omega
          go_wp2_with fail
          go_ret2
          have ok := splitOk_yes hs HG.out H24.out
          exact Splt.mk ok (by rw [splitF_yes ok, ← HE2.out]; exact HO.out) hbk

set_option maxHeartbeats 4000000 in
set_option maxRecDepth 100000 in
theorem specSplit_bad (s : ByteArray) (w : World) (hs : s.size ≤ 600) (m : Nat) (hm : m < s.size) (hb : ¬ okB (bt s m)) (hg : ∀ i, i < m → okB (bt s i)) :
    Calls Tryd.prog 37 #[.string s] w (Splt s w) := by
  obtain ⟨i0, hi, hz0, hz1, hz2⟩ := info_parts infoS
  have HG := Lib.hid hg; clear hg
  have HX := Lib.hid hb; clear hb
  have H := Lib.hid (splitOk_bad hm HX.out)
  have hs' : (s.size : Int) ≤ 600 := by omega
  have hbt := get_bt s
  go_enter Tryd.func37, Tryd.ntmps37
  go_wp2_with fail
  go_loopw [4, 5, 6] (fun f b i wr => ∃ k : Nat, ∃ F : List ByteArray, ∃ q a c, k ≤ m ∧ Hid (stp s k = (F, q)) ∧ q ≤ k ∧ F.length ≤ k ∧ i = .int .i64 k ∧ b = .int .i64 q ∧ f = .slice a F.length c ∧ OwnS w.heap.size (.slice a F.length c) F wr ∧ Below w.heap.size w wr) (fun _ _ i _ => s.size + 1 - (intOf i).toNat)
  case atStart => exact ⟨0, [], 0, _, _, Nat.zero_le _, rfl, Nat.le_refl _, Nat.le_refl _, rfl, rfl, rfl, World.ownsRow_made w #[] 0 (Nat.le_refl _) (by decide) rfl, (Below.refl _ _).alloc (Nat.le_refl _) _⟩
  case round =>
    obtain ⟨k, F, q, a, c, hk, HS1, hqk, hFk, rfl, rfl, rfl, hown, hbk⟩ := hrel
    have hlts : k < s.size := by omega
    by_cases hlt : k < m
    · obtain ⟨g0, g1⟩ := HG.out k hlt
      by_cases h32 : bt s k = 32
      · have HT := Lib.hid (stp_hit h32)
        have hbs := hbk.size
        have g2 : bt s k ≤ 32 := by omega
        clear h32 g1
        by_cases hq : q < k
        · go_wp2_with (at_builtin; refine wpList_append_own _ rfl _ _ 54 rfl w.heap.size 9 i0 (.string ⟨#[]⟩) 1 16 Tryd.underlying54 hi hz0 hz1 hz2 rfl (by decide) _ _ _ rfl (World.ownsRow.alloc hown _) ⟨wr.heap.size, 0, none⟩ 1 1 [.string (s.extract q k)] rfl rfl (cell_one_new _ _ _) (by intro u hu; simp at hu; subst hu; rfl) (by unfold maxLen; omega) (by omega) (by rw [World.size_alloc]; omega) ?_)
          intro v' w2 hown2 hgrow _
          have hb2 : Below w.heap.size w w2 := (hbk.alloc hbs _).grown hgrow (by rw [World.size_alloc]; omega) (fun k hk => (World.ownsRow.lt hown k hk).1)
          obtain ⟨a', c', hv'⟩ := OwnS.shape (ownS_more hown2)
          have R := ownS_more hown2
          have e2 : (F ++ [s.extract q k]).length = F.length + 1 := by simp
          rw [hv', e2] at R
          rw [hv', e2]
          have HR := Lib.hid R
          have HT2 : Hid (stp s (k + 1) = (F ++ [s.extract q k], k + 1)) := by show stp s (k + 1) = _; rw [HT.out, HS1.out]; simp only; rw [fieldOf_yes hq]
          clear hown2 hgrow hown hbk R hv' e2
          go_wp2_with fail
          go_roundw
          case rel => exact ⟨k + 1, F ++ [s.extract q k], k + 1, a', c', by omega, HT2.out, Nat.le_refl _, by simp; omega, by go_num, by go_num, by simp, by rw [show (F ++ [s.extract q k]).length = F.length + 1 by simp]; exact HR.out, hb2⟩
          case measure => simp [intOf]; omega
        · have HT2 : Hid (stp s (k + 1) = (F, k + 1)) := by show stp s (k + 1) = _; rw [HT.out, HS1.out]; simp only; rw [fieldOf_no hq, List.append_nil]
          go_wp2_with fail
          go_roundw
          case rel => exact ⟨k + 1, F, k + 1, a, c, by omega, HT2.out, Nat.le_refl _, by omega, by go_num, by go_num, rfl, hown, hbk⟩
          case measure => simp [intOf]; omega
      · have HT := Lib.hid (stp_miss h32)
        have g2 : 32 < bt s k := by omega
        clear h32 g0
        go_wp2_with fail
        go_roundw
        case rel => exact ⟨k + 1, F, q, a, c, by omega, by show _ = _; rw [HT.out]; exact HS1.out, by omega, by omega, by go_num, rfl, rfl, hown, hbk⟩
        case measure => simp [intOf]; omega
    · obtain rfl : k = m := by omega
      have hx : bt s k < 32 ∨ 126 < bt s k := by have := HX.out; unfold okB at this; omega
      rcases hx with hx | hx
      · go_wp2_with fail
        go_ret2
        exact Splt.mk H.out (ownS_made H.out hbk.size) (hbk.alloc hbk.size _)
      · have hy : ¬ bt s k < 32 := by omega
        go_wp2_with fail
        go_ret2
        exact Splt.mk H.out (ownS_made H.out hbk.size) (hbk.alloc hbk.size _)

theorem implSplit_any (s : ByteArray) (w : World) (hm : s.size ≤ maxLen) : Calls Tryd.prog 26 #[.string s] w (Splt s w) := by
  unfold maxLen at hm
  by_cases h : s.size ≤ 600
  · cases ho : okTo s s.size
    · obtain ⟨m, h1, h2, h3⟩ := okTo_bad ho
      exact implSplit_bad s w h m h1 h2 h3
    · exact implSplit_good s w h (okTo_all ho)
  · exact implSplit_long s w (by omega) (by omega)

theorem specSplit_any (s : ByteArray) (w : World) (hm : s.size ≤ maxLen) : Calls Tryd.prog 37 #[.string s] w (Splt s w) := by
  unfold maxLen at hm
  by_cases h : s.size ≤ 600
  · cases ho : okTo s s.size
    · obtain ⟨m, h1, h2, h3⟩ := okTo_bad ho
      exact specSplit_bad s w h m h1 h2 h3
    · exact specSplit_good s w h (okTo_all ho)
  · exact specSplit_long s w (by omega) (by omega)

end Go.Proofs.YtfhgbgcdkiiflaaDoor
