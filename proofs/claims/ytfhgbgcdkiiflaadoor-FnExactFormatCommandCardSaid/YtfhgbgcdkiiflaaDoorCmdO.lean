/-
  impl's kindOfWord and numberAt.
-/
import Derived.Test.YtfhgbgcdkiiflaaDoorCmdL
import Derived.Test.YtfhgbgcdkiiflaaDoorCmdN
import Derived.Test.YtfhgbgcdkiiflaaDoorMarkW
import Derived.Laws.Rows
namespace Go.Proofs.YtfhgbgcdkiiflaaDoor
open Go.RowKit

set_option linter.unusedVariables false

theorem words_ix0 (w : World) : (Instr.index 47 (.agg #[.string ⟨#[]⟩, .string ⟨#[97, 99, 116]⟩, .string ⟨#[114, 101, 97, 100]⟩, .string ⟨#[119, 114, 105, 116, 101]⟩, .string ⟨#[112, 114, 101]⟩, .string ⟨#[114, 101, 102]⟩, .string ⟨#[100, 111, 119, 110]⟩, .string ⟨#[117, 112]⟩, .string ⟨#[115, 108, 101, 101, 112]⟩, .string ⟨#[119, 97, 107, 101]⟩]) (.int .i64 0)).run Tryd.prog w = .ok (.string (wordB 0)) w := by kernel_rfl

theorem words_ix1 (w : World) : (Instr.index 47 (.agg #[.string ⟨#[]⟩, .string ⟨#[97, 99, 116]⟩, .string ⟨#[114, 101, 97, 100]⟩, .string ⟨#[119, 114, 105, 116, 101]⟩, .string ⟨#[112, 114, 101]⟩, .string ⟨#[114, 101, 102]⟩, .string ⟨#[100, 111, 119, 110]⟩, .string ⟨#[117, 112]⟩, .string ⟨#[115, 108, 101, 101, 112]⟩, .string ⟨#[119, 97, 107, 101]⟩]) (.int .i64 1)).run Tryd.prog w = .ok (.string (wordB 1)) w := by kernel_rfl

theorem words_ix2 (w : World) : (Instr.index 47 (.agg #[.string ⟨#[]⟩, .string ⟨#[97, 99, 116]⟩, .string ⟨#[114, 101, 97, 100]⟩, .string ⟨#[119, 114, 105, 116, 101]⟩, .string ⟨#[112, 114, 101]⟩, .string ⟨#[114, 101, 102]⟩, .string ⟨#[100, 111, 119, 110]⟩, .string ⟨#[117, 112]⟩, .string ⟨#[115, 108, 101, 101, 112]⟩, .string ⟨#[119, 97, 107, 101]⟩]) (.int .i64 2)).run Tryd.prog w = .ok (.string (wordB 2)) w := by kernel_rfl

theorem words_ix3 (w : World) : (Instr.index 47 (.agg #[.string ⟨#[]⟩, .string ⟨#[97, 99, 116]⟩, .string ⟨#[114, 101, 97, 100]⟩, .string ⟨#[119, 114, 105, 116, 101]⟩, .string ⟨#[112, 114, 101]⟩, .string ⟨#[114, 101, 102]⟩, .string ⟨#[100, 111, 119, 110]⟩, .string ⟨#[117, 112]⟩, .string ⟨#[115, 108, 101, 101, 112]⟩, .string ⟨#[119, 97, 107, 101]⟩]) (.int .i64 3)).run Tryd.prog w = .ok (.string (wordB 3)) w := by kernel_rfl

theorem words_ix4 (w : World) : (Instr.index 47 (.agg #[.string ⟨#[]⟩, .string ⟨#[97, 99, 116]⟩, .string ⟨#[114, 101, 97, 100]⟩, .string ⟨#[119, 114, 105, 116, 101]⟩, .string ⟨#[112, 114, 101]⟩, .string ⟨#[114, 101, 102]⟩, .string ⟨#[100, 111, 119, 110]⟩, .string ⟨#[117, 112]⟩, .string ⟨#[115, 108, 101, 101, 112]⟩, .string ⟨#[119, 97, 107, 101]⟩]) (.int .i64 4)).run Tryd.prog w = .ok (.string (wordB 4)) w := by kernel_rfl

theorem words_ix5 (w : World) : (Instr.index 47 (.agg #[.string ⟨#[]⟩, .string ⟨#[97, 99, 116]⟩, .string ⟨#[114, 101, 97, 100]⟩, .string ⟨#[119, 114, 105, 116, 101]⟩, .string ⟨#[112, 114, 101]⟩, .string ⟨#[114, 101, 102]⟩, .string ⟨#[100, 111, 119, 110]⟩, .string ⟨#[117, 112]⟩, .string ⟨#[115, 108, 101, 101, 112]⟩, .string ⟨#[119, 97, 107, 101]⟩]) (.int .i64 5)).run Tryd.prog w = .ok (.string (wordB 5)) w := by kernel_rfl

theorem words_ix6 (w : World) : (Instr.index 47 (.agg #[.string ⟨#[]⟩, .string ⟨#[97, 99, 116]⟩, .string ⟨#[114, 101, 97, 100]⟩, .string ⟨#[119, 114, 105, 116, 101]⟩, .string ⟨#[112, 114, 101]⟩, .string ⟨#[114, 101, 102]⟩, .string ⟨#[100, 111, 119, 110]⟩, .string ⟨#[117, 112]⟩, .string ⟨#[115, 108, 101, 101, 112]⟩, .string ⟨#[119, 97, 107, 101]⟩]) (.int .i64 6)).run Tryd.prog w = .ok (.string (wordB 6)) w := by kernel_rfl

theorem words_ix7 (w : World) : (Instr.index 47 (.agg #[.string ⟨#[]⟩, .string ⟨#[97, 99, 116]⟩, .string ⟨#[114, 101, 97, 100]⟩, .string ⟨#[119, 114, 105, 116, 101]⟩, .string ⟨#[112, 114, 101]⟩, .string ⟨#[114, 101, 102]⟩, .string ⟨#[100, 111, 119, 110]⟩, .string ⟨#[117, 112]⟩, .string ⟨#[115, 108, 101, 101, 112]⟩, .string ⟨#[119, 97, 107, 101]⟩]) (.int .i64 7)).run Tryd.prog w = .ok (.string (wordB 7)) w := by kernel_rfl

theorem words_ix8 (w : World) : (Instr.index 47 (.agg #[.string ⟨#[]⟩, .string ⟨#[97, 99, 116]⟩, .string ⟨#[114, 101, 97, 100]⟩, .string ⟨#[119, 114, 105, 116, 101]⟩, .string ⟨#[112, 114, 101]⟩, .string ⟨#[114, 101, 102]⟩, .string ⟨#[100, 111, 119, 110]⟩, .string ⟨#[117, 112]⟩, .string ⟨#[115, 108, 101, 101, 112]⟩, .string ⟨#[119, 97, 107, 101]⟩]) (.int .i64 8)).run Tryd.prog w = .ok (.string (wordB 8)) w := by kernel_rfl

theorem words_ix9 (w : World) : (Instr.index 47 (.agg #[.string ⟨#[]⟩, .string ⟨#[97, 99, 116]⟩, .string ⟨#[114, 101, 97, 100]⟩, .string ⟨#[119, 114, 105, 116, 101]⟩, .string ⟨#[112, 114, 101]⟩, .string ⟨#[114, 101, 102]⟩, .string ⟨#[100, 111, 119, 110]⟩, .string ⟨#[117, 112]⟩, .string ⟨#[115, 108, 101, 101, 112]⟩, .string ⟨#[119, 97, 107, 101]⟩]) (.int .i64 9)).run Tryd.prog w = .ok (.string (wordB 9)) w := by kernel_rfl

theorem words_index (j : Nat) (hj : j < 10) (w : World) : (Instr.index 47 (.agg #[.string ⟨#[]⟩, .string ⟨#[97, 99, 116]⟩, .string ⟨#[114, 101, 97, 100]⟩, .string ⟨#[119, 114, 105, 116, 101]⟩, .string ⟨#[112, 114, 101]⟩, .string ⟨#[114, 101, 102]⟩, .string ⟨#[100, 111, 119, 110]⟩, .string ⟨#[117, 112]⟩, .string ⟨#[115, 108, 101, 101, 112]⟩, .string ⟨#[119, 97, 107, 101]⟩]) (.int .i64 (j : Int))).run Tryd.prog w = .ok (.string (wordB j)) w := by
  have cls : j = 0 ∨ j = 1 ∨ j = 2 ∨ j = 3 ∨ j = 4 ∨ j = 5 ∨ j = 6 ∨ j = 7 ∨ j = 8 ∨ j = 9 := by omega
  rcases cls with rfl | rfl | rfl | rfl | rfl | rfl | rfl | rfl | rfl | rfl
  · exact words_ix0 w
  · exact words_ix1 w
  · exact words_ix2 w
  · exact words_ix3 w
  · exact words_ix4 w
  · exact words_ix5 w
  · exact words_ix6 w
  · exact words_ix7 w
  · exact words_ix8 w
  · exact words_ix9 w

set_option maxHeartbeats 2000000 in
set_option maxRecDepth 100000 in
theorem implKind_is (f : ByteArray) (K : Nat) (hK : kindTo f 9 = K) (w : World) (hw : WordsVar w) :
    Calls Tryd.prog 27 #[.string f] w fun e w' => e = .returned (.int .i64 (K : Int)) ∧ w = w' := by
  have HK := Lib.hid hK
  have c0 : w.cell? ⟨0, 0, none⟩ = some (.string ⟨#[]⟩) := hw 0 (by omega)
  have c1 : w.cell? ⟨0, 1, none⟩ = some (.string ⟨#[97, 99, 116]⟩) := hw 1 (by omega)
  have c2 : w.cell? ⟨0, 2, none⟩ = some (.string ⟨#[114, 101, 97, 100]⟩) := hw 2 (by omega)
  have c3 : w.cell? ⟨0, 3, none⟩ = some (.string ⟨#[119, 114, 105, 116, 101]⟩) := hw 3 (by omega)
  have c4 : w.cell? ⟨0, 4, none⟩ = some (.string ⟨#[112, 114, 101]⟩) := hw 4 (by omega)
  have c5 : w.cell? ⟨0, 5, none⟩ = some (.string ⟨#[114, 101, 102]⟩) := hw 5 (by omega)
  have c6 : w.cell? ⟨0, 6, none⟩ = some (.string ⟨#[100, 111, 119, 110]⟩) := hw 6 (by omega)
  have c7 : w.cell? ⟨0, 7, none⟩ = some (.string ⟨#[117, 112]⟩) := hw 7 (by omega)
  have c8 : w.cell? ⟨0, 8, none⟩ = some (.string ⟨#[115, 108, 101, 101, 112]⟩) := hw 8 (by omega)
  have c9 : w.cell? ⟨0, 9, none⟩ = some (.string ⟨#[119, 97, 107, 101]⟩) := hw 9 (by omega)
  have IX := Lib.hid words_index
  clear hK hw
  go_enter Tryd.func27, Tryd.ntmps27
  go_wp2_with fail
  go_loop [6] (fun i => ∃ j : Nat, j ≤ 10 ∧ i = .int .i64 (j : Int) ∧ ∀ m, m < j → wordB m ≠ f) (fun i => 11 - (intOf i).toNat)
  case atStart => exact ⟨0, by omega, rfl, fun m hm => absurd hm (Nat.not_lt_zero _)⟩
  case round =>
    obtain ⟨j, hj, rfl, hno⟩ := hrel
    have HNO := Lib.hid hno
    clear hno
    by_cases hlt : j < 10
    · have hI : (j : Int) < 10 := by omega
      have ix := IX.out j hlt
      obtain ⟨W, hW⟩ : ∃ W, wordB j = W := ⟨_, rfl⟩
      rw [hW] at ix
      have HW := Lib.hid hW
      clear hW
      by_cases he : f = W
      · have HE : Hid (K = j) := by show _ = _; rw [← HK.out, he, ← HW.out]; exact kind_hit j (by omega)
        subst he
        go_wp2
        go_ret
        exact ⟨ret_i (congrArg Int.ofNat HE.out.symm), rfl⟩
      · have tw := ne_toList (fun h => he h.symm)
        have HNO2 : Hid (∀ m, m < j + 1 → wordB m ≠ f) := fun m hm => by
          rcases Nat.lt_succ_iff_lt_or_eq.1 hm with h | h
          · exact HNO.out m h
          · subst h; rw [HW.out]; exact fun h => he h.symm
        clear he
        go_wp2
        go_round
        case rel => exact ⟨j + 1, by omega, by go_num, HNO2.out⟩
        case measure => simp [intOf]; omega
    · obtain rfl : j = 10 := by omega
      (try rw [show ((10 : Nat) : Int) = 10 from rfl])
      have HE : Hid (K = 0) := by show _ = _; rw [← HK.out]; exact kind_none HNO.out 9 (Nat.le_refl _)
      go_wp2
      go_ret
      exact ⟨ret_i (congrArg Int.ofNat HE.out.symm), rfl⟩

set_option maxHeartbeats 2000000 in
set_option maxRecDepth 100000 in
theorem implNumAt_is {B n c : Nat} {a : Option Addr} {F : List ByteArray} (i v : Nat) (hv : NumAt F i v) (hn : F.length = n) (hn24 : n ≤ 24) (hi : i ≤ 24) (hsz : ∀ f ∈ F, f.size ≤ 600) (w : World) (hF : OwnS B (.slice a n c) F w) (ht : Tab10 w) (he : ErrS w) (hr : ErrR w) :
    Calls Tryd.prog 28 #[.slice a n c, .int .i64 (i : Int)] w (Gives (.int .i64 (v : Int)) w) := by
  rcases hv with ⟨hl, h0⟩ | ⟨hl, hp⟩ | ⟨hl, hp, h0⟩
  · have tI : decide (n ≤ i) = true := decide_eq_true (by omega)
    subst h0
    clear hl hn hn24 hi hsz hF ht he hr
    go_enter Tryd.func28, Tryd.ntmps28
    go_wp2
    go_ret
    exact ⟨rfl, Below.refl _ _⟩
  · have tI : decide (n ≤ i) = false := decide_eq_false (by omega)
    obtain ⟨g, rfl, hc, _⟩ := hF.at hl
    rw [show F[i] = F.getD i ⟨#[]⟩ by rw [List.getD_eq_getElem?_getD, List.getElem?_eq_getElem hl]; rfl] at hc
    have HP := Lib.hid hp
    generalize F.getD i ⟨#[]⟩ = f at hc HP
    have HT := Lib.hid ht
    have hin : i < n := by omega
    clear hsz hF ht he hr hp hn hl
    go_enter Tryd.func28, Tryd.ntmps28
    go_wp2_with fail
    refine (implParse_yes f v HP.out _ HT.out).mono ?_
    rintro e w2 ⟨rfl, hb2⟩
    have HB2 := Lib.hid hb2
    clear hb2 hc
    go_wp2
    go_ret
    exact ⟨rfl, HB2.out⟩
  · have tI : decide (n ≤ i) = false := decide_eq_false (by omega)
    obtain ⟨g, rfl, hc, _⟩ := hF.at hl
    have hs6 := hsz _ (List.getElem_mem hl)
    rw [show F[i] = F.getD i ⟨#[]⟩ by rw [List.getD_eq_getElem?_getD, List.getElem?_eq_getElem hl]; rfl] at hc hs6
    have HP := Lib.hid hp
    clear hp
    generalize F.getD i ⟨#[]⟩ = f at hc HP hs6
    have HT := Lib.hid ht
    have HS := Lib.hid he
    have HR := Lib.hid hr
    have hin : i < n := by omega
    subst h0
    clear hsz hF ht he hr hn hl
    go_enter Tryd.func28, Tryd.ntmps28
    go_wp2_with fail
    refine (implParse_no f (by omega) HP.out _ HT.out HS.out HR.out).mono ?_
    rintro e w2 ⟨rfl, hb2⟩
    have HB2 := Lib.hid hb2
    clear hb2 hc
    go_wp2
    go_ret
    exact ⟨rfl, HB2.out⟩

end Go.Proofs.YtfhgbgcdkiiflaaDoor
