/-
  Texts of one proof, merged: CmdS, TxtM.
-/
import Derived.Test.YtihhcnckoeaihaaDoorQE2
import Derived.Test.YtihhcnckoeaihaaDoorQE11
import Derived.Test.YtihhcnckoeaihaaDoorQE12
import Derived.Test.YtihhcnckoeaihaaDoorQE14
import Derived.Test.YtihhcnckoeaihaaDoorQE15
namespace Go.Proofs.YtihhcnckoeaihaaDoor
open Go.RowKit

set_option linter.unusedVariables false

/-- The words of all kinds lie in block g. -/
def WordsAt (w : World) (g : Nat) : Prop := ∀ k, k ≤ 9 → w.cell? ⟨g, k, none⟩ = some (.string ⟨(wordL k).toArray⟩)

theorem specWords_is (w : World) :
    Calls Tryd.prog 34 #[] w fun e w' => ∃ g, e = .returned (.slice (some ⟨g, 0, none⟩) 10 10) ∧ WordsAt w' g ∧ Below w.heap.size w w' := by
  go_enter Tryd.func34, Tryd.ntmps34
  go_wp2
  go_ret
  refine ⟨_, rfl, fun k hk => ?_, (Below.refl _ _).alloc (Nat.le_refl _) _⟩
  have h := heap_alloc_new w (.cells #[.string ⟨#[]⟩, .string ⟨#[97, 99, 116]⟩, .string ⟨#[114, 101, 97, 100]⟩, .string ⟨#[119, 114, 105, 116, 101]⟩, .string ⟨#[112, 114, 101]⟩, .string ⟨#[114, 101, 102]⟩, .string ⟨#[100, 111, 119, 110]⟩, .string ⟨#[117, 112]⟩, .string ⟨#[115, 108, 101, 101, 112]⟩, .string ⟨#[119, 97, 107, 101]⟩] 9)
  have cls : k = 0 ∨ k = 1 ∨ k = 2 ∨ k = 3 ∨ k = 4 ∨ k = 5 ∨ k = 6 ∨ k = 7 ∨ k = 8 ∨ k = 9 := by omega
  rcases cls with rfl | rfl | rfl | rfl | rfl | rfl | rfl | rfl | rfl | rfl <;> (unfold World.cell?; simp only [h]; simp [wordL])

theorem WordsAt.below {w w' : World} {g : Nat} (h : WordsAt w g) (hb : Below w.heap.size w w') : WordsAt w' g := fun k hk => (hb.cell (World.block_lt_of_cell? _ _ (h k hk))).trans (h k hk)

/-- A command as text. -/
def fmtB (k b r c : Int) : ByteArray := if CmOk k b r c then ⟨(txtL k.toNat b.toNat r.toNat c.toNat).toArray⟩ else ⟨#[]⟩

theorem cat_lists (x y : List UInt8) : (⟨x.toArray⟩ : ByteArray) ++ (⟨y.toArray⟩ : ByteArray) = ⟨(x ++ y).toArray⟩ := by
  apply ByteArray.ext
  rw [ByteArray.data_append]
  simp

theorem word_size : ∀ k, k ≤ 9 → (⟨(wordL k).toArray⟩ : ByteArray).size ≤ 5 := by
  intro k hk
  have cls : k = 0 ∨ k = 1 ∨ k = 2 ∨ k = 3 ∨ k = 4 ∨ k = 5 ∨ k = 6 ∨ k = 7 ∨ k = 8 ∨ k = 9 := by omega
  rcases cls with rfl | rfl | rfl | rfl | rfl | rfl | rfl | rfl | rfl | rfl <;> decide

theorem fig_size (x : Nat) : (⟨(figL x).toArray⟩ : ByteArray).size ≤ 2 := by
  show (figL x).toArray.size ≤ 2
  unfold figL
  split <;> simp

theorem itoa_fig {x : Int} (h : 0 ≤ x ∧ x ≤ 15) : Lib.itoa x = figL x.toNat := by
  unfold Lib.itoa
  rw [if_neg (by omega), fig_dec (by omega)]

set_option maxHeartbeats 4000000 in
theorem specFmt_is (k b r c : Int) (s : ByteArray) (hs : fmtB k b r c = s) (w : World) :
    Calls Tryd.prog 20 #[.agg #[.int .i64 k, .int .i64 b, .int .i64 r, .int .i64 c]] w (Gives (.string s) w) := by
  obtain ⟨w1, hw1⟩ : ∃ u, w.alloc (.cells #[.int .i64 k, .int .i64 b, .int .i64 r, .int .i64 c] 35) = u := ⟨_, rfl⟩
  have HB1 : Hid (Below w.heap.size w w1) := by subst hw1; exact (Below.refl _ _).alloc (Nat.le_refl _) _
  have p1 : w1.heap[w.heap.size]? = some (.cells #[.int .i64 k, .int .i64 b, .int .i64 r, .int .i64 c] 35) := by subst hw1; exact heap_alloc_new _ _
  obtain ⟨c0, c1, c2, c3⟩ := cells4 p1
  by_cases h : CmOk k b r c
  case neg =>
    have K := Lib.hid (decide_eq_false h)
    have HE : Hid (s = ⟨#[]⟩) := by show _ = _; rw [← hs]; exact if_neg h
    clear hs h
    go_enter Tryd.func20, Tryd.ntmps20
    go_wp2_with fail
    refine (specForm_is _ _ _ _ _ K.out _).mono ?_
    rintro e w2 ⟨rfl, hb2⟩
    have HB2 : Hid (Below w.heap.size w w2) := HB1.out.trans (hb2.mono HB1.out.size)
    clear hb2
    go_wp2
    go_ret
    exact ⟨by rw [HE.out]; rfl, HB2.out⟩
  have K := Lib.hid (decide_eq_true h)
  have HF : Hid (⟨(txtL k.toNat b.toNat r.toNat c.toNat).toArray⟩ = s) := by show _ = _; rw [← hs]; exact (if_pos h).symm
  obtain ⟨⟨hk0, hk9⟩, hb, hr, hc, _⟩ := h
  obtain ⟨k, rfl⟩ := Int.eq_ofNat_of_zero_le (show 0 ≤ k by omega)
  rw [Int.toNat_natCast] at HF
  clear hs
  go_enter Tryd.func20, Tryd.ntmps20
  go_wp2_with fail
  refine (specForm_is _ _ _ _ _ K.out _).mono ?_
  rintro e w2 ⟨rfl, hb2⟩
  have p2 := keep_block hb2 p1 (lt_of_block p1)
  have HB2 : Hid (Below w.heap.size w w2) := HB1.out.trans (hb2.mono HB1.out.size)
  clear hb2 p1 HB1 hw1 c0 c1 c2 c3
  go_wp2_with fail
  refine wp_region_float (A := ?A) [.t, .h, .h, .t, .t, .e] (by kernel_rfl) (by kernel_rfl) (fun u => u.heap[w.heap.size]? = some (.cells #[.int .i64 (k : Int), .int .i64 b, .int .i64 r, .int .i64 c] 35)) ?hC ?hH ?hT
  case hC => exact p2
  case hH =>
    intro u hu
    obtain ⟨c0, c1, c2, c3⟩ := cells4 hu
    have s0 := fun q : Same u => q.cell c0
    simp only [headsOf]
    repeat (go_big_quiet_step (fail))
    refine wpQuiet_nil ?_
    exact rfl
  case hT =>
  simp only [chainT]
  have pd : w2.drew.heap[w.heap.size]? = some (.cells #[.int .i64 (k : Int), .int .i64 b, .int .i64 r, .int .i64 c] 35) := p2
  have HBd : Hid (Below w.heap.size w w2.drew) := HB2.out.drew
  clear p2 HB2
  go_wp2_with fail
  refine (specWords_is _).mono ?_
  rintro e w4 ⟨g, rfl, hwd, hb4⟩
  have p4 := keep_block hb4 pd (lt_of_block pd)
  have HB4 : Hid (Below w.heap.size w w4) := HBd.out.trans (hb4.mono HBd.out.size)
  have hword := hwd k (by omega)
  clear hb4 pd HBd hwd
  go_wp2_with fail
  refine stepQ_normal ⟨p4, ?_⟩
  have hk10 : k < 10 := by omega
  go_wp2_with fail
  refine stepQ_normal ⟨p4, ?_⟩
  go_wp2_with fail
  refine stepQ_normal ⟨p4, ?_⟩
  go_wp2_with fail
  refine stepQ_normal ⟨trivial, ?_⟩
  obtain ⟨c0, c1, c2, c3⟩ := cells4 p4
  clear hk10 hword
  go_wp2_with fail
  clear c0 c1 c2 c3
  have cls : (k : Int) = 1 ∨ ((k : Int) = 2 ∨ (k : Int) = 3) ∨ ((k : Int) = 4 ∨ (k : Int) = 5) ∨ ¬ (1 ≤ (k : Int) ∧ (k : Int) ≤ 5) := by omega
  rcases cls with hk | hk | hk | hk
  · have US := Lib.hid (fun w => specUses_is (k : Int) true true false (decide_eq_true (by omega)) (decide_eq_true (by omega)) (decide_eq_false (by omega)) w)
    have HT : Hid (txtL k b.toNat r.toNat c.toNat = wordL k ++ (32 :: figL b.toNat) ++ (32 :: figL r.toNat)) := by
      show _ = _
      unfold txtL
      rw [show decide (k ≤ 5) = true from decide_eq_true (by omega), show decide (k = 1) = true from decide_eq_true (by omega)]
      rw [show (decide (k = 2) || decide (k = 3)) = false by simp; omega]
      simp [fldL]
    clear hk
    refine (US.out _).mono ?_
    rintro e w' ⟨rfl, rfl⟩
    obtain ⟨c0, c1, c2, c3⟩ := cells4 p4
    obtain ⟨S0, hS0⟩ : ∃ S, (⟨(wordL k).toArray⟩ : ByteArray) = S := ⟨_, rfl⟩
    have HS0 := Lib.hid hS0
    have z0 : S0.size ≤ 5 := by rw [← hS0]; exact word_size k (by omega)
    have m0 : ¬ 9223372036854775807 < S0.size + 1 := by omega
    (try simp only [hS0])
    clear hS0
    go_wp2_with fail
    refine (specFormat_any b (by omega) (by omega) _).mono ?_
    rintro e w5 ⟨rfl, hb5⟩
    have p5 := keep_block hb5 p4 (lt_of_block p4)
    have HB5 : Hid (Below w.heap.size w w5) := HB4.out.trans (hb5.mono HB4.out.size)
    clear hb5 p4 HB4 c0 c1 c2 c3
    obtain ⟨c0, c1, c2, c3⟩ := cells4 p5
    obtain ⟨D0, hD0⟩ : ∃ D, (⟨(Lib.itoa b).toArray⟩ : ByteArray) = D := ⟨_, rfl⟩
    have HD0 := Lib.hid hD0
    have y0 : D0.size ≤ 2 := by rw [← hD0, itoa_fig (x := b) (by omega)]; exact fig_size b.toNat
    have q0 : ¬ 9223372036854775807 < S0.size + 1 + D0.size := by omega
    have r0 : ¬ 9223372036854775807 < S0.size + 1 + D0.size + 1 := by omega
    (try simp only [hD0])
    clear hD0
    go_wp2_with fail
    refine (specFormat_any r (by omega) (by omega) _).mono ?_
    rintro e w6 ⟨rfl, hb6⟩
    have p6 := keep_block hb6 p5 (lt_of_block p5)
    have HB6 : Hid (Below w.heap.size w w6) := HB5.out.trans (hb6.mono HB5.out.size)
    clear hb6 p5 HB5 c0 c1 c2 c3
    obtain ⟨c0, c1, c2, c3⟩ := cells4 p6
    obtain ⟨D1, hD1⟩ : ∃ D, (⟨(Lib.itoa r).toArray⟩ : ByteArray) = D := ⟨_, rfl⟩
    have HD1 := Lib.hid hD1
    have y1 : D1.size ≤ 2 := by rw [← hD1, itoa_fig (x := r) (by omega)]; exact fig_size r.toNat
    have q1 : ¬ 9223372036854775807 < S0.size + 1 + D0.size + 1 + D1.size := by omega
    have r1 : ¬ 9223372036854775807 < S0.size + 1 + D0.size + 1 + D1.size + 1 := by omega
    (try simp only [hD1])
    clear hD1
    go_wp2_with fail
    go_ret
    refine ⟨?_, HB6.out⟩
    rw [← HF.out, HT.out]
    show Ending.returned (Value.string _) = _
    rw [← HS0.out, ← HD0.out, itoa_fig (x := b) (by omega), ← HD1.out, itoa_fig (x := r) (by omega)]
    all_goals congr 2
    all_goals first | rfl | (have e32 : (⟨#[32]⟩ : ByteArray) = ⟨[32].toArray⟩ := rfl; rw [e32]; simp only [cat_lists, List.append_assoc, List.cons_append, List.nil_append])
  · have US := Lib.hid (fun w => specUses_is (k : Int) true false true (decide_eq_true (by omega)) (decide_eq_false (by omega)) (decide_eq_true (by omega)) w)
    have HT : Hid (txtL k b.toNat r.toNat c.toNat = wordL k ++ (32 :: figL b.toNat) ++ (32 :: figL c.toNat)) := by
      show _ = _
      unfold txtL
      rw [show decide (k ≤ 5) = true from decide_eq_true (by omega), show decide (k = 1) = false from decide_eq_false (by omega)]
      rw [show (decide (k = 2) || decide (k = 3)) = true by simp; omega]
      simp [fldL]
    clear hk
    refine (US.out _).mono ?_
    rintro e w' ⟨rfl, rfl⟩
    obtain ⟨c0, c1, c2, c3⟩ := cells4 p4
    obtain ⟨S0, hS0⟩ : ∃ S, (⟨(wordL k).toArray⟩ : ByteArray) = S := ⟨_, rfl⟩
    have HS0 := Lib.hid hS0
    have z0 : S0.size ≤ 5 := by rw [← hS0]; exact word_size k (by omega)
    have m0 : ¬ 9223372036854775807 < S0.size + 1 := by omega
    (try simp only [hS0])
    clear hS0
    go_wp2_with fail
    refine (specFormat_any b (by omega) (by omega) _).mono ?_
    rintro e w5 ⟨rfl, hb5⟩
    have p5 := keep_block hb5 p4 (lt_of_block p4)
    have HB5 : Hid (Below w.heap.size w w5) := HB4.out.trans (hb5.mono HB4.out.size)
    clear hb5 p4 HB4 c0 c1 c2 c3
    obtain ⟨c0, c1, c2, c3⟩ := cells4 p5
    obtain ⟨D0, hD0⟩ : ∃ D, (⟨(Lib.itoa b).toArray⟩ : ByteArray) = D := ⟨_, rfl⟩
    have HD0 := Lib.hid hD0
    have y0 : D0.size ≤ 2 := by rw [← hD0, itoa_fig (x := b) (by omega)]; exact fig_size b.toNat
    have q0 : ¬ 9223372036854775807 < S0.size + 1 + D0.size := by omega
    have r0 : ¬ 9223372036854775807 < S0.size + 1 + D0.size + 1 := by omega
    (try simp only [hD0])
    clear hD0
    go_wp2_with fail
    refine (specFormat_any c (by omega) (by omega) _).mono ?_
    rintro e w6 ⟨rfl, hb6⟩
    have p6 := keep_block hb6 p5 (lt_of_block p5)
    have HB6 : Hid (Below w.heap.size w w6) := HB5.out.trans (hb6.mono HB5.out.size)
    clear hb6 p5 HB5 c0 c1 c2 c3
    obtain ⟨c0, c1, c2, c3⟩ := cells4 p6
    obtain ⟨D1, hD1⟩ : ∃ D, (⟨(Lib.itoa c).toArray⟩ : ByteArray) = D := ⟨_, rfl⟩
    have HD1 := Lib.hid hD1
    have y1 : D1.size ≤ 2 := by rw [← hD1, itoa_fig (x := c) (by omega)]; exact fig_size c.toNat
    have q1 : ¬ 9223372036854775807 < S0.size + 1 + D0.size + 1 + D1.size := by omega
    have r1 : ¬ 9223372036854775807 < S0.size + 1 + D0.size + 1 + D1.size + 1 := by omega
    (try simp only [hD1])
    clear hD1
    go_wp2_with fail
    go_ret
    refine ⟨?_, HB6.out⟩
    rw [← HF.out, HT.out]
    show Ending.returned (Value.string _) = _
    rw [← HS0.out, ← HD0.out, itoa_fig (x := b) (by omega), ← HD1.out, itoa_fig (x := c) (by omega)]
    all_goals congr 2
    all_goals first | rfl | (have e32 : (⟨#[32]⟩ : ByteArray) = ⟨[32].toArray⟩ := rfl; rw [e32]; simp only [cat_lists, List.append_assoc, List.cons_append, List.nil_append])
  · have US := Lib.hid (fun w => specUses_is (k : Int) true false false (decide_eq_true (by omega)) (decide_eq_false (by omega)) (decide_eq_false (by omega)) w)
    have HT : Hid (txtL k b.toNat r.toNat c.toNat = wordL k ++ (32 :: figL b.toNat)) := by
      show _ = _
      unfold txtL
      rw [show decide (k ≤ 5) = true from decide_eq_true (by omega), show decide (k = 1) = false from decide_eq_false (by omega)]
      rw [show (decide (k = 2) || decide (k = 3)) = false by simp; omega]
      simp [fldL]
    clear hk
    refine (US.out _).mono ?_
    rintro e w' ⟨rfl, rfl⟩
    obtain ⟨c0, c1, c2, c3⟩ := cells4 p4
    obtain ⟨S0, hS0⟩ : ∃ S, (⟨(wordL k).toArray⟩ : ByteArray) = S := ⟨_, rfl⟩
    have HS0 := Lib.hid hS0
    have z0 : S0.size ≤ 5 := by rw [← hS0]; exact word_size k (by omega)
    have m0 : ¬ 9223372036854775807 < S0.size + 1 := by omega
    (try simp only [hS0])
    clear hS0
    go_wp2_with fail
    refine (specFormat_any b (by omega) (by omega) _).mono ?_
    rintro e w5 ⟨rfl, hb5⟩
    have p5 := keep_block hb5 p4 (lt_of_block p4)
    have HB5 : Hid (Below w.heap.size w w5) := HB4.out.trans (hb5.mono HB4.out.size)
    clear hb5 p4 HB4 c0 c1 c2 c3
    obtain ⟨c0, c1, c2, c3⟩ := cells4 p5
    obtain ⟨D0, hD0⟩ : ∃ D, (⟨(Lib.itoa b).toArray⟩ : ByteArray) = D := ⟨_, rfl⟩
    have HD0 := Lib.hid hD0
    have y0 : D0.size ≤ 2 := by rw [← hD0, itoa_fig (x := b) (by omega)]; exact fig_size b.toNat
    have q0 : ¬ 9223372036854775807 < S0.size + 1 + D0.size := by omega
    have r0 : ¬ 9223372036854775807 < S0.size + 1 + D0.size + 1 := by omega
    (try simp only [hD0])
    clear hD0
    go_wp2_with fail
    go_ret
    refine ⟨?_, HB5.out⟩
    rw [← HF.out, HT.out]
    show Ending.returned (Value.string _) = _
    rw [← HS0.out, ← HD0.out, itoa_fig (x := b) (by omega)]
    all_goals congr 2
    all_goals first | rfl | (have e32 : (⟨#[32]⟩ : ByteArray) = ⟨[32].toArray⟩ := rfl; rw [e32]; simp only [cat_lists, List.append_assoc, List.cons_append, List.nil_append])
  · have US := Lib.hid (fun w => specUses_is (k : Int) false false false (decide_eq_false (by omega)) (decide_eq_false (by omega)) (decide_eq_false (by omega)) w)
    have HT : Hid (txtL k b.toNat r.toNat c.toNat = wordL k) := by
      show _ = _
      unfold txtL
      rw [show decide (k ≤ 5) = false from decide_eq_false (by omega), show decide (k = 1) = false from decide_eq_false (by omega)]
      rw [show (decide (k = 2) || decide (k = 3)) = false by simp; omega]
      simp [fldL]
    clear hk
    refine (US.out _).mono ?_
    rintro e w' ⟨rfl, rfl⟩
    obtain ⟨c0, c1, c2, c3⟩ := cells4 p4
    obtain ⟨S0, hS0⟩ : ∃ S, (⟨(wordL k).toArray⟩ : ByteArray) = S := ⟨_, rfl⟩
    have HS0 := Lib.hid hS0
    have z0 : S0.size ≤ 5 := by rw [← hS0]; exact word_size k (by omega)
    have m0 : ¬ 9223372036854775807 < S0.size + 1 := by omega
    (try simp only [hS0])
    clear hS0
    go_wp2_with fail
    go_ret
    refine ⟨?_, HB4.out⟩
    rw [← HF.out, HT.out]
    show Ending.returned (Value.string _) = _
    rw [← HS0.out]
    all_goals congr 2
    all_goals first | rfl | (have e32 : (⟨#[32]⟩ : ByteArray) = ⟨[32].toArray⟩ := rfl; rw [e32]; simp only [cat_lists, List.append_assoc, List.cons_append, List.nil_append])

end Go.Proofs.YtihhcnckoeaihaaDoor

namespace Go.Proofs.YtihhcnckoeaihaaDoor
open Go.RowKit

set_option linter.unusedVariables false

/-- Times that an int holds. -/
def EvT (e : Ev) : Prop := -9223372036854775808 ≤ e.t ∧ e.t ≤ 9223372036854775807

/-- The line of an event. -/
def lineE (e : Ev) : List UInt8 := Lib.itoa e.t ++ 32 :: ((fmtB e.k e.x e.y e.z).data.toList ++ [10])

def textT (L : List Ev) : List UInt8 := L.flatMap lineE

theorem textT_snoc (P : List Ev) (e : Ev) : textT (P ++ [e]) = textT P ++ lineE e := by simp [textT]

theorem word_len (k : Nat) (hk : k ≤ 9) : (wordL k).length ≤ 5 ∧ ∀ x ∈ wordL k, x ≠ 10 := by
  have cls : k = 0 ∨ k = 1 ∨ k = 2 ∨ k = 3 ∨ k = 4 ∨ k = 5 ∨ k = 6 ∨ k = 7 ∨ k = 8 ∨ k = 9 := by omega
  rcases cls with rfl | rfl | rfl | rfl | rfl | rfl | rfl | rfl | rfl | rfl <;> decide

theorem fld_len (u : Bool) (x : Nat) (hx : x < 16) : (fldL u x).length ≤ 3 ∧ ∀ y ∈ fldL u x, y ≠ 10 := by
  have cls : x = 0 ∨ x = 1 ∨ x = 2 ∨ x = 3 ∨ x = 4 ∨ x = 5 ∨ x = 6 ∨ x = 7 ∨ x = 8 ∨ x = 9 ∨ x = 10 ∨ x = 11 ∨ x = 12 ∨ x = 13 ∨ x = 14 ∨ x = 15 := by omega
  cases u
  · exact ⟨by simp [fldL], fun y hy => by simp [fldL] at hy⟩
  · rcases cls with rfl | rfl | rfl | rfl | rfl | rfl | rfl | rfl | rfl | rfl | rfl | rfl | rfl | rfl | rfl | rfl <;> decide

theorem fmt_len (k b r c : Int) : (fmtB k b r c).data.toList.length ≤ 14 ∧ ∀ y ∈ (fmtB k b r c).data.toList, y ≠ 10 := by
  unfold fmtB
  split
  · rename_i h
    obtain ⟨hk, hb, hr, hc, _⟩ := h
    have h1 := word_len k.toNat (by omega)
    have h2 := fld_len (decide (k.toNat ≤ 5)) b.toNat (by omega)
    have h3 := fld_len (decide (k.toNat = 1)) r.toNat (by omega)
    have h4 := fld_len (decide (k.toNat = 2) || decide (k.toNat = 3)) c.toNat (by omega)
    show (txtL k.toNat b.toNat r.toNat c.toNat).length ≤ 14 ∧ ∀ y ∈ txtL k.toNat b.toNat r.toNat c.toNat, y ≠ 10
    unfold txtL
    refine ⟨?_, fun y hy => ?_⟩
    · simp only [List.length_append]
      omega
    · simp only [List.mem_append] at hy
      rcases hy with ((hy | hy) | hy) | hy
      · exact h1.2 y hy
      · exact h2.2 y hy
      · exact h3.2 y hy
      · exact h4.2 y hy
  · exact ⟨by show 0 ≤ 14; omega, fun y hy => by cases hy⟩

theorem itoa_no (n : Int) : ∀ y ∈ Lib.itoa n, y ≠ 10 := by
  have hd : ∀ (u : Nat), ∀ y ∈ Lib.decDigits u, y ≠ 10 := fun u y hy h => by
    have := dec_digs u y hy
    unfold DigB at this
    rw [h] at this
    exact absurd this (by decide)
  intro y hy
  unfold Lib.itoa at hy
  split at hy
  · rcases List.mem_cons.1 hy with rfl | hy
    · decide
    · exact hd _ y hy
  · exact hd _ y hy

theorem line_len {e : Ev} (h : EvT e) : (lineE e).length ≤ 40 := by
  have h1 := Lib.itoa_length_le e.t h.1 h.2
  have h2 := (fmt_len e.k e.x e.y e.z).1
  unfold lineE
  simp only [List.length_append, List.length_cons, List.length_nil]
  omega

theorem text_len {L : List Ev} (h : ∀ e ∈ L, EvT e) : (textT L).length ≤ 40 * L.length := by
  induction L with
  | nil => show (0 : Nat) ≤ _; omega
  | cons e L ih =>
    have h1 := line_len (h e List.mem_cons_self)
    have h2 := ih (fun d hd => h d (List.mem_cons_of_mem _ hd))
    show (lineE e ++ textT L).length ≤ _
    rw [List.length_append, List.length_cons]
    omega

/-- How many lines. -/
theorem line_count (e : Ev) : (lineE e).countP (· == 10) = 1 := by
  have h1 : (Lib.itoa e.t).countP (· == 10) = 0 := by
    rw [List.countP_eq_zero]
    intro y hy h
    exact itoa_no e.t y hy (by simpa using h)
  have h2 : (fmtB e.k e.x e.y e.z).data.toList.countP (· == 10) = 0 := by
    rw [List.countP_eq_zero]
    intro y hy h
    exact (fmt_len e.k e.x e.y e.z).2 y hy (by simpa using h)
  unfold lineE
  rw [List.countP_append, List.countP_cons, List.countP_append, h1, h2]
  rfl

theorem text_count (L : List Ev) : (textT L).countP (· == 10) = L.length := by
  induction L with
  | nil => rfl
  | cons e L ih =>
    show (lineE e ++ textT L).countP (· == 10) = _
    rw [List.countP_append, line_count, ih, List.length_cons, Nat.add_comm]

/-- The events of a slice that came in, and that their times are ints. -/
theorem events_inT {w : World} {a : Option Addr} {len cap : Nat} (h : Sh.Fits w (.row (.and (.num .i64) (.and (.and (.num .i64) (.and (.num .i64) (.and (.num .i64) (.and (.num .i64) .fin)))) .fin))) [.slice a len cap]) :
    ∃ l : List Ev, l.length = len ∧ evK.Row w a l ∧ len ≤ maxLen ∧ len ≤ cap ∧ (a = none → cap = 0) ∧ ∀ e ∈ l, EvT e := by
  let evT : Kd {e : Ev // EvT e} := ⟨fun e => e.1.vs, ⟨ev0, by unfold EvT ev0; decide⟩, 5, fun _ => rfl, by decide⟩
  obtain ⟨l, h1, h2, h3, h4, h5⟩ := evT.row_in (w := w) (a := a) (len := len) (cap := cap) (e := (.and (.num .i64) (.and (.and (.num .i64) (.and (.num .i64) (.and (.num .i64) (.and (.num .i64) .fin)))) .fin))) rfl (fun cs hcs => by
    obtain ⟨_, c1, rfl, ⟨t, rfl, ht⟩, _, c2, rfl, ⟨_, c3, rfl, ⟨k, rfl, _⟩, _, c4, rfl, ⟨x, rfl, _⟩, _, c5, rfl, ⟨y, rfl, _⟩, _, c6, rfl, ⟨z, rfl, _⟩, h6⟩, h2⟩ := hcs
    obtain rfl : c6 = [] := h6
    obtain rfl : c2 = [] := h2
    exact ⟨⟨⟨t, k, x, y, z⟩, by
      obtain ⟨b0, b1⟩ := i64_bounds ht
      exact ⟨b0, b1⟩⟩, rfl⟩) h
  refine ⟨l.map (·.1), by rw [List.length_map, h1], ?_, h3, h4, h5, fun e he => ?_⟩
  · rcases h2 with h2 | ⟨b, off, hb, h2⟩
    · exact .inl (by rw [h2]; rfl)
    · refine .inr ⟨b, off, hb, fun i hi j hj => ?_⟩
      rw [List.length_map] at hi
      have h6 := h2 i hi j hj
      have h7 : (l.map (·.1)).getD i evK.d = (l.getD i evT.d).1 := by
        rw [List.getD_eq_getElem?_getD, List.getD_eq_getElem?_getD, List.getElem?_map, List.getElem?_eq_getElem hi]
        rfl
      rw [h7]
      exact h6
  · obtain ⟨d, _, rfl⟩ := List.mem_map.1 he
    exact d.2

end Go.Proofs.YtihhcnckoeaihaaDoor
