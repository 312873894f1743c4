/-
  The model's state behind a command.
-/
import Derived.Test.YtihhcnckoeaihaaBnkV
namespace Go.Proofs.Ytihhcnckoeaihaa
open Go.RowKit Go.PlainAid

set_option linter.unusedVariables false

theorem four_0 (w : World) (A B C D : Obj) : ((((w.alloc A).alloc B).alloc C).alloc D).heap[w.heap.size]? = some A := by
  rw [Below.heap_alloc _ _ _ (by simp <;> omega)]; exact box3_0 w A B C

theorem four_1 (w : World) (A B C D : Obj) : ((((w.alloc A).alloc B).alloc C).alloc D).heap[w.heap.size + 1]? = some B := by
  rw [Below.heap_alloc _ _ _ (by simp <;> omega)]; exact box3_1 w A B C

theorem four_2 (w : World) (A B C D : Obj) : ((((w.alloc A).alloc B).alloc C).alloc D).heap[w.heap.size + 1 + 1]? = some C := by
  rw [Below.heap_alloc _ _ _ (by simp)]; exact box3_2 w A B C

theorem four_3 (w : World) (A B C D : Obj) : ((((w.alloc A).alloc B).alloc C).alloc D).heap[w.heap.size + 1 + 1 + 1]? = some D := by
  have h := box3_2 (w.alloc A) B C D
  rwa [World.size_alloc] at h

/-- A call that answers a rank with a row of its own, and a bool. -/
def GivesA (n : Nat) (l : List Bk) (pw : Int) (v : Bool) (w : World) (e : Ending) (w' : World) : Prop :=
  ∃ a cap, e = .returned (.tuple #[.agg #[.slice a n cap, .int .i64 pw], .bool v]) ∧ OwnK w.heap.size (.slice a n cap) l w' ∧ Below w.heap.size w w'

set_option maxHeartbeats 4000000 in
theorem specAfter_is (g0 B g2 g3 : Int) (a : Option Addr) (n c : Nat) (l : List Bk) (pw k x y z : Int) (v : Bool) (l' : List Bk) (pw' : Int) (hv : allowR g0 B g2 g3 l pw k x y z = v) (hl' : afterL g0 B g2 g3 l pw k x y z = l') (hp' : afterP g0 B g2 g3 l pw k x y z = pw')
    (hl : l.length = n) (h1 : n ≤ 4000000) (hnc : a = none → c = 0) (w : World) (hr : RowB w a l) :
    Calls Try.prog 39 #[.agg #[.int .i64 g0, .int .i64 B, .int .i64 g2, .int .i64 g3], .agg #[.slice a n c, .int .i64 pw], .agg #[.int .i64 k, .int .i64 x, .int .i64 y, .int .i64 z]] w (GivesA n l' pw' v w) := by
  obtain ⟨w1, hw1⟩ : ∃ u, (((w.alloc (.cells #[.int .i64 g0, .int .i64 B, .int .i64 g2, .int .i64 g3] 30)).alloc (.cells #[.slice a n c, .int .i64 pw] 40)).alloc (.cells #[.int .i64 k, .int .i64 x, .int .i64 y, .int .i64 z] 56)).alloc (.cells #[.slice none 0 0, .int .i64 0] 40) = u := ⟨_, rfl⟩
  have hb1 : Below w.heap.size w w1 := by subst hw1; exact ((((Below.refl _ _).alloc (Nat.le_refl _) _).alloc (by simp) _).alloc (by simp; omega) _).alloc (by simp; omega) _
  have g1 : w1.heap[w.heap.size]? = some (.cells #[.int .i64 g0, .int .i64 B, .int .i64 g2, .int .i64 g3] 30) := by subst hw1; exact four_0 _ _ _ _ _
  have p1 : w1.heap[w.heap.size + 1]? = some (.cells #[.slice a n c, .int .i64 pw] 40) := by subst hw1; exact four_1 _ _ _ _ _
  have q1 : w1.heap[w.heap.size + 1 + 1]? = some (.cells #[.int .i64 k, .int .i64 x, .int .i64 y, .int .i64 z] 56) := by subst hw1; exact four_2 _ _ _ _ _
  have s1 : w1.heap[w.heap.size + 1 + 1 + 1]? = some (.cells #[.slice none 0 0, .int .i64 0] 40) := by subst hw1; exact four_3 _ _ _ _ _
  have HS1 : Hid (w.heap.size + 1 + 1 + 1 < w1.heap.size) := lt_of_block s1
  obtain ⟨d0, d1⟩ := cells2 p1
  have HB1 := Lib.hid hb1
  have HR := Lib.hid (hr.below hb1)
  clear hr hb1
  have HV := Lib.hid hv
  have ARG : Hid (v = true → (1 ≤ k ∧ k ≤ 9) ∧ (k ≤ 5 → 0 ≤ x ∧ x < (n : Int)) ∧ l' = doL l k x y ∧ pw' = doP pw k) := fun h => by
    rw [h] at hv
    have hd := hv
    unfold allowR at hd
    rw [Bool.and_eq_true, decide_eq_true_eq] at hd
    exact ⟨hd.1.2.1.1, fun _ => bank_in (k := k) hl hd.1.1 hd.1.2.2, by rw [← hl']; exact if_pos hv, by rw [← hp']; exact if_pos hv⟩
  have ARG0 : Hid (v = false → l' = l ∧ pw' = pw) := fun h => by
    have hn : ¬ allowR g0 B g2 g3 l pw k x y z = true := by rw [hv, h]; simp
    exact ⟨by rw [← hl']; exact if_neg hn, by rw [← hp']; exact if_neg hn⟩
  clear hv hl' hp'
  go_enter Try.func39, Try.ntmps39
  go_wp2_with fail
  refine (specCopy_is _ _ _ _ _ hl h1 hnc _ HR.out).mono ?_
  rintro e w2 ⟨aa, cc, rfl, own2, hb2⟩
  have g2' := keep_block hb2 g1 (lt_of_block g1)
  have p2 := keep_block hb2 p1 (lt_of_block p1)
  have q2 := keep_block hb2 q1 (lt_of_block q1)
  have s2 := keep_block hb2 s1 (lt_of_block s1)
  have HB2 : Hid (Below w.heap.size w w2) := HB1.out.trans (hb2.mono HB1.out.size)
  have HR2 := Lib.hid (HR.out.below hb2)
  have HS2 : Hid (w1.heap.size ≤ w2.heap.size) := hb2.size
  clear d0 d1 hw1 g1 p1 q1 s1 HB1 HR hb2
  have hb3 : Below w2.heap.size w2 (w2.alloc (.cells #[.slice aa n cc, .int .i64 pw] 40)) := (Below.refl _ _).alloc (Nat.le_refl _) _
  have g3' := keep_block hb3 g2' (lt_of_block g2')
  have p3 := keep_block hb3 p2 (lt_of_block p2)
  have q3 := keep_block hb3 q2 (lt_of_block q2)
  have s3 := keep_block hb3 s2 (lt_of_block s2)
  have t3 := heap_alloc_new w2 (.cells #[.slice aa n cc, .int .i64 pw] 40)
  have HB3 : Hid (Below w.heap.size w (w2.alloc (.cells #[.slice aa n cc, .int .i64 pw] 40))) := HB2.out.trans (hb3.mono HB2.out.size)
  have HR3 := Lib.hid (HR2.out.below hb3)
  have O3 := Lib.hid (own2.below hb3)
  have HNE : Hid (∀ x, aa = some x → x.block ≠ w2.heap.size) := fun x hx => by have := (own2.lo x hx).2; omega
  have HNS : Hid (∀ x, aa = some x → x.block ≠ w.heap.size + 1 + 1 + 1) := fun x hx => by have := (own2.lo x hx).1; have := HS1.out; omega
  obtain ⟨c0, c1, c2, c3⟩ := cells4 g3'
  obtain ⟨d0, d1⟩ := cells2 p3
  obtain ⟨e0, e1, e2, e3⟩ := cells4 q3
  clear hb3 own2 g2' p2 q2 s2
  go_wp2_with fail
  clear c0 c1 c2 c3 d0 d1 e0 e1 e2 e3
  generalize (w2.alloc (.cells #[.slice aa n cc, .int .i64 pw] 40)) = w3 at g3' p3 q3 s3 t3 HB3 HR3 O3 ⊢
  refine (specAllowed_is _ _ _ _ _ _ _ _ _ _ _ _ _ _ HV.out hl h1 _ HR3.out).mono ?_
  rintro e w4 ⟨rfl, hb4⟩
  have q4 := keep_block hb4 q3 (lt_of_block q3)
  have s4 := keep_block hb4 s3 (lt_of_block s3)
  have t4 := keep_block hb4 t3 (lt_of_block t3)
  have HB4 : Hid (Below w.heap.size w w4) := HB3.out.trans (hb4.mono HB3.out.size)
  have O4 := Lib.hid (O3.out.below hb4)
  clear hb4 g3' p3 q3 s3 t3 HR3 HB3 O3
  cases v
  · obtain ⟨rfl, rfl⟩ := ARG0.out rfl
    clear ARG0 ARG
    obtain ⟨x0, x1⟩ := cells2 t4
    obtain ⟨y0, y1⟩ := cells2 s4
    have f0 := thawed s4 0
    have f1 := thawed s4 1
    have F1 : Hid (OwnK w.heap.size (.slice aa n cc) l' ((w4.setCell ⟨w.heap.size + 1 + 1 + 1, 0, none⟩ (.slice aa n cc)).setCell ⟨w.heap.size + 1 + 1 + 1, 1, none⟩ (.int .i64 pw'))) :=
      OwnK.mono (B := w1.heap.size) ((O4.out.setCell HNS.out _).setCell HNS.out _) (by have := HS1.out; omega)
    have F2 : Hid (Below w.heap.size w ((w4.setCell ⟨w.heap.size + 1 + 1 + 1, 0, none⟩ (.slice aa n cc)).setCell ⟨w.heap.size + 1 + 1 + 1, 1, none⟩ (.int .i64 pw'))) := (HB4.out.setCell (by simp; omega) _).setCell (by simp; omega) _
    go_wp2_with fail
    (try simp only [Exit.inBlock, Exit.then])
    refine bodyPost_ret (v := .tuple #[.agg #[.slice aa n cc, .int .i64 pw'], .bool false]) ?_ rfl ⟨_, _, rfl, F1.out, F2.out⟩
    simp [results, Try.results39, go_sem, y0, y1]
  · obtain ⟨hkk, hxx, rfl, rfl⟩ := ARG.out rfl
    clear ARG0 ARG
    have HD := Lib.hid (specDo_is (B := w1.heap.size) (P := w2.heap.size) (y := y) (z := z) hkk hxx hl h1 t4 O4.out HNE.out HS2.out)
    obtain ⟨e0, e1, e2, e3⟩ := cells4 q4
    clear hkk hxx t4 O4
    go_wp2_with fail
    refine HD.out.mono ?_
    rintro e w5 ⟨rfl, t5, own5, hb5⟩
    have s5 := keep_block hb5 s4 HS1.out
    have HB5 : Hid (Below w.heap.size w w5) := HB4.out.trans (hb5.mono (by have := HS1.out; omega))
    obtain ⟨x0, x1⟩ := cells2 t5
    obtain ⟨y0, y1⟩ := cells2 s5
    have f0 := thawed s5 0
    have f1 := thawed s5 1
    have F1 : Hid (OwnK w.heap.size (.slice aa n cc) (doL l k x y) ((w5.setCell ⟨w.heap.size + 1 + 1 + 1, 0, none⟩ (.slice aa n cc)).setCell ⟨w.heap.size + 1 + 1 + 1, 1, none⟩ (.int .i64 (doP pw k)))) :=
      OwnK.mono (B := w1.heap.size) ((own5.setCell HNS.out _).setCell HNS.out _) (by have := HS1.out; omega)
    have F2 : Hid (Below w.heap.size w ((w5.setCell ⟨w.heap.size + 1 + 1 + 1, 0, none⟩ (.slice aa n cc)).setCell ⟨w.heap.size + 1 + 1 + 1, 1, none⟩ (.int .i64 (doP pw k)))) := (HB5.out.setCell (by simp; omega) _).setCell (by simp; omega) _
    clear hb5 own5 HD q4 s4 HB4 e0 e1 e2 e3
    go_wp2_with fail
    (try simp only [Exit.inBlock, Exit.then])
    refine bodyPost_ret (v := .tuple #[.agg #[.slice aa n cc, .int .i64 (doP pw k)], .bool true]) ?_ rfl ⟨_, _, rfl, F1.out, F2.out⟩
    simp [results, Try.results39, go_sem, y0, y1]

end Go.Proofs.Ytihhcnckoeaihaa
