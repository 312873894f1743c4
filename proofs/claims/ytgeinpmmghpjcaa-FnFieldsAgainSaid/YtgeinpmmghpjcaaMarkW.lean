/-
  The laws' own words on slices of strings: equal, marked, held.
-/
import Derived.Test.YtgeinpmmghpjcaaSplitW
namespace Go.Proofs.Ytgeinpmmghpjcaa
open Go.RowKit Go.PlainAid
set_option linter.unusedVariables false

/-- The digits of k ahead of acc. -/
def dg : Nat → Nat → List UInt8 → List UInt8
  | 0, _, acc => acc
  | f + 1, k, acc => if k = 0 then acc else dg f (k / 10) (UInt8.ofNat (48 + k % 10) :: acc)
/-- What markText gives at a positive number. -/
def markL (k : Nat) : List UInt8 := 109 :: dg k k []
def markS (k : Nat) : ByteArray := ⟨(markL k).toArray⟩
theorem dg_zero (f : Nat) (acc : List UInt8) : dg f 0 acc = acc := by cases f <;> rfl

theorem cat_one (x y : UInt8) (acc : List UInt8) (h : x = y) : Value.string ((⟨#[x]⟩ : ByteArray) ++ ⟨acc.toArray⟩) = .string ⟨(y :: acc).toArray⟩ := by
  subst h
  congr 1
theorem cat_lit (x : UInt8) (acc : List UInt8) : Ending.returned (Value.string ((⟨#[x]⟩ : ByteArray) ++ ⟨acc.toArray⟩)) = .returned (.string ⟨(x :: acc).toArray⟩) := by rw [cat_one x x acc rfl]

set_option maxHeartbeats 1000000 in
set_option maxRecDepth 100000 in
theorem markText_any (k : Nat) (w : World) (h0 : 0 < k) (h1 : k ≤ 1000000) :
    Calls Try.prog 35 #[.int .i64 k] w fun e w' => e = .returned (.string (markS k)) ∧ Below w.heap.size w w' := by
  go_enter Try.func35, Try.ntmps35
  go_wp2_with fail
  go_loopw [0, 3] (fun x o wr => ∃ n f : Nat, ∃ acc : List UInt8, x = .int .i64 n ∧ n ≤ f ∧ f ≤ k ∧ acc.length + f ≤ k ∧ o = .string ⟨acc.toArray⟩ ∧ Hid (dg f n acc = dg k k []) ∧ Below w.heap.size w wr) (fun x _ _ => (intOf x).toNat)
  case atStart => exact ⟨k, k, [], rfl, Nat.le_refl _, Nat.le_refl _, by simp, rfl, rfl, Below.refl _ _⟩
  case round =>
    obtain ⟨n, f, acc, rfl, hnf, hfk, hacc, rfl, HD, hbk⟩ := hrel
    by_cases hn : 0 < n
    · have hcv := conv_one wr (48 + (n : Int) % 10) (by omega) (by omega)
      obtain ⟨f, rfl⟩ : ∃ g, f = g + 1 := ⟨f - 1, by omega⟩
      have HD2 : Hid (dg f (n / 10) (UInt8.ofNat (48 + n % 10) :: acc) = dg k k []) := by
        show _ = _; rw [← HD.out]; simp only [dg]; rw [if_neg (by omega)]
      go_wp2_with fail
      go_roundw
      case rel => exact ⟨n / 10, f, UInt8.ofNat (48 + n % 10) :: acc, by go_num, by omega, by omega, by simp; omega, cat_one _ _ _ (by simp), HD2, hbk.alloc hbk.size _⟩
      case measure => simp [intOf]; omega
    · obtain rfl : n = 0 := by omega
      go_wp2_with fail
      go_ret
      refine ⟨?_, hbk⟩
      have hd := HD.out
      rw [dg_zero] at hd
      unfold markS markL
      rw [← hd]
      exact cat_lit 109 acc

/-- A text of an owned row. -/
theorem OwnS.at {B n : Nat} {a : Option Addr} {c : Nat} {l : List ByteArray} {w : World} (h : OwnS B (.slice a n c) l w) {k : Nat} (hk : k < l.length) :
    ∃ g, a = some ⟨g, 0, none⟩ ∧ w.cell? ⟨g, k, none⟩ = some (.string l[k]) ∧ w.frozen? ⟨g, k, none⟩ = false ∧ B ≤ g ∧ g < w.heap.size := by
  have hc := fun g hg => World.ownsRow.cells h (g := g) hg k (.string l[k]) (by simp [hk])
  rcases h.2 with ⟨_, h0⟩ | ⟨g, cap, cur, hv, hB, hh, _⟩
  · omega
  · cases hv
    refine ⟨g, rfl, ?_, ?_, hB, lt_of_block hh⟩
    · have := hc g rfl
      rwa [Addr.add_lit, Nat.zero_add] at this
    · simp [World.frozen?, hh]

set_option maxHeartbeats 1000000 in
set_option maxRecDepth 100000 in
/-- Two rows of texts that are alike. -/
theorem eqStringS_any {B C : Nat} {a b : Option Addr} {ca cb : Nat} {l : List ByteArray} {w : World} {n : Nat} (hn : l.length = n) (ha : OwnS B (.slice a n ca) l w) (hb : OwnS C (.slice b n cb) l w) (hl : n ≤ 1000000) :
    Calls Try.prog 21 #[.slice a n ca, .slice b n cb] w fun e w' => e = .returned (.bool true) ∧ ∃ n, w' = w.drewN n := by
  have HN := Lib.hid hn
  have HA := Lib.hid ha
  have HB := Lib.hid hb
  clear hn ha hb
  go_enter Try.func21, Try.ntmps21
  go_wp2_with fail
  go_loopw [5] (fun i wr => ∃ k : Nat, k ≤ n ∧ i = .int .i64 k ∧ ∃ q, wr = w.drewN q) (fun i _ => n - (intOf i).toNat)
  case atStart => exact ⟨0, Nat.zero_le _, rfl, 0, rfl⟩
  case round =>
    obtain ⟨k, hk, rfl, q, rfl⟩ := hrel
    by_cases hlt : k < n
    · obtain ⟨ga, rfl, hca, _, _, _⟩ := HA.out.at (k := k) (by rw [HN.out]; exact hlt)
      obtain ⟨gb, rfl, hcb, _, _, _⟩ := HB.out.at (k := k) (by rw [HN.out]; exact hlt)
      obtain ⟨x, hx⟩ : ∃ x, l[k]'(by rw [HN.out]; exact hlt) = x := ⟨_, rfl⟩
      rw [hx] at hca hcb
      clear hx
      go_wp2_with fail
      go_quiet (fail)
      go_wp2
      go_roundw
      case rel => exact ⟨k + 1, by omega, by go_num, _, rfl⟩
      case measure => simp [intOf]; omega
    · go_wp2_with fail
      go_ret
      exact ⟨rfl, q, rfl⟩

theorem markText_int (x : Int) (w : World) (h0 : 0 < x) (h1 : x ≤ 1000000) :
    Calls Try.prog 35 #[.int .i64 x] w fun e w' => e = .returned (.string (markS x.toNat)) ∧ Below w.heap.size w w' := by
  obtain ⟨n, rfl⟩ := Int.eq_ofNat_of_zero_le (show 0 ≤ x by omega)
  exact markText_any n w (by omega) (by omega)

def blkOf (d : Nat) : Option Addr → Nat
  | some x => x.block
  | none => d
theorem blkOf_some {d : Nat} {a : Option Addr} : ∀ x, a = some x → x.block = blkOf d a := by rintro x rfl; rfl
/-- n marks, from k on. -/
def marks (k : Nat) : Nat → List ByteArray
  | 0 => []
  | n + 1 => marks k n ++ [markS (k + n)]
theorem marks_length (k : Nat) : ∀ n, (marks k n).length = n
  | 0 => rfl
  | n + 1 => by simp [marks, marks_length k n]
theorem marks_get (k : Nat) : ∀ n i (h : i < (marks k n).length), (marks k n)[i] = markS (k + i)
  | 0, i, h => by simp [marks] at h
  | n + 1, i, h => by
    have hl := marks_length k n
    simp only [marks]
    by_cases e : i < n
    · rw [List.getElem_append_left (by omega)]; exact marks_get k n i _
    · rw [List.getElem_append_right (by omega)]
      have : i = n := by rw [marks_length] at h; omega
      subst this; simp [hl]

theorem OwnS.keep {B c n : Nat} {a : Option Addr} {l : List ByteArray} {w w' : World} {g : Nat} (h : OwnS B (.slice a n c) l w) (ho : Only g w w') (hne : ∀ x, a = some x → x.block ≠ g) : OwnS B (.slice a n c) l w' := by
  refine ⟨h.1, ?_⟩
  rcases h.2 with ⟨hv, h0⟩ | ⟨b, cap, cur, hv, hB, hh, r⟩
  · exact .inl ⟨hv, h0⟩
  · cases hv
    exact .inr ⟨b, c, cur, rfl, hB, by rw [ho.block b (lt_of_block hh) (hne _ rfl)]; exact hh, r⟩
theorem OwnS.lo {B c n : Nat} {a : Option Addr} {l : List ByteArray} {w : World} (h : OwnS B (.slice a n c) l w) : ∀ x, a = some x → B ≤ x.block ∧ x.block < w.heap.size := by
  rintro x rfl
  exact World.ownsRow.lt h x.block rfl
theorem OwnS.lo_blk {B c n d : Nat} {a : Option Addr} {l : List ByteArray} {w : World} (h : OwnS B (.slice a n c) l w) (hd : B ≤ d) : B ≤ blkOf d a := by
  cases a with
  | none => exact hd
  | some x => exact (h.lo x rfl).1
theorem OwnS.below {B c n : Nat} {a : Option Addr} {l : List ByteArray} {w w' : World} (h : OwnS B (.slice a n c) l w) (hb : Below w.heap.size w w') : OwnS B (.slice a n c) l w' := by
  refine ⟨h.1, ?_⟩
  rcases h.2 with ⟨hv, h0⟩ | ⟨b, cap, cur, hv, hB, hh, r⟩
  · exact .inl ⟨hv, h0⟩
  · exact .inr ⟨b, cap, cur, hv, hB, by rw [hb.block b (lt_of_block hh)]; exact hh, r⟩
theorem OwnS.drewN {B c n : Nat} {a : Option Addr} {l : List ByteArray} {w : World} (h : OwnS B (.slice a n c) l w) (q : Nat) : OwnS B (.slice a n c) l (w.drewN q) := h

set_option maxHeartbeats 1000000 in
set_option maxRecDepth 100000 in
theorem markStringS_any {B : Nat} {a : Option Addr} {c : Nat} {l : List ByteArray} {w : World} {n : Nat} (hn : l.length = n) (h : OwnS B (.slice a n c) l w) (k0 : Nat) (h0 : 0 < k0) (h1 : k0 + n ≤ 1000000) (g0 : Nat) (hg0 : ∀ x, a = some x → x.block = g0) :
    Calls Try.prog 22 #[.slice a n c, .int .i64 k0] w fun e w' => e = .returned (.int .i64 ((k0 + n : Nat) : Int)) ∧ OwnS B (.slice a n c) (marks k0 n) w' ∧ Only g0 w w' := by
  have HN := Lib.hid hn
  have HO := Lib.hid h
  have HG0 := Lib.hid hg0
  clear hn h hg0
  go_enter Try.func22, Try.ntmps22
  go_wp2_with fail
  go_loopw [1, 5] (fun m i wr => ∃ k : Nat, k ≤ n ∧ i = .int .i64 k ∧ m = .int .i64 ((k0 + k : Nat) : Int) ∧ OwnS B (.slice a n c) (marks k0 k ++ l.drop k) wr ∧ Only g0 w wr) (fun _ i _ => n - (intOf i).toNat)
  case atStart => exact ⟨0, Nat.zero_le _, rfl, rfl, by simpa [marks] using HO.out, Only.refl _ _⟩
  case round =>
    obtain ⟨k, hk, rfl, rfl, hown, hok⟩ := hrel
    by_cases hlt : k < n
    · have hlen : (marks k0 k ++ l.drop k).length = n := by have := HN.out; simp [marks_length]; omega
      obtain ⟨g, rfl, hc, hf, hB, hg⟩ := hown.at (k := k) (by rw [hlen]; exact hlt)
      have HL := Lib.hid hlen
      obtain ⟨old, hco⟩ : ∃ u, wr.cell? ⟨g, k, none⟩ = some u := ⟨_, hc⟩
      clear hc hlen
      go_wp2_with fail
      refine (markText_int _ _ (by omega) (by omega)).mono ?_
      rintro e w2 ⟨rfl, hb2⟩
      rw [show ((k0 : Int) + (k : Int)).toNat = k0 + k by omega]
      have hc2 : w2.cell? ⟨g, k, none⟩ = _ := (hb2.cell (p := ⟨g, k, none⟩) hg).trans hco
      have hf2 : w2.frozen? ⟨g, k, none⟩ = _ := (hb2.frozen (p := ⟨g, k, none⟩) hg).trans hf
      have HO2 := Lib.hid (hown.below hb2)
      have hgg : g = g0 := HG0.out _ rfl
      have HK2 : Hid (Only g0 w w2) := hok.trans ⟨hb2.os, hb2.tape, hb2.output, hb2.size, fun j hj _ => hb2.block j hj⟩
      have HGG := Lib.hid hgg
      clear hb2 hown hok hgg hco hf
      go_wp2_with fail
      have HO3 : w2.ownsRow B 9 1 (.slice (some ⟨g, 0, none⟩) n c) n ((marks k0 k ++ l.drop k).map Value.string) := by have := HO2.out; unfold OwnS at this; rwa [HL.out] at this
      have R := (World.ownsRow.stored HO3 k (.string (markS (k0 + k)))).1
      have HE : Hid (((marks k0 k ++ l.drop k).map Value.string).set k (.string (markS (k0 + k))) = (marks k0 (k + 1) ++ l.drop (k + 1)).map Value.string) := by
        have h1 := HN.out
        have h2 := marks_length k0 k
        show _ = _
        rw [← List.map_set, List.set_append_right _ _ (by omega), h2, Nat.sub_self]
        rw [List.drop_eq_getElem_cons (by omega), List.set_cons_zero]
        simp [marks]
      have R2 : OwnS B (.slice (some ⟨g, 0, none⟩) n c) (marks k0 (k + 1) ++ l.drop (k + 1)) (w2.setCell ⟨g, k, none⟩ (.string (markS (k0 + k)))) := by
        unfold OwnS
        rw [← HE.out]
        have e2 : (marks k0 (k + 1) ++ l.drop (k + 1)).length = n := by have := HN.out; simp [marks_length]; omega
        rw [e2]; exact R
      have HK3 := Lib.hid (HK2.out.setCell (p := ⟨g, k, none⟩) HGG.out (.string (markS (k0 + k))))
      go_roundw
      case rel => exact ⟨k + 1, by omega, by go_num, by go_num, R2, HK3.out⟩
      case measure => simp [intOf]; omega
    · obtain rfl : k = n := by omega
      have HF := Lib.hid hown
      go_wp2_with fail
      go_ret
      exact ⟨by first | rfl | exact ret_i (by omega), by have := HF.out; rwa [List.drop_of_length_le (by have := HN.out; omega), List.append_nil] at this, hok⟩

theorem below_cell {w w' : World} {a : Addr} {v : Value} (hb : Below w.heap.size w w') (hc : w.cell? a = some v) : w'.cell? a = some v :=
  (hb.cell (World.block_lt_of_cell? w _ hc)).trans hc

set_option maxHeartbeats 1000000 in
set_option maxRecDepth 100000 in
theorem heldStringS_any {B : Nat} {a : Option Addr} {c : Nat} {n : Nat} {w : World} (k0 : Nat) (h : OwnS B (.slice a n c) (marks k0 n) w) (h0 : 0 < k0) (h1 : k0 + n ≤ 1000000) :
    Calls Try.prog 23 #[.slice a n c, .int .i64 k0] w fun e w' => e = .returned (.int .i64 ((k0 + n : Nat) : Int)) ∧ Below w.heap.size w w' := by
  have HO := Lib.hid h
  clear h
  go_enter Try.func23, Try.ntmps23
  go_wp2_with fail
  go_loopw [1, 5] (fun m i wr => ∃ k : Nat, k ≤ n ∧ i = .int .i64 k ∧ m = .int .i64 ((k0 + k : Nat) : Int) ∧ Below w.heap.size w wr) (fun _ i _ => n - (intOf i).toNat)
  case atStart => exact ⟨0, Nat.zero_le _, rfl, rfl, Below.refl _ _⟩
  case round =>
    obtain ⟨k, hk, rfl, rfl, hbk⟩ := hrel
    by_cases hlt : k < n
    · have hlt' : (k : Int) < (n : Int) := by omega
      have hbs := hbk.size
      obtain ⟨g, rfl, hc, hf, hB, hg⟩ := (HO.out.below hbk).at (k := k) (by rw [marks_length]; exact hlt)
      rw [marks_get] at hc
      have p0 : (0 : Int) < (k0 : Int) + (k : Int) := by omega
      have p1 : (k0 : Int) + (k : Int) ≤ 1000000 := by omega
      have e1 : IntKind.i64.wrap ((k0 : Int) + (k : Int)) = (k0 : Int) + (k : Int) := IntWalk.i64_in _ ⟨by omega, by omega⟩
      have e3 : ((k0 : Int) + (k : Int)).toNat = k0 + k := by omega
      go_wp2_with fail
      go_region_held3 (fun w' => w'.cell? ⟨g, k, none⟩ = some (.string (markS (k0 + k)))) (first | exact below_cell hb2 (by assumption) | assumption | (simp [*]; done))
        (first | (go_at_call 35; refine (markText_int _ _ (by assumption) (by assumption)).mono ?_; rintro e w2 ⟨rfl, hb2⟩; rw [e3]))
      have hb3 : Below w.heap.size w w2 := hbk.drew.trans (hb2.mono hbs)
      clear hb2 hbk hc
      go_wp2_with fail
      go_roundw
      case rel => exact ⟨k + 1, by omega, by go_num, by go_num, hb3⟩
      case measure => simp [intOf]; omega
    · obtain rfl : k = n := by omega
      go_wp2_with fail
      go_ret
      exact ⟨by first | rfl | exact ret_i (by omega), hbk⟩

theorem markStringS_1 {B : Nat} {a : Option Addr} {c : Nat} {l : List ByteArray} {w : World} {n : Nat} (hn : l.length = n) (h : OwnS B (.slice a n c) l w) (h1 : n ≤ 100000) (g0 : Nat) (hg0 : ∀ x, a = some x → x.block = g0) :
    Calls Try.prog 22 #[.slice a n c, .int .i64 1] w fun e w' => e = .returned (.int .i64 (1 + (n : Int))) ∧ OwnS B (.slice a n c) (marks 1 n) w' ∧ Only g0 w w' :=
  (markStringS_any hn h 1 (by omega) (by omega) g0 hg0).mono fun e w' ⟨he, r⟩ => ⟨by rw [he]; exact ret_i (by omega), r⟩
theorem heldStringS_1 {B : Nat} {a : Option Addr} {c : Nat} {n : Nat} {w : World} (h : OwnS B (.slice a n c) (marks 1 n) w) (h1 : n ≤ 100000) :
    Calls Try.prog 23 #[.slice a n c, .int .i64 1] w fun e w' => e = .returned (.int .i64 (1 + (n : Int))) ∧ Below w.heap.size w w' :=
  (heldStringS_any 1 h (by omega) (by omega)).mono fun e w' ⟨he, r⟩ => ⟨by rw [he]; exact ret_i (by omega), r⟩
end Go.Proofs.Ytgeinpmmghpjcaa
