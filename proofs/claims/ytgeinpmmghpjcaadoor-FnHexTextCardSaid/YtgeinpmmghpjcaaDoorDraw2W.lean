/-
  More draws of package spec: texts, long texts, places.
-/
import Derived.Test.YtgeinpmmghpjcaaDoorDrawW
import Derived.Test.YtgeinpmmghpjcaaDoorBytesW
import Derived.Lib.Strings
namespace Go.Proofs.YtgeinpmmghpjcaaDoor
open Go.RowKit Go.PlainAid

set_option linter.unusedVariables false


/-- A text of n bytes; nothing that was there has turned. -/
def LongT (n : Nat) (w : World) (e : Ending) (w' : World) : Prop := ∃ s : ByteArray, e = .returned (.string s) ∧ s.size = n ∧ Below w.heap.size w w'

theorem OwnB.at {B n c : Nat} {a : Option Addr} {l : List UInt8} {w : World} (h : OwnB B (.slice a n c) l w) {k : Nat} (hk : k < l.length) :
    ∃ g, a = some ⟨g, 0, none⟩ ∧ w.cell? ⟨g, k, none⟩ = some (.int .u8 (l[k].toNat : Int)) ∧ w.frozen? ⟨g, k, none⟩ = false ∧ B ≤ g ∧ g < w.heap.size := by
  have hc := fun g hg => World.ownsRow.cells h (g := g) hg k (.int .u8 (l[k].toNat : Int)) (by simp [Lib.byteCells, hk])
  rcases h.2 with ⟨_, h0⟩ | ⟨g, cap, cur, hv, hB, hh, _⟩
  · omega
  · cases hv
    refine ⟨g, rfl, ?_, ?_, hB, lt_of_block hh⟩
    · have := hc g rfl
      rwa [Addr.add_lit, Nat.zero_add] at this
    · simp [World.frozen?, hh]

set_option maxHeartbeats 1000000 in
set_option maxRecDepth 100000 in
theorem l01Long_any (m : Int) (x : Int) (w : World) (h0 : 0 ≤ m) (h1 : m ≤ 1000000) (x0 : 0 ≤ x) (x1 : x ≤ 255) :
    Calls Tryd.prog 18 #[.int .i64 m, .int .u8 x] w (LongT m.toNat w) := by
  obtain ⟨n, rfl⟩ := Int.eq_ofNat_of_zero_le h0
  rw [Int.toNat_natCast]
  obtain ⟨i0, hi, hz0, hz1, hz2⟩ := info_parts infoB
  go_enter Tryd.func18, Tryd.ntmps18
  go_wp2_with (at_make; refine wpList_make_full _ rfl _ _ 22 rfl w.heap.size 5 i0 (.int .u8 0) 1 Tryd.underlying22 hi hz0 hz1 _ _ _ _ n rfl rfl rfl rfl (by rw [hz2]; omega) (by unfold maxLen; omega) (Nat.le_refl _) ?_)
  intro w1 hown hgr
  have hb1 : Below w.heap.size w w1 := (Below.refl _ _).grown hgr (Nat.le_refl _) (fun k hk => by cases hk)
  have hO : Hid (∃ l : List UInt8, l.length = n ∧ OwnB w.heap.size (.slice (some ⟨w.heap.size, 0, none⟩) n n) l w1) := by
    refine ⟨List.replicate n 0, by simp, ?_⟩
    unfold OwnB
    rw [List.length_replicate]
    rw [made_one] at hown
    rw [show Lib.byteCells (List.replicate n 0) = List.replicate n (Value.int .u8 0) by simp [Lib.byteCells]]
    exact hown
  clear hgr hown
  go_wp2_with fail
  go_loopw [6] (fun i wr => ∃ k : Nat, ∃ l : List UInt8, k ≤ n ∧ i = .int .i64 k ∧ Hid (l.length = n) ∧ OwnB w.heap.size (.slice (some ⟨w.heap.size, 0, none⟩) n n) l wr ∧ Below w.heap.size w wr) (fun i _ => n - (intOf i).toNat)
  case atStart =>
    obtain ⟨l, hl, ho⟩ := hO.out
    exact ⟨0, l, Nat.zero_le _, rfl, hl, ho, hb1⟩
  case round =>
    obtain ⟨k, l, hk, rfl, HL, hown, hbk⟩ := hrel
    by_cases hlt : k < n
    · obtain ⟨g, hg, hc, hf, hB, hgl⟩ := hown.at (k := k) (by rw [HL.out]; exact hlt)
      obtain rfl : w.heap.size = g := by simpa using hg
      obtain ⟨old, hco⟩ : ∃ u, wr.cell? ⟨w.heap.size, k, none⟩ = some u := ⟨_, hc⟩
      have HO2 := Lib.hid hown
      have HB2 := Lib.hid hbk
      have HX : Hid (x = ((UInt8.ofNat x.toNat).toNat : Int)) := by show x = _; simp; omega
      clear hown hbk hc hg
      go_wp2_with fail
      have R : OwnB w.heap.size (.slice (some ⟨w.heap.size, 0, none⟩) n n) (l.set k (UInt8.ofNat x.toNat)) (wr.setCell ⟨w.heap.size, k, none⟩ (.int .u8 x)) := by
        have h1 := HO2.out
        unfold OwnB at h1 ⊢
        rw [HL.out] at h1
        rw [List.length_set, HL.out]
        have h2 := (World.ownsRow.stored h1 k (.int .u8 x)).1
        have e : Lib.byteCells (l.set k (UInt8.ofNat x.toNat)) = (Lib.byteCells l).set k (.int .u8 x) := by
          unfold Lib.byteCells; rw [List.map_set, ← HX.out]
        rw [e]; exact h2
      go_roundw
      case rel => exact ⟨k + 1, _, by omega, by go_num, by show List.length _ = n; rw [List.length_set]; exact HL.out, R, HB2.out.setCell (Nat.le_refl _) _⟩
      case measure => simp [intOf]; omega
    · have HC : Hid ((convert 22 9 (.slice (some ⟨w.heap.size, 0, none⟩) n n)).run Tryd.prog wr = .ok (.string ⟨l.toArray⟩) wr) := hown.conv
      have hcv := HC.out
      clear hown
      go_wp2_with fail
      go_ret
      exact ⟨_, rfl, by have := HL.out; simpa [ByteArray.size] using this, hbk⟩


/-- A row of the call's own that holds the numbers l. -/
def OwnI (B : Nat) (v : Value) (l : List Int) (w : World) : Prop := w.ownsRow B 3 1 v l.length (l.map (Value.int .i64))

theorem infoI : (Tryd.prog.info? 3).map (fun i => (i.zero, i.size, i.bytes)) = some (some (.int .i64 0), 1, 8) := by kernel_rfl

theorem ownI_more {B : Nat} {v : Value} {l : List Int} {x : Int} {w : World} (h : w.ownsRow B 3 1 v (l.length + 1) (l.map (Value.int .i64) ++ [.int .i64 x])) : OwnI B v (l ++ [x]) w := by
  unfold OwnI
  rw [show (l ++ [x]).length = l.length + 1 by simp, show (l ++ [x]).map (Value.int .i64) = l.map (Value.int .i64) ++ [.int .i64 x] by simp]
  exact h

theorem OwnI.shape {B : Nat} {v : Value} {l : List Int} {w : World} (h : OwnI B v l w) : ∃ a cap, v = .slice a l.length cap := by
  rcases h.2 with ⟨rfl, h0⟩ | ⟨g, cap, cur, rfl, _⟩
  · exact ⟨none, 0, by rw [h0]⟩
  · exact ⟨_, cap, rfl⟩

theorem OwnI.mono {B C : Nat} {v : Value} {l : List Int} {w : World} (h : OwnI B v l w) (hC : C ≤ B) : OwnI C v l w := by
  refine ⟨h.1, ?_⟩
  rcases h.2 with hv | ⟨b, cap, cur, hv, hB, r⟩
  · exact .inl hv
  · exact .inr ⟨b, cap, cur, hv, by omega, r⟩

theorem OwnI.below {B : Nat} {v : Value} {l : List Int} {w w' : World} (h : OwnI B v l w) (hb : Below w.heap.size w w') : OwnI B v l w' := by
  refine ⟨h.1, ?_⟩
  rcases h.2 with hv | ⟨b, cap, cur, hv, hB, hh, r⟩
  · exact .inl hv
  · exact .inr ⟨b, cap, cur, hv, hB, by rw [hb.block b (lt_of_block hh)]; exact hh, r⟩

theorem Cur.grown {c B : Nat} {w w' : World} {row : Option Nat} (h : Cur c B w) (hg : w.grownBy w' row) (hr : ∀ k, row = some k → B ≤ k ∧ k ≠ c) : Cur c B w' := by
  have hlt := h.lt
  obtain ⟨a, len, cap, zs, i, g, hh, hB, hrow, ha, r⟩ := h
  have hb : Below B w w' := (Below.refl B w).grown hg (by omega) (fun k hk => (hr k hk).1)
  exact ⟨a, len, cap, zs, i, g, by rw [hg.block c hlt (fun e => (hr c e.symm).2 rfl)]; exact hh, hB, hrow.below ha hb, ha, r⟩


/-- A drawn text of n bytes. -/
def DrewTx (n : Nat) (c B : Nat) (w : World) (e : Ending) (w' : World) : Prop := ∃ s : ByteArray, e = .returned (.string s) ∧ s.size = n ∧ Cur c B w' ∧ Only c w w'

theorem OwnB.only {B c : Nat} {v : Value} {l : List UInt8} {w w' : World} (h : OwnB B v l w) (ho : Only c w w') (hc : c < B) : OwnB B v l w' := by
  refine ⟨h.1, ?_⟩
  rcases h.2 with hv | ⟨b, cap, cur, hv, hB, hh, r⟩
  · exact .inl hv
  · exact .inr ⟨b, cap, cur, hv, hB, by rw [ho.block b (lt_of_block hh) (by omega)]; exact hh, r⟩

theorem Only.grown {c : Nat} {a w w' : World} {row : Option Nat} (h : Only c a w) (hg : w.grownBy w' row) (hr : ∀ k, row = some k → a.heap.size ≤ k) : Only c a w' :=
  h.trans' ⟨hg.os, hg.tape, hg.output, hg.size⟩ (fun k hk hn => hg.block k (Nat.lt_of_lt_of_le hk h.size) (fun e => by have := hr k e.symm; omega))

set_option maxHeartbeats 1000000 in
set_option maxRecDepth 100000 in
theorem l01Text_any {c B : Nat} {w : World} (hc : Cur c B w) (m : Int) (h0 : 0 ≤ m) (h1 : m ≤ 5000) :
    Calls Tryd.prog 20 #[.pointer (some ⟨c, 0, none⟩), .int .i64 m] w (DrewTx m.toNat c B w) := by
  obtain ⟨n, rfl⟩ := Int.eq_ofNat_of_zero_le h0
  rw [Int.toNat_natCast]
  obtain ⟨i0, hi, hz0, hz1, hz2⟩ := info_parts infoB
  have hltc := hc.lt
  obtain ⟨_, _, _, _, _, _, _, hBc, _⟩ := id hc
  have HC := Lib.hid hc
  clear hc
  go_enter Tryd.func20, Tryd.ntmps20
  go_wp2_with fail
  go_loopw [5, 6] (fun v i wr => ∃ k : Nat, ∃ l : List UInt8, k ≤ n ∧ i = .int .i64 k ∧ Hid (l.length = k) ∧ OwnB w.heap.size v l wr ∧ Cur c B wr ∧ Only c w wr) (fun _ i _ => n - (intOf i).toNat)
  case atStart => exact ⟨0, [], Nat.zero_le _, rfl, rfl, World.ownsRow_made w #[] 0 (Nat.le_refl _) (by decide) rfl, HC.out.alloc _, (Only.refl _ _).alloc _⟩
  case round =>
    obtain ⟨k, l, hk, rfl, HL, hown, hcr, hor⟩ := hrel
    have hsr := hor.size
    by_cases hlt : k < n
    · go_wp2_with fail
      refine (l01Byte_any hcr).mono ?_
      rintro e w2 ⟨x, rfl, hx0, hx1, hc2, ho2⟩
      have own2 := hown.only ho2 hltc
      have hs2 := ho2.size
      have ho3 := hor.trans ho2
      clear hown hcr ho2 hor
      go_wp2_with (at_builtin; refine wpList_append_own _ rfl _ _ 22 rfl w.heap.size 5 i0 (.int .u8 0) 1 1 Tryd.underlying22 hi hz0 hz1 hz2 rfl (by decide) _ _ _ rfl (World.ownsRow.alloc own2 _) ⟨w2.heap.size, 0, none⟩ 1 1 [.int .u8 x] rfl rfl (cell_one_new _ _ _) (by intro u hu; simp at hu; subst hu; rfl) (by rw [HL.out]; unfold maxLen; omega) (by rw [HL.out]; omega) (by rw [World.size_alloc]; omega) ?_)
      intro v' w3 hown3 hgrow _
      have R : OwnB w.heap.size v' (l ++ [UInt8.ofNat x.toNat]) w3 := own_more hown3 (by simp; omega)
      have hrow : ∀ k, Value.ownBlock u5 = some k → w.heap.size ≤ k := fun k hk => (World.ownsRow.lt own2 k hk).1
      have hc3 := (hc2.alloc (.cells #[.int .u8 x] 5)).grown hgrow (fun k hk => by have := hrow k hk; omega)
      have ho4 := (ho3.alloc (.cells #[.int .u8 x] 5)).grown hgrow hrow
      clear hown3 hgrow own2 hc2 ho3
      go_wp2_with fail
      go_roundw
      case rel => exact ⟨k + 1, _, by omega, by go_num, by show List.length _ = _; rw [List.length_append, HL.out]; rfl, R, hc3, ho4⟩
      case measure => simp [intOf]; omega
    · obtain rfl : k = n := by omega
      have hcv := hown.conv
      clear hown
      go_wp2_with fail
      go_ret
      exact ⟨_, rfl, by have := HL.out; rw [Lib.size_eq]; exact this, hcr, hor⟩


end Go.Proofs.YtgeinpmmghpjcaaDoor
