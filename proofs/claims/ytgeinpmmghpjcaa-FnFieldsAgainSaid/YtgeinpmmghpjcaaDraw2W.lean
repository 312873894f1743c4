/-
  More draws of package spec: texts, long texts, places.
-/
import Derived.Test.YtgeinpmmghpjcaaDrawW
import Derived.Test.YtgeinpmmghpjcaaBytesW
namespace Go.Proofs.Ytgeinpmmghpjcaa
open Go.RowKit Go.PlainAid
set_option linter.unusedVariables false

/-- A text of n bytes; nothing that was there has turned. -/
def LongT (n : Nat) (w : World) (e : Ending) (w' : World) : Prop := ∃ s : ByteArray, e = .returned (.string s) ∧ s.size = n ∧ Below w.heap.size w w'

theorem OwnB.at {B n c : Nat} {a : Option Addr} {l : List UInt8} {w : World} (h : OwnB B (.slice a n c) l w) {k : Nat} (hk : k < l.length) :
    ∃ g, a = some ⟨g, 0, none⟩ ∧ w.cell? ⟨g, k, none⟩ = some (.int .u8 (l[k].toNat : Int)) ∧ w.frozen? ⟨g, k, none⟩ = false ∧ B ≤ g ∧ g < w.heap.size := by
  have hc := fun g hg => World.ownsRow.cells h (g := g) hg k (.int .u8 (l[k].toNat : Int)) (by simp [Lib.byteCells, hk])
  rcases h.2 with ⟨_, h0⟩ | ⟨g, cap, cur, hv, hB, hh, _⟩
  · omega
  · cases hv
    refine ⟨g, rfl, ?_, ?_, hB, lt_of_block hh⟩
    · have := hc g rfl
      rwa [Addr.add_lit, Nat.zero_add] at this
    · simp [World.frozen?, hh]

set_option maxHeartbeats 1000000 in
set_option maxRecDepth 100000 in
theorem l01Long_any (m : Int) (x : Int) (w : World) (h0 : 0 ≤ m) (h1 : m ≤ 1000000) (x0 : 0 ≤ x) (x1 : x ≤ 255) :
    Calls Try.prog 29 #[.int .i64 m, .int .u8 x] w (LongT m.toNat w) := by
  obtain ⟨n, rfl⟩ := Int.eq_ofNat_of_zero_le h0
  rw [Int.toNat_natCast]
  obtain ⟨i0, hi, hz0, hz1, hz2⟩ := info_parts infoB
  go_enter Try.func29, Try.ntmps29
  go_wp2_with (at_make; refine wpList_make_full _ rfl _ _ 22 rfl w.heap.size 5 i0 (.int .u8 0) 1 Try.underlying22 hi hz0 hz1 _ _ _ _ n rfl rfl rfl rfl (by rw [hz2]; omega) (by unfold maxLen; omega) (Nat.le_refl _) ?_)
  intro w1 hown hgr
  have hb1 : Below w.heap.size w w1 := (Below.refl _ _).grown hgr (Nat.le_refl _) (fun k hk => by cases hk)
  have hO : Hid (∃ l : List UInt8, l.length = n ∧ OwnB w.heap.size (.slice (some ⟨w.heap.size, 0, none⟩) n n) l w1) := by
    refine ⟨List.replicate n 0, by simp, ?_⟩
    unfold OwnB
    rw [List.length_replicate]
    rw [made_one] at hown
    rw [show Lib.byteCells (List.replicate n 0) = List.replicate n (Value.int .u8 0) by simp [Lib.byteCells]]
    exact hown
  clear hgr hown
  go_wp2_with fail
  go_loopw [6] (fun i wr => ∃ k : Nat, ∃ l : List UInt8, k ≤ n ∧ i = .int .i64 k ∧ Hid (l.length = n) ∧ OwnB w.heap.size (.slice (some ⟨w.heap.size, 0, none⟩) n n) l wr ∧ Below w.heap.size w wr) (fun i _ => n - (intOf i).toNat)
  case atStart =>
    obtain ⟨l, hl, ho⟩ := hO.out
    exact ⟨0, l, Nat.zero_le _, rfl, hl, ho, hb1⟩
  case round =>
    obtain ⟨k, l, hk, rfl, HL, hown, hbk⟩ := hrel
    by_cases hlt : k < n
    · obtain ⟨g, hg, hc, hf, hB, hgl⟩ := hown.at (k := k) (by rw [HL.out]; exact hlt)
      obtain rfl : w.heap.size = g := by simpa using hg
      obtain ⟨old, hco⟩ : ∃ u, wr.cell? ⟨w.heap.size, k, none⟩ = some u := ⟨_, hc⟩
      have HO2 := Lib.hid hown
      have HB2 := Lib.hid hbk
      have HX : Hid (x = ((UInt8.ofNat x.toNat).toNat : Int)) := by show x = _; simp; omega
      clear hown hbk hc hg
      go_wp2_with fail
      have R : OwnB w.heap.size (.slice (some ⟨w.heap.size, 0, none⟩) n n) (l.set k (UInt8.ofNat x.toNat)) (wr.setCell ⟨w.heap.size, k, none⟩ (.int .u8 x)) := by
        have h1 := HO2.out
        unfold OwnB at h1 ⊢
        rw [HL.out] at h1
        rw [List.length_set, HL.out]
        have h2 := (World.ownsRow.stored h1 k (.int .u8 x)).1
        have e : Lib.byteCells (l.set k (UInt8.ofNat x.toNat)) = (Lib.byteCells l).set k (.int .u8 x) := by
          unfold Lib.byteCells; rw [List.map_set, ← HX.out]
        rw [e]; exact h2
      go_roundw
      case rel => exact ⟨k + 1, _, by omega, by go_num, by show List.length _ = n; rw [List.length_set]; exact HL.out, R, HB2.out.setCell (Nat.le_refl _) _⟩
      case measure => simp [intOf]; omega
    · have HC : Hid ((convert 22 9 (.slice (some ⟨w.heap.size, 0, none⟩) n n)).run Try.prog wr = .ok (.string ⟨l.toArray⟩) wr) := hown.conv
      have hcv := HC.out
      clear hown
      go_wp2_with fail
      go_ret
      exact ⟨_, rfl, by have := HL.out; simpa [ByteArray.size] using this, hbk⟩

/-- A row of texts that is there: block b, from cell 0 on. -/
def Strs (w : World) (b : Nat) (zs : List ByteArray) : Prop := b < w.heap.size ∧ ∀ i (h : i < zs.length), w.cell? ⟨b, i, none⟩ = some (.string zs[i])
theorem Strs.only {w w' : World} {b c : Nat} {zs : List ByteArray} (h : Strs w b zs) (ho : Only c w w') (hne : b ≠ c) : Strs w' b zs :=
  ⟨Nat.lt_of_lt_of_le h.1 ho.size, fun i hi => (World.cell?_of_block (w := w) (ho.block b h.1 hne)).trans (h.2 i hi)⟩
theorem strs_new (w : World) (zs : List ByteArray) (vs : Array Value) (t : TypeId) (h : vs = (zs.map Value.string).toArray) : Strs (w.alloc (.cells vs t)) w.heap.size zs := by
  subst h
  refine ⟨by simp, fun i hi => ?_⟩
  have h2 := heap_alloc_new w (.cells (zs.map Value.string).toArray t)
  unfold World.cell?
  simp only [h2]
  simp [hi]
/-- What a draw out of a list of texts leaves. -/
def DrewS (P : ByteArray → Prop) (c B : Nat) (w : World) (e : Ending) (w' : World) : Prop :=
  ∃ x : ByteArray, e = .returned (.string x) ∧ P x ∧ Cur c B w' ∧ Only c w w'

theorem l01Pick_any {c B : Nat} {w : World} (P : ByteArray → Prop) (hc : Cur c B w) (b cap : Nat) (zs : List ByteArray) (h : Strs w b zs) (hne : b ≠ c) (h0 : 0 < zs.length) (hmax : zs.length ≤ 1000000) (hP : ∀ x ∈ zs, P x) :
    Calls Try.prog 30 #[.pointer (some ⟨c, 0, none⟩), .slice (some ⟨b, 0, none⟩) zs.length cap] w (DrewS P c B w) := by
  obtain ⟨n, hn⟩ : ∃ n, zs.length = n := ⟨_, rfl⟩
  have HP := Lib.hid hP; clear hP
  have HI := Lib.hid h; clear h
  rw [hn] at h0 hmax ⊢
  have HN := Lib.hid hn; clear hn
  go_enter Try.func30, Try.ntmps30
  go_wp2_with fail
  refine (l01Below_any hc (n : Int) (by omega)).mono ?_
  rintro e w1 ⟨x, rfl, hx0, hx1, hc1, ho1⟩
  rw [topOf_pos (by omega)] at hx1
  obtain ⟨j, rfl⟩ := Int.eq_ofNat_of_zero_le hx0
  have hj : j < zs.length := by rw [HN.out]; omega
  have hcell : w1.cell? ⟨b, j, none⟩ = some (.string zs[j]) := (HI.out.only ho1 hne).2 j hj
  have HM : Hid (zs[j] ∈ zs) := List.getElem_mem _
  obtain ⟨y, hy⟩ : ∃ y, zs[j] = y := ⟨_, rfl⟩
  rw [hy] at hcell HM
  clear hy hj
  go_wp2
  go_ret
  exact ⟨_, rfl, HP.out _ HM.out, hc1, ho1⟩

/-- A row of the call's own that holds the numbers l. -/
def OwnI (B : Nat) (v : Value) (l : List Int) (w : World) : Prop := w.ownsRow B 3 1 v l.length (l.map (Value.int .i64))
theorem infoI : (Try.prog.info? 3).map (fun i => (i.zero, i.size, i.bytes)) = some (some (.int .i64 0), 1, 8) := by kernel_rfl
theorem ownI_more {B : Nat} {v : Value} {l : List Int} {x : Int} {w : World} (h : w.ownsRow B 3 1 v (l.length + 1) (l.map (Value.int .i64) ++ [.int .i64 x])) : OwnI B v (l ++ [x]) w := by
  unfold OwnI
  rw [show (l ++ [x]).length = l.length + 1 by simp, show (l ++ [x]).map (Value.int .i64) = l.map (Value.int .i64) ++ [.int .i64 x] by simp]
  exact h
theorem OwnI.shape {B : Nat} {v : Value} {l : List Int} {w : World} (h : OwnI B v l w) : ∃ a cap, v = .slice a l.length cap := by
  rcases h.2 with ⟨rfl, h0⟩ | ⟨g, cap, cur, rfl, _⟩
  · exact ⟨none, 0, by rw [h0]⟩
  · exact ⟨_, cap, rfl⟩
theorem OwnI.mono {B C : Nat} {v : Value} {l : List Int} {w : World} (h : OwnI B v l w) (hC : C ≤ B) : OwnI C v l w := by
  refine ⟨h.1, ?_⟩
  rcases h.2 with hv | ⟨b, cap, cur, hv, hB, r⟩
  · exact .inl hv
  · exact .inr ⟨b, cap, cur, hv, by omega, r⟩
theorem OwnI.below {B : Nat} {v : Value} {l : List Int} {w w' : World} (h : OwnI B v l w) (hb : Below w.heap.size w w') : OwnI B v l w' := by
  refine ⟨h.1, ?_⟩
  rcases h.2 with hv | ⟨b, cap, cur, hv, hB, hh, r⟩
  · exact .inl hv
  · exact .inr ⟨b, cap, cur, hv, hB, by rw [hb.block b (lt_of_block hh)]; exact hh, r⟩

theorem Cur.grown {c B : Nat} {w w' : World} {row : Option Nat} (h : Cur c B w) (hg : w.grownBy w' row) (hr : ∀ k, row = some k → B ≤ k ∧ k ≠ c) : Cur c B w' := by
  have hlt := h.lt
  obtain ⟨a, len, cap, zs, i, g, hh, hB, hrow, ha, r⟩ := h
  have hb : Below B w w' := (Below.refl B w).grown hg (by omega) (fun k hk => (hr k hk).1)
  exact ⟨a, len, cap, zs, i, g, by rw [hg.block c hlt (fun e => (hr c e.symm).2 rfl)]; exact hh, hB, hrow.below ha hb, ha, r⟩

/-- Twelve places, each from 0 to 9999, in a row of the call's own. -/
def Places (w : World) (e : Ending) (w' : World) : Prop :=
  ∃ (g cap : Nat) (l : List Int), e = .returned (.slice (some ⟨g, 0, none⟩) 12 cap) ∧ l.length = 12 ∧ (∀ x ∈ l, 0 ≤ x ∧ x ≤ 9999) ∧ OwnI w.heap.size (.slice (some ⟨g, 0, none⟩) 12 cap) l w' ∧ Below w.heap.size w w'

set_option maxHeartbeats 1000000 in
set_option maxRecDepth 100000 in
theorem drawPlaces_any {a : Option Addr} {len cap : Nat} {zs : List Int} {w : World} (hr : IsRow .u8 w a len cap zs) :
    Calls Try.prog 15 #[.slice a len cap] w (Places w) := by
  obtain ⟨i0, hi, hz0, hz1, hz2⟩ := info_parts infoI
  go_enter Try.func15, Try.ntmps15
  go_wp2_with fail
  refine (l01New_any hr).mono ?_
  rintro e w1 ⟨c, rfl, hBc, hc1, hb1⟩
  have hlt := hc1.lt
  have hs1 := hb1.size
  have HC1 := Lib.hid hc1
  have HB1 := Lib.hid hb1
  clear hr hc1 hb1
  go_wp2_with fail
  go_loopw [4, 5] (fun v i wr => ∃ k : Nat, ∃ l : List Int, k ≤ 12 ∧ i = .int .i64 k ∧ Hid (l.length = k) ∧ Hid (∀ x ∈ l, 0 ≤ x ∧ x ≤ 9999) ∧ OwnI w1.heap.size v l wr ∧ Cur c w.heap.size wr ∧ w1.heap.size ≤ wr.heap.size ∧ Below w.heap.size w wr) (fun _ i _ => 12 - (intOf i).toNat)
  case atStart => exact ⟨0, [], by omega, rfl, rfl, fun x h => (by cases h), World.ownsRow_made w1 #[] 0 (Nat.le_refl _) (by decide) rfl, HC1.out.alloc _, by simp, HB1.out.alloc hs1 _⟩
  case round =>
    obtain ⟨k, l, hk, rfl, HL, HA, hown, hcr, hsr, hbr⟩ := hrel
    by_cases hlt12 : k < 12
    · go_wp2_with fail
      refine (l01Below_any hcr 10000 (by omega)).mono ?_
      rintro e w2 ⟨x, rfl, hx0, hx1, hc2, ho2⟩
      rw [topOf_pos (by omega)] at hx1
      have own2 : OwnI w1.heap.size u4 l w2 := by
        refine ⟨hown.1, ?_⟩
        rcases hown.2 with hv | ⟨b, cap, cur, hv, hB, hh, r⟩
        · exact .inl hv
        · exact .inr ⟨b, cap, cur, hv, hB, by rw [ho2.block b (lt_of_block hh) (by omega)]; exact hh, r⟩
      have hs2 := ho2.size
      have hb2 : Below w.heap.size w w2 := hbr.trans (ho2.below hBc (by omega))
      clear hown hcr hbr ho2
      go_wp2_with (at_builtin; refine wpList_append_own _ rfl _ _ 31 rfl w1.heap.size 3 i0 (.int .i64 0) 1 8 Try.underlying31 hi hz0 hz1 hz2 rfl (by decide) _ _ _ rfl (World.ownsRow.alloc own2 _) ⟨w2.heap.size, 0, none⟩ 1 1 [.int .i64 x] rfl rfl (cell_one_new _ _ _) (by intro u hu; simp at hu; subst hu; rfl) (by rw [HL.out]; unfold maxLen; omega) (by rw [HL.out]; omega) (by rw [World.size_alloc]; omega) ?_)
      intro v' w3 hown3 hgrow _
      have R := Lib.hid (ownI_more hown3)
      have hc3 := (hc2.alloc _).grown hgrow (fun k hk => by have := (World.ownsRow.lt own2 k hk).1; omega)
      have hb3 : Below w.heap.size w w3 := (hb2.alloc (by omega) _).grown hgrow (by rw [World.size_alloc]; omega) (fun k hk => by have := (World.ownsRow.lt own2 k hk).1; omega)
      have hs3 : w1.heap.size ≤ w3.heap.size := by have := hgrow.size; rw [World.size_alloc] at this; omega
      clear hown3 hgrow own2 hc2 hb2
      go_wp2_with fail
      go_roundw
      case rel => exact ⟨k + 1, l ++ [x], by omega, by go_num, by show List.length _ = _; rw [List.length_append, HL.out]; rfl, fun y hy => by rcases List.mem_append.1 hy with h | h; exact HA.out y h; simp at h; subst h; omega, R.out, hc3, hs3, hb3⟩
      case measure => simp [intOf]; omega
    · obtain rfl : k = 12 := by omega
      have HO := Lib.hid hown
      clear hown
      go_wp2_with fail
      go_ret
      obtain ⟨h1, h2⟩ := HO.out
      rcases h2 with ⟨_, h0⟩ | ⟨g, cap', cur, hv, hB, r⟩
      · have := HL.out; omega
      · rw [HL.out] at hv
        refine ⟨g, cap', l, ?_, HL.out, HA.out, ?_, hbr⟩
        · show Ending.returned u4 = _
          rw [hv]
        · rw [← hv]; exact HO.out.mono hs1
end Go.Proofs.Ytgeinpmmghpjcaa
