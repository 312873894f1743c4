/-
  Texts of one proof, merged: DrawW, ClampW, BitsW, CodN.
-/
import Derived.Test.YtfpfgaifhmgpiaaDoorQL141
import Derived.BigQuiet
import Derived.Deep.QuietTactic
import Derived.WalkLawsBesides
namespace Go.Proofs.YtfpfgaifhmgpiaaDoor
open Go.RowKit

set_option linter.unusedVariables false

theorem IsRow.below {k : IntKind} {B : Nat} {w w' : World} {a : Option Addr} {len cap : Nat} {zs : List Int} (h : IsRow k w a len cap zs) (ha : ∀ x, a = some x → 0 < cap → x.block < B) (hb : Below B w w') : IsRow k w' a len cap zs := by
  rcases h with h | ⟨x, rfl, h1, h2, h3, h4, h5⟩
  · exact .inl h
  · refine .inr ⟨x, rfl, h1, h2, h3, fun i hi => ?_, h5⟩
    rw [hb.cell (by have := ha x rfl (by omega); unfold Addr.add; split <;> simpa using this)]
    exact h4 i hi

/-- Block c is a cursor over a row of bytes that lies below block B. -/
def Cur (c B : Nat) (w : World) : Prop :=
  ∃ a len cs zs, ∃ i h : Int, w.heap[c]? = some (.cells #[.slice a len cs, .int .i64 i, .int .i64 h] 104 (0, 0)) ∧ B ≤ c ∧ (∃ cap, IsRow .u8 w a len cap zs ∧ ∀ x, a = some x → 0 < cap → x.block < B) ∧
    0 ≤ i ∧ i ≤ (len : Int) ∧ len ≤ maxLen

theorem Cur.lt {c B : Nat} {w : World} (h : Cur c B w) : c < w.heap.size := by
  obtain ⟨a, len, cap, zs, i, g, hh, _⟩ := h
  exact lt_of_block hh

/-- What a draw leaves: some number from lo to hi. -/
def Drew (c B : Nat) (lo hi : Int) (w : World) (e : Ending) (w' : World) : Prop :=
  ∃ x : Int, e = .returned (.int .i64 x) ∧ lo ≤ x ∧ x ≤ hi ∧ Cur c B w' ∧ Only c w w'

theorem cur_cells {w : World} {c : Nat} {v0 v1 v2 : Value} {t : TypeId} (h : w.heap[c]? = some (.cells #[v0, v1, v2] t (0, 0))) :
    w.cell? ⟨c, 0, none⟩ = some v0 ∧ w.cell? ⟨c, 1, none⟩ = some v1 ∧ w.cell? ⟨c, 2, none⟩ = some v2 ∧ w.frozen? ⟨c, 0, none⟩ = false ∧ w.frozen? ⟨c, 1, none⟩ = false ∧ w.frozen? ⟨c, 2, none⟩ = false := by
  simp [World.cell?, World.frozen?, h]

theorem and255_b (n : Int) : 0 ≤ bits .and .i64 n 255 ∧ bits .and .i64 n 255 ≤ 255 := by rw [i64_and255]; omega

theorem cur_set2 {w : World} {c : Nat} {v0 v1 v2 u : Value} {t : TypeId} (h : w.heap[c]? = some (.cells #[v0, v1, v2] t (0, 0))) :
    (w.setCell ⟨c, 2, none⟩ u).heap[c]? = some (.cells #[v0, v1, u] t (0, 0)) := by
  have hlt := lt_of_block h
  have h' : w.heap[c] = .cells #[v0, v1, v2] t (0, 0) := by simpa [Array.getElem?_eq_getElem hlt] using h
  show (w.heap.modify c _)[c]? = _
  rw [Array.getElem?_eq_getElem (by simpa using hlt), Array.getElem_modify_self, h']
  rfl

theorem cur_set1 {w : World} {c : Nat} {v0 v1 v2 u : Value} {t : TypeId} (h : w.heap[c]? = some (.cells #[v0, v1, v2] t (0, 0))) :
    (w.setCell ⟨c, 1, none⟩ u).heap[c]? = some (.cells #[v0, u, v2] t (0, 0)) := by
  have hlt := lt_of_block h
  have h' : w.heap[c] = .cells #[v0, v1, v2] t (0, 0) := by simpa [Array.getElem?_eq_getElem hlt] using h
  show (w.heap.modify c _)[c]? = _
  rw [Array.getElem?_eq_getElem (by simpa using hlt), Array.getElem_modify_self, h']
  rfl

theorem drew_mk {c B : Nat} {lo hi : Int} {w w' : World} {a : Option Addr} {len cap cs : Nat} {zs : List Int} {x i h : Int}
    (hr : IsRow .u8 w a len cap zs) (ha : ∀ x, a = some x → 0 < cap → x.block < B) (hB : B ≤ c) (hl : len ≤ maxLen) (hx : lo ≤ x ∧ x ≤ hi)
    (hh : w'.heap[c]? = some (.cells #[.slice a len cs, .int .i64 i, .int .i64 h] 104 (0, 0))) (hi0 : 0 ≤ i) (hi1 : i ≤ (len : Int)) (hlt : c < w.heap.size) (ho : Only c w w') :
    Drew c B lo hi w (.returned (.int .i64 x)) w' :=
  ⟨x, rfl, hx.1, hx.2, ⟨a, len, cs, zs, i, h, hh, hB, ⟨cap, hr.below ha (ho.below hB (by omega)), ha⟩, hi0, hi1, hl⟩, ho⟩

set_option maxHeartbeats 1000000 in
set_option maxRecDepth 100000 in
theorem l01Byte_any {c B : Nat} {w : World} (hc : Cur c B w) :
    Calls Tryd.prog 77 #[.pointer (some ⟨c, 0, none⟩)] w (Drew c B 0 255 w) := by
  obtain ⟨a, len, cs, zs, i, h, hh, hB, ⟨cap, hrow, hab⟩, hi0, hi1, hl⟩ := hc
  obtain ⟨c0, c1, c2, f0, f1, f2⟩ := cur_cells hh
  have hl' := hl
  have HH := Lib.hid hh; clear hh
  have HR := Lib.hid hrow
  have HA := Lib.hid hab
  unfold maxLen at hl
  by_cases hlt : i < (len : Int)
  · rcases hrow with ⟨rfl, rfl, rfl, rfl⟩ | ⟨x, rfl, h1, h2, h3, h4, h5⟩
    · omega
    obtain ⟨k, rfl⟩ := Int.eq_ofNat_of_zero_le hi0
    have hk := h4 k (by omega)
    obtain ⟨b, off, spot⟩ := x
    have hspot : spot = none := by
      simpa [Addr.add] using World.cell?_spot (h4 0 (by omega))
    subst hspot
    have hbB := hab _ rfl (by omega)
    have hbc : b ≠ c := by simp at hbB; omega
    have hk' : w.cell? ⟨b, off + k, none⟩ = some (.int .u8 (zs.getD k 0)) := by rw [← Addr.add_lit]; exact hk
    have hu : (Lit.int .u8 (zs.getD k 0)).wf = true := by
      refine h5 _ ?_
      rw [List.getD_eq_getElem?_getD, List.getElem?_eq_getElem (by omega)]
      exact List.getElem_mem _
    have hub : 0 ≤ zs.getD k 0 ∧ zs.getD k 0 ≤ 255 := by simpa [Lit.wf, IntKind.min, IntKind.max, IntKind.signed, IntKind.bits] using hu
    obtain ⟨y, hy⟩ : ∃ y, zs.getD k 0 = y := ⟨_, rfl⟩
    rw [hy] at hk' hub
    obtain ⟨hu0, hu1⟩ := hub
    clear hk h4 h5 hab hu hy
    go_enter Tryd.func77, Tryd.ntmps77
    go_wp2
    go_quiet (fail)
    go_wp2
    go_quiet (fail)
    go_wp2
    go_quiet (fail)
    go_wp2
    go_ret
    refine drew_mk HR.out HA.out hB hl' (and255_b _) (cur_set1 (cur_set2 HH.out)) (by omega) (by omega) (lt_of_block HH.out) ?_
    repeat (first | exact Only.refl _ _ | refine Only.drewN ?_ _ | refine Only.setCell ?_ (by rfl) _)
  · have hge : (len : Int) ≤ i := by omega
    go_enter Tryd.func77, Tryd.ntmps77
    go_wp2
    go_quiet (fail)
    go_wp2
    go_quiet (fail)
    go_wp2
    go_ret
    refine drew_mk HR.out HA.out hB hl' (and255_b _) (cur_set2 HH.out) hi0 hi1 (lt_of_block HH.out) ?_
    repeat (first | exact Only.refl _ _ | refine Only.drewN ?_ _ | refine Only.setCell ?_ (by rfl) _)

/-- The greatest number that a draw below n answers. -/
def topOf (n : Int) : Int := if n ≤ 0 then 0 else n - 1

theorem topOf_pos {n : Int} (h : 0 < n) : topOf n = n - 1 := by unfold topOf; rw [if_neg (by omega)]

theorem topOf_non {n : Int} (h : n ≤ 0) : topOf n = 0 := by unfold topOf; rw [if_pos h]

theorem rem_top {x n : Int} (h0 : 0 < n) (hx : 0 ≤ x) : 0 ≤ x % n ∧ x % n ≤ topOf n := by
  have h1 := Int.emod_nonneg x (show n ≠ 0 by omega)
  have h2 := Int.emod_lt_of_pos x h0
  rw [topOf_pos h0]; omega

/-- A draw below n. -/
theorem l01Below_any {c B : Nat} {w : World} (hc : Cur c B w) (n : Int) (hn : n ≤ 9223372036854775807) :
    Calls Tryd.prog 34 #[.pointer (some ⟨c, 0, none⟩), .int .i64 n] w (Drew c B 0 (topOf n) w) := by
  by_cases h0 : n ≤ 0
  · have ht := Lib.hid (topOf_non h0)
    go_enter Tryd.func34, Tryd.ntmps34
    go_wp2
    go_ret
    exact ⟨0, rfl, by omega, by rw [ht.out]; omega, hc, Only.refl _ _⟩
  · have h0' : 0 < n := by omega
    by_cases h1 : n ≤ 256
    · go_enter Tryd.func34, Tryd.ntmps34
      go_wp2_with fail
      refine (l01Byte_any hc).mono ?_
      rintro e w1 ⟨x, rfl, hx0, hx1, hc1, ho1⟩
      go_wp2
      go_ret
      exact ⟨_, rfl, (rem_top h0' hx0).1, (rem_top h0' hx0).2, hc1, ho1⟩
    · go_enter Tryd.func34, Tryd.ntmps34
      go_wp2_with fail
      refine (l01Byte_any hc).mono ?_
      rintro e w1 ⟨x, rfl, hx0, hx1, hc1, ho1⟩
      go_wp2_with fail
      refine (l01Byte_any hc1).mono ?_
      rintro e w2 ⟨y, rfl, hy0, hy1, hc2, ho2⟩
      go_wp2_with fail
      refine (l01Byte_any hc2).mono ?_
      rintro e w3 ⟨z, rfl, hz0, hz1, hc3, ho3⟩
      go_wp2_with fail
      refine (l01Byte_any hc3).mono ?_
      rintro e w4 ⟨u, rfl, hu0, hu1, hc4, ho4⟩
      go_wp2
      go_ret
      exact ⟨_, rfl, (rem_top h0' (by omega)).1, (rem_top h0' (by omega)).2, hc4, ((ho1.trans ho2).trans ho3).trans ho4⟩

/-- The cursor that spec.l01New makes: a new block; nothing that was there has turned. -/
def Made (B : Nat) (w : World) (e : Ending) (w' : World) : Prop :=
  ∃ c : Nat, e = .returned (.pointer (some ⟨c, 0, none⟩)) ∧ B ≤ c ∧ Cur c B w' ∧ Below w.heap.size w w'

/-- What a row of bytes gives at an index. -/
theorem IsRow.byte {w : World} {a : Option Addr} {len cap : Nat} {zs : List Int} (h : IsRow .u8 w a len cap zs) {k : Nat} (hk : k < len) :
    ∃ b off : Nat, ∃ y : Int, a = some ⟨b, off, none⟩ ∧ w.cell? ⟨b, off + k, none⟩ = some (.int .u8 y) ∧ 0 ≤ y ∧ y ≤ 255 := by
  rcases h with ⟨rfl, rfl, rfl, rfl⟩ | ⟨x, rfl, h1, h2, h3, h4, h5⟩
  · omega
  have hk' := h4 k (by omega)
  obtain ⟨b, off, spot⟩ := x
  have hspot : spot = none := by simpa [Addr.add] using World.cell?_spot (h4 0 (by omega))
  subst hspot
  have hu : (Lit.int .u8 (zs.getD k 0)).wf = true := by
    refine h5 _ ?_
    rw [List.getD_eq_getElem?_getD, List.getElem?_eq_getElem (by omega)]
    exact List.getElem_mem _
  have hub : 0 ≤ zs.getD k 0 ∧ zs.getD k 0 ≤ 255 := by simpa [Lit.wf, IntKind.min, IntKind.max, IntKind.signed, IntKind.bits] using hu
  exact ⟨b, off, _, rfl, by rw [← Addr.add_lit]; exact hk', hub.1, hub.2⟩

theorem IsRow.len_le {w : World} {k : IntKind} {a : Option Addr} {len cap : Nat} {zs : List Int} (h : IsRow k w a len cap zs) : len ≤ maxLen := by
  rcases h with ⟨_, rfl, _⟩ | ⟨x, _, h1, h2, _⟩
  · unfold maxLen; omega
  · omega

theorem IsRow.lt {w : World} {k : IntKind} {a : Option Addr} {len cap : Nat} {zs : List Int} (h : IsRow k w a len cap zs) {x : Addr} (hx : a = some x) (hc : 0 < cap) : x.block < w.heap.size := by
  rcases h with ⟨rfl, _⟩ | ⟨y, rfl, h1, h2, h3, h4, h5⟩
  · cases hx
  · cases hx
    have := World.block_lt_of_cell? _ _ (h4 0 (by omega))
    simpa [Addr.add] using this

theorem made_mk {w : World} {a : Option Addr} {len cap cs : Nat} {zs : List Int} (hr : IsRow .u8 w a len cap zs) (ha : ∀ x, a = some x → 0 < cap → x.block < w.heap.size) (q : Int) :
    Made w.heap.size w (.returned (.pointer (some ⟨w.heap.size, 0, none⟩))) (w.alloc (.cells #[.slice a len cs, .int .i64 0, .int .i64 q] 104)) :=
  ⟨w.heap.size, rfl, Nat.le_refl _, ⟨a, len, cs, zs, 0, q, heap_alloc_new _ _, Nat.le_refl _, ⟨cap, hr.below ha ((Below.refl _ _).alloc (Nat.le_refl _) _), ha⟩, by omega, by omega, hr.len_le⟩, (Below.refl _ _).alloc (Nat.le_refl _) _⟩

set_option maxHeartbeats 1000000 in
set_option maxRecDepth 100000 in
theorem l01New_any {a : Option Addr} {len cap cs : Nat} {zs : List Int} {w : World} (hr : IsRow .u8 w a len cap zs) :
    Calls Tryd.prog 33 #[.slice a len cs] w (Made w.heap.size w) := by
  have HR := Lib.hid hr
  have HA := Lib.hid (fun x h => hr.lt (x := x) h)
  have hlen := hr.len_le
  have hlen' := hlen
  unfold maxLen at hlen'
  clear hr hlen
  go_enter Tryd.func33, Tryd.ntmps33
  go_wp2
  go_loop [3, 4] (fun h i => ∃ k : Nat, ∃ q : Int, k ≤ len ∧ i = .int .i64 k ∧ h = .int .i64 q) (fun _ i => len - (intOf i).toNat)
  case atStart => exact ⟨0, _, Nat.zero_le _, rfl, rfl⟩
  case round =>
    obtain ⟨k, q, hk, rfl, rfl⟩ := hrel
    by_cases hlt : k < len ∧ (k : Int) < 4000
    · obtain ⟨hlt, h4⟩ := hlt
      obtain ⟨b, off, y, hay, hcell, hy0, hy1⟩ := HR.out.byte hlt
      subst hay
      go_wp2
      go_round
      case rel => exact ⟨k + 1, _, by omega, by go_num, rfl⟩
      case measure => simp [intOf]; omega
    · by_cases hlt' : k < len
      · have h4 : (4000 : Int) ≤ (k : Int) := by omega
        clear hlt
        go_wp2
        go_ret
        exact made_mk HR.out HA.out q
      · have hge : len ≤ k := by omega
        clear hlt
        go_wp2
        go_ret
        exact made_mk HR.out HA.out q

/-- What a draw of a bool leaves. -/
def DrewB (c B : Nat) (w : World) (e : Ending) (w' : World) : Prop :=
  ∃ x : Bool, e = .returned (.bool x) ∧ Cur c B w' ∧ Only c w w'

theorem l01Once_any {c B : Nat} {w : World} (hc : Cur c B w) (n : Int) (hn : n ≤ 9223372036854775807) :
    Calls Tryd.prog 75 #[.pointer (some ⟨c, 0, none⟩), .int .i64 n] w (DrewB c B w) := by
  go_enter Tryd.func75, Tryd.ntmps75
  go_wp2_with fail
  refine (l01Below_any hc n hn).mono ?_
  rintro e w1 ⟨x, rfl, hx0, hx1, hc1, ho1⟩
  go_wp2
  go_ret
  exact ⟨_, rfl, hc1, ho1⟩

/-- What a draw out of a list leaves: one of its elements. -/
def DrewP (P : Int → Prop) (c B : Nat) (w : World) (e : Ending) (w' : World) : Prop :=
  ∃ x : Int, e = .returned (.int .i64 x) ∧ P x ∧ Cur c B w' ∧ Only c w w'

/-- A row of ints that is there: block b, from cell 0 on. -/
def Ints (w : World) (b : Nat) (zs : List Int) : Prop := b < w.heap.size ∧ ∀ i, i < zs.length → w.cell? ⟨b, i, none⟩ = some (.int .i64 (zs.getD i 0))

theorem Ints.only {w w' : World} {b c : Nat} {zs : List Int} (h : Ints w b zs) (ho : Only c w w') (hne : b ≠ c) : Ints w' b zs :=
  ⟨Nat.lt_of_lt_of_le h.1 ho.size, fun i hi => (World.cell?_of_block (w := w) (ho.block b h.1 hne)).trans (h.2 i hi)⟩

theorem l01PickInt_any {c B : Nat} {w : World} (P : Int → Prop) (hc : Cur c B w) (b cap : Nat) (zs : List Int) (h : Ints w b zs) (hne : b ≠ c) (h0 : 0 < zs.length) (hmax : zs.length ≤ 1000000) (hP : ∀ x ∈ zs, P x) :
    Calls Tryd.prog 99 #[.pointer (some ⟨c, 0, none⟩), .slice (some ⟨b, 0, none⟩) zs.length cap] w (DrewP P c B w) := by
  obtain ⟨n, hn⟩ : ∃ n, zs.length = n := ⟨_, rfl⟩
  have HP := Lib.hid hP; clear hP
  have HI := Lib.hid h; clear h
  rw [hn] at h0 hmax ⊢
  have HN := Lib.hid hn; clear hn
  go_enter Tryd.func99, Tryd.ntmps99
  go_wp2_with fail
  refine (l01Below_any hc (n : Int) (by omega)).mono ?_
  rintro e w1 ⟨x, rfl, hx0, hx1, hc1, ho1⟩
  rw [topOf_pos (by omega)] at hx1
  obtain ⟨j, rfl⟩ := Int.eq_ofNat_of_zero_le hx0
  have HM : Hid (zs.getD j 0 ∈ zs) := by
    have := HN.out
    rw [List.getD_eq_getElem?_getD, List.getElem?_eq_getElem (by omega)]
    exact List.getElem_mem _
  have hcell : w1.cell? ⟨b, j, none⟩ = some (.int .i64 (zs.getD j 0)) := (HI.out.only ho1 hne).2 j (by rw [HN.out]; omega)
  obtain ⟨y, hy⟩ : ∃ y, zs.getD j 0 = y := ⟨_, rfl⟩
  rw [hy] at hcell
  have HY := Lib.hid hy; clear hy
  go_wp2
  go_ret
  exact ⟨_, rfl, by rw [← HY.out]; exact HP.out _ HM.out, hc1, ho1⟩

theorem ints_new (w : World) (zs : List Int) (vs : Array Value) (t : TypeId) (h : vs = (zs.map (Value.int .i64)).toArray) : Ints (w.alloc (.cells vs t)) w.heap.size zs := by
  subst h
  refine ⟨by simp, fun i hi => ?_⟩
  have h2 := heap_alloc_new w (.cells (zs.map (Value.int .i64)).toArray t)
  unfold World.cell?
  simp only [h2]
  simp [hi]

theorem Cur.alloc {c B : Nat} {w : World} (h : Cur c B w) (o : Obj) : Cur c B (w.alloc o) := by
  have hlt := h.lt
  obtain ⟨a, len, cs, zs, i, g, hh, hB, ⟨cap, hr, ha⟩, r⟩ := h
  exact ⟨a, len, cs, zs, i, g, by rw [Below.heap_alloc _ _ _ hlt]; exact hh, hB, ⟨cap, hr.below ha ((Below.refl B w).alloc (by omega) _), ha⟩, r⟩

theorem big_any (a : Option Addr) (len cap : Nat) (w : World) (h : (len : Int) ≤ 9223372036854775807) :
    Calls Tryd.prog 9 #[.slice a len cap] w fun e w' => e = .returned (.bool (decide ((1048576 : Int) < (len : Int)))) ∧ w = w' := by
  go_enter Tryd.func9, Tryd.ntmps9
  go_wp2
  go_ret
  exact ⟨rfl, rfl⟩

end Go.Proofs.YtfpfgaifhmgpiaaDoor

namespace Go.Proofs.YtfpfgaifhmgpiaaDoor

open Go.RowKit

def clampF (n lo hi : Int) : Int := if hi < lo ∨ n < lo then lo else if n > hi then hi else n

theorem implClamp_any (n lo hi : Int) (w : World) :
    Calls Tryd.prog 82 #[.int .i64 n, .int .i64 lo, .int .i64 hi] w fun e w' => e = .returned (.int .i64 (clampF n lo hi)) ∧ w = w' := by
  go_enter Tryd.func82, Tryd.ntmps82
  go_wp2
  all_goals (go_ret; refine ⟨?_, rfl⟩; refine ret_i ?_; unfold clampF; repeat' split; all_goals omega)

end Go.Proofs.YtfpfgaifhmgpiaaDoor

namespace Go.Proofs.YtfpfgaifhmgpiaaDoor
open Go.RowKit

set_option linter.unusedVariables false

/-- A call that answers v and turns nothing. -/
def Says (v : Value) (w : World) (e : Ending) (w' : World) : Prop := e = .returned v ∧ w = w'

end Go.Proofs.YtfpfgaifhmgpiaaDoor

namespace Go.Proofs.YtfpfgaifhmgpiaaDoor

set_option linter.unusedVariables false

theorem fnd_at {p : Int → Bool} {k : Int} (hp : p k = true) : ∀ (n : Nat) (lo : Int), lo ≤ k → k < lo + n → (∀ i, lo ≤ i → i < k → p i = false) → fnd p lo n = k
  | 0, lo, h1, h2, _ => by omega
  | n + 1, lo, h1, h2, h => by
    unfold fnd
    by_cases e : lo = k
    · subst e; rw [if_pos hp]
    · rw [if_neg (by rw [h lo (by omega) (by omega)]; decide)]
      exact fnd_at hp n (lo + 1) (by omega) (by omega) fun i h1 h2 => h i (by omega) h2

/-- Place m tells these sums. -/
def Hit (a b c : Nat) (m : Nat) : Prop := a ≠ 0 ∧ gm a (gp 2 m) = b ∧ gm b (gp 2 m) = c

instance (a b c m : Nat) : Decidable (Hit a b c m) := inferInstanceAs (Decidable (_ ∧ _))

theorem fixAt_hit {a b c k : Nat} (hk : k < 11) (h : Hit a b c k) (hn : ∀ m < k, ¬ Hit a b c m) : fixAt a b c = (k : Int) := by
  unfold fixAt
  refine fnd_at (k := (k : Int)) (decide_eq_true h) 11 0 (by omega) (by omega) fun i h1 h2 => decide_eq_false (hn i.toNat (by omega))

theorem fixAt_none {a b c : Nat} (hn : ∀ m < 11, ¬ Hit a b c m) : fixAt a b c = -1 := by
  unfold fixAt
  exact fnd_none 11 0 fun i h1 h2 => decide_eq_false (hn i.toNat (by omega))

theorem corW_no {l : List Int} (h : ¬ SymOk l 11) : corW l = ([], 2, -1) := if_neg h

theorem corW_zero {l : List Int} (h : SymOk l 11) (hz : Zero3 (nats l)) : corW l = (l, 0, -1) := by
  unfold corW
  rw [if_pos h, correct_none hz]
  show (ints (nats l), (0 : Int), (-1 : Int)) = _
  rw [ints_nats h.1]

theorem corW_none {l : List Int} (h : SymOk l 11) (hz : ¬ Zero3 (nats l)) (hn : ∀ m < 11, ¬ Hit (syn 0 (nats l)) (syn 1 (nats l)) (syn 2 (nats l)) m) : corW l = (l, 2, -1) := by
  unfold corW correct
  rw [if_pos h, if_neg hz, if_pos (fixAt_none hn)]
  show (ints (nats l), (2 : Int), (-1 : Int)) = _
  rw [ints_nats h.1]

theorem corW_hit {l : List Int} (h : SymOk l 11) (hz : ¬ Zero3 (nats l)) {k : Nat} (hk : k < 11) (hh : Hit (syn 0 (nats l)) (syn 1 (nats l)) (syn 2 (nats l)) k)
    (hn : ∀ m < k, ¬ Hit (syn 0 (nats l)) (syn 1 (nats l)) (syn 2 (nats l)) m) :
    corW l = (l.set k (bits .xor .i64 (l.getD k 0) ((syn 0 (nats l) : Nat) : Int)), 1, (k : Int)) := by
  have hlen : l.length = 11 := by have := h.2; omega
  have hkl : k < l.length := by omega
  have hb : (nats l).getD k 0 < 16 := by
    rw [List.getD_eq_getElem?_getD, List.getElem?_eq_getElem (by rw [nats_length]; exact hkl)]
    exact nats_lt h.1 _ (List.getElem_mem _)
  unfold corW correct
  rw [if_pos h, if_neg hz, fixAt_hit hk hh hn, if_neg (by omega), nats_getD h.1 hkl, i64_xor_nat _ _ (by omega) (by have := syn_lt 0 (nats_lt h.1); omega)]
  simp only [Int.toNat_natCast]
  rw [ints_set, ints_nats h.1]

end Go.Proofs.YtfpfgaifhmgpiaaDoor
