/-
  The draw of a geometry.
-/
import Derived.Test.YtigoniochamjgaaDraw2W
import Derived.Test.YtigoniochamjgaaGeoW
namespace Go.Proofs.Ytigoniochamjgaa
open Go.RowKit

set_option linter.unusedVariables false

theorem Cur.keep {c B : Nat} {w w' : World} (h : Cur c B w) (h1 : w'.heap[c]? = w.heap[c]?) (hb : Below B w w') : Cur c B w' := by
  obtain ⟨a, len, cap, zs, i, g, hh, hB, hr, ha, r⟩ := h
  exact ⟨a, len, cap, zs, i, g, h1.trans hh, hB, hr.below ha hb, ha, r⟩

theorem Cur.setNew {c B : Nat} {w : World} (h : Cur c B w) {p : Addr} (hp : B ≤ p.block) (hc : p.block ≠ c) (u : Value) : Cur c B (w.setCell p u) :=
  h.keep (Below.heap_setCell _ _ _ _ (by omega)) ((Below.refl _ _).setCell hp _)

theorem Only.setNew {c : Nat} {a w : World} (h : Only c a w) {p : Addr} (hp : a.heap.size ≤ p.block) (u : Value) : Only c a (w.setCell p u) :=
  h.trans' ⟨rfl, rfl, rfl, by simp [World.setCell]⟩ (fun k hk _ => Below.heap_setCell _ _ _ _ (by omega))

/-- A drawn geometry: valid. -/
def DrewGeo (c B : Nat) (w : World) (e : Ending) (w' : World) : Prop :=
  ∃ a b r d : Int, e = .returned (.agg #[.int .i64 a, .int .i64 b, .int .i64 r, .int .i64 d]) ∧ ((1 ≤ a ∧ a ≤ 2) ∧ (1 ≤ b ∧ b ≤ 4) ∧ (2 ≤ r ∧ r ≤ 8) ∧ (1 ≤ d ∧ d ≤ 4)) ∧ Cur c B w' ∧ Only c w w'

set_option maxHeartbeats 1000000 in
theorem l03Geo_any {c B : Nat} {w : World} (hc : Cur c B w) :
    Calls Try.prog 50 #[.pointer (some ⟨c, 0, none⟩)] w (DrewGeo c B w) := by
  have hlt := hc.lt
  have hBc : B ≤ c := by obtain ⟨_, _, _, _, _, _, _, h, _⟩ := hc; exact h
  have hcz := hc.alloc (.cells #[.int .i64 0, .int .i64 0, .int .i64 0, .int .i64 0] 25)
  have HC := Lib.hid hcz
  clear hc hcz
  go_enter Try.func50, Try.ntmps50
  go_wp2_with fail
  refine (l01Below_any HC.out 2 (by omega)).mono ?_
  rintro e w1 ⟨x1, rfl, hx10, hx11, hc1, ho1⟩
  rw [topOf_pos (by omega)] at hx11
  go_wp2_with fail
  refine (l01Below_any hc1 4 (by omega)).mono ?_
  rintro e w2 ⟨x2, rfl, hx20, hx21, hc2, ho2⟩
  rw [topOf_pos (by omega)] at hx21
  go_wp2_with fail
  refine (l01Below_any hc2 7 (by omega)).mono ?_
  rintro e w3 ⟨x3, rfl, hx30, hx31, hc3, ho3⟩
  rw [topOf_pos (by omega)] at hx31
  go_wp2_with fail
  refine (l01Below_any hc3 4 (by omega)).mono ?_
  rintro e w4 ⟨x4, rfl, hx40, hx41, hc4, ho4⟩
  rw [topOf_pos (by omega)] at hx41
  have HO := Lib.hid (((ho1.trans ho2).trans ho3).trans ho4)
  have hz : w4.heap[w.heap.size]? = some (.cells #[.int .i64 0, .int .i64 0, .int .i64 0, .int .i64 0] 25) := (HO.out.block _ (by simp) (by omega)).trans (heap_alloc_new _ _)
  obtain ⟨y0, y1, y2, y3⟩ := cells4 hz
  have f0 := thawed hz 0
  have f1 := thawed hz 1
  have f2 := thawed hz 2
  have f3 := thawed hz 3
  have HC4 := Lib.hid hc4
  have HZ := Lib.hid hz
  clear hc1 hc2 hc3 hc4 ho1 ho2 ho3 ho4 hz
  have e1 : IntKind.i64.wrap (1 + x1) = 1 + x1 := IntWalk.i64_in _ ⟨by omega, by omega⟩
  have e2 : IntKind.i64.wrap (1 + x2) = 1 + x2 := IntWalk.i64_in _ ⟨by omega, by omega⟩
  have e3 : IntKind.i64.wrap (2 + x3) = 2 + x3 := IntWalk.i64_in _ ⟨by omega, by omega⟩
  have e4 : IntKind.i64.wrap (1 + x4) = 1 + x4 := IntWalk.i64_in _ ⟨by omega, by omega⟩
  go_wp2
  (try simp only [Exit.inBlock, Exit.then])
  refine bodyPost_ret (v := .agg #[.int .i64 (1 + x1), .int .i64 (1 + x2), .int .i64 (2 + x3), .int .i64 (1 + x4)]) ?_ rfl ⟨_, _, _, _, rfl, ⟨⟨by omega, by omega⟩, ⟨by omega, by omega⟩, ⟨by omega, by omega⟩, ⟨by omega, by omega⟩⟩, ?_, ?_⟩
  · simp [results, Try.results50, go_sem, y0, y1, y2, y3]
  · have h0 := HC4.out
    repeat' (first | exact h0 | refine Cur.setNew ?_ (by simp; omega) (by simp; omega) _)
  · have h0 : Only c w w4 := ((Only.refl c w).alloc _).trans HO.out
    repeat' (first | exact h0 | refine Only.setNew ?_ (by simp) _)

/-- What a drawn geometry leaves. -/
def DrewGeom (w : World) (e : Ending) (w' : World) : Prop :=
  ∃ a b r d : Int, e = .returned (.agg #[.int .i64 a, .int .i64 b, .int .i64 r, .int .i64 d]) ∧ ((1 ≤ a ∧ a ≤ 2) ∧ (1 ≤ b ∧ b ≤ 4) ∧ (2 ≤ r ∧ r ≤ 8) ∧ (1 ≤ d ∧ d ≤ 4)) ∧ Below w.heap.size w w'

theorem IsRow.alloc {k : IntKind} {w : World} {a : Option Addr} {len cap : Nat} {zs : List Int} (h : IsRow k w a len cap zs) (o : Obj) : IsRow k (w.alloc o) a len cap zs :=
  h.below (fun x hx hc => h.lt hx hc) ((Below.refl _ _).alloc (Nat.le_refl _) _)

set_option maxHeartbeats 1000000 in
theorem drawGeometry_any {a : Option Addr} {len cap : Nat} {zs : List Int} {w : World} (hr : IsRow .u8 w a len cap zs) :
    Calls Try.prog 18 #[.slice a len cap] w (DrewGeom w) := by
  have HR := Lib.hid (hr.alloc (.cells #[.int .i64 0, .int .i64 0, .int .i64 0, .int .i64 0] 25))
  clear hr
  go_enter Try.func18, Try.ntmps18
  go_wp2_with fail
  refine (l01New_any HR.out).mono ?_
  rintro e w1 ⟨c, rfl, hB, hc1, hb1⟩
  have hs1 := Lib.hid hb1.size
  have hz1 := keep_block hb1 (heap_alloc_new _ _) (by simp)
  have HB1 : Hid (Below w.heap.size w w1) := ((Below.refl _ _).alloc (Nat.le_refl _) _).trans (hb1.mono (by simp))
  clear hb1
  go_wp2_with fail
  refine (l03Geo_any hc1).mono ?_
  rintro e w2 ⟨x1, x2, x3, x4, rfl, hok, hc2, ho2⟩
  have hbb := ho2.below (B := (w.alloc (.cells #[.int .i64 0, .int .i64 0, .int .i64 0, .int .i64 0] 25)).heap.size) hB hs1.out
  have hz2 := keep_block hbb hz1 (by simp)
  have HB2 : Hid (Below w.heap.size w w2) := HB1.out.trans (hbb.mono (by simp))
  obtain ⟨y0, y1, y2, y3⟩ := cells4 hz2
  have f0 := thawed hz2 0
  have f1 := thawed hz2 1
  have f2 := thawed hz2 2
  have f3 := thawed hz2 3
  have HOK := Lib.hid hok
  clear hc1 hc2 ho2 hbb hz1 hz2 hok
  go_wp2
  (try simp only [Exit.inBlock, Exit.then])
  refine bodyPost_ret (v := .agg #[.int .i64 x1, .int .i64 x2, .int .i64 x3, .int .i64 x4]) ?_ rfl ⟨_, _, _, _, rfl, HOK.out, ?_⟩
  · simp [results, Try.results18, go_sem, y0, y1, y2, y3]
  · have h1 := HB2.out.size
    repeat' (first | exact HB2.out | refine Below.drew ?_ | refine Below.setCell ?_ (by simp <;> omega) _)

end Go.Proofs.Ytigoniochamjgaa
