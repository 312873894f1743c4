/-
  Texts of one proof, merged: Later, GfI, GfQ, GfR, GfS.
-/
import Derived.Test.YtfpfgaifhmgpiaaDoorQM141
import Derived.Test.YtfpfgaifhmgpiaaDoorQM142
import Derived.BigQuiet
import Derived.Deep.QuietTactic
import Derived.Deep.RegionWith
import Derived.WalkLawsBesides
namespace Go.Proofs.YtfpfgaifhmgpiaaDoor
open Go.RowKit

/-- A call that answers v and leaves all old blocks. -/
def Gives (v : Value) (w : World) (e : Ending) (w' : World) : Prop := e = .returned v ∧ Below w.heap.size w w'

/-- A world behind w that keeps the blocks of w. -/
structure Later (w : World) where
  to : World
  ok : Below w.heap.size w to

instance (w : World) : Nonempty (Later w) := ⟨⟨w, Below.refl _ _⟩⟩

theorem wp_region_later {P : Program} {id : Nat} {Q : Exit → Act → World → Prop} {a : Act} {w : World} {l : List Oper} (hm : P.follows .mixedOrders = true) (hB : Region.lexB .any l.toArray = true)
    (h : wpQuiet P l.toArray (fun w' => ∃ z : Later w, w' = z.to) (fun a' => ∀ w', (∃ z : Later w, w' = z.to) → Q .normal a' w') l a) : (Code.region id l.toArray true).wp P Q a w :=
  wp_region_quiet (C := fun w' => ∃ z : Later w, w' = z.to) hm hB ⟨⟨w.drew, rfl, rfl, rfl, Nat.le_refl _, fun _ _ => rfl⟩, rfl⟩ (by simpa using h)

theorem Later.cell {w : World} (z : Later w) {p : Addr} {v : Value} (h : w.cell? p = some v) : z.to.cell? p = some v :=
  (z.ok.cell (World.block_lt_of_cell? _ _ h)).trans h

theorem Later.block {w : World} (z : Later w) {k : Nat} {o : Obj} (h : w.heap[k]? = some o) : z.to.heap[k]? = some o :=
  (z.ok.block k (lt_of_block h)).trans h

theorem Gives.later {P : Program} {f : FuncId} {args : Array Value} {w : World} {v : Value} (z : Later w) (h : Calls P f args z.to (Gives v z.to)) :
    Calls P f args z.to fun e w'' => e = .returned v ∧ ∃ z' : Later w, w'' = z'.to :=
  h.mono fun _ w'' ⟨he, hb⟩ => ⟨he, ⟨w'', z.ok.trans (hb.mono z.ok.size)⟩, rfl⟩

theorem Gives.later_same {P : Program} {f : FuncId} {args : Array Value} {w : World} {v : Value} (z : Later w) (h : Calls P f args z.to fun e w' => e = .returned v ∧ z.to = w') :
    Calls P f args z.to fun e w'' => e = .returned v ∧ ∃ z' : Later w, w'' = z'.to :=
  h.mono fun _ _ ⟨he, hb⟩ => ⟨he, z, hb.symm⟩

theorem cells2 {w : World} {c : Nat} {v0 v1 : Value} {t : TypeId} {fr : Nat × Nat} (h : w.heap[c]? = some (.cells #[v0, v1] t fr)) :
    w.cell? ⟨c, 0, none⟩ = some v0 ∧ w.cell? ⟨c, 1, none⟩ = some v1 := by
  simp [World.cell?, h]

theorem cells3 {w : World} {c : Nat} {v0 v1 v2 : Value} {t : TypeId} {fr : Nat × Nat} (h : w.heap[c]? = some (.cells #[v0, v1, v2] t fr)) :
    w.cell? ⟨c, 0, none⟩ = some v0 ∧ w.cell? ⟨c, 1, none⟩ = some v1 ∧ w.cell? ⟨c, 2, none⟩ = some v2 := by
  simp [World.cell?, h]

theorem cells4 {w : World} {c : Nat} {v0 v1 v2 v3 : Value} {t : TypeId} {fr : Nat × Nat} (h : w.heap[c]? = some (.cells #[v0, v1, v2, v3] t fr)) :
    w.cell? ⟨c, 0, none⟩ = some v0 ∧ w.cell? ⟨c, 1, none⟩ = some v1 ∧ w.cell? ⟨c, 2, none⟩ = some v2 ∧ w.cell? ⟨c, 3, none⟩ = some v3 := by
  simp [World.cell?, h]

theorem thawed {w : World} {c : Nat} {vs : Array Value} {t : TypeId} (h : w.heap[c]? = some (.cells vs t (0, 0))) (j : Nat) : w.frozen? ⟨c, j, none⟩ = false := by
  simp [World.frozen?, h]

theorem box3_0 (w : World) (A B C : Obj) : (((w.alloc A).alloc B).alloc C).heap[w.heap.size]? = some A := by
  rw [Below.heap_alloc _ _ _ (by simp; omega)]; exact heap_alloc2_old w A B

theorem box3_1 (w : World) (A B C : Obj) : (((w.alloc A).alloc B).alloc C).heap[w.heap.size + 1]? = some B := by
  rw [Below.heap_alloc _ _ _ (by simp)]; exact heap_alloc2_new w A B

theorem box3_2 (w : World) (A B C : Obj) : (((w.alloc A).alloc B).alloc C).heap[w.heap.size + 1 + 1]? = some C := by
  have h := heap_alloc2_new (w.alloc A) B C
  rwa [World.size_alloc] at h

theorem keep_block {w w' : World} {B k : Nat} {o : Obj} (h : Below B w w') (hc : w.heap[k]? = some o) (hp : k < B) : w'.heap[k]? = some o := (h.block k hp).trans hc

end Go.Proofs.YtfpfgaifhmgpiaaDoor

namespace Go.Proofs.YtfpfgaifhmgpiaaDoor
open Go.RowKit

set_option linter.unusedVariables false

def IGfAdd : Prop := ∀ (a b v : Int) (hv : gfAdd a b = v) (w : World), Calls Tryd.prog 111 #[.int .i64 a, .int .i64 b] w (Gives (.int .i64 v) w)

end Go.Proofs.YtfpfgaifhmgpiaaDoor

namespace Go.Proofs.YtfpfgaifhmgpiaaDoor
open Go.RowKit

set_option linter.unusedVariables false

/-- The multiples of a stand in the block g. -/
def MulAt (w : World) (g a : Nat) : Prop := w.heap[g]? = some (.cells #[.int .i64 ((gX a 0 : Nat) : Int), .int .i64 ((gX a 1 : Nat) : Int), .int .i64 ((gX a 2 : Nat) : Int), .int .i64 ((gX a 3 : Nat) : Int)] 139 (0, 0))

theorem MulAt.below {w w' : World} {g a : Nat} (h : MulAt w g a) (hb : Below w.heap.size w w') : MulAt w' g a := keep_block hb h (lt_of_block h)

theorem implIsEl_is (a : Int) (v : Bool) (hv : decide (El a) = v) (w : World) :
    Calls Tryd.prog 105 #[.int .i64 a] w (Says (.bool v) w) := by
  have HV := Lib.hid hv
  clear hv
  by_cases h0 : 0 ≤ a
  · have t0 : decide (0 ≤ a) = true := decide_eq_true h0
    have HE : Hid (decide (a < 16) = v) := by show _ = _; rw [← HV.out]; exact decide_eq_decide.2 ⟨fun h => ⟨h0, by omega⟩, fun h => by have := h.2; omega⟩
    clear h0
    go_enter Tryd.func105, Tryd.ntmps105
    go_wp2
    go_ret
    exact ⟨ret_b HE.out, rfl⟩
  · have t0 : decide (0 ≤ a) = false := decide_eq_false h0
    have HE : Hid (false = v) := by show _ = _; rw [← HV.out]; exact (decide_eq_false (fun h => h0 h.1)).symm
    clear h0
    go_enter Tryd.func105, Tryd.ntmps105
    go_wp2
    go_ret
    exact ⟨ret_b HE.out, rfl⟩

theorem implTimesX_is (a : Nat) (ha : a < 16) (w : World) :
    Calls Tryd.prog 115 #[.int .i64 (a : Int)] w (Says (.int .i64 ((gtX a : Nat) : Int)) w) := by
  have w2 : IntKind.i64.wrap ((a : Int) * 2) = ((2 * a : Nat) : Int) := by rw [IntWalk.i64_in _ (by omega)]; omega
  have w3 : wrap64 ((a : Int) * 2) = ((2 * a : Nat) : Int) := by rw [← IntWalk.i64_left]; exact w2
  by_cases h : 16 ≤ 2 * a
  · have t : decide ((16 : Int) ≤ ((2 * a : Nat) : Int)) = true := decide_eq_true (by omega)
    have t' : decide (8 ≤ a) = true := decide_eq_true (by omega)
    have HE : Hid (bits .xor .i64 ((2 * a : Nat) : Int) 19 = ((gtX a : Nat) : Int)) := by
      show _ = _
      rw [show (19 : Int) = ((19 : Nat) : Int) from rfl, i64_xor_nat (2 * a) 19 (by omega) (by decide)]
      unfold gtX
      rw [if_pos h]
    generalize 2 * a = d at w2 w3 t HE
    go_enter Tryd.func115, Tryd.ntmps115
    go_wp2
    go_ret
    exact ⟨ret_i HE.out, rfl⟩
  · have t : decide ((16 : Int) ≤ ((2 * a : Nat) : Int)) = false := decide_eq_false (by omega)
    have HE : Hid (((2 * a : Nat) : Int) = ((gtX a : Nat) : Int)) := by
      show _ = _
      unfold gtX
      rw [if_neg h]
    generalize 2 * a = d at w2 w3 t HE
    go_enter Tryd.func115, Tryd.ntmps115
    go_wp2
    go_ret
    exact ⟨ret_i HE.out, rfl⟩

end Go.Proofs.YtfpfgaifhmgpiaaDoor

namespace Go.Proofs.YtfpfgaifhmgpiaaDoor
open Go.RowKit

set_option linter.unusedVariables false

theorem four_index (x0 x1 x2 x3 : Int) (j : Nat) (hj : j < 4) (w : World) : (Instr.index 139 (.agg #[.int .i64 x0, .int .i64 x1, .int .i64 x2, .int .i64 x3]) (.int .i64 (j : Int))).run Tryd.prog w = .ok (.int .i64 ([x0, x1, x2, x3].getD j 0)) w :=
  match j, hj with
  | 0, _ => by kernel_rfl
  | 1, _ => by kernel_rfl
  | 2, _ => by kernel_rfl
  | 3, _ => by kernel_rfl
  | n + 4, h => absurd h (by omega)

theorem gX_at (a j : Nat) (hj : j < 4) : [((gX a 0 : Nat) : Int), ((gX a 1 : Nat) : Int), ((gX a 2 : Nat) : Int), ((gX a 3 : Nat) : Int)].getD j 0 = ((gX a j : Nat) : Int) :=
  match j, hj with
  | 0, _ => rfl
  | 1, _ => rfl
  | 2, _ => rfl
  | 3, _ => rfl
  | n + 4, h => absurd h (by omega)

set_option maxHeartbeats 4000000 in
theorem implBy_is (a b : Nat) (ha : a < 16) (hb : b < 16) (g : Nat) (w : World) (hm : MulAt w g a) :
    Calls Tryd.prog 116 #[.int .i64 (b : Int), .pointer (some ⟨g, 0, none⟩)] w (Says (.int .i64 ((gm a b : Nat) : Int)) w) := by
  have HIX : Hid (∀ j : Nat, j < 4 → ∀ w : World, (Instr.index 139 (.agg #[.int .i64 ((gX a 0 : Nat) : Int), .int .i64 ((gX a 1 : Nat) : Int), .int .i64 ((gX a 2 : Nat) : Int), .int .i64 ((gX a 3 : Nat) : Int)]) (.int .i64 (j : Int))).run Tryd.prog w = .ok (.int .i64 ((gX a j : Nat) : Int)) w) := fun j hj w => by rw [four_index _ _ _ _ j hj w, gX_at a j hj]
  obtain ⟨c0, c1, c2, c3⟩ := cells4 hm
  have HBIT : Hid (∀ j : Nat, j < 4 → bitF (b : Int) (j : Int) = (((b >>> j) % 2 : Nat) : Int)) := fun j hj => bit_all ⟨b, hb⟩ ⟨j, hj⟩
  have HX : Hid (∀ j : Nat, j < 4 → gX a j < 16) := fun j hj => gX_lt ha (by omega)
  have HQ : Hid (∀ j : Nat, j ≤ 4 → gQ a b j < 16) := fun j hj => gQ_lt ha hb hj
  have HE : Hid (gQ a b 4 = gm a b) := gQ_four ⟨a, ha⟩ ⟨b, hb⟩
  clear hm
  generalize ((gX a 0 : Nat) : Int) = x0 at HIX c0
  generalize ((gX a 1 : Nat) : Int) = x1 at HIX c1
  generalize ((gX a 2 : Nat) : Int) = x2 at HIX c2
  generalize ((gX a 3 : Nat) : Int) = x3 at HIX c3
  go_enter Tryd.func116, Tryd.ntmps116
  go_wp2_with fail
  go_loopw [4, 8] (fun p i wr => ∃ k : Nat, k ≤ 4 ∧ i = .int .i64 k ∧ p = .int .i64 ((gQ a b k : Nat) : Int) ∧ wr = w) (fun _ i _ => 5 - (intOf i).toNat)
  case atStart => exact ⟨0, by omega, rfl, rfl, by trivial⟩
  case round =>
    obtain ⟨k, hk, rfl, rfl, rfl⟩ := hrel
    by_cases hlt : k < 4
    case neg =>
      obtain rfl : k = 4 := by omega
      (try rw [show ((4 : Nat) : Int) = 4 from rfl])
      go_wp2_with fail
      go_ret
      exact ⟨ret_i (by rw [HE.out]), rfl⟩
    have hI : decide ((k : Int) < 4) = true := decide_eq_true (by omega)
    have hI' : (k : Int) < 4 := by omega
    have ix := HIX.out k hlt
    have wk : IntKind.i64.wrap ((k : Int) + 1) = (k : Int) + 1 := IntWalk.i64_in _ (by omega)
    have HT := Lib.hid (HBIT.out k hlt)
    have hx := HX.out k hlt
    have hq := HQ.out k hk
    have hqx : gX a k * ((b >>> k) % 2) < 16 := by
      have : (b >>> k) % 2 = 0 ∨ (b >>> k) % 2 = 1 := by omega
      rcases this with h | h <;> rw [h] <;> omega
    have HX1 : Hid (gQ a b (k + 1) = gQ a b k ^^^ (gX a k * ((b >>> k) % 2))) := rfl
    have e1 : IntKind.i64.wrap (((gX a k : Nat) : Int) * (((b >>> k) % 2 : Nat) : Int)) = ((gX a k * ((b >>> k) % 2) : Nat) : Int) := by rw [IntWalk.i64_in _ (by rw [← Int.natCast_mul]; omega)]; exact (Int.natCast_mul _ _).symm
    have e1' : wrap64 (((gX a k : Nat) : Int) * (((b >>> k) % 2 : Nat) : Int)) = ((gX a k * ((b >>> k) % 2) : Nat) : Int) := by rw [← IntWalk.i64_left]; exact e1
    have e2 : bits .xor .i64 ((gQ a b k : Nat) : Int) ((gX a k * ((b >>> k) % 2) : Nat) : Int) = ((gQ a b (k + 1) : Nat) : Int) := by rw [i64_xor_nat _ _ (by omega) (by omega)]; rfl
    generalize gX a k = y at ix hx hqx HX1 e1 e1' e2
    generalize (b >>> k) % 2 = t at HT hqx HX1 e1 e1' e2
    generalize y * t = yt at hqx HX1 e1 e1' e2
    generalize gQ a b k = q at hq HX1 e2
    generalize hq1 : gQ a b (k + 1) = q1 at HX1 e2
    have HQ1 := Lib.hid hq1
    clear hq1
    go_wp2_with fail
    refine (implBitOf_any _ _ _).mono ?_
    rintro e w2 ⟨rfl, rfl⟩
    rw [HT.out]
    go_wp2_with fail
    go_roundw
    case rel => exact ⟨k + 1, by omega, by go_num, by rw [HQ1.out], by trivial⟩
    case measure => simp [intOf]; omega

theorem set4_0 {w : World} {c : Nat} {v0 v1 v2 v3 : Value} {t : TypeId} (h : w.heap[c]? = some (.cells #[v0, v1, v2, v3] t (0, 0))) (u : Value) : (w.setCell ⟨c, 0, none⟩ u).heap[c]? = some (.cells #[u, v1, v2, v3] t (0, 0)) := by
  have hlt := lt_of_block h
  have h' : w.heap[c] = .cells #[v0, v1, v2, v3] t (0, 0) := by simpa [Array.getElem?_eq_getElem hlt] using h
  show (w.heap.modify c _)[c]? = _
  rw [Array.getElem?_eq_getElem (by simpa using hlt), Array.getElem_modify_self, h']
  rfl

theorem set4_1 {w : World} {c : Nat} {v0 v1 v2 v3 : Value} {t : TypeId} (h : w.heap[c]? = some (.cells #[v0, v1, v2, v3] t (0, 0))) (u : Value) : (w.setCell ⟨c, 1, none⟩ u).heap[c]? = some (.cells #[v0, u, v2, v3] t (0, 0)) := by
  have hlt := lt_of_block h
  have h' : w.heap[c] = .cells #[v0, v1, v2, v3] t (0, 0) := by simpa [Array.getElem?_eq_getElem hlt] using h
  show (w.heap.modify c _)[c]? = _
  rw [Array.getElem?_eq_getElem (by simpa using hlt), Array.getElem_modify_self, h']
  rfl

theorem set4_2 {w : World} {c : Nat} {v0 v1 v2 v3 : Value} {t : TypeId} (h : w.heap[c]? = some (.cells #[v0, v1, v2, v3] t (0, 0))) (u : Value) : (w.setCell ⟨c, 2, none⟩ u).heap[c]? = some (.cells #[v0, v1, u, v3] t (0, 0)) := by
  have hlt := lt_of_block h
  have h' : w.heap[c] = .cells #[v0, v1, v2, v3] t (0, 0) := by simpa [Array.getElem?_eq_getElem hlt] using h
  show (w.heap.modify c _)[c]? = _
  rw [Array.getElem?_eq_getElem (by simpa using hlt), Array.getElem_modify_self, h']
  rfl

theorem set4_3 {w : World} {c : Nat} {v0 v1 v2 v3 : Value} {t : TypeId} (h : w.heap[c]? = some (.cells #[v0, v1, v2, v3] t (0, 0))) (u : Value) : (w.setCell ⟨c, 3, none⟩ u).heap[c]? = some (.cells #[v0, v1, v2, u] t (0, 0)) := by
  have hlt := lt_of_block h
  have h' : w.heap[c] = .cells #[v0, v1, v2, v3] t (0, 0) := by simpa [Array.getElem?_eq_getElem hlt] using h
  show (w.heap.modify c _)[c]? = _
  rw [Array.getElem?_eq_getElem (by simpa using hlt), Array.getElem_modify_self, h']
  rfl

/-- What stands in the place j when k places are written. -/
def gP (a k j : Nat) : Int := if j < k then ((gX a j : Nat) : Int) else 0

/-- A function of one number that multiplies by a. -/
def GivesMul (a : Nat) (w : World) (e : Ending) (w' : World) : Prop := ∃ g, e = .returned (.func (.func 116) #[] #[.pointer (some ⟨g, 0, none⟩)]) ∧ MulAt w' g a ∧ Below w.heap.size w w'

set_option maxHeartbeats 4000000 in
theorem implMultiplierBy_is (a : Nat) (ha : a < 16) (w : World) :
    Calls Tryd.prog 114 #[.int .i64 (a : Int)] w (GivesMul a w) := by
  have hmf : ∀ (fn : Fn) (first cap : Array Value) (w : World), (Instr.makeFunc fn first cap).run Tryd.prog w = .ok (.func fn first cap) w := fun _ _ _ _ => rfl
  have HX : Hid (∀ j : Nat, j < 4 → gX a j < 16) := fun j hj => gX_lt ha (by omega)
  clear ha
  go_enter Tryd.func114, Tryd.ntmps114
  go_wp2_with fail
  generalize hw1 : w.alloc (.cells #[.int .i64 0, .int .i64 0, .int .i64 0, .int .i64 0] 139) = w1
  have HB1 : Hid (Below w.heap.size w w1) := by subst hw1; exact (Below.refl _ _).alloc (Nat.le_refl _) _
  have p1 : w1.heap[w.heap.size]? = some (.cells #[.int .i64 0, .int .i64 0, .int .i64 0, .int .i64 0] 139 (0, 0)) := by subst hw1; exact heap_alloc_new _ _
  clear hw1
  go_loopw [0, 6] (fun f i wr => ∃ k : Nat, k ≤ 4 ∧ i = .int .i64 k ∧ f = .int .i64 ((gX a k : Nat) : Int) ∧ Hid (Below w.heap.size w wr) ∧ wr.heap[w.heap.size]? = some (.cells #[.int .i64 (gP a k 0), .int .i64 (gP a k 1), .int .i64 (gP a k 2), .int .i64 (gP a k 3)] 139 (0, 0))) (fun _ i _ => 5 - (intOf i).toNat)
  case atStart => exact ⟨0, by omega, rfl, rfl, HB1, p1⟩
  case round =>
    obtain ⟨k, hk, rfl, rfl, HBr, pr⟩ := hrel
    have HK : k = 0 ∨ k = 1 ∨ k = 2 ∨ k = 3 ∨ k = 4 := by omega
    rcases HK with rfl | rfl | rfl | rfl | rfl
    · rw [show ((0 : Nat) : Int) = 0 from rfl]
      obtain ⟨d0, d1, d2, d3⟩ := cells4 pr
      have f0 := thawed pr 0
      have P2 := Lib.hid (set4_0 pr (.int .i64 ((gX a 0 : Nat) : Int)))
      have HB2 : Hid (Below w.heap.size w (wr.setCell ⟨w.heap.size, 0, none⟩ (.int .i64 ((gX a 0 : Nat) : Int)))) := HBr.out.setCell (Nat.le_refl _) _
      clear pr
      go_wp2_with fail
      refine (implTimesX_is (gX a 0) (HX.out 0 (by decide)) _).mono ?_
      rintro e w2 ⟨rfl, rfl⟩
      go_wp2_with fail
      go_roundw
      case rel => exact ⟨1, by omega, by go_num, by trivial, HB2, P2.out⟩
      case measure => simp [intOf]
    · rw [show ((1 : Nat) : Int) = 1 from rfl]
      obtain ⟨d0, d1, d2, d3⟩ := cells4 pr
      have f0 := thawed pr 1
      have P2 := Lib.hid (set4_1 pr (.int .i64 ((gX a 1 : Nat) : Int)))
      have HB2 : Hid (Below w.heap.size w (wr.setCell ⟨w.heap.size, 1, none⟩ (.int .i64 ((gX a 1 : Nat) : Int)))) := HBr.out.setCell (Nat.le_refl _) _
      clear pr
      go_wp2_with fail
      refine (implTimesX_is (gX a 1) (HX.out 1 (by decide)) _).mono ?_
      rintro e w2 ⟨rfl, rfl⟩
      go_wp2_with fail
      go_roundw
      case rel => exact ⟨2, by omega, by go_num, by trivial, HB2, P2.out⟩
      case measure => simp [intOf]
    · rw [show ((2 : Nat) : Int) = 2 from rfl]
      obtain ⟨d0, d1, d2, d3⟩ := cells4 pr
      have f0 := thawed pr 2
      have P2 := Lib.hid (set4_2 pr (.int .i64 ((gX a 2 : Nat) : Int)))
      have HB2 : Hid (Below w.heap.size w (wr.setCell ⟨w.heap.size, 2, none⟩ (.int .i64 ((gX a 2 : Nat) : Int)))) := HBr.out.setCell (Nat.le_refl _) _
      clear pr
      go_wp2_with fail
      refine (implTimesX_is (gX a 2) (HX.out 2 (by decide)) _).mono ?_
      rintro e w2 ⟨rfl, rfl⟩
      go_wp2_with fail
      go_roundw
      case rel => exact ⟨3, by omega, by go_num, by trivial, HB2, P2.out⟩
      case measure => simp [intOf]
    · rw [show ((3 : Nat) : Int) = 3 from rfl]
      obtain ⟨d0, d1, d2, d3⟩ := cells4 pr
      have f0 := thawed pr 3
      have P2 := Lib.hid (set4_3 pr (.int .i64 ((gX a 3 : Nat) : Int)))
      have HB2 : Hid (Below w.heap.size w (wr.setCell ⟨w.heap.size, 3, none⟩ (.int .i64 ((gX a 3 : Nat) : Int)))) := HBr.out.setCell (Nat.le_refl _) _
      clear pr
      go_wp2_with fail
      refine (implTimesX_is (gX a 3) (HX.out 3 (by decide)) _).mono ?_
      rintro e w2 ⟨rfl, rfl⟩
      go_wp2_with fail
      go_roundw
      case rel => exact ⟨4, by omega, by go_num, by trivial, HB2, P2.out⟩
      case measure => simp [intOf]
    · (try rw [show ((4 : Nat) : Int) = 4 from rfl])
      go_wp2_with fail
      go_ret
      exact ⟨w.heap.size, rfl, pr, HBr.out⟩

end Go.Proofs.YtfpfgaifhmgpiaaDoor

namespace Go.Proofs.YtfpfgaifhmgpiaaDoor
open Go.RowKit

set_option linter.unusedVariables false

theorem el_nat {a : Int} (h : El a) : ∃ n : Nat, a = (n : Int) ∧ n < 16 := ⟨a.toNat, by have := h.1; omega, by have := h.2; omega⟩

theorem implGfAdd_is : IGfAdd := by
  intro a b v hv w
  by_cases ha : El a
  case neg =>
    have HE : Hid (-1 = v) := by show _ = _; rw [← hv]; exact (if_neg (fun h => ha h.1)).symm
    have KA := Lib.hid (decide_eq_false ha)
    clear ha hv
    go_enter Tryd.func111, Tryd.ntmps111
    go_wp2_with fail
    refine (implIsEl_is a false KA.out _).mono ?_
    rintro e w2 ⟨rfl, rfl⟩
    go_wp2_with fail
    go_ret
    exact ⟨ret_i HE.out, Below.refl _ _⟩
  have KA := Lib.hid (decide_eq_true ha)
  by_cases hb : El b
  case neg =>
    have HE : Hid (-1 = v) := by show _ = _; rw [← hv]; exact (if_neg (fun h => hb h.2)).symm
    have KB := Lib.hid (decide_eq_false hb)
    clear ha hb hv
    go_enter Tryd.func111, Tryd.ntmps111
    go_wp2_with fail
    refine (implIsEl_is a true KA.out _).mono ?_
    rintro e w2 ⟨rfl, rfl⟩
    go_wp2_with fail
    refine (implIsEl_is b false KB.out _).mono ?_
    rintro e w3 ⟨rfl, rfl⟩
    go_wp2_with fail
    go_ret
    exact ⟨ret_i HE.out, Below.refl _ _⟩
  have KB := Lib.hid (decide_eq_true hb)
  obtain ⟨x, rfl, hx⟩ := el_nat ha
  obtain ⟨y, rfl, hy⟩ := el_nat hb
  have HE : Hid (bits .xor .i64 (x : Int) (y : Int) = v) := by
    show _ = _
    rw [← hv, i64_xor_nat x y (by omega) (by omega)]
    exact (gfAdd_nat hx hy).symm
  clear ha hb hv
  go_enter Tryd.func111, Tryd.ntmps111
  go_wp2_with fail
  refine (implIsEl_is (x : Int) true KA.out _).mono ?_
  rintro e w2 ⟨rfl, rfl⟩
  go_wp2_with fail
  refine (implIsEl_is (y : Int) true KB.out _).mono ?_
  rintro e w3 ⟨rfl, rfl⟩
  go_wp2_with fail
  go_ret
  exact ⟨ret_i HE.out, Below.refl _ _⟩

end Go.Proofs.YtfpfgaifhmgpiaaDoor
