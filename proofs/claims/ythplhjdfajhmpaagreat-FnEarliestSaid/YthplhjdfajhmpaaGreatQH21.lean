/-
  Texts of one proof, merged: FlowA.
-/
import Derived.Test.YthplhjdfajhmpaaGreatQH13
import Derived.Test.YthplhjdfajhmpaaGreatQH14
import Derived.Laws.AppendOwnNone
namespace Go.Proofs.YthplhjdfajhmpaaGreat
open Go.RowKit Go.PlainAid

set_option linter.unusedVariables false

/-- Operation k comes up behind i. -/
def Aft (k i : Nat) (listed : Array Bool) : Prop := listed.getD k false = true → listed.getD i false = true

theorem Aft.zero (k i n : Nat) : Aft k i (Array.replicate n false) := fun h => by rw [getD_replicate_false] at h; cases h

theorem Aft.keep {k i : Nat} {listed : Array Bool} (h : Aft k i listed) {j : Nat} (hj : j ≠ k) : Aft k i (listed.setIfInBounds j true) := fun h1 => by
  rw [getD_set_ne false hj] at h1
  exact getD_set_true (h h1)

theorem Aft.new {k i : Nat} {listed : Array Bool} (h : listed.getD i false = true) : Aft k i (listed.setIfInBounds k true) := fun _ => getD_set_true h

theorem Aft.no {k i : Nat} {listed : Array Bool} (h : Aft k i listed) (hi : listed.getD i false = false) : listed.getD k false = false := by
  cases e : listed.getD k false with
  | false => rfl
  | true => rw [h e] at hi; cases hi

theorem FactW.no {k m : Nat} {F : Value → World → Prop} {listed : Array Bool} {x : Nat → Value} {u : World} {i : Nat} (hk : listed.getD k false = false) (hi : i ≠ k) (v : Value) : FactW k m F (listed.setIfInBounds i true) (upd x i v) u := fun h1 _ => by
  rw [getD_set_ne false hi, hk] at h1; cases h1

theorem FactW.keepL {k m : Nat} {F : Value → World → Prop} {listed : Array Bool} {x : Nat → Value} {u u' : World} (h : FactW k m F listed x u) {i : Nat} (hi : i ≠ k) (hm : i ≠ m) (v : Value) (hF : listed.getD k false = true → F (x k) u → F (x k) u') : FactW k m F (listed.setIfInBounds i true) (upd x i v) u' := fun h1 h2 => by
  rw [getD_set_ne false hi] at h1
  rw [getD_set_ne false hm] at h2
  rw [upd_other _ _ (Ne.symm hi)]
  exact hF h1 (h h1 h2)

/-- The slices that operations i and j answered lie apart, till operation m. -/
def Apart (i j m : Nat) (listed : Array Bool) (x : Nat → Value) : Prop := listed.getD i false = true → listed.getD j false = true → listed.getD m false = false → ∀ (a b : Addr) (n n' c c' : Nat), x i = .slice (some a) n c → x j = .slice (some b) n' c' → a.block ≠ b.block

theorem Apart.zero (i j m n : Nat) (x : Nat → Value) : Apart i j m (Array.replicate n false) x := fun h => by rw [getD_replicate_false] at h; cases h

theorem Apart.keep {i j m : Nat} {listed : Array Bool} {x : Nat → Value} (h : Apart i j m listed x) {k : Nat} (hi : k ≠ i) (hj : k ≠ j) (hm : k ≠ m) (v : Value) : Apart i j m (listed.setIfInBounds k true) (upd x k v) := fun h1 h2 h3 => by
  rw [getD_set_ne false hi] at h1
  rw [getD_set_ne false hj] at h2
  rw [getD_set_ne false hm] at h3
  rw [upd_other _ _ (Ne.symm hi), upd_other _ _ (Ne.symm hj)]
  exact h h1 h2 h3

theorem Apart.gone {i j m : Nat} {listed : Array Bool} {x : Nat → Value} {k : Nat} (h : listed.getD m false = true) : Apart i j m (listed.setIfInBounds k true) x := fun _ _ h3 => by rw [getD_set_true h] at h3; cases h3

theorem Apart.call {i j m : Nat} {listed : Array Bool} {x : Nat → Value} (h : m < listed.size) : Apart i j m (listed.setIfInBounds m true) x := fun _ _ h3 => by rw [get_set_same false h] at h3; cases h3

theorem Apart.newi {i j m : Nat} {listed : Array Bool} {x : Nat → Value} {v : Value} (hij : i ≠ j) (him : i ≠ m) (h : listed.getD j false = true → listed.getD m false = false → ∀ (a b : Addr) (n n' c c' : Nat), v = .slice (some a) n c → x j = .slice (some b) n' c' → a.block ≠ b.block) : Apart i j m (listed.setIfInBounds i true) (upd x i v) := fun _ h2 h3 => by
  rw [getD_set_ne false hij] at h2
  rw [getD_set_ne false him] at h3
  rw [upd_same, upd_other _ _ (Ne.symm hij)]
  exact h h2 h3

theorem Apart.newj {i j m : Nat} {listed : Array Bool} {x : Nat → Value} {v : Value} (hij : i ≠ j) (hjm : j ≠ m) (h : listed.getD i false = true → listed.getD m false = false → ∀ (a b : Addr) (n n' c c' : Nat), x i = .slice (some a) n c → v = .slice (some b) n' c' → a.block ≠ b.block) : Apart i j m (listed.setIfInBounds j true) (upd x j v) := fun h1 _ h3 => by
  rw [getD_set_ne false (Ne.symm hij)] at h1
  rw [getD_set_ne false hjm] at h3
  rw [upd_same, upd_other _ _ hij]
  exact h h1 h3

/-- One event that was just made. -/
theorem one_ev {w : World} {g : Nat} {e : Ev} {fr : Nat × Nat} (h : w.heap[g]? = some (.cells #[.int .i64 e.t, .int .i64 e.k, .int .i64 e.x, .int .i64 e.y, .int .i64 e.z] 43 fr)) : evK.Row w (some ⟨g, 0, none⟩) [e] := by
  refine .inr ⟨g, 0, rfl, fun i hi j hj => ?_⟩
  obtain rfl : i = 0 := by simpa using hi
  have hj' : j < 5 := hj
  have e0 : (0 : Nat) + 0 * evK.K + j = j := by omega
  rw [e0]
  have hd : List.getD [e] 0 evK.d = e := rfl
  rw [hd]
  show _ = (Ev.vs e)[j]?
  match j, hj' with
  | 0, _ => simp [World.cell?, h, Ev.vs]
  | 1, _ => simp [World.cell?, h, Ev.vs]
  | 2, _ => simp [World.cell?, h, Ev.vs]
  | 3, _ => simp [World.cell?, h, Ev.vs]
  | 4, _ => simp [World.cell?, h, Ev.vs]
  | j + 5, hj => omega

theorem slice_own {a : Option Addr} {n c i : Nat} (h : (Value.slice a n c).ownBlock = some i) : ∃ x, a = some x ∧ x.block = i := by
  cases a with
  | none => cases h
  | some x => exact ⟨x, rfl, Option.some.inj h⟩

/-- Events appended to a row of the call's own. -/
theorem append_ev {ops : Array Oper} {rest : List Oper} {o : Oper} {a : Act} {w : World} {Q : Exit → Act → World → Prop} (hgd : o.guard = none) (s x : Operand) (ho : o.op = .call { callee := .builtin .append, args := #[s, x], argTypes := #[28, 28] })
    (base : Nat) (v : Value) (n : Nat) (xs : List Ev) (hs : a.eval s = v) (hown : evK.Own 43 base v xs w) (hxn : xs.length = n) (ad : Option Addr) (m c : Nat) (news : List Ev) (hx : a.eval x = .slice ad m c) (hl : news.length = m) (hnc : ad = none → c = 0) (hmc : m ≤ c) (hrow : evK.Row w ad news) (hbig : n + m ≤ 3500000) (hbase : base ≤ w.heap.size)
    (h : ∀ v' w', evK.Own 43 base v' (xs ++ news) w' → w.grownBy w' v.ownBlock → wpList Tryz.prog ops Q rest (a.put o.dst v') w') : wpList Tryz.prog ops Q (o :: rest) a w := by
  obtain ⟨i0, hi, hz0, hz1, hz2⟩ := info_parts infoE
  have hown' : w.ownsRow base 43 5 v n (xs.flatMap evK.vs) := by
    have h2 := hown
    unfold Kd.Own at h2
    rw [hxn] at h2
    exact h2
  cases ad with
  | none =>
    obtain rfl : c = 0 := hnc rfl
    obtain rfl : m = 0 := by omega
    obtain rfl : news = [] := List.length_eq_zero_iff.1 hl
    refine wpList_append_own_none hgd s x 28 ho base 43 i0 5 Tryz.underlying28 hi v n _ hs hown' hx (h v w ?_ ⟨rfl, rfl, rfl, Nat.le_refl _, fun _ _ _ => rfl⟩)
    rw [List.append_nil]
    exact hown
  | some ad =>
    have hfl : (news.flatMap evK.vs).length = m * 5 := by rw [evK.flat_length, hl]; rfl
    refine wpList_append_own _ hgd s x 28 ho base 43 i0 (.agg #[.int .i64 0, .int .i64 0, .int .i64 0, .int .i64 0, .int .i64 0]) 5 40 Tryz.underlying28 hi hz0 hz1 hz2 rfl (by decide) v n _ hs hown' ad m c (news.flatMap evK.vs) hx hfl (Kd.Row.src hrow) (ev_one news) (by unfold maxLen; omega) (by omega) hbase ?_
    intro v' w' ho2 hg _
    refine h v' w' ?_ hg
    show World.ownsRow _ _ _ _ _ _ _
    rw [List.length_append, hxn, hl, List.flatMap_append]
    exact ho2

end Go.Proofs.YthplhjdfajhmpaaGreat
