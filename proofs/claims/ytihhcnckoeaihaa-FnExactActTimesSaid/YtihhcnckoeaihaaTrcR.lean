/-
  Rows of events.
-/
import Derived.Test.YtihhcnckoeaihaaTrcM
import Derived.Test.YtihhcnckoeaihaaRowG
namespace Go.Proofs.Ytihhcnckoeaihaa
open Go.RowKit Go.PlainAid

set_option linter.unusedVariables false

/-- Events as elements of rows. -/
def evK : Kd Ev := ⟨Ev.vs, ev0, 5, fun _ => rfl, by decide⟩

theorem infoE : (Try.prog.info? 58).map (fun i => (i.zero, i.size, i.bytes)) = some (some (.agg #[.int .i64 0, .int .i64 0, .int .i64 0, .int .i64 0, .int .i64 0]), 5, 40) := by kernel_rfl

theorem ev_one (l : List Ev) : ∀ u ∈ l.flatMap evK.vs, u.oneCell' = true := by
  intro u hu
  obtain ⟨b, _, hb⟩ := List.mem_flatMap.1 hu
  simp only [evK, Ev.vs, List.mem_cons, List.not_mem_nil, or_false] at hb
  rcases hb with rfl | rfl | rfl | rfl | rfl <;> rfl

/-- The five cells of an event in a row. -/
theorem ev_cells {w : World} {b o : Nat} {e : Ev} (h : ∀ j, j < evK.K → w.cell? ⟨b, o + j, none⟩ = (evK.vs e)[j]?) :
    w.cell? ⟨b, o, none⟩ = some (.int .i64 e.t) ∧ w.cell? ⟨b, o + 1, none⟩ = some (.int .i64 e.k) ∧ w.cell? ⟨b, o + 2, none⟩ = some (.int .i64 e.x) ∧ w.cell? ⟨b, o + 3, none⟩ = some (.int .i64 e.y) ∧ w.cell? ⟨b, o + 4, none⟩ = some (.int .i64 e.z) :=
  ⟨h 0 (by decide), h 1 (by decide), h 2 (by decide), h 3 (by decide), h 4 (by decide)⟩

theorem ev_at {w : World} {a : Option Addr} {l : List Ev} (h : evK.Row w a l) {i : Nat} (hi : i < l.length) :
    ∃ b off, a = some ⟨b, off, none⟩ ∧ w.cell? ⟨b, off + i * 5, none⟩ = some (.int .i64 (l.getD i ev0).t) ∧ w.cell? ⟨b, off + i * 5 + 1, none⟩ = some (.int .i64 (l.getD i ev0).k) ∧ w.cell? ⟨b, off + i * 5 + 2, none⟩ = some (.int .i64 (l.getD i ev0).x) ∧ w.cell? ⟨b, off + i * 5 + 3, none⟩ = some (.int .i64 (l.getD i ev0).y) ∧ w.cell? ⟨b, off + i * 5 + 4, none⟩ = some (.int .i64 (l.getD i ev0).z) := by
  obtain ⟨b, off, rfl, hc⟩ := h.at hi
  exact ⟨b, off, rfl, ev_cells hc⟩

/-- A slice of events that came in. -/
theorem events_in {w : World} {a : Option Addr} {len cap : Nat} (h : Sh.Fits w (.row (.and (.num .i64) (.and (.and (.num .i64) (.and (.num .i64) (.and (.num .i64) (.and (.num .i64) .fin)))) .fin))) [.slice a len cap]) :
    ∃ l : List Ev, l.length = len ∧ evK.Row w a l ∧ len ≤ maxLen ∧ len ≤ cap ∧ (a = none → cap = 0) := by
  refine evK.row_in rfl (fun cs hcs => ?_) h
  obtain ⟨_, c1, rfl, ⟨t, rfl, _⟩, _, c2, rfl, ⟨_, c3, rfl, ⟨k, rfl, _⟩, _, c4, rfl, ⟨x, rfl, _⟩, _, c5, rfl, ⟨y, rfl, _⟩, _, c6, rfl, ⟨z, rfl, _⟩, h6⟩, h2⟩ := hcs
  obtain rfl : c6 = [] := h6
  obtain rfl : c2 = [] := h2
  exact ⟨⟨t, k, x, y, z⟩, rfl⟩

end Go.Proofs.Ytihhcnckoeaihaa
