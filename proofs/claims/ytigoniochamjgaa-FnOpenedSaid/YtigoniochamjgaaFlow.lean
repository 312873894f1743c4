/-
  A region that draws its order, by an invariant: what holds of frame and world when just these operations have come up; each operation is walked once, from whatever order came before it.
-/
import Derived.Test.YtigoniochamjgaaFloat
namespace Go.Proofs.Ytigoniochamjgaa
open Go.RowKit

/-- No select; an operation waits for earlier ones alone. -/
def flows (ops : Array Oper) : Bool :=
  Region.noSelect ops && ((List.range ops.size).all fun i => (ops[i]?).all fun o => o.after.all fun e => !Region.binds .any e || decide (e.on < i))

/-- One operation, from whatever order came before it. -/
def flowStep (P : Program) (ops : Array Oper) (Inv : Array Bool → Act → World → Prop) (i : Nat) (o : Oper) : Prop :=
  ∀ (listed : Array Bool) (b : Act) (u : World), listed.size = ops.size → listed.getD i false = false → (∀ k, Region.waitsFor .any ops i k = true → listed.getD k false = true) → Inv listed b u →
    wpList P ops (stepQ (fun _ => True) (Inv (listed.setIfInBounds i true))) [o] b u

def flowSteps (P : Program) (ops : Array Oper) (Inv : Array Bool → Act → World → Prop) : Nat → List Oper → Prop
  | _, [] => True
  | i, o :: os => flowStep P ops Inv i o ∧ flowSteps P ops Inv (i + 1) os

theorem flowSteps_at {P : Program} {ops : Array Oper} {Inv : Array Bool → Act → World → Prop} : ∀ {l : List Oper} {n : Nat}, flowSteps P ops Inv n l → ∀ {j : Nat} {o : Oper}, l[j]? = some o → flowStep P ops Inv (n + j) o
  | [], _, _, j, o, h => by simp at h
  | x :: xs, n, hs, 0, o, h => by
    have : x = o := by simpa using h
    subst this
    exact hs.1
  | x :: xs, n, hs, j + 1, o, h => by
    have := flowSteps_at hs.2 (j := j) (o := o) (by simpa using h)
    rwa [show n + 1 + j = n + (j + 1) by omega] at this

theorem wpOp_of_list {P : Program} {ops : Array Oper} {Q : Exit → Act → World → Prop} {K : Act → World → Prop} {i : Nat} {o : Oper} {a : Act} {w : World} (ho : ops[i]? = some o) (h : wpList P ops (stepQ (fun _ => True) K) [o] a w) : wpOp P ops Q i K a w := by
  unfold wpOp
  simp only [ho]
  have hw' : if Region.wanted o (yielded ops a.tmps) = true then (o.wp P a w (fun a' w' => wpList P ops (stepQ (fun _ => True) K) [] a' w') (stepQ (fun _ => True) K) ∨ (o.asks P a w ∧ LetsOut (stepQ (fun _ => True) K))) else wpList P ops (stepQ (fun _ => True) K) [] (a.put o.dst undef) w := h
  split
  · rename_i hwn
    rw [if_pos hwn] at hw'
    have hw' := hw'.resolve_right (fun hh => by obtain ⟨_, a, w, hq⟩ := hh; exact hq)
    refine .inl (wp_move rfl (fun x a w hx hq => ?_) (fun v w' hk => hk.2) (fun d v w' hk => hk.2) hw')
    cases x <;> first | exact hx rfl | exact hq
  · rename_i hwn
    rw [if_neg hwn] at hw'
    exact hw'.2

theorem flow_any {P : Program} {ops : Array Oper} {Q : Exit → Act → World → Prop} {Inv : Array Bool → Act → World → Prop} (hback : ∀ (i : Nat) (o : Oper), ops[i]? = some o → ∀ e ∈ o.after, Region.binds .any e = true → e.on < i)
    (hs : ∀ (i : Nat) (o : Oper), ops[i]? = some o → flowStep P ops Inv i o) (he : ∀ listed b u, (∀ i, i < ops.size → listed.getD i false = true) → Inv listed b u → Q .normal b u) :
    ∀ (f : Nat) (listed : Array Bool) (a : Act) (w : World), left ops.size listed = f → listed.size = ops.size → Inv listed a w → wpAny P .any ops Q f listed a w := by
  intro f
  induction f with
  | zero =>
    intro listed a w hf hsz h
    have hall := left_zero hf
    refine ⟨List.eq_nil_iff_forall_not_mem.2 fun i hi => ?_, he listed a w (fun j hj => ?_) h⟩
    · obtain ⟨hu, o, ho, _⟩ := mem_ready.1 hi
      rw [hall i (Array.getElem?_eq_some_iff.1 ho).1] at hu
      cases hu
    · rw [← get_in (by rw [hsz]; exact hj)]
      exact hall j hj
  | succ f ih =>
    intro listed a w hf hsz h
    obtain ⟨i0, hi0, hu0, hb0⟩ := left_least (n := ops.size) (listed := listed) (by omega)
    have hin : ∀ j, j < ops.size → listed.getD j true = listed.getD j false := fun j hj => get_in (by rw [hsz]; exact hj)
    have hr0 : i0 ∈ Region.ready .any ops listed := by
      refine mem_ready.2 ⟨hu0, ops[i0], Array.getElem?_eq_getElem hi0, fun e he' hb => ?_⟩
      have := hback i0 _ (Array.getElem?_eq_getElem hi0) e he' hb
      rw [← hin e.on (by omega)]
      exact hb0 e.on this
    refine ⟨fun hno => (by rw [hno] at hr0; cases hr0), fun i hi => ?_⟩
    obtain ⟨hun, o, ho, hall⟩ := mem_ready.1 hi
    have hil : i < ops.size := (Array.getElem?_eq_some_iff.1 ho).1
    have hleft : left ops.size (listed.setIfInBounds i true) = f := by have := left_set hun ops.size hil; omega
    have waits : ∀ k, Region.waitsFor .any ops i k = true → listed.getD k false = true := fun k hk => by
      obtain ⟨o', ho', e, he', hb, hon⟩ := Region.waitsFor_spec hk
      rw [ho] at ho'; cases ho'
      have := hall e he' hb
      rwa [hon] at this
    exact wpOp_mono (fun a' w' hk => ih _ a' w' hleft (by simp [hsz]) hk) (wpOp_of_list ho (hs i o ho listed a w hsz (getD_both hun) waits h))

/-- By an invariant of what has come up. -/
theorem wp_region_flow {P : Program} {id : Nat} {Q : Exit → Act → World → Prop} {a : Act} {w : World} {l : List Oper} (Inv : Array Bool → Act → World → Prop) (hm : P.follows .mixedOrders = true) (hB : flows l.toArray = true)
    (h0 : Inv (Array.replicate l.toArray.size false) a w.drew) (hs : flowSteps P l.toArray Inv 0 l) (he : ∀ listed b u, (∀ i, i < l.toArray.size → listed.getD i false = true) → Inv listed b u → Q .normal b u) :
    (Code.region id l.toArray true).wp P Q a w := by
  simp only [flows, Bool.and_eq_true, List.all_eq_true, List.mem_range] at hB
  have hback : ∀ (i : Nat) (o : Oper), l.toArray[i]? = some o → ∀ e ∈ o.after, Region.binds .any e = true → e.on < i := by
    intro i o ho e he hb
    have := hB.2 i (Array.getElem?_eq_some_iff.1 ho).1
    simp only [ho, Option.all_some, Array.all_eq_true_iff_forall_mem, Bool.or_eq_true, Bool.not_eq_true', decide_eq_true_eq] at this
    rcases this e he with h | h
    · rw [hb] at h; cases h
    · exact h
  refine wp_region_any hm (flow_any hback (fun i o ho => ?_) he _ _ _ _ ?_ (by simp) h0)
  · have := flowSteps_at hs (j := i) (o := o) (by simpa using ho)
    rwa [Nat.zero_add] at this
  · unfold left
    rw [List.countP_eq_length.2 fun j hj => ?_, List.length_range]
    have : j < l.length := by have := List.mem_range.1 hj; simpa using this
    simp [this]

/-- Values by number, one of them anew. -/
def upd (x : Nat → Value) (i : Nat) (v : Value) : Nat → Value := fun k => if k = i then v else x k

theorem upd_same (x : Nat → Value) (i : Nat) (v : Value) : upd x i v i = v := if_pos rfl

theorem upd_other (x : Nat → Value) {i k : Nat} (v : Value) (h : k ≠ i) : upd x i v k = x k := if_neg h

/-- The frame with these values at the operations' slots. -/
def putsX : Act → List Oper → Nat → (Nat → Value) → Act
  | a, [], _, _ => a
  | a, o :: os, i, x => putsX (a.put o.dst (x i)) os (i + 1) x

/-- The values that are the same in every order. -/
def Uniq (V : Nat → Option Value) (listed : Array Bool) (x : Nat → Value) : Prop := ∀ k v, V k = some v → listed.getD k false = true → x k = v

theorem Uniq.step {V : Nat → Option Value} {listed : Array Bool} {x : Nat → Value} (h : Uniq V listed x) {i : Nat} {v : Value} (hv : ∀ u, V i = some u → v = u) : Uniq V (listed.setIfInBounds i true) (upd x i v) := by
  intro k u hk hl
  by_cases e : k = i
  · subst e
    rw [upd_same]
    exact hv u hk
  · rw [upd_other x v e]
    exact h k u hk (by rwa [getD_set_ne false (Ne.symm e)] at hl)

theorem listed_old {listed : Array Bool} {i k : Nat} (e : k ≠ i) (h : (listed.setIfInBounds i true).getD k false = true) : listed.getD k false = true := by rwa [getD_set_ne false (Ne.symm e)] at h

end Go.Proofs.Ytigoniochamjgaa
