/-
  Texts of one proof, merged: Tail, Made, Float, Flow.
-/
import Derived.Test.YtfpfgaifhmgpiaaDoorQL145
import Derived.StillTail
namespace Go.Proofs.YtfpfgaifhmgpiaaDoor
open Go.RowKit

section
variable {P : Program} {ops : Array Oper} {md : Region.Mode} {C : World → Prop}

/-- 'f' operations below number n come up, in whatever order; then L. -/
def heads (P : Program) (md : Region.Mode) (ops : Array Oper) (C : World → Prop) (n : Nat) (L : Array Bool → Act → Prop) : Nat → Array Bool → Act → Prop
  | 0 => L
  | f + 1 => fun listed a => Region.ready md ops listed ≠ [] ∧ ∀ i ∈ Region.ready md ops listed, i < n ∧ qOp P ops C i (heads P md ops C n L f (listed.setIfInBounds i true)) a

theorem heads_any {n g : Nat} {L : Array Bool → Act → Prop} {Q : Exit → Act → World → Prop} (hL : ∀ listed a w, C w → L listed a → wpAny P md ops Q g listed a w) :
    ∀ (f : Nat) (listed : Array Bool) (a : Act) (w : World), C w → heads P md ops C n L f listed a → wpAny P md ops Q (f + g) listed a w := by
  intro f
  induction f with
  | zero => intro listed a w hw h; rw [Nat.zero_add]; exact hL _ _ _ hw h
  | succ f ih =>
    intro listed a w hw h
    rw [Nat.add_right_comm]
    exact ⟨fun h0 => absurd h0 h.1, fun i hi => wpOp_of_qOp hw (fun a' w' hw' h' => ih _ a' w' hw' h') (h.2 i hi).2⟩

/-- Whichever comes up first, operation i may as well. -/
theorem heads_first {n i : Nat} {oi : Oper} {v : Value} {L : Array Bool → Act → Prop} (hi : ops[i]? = some oi) (hsel : ∀ (j : Nat) (o : Oper) cs b, ops[j]? = some o → o.op ≠ .select cs b)
    (hs : Region.sinkB md ops n = true) (hc : Region.chainB md ops n = true) (hn : n < ops.size) (hin : i < n) (hL : ∀ listed a, L listed a → ∀ j ∈ Region.ready md ops listed, n ≤ j)
    (f : Nat) : ∀ (listed : Array Bool) (a : Act), HeadInv md ops n listed →
      (∀ j oj, ops[j]? = some oj → j ≠ i → listed.getD j true = false → (∀ e ∈ oj.after, Region.binds md e = true → e.on ≠ i) → oi.apart ops oj = true) →
      i ∈ Region.ready md ops listed → YieldsIn P ops C oi v a → heads P md ops C n L f (listed.setIfInBounds i true) (a.put oi.dst v) → heads P md ops C n L (f + 1) listed a := by
  induction f with
  | zero =>
    intro listed a inv _ hr hy H
    have hun := (mem_ready.1 hr).1
    refine ⟨fun h0 => (by rw [h0] at hr; cases hr), fun j hj => ?_⟩
    have hjn : j < n := Nat.lt_of_not_le fun hle => tail_waits hs hc hn inv _ i rfl hin hun j hle hj
    by_cases hji : j = i
    · subst hji; exact ⟨hjn, hy.qOp hi H⟩
    · exact absurd (hL _ _ H j (ready_mono hj hji)) (Nat.not_le_of_lt hjn)
  | succ f ih =>
    intro listed a inv hfree hr hy H
    have hun := (mem_ready.1 hr).1
    refine ⟨fun h0 => (by rw [h0] at hr; cases hr), fun j hj => ?_⟩
    have hjn : j < n := Nat.lt_of_not_le fun hle => tail_waits hs hc hn inv _ i rfl hin hun j hle hj
    by_cases hji : j = i
    · subst hji; exact ⟨hjn, hy.qOp hi H⟩
    obtain ⟨hjun, oj, hoj, hall⟩ := mem_ready.1 hj
    have hno : ∀ e ∈ oj.after, Region.binds md e = true → e.on ≠ i := fun e he hb heq => by
      have h1 := hall e he hb
      rw [heq, getD_both hun] at h1
      cases h1
    have hput := qOp_put hoj (hfree j oj hoj hji hjun hno) (fun cs b => hsel i oi cs b hi) (fun cs b => hsel j oj cs b hoj) hy (H.2 j (ready_mono hj hji)).2
    refine ⟨hjn, qOp_mono (fun a' h3 => ?_) hput⟩
    refine ih _ a' (inv.set hj hjn) (fun k ok hk hki hku hkn => hfree k ok hk hki ?_ hkn) (ready_mono hr (Ne.symm hji)) h3.1 (by rw [Array.setIfInBounds_comm _ _ hji]; exact h3.2)
    by_cases hjk : j = k
    · subst hjk; exact hjun
    · rwa [getD_set_ne true hjk] at hku

theorem heads_walk {n g : Nat} {Lq : Act → Prop} (hsel : Region.noSelect ops = true) (hs : Region.sinkB md ops n = true) (hc : Region.chainB md ops n = true) (hn : n < ops.size) :
    ∀ (l : List Oper) (k : Nat) (listed : Array Bool) (a : Act), (∀ j, j < l.length → l[j]? = ops[k + j]?) → k + l.length = n → HeadInv md ops n listed →
    Region.lexHead md ops g l.length k listed = true → wpQuiet P ops C Lq l a → heads P md ops C n (fun listed' a' => Region.seqB md ops g n listed' = true ∧ Lq a') l.length listed a
  | [], k, listed, a, _, hk, _, hB, h => by
    obtain rfl : k = n := by simpa using hk
    exact ⟨by simpa [Region.lexHead] using hB, h⟩
  | o :: l, k, listed, a, hl, hk, inv, hB, h => by
    have h0 : ops[k]? = some o := by simpa using (hl 0 (by simp)).symm
    simp only [List.length_cons, Region.lexHead, Bool.and_eq_true] at hB
    obtain ⟨⟨hr, hf⟩, hB'⟩ := hB
    simp only [List.length_cons] at hk
    have hr' : k ∈ Region.ready md ops listed := by simpa using hr
    obtain ⟨v, hy, hK⟩ := yieldsIn_of_qOp h0 (show qOp P ops C k (wpQuiet P ops C Lq l) a by unfold qOp; simp only [h0]; exact h)
    exact heads_first h0 (Region.noSelect_spec hsel) hs hc hn (by omega) (fun _ _ hL => seqB_ready hL.1) l.length listed a inv (Region.free_spec h0 hf) hr' hy
      (heads_walk hsel hs hc hn l (k + 1) _ _ (fun j hj => by have := hl (j + 1) (by simp; omega); simpa [Nat.add_assoc, Nat.add_comm 1 j] using this) (by omega) (inv.set hr' (by omega)) hB' hK)

end

/-- One walk serves every order: the first n operations over all worlds that keep the old blocks, then the rest from each of them. -/
theorem wp_region_later_tail {P : Program} {id : Nat} {Q : Exit → Act → World → Prop} {a : Act} {w : World} {l : List Oper} (n : Nat) (hm : P.follows .mixedOrders = true) (hB : Region.lexTailB .any l.toArray n = true)
    (h : wpQuiet P l.toArray (fun w' => ∃ z : Later w, w' = z.to) (fun a' => ∀ w', (∃ z : Later w, w' = z.to) → wpList P l.toArray Q (l.drop n) a' w') (l.take n) a) : (Code.region id l.toArray true).wp P Q a w := by
  simp only [Region.lexTailB, Bool.and_eq_true, decide_eq_true_eq] at hB
  obtain ⟨⟨⟨⟨hsel, hn⟩, hs⟩, hc⟩, hlex⟩ := hB
  have hnl : n < l.length := by simpa using hn
  have htl : (l.take n).length = n := by simp; omega
  have hdl : (l.drop n).length = l.toArray.size - n := by simp
  have inv0 : HeadInv .any l.toArray n (Array.replicate l.toArray.size false) :=
    ⟨by simp, fun j oj _ hl => (by rw [getD_replicate_false] at hl; cases hl), fun t _ ht => getD_in (by simpa using ht) (getD_replicate_false _ _)⟩
  have H := heads_walk (md := .any) (g := l.toArray.size - n) hsel hs hc hn (l.take n) 0 _ a (fun j hj => by
    rw [htl] at hj
    simp [hj]) (by simpa using htl) inv0 (by rw [htl]; exact hlex) h
  refine wp_region_any hm ?_
  have hC : ∃ z : Later w, { w with drawn := w.drawn + 1 } = z.to := ⟨⟨w.drew, rfl, rfl, rfl, Nat.le_refl _, fun _ _ => rfl⟩, rfl⟩
  have R := heads_any (Q := Q) (g := l.toArray.size - n) (fun listed a' w' hw' hL => by
    have := wpAny_of_seq (md := .any) (Q' := Q) (l.drop n) n listed a' w' (fun j => by simp [List.getElem?_drop]) (by rw [hdl]; exact hL.1) (hL.2 w' hw')
    rwa [hdl] at this) _ _ _ _ hC H
  rw [htl, show n + (l.toArray.size - n) = l.toArray.size by omega] at R
  exact R

end Go.Proofs.YtfpfgaifhmgpiaaDoor

namespace Go.Proofs.YtfpfgaifhmgpiaaDoor
open Go.RowKit

/-- A world behind w that keeps the blocks of w and meets F. -/
structure LaterF (w : World) (F : World → Prop) where
  to : World
  ok : Below w.heap.size w to
  fact : F to

theorem LaterF.cell {w : World} {F : World → Prop} (z : LaterF w F) {p : Addr} {v : Value} (h : w.cell? p = some v) : z.to.cell? p = some v :=
  (z.ok.cell (World.block_lt_of_cell? _ _ h)).trans h

section
variable {P : Program} {ops : Array Oper} {C : World → Prop}

theorem exec_agree (o : Oper) (hs : ∀ cs b, o.op ≠ .select cs b) {a b : Act} (h : ∀ d ∈ o.looksAt ops, a.tmps[d]? = b.tmps[d]?) : execOp a.eval o = execOp b.eval o :=
  execOp_congr o hs fun x hx => by
    cases x with
    | tmp t =>
      have : t ∈ o.looksAt ops := List.mem_append_left _ (List.mem_filterMap.2 ⟨.tmp t, by simpa using hx, rfl⟩)
      simp only [Act.eval]
      rw [Array.getD_eq_getD_getElem?, Array.getD_eq_getD_getElem?, h t this]
    | _ => rfl

theorem wanted_agree (o : Oper) {a b : Act} (h : ∀ d ∈ o.looksAt ops, a.tmps[d]? = b.tmps[d]?) : Region.wanted o (yielded ops a.tmps) = Region.wanted o (yielded ops b.tmps) := by
  unfold Region.wanted
  cases hg : o.guard with
  | none => rfl
  | some gw =>
    obtain ⟨g, want⟩ := gw
    have hy : yielded ops a.tmps g = yielded ops b.tmps g := by
      unfold yielded
      cases ht : (ops[g]?).bind (·.dst) with
      | none => rfl
      | some t =>
        have := h t (by simp [Oper.looksAt, hg, ht])
        simp only [Option.bind_some, this]
    simp only [hy]

theorem put_tmps (a : Act) (dst : Option Tmp) (v : Value) (d : Tmp) : (a.put dst v).tmps[d]? = if dst = some d then (if d < a.tmps.size then some v else none) else a.tmps[d]? := by
  cases dst with
  | none => simp [Act.put]
  | some e =>
    by_cases h : e = d
    · subst h
      simp [Act.put, Array.getElem?_setIfInBounds]
    · simp [Act.put, Array.getElem?_setIfInBounds_ne h, h]

theorem put_size (a : Act) (dst : Option Tmp) (v : Value) : (a.put dst v).tmps.size = a.tmps.size := by
  cases dst <;> simp [Act.put]

theorem put_defers (a : Act) (dst : Option Tmp) (v : Value) : (a.put dst v).defers = a.defers := by
  cases dst <;> rfl

/-- What one walk in the order of the text leaves as it was. -/
theorem walk_keeps {A : Act} : ∀ (l : List Oper) (a : Act), wpQuiet P ops C (fun a' => a' = A) l a →
    A.tmps.size = a.tmps.size ∧ A.defers = a.defers ∧ ∀ d, (∀ o ∈ l, o.dst ≠ some d) → A.tmps[d]? = a.tmps[d]?
  | [], a, h => by
    have : a = A := h
    subst this
    exact ⟨rfl, rfl, fun _ _ => rfl⟩
  | o :: l, a, h => by
    have key : ∃ v, wpQuiet P ops C (fun a' => a' = A) l (a.put o.dst v) := by
      unfold wpQuiet at h
      split at h
      · obtain ⟨v, _, h2⟩ := h; exact ⟨v, h2⟩
      · exact ⟨_, h⟩
    obtain ⟨v, hv⟩ := key
    obtain ⟨h1, h2, h3⟩ := walk_keeps l _ hv
    refine ⟨h1.trans (put_size _ _ _), h2.trans (put_defers _ _ _), fun d hd => ?_⟩
    rw [h3 d (fun o' ho' => hd o' (List.mem_cons_of_mem _ ho')), put_tmps, if_neg (hd o (List.mem_cons_self ..))]

/-- At the frame that the walk ends in, an operation of the walk yields what stands there in its slot. -/
def Settled (P : Program) (ops : Array Oper) (C : World → Prop) (A : Act) (o : Oper) : Prop :=
  (Region.wanted o (yielded ops A.tmps) = true ∧ ∃ v, (∀ d, o.dst = some d → d < A.tmps.size → A.tmps[d]? = some v) ∧ ∀ w, C w → o.quietAt P A C w v) ∨
  (Region.wanted o (yielded ops A.tmps) = false ∧ ∀ d, o.dst = some d → d < A.tmps.size → A.tmps[d]? = some undef)

theorem walk_settles {A : Act} (hsel : ∀ (o : Oper), o ∈ ops → ∀ cs b, o.op ≠ .select cs b) : ∀ (l : List Oper) (a : Act), wpQuiet P ops C (fun a' => a' = A) l a → (∀ o ∈ l, o ∈ ops) →
    (∀ (i : Nat) (o : Oper), l[i]? = some o → ∀ (j : Nat) (o' : Oper), i ≤ j → l[j]? = some o' → ∀ d ∈ o.looksAt ops, o'.dst ≠ some d) →
    (∀ (i j : Nat) (o o' : Oper), i < j → l[i]? = some o → l[j]? = some o' → ∀ d, o.dst = some d → o'.dst ≠ some d) → ∀ o ∈ l, Settled P ops C A o
  | [], _, _, _, _, _ => fun o ho => by cases ho
  | o :: l, a, h, hin, hlook, hdst => by
    have keep : ∀ d ∈ o.looksAt ops, A.tmps[d]? = a.tmps[d]? := by
      obtain ⟨_, _, h3⟩ := walk_keeps _ _ h
      intro d hd
      refine h3 d fun o' ho' => ?_
      obtain ⟨j, hj, rfl⟩ := List.getElem_of_mem ho'
      exact hlook 0 o rfl j _ (Nat.zero_le _) (List.getElem?_eq_getElem hj) d hd
    have hw := wanted_agree o keep
    have he := exec_agree o (hsel o (hin o (List.mem_cons_self ..))) keep
    have slot : ∀ v, wpQuiet P ops C (fun a' => a' = A) l (a.put o.dst v) → ∀ d, o.dst = some d → d < A.tmps.size → A.tmps[d]? = some v := by
      intro v hv d hd hlt
      obtain ⟨h1, _, h3⟩ := walk_keeps _ _ hv
      rw [put_size] at h1
      rw [h3 d (fun o' ho' => by
        obtain ⟨j, hj, rfl⟩ := List.getElem_of_mem ho'
        exact hdst 0 (j + 1) o _ (Nat.succ_pos _) rfl (by simp [hj]) d hd), put_tmps, if_pos hd, if_pos (show d < a.tmps.size from h1 ▸ hlt)]
    have rest : ∀ v, wpQuiet P ops C (fun a' => a' = A) l (a.put o.dst v) → ∀ o' ∈ l, Settled P ops C A o' := fun v hv =>
      walk_settles hsel l _ hv (fun o' ho' => hin o' (List.mem_cons_of_mem _ ho'))
        (fun i oi hi j oj hij hj => hlook (i + 1) oi (by simpa using hi) (j + 1) oj (by omega) (by simpa using hj))
        (fun i j oi oj hij hi hj => hdst (i + 1) (j + 1) oi oj (by omega) (by simpa using hi) (by simpa using hj))
    unfold wpQuiet at h
    intro o' ho'
    split at h
    · rename_i hwa
      obtain ⟨v, h1, h2⟩ := h
      rcases List.mem_cons.1 ho' with rfl | hm
      · refine .inl ⟨hw.trans hwa, v, slot v h2, fun w hCw => ?_⟩
        have := h1 w hCw
        unfold Oper.quietAt at this ⊢
        rwa [he]
      · exact rest v h2 o' hm
    · rename_i hwa
      rcases List.mem_cons.1 ho' with rfl | hm
      · exact .inr ⟨hw.trans (by simpa using hwa), slot _ h⟩
      · exact rest _ h o' hm

/-- A settled operation, carried out in a frame that agrees in what it looks at. -/
theorem Settled.step {A a : Act} {o : Oper} {i : Nat} {w : World} {K : Act → World → Prop} {Q : Exit → Act → World → Prop} (hi : ops[i]? = some o) (hs : ∀ cs b, o.op ≠ .select cs b) (h : Settled P ops C A o)
    (hag : ∀ d ∈ o.looksAt ops, a.tmps[d]? = A.tmps[d]?) (hCw : C w)
    (hK : ∀ v w', C w' → (∀ d, o.dst = some d → d < A.tmps.size → A.tmps[d]? = some v) → K (a.put o.dst v) w') : wpOp P ops Q i K a w := by
  unfold wpOp
  simp only [hi]
  rw [wanted_agree o hag]
  rcases h with ⟨hw, v, hv, hq⟩ | ⟨hw, hv⟩
  · simp only [hw, if_true]
    left
    have h3 := hq w hCw
    unfold Oper.quietAt at h3
    rw [← exec_agree o hs hag] at h3
    unfold Oper.wp
    generalize (execOp a.eval o).run P w = r at *
    cases r with
    | ok n w' =>
      cases n <;> simp only [Oper.quietUpon] at h3 <;> simp only [Oper.upon]
      case value u => obtain ⟨e1, e2⟩ := h3; rw [e1, e2]; exact hK v w hCw hv
      case skip => obtain ⟨e1, e2⟩ := h3; rw [e1, ← e2]; exact hK v w hCw hv
      case enter f args =>
        obtain ⟨e1, hc⟩ := h3
        rw [e1]
        exact hc.mono fun e w'' ⟨he, hw''⟩ => by subst he; exact hK v w'' hw'' hv
    | halt x w' => simp only [Oper.quietUpon] at h3
  · simp only [hw, Bool.false_eq_true, if_false]
    exact hK undef w hCw hv

end

/-- The region has this form: m operations; the m-th makes a variable, the next fills it; what is left waits for all of these, and then for each other. -/
def formed (ops : Array Oper) (m : Nat) : Bool :=
  Region.noSelect ops && decide (m + 1 < ops.size) &&
  ((List.range ops.size).all fun i => (List.range ops.size).all fun j => i == j || (((ops[i]?).bind (·.dst)).isNone || ((ops[i]?).bind (·.dst)) != ((ops[j]?).bind (·.dst)))) &&
  ((List.range m).all fun i => (List.range ops.size).all fun k => match (ops[k]?).bind (·.dst) with
    | some d => !((ops[i]?).any fun o => (o.looksAt ops).contains d) || (decide (k < i) && Region.waitsFor .any ops i k)
    | none => true) &&
  ((List.range ops.size).all fun k => match (ops[k]?).bind (·.dst) with
    | some d => !((ops[m + 1]?).any fun o => (o.looksAt ops).contains d) || (decide (k ≤ m) && Region.waitsFor .any ops (m + 1) k)
    | none => true) &&
  Region.waitsFor .any ops (m + 1) m &&
  ((List.range (m + 2)).all fun i => (ops[i]?).all fun o => o.after.all fun e => !Region.binds .any e || decide (e.on < i)) &&
  (decide (ops.size ≤ m + 2) || (List.range (m + 2)).all fun i => Region.waitsFor .any ops (m + 2) i) &&
  ((List.range ops.size).all fun t => decide (t ≤ m + 2) || Region.waitsFor .any ops t (t - 1)) &&
  Region.seqB .any ops (ops.size - (m + 2)) (m + 2) (Array.replicate (m + 2) true ++ Array.replicate (ops.size - (m + 2)) false)

structure Formed (ops : Array Oper) (m : Nat) : Prop where
  sel : ∀ (j : Nat) (o : Oper) cs b, ops[j]? = some o → o.op ≠ .select cs b
  lt : m + 1 < ops.size
  apart : ∀ (i j : Nat) (o o' : Oper) (d : Tmp), i ≠ j → ops[i]? = some o → ops[j]? = some o' → o.dst = some d → o'.dst ≠ some d
  looks : ∀ (i k : Nat) (o o' : Oper) (d : Tmp), i < m → ops[i]? = some o → ops[k]? = some o' → o'.dst = some d → d ∈ o.looksAt ops → k < i ∧ Region.waitsFor .any ops i k = true
  fills : ∀ (k : Nat) (o o' : Oper) (d : Tmp), ops[m + 1]? = some o → ops[k]? = some o' → o'.dst = some d → d ∈ o.looksAt ops → k ≤ m ∧ Region.waitsFor .any ops (m + 1) k = true
  fill : Region.waitsFor .any ops (m + 1) m = true
  back : ∀ (i : Nat) (o : Oper), i < m + 2 → ops[i]? = some o → ∀ e ∈ o.after, Region.binds .any e = true → e.on < i
  first : ∀ i, m + 2 < ops.size → i < m + 2 → Region.waitsFor .any ops (m + 2) i = true
  chain : ∀ t, m + 2 < t → t < ops.size → Region.waitsFor .any ops t (t - 1) = true
  seq : Region.seqB .any ops (ops.size - (m + 2)) (m + 2) (Array.replicate (m + 2) true ++ Array.replicate (ops.size - (m + 2)) false) = true

theorem get_in {listed : Array Bool} {j : Nat} (h : j < listed.size) : listed.getD j true = listed.getD j false := by simp [h]

theorem get_set_same {listed : Array Bool} {i : Nat} (d : Bool) (h : i < listed.size) : (listed.setIfInBounds i true).getD i d = true := by simp [h]

/-- How many of the first n have not come up. -/
def left (n : Nat) (listed : Array Bool) : Nat := (List.range n).countP fun j => !listed.getD j true

theorem left_set {listed : Array Bool} {i : Nat} (hu : listed.getD i true = false) : ∀ n, i < n → left n (listed.setIfInBounds i true) + 1 = left n listed := by
  have hi : i < listed.size := by
    rcases Nat.lt_or_ge i listed.size with h | h
    · exact h
    · simp [Array.getElem?_eq_none h] at hu
  have same : ∀ n, n ≤ i → left n (listed.setIfInBounds i true) = left n listed := fun n hn => by
    unfold left
    refine List.countP_congr fun j hj => ?_
    rw [getD_set_ne true (by have := List.mem_range.1 hj; omega)]
  intro n
  induction n with
  | zero => intro h; omega
  | succ n ih =>
    intro h
    unfold left
    rw [List.range_succ, List.countP_append, List.countP_append, List.countP_singleton, List.countP_singleton]
    by_cases hn : i = n
    · subst hn
      have := same i (Nat.le_refl _)
      unfold left at this
      rw [this, get_set_same true hi, hu]
      simp
    · have := ih (by omega)
      unfold left at this
      rw [getD_set_ne true hn]
      omega

theorem left_zero {n : Nat} {listed : Array Bool} (h : left n listed = 0) : ∀ j, j < n → listed.getD j true = true := fun j hj => by
  unfold left at h
  have := List.countP_eq_zero.1 h j (List.mem_range.2 hj)
  simpa using this

theorem left_least {n : Nat} {listed : Array Bool} (h : left n listed ≠ 0) : ∃ i, i < n ∧ listed.getD i true = false ∧ ∀ j, j < i → listed.getD j true = true := by
  have h1 : ∃ i, i < n ∧ listed.getD i true = false := by
    refine Classical.byContradiction fun hno => h ?_
    unfold left
    rw [List.countP_eq_zero]
    intro j hj
    cases hg : listed.getD j true with
    | true => simp
    | false => exact absurd ⟨j, List.mem_range.1 hj, hg⟩ hno
  obtain ⟨i, hi, hu⟩ := h1
  induction i using Nat.strongRecOn with
  | _ i ih =>
    by_cases hb : ∃ j, j < i ∧ listed.getD j true = false
    · obtain ⟨j, hj, hjf⟩ := hb
      exact ih j hj (by omega) hjf
    · refine ⟨i, hi, hu, fun j hj => ?_⟩
      cases hg : listed.getD j true with
      | true => rfl
      | false => exact absurd ⟨j, hj, hg⟩ hb

/-- How far the region has come. -/
structure Mid (ops : Array Oper) (m : Nat) (s : Tmp) (A : Act) (w0 : World) (o0 o1 : Obj) (listed : Array Bool) (a : Act) (w : World) : Prop where
  size : listed.size = ops.size
  tail : ∀ t, m + 2 ≤ t → t < ops.size → listed.getD t true = false
  tmps : a.tmps.size = A.tmps.size
  defers : a.defers = A.defers
  slots : ∀ d, (∀ k o, ops[k]? = some o → o.dst = some d → (k < m ∧ listed.getD k false = true) ∨ m + 2 ≤ k) → a.tmps[d]? = A.tmps[d]?
  later : Below w0.heap.size w0 w
  made : listed.getD m false = true → ∃ g, w0.heap.size ≤ g ∧ a.tmps[s]? = some (.pointer (some ⟨g, 0, none⟩)) ∧ w.heap[g]? = some (if listed.getD (m + 1) false = true then o1 else o0)
  raw : listed.getD m false = false → listed.getD (m + 1) false = false

section
variable {P : Program} {ops : Array Oper} {m : Nat} {s : Tmp} {A : Act} {w0 : World} {o0 o1 : Obj}

/-- The variable is made. -/
theorem Mid.make {listed : Array Bool} {a : Act} {w : World} (hF : Formed ops m) {oM : Oper} (hm : ops[m]? = some oM) (hms : oM.dst = some s) (hsA : s < A.tmps.size) (h : Mid ops m s A w0 o0 o1 listed a w) (hu : listed.getD m true = false) :
    Mid ops m s A w0 o0 o1 (listed.setIfInBounds m true) (a.put (some s) (.pointer (some ⟨w.heap.size, 0, none⟩))) (w.alloc o0) := by
  have hlt := hF.lt
  have hms' : m < listed.size := by rw [h.size]; omega
  have hu' : listed.getD m false = false := getD_both hu
  refine ⟨by simp [h.size], fun t ht htl => by rw [getD_set_ne true (by omega)]; exact h.tail t ht htl, (put_size _ _ _).trans h.tmps, (put_defers _ _ _).trans h.defers, fun d hd => ?_, h.later.alloc h.later.size _, fun _ => ?_, fun hmm => ?_⟩
  · have hds : s ≠ d := fun e => by
      subst e
      rcases hd m oM hm hms with ⟨h1, _⟩ | h1 <;> omega
    rw [put_tmps, if_neg (fun e => hds (Option.some.inj e))]
    refine h.slots d fun k ok hok hkd => ?_
    rcases hd k ok hok hkd with ⟨h1, h2⟩ | h1
    · rw [getD_set_ne false (by omega)] at h2
      exact .inl ⟨h1, h2⟩
    · exact .inr h1
  · refine ⟨w.heap.size, h.later.size, ?_, ?_⟩
    · rw [put_tmps, if_pos rfl, if_pos (show s < a.tmps.size from h.tmps ▸ hsA)]
    · rw [getD_set_ne false (by omega), h.raw hu', if_neg (by simp)]
      exact heap_alloc_new _ _
  · rw [get_set_same false hms'] at hmm
    cases hmm

/-- The variable is filled. -/
theorem Mid.filled {listed : Array Bool} {a : Act} {w w' : World} (hF : Formed ops m) (h : Mid ops m s A w0 o0 o1 listed a w) {g : Nat} (hg : w0.heap.size ≤ g)
    (hs : a.tmps[s]? = some (.pointer (some ⟨g, 0, none⟩))) (h1 : w'.heap[g]? = some o1) (h2 : ∀ k, k ≠ g → w'.heap[k]? = w.heap[k]?) (h3 : w'.heap.size = w.heap.size) (h4 : w'.os = w.os) (h5 : w'.tape = w.tape) (h6 : w'.output = w.output) (hmm : listed.getD m false = true) :
    Mid ops m s A w0 o0 o1 (listed.setIfInBounds (m + 1) true) a w' := by
  have hlt := hF.lt
  have hms' : m + 1 < listed.size := by rw [h.size]; omega
  refine ⟨by simp [h.size], fun t ht htl => by rw [getD_set_ne true (by omega)]; exact h.tail t ht htl, h.tmps, h.defers, fun d hd => h.slots d fun k ok hok hkd => ?_, ?_, fun _ => ?_, fun hn => ?_⟩
  · rcases hd k ok hok hkd with ⟨h1, h2⟩ | h1
    · rw [getD_set_ne false (by omega)] at h2
      exact .inl ⟨h1, h2⟩
    · exact .inr h1
  · exact h.later.trans ⟨h4, h5, h6, Nat.le_of_eq h3.symm, fun k hk => h2 k (by omega)⟩
  · exact ⟨g, hg, hs, by rw [get_set_same false hms', if_pos rfl]; exact h1⟩
  · rw [getD_set_ne false (by omega), hmm] at hn
    cases hn

end

theorem setRow_other (w : World) (g k : Nat) (cs : Array Value) (h : k ≠ g) : (w.setRow g cs).heap[k]? = w.heap[k]? := by
  show (w.heap.modify g _)[k]? = _
  rw [Array.getElem?_modify, if_neg (fun e => h e.symm)]

end Go.Proofs.YtfpfgaifhmgpiaaDoor

namespace Go.Proofs.YtfpfgaifhmgpiaaDoor
open Go.RowKit

/-- The marks of a region's operations: h: a reader; t: one of the forced order; e: one of these behind which no reader is left. -/
inductive Mk where
  | h | t | e

def Mk.isH : Mk → Bool
  | .h => true
  | _ => false

def Mk.isE : Mk → Bool
  | .e => true
  | _ => false

/-- The readers. -/
def headsOf : List Mk → List Oper → List Oper
  | .h :: ms, o :: os => o :: headsOf ms os
  | .t :: ms, _ :: os => headsOf ms os
  | .e :: ms, _ :: os => headsOf ms os
  | _, _ => []

/-- Behind one operation: C, and what follows. -/
def stepQ (C : World → Prop) (K : Act → World → Prop) : Exit → Act → World → Prop
  | .normal, a, w => C w ∧ K a w
  | _, _, _ => False

/-- The others, one by one. -/
def chainT (P : Program) (ops : Array Oper) (C : World → Prop) (Q : Exit → Act → World → Prop) : List Mk → List Oper → Act → World → Prop
  | .h :: ms, _ :: os => fun a w => chainT P ops C Q ms os a w
  | .t :: ms, o :: os => fun a w => wpList P ops (stepQ C (chainT P ops C Q ms os)) [o] a w
  | .e :: ms, o :: os => fun a w => wpList P ops (stepQ (fun _ => True) (chainT P ops C Q ms os)) [o] a w
  | _, _ => fun a w => Q .normal a w

/-- A world, as the walk of readers sees it. -/
structure Same (w : World) where
  to : World
  ok : to = w

theorem Same.cell {w : World} (z : Same w) {p : Addr} {v : Value} (h : w.cell? p = some v) : z.to.cell? p = some v := by rw [z.ok]; exact h

instance (w : World) : Nonempty (Same w) := ⟨⟨w, rfl⟩⟩

/-- The region has this form. -/
def floats (ops : Array Oper) (ms : List Mk) : Bool :=
  Region.noSelect ops && decide (ms.length = ops.size) &&
  ((List.range ops.size).all fun i => (List.range ops.size).all fun j => i == j || (((ops[i]?).bind (·.dst)).isNone || ((ops[i]?).bind (·.dst)) != ((ops[j]?).bind (·.dst)))) &&
  ((List.range ops.size).all fun i => (List.range ops.size).all fun k => match (ops[k]?).bind (·.dst) with
    | some d => !((ops[i]?).any fun o => (o.looksAt ops).contains d) || (decide (k < i) && Region.waitsFor .any ops i k && (!(ms.getD i .h).isH || (ms.getD k .h).isH))
    | none => true) &&
  ((List.range ops.size).all fun i => (ops[i]?).all fun o => o.after.all fun e => !Region.binds .any e || decide (e.on < i)) &&
  ((List.range ops.size).all fun i => (ms.getD i .h).isH || (List.range i).all fun j => (ms.getD j .h).isH || Region.waitsFor .any ops i j || (List.range i).any fun k => decide (j < k) && !(ms.getD k .h).isH) &&
  ((List.range ops.size).all fun i => !(ms.getD i .h).isE || (List.range ops.size).all fun h => !(ms.getD h .h).isH || (List.range (i + 1)).any fun j => !(ms.getD j .h).isH && Region.waitsFor .any ops j h)

structure Floats (ops : Array Oper) (ms : List Mk) : Prop where
  sel : ∀ (j : Nat) (o : Oper) cs b, ops[j]? = some o → o.op ≠ .select cs b
  len : ms.length = ops.size
  apart : ∀ (i j : Nat) (o o' : Oper) (d : Tmp), i ≠ j → ops[i]? = some o → ops[j]? = some o' → o.dst = some d → o'.dst ≠ some d
  looks : ∀ (i k : Nat) (o o' : Oper) (d : Tmp), ops[i]? = some o → ops[k]? = some o' → o'.dst = some d → d ∈ o.looksAt ops → k < i ∧ Region.waitsFor .any ops i k = true ∧ ((ms.getD i .h).isH = true → (ms.getD k .h).isH = true)
  back : ∀ (i : Nat) (o : Oper), ops[i]? = some o → ∀ e ∈ o.after, Region.binds .any e = true → e.on < i
  chain : ∀ i j, i < ops.size → (ms.getD i .h).isH = false → j < i → (ms.getD j .h).isH = false → Region.waitsFor .any ops i j = true ∨ ∃ k, j < k ∧ k < i ∧ (ms.getD k .h).isH = false
  last : ∀ i h, i < ops.size → h < ops.size → (ms.getD i .h).isE = true → (ms.getD h .h).isH = true → ∃ j, j ≤ i ∧ (ms.getD j .h).isH = false ∧ Region.waitsFor .any ops j h = true

theorem floats_spec {ops : Array Oper} {ms : List Mk} (h : floats ops ms = true) : Floats ops ms := by
  unfold floats at h
  simp only [Bool.and_eq_true, List.all_eq_true, List.any_eq_true, List.mem_range, decide_eq_true_eq, Bool.or_eq_true, Bool.not_eq_true'] at h
  obtain ⟨⟨⟨⟨⟨⟨h1, h2⟩, h3⟩, h4⟩, h5⟩, h6⟩, h7⟩ := h
  have inb : ∀ {i : Nat} {o : Oper}, ops[i]? = some o → i < ops.size := fun h => (Array.getElem?_eq_some_iff.1 h).1
  refine ⟨fun j o cs b ho => Region.noSelect_spec h1 j o cs b ho, h2, ?_, ?_, ?_, ?_, ?_⟩
  · intro i j o o' d hij ho ho' hd hd'
    have := h3 i (inb ho) j (inb ho')
    simp [ho, ho', hd, hd', hij] at this
  · intro i k o o' d ho ho' hd hm
    have := h4 i (inb ho) k (inb ho')
    simp only [ho, ho', Option.bind_some, hd, Option.any_some, Bool.or_eq_true, Bool.and_eq_true, decide_eq_true_eq, Bool.not_eq_true'] at this
    rcases this with h | ⟨⟨h, h'⟩, h''⟩
    · exact absurd (List.contains_iff_mem.2 hm) (by rw [h]; simp)
    · refine ⟨h, h', fun hi => ?_⟩
      rcases h'' with h'' | h''
      · rw [hi] at h''; cases h''
      · exact h''
  · intro i o ho e he hb
    have := h5 i (inb ho)
    simp only [ho, Option.all_some, Array.all_eq_true_iff_forall_mem, Bool.or_eq_true, Bool.not_eq_true', decide_eq_true_eq] at this
    rcases this e he with h | h
    · rw [hb] at h; cases h
    · exact h
  · intro i j hi hti hj htj
    rcases h6 i hi with h | h
    · rw [hti] at h; cases h
    · rcases h j hj with (h | h) | ⟨k, hk, h⟩
      · rw [htj] at h; cases h
      · exact .inl h
      · exact .inr ⟨k, h.1, hk, h.2⟩
  · intro i hh hi hhl hei hhh
    rcases h7 i hi with h | h
    · rw [hei] at h; cases h
    · rcases h hh hhl with h | ⟨j, hj, h⟩
      · rw [hhh] at h; cases h
      · exact ⟨j, by omega, h.1, h.2⟩

theorem heads_idx : ∀ (ms : List Mk) (l : List Oper), ∃ g : Nat → Nat, (∀ i o, (headsOf ms l)[i]? = some o → l[g i]? = some o ∧ (ms.getD (g i) .h).isH = true) ∧ ∀ i j, i < j → j < (headsOf ms l).length → g i < g j
  | [], l => ⟨id, fun i o h => by simp [headsOf] at h, fun i j _ h => by simp [headsOf] at h⟩
  | m :: ms, [] => ⟨id, fun i o h => by cases m <;> simp [headsOf] at h, fun i j _ h => by cases m <;> simp [headsOf] at h⟩
  | .h :: ms, o :: os => by
    obtain ⟨g, h1, h2⟩ := heads_idx ms os
    refine ⟨fun i => match i with | 0 => 0 | i + 1 => g i + 1, fun i o' h => ?_, fun i j hij h => ?_⟩
    · cases i with
      | zero => simp [headsOf] at h; subst h; exact ⟨rfl, rfl⟩
      | succ i => simp only [headsOf, List.getElem?_cons_succ] at h; simpa using h1 i o' h
    · cases j with
      | zero => omega
      | succ j =>
        simp only [headsOf, List.length_cons] at h
        cases i with
        | zero => show 0 < g j + 1; omega
        | succ i => show g i + 1 < g j + 1; have := h2 i j (by omega) (by omega); omega
  | .t :: ms, o :: os => by
    obtain ⟨g, h1, h2⟩ := heads_idx ms os
    exact ⟨fun i => g i + 1, fun i o' h => by simpa using h1 i o' h, fun i j hij h => Nat.succ_lt_succ (h2 i j hij h)⟩
  | .e :: ms, o :: os => by
    obtain ⟨g, h1, h2⟩ := heads_idx ms os
    exact ⟨fun i => g i + 1, fun i o' h => by simpa using h1 i o' h, fun i j hij h => Nat.succ_lt_succ (h2 i j hij h)⟩

theorem mem_heads : ∀ (ms : List Mk) (l : List Oper) (i : Nat) (o : Oper), i < ms.length → l[i]? = some o → (ms.getD i .h).isH = true → o ∈ headsOf ms l
  | [], _, i, _, h, _, _ => by simp at h
  | _ :: _, [], i, _, _, h, _ => by simp at h
  | .h :: ms, o' :: os, i, o, h, ho, hi => by
    cases i with
    | zero => simp at ho; subst ho; exact List.mem_cons_self ..
    | succ i => exact List.mem_cons_of_mem _ (mem_heads ms os i o (by simpa using h) (by simpa using ho) (by simpa using hi))
  | .t :: ms, o' :: os, i, o, h, ho, hi => by
    cases i with
    | zero => simp [Mk.isH] at hi
    | succ i => exact mem_heads ms os i o (by simpa using h) (by simpa using ho) (by simpa using hi)
  | .e :: ms, o' :: os, i, o, h, ho, hi => by
    cases i with
    | zero => simp [Mk.isH] at hi
    | succ i => exact mem_heads ms os i o (by simpa using h) (by simpa using ho) (by simpa using hi)

section
variable {P : Program} {ops : Array Oper} {C : World → Prop} {Q : Exit → Act → World → Prop}

/-- The readers are passed over. -/
theorem chainT_skip (ms : List Mk) (l : List Oper) (hl : ms.length = l.length) : ∀ (n p : Nat) (a : Act) (w : World), (∀ j, p ≤ j → j < p + n → (ms.getD j .h).isH = true) → p + n ≤ ms.length →
    chainT P ops C Q (ms.drop p) (l.drop p) a w → chainT P ops C Q (ms.drop (p + n)) (l.drop (p + n)) a w
  | 0, p, a, w, _, _, h => h
  | n + 1, p, a, w, hh, hp, h => by
    have h1 : p < ms.length := by omega
    have h2 : p < l.length := by omega
    have := chainT_skip ms l hl n (p + 1) a w (fun j h3 h4 => hh j (by omega) (by omega)) (by omega) (by
      rw [List.drop_eq_getElem_cons h1, List.drop_eq_getElem_cons h2] at h
      have hm := hh p (Nat.le_refl _) (by omega)
      rw [List.getD_eq_getElem?_getD, List.getElem?_eq_getElem h1] at hm
      simp only [Option.getD_some] at hm
      revert h hm
      cases ms[p] <;> intro h hm
      · exact h
      · cases hm
      · cases hm)
    rwa [show p + 1 + n = p + (n + 1) by omega] at this

/-- Two frames agree but for what has not come up. -/
structure Alike (ops : Array Oper) (listed : Array Bool) (a b : Act) : Prop where
  size : a.tmps.size = b.tmps.size
  defers : a.defers = b.defers
  slots : ∀ d, (∀ (j : Nat) (o : Oper), ops[j]? = some o → o.dst = some d → listed.getD j false = true) → a.tmps[d]? = b.tmps[d]?

theorem Alike.both {listed : Array Bool} {a b : Act} {i : Nat} {o : Oper} (h : Alike ops listed a b) (hi : ops[i]? = some o) (v : Value) : Alike ops (listed.setIfInBounds i true) (a.put o.dst v) (b.put o.dst v) := by
  refine ⟨by rw [put_size, put_size]; exact h.size, by rw [put_defers, put_defers]; exact h.defers, fun d hd => ?_⟩
  rw [put_tmps, put_tmps, h.size]
  by_cases hod : o.dst = some d
  · rw [if_pos hod, if_pos hod]
  · rw [if_neg hod, if_neg hod]
    refine h.slots d fun j oj hoj hjd => ?_
    have hij : i ≠ j := fun e => hod (by subst e; rw [hi] at hoj; cases hoj; exact hjd)
    have := hd j oj hoj hjd
    rwa [getD_set_ne false hij] at this

theorem Alike.left {listed : Array Bool} {a b : Act} {i : Nat} {o : Oper} (h : Alike ops listed a b) (hi : ops[i]? = some o) (v : Value) (hv : ∀ d, o.dst = some d → d < b.tmps.size → b.tmps[d]? = some v) : Alike ops (listed.setIfInBounds i true) (a.put o.dst v) b := by
  refine ⟨by rw [put_size]; exact h.size, by rw [put_defers]; exact h.defers, fun d hd => ?_⟩
  rw [put_tmps, h.size]
  by_cases hod : o.dst = some d
  · rw [if_pos hod]
    split
    · rename_i hlt; exact (hv d hod hlt).symm
    · rename_i hlt; exact (Array.getElem?_eq_none (Nat.le_of_not_lt hlt)).symm
  · rw [if_neg hod]
    refine h.slots d fun j oj hoj hjd => ?_
    have hij : i ≠ j := fun e => hod (by subst e; rw [hi] at hoj; cases hoj; exact hjd)
    have := hd j oj hoj hjd
    rwa [getD_set_ne false hij] at this

theorem Alike.defer {listed : Array Bool} {a b : Act} (h : Alike ops listed a b) (d : Deferred) : Alike ops listed { a with defers := d :: a.defers } { b with defers := d :: b.defers } :=
  ⟨h.size, by show d :: a.defers = d :: b.defers; rw [h.defers], h.slots⟩

/-- One operation, carried out in a frame that agrees in what it looks at. -/
theorem wp_move {o : Oper} {a b : Act} {w : World} {K K' : Act → World → Prop} {Q' : Exit → Act → World → Prop} (he : execOp a.eval o = execOp b.eval o) (hQ : ∀ x a w, x ≠ .normal → ¬ Q' x a w)
    (hK : ∀ v w', K (b.put o.dst v) w' → K' (a.put o.dst v) w') (hD : ∀ d v w', K ({ b with defers := d :: b.defers }.put o.dst v) w' → K' ({ a with defers := d :: a.defers }.put o.dst v) w')
    (h : o.wp P b w K Q') : o.wp P a w K' Q := by
  unfold Oper.wp at h ⊢
  rw [he]
  generalize (execOp b.eval o).run P w = r at *
  cases r with
  | ok n w' =>
    cases n <;> simp only [Oper.upon] at h ⊢
    case value v => exact hK _ _ h
    case skip => exact hK _ _ h
    case defer d => exact hD _ _ _ h
    case enter f args =>
      refine Calls.mono h fun e w'' he => ?_
      cases e with
      | returned v => exact hK _ _ he
      | panicked c => exact absurd he (hQ _ _ _ (by intro e; cases e))
      | outgrown => obtain ⟨a, w, hq⟩ := he; exact absurd hq (hQ _ _ _ (by intro e; cases e))
    case row row args => exact Rows.mono h fun _ _ he => hK _ _ he
  | halt x w' =>
    cases x <;> simp only [Oper.upon] at h ⊢
    exact absurd h (hQ _ _ _ (by intro e; cases e))

/-- How far the region has come: the forced order up to place p. -/
structure FMid (P : Program) (ops : Array Oper) (C : World → Prop) (Q : Exit → Act → World → Prop) (ms : List Mk) (l : List Oper) (A : Act) (listed : Array Bool) (a B : Act) (w : World) (p : Nat) : Prop where
  size : listed.size = ops.size
  le : p ≤ ops.size
  before : ∀ i, i < p → (ms.getD i .h).isH = false → listed.getD i false = true
  behind : ∀ i, p ≤ i → i < ops.size → (ms.getD i .h).isH = false → listed.getD i false = false
  closed : ∀ (j : Nat) (o : Oper), ops[j]? = some o → listed.getD j false = true → ∀ e ∈ o.after, Region.binds .any e = true → listed.getD e.on false = true
  alike : Alike ops listed a B
  kept : B.tmps.size = A.tmps.size ∧ ∀ d, (∀ (i : Nat) (o : Oper), ops[i]? = some o → (ms.getD i .h).isH = false → o.dst ≠ some d) → B.tmps[d]? = A.tmps[d]?
  cls : C w ∨ ∀ i, i < ops.size → (ms.getD i .h).isH = true → listed.getD i false = true
  rest : chainT P ops C Q (ms.drop p) (l.drop p) B w

theorem float_any {ms : List Mk} {l : List Oper} {A : Act} (hops : l.toArray = ops) (hF : Floats ops ms)
    (hset : ∀ u, C u → ∀ (i : Nat) (o : Oper), ops[i]? = some o → (ms.getD i .h).isH = true → Settled P ops (fun x => ∃ z : Same u, x = z.to) A o) :
    ∀ (f : Nat) (listed : Array Bool) (a B : Act) (w : World) (p : Nat), left ops.size listed = f → FMid P ops C Q ms l A listed a B w p → wpAny P .any ops Q f listed a w := by
  have hll : l.length = ops.size := by rw [← hops]; simp
  have hlen : ms.length = l.length := hF.len.trans hll.symm
  have hat : ∀ i : Nat, l[i]? = ops[i]? := fun i => by rw [← hops]; simp
  intro f
  induction f with
  | zero =>
    intro listed a B w p hf h
    have hall := left_zero hf
    have hall' : ∀ j, j < ops.size → listed.getD j false = true := fun j hj => by rw [← get_in (by rw [h.size]; exact hj)]; exact hall j hj
    refine ⟨?_, ?_⟩
    · refine List.eq_nil_iff_forall_not_mem.2 fun i hi => ?_
      obtain ⟨hu, o, ho, _⟩ := mem_ready.1 hi
      rw [hall i (Array.getElem?_eq_some_iff.1 ho).1] at hu
      cases hu
    · have hab : a = B := by
        have e1 : a.tmps = B.tmps := by
          apply Array.ext_getElem?
          intro d
          exact h.alike.slots d fun j o ho _ => hall' j (Array.getElem?_eq_some_iff.1 ho).1
        have e2 := h.alike.defers
        obtain ⟨t1, t2⟩ := a
        obtain ⟨s1, s2⟩ := B
        simp only at e1 e2
        rw [e1, e2]
      have hle := h.le
      have hr := chainT_skip ms l hlen (ops.size - p) p B w (fun j h1 h2 => by
        cases hm : (ms.getD j .h).isH with
        | true => rfl
        | false =>
          have h3 := h.behind j h1 (by omega) hm
          rw [hall' j (by omega)] at h3
          cases h3) (by rw [hF.len]; omega) h.rest
      rw [show p + (ops.size - p) = ops.size by omega, List.drop_of_length_le (by rw [hF.len]; exact Nat.le_refl _)] at hr
      rw [hab]
      exact hr
  | succ f ih =>
    intro listed a B w p hf h
    obtain ⟨i0, hi0, hu0, hb0⟩ := left_least (n := ops.size) (listed := listed) (by omega)
    have hin : ∀ j, j < ops.size → listed.getD j true = listed.getD j false := fun j hj => get_in (by rw [h.size]; exact hj)
    have hr0 : i0 ∈ Region.ready .any ops listed := by
      refine mem_ready.2 ⟨hu0, ops[i0], Array.getElem?_eq_getElem hi0, fun e he hb => ?_⟩
      have := hF.back i0 _ (Array.getElem?_eq_getElem hi0) e he hb
      rw [← hin e.on (by omega)]
      exact hb0 e.on this
    refine ⟨fun hno => (by rw [hno] at hr0; cases hr0), fun i hi => ?_⟩
    obtain ⟨hun, o, ho, hall⟩ := mem_ready.1 hi
    have hil : i < ops.size := (Array.getElem?_eq_some_iff.1 ho).1
    have hunf := getD_both hun
    have waits : ∀ k, Region.waitsFor .any ops i k = true → listed.getD k false = true := fun k hk => by
      obtain ⟨o', ho', e, he, hb, hon⟩ := Region.waitsFor_spec hk
      rw [ho] at ho'; cases ho'
      have := hall e he hb
      rwa [hon] at this
    have hleft : left ops.size (listed.setIfInBounds i true) = f := by have := left_set hun ops.size hil; omega
    have hclosed : ∀ (j : Nat) (o' : Oper), ops[j]? = some o' → (listed.setIfInBounds i true).getD j false = true → ∀ e ∈ o'.after, Region.binds .any e = true → (listed.setIfInBounds i true).getD e.on false = true := by
      intro j o' ho' hj e he hb
      refine getD_set_true ?_
      by_cases hij : i = j
      · subst hij
        rw [ho] at ho'; cases ho'
        exact hall e he hb
      · rw [getD_set_ne false hij] at hj
        exact h.closed j o' ho' hj e he hb
    have agB : ∀ d ∈ o.looksAt ops, a.tmps[d]? = B.tmps[d]? := fun d hd => h.alike.slots d fun k ok hk hkd => waits k (hF.looks i k o ok d ho hk hkd hd).2.1
    cases hm : (ms.getD i .h).isH with
    | true =>
      have agA : ∀ d ∈ o.looksAt ops, a.tmps[d]? = A.tmps[d]? := fun d hd => (agB d hd).trans (h.kept.2 d fun k ok hk hkm hkd => by
        have := (hF.looks i k o ok d ho hk hkd hd).2.2 hm
        rw [hkm] at this; cases this)
      have hC : C w := h.cls.resolve_right fun hh => by
        have := hh i hil hm
        rw [hunf] at this; cases this
      refine Settled.step ho (fun cs b => hF.sel i o cs b ho) (hset w hC i o ho hm) agA ⟨⟨w, rfl⟩, rfl⟩ ?_
      rintro v w' ⟨z, rfl⟩ hv
      rw [z.ok]
      refine ih _ _ B w p hleft ⟨by simp [h.size], h.le, fun j h1 h2 => getD_set_true (h.before j h1 h2), fun j h1 h2 h3 => ?_, hclosed, h.alike.left ho v fun d hd hlt => ?_, h.kept, .inl hC, h.rest⟩
      · have hij : i ≠ j := fun e => by subst e; rw [hm] at h3; cases h3
        rw [getD_set_ne false hij]
        exact h.behind j h1 h2 h3
      · rw [h.kept.2 d fun k ok hk hkm hkd => ?_]
        · exact hv d hd (h.kept.1 ▸ hlt)
        · have hik : i ≠ k := fun e => by subst e; rw [hm] at hkm; cases hkm
          exact hF.apart i k o ok d hik ho hk hd hkd
    | false =>
      have hpi : p ≤ i := Nat.le_of_not_lt fun hlt => by
        have := h.before i hlt hm
        rw [hunf] at this; cases this
      have none : ∀ n j, i - j = n → p ≤ j → j < i → (ms.getD j .h).isH = true := by
        intro n
        induction n using Nat.strongRecOn with
        | _ n ihn =>
          intro j hj h1 h2
          cases hjm : (ms.getD j .h).isH with
          | true => rfl
          | false =>
            rcases hF.chain i j hil hm h2 hjm with hw | ⟨k, hk1, hk2, hk3⟩
            · have := waits j hw
              rw [h.behind j h1 (by omega) hjm] at this; cases this
            · have := ihn (i - k) (by omega) k rfl (by omega) hk2
              rw [hk3] at this; cases this
      have hr := chainT_skip ms l hlen (i - p) p B w (fun j h1 h2 => none _ j rfl h1 (by omega)) (by rw [hF.len]; omega) h.rest
      rw [show p + (i - p) = i by omega] at hr
      have him : i < ms.length := by rw [hF.len]; exact hil
      have hil' : i < l.length := by omega
      have hoi : l[i] = o := by
        have := hat i
        rw [ho, List.getElem?_eq_getElem hil'] at this
        exact Option.some.inj this
      rw [List.drop_eq_getElem_cons him, List.drop_eq_getElem_cons hil', hoi] at hr
      have hmi : ms.getD i .h = ms[i] := by rw [List.getD_eq_getElem?_getD, List.getElem?_eq_getElem him]; rfl
      rw [hmi] at hm
      -- what the step leaves
      have next : ∀ (a' B' : Act) (w' : World), Alike ops (listed.setIfInBounds i true) a' B' → (B'.tmps.size = B.tmps.size ∧ ∀ d, o.dst ≠ some d → B'.tmps[d]? = B.tmps[d]?) →
          (C w' ∨ (ms.getD i .h).isE = true) → chainT P ops C Q (ms.drop (i + 1)) (l.drop (i + 1)) B' w' → wpAny P .any ops Q f (listed.setIfInBounds i true) a' w' := by
        intro a' B' w' hal hk hc hrest
        refine ih _ a' B' w' (i + 1) hleft ⟨by simp [h.size], hil, fun j h1 h2 => ?_, fun j h1 h2 h3 => ?_, hclosed, hal, ⟨hk.1.trans h.kept.1, fun d hd => ?_⟩, ?_, hrest⟩
        · by_cases hji : j = i
          · subst hji; exact get_set_same false (by rw [h.size]; exact hil)
          · refine getD_set_true ?_
            by_cases hjp : j < p
            · exact h.before j hjp h2
            · have := none _ j rfl (by omega) (by omega)
              rw [h2] at this; cases this
        · rw [getD_set_ne false (by omega)]
          exact h.behind j (by omega) h2 h3
        · rw [hk.2 d (hd i o ho (by rw [hmi]; exact hm))]
          exact h.kept.2 d hd
        · rcases hc with hc | hc
          · exact .inl hc
          · refine .inr fun j hj hjm => ?_
            obtain ⟨k, hki, hkm, hkw⟩ := hF.last i j hil hj hc hjm
            refine getD_set_true ?_
            by_cases hke : k = i
            · subst hke; exact waits j hkw
            · have hkl : listed.getD k false = true := by
                by_cases hkp : k < p
                · exact h.before k hkp hkm
                · have := none _ k rfl (by omega) (by omega)
                  rw [hkm] at this; cases this
              obtain ⟨ok, hok, e, he, hb, hon⟩ := Region.waitsFor_spec hkw
              have := h.closed k ok hok hkl e he hb
              rwa [hon] at this
      have key : ∀ C' : World → Prop, (∀ w', C' w' → C w' ∨ (ms.getD i .h).isE = true) → wpList P ops (stepQ C' (chainT P ops C Q (ms.drop (i + 1)) (l.drop (i + 1)))) [o] B w → wpOp P ops Q i (wpAny P .any ops Q f (listed.setIfInBounds i true)) a w := by
        intro C' hC' hw
        unfold wpOp
        simp only [ho]
        rw [wanted_agree o agB]
        have hw' : if Region.wanted o (yielded ops B.tmps) = true then (o.wp P B w (fun a' w' => wpList P ops (stepQ C' (chainT P ops C Q (ms.drop (i + 1)) (l.drop (i + 1)))) [] a' w') (stepQ C' (chainT P ops C Q (ms.drop (i + 1)) (l.drop (i + 1)))) ∨ (o.asks P B w ∧ LetsOut (stepQ C' (chainT P ops C Q (ms.drop (i + 1)) (l.drop (i + 1)))))) else wpList P ops (stepQ C' (chainT P ops C Q (ms.drop (i + 1)) (l.drop (i + 1)))) [] (B.put o.dst undef) w := hw
        have keepB : ∀ (b' : Act) v, b'.tmps = B.tmps → (b'.put o.dst v).tmps.size = B.tmps.size ∧ ∀ d, o.dst ≠ some d → (b'.put o.dst v).tmps[d]? = B.tmps[d]? := fun b' v e => ⟨by rw [put_size, e], fun d hd => by rw [put_tmps, if_neg hd, e]⟩
        split
        · rename_i hwn
          rw [if_pos hwn] at hw'
          have hw' := hw'.resolve_right (fun hh => by obtain ⟨_, a, w, hq⟩ := hh; exact hq)
          refine .inl (wp_move (exec_agree o (fun cs b => hF.sel i o cs b ho) agB) (fun x a w hx hq => ?_) (fun v w' hk => ?_) (fun d v w' hk => ?_) hw')
          · cases x <;> first | exact hx rfl | exact hq
          · exact next _ _ _ (h.alike.both ho v) (keepB B v rfl) (hC' _ hk.1) hk.2
          · exact next _ _ _ ((h.alike.defer d).both ho v) (keepB _ v rfl) (hC' _ hk.1) hk.2
        · rename_i hwn
          rw [if_neg hwn] at hw'
          exact next _ _ _ (h.alike.both ho undef) (keepB B undef rfl) (hC' _ hw'.1) hw'.2
      revert hr hm
      rw [← hmi] at *
      cases hmk : ms.getD i .h with
      | h => intro hm; cases hm
      | t =>
        intro _ hr
        exact key C (fun w' hc => .inl hc) hr
      | e =>
        intro _ hr
        exact key (fun _ => True) (fun w' _ => .inr (by rw [hmk]; rfl)) hr

end

/-- One walk serves every order. -/
theorem wp_region_float {P : Program} {id : Nat} {Q : Exit → Act → World → Prop} {a : Act} {w : World} {l : List Oper} (ms : List Mk) (hm : P.follows .mixedOrders = true) (hB : floats l.toArray ms = true) (C : World → Prop) {A : Act}
    (hC : C w.drew) (hH : ∀ u, C u → wpQuiet P l.toArray (fun x => ∃ z : Same u, x = z.to) (fun a' => a' = A) (headsOf ms l) a) (hT : chainT P l.toArray C Q ms l A w.drew) :
    (Code.region id l.toArray true).wp P Q a w := by
  have hF := floats_spec hB
  have hml : ms.length = l.length := by have := hF.len; simpa using this
  obtain ⟨g, hg1, hg2⟩ := heads_idx ms l
  have hset : ∀ u, C u → ∀ (i : Nat) (o : Oper), l.toArray[i]? = some o → (ms.getD i .h).isH = true → Settled P l.toArray (fun x => ∃ z : Same u, x = z.to) A o := by
    intro u hu i o ho him
    have ho' : l[i]? = some o := by simpa using ho
    refine walk_settles (fun o' ho' cs b => ?_) (headsOf ms l) a (hH u hu) (fun o' ho' => ?_) (fun i' oi hoi j oj hij hoj d hd hdj => ?_) (fun i' j oi oj hij hoi hoj d hd hdj => ?_) o ?_
    · obtain ⟨j, hj, rfl⟩ := Array.getElem_of_mem ho'
      exact hF.sel j _ cs b (Array.getElem?_eq_getElem hj)
    · obtain ⟨j, hj, rfl⟩ := List.getElem_of_mem ho'
      have := (hg1 j _ (List.getElem?_eq_getElem hj)).1
      have := List.mem_of_getElem? this
      simpa using this
    · have h1 := (hg1 _ _ hoi).1
      have h2 := (hg1 _ _ hoj).1
      have h3 := (hF.looks (g i') (g j) oi oj d (by simpa using h1) (by simpa using h2) hdj hd).1
      rcases Nat.lt_or_ge i' j with h4 | h4
      · have := hg2 i' j h4 (List.getElem?_eq_some_iff.1 hoj).1
        omega
      · have : i' = j := by omega
        subst this; omega
    · have h1 := (hg1 _ _ hoi).1
      have h2 := (hg1 _ _ hoj).1
      have := hg2 i' j hij (List.getElem?_eq_some_iff.1 hoj).1
      exact hF.apart (g i') (g j) oi oj d (by omega) (by simpa using h1) (by simpa using h2) hd hdj
    · exact mem_heads ms l i o (by rw [hml]; exact (List.getElem?_eq_some_iff.1 ho').1) ho' him
  obtain ⟨k1, k2, k3⟩ := walk_keeps _ _ (hH _ hC)
  refine wp_region_any hm ?_
  have hleft : left l.toArray.size (Array.replicate l.toArray.size false) = l.toArray.size := by
    unfold left
    rw [List.countP_eq_length.2 fun j hj => ?_, List.length_range]
    have : j < l.length := by have := List.mem_range.1 hj; simpa using this
    simp [this]
  refine float_any (P := P) (Q := Q) (C := C) (l := l) (A := A) rfl hF hset _ _ a A _ 0 hleft ⟨by simp, Nat.zero_le _, fun i hi => by omega, fun i _ _ _ => getD_replicate_false _ _, fun j o _ hj => ?_, ⟨k1.symm, k2.symm, fun d hd => (k3 d fun o ho hod => ?_).symm⟩, ⟨rfl, fun _ _ => rfl⟩, .inl hC, hT⟩
  · rw [getD_replicate_false] at hj; cases hj
  · obtain ⟨i, hi, rfl⟩ := List.getElem_of_mem ho
    have h2 := (hg1 i _ (List.getElem?_eq_getElem hi)).1
    have := hd (g i) _ (by simpa using h2) hod
    rw [getD_replicate_false] at this; cases this

theorem stepQ_normal {C : World → Prop} {K : Act → World → Prop} {a : Act} {w : World} (h : C w ∧ K a w) : stepQ C K .normal a w := h

end Go.Proofs.YtfpfgaifhmgpiaaDoor

namespace Go.Proofs.YtfpfgaifhmgpiaaDoor
open Go.RowKit

/-- No select; an operation waits for earlier ones alone. -/
def flows (ops : Array Oper) : Bool :=
  Region.noSelect ops && ((List.range ops.size).all fun i => (ops[i]?).all fun o => o.after.all fun e => !Region.binds .any e || decide (e.on < i))

/-- One operation, from whatever order came before it. -/
def flowStep (P : Program) (ops : Array Oper) (Inv : Array Bool → Act → World → Prop) (i : Nat) (o : Oper) : Prop :=
  ∀ (listed : Array Bool) (b : Act) (u : World), listed.size = ops.size → listed.getD i false = false → (∀ k, Region.waitsFor .any ops i k = true → listed.getD k false = true) → Inv listed b u →
    wpList P ops (stepQ (fun _ => True) (Inv (listed.setIfInBounds i true))) [o] b u

def flowSteps (P : Program) (ops : Array Oper) (Inv : Array Bool → Act → World → Prop) : Nat → List Oper → Prop
  | _, [] => True
  | i, o :: os => flowStep P ops Inv i o ∧ flowSteps P ops Inv (i + 1) os

theorem flowSteps_at {P : Program} {ops : Array Oper} {Inv : Array Bool → Act → World → Prop} : ∀ {l : List Oper} {n : Nat}, flowSteps P ops Inv n l → ∀ {j : Nat} {o : Oper}, l[j]? = some o → flowStep P ops Inv (n + j) o
  | [], _, _, j, o, h => by simp at h
  | x :: xs, n, hs, 0, o, h => by
    have : x = o := by simpa using h
    subst this
    exact hs.1
  | x :: xs, n, hs, j + 1, o, h => by
    have := flowSteps_at hs.2 (j := j) (o := o) (by simpa using h)
    rwa [show n + 1 + j = n + (j + 1) by omega] at this

theorem wpOp_of_list {P : Program} {ops : Array Oper} {Q : Exit → Act → World → Prop} {K : Act → World → Prop} {i : Nat} {o : Oper} {a : Act} {w : World} (ho : ops[i]? = some o) (h : wpList P ops (stepQ (fun _ => True) K) [o] a w) : wpOp P ops Q i K a w := by
  unfold wpOp
  simp only [ho]
  have hw' : if Region.wanted o (yielded ops a.tmps) = true then (o.wp P a w (fun a' w' => wpList P ops (stepQ (fun _ => True) K) [] a' w') (stepQ (fun _ => True) K) ∨ (o.asks P a w ∧ LetsOut (stepQ (fun _ => True) K))) else wpList P ops (stepQ (fun _ => True) K) [] (a.put o.dst undef) w := h
  split
  · rename_i hwn
    rw [if_pos hwn] at hw'
    have hw' := hw'.resolve_right (fun hh => by obtain ⟨_, a, w, hq⟩ := hh; exact hq)
    refine .inl (wp_move rfl (fun x a w hx hq => ?_) (fun v w' hk => hk.2) (fun d v w' hk => hk.2) hw')
    cases x <;> first | exact hx rfl | exact hq
  · rename_i hwn
    rw [if_neg hwn] at hw'
    exact hw'.2

theorem flow_any {P : Program} {ops : Array Oper} {Q : Exit → Act → World → Prop} {Inv : Array Bool → Act → World → Prop} (hback : ∀ (i : Nat) (o : Oper), ops[i]? = some o → ∀ e ∈ o.after, Region.binds .any e = true → e.on < i)
    (hs : ∀ (i : Nat) (o : Oper), ops[i]? = some o → flowStep P ops Inv i o) (he : ∀ listed b u, (∀ i, i < ops.size → listed.getD i false = true) → Inv listed b u → Q .normal b u) :
    ∀ (f : Nat) (listed : Array Bool) (a : Act) (w : World), left ops.size listed = f → listed.size = ops.size → Inv listed a w → wpAny P .any ops Q f listed a w := by
  intro f
  induction f with
  | zero =>
    intro listed a w hf hsz h
    have hall := left_zero hf
    refine ⟨List.eq_nil_iff_forall_not_mem.2 fun i hi => ?_, he listed a w (fun j hj => ?_) h⟩
    · obtain ⟨hu, o, ho, _⟩ := mem_ready.1 hi
      rw [hall i (Array.getElem?_eq_some_iff.1 ho).1] at hu
      cases hu
    · rw [← get_in (by rw [hsz]; exact hj)]
      exact hall j hj
  | succ f ih =>
    intro listed a w hf hsz h
    obtain ⟨i0, hi0, hu0, hb0⟩ := left_least (n := ops.size) (listed := listed) (by omega)
    have hin : ∀ j, j < ops.size → listed.getD j true = listed.getD j false := fun j hj => get_in (by rw [hsz]; exact hj)
    have hr0 : i0 ∈ Region.ready .any ops listed := by
      refine mem_ready.2 ⟨hu0, ops[i0], Array.getElem?_eq_getElem hi0, fun e he' hb => ?_⟩
      have := hback i0 _ (Array.getElem?_eq_getElem hi0) e he' hb
      rw [← hin e.on (by omega)]
      exact hb0 e.on this
    refine ⟨fun hno => (by rw [hno] at hr0; cases hr0), fun i hi => ?_⟩
    obtain ⟨hun, o, ho, hall⟩ := mem_ready.1 hi
    have hil : i < ops.size := (Array.getElem?_eq_some_iff.1 ho).1
    have hleft : left ops.size (listed.setIfInBounds i true) = f := by have := left_set hun ops.size hil; omega
    have waits : ∀ k, Region.waitsFor .any ops i k = true → listed.getD k false = true := fun k hk => by
      obtain ⟨o', ho', e, he', hb, hon⟩ := Region.waitsFor_spec hk
      rw [ho] at ho'; cases ho'
      have := hall e he' hb
      rwa [hon] at this
    exact wpOp_mono (fun a' w' hk => ih _ a' w' hleft (by simp [hsz]) hk) (wpOp_of_list ho (hs i o ho listed a w hsz (getD_both hun) waits h))

/-- By an invariant of what has come up. -/
theorem wp_region_flow {P : Program} {id : Nat} {Q : Exit → Act → World → Prop} {a : Act} {w : World} {l : List Oper} (Inv : Array Bool → Act → World → Prop) (hm : P.follows .mixedOrders = true) (hB : flows l.toArray = true)
    (h0 : Inv (Array.replicate l.toArray.size false) a w.drew) (hs : flowSteps P l.toArray Inv 0 l) (he : ∀ listed b u, (∀ i, i < l.toArray.size → listed.getD i false = true) → Inv listed b u → Q .normal b u) :
    (Code.region id l.toArray true).wp P Q a w := by
  simp only [flows, Bool.and_eq_true, List.all_eq_true, List.mem_range] at hB
  have hback : ∀ (i : Nat) (o : Oper), l.toArray[i]? = some o → ∀ e ∈ o.after, Region.binds .any e = true → e.on < i := by
    intro i o ho e he hb
    have := hB.2 i (Array.getElem?_eq_some_iff.1 ho).1
    simp only [ho, Option.all_some, Array.all_eq_true_iff_forall_mem, Bool.or_eq_true, Bool.not_eq_true', decide_eq_true_eq] at this
    rcases this e he with h | h
    · rw [hb] at h; cases h
    · exact h
  refine wp_region_any hm (flow_any hback (fun i o ho => ?_) he _ _ _ _ ?_ (by simp) h0)
  · have := flowSteps_at hs (j := i) (o := o) (by simpa using ho)
    rwa [Nat.zero_add] at this
  · unfold left
    rw [List.countP_eq_length.2 fun j hj => ?_, List.length_range]
    have : j < l.length := by have := List.mem_range.1 hj; simpa using this
    simp [this]

/-- Values by number, one of them anew. -/
def upd (x : Nat → Value) (i : Nat) (v : Value) : Nat → Value := fun k => if k = i then v else x k

theorem upd_same (x : Nat → Value) (i : Nat) (v : Value) : upd x i v i = v := if_pos rfl

theorem upd_other (x : Nat → Value) {i k : Nat} (v : Value) (h : k ≠ i) : upd x i v k = x k := if_neg h

/-- The frame with these values at the operations' slots. -/
def putsX : Act → List Oper → Nat → (Nat → Value) → Act
  | a, [], _, _ => a
  | a, o :: os, i, x => putsX (a.put o.dst (x i)) os (i + 1) x

/-- The values that are the same in every order. -/
def Uniq (V : Nat → Option Value) (listed : Array Bool) (x : Nat → Value) : Prop := ∀ k v, V k = some v → listed.getD k false = true → x k = v

theorem Uniq.step {V : Nat → Option Value} {listed : Array Bool} {x : Nat → Value} (h : Uniq V listed x) {i : Nat} {v : Value} (hv : ∀ u, V i = some u → v = u) : Uniq V (listed.setIfInBounds i true) (upd x i v) := by
  intro k u hk hl
  by_cases e : k = i
  · subst e
    rw [upd_same]
    exact hv u hk
  · rw [upd_other x v e]
    exact h k u hk (by rwa [getD_set_ne false (Ne.symm e)] at hl)

end Go.Proofs.YtfpfgaifhmgpiaaDoor
