/-
  Sorted lists of numbers, each once: what a compacted sorted list is.
-/
import Derived.Lib.SlicesCompact
namespace Go.Proofs.Ytdgaggcjimafbaa

theorem compactUpTo_sorted (d : Array Int) (hd : ∀ i j : Nat, i ≤ j → j < d.size → d[i]! ≤ d[j]!) : ∀ m, m ≤ d.size →
    (Lib.compactUpTo d m).Pairwise (· < ·) ∧ (∀ x, x ∈ Lib.compactUpTo d m ↔ ∃ j, j < m ∧ d[j]! = x) := by
  intro m
  induction m with
  | zero => intro _; exact ⟨by simp [Lib.compactUpTo], by simp [Lib.compactUpTo]⟩
  | succ m ih =>
    intro hm
    obtain ⟨h1, h2⟩ := ih (by omega)
    rw [Lib.compactUpTo_succ]
    by_cases hk : Lib.keeps d m = true
    · rw [if_pos hk]
      refine ⟨?_, fun x => ?_⟩
      · refine List.pairwise_append.2 ⟨h1, by simp, fun x hx y hy => ?_⟩
        obtain rfl : y = d[m]! := by simpa using hy
        obtain ⟨j, hj, rfl⟩ := (h2 x).1 hx
        have hne : m = 0 ∨ d[m]! ≠ d[m - 1]! := by simpa [Lib.keeps] using hk
        have a1 := hd j (m - 1) (by omega) (by omega)
        have a2 := hd (m - 1) m (by omega) (by omega)
        rcases hne with h0 | h0
        · omega
        · omega
      · rw [List.mem_append, h2]
        constructor
        · rintro (⟨j, hj, rfl⟩ | h)
          · exact ⟨j, by omega, rfl⟩
          · exact ⟨m, by omega, by simpa using (List.mem_singleton.1 h).symm⟩
        · rintro ⟨j, hj, rfl⟩
          by_cases e : j = m
          · subst e; exact .inr (by simp)
          · exact .inl ⟨j, by omega, rfl⟩
    · have hk' : Lib.keeps d m = false := by simpa using hk
      rw [if_neg hk, List.append_nil]
      refine ⟨h1, fun x => ?_⟩
      rw [h2]
      have hne : ¬ (m = 0 ∨ d[m]! ≠ d[m - 1]!) := by simpa [Lib.keeps] using hk'
      constructor
      · rintro ⟨j, hj, rfl⟩; exact ⟨j, by omega, rfl⟩
      · rintro ⟨j, hj, rfl⟩
        by_cases e : j = m
        · subst e
          refine ⟨j - 1, by omega, ?_⟩
          by_cases e2 : d[j]! = d[j - 1]!
          · exact e2.symm
          · exact absurd (.inr e2) hne
        · exact ⟨j, by omega, rfl⟩

theorem compact_sorted (zs : List Int) (h : zs.Pairwise (· ≤ ·)) : (Lib.compact zs).Pairwise (· < ·) ∧ ∀ x, x ∈ Lib.compact zs ↔ x ∈ zs := by
  have hd : ∀ i j : Nat, i ≤ j → j < zs.toArray.size → zs.toArray[i]! ≤ zs.toArray[j]! := by
    intro i j hij hj
    have hj' : j < zs.length := by simpa using hj
    have hi' : i < zs.length := by omega
    have e1 : zs.toArray[i]! = zs[i] := by simp [hi']
    have e2 : zs.toArray[j]! = zs[j] := by simp [hj']
    rw [e1, e2]
    by_cases e : i = j
    · subst e; exact Int.le_refl _
    · exact List.pairwise_iff_getElem.1 h i j hi' hj' (by omega)
  obtain ⟨h1, h2⟩ := compactUpTo_sorted zs.toArray hd zs.length (by simp)
  refine ⟨h1, fun x => (h2 x).trans ?_⟩
  constructor
  · rintro ⟨j, hj, rfl⟩
    have : zs.toArray[j]! = zs[j] := by simp [hj]
    rw [this]; exact List.getElem_mem _
  · intro hx
    obtain ⟨j, hj, rfl⟩ := List.getElem_of_mem hx
    exact ⟨j, hj, by simp [hj]⟩

theorem strict_eq : ∀ {l m : List Int}, l.Pairwise (· < ·) → m.Pairwise (· < ·) → (∀ x, x ∈ l ↔ x ∈ m) → l = m
  | [], [], _, _, _ => rfl
  | [], b :: m, _, _, h => absurd ((h b).2 (by simp)) (by simp)
  | a :: l, [], _, _, h => absurd ((h a).1 (by simp)) (by simp)
  | a :: l, b :: m, hl, hm, h => by
    obtain ⟨l1, l2⟩ := List.pairwise_cons.1 hl
    obtain ⟨m1, m2⟩ := List.pairwise_cons.1 hm
    have hab : a = b := by
      have p := (h a).1 (by simp)
      have q := (h b).2 (by simp)
      rcases List.mem_cons.1 p with e | e
      · exact e
      · rcases List.mem_cons.1 q with e' | e'
        · exact e'.symm
        · have := m1 _ e; have := l1 _ e'; omega
    subst hab
    refine congrArg _ (strict_eq l2 m2 fun x => ⟨fun hx => ?_, fun hx => ?_⟩)
    · rcases List.mem_cons.1 ((h x).1 (List.mem_cons_of_mem _ hx)) with e | e
      · have := l1 _ hx; omega
      · exact e
    · rcases List.mem_cons.1 ((h x).2 (List.mem_cons_of_mem _ hx)) with e | e
      · have := m1 _ hx; omega
      · exact e

/-- Of the numbers below B those that are in a list, in their order. -/
def touchL (B : Nat) (ls : List Int) : List Int := ((List.range B).filter fun (b : Nat) => decide ((b : Int) ∈ ls)).map fun (b : Nat) => (b : Int)

theorem touchL_succ (B : Nat) (ls : List Int) : touchL (B + 1) ls = touchL B ls ++ (if (B : Int) ∈ ls then [(B : Int)] else []) := by
  unfold touchL
  rw [List.range_succ, List.filter_append, List.map_append]
  congr 1
  by_cases h : (B : Int) ∈ ls <;> simp [h]

theorem touchL_mem (B : Nat) (ls : List Int) (x : Int) : x ∈ touchL B ls ↔ (0 ≤ x ∧ x < B) ∧ x ∈ ls := by
  unfold touchL
  simp only [List.mem_map, List.mem_filter, List.mem_range, decide_eq_true_eq]
  constructor
  · rintro ⟨b, ⟨h1, h2⟩, rfl⟩; exact ⟨⟨by omega, by omega⟩, h2⟩
  · rintro ⟨⟨h0, h1⟩, h2⟩
    obtain ⟨k, rfl⟩ := Int.eq_ofNat_of_zero_le h0
    exact ⟨k, ⟨by omega, h2⟩, rfl⟩

theorem touchL_strict (B : Nat) (ls : List Int) : (touchL B ls).Pairwise (· < ·) := by
  unfold touchL
  rw [List.pairwise_map]
  have h : (List.range B).Pairwise (· < ·) := List.pairwise_lt_range
  exact (h.filter _).imp fun h => by omega

theorem touchL_length_le (B : Nat) (ls : List Int) : (touchL B ls).length ≤ B := by
  unfold touchL
  rw [List.length_map]
  exact Nat.le_trans (List.length_filter_le _ _) (by simp)

theorem sorted_pairwise (zs : List Int) : (zs.mergeSort fun x y => decide (x ≤ y)).Pairwise (· ≤ ·) := by
  have h := List.pairwise_mergeSort (le := fun x y : Int => decide (x ≤ y)) (fun a b c h1 h2 => by simp at h1 h2 ⊢; omega) (fun a b => by simp; omega) zs
  exact h.imp fun h => by simpa using h

/-- The sorted list, each number once: the numbers below B that it holds. -/
theorem compact_mergeSort (B : Nat) (zs : List Int) (h : ∀ x ∈ zs, 0 ≤ x ∧ x < (B : Int)) : Lib.compact (zs.mergeSort fun x y => decide (x ≤ y)) = touchL B zs := by
  obtain ⟨h1, h2⟩ := compact_sorted _ (sorted_pairwise zs)
  refine strict_eq h1 (touchL_strict B zs) fun x => ?_
  rw [h2, List.mem_mergeSort, touchL_mem]
  exact ⟨fun hx => ⟨h x hx, hx⟩, fun hx => hx.2⟩

/-- The first n values of a function of places, from k on. -/
def hits (f : Int → Int) (k : Int) (n : Nat) : List Int := (List.range n).map fun (i : Nat) => f (k + i)

theorem hits_length (f : Int → Int) (k : Int) (n : Nat) : (hits f k n).length = n := by simp [hits]

theorem hits_succ (f : Int → Int) (k : Int) (n : Nat) : hits f k (n + 1) = hits f k n ++ [f (k + n)] := by
  unfold hits
  rw [List.range_succ, List.map_append]
  rfl

theorem hits_mem (f : Int → Int) (k : Int) (n : Nat) (x : Int) : x ∈ hits f k n ↔ ∃ i : Nat, i < n ∧ f (k + i) = x := by
  simp [hits]

theorem touchL_all (B : Nat) (ls : List Int) (h : ∀ b : Nat, b < B → (b : Int) ∈ ls) : (touchL B ls).length = B := by
  unfold touchL
  rw [List.length_map, List.filter_eq_self.2 (fun b hb => by simpa using h b (List.mem_range.1 hb)), List.length_range]

theorem touchL_one (B : Nat) (x : Int) (h : 0 ≤ x ∧ x < (B : Int)) : (touchL B [x]).length = 1 := by
  have : touchL B [x] = [x] := strict_eq (touchL_strict B _) (by simp) fun y => by
    rw [touchL_mem]
    constructor
    · exact fun h => h.2
    · intro hy
      obtain rfl := List.mem_singleton.1 hy
      exact ⟨h, hy⟩
  rw [this]; rfl

end Go.Proofs.Ytdgaggcjimafbaa
