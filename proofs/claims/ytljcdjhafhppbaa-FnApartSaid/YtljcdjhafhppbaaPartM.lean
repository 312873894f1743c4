/-
  Partitions of banks: of a list of owners the places of one owner in ascending order; the number of a tenant's lines; the line of an address.
-/
import Derived.Test.YtljcdjhafhppbaaGeoW
namespace Go.Proofs.Ytljcdjhafhppbaa

set_option linter.unusedVariables false

/-- The places of t among the first k owners. -/
def bk (l : List Int) (t : Int) : Nat → List Int
  | 0 => []
  | k + 1 => if l.getD k 0 = t then bk l t k ++ [(k : Int)] else bk l t k

theorem bk_hit {l : List Int} {t : Int} {k : Nat} (h : l.getD k 0 = t) : bk l t (k + 1) = bk l t k ++ [(k : Int)] := if_pos h

theorem bk_miss {l : List Int} {t : Int} {k : Nat} (h : ¬ l.getD k 0 = t) : bk l t (k + 1) = bk l t k := if_neg h

theorem bk_le (l : List Int) (t : Int) : ∀ k, (bk l t k).length ≤ k
  | 0 => Nat.le_refl _
  | k + 1 => by
    have := bk_le l t k
    by_cases h : l.getD k 0 = t
    · rw [bk_hit h, List.length_append]; simp; omega
    · rw [bk_miss h]; omega

theorem bk_mem (l : List Int) (t x : Int) : ∀ k, x ∈ bk l t k ↔ ∃ i : Nat, i < k ∧ l.getD i 0 = t ∧ x = i
  | 0 => by simp [bk]
  | k + 1 => by
    have ih := bk_mem l t x k
    by_cases h : l.getD k 0 = t
    · rw [bk_hit h, List.mem_append, ih, List.mem_singleton]
      constructor
      · rintro (⟨i, h1, h2, h3⟩ | rfl)
        · exact ⟨i, by omega, h2, h3⟩
        · exact ⟨k, by omega, h, rfl⟩
      · rintro ⟨i, h1, h2, h3⟩
        by_cases e : i = k
        · subst e; exact .inr h3
        · exact .inl ⟨i, by omega, h2, h3⟩
    · rw [bk_miss h, ih]
      constructor
      · rintro ⟨i, h1, h2, h3⟩
        exact ⟨i, by omega, h2, h3⟩
      · rintro ⟨i, h1, h2, h3⟩
        have : i ≠ k := fun e => h (by rw [← e]; exact h2)
        exact ⟨i, by omega, h2, h3⟩

theorem bk_up (l : List Int) (t : Int) : ∀ k, (bk l t k).Pairwise (· < ·)
  | 0 => .nil
  | k + 1 => by
    by_cases h : l.getD k 0 = t
    · rw [bk_hit h, List.pairwise_append]
      refine ⟨bk_up l t k, List.pairwise_singleton _ _, fun a ha b hb => ?_⟩
      obtain ⟨i, h1, _, rfl⟩ := (bk_mem l t a k).1 ha
      rw [List.mem_singleton] at hb
      subst hb
      omega
    · rw [bk_miss h]; exact bk_up l t k

theorem bk_sum (l : List Int) (h : ∀ x ∈ l, 0 ≤ x ∧ x ≤ 3) : ∀ k, k ≤ l.length → (bk l 0 k).length + (bk l 1 k).length + (bk l 2 k).length + (bk l 3 k).length = k
  | 0, _ => rfl
  | k + 1, hk => by
    have ih := bk_sum l h k (by omega)
    have hx : 0 ≤ l.getD k 0 ∧ l.getD k 0 ≤ 3 := h _ (by rw [List.getD_eq_getElem?_getD, List.getElem?_eq_getElem (by omega)]; exact List.getElem_mem _)
    have hc : l.getD k 0 = 0 ∨ l.getD k 0 = 1 ∨ l.getD k 0 = 2 ∨ l.getD k 0 = 3 := by omega
    unfold bk
    rcases hc with h1 | h1 | h1 | h1 <;> rw [h1] <;> simp <;> omega

/-- The banks of a tenant. -/
def bkL (l : List Int) (t : Int) : List Int := bk l t l.length

/-- Where x stands first. -/
def ixI : List Int → Int → Nat
  | [], _ => 0
  | y :: ys, x => if y = x then 0 else ixI ys x + 1

theorem ixI_spec : ∀ {L : List Int} {x : Int}, x ∈ L → ixI L x < L.length ∧ L.getD (ixI L x) 0 = x ∧ ∀ j, j < ixI L x → L.getD j 0 ≠ x
  | y :: ys, x, h => by
    unfold ixI
    by_cases e : y = x
    · rw [if_pos e]
      exact ⟨by simp, by simpa using e, fun j hj => absurd hj (Nat.not_lt_zero _)⟩
    · rw [if_neg e]
      have h' : x ∈ ys := by
        rcases List.mem_cons.1 h with h | h
        · exact absurd h.symm e
        · exact h
      obtain ⟨h1, h2, h3⟩ := ixI_spec h'
      refine ⟨by simpa using h1, by simpa using h2, fun j hj => ?_⟩
      cases j with
      | zero => simpa using e
      | succ j => simpa using h3 j (by omega)

theorem getD_mem {L : List Int} {i : Nat} (h : i < L.length) : L.getD i 0 ∈ L := by
  rw [List.getD_eq_getElem?_getD, List.getElem?_eq_getElem h]
  exact List.getElem_mem _

theorem ixI_at {L : List Int} (hL : L.Pairwise (· < ·)) {i : Nat} (h : i < L.length) : ixI L (L.getD i 0) = i := by
  obtain ⟨h1, h2, _⟩ := ixI_spec (getD_mem h)
  obtain ⟨j, hj⟩ : ∃ j, ixI L (L.getD i 0) = j := ⟨_, rfl⟩
  rw [hj] at h1 h2 ⊢
  have hlt : ∀ a b : Nat, a < b → (hb : b < L.length) → L.getD a 0 < L.getD b 0 := by
    intro a b hab hb
    rw [List.getD_eq_getElem?_getD, List.getD_eq_getElem?_getD, List.getElem?_eq_getElem hb, List.getElem?_eq_getElem (by omega)]
    exact List.pairwise_iff_getElem.1 hL a b (by omega) hb hab
  rcases Nat.lt_trichotomy j i with hc | hc | hc
  · have := hlt j i hc h; omega
  · exact hc
  · have := hlt i j hc h1; omega

/-- A partition that is valid for the geometry. -/
def PtOk (a b r d : Int) (l : List Int) : Prop := GeoOk a b r d ∧ (l.length : Int) = bankN a b r d ∧ ∀ x ∈ l, 0 ≤ x ∧ x ≤ 3

instance (a b r d : Int) (l : List Int) : Decidable (PtOk a b r d l) := inferInstanceAs (Decidable (_ ∧ _))

theorem PtOk.len {a b r d : Int} {l : List Int} (h : PtOk a b r d l) : 1 ≤ l.length ∧ l.length ≤ 8 := by
  obtain ⟨hg, hl, _⟩ := h
  have := bankN_range a b r d
  have h1 : 1 ≤ bankN a b r d := by
    unfold bankN
    rw [if_pos hg]
    obtain ⟨⟨h1, h2⟩, ⟨h3, h4⟩, _⟩ := hg
    have : a = 1 ∨ a = 2 := by omega
    rcases this with rfl | rfl <;> omega
  omega

theorem PtOk.own {a b r d : Int} {l : List Int} (h : PtOk a b r d l) {k : Nat} (hk : k < l.length) : 0 ≤ l.getD k 0 ∧ l.getD k 0 ≤ 3 := h.2.2 _ (getD_mem hk)

/-- The number of a tenant's lines. -/
def tlF (a b r d : Int) (l : List Int) (t : Int) : Int := if PtOk a b r d l then ((bkL l t).length : Int) * r * d else 0

theorem tlF_ok {a b r d : Int} {l : List Int} (h : PtOk a b r d l) (t : Int) : tlF a b r d l t = ((bkL l t).length : Int) * r * d := if_pos h

theorem tlF_non {a b r d : Int} {l : List Int} (h : ¬ PtOk a b r d l) (t : Int) : tlF a b r d l t = 0 := if_neg h

theorem bkL_le (l : List Int) (t : Int) : (bkL l t).length ≤ l.length := bk_le l t _

theorem mul_range {k r d : Int} (h : 0 ≤ k ∧ k ≤ 8) (hr : 2 ≤ r ∧ r ≤ 16) (hd : 1 ≤ d ∧ d ≤ 8) : (0 ≤ k * r ∧ k * r ≤ 8 * 16) ∧ 0 ≤ k * r * d ∧ k * r * d ≤ 8 * 16 * 8 := by
  have p1 : 0 ≤ k * r := Int.mul_nonneg h.1 (by omega)
  have p2 : k * r ≤ 8 * 16 := Int.mul_le_mul h.2 hr.2 (by omega) (by omega)
  exact ⟨⟨p1, p2⟩, Int.mul_nonneg p1 (by omega), Int.mul_le_mul p2 hd.2 (by omega) (by omega)⟩

theorem tlF_range (a b r d : Int) (l : List Int) (t : Int) : 0 ≤ tlF a b r d l t ∧ tlF a b r d l t ≤ 1024 := by
  by_cases h : PtOk a b r d l
  · rw [tlF_ok h]
    have h1 := h.len
    have h2 := bkL_le l t
    obtain ⟨⟨_, _, hr, hd⟩, _⟩ := h
    exact (mul_range (k := ((bkL l t).length : Int)) ⟨by omega, by omega⟩ hr hd).2
  · rw [tlF_non h]; omega

/-- A line of the tenant. -/
def TlOk (a b r d : Int) (l : List Int) (t n : Int) : Prop := 0 ≤ n ∧ n ≤ tlF a b r d l t - 1

instance (a b r d : Int) (l : List Int) (t n : Int) : Decidable (TlOk a b r d l t n) := inferInstanceAs (Decidable (_ ∧ _))

theorem TlOk.part {a b r d : Int} {l : List Int} {t n : Int} (h : TlOk a b r d l t n) : PtOk a b r d l := by
  by_cases k : PtOk a b r d l
  · exact k
  · have := h.1; have := h.2; rw [tlF_non k] at this; omega

theorem TlOk.banks {a b r d : Int} {l : List Int} {t n : Int} (h : TlOk a b r d l t n) : 1 ≤ (bkL l t).length := by
  have hp := h.part
  obtain ⟨h0, h1⟩ := h
  rw [tlF_ok hp] at h1
  rcases Nat.eq_zero_or_pos (bkL l t).length with e | e
  · rw [e] at h1; simp at h1; omega
  · exact e

/-- The address of a tenant's line. -/
def taF (a b r d : Int) (l : List Int) (t n : Int) : Value :=
  if TlOk a b r d l t n then adV ((bkL l t).getD (n % ((bkL l t).length : Int)).toNat 0) (n / ((bkL l t).length : Int) / d) (n / ((bkL l t).length : Int) % d) true else adV 0 0 0 false

/-- The tenant's line of an address. -/
def tnF (a b r d : Int) (l : List Int) (x y z : Int) : Value :=
  if PtOk a b r d l ∧ AdOk a b r d x y z then .tuple #[.int .i64 (l.getD x.toNat 0), .int .i64 ((y * d + z) * ((bkL l (l.getD x.toNat 0)).length : Int) + (ixI (bkL l (l.getD x.toNat 0)) x : Int)), .bool true]
  else .tuple #[.int .i64 0, .int .i64 0, .bool false]

/-- The line's address is one of the geometry; its bank is the tenant's. -/
theorem ta_addr {a b r d : Int} {l : List Int} {t n : Int} (h : TlOk a b r d l t n) :
    ∃ i : Nat, i < l.length ∧ l.getD i 0 = t ∧ (bkL l t).getD (n % ((bkL l t).length : Int)).toNat 0 = (i : Int) ∧
      AdOk a b r d (i : Int) (n / ((bkL l t).length : Int) / d) (n / ((bkL l t).length : Int) % d) := by
  have hp := h.part
  have hk := h.banks
  obtain ⟨h0, h1⟩ := h
  rw [tlF_ok hp] at h1
  obtain ⟨K, hK⟩ : ∃ K : Nat, (bkL l t).length = K := ⟨_, rfl⟩
  have hm : (n % (K : Int)).toNat < (bkL l t).length := by
    have := Int.emod_lt_of_pos n (show (0 : Int) < K by omega)
    have := Int.emod_nonneg n (show (K : Int) ≠ 0 by omega)
    omega
  rw [hK] at h1 hk ⊢
  obtain ⟨i, hi, ho, he⟩ := (bk_mem l t _ l.length).1 (getD_mem hm)
  refine ⟨i, hi, ho, he, ?_⟩
  obtain ⟨⟨_, _, hr, hd⟩, hl, _⟩ := hp
  have q0 : 0 ≤ n / (K : Int) := Int.ediv_nonneg h0 (by omega)
  have q1 : n / (K : Int) < r * d := by
    refine Int.ediv_lt_of_lt_mul (by omega) ?_
    rw [Int.mul_comm, ← Int.mul_assoc]; omega
  refine ⟨⟨by omega, by omega⟩, ⟨Int.ediv_nonneg q0 (by omega), ?_⟩, ⟨Int.emod_nonneg _ (by omega), ?_⟩⟩
  · have := Int.ediv_lt_of_lt_mul (show 0 < d by omega) q1; omega
  · have := Int.emod_lt_of_pos (n / (K : Int)) (show 0 < d by omega); omega

/-- There and back. -/
theorem ta_back {a b r d : Int} {l : List Int} {t n : Int} (h : TlOk a b r d l t n) :
    tnF a b r d l ((bkL l t).getD (n % ((bkL l t).length : Int)).toNat 0) (n / ((bkL l t).length : Int) / d) (n / ((bkL l t).length : Int) % d) = .tuple #[.int .i64 t, .int .i64 n, .bool true] := by
  obtain ⟨i, hi, ho, he, had⟩ := ta_addr h
  have hp := h.part
  have hk := h.banks
  obtain ⟨h0, h1⟩ := h
  obtain ⟨K, hK⟩ : ∃ K : Nat, (bkL l t).length = K := ⟨_, rfl⟩
  have hm : (n % (K : Int)).toNat < (bkL l t).length := by
    have := Int.emod_lt_of_pos n (show (0 : Int) < K by omega)
    have := Int.emod_nonneg n (show (K : Int) ≠ 0 by omega)
    omega
  have hix := ixI_at (bk_up l t l.length) hm
  rw [hK] at hk he had ⊢
  rw [show bk l t l.length = bkL l t from rfl, he] at hix
  rw [he]
  unfold tnF
  rw [if_pos ⟨hp, had⟩, Int.toNat_natCast, ho, hK, hix]
  obtain ⟨⟨_, _, hr, hd⟩, _⟩ := hp
  have e1 : n / (K : Int) / d * d + n / (K : Int) % d = n / (K : Int) := by rw [Int.mul_comm]; exact Int.mul_ediv_add_emod _ _
  have e2 : n / (K : Int) * (K : Int) + n % (K : Int) = n := by rw [Int.mul_comm]; exact Int.mul_ediv_add_emod _ _
  have e3 : ((n % (K : Int)).toNat : Int) = n % (K : Int) := Int.toNat_of_nonneg (Int.emod_nonneg _ (by omega))
  rw [e1, e3, e2]

/-- The lines of all tenants together. -/
theorem tl_sum {a b r d : Int} {l : List Int} (h : PtOk a b r d l) : tlF a b r d l 0 + tlF a b r d l 1 + tlF a b r d l 2 + tlF a b r d l 3 = lineN a b r d := by
  rw [tlF_ok h, tlF_ok h, tlF_ok h, tlF_ok h]
  have hs := bk_sum l h.2.2 l.length (Nat.le_refl _)
  have hl := h.2.1
  unfold lineN
  rw [← hl, ← Int.add_mul, ← Int.add_mul, ← Int.add_mul, ← Int.add_mul, ← Int.add_mul, ← Int.add_mul]
  congr 2
  show (((bk l 0 l.length).length : Int) + ((bk l 1 l.length).length : Int) + ((bk l 2 l.length).length : Int) + ((bk l 3 l.length).length : Int)) = _
  omega

end Go.Proofs.Ytljcdjhafhppbaa
