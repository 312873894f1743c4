/-
  The fields of a line, joined by single spaces, have the same fields: plain lists and bytes.
-/
import Derived.Test.YtfhgbgcdkiiflaaDoorSplitM
namespace Go.Proofs.YtfhgbgcdkiiflaaDoor
open Go.RowKit Go.PlainAid

set_option linter.unusedVariables false

theorem bt_left (u v : ByteArray) {i : Nat} (h : i < u.size) : bt (u ++ v) i = bt u i := by
  unfold bt
  rw [dif_pos h, dif_pos (by rw [ByteArray.size_append]; omega), ByteArray.getElem_append_left h]

theorem bt_right (u v : ByteArray) {i : Nat} (h : i < v.size) : bt (u ++ v) (u.size + i) = bt v i := by
  unfold bt
  rw [dif_pos h, dif_pos (by rw [ByteArray.size_append]; omega), ByteArray.getElem_append_right (by omega)]
  simp

theorem bt_extract (s : ByteArray) {b e i : Nat} (he : e ≤ s.size) (h : b + i < e) : bt (s.extract b e) i = bt s (b + i) := by
  unfold bt
  rw [dif_pos (by rw [ByteArray.size_extract]; omega), dif_pos (by omega), ByteArray.getElem_extract]

theorem extract_left (u v : ByteArray) {b i : Nat} (h : i ≤ u.size) : (u ++ v).extract b i = u.extract b i := by
  rw [ByteArray.extract_append, show i - u.size = 0 by omega]
  have e : v.extract (b - u.size) 0 = ByteArray.empty := by
    apply ByteArray.ext; simp
  rw [e]
  apply ByteArray.ext; simp

theorem stp_left (u v : ByteArray) : ∀ i, i ≤ u.size → stp (u ++ v) i = stp u i
  | 0, _ => rfl
  | i + 1, h => by
    have ih := stp_left u v i (by omega)
    have hb := bt_left u v (i := i) (by omega)
    by_cases e : bt u i = 32
    · rw [stp_hit (by rw [hb]; exact e), stp_hit e, ih]
      unfold fieldOf
      rw [extract_left u v (by omega)]
    · rw [stp_miss (by rw [hb]; exact e), stp_miss e, ih]

/-- A text that may be a field. -/
def GoodF (f : ByteArray) : Prop := 0 < f.size ∧ ∀ i, i < f.size → okB (bt f i) ∧ bt f i ≠ 32

/-- No space among the bytes from b on: the state does not turn. -/
theorem stp_run (s : ByteArray) {b : Nat} {L : List ByteArray} (h0 : stp s b = (L, b)) : ∀ k, (∀ i, i < k → bt s (b + i) ≠ 32) → stp s (b + k) = (L, b)
  | 0, _ => h0
  | k + 1, h => by
    have := stp_run s h0 k (fun i hi => h i (by omega))
    rw [show b + (k + 1) = (b + k) + 1 by omega, stp_miss (h k (by omega)), this]

theorem size_sp : (⟨#[32]⟩ : ByteArray).size = 1 := rfl

theorem bt_sp : bt ⟨#[32]⟩ 0 = 32 := rfl

/-- One field and one space more. -/
theorem stp_more (u f : ByteArray) (hf : GoodF f) {L : List ByteArray} (h : stp u u.size = (L, u.size)) :
    stp (u ++ f ++ ⟨#[32]⟩) (u ++ f ++ ⟨#[32]⟩).size = (L ++ [f], (u ++ f ++ ⟨#[32]⟩).size) := by
  have hs : (u ++ f ++ ⟨#[32]⟩).size = (u.size + f.size) + 1 := by rw [ByteArray.size_append, ByteArray.size_append, size_sp]
  have hs2 : (u ++ f).size = u.size + f.size := ByteArray.size_append
  rw [hs]
  have h1 : stp (u ++ f ++ ⟨#[32]⟩) (u.size + f.size) = (L, u.size) := by
    rw [stp_left (u ++ f) _ _ (by omega)]
    refine stp_run _ (by rw [stp_left u f _ (Nat.le_refl _)]; exact h) _ (fun i hi => ?_)
    rw [bt_right u f hi]
    exact (hf.2 i hi).2
  have h2 : bt (u ++ f ++ ⟨#[32]⟩) (u.size + f.size) = 32 := by
    have := bt_right (u ++ f) ⟨#[32]⟩ (i := 0) (by rw [size_sp]; omega)
    rw [hs2, Nat.add_zero] at this
    rw [this]; exact bt_sp
  rw [stp_hit h2, h1]
  simp only
  rw [fieldOf_yes (by have := hf.1; omega)]
  congr 1
  congr 1
  rw [extract_left (u ++ f) _ (by omega), ByteArray.extract_append_eq_right rfl rfl]

/-- The first k fields, each with a space behind it. -/
def joinTo (F : List ByteArray) : Nat → ByteArray
  | 0 => ⟨#[]⟩
  | k + 1 => joinTo F k ++ F.getD k ⟨#[]⟩ ++ ⟨#[32]⟩

theorem joinTo_stp (F : List ByteArray) (hF : ∀ f ∈ F, GoodF f) : ∀ k, k ≤ F.length → stp (joinTo F k) (joinTo F k).size = (F.take k, (joinTo F k).size)
  | 0, _ => by simp [joinTo, stp, ByteArray.size]
  | k + 1, h => by
    have hg : F.getD k ⟨#[]⟩ = F[k] := by rw [List.getD_eq_getElem?_getD, List.getElem?_eq_getElem (by omega)]; rfl
    have := stp_more (joinTo F k) (F[k]) (hF _ (List.getElem_mem _)) (joinTo_stp F hF k (by omega))
    simp only [joinTo, hg]
    rw [this, List.take_succ_eq_append_getElem h]

theorem joinTo_ok (F : List ByteArray) (hF : ∀ f ∈ F, GoodF f) : ∀ k, k ≤ F.length → ∀ i, i < (joinTo F k).size → okB (bt (joinTo F k) i)
  | 0, _, i, hi => by simp [joinTo, ByteArray.size] at hi
  | k + 1, h, i, hi => by
    have hg : F.getD k ⟨#[]⟩ = F[k] := by rw [List.getD_eq_getElem?_getD, List.getElem?_eq_getElem (by omega)]; rfl
    have hgf := hF _ (List.getElem_mem h)
    simp only [joinTo, hg] at hi ⊢
    have hs2 : (joinTo F k ++ F[k]).size = (joinTo F k).size + (F[k]).size := ByteArray.size_append
    rw [ByteArray.size_append, size_sp, hs2] at hi
    by_cases h1 : i < (joinTo F k).size + (F[k]).size
    · rw [bt_left _ _ (by omega)]
      by_cases h2 : i < (joinTo F k).size
      · rw [bt_left _ _ h2]; exact joinTo_ok F hF k (by omega) i h2
      · obtain ⟨j, rfl⟩ : ∃ j, i = (joinTo F k).size + j := ⟨i - (joinTo F k).size, by omega⟩
        rw [bt_right _ _ (by omega)]; exact (hgf.2 j (by omega)).1
    · obtain rfl : i = (joinTo F k ++ F[k]).size + 0 := by omega
      rw [bt_right _ _ (by rw [size_sp]; omega), bt_sp]
      exact ⟨by decide, by decide⟩

theorem joinTo_size (F : List ByteArray) (n : Nat) (hF : ∀ f ∈ F, f.size ≤ n) : ∀ k, k ≤ F.length → (joinTo F k).size ≤ k * (n + 1)
  | 0, _ => by simp [joinTo, ByteArray.size]
  | k + 1, h => by
    have hg : F.getD k ⟨#[]⟩ = F[k] := by rw [List.getD_eq_getElem?_getD, List.getElem?_eq_getElem (by omega)]; rfl
    have h1 := joinTo_size F n hF k (by omega)
    have h2 := hF _ (List.getElem_mem h)
    simp only [joinTo, hg]
    rw [ByteArray.size_append, ByteArray.size_append, size_sp, Nat.succ_mul]
    omega

/-- Between the begin and i there is no space. -/
theorem stp_clear (s : ByteArray) : ∀ i, ∀ j, (stp s i).2 ≤ j → j < i → bt s j ≠ 32
  | 0, j, _, h => by omega
  | i + 1, j, h0, h1 => by
    by_cases e : bt s i = 32
    · rw [stp_hit e] at h0; simp only at h0; omega
    · rw [stp_miss e] at h0
      by_cases hj : j = i
      · subst hj; exact e
      · exact stp_clear s i j h0 (by omega)

theorem fieldOf_good (s : ByteArray) {b i : Nat} (hi : i ≤ s.size) (hok : ∀ j, j < i → okB (bt s j)) (hc : ∀ j, b ≤ j → j < i → bt s j ≠ 32) : ∀ f ∈ fieldOf s b i, GoodF f ∧ f.size ≤ s.size := by
  intro f hf
  unfold fieldOf at hf
  split at hf
  · simp at hf; subst hf
    have hsz : (s.extract b i).size = i - b := by rw [ByteArray.size_extract]; omega
    refine ⟨⟨by omega, fun j hj => ?_⟩, by omega⟩
    rw [bt_extract s hi (by omega)]
    exact ⟨hok _ (by omega), hc _ (by omega) (by omega)⟩
  · cases hf

theorem stp_good (s : ByteArray) : ∀ i, i ≤ s.size → (∀ j, j < i → okB (bt s j)) → ∀ f ∈ (stp s i).1, GoodF f ∧ f.size ≤ s.size
  | 0, _, _, f, hf => by cases hf
  | i + 1, h, hok, f, hf => by
    have ih := stp_good s i (by omega) (fun j hj => hok j (by omega))
    by_cases e : bt s i = 32
    · rw [stp_hit e] at hf
      rcases List.mem_append.1 hf with h1 | h1
      · exact ih f h1
      · exact fieldOf_good s (by omega) (fun j hj => hok j (by omega)) (stp_clear s i) f h1
    · rw [stp_miss e] at hf; exact ih f hf

theorem fieldsOf_good (s : ByteArray) (hok : ∀ j, j < s.size → okB (bt s j)) : ∀ f ∈ fieldsOf s, GoodF f ∧ f.size ≤ s.size := by
  intro f hf
  rcases List.mem_append.1 hf with h1 | h1
  · exact stp_good s s.size (Nat.le_refl _) hok f h1
  · exact fieldOf_good s (Nat.le_refl _) hok (stp_clear s s.size) f h1

theorem splitOk_parts {s : ByteArray} (h : splitOk s = true) : s.size ≤ 600 ∧ (∀ i, i < s.size → okB (bt s i)) ∧ (fieldsOf s).length ≤ 24 := by
  simp only [splitOk, Bool.and_eq_true, decide_eq_true_eq] at h
  exact ⟨h.1.1, okTo_all h.1.2, h.2⟩

/-- The fields of a line, joined. -/
def joinF (s : ByteArray) : ByteArray := joinTo (splitF s) (splitF s).length

theorem join_fields {s : ByteArray} (h : splitOk s = true) : fieldsOf (joinF s) = splitF s ∧ ∀ i, i < (joinF s).size → okB (bt (joinF s) i) := by
  obtain ⟨h1, h2, h3⟩ := splitOk_parts h
  have e := splitF_yes h
  have hg : ∀ f ∈ splitF s, GoodF f := fun f hf => (fieldsOf_good s h2 f (by rw [← e]; exact hf)).1
  refine ⟨?_, joinTo_ok _ hg _ (Nat.le_refl _)⟩
  unfold fieldsOf joinF
  rw [joinTo_stp _ hg _ (Nat.le_refl _)]
  simp only
  rw [fieldOf_no (by omega), List.append_nil, List.take_length]

theorem join_again {s : ByteArray} (h : splitOk s = true) (hs : (joinF s).size ≤ 600) : splitOk (joinF s) = true ∧ splitF (joinF s) = splitF s := by
  obtain ⟨e1, e2⟩ := join_fields h
  have hl := splitF_length s
  have ok := splitOk_yes hs e2 (by rw [e1]; exact hl)
  exact ⟨ok, by rw [splitF_yes ok, e1]⟩

theorem join_size {s : ByteArray} (h : splitOk s = true) : ∀ k, k ≤ (splitF s).length → (joinTo (splitF s) k).size ≤ 14424 := by
  intro k hk
  obtain ⟨h1, h2, h3⟩ := splitOk_parts h
  have e := splitF_yes h
  have := joinTo_size (splitF s) 600 (fun f hf => by have := (fieldsOf_good s h2 f (by rw [← e]; exact hf)).2; omega) k hk
  have hl := splitF_length s
  have h5 : k ≤ 24 := by omega
  have h6 : k * 601 ≤ 24 * 601 := Nat.mul_le_mul_right _ h5
  omega

end Go.Proofs.YtfhgbgcdkiiflaaDoor
