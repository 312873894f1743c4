/-
  Decimal texts and their numbers: plain lists of bytes.
-/
import Derived.Test.YtihhcnckoeaihaaBase
import Derived.PlainAid
import Derived.Lib.AtoiAll
import Derived.Lib.ItoaLen
import Derived.Lib.Strings
namespace Go.Proofs.Ytihhcnckoeaihaa
open Go.RowKit Go.PlainAid
set_option linter.unusedVariables false

def DigB (b : UInt8) : Prop := 48 ≤ b.toNat ∧ b.toNat ≤ 57

/-- The number that digits spell behind acc. -/
def valFrom (acc : Nat) (l : List UInt8) : Nat := l.foldl (fun a c => a * 10 + (c.toNat - 48)) acc

theorem valFrom_le : ∀ (l : List UInt8) (acc : Nat), acc ≤ valFrom acc l
  | [], acc => Nat.le_refl _
  | c :: r, acc => by
    have h := valFrom_le r (acc * 10 + (c.toNat - 48))
    show acc ≤ valFrom (acc * 10 + (c.toNat - 48)) r
    omega

theorem valFrom_snoc (acc : Nat) (l : List UInt8) (c : UInt8) : valFrom acc (l ++ [c]) = valFrom acc l * 10 + (c.toNat - 48) := by
  unfold valFrom; rw [List.foldl_append]; rfl

theorem parse_digits : ∀ (l : List UInt8) (acc : Nat), (∀ b ∈ l, DigB b) → valFrom acc l ≤ 1000000000 → Lib.parseUint10 acc l = .ok (valFrom acc l)
  | [], acc, _, _ => rfl
  | c :: r, acc, h, hv => by
    have hc := h c (List.mem_cons_self ..)
    have h2 : valFrom acc (c :: r) = valFrom (acc * 10 + (c.toNat - 48)) r := rfl
    have h3 := valFrom_le r (acc * 10 + (c.toNat - 48))
    rw [h2] at hv ⊢
    simp only [Lib.parseUint10]
    rw [if_pos (show 48 ≤ c.toNat ∧ c.toNat ≤ 57 from hc), if_neg (by omega), if_neg (by omega)]
    exact parse_digits r _ (fun b hb => h b (List.mem_cons_of_mem _ hb)) hv

theorem dec_digs : ∀ (u : Nat), ∀ b ∈ Lib.decDigits u, DigB b := by
  intro u
  induction u using Nat.strongRecOn with
  | _ u ih =>
    intro b hb
    rw [Lib.decDigits] at hb
    split at hb
    · simp at hb; subst hb
      unfold DigB; simp; omega
    · rcases List.mem_append.1 hb with h | h
      · exact ih (u / 10) (by omega) b h
      · simp at h; subst h
        unfold DigB; simp; omega

theorem dec_val : ∀ (u : Nat), valFrom 0 (Lib.decDigits u) = u := by
  intro u
  induction u using Nat.strongRecOn with
  | _ u ih =>
    rw [Lib.decDigits]
    split
    · show 0 * 10 + ((UInt8.ofNat (48 + u)).toNat - 48) = u
      simp; omega
    · rw [valFrom_snoc, ih (u / 10) (by omega)]
      simp; omega

theorem dec_ne (u : Nat) : Lib.decDigits u ≠ [] := by
  intro h
  have := congrArg List.length h
  rw [Lib.decDigits_length] at this
  have := Lib.nDigits_pos u
  simp at *; omega

/-- strconv.Atoi of the digits of a number up to MaxUint. -/
theorem atoi_dec {u : Nat} (h : u ≤ 1000000000) : Lib.atoiAll (Lib.decDigits u) = .ok (u : Int) := by
  cases hd : Lib.decDigits u with
  | nil => exact absurd hd (dec_ne u)
  | cons c r =>
    have hc : DigB c := dec_digs u c (by rw [hd]; exact List.mem_cons_self ..)
    have hm : Lib.parseMag (c :: r) = .ok u := by
      unfold Lib.parseMag
      rw [if_neg (by simp), parse_digits (c :: r) 0 (fun b hb => dec_digs u b (by rw [hd]; exact hb)) (by rw [← hd, dec_val]; exact h), ← hd, dec_val]
    unfold DigB at hc
    unfold Lib.atoiAll
    simp only
    rw [if_neg (by omega), hm]
    simp only
    rw [if_neg (by omega), if_neg (by omega), if_neg (by omega)]

theorem itoa_nat (u : Nat) : Lib.itoa (u : Int) = Lib.decDigits u := by unfold Lib.itoa; rw [if_neg (by omega), Int.toNat_natCast]

/-- The text spells v, as FormatInt does, and v is at most MaxUint. -/
def PU (s : ByteArray) (v : Nat) : Prop := v ≤ 1000000000 ∧ s = ⟨(Lib.decDigits v).toArray⟩

theorem PU.inj {s : ByteArray} {u v : Nat} (h : PU s u) (k : PU s v) : u = v := by
  have e : Lib.decDigits u = Lib.decDigits v := by
    have := h.2.symm.trans k.2
    simpa using this
  rw [← dec_val u, e, dec_val]

/-- The number that the first k bytes spell. -/
def valTo (s : ByteArray) : Nat → Int
  | 0 => 0
  | k + 1 => 10 * valTo s k + bt s k - 48

theorem valTo_bd (s : ByteArray) : ∀ k, (∀ i, i < k → 48 ≤ bt s i ∧ bt s i ≤ 57) → 0 ≤ valTo s k ∧ valTo s k < (10 : Int) ^ k
  | 0, _ => by simp [valTo]
  | k + 1, h => by
    have ih := valTo_bd s k (fun i hi => h i (by omega))
    have hk := h k (by omega)
    simp only [valTo, Int.pow_succ]
    omega

theorem valTo_small (s : ByteArray) {k : Nat} (hk : k ≤ 9) (h : ∀ i, i < k → 48 ≤ bt s i ∧ bt s i ≤ 57) : 0 ≤ valTo s k ∧ valTo s k ≤ 999999999 := by
  have h1 := valTo_bd s k h
  have h2 : (10 : Int) ^ k ≤ 10 ^ 9 := by
    have := Nat.pow_le_pow_right (n := 10) (by decide) hk
    exact_mod_cast this
  omega

theorem valTo_list (s : ByteArray) : ∀ k, k ≤ s.size → (∀ i, i < k → 48 ≤ bt s i ∧ bt s i ≤ 57) → valTo s k = (valFrom 0 (s.data.toList.take k) : Nat)
  | 0, _, _ => by simp [valTo, valFrom]
  | k + 1, hk, h => by
    have ih := valTo_list s k (by omega) (fun i hi => h i (by omega))
    have hb := h k (by omega)
    have hl : k < s.data.toList.length := by rw [← Lib.size_eq]; omega
    have e : bt s k = ((s.data.toList[k]).toNat : Int) := by unfold bt; rw [dif_pos (by omega)]; rfl
    rw [List.take_succ_eq_append_getElem hl, valFrom_snoc]
    simp only [valTo]
    omega

theorem bt_dig {s : ByteArray} {u : Nat} (h : s = ⟨(Lib.decDigits u).toArray⟩) : ∀ i, i < s.size → 48 ≤ bt s i ∧ bt s i ≤ 57 := by
  intro i hi
  have hl : i < s.data.toList.length := by rw [← Lib.size_eq]; exact hi
  have e : bt s i = ((s.data.toList[i]).toNat : Int) := by unfold bt; rw [dif_pos hi]; rfl
  have hd : DigB (s.data.toList[i]) := dec_digs u _ (by have := List.getElem_mem hl; subst h; exact this)
  unfold DigB at hd
  omega

theorem valTo_dec {s : ByteArray} {u : Nat} (h : s = ⟨(Lib.decDigits u).toArray⟩) : valTo s s.size = u := by
  rw [valTo_list s s.size (Nat.le_refl _) (bt_dig h)]
  have e : s.data.toList.take s.size = Lib.decDigits u := by
    rw [List.take_of_length_le (by rw [← Lib.size_eq]; exact Nat.le_refl _)]; subst h; rfl
  rw [e, dec_val]

theorem nDigits_le : ∀ (k u : Nat), u < 10 ^ (k + 1) → Lib.nDigits u ≤ k + 1
  | 0, u, h => by rw [Lib.nDigits_small (by simpa using h)]; exact Nat.le_refl _
  | k + 1, u, h => by
    by_cases h10 : u < 10
    · rw [Lib.nDigits_small h10]; omega
    · rw [Lib.nDigits_big h10]
      have := nDigits_le k (u / 10) (by rw [Nat.pow_succ] at h; omega)
      omega

theorem size_dec {s : ByteArray} {u : Nat} (h : s = ⟨(Lib.decDigits u).toArray⟩) (hu : u ≤ 1000000000) : s.size ≤ 10 := by
  have e : s.size = (Lib.decDigits u).length := by rw [Lib.size_eq]; subst h; rfl
  rw [e, Lib.decDigits_length]
  exact nDigits_le 9 u (by omega)

end Go.Proofs.Ytihhcnckoeaihaa
