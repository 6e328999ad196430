/- Whole numbers up to 2^53 as words: exactly; with no program in sight. -/
import Derived.Test.YtmepgpiihhilaaaDoorWorks
namespace Go.Proofs.YtmepgpiihhilaaaDoor
open Go.RowKit

/-- What the word of a whole number with a sign stands for. -/
structure Is (x : Nat) (neg : Bool) (c : Nat) : Prop where
  inside : insideN x = true
  pureX : pureN x = true
  cut : cutN x = c
  sign : x / 9223372036854775808 % 2 = 1 ↔ neg = true
  lt : x < 18446744073709551616
  mag : magN (x % 9223372036854775808) = c * 2 ^ kk

theorem cut_of_mag {x c : Nat} (h : mantN x * 2 ^ (expI x + 1074).toNat = c * 2 ^ kk) : cutN x = c := by
  have lo := exp_lo x
  have hk := kk_eq
  unfold cutN
  by_cases he : 0 ≤ expI x
  · have e1 : (expI x + 1074).toNat = (expI x).toNat + kk := by omega
    rw [e1, Nat.pow_add, ← Nat.mul_assoc] at h
    rw [show (-expI x).toNat = 0 by omega, Nat.pow_zero, Nat.div_one]
    exact Nat.eq_of_mul_eq_mul_right (Nat.two_pow_pos _) h
  · have e1 : kk = (-expI x).toNat + (expI x + 1074).toNat := by omega
    rw [e1, Nat.pow_add, ← Nat.mul_assoc] at h
    have h2 := Nat.eq_of_mul_eq_mul_right (Nat.two_pow_pos _) h
    rw [show (expI x).toNat = 0 by omega, Nat.pow_zero, Nat.mul_one, h2]
    exact Nat.mul_div_cancel _ (Nat.two_pow_pos _)

theorem is_word (neg : Bool) {c : Nat} (h : c ≤ 9007199254740992) : Is (wordN neg c) neg c := by
  obtain ⟨r, h1, h2, h3⟩ := word_low neg h
  obtain ⟨s1, s2⟩ := sign_of (neg := neg) h2
  have hin : insideN (wordN neg c) = true := by
    unfold insideN; rw [h1, s2]; exact decide_eq_true h2
  have hmag : magN (wordN neg c % 9223372036854775808) = c * 2 ^ kk := by rw [h1, s2, h3]
  have hm : mantN (wordN neg c) * 2 ^ (expI (wordN neg c) + 1074).toNat = c * 2 ^ kk := by rw [← mag_parts]; exact hmag
  have hc := cut_of_mag hm
  refine ⟨hin, ?_, hc, by rw [h1]; exact s1, ?_, hmag⟩
  · refine (pure_iff _).1 ?_
    rw [hc]; exact hm
  · rw [h1]
    split <;> omega

theorem Is.not_nan {x : Nat} {neg : Bool} {c : Nat} (h : Is x neg c) : nanB x = false := by
  rw [nanB_nat]
  have := inside_num h.inside
  exact decide_eq_false (by omega)
theorem Is.not_inf {x : Nat} {neg : Bool} {c : Nat} (h : Is x neg c) : infB x = false := by
  have := inside_num h.inside
  unfold infB
  rw [beq_eq_false_iff_ne]; omega
theorem Is.zer {x : Nat} {neg : Bool} {c : Nat} (h : Is x neg c) : zerB x = (c == 0) := by
  have hm := h.mag
  unfold zerB
  rw [Bool.eq_iff_iff, beq_iff_eq, beq_iff_eq]
  constructor
  · intro h0
    have : x % 9223372036854775808 = 0 := by omega
    rw [this, mag_zero] at hm
    rcases Nat.mul_eq_zero.1 hm.symm with h1 | h1
    · exact h1
    · exact absurd h1 (Nat.ne_of_gt (Nat.two_pow_pos _))
  · intro h0
    rw [h0, Nat.zero_mul, ← mag_zero] at hm
    have := mag_inj hm
    omega
theorem Is.whole {x : Nat} {neg : Bool} {c : Nat} (h : Is x neg c) : wholeB x = true ∧ wholeV x = if neg then -(c : Int) else c := by
  have hb : wholeB x = true := by
    unfold wholeB
    simp only [Int.toNat_natCast, h.inside, h.pureX, Bool.and_self]
  refine ⟨hb, ?_⟩
  unfold wholeV
  rw [if_pos hb]
  simp only [Int.toNat_natCast, h.cut]
  have hs := h.sign
  have hl := h.lt
  by_cases hn : neg = true
  · have := hs.2 hn
    rw [if_pos (by omega), if_pos hn]
  · have : ¬ x / 9223372036854775808 % 2 = 1 := fun e => hn (hs.1 e)
    rw [if_neg (by omega), if_neg hn]

/-- 'Of' of a whole number up to 2^53. -/
theorem of_word (n : Int) : ofI n = (wordN (decide (n < 0)) n.natAbs : Nat) := rfl
theorem of_is {n : Int} (h0 : -9007199254740992 ≤ n) (h1 : n ≤ 9007199254740992) : ∃ x, ofI n = (x : Nat) ∧ Is x (decide (n < 0)) n.natAbs :=
  ⟨_, of_word n, is_word _ (by omega)⟩

theorem of_whole {n : Int} (h0 : -9007199254740992 ≤ n) (h1 : n ≤ 9007199254740992) : wholeB (ofI n) = true ∧ wholeV (ofI n) = n := by
  obtain ⟨x, e, h⟩ := of_is h0 h1
  rw [e]
  refine ⟨h.whole.1, ?_⟩
  rw [h.whole.2]
  by_cases hn : n < 0
  · simp only [hn, decide_true, if_true]; omega
  · simp only [hn, decide_false, Bool.false_eq_true, if_false]; omega

theorem of_uword {n : Int} (h0 : -9007199254740992 ≤ n) (h1 : n ≤ 9007199254740992) : uwordI (ofI n) = n % 4294967296 := by
  obtain ⟨x, e, h⟩ := of_is h0 h1
  rw [e]
  unfold uwordI
  rw [if_neg (by rw [h.not_nan, h.not_inf]; decide), cut_nat, h.cut]
  have hs := h.sign
  have hl := h.lt
  simp only [decide_eq_true_eq] at hs
  by_cases hn : n < 0
  · have := hs.2 hn
    rw [if_pos (by omega)]; congr 1; omega
  · have : ¬ x / 9223372036854775808 % 2 = 1 := fun e => hn (hs.1 e)
    rw [if_neg (by omega)]; congr 1; omega

/-- Two words with one sign and one size are one. -/
theorem Is.unique {x y : Nat} {neg : Bool} {c : Nat} (h : Is x neg c) (k : Is y neg c) : x = y := by
  have hm := mag_inj (h.mag.trans k.mag.symm)
  have h1 := h.sign
  have h2 := k.sign
  have h3 := h.lt
  have h4 := k.lt
  by_cases hn : neg = true
  · have := h1.2 hn
    have := h2.2 hn
    omega
  · have : ¬ x / 9223372036854775808 % 2 = 1 := fun e => hn (h1.1 e)
    have : ¬ y / 9223372036854775808 % 2 = 1 := fun e => hn (h2.1 e)
    omega
end Go.Proofs.YtmepgpiihhilaaaDoor
