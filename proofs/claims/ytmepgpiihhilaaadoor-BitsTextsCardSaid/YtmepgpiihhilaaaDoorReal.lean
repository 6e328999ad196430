/- What words stand for, compared and written: exactly, with no program in sight. -/
import Derived.Test.YtmepgpiihhilaaaDoorWord
namespace Go.Proofs.YtmepgpiihhilaaaDoor
open Go.RowKit

theorem cut_zero (s : Bool) (n d : Nat) : Ieee.Toward.cut .zero s n d = n / 2 ^ d := by
  unfold Ieee.Toward.cut
  simp only [Nat.one_shiftLeft, Bool.toNat_false, Nat.add_zero]
  by_cases h : d ≤ n.log2 + 2
  · rw [Nat.min_eq_left h]
  · rw [Nat.min_eq_right (by omega)]
    have h1 : n < 2 ^ (n.log2 + 1) := Nat.lt_log2_self
    have h2 := Nat.pow_le_pow_right (show 0 < 2 by decide) (show n.log2 + 1 ≤ n.log2 + 2 by omega)
    have h3 := Nat.pow_le_pow_right (show 0 < 2 by decide) (show n.log2 + 1 ≤ d by omega)
    rw [Nat.div_eq_of_lt (by omega), Nat.div_eq_of_lt (by omega)]

theorem cut_even_none (s : Bool) (n : Nat) : Ieee.Toward.cut .even s n 0 = n := by
  unfold Ieee.Toward.cut
  simp [Nat.mod_one]

/-- How far a number's size is moved up, so that its highest bit stands at 52 (or as far as the power lets it). -/
def upN (f m : Nat) : Nat := min (52 - m.log2) (f - 1)

theorem jn_up : ∀ (f m : Nat), 1 ≤ f → 0 < m → m < 9007199254740992 → jn f m = (f - 1 - upN f m) * 4503599627370496 + m * 2 ^ upN f m
  | 1, m, _, h0, hm => by
    rw [jn, upN]
    simp only [Nat.sub_self, Nat.min_zero, Nat.pow_zero, Nat.mul_one, Nat.zero_mul, Nat.zero_add]
    split <;> omega
  | f + 2, m, _, h0, hm => by
    rw [jn]
    by_cases hl : m < 4503599627370496
    · rw [if_pos hl, jn_up (f + 1) (2 * m) (by omega) (by omega) (by omega)]
      have h2 : (2 * m).log2 = m.log2 + 1 := Nat.log2_two_mul (by omega)
      have h3 : m.log2 < 52 := (Nat.log2_lt (by omega)).2 hl
      have h4 : upN (f + 2) m = upN (f + 1) (2 * m) + 1 := by unfold upN; rw [h2]; omega
      rw [h4, Nat.pow_succ]
      have h5 : f + 2 - 1 - (upN (f + 1) (2 * m) + 1) = f + 1 - 1 - upN (f + 1) (2 * m) := by omega
      rw [h5]
      congr 1
      rw [Nat.mul_comm 2 m, Nat.mul_assoc, Nat.mul_comm 2]
    · rw [if_neg hl]
      have h3 : ¬ m.log2 < 52 := fun h => hl ((Nat.log2_lt (by omega)).1 h)
      have h4 : upN (f + 2) m = 0 := by unfold upN; omega
      rw [h4]
      simp only [Nat.pow_zero, Nat.mul_one, Nat.sub_zero]
      omega

theorem nearest_exact (s : Bool) (m : Nat) (p : Int) (hm : m < 9007199254740992) (hp : -1074 ≤ p) (hp2 : p ≤ 971) :
    Ieee.double.nearest s m p = Ieee.double.word s (jn (p + 1075).toNat m) := by
  unfold Ieee.Format.nearest
  by_cases h0 : m = 0
  · subst h0
    rw [if_pos rfl]
    have : ∀ f, jn f 0 = 0 := by
      intro f
      induction f with
      | zero => rfl
      | succ f ih =>
        cases f with
        | zero => rw [jn]; simp
        | succ f => rw [jn]; simpa using ih
    rw [this]
  · rw [if_neg h0]
    have hl : m.log2 < 53 := (Nat.log2_lt h0).2 (by omega)
    have hf : (Ieee.double.fractionBits : Int) = 52 := rfl
    simp only [dbl_least, dbl_binade, dbl_inf, hf]
    have hmax : max (p + (m.log2 : Int) - 52) (-1074) = p - (upN (p + 1075).toNat m : Int) := by unfold upN; omega
    have hup : (upN (p + 1075).toNat m : Int) ≤ p + 1074 := by unfold upN; omega
    rw [hmax]
    have e1 : (p - (p - (upN (p + 1075).toNat m : Int))).toNat = upN (p + 1075).toNat m := by omega
    have e2 : (p - (upN (p + 1075).toNat m : Int) - p).toNat = 0 := by omega
    rw [e1, e2, cut_even_none, Nat.shiftLeft_eq]
    have e3 : (p - (upN (p + 1075).toNat m : Int) - -1074).toNat = (p + 1075).toNat - 1 - upN (p + 1075).toNat m := by omega
    rw [e3, ← jn_up _ _ (by omega) (by omega) hm]
    have := jn_lt (p + 1075).toNat m (by omega) hm
    rw [Nat.min_eq_left (by omega)]

/- Numbers in their order. -/
def magN (r : Nat) : Nat := if r / 4503599627370496 = 0 then r else (r % 4503599627370496 + 4503599627370496) * 2 ^ (r / 4503599627370496 - 1)
def valI (x : Nat) : Int := if x / 9223372036854775808 % 2 = 1 then -(magN (x % 9223372036854775808) : Int) else magN (x % 9223372036854775808)
def ordI (x : Nat) : Int := if x / 9223372036854775808 % 2 = 1 then -((x % 9223372036854775808 : Nat) : Int) else (x % 9223372036854775808 : Nat)

theorem mag_mono {r r' : Nat} (h : r < r') : magN r < magN r' := by
  have hd : r / 4503599627370496 ≤ r' / 4503599627370496 := by omega
  unfold magN
  by_cases h0 : r / 4503599627370496 = 0
  · rw [if_pos h0]
    by_cases h1 : r' / 4503599627370496 = 0
    · rw [if_pos h1]; exact h
    · rw [if_neg h1]
      have := Nat.two_pow_pos (r' / 4503599627370496 - 1)
      have h3 : (r' % 4503599627370496 + 4503599627370496) * 1 ≤ (r' % 4503599627370496 + 4503599627370496) * 2 ^ (r' / 4503599627370496 - 1) := Nat.mul_le_mul_left _ this
      omega
  · rw [if_neg h0, if_neg (by omega)]
    have hr := Nat.mod_lt r (show 0 < 4503599627370496 by decide)
    by_cases h2 : r / 4503599627370496 = r' / 4503599627370496
    · rw [h2]
      exact Nat.mul_lt_mul_of_pos_right (by omega) (Nat.two_pow_pos _)
    · have e : 2 ^ (r' / 4503599627370496 - 1) = 2 ^ (r / 4503599627370496 - 1) * 2 * 2 ^ (r' / 4503599627370496 - 1 - r / 4503599627370496) := by
        rw [← Nat.pow_succ, ← Nat.pow_add]; congr 1; omega
      have p1 := Nat.two_pow_pos (r / 4503599627370496 - 1)
      have p2 := Nat.two_pow_pos (r' / 4503599627370496 - 1 - r / 4503599627370496)
      rw [e]
      generalize 2 ^ (r / 4503599627370496 - 1) = u at p1 ⊢
      generalize 2 ^ (r' / 4503599627370496 - 1 - r / 4503599627370496) = v at p2 ⊢
      have s1 : (r % 4503599627370496 + 4503599627370496) * u < 9007199254740992 * u := Nat.mul_lt_mul_of_pos_right (by omega) p1
      have s2 : 4503599627370496 * (u * 2 * v) ≤ (r' % 4503599627370496 + 4503599627370496) * (u * 2 * v) := Nat.mul_le_mul_right _ (by omega)
      have s3 : u * 2 * 1 ≤ u * 2 * v := Nat.mul_le_mul_left _ p2
      omega

theorem mag_inj {r r' : Nat} (h : magN r = magN r') : r = r' := by
  rcases Nat.lt_trichotomy r r' with h1 | h1 | h1
  · have := mag_mono h1; omega
  · exact h1
  · have := mag_mono h1; omega
theorem mag_zero : magN 0 = 0 := by decide
theorem mag_lt_iff {r r' : Nat} : magN r < magN r' ↔ r < r' := by
  constructor
  · intro h
    rcases Nat.lt_trichotomy r r' with h1 | h1 | h1
    · exact h1
    · subst h1; omega
    · have := mag_mono h1; omega
  · exact mag_mono

theorem compare_same {a b a' b' : Int} (h1 : a < b ↔ a' < b') (h2 : a = b ↔ a' = b') : compare a b = compare a' b' := by
  simp only [compare, compareOfLessAndEq, h1, h2]

theorem val_ord (x y : Nat) : compare (valI x) (valI y) = compare (ordI x) (ordI y) := by
  have l1 := @mag_lt_iff (x % 9223372036854775808) (y % 9223372036854775808)
  have l2 := @mag_lt_iff (y % 9223372036854775808) (x % 9223372036854775808)
  have z1 := @mag_lt_iff 0 (x % 9223372036854775808)
  have z2 := @mag_lt_iff 0 (y % 9223372036854775808)
  rw [mag_zero] at z1 z2
  unfold valI ordI
  apply compare_same
  · split <;> split <;> omega
  · split <;> split <;> omega

theorem compare_scale {a b c : Int} (hc : 0 < c) : compare (a * c) (b * c) = compare a b := by
  apply compare_same
  · exact Int.mul_lt_mul_right hc
  · exact ⟨fun h => Int.eq_of_mul_eq_mul_right (by omega) h, fun h => by rw [h]⟩

theorem mag_parts (x : Nat) : magN (x % 9223372036854775808) = mantN x * 2 ^ (expI x + 1074).toNat := by
  unfold magN mantN expI
  by_cases h : x / 4503599627370496 % 2048 = 0
  · rw [if_pos h, if_pos h, if_pos (by omega)]
    simp; omega
  · rw [if_neg h, if_neg h, if_neg (by omega)]
    congr 1
    · omega
    · congr 1; omega

theorem signed_eq (s : Bool) (m k : Nat) : Ieee.signed s m k = (if s then -(m : Int) else m) * 2 ^ k := by
  unfold Ieee.signed
  rw [Nat.shiftLeft_eq]
  have : ((m * 2 ^ k : Nat) : Int) = (m : Int) * 2 ^ k := by rw [Int.natCast_mul, Int.natCast_pow]; rfl
  rw [this]
  cases s <;> simp [Int.neg_mul]

theorem val_num (x : Nat) : valI x = (if (x / 9223372036854775808 % 2 == 1) then -(mantN x : Int) else mantN x) * 2 ^ (expI x + 1074).toNat := by
  unfold valI
  rw [mag_parts]
  have : ((mantN x * 2 ^ (expI x + 1074).toNat : Nat) : Int) = (mantN x : Int) * 2 ^ (expI x + 1074).toNat := by rw [Int.natCast_mul, Int.natCast_pow]; rfl
  rw [this]
  by_cases h : x / 9223372036854775808 % 2 = 1 <;> simp [h, Int.neg_mul]

theorem exp_lo (x : Nat) : -1074 ≤ expI x := by unfold expI; split <;> omega

theorem order_val (x y : Nat) (hx : x % 9223372036854775808 ≤ 9218868437227405312) (hy : y % 9223372036854775808 ≤ 9218868437227405312) :
    Ieee.double.order x y = some (compare (valI x) (valI y)) := by
  have hord : ∀ z : Nat, z % 9223372036854775808 ≤ 9218868437227405312 → (z % 9223372036854775808 = 9218868437227405312 ∧ Ieee.double.read z = .infinity (z / 9223372036854775808 % 2 == 1)) ∨ (z % 9223372036854775808 < 9218868437227405312 ∧ Ieee.double.read z = .number (z / 9223372036854775808 % 2 == 1) (mantN z) (expI z)) := by
    intro z hz
    rcases read_cases z with ⟨h, _⟩ | h | h
    · omega
    · exact .inl h
    · exact .inr h
  show (Ieee.double.read x).order (Ieee.double.read y) = _
  rcases hord x hx with ⟨a1, a2⟩ | ⟨a1, a2⟩ <;> rcases hord y hy with ⟨b1, b2⟩ | ⟨b1, b2⟩ <;> rw [a2, b2]
  · rw [val_ord]
    simp only [Ieee.Datum.order, Option.some.injEq]
    unfold ordI
    rw [a1, b1]
    by_cases h1 : x / 9223372036854775808 % 2 = 1 <;> by_cases h2 : y / 9223372036854775808 % 2 = 1
    · rw [show (x / 9223372036854775808 % 2 == 1) = true by simp [h1], show (y / 9223372036854775808 % 2 == 1) = true by simp [h2], if_pos h1, if_pos h2]; decide
    · rw [show (x / 9223372036854775808 % 2 == 1) = true by simp [h1], show (y / 9223372036854775808 % 2 == 1) = false by simp [h2], if_pos h1, if_neg h2]; decide
    · rw [show (x / 9223372036854775808 % 2 == 1) = false by simp [h1], show (y / 9223372036854775808 % 2 == 1) = true by simp [h2], if_neg h1, if_pos h2]; decide
    · rw [show (x / 9223372036854775808 % 2 == 1) = false by simp [h1], show (y / 9223372036854775808 % 2 == 1) = false by simp [h2], if_neg h1, if_neg h2]; decide
  · rw [val_ord]
    simp only [Ieee.Datum.order, Option.some.injEq]
    unfold ordI
    rw [a1]
    by_cases h1 : x / 9223372036854775808 % 2 = 1
    · simp only [h1, beq_self_eq_true, if_true]
      symm; simp only [compare, compareOfLessAndEq]; rw [if_pos]; split <;> omega
    · simp only [h1, if_false]
      rw [if_neg (by simp [h1])]
      symm; simp only [compare, compareOfLessAndEq]; rw [if_neg (by split <;> omega), if_neg (by split <;> omega)]
  · rw [val_ord]
    simp only [Ieee.Datum.order, Option.some.injEq]
    unfold ordI
    rw [b1]
    by_cases h1 : y / 9223372036854775808 % 2 = 1
    · simp only [h1, beq_self_eq_true, if_true]
      symm; simp only [compare, compareOfLessAndEq]; rw [if_neg (by split <;> omega), if_neg (by split <;> omega)]
    · simp only [h1, if_false]
      rw [if_neg (by simp [h1])]
      symm; simp only [compare, compareOfLessAndEq]; rw [if_pos]; split <;> omega
  · simp only [Ieee.Datum.order, Option.some.injEq]
    have ex := exp_lo x
    have ey := exp_lo y
    rw [signed_eq, signed_eq, val_num, val_num]
    have hb : -1074 ≤ min (expI x) (expI y) := by omega
    have e1 : (expI x + 1074).toNat = (expI x - min (expI x) (expI y)).toNat + (min (expI x) (expI y) + 1074).toNat := by omega
    have e2 : (expI y + 1074).toNat = (expI y - min (expI x) (expI y)).toNat + (min (expI x) (expI y) + 1074).toNat := by omega
    rw [e1, e2, pow_add_int, pow_add_int, ← Int.mul_assoc, ← Int.mul_assoc, compare_scale (pow_pos' _)]
end Go.Proofs.YtmepgpiihhilaaaDoor
