/- Sums and products of words: what they come to, with no program in sight. -/
import Derived.Test.YtmepgpiihhilaaaDoorExact
namespace Go.Proofs.YtmepgpiihhilaaaDoor
open Go.RowKit

theorem cut_even_div (s : Bool) (n : Nat) {d : Nat} (h : n % 2 ^ d = 0) : Ieee.Toward.cut .even s n d = n / 2 ^ d := by
  unfold Ieee.Toward.cut
  simp only [Nat.one_shiftLeft]
  by_cases hd : d ≤ n.log2 + 2
  · rw [Nat.min_eq_left hd, h]
    have p := Nat.two_pow_pos d
    have e1 : decide (2 ^ d < 2 * 0) = false := decide_eq_false (by omega)
    have e2 : (2 ^ d == 2 * 0) = false := by rw [beq_eq_false_iff_ne]; omega
    rw [e1, e2]; rfl
  · rw [Nat.min_eq_right (by omega)]
    have h1 : n < 2 ^ (n.log2 + 1) := Nat.lt_log2_self
    have h2 := Nat.pow_le_pow_right (show 0 < 2 by decide) (show n.log2 + 1 ≤ n.log2 + 2 by omega)
    have h3 := Nat.pow_le_pow_right (show 0 < 2 by decide) (show n.log2 + 1 ≤ d by omega)
    rw [Nat.mod_eq_of_lt (by omega)] at h
    subst h
    simp

theorem log2_mul_pow {c : Nat} (h : c ≠ 0) : ∀ k : Nat, (c * 2 ^ k).log2 = c.log2 + k
  | 0 => by simp
  | k + 1 => by
    have e : c * 2 ^ (k + 1) = 2 * (c * 2 ^ k) := by rw [Nat.pow_succ]; ac_rfl
    rw [e, Nat.log2_two_mul (Nat.mul_ne_zero h (Nat.ne_of_gt (Nat.two_pow_pos _))), log2_mul_pow h k]; rfl

/-- The nearest word of a number that the words have, however it is put. -/
theorem nearest_scaled (s : Bool) (c k : Nat) (p : Int) (hc : c < 9007199254740992) (hp : -1074 ≤ p + k) :
    Ieee.double.nearest s (c * 2 ^ k) p = Ieee.double.nearest s c (p + k) := by
  by_cases h0 : c = 0
  · subst h0; simp [Ieee.Format.nearest]
  · have hpos : c * 2 ^ k ≠ 0 := Nat.mul_ne_zero h0 (Nat.ne_of_gt (Nat.two_pow_pos _))
    have hlog : (c * 2 ^ k).log2 = c.log2 + k := log2_mul_pow h0 k
    have hl : c.log2 < 53 := (Nat.log2_lt h0).2 (by omega)
    have hf : (Ieee.double.fractionBits : Int) = 52 := rfl
    unfold Ieee.Format.nearest
    rw [if_neg hpos, if_neg h0]
    simp only [dbl_least, dbl_binade, dbl_inf, hf, hlog]
    have e : p + ((c.log2 + k : Nat) : Int) - 52 = p + k + (c.log2 : Int) - 52 := by omega
    rw [e]
    have hlast : max (p + k + (c.log2 : Int) - 52) (-1074) ≤ p + k := by omega
    generalize max (p + k + (c.log2 : Int) - 52) (-1074) = last at hlast ⊢
    have ek : Ieee.Toward.cut .even s ((c * 2 ^ k) <<< (p - last).toNat) (last - p).toNat = Ieee.Toward.cut .even s (c <<< (p + k - last).toNat) (last - (p + k)).toNat := by
      have z : (last - (p + k)).toNat = 0 := by omega
      rw [z, cut_even_none, Nat.shiftLeft_eq, Nat.shiftLeft_eq]
      by_cases hpl : last ≤ p
      · have z2 : (last - p).toNat = 0 := by omega
        rw [z2, cut_even_none, Nat.mul_assoc, ← Nat.pow_add]
        congr 2; omega
      · have z2 : (p - last).toNat = 0 := by omega
        have hk : k = (p + k - last).toNat + (last - p).toNat := by omega
        have hd : c * 2 ^ k = c * 2 ^ (p + k - last).toNat * 2 ^ (last - p).toNat := by
          rw [Nat.mul_assoc, ← Nat.pow_add]; congr 2
        rw [z2, Nat.pow_zero, Nat.mul_one, cut_even_div _ _ (by rw [hd]; exact Nat.mul_mod_left _ _), hd]
        exact Nat.mul_div_cancel _ (Nat.two_pow_pos _)
    rw [ek]

theorem Is.read {x : Nat} {neg : Bool} {c : Nat} (h : Is x neg c) : Ieee.double.read x = .number neg (mantN x) (expI x) := by
  rw [read_inside h.inside]
  have hs := h.sign
  congr 1
  cases neg
  · rw [beq_eq_false_iff_ne]; exact fun e => absurd (hs.1 e) (by decide)
  · rw [beq_iff_eq]; exact hs.2 rfl

theorem Is.parts {x : Nat} {neg : Bool} {c : Nat} (h : Is x neg c) (hc : c < 9007199254740992) : expI x ≤ 0 ∧ mantN x = c * 2 ^ (-expI x).toNat := by
  have lo := exp_lo x
  have hk := kk_eq
  have hm := h.mag
  rw [mag_parts] at hm
  have he : expI x ≤ 0 := by
    rcases inside_exp h.inside with h1 | ⟨h1, h2⟩
    · exact h1
    · exfalso
      have hc2 := h.cut
      unfold cutN at hc2
      rw [h1, h2] at hc2
      have : 4503599627370496 * 2 ^ (1 : Int).toNat / 2 ^ (-1 : Int).toNat = 9007199254740992 := by decide
      omega
  refine ⟨he, ?_⟩
  have e1 : kk = (-expI x).toNat + (expI x + 1074).toNat := by omega
  rw [e1, Nat.pow_add, ← Nat.mul_assoc] at hm
  exact Nat.eq_of_mul_eq_mul_right (Nat.two_pow_pos _) hm

theorem canon_is {x : Nat} {neg : Bool} {c : Nat} (h : Is x neg c) : canon (x : Nat) = (x : Nat) := by
  unfold canon; rw [h.not_nan]; rfl

theorem mul_word {x y : Nat} {s t : Bool} {c d : Nat} (h : Is x s c) (k : Is y t d) (hc : c < 9007199254740992) (hd : d < 9007199254740992) (hcd : c * d < 9007199254740992) :
    floatBits .mul .f64 x y = some (wordN (s ^^ t) (c * d)) := by
  obtain ⟨ex, mx⟩ := h.parts hc
  obtain ⟨ey, my⟩ := k.parts hd
  have lx := exp_lo x
  have ly := exp_lo y
  show ((Ieee.double.read x).product (Ieee.double.read y)).map Ieee.double.write = _
  rw [h.read, k.read]
  show some (Ieee.double.nearest (s ^^ t) (mantN x * mantN y) (expI x + expI y)) = _
  rw [mx, my]
  have e : c * 2 ^ (-expI x).toNat * (d * 2 ^ (-expI y).toNat) = c * d * 2 ^ ((-expI x).toNat + (-expI y).toNat) := by
    rw [Nat.pow_add]; ac_rfl
  rw [e]
  rw [nearest_scaled _ _ _ _ hcd (by omega)]
  unfold wordN
  congr 2; omega

theorem signed_scaled (s : Bool) (c i j : Nat) : Ieee.signed s (c * 2 ^ i) j = (if s then -(c : Int) else c) * 2 ^ (i + j) := by
  rw [signed_eq]
  have : ((c * 2 ^ i : Nat) : Int) = (c : Int) * 2 ^ i := by rw [Int.natCast_mul, Int.natCast_pow]; rfl
  rw [this, pow_add_int]
  cases s
  · simp only [Bool.false_eq_true, if_false]; rw [Int.mul_assoc]
  · simp only [if_true]; rw [← Int.neg_mul, Int.mul_assoc]

def sgnI (s : Bool) (c : Nat) : Int := if s then -(c : Int) else c

theorem sum_word {x y : Nat} {s t : Bool} {c d : Nat} (h : Is x s c) (k : Is y t d) (hc : c < 9007199254740992) (hd : d < 9007199254740992) (hcd : c + d < 9007199254740992) :
    ((Ieee.double.read x).sum (Ieee.double.read y)).map Ieee.double.write = some (wordN (if sgnI s c + sgnI t d = 0 then s && t else decide (sgnI s c + sgnI t d < 0)) (sgnI s c + sgnI t d).natAbs) := by
  obtain ⟨ex, mx⟩ := h.parts hc
  obtain ⟨ey, my⟩ := k.parts hd
  rw [h.read, k.read]
  simp only [Ieee.Datum.sum, Option.map_some, Ieee.Format.write]
  rw [mx, my, signed_scaled, signed_scaled]
  have hb : min (expI x) (expI y) ≤ 0 := by omega
  have e1 : (-expI x).toNat + (expI x - min (expI x) (expI y)).toNat = (-min (expI x) (expI y)).toNat := by omega
  have e2 : (-expI y).toNat + (expI y - min (expI x) (expI y)).toNat = (-min (expI x) (expI y)).toNat := by omega
  rw [e1, e2, ← Int.add_mul]
  show some (Ieee.double.nearest _ _ _) = _
  generalize hT : (if s = true then -(c : Int) else c) + (if t = true then -(d : Int) else d) = T
  have hT2 : sgnI s c + sgnI t d = T := hT
  rw [hT2]
  have hTb : T.natAbs < 9007199254740992 := by
    rw [← hT]
    split <;> split <;> omega
  generalize hB : min (expI x) (expI y) = B at hb ⊢
  have p := pow_pos' (-B).toNat
  have z0 : T * 2 ^ (-B).toNat = 0 ↔ T = 0 := by
    constructor
    · intro h; rcases Int.mul_eq_zero.1 h with h | h
      · exact h
      · omega
    · intro h; rw [h, Int.zero_mul]
  have zn : T * 2 ^ (-B).toNat < 0 ↔ T < 0 := by
    constructor
    · intro h
      by_cases h1 : T < 0
      · exact h1
      · have := Int.mul_nonneg (show 0 ≤ T by omega) (Int.le_of_lt p); omega
    · intro h; exact Int.mul_neg_of_neg_of_pos h p
  have za : (T * 2 ^ (-B).toNat).natAbs = T.natAbs * 2 ^ (-B).toNat := by
    have e : ((2 ^ (-B).toNat : Nat) : Int) = (2 : Int) ^ (-B).toNat := by rw [Int.natCast_pow]; rfl
    rw [Int.natAbs_mul, ← e, Int.natAbs_natCast]
  rw [za, nearest_scaled _ _ _ _ hTb (by omega)]
  have e3 : B + ((-B).toNat : Int) = 0 := by omega
  rw [e3]
  unfold wordN
  congr 2
  by_cases hz : T = 0
  · rw [if_pos (z0.2 hz), if_pos hz]
  · rw [if_neg (fun e => hz (z0.1 e)), if_neg hz, decide_eq_decide]; exact zn

theorem parts_low {x y : Nat} (h : x % 9223372036854775808 = y % 9223372036854775808) : mantN x = mantN y ∧ expI x = expI y := by
  have e1 : x / 4503599627370496 % 2048 = y / 4503599627370496 % 2048 := by omega
  have e2 : x % 4503599627370496 = y % 4503599627370496 := by omega
  unfold mantN expI
  rw [e1, e2]; exact ⟨rfl, rfl⟩

theorem Is.flip {y : Nat} {t : Bool} {d : Nat} (h : Is y t d) (hd : d ≤ 9007199254740992) : (Ieee.double.read y).opposite = Ieee.double.read (wordN (!t) d) := by
  have k := is_word (!t) hd
  have e := parts_low (mag_inj (h.mag.trans k.mag.symm))
  rw [h.read, k.read, e.1, e.2]; rfl

theorem Is.val {x : Nat} {s : Bool} {c : Nat} (h : Is x s c) : valI x = sgnI s c * 2 ^ kk := by
  have hp : ((c * 2 ^ kk : Nat) : Int) = (c : Int) * 2 ^ kk := by rw [Int.natCast_mul, Int.natCast_pow]; rfl
  unfold valI
  rw [h.mag, hp]
  have hs := h.sign
  cases s
  · rw [if_neg (fun e => absurd (hs.1 e) (by decide))]; rfl
  · rw [if_pos (hs.2 rfl), ← Int.neg_mul]; rfl

theorem opposite_read {x : Nat} {s : Bool} {c : Nat} (h : Is x s c) : (Ieee.double.read x).opposite = .number (!s) (mantN x) (expI x) := by
  rw [h.read]; rfl
end Go.Proofs.YtmepgpiihhilaaaDoor
