/- Plain words for numbers as bits: what each function of the program and of the document's answer comes to, with no program in sight. -/
import Derived.Test.YtcpjggcpimghjaaUPlain
import Derived.Laws.FloatArith
import Derived.Laws.BitsAllLaws
import Derived.IntWalk
import Derived.RowKit
import Derived.Below
namespace Go.Proofs.Ytcpjggcpimghjaa
open Go.RowKit

def nanB (b : Int) : Bool := decide (9218868437227405312 < b % 9223372036854775808)
def infB (b : Int) : Bool := b % 9223372036854775808 == 9218868437227405312
def zerB (b : Int) : Bool := b % 9223372036854775808 == 0
def noneB : Int := 9221120237041090561
def canon (b : Int) : Int := if nanB b then noneB else b
def signB (b : Int) : Int := b / 9223372036854775808

theorem andNot_sign {b : Int} (h0 : 0 ≤ b) (h1 : b < 18446744073709551616) : bits .andNot .u64 b 9223372036854775808 = b % 9223372036854775808 := by
  rw [u64_andNot b 9223372036854775808 h0 h1 (by decide) (by decide)]
  have e : (18446744073709551615 - (9223372036854775808 : Int).toNat : Nat) = 2 ^ 63 - 1 := by decide
  rw [e, Nat.and_two_pow_sub_one_eq_mod]
  omega

theorem and_low63 {b : Int} (h0 : 0 ≤ b) (h1 : b < 18446744073709551616) : bits .and .u64 b 9223372036854775807 = b % 9223372036854775808 := by
  rw [u64_and b 9223372036854775807 h0 h1 (by decide) (by decide)]
  have e : ((9223372036854775807 : Int).toNat : Nat) = 2 ^ 63 - 1 := by decide
  rw [e, Nat.and_two_pow_sub_one_eq_mod]
  omega


/- The operations on numbers. -/
def fres (op : BinOp) (x y : Nat) (w : World) : Nat := (floatBits op .f64 x y).getD (Question.cut (.nanBits .f64 x y) (w.tape w.drawn (.nanBits .f64 x y)))
def fwld (op : BinOp) (x y : Nat) (w : World) : World := if (floatBits op .f64 x y).isSome then w else w.drew
def fop (op : BinOp) (a b : Int) : Int := match floatBits op .f64 a.toNat b.toNat with | some r => canon r | none => noneB

theorem nan_cut (x y t : Nat) : nanB (Question.cut (.nanBits .f64 x y) t : Nat) = true := by
  unfold nanB
  apply decide_eq_true
  simp only [Question.cut]
  have h2 := Nat.mod_lt (t / 2) (show 0 < 2 ^ 52 - 1 by decide)
  generalize t / 2 % (2 ^ 52 - 1) = u at h2 ⊢
  omega

theorem canon_fres (op : BinOp) (a b : Int) (w : World) : canon (fres op a.toNat b.toNat w : Nat) = fop op a b := by
  unfold fres fop
  cases h : floatBits op .f64 a.toNat b.toNat with
  | some r => rfl
  | none => simp only [Option.getD_none, canon, nan_cut, if_true]

theorem fwld_below (op : BinOp) (x y : Nat) (w : World) : Below w.heap.size w (fwld op x y w) := by
  unfold fwld; split
  · exact Below.refl _ _
  · exact (Below.refl _ _).drew

theorem run_float {P : Program} (op : BinOp) (hop : op = .add ∨ op = .sub ∨ op = .mul ∨ op = .quo) (t : TypeId) (x y : Nat) (w : World) :
    (binOp op t (.float .f64 x) (.float .f64 y)).run P w = .ok (.float .f64 (fres op x y w)) (fwld op x y w) := by
  unfold fres fwld
  cases h : floatBits op .f64 x y with
  | some r => simp only [Option.isSome_some, if_true, Option.getD_some]; exact run_float_arith w op t .f64 x y r h
  | none =>
    unfold floatBits at h
    rcases hop with rfl | rfl | rfl | rfl <;> simp only at h <;> simp [binOp, Op.floatArith, h, Question.forced] <;> rfl

theorem fres_lt (op : BinOp) (x y : Nat) (w : World) : fres op x y w < 18446744073709551616 := by
  unfold fres
  cases h : floatBits op .f64 x y with
  | some r =>
    have := floatBits_wf h
    simpa [Lit.wf] using this
  | none =>
    simp only [Option.getD_none, Question.cut]
    have := Nat.mod_lt (w.tape w.drawn (.nanBits .f64 x y)) (show 0 < 2 by decide)
    have := Nat.mod_lt (w.tape w.drawn (.nanBits .f64 x y) / 2) (show 0 < 2 ^ 52 - 1 by decide)
    omega

theorem canon_lt {b : Int} (h1 : b < 18446744073709551616) : canon b < 18446744073709551616 := by unfold canon noneB; split <;> omega
theorem canon_nonneg {b : Int} (h1 : 0 ≤ b) : 0 ≤ canon b := by unfold canon noneB; split <;> omega
theorem fop_nonneg (op : BinOp) (a b : Int) : 0 ≤ fop op a b := by
  unfold fop; split
  · exact canon_nonneg (by omega)
  · unfold noneB; omega
theorem fop_lt (op : BinOp) (a b : Int) : fop op a b < 18446744073709551616 := by
  unfold fop; split
  · rename_i r h
    have := floatBits_wf h
    have h2 : r < 18446744073709551616 := by simpa [Lit.wf] using this
    exact canon_lt (by omega)
  · unfold noneB; omega

/- What a word stands for. -/
def mantN (x : Nat) : Nat := if x / 4503599627370496 % 2048 = 0 then x % 4503599627370496 else x % 4503599627370496 + 4503599627370496
def expI (x : Nat) : Int := if x / 4503599627370496 % 2048 = 0 then -1074 else ((x / 4503599627370496 % 2048 : Nat) : Int) - 1075

theorem dbl_sign : Ieee.double.signWeight = 9223372036854775808 := by decide
theorem dbl_binade : Ieee.double.binade = 4503599627370496 := by decide
theorem dbl_inf : Ieee.double.infRung = 9218868437227405312 := by decide
theorem dbl_least : Ieee.double.leastPlace = -1074 := by decide

theorem read_cases (x : Nat) :
    (9218868437227405312 < x % 9223372036854775808 ∧ Ieee.double.read x = .nan (x / 9223372036854775808 % 2 == 1) (x % 9223372036854775808 - 9218868437227405312)) ∨
    (x % 9223372036854775808 = 9218868437227405312 ∧ Ieee.double.read x = .infinity (x / 9223372036854775808 % 2 == 1)) ∨
    (x % 9223372036854775808 < 9218868437227405312 ∧ Ieee.double.read x = .number (x / 9223372036854775808 % 2 == 1) (mantN x) (expI x)) := by
  unfold Ieee.Format.read mantN expI
  simp only [dbl_sign, dbl_binade, dbl_inf, dbl_least]
  by_cases h1 : x % 9223372036854775808 < 4503599627370496
  · right; right
    rw [if_pos h1, if_pos (by omega), if_pos (by omega)]
    refine ⟨by omega, ?_⟩
    congr 1
    omega
  · rw [if_neg h1]
    by_cases h2 : x % 9223372036854775808 < 9218868437227405312
    · right; right
      rw [if_pos h2, if_neg (by omega), if_neg (by omega)]
      refine ⟨h2, ?_⟩
      congr 1
      · omega
      · omega
    · rw [if_neg h2]
      by_cases h3 : x % 9223372036854775808 = 9218868437227405312
      · right; left
        rw [if_pos h3]; exact ⟨h3, rfl⟩
      · left
        rw [if_neg h3]; exact ⟨by omega, rfl⟩

theorem nanB_nat (x : Nat) : nanB x = decide (9218868437227405312 < x % 9223372036854775808) := by
  unfold nanB
  rw [decide_eq_decide]; omega

theorem order_self (x : Nat) : (FloatKind.f64.format.order x x != some Ordering.eq) = nanB x := by
  rw [nanB_nat]
  show (Ieee.Datum.order (Ieee.double.read x) (Ieee.double.read x) != some Ordering.eq) = _
  rcases read_cases x with ⟨h, hr⟩ | ⟨h, hr⟩ | ⟨h, hr⟩ <;> rw [hr]
  · simp [Ieee.Datum.order, h]
  · have : ¬ 9218868437227405312 < x % 9223372036854775808 := by omega
    simp [Ieee.Datum.order, this]
  · have : ¬ 9218868437227405312 < x % 9223372036854775808 := by omega
    simp [Ieee.Datum.order, this]

def ofI (n : Int) : Int := (floatOfInt .f64 n : Nat)

theorem nearest_low (neg : Bool) (m : Nat) (p : Int) : Ieee.double.nearest neg m p % 9223372036854775808 ≤ 9218868437227405312 := by
  have hw : ∀ r, r ≤ 9218868437227405312 → Ieee.double.word neg r % 9223372036854775808 ≤ 9218868437227405312 := by
    intro r hr
    unfold Ieee.Format.word; rw [dbl_sign]
    split <;> omega
  unfold Ieee.Format.nearest
  dsimp only
  split
  · exact hw 0 (by omega)
  · refine hw _ ?_
    rw [dbl_inf]; exact Nat.min_le_right _ _

theorem canon_of (n : Int) : canon (ofI n) = ofI n := by
  unfold canon ofI
  rw [nanB_nat, if_neg]
  have := nearest_low (n < 0) n.natAbs 0
  simp only [decide_eq_true_eq]
  show ¬ (_ < Ieee.double.nearest (n < 0) n.natAbs 0 % _)
  omega
theorem ofI_nonneg (n : Int) : 0 ≤ ofI n := by unfold ofI; omega
theorem ofI_lt (n : Int) : ofI n < 18446744073709551616 := by
  have := floatOfInt_wf .f64 n
  have h2 : floatOfInt .f64 n < 18446744073709551616 := by simpa [Lit.wf] using this
  unfold ofI; omega

def negI (a : Int) : Int := if nanB a then noneB else if a < 9223372036854775808 then a + 9223372036854775808 else a - 9223372036854775808
theorem negI_nonneg {a : Int} (h0 : 0 ≤ a) : 0 ≤ negI a := by unfold negI noneB; split <;> (try split) <;> omega
theorem negI_lt {a : Int} (h1 : a < 18446744073709551616) : negI a < 18446744073709551616 := by unfold negI noneB; split <;> (try split) <;> omega

theorem xor_sign {b : Int} (h0 : 0 ≤ b) (h1 : b < 18446744073709551616) : bits .xor .u64 b 9223372036854775808 = if b < 9223372036854775808 then b + 9223372036854775808 else b - 9223372036854775808 := by
  rw [u64_xor b 9223372036854775808 h0 h1 (by decide) (by decide)]
  have e : ((9223372036854775808 : Int).toNat : Nat) = 2 ^ 63 := by decide
  rw [e]
  have key : ∀ x : Nat, x < 2 ^ 64 → x ^^^ 2 ^ 63 = if x < 2 ^ 63 then x + 2 ^ 63 else x - 2 ^ 63 := by
    have low : ∀ y : Nat, y < 2 ^ 63 → y ^^^ 2 ^ 63 = y + 2 ^ 63 := by
      intro y hy
      have hor := Nat.two_pow_add_eq_or_of_lt hy 1
      rw [Nat.mul_one] at hor
      rw [Nat.add_comm, hor]
      apply Nat.eq_of_testBit_eq
      intro i
      rw [Nat.testBit_xor, Nat.testBit_or, Nat.testBit_two_pow]
      by_cases hi : 63 = i
      · subst hi
        rw [Nat.testBit_lt_two_pow hy]; rfl
      · simp [hi]
    intro x hx
    split
    · rename_i h; exact low x h
    · rename_i h
      have h2 := low (x - 2 ^ 63) (by omega)
      rw [Nat.sub_add_cancel (by omega)] at h2
      have h3 : x ^^^ 2 ^ 63 = (x - 2 ^ 63 ^^^ 2 ^ 63) ^^^ 2 ^ 63 := by rw [h2]
      rw [h3, Nat.xor_assoc, Nat.xor_self, Nat.xor_zero]
  have := key b.toNat (by omega)
  rw [this]
  split <;> split <;> omega
end Go.Proofs.Ytcpjggcpimghjaa
