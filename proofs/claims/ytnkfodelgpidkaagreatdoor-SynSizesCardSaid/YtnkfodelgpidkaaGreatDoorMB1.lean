/- Plain words for numbers as bits: what each function of the program and of the document's answer comes to, with no program in sight. The smallest functions of the program and of the document's answer: what each call comes to. The parts of a number, and what is made of them. What is left of a division, by the program: to the last bit. A number cut down to 32 bits, by the program. What words stand for, compared and written: exactly, with no program in sight. Whether a number is whole, by the program. Sixteen digits for a number's bits, by the program. A number as a text, by the program. -/
import Derived.Laws.FloatArith
import Derived.Laws.BitsAllLaws
import Derived.IntWalk
import Derived.RowKit
import Derived.Below
import Derived.Test.YtnkfodelgpidkaaGreatDoorRows
import Derived.WalkKit
import Derived.WalkSpells
import Derived.WalkLawsBesides
import Derived.Handy
import Derived.Lib.Hide
import Derived.Laws.Externs
import Derived.Test.YtnkfodelgpidkaaGreatDoorSh
namespace Go.Proofs.YtnkfodelgpidkaaGreatDoor.Bt
open Go.RowKit

def nanB (b : Int) : Bool := decide (9218868437227405312 < b % 9223372036854775808)
def infB (b : Int) : Bool := b % 9223372036854775808 == 9218868437227405312
def zerB (b : Int) : Bool := b % 9223372036854775808 == 0
def noneB : Int := 9221120237041090561
def canon (b : Int) : Int := if nanB b then noneB else b
def signB (b : Int) : Int := b / 9223372036854775808

theorem andNot_sign {b : Int} (h0 : 0 ≤ b) (h1 : b < 18446744073709551616) : bits .andNot .u64 b 9223372036854775808 = b % 9223372036854775808 := by
  rw [u64_andNot b 9223372036854775808 h0 h1 (by decide) (by decide)]
  have e : (18446744073709551615 - (9223372036854775808 : Int).toNat : Nat) = 2 ^ 63 - 1 := by decide
  rw [e, Nat.and_two_pow_sub_one_eq_mod]
  omega

theorem and_low63 {b : Int} (h0 : 0 ≤ b) (h1 : b < 18446744073709551616) : bits .and .u64 b 9223372036854775807 = b % 9223372036854775808 := by
  rw [u64_and b 9223372036854775807 h0 h1 (by decide) (by decide)]
  have e : ((9223372036854775807 : Int).toNat : Nat) = 2 ^ 63 - 1 := by decide
  rw [e, Nat.and_two_pow_sub_one_eq_mod]
  omega

theorem ret_int {k : IntKind} {a b : Int} (h : a = b) : Ending.returned (.int k a) = .returned (.int k b) := by rw [h]
theorem ret_bool {a b : Bool} (h : a = b) : Ending.returned (.bool a) = .returned (.bool b) := by rw [h]

/- The operations on numbers. -/
def fres (op : BinOp) (x y : Nat) (w : World) : Nat := (floatBits op .f64 x y).getD (Question.cut (.nanBits .f64 x y) (w.tape w.drawn (.nanBits .f64 x y)))
def fwld (op : BinOp) (x y : Nat) (w : World) : World := if (floatBits op .f64 x y).isSome then w else w.drew
def fop (op : BinOp) (a b : Int) : Int := match floatBits op .f64 a.toNat b.toNat with | some r => canon r | none => noneB

theorem nan_cut (x y t : Nat) : nanB (Question.cut (.nanBits .f64 x y) t : Nat) = true := by
  unfold nanB
  apply decide_eq_true
  simp only [Question.cut]
  have h2 := Nat.mod_lt (t / 2) (show 0 < 2 ^ 52 - 1 by decide)
  generalize t / 2 % (2 ^ 52 - 1) = u at h2 ⊢
  omega

theorem canon_fres (op : BinOp) (a b : Int) (w : World) : canon (fres op a.toNat b.toNat w : Nat) = fop op a b := by
  unfold fres fop
  cases h : floatBits op .f64 a.toNat b.toNat with
  | some r => rfl
  | none => simp only [Option.getD_none, canon, nan_cut, if_true]

theorem fwld_below (op : BinOp) (x y : Nat) (w : World) : Below w.heap.size w (fwld op x y w) := by
  unfold fwld; split
  · exact Below.refl _ _
  · exact (Below.refl _ _).drew

theorem run_float {P : Program} (op : BinOp) (hop : op = .add ∨ op = .sub ∨ op = .mul ∨ op = .quo) (t : TypeId) (x y : Nat) (w : World) :
    (binOp op t (.float .f64 x) (.float .f64 y)).run P w = .ok (.float .f64 (fres op x y w)) (fwld op x y w) := by
  unfold fres fwld
  cases h : floatBits op .f64 x y with
  | some r => simp only [Option.isSome_some, if_true, Option.getD_some]; exact run_float_arith w op t .f64 x y r h
  | none =>
    unfold floatBits at h
    rcases hop with rfl | rfl | rfl | rfl <;> simp only at h <;> simp [binOp, Op.floatArith, h, Question.forced] <;> rfl

theorem fres_lt (op : BinOp) (x y : Nat) (w : World) : fres op x y w < 18446744073709551616 := by
  unfold fres
  cases h : floatBits op .f64 x y with
  | some r =>
    have := floatBits_wf h
    simpa [Lit.wf] using this
  | none =>
    simp only [Option.getD_none, Question.cut]
    have := Nat.mod_lt (w.tape w.drawn (.nanBits .f64 x y)) (show 0 < 2 by decide)
    have := Nat.mod_lt (w.tape w.drawn (.nanBits .f64 x y) / 2) (show 0 < 2 ^ 52 - 1 by decide)
    omega

theorem canon_lt {b : Int} (h1 : b < 18446744073709551616) : canon b < 18446744073709551616 := by unfold canon noneB; split <;> omega
theorem canon_nonneg {b : Int} (h1 : 0 ≤ b) : 0 ≤ canon b := by unfold canon noneB; split <;> omega
theorem fop_nonneg (op : BinOp) (a b : Int) : 0 ≤ fop op a b := by
  unfold fop; split
  · exact canon_nonneg (by omega)
  · unfold noneB; omega
theorem fop_lt (op : BinOp) (a b : Int) : fop op a b < 18446744073709551616 := by
  unfold fop; split
  · rename_i r h
    have := floatBits_wf h
    have h2 : r < 18446744073709551616 := by simpa [Lit.wf] using this
    exact canon_lt (by omega)
  · unfold noneB; omega

/- What a word stands for. -/
def mantN (x : Nat) : Nat := if x / 4503599627370496 % 2048 = 0 then x % 4503599627370496 else x % 4503599627370496 + 4503599627370496
def expI (x : Nat) : Int := if x / 4503599627370496 % 2048 = 0 then -1074 else ((x / 4503599627370496 % 2048 : Nat) : Int) - 1075

theorem dbl_sign : Ieee.double.signWeight = 9223372036854775808 := by decide
theorem dbl_binade : Ieee.double.binade = 4503599627370496 := by decide
theorem dbl_inf : Ieee.double.infRung = 9218868437227405312 := by decide
theorem dbl_least : Ieee.double.leastPlace = -1074 := by decide

theorem read_cases (x : Nat) :
    (9218868437227405312 < x % 9223372036854775808 ∧ Ieee.double.read x = .nan (x / 9223372036854775808 % 2 == 1) (x % 9223372036854775808 - 9218868437227405312)) ∨
    (x % 9223372036854775808 = 9218868437227405312 ∧ Ieee.double.read x = .infinity (x / 9223372036854775808 % 2 == 1)) ∨
    (x % 9223372036854775808 < 9218868437227405312 ∧ Ieee.double.read x = .number (x / 9223372036854775808 % 2 == 1) (mantN x) (expI x)) := by
  unfold Ieee.Format.read mantN expI
  simp only [dbl_sign, dbl_binade, dbl_inf, dbl_least]
  by_cases h1 : x % 9223372036854775808 < 4503599627370496
  · right; right
    rw [if_pos h1, if_pos (by omega), if_pos (by omega)]
    refine ⟨by omega, ?_⟩
    congr 1
    omega
  · rw [if_neg h1]
    by_cases h2 : x % 9223372036854775808 < 9218868437227405312
    · right; right
      rw [if_pos h2, if_neg (by omega), if_neg (by omega)]
      refine ⟨h2, ?_⟩
      congr 1
      · omega
      · omega
    · rw [if_neg h2]
      by_cases h3 : x % 9223372036854775808 = 9218868437227405312
      · right; left
        rw [if_pos h3]; exact ⟨h3, rfl⟩
      · left
        rw [if_neg h3]; exact ⟨by omega, rfl⟩

theorem nanB_nat (x : Nat) : nanB x = decide (9218868437227405312 < x % 9223372036854775808) := by
  unfold nanB
  rw [decide_eq_decide]; omega

theorem order_self (x : Nat) : (FloatKind.f64.format.order x x != some Ordering.eq) = nanB x := by
  rw [nanB_nat]
  show (Ieee.Datum.order (Ieee.double.read x) (Ieee.double.read x) != some Ordering.eq) = _
  rcases read_cases x with ⟨h, hr⟩ | ⟨h, hr⟩ | ⟨h, hr⟩ <;> rw [hr]
  · simp [Ieee.Datum.order, h]
  · have : ¬ 9218868437227405312 < x % 9223372036854775808 := by omega
    simp [Ieee.Datum.order, this]
  · have : ¬ 9218868437227405312 < x % 9223372036854775808 := by omega
    simp [Ieee.Datum.order, this]

def ofI (n : Int) : Int := (floatOfInt .f64 n : Nat)

theorem nearest_low (neg : Bool) (m : Nat) (p : Int) : Ieee.double.nearest neg m p % 9223372036854775808 ≤ 9218868437227405312 := by
  have hw : ∀ r, r ≤ 9218868437227405312 → Ieee.double.word neg r % 9223372036854775808 ≤ 9218868437227405312 := by
    intro r hr
    unfold Ieee.Format.word; rw [dbl_sign]
    split <;> omega
  unfold Ieee.Format.nearest
  dsimp only
  split
  · exact hw 0 (by omega)
  · refine hw _ ?_
    rw [dbl_inf]; exact Nat.min_le_right _ _

theorem canon_of (n : Int) : canon (ofI n) = ofI n := by
  unfold canon ofI
  rw [nanB_nat, if_neg]
  have := nearest_low (n < 0) n.natAbs 0
  simp only [decide_eq_true_eq]
  show ¬ (_ < Ieee.double.nearest (n < 0) n.natAbs 0 % _)
  omega
theorem ofI_nonneg (n : Int) : 0 ≤ ofI n := by unfold ofI; omega
theorem ofI_lt (n : Int) : ofI n < 18446744073709551616 := by
  have := floatOfInt_wf .f64 n
  have h2 : floatOfInt .f64 n < 18446744073709551616 := by simpa [Lit.wf] using this
  unfold ofI; omega

def negI (a : Int) : Int := if nanB a then noneB else if a < 9223372036854775808 then a + 9223372036854775808 else a - 9223372036854775808
theorem negI_nonneg {a : Int} (h0 : 0 ≤ a) : 0 ≤ negI a := by unfold negI noneB; split <;> (try split) <;> omega
theorem negI_lt {a : Int} (h1 : a < 18446744073709551616) : negI a < 18446744073709551616 := by unfold negI noneB; split <;> (try split) <;> omega

theorem xor_sign {b : Int} (h0 : 0 ≤ b) (h1 : b < 18446744073709551616) : bits .xor .u64 b 9223372036854775808 = if b < 9223372036854775808 then b + 9223372036854775808 else b - 9223372036854775808 := by
  rw [u64_xor b 9223372036854775808 h0 h1 (by decide) (by decide)]
  have e : ((9223372036854775808 : Int).toNat : Nat) = 2 ^ 63 := by decide
  rw [e]
  have key : ∀ x : Nat, x < 2 ^ 64 → x ^^^ 2 ^ 63 = if x < 2 ^ 63 then x + 2 ^ 63 else x - 2 ^ 63 := by
    have low : ∀ y : Nat, y < 2 ^ 63 → y ^^^ 2 ^ 63 = y + 2 ^ 63 := by
      intro y hy
      have hor := Nat.two_pow_add_eq_or_of_lt hy 1
      rw [Nat.mul_one] at hor
      rw [Nat.add_comm, hor]
      apply Nat.eq_of_testBit_eq
      intro i
      rw [Nat.testBit_xor, Nat.testBit_or, Nat.testBit_two_pow]
      by_cases hi : 63 = i
      · subst hi
        rw [Nat.testBit_lt_two_pow hy]; rfl
      · simp [hi]
    intro x hx
    split
    · rename_i h; exact low x h
    · rename_i h
      have h2 := low (x - 2 ^ 63) (by omega)
      rw [Nat.sub_add_cancel (by omega)] at h2
      have h3 : x ^^^ 2 ^ 63 = (x - 2 ^ 63 ^^^ 2 ^ 63) ^^^ 2 ^ 63 := by rw [h2]
      rw [h3, Nat.xor_assoc, Nat.xor_self, Nat.xor_zero]
  have := key b.toNat (by omega)
  rw [this]
  split <;> split <;> omega
end Go.Proofs.YtnkfodelgpidkaaGreatDoor.Bt
namespace Go.Proofs.YtnkfodelgpidkaaGreatDoor.Bt
open Go.RowKit

theorem fb_run (b : Nat) (w : World) : (callFunc 192 #[.float .f64 b]).run Tryz.prog w = .ok (.value (.int .u64 (b : Int))) w := by
  rw [run_callFunc_extern (e := Extern.MathFloatBits.float64bits) Tryz.func192 (by kernel_rfl) (by kernel_rfl) (by kernel_rfl) (by kernel_rfl)]
  rfl
theorem fbf_run (b : Int) (w : World) : (callFunc 116 #[.int .u64 b]).run Tryz.prog w = .ok (.value (.float .f64 b.toNat)) w := by
  rw [run_callFunc_extern (e := Extern.MathFloatBits.float64frombits) Tryz.func116 (by kernel_rfl) (by kernel_rfl) (by kernel_rfl) (by kernel_rfl)]
  rfl

set_option maxHeartbeats 400000 in
theorem isNone_any (b : Int) (h0 : 0 ≤ b) (h1 : b < 18446744073709551616) (w : World) :
    Calls Tryz.prog 58 #[.int .u64 b] w fun e w' => e = .returned (.bool (nanB b)) ∧ w = w' := by
  go_enter Tryz.func58, Tryz.ntmps58
  go_wp2
  go_ret
  exact ⟨ret_bool (by rw [andNot_sign h0 h1]; rfl), rfl⟩

set_option maxHeartbeats 400000 in
theorem isNaN_any (b : Int) (h0 : 0 ≤ b) (h1 : b < 18446744073709551616) (w : World) :
    Calls Tryz.prog 188 #[.int .u64 b] w fun e w' => e = .returned (.bool (nanB b)) ∧ w = w' := by
  go_enter Tryz.func188, Tryz.ntmps188
  go_wp2
  go_ret
  exact ⟨ret_bool (by rw [and_low63 h0 h1]; rfl), rfl⟩

set_option maxHeartbeats 400000 in
theorem isInfinite_any (b : Int) (h0 : 0 ≤ b) (h1 : b < 18446744073709551616) (w : World) :
    Calls Tryz.prog 59 #[.int .u64 b] w fun e w' => e = .returned (.bool (infB b)) ∧ w = w' := by
  go_enter Tryz.func59, Tryz.ntmps59
  go_wp2
  go_ret
  exact ⟨ret_bool (by rw [andNot_sign h0 h1]; rfl), rfl⟩

set_option maxHeartbeats 400000 in
theorem isInf_any (b : Int) (h0 : 0 ≤ b) (h1 : b < 18446744073709551616) (w : World) :
    Calls Tryz.prog 189 #[.int .u64 b] w fun e w' => e = .returned (.bool (infB b)) ∧ w = w' := by
  go_enter Tryz.func189, Tryz.ntmps189
  go_wp2
  go_ret
  exact ⟨ret_bool (by rw [and_low63 h0 h1]; rfl), rfl⟩

set_option maxHeartbeats 400000 in
theorem clean_any (b : Nat) (hb : b < 18446744073709551616) (w : World) :
    Calls Tryz.prog 201 #[.float .f64 b] w fun e w' => e = .returned (.int .u64 (canon b)) ∧ w = w' := by
  have hfb := fb_run
  have c := isNaN_any b (by omega) (by omega) w
  have hc := Lib.hid c
  clear c
  cases hn : nanB b
  all_goals
    rw [hn] at hc
    have HN := Lib.hid hn
    clear hn
    go_enter Tryz.func201, Tryz.ntmps201
    go_wp2_with (go_at_call 188; refine hc.out.mono ?_; rintro e w' ⟨rfl, rfl⟩)
    go_ret
    exact ⟨ret_int (by rw [canon, HN.out]; rfl), rfl⟩

set_option maxHeartbeats 400000 in
theorem of_any (n : Int) (w : World) :
    Calls Tryz.prog 138 #[.int .i64 n] w fun e w' => e = .returned (.int .u64 (ofI n)) ∧ w = w' := by
  have hfb := fb_run
  go_enter Tryz.func138, Tryz.ntmps138
  go_wp2
  go_ret
  exact ⟨rfl, rfl⟩

set_option maxHeartbeats 400000 in
theorem rof_any (n : Int) (w : World) :
    Calls Tryz.prog 166 #[.int .i64 n] w fun e w' => e = .returned (.int .u64 (ofI n)) ∧ w = w' := by
  have hlt : floatOfInt .f64 n < 18446744073709551616 := by have := ofI_lt n; unfold ofI at this; omega
  have hc := clean_any (floatOfInt .f64 n) hlt w
  rw [show canon (floatOfInt .f64 n : Nat) = ofI n from canon_of n] at hc
  have HC := Lib.hid hc
  clear hc hlt
  go_enter Tryz.func166, Tryz.ntmps166
  go_wp2_with (go_at_call 201; refine HC.out.mono ?_; rintro e w' ⟨rfl, rfl⟩)
  go_ret
  exact ⟨rfl, rfl⟩

end Go.Proofs.YtnkfodelgpidkaaGreatDoor.Bt
namespace Go.Proofs.YtnkfodelgpidkaaGreatDoor.Bt
open Go.RowKit

theorem and_low52 {b : Int} (h0 : 0 ≤ b) (h1 : b < 18446744073709551616) : bits .and .u64 b 4503599627370495 = b % 4503599627370496 := by
  rw [u64_and b 4503599627370495 h0 h1 (by decide) (by decide)]
  have e : ((4503599627370495 : Int).toNat : Nat) = 2 ^ 52 - 1 := by decide
  rw [e, Nat.and_two_pow_sub_one_eq_mod]
  omega
theorem and_2047 {b : Int} (h0 : 0 ≤ b) (h1 : b < 18446744073709551616) : bits .and .u64 b 2047 = b % 2048 := by
  rw [u64_and b 2047 h0 h1 (by decide) (by decide)]
  have e : ((2047 : Int).toNat : Nat) = 2 ^ 11 - 1 := by decide
  rw [e, Nat.and_two_pow_sub_one_eq_mod]
  omega
theorem or_hidden {b : Int} (h0 : 0 ≤ b) (h1 : b < 4503599627370496) : bits .or .u64 b 4503599627370496 = b + 4503599627370496 := by
  rw [u64_or b 4503599627370496 h0 (by omega) (by decide) (by decide)]
  have e : ((4503599627370496 : Int).toNat : Nat) = 2 ^ 52 := by decide
  have h2 := Nat.two_pow_add_eq_or_of_lt (show b.toNat < 2 ^ 52 by omega) 1
  rw [e, Nat.or_comm]
  rw [Nat.mul_one] at h2
  rw [← h2]; omega

def manI (b : Int) : Int := if b / 4503599627370496 % 2048 = 0 then b % 4503599627370496 else b % 4503599627370496 + 4503599627370496
def powI (b : Int) : Int := if b / 4503599627370496 % 2048 = 0 then -1074 else b / 4503599627370496 % 2048 - 1075

set_option maxHeartbeats 400000 in
theorem rparts_any (b : Int) (h0 : 0 ≤ b) (h1 : b < 18446744073709551616) (w : World) :
    Calls Tryz.prog 217 #[.int .u64 b] w fun e w' => e = .returned (.tuple #[.int .u64 (manI b), .int .i64 (powI b)]) ∧ w = w' := by
  have e1 := and_2047 (b := b / 4503599627370496) (by omega) (by omega)
  have e2 := and_low52 h0 h1
  have hw : wrap64 (b / 4503599627370496 % 2048) = b / 4503599627370496 % 2048 := IntWalk.wrap64_in _ (by omega)
  by_cases hf : b / 4503599627370496 % 2048 = 0
  · have hb : (b / 4503599627370496 % 2048 == 0) = true := by simp [hf]
    have HF := Lib.hid hf
    clear hf
    go_enter Tryz.func217, Tryz.ntmps217
    go_wp2
    go_ret2
    exact ⟨by rw [manI, powI, if_pos HF.out, if_pos HF.out]; rfl, rfl⟩
  · have hb : (b / 4503599627370496 % 2048 == 0) = false := by simp [hf]
    have HF := Lib.hid hf
    clear hf
    go_enter Tryz.func217, Tryz.ntmps217
    go_wp2
    go_ret2
    exact ⟨by rw [manI, powI, if_neg HF.out, if_neg HF.out]; rfl, rfl⟩
end Go.Proofs.YtnkfodelgpidkaaGreatDoor.Bt
namespace Go.Proofs.YtnkfodelgpidkaaGreatDoor.Bt
open Go.RowKit

/-- The bits of the number whose size is w times two to the power that the field f stands for (f at least 1, w below 2^53). -/
def jn : Nat → Nat → Nat
  | 0, w => w
  | 1, w => if w < 4503599627370496 then w else 4503599627370496 + w % 4503599627370496
  | f + 2, w => if w < 4503599627370496 then jn (f + 1) (2 * w) else (f + 2) * 4503599627370496 + w % 4503599627370496

theorem jn_step (f w : Nat) (hf : 1 < f) (hw : w < 4503599627370496) : jn f w = jn (f - 1) (w * 2) := by
  match f, hf with
  | g + 2, _ => rw [jn, if_pos hw, Nat.mul_comm]; rfl
theorem jn_low (w : Nat) (f : Nat) (hf : f = 1) (hw : w < 4503599627370496) : jn f w = w := by subst hf; rw [jn, if_pos hw]
theorem jn_high (w : Nat) (f : Nat) (hf : 1 ≤ f) (hw : ¬ w < 4503599627370496) : jn f w = f * 4503599627370496 + w % 4503599627370496 := by
  match f, hf with
  | 1, _ => rw [jn, if_neg hw]
  | g + 2, _ => rw [jn, if_neg hw]

theorem or_field {a b : Int} (ha0 : 0 ≤ a) (ha : a < 4096) (hb0 : 0 ≤ b) (hb : b < 4503599627370496) : bits .or .u64 (a * 4503599627370496) b = a * 4503599627370496 + b := by
  rw [u64_or _ b (by omega) (by omega) hb0 (by omega)]
  have e : (a * 4503599627370496).toNat = 2 ^ 52 * a.toNat := by omega
  have h2 := Nat.two_pow_add_eq_or_of_lt (show b.toNat < 2 ^ 52 by omega) a.toNat
  rw [e, ← h2]; omega

def jnI (f x : Int) : Int := (jn f.toNat x.toNat : Nat)
theorem jnI_step {f x : Int} (hf : 1 < f) (h0 : 0 ≤ x) (hx : x < 4503599627370496) : jnI f x = jnI (f - 1) (x * 2) := by
  unfold jnI
  rw [jn_step _ _ (by omega) (by omega), show (f - 1).toNat = f.toNat - 1 from by omega, show (x * 2).toNat = x.toNat * 2 from by omega]
theorem jnI_low {f x : Int} (hf : f = 1) (h0 : 0 ≤ x) (hx : x < 4503599627370496) : jnI f x = x := by
  unfold jnI
  rw [jn_low _ _ (by omega) (by omega)]; omega
theorem jnI_high {f x : Int} (hf : 1 ≤ f) (hx : ¬ x < 4503599627370496) : jnI f x = f * 4503599627370496 + x % 4503599627370496 := by
  unfold jnI
  rw [jn_high _ _ (by omega) (by omega)]; omega

theorem shl_mod {l p n : Int} (hp : 0 ≤ p) (s : Int) (hs0 : 0 ≤ s) (hs : s ≤ p) : (l * 2 ^ s.toNat % n) * 2 ^ (p - s).toNat % n = l * 2 ^ p.toNat % n := by
  have e : p.toNat = s.toNat + (p - s).toNat := by omega
  rw [e, Int.pow_add, ← Int.mul_assoc, Int.mul_emod (l * 2 ^ s.toNat % n), Int.emod_emod, ← Int.mul_emod]

theorem start_mod (m n k : Int) : m * k % n = m % n * k % n := by
  rw [Int.mul_emod, Int.mul_emod (m % n) k, Int.emod_emod]
theorem pow_pos' (k : Nat) : (0 : Int) < 2 ^ k := Int.pow_pos (by decide)
theorem pow_11 {k : Nat} (h : k ≤ 11) : (2 : Int) ^ k ≤ 2048 := by
  have h1 := Nat.pow_le_pow_right (show 0 < 2 by decide) h
  have h2 : ((2 ^ k : Nat) : Int) = (2 : Int) ^ k := by rw [Int.natCast_pow]; rfl
  omega
theorem shl_fits {x n g : Int} (hx0 : 0 ≤ x) (hx : x < n) (hn : n < 9007199254740992) (hg : g ≤ 11) : (IntKind.u64.wrap (x * 2 ^ g.toNat)).tmod n = x * 2 ^ g.toNat % n := by
  have h1 := pow_pos' g.toNat
  have h2 := pow_11 (show g.toNat ≤ 11 by omega)
  have h3 : 0 ≤ x * 2 ^ g.toNat := Int.mul_nonneg hx0 (by omega)
  have h4 : x * 2 ^ g.toNat ≤ 9007199254740991 * 2048 := Int.mul_le_mul (show x ≤ 9007199254740991 by omega) h2 (by omega) (by decide)
  have h5 : x * 2 ^ g.toNat ≤ 18446744073709551615 := Int.le_trans h4 (by decide)
  rw [IntWalk.u64_in _ ⟨h3, h5⟩, Int.tmod_eq_emod_of_nonneg h3]

theorem man_nonneg (b : Int) : 0 ≤ manI b := by unfold manI; split <;> omega
theorem man_lt (b : Int) : manI b < 9007199254740992 := by unfold manI; split <;> omega
theorem pow_lo (b : Int) : -1074 ≤ powI b := by unfold powI; split <;> omega
theorem pow_hi' (b : Int) : powI b ≤ 972 := by unfold powI; split <;> omega
theorem not_nan {b : Int} (h : nanB b = false) : b % 9223372036854775808 ≤ 9218868437227405312 := by
  unfold nanB at h; have := of_decide_eq_false h; omega
theorem not_inf {b : Int} (h : infB b = false) : b % 9223372036854775808 ≠ 9218868437227405312 := by
  unfold infB at h; simpa using h
theorem not_zer {b : Int} (h : zerB b = false) : b % 9223372036854775808 ≠ 0 := by
  unfold zerB at h; simpa using h
theorem pow_hi {b : Int} (hn : nanB b = false) (hi : infB b = false) : powI b ≤ 971 := by
  have h1 := not_nan hn
  have h2 := not_inf hi
  unfold powI; split <;> omega
theorem man_pos {b : Int} (hz : zerB b = false) : 0 < manI b := by
  have h1 := not_zer hz
  unfold manI; split <;> omega

def remI (a b : Int) : Int :=
  if nanB a = true ∨ nanB b = true ∨ infB a = true ∨ zerB b = true then noneB
  else if infB b = true ∨ zerB a = true then a
  else if powI a < powI b then a
  else a / 9223372036854775808 * 9223372036854775808 + jnI (powI b + 1075) (manI a * 2 ^ (powI a - powI b).toNat % manI b)

theorem and_sign {b : Int} (h0 : 0 ≤ b) (h1 : b < 18446744073709551616) : bits .and .u64 b 9223372036854775808 = b / 9223372036854775808 * 9223372036854775808 := by
  rw [u64_and b 9223372036854775808 h0 h1 (by decide) (by decide)]
  have e : ((9223372036854775808 : Int).toNat : Nat) = 2 ^ 63 := by decide
  rw [e, nat_bit]
  omega

theorem or_sign {a b : Int} (ha0 : 0 ≤ a) (ha : a < 2) (hb0 : 0 ≤ b) (hb : b < 9223372036854775808) : bits .or .u64 (a * 9223372036854775808) b = a * 9223372036854775808 + b := by
  rw [u64_or _ b (by omega) (by omega) hb0 (by omega)]
  have e : (a * 9223372036854775808).toNat = 2 ^ 63 * a.toNat := by omega
  have h2 := Nat.two_pow_add_eq_or_of_lt (show b.toNat < 2 ^ 63 by omega) a.toNat
  rw [e, ← h2]; omega

theorem jn_lt : ∀ (f w : Nat), f ≤ 2046 → w < 9007199254740992 → jn f w < 9218868437227405312
  | 0, w, _, hw => by rw [jn]; omega
  | 1, w, _, hw => by rw [jn]; split <;> omega
  | f + 2, w, hf, hw => by
    rw [jn]
    split
    · exact jn_lt (f + 1) (2 * w) (by omega) (by omega)
    · have := Nat.mod_lt w (show 0 < 4503599627370496 by decide)
      have h3 : (f + 2) * 4503599627370496 ≤ 2046 * 4503599627370496 := Nat.mul_le_mul_right _ hf
      omega
theorem jnI_nonneg (f w : Int) : 0 ≤ jnI f w := by unfold jnI; omega
theorem jnI_lt {f w : Int} (hf : f ≤ 2046) (hw : w < 9007199254740992) : jnI f w < 9218868437227405312 := by
  have := jn_lt f.toNat w.toNat (by omega) (by omega)
  unfold jnI; omega

end Go.Proofs.YtnkfodelgpidkaaGreatDoor.Bt
namespace Go.Proofs.YtnkfodelgpidkaaGreatDoor.Bt
open Go.RowKit

/-- What a number without its sign is, cut towards nought. -/
def cutI (b : Int) : Int := if powI b < 0 then manI b / 2 ^ (-powI b).toNat else manI b * 2 ^ (powI b).toNat
def uwordI (b : Int) : Int := if nanB b = true ∨ infB b = true then 0 else if 9223372036854775808 ≤ b then (-cutI b) % 4294967296 else cutI b % 4294967296

theorem pow_add_int (j k : Nat) : (2 : Int) ^ (j + k) = 2 ^ j * 2 ^ k := Int.pow_add ..
theorem pow_le_int {j k : Nat} (h : j ≤ k) : (2 : Int) ^ j ≤ 2 ^ k := by
  have h1 := Nat.pow_le_pow_right (show 0 < 2 by decide) h
  have h2 : ∀ i : Nat, ((2 ^ i : Nat) : Int) = (2 : Int) ^ i := fun i => by rw [Int.natCast_pow]; rfl
  rw [← h2, ← h2]; omega
theorem shr_same {m : Int} (h0 : 0 ≤ m) (h1 : m < 9007199254740992) (k : Nat) : m / 2 ^ min k 64 = m / 2 ^ k := by
  by_cases h : k ≤ 64
  · rw [Nat.min_eq_left h]
  · rw [Nat.min_eq_right (by omega)]
    have h2 := pow_le_int (show 64 ≤ k by omega)
    rw [Int.ediv_eq_zero_of_lt h0 (by omega), Int.ediv_eq_zero_of_lt h0 (by omega)]
theorem mul_high (m : Int) {k : Nat} (h : 32 ≤ k) : m * 2 ^ k % 4294967296 = 0 := by
  have e : (2 : Int) ^ k = 2 ^ 32 * 2 ^ (k - 32) := by rw [← pow_add_int]; congr 1; omega
  rw [e, show m * (2 ^ 32 * 2 ^ (k - 32)) = 4294967296 * (m * 2 ^ (k - 32)) by
    rw [← Int.mul_assoc, Int.mul_comm m, Int.mul_assoc]; rfl]
  exact Int.mul_emod_right ..
theorem shl_same (m : Int) (k : Nat) : IntKind.u64.wrap (m * 2 ^ min k 64) % 4294967296 = m * 2 ^ k % 4294967296 := by
  rw [IntKind.wrap_u64, Int.emod_emod_of_dvd _ (by decide)]
  by_cases h : k ≤ 64
  · rw [Nat.min_eq_left h]
  · rw [mul_high m (show 32 ≤ min k 64 by omega), mul_high m (show 32 ≤ k by omega)]
theorem neg_mod (x : Int) : -(x % 4294967296) % 4294967296 = -x % 4294967296 := by omega
theorem sign_set {b : Int} (h0 : 0 ≤ b) (h1 : b < 18446744073709551616) {v : Bool} (hs : (bits .and .u64 b 9223372036854775808 != 0) = v) : (9223372036854775808 ≤ b) ↔ v = true := by
  rw [and_sign h0 h1] at hs
  subst hs
  rw [bne_iff_ne]; omega
theorem word_right {b r : Int} {v : Bool} (h0 : 0 ≤ b) (h1 : b < 18446744073709551616) (HR : uwordI b = if 9223372036854775808 ≤ b then (-cutI b) % 4294967296 else cutI b % 4294967296)
    (hp : powI b < 0) (b1 : 0 ≤ manI b) (b2 : manI b < 9007199254740992) (hs : (bits .and .u64 b 9223372036854775808 != 0) = v)
    (hr : r = if v = true then -(manI b / 2 ^ min (-powI b).toNat 64 % 4294967296) % 4294967296 else manI b / 2 ^ min (-powI b).toNat 64 % 4294967296 := by rfl) : r = uwordI b := by
  have hc : cutI b = manI b / 2 ^ (-powI b).toNat := by unfold cutI; rw [if_pos hp]
  rw [hr, HR, shr_same b1 b2, hc, neg_mod]
  simp only [sign_set h0 h1 hs]
theorem word_left {b r : Int} {v : Bool} (h0 : 0 ≤ b) (h1 : b < 18446744073709551616) (HR : uwordI b = if 9223372036854775808 ≤ b then (-cutI b) % 4294967296 else cutI b % 4294967296)
    (hp : ¬ powI b < 0) (hs : (bits .and .u64 b 9223372036854775808 != 0) = v)
    (hr : r = if v = true then -(IntKind.u64.wrap (manI b * 2 ^ min (powI b).toNat 64) % 4294967296) % 4294967296 else IntKind.u64.wrap (manI b * 2 ^ min (powI b).toNat 64) % 4294967296 := by rfl) : r = uwordI b := by
  have hc : cutI b = manI b * 2 ^ (powI b).toNat := by unfold cutI; rw [if_neg hp]
  rw [hr, HR, shl_same, hc, neg_mod]
  simp only [sign_set h0 h1 hs]

end Go.Proofs.YtnkfodelgpidkaaGreatDoor.Bt
namespace Go.Proofs.YtnkfodelgpidkaaGreatDoor.Bt
open Go.RowKit

theorem cut_zero (s : Bool) (n d : Nat) : Ieee.Toward.cut .zero s n d = n / 2 ^ d := by
  unfold Ieee.Toward.cut
  simp only [Nat.one_shiftLeft, Bool.toNat_false, Nat.add_zero]
  by_cases h : d ≤ n.log2 + 2
  · rw [Nat.min_eq_left h]
  · rw [Nat.min_eq_right (by omega)]
    have h1 : n < 2 ^ (n.log2 + 1) := Nat.lt_log2_self
    have h2 := Nat.pow_le_pow_right (show 0 < 2 by decide) (show n.log2 + 1 ≤ n.log2 + 2 by omega)
    have h3 := Nat.pow_le_pow_right (show 0 < 2 by decide) (show n.log2 + 1 ≤ d by omega)
    rw [Nat.div_eq_of_lt (by omega), Nat.div_eq_of_lt (by omega)]

theorem cut_even_none (s : Bool) (n : Nat) : Ieee.Toward.cut .even s n 0 = n := by
  unfold Ieee.Toward.cut
  simp [Nat.mod_one]

/-- How far a number's size is moved up, so that its highest bit stands at 52 (or as far as the power lets it). -/
def upN (f m : Nat) : Nat := min (52 - m.log2) (f - 1)

theorem jn_up : ∀ (f m : Nat), 1 ≤ f → 0 < m → m < 9007199254740992 → jn f m = (f - 1 - upN f m) * 4503599627370496 + m * 2 ^ upN f m
  | 1, m, _, h0, hm => by
    rw [jn, upN]
    simp only [Nat.sub_self, Nat.min_zero, Nat.pow_zero, Nat.mul_one, Nat.zero_mul, Nat.zero_add]
    split <;> omega
  | f + 2, m, _, h0, hm => by
    rw [jn]
    by_cases hl : m < 4503599627370496
    · rw [if_pos hl, jn_up (f + 1) (2 * m) (by omega) (by omega) (by omega)]
      have h2 : (2 * m).log2 = m.log2 + 1 := Nat.log2_two_mul (by omega)
      have h3 : m.log2 < 52 := (Nat.log2_lt (by omega)).2 hl
      have h4 : upN (f + 2) m = upN (f + 1) (2 * m) + 1 := by unfold upN; rw [h2]; omega
      rw [h4, Nat.pow_succ]
      have h5 : f + 2 - 1 - (upN (f + 1) (2 * m) + 1) = f + 1 - 1 - upN (f + 1) (2 * m) := by omega
      rw [h5]
      congr 1
      rw [Nat.mul_comm 2 m, Nat.mul_assoc, Nat.mul_comm 2]
    · rw [if_neg hl]
      have h3 : ¬ m.log2 < 52 := fun h => hl ((Nat.log2_lt (by omega)).1 h)
      have h4 : upN (f + 2) m = 0 := by unfold upN; omega
      rw [h4]
      simp only [Nat.pow_zero, Nat.mul_one, Nat.sub_zero]
      omega

theorem nearest_exact (s : Bool) (m : Nat) (p : Int) (hm : m < 9007199254740992) (hp : -1074 ≤ p) (hp2 : p ≤ 971) :
    Ieee.double.nearest s m p = Ieee.double.word s (jn (p + 1075).toNat m) := by
  unfold Ieee.Format.nearest
  by_cases h0 : m = 0
  · subst h0
    rw [if_pos rfl]
    have : ∀ f, jn f 0 = 0 := by
      intro f
      induction f with
      | zero => rfl
      | succ f ih =>
        cases f with
        | zero => rw [jn]; simp
        | succ f => rw [jn]; simpa using ih
    rw [this]
  · rw [if_neg h0]
    have hl : m.log2 < 53 := (Nat.log2_lt h0).2 (by omega)
    have hf : (Ieee.double.fractionBits : Int) = 52 := rfl
    simp only [dbl_least, dbl_binade, dbl_inf, hf]
    have hmax : max (p + (m.log2 : Int) - 52) (-1074) = p - (upN (p + 1075).toNat m : Int) := by unfold upN; omega
    have hup : (upN (p + 1075).toNat m : Int) ≤ p + 1074 := by unfold upN; omega
    rw [hmax]
    have e1 : (p - (p - (upN (p + 1075).toNat m : Int))).toNat = upN (p + 1075).toNat m := by omega
    have e2 : (p - (upN (p + 1075).toNat m : Int) - p).toNat = 0 := by omega
    rw [e1, e2, cut_even_none, Nat.shiftLeft_eq]
    have e3 : (p - (upN (p + 1075).toNat m : Int) - -1074).toNat = (p + 1075).toNat - 1 - upN (p + 1075).toNat m := by omega
    rw [e3, ← jn_up _ _ (by omega) (by omega) hm]
    have := jn_lt (p + 1075).toNat m (by omega) hm
    rw [Nat.min_eq_left (by omega)]

/- Numbers in their order. -/
def magN (r : Nat) : Nat := if r / 4503599627370496 = 0 then r else (r % 4503599627370496 + 4503599627370496) * 2 ^ (r / 4503599627370496 - 1)
def valI (x : Nat) : Int := if x / 9223372036854775808 % 2 = 1 then -(magN (x % 9223372036854775808) : Int) else magN (x % 9223372036854775808)
def ordI (x : Nat) : Int := if x / 9223372036854775808 % 2 = 1 then -((x % 9223372036854775808 : Nat) : Int) else (x % 9223372036854775808 : Nat)

theorem mag_mono {r r' : Nat} (h : r < r') : magN r < magN r' := by
  have hd : r / 4503599627370496 ≤ r' / 4503599627370496 := by omega
  unfold magN
  by_cases h0 : r / 4503599627370496 = 0
  · rw [if_pos h0]
    by_cases h1 : r' / 4503599627370496 = 0
    · rw [if_pos h1]; exact h
    · rw [if_neg h1]
      have := Nat.two_pow_pos (r' / 4503599627370496 - 1)
      have h3 : (r' % 4503599627370496 + 4503599627370496) * 1 ≤ (r' % 4503599627370496 + 4503599627370496) * 2 ^ (r' / 4503599627370496 - 1) := Nat.mul_le_mul_left _ this
      omega
  · rw [if_neg h0, if_neg (by omega)]
    have hr := Nat.mod_lt r (show 0 < 4503599627370496 by decide)
    by_cases h2 : r / 4503599627370496 = r' / 4503599627370496
    · rw [h2]
      exact Nat.mul_lt_mul_of_pos_right (by omega) (Nat.two_pow_pos _)
    · have e : 2 ^ (r' / 4503599627370496 - 1) = 2 ^ (r / 4503599627370496 - 1) * 2 * 2 ^ (r' / 4503599627370496 - 1 - r / 4503599627370496) := by
        rw [← Nat.pow_succ, ← Nat.pow_add]; congr 1; omega
      have p1 := Nat.two_pow_pos (r / 4503599627370496 - 1)
      have p2 := Nat.two_pow_pos (r' / 4503599627370496 - 1 - r / 4503599627370496)
      rw [e]
      generalize 2 ^ (r / 4503599627370496 - 1) = u at p1 ⊢
      generalize 2 ^ (r' / 4503599627370496 - 1 - r / 4503599627370496) = v at p2 ⊢
      have s1 : (r % 4503599627370496 + 4503599627370496) * u < 9007199254740992 * u := Nat.mul_lt_mul_of_pos_right (by omega) p1
      have s2 : 4503599627370496 * (u * 2 * v) ≤ (r' % 4503599627370496 + 4503599627370496) * (u * 2 * v) := Nat.mul_le_mul_right _ (by omega)
      have s3 : u * 2 * 1 ≤ u * 2 * v := Nat.mul_le_mul_left _ p2
      omega

theorem mag_inj {r r' : Nat} (h : magN r = magN r') : r = r' := by
  rcases Nat.lt_trichotomy r r' with h1 | h1 | h1
  · have := mag_mono h1; omega
  · exact h1
  · have := mag_mono h1; omega
theorem mag_zero : magN 0 = 0 := by decide
theorem mag_lt_iff {r r' : Nat} : magN r < magN r' ↔ r < r' := by
  constructor
  · intro h
    rcases Nat.lt_trichotomy r r' with h1 | h1 | h1
    · exact h1
    · subst h1; omega
    · have := mag_mono h1; omega
  · exact mag_mono

theorem compare_same {a b a' b' : Int} (h1 : a < b ↔ a' < b') (h2 : a = b ↔ a' = b') : compare a b = compare a' b' := by
  simp only [compare, compareOfLessAndEq, h1, h2]

theorem val_ord (x y : Nat) : compare (valI x) (valI y) = compare (ordI x) (ordI y) := by
  have l1 := @mag_lt_iff (x % 9223372036854775808) (y % 9223372036854775808)
  have l2 := @mag_lt_iff (y % 9223372036854775808) (x % 9223372036854775808)
  have z1 := @mag_lt_iff 0 (x % 9223372036854775808)
  have z2 := @mag_lt_iff 0 (y % 9223372036854775808)
  rw [mag_zero] at z1 z2
  unfold valI ordI
  apply compare_same
  · split <;> split <;> omega
  · split <;> split <;> omega

theorem compare_scale {a b c : Int} (hc : 0 < c) : compare (a * c) (b * c) = compare a b := by
  apply compare_same
  · exact Int.mul_lt_mul_right hc
  · exact ⟨fun h => Int.eq_of_mul_eq_mul_right (by omega) h, fun h => by rw [h]⟩

theorem mag_parts (x : Nat) : magN (x % 9223372036854775808) = mantN x * 2 ^ (expI x + 1074).toNat := by
  unfold magN mantN expI
  by_cases h : x / 4503599627370496 % 2048 = 0
  · rw [if_pos h, if_pos h, if_pos (by omega)]
    simp; omega
  · rw [if_neg h, if_neg h, if_neg (by omega)]
    congr 1
    · omega
    · congr 1; omega

theorem signed_eq (s : Bool) (m k : Nat) : Ieee.signed s m k = (if s then -(m : Int) else m) * 2 ^ k := by
  unfold Ieee.signed
  rw [Nat.shiftLeft_eq]
  have : ((m * 2 ^ k : Nat) : Int) = (m : Int) * 2 ^ k := by rw [Int.natCast_mul, Int.natCast_pow]; rfl
  rw [this]
  cases s <;> simp [Int.neg_mul]

theorem val_num (x : Nat) : valI x = (if (x / 9223372036854775808 % 2 == 1) then -(mantN x : Int) else mantN x) * 2 ^ (expI x + 1074).toNat := by
  unfold valI
  rw [mag_parts]
  have : ((mantN x * 2 ^ (expI x + 1074).toNat : Nat) : Int) = (mantN x : Int) * 2 ^ (expI x + 1074).toNat := by rw [Int.natCast_mul, Int.natCast_pow]; rfl
  rw [this]
  by_cases h : x / 9223372036854775808 % 2 = 1 <;> simp [h, Int.neg_mul]

theorem exp_lo (x : Nat) : -1074 ≤ expI x := by unfold expI; split <;> omega

theorem order_val (x y : Nat) (hx : x % 9223372036854775808 ≤ 9218868437227405312) (hy : y % 9223372036854775808 ≤ 9218868437227405312) :
    Ieee.double.order x y = some (compare (valI x) (valI y)) := by
  have hord : ∀ z : Nat, z % 9223372036854775808 ≤ 9218868437227405312 → (z % 9223372036854775808 = 9218868437227405312 ∧ Ieee.double.read z = .infinity (z / 9223372036854775808 % 2 == 1)) ∨ (z % 9223372036854775808 < 9218868437227405312 ∧ Ieee.double.read z = .number (z / 9223372036854775808 % 2 == 1) (mantN z) (expI z)) := by
    intro z hz
    rcases read_cases z with ⟨h, _⟩ | h | h
    · omega
    · exact .inl h
    · exact .inr h
  show (Ieee.double.read x).order (Ieee.double.read y) = _
  rcases hord x hx with ⟨a1, a2⟩ | ⟨a1, a2⟩ <;> rcases hord y hy with ⟨b1, b2⟩ | ⟨b1, b2⟩ <;> rw [a2, b2]
  · rw [val_ord]
    simp only [Ieee.Datum.order, Option.some.injEq]
    unfold ordI
    rw [a1, b1]
    by_cases h1 : x / 9223372036854775808 % 2 = 1 <;> by_cases h2 : y / 9223372036854775808 % 2 = 1
    · rw [show (x / 9223372036854775808 % 2 == 1) = true by simp [h1], show (y / 9223372036854775808 % 2 == 1) = true by simp [h2], if_pos h1, if_pos h2]; decide
    · rw [show (x / 9223372036854775808 % 2 == 1) = true by simp [h1], show (y / 9223372036854775808 % 2 == 1) = false by simp [h2], if_pos h1, if_neg h2]; decide
    · rw [show (x / 9223372036854775808 % 2 == 1) = false by simp [h1], show (y / 9223372036854775808 % 2 == 1) = true by simp [h2], if_neg h1, if_pos h2]; decide
    · rw [show (x / 9223372036854775808 % 2 == 1) = false by simp [h1], show (y / 9223372036854775808 % 2 == 1) = false by simp [h2], if_neg h1, if_neg h2]; decide
  · rw [val_ord]
    simp only [Ieee.Datum.order, Option.some.injEq]
    unfold ordI
    rw [a1]
    by_cases h1 : x / 9223372036854775808 % 2 = 1
    · simp only [h1, beq_self_eq_true, if_true]
      symm; simp only [compare, compareOfLessAndEq]; rw [if_pos]; split <;> omega
    · simp only [h1, if_false]
      rw [if_neg (by simp [h1])]
      symm; simp only [compare, compareOfLessAndEq]; rw [if_neg (by split <;> omega), if_neg (by split <;> omega)]
  · rw [val_ord]
    simp only [Ieee.Datum.order, Option.some.injEq]
    unfold ordI
    rw [b1]
    by_cases h1 : y / 9223372036854775808 % 2 = 1
    · simp only [h1, beq_self_eq_true, if_true]
      symm; simp only [compare, compareOfLessAndEq]; rw [if_neg (by split <;> omega), if_neg (by split <;> omega)]
    · simp only [h1, if_false]
      rw [if_neg (by simp [h1])]
      symm; simp only [compare, compareOfLessAndEq]; rw [if_pos]; split <;> omega
  · simp only [Ieee.Datum.order, Option.some.injEq]
    have ex := exp_lo x
    have ey := exp_lo y
    rw [signed_eq, signed_eq, val_num, val_num]
    have hb : -1074 ≤ min (expI x) (expI y) := by omega
    have e1 : (expI x + 1074).toNat = (expI x - min (expI x) (expI y)).toNat + (min (expI x) (expI y) + 1074).toNat := by omega
    have e2 : (expI y + 1074).toNat = (expI y - min (expI x) (expI y)).toNat + (min (expI x) (expI y) + 1074).toNat := by omega
    rw [e1, e2, pow_add_int, pow_add_int, ← Int.mul_assoc, ← Int.mul_assoc, compare_scale (pow_pos' _)]
end Go.Proofs.YtnkfodelgpidkaaGreatDoor.Bt
namespace Go.Proofs.YtnkfodelgpidkaaGreatDoor.Bt
open Go.RowKit

theorem mag_jn : ∀ (f w : Nat), 1 ≤ f → w < 9007199254740992 → magN (jn f w) = w * 2 ^ (f - 1)
  | 1, w, _, hw => by
    rw [jn]
    split
    · rename_i h
      unfold magN
      rw [if_pos (by omega)]; simp
    · rename_i h
      unfold magN
      have e : (4503599627370496 + w % 4503599627370496) / 4503599627370496 = 1 := by omega
      rw [e, if_neg (by decide)]
      simp; omega
  | f + 2, w, _, hw => by
    rw [jn]
    split
    · rename_i h
      rw [mag_jn (f + 1) (2 * w) (by omega) (by omega)]
      show 2 * w * 2 ^ f = w * 2 ^ (f + 1)
      rw [Nat.pow_succ, Nat.mul_comm 2 w, Nat.mul_assoc, Nat.mul_comm 2]
    · rename_i h
      unfold magN
      have e : ((f + 2) * 4503599627370496 + w % 4503599627370496) / 4503599627370496 = f + 2 := by omega
      rw [e, if_neg (by omega)]
      have e2 : ((f + 2) * 4503599627370496 + w % 4503599627370496) % 4503599627370496 + 4503599627370496 = w := by omega
      rw [e2]

theorem man_nat (x : Nat) : manI x = mantN x := by
  unfold manI mantN
  by_cases h : x / 4503599627370496 % 2048 = 0
  · rw [if_pos h, if_pos (by omega)]; omega
  · rw [if_neg h, if_neg (by omega)]; omega
theorem pow_nat (x : Nat) : powI x = expI x := by
  unfold powI expI
  by_cases h : x / 4503599627370496 % 2048 = 0
  · rw [if_pos h, if_pos (by omega)]
  · rw [if_neg h, if_neg (by omega)]; omega

/-- What x is without its sign, cut towards nought. -/
def cutN (x : Nat) : Nat := mantN x * 2 ^ (expI x).toNat / 2 ^ (-expI x).toNat
theorem cut_nat (x : Nat) : cutI x = cutN x := by
  unfold cutI cutN
  rw [man_nat, pow_nat]
  have hp : ∀ k : Nat, ((2 ^ k : Nat) : Int) = (2 : Int) ^ k := fun k => by rw [Int.natCast_pow]; rfl
  split
  · rename_i h
    rw [show (expI x).toNat = 0 by omega, Nat.pow_zero, Nat.mul_one, Int.natCast_ediv, hp]
  · rename_i h
    rw [show (-expI x).toNat = 0 by omega, Nat.pow_zero, Nat.div_one, Int.natCast_mul, hp]

/-- x has no bits behind its point. -/
def pureN (x : Nat) : Bool := decide (0 ≤ expI x) || mantN x % 2 ^ (-expI x).toNat == 0
def insideN (x : Nat) : Bool := decide (x % 9223372036854775808 ≤ 4845873199050653696)

theorem mant_lt (x : Nat) : mantN x < 9007199254740992 := by unfold mantN; split <;> omega

theorem inside_exp {x : Nat} (h : insideN x = true) : expI x ≤ 0 ∨ (expI x = 1 ∧ mantN x = 4503599627370496) := by
  have h := of_decide_eq_true h
  unfold expI mantN
  by_cases hf : x / 4503599627370496 % 2048 = 0
  · rw [if_pos hf]; omega
  · rw [if_neg hf, if_neg hf]; omega

theorem inside_cut {x : Nat} (h : insideN x = true) : cutN x ≤ 9007199254740992 := by
  unfold cutN
  rcases inside_exp h with h1 | ⟨h1, h2⟩
  · rw [show (expI x).toNat = 0 by omega, Nat.pow_zero, Nat.mul_one]
    have := Nat.div_le_self (mantN x) (2 ^ (-expI x).toNat)
    have := mant_lt x
    omega
  · rw [h1, h2]; decide

/-- The tests on both sides come to one test. -/
theorem inside_tests (x : Nat) : ((FloatKind.f64.format.order x 14069245235905429504 == some .gt || FloatKind.f64.format.order x 14069245235905429504 == some .eq) &&
    (FloatKind.f64.format.order x 4845873199050653696 == some .lt || FloatKind.f64.format.order x 4845873199050653696 == some .eq)) = insideN x := by
  by_cases hn : x % 9223372036854775808 ≤ 9218868437227405312
  · have o1 : FloatKind.f64.format.order x 14069245235905429504 = _ := order_val x 14069245235905429504 hn (by decide)
    have o2 : FloatKind.f64.format.order x 4845873199050653696 = _ := order_val x 4845873199050653696 hn (by decide)
    rw [o1, o2, val_ord, val_ord]
    have e1 : ordI 14069245235905429504 = -4845873199050653696 := by decide
    have e2 : ordI 4845873199050653696 = 4845873199050653696 := by decide
    rw [e1, e2]
    unfold ordI insideN
    simp only [compare, compareOfLessAndEq]
    by_cases hs : x / 9223372036854775808 % 2 = 1
    · simp only [hs, if_true]
      rw [Bool.eq_iff_iff]
      simp only [Bool.and_eq_true, Bool.or_eq_true, beq_iff_eq, Option.some.injEq, decide_eq_true_eq]
      repeat' split
      all_goals first | (simp; done) | (simp; omega) | omega
    · simp only [hs, if_false]
      rw [Bool.eq_iff_iff]
      simp only [Bool.and_eq_true, Bool.or_eq_true, beq_iff_eq, Option.some.injEq, decide_eq_true_eq]
      repeat' split
      all_goals first | (simp; done) | (simp; omega) | omega
  · have hr : ∀ y, FloatKind.f64.format.order x y = none := by
      intro y
      show (Ieee.double.read x).order _ = none
      rcases read_cases x with ⟨_, h⟩ | ⟨h, _⟩ | ⟨h, _⟩
      · rw [h]; rfl
      · omega
      · omega
    rw [hr, hr]
    have : insideN x = false := by unfold insideN; exact decide_eq_false (by omega)
    rw [this]; rfl

theorem inside_num {x : Nat} (h : insideN x = true) : x % 9223372036854775808 ≤ 4845873199050653696 := of_decide_eq_true h
theorem read_inside {x : Nat} (h : insideN x = true) : Ieee.double.read x = .number (x / 9223372036854775808 % 2 == 1) (mantN x) (expI x) := by
  have h := inside_num h
  rcases read_cases x with ⟨h1, _⟩ | ⟨h1, _⟩ | ⟨_, h1⟩
  · omega
  · omega
  · exact h1

/-- By how much the least power lies below nought. -/
def kk : Nat := 1074
theorem mag_jn_kk (c : Nat) (hc : c < 9007199254740992) : magN (jn 1075 c) = c * 2 ^ kk := by
  have h := mag_jn 1075 c (by omega) hc
  rw [show 1075 - 1 = kk from rfl] at h
  exact h
theorem kk_eq : kk = 1074 := rfl

/-- The word of a whole number up to 2^53 with a sign. -/
def wordN (neg : Bool) (c : Nat) : Nat := Ieee.double.nearest neg c 0
theorem word_low (neg : Bool) {c : Nat} (h : c ≤ 9007199254740992) : ∃ r, wordN neg c = (if neg then 9223372036854775808 + r else r) ∧ r ≤ 4845873199050653696 ∧ magN r = c * 2 ^ kk := by
  by_cases hc : c = 9007199254740992
  · subst hc
    refine ⟨4845873199050653696, ?_, by omega, by decide +kernel⟩
    unfold wordN
    cases neg <;> decide +kernel
  · refine ⟨jn 1075 c, ?_, ?_, mag_jn_kk c (by omega)⟩
    · unfold wordN
      rw [nearest_exact neg c 0 (by omega) (by omega) (by omega)]
      unfold Ieee.Format.word
      rw [dbl_sign]; rfl
    · have h1 := mag_jn_kk c (by omega)
      have h2 : magN 4845873199050653696 = 9007199254740992 * 2 ^ kk := by decide +kernel
      have h3 : magN (jn 1075 c) < magN 4845873199050653696 := by
        rw [h1, h2]; exact Nat.mul_lt_mul_of_pos_right (by omega) (Nat.two_pow_pos _)
      have := mag_lt_iff.1 h3
      omega

theorem trunc_word {x : Nat} (h : insideN x = true) : FloatKind.f64.encode ((FloatKind.f64.decode x).integral .zero) = wordN (x / 9223372036854775808 % 2 == 1) (cutN x) := by
  show Ieee.double.write ((Ieee.double.read x).integral .zero) = _
  rw [read_inside h]
  show Ieee.double.nearest _ (Ieee.Toward.cut .zero _ (mantN x <<< (expI x).toNat) (-expI x).toNat) 0 = _
  rw [cut_zero, Nat.shiftLeft_eq]
  rfl

theorem sign_of {neg : Bool} {r : Nat} (hr : r ≤ 4845873199050653696) : ((if neg then 9223372036854775808 + r else r) / 9223372036854775808 % 2 = 1 ↔ neg = true) ∧ (if neg then 9223372036854775808 + r else r) % 9223372036854775808 = r := by
  cases neg
  · simp; omega
  · simp; omega

theorem val_word (neg : Bool) {c : Nat} (h : c ≤ 9007199254740992) : valI (wordN neg c) = (if neg then -(c : Int) else c) * 2 ^ kk ∧ wordN neg c % 9223372036854775808 ≤ 4845873199050653696 := by
  obtain ⟨r, h1, h2, h3⟩ := word_low neg h
  obtain ⟨s1, s2⟩ := sign_of (neg := neg) h2
  rw [h1]
  refine ⟨?_, by rw [s2]; exact h2⟩
  unfold valI
  rw [s2, h3]
  have hp : ((c * 2 ^ kk : Nat) : Int) = (c : Int) * 2 ^ kk := by rw [Int.natCast_mul, Int.natCast_pow]; rfl
  rw [hp]
  cases neg
  · rw [if_neg (by rw [s1]; decide)]; rfl
  · rw [if_pos (s1.2 rfl)]; simp [Int.neg_mul]

theorem pure_iff (x : Nat) : mantN x * 2 ^ (expI x + 1074).toNat = cutN x * 2 ^ kk ↔ pureN x = true := by
  have lo := exp_lo x
  unfold cutN pureN
  by_cases he : 0 ≤ expI x
  · have e1 : (expI x + 1074).toNat = (expI x).toNat + kk := by rw [kk_eq]; omega
    rw [e1, show (-expI x).toNat = 0 by omega, Nat.pow_zero, Nat.div_one, Nat.pow_add, Nat.mul_assoc]
    simp [he]
  · rw [show (expI x).toNat = 0 by omega, Nat.pow_zero, Nat.mul_one]
    have e1 : 2 ^ kk = 2 ^ (-expI x).toNat * 2 ^ (expI x + 1074).toNat := by rw [← Nat.pow_add]; congr 1; rw [kk_eq]; omega
    rw [e1, ← Nat.mul_assoc]
    have p := Nat.two_pow_pos (expI x + 1074).toNat
    have hdm := Nat.div_add_mod (mantN x) (2 ^ (-expI x).toNat)
    rw [Nat.mul_comm] at hdm
    simp only [he, decide_false, Bool.false_or, beq_iff_eq]
    constructor
    · intro h2
      have := Nat.eq_of_mul_eq_mul_right p h2
      omega
    · intro h2
      have h3 : mantN x = mantN x / 2 ^ (-expI x).toNat * 2 ^ (-expI x).toNat := by omega
      exact congrArg (fun u => u * 2 ^ (expI x + 1074).toNat) h3

/-- 'x != Trunc(x)'. -/
theorem trunc_test {x : Nat} (h : insideN x = true) : (FloatKind.f64.format.order x (wordN (x / 9223372036854775808 % 2 == 1) (cutN x)) != some .eq) = !pureN x := by
  have hc := inside_cut h
  have hx := inside_num h
  obtain ⟨v1, v2⟩ := val_word (x / 9223372036854775808 % 2 == 1) hc
  have ho : FloatKind.f64.format.order x (wordN (x / 9223372036854775808 % 2 == 1) (cutN x)) = _ := order_val x (wordN (x / 9223372036854775808 % 2 == 1) (cutN x)) (by omega) (by omega)
  rw [ho, v1, val_num]
  have key : (compare ((if (x / 9223372036854775808 % 2 == 1) = true then -(mantN x : Int) else mantN x) * 2 ^ (expI x + 1074).toNat) ((if (x / 9223372036854775808 % 2 == 1) = true then -(cutN x : Int) else cutN x) * 2 ^ kk) = .eq) ↔ pureN x = true := by
    rw [← pure_iff x]
    have hp : ∀ (c k : Nat), ((c * 2 ^ k : Nat) : Int) = (c : Int) * 2 ^ k := fun c k => by rw [Int.natCast_mul, Int.natCast_pow]; rfl
    have hz : ∀ a b : Int, compare a b = .eq ↔ a = b := by
      intro a b
      simp only [compare, compareOfLessAndEq]
      split
      · simp; omega
      · split <;> simp <;> omega
    rw [hz]
    split
    · rw [Int.neg_mul, Int.neg_mul, ← hp, ← hp]; omega
    · rw [← hp, ← hp]; omega
  cases hpu : pureN x
  · rw [hpu] at key
    rw [bne_iff_ne.2 (by intro e; have := key.1 (Option.some.inj e); cases this)]; rfl
  · rw [hpu] at key
    rw [key.2 rfl]; rfl

theorem to_int {x : Nat} (h : insideN x = true) : floatToIntVal .f64 x .i64 = some (if x / 9223372036854775808 % 2 = 1 then -(cutN x : Int) else cutN x) := by
  have hc := inside_cut h
  unfold floatToIntVal
  have : (FloatKind.f64.decode x).toInt .zero = some (if x / 9223372036854775808 % 2 = 1 then -(cutN x : Int) else cutN x) := by
    show (Ieee.double.read x).toInt .zero = _
    rw [read_inside h]
    show some (Ieee.signed _ (Ieee.Toward.cut .zero _ (mantN x <<< (expI x).toNat) (-expI x).toNat) 0) = _
    rw [cut_zero, Nat.shiftLeft_eq, signed_eq]
    congr 1
    by_cases hs : x / 9223372036854775808 % 2 = 1 <;> simp [hs] <;> rfl
  rw [this]
  simp only
  rw [if_pos]
  have h1 : IntKind.i64.min = -9223372036854775808 := by decide
  have h2 : IntKind.i64.max = 9223372036854775807 := by decide
  rw [h1, h2]
  split <;> omega

def wholeB (b : Int) : Bool := insideN b.toNat && pureN b.toNat
def wholeV (b : Int) : Int := if wholeB b = true then (if 9223372036854775808 ≤ b then -(cutN b.toNat : Int) else cutN b.toNat) else 0

theorem archTrunc_run {x : Nat} (h : insideN x = true) (w : World) : (callFunc 180 #[.float .f64 x]).run Tryz.prog w = .ok (.value (.float .f64 (wordN (x / 9223372036854775808 % 2 == 1) (cutN x)))) w := by
  rw [run_callFunc_extern (e := Extern.MathFloor.toIntegral "math.archTrunc" .zero) Tryz.func180 (by kernel_rfl) (by kernel_rfl) (by kernel_rfl) (by kernel_rfl)]
  have hr : FloatKind.f64.decode x = _ := read_inside h
  have ht := trunc_word h
  rw [← ht]
  show (Sem.run Tryz.prog (match FloatKind.f64.decode x with | .nan s t => _ | d => (pure (Value.float .f64 (FloatKind.f64.encode (d.integral .zero))) : Sem Value)) w).andThen _ = _
  rw [hr]
  rfl

theorem inside_absurd {o1 o2 : Option Ordering} (T : ((o1 == some .gt || o1 == some .eq) && (o2 == some .lt || o2 == some .eq)) = false) (h1 : o1 = some .gt ∨ o1 = some .eq) (h2 : o2 = some .lt ∨ o2 = some .eq) : False := by
  rcases h1 with rfl | rfl <;> rcases h2 with rfl | rfl <;> cases T

set_option maxHeartbeats 1000000 in
theorem whole_any (b : Int) (hb0 : 0 ≤ b) (hb : b < 18446744073709551616) (w : World) :
    Calls Tryz.prog 60 #[.int .u64 b] w fun e w' => e = .returned (.tuple #[.int .i64 (wholeV b), .bool (wholeB b)]) ∧ w = w' := by
  have hfbf := fbf_run
  have T := inside_tests b.toNat
  have hsg : b.toNat / 9223372036854775808 % 2 = 1 ↔ 9223372036854775808 ≤ b := by omega
  have TI : insideN b.toNat = true → ∃ t v, (∀ w, (callFunc 180 #[.float .f64 b.toNat]).run Tryz.prog w = .ok (.value (.float .f64 t)) w) ∧
      (FloatKind.f64.format.order b.toNat t != some .eq) = !pureN b.toNat ∧ (∀ w, (convert 138 3 (.float .f64 b.toNat)).run Tryz.prog w = .ok (.int .i64 v) w) ∧ v = if 9223372036854775808 ≤ b then -(cutN b.toNat : Int) else cutN b.toNat := by
    intro hi
    refine ⟨_, _, fun w => archTrunc_run hi w, trunc_test hi, fun w => run_convert_float_int (P := Tryz.prog) w 138 3 .f64 .i64 b.toNat _ (by kernel_rfl) (by kernel_rfl) (to_int hi), ?_⟩
    simp only [hsg]
  have HW := Lib.hid (show wholeB b = (insideN b.toNat && pureN b.toNat) from rfl)
  have HV := Lib.hid (show wholeV b = if wholeB b = true then (if 9223372036854775808 ≤ b then -(cutN b.toNat : Int) else cutN b.toNat) else 0 from rfl)
  generalize insideN b.toNat = i at *
  generalize pureN b.toNat = p at *
  rcases h1 : FloatKind.f64.format.order b.toNat 14069245235905429504 with _ | (_ | _ | _) <;> rcases h2 : FloatKind.f64.format.order b.toNat 4845873199050653696 with _ | (_ | _ | _)
  all_goals
    rw [h1, h2] at T
    first
      | (have hi : i = false := T.symm
         subst hi
         have HF : Hid (wholeB b = false ∧ wholeV b = 0) := by have e := HW.out; refine ⟨e, ?_⟩; rw [HV.out, e]; rfl
         clear T TI HW HV hsg
         go_enter Tryz.func60, Tryz.ntmps60
         go_wp2
         go_ret2
         exact ⟨by rw [HF.out.1, HF.out.2]; rfl, rfl⟩)
      | (have hi : i = true := T.symm
         subst hi
         obtain ⟨t, v, ha, tt, tv, hv⟩ := TI rfl
         have HVV := Lib.hid hv
         clear T TI hsg hv
         cases p
         · have HF : Hid (wholeB b = false ∧ wholeV b = 0) := by have e := HW.out; refine ⟨e, ?_⟩; rw [HV.out, e]; rfl
           clear HW HV
           go_enter Tryz.func60, Tryz.ntmps60
           go_wp2
           go_ret2
           exact ⟨by rw [HF.out.1, HF.out.2]; rfl, rfl⟩
         · have HF : Hid (wholeB b = true ∧ wholeV b = v) := by have e := HW.out; refine ⟨e, ?_⟩; rw [HV.out, e, HVV.out]; rfl
           clear HW HV HVV
           go_enter Tryz.func60, Tryz.ntmps60
           go_wp2
           go_ret2
           exact ⟨by rw [HF.out.1, HF.out.2]; rfl, rfl⟩)
end Go.Proofs.YtnkfodelgpidkaaGreatDoor.Bt
namespace Go.Proofs.YtnkfodelgpidkaaGreatDoor.Bt
open Go.RowKit

theorem and_15 {b : Int} (h0 : 0 ≤ b) (h1 : b < 18446744073709551616) : bits .and .u64 b 15 = b % 16 := by
  rw [u64_and b 15 h0 h1 (by decide) (by decide)]
  have e : ((15 : Int).toNat : Nat) = 2 ^ 4 - 1 := by decide
  rw [e, Nat.and_two_pow_sub_one_eq_mod]
  omega

/-- The sign that stands for a digit. -/
def hexD (n : Nat) : Int := if n < 10 then 48 + n else 87 + n
theorem hex_at (n : Nat) (h : n < (⟨#[48, 49, 50, 51, 52, 53, 54, 55, 56, 57, 97, 98, 99, 100, 101, 102]⟩ : ByteArray).size) :
    ((((⟨#[48, 49, 50, 51, 52, 53, 54, 55, 56, 57, 97, 98, 99, 100, 101, 102]⟩ : ByteArray)[n]'h).toNat : Nat) : Int) = hexD n := by
  have h2 : n < 16 := h
  have h3 : n = 0 ∨ n = 1 ∨ n = 2 ∨ n = 3 ∨ n = 4 ∨ n = 5 ∨ n = 6 ∨ n = 7 ∨ n = 8 ∨ n = 9 ∨ n = 10 ∨ n = 11 ∨ n = 12 ∨ n = 13 ∨ n = 14 ∨ n = 15 := by omega
  rcases h3 with rfl | rfl | rfl | rfl | rfl | rfl | rfl | rfl | rfl | rfl | rfl | rfl | rfl | rfl | rfl | rfl <;> rfl

theorem conv16 (w : World) (x0 x1 x2 x3 x4 x5 x6 x7 x8 x9 x10 x11 x12 x13 x14 x15 : Int) :
    (convert 102 9 (.slice (some ⟨w.heap.size, 0, none⟩) 16 16)).run Tryz.prog (w.alloc (.cells #[.int .u8 x0, .int .u8 x1, .int .u8 x2, .int .u8 x3, .int .u8 x4, .int .u8 x5, .int .u8 x6, .int .u8 x7, .int .u8 x8, .int .u8 x9, .int .u8 x10, .int .u8 x11, .int .u8 x12, .int .u8 x13, .int .u8 x14, .int .u8 x15] 141)) = .ok (.string (strOfNums [x0, x1, x2, x3, x4, x5, x6, x7, x8, x9, x10, x11, x12, x13, x14, x15])) (w.alloc (.cells #[.int .u8 x0, .int .u8 x1, .int .u8 x2, .int .u8 x3, .int .u8 x4, .int .u8 x5, .int .u8 x6, .int .u8 x7, .int .u8 x8, .int .u8 x9, .int .u8 x10, .int .u8 x11, .int .u8 x12, .int .u8 x13, .int .u8 x14, .int .u8 x15] 141)) := by
  refine run_convert_bytes_arg _ 102 5 Tryz.underlying102 Tryz.underlying5 w.heap.size 0 16 16 [x0, x1, x2, x3, x4, x5, x6, x7, x8, x9, x10, x11, x12, x13, x14, x15] rfl ?_ 9 Tryz.underlying9
  intro i hi
  have h3 : i = 0 ∨ i = 1 ∨ i = 2 ∨ i = 3 ∨ i = 4 ∨ i = 5 ∨ i = 6 ∨ i = 7 ∨ i = 8 ∨ i = 9 ∨ i = 10 ∨ i = 11 ∨ i = 12 ∨ i = 13 ∨ i = 14 ∨ i = 15 := by omega
  rcases h3 with rfl | rfl | rfl | rfl | rfl | rfl | rfl | rfl | rfl | rfl | rfl | rfl | rfl | rfl | rfl | rfl <;> simp

/-- The sixteen digits of x, the highest first. -/
def hexL (x : Nat) : List Int := [hexD (x / 1152921504606846976 % 16), hexD (x / 72057594037927936 % 16), hexD (x / 4503599627370496 % 16), hexD (x / 281474976710656 % 16), hexD (x / 17592186044416 % 16), hexD (x / 1099511627776 % 16), hexD (x / 68719476736 % 16), hexD (x / 4294967296 % 16), hexD (x / 268435456 % 16), hexD (x / 16777216 % 16), hexD (x / 1048576 % 16), hexD (x / 65536 % 16), hexD (x / 4096 % 16), hexD (x / 256 % 16), hexD (x / 16 % 16), hexD (x % 16)]
def hexS (b : Int) : ByteArray := strOfNums (hexL b.toNat)
theorem hexS_eq {b : Int} (hb0 : 0 ≤ b) : strOfNums [hexD (b / 1152921504606846976 % 16).toNat, hexD (b / 72057594037927936 % 16).toNat, hexD (b / 4503599627370496 % 16).toNat, hexD (b / 281474976710656 % 16).toNat, hexD (b / 17592186044416 % 16).toNat, hexD (b / 1099511627776 % 16).toNat, hexD (b / 68719476736 % 16).toNat, hexD (b / 4294967296 % 16).toNat, hexD (b / 268435456 % 16).toNat, hexD (b / 16777216 % 16).toNat, hexD (b / 1048576 % 16).toNat, hexD (b / 65536 % 16).toNat, hexD (b / 4096 % 16).toNat, hexD (b / 256 % 16).toNat, hexD (b / 16 % 16).toNat, hexD (b % 16).toNat] = hexS b := by
  have h : ∀ c : Nat, (b / (c : Int) % 16).toNat = b.toNat / c % 16 := by
    intro c
    obtain ⟨x, rfl⟩ := Int.eq_ofNat_of_zero_le hb0
    simp only [Int.toNat_natCast]
    rw [← Int.natCast_ediv]; omega
  have h1 : (b % 16).toNat = b.toNat % 16 := by omega
  unfold hexS hexL
  rw [h1]
  have g : ∀ (c : Nat) (d : Int), d = (c : Int) → hexD (b / d % 16).toNat = hexD (b.toNat / c % 16) := by
    intro c d hd
    subst hd
    rw [h]
  congr 1
  simp only [List.cons.injEq, and_true]
  exact ⟨g 1152921504606846976 _ rfl, g 72057594037927936 _ rfl, g 4503599627370496 _ rfl, g 281474976710656 _ rfl, g 17592186044416 _ rfl, g 1099511627776 _ rfl, g 68719476736 _ rfl, g 4294967296 _ rfl, g 268435456 _ rfl, g 16777216 _ rfl, g 1048576 _ rfl, g 65536 _ rfl, g 4096 _ rfl, g 256 _ rfl, g 16 _ rfl⟩

set_option maxRecDepth 100000 in
set_option maxHeartbeats 2000000 in
theorem hex_any (b : Int) (hb0 : 0 ≤ b) (hb : b < 18446744073709551616) (w : World) :
    Calls Tryz.prog 62 #[.int .u64 b] w fun e w' => e = .returned (.string (hexS b)) ∧ Below w.heap.size w w' := by
  have e0 := and_15 (b := (b / 1152921504606846976)) (by omega) (by omega)
  have e1 := and_15 (b := (b / 72057594037927936)) (by omega) (by omega)
  have e2 := and_15 (b := (b / 4503599627370496)) (by omega) (by omega)
  have e3 := and_15 (b := (b / 281474976710656)) (by omega) (by omega)
  have e4 := and_15 (b := (b / 17592186044416)) (by omega) (by omega)
  have e5 := and_15 (b := (b / 1099511627776)) (by omega) (by omega)
  have e6 := and_15 (b := (b / 68719476736)) (by omega) (by omega)
  have e7 := and_15 (b := (b / 4294967296)) (by omega) (by omega)
  have e8 := and_15 (b := (b / 268435456)) (by omega) (by omega)
  have e9 := and_15 (b := (b / 16777216)) (by omega) (by omega)
  have e10 := and_15 (b := (b / 1048576)) (by omega) (by omega)
  have e11 := and_15 (b := (b / 65536)) (by omega) (by omega)
  have e12 := and_15 (b := (b / 4096)) (by omega) (by omega)
  have e13 := and_15 (b := (b / 256)) (by omega) (by omega)
  have e14 := and_15 (b := (b / 16)) (by omega) (by omega)
  have e15 := and_15 (b := b) (by omega) (by omega)
  have hx := hex_at
  have HE := Lib.hid (hexS_eq hb0)
  have hcv := conv16 w
  go_enter Tryz.func62, Tryz.ntmps62
  go_wp2
  refine wp_loop_rounds 17 ?_
  repeat any_goals (rw [rounds_succ]; go_wp2)
  go_ret
  exact ⟨congrArg (fun s => Ending.returned (.string s)) HE.out, (Below.refl _ _).alloc (Nat.le_refl _) _⟩
end Go.Proofs.YtnkfodelgpidkaaGreatDoor.Bt
namespace Go.Proofs.YtnkfodelgpidkaaGreatDoor.Bt
open Go.RowKit Go.Sort

theorem below_grow (w : World) (k : Nat) (os : Array Obj) : Below w.heap.size w (grow (w.drewN k) os) :=
  ⟨rfl, rfl, rfl, by simp [grow, World.drewN], fun i hi => by simp [grow, World.drewN, Array.getElem?_append, hi]⟩

def tab (w : World) : Prop := Lib.TabIs Tryz.prog w "internal/strconv.uint64pow10" .u64 Lib.pow10Tab

theorem itoa_any (n : Int) (h0 : -9223372036854775808 ≤ n) (h1 : n ≤ 9223372036854775807) (w : World) (htab : tab w) :
    Calls Tryz.prog 61 #[.int .i64 n] w fun e w' => e = .returned (.string ⟨(Lib.itoa n).toArray⟩) ∧ Below w.heap.size w w' := by
  have h := Any.strconv_Itoa Tryz.laysM171 n h0 h1 w htab
  change Calls Tryz.prog 61 _ _ _ at h
  exact h.mono fun e w' ⟨he, k, os, hw⟩ => ⟨he, hw ▸ below_grow w k os⟩

def nanS : ByteArray := ⟨#[78, 97, 78]⟩
def infS : ByteArray := ⟨#[73, 110, 102, 105, 110, 105, 116, 121]⟩
def negInfS : ByteArray := ⟨#[45, 73, 110, 102, 105, 110, 105, 116, 121]⟩
def wholeS (n : Int) : ByteArray := ⟨(Lib.itoa n).toArray⟩
def tildeS (b : Int) : ByteArray := ⟨#[126]⟩ ++ hexS b
def textI (b : Int) : ByteArray :=
  if nanB b = true then nanS else if infB b = true then (if 9223372036854775808 ≤ b then negInfS else infS) else if wholeB b = true then wholeS (wholeV b) else tildeS b

theorem hexS_size (b : Int) : (hexS b).size = 16 := by unfold hexS; rw [strOfNums_size]; rfl

theorem wholeV_lo {b : Int} : -9007199254740992 ≤ wholeV b ∧ wholeV b ≤ 9007199254740992 := by
  unfold wholeV
  split
  · rename_i h
    have hi : insideN b.toNat = true := by unfold wholeB at h; simp only [Bool.and_eq_true] at h; exact h.1
    have := inside_cut hi
    split <;> omega
  · omega

set_option maxHeartbeats 1000000 in
theorem text_any (b : Int) (hb0 : 0 ≤ b) (hb : b < 18446744073709551616) (w : World) (htab : tab w) :
    Calls Tryz.prog 37 #[.int .u64 b] w fun e w' => e = .returned (.string (textI b)) ∧ Below w.heap.size w w' := by
  have c1 := isNone_any b hb0 hb w
  have c2 := isInfinite_any b hb0 hb w
  have c3 := whole_any b hb0 hb w
  have c4 := hex_any b hb0 hb w
  have wv := wholeV_lo (b := b)
  have c5 := itoa_any (wholeV b) (by omega) (by omega) w htab
  have hadd : ∀ W : World, (binOp .add 9 (.string ⟨#[126]⟩) (.string (hexS b))).run Tryz.prog W = .ok (.string (tildeS b)) W := by
    intro W
    have := run_string_add_sum (P := Tryz.prog) (w := W) ⟨#[126]⟩ (hexS b) (by rw [hexS_size]; decide)
    simpa [binOp, tildeS] using this
  have hadd2 : ∀ W : World, (Op.stringOp .add ⟨#[126]⟩ (hexS b)).run Tryz.prog W = .ok (.string (tildeS b)) W := by
    intro W
    have := run_string_add_sum (P := Tryz.prog) (w := W) ⟨#[126]⟩ (hexS b) (by rw [hexS_size]; decide)
    exact this
  have HT : Hid (textI b = if nanB b = true then nanS else if infB b = true then (if 9223372036854775808 ≤ b then negInfS else infS) else if wholeB b = true then wholeS (wholeV b) else tildeS b) := rfl
  have SG : ∀ v, (bits .and .u64 b 9223372036854775808 != 0) = v → ((9223372036854775808 ≤ b) ↔ v = true) := fun v hs => sign_set hb0 hb hs
  have SGH := Lib.hid SG
  generalize textI b = t at *
  generalize hexS b = hs at *
  generalize tildeS b = ts at *
  cases hn : nanB b
  · cases hi : infB b
    · cases hw : wholeB b
      · rw [hn, hi, hw] at HT
        rw [hn] at c1
        rw [hi] at c2
        rw [hw] at c3
        have C1 := Lib.hid c1
        have C2 := Lib.hid c2
        have C3 := Lib.hid c3
        have C4 := Lib.hid c4
        clear c1 c2 c3 c4 c5 hn hi hw SG htab
        go_enter Tryz.func37, Tryz.ntmps37
        go_wp2_with (first | (go_at_call 58; refine C1.out.mono ?_; rintro e w' ⟨rfl, rfl⟩) | (go_at_call 59; refine C2.out.mono ?_; rintro e w' ⟨rfl, rfl⟩) | (go_at_call 60; refine C3.out.mono ?_; rintro e w' ⟨rfl, rfl⟩) | (go_at_call 62; refine C4.out.mono ?_; rintro e w1 ⟨rfl, hB⟩))
        go_ret
        exact ⟨congrArg (fun s => Ending.returned (.string s)) HT.out.symm, hB⟩
      · rw [hn, hi, hw] at HT
        rw [hn] at c1
        rw [hi] at c2
        rw [hw] at c3
        have C1 := Lib.hid c1
        have C2 := Lib.hid c2
        have C3 := Lib.hid c3
        have C5 := Lib.hid c5
        clear c1 c2 c3 c4 c5 hn hi hw SG htab
        go_enter Tryz.func37, Tryz.ntmps37
        go_wp2_with (first | (go_at_call 58; refine C1.out.mono ?_; rintro e w' ⟨rfl, rfl⟩) | (go_at_call 59; refine C2.out.mono ?_; rintro e w' ⟨rfl, rfl⟩) | (go_at_call 60; refine C3.out.mono ?_; rintro e w' ⟨rfl, rfl⟩) | (go_at_call 61; refine C5.out.mono ?_; rintro e w1 ⟨rfl, hB⟩))
        go_ret
        exact ⟨congrArg (fun s => Ending.returned (.string s)) HT.out.symm, hB⟩
    · rw [hn, hi] at HT
      rw [hn] at c1
      rw [hi] at c2
      have C1 := Lib.hid c1
      have C2 := Lib.hid c2
      clear c1 c2 c3 c4 c5 hn hi SG htab
      go_enter Tryz.func37, Tryz.ntmps37
      go_wp2_with (first | (go_at_call 58; refine C1.out.mono ?_; rintro e w' ⟨rfl, rfl⟩) | (go_at_call 59; refine C2.out.mono ?_; rintro e w' ⟨rfl, rfl⟩))
      all_goals
        rename_i hsg
        go_ret
        refine ⟨congrArg (fun s => Ending.returned (.string s)) ?_, Below.refl _ _⟩
        have h2 := SGH.out _ hsg
        rw [HT.out]
        simp only [h2]
        rfl
  · rw [hn] at HT
    rw [hn] at c1
    have C1 := Lib.hid c1
    clear c1 c2 c3 c4 c5 hn SG htab
    go_enter Tryz.func37, Tryz.ntmps37
    go_wp2_with (go_at_call 58; refine C1.out.mono ?_; rintro e w' ⟨rfl, rfl⟩)
    go_ret
    exact ⟨congrArg (fun s => Ending.returned (.string s)) HT.out.symm, Below.refl _ _⟩
end Go.Proofs.YtnkfodelgpidkaaGreatDoor.Bt
