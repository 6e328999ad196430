/- Whether a number is whole, by the program. -/
import Derived.Test.YtmepgpiihhilaaaDoorReal
namespace Go.Proofs.YtmepgpiihhilaaaDoor
open Go.RowKit

theorem mag_jn : ∀ (f w : Nat), 1 ≤ f → w < 9007199254740992 → magN (jn f w) = w * 2 ^ (f - 1)
  | 1, w, _, hw => by
    rw [jn]
    split
    · rename_i h
      unfold magN
      rw [if_pos (by omega)]; simp
    · rename_i h
      unfold magN
      have e : (4503599627370496 + w % 4503599627370496) / 4503599627370496 = 1 := by omega
      rw [e, if_neg (by decide)]
      simp; omega
  | f + 2, w, _, hw => by
    rw [jn]
    split
    · rename_i h
      rw [mag_jn (f + 1) (2 * w) (by omega) (by omega)]
      show 2 * w * 2 ^ f = w * 2 ^ (f + 1)
      rw [Nat.pow_succ, Nat.mul_comm 2 w, Nat.mul_assoc, Nat.mul_comm 2]
    · rename_i h
      unfold magN
      have e : ((f + 2) * 4503599627370496 + w % 4503599627370496) / 4503599627370496 = f + 2 := by omega
      rw [e, if_neg (by omega)]
      have e2 : ((f + 2) * 4503599627370496 + w % 4503599627370496) % 4503599627370496 + 4503599627370496 = w := by omega
      rw [e2]

theorem man_nat (x : Nat) : manI x = mantN x := by
  unfold manI mantN
  by_cases h : x / 4503599627370496 % 2048 = 0
  · rw [if_pos h, if_pos (by omega)]; omega
  · rw [if_neg h, if_neg (by omega)]; omega
theorem pow_nat (x : Nat) : powI x = expI x := by
  unfold powI expI
  by_cases h : x / 4503599627370496 % 2048 = 0
  · rw [if_pos h, if_pos (by omega)]
  · rw [if_neg h, if_neg (by omega)]; omega

/-- What x is without its sign, cut towards nought. -/
def cutN (x : Nat) : Nat := mantN x * 2 ^ (expI x).toNat / 2 ^ (-expI x).toNat
theorem cut_nat (x : Nat) : cutI x = cutN x := by
  unfold cutI cutN
  rw [man_nat, pow_nat]
  have hp : ∀ k : Nat, ((2 ^ k : Nat) : Int) = (2 : Int) ^ k := fun k => by rw [Int.natCast_pow]; rfl
  split
  · rename_i h
    rw [show (expI x).toNat = 0 by omega, Nat.pow_zero, Nat.mul_one, Int.natCast_ediv, hp]
  · rename_i h
    rw [show (-expI x).toNat = 0 by omega, Nat.pow_zero, Nat.div_one, Int.natCast_mul, hp]

/-- x has no bits behind its point. -/
def pureN (x : Nat) : Bool := decide (0 ≤ expI x) || mantN x % 2 ^ (-expI x).toNat == 0
def insideN (x : Nat) : Bool := decide (x % 9223372036854775808 ≤ 4845873199050653696)

theorem mant_lt (x : Nat) : mantN x < 9007199254740992 := by unfold mantN; split <;> omega

theorem inside_exp {x : Nat} (h : insideN x = true) : expI x ≤ 0 ∨ (expI x = 1 ∧ mantN x = 4503599627370496) := by
  have h := of_decide_eq_true h
  unfold expI mantN
  by_cases hf : x / 4503599627370496 % 2048 = 0
  · rw [if_pos hf]; omega
  · rw [if_neg hf, if_neg hf]; omega

theorem inside_cut {x : Nat} (h : insideN x = true) : cutN x ≤ 9007199254740992 := by
  unfold cutN
  rcases inside_exp h with h1 | ⟨h1, h2⟩
  · rw [show (expI x).toNat = 0 by omega, Nat.pow_zero, Nat.mul_one]
    have := Nat.div_le_self (mantN x) (2 ^ (-expI x).toNat)
    have := mant_lt x
    omega
  · rw [h1, h2]; decide

/-- The tests on both sides come to one test. -/
theorem inside_tests (x : Nat) : ((FloatKind.f64.format.order x 14069245235905429504 == some .gt || FloatKind.f64.format.order x 14069245235905429504 == some .eq) &&
    (FloatKind.f64.format.order x 4845873199050653696 == some .lt || FloatKind.f64.format.order x 4845873199050653696 == some .eq)) = insideN x := by
  by_cases hn : x % 9223372036854775808 ≤ 9218868437227405312
  · have o1 : FloatKind.f64.format.order x 14069245235905429504 = _ := order_val x 14069245235905429504 hn (by decide)
    have o2 : FloatKind.f64.format.order x 4845873199050653696 = _ := order_val x 4845873199050653696 hn (by decide)
    rw [o1, o2, val_ord, val_ord]
    have e1 : ordI 14069245235905429504 = -4845873199050653696 := by decide
    have e2 : ordI 4845873199050653696 = 4845873199050653696 := by decide
    rw [e1, e2]
    unfold ordI insideN
    simp only [compare, compareOfLessAndEq]
    by_cases hs : x / 9223372036854775808 % 2 = 1
    · simp only [hs, if_true]
      rw [Bool.eq_iff_iff]
      simp only [Bool.and_eq_true, Bool.or_eq_true, beq_iff_eq, Option.some.injEq, decide_eq_true_eq]
      repeat' split
      all_goals first | (simp; done) | (simp; omega) | omega
    · simp only [hs, if_false]
      rw [Bool.eq_iff_iff]
      simp only [Bool.and_eq_true, Bool.or_eq_true, beq_iff_eq, Option.some.injEq, decide_eq_true_eq]
      repeat' split
      all_goals first | (simp; done) | (simp; omega) | omega
  · have hr : ∀ y, FloatKind.f64.format.order x y = none := by
      intro y
      show (Ieee.double.read x).order _ = none
      rcases read_cases x with ⟨_, h⟩ | ⟨h, _⟩ | ⟨h, _⟩
      · rw [h]; rfl
      · omega
      · omega
    rw [hr, hr]
    have : insideN x = false := by unfold insideN; exact decide_eq_false (by omega)
    rw [this]; rfl

theorem inside_num {x : Nat} (h : insideN x = true) : x % 9223372036854775808 ≤ 4845873199050653696 := of_decide_eq_true h
theorem read_inside {x : Nat} (h : insideN x = true) : Ieee.double.read x = .number (x / 9223372036854775808 % 2 == 1) (mantN x) (expI x) := by
  have h := inside_num h
  rcases read_cases x with ⟨h1, _⟩ | ⟨h1, _⟩ | ⟨_, h1⟩
  · omega
  · omega
  · exact h1

/-- By how much the least power lies below nought. -/
def kk : Nat := 1074
theorem mag_jn_kk (c : Nat) (hc : c < 9007199254740992) : magN (jn 1075 c) = c * 2 ^ kk := by
  have h := mag_jn 1075 c (by omega) hc
  rw [show 1075 - 1 = kk from rfl] at h
  exact h
theorem kk_eq : kk = 1074 := rfl

/-- The word of a whole number up to 2^53 with a sign. -/
def wordN (neg : Bool) (c : Nat) : Nat := Ieee.double.nearest neg c 0
theorem word_low (neg : Bool) {c : Nat} (h : c ≤ 9007199254740992) : ∃ r, wordN neg c = (if neg then 9223372036854775808 + r else r) ∧ r ≤ 4845873199050653696 ∧ magN r = c * 2 ^ kk := by
  by_cases hc : c = 9007199254740992
  · subst hc
    refine ⟨4845873199050653696, ?_, by omega, by decide +kernel⟩
    unfold wordN
    cases neg <;> decide +kernel
  · refine ⟨jn 1075 c, ?_, ?_, mag_jn_kk c (by omega)⟩
    · unfold wordN
      rw [nearest_exact neg c 0 (by omega) (by omega) (by omega)]
      unfold Ieee.Format.word
      rw [dbl_sign]; rfl
    · have h1 := mag_jn_kk c (by omega)
      have h2 : magN 4845873199050653696 = 9007199254740992 * 2 ^ kk := by decide +kernel
      have h3 : magN (jn 1075 c) < magN 4845873199050653696 := by
        rw [h1, h2]; exact Nat.mul_lt_mul_of_pos_right (by omega) (Nat.two_pow_pos _)
      have := mag_lt_iff.1 h3
      omega

theorem trunc_word {x : Nat} (h : insideN x = true) : FloatKind.f64.encode ((FloatKind.f64.decode x).integral .zero) = wordN (x / 9223372036854775808 % 2 == 1) (cutN x) := by
  show Ieee.double.write ((Ieee.double.read x).integral .zero) = _
  rw [read_inside h]
  show Ieee.double.nearest _ (Ieee.Toward.cut .zero _ (mantN x <<< (expI x).toNat) (-expI x).toNat) 0 = _
  rw [cut_zero, Nat.shiftLeft_eq]
  rfl

theorem sign_of {neg : Bool} {r : Nat} (hr : r ≤ 4845873199050653696) : ((if neg then 9223372036854775808 + r else r) / 9223372036854775808 % 2 = 1 ↔ neg = true) ∧ (if neg then 9223372036854775808 + r else r) % 9223372036854775808 = r := by
  cases neg
  · simp; omega
  · simp; omega

theorem val_word (neg : Bool) {c : Nat} (h : c ≤ 9007199254740992) : valI (wordN neg c) = (if neg then -(c : Int) else c) * 2 ^ kk ∧ wordN neg c % 9223372036854775808 ≤ 4845873199050653696 := by
  obtain ⟨r, h1, h2, h3⟩ := word_low neg h
  obtain ⟨s1, s2⟩ := sign_of (neg := neg) h2
  rw [h1]
  refine ⟨?_, by rw [s2]; exact h2⟩
  unfold valI
  rw [s2, h3]
  have hp : ((c * 2 ^ kk : Nat) : Int) = (c : Int) * 2 ^ kk := by rw [Int.natCast_mul, Int.natCast_pow]; rfl
  rw [hp]
  cases neg
  · rw [if_neg (by rw [s1]; decide)]; rfl
  · rw [if_pos (s1.2 rfl)]; simp [Int.neg_mul]

theorem pure_iff (x : Nat) : mantN x * 2 ^ (expI x + 1074).toNat = cutN x * 2 ^ kk ↔ pureN x = true := by
  have lo := exp_lo x
  unfold cutN pureN
  by_cases he : 0 ≤ expI x
  · have e1 : (expI x + 1074).toNat = (expI x).toNat + kk := by rw [kk_eq]; omega
    rw [e1, show (-expI x).toNat = 0 by omega, Nat.pow_zero, Nat.div_one, Nat.pow_add, Nat.mul_assoc]
    simp [he]
  · rw [show (expI x).toNat = 0 by omega, Nat.pow_zero, Nat.mul_one]
    have e1 : 2 ^ kk = 2 ^ (-expI x).toNat * 2 ^ (expI x + 1074).toNat := by rw [← Nat.pow_add]; congr 1; rw [kk_eq]; omega
    rw [e1, ← Nat.mul_assoc]
    have p := Nat.two_pow_pos (expI x + 1074).toNat
    have hdm := Nat.div_add_mod (mantN x) (2 ^ (-expI x).toNat)
    rw [Nat.mul_comm] at hdm
    simp only [he, decide_false, Bool.false_or, beq_iff_eq]
    constructor
    · intro h2
      have := Nat.eq_of_mul_eq_mul_right p h2
      omega
    · intro h2
      have h3 : mantN x = mantN x / 2 ^ (-expI x).toNat * 2 ^ (-expI x).toNat := by omega
      exact congrArg (fun u => u * 2 ^ (expI x + 1074).toNat) h3

/-- 'x != Trunc(x)'. -/
theorem trunc_test {x : Nat} (h : insideN x = true) : (FloatKind.f64.format.order x (wordN (x / 9223372036854775808 % 2 == 1) (cutN x)) != some .eq) = !pureN x := by
  have hc := inside_cut h
  have hx := inside_num h
  obtain ⟨v1, v2⟩ := val_word (x / 9223372036854775808 % 2 == 1) hc
  have ho : FloatKind.f64.format.order x (wordN (x / 9223372036854775808 % 2 == 1) (cutN x)) = _ := order_val x (wordN (x / 9223372036854775808 % 2 == 1) (cutN x)) (by omega) (by omega)
  rw [ho, v1, val_num]
  have key : (compare ((if (x / 9223372036854775808 % 2 == 1) = true then -(mantN x : Int) else mantN x) * 2 ^ (expI x + 1074).toNat) ((if (x / 9223372036854775808 % 2 == 1) = true then -(cutN x : Int) else cutN x) * 2 ^ kk) = .eq) ↔ pureN x = true := by
    rw [← pure_iff x]
    have hp : ∀ (c k : Nat), ((c * 2 ^ k : Nat) : Int) = (c : Int) * 2 ^ k := fun c k => by rw [Int.natCast_mul, Int.natCast_pow]; rfl
    have hz : ∀ a b : Int, compare a b = .eq ↔ a = b := by
      intro a b
      simp only [compare, compareOfLessAndEq]
      split
      · simp; omega
      · split <;> simp <;> omega
    rw [hz]
    split
    · rw [Int.neg_mul, Int.neg_mul, ← hp, ← hp]; omega
    · rw [← hp, ← hp]; omega
  cases hpu : pureN x
  · rw [hpu] at key
    rw [bne_iff_ne.2 (by intro e; have := key.1 (Option.some.inj e); cases this)]; rfl
  · rw [hpu] at key
    rw [key.2 rfl]; rfl

theorem to_int {x : Nat} (h : insideN x = true) : floatToIntVal .f64 x .i64 = some (if x / 9223372036854775808 % 2 = 1 then -(cutN x : Int) else cutN x) := by
  have hc := inside_cut h
  unfold floatToIntVal
  have : (FloatKind.f64.decode x).toInt .zero = some (if x / 9223372036854775808 % 2 = 1 then -(cutN x : Int) else cutN x) := by
    show (Ieee.double.read x).toInt .zero = _
    rw [read_inside h]
    show some (Ieee.signed _ (Ieee.Toward.cut .zero _ (mantN x <<< (expI x).toNat) (-expI x).toNat) 0) = _
    rw [cut_zero, Nat.shiftLeft_eq, signed_eq]
    congr 1
    by_cases hs : x / 9223372036854775808 % 2 = 1 <;> simp [hs] <;> rfl
  rw [this]
  simp only
  rw [if_pos]
  have h1 : IntKind.i64.min = -9223372036854775808 := by decide
  have h2 : IntKind.i64.max = 9223372036854775807 := by decide
  rw [h1, h2]
  split <;> omega

def wholeB (b : Int) : Bool := insideN b.toNat && pureN b.toNat
def wholeV (b : Int) : Int := if wholeB b = true then (if 9223372036854775808 ≤ b then -(cutN b.toNat : Int) else cutN b.toNat) else 0

theorem archTrunc_run {x : Nat} (h : insideN x = true) (w : World) : (callFunc 74 #[.float .f64 x]).run Tryd.prog w = .ok (.value (.float .f64 (wordN (x / 9223372036854775808 % 2 == 1) (cutN x)))) w := by
  rw [run_callFunc_extern (e := Extern.MathFloor.toIntegral "math.archTrunc" .zero) Tryd.func74 (by kernel_rfl) (by kernel_rfl) (by kernel_rfl) (by kernel_rfl)]
  have hr : FloatKind.f64.decode x = _ := read_inside h
  have ht := trunc_word h
  rw [← ht]
  show (Sem.run Tryd.prog (match FloatKind.f64.decode x with | .nan s t => _ | d => (pure (Value.float .f64 (FloatKind.f64.encode (d.integral .zero))) : Sem Value)) w).andThen _ = _
  rw [hr]
  rfl

theorem inside_absurd {o1 o2 : Option Ordering} (T : ((o1 == some .gt || o1 == some .eq) && (o2 == some .lt || o2 == some .eq)) = false) (h1 : o1 = some .gt ∨ o1 = some .eq) (h2 : o2 = some .lt ∨ o2 = some .eq) : False := by
  rcases h1 with rfl | rfl <;> rcases h2 with rfl | rfl <;> cases T

set_option maxHeartbeats 1000000 in
theorem whole_any (b : Int) (hb0 : 0 ≤ b) (hb : b < 18446744073709551616) (w : World) :
    Calls Tryd.prog 34 #[.int .u64 b] w fun e w' => e = .returned (.tuple #[.int .i64 (wholeV b), .bool (wholeB b)]) ∧ w = w' := by
  have hfbf := fbf_run
  have T := inside_tests b.toNat
  have hsg : b.toNat / 9223372036854775808 % 2 = 1 ↔ 9223372036854775808 ≤ b := by omega
  have TI : insideN b.toNat = true → ∃ t v, (∀ w, (callFunc 74 #[.float .f64 b.toNat]).run Tryd.prog w = .ok (.value (.float .f64 t)) w) ∧
      (FloatKind.f64.format.order b.toNat t != some .eq) = !pureN b.toNat ∧ (∀ w, (convert 43 3 (.float .f64 b.toNat)).run Tryd.prog w = .ok (.int .i64 v) w) ∧ v = if 9223372036854775808 ≤ b then -(cutN b.toNat : Int) else cutN b.toNat := by
    intro hi
    refine ⟨_, _, fun w => archTrunc_run hi w, trunc_test hi, fun w => run_convert_float_int (P := Tryd.prog) w 43 3 .f64 .i64 b.toNat _ (by kernel_rfl) (by kernel_rfl) (to_int hi), ?_⟩
    simp only [hsg]
  have HW := Lib.hid (show wholeB b = (insideN b.toNat && pureN b.toNat) from rfl)
  have HV := Lib.hid (show wholeV b = if wholeB b = true then (if 9223372036854775808 ≤ b then -(cutN b.toNat : Int) else cutN b.toNat) else 0 from rfl)
  generalize insideN b.toNat = i at *
  generalize pureN b.toNat = p at *
  rcases h1 : FloatKind.f64.format.order b.toNat 14069245235905429504 with _ | (_ | _ | _) <;> rcases h2 : FloatKind.f64.format.order b.toNat 4845873199050653696 with _ | (_ | _ | _)
  all_goals
    rw [h1, h2] at T
    first
      | (have hi : i = false := T.symm
         subst hi
         have HF : Hid (wholeB b = false ∧ wholeV b = 0) := by have e := HW.out; refine ⟨e, ?_⟩; rw [HV.out, e]; rfl
         clear T TI HW HV hsg
         go_enter Tryd.func34, Tryd.ntmps34
         go_wp2
         go_ret2
         exact ⟨by rw [HF.out.1, HF.out.2]; rfl, rfl⟩)
      | (have hi : i = true := T.symm
         subst hi
         obtain ⟨t, v, ha, tt, tv, hv⟩ := TI rfl
         have HVV := Lib.hid hv
         clear T TI hsg hv
         cases p
         · have HF : Hid (wholeB b = false ∧ wholeV b = 0) := by have e := HW.out; refine ⟨e, ?_⟩; rw [HV.out, e]; rfl
           clear HW HV
           go_enter Tryd.func34, Tryd.ntmps34
           go_wp2
           go_ret2
           exact ⟨by rw [HF.out.1, HF.out.2]; rfl, rfl⟩
         · have HF : Hid (wholeB b = true ∧ wholeV b = v) := by have e := HW.out; refine ⟨e, ?_⟩; rw [HV.out, e, HVV.out]; rfl
           clear HW HV HVV
           go_enter Tryd.func34, Tryd.ntmps34
           go_wp2
           go_ret2
           exact ⟨by rw [HF.out.1, HF.out.2]; rfl, rfl⟩)
end Go.Proofs.YtmepgpiihhilaaaDoor
