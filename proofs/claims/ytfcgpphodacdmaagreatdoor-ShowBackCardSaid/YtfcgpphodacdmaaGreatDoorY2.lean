/- Part of a proof: contracts of functions. -/
import Derived.Laws.FloatArith
import Derived.Laws.BitsAllLaws
import Derived.IntWalk
import Derived.RowKit
import Derived.Below
import Derived.Test.YtfcgpphodacdmaaGreatDoorRows
import Derived.WalkKit
import Derived.WalkSpells
import Derived.WalkLawsBesides
import Derived.Handy
import Derived.Lib.Hide
import Derived.Laws.Externs
import Derived.Test.YtfcgpphodacdmaaGreatDoorSh
import Derived.Test.YtfcgpphodacdmaaGreatDoorY0
set_option maxRecDepth 100000
set_option maxHeartbeats 4000000
set_option linter.all false
namespace Go.Proofs.YtfcgpphodacdmaaGreatDoor.Bt
open Go.RowKit
def nanB (b : Int) : Bool := decide (9218868437227405312 < b % 9223372036854775808)
def infB (b : Int) : Bool := b % 9223372036854775808 == 9218868437227405312
def zerB (b : Int) : Bool := b % 9223372036854775808 == 0
def noneB : Int := 9221120237041090561
def canon (b : Int) : Int := if nanB b then noneB else b
def signB (b : Int) : Int := b / 9223372036854775808
theorem andNot_sign {b : Int} (h0 : 0 ≤ b) (h1 : b < 18446744073709551616) : bits .andNot .u64 b 9223372036854775808 = b % 9223372036854775808 := by
 rw [u64_andNot b 9223372036854775808 h0 h1 (by decide) (by decide)];have e : (18446744073709551615 - (9223372036854775808 : Int).toNat : Nat) = 2 ^ 63 - 1 := by decide
 rw [e, Nat.and_two_pow_sub_one_eq_mod];omega
theorem ret_bool {a b : Bool} (h : a = b) : Ending.returned (.bool a) = .returned (.bool b) := by rw [h]
def fres (op : BinOp) (x y : Nat) (w : World) : Nat := (floatBits op .f64 x y).getD (Question.cut (.nanBits .f64 x y) (w.tape w.drawn (.nanBits .f64 x y)))
def fwld (op : BinOp) (x y : Nat) (w : World) : World := if (floatBits op .f64 x y).isSome then w else w.drew
def fop (op : BinOp) (a b : Int) : Int := match floatBits op .f64 a.toNat b.toNat with | some r => canon r | none => noneB
def mantN (x : Nat) : Nat := if x / 4503599627370496 % 2048 = 0 then x % 4503599627370496 else x % 4503599627370496 + 4503599627370496
def expI (x : Nat) : Int := if x / 4503599627370496 % 2048 = 0 then -1074 else ((x / 4503599627370496 % 2048 : Nat) : Int) - 1075
theorem dbl_sign : Ieee.double.signWeight = 9223372036854775808 := by decide
theorem dbl_binade : Ieee.double.binade = 4503599627370496 := by decide
theorem dbl_inf : Ieee.double.infRung = 9218868437227405312 := by decide
theorem dbl_least : Ieee.double.leastPlace = -1074 := by decide
theorem zab (x : Nat) :
  (9218868437227405312 < x % 9223372036854775808 ∧ Ieee.double.read x = .nan (x / 9223372036854775808 % 2 == 1) (x % 9223372036854775808 - 9218868437227405312)) ∨
  (x % 9223372036854775808 = 9218868437227405312 ∧ Ieee.double.read x = .infinity (x / 9223372036854775808 % 2 == 1)) ∨
  (x % 9223372036854775808 < 9218868437227405312 ∧ Ieee.double.read x = .number (x / 9223372036854775808 % 2 == 1) (mantN x) (expI x)) := by
 unfold Ieee.Format.read mantN expI;simp only [dbl_sign, dbl_binade, dbl_inf, dbl_least];by_cases h1 : x % 9223372036854775808 < 4503599627370496
 ·right; right
  rw [if_pos h1, if_pos (by omega), if_pos (by omega)];refine ⟨by omega, ?_⟩;congr 1
  omega
 ·rw [if_neg h1];by_cases h2 : x % 9223372036854775808 < 9218868437227405312
  ·right; right
   rw [if_pos h2, if_neg (by omega), if_neg (by omega)];refine ⟨h2, ?_⟩;congr 1
   ·omega
   ·omega
  ·rw [if_neg h2];by_cases h3 : x % 9223372036854775808 = 9218868437227405312
   ·right; left
    rw [if_pos h3]; exact ⟨h3, rfl⟩
   ·left
    rw [if_neg h3]; exact ⟨by omega, rfl⟩
theorem nanB_nat (x : Nat) : nanB x = decide (9218868437227405312 < x % 9223372036854775808) := by
 unfold nanB;rw [decide_eq_decide]; omega
def ofI (n : Int) : Int := (floatOfInt .f64 n : Nat)
theorem ofI_nonneg (n : Int) : 0 ≤ ofI n := by unfold ofI; omega
theorem ofI_lt (n : Int) : ofI n < 18446744073709551616 := by
 have := floatOfInt_wf .f64 n;have h2 : floatOfInt .f64 n < 18446744073709551616 := by simpa [Lit.wf] using this
 unfold ofI; omega
def negI (a : Int) : Int := if nanB a then noneB else if a < 9223372036854775808 then a + 9223372036854775808 else a - 9223372036854775808
theorem zlD (b : Int) (w : World) : (callFunc 151 #[.int .u64 b]).run Tryz.prog w = .ok (.value (.float .f64 b.toNat)) w := by
 rw [run_callFunc_extern (e := Extern.MathFloatBits.float64frombits) Tryz.func151 (by kernel_rfl) (by kernel_rfl) (by kernel_rfl) (by kernel_rfl)];rfl
theorem zgH (b : Int) (h0 : 0 ≤ b) (h1 : b < 18446744073709551616) (w : World) :
  Calls Tryz.prog 109 #[.int .u64 b] w fun e w' => e = .returned (.bool (nanB b)) ∧ w = w' := by
 go_enter Tryz.func109, Tryz.ntmps109
 go_wp2
 go_ret;exact ⟨ret_bool (by rw [andNot_sign h0 h1]; rfl), rfl⟩
theorem zcj (b : Int) (h0 : 0 ≤ b) (h1 : b < 18446744073709551616) (w : World) :
  Calls Tryz.prog 110 #[.int .u64 b] w fun e w' => e = .returned (.bool (infB b)) ∧ w = w' := by
 go_enter Tryz.func110, Tryz.ntmps110
 go_wp2
 go_ret;exact ⟨ret_bool (by rw [andNot_sign h0 h1]; rfl), rfl⟩
def zgI (b : Int) : Int := if b / 4503599627370496 % 2048 = 0 then b % 4503599627370496 else b % 4503599627370496 + 4503599627370496
def zaB (b : Int) : Int := if b / 4503599627370496 % 2048 = 0 then -1074 else b / 4503599627370496 % 2048 - 1075
def jn : Nat → Nat → Nat
 | 0, w => w
 | 1, w => if w < 4503599627370496 then w else 4503599627370496 + w % 4503599627370496
 | f + 2, w => if w < 4503599627370496 then jn (f + 1) (2 * w) else (f + 2) * 4503599627370496 + w % 4503599627370496
def jnI (f x : Int) : Int := (jn f.toNat x.toNat : Nat)
theorem zjS (k : Nat) : (0 : Int) < 2 ^ k := Int.pow_pos (by decide)
def zrL (a b : Int) : Int :=
 if nanB a = true ∨ nanB b = true ∨ infB a = true ∨ zerB b = true then noneB
 else if infB b = true ∨ zerB a = true then a
 else if zaB a < zaB b then a
 else a / 9223372036854775808 * 9223372036854775808 + jnI (zaB b + 1075) (zgI a * 2 ^ (zaB a - zaB b).toNat % zgI b)
theorem zjT {b : Int} (h0 : 0 ≤ b) (h1 : b < 18446744073709551616) : bits .and .u64 b 9223372036854775808 = b / 9223372036854775808 * 9223372036854775808 := by
 rw [u64_and b 9223372036854775808 h0 h1 (by decide) (by decide)];have e : ((9223372036854775808 : Int).toNat : Nat) = 2 ^ 63 := by decide
 rw [e, nat_bit];omega
theorem zkE : ∀ (f w : Nat), f ≤ 2046 → w < 9007199254740992 → jn f w < 9218868437227405312
 | 0, w, _, hw => by rw [jn]; omega
 | 1, w, _, hw => by rw [jn]; split <;> omega
 | f + 2, w, hf, hw => by
  rw [jn];split
  ·exact zkE (f + 1) (2 * w) (by omega) (by omega)
  ·have := Nat.mod_lt w (show 0 < 4503599627370496 by decide);have h3 : (f + 2) * 4503599627370496 ≤ 2046 * 4503599627370496 := Nat.mul_le_mul_right _ hf;omega
def znj (b : Int) : Int := if zaB b < 0 then zgI b / 2 ^ (-zaB b).toNat else zgI b * 2 ^ (zaB b).toNat
def zrz (b : Int) : Int := if nanB b = true ∨ infB b = true then 0 else if 9223372036854775808 ≤ b then (-znj b) % 4294967296 else znj b % 4294967296
theorem za1 (j k : Nat) : (2 : Int) ^ (j + k) = 2 ^ j * 2 ^ k := Int.pow_add ..
theorem zjU {b : Int} (h0 : 0 ≤ b) (h1 : b < 18446744073709551616) {v : Bool} (hs : (bits .and .u64 b 9223372036854775808 != 0) = v) : (9223372036854775808 ≤ b) ↔ v = true := by
 rw [zjT h0 h1] at hs;subst hs;rw [bne_iff_ne]; omega
theorem zee (s : Bool) (n d : Nat) : Ieee.Toward.cut .zero s n d = n / 2 ^ d := by
 unfold Ieee.Toward.cut;simp only [Nat.one_shiftLeft, Bool.toNat_false, Nat.add_zero];by_cases h : d ≤ n.log2 + 2
 ·rw [Nat.min_eq_left h]
 ·rw [Nat.min_eq_right (by omega)];have h1 : n < 2 ^ (n.log2 + 1) := Nat.lt_log2_self;have h2 := Nat.pow_le_pow_right (show 0 < 2 by decide) (show n.log2 + 1 ≤ n.log2 + 2 by omega);have h3 := Nat.pow_le_pow_right (show 0 < 2 by decide) (show n.log2 + 1 ≤ d by omega);rw [Nat.div_eq_of_lt (by omega), Nat.div_eq_of_lt (by omega)]
theorem zcW (s : Bool) (n : Nat) : Ieee.Toward.cut .even s n 0 = n := by
 unfold Ieee.Toward.cut;simp [Nat.mod_one]
def upN (f m : Nat) : Nat := min (52 - m.log2) (f - 1)
theorem zkF : ∀ (f m : Nat), 1 ≤ f → 0 < m → m < 9007199254740992 → jn f m = (f - 1 - upN f m) * 4503599627370496 + m * 2 ^ upN f m
 | 1, m, _, h0, hm => by
  rw [jn, upN];simp only [Nat.sub_self, Nat.min_zero, Nat.pow_zero, Nat.mul_one, Nat.zero_mul, Nat.zero_add];split <;> omega
 | f + 2, m, _, h0, hm => by
  rw [jn];by_cases hl : m < 4503599627370496
  ·rw [if_pos hl, zkF (f + 1) (2 * m) (by omega) (by omega) (by omega)];have h2 : (2 * m).log2 = m.log2 + 1 := Nat.log2_two_mul (by omega);have h3 : m.log2 < 52 := (Nat.log2_lt (by omega)).2 hl;have h4 : upN (f + 2) m = upN (f + 1) (2 * m) + 1 := by unfold upN; rw [h2]; omega
   rw [h4, Nat.pow_succ];have h5 : f + 2 - 1 - (upN (f + 1) (2 * m) + 1) = f + 1 - 1 - upN (f + 1) (2 * m) := by omega
   rw [h5];congr 1
   rw [Nat.mul_comm 2 m, Nat.mul_assoc, Nat.mul_comm 2]
  ·rw [if_neg hl];have h3 : ¬ m.log2 < 52 := fun h => hl ((Nat.log2_lt (by omega)).1 h)
   have h4 : upN (f + 2) m = 0 := by unfold upN; omega
   rw [h4];simp only [Nat.pow_zero, Nat.mul_one, Nat.sub_zero];omega
theorem zcX (s : Bool) (m : Nat) (p : Int) (hm : m < 9007199254740992) (hp : -1074 ≤ p) (hp2 : p ≤ 971) :
  Ieee.double.nearest s m p = Ieee.double.word s (jn (p + 1075).toNat m) := by
 unfold Ieee.Format.nearest;by_cases h0 : m = 0
 ·subst h0;rw [if_pos rfl];have : ∀ f, jn f 0 = 0 := by
   intro f
   induction f with
   | zero => rfl
   | succ f ih =>
    cases f with
    | zero => rw [jn]; simp
    | succ f => rw [jn]; simpa using ih
  rw [this]
 ·rw [if_neg h0];have hl : m.log2 < 53 := (Nat.log2_lt h0).2 (by omega);have hf : (Ieee.double.fractionBits : Int) = 52 := rfl;simp only [dbl_least, dbl_binade, dbl_inf, hf];have hmax : max (p + (m.log2 : Int) - 52) (-1074) = p - (upN (p + 1075).toNat m : Int) := by unfold upN; omega
  have hup : (upN (p + 1075).toNat m : Int) ≤ p + 1074 := by unfold upN; omega
  rw [hmax];have e1 : (p - (p - (upN (p + 1075).toNat m : Int))).toNat = upN (p + 1075).toNat m := by omega
  have e2 : (p - (upN (p + 1075).toNat m : Int) - p).toNat = 0 := by omega
  rw [e1, e2, zcW, Nat.shiftLeft_eq];have e3 : (p - (upN (p + 1075).toNat m : Int) - -1074).toNat = (p + 1075).toNat - 1 - upN (p + 1075).toNat m := by omega
  rw [e3, ← zkF _ _ (by omega) (by omega) hm];have := zkE (p + 1075).toNat m (by omega) hm;rw [Nat.min_eq_left (by omega)]
def qu (r : Nat) : Nat := if r / 4503599627370496 = 0 then r else (r % 4503599627370496 + 4503599627370496) * 2 ^ (r / 4503599627370496 - 1)
def valI (x : Nat) : Int := if x / 9223372036854775808 % 2 = 1 then -(qu (x % 9223372036854775808) : Int) else qu (x % 9223372036854775808)
def zac (x : Nat) : Int := if x / 9223372036854775808 % 2 = 1 then -((x % 9223372036854775808 : Nat) : Int) else (x % 9223372036854775808 : Nat)
theorem zef {r r' : Nat} (h : r < r') : qu r < qu r' := by
 have hd : r / 4503599627370496 ≤ r' / 4503599627370496 := by omega
 unfold qu;by_cases h0 : r / 4503599627370496 = 0
 ·rw [if_pos h0];by_cases h1 : r' / 4503599627370496 = 0
  ·rw [if_pos h1]; exact h
  ·rw [if_neg h1];have := Nat.two_pow_pos (r' / 4503599627370496 - 1);have h3 : (r' % 4503599627370496 + 4503599627370496) * 1 ≤ (r' % 4503599627370496 + 4503599627370496) * 2 ^ (r' / 4503599627370496 - 1) := Nat.mul_le_mul_left _ this;omega
 ·rw [if_neg h0, if_neg (by omega)];have hr := Nat.mod_lt r (show 0 < 4503599627370496 by decide);by_cases h2 : r / 4503599627370496 = r' / 4503599627370496
  ·rw [h2];exact Nat.mul_lt_mul_of_pos_right (by omega) (Nat.two_pow_pos _)
  ·have e : 2 ^ (r' / 4503599627370496 - 1) = 2 ^ (r / 4503599627370496 - 1) * 2 * 2 ^ (r' / 4503599627370496 - 1 - r / 4503599627370496) := by
    rw [← Nat.pow_succ, ← Nat.pow_add]; congr 1; omega
   have p1 := Nat.two_pow_pos (r / 4503599627370496 - 1);have p2 := Nat.two_pow_pos (r' / 4503599627370496 - 1 - r / 4503599627370496);rw [e];generalize 2 ^ (r / 4503599627370496 - 1) = u at p1 ⊢;generalize 2 ^ (r' / 4503599627370496 - 1 - r / 4503599627370496) = v at p2 ⊢;have s1 : (r % 4503599627370496 + 4503599627370496) * u < 9007199254740992 * u := Nat.mul_lt_mul_of_pos_right (by omega) p1;have s2 : 4503599627370496 * (u * 2 * v) ≤ (r' % 4503599627370496 + 4503599627370496) * (u * 2 * v) := Nat.mul_le_mul_right _ (by omega);have s3 : u * 2 * 1 ≤ u * 2 * v := Nat.mul_le_mul_left _ p2;omega
theorem zjV : qu 0 = 0 := by decide
theorem vS {r r' : Nat} : qu r < qu r' ↔ r < r' := by
 constructor
 ·intro h;rcases Nat.lt_trichotomy r r' with h1 | h1 | h1
  ·exact h1
  ·subst h1; omega
  ·have := zef h1; omega
 ·exact zef
theorem zaC {a b a' b' : Int} (h1 : a < b ↔ a' < b') (h2 : a = b ↔ a' = b') : compare a b = compare a' b' := by
 simp only [compare, compareOfLessAndEq, h1, h2]
theorem jK (x y : Nat) : compare (valI x) (valI y) = compare (zac x) (zac y) := by
 have l1 := @vS (x % 9223372036854775808) (y % 9223372036854775808);have l2 := @vS (y % 9223372036854775808) (x % 9223372036854775808);have z1 := @vS 0 (x % 9223372036854775808);have z2 := @vS 0 (y % 9223372036854775808);rw [zjV] at z1 z2;unfold valI zac;apply zaC
 ·split <;> split <;> omega
 ·split <;> split <;> omega
theorem zcY {a b c : Int} (hc : 0 < c) : compare (a * c) (b * c) = compare a b := by
 apply zaC
 ·exact Int.mul_lt_mul_right hc
 ·exact ⟨fun h => Int.eq_of_mul_eq_mul_right (by omega) h, fun h => by rw [h]⟩
theorem zcK (x : Nat) : qu (x % 9223372036854775808) = mantN x * 2 ^ (expI x + 1074).toNat := by
 unfold qu mantN expI;by_cases h : x / 4503599627370496 % 2048 = 0
 ·rw [if_pos h, if_pos h, if_pos (by omega)];simp; omega
 ·rw [if_neg h, if_neg h, if_neg (by omega)];congr 1
  ·omega
  ·congr 1; omega
theorem zaD (s : Bool) (m k : Nat) : Ieee.signed s m k = (if s then -(m : Int) else m) * 2 ^ k := by
 unfold Ieee.signed;rw [Nat.shiftLeft_eq];have : ((m * 2 ^ k : Nat) : Int) = (m : Int) * 2 ^ k := by rw [Int.natCast_mul, Int.natCast_pow]; rfl
 rw [this];cases s <;> simp [Int.neg_mul]
theorem zck (x : Nat) : valI x = (if (x / 9223372036854775808 % 2 == 1) then -(mantN x : Int) else mantN x) * 2 ^ (expI x + 1074).toNat := by
 unfold valI;rw [zcK];have : ((mantN x * 2 ^ (expI x + 1074).toNat : Nat) : Int) = (mantN x : Int) * 2 ^ (expI x + 1074).toNat := by rw [Int.natCast_mul, Int.natCast_pow]; rfl
 rw [this];by_cases h : x / 9223372036854775808 % 2 = 1 <;> simp [h, Int.neg_mul]
theorem zbR (x : Nat) : -1074 ≤ expI x := by unfold expI; split <;> omega
theorem zaE (x y : Nat) (hx : x % 9223372036854775808 ≤ 9218868437227405312) (hy : y % 9223372036854775808 ≤ 9218868437227405312) :
  Ieee.double.order x y = some (compare (valI x) (valI y)) := by
 have hord : ∀ z : Nat, z % 9223372036854775808 ≤ 9218868437227405312 → (z % 9223372036854775808 = 9218868437227405312 ∧ Ieee.double.read z = .infinity (z / 9223372036854775808 % 2 == 1)) ∨ (z % 9223372036854775808 < 9218868437227405312 ∧ Ieee.double.read z = .number (z / 9223372036854775808 % 2 == 1) (mantN z) (expI z)) := by
  intro z hz;rcases zab z with ⟨h, _⟩ | h | h
  ·omega
  ·exact .inl h
  ·exact .inr h
 show (Ieee.double.read x).order (Ieee.double.read y) = _
 rcases hord x hx with ⟨a1, a2⟩ | ⟨a1, a2⟩ <;> rcases hord y hy with ⟨b1, b2⟩ | ⟨b1, b2⟩ <;> rw [a2, b2]
 ·rw [jK];simp only [Ieee.Datum.order, Option.some.injEq];unfold zac;rw [a1, b1];by_cases h1 : x / 9223372036854775808 % 2 = 1 <;> by_cases h2 : y / 9223372036854775808 % 2 = 1
  ·rw [show (x / 9223372036854775808 % 2 == 1) = true by simp [h1], show (y / 9223372036854775808 % 2 == 1) = true by simp [h2], if_pos h1, if_pos h2]; decide
  ·rw [show (x / 9223372036854775808 % 2 == 1) = true by simp [h1], show (y / 9223372036854775808 % 2 == 1) = false by simp [h2], if_pos h1, if_neg h2]; decide
  ·rw [show (x / 9223372036854775808 % 2 == 1) = false by simp [h1], show (y / 9223372036854775808 % 2 == 1) = true by simp [h2], if_neg h1, if_pos h2]; decide
  ·rw [show (x / 9223372036854775808 % 2 == 1) = false by simp [h1], show (y / 9223372036854775808 % 2 == 1) = false by simp [h2], if_neg h1, if_neg h2]; decide
 ·rw [jK];simp only [Ieee.Datum.order, Option.some.injEq];unfold zac;rw [a1];by_cases h1 : x / 9223372036854775808 % 2 = 1
  ·simp only [h1, beq_self_eq_true, if_true]
   symm; simp only [compare, compareOfLessAndEq]; rw [if_pos]; split <;> omega
  ·simp only [h1, if_false];rw [if_neg (by simp [h1])]
   symm; simp only [compare, compareOfLessAndEq]; rw [if_neg (by split <;> omega), if_neg (by split <;> omega)]
 ·rw [jK];simp only [Ieee.Datum.order, Option.some.injEq];unfold zac;rw [b1];by_cases h1 : y / 9223372036854775808 % 2 = 1
  ·simp only [h1, beq_self_eq_true, if_true]
   symm; simp only [compare, compareOfLessAndEq]; rw [if_neg (by split <;> omega), if_neg (by split <;> omega)]
  ·simp only [h1, if_false];rw [if_neg (by simp [h1])]
   symm; simp only [compare, compareOfLessAndEq]; rw [if_pos]; split <;> omega
 ·simp only [Ieee.Datum.order, Option.some.injEq];have ex := zbR x;have ey := zbR y;rw [zaD, zaD, zck, zck];have hb : -1074 ≤ min (expI x) (expI y) := by omega
  have e1 : (expI x + 1074).toNat = (expI x - min (expI x) (expI y)).toNat + (min (expI x) (expI y) + 1074).toNat := by omega
  have e2 : (expI y + 1074).toNat = (expI y - min (expI x) (expI y)).toNat + (min (expI x) (expI y) + 1074).toNat := by omega
  rw [e1, e2, za1, za1, ← Int.mul_assoc, ← Int.mul_assoc, zcY (zjS _)]
theorem zig : ∀ (f w : Nat), 1 ≤ f → w < 9007199254740992 → qu (jn f w) = w * 2 ^ (f - 1)
 | 1, w, _, hw => by
  rw [jn];split
  ·rename_i h
   unfold qu;rw [if_pos (by omega)]; simp
  ·rename_i h
   unfold qu;have e : (4503599627370496 + w % 4503599627370496) / 4503599627370496 = 1 := by omega
   rw [e, if_neg (by decide)];simp; omega
 | f + 2, w, _, hw => by
  rw [jn];split
  ·rename_i h
   rw [zig (f + 1) (2 * w) (by omega) (by omega)];show 2 * w * 2 ^ f = w * 2 ^ (f + 1)
   rw [Nat.pow_succ, Nat.mul_comm 2 w, Nat.mul_assoc, Nat.mul_comm 2]
  ·rename_i h
   unfold qu;have e : ((f + 2) * 4503599627370496 + w % 4503599627370496) / 4503599627370496 = f + 2 := by omega
   rw [e, if_neg (by omega)];have e2 : ((f + 2) * 4503599627370496 + w % 4503599627370496) % 4503599627370496 + 4503599627370496 = w := by omega
   rw [e2]
def xR (x : Nat) : Nat := mantN x * 2 ^ (expI x).toNat / 2 ^ (-expI x).toNat
def ui (x : Nat) : Bool := decide (0 ≤ expI x) || mantN x % 2 ^ (-expI x).toNat == 0
def yV (x : Nat) : Bool := decide (x % 9223372036854775808 ≤ 4845873199050653696)
theorem zlE (x : Nat) : mantN x < 9007199254740992 := by unfold mantN; split <;> omega
theorem zgJ {x : Nat} (h : yV x = true) : expI x ≤ 0 ∨ (expI x = 1 ∧ mantN x = 4503599627370496) := by
 have h := of_decide_eq_true h;unfold expI mantN;by_cases hf : x / 4503599627370496 % 2048 = 0
 ·rw [if_pos hf]; omega
 ·rw [if_neg hf, if_neg hf]; omega
theorem zad {x : Nat} (h : yV x = true) : xR x ≤ 9007199254740992 := by
 unfold xR;rcases zgJ h with h1 | ⟨h1, h2⟩
 ·rw [show (expI x).toNat = 0 by omega, Nat.pow_zero, Nat.mul_one];have := Nat.div_le_self (mantN x) (2 ^ (-expI x).toNat);have := zlE x;omega
 ·rw [h1, h2]; decide
theorem zeg (x : Nat) : ((FloatKind.f64.format.order x 14069245235905429504 == some .gt || FloatKind.f64.format.order x 14069245235905429504 == some .eq) &&
    (FloatKind.f64.format.order x 4845873199050653696 == some .lt || FloatKind.f64.format.order x 4845873199050653696 == some .eq)) = yV x := by
  by_cases hn : x % 9223372036854775808 ≤ 9218868437227405312
  · have o1 : FloatKind.f64.format.order x 14069245235905429504 = _ := zaE x 14069245235905429504 hn (by decide);have o2 : FloatKind.f64.format.order x 4845873199050653696 = _ := zaE x 4845873199050653696 hn (by decide);rw [o1, o2, jK, jK];have e1 : zac 14069245235905429504 = -4845873199050653696 := by decide
    have e2 : zac 4845873199050653696 = 4845873199050653696 := by decide
    rw [e1, e2];unfold zac yV;simp only [compare, compareOfLessAndEq];by_cases hs : x / 9223372036854775808 % 2 = 1
    · simp only [hs, if_true];rw [Bool.eq_iff_iff];simp only [Bool.and_eq_true, Bool.or_eq_true, beq_iff_eq, Option.some.injEq, decide_eq_true_eq]
      repeat' split
      all_goals first | (simp; done) | (simp; omega) | omega
    · simp only [hs, if_false];rw [Bool.eq_iff_iff];simp only [Bool.and_eq_true, Bool.or_eq_true, beq_iff_eq, Option.some.injEq, decide_eq_true_eq]
      repeat' split
      all_goals first | (simp; done) | (simp; omega) | omega
  · have hr : ∀ y, FloatKind.f64.format.order x y = none := by
      intro y;show (Ieee.double.read x).order _ = none
      rcases zab x with ⟨_, h⟩ | ⟨h, _⟩ | ⟨h, _⟩
      · rw [h]; rfl
      · omega
      · omega
    rw [hr, hr];have : yV x = false := by unfold yV; exact decide_eq_false (by omega)
    rw [this]; rfl
theorem uE {x : Nat} (h : yV x = true) : x % 9223372036854775808 ≤ 4845873199050653696 := of_decide_eq_true h
theorem jy {x : Nat} (h : yV x = true) : Ieee.double.read x = .number (x / 9223372036854775808 % 2 == 1) (mantN x) (expI x) := by
 have h := uE h;rcases zab x with ⟨h1, _⟩ | ⟨h1, _⟩ | ⟨_, h1⟩
 ·omega
 ·omega
 ·exact h1
def kk : Nat := 1074
theorem zcL (c : Nat) (hc : c < 9007199254740992) : qu (jn 1075 c) = c * 2 ^ kk := by
 have h := zig 1075 c (by omega) hc;rw [show 1075 - 1 = kk from rfl] at h;exact h
theorem zgK : kk = 1074 := rfl
def qz (neg : Bool) (c : Nat) : Nat := Ieee.double.nearest neg c 0
theorem zeh (neg : Bool) {c : Nat} (h : c ≤ 9007199254740992) : ∃ r, qz neg c = (if neg then 9223372036854775808 + r else r) ∧ r ≤ 4845873199050653696 ∧ qu r = c * 2 ^ kk := by
 by_cases hc : c = 9007199254740992
 ·subst hc;refine ⟨4845873199050653696, ?_, by omega, by decide +kernel⟩;unfold qz;cases neg <;> decide +kernel
 ·refine ⟨jn 1075 c, ?_, ?_, zcL c (by omega)⟩
  ·unfold qz;rw [zcX neg c 0 (by omega) (by omega) (by omega)];unfold Ieee.Format.word;rw [dbl_sign]; rfl
  ·have h1 := zcL c (by omega);have h2 : qu 4845873199050653696 = 9007199254740992 * 2 ^ kk := by decide +kernel
   have h3 : qu (jn 1075 c) < qu 4845873199050653696 := by
    rw [h1, h2]; exact Nat.mul_lt_mul_of_pos_right (by omega) (Nat.two_pow_pos _)
   have := vS.1 h3;omega
theorem zgL {x : Nat} (h : yV x = true) : FloatKind.f64.encode ((FloatKind.f64.decode x).integral .zero) = qz (x / 9223372036854775808 % 2 == 1) (xR x) := by
 show Ieee.double.write ((Ieee.double.read x).integral .zero) = _
 rw [jy h];show Ieee.double.nearest _ (Ieee.Toward.cut .zero _ (mantN x <<< (expI x).toNat) (-expI x).toNat) 0 = _
 rw [zee, Nat.shiftLeft_eq];rfl
theorem zfH {neg : Bool} {r : Nat} (hr : r ≤ 4845873199050653696) : ((if neg then 9223372036854775808 + r else r) / 9223372036854775808 % 2 = 1 ↔ neg = true) ∧ (if neg then 9223372036854775808 + r else r) % 9223372036854775808 = r := by
 cases neg
 ·simp; omega
 ·simp; omega
theorem zjW (neg : Bool) {c : Nat} (h : c ≤ 9007199254740992) : valI (qz neg c) = (if neg then -(c : Int) else c) * 2 ^ kk ∧ qz neg c % 9223372036854775808 ≤ 4845873199050653696 := by
 obtain ⟨r, h1, h2, h3⟩ := zeh neg h;obtain ⟨s1, s2⟩ := zfH (neg := neg) h2;rw [h1];refine ⟨?_, by rw [s2]; exact h2⟩;unfold valI;rw [s2, h3];have hp : ((c * 2 ^ kk : Nat) : Int) = (c : Int) * 2 ^ kk := by rw [Int.natCast_mul, Int.natCast_pow]; rfl
 rw [hp];cases neg
 ·rw [if_neg (by rw [s1]; decide)]; rfl
 ·rw [if_pos (s1.2 rfl)]; simp [Int.neg_mul]
theorem zei (x : Nat) : mantN x * 2 ^ (expI x + 1074).toNat = xR x * 2 ^ kk ↔ ui x = true := by
 have lo := zbR x;unfold xR ui;by_cases he : 0 ≤ expI x
 ·have e1 : (expI x + 1074).toNat = (expI x).toNat + kk := by rw [zgK]; omega
  rw [e1, show (-expI x).toNat = 0 by omega, Nat.pow_zero, Nat.div_one, Nat.pow_add, Nat.mul_assoc];simp [he]
 ·rw [show (expI x).toNat = 0 by omega, Nat.pow_zero, Nat.mul_one];have e1 : 2 ^ kk = 2 ^ (-expI x).toNat * 2 ^ (expI x + 1074).toNat := by rw [← Nat.pow_add]; congr 1; rw [zgK]; omega
  rw [e1, ← Nat.mul_assoc];have p := Nat.two_pow_pos (expI x + 1074).toNat;have hdm := Nat.div_add_mod (mantN x) (2 ^ (-expI x).toNat);rw [Nat.mul_comm] at hdm;simp only [he, decide_false, Bool.false_or, beq_iff_eq];constructor
  ·intro h2;have := Nat.eq_of_mul_eq_mul_right p h2;omega
  ·intro h2;have h3 : mantN x = mantN x / 2 ^ (-expI x).toNat * 2 ^ (-expI x).toNat := by omega
   exact congrArg (fun u => u * 2 ^ (expI x + 1074).toNat) h3
theorem zgM {x : Nat} (h : yV x = true) : (FloatKind.f64.format.order x (qz (x / 9223372036854775808 % 2 == 1) (xR x)) != some .eq) = !ui x := by
 have hc := zad h;have hx := uE h;obtain ⟨v1, v2⟩ := zjW (x / 9223372036854775808 % 2 == 1) hc;have ho : FloatKind.f64.format.order x (qz (x / 9223372036854775808 % 2 == 1) (xR x)) = _ := zaE x (qz (x / 9223372036854775808 % 2 == 1) (xR x)) (by omega) (by omega);rw [ho, v1, zck];have key : (compare ((if (x / 9223372036854775808 % 2 == 1) = true then -(mantN x : Int) else mantN x) * 2 ^ (expI x + 1074).toNat) ((if (x / 9223372036854775808 % 2 == 1) = true then -(xR x : Int) else xR x) * 2 ^ kk) = .eq) ↔ ui x = true := by
  rw [← zei x];have hp : ∀ (c k : Nat), ((c * 2 ^ k : Nat) : Int) = (c : Int) * 2 ^ k := fun c k => by rw [Int.natCast_mul, Int.natCast_pow]; rfl
  have hz : ∀ a b : Int, compare a b = .eq ↔ a = b := by
   intro a b;simp only [compare, compareOfLessAndEq];split
   ·simp; omega
   ·split <;> simp <;> omega
  rw [hz];split
  ·rw [Int.neg_mul, Int.neg_mul, ← hp, ← hp]; omega
  ·rw [← hp, ← hp]; omega
 cases hpu : ui x
 ·rw [hpu] at key;rw [bne_iff_ne.2 (by intro e; have := key.1 (Option.some.inj e); cases this)]; rfl
 ·rw [hpu] at key;rw [key.2 rfl]; rfl
theorem znk {x : Nat} (h : yV x = true) : floatToIntVal .f64 x .i64 = some (if x / 9223372036854775808 % 2 = 1 then -(xR x : Int) else xR x) := by
 have hc := zad h;unfold floatToIntVal;have : (FloatKind.f64.decode x).toInt .zero = some (if x / 9223372036854775808 % 2 = 1 then -(xR x : Int) else xR x) := by
  show (Ieee.double.read x).toInt .zero = _
  rw [jy h];show some (Ieee.signed _ (Ieee.Toward.cut .zero _ (mantN x <<< (expI x).toNat) (-expI x).toNat) 0) = _
  rw [zee, Nat.shiftLeft_eq, zaD];congr 1
  by_cases hs : x / 9223372036854775808 % 2 = 1 <;> simp [hs] <;> rfl
 rw [this];simp only;rw [if_pos];have h1 : IntKind.i64.min = -9223372036854775808 := by decide
 have h2 : IntKind.i64.max = 9223372036854775807 := by decide
 rw [h1, h2];split <;> omega
def wholeB (b : Int) : Bool := yV b.toNat && ui b.toNat
def wholeV (b : Int) : Int := if wholeB b = true then (if 9223372036854775808 ≤ b then -(xR b.toNat : Int) else xR b.toNat) else 0
theorem zcZ {x : Nat} (h : yV x = true) (w : World) : (callFunc 179 #[.float .f64 x]).run Tryz.prog w = .ok (.value (.float .f64 (qz (x / 9223372036854775808 % 2 == 1) (xR x)))) w := by
 rw [run_callFunc_extern (e := Extern.MathFloor.toIntegral "math.archTrunc" .zero) Tryz.func179 (by kernel_rfl) (by kernel_rfl) (by kernel_rfl) (by kernel_rfl)];have hr : FloatKind.f64.decode x = _ := jy h;have ht := zgL h;rw [← ht];show (Sem.run Tryz.prog (match FloatKind.f64.decode x with | .nan s t => _ | d => (pure (Value.float .f64 (FloatKind.f64.encode (d.integral .zero))) : Sem Value)) w).andThen _ = _
 rw [hr];rfl
theorem whole_any (b : Int) (hb0 : 0 ≤ b) (hb : b < 18446744073709551616) (w : World) :
    Calls Tryz.prog 100 #[.int .u64 b] w fun e w' => e = .returned (.tuple #[.int .i64 (wholeV b), .bool (wholeB b)]) ∧ w = w' := by
  have hfbf := zlD;have T := zeg b.toNat;have hsg : b.toNat / 9223372036854775808 % 2 = 1 ↔ 9223372036854775808 ≤ b := by omega
  have TI : yV b.toNat = true → ∃ t v, (∀ w, (callFunc 179 #[.float .f64 b.toNat]).run Tryz.prog w = .ok (.value (.float .f64 t)) w) ∧
      (FloatKind.f64.format.order b.toNat t != some .eq) = !ui b.toNat ∧ (∀ w, (convert 155 3 (.float .f64 b.toNat)).run Tryz.prog w = .ok (.int .i64 v) w) ∧ v = if 9223372036854775808 ≤ b then -(xR b.toNat : Int) else xR b.toNat := by
    intro hi;refine ⟨_, _, fun w => zcZ hi w, zgM hi, fun w => run_convert_float_int (P := Tryz.prog) w 155 3 .f64 .i64 b.toNat _ (by kernel_rfl) (by kernel_rfl) (znk hi), ?_⟩;simp only [hsg]
  have HW := za (show wholeB b = (yV b.toNat && ui b.toNat) from rfl);have HV := za (show wholeV b = if wholeB b = true then (if 9223372036854775808 ≤ b then -(xR b.toNat : Int) else xR b.toNat) else 0 from rfl);generalize yV b.toNat = i at *;generalize ui b.toNat = p at *;rcases h1 : FloatKind.f64.format.order b.toNat 14069245235905429504 with _ | (_ | _ | _) <;> rcases h2 : FloatKind.f64.format.order b.toNat 4845873199050653696 with _ | (_ | _ | _)
  all_goals
    rw [h1, h2] at T;first
      | (have hi : i = false := T.symm
         subst hi;have HF : Hid (wholeB b = false ∧ wholeV b = 0) := by have e := HW.out; refine ⟨e, ?_⟩; rw [HV.out, e]; rfl
         clear T TI HW HV hsg
         go_enter Tryz.func100, Tryz.ntmps100
         go_wp2
         go_ret2;exact ⟨by rw [HF.out.1, HF.out.2]; rfl, rfl⟩)
      | (have hi : i = true := T.symm
         subst hi;obtain ⟨t, v, ha, tt, tv, hv⟩ := TI rfl;have HVV := za hv;clear T TI hsg hv;cases p
         · have HF : Hid (wholeB b = false ∧ wholeV b = 0) := by have e := HW.out; refine ⟨e, ?_⟩; rw [HV.out, e]; rfl
           clear HW HV
           go_enter Tryz.func100, Tryz.ntmps100
           go_wp2
           go_ret2;exact ⟨by rw [HF.out.1, HF.out.2]; rfl, rfl⟩
         · have HF : Hid (wholeB b = true ∧ wholeV b = v) := by have e := HW.out; refine ⟨e, ?_⟩; rw [HV.out, e, HVV.out]; rfl
           clear HW HV HVV
           go_enter Tryz.func100, Tryz.ntmps100
           go_wp2
           go_ret2;exact ⟨by rw [HF.out.1, HF.out.2]; rfl, rfl⟩)
theorem xO {b : Int} (h0 : 0 ≤ b) (h1 : b < 18446744073709551616) : bits .and .u64 b 15 = b % 16 := by
 rw [u64_and b 15 h0 h1 (by decide) (by decide)];have e : ((15 : Int).toNat : Nat) = 2 ^ 4 - 1 := by decide
 rw [e, Nat.and_two_pow_sub_one_eq_mod];omega
def yS (n : Nat) : Int := if n < 10 then 48 + n else 87 + n
theorem znl (n : Nat) (h : n < (⟨#[48, 49, 50, 51, 52, 53, 54, 55, 56, 57, 97, 98, 99, 100, 101, 102]⟩ : ByteArray).size) :
  ((((⟨#[48, 49, 50, 51, 52, 53, 54, 55, 56, 57, 97, 98, 99, 100, 101, 102]⟩ : ByteArray)[n]'h).toNat : Nat) : Int) = yS n := by
 have h2 : n < 16 := h;have h3 : n = 0 ∨ n = 1 ∨ n = 2 ∨ n = 3 ∨ n = 4 ∨ n = 5 ∨ n = 6 ∨ n = 7 ∨ n = 8 ∨ n = 9 ∨ n = 10 ∨ n = 11 ∨ n = 12 ∨ n = 13 ∨ n = 14 ∨ n = 15 := by omega
 rcases h3 with rfl | rfl | rfl | rfl | rfl | rfl | rfl | rfl | rfl | rfl | rfl | rfl | rfl | rfl | rfl | rfl <;> rfl
theorem znm (w : World) (x0 x1 x2 x3 x4 x5 x6 x7 x8 x9 x10 x11 x12 x13 x14 x15 : Int) :
  (convert 110 9 (.slice (some ⟨w.heap.size, 0, none⟩) 16 16)).run Tryz.prog (w.alloc (.cells #[.int .u8 x0, .int .u8 x1, .int .u8 x2, .int .u8 x3, .int .u8 x4, .int .u8 x5, .int .u8 x6, .int .u8 x7, .int .u8 x8, .int .u8 x9, .int .u8 x10, .int .u8 x11, .int .u8 x12, .int .u8 x13, .int .u8 x14, .int .u8 x15] 163)) = .ok (.string (strOfNums [x0, x1, x2, x3, x4, x5, x6, x7, x8, x9, x10, x11, x12, x13, x14, x15])) (w.alloc (.cells #[.int .u8 x0, .int .u8 x1, .int .u8 x2, .int .u8 x3, .int .u8 x4, .int .u8 x5, .int .u8 x6, .int .u8 x7, .int .u8 x8, .int .u8 x9, .int .u8 x10, .int .u8 x11, .int .u8 x12, .int .u8 x13, .int .u8 x14, .int .u8 x15] 163)) := by
 refine run_convert_bytes_arg _ 110 5 Tryz.underlying110 Tryz.underlying5 w.heap.size 0 16 16 [x0, x1, x2, x3, x4, x5, x6, x7, x8, x9, x10, x11, x12, x13, x14, x15] rfl ?_ 9 Tryz.underlying9;intro i hi;have h3 : i = 0 ∨ i = 1 ∨ i = 2 ∨ i = 3 ∨ i = 4 ∨ i = 5 ∨ i = 6 ∨ i = 7 ∨ i = 8 ∨ i = 9 ∨ i = 10 ∨ i = 11 ∨ i = 12 ∨ i = 13 ∨ i = 14 ∨ i = 15 := by omega
 rcases h3 with rfl | rfl | rfl | rfl | rfl | rfl | rfl | rfl | rfl | rfl | rfl | rfl | rfl | rfl | rfl | rfl <;> simp
def znn (x : Nat) : List Int := [yS (x / 1152921504606846976 % 16), yS (x / 72057594037927936 % 16), yS (x / 4503599627370496 % 16), yS (x / 281474976710656 % 16), yS (x / 17592186044416 % 16), yS (x / 1099511627776 % 16), yS (x / 68719476736 % 16), yS (x / 4294967296 % 16), yS (x / 268435456 % 16), yS (x / 16777216 % 16), yS (x / 1048576 % 16), yS (x / 65536 % 16), yS (x / 4096 % 16), yS (x / 256 % 16), yS (x / 16 % 16), yS (x % 16)]
def uy (b : Int) : ByteArray := strOfNums (znn b.toNat)
theorem zlF {b : Int} (hb0 : 0 ≤ b) : strOfNums [yS (b / 1152921504606846976 % 16).toNat, yS (b / 72057594037927936 % 16).toNat, yS (b / 4503599627370496 % 16).toNat, yS (b / 281474976710656 % 16).toNat, yS (b / 17592186044416 % 16).toNat, yS (b / 1099511627776 % 16).toNat, yS (b / 68719476736 % 16).toNat, yS (b / 4294967296 % 16).toNat, yS (b / 268435456 % 16).toNat, yS (b / 16777216 % 16).toNat, yS (b / 1048576 % 16).toNat, yS (b / 65536 % 16).toNat, yS (b / 4096 % 16).toNat, yS (b / 256 % 16).toNat, yS (b / 16 % 16).toNat, yS (b % 16).toNat] = uy b := by
 have h : ∀ c : Nat, (b / (c : Int) % 16).toNat = b.toNat / c % 16 := by
  intro c;obtain ⟨x, rfl⟩ := Int.eq_ofNat_of_zero_le hb0;simp only [Int.toNat_natCast];rw [← Int.natCast_ediv]; omega
 have h1 : (b % 16).toNat = b.toNat % 16 := by omega
 unfold uy znn;rw [h1];have g : ∀ (c : Nat) (d : Int), d = (c : Int) → yS (b / d % 16).toNat = yS (b.toNat / c % 16) := by
  intro c d hd;subst hd;rw [h]
 congr 1
 simp only [List.cons.injEq, and_true];exact ⟨g 1152921504606846976 _ rfl, g 72057594037927936 _ rfl, g 4503599627370496 _ rfl, g 281474976710656 _ rfl, g 17592186044416 _ rfl, g 1099511627776 _ rfl, g 68719476736 _ rfl, g 4294967296 _ rfl, g 268435456 _ rfl, g 16777216 _ rfl, g 1048576 _ rfl, g 65536 _ rfl, g 4096 _ rfl, g 256 _ rfl, g 16 _ rfl⟩
theorem zlG (b : Int) (hb0 : 0 ≤ b) (hb : b < 18446744073709551616) (w : World) :
  Calls Tryz.prog 112 #[.int .u64 b] w fun e w' => e = .returned (.string (uy b)) ∧ Below w.heap.size w w' := by
 have e0 := xO (b := (b / 1152921504606846976)) (by omega) (by omega);have e1 := xO (b := (b / 72057594037927936)) (by omega) (by omega);have e2 := xO (b := (b / 4503599627370496)) (by omega) (by omega);have e3 := xO (b := (b / 281474976710656)) (by omega) (by omega);have e4 := xO (b := (b / 17592186044416)) (by omega) (by omega);have e5 := xO (b := (b / 1099511627776)) (by omega) (by omega);have e6 := xO (b := (b / 68719476736)) (by omega) (by omega);have e7 := xO (b := (b / 4294967296)) (by omega) (by omega);have e8 := xO (b := (b / 268435456)) (by omega) (by omega);have e9 := xO (b := (b / 16777216)) (by omega) (by omega);have e10 := xO (b := (b / 1048576)) (by omega) (by omega);have e11 := xO (b := (b / 65536)) (by omega) (by omega);have e12 := xO (b := (b / 4096)) (by omega) (by omega);have e13 := xO (b := (b / 256)) (by omega) (by omega);have e14 := xO (b := (b / 16)) (by omega) (by omega);have e15 := xO (b := b) (by omega) (by omega);have hx := znl;have HE := za (zlF hb0);have hcv := znm w
 go_enter Tryz.func112, Tryz.ntmps112
 go_wp2
 refine wp_loop_rounds 17 ?_
 repeat any_goals (rw [rounds_succ]; go_wp2)
 go_ret;exact ⟨congrArg (fun s => Ending.returned (.string s)) HE.out, (ze _ _).alloc (zd _) _⟩
end Go.Proofs.YtfcgpphodacdmaaGreatDoor.Bt
namespace Go.Proofs.YtfcgpphodacdmaaGreatDoor.Bt
open Go.RowKit Go.Sort
theorem zgN (w : World) (k : Nat) (os : Array Obj) : Below w.heap.size w (grow (w.drewN k) os) :=
 ⟨rfl, rfl, rfl, by simp [grow, World.drewN], fun i hi => by simp [grow, World.drewN, Array.getElem?_append, hi]⟩
def tab (w : World) : Prop := Lib.TabIs Tryz.prog w "internal/strconv.uint64pow10" .u64 Lib.pow10Tab
theorem zjX (n : Int) (h0 : -9223372036854775808 ≤ n) (h1 : n ≤ 9223372036854775807) (w : World) (htab : tab w) :
  Calls Tryz.prog 111 #[.int .i64 n] w fun e w' => e = .returned (.string ⟨(Lib.itoa n).toArray⟩) ∧ Below w.heap.size w w' := by
 have h := Any.strconv_Itoa Tryz.laysM171 n h0 h1 w htab;change Calls Tryz.prog 111 _ _ _ at h;exact h.mono fun e w' ⟨he, k, os, hw⟩ => ⟨he, hw ▸ zgN w k os⟩
def zno : ByteArray := ⟨#[78, 97, 78]⟩
def znp : ByteArray := ⟨#[73, 110, 102, 105, 110, 105, 116, 121]⟩
def zfI : ByteArray := ⟨#[45, 73, 110, 102, 105, 110, 105, 116, 121]⟩
def wholeS (n : Int) : ByteArray := ⟨(Lib.itoa n).toArray⟩
def tildeS (b : Int) : ByteArray := ⟨#[126]⟩ ++ uy b
def textI (b : Int) : ByteArray :=
 if nanB b = true then zno else if infB b = true then (if 9223372036854775808 ≤ b then zfI else znp) else if wholeB b = true then wholeS (wholeV b) else tildeS b
theorem hexS_size (b : Int) : (uy b).size = 16 := by unfold uy; rw [strOfNums_size]; rfl
theorem wholeV_lo {b : Int} : -9007199254740992 ≤ wholeV b ∧ wholeV b ≤ 9007199254740992 := by
 unfold wholeV;split
 ·rename_i h
  have hi : yV b.toNat = true := by unfold wholeB at h; simp only [Bool.and_eq_true] at h; exact h.1
  have := zad hi;split <;> omega
 ·omega
theorem text_any (b : Int) (hb0 : 0 ≤ b) (hb : b < 18446744073709551616) (w : World) (htab : tab w) :
  Calls Tryz.prog 74 #[.int .u64 b] w fun e w' => e = .returned (.string (textI b)) ∧ Below w.heap.size w w' := by
 have c1 := zgH b hb0 hb w;have c2 := zcj b hb0 hb w;have c3 := whole_any b hb0 hb w;have c4 := zlG b hb0 hb w;have wv := wholeV_lo (b := b);have c5 := zjX (wholeV b) (by omega) (by omega) w htab;have hadd : ∀ W : World, (binOp .add 9 (.string ⟨#[126]⟩) (.string (uy b))).run Tryz.prog W = .ok (.string (tildeS b)) W := by
  intro W;have := run_string_add_sum (P := Tryz.prog) (w := W) ⟨#[126]⟩ (uy b) (by rw [hexS_size]; decide)
  simpa [binOp, tildeS] using this
 have hadd2 : ∀ W : World, (Op.stringOp .add ⟨#[126]⟩ (uy b)).run Tryz.prog W = .ok (.string (tildeS b)) W := by
  intro W;have := run_string_add_sum (P := Tryz.prog) (w := W) ⟨#[126]⟩ (uy b) (by rw [hexS_size]; decide);exact this
 have HT : Hid (textI b = if nanB b = true then zno else if infB b = true then (if 9223372036854775808 ≤ b then zfI else znp) else if wholeB b = true then wholeS (wholeV b) else tildeS b) := rfl;have SG : ∀ v, (bits .and .u64 b 9223372036854775808 != 0) = v → ((9223372036854775808 ≤ b) ↔ v = true) := fun v hs => zjU hb0 hb hs
 have SGH := za SG;generalize textI b = t at *;generalize uy b = hs at *;generalize tildeS b = ts at *;cases hn : nanB b
 ·cases hi : infB b
  ·cases hw : wholeB b
   ·rw [hn, hi, hw] at HT;rw [hn] at c1;rw [hi] at c2;rw [hw] at c3;have C1 := za c1;have C2 := za c2;have C3 := za c3;have C4 := za c4;clear c1 c2 c3 c4 c5 hn hi hw SG htab
    go_enter Tryz.func74, Tryz.ntmps74
    go_wp2_with (first | (go_at_call 109; refine C1.out.mono ?_; rintro e w' ⟨rfl, rfl⟩) | (go_at_call 110; refine C2.out.mono ?_; rintro e w' ⟨rfl, rfl⟩) | (go_at_call 100; refine C3.out.mono ?_; rintro e w' ⟨rfl, rfl⟩) | (go_at_call 112; refine C4.out.mono ?_; rintro e w1 ⟨rfl, hB⟩))
    go_ret;exact ⟨congrArg (fun s => Ending.returned (.string s)) HT.out.symm, hB⟩
   ·rw [hn, hi, hw] at HT;rw [hn] at c1;rw [hi] at c2;rw [hw] at c3;have C1 := za c1;have C2 := za c2;have C3 := za c3;have C5 := za c5;clear c1 c2 c3 c4 c5 hn hi hw SG htab
    go_enter Tryz.func74, Tryz.ntmps74
    go_wp2_with (first | (go_at_call 109; refine C1.out.mono ?_; rintro e w' ⟨rfl, rfl⟩) | (go_at_call 110; refine C2.out.mono ?_; rintro e w' ⟨rfl, rfl⟩) | (go_at_call 100; refine C3.out.mono ?_; rintro e w' ⟨rfl, rfl⟩) | (go_at_call 111; refine C5.out.mono ?_; rintro e w1 ⟨rfl, hB⟩))
    go_ret;exact ⟨congrArg (fun s => Ending.returned (.string s)) HT.out.symm, hB⟩
  ·rw [hn, hi] at HT;rw [hn] at c1;rw [hi] at c2;have C1 := za c1;have C2 := za c2;clear c1 c2 c3 c4 c5 hn hi SG htab
   go_enter Tryz.func74, Tryz.ntmps74
   go_wp2_with (first | (go_at_call 109; refine C1.out.mono ?_; rintro e w' ⟨rfl, rfl⟩) | (go_at_call 110; refine C2.out.mono ?_; rintro e w' ⟨rfl, rfl⟩))
   all_goals
    rename_i hsg
    go_ret;refine ⟨congrArg (fun s => Ending.returned (.string s)) ?_, ze _ _⟩;have h2 := SGH.out _ hsg;rw [HT.out];simp only [h2];rfl
 ·rw [hn] at HT;rw [hn] at c1;have C1 := za c1;clear c1 c2 c3 c4 c5 hn SG htab
  go_enter Tryz.func74, Tryz.ntmps74
  go_wp2_with (go_at_call 109; refine C1.out.mono ?_; rintro e w' ⟨rfl, rfl⟩)
  go_ret;exact ⟨congrArg (fun s => Ending.returned (.string s)) HT.out.symm, ze _ _⟩
end Go.Proofs.YtfcgpphodacdmaaGreatDoor.Bt
