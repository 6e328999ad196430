/- The parts of a number, and what is made of them. -/
import Derived.Test.YtmepgpiihhilaaaDoorBase
namespace Go.Proofs.YtmepgpiihhilaaaDoor
open Go.RowKit

theorem and_low52 {b : Int} (h0 : 0 ≤ b) (h1 : b < 18446744073709551616) : bits .and .u64 b 4503599627370495 = b % 4503599627370496 := by
  rw [u64_and b 4503599627370495 h0 h1 (by decide) (by decide)]
  have e : ((4503599627370495 : Int).toNat : Nat) = 2 ^ 52 - 1 := by decide
  rw [e, Nat.and_two_pow_sub_one_eq_mod]
  omega
theorem and_2047 {b : Int} (h0 : 0 ≤ b) (h1 : b < 18446744073709551616) : bits .and .u64 b 2047 = b % 2048 := by
  rw [u64_and b 2047 h0 h1 (by decide) (by decide)]
  have e : ((2047 : Int).toNat : Nat) = 2 ^ 11 - 1 := by decide
  rw [e, Nat.and_two_pow_sub_one_eq_mod]
  omega
theorem or_hidden {b : Int} (h0 : 0 ≤ b) (h1 : b < 4503599627370496) : bits .or .u64 b 4503599627370496 = b + 4503599627370496 := by
  rw [u64_or b 4503599627370496 h0 (by omega) (by decide) (by decide)]
  have e : ((4503599627370496 : Int).toNat : Nat) = 2 ^ 52 := by decide
  have h2 := Nat.two_pow_add_eq_or_of_lt (show b.toNat < 2 ^ 52 by omega) 1
  rw [e, Nat.or_comm]
  rw [Nat.mul_one] at h2
  rw [← h2]; omega

def manI (b : Int) : Int := if b / 4503599627370496 % 2048 = 0 then b % 4503599627370496 else b % 4503599627370496 + 4503599627370496
def powI (b : Int) : Int := if b / 4503599627370496 % 2048 = 0 then -1074 else b / 4503599627370496 % 2048 - 1075

set_option maxHeartbeats 400000 in
theorem parts_any (b : Int) (h0 : 0 ≤ b) (h1 : b < 18446744073709551616) (w : World) :
    Calls Tryd.prog 54 #[.int .u64 b] w fun e w' => e = .returned (.tuple #[.int .u64 (manI b), .int .i64 (powI b)]) ∧ w = w' := by
  have e1 := and_2047 (b := b / 4503599627370496) (by omega) (by omega)
  have e2 := and_low52 h0 h1
  have e3 := or_hidden (b := b % 4503599627370496) (by omega) (by omega)
  have hw : wrap64 (b / 4503599627370496 % 2048) = b / 4503599627370496 % 2048 := IntWalk.wrap64_in _ (by omega)
  by_cases hf : b / 4503599627370496 % 2048 = 0
  · have hb : (b / 4503599627370496 % 2048 == 0) = true := by simp [hf]
    have HF := Lib.hid hf
    clear hf
    go_enter Tryd.func54, Tryd.ntmps54
    go_wp2
    go_ret2
    exact ⟨by rw [manI, powI, if_pos HF.out, if_pos HF.out]; rfl, rfl⟩
  · have hb : (b / 4503599627370496 % 2048 == 0) = false := by simp [hf]
    have HF := Lib.hid hf
    clear hf
    go_enter Tryd.func54, Tryd.ntmps54
    go_wp2
    go_ret2
    exact ⟨by rw [manI, powI, if_neg HF.out, if_neg HF.out]; rfl, rfl⟩

set_option maxHeartbeats 400000 in
theorem rparts_any (b : Int) (h0 : 0 ≤ b) (h1 : b < 18446744073709551616) (w : World) :
    Calls Tryd.prog 58 #[.int .u64 b] w fun e w' => e = .returned (.tuple #[.int .u64 (manI b), .int .i64 (powI b)]) ∧ w = w' := by
  have e1 := and_2047 (b := b / 4503599627370496) (by omega) (by omega)
  have e2 := and_low52 h0 h1
  have hw : wrap64 (b / 4503599627370496 % 2048) = b / 4503599627370496 % 2048 := IntWalk.wrap64_in _ (by omega)
  by_cases hf : b / 4503599627370496 % 2048 = 0
  · have hb : (b / 4503599627370496 % 2048 == 0) = true := by simp [hf]
    have HF := Lib.hid hf
    clear hf
    go_enter Tryd.func58, Tryd.ntmps58
    go_wp2
    go_ret2
    exact ⟨by rw [manI, powI, if_pos HF.out, if_pos HF.out]; rfl, rfl⟩
  · have hb : (b / 4503599627370496 % 2048 == 0) = false := by simp [hf]
    have HF := Lib.hid hf
    clear hf
    go_enter Tryd.func58, Tryd.ntmps58
    go_wp2
    go_ret2
    exact ⟨by rw [manI, powI, if_neg HF.out, if_neg HF.out]; rfl, rfl⟩
end Go.Proofs.YtmepgpiihhilaaaDoor
