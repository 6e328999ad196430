/- A number cut down to 32 bits, by the program. -/
import Derived.Test.YtmepgpiihhilaaaDoorRem
namespace Go.Proofs.YtmepgpiihhilaaaDoor
open Go.RowKit

/-- What a number without its sign is, cut towards nought. -/
def cutI (b : Int) : Int := if powI b < 0 then manI b / 2 ^ (-powI b).toNat else manI b * 2 ^ (powI b).toNat
def uwordI (b : Int) : Int := if nanB b = true ∨ infB b = true then 0 else if 9223372036854775808 ≤ b then (-cutI b) % 4294967296 else cutI b % 4294967296

theorem pow_add_int (j k : Nat) : (2 : Int) ^ (j + k) = 2 ^ j * 2 ^ k := Int.pow_add ..
theorem pow_le_int {j k : Nat} (h : j ≤ k) : (2 : Int) ^ j ≤ 2 ^ k := by
  have h1 := Nat.pow_le_pow_right (show 0 < 2 by decide) h
  have h2 : ∀ i : Nat, ((2 ^ i : Nat) : Int) = (2 : Int) ^ i := fun i => by rw [Int.natCast_pow]; rfl
  rw [← h2, ← h2]; omega
theorem shr_same {m : Int} (h0 : 0 ≤ m) (h1 : m < 9007199254740992) (k : Nat) : m / 2 ^ min k 64 = m / 2 ^ k := by
  by_cases h : k ≤ 64
  · rw [Nat.min_eq_left h]
  · rw [Nat.min_eq_right (by omega)]
    have h2 := pow_le_int (show 64 ≤ k by omega)
    rw [Int.ediv_eq_zero_of_lt h0 (by omega), Int.ediv_eq_zero_of_lt h0 (by omega)]
theorem mul_high (m : Int) {k : Nat} (h : 32 ≤ k) : m * 2 ^ k % 4294967296 = 0 := by
  have e : (2 : Int) ^ k = 2 ^ 32 * 2 ^ (k - 32) := by rw [← pow_add_int]; congr 1; omega
  rw [e, show m * (2 ^ 32 * 2 ^ (k - 32)) = 4294967296 * (m * 2 ^ (k - 32)) by
    rw [← Int.mul_assoc, Int.mul_comm m, Int.mul_assoc]; rfl]
  exact Int.mul_emod_right ..
theorem shl_same (m : Int) (k : Nat) : IntKind.u64.wrap (m * 2 ^ min k 64) % 4294967296 = m * 2 ^ k % 4294967296 := by
  rw [IntKind.wrap_u64, Int.emod_emod_of_dvd _ (by decide)]
  by_cases h : k ≤ 64
  · rw [Nat.min_eq_left h]
  · rw [mul_high m (show 32 ≤ min k 64 by omega), mul_high m (show 32 ≤ k by omega)]
theorem neg_mod (x : Int) : -(x % 4294967296) % 4294967296 = -x % 4294967296 := by omega
theorem sign_set {b : Int} (h0 : 0 ≤ b) (h1 : b < 18446744073709551616) {v : Bool} (hs : (bits .and .u64 b 9223372036854775808 != 0) = v) : (9223372036854775808 ≤ b) ↔ v = true := by
  rw [and_sign h0 h1] at hs
  subst hs
  rw [bne_iff_ne]; omega
theorem word_right {b r : Int} {v : Bool} (h0 : 0 ≤ b) (h1 : b < 18446744073709551616) (HR : uwordI b = if 9223372036854775808 ≤ b then (-cutI b) % 4294967296 else cutI b % 4294967296)
    (hp : powI b < 0) (b1 : 0 ≤ manI b) (b2 : manI b < 9007199254740992) (hs : (bits .and .u64 b 9223372036854775808 != 0) = v)
    (hr : r = if v = true then -(manI b / 2 ^ min (-powI b).toNat 64 % 4294967296) % 4294967296 else manI b / 2 ^ min (-powI b).toNat 64 % 4294967296 := by rfl) : r = uwordI b := by
  have hc : cutI b = manI b / 2 ^ (-powI b).toNat := by unfold cutI; rw [if_pos hp]
  rw [hr, HR, shr_same b1 b2, hc, neg_mod]
  simp only [sign_set h0 h1 hs]
theorem word_left {b r : Int} {v : Bool} (h0 : 0 ≤ b) (h1 : b < 18446744073709551616) (HR : uwordI b = if 9223372036854775808 ≤ b then (-cutI b) % 4294967296 else cutI b % 4294967296)
    (hp : ¬ powI b < 0) (hs : (bits .and .u64 b 9223372036854775808 != 0) = v)
    (hr : r = if v = true then -(IntKind.u64.wrap (manI b * 2 ^ min (powI b).toNat 64) % 4294967296) % 4294967296 else IntKind.u64.wrap (manI b * 2 ^ min (powI b).toNat 64) % 4294967296 := by rfl) : r = uwordI b := by
  have hc : cutI b = manI b * 2 ^ (powI b).toNat := by unfold cutI; rw [if_neg hp]
  rw [hr, HR, shl_same, hc, neg_mod]
  simp only [sign_set h0 h1 hs]

set_option maxRecDepth 100000 in
set_option maxHeartbeats 1000000 in
theorem uint32_any (b : Int) (hb0 : 0 ≤ b) (hb : b < 18446744073709551616) (w : World) :
    Calls Tryd.prog 36 #[.int .u64 b] w fun e w' => e = .returned (.int .u32 (uwordI b)) ∧ w = w' := by
  by_cases h1 : nanB b = true ∨ infB b = true
  · have HR : Hid (uwordI b = 0) := by show _ = _; unfold uwordI; rw [if_pos h1]
    go_enter Tryd.func36, Tryd.ntmps36
    go_wp2_with (first | (go_at_call 50; refine (isNone_any _ (by omega) (by omega) _).mono ?_; rintro e w' ⟨rfl, rfl⟩) | (go_at_call 52; refine (isInfinite_any _ (by omega) (by omega) _).mono ?_; rintro e w' ⟨rfl, rfl⟩) | (go_at_call 53; refine (isNought_any _ (by omega) (by omega) _).mono ?_; rintro e w' ⟨rfl, rfl⟩) | (go_at_call 54; refine (parts_any _ (by omega) (by omega) _).mono ?_; rintro e w' ⟨rfl, rfl⟩) | fail)
    all_goals first | (go_ret; exact ⟨ret_int HR.out.symm, rfl⟩) | (exfalso; simp_all; done)
  · have HR : Hid (uwordI b = if 9223372036854775808 ≤ b then (-cutI b) % 4294967296 else cutI b % 4294967296) := by show _ = _; unfold uwordI; rw [if_neg h1]
    simp only [not_or, Bool.not_eq_true] at h1
    obtain ⟨n1, n2⟩ := h1
    have b1 := man_nonneg b
    have b2 := man_lt b
    have b3 := pow_lo b
    have b4 := pow_hi n1 n2
    by_cases hp : powI b < 0
    · have hq : powI b ≤ 0 := by omega
      go_enter Tryd.func36, Tryd.ntmps36
      go_wp2_with (first | (go_at_call 50; refine (isNone_any _ (by omega) (by omega) _).mono ?_; rintro e w' ⟨rfl, rfl⟩) | (go_at_call 52; refine (isInfinite_any _ (by omega) (by omega) _).mono ?_; rintro e w' ⟨rfl, rfl⟩) | (go_at_call 53; refine (isNought_any _ (by omega) (by omega) _).mono ?_; rintro e w' ⟨rfl, rfl⟩) | (go_at_call 54; refine (parts_any _ (by omega) (by omega) _).mono ?_; rintro e w' ⟨rfl, rfl⟩) | fail)
      all_goals (rename_i hs; go_ret; exact ⟨ret_int (word_right hb0 hb HR.out hp b1 b2 hs), rfl⟩)
    · go_enter Tryd.func36, Tryd.ntmps36
      go_wp2_with (first | (go_at_call 50; refine (isNone_any _ (by omega) (by omega) _).mono ?_; rintro e w' ⟨rfl, rfl⟩) | (go_at_call 52; refine (isInfinite_any _ (by omega) (by omega) _).mono ?_; rintro e w' ⟨rfl, rfl⟩) | (go_at_call 53; refine (isNought_any _ (by omega) (by omega) _).mono ?_; rintro e w' ⟨rfl, rfl⟩) | (go_at_call 54; refine (parts_any _ (by omega) (by omega) _).mono ?_; rintro e w' ⟨rfl, rfl⟩) | fail)
      all_goals (rename_i hs; go_ret; exact ⟨ret_int (word_left hb0 hb HR.out (by omega) hs), rfl⟩)

set_option maxHeartbeats 400000 in
theorem int32_any (b : Int) (hb0 : 0 ≤ b) (hb : b < 18446744073709551616) (w : World) :
    Calls Tryd.prog 38 #[.int .u64 b] w fun e w' => e = .returned (.int .i32 (wrap32 (uwordI b))) ∧ w = w' := by
  go_enter Tryd.func38, Tryd.ntmps38
  go_wp2_with (go_at_call 36; refine (uint32_any _ (by omega) (by omega) _).mono ?_; rintro e w' ⟨rfl, rfl⟩)
  go_ret
  exact ⟨rfl, rfl⟩
end Go.Proofs.YtmepgpiihhilaaaDoor
