/- What is left of a division of whole numbers: the walk of the statement. -/
import Derived.Test.YtmepgpiihhilaaaDoorSum
namespace Go.Proofs.YtmepgpiihhilaaaDoor
open Go.RowKit
set_option linter.unusedVariables false

theorem pow_rung {x y : Nat} (hx : x % 9223372036854775808 < 9223372036854775808) (h : expI x < expI y) : x % 9223372036854775808 < y % 9223372036854775808 := by
  unfold expI at h
  split at h <;> split at h <;> omega

theorem rem_word {x y : Nat} {s t : Bool} {c d : Nat} (h : Is x s c) (k : Is y t d) (hc : c ≤ 9007199254740992) (hd : 0 < d) (hd2 : d ≤ 9007199254740992) :
    remI x y = (wordN s (c % d) : Nat) := by
  have hmod : c % d ≤ 9007199254740992 := Nat.le_trans (Nat.mod_le c d) hc
  have z := is_word s hmod
  unfold remI
  rw [if_neg (by
    rw [h.not_nan, k.not_nan, h.not_inf, k.zer]
    simp only [Bool.false_eq_true, false_or, beq_iff_eq]; omega)]
  by_cases hc0 : c = 0
  · rw [if_pos (.inr (by rw [h.zer, hc0]; rfl))]
    subst hc0
    have hz : 0 % d = 0 := Nat.zero_mod d
    rw [hz] at z ⊢
    rw [h.unique z]
  · rw [if_neg (by
      rw [k.not_inf, h.zer]
      simp only [Bool.false_eq_true, false_or, beq_iff_eq]; exact hc0), pow_nat, pow_nat]
    have lx := exp_lo x
    have ly := exp_lo y
    have hmx := h.mag
    have hmy := k.mag
    by_cases hp : expI x < expI y
    · rw [if_pos hp]
      have hr := mag_mono (pow_rung (Nat.mod_lt _ (by decide)) hp)
      rw [hmx, hmy] at hr
      have hlt : c < d := by
        rcases Nat.lt_or_ge c d with h1 | h1
        · exact h1
        · have := Nat.mul_le_mul_right (2 ^ kk) h1; omega
      rw [Nat.mod_eq_of_lt hlt] at z ⊢
      rw [h.unique z]
    · rw [if_neg hp, man_nat, man_nat]
      have e1 : ((mantN x : Nat) : Int) * 2 ^ (expI x - expI y).toNat % ((mantN y : Nat) : Int) = ((mantN x * 2 ^ (expI x - expI y).toNat % mantN y : Nat) : Int) := by
        rw [Int.natCast_emod, Int.natCast_mul, Int.natCast_pow]; rfl
      rw [e1]
      generalize hw : mantN x * 2 ^ (expI x - expI y).toNat % mantN y = w
      have hmy0 : mantN y < 9007199254740992 := mant_lt y
      have hmpos : 0 < mantN y := by
        rcases Nat.eq_zero_or_pos (mantN y) with h0 | h0
        · exfalso
          rw [mag_parts, h0, Nat.zero_mul] at hmy
          have := Nat.mul_pos hd (Nat.two_pow_pos kk)
          omega
        · exact h0
      have hwlt : w < 9007199254740992 := by
        rw [← hw]
        exact Nat.lt_trans (Nat.mod_lt _ hmpos) hmy0
      have key : magN (jn (expI y + 1075).toNat w) = (c % d) * 2 ^ kk := by
        rw [mag_jn _ _ (by omega) hwlt, ← hw]
        have e2 : (expI y + 1075).toNat - 1 = (expI y + 1074).toNat := by omega
        rw [e2, ← Nat.mul_mod_mul_right]
        rw [mag_parts] at hmx hmy
        have e3 : mantN x * 2 ^ (expI x - expI y).toNat * 2 ^ (expI y + 1074).toNat = c * 2 ^ kk := by
          rw [Nat.mul_assoc, ← Nat.pow_add, show (expI x - expI y).toNat + (expI y + 1074).toNat = (expI x + 1074).toNat by omega]; exact hmx
        rw [e3, hmy, Nat.mul_mod_mul_right]
      have hj := mag_inj (key.trans z.mag.symm)
      have hjI : jnI (expI y + 1075) (w : Nat) = (wordN s (c % d) % 9223372036854775808 : Nat) := by
        unfold jnI
        rw [Int.toNat_natCast, hj]
      rw [hjI]
      have s1 := h.sign
      have s2 := z.sign
      have l1 := h.lt
      have l2 := z.lt
      generalize wordN s (c % d) = v at *
      by_cases hs : s = true
      · have := s1.2 hs
        have := s2.2 hs
        omega
      · have : ¬ x / 9223372036854775808 % 2 = 1 := fun e => hs (s1.1 e)
        have : ¬ v / 9223372036854775808 % 2 = 1 := fun e => hs (s2.1 e)
        omega

theorem tmod_abs (a b : Int) : (if a < 0 then -((a.natAbs % b.natAbs : Nat) : Int) else ((a.natAbs % b.natAbs : Nat) : Int)) = a.tmod b := by
  have key : ∀ (m : Nat) (b : Int), ((m % b.natAbs : Nat) : Int) = (m : Int).tmod b := by
    intro m b
    rcases Int.natAbs_eq b with h | h
    · rw [h, Int.natAbs_natCast, Int.ofNat_tmod]
    · rw [h, Int.tmod_neg, Int.natAbs_neg, Int.natAbs_natCast, Int.ofNat_tmod]
  by_cases h : a < 0
  · rw [if_pos h, key]
    have e : a = -(a.natAbs : Int) := by omega
    rw [e, Int.natAbs_neg, Int.natAbs_natCast, ← Int.neg_tmod]
  · rw [if_neg h, key]
    have e : a = (a.natAbs : Int) := by omega
    rw [← e]

theorem rem_of {a b : Int} (ha : a.natAbs ≤ 9007199254740992) (hb : b.natAbs ≤ 9007199254740992) (h0 : b ≠ 0) :
    wholeB (remI (ofI a) (ofI b)) = true ∧ wholeV (remI (ofI a) (ofI b)) = a.tmod b := by
  have h := is_word (decide (a < 0)) ha
  have k := is_word (decide (b < 0)) hb
  have e := rem_word h k ha (by omega) hb
  have z := is_word (decide (a < 0)) (show a.natAbs % b.natAbs ≤ 9007199254740992 from Nat.le_trans (Nat.mod_le _ _) ha)
  rw [of_word, of_word, e]
  refine ⟨z.whole.1, ?_⟩
  rw [z.whole.2, ← tmod_abs]
  simp only [decide_eq_true_eq]

theorem rem_bounds {a b : Int} (ha0 : 0 ≤ a) (ha : a < 18446744073709551616) : 0 ≤ remI a b ∧ remI a b < 18446744073709551616 := by
  unfold remI
  split
  · unfold noneB; omega
  · rename_i h1
    split
    · exact ⟨ha0, ha⟩
    · rename_i h2
      split
      · exact ⟨ha0, ha⟩
      · simp only [not_or, Bool.not_eq_true] at h1 h2
        have b4 := pow_hi h1.2.1 h2.1
        have bp := man_pos h1.2.2.2
        have b2 := man_lt b
        have r2 := Int.emod_lt_of_pos (manI a * 2 ^ (powI a - powI b).toNat) bp
        have j1 := jnI_nonneg (powI b + 1075) (manI a * 2 ^ (powI a - powI b).toNat % manI b)
        have j2 := jnI_lt (f := powI b + 1075) (w := manI a * 2 ^ (powI a - powI b).toNat % manI b) (by omega) (by omega)
        omega

theorem rem_zero (a : Int) : remI (ofI a) (ofI 0) = noneB := by
  unfold remI
  rw [if_pos (.inr (.inr (.inr (by decide +kernel))))]

set_option maxRecDepth 100000 in
set_option maxHeartbeats 1000000 in
theorem law_BitsLeft (a : Int) (ha0 : -9223372036854775808 ≤ a) (ha1 : a ≤ 9223372036854775807) (b : Int) (hb0 : -9223372036854775808 ≤ b) (hb1 : b ≤ 9223372036854775807) (w : World) (htab : tab w) :
    Calls Tryd.prog 10 #[.int .i64 a, .int .i64 b] w fun e w' => e = .returned (.bool true) ∧ Below w.heap.size w w' := by
  have WK := Lib.hid (works_any w htab)
  clear htab
  have hr := fun w => rem_any (ofI a) (ofI b) (ofI_nonneg _) (ofI_lt _) (ofI_nonneg _) (ofI_lt _) w
  by_cases h0 : b = 0
  · subst h0
    rw [rem_zero] at hr
    have hr2 : ∀ w, Calls Tryd.prog 26 #[.int .u64 (ofI a), .int .u64 (ofI 0)] w fun e w' => e = .returned (.int .u64 9221120237041090561) ∧ w = w' := hr
    have R := Lib.hid hr2
    clear hr hr2
    go_enter Tryd.func10, Tryd.ntmps10
    go_wp2_with (first
      | (go_at_call 40; refine (of_any _ _).mono ?_; rintro e w' ⟨rfl, rfl⟩)
      | (go_at_call 26; refine (R.out _).mono ?_; rintro e w' ⟨rfl, rfl⟩)
      | (go_at_call 25; refine WK.out.mono ?_; rintro e w1 ⟨rfl, hB⟩))
    go_ret
    exact ⟨rfl, hB⟩
  · obtain ⟨rb0, rb1⟩ := rem_bounds (b := ofI b) (ofI_nonneg a) (ofI_lt a)
    have hw := fun w => whole_any (remI (ofI a) (ofI b)) rb0 rb1 w
    have hb' : (b == 0) = false := by rw [beq_eq_false_iff_ne]; exact h0
    by_cases hin : a.natAbs ≤ 9007199254740992 ∧ b.natAbs ≤ 9007199254740992
    · obtain ⟨r1, r2⟩ := rem_of hin.1 hin.2 h0
      rw [r1, r2] at hw
      have a0 : -9007199254740992 ≤ a := by omega
      have a1 : a ≤ 9007199254740992 := by omega
      have b0 : -9007199254740992 ≤ b := by omega
      have b1 : b ≤ 9007199254740992 := by omega
      have R := Lib.hid hr
      have H := Lib.hid hw
      clear hr hw r1 r2 rb0 rb1 hin
      go_enter Tryd.func10, Tryd.ntmps10
      go_wp2_with (first
        | (go_at_call 40; refine (of_any _ _).mono ?_; rintro e w' ⟨rfl, rfl⟩)
        | (go_at_call 26; refine (R.out _).mono ?_; rintro e w' ⟨rfl, rfl⟩)
        | (go_at_call 34; refine (H.out _).mono ?_; rintro e w' ⟨rfl, rfl⟩)
        | (go_at_call 25; refine WK.out.mono ?_; rintro e w1 ⟨rfl, hB⟩))
      all_goals
        go_ret
        exact ⟨rfl, hB⟩
    · have hout : a < -9007199254740992 ∨ 9007199254740992 < a ∨ b < -9007199254740992 ∨ 9007199254740992 < b := by omega
      have R := Lib.hid hr
      have H := Lib.hid hw
      clear hr hw rb0 rb1 hin
      rcases hout with hout | hout | hout | hout
      all_goals
        go_enter Tryd.func10, Tryd.ntmps10
        go_wp2_with (first
          | (go_at_call 40; refine (of_any _ _).mono ?_; rintro e w' ⟨rfl, rfl⟩)
          | (go_at_call 26; refine (R.out _).mono ?_; rintro e w' ⟨rfl, rfl⟩)
          | (go_at_call 34; refine (H.out _).mono ?_; rintro e w' ⟨rfl, rfl⟩)
          | (go_at_call 25; refine WK.out.mono ?_; rintro e w1 ⟨rfl, hB⟩))
        all_goals
          go_ret
          exact ⟨rfl, hB⟩
end Go.Proofs.YtmepgpiihhilaaaDoor
