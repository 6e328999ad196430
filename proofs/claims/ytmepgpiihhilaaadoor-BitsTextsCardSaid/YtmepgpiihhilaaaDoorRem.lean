/- What is left of a division, by the program: to the last bit. -/
import Derived.Test.YtmepgpiihhilaaaDoorInts
namespace Go.Proofs.YtmepgpiihhilaaaDoor
open Go.RowKit

/-- The bits of the number whose size is w times two to the power that the field f stands for (f at least 1, w below 2^53). -/
def jn : Nat → Nat → Nat
  | 0, w => w
  | 1, w => if w < 4503599627370496 then w else 4503599627370496 + w % 4503599627370496
  | f + 2, w => if w < 4503599627370496 then jn (f + 1) (2 * w) else (f + 2) * 4503599627370496 + w % 4503599627370496

theorem jn_step (f w : Nat) (hf : 1 < f) (hw : w < 4503599627370496) : jn f w = jn (f - 1) (w * 2) := by
  match f, hf with
  | g + 2, _ => rw [jn, if_pos hw, Nat.mul_comm]; rfl
theorem jn_low (w : Nat) (f : Nat) (hf : f = 1) (hw : w < 4503599627370496) : jn f w = w := by subst hf; rw [jn, if_pos hw]
theorem jn_high (w : Nat) (f : Nat) (hf : 1 ≤ f) (hw : ¬ w < 4503599627370496) : jn f w = f * 4503599627370496 + w % 4503599627370496 := by
  match f, hf with
  | 1, _ => rw [jn, if_neg hw]
  | g + 2, _ => rw [jn, if_neg hw]

theorem or_field {a b : Int} (ha0 : 0 ≤ a) (ha : a < 4096) (hb0 : 0 ≤ b) (hb : b < 4503599627370496) : bits .or .u64 (a * 4503599627370496) b = a * 4503599627370496 + b := by
  rw [u64_or _ b (by omega) (by omega) hb0 (by omega)]
  have e : (a * 4503599627370496).toNat = 2 ^ 52 * a.toNat := by omega
  have h2 := Nat.two_pow_add_eq_or_of_lt (show b.toNat < 2 ^ 52 by omega) a.toNat
  rw [e, ← h2]; omega

def jnI (f x : Int) : Int := (jn f.toNat x.toNat : Nat)
theorem jnI_step {f x : Int} (hf : 1 < f) (h0 : 0 ≤ x) (hx : x < 4503599627370496) : jnI f x = jnI (f - 1) (x * 2) := by
  unfold jnI
  rw [jn_step _ _ (by omega) (by omega), show (f - 1).toNat = f.toNat - 1 from by omega, show (x * 2).toNat = x.toNat * 2 from by omega]
theorem jnI_low {f x : Int} (hf : f = 1) (h0 : 0 ≤ x) (hx : x < 4503599627370496) : jnI f x = x := by
  unfold jnI
  rw [jn_low _ _ (by omega) (by omega)]; omega
theorem jnI_high {f x : Int} (hf : 1 ≤ f) (hx : ¬ x < 4503599627370496) : jnI f x = f * 4503599627370496 + x % 4503599627370496 := by
  unfold jnI
  rw [jn_high _ _ (by omega) (by omega)]; omega

set_option maxHeartbeats 1000000 in
theorem join_any (m p : Int) (hm0 : 0 ≤ m) (hm : m < 9007199254740992) (hp : -1074 ≤ p) (hp2 : p ≤ 971) (w : World) :
    Calls Tryd.prog 56 #[.int .u64 m, .int .i64 p] w fun e w' => e = .returned (.int .u64 (jnI (p + 1075) m)) ∧ w = w' := by
  go_enter Tryd.func56, Tryd.ntmps56
  go_wp2
  go_loop [0, 5] (fun v f => ∃ x g : Int, v = .int .u64 x ∧ f = .int .i64 g ∧ 0 ≤ x ∧ x < 9007199254740992 ∧ 1 ≤ g ∧ g ≤ 2046 ∧ Hid (jnI (p + 1075) m = jnI g x)) (fun _ f => (intOf f).toNat)
  case atStart => exact ⟨m, p + 1075, rfl, rfl, hm0, hm, by omega, by omega, rfl⟩
  case round =>
    obtain ⟨x, g, rfl, rfl, hx0, hx, hg1, hg2, HJ⟩ := hrel
    by_cases hlow : x < 4503599627370496
    · by_cases hg : 1 < g
      · have hst := Lib.hid (jnI_step hg hx0 hlow)
        go_wp2
        exact ⟨⟨_, _, rfl, rfl, by omega, by omega, by omega, by omega, HJ.out.trans hst.out⟩, by simp [intOf]; omega⟩
      · have hst := Lib.hid (jnI_low (f := g) (by omega) hx0 hlow)
        go_wp2
        go_ret
        exact ⟨ret_int (HJ.out.trans hst.out).symm, rfl⟩
    · have HA := and_low52 (b := x) (by omega) (by omega)
      have HO := or_field (a := g) (b := x % 4503599627370496) (by omega) (by omega) (by omega) (by omega)
      have hst := Lib.hid (jnI_high hg1 hlow)
      go_wp2
      go_ret
      exact ⟨ret_int (HJ.out.trans hst.out).symm, rfl⟩

theorem shl_mod {l p n : Int} (hp : 0 ≤ p) (s : Int) (hs0 : 0 ≤ s) (hs : s ≤ p) : (l * 2 ^ s.toNat % n) * 2 ^ (p - s).toNat % n = l * 2 ^ p.toNat % n := by
  have e : p.toNat = s.toNat + (p - s).toNat := by omega
  rw [e, Int.pow_add, ← Int.mul_assoc, Int.mul_emod (l * 2 ^ s.toNat % n), Int.emod_emod, ← Int.mul_emod]

theorem start_mod (m n k : Int) : m * k % n = m % n * k % n := by
  rw [Int.mul_emod, Int.mul_emod (m % n) k, Int.emod_emod]
theorem pow_pos' (k : Nat) : (0 : Int) < 2 ^ k := Int.pow_pos (by decide)
theorem pow_11 {k : Nat} (h : k ≤ 11) : (2 : Int) ^ k ≤ 2048 := by
  have h1 := Nat.pow_le_pow_right (show 0 < 2 by decide) h
  have h2 : ((2 ^ k : Nat) : Int) = (2 : Int) ^ k := by rw [Int.natCast_pow]; rfl
  omega
theorem shl_fits {x n g : Int} (hx0 : 0 ≤ x) (hx : x < n) (hn : n < 9007199254740992) (hg : g ≤ 11) : (IntKind.u64.wrap (x * 2 ^ g.toNat)).tmod n = x * 2 ^ g.toNat % n := by
  have h1 := pow_pos' g.toNat
  have h2 := pow_11 (show g.toNat ≤ 11 by omega)
  have h3 : 0 ≤ x * 2 ^ g.toNat := Int.mul_nonneg hx0 (by omega)
  have h4 : x * 2 ^ g.toNat ≤ 9007199254740991 * 2048 := Int.mul_le_mul (show x ≤ 9007199254740991 by omega) h2 (by omega) (by decide)
  have h5 : x * 2 ^ g.toNat ≤ 18446744073709551615 := Int.le_trans h4 (by decide)
  rw [IntWalk.u64_in _ ⟨h3, h5⟩, Int.tmod_eq_emod_of_nonneg h3]

set_option maxHeartbeats 1000000 in
theorem remainder_any (m n p : Int) (hm0 : 0 ≤ m) (hm : m < 9007199254740992) (hn0 : 0 < n) (hn : n < 9007199254740992) (hp : 0 ≤ p) (hp2 : p ≤ 4000) (w : World) :
    Calls Tryd.prog 55 #[.int .u64 m, .int .u64 n, .int .i64 p] w fun e w' => e = .returned (.int .u64 (m * 2 ^ p.toNat % n)) ∧ w = w' := by
  have hb0 := Int.emod_nonneg m (show n ≠ 0 by omega)
  have hb1 := Int.emod_lt_of_pos m hn0
  go_enter Tryd.func55, Tryd.ntmps55
  go_wp2
  go_loop [2, 7] (fun q l => ∃ x g : Int, q = .int .i64 g ∧ l = .int .u64 x ∧ 0 ≤ x ∧ x < n ∧ 0 ≤ g ∧ g ≤ p ∧ Hid (m * 2 ^ p.toNat % n = x * 2 ^ g.toNat % n)) (fun q _ => (intOf q).toNat)
  case atStart => exact ⟨m % n, p, rfl, rfl, hb0, hb1, hp, by omega, start_mod m n _⟩
  case round =>
    obtain ⟨x, g, rfl, rfl, hx0, hx, hg1, hg2, HJ⟩ := hrel
    by_cases hg : 0 < g
    · by_cases h11 : g ≤ 11
      · have hf := Lib.hid (shl_fits hx0 hx hn h11)
        go_wp2
        refine ⟨⟨x * 2 ^ g.toNat % n, 0, rfl, by rw [hf.out], Int.emod_nonneg _ (by omega), Int.emod_lt_of_pos _ hn0, by omega, by omega, ?_⟩, by simp [intOf]; omega⟩
        show _ = _
        rw [HJ.out]; simp
      · have hs := Lib.hid (shl_mod (l := x) (n := n) (p := g) hg1 11 (by decide) (by omega))
        go_wp2
        refine ⟨⟨x * 2048 % n, g - 11, rfl, rfl, Int.emod_nonneg _ (by omega), Int.emod_lt_of_pos _ hn0, by omega, by omega, ?_⟩, by simp [intOf]; omega⟩
        show _ = _
        rw [HJ.out]; exact hs.out.symm
    · go_wp2
      go_ret
      exact ⟨ret_int (by rw [HJ.out, show g = 0 by omega]; simp; rw [Int.emod_eq_of_lt hx0 hx]), rfl⟩

theorem man_nonneg (b : Int) : 0 ≤ manI b := by unfold manI; split <;> omega
theorem man_lt (b : Int) : manI b < 9007199254740992 := by unfold manI; split <;> omega
theorem pow_lo (b : Int) : -1074 ≤ powI b := by unfold powI; split <;> omega
theorem pow_hi' (b : Int) : powI b ≤ 972 := by unfold powI; split <;> omega
theorem not_nan {b : Int} (h : nanB b = false) : b % 9223372036854775808 ≤ 9218868437227405312 := by
  unfold nanB at h; have := of_decide_eq_false h; omega
theorem not_inf {b : Int} (h : infB b = false) : b % 9223372036854775808 ≠ 9218868437227405312 := by
  unfold infB at h; simpa using h
theorem not_zer {b : Int} (h : zerB b = false) : b % 9223372036854775808 ≠ 0 := by
  unfold zerB at h; simpa using h
theorem pow_hi {b : Int} (hn : nanB b = false) (hi : infB b = false) : powI b ≤ 971 := by
  have h1 := not_nan hn
  have h2 := not_inf hi
  unfold powI; split <;> omega
theorem man_pos {b : Int} (hz : zerB b = false) : 0 < manI b := by
  have h1 := not_zer hz
  unfold manI; split <;> omega

def remI (a b : Int) : Int :=
  if nanB a = true ∨ nanB b = true ∨ infB a = true ∨ zerB b = true then noneB
  else if infB b = true ∨ zerB a = true then a
  else if powI a < powI b then a
  else a / 9223372036854775808 * 9223372036854775808 + jnI (powI b + 1075) (manI a * 2 ^ (powI a - powI b).toNat % manI b)

theorem and_sign {b : Int} (h0 : 0 ≤ b) (h1 : b < 18446744073709551616) : bits .and .u64 b 9223372036854775808 = b / 9223372036854775808 * 9223372036854775808 := by
  rw [u64_and b 9223372036854775808 h0 h1 (by decide) (by decide)]
  have e : ((9223372036854775808 : Int).toNat : Nat) = 2 ^ 63 := by decide
  rw [e, nat_bit]
  omega

theorem or_sign {a b : Int} (ha0 : 0 ≤ a) (ha : a < 2) (hb0 : 0 ≤ b) (hb : b < 9223372036854775808) : bits .or .u64 (a * 9223372036854775808) b = a * 9223372036854775808 + b := by
  rw [u64_or _ b (by omega) (by omega) hb0 (by omega)]
  have e : (a * 9223372036854775808).toNat = 2 ^ 63 * a.toNat := by omega
  have h2 := Nat.two_pow_add_eq_or_of_lt (show b.toNat < 2 ^ 63 by omega) a.toNat
  rw [e, ← h2]; omega

theorem jn_lt : ∀ (f w : Nat), f ≤ 2046 → w < 9007199254740992 → jn f w < 9218868437227405312
  | 0, w, _, hw => by rw [jn]; omega
  | 1, w, _, hw => by rw [jn]; split <;> omega
  | f + 2, w, hf, hw => by
    rw [jn]
    split
    · exact jn_lt (f + 1) (2 * w) (by omega) (by omega)
    · have := Nat.mod_lt w (show 0 < 4503599627370496 by decide)
      have h3 : (f + 2) * 4503599627370496 ≤ 2046 * 4503599627370496 := Nat.mul_le_mul_right _ hf
      omega
theorem jnI_nonneg (f w : Int) : 0 ≤ jnI f w := by unfold jnI; omega
theorem jnI_lt {f w : Int} (hf : f ≤ 2046) (hw : w < 9007199254740992) : jnI f w < 9218868437227405312 := by
  have := jn_lt f.toNat w.toNat (by omega) (by omega)
  unfold jnI; omega

set_option maxRecDepth 100000 in
set_option maxHeartbeats 1000000 in
theorem rem_any (a b : Int) (ha0 : 0 ≤ a) (ha : a < 18446744073709551616) (hb0 : 0 ≤ b) (hb : b < 18446744073709551616) (w : World) :
    Calls Tryd.prog 26 #[.int .u64 a, .int .u64 b] w fun e w' => e = .returned (.int .u64 (remI a b)) ∧ w = w' := by
  by_cases h1 : nanB a = true ∨ nanB b = true ∨ infB a = true ∨ zerB b = true
  · have HR : Hid (remI a b = noneB) := by show _ = _; unfold remI; rw [if_pos h1]
    go_enter Tryd.func26, Tryd.ntmps26
    go_wp2_with (first | (go_at_call 50; refine (isNone_any _ (by omega) (by omega) _).mono ?_; rintro e w' ⟨rfl, rfl⟩) | (go_at_call 52; refine (isInfinite_any _ (by omega) (by omega) _).mono ?_; rintro e w' ⟨rfl, rfl⟩) | (go_at_call 53; refine (isNought_any _ (by omega) (by omega) _).mono ?_; rintro e w' ⟨rfl, rfl⟩) | (go_at_call 54; refine (parts_any _ (by omega) (by omega) _).mono ?_; rintro e w' ⟨rfl, rfl⟩) | fail)
    all_goals first | (go_ret; exact ⟨ret_int HR.out.symm, rfl⟩) | (exfalso; simp_all; done)
  · by_cases h2 : infB b = true ∨ zerB a = true
    · have HR : Hid (remI a b = a) := by show _ = _; unfold remI; rw [if_neg h1, if_pos h2]
      simp only [not_or, Bool.not_eq_true] at h1
      obtain ⟨n1, n2, n3, n4⟩ := h1
      go_enter Tryd.func26, Tryd.ntmps26
      go_wp2_with (first | (go_at_call 50; refine (isNone_any _ (by omega) (by omega) _).mono ?_; rintro e w' ⟨rfl, rfl⟩) | (go_at_call 52; refine (isInfinite_any _ (by omega) (by omega) _).mono ?_; rintro e w' ⟨rfl, rfl⟩) | (go_at_call 53; refine (isNought_any _ (by omega) (by omega) _).mono ?_; rintro e w' ⟨rfl, rfl⟩) | (go_at_call 54; refine (parts_any _ (by omega) (by omega) _).mono ?_; rintro e w' ⟨rfl, rfl⟩) | fail)
      all_goals first | (go_ret; exact ⟨ret_int HR.out.symm, rfl⟩) | (exfalso; simp_all; done)
    · have HR : Hid (remI a b = if powI a < powI b then a else a / 9223372036854775808 * 9223372036854775808 + jnI (powI b + 1075) (manI a * 2 ^ (powI a - powI b).toNat % manI b)) := by show _ = _; unfold remI; rw [if_neg h1, if_neg h2]
      simp only [not_or, Bool.not_eq_true] at h1 h2
      obtain ⟨n1, n2, n3, n4⟩ := h1
      obtain ⟨n5, n6⟩ := h2
      have a1 := man_nonneg a
      have a2 := man_lt a
      have a3 := pow_lo a
      have a4 := pow_hi n1 n3
      have b1 := man_pos n4
      have b2 := man_lt b
      have b3 := pow_lo b
      have b4 := pow_hi n2 n5
      by_cases hp : powI a < powI b
      · go_enter Tryd.func26, Tryd.ntmps26
        go_wp2_with (first | (go_at_call 50; refine (isNone_any _ (by omega) (by omega) _).mono ?_; rintro e w' ⟨rfl, rfl⟩) | (go_at_call 52; refine (isInfinite_any _ (by omega) (by omega) _).mono ?_; rintro e w' ⟨rfl, rfl⟩) | (go_at_call 53; refine (isNought_any _ (by omega) (by omega) _).mono ?_; rintro e w' ⟨rfl, rfl⟩) | (go_at_call 54; refine (parts_any _ (by omega) (by omega) _).mono ?_; rintro e w' ⟨rfl, rfl⟩) | fail)
        go_ret
        exact ⟨ret_int (by rw [HR.out, if_pos hp]), rfl⟩
      · have c := remainder_any (manI a) (manI b) (powI a - powI b) a1 a2 b1 b2 (by omega) (by omega)
        have r1 := Int.emod_nonneg (manI a * 2 ^ (powI a - powI b).toNat) (show manI b ≠ 0 by omega)
        have r2 := Int.emod_lt_of_pos (manI a * 2 ^ (powI a - powI b).toNat) b1
        generalize hr : manI a * 2 ^ (powI a - powI b).toNat % manI b = r at c r1 r2 HR
        have HS := Lib.hid (and_sign ha0 ha)
        have j1 := jnI_nonneg (powI b + 1075) r
        have j2 := jnI_lt (f := powI b + 1075) (w := r) (by omega) (by omega)
        have HO := Lib.hid (or_sign (a := a / 9223372036854775808) (b := jnI (powI b + 1075) r) (by omega) (by omega) j1 (by omega))
        clear j1 j2
        have C := Lib.hid c
        clear c hr
        go_enter Tryd.func26, Tryd.ntmps26
        go_wp2_with (first | (go_at_call 50; refine (isNone_any _ (by omega) (by omega) _).mono ?_; rintro e w' ⟨rfl, rfl⟩) | (go_at_call 52; refine (isInfinite_any _ (by omega) (by omega) _).mono ?_; rintro e w' ⟨rfl, rfl⟩) | (go_at_call 53; refine (isNought_any _ (by omega) (by omega) _).mono ?_; rintro e w' ⟨rfl, rfl⟩) | (go_at_call 54; refine (parts_any _ (by omega) (by omega) _).mono ?_; rintro e w' ⟨rfl, rfl⟩) | (go_at_call 55; refine (C.out _).mono ?_; rintro e w' ⟨rfl, rfl⟩) | (go_at_call 56; refine (join_any _ _ (by omega) (by omega) (by omega) (by omega) _).mono ?_; rintro e w' ⟨rfl, rfl⟩) | fail)
        go_ret
        exact ⟨ret_int (by rw [HS.out, HO.out, HR.out, if_neg (by omega)]), rfl⟩
end Go.Proofs.YtmepgpiihhilaaaDoor
