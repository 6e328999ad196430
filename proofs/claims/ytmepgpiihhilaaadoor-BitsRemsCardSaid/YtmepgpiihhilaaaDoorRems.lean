/- What is left of any division, by the document's answer: the walk of the statement. -/
import Derived.Test.YtmepgpiihhilaaaDoorWorks
namespace Go.Proofs.YtmepgpiihhilaaaDoor
open Go.RowKit
set_option linter.unusedVariables false

theorem jnI_zero (f : Int) : jnI f 0 = 0 := by
  have : ∀ f, jn f 0 = 0 := by
    intro f
    induction f with
    | zero => rfl
    | succ f ih =>
      cases f with
      | zero => rw [jn]; simp
      | succ f => rw [jn]; simpa using ih
  unfold jnI
  rw [show (0 : Int).toNat = 0 from rfl, this]; rfl

theorem or_three {s f l : Int} (hs0 : 0 ≤ s) (hs : s < 2) (hf0 : 0 ≤ f) (hf : f < 2048) (hl0 : 0 ≤ l) (hl : l < 4503599627370496) :
    bits .or .u64 (bits .or .u64 (s * 9223372036854775808) (f * 4503599627370496)) l = s * 9223372036854775808 + f * 4503599627370496 + l := by
  rw [or_sign hs0 hs (by omega) (by omega)]
  have e : s * 9223372036854775808 + f * 4503599627370496 = (s * 2048 + f) * 4503599627370496 := by omega
  rw [e, or_field (by omega) (by omega) hl0 hl]

set_option maxRecDepth 100000 in
set_option maxHeartbeats 1000000 in
theorem rjoin_any (m p s : Int) (hm0 : 0 ≤ m) (hm : m < 9007199254740992) (hp : -1074 ≤ p) (hp2 : p ≤ 971) (hs0 : 0 ≤ s) (hs : s < 2) (w : World) :
    Calls Tryd.prog 59 #[.int .u64 m, .int .i64 p, .int .u64 (s * 9223372036854775808)] w fun e w' => e = .returned (.int .u64 (s * 9223372036854775808 + jnI (p + 1075) m)) ∧ w = w' := by
  by_cases h0 : m = 0
  · have hj := jnI_zero (p + 1075)
    have HR : Hid (s * 9223372036854775808 + jnI (p + 1075) m = s * 9223372036854775808) := by show _ = _; rw [h0, hj]; omega
    have hb : (m == 0) = true := by rw [h0]; rfl
    clear hj h0
    go_enter Tryd.func59, Tryd.ntmps59
    go_wp2
    go_ret
    exact ⟨ret_int HR.out.symm, rfl⟩
  · have hb : (m == 0) = false := by rw [beq_eq_false_iff_ne]; exact h0
    have OS := Lib.hid (fun (l : Int) h1 h2 => or_sign (a := s) (b := l) hs0 hs h1 h2)
    have OT := Lib.hid (fun (f l : Int) h1 h2 h3 h4 => or_three (s := s) (f := f) (l := l) hs0 hs h1 h2 h3 h4)
    clear h0
    generalize hsg : s * 9223372036854775808 = S at *
    have hS0 : 0 ≤ S := by omega
    have hS1 : S < 18446744073709551616 := by omega
    clear hsg
    go_enter Tryd.func59, Tryd.ntmps59
    go_wp2
    go_loop [0, 1] (fun v f => ∃ x g : Int, v = .int .u64 x ∧ f = .int .i64 g ∧ 0 ≤ x ∧ x < 9007199254740992 ∧ -1074 ≤ g ∧ g ≤ 971 ∧ Hid (jnI (p + 1075) m = jnI (g + 1075) x)) (fun _ f => (intOf f + 1074).toNat)
    case atStart => exact ⟨m, p, rfl, rfl, hm0, hm, hp, hp2, rfl⟩
    case round =>
      obtain ⟨x, g, rfl, rfl, hx0, hx, hg1, hg2, HJ⟩ := hrel
      by_cases hlow : x < 4503599627370496
      · by_cases hg : -1074 < g
        · have hst := Lib.hid (jnI_step (f := g + 1075) (by omega) hx0 hlow)
          go_wp2
          refine ⟨⟨_, _, rfl, rfl, by omega, by omega, by omega, by omega, ?_⟩, by simp [intOf]; omega⟩
          show _ = _
          rw [HJ.out, hst.out, show g + 1075 - 1 = g - 1 + 1075 by omega]
        · have hst := Lib.hid (jnI_low (f := g + 1075) (by omega) hx0 hlow)
          go_wp2
          go_ret
          exact ⟨ret_int (by rw [HJ.out, hst.out]; exact OS.out x hx0 (by omega)), rfl⟩
      · have hst := Lib.hid (jnI_high (f := g + 1075) (by omega) hlow)
        go_wp2
        go_ret
        refine ⟨ret_int ?_, rfl⟩
        rw [HJ.out, hst.out]
        have := OT.out (g + 1075) (x - 4503599627370496) (by omega) (by omega) (by omega) (by omega)
        refine this.trans ?_
        omega

theorem parts_back {a : Int} (h0 : 0 ≤ a) (h1 : a < 18446744073709551616) : a / 9223372036854775808 * 9223372036854775808 + jnI (powI a + 1075) (manI a) = a := by
  unfold powI manI
  by_cases hf : a / 4503599627370496 % 2048 = 0
  · rw [if_pos hf, if_pos hf, jnI_low (by omega) (by omega) (by omega)]; omega
  · rw [if_neg hf, if_neg hf, jnI_high (by omega) (by omega)]; omega

theorem pow_higher {a b : Int} (h : powI a < powI b) : 4503599627370496 ≤ manI b := by
  unfold powI at h
  unfold manI
  split at h <;> split at h <;> split <;> omega

theorem rem_double {r n g : Int} (hn : 0 < n) (hg : 0 < g) : r * 2 % n * 2 ^ (g - 1).toNat % n = r * 2 ^ g.toNat % n := by
  have e : g.toNat = 1 + (g - 1).toNat := by omega
  rw [e, pow_add_int, ← Int.mul_assoc, start_mod (r * 2 ^ 1) n]; rfl

set_option maxRecDepth 100000 in
set_option maxHeartbeats 2000000 in
theorem rrem_any (a b : Int) (ha0 : 0 ≤ a) (ha : a < 18446744073709551616) (hb0 : 0 ≤ b) (hb : b < 18446744073709551616) (w : World) :
    Calls Tryd.prog 27 #[.int .u64 a, .int .u64 b] w fun e w' => e = .returned (.int .u64 (remI a b)) ∧ w = w' := by
  by_cases h1 : nanB a = true ∨ nanB b = true ∨ infB a = true ∨ zerB b = true
  · have HR : Hid (remI a b = noneB) := by show _ = _; unfold remI; rw [if_pos h1]
    go_enter Tryd.func27, Tryd.ntmps27
    go_wp2_with (first | (go_at_call 51; refine (isNaN_any _ (by omega) (by omega) _).mono ?_; rintro e w' ⟨rfl, rfl⟩) | (go_at_call 57; refine (isInf_any _ (by omega) (by omega) _).mono ?_; rintro e w' ⟨rfl, rfl⟩) | (go_at_call 46; refine (isZero_any _ (by omega) (by omega) _).mono ?_; rintro e w' ⟨rfl, rfl⟩) | (go_at_call 58; refine (rparts_any _ (by omega) (by omega) _).mono ?_; rintro e w' ⟨rfl, rfl⟩))
    all_goals first | (go_ret; exact ⟨ret_int HR.out.symm, rfl⟩) | (exfalso; simp_all; done)
  · by_cases h2 : infB b = true ∨ zerB a = true
    · have HR : Hid (remI a b = a) := by show _ = _; unfold remI; rw [if_neg h1, if_pos h2]
      simp only [not_or, Bool.not_eq_true] at h1
      obtain ⟨n1, n2, n3, n4⟩ := h1
      go_enter Tryd.func27, Tryd.ntmps27
      go_wp2_with (first | (go_at_call 51; refine (isNaN_any _ (by omega) (by omega) _).mono ?_; rintro e w' ⟨rfl, rfl⟩) | (go_at_call 57; refine (isInf_any _ (by omega) (by omega) _).mono ?_; rintro e w' ⟨rfl, rfl⟩) | (go_at_call 46; refine (isZero_any _ (by omega) (by omega) _).mono ?_; rintro e w' ⟨rfl, rfl⟩) | (go_at_call 58; refine (rparts_any _ (by omega) (by omega) _).mono ?_; rintro e w' ⟨rfl, rfl⟩))
      all_goals first | (go_ret; exact ⟨ret_int HR.out.symm, rfl⟩) | (exfalso; simp_all; done)
    · have HR : Hid (remI a b = if powI a < powI b then a else a / 9223372036854775808 * 9223372036854775808 + jnI (powI b + 1075) (manI a * 2 ^ (powI a - powI b).toNat % manI b)) := by show _ = _; unfold remI; rw [if_neg h1, if_neg h2]
      simp only [not_or, Bool.not_eq_true] at h1 h2
      obtain ⟨n1, n2, n3, n4⟩ := h1
      obtain ⟨n5, n6⟩ := h2
      have a1 := man_nonneg a
      have a2 := man_lt a
      have a3 := pow_lo a
      have a4 := pow_hi n1 n3
      have b1 := man_pos n4
      have b2 := man_lt b
      have b3 := pow_lo b
      have b4 := pow_hi n2 n5
      by_cases hp : powI a < powI b
      · have hhi := pow_higher hp
        have HB := Lib.hid (parts_back ha0 ha)
        go_enter Tryd.func27, Tryd.ntmps27
        go_wp2_with (first | (go_at_call 51; refine (isNaN_any _ (by omega) (by omega) _).mono ?_; rintro e w' ⟨rfl, rfl⟩) | (go_at_call 57; refine (isInf_any _ (by omega) (by omega) _).mono ?_; rintro e w' ⟨rfl, rfl⟩) | (go_at_call 46; refine (isZero_any _ (by omega) (by omega) _).mono ?_; rintro e w' ⟨rfl, rfl⟩) | (go_at_call 58; refine (rparts_any _ (by omega) (by omega) _).mono ?_; rintro e w' ⟨rfl, rfl⟩))
        go_loop [7, 8] (fun v f => ∃ n k : Int, v = .int .u64 n ∧ f = .int .i64 k ∧ 4503599627370496 ≤ n ∧ n < 9223372036854775808 ∧ powI a ≤ k ∧ k ≤ powI b ∧ Hid (k = powI b ∨ 9007199254740992 ≤ n)) (fun _ f => (intOf f + 1074).toNat)
        case atStart => exact ⟨manI b, powI b, rfl, rfl, hhi, by omega, by omega, by omega, .inl rfl⟩
        case round =>
          obtain ⟨n, k, rfl, rfl, hn1, hn2, hk1, hk2, HK⟩ := hrel
          by_cases g1 : powI a < k
          · by_cases g2 : n < 4611686018427387904
            · go_wp2
              exact ⟨⟨n * 2, k - 1, rfl, rfl, by omega, by omega, by omega, by omega, .inr (by omega)⟩, by simp [intOf]; omega⟩
            · go_wp2
              go_ret
              exact ⟨ret_int (by rw [HR.out, if_pos hp]), rfl⟩
          · have hn3 : 9007199254740992 ≤ n := by rcases HK.out with h | h <;> omega
            have hmod : manI a % n = manI a := Int.emod_eq_of_lt a1 (by omega)
            have hk3 : k = powI a := by omega
            subst hk3
            go_wp2
            refine wp_loop_rounds 1 ?_
            rw [rounds_succ]
            go_wp2_with (go_at_call 59; refine (rjoin_any _ _ (a / 9223372036854775808) (by omega) (by omega) (by omega) (by omega) (by omega) (by omega) _).mono ?_; rintro e w' ⟨rfl, rfl⟩)
            go_ret
            exact ⟨ret_int (by rw [HR.out, if_pos hp]; exact HB.out), rfl⟩
      · have HR2 : Hid (remI a b = a / 9223372036854775808 * 9223372036854775808 + jnI (powI b + 1075) (manI a * 2 ^ (powI a - powI b).toNat % manI b)) := by show _ = _; rw [HR.out, if_neg hp]
        have r0 := Int.emod_nonneg (manI a) (show manI b ≠ 0 by omega)
        have r1 := Int.emod_lt_of_pos (manI a) b1
        have HS : Hid (manI a * 2 ^ (powI a - powI b).toNat % manI b = manI a % manI b * 2 ^ (powI a - powI b).toNat % manI b) := start_mod _ _ _
        go_enter Tryd.func27, Tryd.ntmps27
        go_wp2_with (first | (go_at_call 51; refine (isNaN_any _ (by omega) (by omega) _).mono ?_; rintro e w' ⟨rfl, rfl⟩) | (go_at_call 57; refine (isInf_any _ (by omega) (by omega) _).mono ?_; rintro e w' ⟨rfl, rfl⟩) | (go_at_call 46; refine (isZero_any _ (by omega) (by omega) _).mono ?_; rintro e w' ⟨rfl, rfl⟩) | (go_at_call 58; refine (rparts_any _ (by omega) (by omega) _).mono ?_; rintro e w' ⟨rfl, rfl⟩))
        go_loop [6, 9] (fun v f => ∃ k r : Int, v = .int .i64 k ∧ f = .int .u64 r ∧ 0 ≤ r ∧ r < manI b ∧ powI b ≤ k ∧ k ≤ powI a ∧ Hid (manI a * 2 ^ (powI a - powI b).toNat % manI b = r * 2 ^ (k - powI b).toNat % manI b)) (fun v _ => (intOf v + 1074).toNat)
        case atStart => exact ⟨powI a, manI a % manI b, rfl, rfl, r0, r1, by omega, by omega, HS⟩
        case round =>
          obtain ⟨k, r, rfl, rfl, hr0, hr1, hk1, hk2, HK⟩ := hrel
          by_cases g1 : powI b < k
          · have hd := Lib.hid (rem_double (r := r) (n := manI b) (g := k - powI b) b1 (by omega))
            by_cases g2 : r * 2 < manI b
            · go_wp2
              refine ⟨⟨k - 1, r * 2, rfl, rfl, by omega, by omega, by omega, by omega, ?_⟩, by simp [intOf]; omega⟩
              show _ = _
              rw [HK.out, ← hd.out, Int.emod_eq_of_lt (by omega) g2, show k - powI b - 1 = k - 1 - powI b by omega]
            · go_wp2
              refine ⟨⟨k - 1, r * 2 - manI b, rfl, rfl, by omega, by omega, by omega, by omega, ?_⟩, by simp [intOf]; omega⟩
              show _ = _
              have hsub : r * 2 % manI b = r * 2 - manI b := by
                rw [← Int.sub_emod_right, Int.emod_eq_of_lt (by omega) (by omega)]
              rw [HK.out, ← hd.out, hsub, show k - powI b - 1 = k - 1 - powI b by omega]
          · have hk3 : k = powI b := by omega
            subst hk3
            go_wp2_with (go_at_call 59; refine (rjoin_any _ _ (a / 9223372036854775808) (by omega) (by omega) (by omega) (by omega) (by omega) (by omega) _).mono ?_; rintro e w' ⟨rfl, rfl⟩)
            go_ret
            refine ⟨ret_int ?_, rfl⟩
            rw [HR2.out, HK.out]
            simp only [Int.sub_self]
            rw [show (0 : Int).toNat = 0 from rfl, Int.pow_zero, Int.mul_one, Int.emod_eq_of_lt hr0 hr1]

set_option maxRecDepth 100000 in
set_option maxHeartbeats 1000000 in
theorem law_BitsRems (a : Int) (ha0 : 0 ≤ a) (ha : a < 18446744073709551616) (b : Int) (hb0 : 0 ≤ b) (hb : b < 18446744073709551616) (w : World) (htab : tab w) :
    Calls Tryd.prog 4 #[.int .u64 a, .int .u64 b] w fun e w' => e = .returned (.bool true) ∧ Below w.heap.size w w' := by
  have W := Lib.hid (works_any w htab)
  clear htab
  go_enter Tryd.func4, Tryd.ntmps4
  go_wp2_with (first
    | (go_at_call 26; refine (rem_any _ _ (by omega) (by omega) (by omega) (by omega) _).mono ?_; rintro e w' ⟨rfl, rfl⟩)
    | (go_at_call 27; refine (rrem_any _ _ (by omega) (by omega) (by omega) (by omega) _).mono ?_; rintro e w' ⟨rfl, rfl⟩)
    | (go_at_call 25; refine W.out.mono ?_; rintro e w1 ⟨rfl, hB⟩))
  go_ret
  exact ⟨rfl, hB⟩
end Go.Proofs.YtmepgpiihhilaaaDoor
