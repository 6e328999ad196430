/- Numbers cut down, whole or not, by the document's answer: the walk of the statement. -/
import Derived.Test.YtmepgpiihhilaaaDoorWorks
namespace Go.Proofs.YtmepgpiihhilaaaDoor
open Go.RowKit
set_option linter.unusedVariables false

theorem half_step {m e : Int} (he : e < 0) : m / 2 / 2 ^ (-(e + 1)).toNat = m / 2 ^ (-e).toNat := by
  have h : (-e).toNat = 1 + (-(e + 1)).toNat := by omega
  rw [h, pow_add_int]
  rw [Int.ediv_ediv, if_neg (fun h => absurd h.1 (by decide)), Int.sub_zero]; rfl
theorem twice_step {m e : Int} (he : 0 < e) : m * 2 % 4294967296 * 2 ^ (e - 1).toNat % 4294967296 = m * 2 ^ e.toNat % 4294967296 := by
  have h : e.toNat = 1 + (e - 1).toNat := by omega
  rw [← start_mod, h, pow_add_int, ← Int.mul_assoc]; rfl

theorem shr63 {b : Int} (h0 : 0 ≤ b) (h1 : b < 18446744073709551616) {v : Bool} (hs : (b / 9223372036854775808 == 1) = v) : 9223372036854775808 ≤ b ↔ v = true := by
  subst hs
  rw [beq_iff_eq]; omega

theorem word_end {b m r : Int} {v : Bool} (h0 : 0 ≤ b) (h1 : b < 18446744073709551616) (hm : m % 4294967296 = cutI b % 4294967296)
    (HR : uwordI b = if 9223372036854775808 ≤ b then (-cutI b) % 4294967296 else cutI b % 4294967296) (hs : (b / 9223372036854775808 == 1) = v)
    (hr : r = if v = true then -(m % 4294967296) % 4294967296 else m % 4294967296) : r = uwordI b := by
  rw [hr, HR]
  simp only [shr63 h0 h1 hs]
  split <;> omega

set_option maxRecDepth 100000 in
set_option maxHeartbeats 2000000 in
theorem ruint32_any (b : Int) (hb0 : 0 ≤ b) (hb : b < 18446744073709551616) (w : World) :
    Calls Tryd.prog 37 #[.int .u64 b] w fun e w' => e = .returned (.int .u32 (uwordI b)) ∧ w = w' := by
  by_cases h1 : nanB b = true ∨ infB b = true
  · have HR : Hid (uwordI b = 0) := by show _ = _; unfold uwordI; rw [if_pos h1]
    go_enter Tryd.func37, Tryd.ntmps37
    go_wp2_with (first | (go_at_call 51; refine (isNaN_any _ (by omega) (by omega) _).mono ?_; rintro e w' ⟨rfl, rfl⟩) | (go_at_call 57; refine (isInf_any _ (by omega) (by omega) _).mono ?_; rintro e w' ⟨rfl, rfl⟩) | (go_at_call 58; refine (rparts_any _ (by omega) (by omega) _).mono ?_; rintro e w' ⟨rfl, rfl⟩))
    all_goals first | (go_ret; exact ⟨ret_int HR.out.symm, rfl⟩) | (exfalso; simp_all; done)
  · have HR : Hid (uwordI b = if 9223372036854775808 ≤ b then (-cutI b) % 4294967296 else cutI b % 4294967296) := by show _ = _; unfold uwordI; rw [if_neg h1]
    simp only [not_or, Bool.not_eq_true] at h1
    obtain ⟨n1, n2⟩ := h1
    have b1 := man_nonneg b
    have b2 := man_lt b
    have b3 := pow_lo b
    have b4 := pow_hi n1 n2
    have HC : Hid (cutI b = if powI b < 0 then manI b / 2 ^ (-powI b).toNat else manI b * 2 ^ (powI b).toNat) := rfl
    go_enter Tryd.func37, Tryd.ntmps37
    go_wp2_with (first | (go_at_call 51; refine (isNaN_any _ (by omega) (by omega) _).mono ?_; rintro e w' ⟨rfl, rfl⟩) | (go_at_call 57; refine (isInf_any _ (by omega) (by omega) _).mono ?_; rintro e w' ⟨rfl, rfl⟩) | (go_at_call 58; refine (rparts_any _ (by omega) (by omega) _).mono ?_; rintro e w' ⟨rfl, rfl⟩))
    go_loop [3, 4] (fun v f => ∃ m e : Int, v = .int .u64 m ∧ f = .int .i64 e ∧ 0 ≤ m ∧ m < 9007199254740992 ∧ powI b ≤ e ∧ e ≤ 971 ∧ Hid ((e ≤ 0 ∧ powI b < 0 ∧ manI b / 2 ^ (-powI b).toNat = m / 2 ^ (-e).toNat) ∨ (0 ≤ e ∧ m = manI b ∧ e = powI b))) (fun _ f => (-intOf f).toNat)
    case atStart =>
      refine ⟨manI b, powI b, rfl, rfl, b1, b2, by omega, b4, ?_⟩
      by_cases hp : powI b < 0
      · exact .inl ⟨by omega, hp, rfl⟩
      · exact .inr ⟨by omega, rfl, rfl⟩
    case round =>
      obtain ⟨m, e, rfl, rfl, hm0, hm, he1, he2, HJ⟩ := hrel
      by_cases g1 : e < 0
      · by_cases g2 : 0 < m
        · have hst := Lib.hid (half_step (m := m) g1)
          go_wp2
          refine ⟨⟨m / 2, e + 1, rfl, rfl, by omega, by omega, by omega, by omega, .inl ?_⟩, by simp [intOf]; omega⟩
          rcases HJ.out with ⟨h1, h2, h3⟩ | ⟨h1, _, _⟩
          · exact ⟨by omega, h2, by rw [h3, hst.out]⟩
          · omega
        · have hm2 : m = 0 := by omega
          have HM : Hid (m % 4294967296 = cutI b % 4294967296) := by
            show _ = _
            rcases HJ.out with ⟨h1, h2, h3⟩ | ⟨h1, _, _⟩
            · rw [HC.out, if_pos h2, h3, hm2, Int.zero_ediv]
            · omega
          clear hm2
          go_wp2
          refine wp_loop_rounds 1 ?_
          rw [rounds_succ]
          go_wp2
          all_goals first
            | (have hs : (b / 9223372036854775808 == 1) = true := by assumption
               go_ret
               exact ⟨ret_int (word_end hb0 hb HM.out HR.out hs (by rfl)), rfl⟩)
            | (have hs : (b / 9223372036854775808 == 1) = false := by assumption
               go_ret
               exact ⟨ret_int (word_end hb0 hb HM.out HR.out hs (by rfl)), rfl⟩)
      · have HM : Hid (m * 2 ^ e.toNat % 4294967296 = cutI b % 4294967296) := by
          show _ = _
          rcases HJ.out with ⟨h1, h2, h3⟩ | ⟨h1, h2, h3⟩
          · have e0 : e = 0 := by omega
            rw [HC.out, if_pos h2, h3, e0]; simp
          · rw [HC.out, if_neg (by omega), h2, h3]
        clear HJ
        go_wp2
        go_loop [3, 4] (fun v f => ∃ m e : Int, v = .int .u64 m ∧ f = .int .i64 e ∧ 0 ≤ m ∧ m < 9007199254740992 ∧ 0 ≤ e ∧ e ≤ 971 ∧ Hid (m * 2 ^ e.toNat % 4294967296 = cutI b % 4294967296)) (fun _ f => (intOf f).toNat)
        case atStart => exact ⟨m, e, rfl, rfl, hm0, hm, by omega, he2, HM⟩
        case round =>
          obtain ⟨m, e, rfl, rfl, hm0, hm, he1, he2, HK⟩ := hrel
          by_cases g1 : 0 < e
          · by_cases g2 : 0 < m
            · have hst := Lib.hid (twice_step (m := m) g1)
              go_wp2
              refine ⟨⟨m * 2 % 4294967296, e - 1, rfl, rfl, by omega, by omega, by omega, by omega, ?_⟩, by simp [intOf]; omega⟩
              show _ = _
              rw [hst.out, HK.out]
            · have hm2 : m = 0 := by omega
              have HM2 : Hid (m % 4294967296 = cutI b % 4294967296) := by show _ = _; rw [← HK.out, hm2, Int.zero_mul]
              clear hm2
              go_wp2
              all_goals first
                | (have hs : (b / 9223372036854775808 == 1) = true := by assumption
                   go_ret
                   exact ⟨ret_int (word_end hb0 hb HM2.out HR.out hs (by rfl)), rfl⟩)
                | (have hs : (b / 9223372036854775808 == 1) = false := by assumption
                   go_ret
                   exact ⟨ret_int (word_end hb0 hb HM2.out HR.out hs (by rfl)), rfl⟩)
          · have he0 : e = 0 := by omega
            have HM2 : Hid (m % 4294967296 = cutI b % 4294967296) := by show _ = _; rw [← HK.out, he0]; simp
            clear he0
            go_wp2
            all_goals first
              | (have hs : (b / 9223372036854775808 == 1) = true := by assumption
                 go_ret
                 exact ⟨ret_int (word_end hb0 hb HM2.out HR.out hs (by rfl)), rfl⟩)
              | (have hs : (b / 9223372036854775808 == 1) = false := by assumption
                 go_ret
                 exact ⟨ret_int (word_end hb0 hb HM2.out HR.out hs (by rfl)), rfl⟩)

set_option maxHeartbeats 400000 in
theorem rint32_any (b : Int) (hb0 : 0 ≤ b) (hb : b < 18446744073709551616) (w : World) :
    Calls Tryd.prog 39 #[.int .u64 b] w fun e w' => e = .returned (.int .i32 (wrap32 (uwordI b))) ∧ w = w' := by
  have u0 : 0 ≤ uwordI b := by unfold uwordI; split <;> (try split) <;> omega
  have u1 : uwordI b < 4294967296 := by unfold uwordI; split <;> (try split) <;> omega
  have U := Lib.hid (fun w => ruint32_any b hb0 hb w)
  generalize uwordI b = u at *
  by_cases hh : 2147483648 ≤ u
  · have HE : Hid (wrap32 u = u - 4294967296) := by show _ = _; unfold wrap32; omega
    go_enter Tryd.func39, Tryd.ntmps39
    go_wp2_with (go_at_call 37; refine (U.out _).mono ?_; rintro e w' ⟨rfl, rfl⟩)
    go_ret
    exact ⟨ret_int HE.out.symm, rfl⟩
  · have HE : Hid (wrap32 u = u) := by show _ = _; unfold wrap32; omega
    go_enter Tryd.func39, Tryd.ntmps39
    go_wp2_with (go_at_call 37; refine (U.out _).mono ?_; rintro e w' ⟨rfl, rfl⟩)
    go_ret
    exact ⟨ret_int HE.out.symm, rfl⟩

theorem inside_of {x : Nat} (h : expI x ≤ 0) : insideN x = true := by
  unfold expI at h
  unfold insideN
  apply decide_eq_true
  split at h <;> omega

theorem odd_not_pure {x m : Nat} {e : Int} (h1 : expI x ≤ e) (h2 : e < 0) (hm : mantN x = m * 2 ^ (e - expI x).toNat) (ho : m % 2 = 1) : pureN x = false := by
  unfold pureN
  rw [decide_eq_false (by omega), Bool.false_or, beq_eq_false_iff_ne, hm]
  have e1 : (-expI x).toNat = ((-e).toNat - 1) + 1 + (e - expI x).toNat := by omega
  rw [e1, Nat.pow_add, Nat.mul_mod_mul_right]
  intro h
  rcases Nat.mul_eq_zero.1 h with h | h
  · rw [Nat.pow_succ] at h
    have hdm := Nat.div_add_mod m (2 ^ ((-e).toNat - 1) * 2)
    rw [h, Nat.add_zero] at hdm
    have : m % 2 = 0 := by rw [← hdm, Nat.mul_assoc, Nat.mul_comm 2, ← Nat.mul_assoc]; exact Nat.mul_mod_left _ _
    omega
  · exact absurd h (Nat.ne_of_gt (Nat.two_pow_pos _))

theorem even_step {x m : Nat} {e : Int} (h1 : expI x ≤ e) (hm : mantN x = m * 2 ^ (e - expI x).toNat) (ho : m % 2 = 0) : mantN x = m / 2 * 2 ^ (e + 1 - expI x).toNat := by
  have e1 : (e + 1 - expI x).toNat = 1 + (e - expI x).toNat := by omega
  rw [e1, Nat.pow_add, ← Nat.mul_assoc, hm]
  congr 1; omega

theorem whole_low {x m : Nat} (h1 : expI x ≤ 0) (hm : mantN x = m * 2 ^ (0 - expI x).toNat) : pureN x = true ∧ cutN x = m ∧ insideN x = true := by
  refine ⟨?_, ?_, inside_of h1⟩
  · unfold pureN
    by_cases h : 0 ≤ expI x
    · rw [decide_eq_true h, Bool.true_or]
    · rw [decide_eq_false h, Bool.false_or, beq_iff_eq, hm, show (-expI x).toNat = (0 - expI x).toNat by omega]
      exact Nat.mul_mod_left _ _
  · unfold cutN
    rw [show (expI x).toNat = 0 by omega, Nat.pow_zero, Nat.mul_one, hm, show (-expI x).toNat = (0 - expI x).toNat by omega]
    exact Nat.mul_div_cancel _ (Nat.two_pow_pos _)

theorem whole_nought {x : Nat} (h1 : expI x ≤ 0) (hm : mantN x = 0) : pureN x = true ∧ cutN x = 0 ∧ insideN x = true :=
  whole_low h1 (by rw [hm, Nat.zero_mul])

theorem high_mant {x : Nat} (h : 0 < expI x) : 4503599627370496 ≤ mantN x := by
  unfold expI at h
  unfold mantN
  split at h
  · omega
  · rename_i hf; rw [if_neg hf]; omega

theorem not_inside {x : Nat} (h : 1 < expI x ∨ (expI x = 1 ∧ mantN x ≠ 4503599627370496)) : insideN x = false := by
  unfold expI mantN at h
  unfold insideN
  apply decide_eq_false
  split at h <;> omega

theorem inside_one {x : Nat} (h : expI x = 1) (hm : mantN x = 4503599627370496) (hlt : x < 18446744073709551616) : insideN x = true ∧ pureN x = true ∧ cutN x = 9007199254740992 := by
  refine ⟨?_, ?_, ?_⟩
  · unfold expI at h
    unfold mantN at hm
    unfold insideN
    apply decide_eq_true
    split at h
    · omega
    · rename_i hf
      rw [if_neg hf] at hm
      omega
  · unfold pureN; rw [decide_eq_true (by omega), Bool.true_or]
  · unfold cutN; rw [h, hm]; decide

theorem whole_false {b : Int} {x : Nat} (hx : b.toNat = x) (h : insideN x = false ∨ pureN x = false) : wholeB b = false ∧ wholeV b = 0 := by
  have e : wholeB b = false := by
    unfold wholeB
    rw [hx]
    rcases h with h | h
    · rw [h, Bool.false_and]
    · rw [h, Bool.and_false]
  refine ⟨e, ?_⟩
  unfold wholeV; rw [if_neg (by rw [e]; decide)]
theorem whole_true {b : Int} {x m : Nat} (hx : b.toNat = x) (h : pureN x = true ∧ cutN x = m ∧ insideN x = true) : wholeB b = true ∧ wholeV b = if 9223372036854775808 ≤ b then -(m : Int) else m := by
  have e : wholeB b = true := by
    unfold wholeB
    rw [hx, h.1, h.2.2]; rfl
  refine ⟨e, ?_⟩
  unfold wholeV
  rw [if_pos e, hx, h.2.1]

theorem nan_not_inside {b : Int} (hb0 : 0 ≤ b) (h : nanB b = true ∨ infB b = true) : insideN b.toNat = false := by
  unfold insideN
  apply decide_eq_false
  rcases h with h | h
  · have := of_decide_eq_true h
    omega
  · unfold infB at h
    have := beq_iff_eq.1 h
    omega

theorem ret_whole {b : Int} {r : Int} {v : Bool} (h0 : 0 ≤ b) (h1 : b < 18446744073709551616) {m : Int} (hs : (b / 9223372036854775808 == 1) = v)
    (H : wholeB b = true ∧ wholeV b = if 9223372036854775808 ≤ b then -m else m) (hr : r = if v = true then -m else m) :
    Ending.returned (.tuple #[.int .i64 r, .bool true]) = .returned (.tuple #[.int .i64 (wholeV b), .bool (wholeB b)]) := by
  rw [H.1, H.2, hr]
  simp only [shr63 h0 h1 hs]

set_option maxRecDepth 100000 in
set_option maxHeartbeats 2000000 in
theorem rwhole_any (b : Int) (hb0 : 0 ≤ b) (hb : b < 18446744073709551616) (w : World) :
    Calls Tryd.prog 35 #[.int .u64 b] w fun e w' => e = .returned (.tuple #[.int .i64 (wholeV b), .bool (wholeB b)]) ∧ w = w' := by
  by_cases h1 : nanB b = true ∨ infB b = true
  · have HF : Hid (wholeB b = false ∧ wholeV b = 0) := whole_false rfl (.inl (nan_not_inside hb0 h1))
    go_enter Tryd.func35, Tryd.ntmps35
    go_wp2_with (first | (go_at_call 51; refine (isNaN_any _ (by omega) (by omega) _).mono ?_; rintro e w' ⟨rfl, rfl⟩) | (go_at_call 57; refine (isInf_any _ (by omega) (by omega) _).mono ?_; rintro e w' ⟨rfl, rfl⟩) | (go_at_call 58; refine (rparts_any _ (by omega) (by omega) _).mono ?_; rintro e w' ⟨rfl, rfl⟩))
    all_goals first | (go_ret2; exact ⟨by rw [HF.out.1, HF.out.2]; rfl, rfl⟩) | (exfalso; simp_all; done)
  · simp only [not_or, Bool.not_eq_true] at h1
    obtain ⟨n1, n2⟩ := h1
    have b1 := man_nonneg b
    have b2 := man_lt b
    have b3 := pow_lo b
    have b4 := pow_hi n1 n2
    obtain ⟨x, hx⟩ : ∃ x : Nat, b.toNat = x := ⟨_, rfl⟩
    have hxb : b = (x : Int) := by omega
    have HM : Hid (manI b = (mantN x : Int)) := by show _ = _; rw [hxb]; exact man_nat x
    have HE : Hid (powI b = expI x) := by show _ = _; rw [hxb]; exact pow_nat x
    have HX := Lib.hid hx
    have HXL : Hid (x < 18446744073709551616) := by show _ < _; omega
    clear hx hxb
    by_cases hp : 0 < powI b
    · have hmant : 4503599627370496 ≤ manI b := by have := high_mant (x := x) (by rw [← HE.out]; exact hp); rw [HM.out]; omega
      go_enter Tryd.func35, Tryd.ntmps35
      go_wp2_with (first | (go_at_call 51; refine (isNaN_any _ (by omega) (by omega) _).mono ?_; rintro e w' ⟨rfl, rfl⟩) | (go_at_call 57; refine (isInf_any _ (by omega) (by omega) _).mono ?_; rintro e w' ⟨rfl, rfl⟩) | (go_at_call 58; refine (rparts_any _ (by omega) (by omega) _).mono ?_; rintro e w' ⟨rfl, rfl⟩))
      refine wp_loop_rounds 1 ?_
      rw [rounds_succ]
      go_wp2
      go_loop [4, 5] (fun v f => ∃ m e : Int, v = .int .u64 m ∧ f = .int .i64 e ∧ 0 ≤ e ∧ e ≤ 971 ∧ 4503599627370496 ≤ m ∧ m ≤ 18014398509481984 ∧ Hid ((e = powI b ∧ m = manI b) ∨ (e = powI b - 1 ∧ m = 2 * manI b) ∨ (e = powI b - 2 ∧ m = 18014398509481984))) (fun _ f => (intOf f).toNat)
      case atStart => exact ⟨manI b, powI b, rfl, rfl, by omega, by omega, hmant, by omega, .inl ⟨rfl, rfl⟩⟩
      case round =>
        obtain ⟨m, e, rfl, rfl, he1, he2, hm1, hm2, HK⟩ := hrel
        by_cases g1 : 0 < e
        · by_cases g2 : 9007199254740992 < m
          · have HF : Hid (wholeB b = false ∧ wholeV b = 0) := whole_false HX.out (.inl (not_inside (.inl (by rw [← HE.out]; rcases HK.out with h | h | h <;> omega))))
            go_wp2
            go_ret2
            exact ⟨by rw [HF.out.1, HF.out.2]; rfl, rfl⟩
          · go_wp2
            refine ⟨⟨m * 2, e - 1, rfl, rfl, by omega, by omega, by omega, by omega, ?_⟩, by simp [intOf]; omega⟩
            rcases HK.out with h | h | h
            · exact .inr (.inl (by omega))
            · exact .inr (.inr (by omega))
            · omega
        · by_cases g2 : 9007199254740992 < m
          · have HF : Hid (wholeB b = false ∧ wholeV b = 0) := whole_false HX.out (.inl (not_inside (by
              rw [← HE.out]
              have := HM.out
              rcases HK.out with h | h | h
              · omega
              · exact .inr ⟨by omega, by omega⟩
              · exact .inl (by omega))))
            go_wp2
            go_ret2
            exact ⟨by rw [HF.out.1, HF.out.2]; rfl, rfl⟩
          · have hone : powI b = 1 ∧ manI b = 4503599627370496 ∧ m = 9007199254740992 := by rcases HK.out with h | h | h <;> omega
            have HT : Hid (wholeB b = true ∧ wholeV b = if 9223372036854775808 ≤ b then -m else m) := by
              have h1 := inside_one (x := x) (by rw [← HE.out]; exact hone.1) (by have := HM.out; omega) HXL.out
              have h2 := whole_true HX.out ⟨h1.2.1, h1.2.2, h1.1⟩
              show _ ∧ _
              rw [hone.2.2]; exact h2
            clear hone HK
            go_wp2
            all_goals first
              | (have hs : (b / 9223372036854775808 == 1) = true := by assumption
                 go_ret2
                 exact ⟨ret_whole hb0 hb hs HT.out (by rfl), rfl⟩)
              | (have hs : (b / 9223372036854775808 == 1) = false := by assumption
                 go_ret2
                 exact ⟨ret_whole hb0 hb hs HT.out (by rfl), rfl⟩)
    · go_enter Tryd.func35, Tryd.ntmps35
      go_wp2_with (first | (go_at_call 51; refine (isNaN_any _ (by omega) (by omega) _).mono ?_; rintro e w' ⟨rfl, rfl⟩) | (go_at_call 57; refine (isInf_any _ (by omega) (by omega) _).mono ?_; rintro e w' ⟨rfl, rfl⟩) | (go_at_call 58; refine (rparts_any _ (by omega) (by omega) _).mono ?_; rintro e w' ⟨rfl, rfl⟩))
      go_loop [4, 5] (fun v f => ∃ m e : Int, v = .int .u64 m ∧ f = .int .i64 e ∧ 0 ≤ m ∧ m < 9007199254740992 ∧ powI b ≤ e ∧ e ≤ 0 ∧ Hid (mantN x = m.toNat * 2 ^ (e - expI x).toNat)) (fun _ f => (-intOf f).toNat)
      case atStart => exact ⟨manI b, powI b, rfl, rfl, b1, b2, by omega, by omega, by
        show _ = _
        rw [HE.out, HM.out, Int.sub_self, Int.toNat_natCast]; simp⟩
      case round =>
        obtain ⟨m, e, rfl, rfl, hm0, hm, he1, he2, HJ⟩ := hrel
        by_cases g1 : e < 0
        · by_cases g2 : 0 < m
          · by_cases g3 : m % 2 = 1
            · have hodd : (m % 2 == 1) = true := by rw [g3]; rfl
              have HF : Hid (wholeB b = false ∧ wholeV b = 0) := whole_false HX.out (.inr (odd_not_pure (by rw [← HE.out]; exact he1) g1 HJ.out (by omega)))
              clear g3
              go_wp2
              go_ret2
              exact ⟨by rw [HF.out.1, HF.out.2]; rfl, rfl⟩
            · have hodd : (m % 2 == 1) = false := by rw [beq_eq_false_iff_ne]; exact g3
              have HS : Hid (mantN x = m.toNat / 2 * 2 ^ (e + 1 - expI x).toNat) := even_step (by rw [← HE.out]; exact he1) HJ.out (by omega)
              clear g3
              go_wp2
              refine ⟨⟨m / 2, e + 1, rfl, rfl, by omega, by omega, by omega, by omega, ?_⟩, by simp [intOf]; omega⟩
              show _ = _
              rw [show (m / 2).toNat = m.toNat / 2 by omega]; exact HS.out
          · have hm2 : m = 0 := by omega
            have HT : Hid (wholeB b = true ∧ wholeV b = if 9223372036854775808 ≤ b then -m else m) := by
              have h2 := whole_true HX.out (whole_nought (by rw [← HE.out]; omega) (by rw [HJ.out, hm2]; simp))
              show _ ∧ _
              rw [hm2]; exact h2
            clear hm2
            go_wp2
            refine wp_loop_rounds 1 ?_
            rw [rounds_succ]
            go_wp2
            all_goals first
              | (have hs : (b / 9223372036854775808 == 1) = true := by assumption
                 go_ret2
                 exact ⟨ret_whole hb0 hb hs HT.out (by rfl), rfl⟩)
              | (have hs : (b / 9223372036854775808 == 1) = false := by assumption
                 go_ret2
                 exact ⟨ret_whole hb0 hb hs HT.out (by rfl), rfl⟩)
        · have he0 : e = 0 := by omega
          have HT : Hid (wholeB b = true ∧ wholeV b = if 9223372036854775808 ≤ b then -m else m) := by
            have h2 := whole_true HX.out (whole_low (m := m.toNat) (by rw [← HE.out]; omega) (by have := HJ.out; rw [he0] at this; exact this))
            show _ ∧ _
            rw [Int.toNat_of_nonneg hm0] at h2; exact h2
          clear he0
          go_wp2
          refine wp_loop_rounds 1 ?_
          rw [rounds_succ]
          go_wp2
          all_goals first
            | (have hs : (b / 9223372036854775808 == 1) = true := by assumption
               go_ret2
               exact ⟨ret_whole hb0 hb hs HT.out (by rfl), rfl⟩)
            | (have hs : (b / 9223372036854775808 == 1) = false := by assumption
               go_ret2
               exact ⟨ret_whole hb0 hb hs HT.out (by rfl), rfl⟩)

set_option maxRecDepth 100000 in
set_option maxHeartbeats 1000000 in
theorem law_BitsWholes (b : Int) (hb0 : 0 ≤ b) (hb : b < 18446744073709551616) (n : Int) (hn0 : -9223372036854775808 ≤ n) (hn1 : n ≤ 9223372036854775807) (w : World) (htab : tab w) :
    Calls Tryd.prog 6 #[.int .u64 b, .int .i64 n] w fun e w' => e = .returned (.bool true) ∧ Below w.heap.size w w' := by
  have W := Lib.hid (works_any w htab)
  clear htab
  go_enter Tryd.func6, Tryd.ntmps6
  go_wp2_with (first
    | (go_at_call 34; refine (whole_any _ (by omega) (by omega) _).mono ?_; rintro e w' ⟨rfl, rfl⟩)
    | (go_at_call 35; refine (rwhole_any _ (by omega) (by omega) _).mono ?_; rintro e w' ⟨rfl, rfl⟩)
    | (go_at_call 36; refine (uint32_any _ (by omega) (by omega) _).mono ?_; rintro e w' ⟨rfl, rfl⟩)
    | (go_at_call 37; refine (ruint32_any _ (by omega) (by omega) _).mono ?_; rintro e w' ⟨rfl, rfl⟩)
    | (go_at_call 38; refine (int32_any _ (by omega) (by omega) _).mono ?_; rintro e w' ⟨rfl, rfl⟩)
    | (go_at_call 39; refine (rint32_any _ (by omega) (by omega) _).mono ?_; rintro e w' ⟨rfl, rfl⟩)
    | (go_at_call 40; refine (of_any _ _).mono ?_; rintro e w' ⟨rfl, rfl⟩)
    | (go_at_call 41; refine (rof_any _ _).mono ?_; rintro e w' ⟨rfl, rfl⟩)
    | (go_at_call 25; refine W.out.mono ?_; rintro e w1 ⟨rfl, hB⟩))
  go_ret
  exact ⟨rfl, hB⟩
end Go.Proofs.YtmepgpiihhilaaaDoor
