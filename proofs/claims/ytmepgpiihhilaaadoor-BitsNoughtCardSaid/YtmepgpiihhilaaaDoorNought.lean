/- Noughts of both signs, and no numbers: the walk of the statement. -/
import Derived.Test.YtmepgpiihhilaaaDoorOrder
namespace Go.Proofs.YtmepgpiihhilaaaDoor
open Go.RowKit
set_option linter.unusedVariables false

theorem decDigits_head (u : Nat) : ∃ d l, Lib.decDigits u = d :: l ∧ 48 ≤ d.toNat ∧ d.toNat ≤ 57 := by
  induction u using Nat.strongRecOn with
  | ind u ih =>
    rw [Lib.decDigits]
    by_cases h : u < 10
    · rw [dif_pos h]
      refine ⟨_, [], rfl, ?_⟩
      rw [UInt8.toNat_ofNat']; omega
    · rw [dif_neg h]
      obtain ⟨d, l, e, h1, h2⟩ := ih (u / 10) (by omega)
      exact ⟨d, l ++ _, by rw [e]; rfl, h1, h2⟩

theorem itoa_head (n : Int) : ∃ d l, Lib.itoa n = d :: l ∧ d.toNat ≤ 57 := by
  unfold Lib.itoa
  split
  · exact ⟨45, _, rfl, by decide⟩
  · obtain ⟨d, l, e, _, h⟩ := decDigits_head n.toNat
    exact ⟨d, l, e, h⟩

theorem text_nan (a : Int) : ((textI a).toList == [78, 97, 78]) = nanB a := by
  rw [Lib.toList_data]
  unfold textI
  cases hn : nanB a
  · simp only [Bool.false_eq_true, if_false]
    split
    · split <;> decide
    · split
      · obtain ⟨d, l, e, h⟩ := itoa_head (wholeV a)
        show (Lib.itoa (wholeV a) == _) = false
        rw [e, beq_eq_false_iff_ne]
        intro hh
        rw [(List.cons.inj hh).1] at h
        exact absurd h (by decide)
      · rw [beq_eq_false_iff_ne]
        intro hh
        have : (tildeS a).data.toList = 126 :: (hexS a).data.toList := by unfold tildeS; simp
        rw [this] at hh
        exact absurd (List.cons.inj hh).1 (by decide)
  · simp only [if_true]; rfl

theorem known_comm (a b : Int) : knownI a b = knownI b a := by unfold knownI; exact Bool.and_comm _ _
theorem equal_comm (a b : Int) : equalI a b = equalI b a := by
  unfold equalI; rw [known_comm a b, Bool.beq_comm]
theorem same_comm (a b : Int) : sameI a b = sameI b a := by
  unfold sameI; rw [Bool.beq_comm (a := a), Bool.and_comm]
theorem same_self (a : Int) : sameI a a = true := by unfold sameI; simp
theorem equal_self (a : Int) : equalI a a = !nanB a := by unfold equalI knownI; simp

set_option maxRecDepth 100000 in
set_option maxHeartbeats 1000000 in
theorem law_BitsNought (a : Int) (ha0 : 0 ≤ a) (ha : a < 18446744073709551616) (b : Int) (hb0 : 0 ≤ b) (hb : b < 18446744073709551616) (w : World) (htab : tab w) :
    Calls Tryd.prog 11 #[.int .u64 a, .int .u64 b] w fun e w' => e = .returned (.bool true) ∧ Below w.heap.size w w' := by
  have e0h : ∀ w, Calls Tryd.prog 30 #[.int .u64 0, .int .u64 9223372036854775808] w fun e w' => e = .returned (.bool true) ∧ w = w' := fun w => (equal_any 0 9223372036854775808 (by decide) (by decide) (by decide) (by decide) w).mono fun e w' ⟨h, h2⟩ => ⟨h, h2⟩
  have s0h : ∀ w, Calls Tryd.prog 32 #[.int .u64 0, .int .u64 9223372036854775808] w fun e w' => e = .returned (.bool false) ∧ w = w' := fun w => (same_any 0 9223372036854775808 (by decide) (by decide) (by decide) (by decide) w).mono fun e w' ⟨h, h2⟩ => ⟨h, h2⟩
  have enh : ∀ w, Calls Tryd.prog 30 #[.int .u64 9221120237041090561, .int .u64 a] w fun e w' => e = .returned (.bool false) ∧ w = w' := fun w => (equal_any 9221120237041090561 a (by decide) (by decide) ha0 ha w).mono fun e w' ⟨h, h2⟩ => ⟨h, h2⟩
  have snh : ∀ w, Calls Tryd.prog 32 #[.int .u64 9221120237041090561, .int .u64 a] w fun e w' => e = .returned (.bool (nanB a)) ∧ w = w' := fun w => (same_any 9221120237041090561 a (by decide) (by decide) ha0 ha w).mono fun e w' ⟨h, h2⟩ => ⟨by
    rw [h]; refine ret_bool ?_
    unfold sameI
    have : nanB 9221120237041090561 = true := by decide
    rw [this, Bool.true_and]
    cases hn : nanB a
    · rw [Bool.or_false, beq_eq_false_iff_ne]
      intro e2
      rw [← e2, this] at hn; cases hn
    · simp, h2⟩
  have eah : ∀ w, Calls Tryd.prog 30 #[.int .u64 a, .int .u64 b] w fun e w' => e = .returned (.bool (equalI a b)) ∧ w = w' := fun w => equal_any a b ha0 ha hb0 hb w
  have ebh : ∀ w, Calls Tryd.prog 30 #[.int .u64 b, .int .u64 a] w fun e w' => e = .returned (.bool (equalI a b)) ∧ w = w' := fun w => by rw [equal_comm a b]; exact equal_any b a hb0 hb ha0 ha w
  have sah : ∀ w, Calls Tryd.prog 32 #[.int .u64 a, .int .u64 b] w fun e w' => e = .returned (.bool (sameI a b)) ∧ w = w' := fun w => same_any a b ha0 ha hb0 hb w
  have sbh : ∀ w, Calls Tryd.prog 32 #[.int .u64 b, .int .u64 a] w fun e w' => e = .returned (.bool (sameI a b)) ∧ w = w' := fun w => by rw [same_comm a b]; exact same_any b a hb0 hb ha0 ha w
  have ssh : ∀ w, Calls Tryd.prog 32 #[.int .u64 a, .int .u64 a] w fun e w' => e = .returned (.bool true) ∧ w = w' := fun w => by rw [← same_self a]; exact same_any a a ha0 ha ha0 ha w
  have esh : ∀ w, Calls Tryd.prog 30 #[.int .u64 a, .int .u64 a] w fun e w' => e = .returned (.bool (!nanB a)) ∧ w = w' := fun w => by rw [← equal_self a]; exact equal_any a a ha0 ha ha0 ha w
  have tth := fun w ht => text_any a ha0 ha w ht
  have tn := text_nan a
  generalize equalI a b = q1 at *
  generalize sameI a b = q2 at *
  generalize textI a = t at *
  have K := Lib.hid htab
  cases hn : nanB a
  all_goals
    rw [hn] at snh esh tn
    have E0 := Lib.hid e0h
    have S0 := Lib.hid s0h
    have EN := Lib.hid enh
    have SN := Lib.hid snh
    have EA := Lib.hid eah
    have EB := Lib.hid ebh
    have SA := Lib.hid sah
    have SB := Lib.hid sbh
    have SS := Lib.hid ssh
    have ES := Lib.hid esh
    have TT := Lib.hid tth
    clear htab hn e0h s0h enh snh eah ebh sah sbh ssh esh tth
    go_enter Tryd.func11, Tryd.ntmps11
    go_wp2_with fail
    refine (E0.out _).mono ?_
    rintro e w' ⟨rfl, rfl⟩
    go_wp2_with fail
    refine (S0.out _).mono ?_
    rintro e w' ⟨rfl, rfl⟩
    go_wp2_with fail
    refine (EN.out _).mono ?_
    rintro e w' ⟨rfl, rfl⟩
    go_wp2_with fail
    refine (SN.out _).mono ?_
    rintro e w' ⟨rfl, rfl⟩
    go_wp2_with fail
    refine (TT.out _ K.out).mono ?_
    rintro e w1 ⟨rfl, hB1⟩
    go_wp2_with fail
    refine (EA.out _).mono ?_
    rintro e w' ⟨rfl, rfl⟩
    go_wp2_with fail
    refine (EB.out _).mono ?_
    rintro e w' ⟨rfl, rfl⟩
    go_wp2_with fail
    refine (SA.out _).mono ?_
    rintro e w' ⟨rfl, rfl⟩
    go_wp2_with fail
    refine (SB.out _).mono ?_
    rintro e w' ⟨rfl, rfl⟩
    go_wp2_with fail
    refine (SS.out _).mono ?_
    rintro e w' ⟨rfl, rfl⟩
    go_wp2_with fail
    refine (ES.out _).mono ?_
    rintro e w' ⟨rfl, rfl⟩
    go_wp2_with fail
    refine (TT.out _ (tab_below K.out hB1)).mono ?_
    rintro e w2 ⟨rfl, hB2⟩
    go_wp2_with fail
    refine (works_any _ (tab_below (tab_below K.out hB1) hB2)).mono ?_
    rintro e w3 ⟨rfl, hB3⟩
    go_wp2_with fail
    go_ret
    exact ⟨rfl, below_trans (below_trans hB1 hB2) hB3⟩
end Go.Proofs.YtmepgpiihhilaaaDoor
