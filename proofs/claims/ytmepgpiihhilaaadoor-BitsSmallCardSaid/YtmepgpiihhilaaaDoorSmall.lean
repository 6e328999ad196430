/- Small whole numbers are added, taken away, and multiplied without an error: the walk of the statement. -/
import Derived.Test.YtmepgpiihhilaaaDoorSum
import Derived.Test.YtmepgpiihhilaaaDoorOrder
namespace Go.Proofs.YtmepgpiihhilaaaDoor
open Go.RowKit
set_option linter.unusedVariables false

theorem sgn_of (n : Int) : sgnI (decide (n < 0)) n.natAbs = n := by
  unfold sgnI
  by_cases h : n < 0
  · simp only [h, decide_true, if_true]; omega
  · simp only [h, decide_false, Bool.false_eq_true, if_false]; omega

theorem of_nat (n : Int) : (ofI n).toNat = wordN (decide (n < 0)) n.natAbs := by rw [of_word, Int.toNat_natCast]

theorem fop_of {op : BinOp} {x y : Int} {s : Bool} {c : Nat} (hc : c ≤ 9007199254740992) (h : floatBits op .f64 x.toNat y.toNat = some (wordN s c)) : fop op x y = (wordN s c : Nat) := by
  unfold fop
  rw [h]
  exact canon_is (is_word s hc)

theorem add_small {a b : Int} (ha : -67108864 < a) (ha' : a < 67108864) (hb : -67108864 < b) (hb' : b < 67108864) : fop .add (ofI a) (ofI b) = ofI (a + b) := by
  have h := is_word (decide (a < 0)) (show a.natAbs ≤ 9007199254740992 by omega)
  have k := is_word (decide (b < 0)) (show b.natAbs ≤ 9007199254740992 by omega)
  have hs := sum_word h k (by omega) (by omega) (by omega)
  rw [sgn_of, sgn_of] at hs
  have e : (if a + b = 0 then decide (a < 0) && decide (b < 0) else decide (a + b < 0)) = decide (a + b < 0) := by
    split
    · rename_i h0
      have e1 : decide (a + b < 0) = false := decide_eq_false (by omega)
      rw [e1]
      by_cases h1 : a < 0
      · rw [decide_eq_false (show ¬ b < 0 by omega), Bool.and_false]
      · rw [decide_eq_false h1, Bool.false_and]
    · rfl
  rw [e] at hs
  rw [of_word (a + b)]
  refine fop_of (by omega) ?_
  rw [of_nat, of_nat]
  exact hs

theorem sub_small {a b : Int} (ha : -67108864 < a) (ha' : a < 67108864) (hb : -67108864 < b) (hb' : b < 67108864) : fop .sub (ofI a) (ofI b) = ofI (a - b) := by
  have h := is_word (decide (a < 0)) (show a.natAbs ≤ 9007199254740992 by omega)
  have k := is_word (decide (b < 0)) (show b.natAbs ≤ 9007199254740992 by omega)
  have k2 := is_word (!decide (b < 0)) (show b.natAbs ≤ 9007199254740992 by omega)
  have hs := sum_word h k2 (by omega) (by omega) (by omega)
  have e0 : sgnI (!decide (b < 0)) b.natAbs = -b := by
    unfold sgnI
    by_cases h : b < 0
    · simp only [h, decide_true, Bool.not_true, Bool.false_eq_true, if_false]; omega
    · simp only [h, decide_false, Bool.not_false, if_true]; omega
  rw [sgn_of, e0] at hs
  have e : (if a + -b = 0 then decide (a < 0) && !decide (b < 0) else decide (a + -b < 0)) = decide (a - b < 0) := by
    have ez : a + -b = a - b := by omega
    rw [ez]
    split
    · rename_i h0
      have e1 : decide (a - b < 0) = false := decide_eq_false (by omega)
      rw [e1]
      by_cases h1 : a < 0
      · rw [decide_eq_true (show b < 0 by omega), Bool.not_true, Bool.and_false]
      · rw [decide_eq_false h1, Bool.false_and]
    · rfl
  rw [e, show a + -b = a - b by omega] at hs
  rw [of_word (a - b)]
  refine fop_of (by omega) ?_
  rw [of_nat, of_nat]
  show ((Ieee.double.read _).sum (Ieee.double.read _).opposite).map Ieee.double.write = _
  rw [k.flip (by omega)]
  exact hs

theorem mul_small {a b : Int} (ha : -67108864 < a) (ha' : a < 67108864) (hb : -67108864 < b) (hb' : b < 67108864) :
    wholeB (fop .mul (ofI a) (ofI b)) = true ∧ wholeV (fop .mul (ofI a) (ofI b)) = a * b ∧ (a * b).natAbs < 4503599627370496 := by
  have h := is_word (decide (a < 0)) (show a.natAbs ≤ 9007199254740992 by omega)
  have k := is_word (decide (b < 0)) (show b.natAbs ≤ 9007199254740992 by omega)
  have hlt : a.natAbs * b.natAbs < 67108864 * 67108864 := Nat.mul_lt_mul'' (by omega) (by omega)
  have hs := mul_word h k (by omega) (by omega) (by omega)
  have hf : fop .mul (ofI a) (ofI b) = (wordN (decide (a < 0) ^^ decide (b < 0)) (a.natAbs * b.natAbs) : Nat) := by
    refine fop_of (by omega) ?_
    rw [of_nat, of_nat]; exact hs
  have r := is_word (decide (a < 0) ^^ decide (b < 0)) (show a.natAbs * b.natAbs ≤ 9007199254740992 by omega)
  rw [hf]
  refine ⟨r.whole.1, ?_, by rw [Int.natAbs_mul]; omega⟩
  rw [r.whole.2]
  have hp : ((a.natAbs * b.natAbs : Nat) : Int) = (a.natAbs : Int) * (b.natAbs : Int) := Int.natCast_mul _ _
  rw [hp]
  by_cases h1 : a < 0 <;> by_cases h2 : b < 0
  · rw [show (a.natAbs : Int) = -a by omega, show (b.natAbs : Int) = -b by omega]
    simp [h1, h2, Int.neg_mul_neg]
  · rw [show (a.natAbs : Int) = -a by omega, show (b.natAbs : Int) = b by omega]
    simp [h1, h2, Int.neg_mul]
  · rw [show (a.natAbs : Int) = a by omega, show (b.natAbs : Int) = -b by omega]
    simp [h1, h2, Int.mul_neg]
  · rw [show (a.natAbs : Int) = a by omega, show (b.natAbs : Int) = b by omega]
    simp [h1, h2]

theorem known_of (a b : Int) : knownI (ofI a) (ofI b) = true := by
  have : ∀ n, nanB (ofI n) = false := by
    intro n
    unfold ofI
    rw [nanB_nat]
    have := nearest_low (n < 0) n.natAbs 0
    refine decide_eq_false ?_
    show ¬ (_ < Ieee.double.nearest (n < 0) n.natAbs 0 % _)
    omega
  unfold knownI; rw [this, this]; rfl

theorem ord_of {a b : Int} (ha : a.natAbs ≤ 9007199254740992) (hb : b.natAbs ≤ 9007199254740992) : compare (ordS (ofI a)) (ordS (ofI b)) = compare a b := by
  have h := is_word (decide (a < 0)) ha
  have k := is_word (decide (b < 0)) hb
  have e := val_ord (wordN (decide (a < 0)) a.natAbs) (wordN (decide (b < 0)) b.natAbs)
  rw [h.val, k.val, sgn_of, sgn_of, compare_scale (pow_pos' _)] at e
  rw [e, ← ordS_nat (ofI_nonneg a) (ofI_lt a), ← ordS_nat (ofI_nonneg b) (ofI_lt b), of_nat, of_nat]

theorem less_of {a b : Int} (ha : a.natAbs ≤ 9007199254740992) (hb : b.natAbs ≤ 9007199254740992) : lessI (ofI a) (ofI b) = decide (a < b) := by
  unfold lessI
  rw [known_of, Bool.true_and, ← compare_lt', ord_of ha hb, compare_lt']
theorem equal_of {a b : Int} (ha : a.natAbs ≤ 9007199254740992) (hb : b.natAbs ≤ 9007199254740992) : equalI (ofI a) (ofI b) = (a == b) := by
  unfold equalI
  rw [known_of, Bool.true_and, ← compare_eq', ord_of ha hb, compare_eq']

theorem tmod_26 (n : Int) : -67108864 < n.tmod 67108864 ∧ n.tmod 67108864 < 67108864 := by
  by_cases h : 0 ≤ n
  · rw [Int.tmod_eq_emod_of_nonneg h]; omega
  · have := Int.neg_tmod (-n) 67108864
    rw [Int.neg_neg] at this
    rw [this, Int.tmod_eq_emod_of_nonneg (by omega)]; omega

set_option maxRecDepth 100000 in
set_option maxHeartbeats 1000000 in
theorem law_BitsSmall (a : Int) (ha0 : -9223372036854775808 ≤ a) (ha1 : a ≤ 9223372036854775807) (b : Int) (hb0 : -9223372036854775808 ≤ b) (hb1 : b ≤ 9223372036854775807) (w : World) (htab : tab w) :
    Calls Tryd.prog 9 #[.int .i64 a, .int .i64 b] w fun e w' => e = .returned (.bool true) ∧ Below w.heap.size w w' := by
  obtain ⟨p0, p1⟩ := tmod_26 a
  obtain ⟨q0, q1⟩ := tmod_26 b
  have K := Lib.hid htab
  clear htab
  generalize ea : a.tmod 67108864 = p at p0 p1
  generalize eb : b.tmod 67108864 = q at q0 q1
  obtain ⟨m1, m2, m3⟩ := mul_small p0 p1 q0 q1
  have hw : wrap64 (p * q) = p * q := IntWalk.wrap64_in _ (by omega)
  have AD : ∀ w, Calls Tryd.prog 15 #[.int .u64 (ofI p), .int .u64 (ofI q)] w fun e w' => e = .returned (.int .u64 (ofI (p + q))) ∧ Below w.heap.size w w' := fun w => by rw [← add_small p0 p1 q0 q1]; exact add_any _ _ w
  have AE : ∀ w, Calls Tryd.prog 15 #[.int .u64 (ofI q), .int .u64 (ofI p)] w fun e w' => e = .returned (.int .u64 (ofI (p + q))) ∧ Below w.heap.size w w' := fun w => by rw [Int.add_comm p q, ← add_small q0 q1 p0 p1]; exact add_any _ _ w
  have SU : ∀ w, Calls Tryd.prog 17 #[.int .u64 (ofI p), .int .u64 (ofI q)] w fun e w' => e = .returned (.int .u64 (ofI (p - q))) ∧ Below w.heap.size w w' := fun w => by rw [← sub_small p0 p1 q0 q1]; exact sub_any _ _ w
  have MU := fun w => mul_any (ofI p) (ofI q) w
  have WH : ∀ w, Calls Tryd.prog 34 #[.int .u64 (fop .mul (ofI p) (ofI q))] w fun e w' => e = .returned (.tuple #[.int .i64 (p * q), .bool true]) ∧ w = w' := fun w => by
    have := whole_any (fop .mul (ofI p) (ofI q)) (fop_nonneg _ _ _) (fop_lt _ _ _) w
    rw [m1, m2] at this; exact this
  have LE : ∀ w, Calls Tryd.prog 28 #[.int .u64 (ofI p), .int .u64 (ofI q)] w fun e w' => e = .returned (.tuple #[.bool (decide (p < q)), .bool true]) ∧ w = w' := fun w => by
    have := less_any (ofI p) (ofI q) (ofI_nonneg _) (ofI_lt _) (ofI_nonneg _) (ofI_lt _) w
    rw [less_of (by omega) (by omega), known_of] at this; exact this
  have EQ : ∀ w, Calls Tryd.prog 30 #[.int .u64 (ofI p), .int .u64 (ofI q)] w fun e w' => e = .returned (.bool (p == q)) ∧ w = w' := fun w => by
    have := equal_any (ofI p) (ofI q) (ofI_nonneg _) (ofI_lt _) (ofI_nonneg _) (ofI_lt _) w
    rw [equal_of (by omega) (by omega)] at this; exact this
  have AD' := Lib.hid AD
  have AE' := Lib.hid AE
  have SU' := Lib.hid SU
  have MU' := Lib.hid MU
  have WH' := Lib.hid WH
  have LE' := Lib.hid LE
  have EQ' := Lib.hid EQ
  clear AD AE SU MU WH LE EQ m1 m2 m3
  go_enter Tryd.func9, Tryd.ntmps9
  go_wp2_with fail
  refine (of_any _ _).mono ?_
  rintro e w' ⟨rfl, rfl⟩
  go_wp2_with fail
  refine (of_any _ _).mono ?_
  rintro e w' ⟨rfl, rfl⟩
  go_wp2_with fail
  refine (MU'.out _).mono ?_
  rintro e w1 ⟨rfl, hB1⟩
  go_wp2_with fail
  refine (WH'.out _).mono ?_
  rintro e w' ⟨rfl, rfl⟩
  go_wp2_with fail
  refine (AD'.out _).mono ?_
  rintro e w2 ⟨rfl, hB2⟩
  go_wp2_with fail
  refine (of_any _ _).mono ?_
  rintro e w' ⟨rfl, rfl⟩
  go_wp2_with fail
  refine (SU'.out _).mono ?_
  rintro e w3 ⟨rfl, hB3⟩
  go_wp2_with fail
  refine (of_any _ _).mono ?_
  rintro e w' ⟨rfl, rfl⟩
  go_wp2_with fail
  refine (LE'.out _).mono ?_
  rintro e w' ⟨rfl, rfl⟩
  go_wp2_with fail
  refine (AE'.out _).mono ?_
  rintro e w4 ⟨rfl, hB4⟩
  go_wp2_with fail
  refine (of_any _ _).mono ?_
  rintro e w' ⟨rfl, rfl⟩
  go_wp2_with fail
  refine (EQ'.out _).mono ?_
  rintro e w' ⟨rfl, rfl⟩
  go_wp2_with fail
  refine (works_any _ (tab_below K.out (below_trans (below_trans (below_trans hB1 hB2) hB3) hB4))).mono ?_
  rintro e w5 ⟨rfl, hB5⟩
  go_wp2_with fail
  go_ret
  exact ⟨rfl, below_trans (below_trans (below_trans (below_trans hB1 hB2) hB3) hB4) hB5⟩
end Go.Proofs.YtmepgpiihhilaaaDoor
