/- Numbers held against each other, by the program and by the document's answer. -/
import Derived.Test.YtmepgpiihhilaaaDoorWorks
namespace Go.Proofs.YtmepgpiihhilaaaDoor
open Go.RowKit
set_option linter.unusedVariables false

/-- Numbers in their order, as ints; noughts are alike. -/
def ordS (b : Int) : Int := if 9223372036854775808 ≤ b then -(b % 9223372036854775808) else b % 9223372036854775808
theorem ordS_nat {b : Int} (h0 : 0 ≤ b) (h1 : b < 18446744073709551616) : ordI b.toNat = ordS b := by
  unfold ordI ordS
  by_cases h : 9223372036854775808 ≤ b
  · rw [if_pos h, if_pos (by omega)]; omega
  · rw [if_neg h, if_neg (by omega)]; omega

def knownI (a b : Int) : Bool := !nanB a && !nanB b
def lessI (a b : Int) : Bool := knownI a b && decide (ordS a < ordS b)
def equalI (a b : Int) : Bool := knownI a b && (ordS a == ordS b)
def sameI (a b : Int) : Bool := (a == b) || (nanB a && nanB b)

theorem order_some {a b : Int} (ha0 : 0 ≤ a) (ha : a < 18446744073709551616) (hb0 : 0 ≤ b) (hb : b < 18446744073709551616) (na : nanB a = false) (nb : nanB b = false) :
    FloatKind.f64.format.order a.toNat b.toNat = some (compare (ordS a) (ordS b)) := by
  have h1 := not_nan na
  have h2 := not_nan nb
  have := order_val a.toNat b.toNat (by omega) (by omega)
  rw [val_ord, ordS_nat ha0 ha, ordS_nat hb0 hb] at this
  exact this
theorem order_none {a b : Int} (ha0 : 0 ≤ a) (hb0 : 0 ≤ b) (h : nanB a = true ∨ nanB b = true) : FloatKind.f64.format.order a.toNat b.toNat = none := by
  have hr : ∀ x : Int, 0 ≤ x → nanB x = true → ∃ s t, Ieee.double.read x.toNat = .nan s t := by
    intro x hx h
    have h := of_decide_eq_true h
    rcases read_cases x.toNat with ⟨_, h2⟩ | ⟨h2, _⟩ | ⟨h2, _⟩
    · exact ⟨_, _, h2⟩
    · omega
    · omega
  show (Ieee.double.read a.toNat).order (Ieee.double.read b.toNat) = none
  rcases h with h | h
  · obtain ⟨s, t, h2⟩ := hr a ha0 h
    rw [h2]; rfl
  · obtain ⟨s, t, h2⟩ := hr b hb0 h
    rw [h2]
    cases Ieee.double.read a.toNat <;> rfl

theorem compare_lt' (x y : Int) : (some (compare x y) == some Ordering.lt) = decide (x < y) := by
  simp only [compare, compareOfLessAndEq]
  split
  · rename_i h; rw [decide_eq_true h]; rfl
  · rename_i h
    rw [decide_eq_false h]
    split <;> rfl
theorem compare_eq' (x y : Int) : (some (compare x y) == some Ordering.eq) = (x == y) := by
  simp only [compare, compareOfLessAndEq]
  split
  · rename_i h
    rw [show (x == y) = false by rw [beq_eq_false_iff_ne]; omega]; rfl
  · split
    · rename_i h; rw [beq_iff_eq.2 h]; rfl
    · rename_i h; rw [show (x == y) = false by rw [beq_eq_false_iff_ne]; omega]; rfl

theorem less_test {a b : Int} (ha0 : 0 ≤ a) (ha : a < 18446744073709551616) (hb0 : 0 ≤ b) (hb : b < 18446744073709551616) (na : nanB a = false) (nb : nanB b = false) :
    (FloatKind.f64.format.order a.toNat b.toNat == some .lt) = decide (ordS a < ordS b) := by rw [order_some ha0 ha hb0 hb na nb, compare_lt']
theorem equal_test {a b : Int} (ha0 : 0 ≤ a) (ha : a < 18446744073709551616) (hb0 : 0 ≤ b) (hb : b < 18446744073709551616) :
    (FloatKind.f64.format.order a.toNat b.toNat == some .eq) = equalI a b := by
  unfold equalI knownI
  cases na : nanB a
  · cases nb : nanB b
    · rw [order_some ha0 ha hb0 hb na nb, compare_eq']; rfl
    · rw [order_none ha0 hb0 (.inr nb)]; rfl
  · rw [order_none ha0 hb0 (.inl na)]; rfl

set_option maxRecDepth 100000 in
set_option maxHeartbeats 1000000 in
theorem less_any (a b : Int) (ha0 : 0 ≤ a) (ha : a < 18446744073709551616) (hb0 : 0 ≤ b) (hb : b < 18446744073709551616) (w : World) :
    Calls Tryd.prog 28 #[.int .u64 a, .int .u64 b] w fun e w' => e = .returned (.tuple #[.bool (lessI a b), .bool (knownI a b)]) ∧ w = w' := by
  have hfbf := fbf_run
  have LT := Lib.hid (fun na nb => less_test ha0 ha hb0 hb na nb)
  have HL : Hid (lessI a b = (knownI a b && decide (ordS a < ordS b))) := rfl
  have HK : Hid (knownI a b = (!nanB a && !nanB b)) := rfl
  go_enter Tryd.func28, Tryd.ntmps28
  go_wp2_with (go_at_call 50; refine (isNone_any _ (by omega) (by omega) _).mono ?_; rintro e w' ⟨rfl, rfl⟩)
  all_goals
    go_ret2
    refine ⟨?_, rfl⟩
    rw [HL.out, HK.out]
    first
      | (have n : nanB a = true := by assumption
         rw [n]; rfl)
      | (have n : nanB b = true := by assumption
         rw [n]; simp; done)
      | (have n : nanB b = false := by assumption
         have m : nanB a = false := by simpa using (show ¬ nanB a = true by assumption)
         have := LT.out m n
         rw [n, m]
         show Ending.returned (.tuple #[.bool (FloatKind.f64.format.order a.toNat b.toNat == some Ordering.lt), .bool true]) = _
         rw [this]; rfl)

set_option maxRecDepth 100000 in
set_option maxHeartbeats 1000000 in
theorem equal_any (a b : Int) (ha0 : 0 ≤ a) (ha : a < 18446744073709551616) (hb0 : 0 ≤ b) (hb : b < 18446744073709551616) (w : World) :
    Calls Tryd.prog 30 #[.int .u64 a, .int .u64 b] w fun e w' => e = .returned (.bool (equalI a b)) ∧ w = w' := by
  have hfbf := fbf_run
  have ET := Lib.hid (equal_test ha0 ha hb0 hb)
  go_enter Tryd.func30, Tryd.ntmps30
  go_wp2
  go_ret
  exact ⟨ret_bool ET.out, rfl⟩

set_option maxRecDepth 100000 in
set_option maxHeartbeats 1000000 in
theorem same_any (a b : Int) (ha0 : 0 ≤ a) (ha : a < 18446744073709551616) (hb0 : 0 ≤ b) (hb : b < 18446744073709551616) (w : World) :
    Calls Tryd.prog 32 #[.int .u64 a, .int .u64 b] w fun e w' => e = .returned (.bool (sameI a b)) ∧ w = w' := by
  have HS : Hid (sameI a b = ((a == b) || (nanB a && nanB b))) := rfl
  go_enter Tryd.func32, Tryd.ntmps32
  go_wp2_with (go_at_call 50; refine (isNone_any _ (by omega) (by omega) _).mono ?_; rintro e w' ⟨rfl, rfl⟩)
  all_goals
    go_ret
    refine ⟨ret_bool ?_, rfl⟩
    rw [HS.out]
    first
      | (have h : a = b := by assumption
         rw [h]; simp; done)
      | (have n : nanB a = true := by assumption
         rw [n]; simp; done)
      | (have n : ¬ nanB a = true := by assumption
         simp [n]; done)

set_option maxRecDepth 100000 in
set_option maxHeartbeats 1000000 in
theorem rorder_any (b : Int) (hb0 : 0 ≤ b) (hb : b < 18446744073709551616) (w : World) :
    Calls Tryd.prog 60 #[.int .u64 b] w fun e w' => e = .returned (.int .i64 (ordS b)) ∧ w = w' := by
  have HS : Hid (ordS b = if 9223372036854775808 ≤ b then -(b % 9223372036854775808) else b % 9223372036854775808) := rfl
  have HA := Lib.hid (and_low63 hb0 hb)
  go_enter Tryd.func60, Tryd.ntmps60
  go_wp2
  all_goals
    rename_i hs
    go_ret
    refine ⟨ret_int ?_, rfl⟩
    rw [HS.out, HA.out]
    first
      | (have h : 9223372036854775808 ≤ b := by have := beq_iff_eq.1 hs; omega
         rw [if_pos h, IntWalk.wrap64_in (b % 9223372036854775808) (by omega), IntWalk.wrap64_in _ (by omega)])
      | (have h : ¬ 9223372036854775808 ≤ b := by have := beq_eq_false_iff_ne.1 hs; omega
         rw [if_neg h, IntWalk.wrap64_in (b % 9223372036854775808) (by omega)])

set_option maxRecDepth 100000 in
set_option maxHeartbeats 1000000 in
theorem rless_any (a b : Int) (ha0 : 0 ≤ a) (ha : a < 18446744073709551616) (hb0 : 0 ≤ b) (hb : b < 18446744073709551616) (w : World) :
    Calls Tryd.prog 29 #[.int .u64 a, .int .u64 b] w fun e w' => e = .returned (.tuple #[.bool (lessI a b), .bool (knownI a b)]) ∧ w = w' := by
  have HL : Hid (lessI a b = (knownI a b && decide (ordS a < ordS b))) := rfl
  have HK : Hid (knownI a b = (!nanB a && !nanB b)) := rfl
  go_enter Tryd.func29, Tryd.ntmps29
  go_wp2_with (first
    | (go_at_call 51; refine (isNaN_any _ (by omega) (by omega) _).mono ?_; rintro e w' ⟨rfl, rfl⟩)
    | (go_at_call 60; refine (rorder_any _ (by omega) (by omega) _).mono ?_; rintro e w' ⟨rfl, rfl⟩))
  all_goals
    go_ret2
    refine ⟨?_, rfl⟩
    rw [HL.out, HK.out]
    first
      | (have n : nanB a = true := by assumption
         rw [n]; rfl)
      | (have n : nanB b = true := by assumption
         rw [n]; simp; done)
      | (have n : nanB b = false := by assumption
         have m : nanB a = false := by simpa using (show ¬ nanB a = true by assumption)
         rw [n, m]; rfl)

set_option maxRecDepth 100000 in
set_option maxHeartbeats 1000000 in
theorem requal_any (a b : Int) (ha0 : 0 ≤ a) (ha : a < 18446744073709551616) (hb0 : 0 ≤ b) (hb : b < 18446744073709551616) (w : World) :
    Calls Tryd.prog 31 #[.int .u64 a, .int .u64 b] w fun e w' => e = .returned (.bool (equalI a b)) ∧ w = w' := by
  have HE : Hid (equalI a b = (!nanB a && !nanB b && (ordS a == ordS b))) := rfl
  go_enter Tryd.func31, Tryd.ntmps31
  go_wp2_with (first
    | (go_at_call 51; refine (isNaN_any _ (by omega) (by omega) _).mono ?_; rintro e w' ⟨rfl, rfl⟩)
    | (go_at_call 60; refine (rorder_any _ (by omega) (by omega) _).mono ?_; rintro e w' ⟨rfl, rfl⟩))
  all_goals
    go_ret
    refine ⟨ret_bool ?_, rfl⟩
    rw [HE.out]
    first
      | (have n : nanB a = true := by assumption
         rw [n]; rfl)
      | (have n : nanB b = true := by assumption
         rw [n]; simp; done)
      | (have n : nanB b = false := by simpa using (show ¬ nanB b = true by assumption)
         have m : nanB a = false := by simpa using (show ¬ nanB a = true by assumption)
         rw [n, m]; rfl)

set_option maxRecDepth 100000 in
set_option maxHeartbeats 1000000 in
theorem rsame_any (a b : Int) (ha0 : 0 ≤ a) (ha : a < 18446744073709551616) (hb0 : 0 ≤ b) (hb : b < 18446744073709551616) (w : World) :
    Calls Tryd.prog 33 #[.int .u64 a, .int .u64 b] w fun e w' => e = .returned (.bool (sameI a b)) ∧ w = w' := by
  have HS : Hid (sameI a b = ((a == b) || (nanB a && nanB b))) := rfl
  go_enter Tryd.func33, Tryd.ntmps33
  go_wp2_with (go_at_call 51; refine (isNaN_any _ (by omega) (by omega) _).mono ?_; rintro e w' ⟨rfl, rfl⟩)
  all_goals
    go_ret
    refine ⟨ret_bool ?_, rfl⟩
    rw [HS.out]
    first
      | (have h : a = b := by assumption
         rw [h]; simp; done)
      | (have n : nanB a = true := by assumption
         rw [n]; simp; done)
      | (have n : ¬ nanB a = true := by assumption
         simp [n]; done)

set_option maxRecDepth 100000 in
set_option maxHeartbeats 1000000 in
theorem law_BitsOrders (a : Int) (ha0 : 0 ≤ a) (ha : a < 18446744073709551616) (b : Int) (hb0 : 0 ≤ b) (hb : b < 18446744073709551616) (w : World) (htab : tab w) :
    Calls Tryd.prog 5 #[.int .u64 a, .int .u64 b] w fun e w' => e = .returned (.bool true) ∧ Below w.heap.size w w' := by
  have W := Lib.hid (works_any w htab)
  clear htab
  go_enter Tryd.func5, Tryd.ntmps5
  go_wp2_with (first
    | (go_at_call 28; refine (less_any _ _ (by omega) (by omega) (by omega) (by omega) _).mono ?_; rintro e w' ⟨rfl, rfl⟩)
    | (go_at_call 29; refine (rless_any _ _ (by omega) (by omega) (by omega) (by omega) _).mono ?_; rintro e w' ⟨rfl, rfl⟩)
    | (go_at_call 30; refine (equal_any _ _ (by omega) (by omega) (by omega) (by omega) _).mono ?_; rintro e w' ⟨rfl, rfl⟩)
    | (go_at_call 31; refine (requal_any _ _ (by omega) (by omega) (by omega) (by omega) _).mono ?_; rintro e w' ⟨rfl, rfl⟩)
    | (go_at_call 32; refine (same_any _ _ (by omega) (by omega) (by omega) (by omega) _).mono ?_; rintro e w' ⟨rfl, rfl⟩)
    | (go_at_call 33; refine (rsame_any _ _ (by omega) (by omega) (by omega) (by omega) _).mono ?_; rintro e w' ⟨rfl, rfl⟩)
    | (go_at_call 25; refine W.out.mono ?_; rintro e w1 ⟨rfl, hB⟩))
  go_ret
  exact ⟨rfl, hB⟩
end Go.Proofs.YtmepgpiihhilaaaDoor
