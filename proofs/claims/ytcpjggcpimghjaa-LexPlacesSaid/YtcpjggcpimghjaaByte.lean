/- The smallest functions: of a byte. -/
import Derived.Test.YtcpjggcpimghjaaRows
import Derived.Test.YtcpjggcpimghjaaLx
import Derived.WalkKit
import Derived.WalkSpells
import Derived.WalkLawsBesides
import Derived.Handy
import Derived.Lib.Hide
import Derived.Lib.Strings
namespace Go.Proofs.Ytcpjggcpimghjaa
open Go.RowKit
set_option linter.unusedVariables false

set_option maxHeartbeats 400000 in
theorem isDigit_any (c : Int) (w : World) :
    Calls Try.prog 20 #[.int .u8 c] w fun e w' => e = .returned (.bool (digB c)) ∧ w = w' := by
  have HD : Hid (digB c = decide (48 ≤ c ∧ c ≤ 57)) := rfl
  generalize digB c = z at *
  go_enter Try.func20, Try.ntmps20
  go_wp2
  all_goals
    go_ret
    refine ⟨ret_bool ?_, rfl⟩
    rw [HD.out, Bool.eq_iff_iff]; simp; try omega

set_option maxHeartbeats 400000 in
theorem rDigit_any (c : Int) (w : World) :
    Calls Try.prog 28 #[.int .u8 c] w fun e w' => e = .returned (.bool (digB c)) ∧ w = w' := by
  have HD : Hid (digB c = decide (48 ≤ c ∧ c ≤ 57)) := rfl
  generalize digB c = z at *
  go_enter Try.func28, Try.ntmps28
  go_wp2
  all_goals
    go_ret
    refine ⟨ret_bool ?_, rfl⟩
    rw [HD.out, Bool.eq_iff_iff]; simp; try omega

set_option maxHeartbeats 400000 in
theorem rLetter_any (c : Int) (w : World) :
    Calls Try.prog 41 #[.int .u8 c] w fun e w' => e = .returned (.bool (letB c)) ∧ w = w' := by
  have HD : Hid (letB c = decide ((97 ≤ c ∧ c ≤ 122) ∨ (65 ≤ c ∧ c ≤ 90) ∨ c = 95 ∨ c = 36)) := rfl
  generalize letB c = z at *
  go_enter Try.func41, Try.ntmps41
  go_wp2
  all_goals
    go_ret
    refine ⟨ret_bool ?_, rfl⟩
    rw [HD.out, Bool.eq_iff_iff]; simp; try omega

set_option maxHeartbeats 1000000 in
theorem isNamePart_any (c : Int) (w : World) :
    Calls Try.prog 21 #[.int .u8 c] w fun e w' => e = .returned (.bool (npB c)) ∧ w = w' := by
  have HD : Hid (npB c = decide ((97 ≤ c ∧ c ≤ 122) ∨ (65 ≤ c ∧ c ≤ 90) ∨ c = 95 ∨ c = 36 ∨ (48 ≤ c ∧ c ≤ 57))) := rfl
  have C := Lib.hid (fun w => isDigit_any c w)
  generalize npB c = z at *
  by_cases hd : 48 ≤ c ∧ c ≤ 57
  · have e : digB c = true := by unfold digB; simpa using hd
    rw [e] at C
    clear e
    obtain ⟨g0, g1⟩ := hd
    go_enter Try.func21, Try.ntmps21
    go_wp2_with (go_at_call 20; refine (C.out _).mono ?_; rintro e w' ⟨rfl, rfl⟩)
    go_ret
    exact ⟨ret_bool (by rw [HD.out]; symm; rw [decide_eq_true_eq]; omega), rfl⟩
  · have e : digB c = false := by unfold digB; simpa using hd
    rw [e] at C
    clear e
    have hd2 := Lib.hid hd
    clear hd
    go_enter Try.func21, Try.ntmps21
    go_wp2_with (go_at_call 20; refine (C.out _).mono ?_; rintro e w' ⟨rfl, rfl⟩)
    all_goals
      go_ret
      refine ⟨ret_bool ?_, rfl⟩
      have hd := hd2.out
      rw [HD.out, Bool.eq_iff_iff]
      simp; try omega

set_option maxHeartbeats 1000000 in
theorem digit_any (c : Int) (h0 : 0 ≤ c) (h1 : c < 256) (w : World) :
    Calls Try.prog 63 #[.int .u8 c] w fun e w' => e = .returned (.int .i64 (hexI c)) ∧ w = w' := by
  have HD : Hid (hexI c = if 48 ≤ c ∧ c ≤ 57 then c - 48 else if 97 ≤ c ∧ c ≤ 102 then c - 87 else if 65 ≤ c ∧ c ≤ 70 then c - 55 else 16) := rfl
  have C := Lib.hid (fun w => isDigit_any c w)
  generalize hexI c = z at *
  by_cases hd : 48 ≤ c ∧ c ≤ 57
  · have e : digB c = true := by unfold digB; simpa using hd
    rw [e] at C
    clear e
    go_enter Try.func63, Try.ntmps63
    go_wp2_with (go_at_call 20; refine (C.out _).mono ?_; rintro e w' ⟨rfl, rfl⟩)
    go_ret
    exact ⟨ret_int (by rw [HD.out, if_pos hd]), rfl⟩
  · have e : digB c = false := by unfold digB; simpa using hd
    rw [e] at C
    clear e
    go_enter Try.func63, Try.ntmps63
    go_wp2_with (go_at_call 20; refine (C.out _).mono ?_; rintro e w' ⟨rfl, rfl⟩)
    all_goals
      go_ret
      refine ⟨ret_int ?_, rfl⟩
      rw [HD.out]; (repeat' split) <;> omega

set_option maxHeartbeats 1000000 in
theorem rvalue_any (c : Int) (h0 : 0 ≤ c) (h1 : c < 256) (w : World) :
    Calls Try.prog 42 #[.int .u8 c] w fun e w' => e = .returned (.int .i64 (valI c)) ∧ w = w' := by
  have HD : Hid (valI c = if 48 ≤ c ∧ c ≤ 57 then c - 48 else if 97 ≤ c ∧ c ≤ 102 then c - 87 else if 65 ≤ c ∧ c ≤ 70 then c - 55 else -1) := by
    show _ = _; unfold valI hexI; (repeat' split) <;> omega
  have C := Lib.hid (fun w => rDigit_any c w)
  generalize valI c = z at *
  by_cases hd : 48 ≤ c ∧ c ≤ 57
  · have e : digB c = true := by unfold digB; simpa using hd
    rw [e] at C
    clear e
    go_enter Try.func42, Try.ntmps42
    go_wp2_with (go_at_call 28; refine (C.out _).mono ?_; rintro e w' ⟨rfl, rfl⟩)
    go_ret
    exact ⟨ret_int (by rw [HD.out, if_pos hd]), rfl⟩
  · have e : digB c = false := by unfold digB; simpa using hd
    rw [e] at C
    clear e
    go_enter Try.func42, Try.ntmps42
    go_wp2_with (go_at_call 28; refine (C.out _).mono ?_; rintro e w' ⟨rfl, rfl⟩)
    all_goals
      go_ret
      refine ⟨ret_int ?_, rfl⟩
      rw [HD.out]; (repeat' split) <;> omega
end Go.Proofs.Ytcpjggcpimghjaa
