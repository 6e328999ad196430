/- Words and signs: held against each of a list. -/
import Derived.Test.YtcpjggcpimghjaaByte
namespace Go.Proofs.Ytcpjggcpimghjaa
open Go.RowKit
set_option linter.unusedVariables false

theorem in_list {l : List (List UInt8)} {x a : List UInt8} (h : (x == a) = true) (ha : l.contains a = true) : l.contains x = true := by rw [eq_of_beq h]; exact ha

set_option maxRecDepth 100000 in
set_option maxHeartbeats 4000000 in
theorem word_any (s : ByteArray) (w : World) :
    Calls Try.prog 13 #[.string s] w fun e w' => e = .returned (.bool (wordB s.data.toList)) ∧ w = w' := by
  have HW : Hid (wordB s.data.toList = words.contains s.toList) := by show _ = _; rw [Lib.toList_data]; rfl
  generalize wordB s.data.toList = z at *
  go_enter Try.func13, Try.ntmps13
  go_wp2
  all_goals
    go_ret
    refine ⟨ret_bool ?_, rfl⟩
    rw [HW.out]
    first
      | (refine (in_list (by assumption) ?_).symm; decide)
      | (simp only [words, List.contains_cons, List.contains_nil, Bool.or_false, *]; done)
      | (exfalso; simp_all)
set_option maxRecDepth 100000 in
set_option maxHeartbeats 4000000 in
theorem rword_any (s : ByteArray) (w : World) :
    Calls Try.prog 27 #[.string s] w fun e w' => e = .returned (.bool (wordB s.data.toList)) ∧ w = w' := by
  have HW : Hid (wordB s.data.toList = words.contains s.toList) := by show _ = _; rw [Lib.toList_data]; rfl
  generalize wordB s.data.toList = z at *
  go_enter Try.func27, Try.ntmps27
  go_wp2
  all_goals
    go_ret
    refine ⟨ret_bool ?_, rfl⟩
    rw [HW.out]
    first
      | (refine (in_list (by assumption) ?_).symm; decide)
      | (simp only [words, List.contains_cons, List.contains_nil, Bool.or_false, *]; done)
      | (exfalso; simp_all)
set_option maxRecDepth 100000 in
set_option maxHeartbeats 4000000 in
theorem isSign_any (s : ByteArray) (w : World) :
    Calls Try.prog 56 #[.string s] w fun e w' => e = .returned (.bool (sgnB s.data.toList)) ∧ w = w' := by
  have HW : Hid (sgnB s.data.toList = signs.contains s.toList) := by show _ = _; rw [Lib.toList_data]; rfl
  generalize sgnB s.data.toList = z at *
  go_enter Try.func56, Try.ntmps56
  go_wp2
  all_goals
    go_ret
    refine ⟨ret_bool ?_, rfl⟩
    rw [HW.out]
    first
      | (refine (in_list (by assumption) ?_).symm; decide)
      | (simp only [signs, List.contains_cons, List.contains_nil, Bool.or_false, *]; done)
      | (exfalso; simp_all)
set_option maxRecDepth 100000 in
set_option maxHeartbeats 4000000 in
theorem rsign_any (s : ByteArray) (w : World) :
    Calls Try.prog 31 #[.string s] w fun e w' => e = .returned (.bool (sgnB s.data.toList)) ∧ w = w' := by
  have HW : Hid (sgnB s.data.toList = signs.contains s.toList) := by show _ = _; rw [Lib.toList_data]; rfl
  generalize sgnB s.data.toList = z at *
  go_enter Try.func31, Try.ntmps31
  go_wp2
  all_goals
    go_ret
    refine ⟨ret_bool ?_, rfl⟩
    rw [HW.out]
    first
      | (refine (in_list (by assumption) ?_).symm; decide)
      | (simp only [signs, List.contains_cons, List.contains_nil, Bool.or_false, *]; done)
      | (exfalso; simp_all)
end Go.Proofs.Ytcpjggcpimghjaa
