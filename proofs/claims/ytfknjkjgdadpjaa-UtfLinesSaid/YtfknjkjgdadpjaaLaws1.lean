/- UtfNexts, UtfChecks, UtfLines: the program against the document's answer. -/
import Derived.Test.YtfknjkjgdadpjaaLine
namespace Go.Proofs.Ytfknjkjgdadpjaa
open Go.RowKit
set_option linter.unusedVariables false

/-- Of any int: the sign that Next tells, and the size. -/
def nxS (s : ByteArray) (i : Int) : Int := if i < 0 ∨ (s.size : Int) ≤ i then -1 else signAt s.data.toList i.toNat
def nxN (s : ByteArray) (i : Int) : Int := if i < 0 ∨ (s.size : Int) ≤ i then 0 else (stepAt s.data.toList i.toNat : Nat)
theorem next_all (s : ByteArray) (hs : s.size ≤ 1000000) (i : Int) (w : World) :
    Calls Try.prog 11 #[.string s, .int .i64 i] w fun e w' => e = .returned (.tuple #[.int .i64 (nxS s i), .int .i64 (nxN s i)]) ∧ w = w' := by
  by_cases h : i < 0 ∨ (s.size : Int) ≤ i
  · unfold nxS nxN; rw [if_pos h, if_pos h]; exact next_out s (by omega) i h w
  · unfold nxS nxN; rw [if_neg h, if_neg h]
    obtain ⟨k, rfl⟩ : ∃ k : Nat, i = k := ⟨i.toNat, by omega⟩
    rw [Int.toNat_natCast]
    exact next_any s (by omega) k (by omega) w
theorem rnext_all (s : ByteArray) (hs : s.size ≤ 1000000) (i : Int) (w : World) :
    Calls Try.prog 12 #[.string s, .int .i64 i] w fun e w' => e = .returned (.tuple #[.int .i64 (nxS s i), .int .i64 (nxN s i)]) ∧ Below w.heap.size w w' := by
  by_cases h : i < 0 ∨ (s.size : Int) ≤ i
  · unfold nxS nxN; rw [if_pos h, if_pos h]; exact (rnext_out s (by omega) i h w).mono fun e w' ⟨h1, h2⟩ => ⟨h1, h2 ▸ Below.refl _ _⟩
  · unfold nxS nxN; rw [if_neg h, if_neg h]
    obtain ⟨k, rfl⟩ : ∃ k : Nat, i = k := ⟨i.toNat, by omega⟩
    rw [Int.toNat_natCast]
    exact rnext_any s (by omega) k (by omega) w

set_option maxRecDepth 100000 in
set_option maxHeartbeats 1000000 in
theorem law_UtfNexts (s : ByteArray) (hs : s.size ≤ 9223372036854775807) (i : Int) (h0 : -9223372036854775808 ≤ i) (h1 : i ≤ 9223372036854775807) (w : World) :
    Calls Try.prog 3 #[.string s, .int .i64 i] w fun e w' => e = .returned (.bool true) ∧ Below w.heap.size w w' := by
  have FW := Lib.hid (fun w => few_any s hs w)
  have hz := fewS_le s
  generalize fewS s = t at *
  have N := Lib.hid (fun w => next_all t (by omega) i w)
  have R := Lib.hid (fun w => rnext_all t (by omega) i w)
  generalize nxS t i = x at *
  generalize nxN t i = y at *
  go_enter Try.func3, Try.ntmps3
  go_wp2_with fail
  refine (FW.out _).mono ?_; rintro e w' ⟨rfl, rfl⟩
  go_wp2_with fail
  refine (N.out _).mono ?_; rintro e w' ⟨rfl, rfl⟩
  go_wp2_with fail
  refine (R.out _).mono ?_; rintro e w1 ⟨rfl, hB1⟩
  go_wp2_with fail
  refine (works_any _).mono ?_; rintro e w2 ⟨rfl, hB2⟩
  go_wp2_with fail
  go_ret
  exact ⟨rfl, below_trans hB1 hB2 hB1.size⟩

set_option maxRecDepth 100000 in
set_option maxHeartbeats 1000000 in
theorem law_UtfChecks (s : ByteArray) (hs : s.size ≤ 9223372036854775807) (i : Int) (h0 : -9223372036854775808 ≤ i) (h1 : i ≤ 9223372036854775807) (w : World) :
    Calls Try.prog 4 #[.string s, .int .i64 i] w fun e w' => e = .returned (.bool true) ∧ Below w.heap.size w w' := by
  have FW := Lib.hid (fun w => few_any s hs w)
  have hz := fewS_le s
  generalize fewS s = t at *
  have C := Lib.hid (fun w => check_any t (by omega) w)
  have RC := Lib.hid (fun w => rcheck_any t (by omega) w)
  have K := Lib.hid (fun w => count_any t (by omega) w)
  have RK := Lib.hid (fun w => rcount_any t (by omega) w)
  have P := Lib.hid (fun w => put_any i w)
  have RP := Lib.hid (fun w => rput_any i w)
  generalize chkA t.data.toList = x at *
  generalize chkE t.data.toList = y at *
  generalize stp t.data.toList 0 t.size = z at *
  generalize putS i = p at *
  generalize putE i = q at *
  go_enter Try.func4, Try.ntmps4
  go_wp2_with fail
  refine (FW.out _).mono ?_; rintro e w' ⟨rfl, rfl⟩
  go_wp2_with fail
  refine (C.out _).mono ?_; rintro e w' ⟨rfl, rfl⟩
  go_wp2_with fail
  refine (RC.out _).mono ?_; rintro e w1 ⟨rfl, hB1⟩
  go_wp2_with fail
  refine (P.out _).mono ?_; rintro e w2 ⟨rfl, hB2⟩
  go_wp2_with fail
  refine (RP.out _).mono ?_; rintro e w3 ⟨rfl, hB3⟩
  go_wp2_with fail
  refine (K.out _).mono ?_; rintro e w' ⟨rfl, rfl⟩
  go_wp2_with fail
  refine (RK.out _).mono ?_; rintro e w4 ⟨rfl, hB4⟩
  go_wp2_with fail
  refine (works_any _).mono ?_; rintro e w5 ⟨rfl, hB5⟩
  go_wp2_with fail
  go_ret
  have g1 := hB1.size
  have g2 := hB2.size
  have g3 := hB3.size
  have g4 := hB4.size
  exact ⟨rfl, below_trans (below_trans (below_trans (below_trans hB1 hB2 (by omega)) hB3 (by omega)) hB4 (by omega)) hB5 (by omega)⟩

set_option maxRecDepth 100000 in
set_option maxHeartbeats 1000000 in
theorem law_UtfLines (s : ByteArray) (hs : s.size ≤ 9223372036854775807) (i : Int) (h0 : -9223372036854775808 ≤ i) (h1 : i ≤ 9223372036854775807) (w : World) :
    Calls Try.prog 5 #[.string s, .int .i64 i] w fun e w' => e = .returned (.bool true) ∧ Below w.heap.size w w' := by
  have FW := Lib.hid (fun w => few_any s hs w)
  have hz := fewS_le s
  generalize fewS s = t at *
  have N := Lib.hid (fun w => line_at t (by omega) i h0 h1 w)
  have R := Lib.hid (fun w => rline_at t (by omega) i h0 h1 w)
  generalize lineI t.data.toList i = x at *
  generalize colI t.data.toList i = y at *
  go_enter Try.func5, Try.ntmps5
  go_wp2_with fail
  refine (FW.out _).mono ?_; rintro e w' ⟨rfl, rfl⟩
  go_wp2_with fail
  refine (N.out _).mono ?_; rintro e w' ⟨rfl, rfl⟩
  go_wp2_with fail
  refine (R.out _).mono ?_; rintro e w1 ⟨rfl, hB1⟩
  go_wp2_with fail
  refine (works_any _).mono ?_; rintro e w2 ⟨rfl, hB2⟩
  go_wp2_with fail
  go_ret
  exact ⟨rfl, below_trans hB1 hB2 hB1.size⟩
end Go.Proofs.Ytfknjkjgdadpjaa
