/- From sign to sign: Check, Count and steps, by the program and by the document's answer; the chapter's example. -/
import Derived.Test.YtfknjkjgdadpjaaRnext
import Derived.LoopTactic
namespace Go.Proofs.Ytfknjkjgdadpjaa
open Go.RowKit
set_option linter.unusedVariables false

theorem sign_neg (L : List UInt8) (k : Nat) : signAt L k < 0 ↔ signAt L k = -1 := by
  have := sign_range L k; omega

set_option maxRecDepth 100000 in
set_option maxHeartbeats 1000000 in
theorem check_any (s : ByteArray) (hs : s.size ≤ 1000000) (w : World) :
    Calls Try.prog 14 #[.string s] w fun e w' => e = .returned (.tuple #[.int .i64 (chkA s.data.toList), .int .i64 (chkE s.data.toList)]) ∧ w = w' := by
  have HL := Lib.hid (list_size s)
  have HA : Hid (chkA s.data.toList = match chk s.data.toList 0 with | some k => (k : Int) | none => 0) := rfl
  have HE : Hid (chkE s.data.toList = match chk s.data.toList 0 with | some _ => 4 | none => 0) := rfl
  generalize chkA s.data.toList = ca at *
  generalize chkE s.data.toList = ce at *
  go_enter Try.func14, Try.ntmps14
  go_wp2_with fail
  go_loop [2] (fun i => ∃ k : Nat, i = .int .i64 (k : Int) ∧ k ≤ s.size ∧ Hid (chk s.data.toList 0 = chk s.data.toList k)) (fun i => s.size - (intOf i).toNat)
  case atStart => exact ⟨0, rfl, by omega, rfl⟩
  case round =>
    obtain ⟨k, rfl, hk, HC⟩ := hrel
    by_cases hlt : k < s.size
    · have N := Lib.hid (fun w => next_any s (by omega) k hlt w)
      have hsr := stepAt_range s.data.toList k
      have hin := step_in (L := s.data.toList) (k := k) (by rw [HL.out]; exact hlt)
      rw [HL.out] at hin
      have HB := Lib.hid (@chk_bad s.data.toList k (by rw [HL.out]; exact hlt))
      have HM := Lib.hid (@chk_more s.data.toList k (by rw [HL.out]; exact hlt))
      have HS := Lib.hid (sign_neg s.data.toList k)
      generalize signAt s.data.toList k = x at *
      generalize stepAt s.data.toList k = y at *
      by_cases hx : x = -1
      · have hq : (x == -1) = true := by rw [hx]; rfl
        have HR := Lib.hid (HC.out.trans (HB.out (HS.out.2 hx)))
        clear hx
        go_wp2_with (go_at_call 11; refine (N.out _).mono ?_; rintro e w' ⟨rfl, rfl⟩)
        go_ret2
        exact ⟨ret_ints (by rw [HA.out, HR.out]) (by rw [HE.out, HR.out]), rfl⟩
      · have hq : (x == -1) = false := by rw [beq_eq_false_iff_ne]; exact hx
        have HR := Lib.hid (HC.out.trans (HM.out (fun h => hx (HS.out.1 h))))
        clear hx
        go_wp2_with (go_at_call 11; refine (N.out _).mono ?_; rintro e w' ⟨rfl, rfl⟩)
        go_round
        case rel => exact ⟨k + y, by go_num, by omega, HR.out⟩
        case measure => simp [intOf]; omega
    · have HR := Lib.hid (HC.out.trans (chk_done (by rw [HL.out]; omega)))
      go_wp2_with fail
      go_ret2
      exact ⟨ret_ints (by rw [HA.out, HR.out]) (by rw [HE.out, HR.out]), rfl⟩

set_option maxRecDepth 100000 in
set_option maxHeartbeats 1000000 in
theorem rcheck_any (s : ByteArray) (hs : s.size ≤ 1000000) (w : World) :
    Calls Try.prog 15 #[.string s] w fun e w' => e = .returned (.tuple #[.int .i64 (chkA s.data.toList), .int .i64 (chkE s.data.toList)]) ∧ Below w.heap.size w w' := by
  have HL := Lib.hid (list_size s)
  have HA : Hid (chkA s.data.toList = match chk s.data.toList 0 with | some k => (k : Int) | none => 0) := rfl
  have HE : Hid (chkE s.data.toList = match chk s.data.toList 0 with | some _ => 4 | none => 0) := rfl
  generalize chkA s.data.toList = ca at *
  generalize chkE s.data.toList = ce at *
  go_enter Try.func15, Try.ntmps15
  go_wp2_with fail
  go_loopw [4] (fun i wr => ∃ k : Nat, i = .int .i64 (k : Int) ∧ k ≤ s.size ∧ Hid (chk s.data.toList 0 = chk s.data.toList k) ∧ Below w.heap.size w wr) (fun i _ => s.size - (intOf i).toNat)
  case atStart => exact ⟨0, rfl, by omega, rfl, Below.refl _ _⟩
  case round =>
    rename_i wr hrel
    obtain ⟨k, rfl, hk, HC, hB⟩ := hrel
    by_cases hlt : k < s.size
    · have N := Lib.hid (fun w => rnext_any s (by omega) k hlt w)
      have hsr := stepAt_range s.data.toList k
      have hin := step_in (L := s.data.toList) (k := k) (by rw [HL.out]; exact hlt)
      rw [HL.out] at hin
      have HB := Lib.hid (@chk_bad s.data.toList k (by rw [HL.out]; exact hlt))
      have HM := Lib.hid (@chk_more s.data.toList k (by rw [HL.out]; exact hlt))
      generalize signAt s.data.toList k = x at *
      generalize stepAt s.data.toList k = y at *
      by_cases hx : x < 0
      · have HR := Lib.hid (HC.out.trans (HB.out hx))
        go_wp2_with (go_at_call 12; refine (N.out _).mono ?_; rintro e w1 ⟨rfl, hB1⟩)
        go_ret2
        exact ⟨ret_ints (by rw [HA.out, HR.out]) (by rw [HE.out, HR.out]), below_trans hB hB1 hB.size⟩
      · have HR := Lib.hid (HC.out.trans (HM.out hx))
        go_wp2_with (go_at_call 12; refine (N.out _).mono ?_; rintro e w1 ⟨rfl, hB1⟩)
        go_roundw
        case rel => exact ⟨k + y, by go_num, by omega, HR.out, below_trans hB hB1 hB.size⟩
        case measure => simp [intOf]; omega
    · have HR := Lib.hid (HC.out.trans (chk_done (by rw [HL.out]; omega)))
      go_wp2_with fail
      go_ret2
      exact ⟨ret_ints (by rw [HA.out, HR.out]) (by rw [HE.out, HR.out]), hB⟩

set_option maxRecDepth 100000 in
set_option maxHeartbeats 1000000 in
theorem steps_any (s : ByteArray) (hs : s.size ≤ 1000000) (a to : Nat) (hto : to ≤ s.size) (ha : a ≤ s.size) (w : World) :
    Calls Try.prog 28 #[.string s, .int .i64 (a : Int), .int .i64 (to : Int)] w fun e w' => e = .returned (.int .i64 (stp s.data.toList a to : Nat)) ∧ w = w' := by
  have HL := Lib.hid (list_size s)
  have hsl := stp_le s.data.toList to _ a (Nat.le_refl _)
  obtain ⟨z, hz⟩ : ∃ z, z = stp s.data.toList a to := ⟨_, rfl⟩
  rw [← hz] at hsl ⊢
  have HZ := Lib.hid hz
  clear hz
  go_enter Try.func28, Try.ntmps28
  go_wp2_with fail
  go_loop [1, 7] (fun i n => ∃ k m : Nat, i = .int .i64 (k : Int) ∧ n = .int .i64 (m : Int) ∧ k ≤ s.size ∧ m ≤ k ∧ Hid (z = stp s.data.toList k to + m)) (fun i _ => s.size - (intOf i).toNat)
  case atStart => exact ⟨a, 0, rfl, rfl, by omega, by omega, HZ.out⟩
  case round =>
    obtain ⟨k, m, rfl, rfl, hk, hm, HC⟩ := hrel
    by_cases hlt : k < to
    · have hks : k < s.size := by omega
      have N := Lib.hid (fun w => next_any s (by omega) k hks w)
      have hsr := stepAt_range s.data.toList k
      have hin := step_in (L := s.data.toList) (k := k) (by rw [HL.out]; exact hks)
      rw [HL.out] at hin
      have HM := Lib.hid (@stp_more s.data.toList k to hlt)
      generalize signAt s.data.toList k = x at *
      generalize stepAt s.data.toList k = y at *
      go_wp2_with (go_at_call 11; refine (N.out _).mono ?_; rintro e w' ⟨rfl, rfl⟩)
      go_round
      case rel => exact ⟨k + y, m + 1, by go_num, by go_num, by omega, by omega, by show z = _; rw [HC.out, HM.out]; omega⟩
      case measure => simp [intOf]; omega
    · have HR := Lib.hid (stp_done (L := s.data.toList) (show to ≤ k by omega))
      go_wp2_with fail
      go_ret
      exact ⟨ret_int (by rw [HC.out, HR.out, Nat.zero_add]), rfl⟩

set_option maxRecDepth 100000 in
set_option maxHeartbeats 1000000 in
theorem count_any (s : ByteArray) (hs : s.size ≤ 1000000) (w : World) :
    Calls Try.prog 18 #[.string s] w fun e w' => e = .returned (.int .i64 (stp s.data.toList 0 s.size : Nat)) ∧ w = w' := by
  have S := Lib.hid (fun w => steps_any s hs 0 s.size (Nat.le_refl _) (Nat.zero_le _) w)
  generalize stp s.data.toList 0 s.size = z at *
  go_enter Try.func18, Try.ntmps18
  go_wp2_with (go_at_call 28; refine (S.out _).mono ?_; rintro e w' ⟨rfl, rfl⟩)
  go_ret
  exact ⟨rfl, rfl⟩

set_option maxRecDepth 100000 in
set_option maxHeartbeats 1000000 in
theorem rcount_any (s : ByteArray) (hs : s.size ≤ 1000000) (w : World) :
    Calls Try.prog 19 #[.string s] w fun e w' => e = .returned (.int .i64 (stp s.data.toList 0 s.size : Nat)) ∧ Below w.heap.size w w' := by
  have HL := Lib.hid (list_size s)
  obtain ⟨z, hz⟩ : ∃ z, z = stp s.data.toList 0 s.size := ⟨_, rfl⟩
  rw [← hz]
  have HZ := Lib.hid hz
  clear hz
  go_enter Try.func19, Try.ntmps19
  go_wp2_with fail
  go_loopw [3, 4] (fun n i wr => ∃ k m : Nat, i = .int .i64 (k : Int) ∧ n = .int .i64 (m : Int) ∧ k ≤ s.size ∧ m ≤ k ∧ Hid (z = stp s.data.toList k s.size + m) ∧ Below w.heap.size w wr) (fun _ i _ => s.size - (intOf i).toNat)
  case atStart => exact ⟨0, 0, rfl, rfl, by omega, by omega, HZ.out, Below.refl _ _⟩
  case round =>
    rename_i wr hrel
    obtain ⟨k, m, rfl, rfl, hk, hm, HC, hB⟩ := hrel
    by_cases hlt : k < s.size
    · have N := Lib.hid (fun w => rnext_any s (by omega) k hlt w)
      have hsr := stepAt_range s.data.toList k
      have hin := step_in (L := s.data.toList) (k := k) (by rw [HL.out]; exact hlt)
      rw [HL.out] at hin
      have HM := Lib.hid (@stp_more s.data.toList k s.size hlt)
      generalize signAt s.data.toList k = x at *
      generalize stepAt s.data.toList k = y at *
      go_wp2_with (go_at_call 12; refine (N.out _).mono ?_; rintro e w1 ⟨rfl, hB1⟩)
      go_roundw
      case rel => exact ⟨k + y, m + 1, by go_num, by go_num, by omega, by omega, by show z = _; rw [HC.out, HM.out]; omega, below_trans hB hB1 hB.size⟩
      case measure => simp [intOf]; omega
    · have HR := Lib.hid (stp_done (L := s.data.toList) (show s.size ≤ k by omega))
      go_wp2_with fail
      go_ret
      exact ⟨ret_int (by rw [HC.out, HR.out, Nat.zero_add]), hB⟩

set_option maxRecDepth 100000 in
set_option maxHeartbeats 1000000 in
theorem works_any (w : World) :
    Calls Try.prog 13 #[] w fun e w' => e = .returned (.bool true) ∧ Below w.heap.size w w' := by
  have P := Lib.hid (fun w => put_any 233 w)
  have N := Lib.hid (fun w => next_any ⟨#[195, 169]⟩ (by decide) 0 (by decide) w)
  rw [show putS 233 = ⟨#[195, 169]⟩ by decide +kernel, show putE 233 = 0 by decide +kernel] at P
  rw [show signAt (⟨#[195, 169]⟩ : ByteArray).data.toList 0 = 233 by decide +kernel, show stepAt (⟨#[195, 169]⟩ : ByteArray).data.toList 0 = 2 by decide +kernel] at N
  go_enter Try.func13, Try.ntmps13
  go_wp2_with (first | (go_at_call 16; refine (P.out _).mono ?_; rintro e w1 ⟨rfl, hB⟩) | (go_at_call 11; refine (N.out _).mono ?_; rintro e w2 ⟨rfl, rfl⟩))
  go_ret
  exact ⟨rfl, hB⟩
end Go.Proofs.Ytfknjkjgdadpjaa
