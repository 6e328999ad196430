/- From sign to sign: Check, Count and steps, by the program and by the document's answer; the chapter's example. -/
import Derived.Test.YtcpjggcpimghjaaURnext
import Derived.LoopTactic
namespace Go.Proofs.Ytcpjggcpimghjaa
open Go.RowKit
set_option linter.unusedVariables false

theorem sign_neg (L : List UInt8) (k : Nat) : signAt L k < 0 ↔ signAt L k = -1 := by
  have := sign_range L k; omega

set_option maxRecDepth 100000 in
set_option maxHeartbeats 1000000 in
theorem check_any (s : ByteArray) (hs : s.size ≤ 1000000) (w : World) :
    Calls Try.prog 14 #[.string s] w fun e w' => e = .returned (.tuple #[.int .i64 (chkA s.data.toList), .int .i64 (chkE s.data.toList)]) ∧ w = w' := by
  have HL := Lib.hid (list_size s)
  have HA : Hid (chkA s.data.toList = match chk s.data.toList 0 with | some k => (k : Int) | none => 0) := rfl
  have HE : Hid (chkE s.data.toList = match chk s.data.toList 0 with | some _ => 4 | none => 0) := rfl
  generalize chkA s.data.toList = ca at *
  generalize chkE s.data.toList = ce at *
  go_enter Try.func14, Try.ntmps14
  go_wp2_with fail
  go_loop [2] (fun i => ∃ k : Nat, i = .int .i64 (k : Int) ∧ k ≤ s.size ∧ Hid (chk s.data.toList 0 = chk s.data.toList k)) (fun i => s.size - (intOf i).toNat)
  case atStart => exact ⟨0, rfl, by omega, rfl⟩
  case round =>
    obtain ⟨k, rfl, hk, HC⟩ := hrel
    by_cases hlt : k < s.size
    · have N := Lib.hid (fun w => next_any s (by omega) k hlt w)
      have hsr := stepAt_range s.data.toList k
      have hin := step_in (L := s.data.toList) (k := k) (by rw [HL.out]; exact hlt)
      rw [HL.out] at hin
      have HB := Lib.hid (@chk_bad s.data.toList k (by rw [HL.out]; exact hlt))
      have HM := Lib.hid (@chk_more s.data.toList k (by rw [HL.out]; exact hlt))
      have HS := Lib.hid (sign_neg s.data.toList k)
      generalize signAt s.data.toList k = x at *
      generalize stepAt s.data.toList k = y at *
      by_cases hx : x = -1
      · have hq : (x == -1) = true := by rw [hx]; rfl
        have HR := Lib.hid (HC.out.trans (HB.out (HS.out.2 hx)))
        clear hx
        go_wp2_with (go_at_call 22; refine (N.out _).mono ?_; rintro e w' ⟨rfl, rfl⟩)
        go_ret2
        exact ⟨ret_ints (by rw [HA.out, HR.out]) (by rw [HE.out, HR.out]), rfl⟩
      · have hq : (x == -1) = false := by rw [beq_eq_false_iff_ne]; exact hx
        have HR := Lib.hid (HC.out.trans (HM.out (fun h => hx (HS.out.1 h))))
        clear hx
        go_wp2_with (go_at_call 22; refine (N.out _).mono ?_; rintro e w' ⟨rfl, rfl⟩)
        go_round
        case rel => exact ⟨k + y, by go_num, by omega, HR.out⟩
        case measure => simp [intOf]; omega
    · have HR := Lib.hid (HC.out.trans (chk_done (by rw [HL.out]; omega)))
      go_wp2_with fail
      go_ret2
      exact ⟨ret_ints (by rw [HA.out, HR.out]) (by rw [HE.out, HR.out]), rfl⟩

set_option maxRecDepth 100000 in
set_option maxHeartbeats 1000000 in
theorem rcheck_any (s : ByteArray) (hs : s.size ≤ 1000000) (w : World) :
    Calls Try.prog 17 #[.string s] w fun e w' => e = .returned (.tuple #[.int .i64 (chkA s.data.toList), .int .i64 (chkE s.data.toList)]) ∧ Below w.heap.size w w' := by
  have HL := Lib.hid (list_size s)
  have HA : Hid (chkA s.data.toList = match chk s.data.toList 0 with | some k => (k : Int) | none => 0) := rfl
  have HE : Hid (chkE s.data.toList = match chk s.data.toList 0 with | some _ => 4 | none => 0) := rfl
  generalize chkA s.data.toList = ca at *
  generalize chkE s.data.toList = ce at *
  go_enter Try.func17, Try.ntmps17
  go_wp2_with fail
  go_loopw [4] (fun i wr => ∃ k : Nat, i = .int .i64 (k : Int) ∧ k ≤ s.size ∧ Hid (chk s.data.toList 0 = chk s.data.toList k) ∧ Below w.heap.size w wr) (fun i _ => s.size - (intOf i).toNat)
  case atStart => exact ⟨0, rfl, by omega, rfl, Below.refl _ _⟩
  case round =>
    rename_i wr hrel
    obtain ⟨k, rfl, hk, HC, hB⟩ := hrel
    by_cases hlt : k < s.size
    · have N := Lib.hid (fun w => rnext_any s (by omega) k hlt w)
      have hsr := stepAt_range s.data.toList k
      have hin := step_in (L := s.data.toList) (k := k) (by rw [HL.out]; exact hlt)
      rw [HL.out] at hin
      have HB := Lib.hid (@chk_bad s.data.toList k (by rw [HL.out]; exact hlt))
      have HM := Lib.hid (@chk_more s.data.toList k (by rw [HL.out]; exact hlt))
      generalize signAt s.data.toList k = x at *
      generalize stepAt s.data.toList k = y at *
      by_cases hx : x < 0
      · have HR := Lib.hid (HC.out.trans (HB.out hx))
        go_wp2_with (go_at_call 25; refine (N.out _).mono ?_; rintro e w1 ⟨rfl, hB1⟩)
        go_ret2
        exact ⟨ret_ints (by rw [HA.out, HR.out]) (by rw [HE.out, HR.out]), below_trans hB hB1 hB.size⟩
      · have HR := Lib.hid (HC.out.trans (HM.out hx))
        go_wp2_with (go_at_call 25; refine (N.out _).mono ?_; rintro e w1 ⟨rfl, hB1⟩)
        go_roundw
        case rel => exact ⟨k + y, by go_num, by omega, HR.out, below_trans hB hB1 hB.size⟩
        case measure => simp [intOf]; omega
    · have HR := Lib.hid (HC.out.trans (chk_done (by rw [HL.out]; omega)))
      go_wp2_with fail
      go_ret2
      exact ⟨ret_ints (by rw [HA.out, HR.out]) (by rw [HE.out, HR.out]), hB⟩

end Go.Proofs.Ytcpjggcpimghjaa
