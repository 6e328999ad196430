/- Whole numbers up to 2^53 cut down to 32 bits: the walk of the statement. -/
import Derived.Test.YtmepgpiihhilaaaDoorExact
namespace Go.Proofs.YtmepgpiihhilaaaDoor
open Go.RowKit
set_option linter.unusedVariables false

theorem tmod_53 (n : Int) : -9007199254740992 ≤ n.tmod 9007199254740993 ∧ n.tmod 9007199254740993 ≤ 9007199254740992 := by
  by_cases h : 0 ≤ n
  · rw [Int.tmod_eq_emod_of_nonneg h]; omega
  · have := Int.neg_tmod (-n) 9007199254740993
    rw [Int.neg_neg] at this
    rw [this, Int.tmod_eq_emod_of_nonneg (by omega)]; omega

theorem wrap32_mod (m : Int) : wrap32 (m % 4294967296) = wrap32 m := by
  unfold wrap32; omega

set_option maxRecDepth 100000 in
set_option maxHeartbeats 1000000 in
theorem law_BitsWords (n : Int) (h0 : -9223372036854775808 ≤ n) (h1 : n ≤ 9223372036854775807) (w : World) (htab : tab w) :
    Calls Tryd.prog 12 #[.int .i64 n] w fun e w' => e = .returned (.bool true) ∧ Below w.heap.size w w' := by
  have hm := tmod_53 n
  obtain ⟨m0, m1⟩ := hm
  have W := Lib.hid (works_any w htab)
  have U := Lib.hid (fun w => uint32_any (ofI (n.tmod 9007199254740993)) (ofI_nonneg _) (ofI_lt _) w)
  have I := Lib.hid (fun w => int32_any (ofI (n.tmod 9007199254740993)) (ofI_nonneg _) (ofI_lt _) w)
  rw [of_uword m0 m1] at U I
  rw [wrap32_mod] at I
  clear htab
  go_enter Tryd.func12, Tryd.ntmps12
  go_wp2_with (first
    | (go_at_call 40; refine (of_any _ _).mono ?_; rintro e w' ⟨rfl, rfl⟩)
    | (go_at_call 36; refine (U.out _).mono ?_; rintro e w' ⟨rfl, rfl⟩)
    | (go_at_call 38; refine (I.out _).mono ?_; rintro e w' ⟨rfl, rfl⟩)
    | (go_at_call 25; refine W.out.mono ?_; rintro e w1 ⟨rfl, hB⟩))
  go_ret
  exact ⟨rfl, hB⟩
end Go.Proofs.YtmepgpiihhilaaaDoor
